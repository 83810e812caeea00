/- What a search by breadth comes to, as the program makes it. For gears and a code of them. -/
import Derived.Test.YtkmgmlgjflnbeaaMapA
import Derived.Test.YtkmgmlgjflnbeaaJoFar
import Derived.Test.YtkmgmlgjflnbeaaTurnsI
import Derived.Test.YtkmgmlgjflnbeaaStepsI
import Derived.WalkMore
namespace Go.Proofs.Ytkmgmlgjflnbeaa
open Go.ChangeShapes Go.WideShapes Go.ChangeAt Go.RowKit Go.Joins

/-- The map handed back. -/
def ArrOut (w : World) (a b : Int) (ks : List (List Int)) (s t : ByteArray) (e : Ending) (w' : World) : Prop :=
  ∃ B L, e = .returned (.map (some B)) ∧ w.heap.size ≤ B ∧ MapS w' B L ∧ L <+: allL a b ks s ∧ (L = allL a b ks s ∨ t ∈ keysE L) ∧ Below w.heap.size w w'

/-- What the search holds. -/
structure ArrSt (w wr : World) (a b : Int) (A At : Option Addr) (n c Bm : Nat) (v : Value) (L : List (Ent ByteArray)) (R : List ByteArray) : Prop where
  box : Cells wr w.heap.size 3 (bxF a b (.slice A n c))
  turns : n = 0 ∨ ∃ g, At = some ⟨g, 0, none⟩ ∧ w.heap.size < g ∧ g < Bm ∧ Cells wr g (2 * n * 2) (turnF (turnsL n))
  map : MapS wr Bm L
  q : QW wr (Bm + 1) v R
  bel : Below w.heap.size w wr

theorem ArrSt.call {w wr w2 : World} {a b : Int} {A At : Option Addr} {n c Bm : Nat} {v : Value} {L : List (Ent ByteArray)} {R : List ByteArray} (h : ArrSt w wr a b A At n c Bm v L R) (hb : Below wr.heap.size wr w2) : ArrSt w w2 a b A At n c Bm v L R :=
  ⟨h.box.call hb, h.turns.imp id fun ⟨g, e, h1, h2, h3⟩ => ⟨g, e, h1, h2, h3.call hb⟩, h.map.call hb, h.q.call hb, bel_call h.bel hb⟩

theorem ArrSt.alloc {w wr : World} {a b : Int} {A At : Option Addr} {n c Bm : Nat} {v : Value} {L : List (Ent ByteArray)} {R : List ByteArray} (h : ArrSt w wr a b A At n c Bm v L R) (o : Obj) : ArrSt w (wr.alloc o) a b A At n c Bm v L R := h.call ((Below.refl _ _).alloc (Nat.le_refl _) o)

theorem Cells.grownB {w w' : World} {g n : Nat} {f : Nat → Value} {row : Option Nat} (h : Cells w g n f) (hg : w.grownBy w' row) (hne : some g ≠ row) : Cells w' g n f := by
  have e1 := hg.block g h.lt hne
  exact ⟨Nat.lt_of_lt_of_le h.lt hg.size, fun j hj => by
    have := h.at_ j hj
    rw [World.cell?_of_block (a := ⟨g, j, none⟩) e1, World.frozen?_of_block (a := ⟨g, j, none⟩) e1]; exact this⟩

/-- The map has turned. -/
theorem ArrSt.stored {w wr w2 : World} {a b : Int} {A At : Option Addr} {n c Bm : Nat} {v : Value} {L L2 : List (Ent ByteArray)} {R : List ByteArray} (h : ArrSt w wr a b A At n c Bm v L R) (hBm : w.heap.size < Bm) (hg : wr.grownBy w2 (some Bm)) (hm : MapS w2 Bm L2) : ArrSt w w2 a b A At n c Bm v L2 R :=
  ⟨h.box.grownB hg (fun e => by injection e with e; omega), h.turns.imp id fun ⟨g, e, h1, h2, h3⟩ => ⟨g, e, h1, h2, h3.grownB hg (fun e => by injection e with e; omega)⟩, hm,
    h.q.kept hg (fun e => by have := (h.q.block Bm e).1; omega), h.bel.grown hg h.bel.size (fun j hj => by injection hj with hj; omega)⟩

/-- The queue has turned. -/
theorem ArrSt.queued {w wr w2 : World} {a b : Int} {A At : Option Addr} {n c Bm : Nat} {v v2 : Value} {L : List (Ent ByteArray)} {R R2 : List ByteArray} (h : ArrSt w wr a b A At n c Bm v L R) (hBm : w.heap.size < Bm) (hg : wr.grownBy w2 v.ownBlock) (hq : QW w2 (Bm + 1) v2 R2) : ArrSt w w2 a b A At n c Bm v2 L R2 := by
  have hb := h.q.block
  have hne : ∀ g, g ≤ Bm → some g ≠ v.ownBlock := fun g hg e => by have := (hb g e.symm).1; omega
  exact ⟨h.box.grownB hg (hne _ (by omega)), h.turns.imp id fun ⟨g, e, h1, h2, h3⟩ => ⟨g, e, h1, h2, h3.grownB hg (hne _ (by omega))⟩, h.map.kept hg (hne _ (Nat.le_refl _)), hq, h.bel.grown hg h.bel.size (fun j hj => by have := (hb j hj).1; omega)⟩

/-- How many entries a map has. -/
def mapLen (w : World) (B : Nat) : Nat := match w.heap[B]? with
  | some (.map es _) => es.size
  | _ => 0

def lenV : Value → Nat
  | .slice _ n _ => n
  | _ => 0

theorem MapS.len {w : World} {B : Nat} {L : List (Ent ByteArray)} (h : MapS w B L) : mapLen w B = L.length := by
  obtain ⟨D, ⟨es, clock, e1, F, _, rfl⟩, h2⟩ := h
  have := h2.size
  rw [Maps.size, length_sorted] at this
  unfold mapLen
  rw [e1]
  simpa using this

theorem bytes_neA {x y : ByteArray} (h : x ≠ y) : (x.toList == y.toList) = false := by
  rw [ByteArray.toList_eq, ByteArray.toList_eq]
  have : x.data.toList ≠ y.data.toList := fun e => h (bytes_inj e)
  simpa using this

theorem drop_snoc {L : List (Ent ByteArray)} {k : Nat} (hk : k ≤ L.length) (e : Ent ByteArray) : (keysE (L ++ [e])).drop k = (keysE L).drop k ++ [e.code] := by
  unfold keysE
  rw [List.map_append, List.drop_append_of_le_length (by simpa using hk)]
  rfl

theorem drop_first {L : List (Ent ByteArray)} {k : Nat} {p : Ent ByteArray} (h : L[k]? = some p) : (keysE L).drop k = p.code :: (keysE L).drop (k + 1) := by
  unfold keysE
  have hk := (List.getElem?_eq_some_iff.1 h).1
  rw [List.drop_eq_getElem_cons (by simpa using hk)]
  congr 1
  rw [List.getElem_map, (List.getElem?_eq_some_iff.1 h).2]

set_option maxRecDepth 100000 in
set_option maxHeartbeats 4000000 in
theorem arrivals_any (a b : Int) (s t : ByteArray) (A : Option Addr) (n c : Nat) (ks : List (List Int)) (w : World) (hn : n ≤ 1000) (hA : KnobsC w A n ks) (hs : askB a b s = true) (hk : KnobsB a b ks) (hM : cntN a b ≤ 1000) :
    Calls Try.prog 33 #[.agg #[.int .i64 a, .int .i64 b, .slice A n c], .string s, .string t] w (ArrOut w a b ks s t) := by
  have HA := Lib.hid hA
  have HN := Lib.hid hA.len
  have HS := Lib.hid hs
  have HK := Lib.hid hk
  obtain ⟨M, hMe⟩ : ∃ M, cntN a b = M := ⟨_, rfl⟩
  have HM := Lib.hid hMe
  rw [hMe] at hM
  have hsz : s.size ≤ maxLen := by have := (asked hs).n6; unfold maxLen; omega
  have HSZ := Lib.hid hsz
  have CU := Lib.hid (show Cells (w.alloc (.cells #[.int .i64 a, .int .i64 b, .slice A n c] 33)) w.heap.size 3 (bxF a b (.slice A n c)) from Cells.new (n := 3) rfl rfl)
  have HB0 := Lib.hid (show Below w.heap.size w (w.alloc (.cells #[.int .i64 a, .int .i64 b, .slice A n c] 33)) from (Below.refl _ _).alloc (Nat.le_refl _) _)
  have hmm := @run_makeMap Try.prog
  clear hA hs hk hMe hsz
  go_enter Try.func33, Try.ntmps33
  go_wp2_with fail
  go_step3
  go_wp2_with (first
    | (go_at_call 46; refine (turnsInOrder_any n _ hn).mono ?_; rintro e w1 ⟨At, ct, rfl, hT, hb1⟩
       have ME := Lib.hid (MapS.made w1))
    | (refine wpList_store_arr rfl _ _ _ (.inr rfl) w1.heap.size [] (entS s) ME.out HSZ.out (by simp [keysE]) (by simp) rfl rfl rfl ?_; intro w2 hm2 hg2))
  go_step3
  go_wp2_with fail
  obtain ⟨Bm, hBm⟩ : ∃ Bm, w1.heap.size = Bm := ⟨_, rfl⟩
  have hz1 : w.heap.size < Bm := by have := hb1.size; rw [World.size_alloc] at this; omega
  have hz2 : Bm + 1 ≤ w2.heap.size := by have := hg2.size; rw [World.size_alloc] at this; omega
  rw [hBm] at hm2 hg2 ⊢
  have ST0 := Lib.hid (show ArrSt w (w2.alloc (.cells #[.string s] 9)) a b A At n c Bm (.slice (some ⟨w2.heap.size, 0, none⟩) 1 1) (bfsL b ks s 0) ((keysE (bfsL b ks s 0)).drop 0) from
    ⟨(((CU.out.call hb1).alloc _).grownB hg2 (fun e => by injection e with e; omega)).alloc _,
      hT.imp id fun ⟨g, e, h1, h2⟩ => ⟨g, e, by rw [World.size_alloc] at h1; omega, by rw [← hBm]; exact h2.lt, ((h2.alloc _).grownB hg2 (fun e => by injection e with e; have := h2.lt; omega)).alloc _⟩,
      MapS.call hm2 ((Below.refl _ _).alloc (Nat.le_refl _) _), QW.one rfl hz2,
      (((bel_call HB0.out hb1).alloc (Nat.le_of_lt (by rw [hBm]; exact hz1)) _).grown hg2 (by rw [World.size_alloc]; omega) (fun j hj => by injection hj with hj; omega)).alloc (by omega) _⟩)
  clear ME hm2 hg2 hT hb1 HB0 CU hBm hmm hz2
  go_loopw [9] (fun v wr => ∃ k : Nat, k ≤ (bfsL b ks s k).length ∧ ArrSt w wr a b A At n c Bm v (bfsL b ks s k) ((keysE (bfsL b ks s k)).drop k)) (fun v wr => 2 * (M - mapLen wr Bm) + lenV v)
  case atStart => exact ⟨0, Nat.zero_le _, ST0.out⟩
  case round =>
    clear ST0
    obtain ⟨k, hk, hS⟩ := hrel
    obtain ⟨g, off, cq, hv, q1, q2, q3, q4, q5⟩ := hS.q
    subst hv
    obtain ⟨N, hNe⟩ : ∃ N, ((keysE (bfsL b ks s k)).drop k).length = N := ⟨_, rfl⟩
    have HNE : Hid ((bfsL b ks s k).length = k + N) := Lib.hid (by rw [← hNe, List.length_drop]; simp only [keysE, List.length_map]; omega)
    have HM0 := Lib.hid hS.map.len
    have HLM := Lib.hid (bfsL_length (b := b) HK.out HS.out k)
    rw [hNe] at hS q5 q3 ⊢
    have HST := Lib.hid hS
    have HQ5 := Lib.hid q5
    clear hS q4 q5 q1 q2 hNe hk
    by_cases hN0 : N = 0
    · subst hN0
      have HFIN : Hid (bfsL b ks s k = allL a b ks s) := Lib.hid (bfsL_end HK.out HS.out (by rw [HNE.out]; omega))
      go_wp2_with fail
      try rw [Exit.noGoto_ret]
      go_ret
      refine ⟨Bm, bfsL b ks s k, rfl, Nat.le_of_lt hz1, HST.out.map, ?_, .inl HFIN.out, HST.out.bel⟩
      rw [HFIN.out]
      exact List.prefix_refl _
    · have hN1 : 0 < N := Nat.pos_of_ne_zero hN0
      obtain ⟨p, hp⟩ : ∃ p, (bfsL b ks s k)[k]? = some p := ⟨_, List.getElem?_eq_getElem (by rw [HNE.out]; omega)⟩
      have HP := Lib.hid hp
      have HPA := Lib.hid ((bfsL_inv k).ask HK.out HS.out p (List.mem_of_getElem? hp))
      have o1 : wr.cell? ⟨g, off, none⟩ = some (.string p.code) := by
        have := HQ5.out 0 hN1
        rw [drop_first hp] at this
        exact this
      obtain ⟨x, hx⟩ : ∃ x, p.code = x := ⟨_, rfl⟩
      have HX := Lib.hid hx
      rw [hx] at o1 HPA
      have hwl : p.way.length ≤ 1000 := by have := (bfsL_inv (b := b) (ks := ks) (s := s) k).way_le rfl k p hp; have := HLM.out; rw [HNE.out, HM.out] at this; omega
      obtain ⟨wl, hwle⟩ : ∃ wl, p.way.length = wl := ⟨_, rfl⟩
      have HWL := Lib.hid hwle
      rw [hwle] at hwl
      have hxs : x.size ≤ maxLen := by have := (asked HPA.out).n6; unfold maxLen; omega
      have HXSZ := Lib.hid hxs
      clear hp hx hwle hN0 hxs
      go_wp2_with fail
      go_loopw [36, 9] (fun iv v wr => ∃ j : Nat, j ≤ 2 * n ∧ iv = .int .i64 j ∧ ArrSt w wr a b A At n c Bm v (rndL b ks s k p j) ((keysE (rndL b ks s k p j)).drop k)) (fun iv _ _ => 2 * n - (intOf iv).toNat)
      case atStart => exact ⟨0, Nat.zero_le _, rfl, HST.out⟩
      case round =>
        clear HST HQ5 o1
        obtain ⟨j, hj, rfl, hS⟩ := hrel
        obtain ⟨g2, off2, cq2, hv2, r1, r2, r3, r4, r5⟩ := hS.q
        subst hv2
        have hpj := rndL_get HP.out j
        have hkN : k < (rndL b ks s k p j).length := (List.getElem?_eq_some_iff.1 hpj).1
        have hinv := rndL_inv HP.out (show j ≤ 2 * ks.length by rw [HN.out]; exact hj)
        have hask := hinv.ask HK.out HS.out
        have hlen : (rndL b ks s k p j).length ≤ M := by rw [← HM.out]; exact ask_length hinv.nodup hask
        obtain ⟨N2, hN2⟩ : ∃ N2, ((keysE (rndL b ks s k p j)).drop k).length = N2 := ⟨_, rfl⟩
        have HN2 := Lib.hid hN2
        have HN3 : Hid ((rndL b ks s k p j).length = k + N2) := Lib.hid (by rw [← hN2, List.length_drop]; simp only [keysE, List.length_map]; omega)
        have hN2M : N2 ≤ M := by have := HN3.out; omega
        have HML := Lib.hid hS.map.len
        rw [hN2] at hS r3 ⊢
        have HST := Lib.hid hS
        clear r4 r5 r1 r2 hS hN2
        by_cases hlt : j < 2 * n
        · obtain ⟨gt, rfl, hgt1, hgt2, hTC⟩ := HST.out.turns.resolve_left (by omega)
          have t0 := hTC.cell (show j * 2 < 2 * n * 2 by omega)
          have t1 := hTC.cell (show j * 2 + 1 < 2 * n * 2 by omega)
          rw [turnF_0, turnsL_at hlt] at t0
          rw [turnF_1, turnsL_at hlt] at t1
          obtain ⟨q, hq⟩ : ∃ q, j / 2 = q := ⟨_, rfl⟩
          obtain ⟨bj, hbj⟩ : ∃ bj, byJ j = bj := ⟨_, rfl⟩
          have hqn : q < n := by omega
          have hbj2 : -1000 ≤ bj ∧ bj ≤ 1000 := by rw [← hbj]; unfold byJ; split <;> omega
          obtain ⟨y, hy⟩ : ∃ y, turnK b bj x (ks.getD q []) = y := ⟨_, rfl⟩
          have HY := Lib.hid hy
          have HKK := Lib.hid (HK.out q (by rw [HN.out]; exact hqn))
          have HYA : Hid (askB a b y = true) := Lib.hid (by rw [← hy]; exact turnK_ask HPA.out HKK.out)
          have HYM : Hid (mvK b ks p.code j = y) := Lib.hid (by unfold mvK; rw [hq, hbj, HX.out]; exact hy)
          have hys : y.size ≤ maxLen := by have := (asked HYA.out).n6; unfold maxLen; omega
          have HYS := Lib.hid hys
          have HNX : Hid ((y ∈ keysE (rndL b ks s k p j) → rndL b ks s k p (j + 1) = rndL b ks s k p j) ∧ (¬ y ∈ keysE (rndL b ks s k p j) → rndL b ks s k p (j + 1) = rndL b ks s k p j ++ [⟨y, x, j :: p.way⟩])) := Lib.hid (by
            rw [← HYM.out, ← HX.out]
            exact ⟨fun h => by rw [rndL_succ]; exact addE_in h, fun h => by rw [rndL_succ]; exact addE_out h⟩)
          have HPR := Lib.hid (rndL_pre HK.out HS.out HP.out (show j + 1 ≤ 2 * ks.length by rw [HN.out]; omega))
          have HPM : Hid (p ∈ rndL b ks s k p j) := Lib.hid (List.mem_of_getElem? hpj)
          have HAV : Hid (arrV ⟨y, x, j :: p.way⟩ = .agg #[.string x, .int .i64 (q : Int), .int .i64 bj, .int .i64 ((wl : Int) + 1)]) := Lib.hid (by rw [arrV_new, hq, hbj, HWL.out])
          rw [hq] at t0
          rw [hbj] at t1
          have l0 : (wr.alloc (.cells #[.int .i64 (q : Int), .int .i64 bj] 51)).cell? ⟨w.heap.size, 0, none⟩ = some (.int .i64 a) := (HST.out.box.alloc _).cell (show 0 < 3 by omega)
          have l1 : (wr.alloc (.cells #[.int .i64 (q : Int), .int .i64 bj] 51)).cell? ⟨w.heap.size, 1, none⟩ = some (.int .i64 b) := (HST.out.box.alloc _).cell (show 1 < 3 by omega)
          have l2 : (wr.alloc (.cells #[.int .i64 (q : Int), .int .i64 bj] 51)).cell? ⟨w.heap.size, 2, none⟩ = some (.slice A n c) := (HST.out.box.alloc _).cell (show 2 < 3 by omega)
          have HA1 := Lib.hid (HA.out.below (HST.out.bel.alloc HST.out.bel.size (.cells #[.int .i64 (q : Int), .int .i64 bj] 51)))
          clear hpj hinv hask hTC hq hbj hy hys
          generalize rndL b ks s k p j = L at HST HN3 HNX HPM hkN hlen HML HN2
          by_cases hin : y ∈ keysE L
          · have HL2 := Lib.hid (HNX.out.1 hin)
            obtain ⟨e0, he0, hec⟩ := mem_keysE.1 hin
            have HE0 := Lib.hid he0
            have HEC := Lib.hid hec
            clear hin he0 hec
            go_wp2_with (go_at_call 20; refine (codeBehind_any _ _ _ _ _ _ _ _ ks _ hqn HA1.out HPA.out HKK.out hbj2).mono ?_; rw [HY.out]; rintro e w3 ⟨rfl, hb3⟩
                         have ST3 := Lib.hid ((HST.out.alloc (.cells #[.int .i64 (q : Int), .int .i64 bj] 51)).call hb3)
                         have hlk : (Instr.lookup 48 (.map (some Bm)) (.string y) true).run Try.prog w3 = .ok (.tuple #[.agg #[.string e0.before, .int .i64 (lastW e0), .int .i64 (lastB e0), .int .i64 (e0.way.length : Int)], .bool true]) w3 := (by have := ST3.out.map.look_ok HE0.out (by rw [HEC.out]; exact HYS.out); rw [HEC.out] at this; exact this)
                         clear hb3)
            go_roundw
            case rel => exact ⟨j + 1, by omega, by go_num, by rw [HL2.out]; exact ST3.out.alloc _⟩
            case measure => simp [intOf]; omega
          · have HIN := Lib.hid hin
            have HL2 := Lib.hid (HNX.out.2 hin)
            clear hin
            have hf2 := fun W => field_two p.before (lastW p) (lastB p) (wl : Int) W
            by_cases hyt : y = t
            · subst hyt
              go_wp2_with (first
                | (go_at_call 20; refine (codeBehind_any _ _ _ _ _ _ _ _ ks _ hqn HA1.out HPA.out HKK.out hbj2).mono ?_; rw [HY.out]; rintro e w3 ⟨rfl, hb3⟩
                   have ST3 := Lib.hid ((HST.out.alloc (.cells #[.int .i64 (q : Int), .int .i64 bj] 51)).call hb3)
                   have hlk : (Instr.lookup 48 (.map (some Bm)) (.string y) true).run Try.prog w3 = .ok (.tuple #[.agg #[.string ByteArray.empty, .int .i64 0, .int .i64 0, .int .i64 0], .bool false]) w3 := ST3.out.map.look_no HIN.out HYS.out
                   have CT := Lib.hid (((show Cells (wr.alloc (.cells #[.int .i64 (q : Int), .int .i64 bj] 51)) wr.heap.size 2 _ from Cells.new (n := 2) rfl rfl).call hb3).alloc (.cells #[.string ByteArray.empty, .int .i64 0, .int .i64 0, .int .i64 0] 53))
                   have c0 : (w3.alloc (.cells #[.string ByteArray.empty, .int .i64 0, .int .i64 0, .int .i64 0] 53)).cell? ⟨wr.heap.size, 0, none⟩ = some (.int .i64 (q : Int)) := CT.out.cell (show 0 < 2 by omega)
                   have c1 : (w3.alloc (.cells #[.string ByteArray.empty, .int .i64 0, .int .i64 0, .int .i64 0] 53)).cell? ⟨wr.heap.size, 1, none⟩ = some (.int .i64 bj) := CT.out.cell (show 1 < 2 by omega)
                   have ST4 := Lib.hid (ST3.out.alloc (.cells #[.string ByteArray.empty, .int .i64 0, .int .i64 0, .int .i64 0] 53))
                   have hl2 : (Instr.lookup 48 (.map (some Bm)) (.string x) false).run Try.prog (w3.alloc (.cells #[.string ByteArray.empty, .int .i64 0, .int .i64 0, .int .i64 0] 53)) = .ok (.agg #[.string p.before, .int .i64 (lastW p), .int .i64 (lastB p), .int .i64 (wl : Int)]) (w3.alloc (.cells #[.string ByteArray.empty, .int .i64 0, .int .i64 0, .int .i64 0] 53)) := (by have := ST4.out.map.look HPM.out (by rw [HX.out]; exact HXSZ.out); rw [HX.out] at this; rw [this]; unfold arrV arrU; rw [HWL.out])
                   clear hb3)
                | (refine wpList_store_arr rfl _ _ _ (.inl rfl) Bm L ⟨y, x, j :: p.way⟩ ST4.out.map HYS.out HIN.out (by omega) rfl rfl ((show _ = Value.agg #[.string x, .int .i64 (q : Int), .int .i64 bj, .int .i64 ((wl : Int) + 1)] from rfl).trans HAV.out.symm) ?_; intro w5 hm5 hg5; have ST5 := Lib.hid (ST4.out.stored hz1 hg5 hm5); clear hm5 hg5))
              try rw [Exit.noGoto_ret]
              go_ret
              refine ⟨Bm, L ++ [⟨y, x, j :: p.way⟩], rfl, Nat.le_of_lt hz1, ST5.out.map, ?_, .inr ?_, ST5.out.bel⟩
              · rw [← HL2.out]; exact HPR.out
              · rw [mem_keysE]
                exact ⟨_, List.mem_append_right _ (List.mem_singleton.2 rfl), rfl⟩
            · have hne := bytes_neA hyt
              clear hyt
              go_wp2_with (first
                | (go_at_call 20; refine (codeBehind_any _ _ _ _ _ _ _ _ ks _ hqn HA1.out HPA.out HKK.out hbj2).mono ?_; rw [HY.out]; rintro e w3 ⟨rfl, hb3⟩
                   have ST3 := Lib.hid ((HST.out.alloc (.cells #[.int .i64 (q : Int), .int .i64 bj] 51)).call hb3)
                   have hlk : (Instr.lookup 48 (.map (some Bm)) (.string y) true).run Try.prog w3 = .ok (.tuple #[.agg #[.string ByteArray.empty, .int .i64 0, .int .i64 0, .int .i64 0], .bool false]) w3 := ST3.out.map.look_no HIN.out HYS.out
                   have CT := Lib.hid (((show Cells (wr.alloc (.cells #[.int .i64 (q : Int), .int .i64 bj] 51)) wr.heap.size 2 _ from Cells.new (n := 2) rfl rfl).call hb3).alloc (.cells #[.string ByteArray.empty, .int .i64 0, .int .i64 0, .int .i64 0] 53))
                   have c0 : (w3.alloc (.cells #[.string ByteArray.empty, .int .i64 0, .int .i64 0, .int .i64 0] 53)).cell? ⟨wr.heap.size, 0, none⟩ = some (.int .i64 (q : Int)) := CT.out.cell (show 0 < 2 by omega)
                   have c1 : (w3.alloc (.cells #[.string ByteArray.empty, .int .i64 0, .int .i64 0, .int .i64 0] 53)).cell? ⟨wr.heap.size, 1, none⟩ = some (.int .i64 bj) := CT.out.cell (show 1 < 2 by omega)
                   have ST4 := Lib.hid (ST3.out.alloc (.cells #[.string ByteArray.empty, .int .i64 0, .int .i64 0, .int .i64 0] 53))
                   have hl2 : (Instr.lookup 48 (.map (some Bm)) (.string x) false).run Try.prog (w3.alloc (.cells #[.string ByteArray.empty, .int .i64 0, .int .i64 0, .int .i64 0] 53)) = .ok (.agg #[.string p.before, .int .i64 (lastW p), .int .i64 (lastB p), .int .i64 (wl : Int)]) (w3.alloc (.cells #[.string ByteArray.empty, .int .i64 0, .int .i64 0, .int .i64 0] 53)) := (by have := ST4.out.map.look HPM.out (by rw [HX.out]; exact HXSZ.out); rw [HX.out] at this; rw [this]; unfold arrV arrU; rw [HWL.out])
                   clear hb3)
                | (refine wpList_store_arr rfl _ _ _ (.inl rfl) Bm L ⟨y, x, j :: p.way⟩ ST4.out.map HYS.out HIN.out (by omega) rfl rfl ((show _ = Value.agg #[.string x, .int .i64 (q : Int), .int .i64 bj, .int .i64 ((wl : Int) + 1)] from rfl).trans HAV.out.symm) ?_; intro w5 hm5 hg5; have ST5 := Lib.hid (ST4.out.stored hz1 hg5 hm5); have hz5 : Bm < w5.heap.size := ST5.out.map.lt; clear hm5 hg5)
                | (at_builtin; refine wpList_append_qw rfl _ _ rfl (Bm + 1) w5.heap.size _ _ y rfl (ST5.out.alloc (.cells #[.string y] 9)).q (by rw [HN2.out]; omega) rfl (cells_tx rfl) (by rw [World.size_alloc]; omega) ?_; intro v7 w7 hq7 hg7 hblk7))
              have ST7 := Lib.hid ((ST5.out.alloc (.cells #[.string y] 9)).queued hz1 hg7 hq7)
              clear hq7 hg7 hblk7
              go_wp2_with fail
              go_roundw
              case rel => exact ⟨j + 1, by omega, by go_num, by rw [HL2.out, drop_snoc (Nat.le_of_lt hkN)]; exact ST7.out⟩
              case measure => simp [intOf]; omega
        · obtain rfl : j = 2 * n := by omega
          have hRL : Hid (rndL b ks s k p (2 * n) = bfsL b ks s (k + 1)) := Lib.hid (by rw [← rndL_end HP.out, HN.out])
          have HGT : Hid ((bfsL b ks s (k + 1))[k]? = some p) := Lib.hid (by rw [← hRL.out]; exact hpj)
          rw [hRL.out] at HST HN3 HN2
          have hN21 : 1 ≤ N2 := by have := HN3.out; rw [hRL.out] at hkN; omega
          clear hpj hkN hinv hask hlen
          go_wp2_with fail
          go_roundw
          case rel =>
            refine ⟨k + 1, by have := HN3.out; omega, ?_⟩
            have hq := HST.out.q
            obtain ⟨N3, rfl⟩ : ∃ N3, N2 = N3 + 1 := ⟨N2 - 1, by omega⟩
            have hdr := drop_first HGT.out
            have hl3 : ((keysE (bfsL b ks s (k + 1))).drop (k + 1)).length = N3 := by
              have := congrArg List.length hdr
              rw [HN2.out, List.length_cons] at this
              omega
            rw [hdr] at hq
            have hq2 := QW.tail (R := (keysE (bfsL b ks s (k + 1))).drop (k + 1)) (A := if cq2 = 1 then some ⟨g2, off2, none⟩ else some ⟨g2, off2 + 1, none⟩) (by rw [hl3]; exact hq) rfl
            rw [hl3] at hq2
            exact ⟨HST.out.box, HST.out.turns, HST.out.map, hq2, HST.out.bel⟩
          case measure =>
            have h1 := HML.out
            have h2 := HM0.out
            have h3 := HN3.out
            have h4 := HNE.out
            rw [hRL.out] at h1
            rw [h1, h2, h3, h4]
            simp only [lenV]
            have h5 := bfsL_length (b := b) (ks := ks) HK.out HS.out (k + 1)
            have h6 : (bfsL b ks s k).length ≤ (bfsL b ks s (k + 1)).length := (bfsE_pre (mvK b ks) (2 * ks.length) (entS s) k).length_le
            rw [HM.out, h3] at h5
            rw [h3, h4] at h6
            omega

end Go.Proofs.Ytkmgmlgjflnbeaa

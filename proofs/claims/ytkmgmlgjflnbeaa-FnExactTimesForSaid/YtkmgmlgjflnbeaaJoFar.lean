/- How many turns of knobs each code needs, as the model searches by breadth. For gears and a code of them. -/
import Derived.Test.YtkmgmlgjflnbeaaFarL
import Derived.Test.YtkmgmlgjflnbeaaQueue
namespace Go.Proofs.Ytkmgmlgjflnbeaa
open Go.ChangeShapes Go.WideShapes Go.ChangeAt Go.RowKit Go.Joins

def bxF (a b : Int) (v : Value) (j : Nat) : Value := (#[.int .i64 a, .int .i64 b, v] : Array Value).toList.getD j undef

/-- What the search holds. -/
structure FarSt (w wr : World) (a b : Int) (A : Option Addr) (n c gf : Nat) (v : Value) (L : List (Ent ByteArray)) : Prop where
  box : Cells wr w.heap.size 3 (bxF a b (.slice A n c))
  far : Cells wr gf (cntN a b) (fun i => .int .i64 (farV a b L i))
  q : QW wr (gf + 1) v (keysE L)
  bel : Below w.heap.size w wr

theorem FarSt.call {w wr w2 : World} {a b : Int} {A : Option Addr} {n c gf : Nat} {v : Value} {L : List (Ent ByteArray)} (h : FarSt w wr a b A n c gf v L) (hb : Below wr.heap.size wr w2) : FarSt w w2 a b A n c gf v L :=
  ⟨h.box.call hb, h.far.call hb, h.q.call hb, bel_call h.bel hb⟩

theorem FarSt.set {w wr : World} {a b : Int} {A : Option Addr} {n c gf : Nat} {v : Value} {L : List (Ent ByteArray)} (h : FarSt w wr a b A n c gf v L) (hgf : w.heap.size < gf) {e : Ent ByteArray} (ha : AskL a b L) (he : askB a b e.code = true) (hn : ¬ e.code ∈ keysE L) {w2 : World} {v2 : Value}
    (hq : QW w2 (gf + 1) v2 (keysE (L ++ [e]))) {X : Nat} (hX : X = nmN a b e.code) {z : Int} (hz : z = (e.way.length : Int)) (hg : ((wr.setCell ⟨gf, X, none⟩ (.int .i64 z)).alloc (.cells #[.string e.code] 9)).grownBy w2 v.ownBlock) : FarSt w w2 a b A n c gf v2 (L ++ [e]) := by
  have hb := h.q.block
  have h1 : some w.heap.size ≠ v.ownBlock ∧ some gf ≠ v.ownBlock := by
    rcases hv : v.ownBlock with _ | g
    · exact ⟨by simp, by simp⟩
    · have := hb g hv
      exact ⟨fun e => by injection e with e; omega, fun e => by injection e with e; omega⟩
  have kept : ∀ {g m : Nat} {f : Nat → Value}, some g ≠ v.ownBlock → Cells (wr.setCell ⟨gf, X, none⟩ (.int .i64 z)) g m f → Cells w2 g m f := fun {g m f} hne hC => by
    have hC2 := hC.alloc (.cells #[.string e.code] 9)
    have e1 := hg.block g hC2.lt hne
    exact ⟨Nat.lt_of_lt_of_le hC2.lt hg.size, fun j hj => by
      have := hC2.at_ j hj
      rw [World.cell?_of_block (a := ⟨g, j, none⟩) e1, World.frozen?_of_block (a := ⟨g, j, none⟩) e1]; exact this⟩
  refine ⟨kept h1.1 (h.box.far (show gf ≠ w.heap.size by omega) _), kept h1.2 ((h.far.set_ (k := X) (by rw [hX]; exact nmN_lt he) _).congr fun j hj => ?_), hq, ?_⟩
  · rw [farV_snoc ha he hn, hX]
    by_cases e : j = nmN a b e.code
    · rw [if_pos e, if_pos e, hz]
    · rw [if_neg e, if_neg e]
  · refine ((h.bel.setCell (show w.heap.size ≤ gf by omega) (p := ⟨gf, X, none⟩) _).alloc (by rw [size_setCell]; exact h.bel.size) _).grown hg ?_ (fun j hj => ?_)
    · rw [World.size_alloc, size_setCell]; exact Nat.le_succ_of_le h.bel.size
    · have := hb j hj; omega

theorem QW.one {W : World} {B g : Nat} {x : ByteArray} {t : TypeId} (hg : g = W.heap.size) (hB : B ≤ W.heap.size) : QW (W.alloc (.cells #[.string x] t)) B (.slice (some ⟨g, 0, none⟩) 1 1) [x] := by
  subst hg
  have key : ∀ j, j < 1 → (W.alloc (.cells #[.string x] t)).cell? ⟨W.heap.size, 0 + j, none⟩ = some (txF [x] j) ∧ (W.alloc (.cells #[.string x] t)).frozen? ⟨W.heap.size, 0 + j, none⟩ = false := fun j hj => by
    obtain rfl : j = 0 := by omega
    rw [World.cell?_alloc_new, World.frozen?_alloc_new]
    exact ⟨rfl, rfl⟩
  exact ⟨W.heap.size, 0, 1, rfl, hB, by rw [World.size_alloc]; exact Nat.lt_succ_self _, Nat.le_refl _, fun j hj => ⟨by rw [(key j hj).1]; rfl, (key j hj).2⟩, fun j hj => (key j hj).1⟩

theorem farV_one {a b : Int} {s : ByteArray} (hs : askB a b s = true) (i : Nat) : farV a b [entS s] i = if i = nmN a b s then 0 else -1 := by
  have := farV_snoc (L := []) (e := entS s) (fun _ h => by cases h) hs (by simp [keysE]) i
  simp only [List.nil_append] at this
  rw [this]
  rfl

theorem sl_short : ∀ {u v : List Nat}, u.length < v.length → sl u v
  | [], [], h => by simp at h
  | [], _ :: _, _ => trivial
  | _ :: _, [], h => by simp at h
  | _ :: u, _ :: v, h => .inl (sl_short (by simpa using h))

theorem InvE.way_le {α : Type} {mv : α → Nat → α} {m : Nat} {s : Ent α} {k j : Nat} {L : List (Ent α)} (h : InvE mv m s k j L) (hs : s.way = []) (i : Nat) : ∀ p, L[i]? = some p → p.way.length ≤ i := by
  induction i using Nat.strongRecOn with
  | ind i ih =>
    intro p hp
    obtain ⟨hi, e1⟩ := List.getElem?_eq_some_iff.1 hp
    rcases h.back p (List.mem_of_getElem? hp) with rfl | ⟨k', j', q, hq, _, hw, _⟩
    · rw [hs]; exact Nat.zero_le _
    · obtain ⟨hk', e2⟩ := List.getElem?_eq_some_iff.1 hq
      have hlt : k' < i := by
        rcases Nat.lt_trichotomy k' i with h1 | h1 | h1
        · exact h1
        · subst h1
          rw [e1] at e2
          have := congrArg (fun e => e.way.length) e2
          simp only [hw, List.length_cons] at this
          omega
        · have := List.pairwise_iff_getElem.1 h.srt i k' hi hk' h1
          rw [e1, e2] at this
          have := sl_len this
          rw [hw, List.length_cons] at this
          omega
      have := ih k' hlt q hq
      rw [hw, List.length_cons]
      omega

theorem cells_tx {W : World} {x : ByteArray} {t : TypeId} {g : Nat} (hg : g = W.heap.size) : Cells (W.alloc (.cells #[.string x] t)) g 1 (fun _ => .string x) := by
  subst hg
  refine ⟨by simp, fun j hj => ?_⟩
  rw [World.cell?_alloc_new, World.frozen?_alloc_new]
  obtain rfl : j = 0 := by omega
  exact ⟨rfl, rfl⟩

theorem keys_get {L : List (Ent ByteArray)} {k : Nat} {p : Ent ByteArray} (h : L[k]? = some p) : txF (keysE L) k = .string p.code := by
  unfold txF keysE
  simp [List.getD, List.getElem?_map, h]

theorem mvK_two {b : Int} {ks : List (List Int)} {s : ByteArray} {k t : Nat} (ht : t < 2) : mvK b ks s (2 * k + t) = turnK b (1 - 2 * (t : Int)) s (ks.getD k []) := by
  unfold mvK byJ
  rw [show (2 * k + t) / 2 = k by omega]
  rcases (show t = 0 ∨ t = 1 by omega) with rfl | rfl
  · rw [if_pos (by omega)]; rfl
  · rw [if_neg (by omega)]; rfl

set_option maxRecDepth 100000 in
set_option maxHeartbeats 4000000 in
theorem joFar_any (a b : Int) (s : ByteArray) (A : Option Addr) (n c : Nat) (ks : List (List Int)) (w : World) (hn : n ≤ 1000) (hA : KnobsC w A n ks) (hs : askB a b s = true) (hk : KnobsB a b ks) (hM : cntN a b ≤ 1000) :
    Calls Try.prog 28 #[.agg #[.int .i64 a, .int .i64 b, .slice A n c], .string s] w fun e w' => ∃ g, e = .returned (.slice (some ⟨g, 0, none⟩) (cntN a b) (cntN a b)) ∧ w.heap.size ≤ g ∧ Cells w' g (cntN a b) (fun i => .int .i64 (farV a b (allL a b ks s) i)) ∧ Below w.heap.size w w' := by
  have HA := Lib.hid hA
  have HN := Lib.hid hA.len
  have HS := Lib.hid hs
  have HK := Lib.hid hk
  have HG := Lib.hid (asked hs).good
  obtain ⟨M, hMe⟩ : ∃ M, cntN a b = M := ⟨_, rfl⟩
  have HM := Lib.hid hMe
  obtain ⟨an, hae⟩ : ∃ an : Nat, a = an := ⟨a.toNat, by have := good_yes (asked hs).good; omega⟩
  subst hae
  have HPW : Hid (pw b an = (M : Int)) := Lib.hid (by
    have h1 := good_yes (asked hs).good
    have := pw_bd6 h1.2.2.1 h1.2.2.2 (k := an) (by omega)
    rw [← hMe]; unfold cntN; rw [Int.toNat_natCast, Int.toNat_of_nonneg (by omega)])
  have hNS := nmN_lt hs
  have HNM := Lib.hid (nmN_cast hs)
  rw [hMe] at hM hNS
  have CU := Lib.hid (show Cells (w.alloc (.cells #[.int .i64 (an : Int), .int .i64 b, .slice A n c] 33)) w.heap.size 3 (bxF an b (.slice A n c)) from Cells.new (n := 3) rfl rfl)
  have HB0 := Lib.hid (show Below w.heap.size w (w.alloc (.cells #[.int .i64 (an : Int), .int .i64 b, .slice A n c] 33)) from (Below.refl _ _).alloc (Nat.le_refl _) _)
  have hmk := make_intsN M (by omega)
  clear hA hs hk hMe
  go_enter Try.func28, Try.ntmps28
  go_wp2_with (go_at_call 42; refine (whCount_any _ _ _ HG.out).mono ?_; rw [HPW.out]; rintro e w1 ⟨rfl, hb1⟩)
  obtain ⟨gf, hgf⟩ : ∃ gf, w1.heap.size = gf := ⟨_, rfl⟩
  have hgf2 : w.heap.size < gf := by have := hb1.size; rw [World.size_alloc] at this; omega
  have CF := Lib.hid (Cells.made w1 (.int .i64 0) M 3)
  have CU1 := Lib.hid ((CU.out.call hb1).alloc (.cells (madeCells #[.int .i64 0] M) 3))
  have HB1 := Lib.hid ((bel_call HB0.out hb1).alloc (bel_call HB0.out hb1).size (.cells (madeCells #[.int .i64 0] M) 3))
  rw [hgf] at CF ⊢
  clear hb1 hmk CU HB0
  go_loopw [20] (fun i wr => ∃ k : Nat, k ≤ M ∧ i = .int .i64 k ∧ Cells wr w.heap.size 3 (bxF an b (.slice A n c)) ∧ Cells wr gf M (fun j => if j < k then .int .i64 (-1) else .int .i64 0) ∧ Below w.heap.size w wr) (fun i _ => M - (intOf i).toNat)
  case atStart => exact ⟨0, by omega, rfl, CU1.out, CF.out.congr fun j _ => by rw [if_neg (by omega)], HB1.out⟩
  case round =>
    clear CU1 CF HB1
    obtain ⟨k, hk, rfl, hU, hF, hB⟩ := hrel
    have HU := Lib.hid hU
    have HF := Lib.hid hF
    have HB := Lib.hid hB
    clear hU hF hB
    by_cases hlt : k < M
    · have s1 := HF.out.cell hlt
      have s2 := HF.out.frozen hlt
      rw [if_neg (Nat.lt_irrefl k)] at s1
      go_wp2_with fail
      go_roundw
      case rel =>
        refine ⟨k + 1, by omega, by go_num, HU.out.far (show gf ≠ w.heap.size by omega) _, (HF.out.set_ hlt _).congr fun j _ => ?_, HB.out.setCell (show w.heap.size ≤ gf by omega) _⟩
        by_cases hj : j = k
        · subst hj
          rw [if_pos rfl, if_pos (by omega)]
        · rw [if_neg hj]
          by_cases h2 : j < k
          · rw [if_pos h2, if_pos (by omega)]
          · rw [if_neg h2, if_neg (by omega)]
      case measure => simp [intOf]; omega
    · obtain rfl : M = k := by omega
      have l0 : wr.cell? ⟨w.heap.size, 0, none⟩ = some (.int .i64 (an : Int)) := HU.out.cell (show 0 < 3 by omega)
      have l1 : wr.cell? ⟨w.heap.size, 1, none⟩ = some (.int .i64 b) := HU.out.cell (show 1 < 3 by omega)
      have HFM := Lib.hid (HF.out.congr (f' := fun _ => .int .i64 (-1)) fun j hj => by rw [if_pos hj])
      obtain ⟨ns, hns⟩ : ∃ ns, nmN an b s = ns := ⟨_, rfl⟩
      have HNS := Lib.hid hns
      have HNV : Hid (numZ an b s = (ns : Int)) := Lib.hid (by rw [← hns]; exact HNM.out.symm)
      rw [hns] at hNS
      clear hns
      go_wp2_with (go_at_call 29; refine (whNumber_any _ _ _ _ HS.out).mono ?_; rw [HNV.out]; rintro e w2 ⟨rfl, hb2⟩
                   have p1 := (HFM.out.call hb2).cell hNS
                   have p2 := (HFM.out.call hb2).frozen hNS)
      have hgf3 : gf < w2.heap.size := Nat.lt_of_lt_of_le HFM.out.lt hb2.size
      have ST0 := Lib.hid (show FarSt w ((w2.setCell ⟨gf, ns, none⟩ (.int .i64 0)).alloc (.cells #[.string s] 9)) an b A n c gf (.slice (some ⟨w2.heap.size, 0, none⟩) 1 1) (bfsL b ks s 0) from
        ⟨((HU.out.call hb2).far (show gf ≠ w.heap.size by omega) _).alloc _, (((HFM.out.call hb2).set_ hNS (.int .i64 0)).alloc _).sub (by rw [HM.out]; exact Nat.le_refl _) |>.congr fun j _ => by
          rw [show bfsL b ks s 0 = [entS s] from rfl, farV_one HS.out, HNS.out]
          by_cases h : j = ns
          · rw [if_pos h, if_pos h]
          · rw [if_neg h, if_neg h],
        QW.one (by rw [size_setCell]) (by rw [size_setCell]; omega), ((bel_call HB.out hb2).setCell (show w.heap.size ≤ gf by omega) _).alloc (by rw [size_setCell]; exact Nat.le_trans HB.out.size hb2.size) _⟩)
      clear p1 p2 hb2 HF HFM HU HB l0 l1 hgf3 hlt hk
      go_loopw [8, 7] (fun kv v wr => ∃ k : Nat, kv = .int .i64 k ∧ k ≤ (bfsL b ks s k).length ∧ FarSt w wr an b A n c gf v (bfsL b ks s k)) (fun kv _ _ => M - (intOf kv).toNat)
      case atStart => exact ⟨0, rfl, Nat.zero_le _, ST0.out⟩
      case round =>
        clear ST0
        obtain ⟨k, rfl, hk, hS⟩ := hrel
        obtain ⟨g, off, cq, rfl, q1, q2, q3, q4, q5⟩ := hS.q
        obtain ⟨N, hNe⟩ : ∃ N, (keysE (bfsL b ks s k)).length = N := ⟨_, rfl⟩
        have hNe2 : (bfsL b ks s k).length = N := by rw [← hNe]; simp [keysE]
        have HNE := Lib.hid hNe2
        have hNM : N ≤ M := by rw [← hNe2, ← HM.out]; exact bfsL_length HK.out HS.out k
        have Q5 := Lib.hid q5
        rw [hNe] at hS Q5 ⊢
        rw [hNe2] at hk
        have HST := Lib.hid hS
        clear hS q4 q5 hNe hNe2 q1 q2 q3
        by_cases hlt : k < N
        · have hkl : k < (bfsL b ks s k).length := by rw [HNE.out]; exact hlt
          obtain ⟨p, hp⟩ : ∃ p, (bfsL b ks s k)[k]? = some p := ⟨_, List.getElem?_eq_getElem hkl⟩
          have HP := Lib.hid hp
          have HPA := Lib.hid ((bfsL_inv k).ask HK.out HS.out p (List.mem_of_getElem? hp))
          have o1 : wr.cell? ⟨g, off + k, none⟩ = some (.string p.code) := by rw [Q5.out k hlt, keys_get hp]
          have hpn := nmN_lt HPA.out
          rw [HM.out] at hpn
          obtain ⟨pn, hpne⟩ : ∃ pn, nmN an b p.code = pn := ⟨_, rfl⟩
          have HPN : Hid (numZ an b p.code = (pn : Int)) := Lib.hid (by rw [← hpne]; exact (nmN_cast HPA.out).symm)
          have HFV : Hid (farV an b (bfsL b ks s k) pn = p.way.length) := Lib.hid (by rw [← hpne]; exact farV_mem (bfsL_inv k).nodup ((bfsL_inv k).ask HK.out HS.out) (List.mem_of_getElem? hp))
          rw [hpne] at hpn
          have l0 : wr.cell? ⟨w.heap.size, 0, none⟩ = some (.int .i64 (an : Int)) := HST.out.box.cell (show 0 < 3 by omega)
          have l1 : wr.cell? ⟨w.heap.size, 1, none⟩ = some (.int .i64 b) := HST.out.box.cell (show 1 < 3 by omega)
          obtain ⟨x, hx⟩ : ∃ x, p.code = x := ⟨_, rfl⟩
          have HX := Lib.hid hx
          rw [hx] at o1 HPA HPN
          have hwl : p.way.length ≤ 1000 := by have := (bfsL_inv (b := b) (ks := ks) (s := s) k).way_le rfl k p hp; omega
          obtain ⟨wl, hwle⟩ : ∃ wl, p.way.length = wl := ⟨_, rfl⟩
          have HWL := Lib.hid hwle
          rw [hwle] at HFV hwl
          clear hp hx hpne hwle
          go_wp2_with fail
          go_region_with (go_at_call 29; refine (whNumber_any _ _ _ _ HPA.out).mono ?_; rw [HPN.out]; rintro e w3 ⟨rfl, hb3⟩; have hb4 := Lib.hid (below_undrew hb3); have z1 := (HST.out.far.call hb4.out).cell (show pn < _ by rw [HM.out]; exact hpn); rw [HFV.out] at z1)
          all_goals
            have ST1 := Lib.hid (HST.out.call hb4.out)
            have l2 : w3.cell? ⟨w.heap.size, 2, none⟩ = some (.slice A n c) := ST1.out.box.cell (show 2 < 3 by omega)
            clear hb3 hb4 z1 l0 l1 o1 Q5 HST
            go_wp2_with fail
            clear l2
            go_loopw [54, 7] (fun iv v wr => ∃ kk : Nat, kk ≤ n ∧ iv = .int .i64 kk ∧ FarSt w wr an b A n c gf v (rndL b ks s k p (2 * kk))) (fun iv _ _ => n - (intOf iv).toNat)
            case atStart => exact ⟨0, Nat.zero_le _, rfl, ST1.out⟩
            case round =>
              clear ST1
              obtain ⟨kk, hkk, rfl, hS⟩ := hrel
              have HST := Lib.hid hS
              clear hS
              by_cases hkl : kk < n
              · have HKK := Lib.hid (HK.out kk (by rw [HN.out]; exact hkl))
                go_wp2_with fail
                go_loopw [11, 7] (fun bv v wr => ∃ t : Nat, t ≤ 2 ∧ bv = .int .i64 (1 - 2 * (t : Int)) ∧ FarSt w wr an b A n c gf v (rndL b ks s k p (2 * kk + t))) (fun bv _ _ => (intOf bv + 3).toNat)
                case atStart => exact ⟨0, by omega, rfl, HST.out⟩
                case round =>
                  clear HST
                  obtain ⟨t, ht, rfl, hS⟩ := hrel
                  obtain ⟨g2, off2, cq2, hv2, r1, r2, r3, r4, r5⟩ := hS.q
                  subst hv2
                  obtain ⟨N2, hN2⟩ : ∃ N2, (keysE (rndL b ks s k p (2 * kk + t))).length = N2 := ⟨_, rfl⟩
                  have HN2 := Lib.hid hN2
                  rw [hN2] at hS ⊢
                  have HST := Lib.hid hS
                  have HR5 := Lib.hid r5
                  clear r4 r5 r1 r2 r3 hS
                  by_cases htl : t < 2
                  · have hpj := rndL_get HP.out (2 * kk + t)
                    have hkN : k < (rndL b ks s k p (2 * kk + t)).length := (List.getElem?_eq_some_iff.1 hpj).1
                    have hinv := rndL_inv HP.out (show 2 * kk + t ≤ 2 * ks.length by rw [HN.out]; omega)
                    have hask := hinv.ask HK.out HS.out
                    have o1 : wr.cell? ⟨g2, off2 + k, none⟩ = some (.string x) := by rw [HR5.out k (by simp only [keysE, List.length_map]; exact hkN), keys_get hpj, HX.out]
                    have hlen : (rndL b ks s k p (2 * kk + t)).length ≤ M := by rw [← HM.out]; exact ask_length hinv.nodup hask
                    have hkN2 : k < N2 := by rw [← hN2]; simp only [keysE, List.length_map]; exact hkN
                    have hN2M : N2 ≤ M := by rw [← hN2]; simp only [keysE, List.length_map]; exact hlen
                    obtain ⟨y, hy⟩ : ∃ y, turnK b (1 - 2 * (t : Int)) x (ks.getD kk []) = y := ⟨_, rfl⟩
                    have HY := Lib.hid hy
                    have HYA : Hid (askB an b y = true) := Lib.hid (by rw [← hy]; exact turnK_ask HPA.out HKK.out)
                    have HYM : Hid (mvK b ks p.code (2 * kk + t) = y) := Lib.hid (by rw [mvK_two htl, HX.out]; exact hy)
                    have hyn := nmN_lt HYA.out
                    obtain ⟨yn, hyne⟩ : ∃ yn, nmN an b y = yn := ⟨_, rfl⟩
                    have HYN : Hid (numZ an b y = (yn : Int)) := Lib.hid (by rw [← hyne]; exact (nmN_cast HYA.out).symm)
                    have HYE := Lib.hid hyne
                    rw [hyne, HM.out] at hyn
                    have HNX : Hid ((y ∈ keysE (rndL b ks s k p (2 * kk + t)) → rndL b ks s k p (2 * kk + t + 1) = rndL b ks s k p (2 * kk + t)) ∧ (¬ y ∈ keysE (rndL b ks s k p (2 * kk + t)) → rndL b ks s k p (2 * kk + t + 1) = rndL b ks s k p (2 * kk + t) ++ [⟨y, p.code, (2 * kk + t) :: p.way⟩])) := Lib.hid (by
                      rw [← HYM.out]
                      exact ⟨fun h => by rw [rndL_succ]; exact addE_in h, fun h => by rw [rndL_succ]; exact addE_out h⟩)
                    have HAL := Lib.hid hask
                    have HND := Lib.hid hinv.nodup
                    have l0 : wr.cell? ⟨w.heap.size, 0, none⟩ = some (.int .i64 (an : Int)) := HST.out.box.cell (show 0 < 3 by omega)
                    have l1 : wr.cell? ⟨w.heap.size, 1, none⟩ = some (.int .i64 b) := HST.out.box.cell (show 1 < 3 by omega)
                    have l2 : wr.cell? ⟨w.heap.size, 2, none⟩ = some (.slice A n c) := HST.out.box.cell (show 2 < 3 by omega)
                    clear hpj hkN hinv hask hlen hy hyne hN2
                    generalize rndL b ks s k p (2 * kk + t) = L at HST HR5 HN2 HNX HAL HND
                    by_cases hin : y ∈ keysE L
                    · have hfv := farV_in HND.out HAL.out hin
                      rw [HYE.out] at hfv
                      have HL2 : Hid (rndL b ks s k p (2 * kk + t + 1) = L) := Lib.hid (HNX.out.1 hin)
                      obtain ⟨fv, hfve⟩ : ∃ fv, farV an b L yn = fv := ⟨_, rfl⟩
                      have HFE := Lib.hid hfve
                      rw [hfve] at hfv
                      clear hin hfve
                      go_wp2_with fail
                      go_region_with (go_at_call 27; refine (joTurn_any _ _ _ _ _ _ _ _ ks _ hkl (HA.out.below (bel_drew HST.out.bel)) HPA.out HKK.out (by omega)).mono ?_; rw [HY.out]; rintro e w5 ⟨rfl, hb5⟩; have HB5 := Lib.hid (below_undrew hb5); have m0 : w5.cell? ⟨w.heap.size, 0, none⟩ = some (.int .i64 (an : Int)) := (HST.out.box.call HB5.out).cell (show 0 < 3 by omega); have m1 : w5.cell? ⟨w.heap.size, 1, none⟩ = some (.int .i64 b) := (HST.out.box.call HB5.out).cell (show 1 < 3 by omega); clear hb5)
                      all_goals
                        go_wp2_with (go_at_call 29; refine (whNumber_any _ _ _ _ HYA.out).mono ?_; rw [HYN.out]; rintro e w6 ⟨rfl, hb6⟩; have ST6 := Lib.hid (HST.out.call (bel_call HB5.out hb6)); have z6 : w6.cell? ⟨gf, yn, none⟩ = some (.int .i64 fv) := (by rw [ST6.out.far.cell (show yn < _ by rw [HM.out]; exact hyn), HFE.out]); clear hb6)
                        go_roundw
                        case rel => exact ⟨t + 1, by omega, congrArg (Value.int .i64) (by omega), by rw [show 2 * kk + (t + 1) = 2 * kk + t + 1 by omega, HL2.out]; exact ST6.out⟩
                        case measure => simp [intOf]; omega
                    · have hfo := farV_out HAL.out HYA.out hin
                      rw [HYE.out] at hfo
                      have HFE := Lib.hid hfo
                      have HIN := Lib.hid hin
                      have HL2 : Hid (rndL b ks s k p (2 * kk + t + 1) = L ++ [⟨y, p.code, (2 * kk + t) :: p.way⟩]) := Lib.hid (HNX.out.2 hin)
                      clear hin hfo
                      go_wp2_with fail
                      go_region_with (go_at_call 27; refine (joTurn_any _ _ _ _ _ _ _ _ ks _ hkl (HA.out.below (bel_drew HST.out.bel)) HPA.out HKK.out (by omega)).mono ?_; rw [HY.out]; rintro e w5 ⟨rfl, hb5⟩; have HB5 := Lib.hid (below_undrew hb5); have m0 : w5.cell? ⟨w.heap.size, 0, none⟩ = some (.int .i64 (an : Int)) := (HST.out.box.call HB5.out).cell (show 0 < 3 by omega); have m1 : w5.cell? ⟨w.heap.size, 1, none⟩ = some (.int .i64 b) := (HST.out.box.call HB5.out).cell (show 1 < 3 by omega); clear hb5)
                      all_goals
                        go_wp2_with (first
                          | (go_at_call 29; refine (whNumber_any _ _ _ _ HYA.out).mono ?_; rw [HYN.out]; rintro e w6 ⟨rfl, hb6⟩; have ST6 := Lib.hid (HST.out.call (bel_call HB5.out hb6)); have z6 : w6.cell? ⟨gf, yn, none⟩ = some (.int .i64 (-1)) := (by rw [ST6.out.far.cell (show yn < _ by rw [HM.out]; exact hyn), HFE.out]); have z7 := ST6.out.far.frozen (show yn < _ by rw [HM.out]; exact hyn)
                             have QA := Lib.hid ((ST6.out.q.far (p := ⟨gf, yn, none⟩) (fun e => by have := (ST6.out.q.block gf e).1; omega) (.int .i64 ((wl : Int) + 1))).alloc (.cells #[.string y] 9))
                             have hgf6 : gf < w6.heap.size := ST6.out.far.lt
                             clear hb6)
                          | (at_builtin; refine wpList_append_qw rfl _ _ rfl (gf + 1) w6.heap.size _ (keysE L) y rfl QA.out (by rw [HN2.out]; omega) rfl (cells_tx (by rw [size_setCell])) (by rw [World.size_alloc, size_setCell]; omega) ?_; intro v7 w7 hq7 hg7 hblk7))
                        have ST7 := Lib.hid (ST6.out.set hgf2 (e := ⟨y, p.code, (2 * kk + t) :: p.way⟩) HAL.out HYA.out HIN.out (w2 := w7) (v2 := v7) (by simpa [keysE] using hq7) (X := yn) HYE.out.symm (z := (wl : Int) + 1) (by rw [List.length_cons, HWL.out]; rfl) hg7)
                        clear hq7 hg7 hblk7 QA z6 z7
                        go_wp2_with fail
                        go_roundw
                        case rel => exact ⟨t + 1, by omega, congrArg (Value.int .i64) (by omega), by rw [show 2 * kk + (t + 1) = 2 * kk + t + 1 by omega, HL2.out]; exact ST7.out⟩
                        case measure => simp [intOf]; omega
                  · obtain rfl : t = 2 := by omega
                    go_wp2_with fail
                    go_roundw
                    case rel => exact ⟨kk + 1, by omega, by go_num, by rw [show 2 * (kk + 1) = 2 * kk + 2 by omega]; exact HST.out⟩
                    case measure => simp [intOf]; omega
              · obtain rfl : kk = n := by omega
                go_wp2_with fail
                go_roundw
                case rel => exact ⟨k + 1, by go_num, by
                  have h1 := (bfsE_pre (mvK b ks) (2 * ks.length) (entS s) k).length_le
                  have h2 : (bfsL b ks s k).length = N := HNE.out
                  have h3 : (bfsL b ks s k).length ≤ (bfsL b ks s (k + 1)).length := h1
                  omega, by rw [← rndL_end HP.out, HN.out]; exact HST.out⟩
                case measure => simp [intOf]; omega
        · have HFIN : Hid (bfsL b ks s k = allL an b ks s) := Lib.hid (bfsL_end HK.out HS.out (by rw [HNE.out]; omega))
          go_wp2_with fail
          go_ret
          refine ⟨gf, by rw [HM.out]; rfl, by omega, ?_, HST.out.bel⟩
          have h := HST.out.far
          rw [HFIN.out] at h
          exact h

end Go.Proofs.Ytkmgmlgjflnbeaa

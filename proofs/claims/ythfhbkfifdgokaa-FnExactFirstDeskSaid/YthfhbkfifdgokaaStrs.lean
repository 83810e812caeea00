/- Lists of texts marked and looked at again by the law, and compared. For lists of the call's own. -/
import Derived.Test.YthfhbkfifdgokaaText
import Derived.Test.YthfhbkfifdgokaaPair
namespace Go.Proofs.Ythfhbkfifdgokaa
open Go.ChangeShapes Go.WideShapes Go.ChangeAt Go.RowKit Go.Joins

/-- Texts as cells. -/
def strF (ts : List ByteArray) (j : Nat) : Value := .string (ts.getD j ByteArray.empty)

/-- A list of texts handed back: empty, or cells of a block that is known. -/
def OwnS (w : World) (B : Nat) (A : Option Addr) (n : Nat) (ts : List ByteArray) : Prop :=
  ts.length = n ∧ n ≤ 100000000 ∧ (n = 0 ∨ ∃ g, A = some ⟨g, 0, none⟩ ∧ B ≤ g ∧ Cells w g n (strF ts))

theorem OwnS.keep {w w' : World} {B : Nat} {A : Option Addr} {n : Nat} {ts : List ByteArray} (h : OwnS w B A n ts) (hb : Below w.heap.size w w') : OwnS w' B A n ts :=
  ⟨h.1, h.2.1, h.2.2.imp id fun ⟨g, e, hg, hC⟩ => ⟨g, e, hg, hC.call hb⟩⟩

/-- The digits of a mark. -/
def mkT : Nat → Nat → ByteArray → ByteArray
  | 0, _, out => out
  | f + 1, k, out => if k = 0 then out else mkT f (k / 10) (strOfNums [48 + (k : Int) % 10] ++ out)

theorem mkT_zero (f : Nat) (out : ByteArray) : mkT f 0 out = out := by cases f <;> simp [mkT]

/-- The text of a mark. -/
def markB (k : Nat) : ByteArray := strOfNums [109] ++ mkT 18 k ByteArray.empty

theorem markText_any (K : Nat) (w : World) (h0 : 0 < K) (h9 : K ≤ 1000000000) :
    Calls Try.prog 25 #[.int .i64 (K : Int)] w fun e w' => e = .returned (.string (markB K)) ∧ Below w.heap.size w w' := by
  go_enter Try.func25, Try.ntmps25
  go_wp2_with fail
  go_loopw [0, 3] (fun i v wr => ∃ (f k : Nat) (out : ByteArray), i = .int .i64 (k : Int) ∧ v = .string out ∧ k ≤ 1000000000 ∧ k < 10 ^ f ∧ out.size + f ≤ 18 ∧ mkT f k out = mkT 18 K ByteArray.empty ∧ Below w.heap.size w wr) (fun i _ _ => (intOf i).toNat)
  case atStart => exact ⟨18, K, ByteArray.empty, rfl, rfl, h9, Nat.lt_of_le_of_lt h9 (by decide), by decide, rfl, Below.refl _ _⟩
  case round =>
    obtain ⟨f, k, out, rfl, rfl, hk, hp, hs, hm, hB⟩ := hrel
    have HM := Lib.hid hm
    have HP := Lib.hid hp
    clear hm hp
    by_cases hz : 0 < k
    · obtain ⟨f', rfl⟩ : ∃ f', f = f' + 1 := ⟨f - 1, by
        cases f with
        | zero => have := HP.out; simp at this; omega
        | succ f => rfl⟩
      have HQ : Hid (k / 10 < 10 ^ f') := Lib.hid (Nat.div_lt_of_lt_mul (by have := HP.out; rw [Nat.pow_succ] at this; omega))
      have HN : Hid (mkT f' (k / 10) (strOfNums [48 + (k : Int) % 10] ++ out) = mkT 18 K ByteArray.empty) := Lib.hid (by rw [← HM.out, mkT, if_neg (by omega)])
      have HD : Hid ((k : Int) / 10 = ((k / 10 : Nat) : Int)) := Lib.hid (by omega)
      obtain ⟨d, hd⟩ : ∃ d, (k : Int) % 10 = d := ⟨_, rfl⟩
      have d0 : 0 ≤ d := by omega
      have d9 : d ≤ 9 := by omega
      have hcv := conv_one (48 + d) wr
      have hadd : ∀ W : World, (Op.stringOp .add (strOfNums [48 + d]) out).run Try.prog W = .ok (.string (strOfNums [48 + d] ++ out)) W := fun W => run_string_add_sum _ _ _ (by rw [strOne_size]; omega)
      have HSZ : Hid ((strOfNums [48 + d] ++ out).size + f' ≤ 18) := Lib.hid (by rw [ByteArray.size_append, strOne_size]; omega)
      rw [hd] at HN
      go_wp2_with fail
      go_roundw
      case rel => exact ⟨f', k / 10, _, congrArg (Value.int .i64) HD.out, rfl, by omega, HQ.out, HSZ.out, HN.out, hB.alloc hB.size _⟩
      case measure => simp [intOf]; omega
    · obtain rfl : k = 0 := by omega
      go_wp2_with fail
      go_ret
      refine ⟨ret_str ?_, hB⟩
      have := HM.out
      rw [mkT_zero] at this
      rw [this]
      rfl

theorem eqStringS_gen (A1 A2 : Option Addr) (n c1 c2 B1 B2 : Nat) (ts : List ByteArray) (w : World) (h1 : OwnS w B1 A1 n ts) (h2 : OwnS w B2 A2 n ts) :
    Calls Try.prog 15 #[.slice A1 n c1, .slice A2 n c2] w fun e w' => e = .returned (.bool true) ∧ Below w.heap.size w w' := by
  have hm := h1.2.1
  have hcase : n = 0 ∨ ∃ g1 g2, A1 = some ⟨g1, 0, none⟩ ∧ A2 = some ⟨g2, 0, none⟩ ∧ Cells w g1 n (strF ts) ∧ Cells w g2 n (strF ts) := by
    rcases h1.2.2 with h0 | ⟨g1, e1, _, hC1⟩
    · exact .inl h0
    · rcases h2.2.2 with h0 | ⟨g2, e2, _, hC2⟩
      · exact .inl h0
      · exact .inr ⟨g1, g2, e1, e2, hC1, hC2⟩
  clear h1 h2
  rcases hcase with h0 | ⟨g1, g2, rfl, rfl, hC1, hC2⟩
  · subst h0
    clear hm
    go_enter Try.func15, Try.ntmps15
    go_wp2_with fail
    go_loop [5] (fun i => i = .int .i64 0) (fun _ => 0)
    case atStart => rfl
    case round =>
      obtain rfl := hrel
      go_wp2_with fail
      go_ret
      exact ⟨rfl, Below.refl _ _⟩
  · have H1 := Lib.hid hC1
    have H2 := Lib.hid hC2
    clear hC1 hC2
    go_enter Try.func15, Try.ntmps15
    go_wp2_with fail
    go_loopw [5] (fun i wr => ∃ k : Nat, k ≤ n ∧ i = .int .i64 k ∧ Below w.heap.size w wr) (fun i _ => n - (intOf i).toNat)
    case atStart => exact ⟨0, by omega, rfl, Below.refl _ _⟩
    case round =>
      obtain ⟨k, hk, rfl, hB⟩ := hrel
      by_cases hlt : k < n
      · have o1 := (H1.out.below hB H1.out.lt).cell hlt
        have o2 := (H2.out.below hB H2.out.lt).cell hlt
        unfold strF at o1 o2
        generalize ts.getD k ByteArray.empty = x at o1 o2
        go_wp2_with fail
        go_quiet (fail)
        go_wp2_with fail
        go_roundw
        case rel => exact ⟨k + 1, by omega, by go_num, bel_drewN hB _⟩
        case measure => simp [intOf]; omega
      · go_wp2_with fail
        go_ret
        exact ⟨rfl, hB⟩

/-- Marks: the texts of 1, 2, .. -/
def smarkF (j : Nat) : Value := .string (markB (j + 1))

theorem markStringS_any (g n c : Nat) (f : Nat → Value) (w : World) (hn : n ≤ 100000000) (hC : Cells w g n f) (hstr : ∀ j, j < n → ∃ s, f j = .string s) :
    Calls Try.prog 16 #[.slice (some ⟨g, 0, none⟩) n c, .int .i64 1] w fun e w' => e = .returned (.int .i64 (1 + (n : Int))) ∧ Cells w' g n smarkF ∧ w.heap.size ≤ w'.heap.size ∧ ∀ B, B ≤ g → Below B w w' := by
  have HC := Lib.hid hC
  have HSTR := Lib.hid hstr
  clear hC hstr
  have hgw := HC.out.lt
  go_enter Try.func16, Try.ntmps16
  go_wp2_with fail
  go_loopw [1, 5] (fun m i wr => ∃ k : Nat, k ≤ n ∧ i = .int .i64 k ∧ m = .int .i64 (1 + (k : Int)) ∧ Cells wr g n (fun j => if j < k then smarkF j else f j) ∧ w.heap.size ≤ wr.heap.size ∧ ∀ B, B ≤ g → Below B w wr) (fun _ i _ => n - (intOf i).toNat)
  case atStart => exact ⟨0, by omega, rfl, rfl, HC.out.congr (fun j _ => by simp), Nat.le_refl _, fun B _ => Below.refl _ _⟩
  case round =>
    obtain ⟨k, hk, rfl, rfl, hCr, hz, hB⟩ := hrel
    have HR := Lib.hid hCr
    have HB := Lib.hid hB
    clear hCr hB
    by_cases hlt : k < n
    · have HMT := Lib.hid (markText_any (k + 1) wr (by omega) (by omega))
      have hk1 : ((k + 1 : Nat) : Int) = 1 + (k : Int) := by omega
      rw [hk1] at HMT
      clear hk1
      obtain ⟨s, hs⟩ := HSTR.out k hlt
      go_wp2_with (go_at_call 25; refine HMT.out.mono ?_; rintro e w1 ⟨rfl, hb1⟩; have H3 := Lib.hid (HR.out.call hb1); have p1 := H3.out.cell hlt; have p2 := H3.out.frozen hlt; rw [if_neg (by omega), hs] at p1)
      have HW : Hid (Cells (w1.setCell ⟨g, k, none⟩ (.string (markB (k + 1)))) g n (fun j => if j < k + 1 then smarkF j else f j)) := Lib.hid (by
        refine (H3.out.set_ hlt (.string (markB (k + 1)))).congr (fun j hj => ?_)
        by_cases e1 : j = k
        · subst e1; rw [if_pos rfl, if_pos (by omega)]; rfl
        · rw [if_neg e1]
          by_cases e2 : j < k
          · rw [if_pos e2, if_pos (by omega)]
          · rw [if_neg e2, if_neg (by omega)])
      go_roundw
      case rel => exact ⟨k + 1, by omega, by go_num, congrArg (Value.int .i64) (by omega), HW.out, by rw [size_setCell]; have := hb1.size; omega, fun B h => ((HB.out B h).trans (hb1.mono (by omega))).setCell h _⟩
      case measure => simp [intOf]; omega
    · go_wp2_with fail
      go_ret
      exact ⟨ret_int (by omega), HR.out.congr (fun j hj => by rw [if_pos (by omega)]), hz, HB.out⟩

theorem heldStringS_any (g n c : Nat) (w : World) (hn : n ≤ 100000000) (hC : Cells w g n smarkF) :
    Calls Try.prog 17 #[.slice (some ⟨g, 0, none⟩) n c, .int .i64 1] w fun e w' => e = .returned (.int .i64 (1 + (n : Int))) ∧ Below w.heap.size w w' := by
  have HC := Lib.hid hC
  clear hC
  go_enter Try.func17, Try.ntmps17
  go_wp2_with fail
  go_loopw [1, 5] (fun m i wr => ∃ k : Nat, k ≤ n ∧ i = .int .i64 k ∧ m = .int .i64 (1 + (k : Int)) ∧ Below w.heap.size w wr) (fun _ i _ => n - (intOf i).toNat)
  case atStart => exact ⟨0, by omega, rfl, rfl, Below.refl _ _⟩
  case round =>
    obtain ⟨k, hk, rfl, rfl, hB⟩ := hrel
    by_cases hlt : k < n
    · have HK : ∀ W, Hid (Calls Try.prog 25 #[.int .i64 (1 + (k : Int))] W fun e w' => e = .returned (.string (markB (k + 1))) ∧ Below W.heap.size W w') := fun W => Lib.hid (by
        have h := markText_any (k + 1) W (by omega) (by omega)
        have hk1 : ((k + 1 : Nat) : Int) = 1 + (k : Int) := by omega
        rw [hk1] at h
        exact h)
      have H1 := Lib.hid (HC.out.below hB HC.out.lt)
      have p1 := H1.out.cell hlt
      unfold smarkF at p1
      generalize hs : markB (k + 1) = s at p1 HK
      have HSS := Lib.hid hs
      clear hs
      go_wp2_with fail
      go_region_with (go_at_call 25; refine (HK _).out.mono ?_; rintro e w1 ⟨rfl, hb1⟩; have p2 := (H1.out.drew.call hb1).cell hlt; unfold smarkF at p2; rw [HSS.out] at p2)
      all_goals
        have HW := Lib.hid (below_undrew hb1)
        clear hb1 p2
        go_wp2_with fail
        go_roundw
        case rel => exact ⟨k + 1, by omega, by go_num, congrArg (Value.int .i64) (by omega), bel_call hB HW.out⟩
        case measure => simp [intOf]; omega
    · go_wp2_with fail
      go_ret
      exact ⟨ret_int (by omega), hB⟩

theorem smark_zero (A : Option Addr) (c : Nat) (w : World) :
    Calls Try.prog 16 #[.slice A 0 c, .int .i64 1] w fun e w' => e = .returned (.int .i64 1) ∧ w = w' := by
  go_enter Try.func16, Try.ntmps16
  go_wp2_with fail
  go_loop [1, 5] (fun m i => m = .int .i64 1 ∧ i = .int .i64 0) (fun _ _ => 0)
  case atStart => exact ⟨rfl, rfl⟩
  case round =>
    obtain ⟨rfl, rfl⟩ := hrel
    go_wp2_with fail
    go_ret
    exact ⟨rfl, rfl⟩

theorem sheld_zero (A : Option Addr) (c : Nat) (w : World) :
    Calls Try.prog 17 #[.slice A 0 c, .int .i64 1] w fun e w' => e = .returned (.int .i64 1) ∧ w = w' := by
  go_enter Try.func17, Try.ntmps17
  go_wp2_with fail
  go_loop [1, 5] (fun m i => m = .int .i64 1 ∧ i = .int .i64 0) (fun _ _ => 0)
  case atStart => exact ⟨rfl, rfl⟩
  case round =>
    obtain ⟨rfl, rfl⟩ := hrel
    go_wp2_with fail
    go_ret
    exact ⟨rfl, rfl⟩

theorem own_keeps {w w' : World} {base : Nat} {e : TypeId} {size : Nat} {v : Value} {n : Nat} {xs : List Value} (h : w.ownsRow base e size v n xs) (hb : Below w.heap.size w w') : w'.ownsRow base e size v n xs :=
  h.kept (row := none) ⟨hb.os, hb.tape, hb.output, hb.size, fun i hi _ => hb.block i hi⟩ (Classical.em _)

theorem news_of {W : World} {B : Nat} {cs : Array Value} {t : TypeId} (hB : B = W.heap.size) : ∀ j u, cs.toList[j]? = some u → (W.alloc (.cells cs t)).cell? ((⟨B, 0, none⟩ : Addr).add j) = some u := by
  subst hB
  exact World.news_of_block (heap_alloc_new W _)

/-- Texts as values. -/
def sv (ts : List ByteArray) : List Value := ts.map .string

theorem sv_snoc (ts : List ByteArray) (s : ByteArray) : sv (ts ++ [s]) = sv ts ++ [.string s] := by simp [sv]

theorem own_strs {w : World} {base : Nat} {t : TypeId} {v : Value} {ts : List ByteArray} {n : Nat} (h : w.ownsRow base t 1 v n (sv ts)) (hn : n ≤ 100000000) :
    ∃ A c, v = .slice A n c ∧ OwnS w base A n ts := by
  have hl : ts.length = n := by simpa [sv] using h.1
  rcases Nat.eq_zero_or_pos n with h0 | h0
  · subst h0
    rcases h.2 with ⟨rfl, _⟩ | ⟨g, cap, cur, rfl, _⟩
    · exact ⟨none, 0, rfl, hl, by omega, .inl rfl⟩
    · exact ⟨_, cap, rfl, hl, by omega, .inl rfl⟩
  · obtain ⟨g, c, rfl, hb, hlt⟩ := h.form h0
    refine ⟨_, c, rfl, hl, hn, .inr ⟨g, rfl, hb, hlt, fun j hj => ⟨?_, h.frozenAt j⟩⟩⟩
    rw [h.cellAt j (by omega)]
    unfold sv; rw [List.getElem?_map, List.getElem?_eq_getElem (by omega)]
    simp [strF, List.getD, List.getElem?_eq_getElem (show j < ts.length by omega)]

theorem info_string : (Try.prog.info? 9).map (fun i => (i.zero, i.size, i.bytes)) = some (some (.string ByteArray.empty), 1, 16) := by kernel_rfl

/-- A list of one text that has just been made. -/
theorem ownS_one {W : World} {B g : Nat} {s : ByteArray} {t : TypeId} (hg : g = W.heap.size) (hB : B ≤ g) : OwnS (W.alloc (.cells #[.string s] t)) B (some ⟨g, 0, none⟩) 1 [s] := by
  subst hg
  exact ⟨rfl, by decide, .inr ⟨_, rfl, hB, by simp, fun j hj => by
    rw [World.cell?_alloc_new, World.frozen?_alloc_new]
    obtain rfl : j = 0 := by omega
    exact ⟨rfl, rfl⟩⟩⟩

theorem OwnS.base {w : World} {B B' : Nat} {A : Option Addr} {n : Nat} {ts : List ByteArray} (h : OwnS w B A n ts) (hB : B' ≤ B) : OwnS w B' A n ts :=
  ⟨h.1, h.2.1, h.2.2.imp id fun ⟨g, e, hg, hC⟩ => ⟨g, e, by omega, hC⟩⟩

/-- What lies below a place is kept by what changes nothing below it. -/
theorem OwnS.lt {w : World} {B : Nat} {A : Option Addr} {n : Nat} {ts : List ByteArray} (h : OwnS w B A n ts) {j : Nat} (hj : j < n) : ∃ g, A = some ⟨g, 0, none⟩ ∧ B ≤ g ∧ Cells w g n (strF ts) := by
  rcases h.2.2 with h0 | h1
  · omega
  · exact h1

end Go.Proofs.Ythfhbkfifdgokaa

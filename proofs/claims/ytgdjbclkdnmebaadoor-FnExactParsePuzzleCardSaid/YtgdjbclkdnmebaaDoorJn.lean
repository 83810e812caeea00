/- Numbers below a thousand read from texts, and texts parted at a byte: what the library does. For texts of at most 2^20 bytes. -/
import Derived.Test.YtgdjbclkdnmebaaDoorJm
import Derived.Test.YtgdjbclkdnmebaaDoorLbs
import Derived.Lib.AtoiAll
import Derived.Lib.IndexMore
import Derived.Lib.SplitLaws
import Derived.Lib.CountLaws
import Derived.Lib.CutLaws
import Derived.Lib.IndexBytes
import Derived.Lib.IndexLaws
namespace Go.Proofs.YtgdjbclkdnmebaaDoor
open Go.ChangeShapes Go.WideShapes Go.ChangeAt Go.RowKit Go.Joins

/-- What strconv.Atoi gives beside its error. -/
def atoiV (l : List UInt8) : Int :=
  match Lib.atoiAll l with
  | .ok v => v
  | .syntax => 0
  | .range => Lib.atoiSat l

theorem numB_lit {n : Int} (h0 : 0 ≤ n) (h9 : n ≤ 9) : (numB n).data.toList = [UInt8.ofNat (48 + n.toNat)] := by
  have : n = 0 ∨ n = 1 ∨ n = 2 ∨ n = 3 ∨ n = 4 ∨ n = 5 ∨ n = 6 ∨ n = 7 ∨ n = 8 ∨ n = 9 := by omega
  rcases this with rfl | rfl | rfl | rfl | rfl | rfl | rfl | rfl | rfl | rfl <;> (unfold numB; rw [Lib.decDigits]; rfl)

theorem numB_lit10 : (numB 10).data.toList = [49, 48] := by
  unfold numB
  rw [Lib.decDigits, Lib.decDigits]
  rfl

theorem atoiV_num {n : Int} (h0 : 0 ≤ n) (h10 : n ≤ 10) : atoiV (numB n).data.toList = n := by
  have : n = 0 ∨ n = 1 ∨ n = 2 ∨ n = 3 ∨ n = 4 ∨ n = 5 ∨ n = 6 ∨ n = 7 ∨ n = 8 ∨ n = 9 ∨ n = 10 := by omega
  rcases this with rfl | rfl | rfl | rfl | rfl | rfl | rfl | rfl | rfl | rfl | rfl
  · rw [numB_lit (by omega) (by omega)]; rfl
  · rw [numB_lit (by omega) (by omega)]; rfl
  · rw [numB_lit (by omega) (by omega)]; rfl
  · rw [numB_lit (by omega) (by omega)]; rfl
  · rw [numB_lit (by omega) (by omega)]; rfl
  · rw [numB_lit (by omega) (by omega)]; rfl
  · rw [numB_lit (by omega) (by omega)]; rfl
  · rw [numB_lit (by omega) (by omega)]; rfl
  · rw [numB_lit (by omega) (by omega)]; rfl
  · rw [numB_lit (by omega) (by omega)]; rfl
  · rw [numB_lit10]; rfl

theorem lkB_list (a b : Int) : (lkB a b).data.toList = (numB a).data.toList ++ 120 :: (numB b).data.toList := by
  unfold lkB
  rw [ByteArray.data_append, ByteArray.data_append, Array.toList_append, Array.toList_append, List.append_assoc]
  rfl

theorem lkB_cut {a b : Int} (h : goodB a b = true) : Lib.cut (lkB a b).data.toList [120] = ((numB a).data.toList, (numB b).data.toList, true) := by
  have hg := good_yes h
  rw [lkB_list, numB_lit (n := a) (by omega) (by omega)]
  have ha : a = 1 ∨ a = 2 ∨ a = 3 ∨ a = 4 ∨ a = 5 ∨ a = 6 := by omega
  have hb : b = 10 ∨ (2 ≤ b ∧ b ≤ 9) := by omega
  rcases hb with rfl | hb
  · rw [numB_lit10]
    rcases ha with rfl | rfl | rfl | rfl | rfl | rfl <;> rfl
  · rw [numB_lit (n := b) (by omega) (by omega)]
    have : b = 2 ∨ b = 3 ∨ b = 4 ∨ b = 5 ∨ b = 6 ∨ b = 7 ∨ b = 8 ∨ b = 9 := by omega
    rcases ha with rfl | rfl | rfl | rfl | rfl | rfl <;> rcases this with rfl | rfl | rfl | rfl | rfl | rfl | rfl | rfl <;> rfl

/-- The two numbers that the program reads out of a text. -/
def lkW (s : ByteArray) : Int := atoiV (Lib.cut s.data.toList [120]).1
def lkD (s : ByteArray) : Int := atoiV (Lib.cut s.data.toList [120]).2.1

/-- Whether the text is a lock's. -/
def lkS (s : ByteArray) : Bool := goodB (lkW s) (lkD s) && decide (lkB (lkW s) (lkD s) = s)

theorem lkS_yes {s : ByteArray} (h : lkS s = true) : goodB (lkW s) (lkD s) = true ∧ lkB (lkW s) (lkD s) = s := by
  unfold lkS at h
  rw [Bool.and_eq_true] at h
  exact ⟨h.1, of_decide_eq_true h.2⟩

theorem lk_of {a b : Int} (h : goodB a b = true) : lkW (lkB a b) = a ∧ lkD (lkB a b) = b := by
  have hg := good_yes h
  unfold lkW lkD
  rw [lkB_cut h]
  exact ⟨atoiV_num (by omega) (by omega), atoiV_num (by omega) (by omega)⟩

theorem lkS_of {a b : Int} (h : goodB a b = true) : lkS (lkB a b) = true := by
  unfold lkS
  rw [(lk_of h).1, (lk_of h).2, h]
  simp

/-- The digits of a number below a thousand. -/
def dl (k : Nat) : List UInt8 := if k < 10 then [UInt8.ofNat (48 + k)] else if k < 100 then [UInt8.ofNat (48 + k / 10), UInt8.ofNat (48 + k % 10)] else [UInt8.ofNat (48 + k / 100), UInt8.ofNat (48 + k / 10 % 10), UInt8.ofNat (48 + k % 10)]

theorem dec_dl {k : Nat} (h : k < 1000) : Lib.decDigits k = dl k := by
  unfold dl
  rw [Lib.decDigits]
  by_cases h1 : k < 10
  · rw [dif_pos h1, if_pos h1]
  · rw [dif_neg h1, if_neg h1, Lib.decDigits]
    by_cases h2 : k < 100
    · rw [dif_pos (by omega), if_pos h2]; rfl
    · rw [dif_neg (by omega), if_neg h2, Lib.decDigits, dif_pos (by omega)]
      have e : k / 10 / 10 = k / 100 := by omega
      rw [e]; rfl

theorem numB_dl {n : Int} (h0 : 0 ≤ n) (h : n ≤ 999) : (numB n).data.toList = dl n.toNat := by
  show Lib.decDigits n.toNat = _
  exact dec_dl (by omega)

def dlOk (k : Nat) : Bool := decide (1 ≤ (dl k).length ∧ (dl k).length ≤ 3) && (decide (((dl k).getD 0 0).toNat ≠ 48) || decide ((dl k).length = 1)) && (dl k).all (fun c => decide (48 ≤ c.toNat ∧ c.toNat ≤ 57)) && decide ((dl k).foldl (fun z c => 10 * z + ((c.toNat : Int) - 48)) 0 = (k : Int)) && decide (atoiV (dl k) = (k : Int))

set_option maxRecDepth 100000 in
theorem dl_ok : ∀ k, k < 1000 → dlOk k = true := by decide +kernel

theorem atoiV_big {n : Int} (h0 : 0 ≤ n) (h : n ≤ 999) : atoiV (numB n).data.toList = n := by
  rw [numB_dl h0 h]
  have := dl_ok n.toNat (by omega)
  unfold dlOk at this
  simp only [Bool.and_eq_true, decide_eq_true_eq] at this
  rw [this.2]; omega

/-- The parts of a text between a byte. -/
def spl (b : UInt8) : List UInt8 → List (List UInt8)
  | [] => [[]]
  | c :: r => if c = b then [] :: spl b r else
    match spl b r with
    | [] => [[c]]
    | p :: ps => (c :: p) :: ps

/-- Parts put together with a byte between them. -/
def jn (b : UInt8) : List (List UInt8) → List UInt8
  | [] => []
  | [p] => p
  | p :: q :: ps => p ++ b :: jn b (q :: ps)

theorem spl_ne (b : UInt8) : ∀ l, spl b l ≠ []
  | [] => by simp [spl]
  | c :: r => by
    unfold spl
    split
    · simp
    · split <;> simp

theorem jn_cons (b c : UInt8) (p : List UInt8) (ps : List (List UInt8)) : jn b ((c :: p) :: ps) = c :: jn b (p :: ps) := by
  cases ps <;> rfl

theorem jn_nil (b : UInt8) {q : List (List UInt8)} (h : q ≠ []) : jn b ([] :: q) = b :: jn b q := by
  cases q with
  | nil => exact absurd rfl h
  | cons q qs => rfl

theorem jn_spl (b : UInt8) : ∀ l, jn b (spl b l) = l
  | [] => rfl
  | c :: r => by
    have ih := jn_spl b r
    unfold spl
    split
    · rename_i hc
      subst hc
      rw [jn_nil _ (spl_ne _ _), ih]
    · split
      · rename_i h
        exact absurd h (spl_ne b r)
      · rename_i p ps h
        rw [jn_cons, ← h, ih]

theorem spl_part (b : UInt8) : ∀ (p : List UInt8), b ∉ p → spl b p = [p]
  | [], _ => rfl
  | c :: p, h => by
    have h1 : c ≠ b := fun e => h (by rw [e]; exact List.mem_cons_self ..)
    have ih := spl_part b p (fun e => h (List.mem_cons_of_mem _ e))
    unfold spl
    rw [if_neg h1, ih]

theorem spl_app (b : UInt8) (r : List UInt8) : ∀ (p : List UInt8), b ∉ p → spl b (p ++ b :: r) = p :: spl b r
  | [], _ => by
    rw [List.nil_append]
    conv => lhs; unfold spl
    rw [if_pos rfl]
  | c :: p, h => by
    have h1 : c ≠ b := fun e => h (by rw [e]; exact List.mem_cons_self ..)
    have ih := spl_app b r p (fun e => h (List.mem_cons_of_mem _ e))
    rw [List.cons_append]
    conv => lhs; unfold spl
    rw [if_neg h1, ih]

/-- Parts without the byte are found again. -/
theorem spl_jn (b : UInt8) : ∀ (ps : List (List UInt8)), ps ≠ [] → (∀ p ∈ ps, b ∉ p) → spl b (jn b ps) = ps
  | [], h, _ => absurd rfl h
  | [p], _, h => spl_part b p (h p (List.mem_cons_self ..))
  | p :: q :: ps, _, h => by
    have ih := spl_jn b (q :: ps) (by simp) (fun r hr => h r (List.mem_cons_of_mem _ hr))
    show spl b (p ++ b :: jn b (q :: ps)) = _
    rw [spl_app b _ p (h p (List.mem_cons_self ..)), ih]

theorem spl_mem (b : UInt8) : ∀ (l : List UInt8), ∀ p ∈ spl b l, b ∉ p
  | [], p, h => by
    rw [show spl b [] = [[]] from rfl, List.mem_singleton] at h
    subst h
    simp
  | c :: r, p, h => by
    have ih := spl_mem b r
    unfold spl at h
    split at h
    · rcases List.mem_cons.1 h with rfl | h
      · simp
      · exact ih p h
    · rename_i hc
      split at h
      · rename_i e
        exact absurd e (spl_ne b r)
      · rename_i q qs e
        rcases List.mem_cons.1 h with rfl | h
        · intro hm
          rcases List.mem_cons.1 hm with hb | hb
          · exact hc hb.symm
          · exact ih q (by rw [e]; exact List.mem_cons_self ..) hb
        · exact ih p (by rw [e]; exact List.mem_cons_of_mem _ h)

/-- How many parts there are, and how long they are together. -/
theorem spl_length (b : UInt8) : ∀ (l : List UInt8), (spl b l).length = l.count b + 1
  | [] => rfl
  | c :: r => by
    have ih := spl_length b r
    unfold spl
    split
    · rename_i hc
      subst hc
      rw [List.length_cons, ih, List.count_cons_self]
    · rename_i hc
      rw [List.count_cons_of_ne hc, ← ih]
      split
      · rename_i e
        exact absurd e (spl_ne b r)
      · rename_i q qs e
        rw [e, List.length_cons, List.length_cons]

theorem itoa_any (n : Int) (w : World) (h0 : 0 ≤ n) (h10 : n ≤ 10) :
    Calls Tryd.prog 31 #[.int .i64 n] w fun e w' => e = .returned (.string (numB n)) ∧ w = w' := by
  obtain ⟨i, rfl⟩ : ∃ i : Nat, n = i := ⟨n.toNat, by omega⟩
  exact (Go.Proofs.Tryd.strconv_Itoa_small i (by omega) w).mono fun e w' ⟨h1, h2⟩ => ⟨h1.trans (by unfold numB; rw [Int.toNat_natCast]), h2.symm⟩

/-- What the library's variables hold. -/
structure LibW (w : World) : Prop where
  max : ∃ m, w.cell? ⟨0, 0, none⟩ = some (.int .i64 m)
  syn : ∃ ev, w.cell? ⟨1, 0, none⟩ = some ev ∧ (ev = .nilIface ∨ ∃ te pe, ev = .iface te pe)
  ran : ∃ ev, w.cell? ⟨2, 0, none⟩ = some ev ∧ (ev = .nilIface ∨ ∃ te pe, ev = .iface te pe)
  low : 3 ≤ w.heap.size

theorem LibW.below {B : Nat} {w w' : World} (h : LibW w) (hb : Below B w w') (hB : 3 ≤ B) : LibW w' where
  max := by
    obtain ⟨m, hm⟩ := h.max
    exact ⟨m, by rw [hb.cell (p := ⟨0, 0, none⟩) (show 0 < B by omega)]; exact hm⟩
  syn := by
    obtain ⟨m, hm, h2⟩ := h.syn
    exact ⟨m, by rw [hb.cell (p := ⟨1, 0, none⟩) (show 1 < B by omega)]; exact hm, h2⟩
  ran := by
    obtain ⟨m, hm, h2⟩ := h.ran
    exact ⟨m, by rw [hb.cell (p := ⟨2, 0, none⟩) (show 2 < B by omega)]; exact hm, h2⟩
  low := Nat.le_trans h.low hb.size

theorem atoi_any (s : ByteArray) (hs : s.size ≤ 1048576) (w : World) (hL : LibW w) :
    Calls Tryd.prog 36 #[.string s] w fun e w' => ∃ q, e = .returned (.tuple #[.int .i64 (atoiV s.data.toList), q]) ∧ Below w.heap.size w w' := by
  cases h : Lib.atoiAll s.data.toList with
  | ok v =>
    have hv : atoiV s.data.toList = v := by unfold atoiV; rw [h]
    rw [hv]
    refine (Go.Proofs.Tryd.strconv_Atoi_ok s (by omega) v h w).mono ?_
    rintro e w' ⟨rfl, hw⟩
    refine ⟨_, rfl, ?_⟩
    rcases hw with rfl | ⟨t, rfl⟩
    · exact Below.refl _ _
    · exact Lib.bytesWorld_below _ _ _
  | «syntax» =>
    have hv : atoiV s.data.toList = 0 := by unfold atoiV; rw [h]
    rw [hv]
    obtain ⟨ev, h1, h2⟩ := hL.syn
    refine (Go.Proofs.Tryd.strconv_Atoi_syntax s (by omega) h ev w h1 h2).mono ?_
    rintro e w' ⟨N, rfl, _, _, hb⟩
    exact ⟨_, rfl, hb⟩
  | range =>
    have hv : atoiV s.data.toList = Lib.atoiSat s.data.toList := by unfold atoiV; rw [h]
    rw [hv]
    obtain ⟨ev, h1, h2⟩ := hL.ran
    refine (Go.Proofs.Tryd.strconv_Atoi_range s (by omega) h ev w h1 h2).mono ?_
    rintro e w' ⟨N, rfl, _, _, hb⟩
    exact ⟨_, rfl, hb⟩

theorem bytes_neP {x y : ByteArray} (h : x ≠ y) : (x.toList == y.toList) = false := by
  rw [ByteArray.toList_eq, ByteArray.toList_eq]
  have : x.data.toList ≠ y.data.toList := fun e => h (by cases x; cases y; simp only [ByteArray.mk.injEq]; exact Array.toList_inj.1 e)
  simpa using this

theorem cut_le (s : ByteArray) : (Lib.cut s.data.toList [120]).1.length ≤ s.size ∧ (Lib.cut s.data.toList [120]).2.1.length ≤ s.size := by
  unfold Lib.cut
  have hz : s.data.toList.length = s.size := rfl
  split
  · simp only [List.length_take, List.length_drop]
    omega
  · simp only [List.length_nil]
    omega

set_option maxRecDepth 100000 in
set_option maxHeartbeats 2000000 in
theorem lockTextG_any (a b : Int) (w : World) (h : goodB a b = true) :
    Calls Tryd.prog 48 #[.agg #[.int .i64 a, .int .i64 b]] w fun e w' => e = .returned (.string (lkB a b)) ∧ Below w.heap.size w w' := by
  obtain ⟨a1, a6, b2, b10⟩ := good_yes h
  have h1 := numB_size (n := a) (by omega) (by omega)
  have h2 := numB_size (n := b) (by omega) (by omega)
  have h120 : (⟨#[120]⟩ : ByteArray).size = 1 := rfl
  have hadd1 : ∀ W : World, (Op.stringOp .add (numB a) ⟨#[120]⟩).run Tryd.prog W = .ok (.string (numB a ++ ⟨#[120]⟩)) W := fun W => run_string_add_sum _ _ _ (by rw [h120]; omega)
  have hadd2 : ∀ W : World, (Op.stringOp .add (numB a ++ ⟨#[120]⟩) (numB b)).run Tryd.prog W = .ok (.string (lkB a b)) W := fun W => run_string_add_sum _ _ _ (by rw [ByteArray.size_append, h120]; omega)
  have X0 := Lib.hid (show Below w.heap.size w (w.alloc (.cells #[.int .i64 a, .int .i64 b] 43)) from (Below.refl _ _).alloc (Nat.le_refl _) _)
  go_enter Tryd.func48, Tryd.ntmps48
  go_wp2_with fail
  go_region_with (first
    | ((fail_if_success (have := hx1)); go_at_call 31; refine (itoa_any a _ (by omega) (by omega)).mono ?_; rintro e w1 ⟨rfl, hx1⟩; subst hx1; have hx1 : True := trivial)
    | (go_at_call 31; refine (itoa_any b _ (by omega) (by omega)).mono ?_; rintro e w2 ⟨rfl, rfl⟩))
  all_goals
    go_wp2_with fail
    go_ret
    exact ⟨rfl, bel_drew X0.out⟩

set_option maxRecDepth 100000 in
set_option maxHeartbeats 4000000 in
theorem lockWithText_any (s : ByteArray) (hs : s.size ≤ 1048576) (w : World) (hL : LibW w) :
    Calls Tryd.prog 52 #[.string s] w fun e w' => e = .returned (.tuple #[.agg #[.int .i64 (if lkS s then lkW s else 0), .int .i64 (if lkS s then lkD s else 0)], .bool (lkS s)]) ∧ Below w.heap.size w w' := by
  have HL := Lib.hid hL
  have hl := hL.low
  obtain ⟨m, hm⟩ := hL.max
  obtain ⟨c1, c2⟩ := cut_le s
  obtain ⟨p, hp⟩ : ∃ p, (Lib.cut s.data.toList [120]).1 = p := ⟨_, rfl⟩
  obtain ⟨q, hq⟩ : ∃ q, (Lib.cut s.data.toList [120]).2.1 = q := ⟨_, rfl⟩
  obtain ⟨W, hW⟩ : ∃ W, lkW s = W := ⟨_, rfl⟩
  obtain ⟨D, hD⟩ : ∃ D, lkD s = D := ⟨_, rfl⟩
  obtain ⟨V, hV⟩ : ∃ V, lkS s = V := ⟨_, rfl⟩
  have HW : Hid (atoiV p = W) := Lib.hid (by rw [← hW]; unfold lkW; rw [hp])
  have HD : Hid (atoiV q = D) := Lib.hid (by rw [← hD]; unfold lkD; rw [hq])
  have HV : Hid ((goodB W D && decide (lkB W D = s)) = V) := Lib.hid (by rw [← hV, ← hW, ← hD]; rfl)
  rw [hW, hD, hV]
  clear hW hD hV
  rw [hp] at c1
  rw [hq] at c2
  have X0 : Below w.heap.size w (w.alloc (.cells #[.int .i64 0, .int .i64 0] 43)) := (Below.refl _ _).alloc (Nat.le_refl _) _
  clear hL
  go_enter Tryd.func52, Tryd.ntmps52
  go_wp2_with (go_at_call 35; refine (Go.Proofs.Tryd.strings_Cut s ⟨#[120]⟩ m _ (by omega) (by rw [X0.cell (p := ⟨0, 0, none⟩) (show 0 < w.heap.size by omega)]; exact hm)).mono ?_; rintro e w1 ⟨rfl, n1, rfl⟩; rw [show (⟨#[120]⟩ : ByteArray).data.toList = [120] from rfl, hp, hq])
  have X2 := Lib.hid (show Below w.heap.size w (((w.alloc (.cells #[.int .i64 0, .int .i64 0] 43)).drewN n1).alloc (.cells #[.int .i64 0, .int .i64 0] 43)) from (bel_drewN X0 n1).alloc (bel_drewN X0 n1).size _)
  have hU : ((w.alloc (.cells #[.int .i64 0, .int .i64 0] 43)).drewN n1).heap.size = w.heap.size + 1 := World.size_alloc ..
  have C2 : Cells (((w.alloc (.cells #[.int .i64 0, .int .i64 0] 43)).drewN n1).alloc (.cells #[.int .i64 0, .int .i64 0] 43)) (w.heap.size + 1) 2 (fun j => #[.int .i64 0, .int .i64 0].toList.getD j undef) := Cells.new hU.symm rfl
  have R2 : Cells (((w.alloc (.cells #[.int .i64 0, .int .i64 0] 43)).drewN n1).alloc (.cells #[.int .i64 0, .int .i64 0] 43)) w.heap.size 2 (fun j => #[.int .i64 0, .int .i64 0].toList.getD j undef) := ((Cells.new (n := 2) rfl rfl).drewN n1).alloc _
  refine (atoi_any ⟨p.toArray⟩ (by show p.toArray.size ≤ _; rw [List.size_toArray]; omega) _ (HL.out.below X2.out hl)).mono ?_
  rintro e w2 ⟨q1, rfl, hb2⟩
  rw [show atoiV (⟨p.toArray⟩ : ByteArray).data.toList = W from HW.out]
  have C3 := Lib.hid (C2.call hb2)
  have R3 := Lib.hid (R2.call hb2)
  have X3 := Lib.hid (bel_call X2.out hb2)
  clear C2 R2 X2 hb2 X0 hp hq hm
  have hs2 := X3.out.size
  have l0 : w2.cell? ⟨w.heap.size + 1, 0, none⟩ = some (.int .i64 0) := C3.out.cell (show 0 < 2 by omega)
  have f0 := C3.out.frozen (show 0 < 2 by omega)
  have X4 := Lib.hid (X3.out.setCell (p := ⟨w.heap.size + 1, 0, none⟩) (by show w.heap.size ≤ w.heap.size + 1; omega) (.int .i64 W))
  have C4 := Lib.hid (C3.out.set_ (k := 0) (by omega) (.int .i64 W))
  have R4 := Lib.hid (R3.out.far (p := ⟨w.heap.size + 1, 0, none⟩) (by show w.heap.size + 1 ≠ w.heap.size; omega) (.int .i64 W))
  go_wp2_with (go_at_call 36; refine (atoi_any ⟨q.toArray⟩ (by show q.toArray.size ≤ _; rw [List.size_toArray]; omega) _ (HL.out.below X4.out hl)).mono ?_; rintro e w3 ⟨q2, rfl, hb3⟩; rw [show atoiV (⟨q.toArray⟩ : ByteArray).data.toList = D from HD.out]
               have C5 := Lib.hid (C4.out.call hb3)
               have R5 := Lib.hid (R4.out.call hb3)
               have X5 := Lib.hid (bel_call X4.out hb3)
               clear l0 f0 hb3
               have l0 : w3.cell? ⟨w.heap.size + 1, 0, none⟩ = some (.int .i64 W) := C5.out.cell (show 0 < 2 by omega)
               have l1 : w3.cell? ⟨w.heap.size + 1, 1, none⟩ = some (.int .i64 0) := C5.out.cell (show 1 < 2 by omega)
               have f1 := C5.out.frozen (show 1 < 2 by omega))
  have hw1 : w.heap.size ≤ w.heap.size + 1 := by omega
  have hne : w.heap.size + 1 ≠ w.heap.size := by omega
  refine (isLock_any _ _ _).mono ?_
  rintro e w4 ⟨rfl, hb4⟩
  have C6 := Lib.hid ((C5.out.set_ (k := 1) (by omega) (.int .i64 D)).call hb4)
  have R6 := Lib.hid ((R5.out.far (p := ⟨w.heap.size + 1, 1, none⟩) hne (.int .i64 D)).call hb4)
  have X6 := Lib.hid (bel_call (X5.out.setCell (p := ⟨w.heap.size + 1, 1, none⟩) hw1 (.int .i64 D)) hb4)
  clear l0 l1 f1 hb4 C3 C4 C5 R3 R4 R5 X3 X4 X5
  have l0 : w4.cell? ⟨w.heap.size + 1, 0, none⟩ = some (.int .i64 W) := C6.out.cell (show 0 < 2 by omega)
  have l1 : w4.cell? ⟨w.heap.size + 1, 1, none⟩ = some (.int .i64 D) := C6.out.cell (show 1 < 2 by omega)
  have r0 : w4.cell? ⟨w.heap.size, 0, none⟩ = some (.int .i64 0) := R6.out.cell (show 0 < 2 by omega)
  have r1 : w4.cell? ⟨w.heap.size, 1, none⟩ = some (.int .i64 0) := R6.out.cell (show 1 < 2 by omega)
  have g0 := R6.out.frozen (show 0 < 2 by omega)
  have g1 := R6.out.frozen (show 1 < 2 by omega)
  rcases hg : goodB W D with _ | _
  · obtain rfl : V = false := by rw [← HV.out, hg]; rfl
    go_wp2_with fail
    refine bodyPost_ret (v := .tuple #[.agg #[.int .i64 0, .int .i64 0], .bool false]) (by simp [results, Tryd.results52, go_sem, r0, r1]) rfl ?_
    exact ⟨rfl, (X6.out.setCell (p := ⟨w.heap.size, 0, none⟩) (Nat.le_refl _) _).setCell (p := ⟨w.heap.size, 1, none⟩) (Nat.le_refl _) _⟩
  · have HVd : Hid (decide (lkB W D = s) = V) := Lib.hid (by rw [← HV.out, hg, Bool.true_and])
    have HG := Lib.hid hg
    clear hg
    rcases V with _ | _
    · have hsame : ((lkB W D).toList == s.toList) = false := bytes_neP (of_decide_eq_false HVd.out)
      go_wp2_with (go_at_call 48; refine (lockTextG_any _ _ _ HG.out).mono ?_; rintro e w5 ⟨rfl, hb5⟩
                   have C7 := Lib.hid (C6.out.call hb5)
                   have R7 := Lib.hid (R6.out.call hb5)
                   have X7 := Lib.hid (bel_call X6.out hb5)
                   clear l0 l1 r0 r1 g0 g1 hb5
                   have l0 : w5.cell? ⟨w.heap.size + 1, 0, none⟩ = some (.int .i64 W) := C7.out.cell (show 0 < 2 by omega)
                   have l1 : w5.cell? ⟨w.heap.size + 1, 1, none⟩ = some (.int .i64 D) := C7.out.cell (show 1 < 2 by omega)
                   have r0 : w5.cell? ⟨w.heap.size, 0, none⟩ = some (.int .i64 0) := R7.out.cell (show 0 < 2 by omega)
                   have r1 : w5.cell? ⟨w.heap.size, 1, none⟩ = some (.int .i64 0) := R7.out.cell (show 1 < 2 by omega)
                   have g0 := R7.out.frozen (show 0 < 2 by omega)
                   have g1 := R7.out.frozen (show 1 < 2 by omega))
      refine bodyPost_ret (v := .tuple #[.agg #[.int .i64 0, .int .i64 0], .bool false]) (by simp [results, Tryd.results52, go_sem, r0, r1]) rfl ?_
      exact ⟨rfl, (X7.out.setCell (p := ⟨w.heap.size, 0, none⟩) (Nat.le_refl _) _).setCell (p := ⟨w.heap.size, 1, none⟩) (Nat.le_refl _) _⟩
    · have hsame : ((lkB W D).toList == s.toList) = true := by rw [of_decide_eq_true HVd.out]; exact beq_self_eq_true _
      go_wp2_with (go_at_call 48; refine (lockTextG_any _ _ _ HG.out).mono ?_; rintro e w5 ⟨rfl, hb5⟩
                   have C7 := Lib.hid (C6.out.call hb5)
                   have R7 := Lib.hid (R6.out.call hb5)
                   have X7 := Lib.hid (bel_call X6.out hb5)
                   clear l0 l1 r0 r1 g0 g1 hb5
                   have l0 : w5.cell? ⟨w.heap.size + 1, 0, none⟩ = some (.int .i64 W) := C7.out.cell (show 0 < 2 by omega)
                   have l1 : w5.cell? ⟨w.heap.size + 1, 1, none⟩ = some (.int .i64 D) := C7.out.cell (show 1 < 2 by omega)
                   have r0 : w5.cell? ⟨w.heap.size, 0, none⟩ = some (.int .i64 0) := R7.out.cell (show 0 < 2 by omega)
                   have r1 : w5.cell? ⟨w.heap.size, 1, none⟩ = some (.int .i64 0) := R7.out.cell (show 1 < 2 by omega)
                   have g0 := R7.out.frozen (show 0 < 2 by omega)
                   have g1 := R7.out.frozen (show 1 < 2 by omega))
      refine bodyPost_ret (v := .tuple #[.agg #[.int .i64 W, .int .i64 D], .bool true]) (by simp [results, Tryd.results52, go_sem, r0, r1]) rfl ?_
      exact ⟨rfl, (X7.out.setCell (p := ⟨w.heap.size, 0, none⟩) (Nat.le_refl _) _).setCell (p := ⟨w.heap.size, 1, none⟩) (Nat.le_refl _) _⟩

/-- The number that the first bytes write. -/
def rdN (s : ByteArray) : Nat → Int
  | 0 => 0
  | k + 1 => 10 * rdN s k + (((s.data.toList.getD k 0).toNat : Int) - 48)

def dgt (s : ByteArray) (k : Nat) : Prop := ∀ j, j < k → 48 ≤ (s.data.toList.getD j 0).toNat ∧ (s.data.toList.getD j 0).toNat ≤ 57

theorem rdN_bound {s : ByteArray} : ∀ {k : Nat}, k ≤ 6 → dgt s k → 0 ≤ rdN s k ∧ rdN s k + 1 ≤ (10 : Int) ^ k
  | 0, _, _ => ⟨Int.le_refl 0, by show (0 : Int) + 1 ≤ 1; decide⟩
  | k + 1, hk, h => by
    have ih := rdN_bound (k := k) (by omega) (fun j hj => h j (by omega))
    have h1 := h k (by omega)
    have e : (10 : Int) ^ (k + 1) = 10 * 10 ^ k := by rw [Int.pow_succ, Int.mul_comm]
    rw [e]
    show 0 ≤ 10 * rdN s k + _ ∧ 10 * rdN s k + _ + 1 ≤ _
    omega

theorem pow6 {k : Nat} (h : k ≤ 6) : (10 : Int) ^ k ≤ 1000000 := by
  have : k = 0 ∨ k = 1 ∨ k = 2 ∨ k = 3 ∨ k = 4 ∨ k = 5 ∨ k = 6 := by omega
  rcases this with rfl | rfl | rfl | rfl | rfl | rfl | rfl <;> decide

theorem getD_at {s : ByteArray} {k : Nat} (h : k < s.size) : (s.data.toList.getD k 0) = s[k] := by
  have h1 : k < s.data.toList.length := h
  rw [List.getD, List.getElem?_eq_getElem h1]
  rfl

theorem rdN_fold (s : ByteArray) (k : Nat) (hk : k ≤ s.size) : rdN s k = (s.data.toList.take k).foldl (fun z c => 10 * z + ((c.toNat : Int) - 48)) 0 := by
  induction k with
  | zero => rfl
  | succ k ih =>
    have h : k < s.data.toList.length := by have : s.data.toList.length = s.size := rfl; omega
    rw [rdN, ih (by omega), List.take_succ_eq_append_getElem h, List.foldl_append]
    simp [List.getD, List.getElem?_eq_getElem h]

/-- What the text of a number below a thousand is. -/
theorem numB_is {n : Int} (h0 : 0 ≤ n) (h10 : n ≤ 999) {s : ByteArray} (hs : s = numB n) :
    1 ≤ s.size ∧ s.size ≤ 6 ∧ ((s.data.toList.getD 0 0).toNat = 48 → s.size = 1) ∧ dgt s s.size ∧ rdN s s.size = n := by
  have hd : s.data.toList = dl n.toNat := by rw [hs]; exact numB_dl h0 h10
  have hz : s.size = (dl n.toNat).length := by rw [← hd]; rfl
  have hk := dl_ok n.toNat (by omega)
  unfold dlOk at hk
  simp only [Bool.and_eq_true, Bool.or_eq_true, decide_eq_true_eq, List.all_eq_true] at hk
  obtain ⟨⟨⟨⟨k1, k2⟩, k3⟩, k4⟩, k5⟩ := hk
  refine ⟨by omega, by omega, fun h => ?_, fun j hj => ?_, ?_⟩
  · rw [hd] at h
    rcases k2 with k2 | k2
    · exact absurd h k2
    · omega
  · rw [hd, List.getD, List.getElem?_eq_getElem (by omega), Option.getD_some]
    exact k3 _ (List.getElem_mem _)
  · rw [rdN_fold s s.size (Nat.le_refl _), hd, List.take_of_length_le (by omega), k4]; omega

set_option maxRecDepth 100000 in
set_option maxHeartbeats 2000000 in
theorem l1Read_any (s : ByteArray) (hl : s.size ≤ 1048576) (w : World) :
    Calls Tryd.prog 71 #[.string s] w fun e w' => ∃ r : Int, e = .returned (.int .i64 r) ∧ (∀ n, 0 ≤ n → n ≤ 999 → s = numB n → r = n) ∧ Below w.heap.size w w' := by
  by_cases h16 : 1 ≤ s.size ∧ s.size ≤ 6
  · obtain ⟨h1, h6⟩ := h16
    have hi0 : 0 < s.size := by omega
    go_enter Tryd.func71, Tryd.ntmps71
    have hin : inB (s.size : Int) 1 6 = true := by unfold inB; rw [decide_eq_true_iff]; omega
    by_cases hz : s[0].toNat = 48 ∧ 1 < s.size
    · go_wp2_with (go_at_call 57; refine (l1In_any _ _ _ _).mono ?_; rw [hin]; rintro e w2 ⟨rfl, rfl⟩)
      go_ret
      refine ⟨_, rfl, fun n h0 h10 hs => ?_, Below.refl _ _⟩
      have := (numB_is h0 h10 hs).2.2.1 (by rw [getD_at hi0]; exact hz.1)
      omega
    · go_wp2_with (go_at_call 57; refine (l1In_any _ _ _ _).mono ?_; rw [hin]; rintro e w2 ⟨rfl, rfl⟩)
      all_goals
        go_loopw [3, 4] (fun n i wr => ∃ k : Nat, k ≤ s.size ∧ i = .int .i64 k ∧ n = .int .i64 (rdN s k) ∧ dgt s k ∧ Below w2.heap.size w2 wr) (fun _ i _ => s.size - (intOf i).toNat)
        case atStart => exact ⟨0, by omega, rfl, rfl, fun j hj => absurd hj (by omega), Below.refl _ _⟩
        case round =>
          obtain ⟨k, hk, rfl, rfl, hd, hB⟩ := hrel
          by_cases hlt : k < s.size
          · have hg : s.data.toList.getD k 0 = s[k] := getD_at hlt
            by_cases hok : 48 ≤ s[k].toNat ∧ s[k].toNat ≤ 57
            · obtain ⟨b1, b2⟩ := rdN_bound (k := k) (by omega) hd
              have b3 := pow6 (k := k) (by omega)
              obtain ⟨o1, o2⟩ := hok
              have e1 : rdN s (k + 1) = 10 * rdN s k + ((s[k].toNat : Int) - 48) := by
                show 10 * rdN s k + (((s.data.toList.getD k 0).toNat : Int) - 48) = _
                rw [hg]
              obtain ⟨z, hzz⟩ : ∃ z, rdN s k = z := ⟨_, rfl⟩
              obtain ⟨u, hu⟩ : ∃ u, s[k].toNat = u := ⟨_, rfl⟩
              rw [hzz] at b1 b2 e1 ⊢
              rw [hu] at o1 o2 e1
              have hw1 : IntKind.i64.wrap (10 * z) = 10 * z := by rw [IntKind.wrap_i64]; omega
              have hw2 : IntKind.u8.wrap ((u : Int) - 48) = (u : Int) - 48 := by rw [IntKind.wrap_u8]; omega
              have hw3 : IntKind.i64.wrap (10 * z + ((u : Int) - 48)) = 10 * z + ((u : Int) - 48) := by rw [IntKind.wrap_i64]; omega
              have hw4 : IntKind.i64.wrap ((u : Int) - 48) = (u : Int) - 48 := by rw [IntKind.wrap_i64]; omega
              go_wp2_with fail
              go_roundw
              case rel =>
                refine ⟨k + 1, by omega, by go_num, ?_, ?_, hB⟩
                · rw [e1]
                · intro j hj
                  rcases Nat.lt_or_ge j k with h | h
                  · exact hd j h
                  · obtain rfl : j = k := by omega
                    rw [hg, hu]
                    exact ⟨o1, o2⟩
              case measure => simp [intOf]; omega
            · go_wp2_with fail
              all_goals
                go_ret
                refine ⟨_, rfl, fun n h0 h10 hs => ?_, hB⟩
                have h9 := (numB_is h0 h10 hs).2.2.2.1 k hlt
                rw [hg] at h9
                exact absurd h9 hok
          · go_wp2_with fail
            go_ret
            obtain rfl : k = s.size := by omega
            exact ⟨_, rfl, fun n h0 h10 hs => (numB_is h0 h10 hs).2.2.2.2, hB⟩
  · have hin : inB (s.size : Int) 1 6 = false := by unfold inB; rw [decide_eq_false_iff_not]; omega
    go_enter Tryd.func71, Tryd.ntmps71
    go_wp2_with (go_at_call 57; refine (l1In_any _ _ _ _).mono ?_; rw [hin]; rintro e w2 ⟨rfl, rfl⟩)
    go_ret
    refine ⟨_, rfl, fun n h0 h10 hs => ?_, Below.refl _ _⟩
    have := numB_is h0 h10 hs
    exact absurd ⟨this.1, this.2.1⟩ h16

/-- The parts that are closed behind the first k bytes, and where the open one begins. -/
def spK (b : UInt8) (s : ByteArray) : Nat → List ByteArray × Nat
  | 0 => ([], 0)
  | k + 1 => if s.data.toList.getD k 0 = b then ((spK b s k).1 ++ [s.extract (spK b s k).2 k], k + 1) else spK b s k

/-- All parts. -/
def spA (b : UInt8) (s : ByteArray) : List ByteArray := (spK b s s.size).1 ++ [s.extract (spK b s s.size).2 s.size]

theorem spK_le (b : UInt8) (s : ByteArray) : ∀ k, (spK b s k).2 ≤ k ∧ (spK b s k).1.length ≤ k
  | 0 => ⟨Nat.le_refl _, Nat.le_refl _⟩
  | k + 1 => by
    have ih := spK_le b s k
    unfold spK
    split
    · refine ⟨Nat.le_refl _, ?_⟩
      rw [List.length_append, List.length_singleton]
      omega
    · omega

theorem extract_list (s : ByteArray) (i j : Nat) : (s.extract i j).data.toList = (s.data.toList.take j).drop i := by
  rw [ByteArray.data_extract, Array.toList_extract]
  simp [List.extract, List.drop_take]

theorem spK_spl (b : UInt8) (s : ByteArray) : ∀ k, k ≤ s.size → spl b s.data.toList = (spK b s k).1.map (fun p => p.data.toList) ++ spl b (s.data.toList.drop (spK b s k).2) ∧ b ∉ (s.data.toList.take k).drop (spK b s k).2
  | 0, _ => ⟨rfl, by simp⟩
  | k + 1, hk => by
    obtain ⟨ih1, ih2⟩ := spK_spl b s k (by omega)
    have hle := (spK_le b s k).1
    have hlen : k < s.data.toList.length := hk
    obtain ⟨f, hf⟩ : ∃ f, (spK b s k).2 = f := ⟨_, rfl⟩
    obtain ⟨c, hc⟩ : ∃ c, s.data.toList.getD k 0 = c := ⟨_, rfl⟩
    have hcat : s.data.toList[k] = c := by rw [← hc, List.getD, List.getElem?_eq_getElem hlen]; rfl
    have htake : s.data.toList.take (k + 1) = s.data.toList.take k ++ [c] := by rw [List.take_succ_eq_append_getElem hlen, hcat]
    have hfl : f ≤ (s.data.toList.take k).length := by rw [List.length_take]; omega
    unfold spK
    rw [hf] at ih1 ih2 hle
    rw [hc, hf]
    split
    · rename_i h
      refine ⟨?_, ?_⟩
      · rw [ih1, List.map_append, List.append_assoc]
        congr 1
        have hd : s.data.toList.drop f = (s.data.toList.take k).drop f ++ b :: s.data.toList.drop (k + 1) := by
          conv => lhs; rw [← List.take_append_drop k s.data.toList, List.drop_append_of_le_length hfl, List.drop_eq_getElem_cons hlen, hcat, h]
        rw [hd, spl_app b _ _ ih2]
        show _ = [(s.extract f k).data.toList] ++ _
        rw [extract_list]
        rfl
      · show b ∉ (s.data.toList.take (k + 1)).drop (k + 1)
        rw [List.drop_of_length_le (by rw [List.length_take]; omega)]
        simp
    · rename_i h
      rw [hf]
      refine ⟨ih1, ?_⟩
      rw [htake, List.drop_append_of_le_length hfl]
      intro hm
      rcases List.mem_append.1 hm with hm | hm
      · exact ih2 hm
      · exact h (List.mem_singleton.1 hm).symm

theorem spA_spl (b : UInt8) (s : ByteArray) : (spA b s).map (fun p => p.data.toList) = spl b s.data.toList := by
  obtain ⟨h1, h2⟩ := spK_spl b s s.size (Nat.le_refl _)
  have hl : s.data.toList.length = s.size := rfl
  rw [h1]
  unfold spA
  rw [List.map_append]
  congr 1
  rw [List.take_of_length_le (by omega)] at h2
  rw [spl_part b _ h2]
  show [(s.extract _ _).data.toList] = _
  rw [extract_list, List.take_of_length_le (by omega)]

end Go.Proofs.YtgdjbclkdnmebaaDoor

/- The least word behind another one, as the program reckons it. For words of locks of few codes. -/
import Derived.Test.YteolmplbgmfhmaaDoorRt
import Derived.Test.YteolmplbgmfhmaaDoorRl
import Derived.Test.YteolmplbgmfhmaaDoorIg
import Derived.Test.YteolmplbgmfhmaaDoorStrs
namespace Go.Proofs.YteolmplbgmfhmaaDoor
open Go.ChangeShapes Go.WideShapes Go.ChangeAt Go.RowKit Go.Joins

/-- The word behind another one; none behind the last one. -/
def nextWd (b : Int) (n : Nat) (v : List Int) : List Int := if nxW b n v = [] then [] else incW (nxW b n v)

theorem bytesR {x y : ByteArray} (h : x ≠ y) : (x.toList == y.toList) = false := by
  rw [ByteArray.toList_eq, ByteArray.toList_eq]
  have : x.data.toList ≠ y.data.toList := fun e => h (bytes_ext e)
  simpa using this

theorem text_ne {v : List Int} (h : v ≠ []) : textOf v ≠ ⟨#[]⟩ := fun e => by
  have := congrArg ByteArray.size e
  rw [textOf_size] at this
  exact h (List.length_eq_zero_iff.1 this)

theorem text_some {v : List Int} (h : v ≠ []) : (textOf v).toList.isEmpty = false := by
  rw [ByteArray.toList_eq, textOf_list]
  cases v with
  | nil => exact absurd rfl h
  | cons x v => rfl

theorem one_cells (w : World) (x : Int) : Cells (w.alloc (.cells #[.int .i64 x] 3)) w.heap.size 1 (digF [x]) :=
  ⟨by simp, fun j hj => by
    obtain rfl : j = 0 := by omega
    rw [World.cell?_alloc_new, World.frozen?_alloc_new]
    exact ⟨rfl, rfl⟩⟩

theorem one_cells2 (w : World) (o : Obj) (x : Int) : Cells ((w.alloc o).alloc (.cells #[.int .i64 x] 3)) (w.heap.size + 1) 1 (digF [x]) := by
  have h := one_cells (w.alloc o) x
  rwa [World.size_alloc] at h

theorem zero_digits : Digits [0] := fun j hj => by
  obtain rfl : j = 0 := by simp at hj; omega
  exact ⟨by decide, by decide⟩

set_option maxRecDepth 100000 in
set_option maxHeartbeats 2000000 in
theorem lwb_none (n : Nat) (b : Int) (w : World) :
    Calls Tryd.prog 55 #[.agg #[.int .i64 n, .int .i64 b], .string ⟨#[]⟩] w fun e w' => e = .returned (.string (textOf [0])) ∧ Below w.heap.size w w' := by
  have HC := Lib.hid (one_cells2 w (.cells #[.int .i64 n, .int .i64 b] 26) 0)
  go_enter Tryd.func55, Tryd.ntmps55
  go_wp2_with (go_at_call 48; refine (codeOf_n (n := 1) (w.heap.size + 1) 1 [0] rfl _ HC.out zero_digits (by decide)).mono ?_; rintro e w1 ⟨rfl, hb⟩)
  go_ret
  refine ⟨rfl, ?_⟩
  (repeat (first | assumption | exact Below.refl _ _ | (refine Below.alloc ?_ (by first | omega | (simp; done) | (simp; omega)) _) | (refine Below.setCell ?_ (by first | omega | (simp; done) | (simp; omega)) _) | refine bel_drewN ?_ _ | refine bel_drew ?_ | (refine bel_call ?_ (by assumption))))

set_option maxRecDepth 100000 in
set_option maxHeartbeats 4000000 in
theorem lwb_any (n : Nat) (b : Int) (v : List Int) (w : World) (h : riB n b = true) (hv : WordOk b n v) (hn : nxW b n v = [] ∨ nxW b n v ≠ [] ∧ WordOk b n (incW (nxW b n v))) :
    Calls Tryd.prog 55 #[.agg #[.int .i64 n, .int .i64 b], .string (textOf v)] w fun e w' => e = .returned (.string (textOf (nextWd b n v))) ∧ Below w.heap.size w w' := by
  obtain ⟨h1, h6, h2, h10⟩ := good_yes (riB_good h)
  have hvl := hv.le
  have hv1 := hv.pos
  have hvn : v ≠ [] := fun e => by rw [e] at hv1; simp at hv1
  have hne := text_some hvn
  have hts : (textOf v).size = v.length := textOf_size v
  have hrs : n ≤ n * v.length ∧ n * v.length ≤ 36 := ⟨by have := Nat.mul_le_mul_left n hv1; omega, by have := Nat.mul_le_mul (show n ≤ 6 by omega) (show v.length ≤ 6 by omega); omega⟩
  obtain ⟨hrs1, hrs2⟩ := hrs
  have HREP : Hid ((textOf v).size * n ≤ 140737488355328) := Lib.hid (by rw [hts, Nat.mul_comm]; omega)
  obtain ⟨R, hR⟩ : ∃ R : ByteArray, (⟨(Lib.repeatL (textOf v).data.toList n).toArray⟩ : ByteArray) = R := ⟨_, rfl⟩
  obtain ⟨U, hU⟩ : ∃ U : ByteArray, textOf (repW n v) = U := ⟨_, rfl⟩
  have hRs : R.size = n * v.length := by
    rw [← hR]
    show (Lib.repeatL _ _).toArray.size = _
    rw [List.size_toArray, Lib.repeatL_length, bytes_len, hts]
  have hRx : R.extract 0 n = U := by rw [← hR, ← hU]; exact repeat_text hv1
  have hRn : n ≤ R.size := by omega
  have HTR : Hid ((⟨(Lib.trimRightB U.data.toList (byt (b - 1))).toArray⟩ : ByteArray) = textOf (nxW b n v)) := Lib.hid (by
    rw [← hU, trim_text ((repW_low hv.low hv1).digits h10) (by omega) (by omega)]
    rfl)
  have HUS : Hid (U.size ≤ 9223372036854775807) := Lib.hid (by rw [← hU, textOf_size, repW_length]; omega)
  have HSM := Lib.hid (byt_small (d := b - 1) (by omega) (by omega))
  have HR := Lib.hid hR
  have hXl := nxW_low (n := n) hv.low hv1
  have hXe := nxW_le (b := b) (n := n) (w := v)
  have HNX : Hid (nextWd b n v = if nxW b n v = [] then [] else incW (nxW b n v)) := Lib.hid rfl
  have HW : Hid (Digits [b - 1]) := Lib.hid (fun j hj => by obtain rfl : j = 0 := (by simp at hj; omega); show 0 ≤ b - 1 ∧ b - 1 ≤ 9; omega)
  generalize nxW b n v = X at HTR hXl hXe HNX hn
  clear hR hU hRs h hv hts hv1 hrs1 hrs2 hvl
  rcases hn with rfl | ⟨hX, hWX⟩
  · have HN : Hid (nextWd b n v = []) := Lib.hid (by rw [HNX.out, if_pos rfl])
    have hX0 : (textOf []).toList.isEmpty = true := by rw [ByteArray.toList_eq]; rfl
    go_enter Tryd.func55, Tryd.ntmps55
    go_wp2_with fail
    go_region_with (go_at_call 62; refine (Tryd.strings_Repeat _ n _ (by omega) HREP.out).mono ?_; rw [HR.out]; rintro e w1 ⟨rfl, hb⟩; have HB := Lib.hid (show Below w.heap.size w w1 from by (repeat (first | assumption | exact Below.refl _ _ | (refine Below.alloc ?_ (by first | omega | (simp; done) | (simp; omega)) _) | (refine Below.setCell ?_ (by first | omega | (simp; done) | (simp; omega)) _) | refine bel_drewN ?_ _ | refine bel_drew ?_ | (refine bel_call ?_ (by assumption))))); have m0 : w1.cell? ⟨w.heap.size, 0, none⟩ = some (.int .i64 n) := (by rw [hb.cell (p := ⟨w.heap.size, 0, none⟩) (by simp)]; simp); have m1 : w1.cell? ⟨w.heap.size, 1, none⟩ = some (.int .i64 b) := (by rw [hb.cell (p := ⟨w.heap.size, 1, none⟩) (by simp)]; simp); have z1 : w.heap.size < w1.heap.size := (by have := hb.size; simp at this; omega); clear hb)
    all_goals
      go_wp2_with (first | (go_at_call 48; refine (codeOf_n (n := 1) _ _ [b - 1] rfl _ (one_cells _ _) HW.out (by decide)).mono ?_; rw [textOf_one]; rintro e w2 ⟨rfl, hb2⟩; have HB2 := Lib.hid (show Below w.heap.size w w2 from bel_call (HB.out.alloc HB.out.size _) hb2); clear hb2) | (go_at_call 63; refine (Tryd.strings_TrimRight_one U (byt (b - 1)) HSM.out _ HUS.out).mono ?_; rw [HTR.out]; rintro e w3 ⟨rfl, rfl⟩))
      go_ret
      refine ⟨ret_str (by rw [HN.out]; rfl), HB2.out⟩
  · have hXne := text_some hX
    have hXp : 0 < X.length := List.length_pos_iff.2 hX
    have HXD := Lib.hid (hXl.digits h10)
    have HN : Hid (nextWd b n v = incW X) := Lib.hid (by rw [HNX.out, if_neg hX])
    have HWD := Lib.hid (hWX.low.digits h10)
    have hil := incW_length hX
    have hia := fun j (hj : j < X.length) => incW_at hX hj
    obtain ⟨m, hm⟩ : ∃ m, X.length = m + 1 := ⟨X.length - 1, by omega⟩
    have hm6 : m + 1 ≤ 6 := by omega
    rw [hm] at hil hia
    rw [Nat.add_sub_cancel] at hia
    have HIL := Lib.hid hil
    have HXS : Hid ((textOf X).size = m + 1) := Lib.hid (by rw [textOf_size, hm])
    have HDX : Hid (dg (textOf X) = X) := Lib.hid (dg_textOf (hXl.digits h10))
    have hlast := HXD.out m (by omega)
    obtain ⟨x, hx⟩ : ∃ x, X.getD m 0 = x := ⟨_, rfl⟩
    rw [hx] at hlast hia
    obtain ⟨x0, x9⟩ := hlast
    have HIA := Lib.hid hia
    have HXX := Lib.hid hx
    clear hX hXl hXe hXp hWX hm hil hia hx
    go_enter Tryd.func55, Tryd.ntmps55
    go_wp2_with fail
    go_region_with (go_at_call 62; refine (Tryd.strings_Repeat _ n _ (by omega) HREP.out).mono ?_; rw [HR.out]; rintro e w1 ⟨rfl, hb⟩; have HB := Lib.hid (show Below w.heap.size w w1 from by (repeat (first | assumption | exact Below.refl _ _ | (refine Below.alloc ?_ (by first | omega | (simp; done) | (simp; omega)) _) | (refine Below.setCell ?_ (by first | omega | (simp; done) | (simp; omega)) _) | refine bel_drewN ?_ _ | refine bel_drew ?_ | (refine bel_call ?_ (by assumption))))); have m0 : w1.cell? ⟨w.heap.size, 0, none⟩ = some (.int .i64 n) := (by rw [hb.cell (p := ⟨w.heap.size, 0, none⟩) (by simp)]; simp); have m1 : w1.cell? ⟨w.heap.size, 1, none⟩ = some (.int .i64 b) := (by rw [hb.cell (p := ⟨w.heap.size, 1, none⟩) (by simp)]; simp); have z1 : w.heap.size < w1.heap.size := (by have := hb.size; simp at this; omega); clear hb)
    all_goals
      go_wp2_with (first | (go_at_call 63; refine (Tryd.strings_TrimRight_one U (byt (b - 1)) HSM.out _ HUS.out).mono ?_; rw [HTR.out]; rintro e w3 ⟨rfl, rfl⟩) | (go_at_call 47; refine (digitsOf_any _ _ (by rw [HDX.out]; exact HXD.out) (by rw [HXS.out]; omega)).mono ?_; rw [HDX.out, HXS.out]; rintro e w4 ⟨g, c, rfl, hg, hC, hb4⟩; have HB4 := Lib.hid (bel_call HB2.out hb4); have o4 : w4.cell? ⟨g, m, none⟩ = some (.int .i64 x) := (by have := hC.cell (show m < m + 1 by omega); unfold digF at this; rw [HXX.out] at this; exact this); have f4 := hC.frozen (show m < m + 1 by omega); have hgw : w.heap.size ≤ g := (by have := HB2.out.size; omega); have HS := Lib.hid ((hC.set_ (show m < m + 1 by omega) (.int .i64 (x + 1))).congr (f' := digF (incW X)) (fun j hj => by unfold digF; rw [HIA.out j hj]; by_cases e : j = m <;> simp only [e, if_true, if_false])); clear hb4 hC) | (go_at_call 48; have HBX := HB4; refine (codeOf_n g c (incW X) HIL.out _ HS.out HWD.out (by omega)).mono ?_; rintro e w5 ⟨rfl, hb5⟩; have HB5 := Lib.hid (bel_call (HB4.out.setCell hgw _) hb5); clear hb5) | (go_at_call 48; refine (codeOf_n (n := 1) _ _ [b - 1] rfl _ (one_cells _ _) HW.out (by decide)).mono ?_; rw [textOf_one]; rintro e w2 ⟨rfl, hb2⟩; have HB2 := Lib.hid (show Below w.heap.size w w2 from bel_call (HB.out.alloc HB.out.size _) hb2); clear hb2))
      go_ret
      exact ⟨ret_str (by rw [HN.out]), HB5.out⟩

end Go.Proofs.YteolmplbgmfhmaaDoor

/- The pins of a list joined: the model's and the program's answer. For pins with at most 1048576 numbers each. -/
import Derived.Test.YtaajklkldfgppaaVl
namespace Go.Proofs.Ytaajklkldfgppaa
open Go.ChangeShapes Go.WideShapes Go.ChangeAt Go.RowKit Go.Joins

theorem pf_next {wr : World} {g : Nat} {d : Int} {u v : Value} (h : Cells wr g 2 (pF d u)) : Cells ((wr.setCell ⟨g, 0, none⟩ (.int .i64 d)).setCell ⟨g, 1, none⟩ v) g 2 (pF d v) :=
  ((h.set_ (show 0 < 2 by omega) (.int .i64 d)).set_ (show 1 < 2 by omega) v).congr (fun j hj => by
    have : j = 0 ∨ j = 1 := by omega
    rcases this with rfl | rfl <;> rfl)

theorem nine_max {ks : List (List Int)} (h : Nine ks) : ∀ i, i < ks.length → (ks.getD i []).length ≤ maxLen := fun i _ => by have := h i; unfold maxLen; omega

set_option maxRecDepth 100000 in
set_option maxHeartbeats 4000000 in
theorem keJoined_any (A : Option Addr) (n c : Nat) (ps : List Pn) (v : Bool) (w : World) (hA : ArgP w A n ps) (hL : listB ps = true) :
    Calls Try.prog 42 #[.slice A n c, .bool v] w (PinsGot w (ps.getD 0 pn0).1 (cbN (bothB v) ps n)) := by
  have HN := Lib.hid hA.len
  obtain ⟨l1, l6, lk⟩ := listB_yes hL
  rw [hA.len] at l1 l6 lk
  have HOK := Lib.hid lk
  obtain ⟨g0, _, _⟩ := okP_yes (lk 0 (by omega))
  have HG0 := Lib.hid g0
  obtain ⟨d1, d9, n1, n7, _⟩ := pinsB_yes g0
  obtain ⟨b, off, rfl, hb, hc⟩ := hA.at_.resolve_left (by omega)
  obtain ⟨A0, c0, h00', h01', h02, h03⟩ := hc 0 (by omega)
  have HC := Lib.hid hc
  rw [Nat.zero_mul, Nat.add_zero] at h00' h01'
  have HCB0 : Hid (cbN (bothB v) ps 0 = (ps.getD 0 pn0).2) := Lib.hid rfl
  have HCBS : Hid (∀ k, cbN (bothB v) ps (k + 1) = jnL (bothB v) (ps.getD 0 pn0).1.toNat (cbN (bothB v) ps k) (ps.getD k pn0).2 (ps.getD 0 pn0).2.length) := Lib.hid (fun _ => rfl)
  have HNI := Lib.hid (fun k => cbN_nine (f := bothB v) g0 k)
  have HCL := Lib.hid (fun k => cbN_length (bothB v) ps k)
  obtain ⟨P0, hP0⟩ : ∃ P0, ps.getD 0 pn0 = P0 := ⟨_, rfl⟩
  have HP0 := Lib.hid hP0
  rw [hP0] at h00' h01' h02 h03 HCB0 HCBS HCL d1 d9 n1 n7 HG0
  rw [hP0]
  clear hP0 hc lk hA hL g0 HNI
  have HNI := Lib.hid (fun k => cbN_nine (f := bothB v) (ps := ps) (by rw [HP0.out]; exact HG0.out) k)
  obtain ⟨dn, hdn⟩ : ∃ dn : Nat, P0.1 = dn := ⟨P0.1.toNat, by omega⟩
  obtain ⟨m, hm⟩ : ∃ m, P0.2.length = m := ⟨_, rfl⟩
  have HDN := Lib.hid hdn
  have HM := Lib.hid hm
  rw [hdn] at h00' HCBS d1 d9
  rw [hm] at h01' h02 h03 HCBS n1 n7 HCL
  rw [hdn]
  rw [Int.toNat_natCast] at HCBS
  clear hdn hm
  obtain ⟨W2, hW2⟩ : ∃ W2, (w.alloc (.cells #[.int .i64 0, .slice none 0 0] 26)).alloc (.cells #[.int .i64 (dn : Int), .slice A0 m c0] 26) = W2 := ⟨_, rfl⟩
  have HB2 := Lib.hid (show Below w.heap.size w W2 from by rw [← hW2]; (repeat (first | assumption | exact Below.refl _ _ | (refine Below.alloc ?_ (by first | omega | (simp; done) | (simp; omega)) _) | (refine Below.setCell ?_ (by first | omega | (simp; done) | (simp; omega)) _) | refine bel_drewN ?_ _ | refine bel_drew ?_ | (refine bel_call ?_ (by assumption)))))
  have CQ := Lib.hid (show Cells W2 w.heap.size 2 (pF 0 (.slice none 0 0)) from by rw [← hW2]; exact (Cells.new (n := 2) rfl rfl).alloc _)
  have CT := Lib.hid (show Cells W2 (w.heap.size + 1) 2 (pF (dn : Int) (.slice A0 m c0)) from by rw [← hW2]; exact Cells.new (n := 2) (by simp) rfl)
  have hz2 : w.heap.size + 2 ≤ W2.heap.size := by rw [← hW2]; simp
  have HW := Lib.hid hW2
  have K0 := Lib.hid (h03.below HB2.out)
  have hn0 : 0 < n := by omega
  have g00 : (w.alloc (.cells #[.int .i64 0, .slice none 0 0] 26)).cell? ⟨b, off, none⟩ = some (.int .i64 (dn : Int)) := by rw [World.cell?_alloc_lt _ _ _ hb]; exact h00'
  have g01 : (w.alloc (.cells #[.int .i64 0, .slice none 0 0] 26)).cell? ⟨b, off + 1, none⟩ = some (.slice A0 m c0) := by rw [World.cell?_alloc_lt _ _ _ hb]; exact h01'
  clear hW2 h03 h00' h01'
  go_enter Try.func42, Try.ntmps42
  go_wp2_with fail
  clear g00 g01
  go_loopw [13] (fun i wr => ∃ (k : Nat) (Aa : Option Addr) (ca : Nat), k ≤ n ∧ i = .int .i64 k ∧ Cells wr w.heap.size 2 (pF 0 (.slice none 0 0)) ∧ Cells wr (w.heap.size + 1) 2 (pF (dn : Int) (.slice Aa m ca)) ∧ KnobsA wr Aa m (cbN (bothB v) ps k) ∧ (0 < k → RowP wr (w.heap.size + 2) (.slice Aa m ca) (cbN (bothB v) ps k)) ∧ w.heap.size + 2 ≤ wr.heap.size ∧ Below w.heap.size w wr) (fun i _ => n - (intOf i).toNat)
  case atStart => rw [HW.out]; exact ⟨0, A0, c0, by omega, rfl, CQ.out, CT.out, by rw [HCB0.out]; exact K0.out, fun h => by omega, hz2, HB2.out⟩
  case round =>
    clear HW CQ CT K0 HB2 hz2
    obtain ⟨k, Aa, ca, hk, rfl, hQ, hT, hK, hR, hz, hB⟩ := hrel
    have HQ := Lib.hid hQ
    have HT := Lib.hid hT
    have HK := Lib.hid hK
    have HR := Lib.hid hR
    have HB := Lib.hid hB
    clear hQ hT hK hR hB
    by_cases hlt : k < n
    · obtain ⟨Ak, ck, p0', p1', hl, hKk⟩ := HC.out k hlt
      obtain ⟨ok1, ok2, ok3⟩ := okP_yes (HOK.out k hlt)
      rw [HP0.out] at ok2 ok3
      rw [HM.out] at ok3
      rw [HDN.out] at ok2
      have p0 : wr.cell? ⟨b, off + k * 2, none⟩ = some (.int .i64 (dn : Int)) := by rw [HB.out.cell (p := ⟨b, off + k * 2, none⟩) hb, ← ok2]; exact p0'
      have p1 : wr.cell? ⟨b, off + k * 2 + 1, none⟩ = some (.slice Ak m ck) := by rw [HB.out.cell (p := ⟨b, off + k * 2 + 1, none⟩) hb, ← ok3]; exact p1'
      have HKk : Hid (KnobsA wr Ak m (ps.getD k pn0).2) := Lib.hid (by rw [← ok3]; exact hKk.below HB.out)
      have HNK := Lib.hid (pins_nine ok1)
      have HX := Lib.hid (HCBS.out k)
      have HNC := Lib.hid (HNI.out k)
      have HNX := Lib.hid (HNI.out (k + 1))
      have HLX := Lib.hid (HCL.out (k + 1))
      obtain ⟨K1, hK1⟩ : ∃ K1, cbN (bothB v) ps (k + 1) = K1 := ⟨_, rfl⟩
      have HK1 := Lib.hid hK1
      rw [hK1] at HX HNX HLX
      clear hK1
      generalize (ps.getD k pn0).2 = ls at HKk HNK HX
      generalize cbN (bothB v) ps k = K0 at HK HR HX HNC
      have t0 : (wr.alloc (.cells #[.int .i64 (dn : Int), .slice Ak m ck] 26)).cell? ⟨w.heap.size + 1, 0, none⟩ = some (.int .i64 (dn : Int)) := (HT.out.alloc _).cell (show 0 < 2 by omega)
      have t1 : (wr.alloc (.cells #[.int .i64 (dn : Int), .slice Ak m ck] 26)).cell? ⟨w.heap.size + 1, 1, none⟩ = some (.slice Aa m ca) := (HT.out.alloc _).cell (show 1 < 2 by omega)
      have HBA := Lib.hid (show Below wr.heap.size wr (wr.alloc (.cells #[.int .i64 (dn : Int), .slice Ak m ck] 26)) from (Below.refl _ _).alloc (Nat.le_refl _) _)
      clear p0' p1' hl hKk ok1 ok2 ok3
      go_wp2_with fail
      refine (keJoin_any dn (dn : Int) v Aa Ak m ca ck K0 ls _ n7 (by omega) (HK.out.below HBA.out) (HKk.out.below HBA.out) HNC.out HNK.out).mono ?_
      rintro e w5 ⟨v5, rfl, hR5, hb5⟩
      rw [← HX.out] at hR5
      obtain ⟨A5, c5, rfl⟩ := hR5.slice
      rw [HLX.out] at hR5 ⊢
      have HBE := Lib.hid (bel_call HBA.out hb5)
      have HR5 := Lib.hid (hR5.weak (show w.heap.size + 2 ≤ (wr.alloc (.cells #[.int .i64 (dn : Int), .slice Ak m ck] 26)).heap.size by simp; omega))
      have HQ5 := Lib.hid (HQ.out.call HBE.out)
      have HT5 := Lib.hid (HT.out.call HBE.out)
      have HB5 := Lib.hid (bel_call HB.out HBE.out)
      have hz5 : w.heap.size + 2 ≤ w5.heap.size := Nat.le_trans hz HBE.out.size
      clear t0 t1 hR5 hb5
      have t0 : w5.cell? ⟨w.heap.size + 1, 0, none⟩ = some (.int .i64 (dn : Int)) := HT5.out.cell (show 0 < 2 by omega)
      have t1 : w5.cell? ⟨w.heap.size + 1, 1, none⟩ = some (.slice Aa m ca) := HT5.out.cell (show 1 < 2 by omega)
      have f0 := HT5.out.frozen (show 0 < 2 by omega)
      have f1 := HT5.out.frozen (show 1 < 2 by omega)
      have HRN := Lib.hid ((HR5.out.under (p := ⟨w.heap.size + 1, 0, none⟩) (by show w.heap.size + 1 < w.heap.size + 2; omega) (.int .i64 (dn : Int))).under (p := ⟨w.heap.size + 1, 1, none⟩) (by show w.heap.size + 1 < w.heap.size + 2; omega) (.slice A5 m c5))
      have HQN := Lib.hid ((HQ5.out.far (p := ⟨w.heap.size + 1, 0, none⟩) (by show w.heap.size + 1 ≠ w.heap.size; omega) (.int .i64 (dn : Int))).far (p := ⟨w.heap.size + 1, 1, none⟩) (by show w.heap.size + 1 ≠ w.heap.size; omega) (.slice A5 m c5))
      have HTN := Lib.hid (pf_next (v := .slice A5 m c5) HT5.out)
      have HBN := Lib.hid ((HB5.out.setCell (p := ⟨w.heap.size + 1, 0, none⟩) (by show w.heap.size ≤ w.heap.size + 1; omega) (.int .i64 (dn : Int))).setCell (p := ⟨w.heap.size + 1, 1, none⟩) (by show w.heap.size ≤ w.heap.size + 1; omega) (.slice A5 m c5))
      go_wp2_with fail
      go_roundw
      case rel => exact ⟨k + 1, A5, c5, by omega, by go_num, HQN.out, HTN.out, by rw [HK1.out]; exact HRN.out.knobs (nine_max HNX.out), fun _ => by rw [HK1.out]; exact HRN.out, by rw [size_setCell, size_setCell]; exact hz5, HBN.out⟩
      case measure => simp [intOf]; omega
    · obtain rfl : k = n := by omega
      have HRR := Lib.hid (HR.out hn0)
      have t0 : wr.cell? ⟨w.heap.size + 1, 0, none⟩ = some (.int .i64 (dn : Int)) := HT.out.cell (show 0 < 2 by omega)
      have t1 : wr.cell? ⟨w.heap.size + 1, 1, none⟩ = some (.slice Aa m ca) := HT.out.cell (show 1 < 2 by omega)
      have q0 : wr.cell? ⟨w.heap.size, 0, none⟩ = some (.int .i64 0) := HQ.out.cell (show 0 < 2 by omega)
      have q1 : wr.cell? ⟨w.heap.size, 1, none⟩ = some (.slice none 0 0) := HQ.out.cell (show 1 < 2 by omega)
      have f0 := HQ.out.frozen (show 0 < 2 by omega)
      have f1 := HQ.out.frozen (show 1 < 2 by omega)
      go_wp2_with fail
      refine bodyPost_ret (v := .agg #[.int .i64 (dn : Int), .slice Aa m ca]) (by simp [results, Try.results42, go_sem, q0, q1]) rfl ⟨_, rfl, ?_, ?_⟩
      · exact ((HRR.out.under (by show w.heap.size < w.heap.size + 2; omega) _).under (by show w.heap.size < w.heap.size + 2; omega) _).weak (by omega)
      · iterate 2 (refine Below.setCell ?_ (by show w.heap.size ≤ w.heap.size; omega) _)
        exact HB.out

end Go.Proofs.Ytaajklkldfgppaa

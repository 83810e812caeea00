/- Places and other digits of a guess for a code, as the program reckons them. For two texts of digits. -/
import Derived.Test.YtgopaflggbgplaaHj
namespace Go.Proofs.Ytgopaflggbgplaa
open Go.ChangeShapes Go.WideShapes Go.ChangeAt Go.RowKit Go.Joins

/-- A hint's three cells. -/
def h3F (s : ByteArray) (p o : Int) (j : Nat) : Value := if j = 0 then .string s else if j = 1 then .int .i64 p else .int .i64 o

/-- How often each digit is in the first k places. -/
def ctF (s : ByteArray) (k j : Nat) : Value := .int .i64 (ctN s j k : Nat)

theorem ctF_step {s : ByteArray} {k d : Nat} (hk : k < s.size) (h : (s[k].toNat : Int) = 48 + d) (j : Nat) : (if j = d then .int .i64 ((ctN s d k : Nat) + 1 : Int) else ctF s k j) = ctF s (k + 1) j := by
  unfold ctF
  by_cases e : j = d
  · subst e; rw [if_pos rfl, ctN_yes hk h]; rfl
  · rw [if_neg e, ctN_no hk (fun h2 => e (by omega))]

theorem h3F_step {s t : ByteArray} {k : Nat} (h : plN s t (k + 1) = plN s t k + 1) (j : Nat) : (if j = 1 then .int .i64 ((plN s t k : Nat) + 1 : Int) else h3F s (plN s t k : Nat) 0 j) = h3F s (plN s t (k + 1) : Nat) 0 j := by
  unfold h3F
  by_cases e : j = 1
  · subst e; rw [if_pos rfl, if_neg (by omega), if_pos rfl, h]; rfl
  · rw [if_neg e, if_neg e, if_neg e]

theorem hk_digit {s : ByteArray} (hd : Digits (dg s)) {k : Nat} (hk : k < s.size) : ∃ d : Nat, d ≤ 9 ∧ (s[k].toNat : Int) = 48 + d := by
  obtain ⟨h1, h2⟩ := digits_at hd hk
  exact ⟨((s[k].toNat : Int) - 48).toNat, by omega, by omega⟩

theorem cells_lit {W : World} {g n : Nat} {xs : Array Value} {t : TypeId} {f : Nat → Value} (hg : g = W.heap.size) (h : ∀ j, j < n → xs[j]? = some (f j)) : Cells (W.alloc (.cells xs t)) g n f := by
  subst hg
  exact ⟨by simp, fun j hj => by rw [World.cell?_alloc_new, World.frozen?_alloc_new]; exact ⟨h j hj, rfl⟩⟩

theorem ten_of {p : Nat → Prop} (h0 : p 0) (h1 : p 1) (h2 : p 2) (h3 : p 3) (h4 : p 4) (h5 : p 5) (h6 : p 6) (h7 : p 7) (h8 : p 8) (h9 : p 9) : ∀ j, j < 10 → p j
  | 0, _ => h0 | 1, _ => h1 | 2, _ => h2 | 3, _ => h3 | 4, _ => h4 | 5, _ => h5 | 6, _ => h6 | 7, _ => h7 | 8, _ => h8 | 9, _ => h9

theorem loadVar_cells {P : Program} {w : World} {g : Nat} {ty : TypeId} {vs : List Value} {d : TypeDesc} (hc : ∀ j v, vs[j]? = some v → w.cell? ⟨g, j, none⟩ = some v)
    (hu : P.underlying ty = some d) (hd : (match d with | .struct _ | .array _ _ => true | _ => false) = true) (hi : (P.info? ty).map (·.size) = some vs.length) :
    (loadVar ty ⟨g, 0, none⟩).run P w = .ok (.agg vs.toArray) w := by
  have hl : (loadCells ⟨g, 0, none⟩ vs.length).run P w = .ok vs.toArray w :=
    run_loadCells_list (P := P) w ⟨g, 0, none⟩ vs (fun j v hv => by
      have hadd : (⟨g, 0, none⟩ : Addr).add j = ⟨g, j, none⟩ := by unfold Addr.add; split <;> simp_all
      rw [hadd]
      exact hc j v hv)
  cases hq : P.info? ty with
  | none => simp [hq] at hi
  | some i =>
    have hs : i.size = vs.length := by simpa [hq] using hi
    have hagg : (isAgg ty).run P w = .ok true w := by
      unfold isAgg
      rw [Sem.run_bind, run_underlying hu w]
      cases d <;> simp_all
    simp [loadVar, Sem.run_bind, hagg, sizeOf, typeInfo, hq, hs, hl]

theorem hint_resG {fn : Func} {p : Tmp} (hf : fn.results = #[.cell p 91]) (tmps : Array Value) (w : World) (g : Nat) (s : ByteArray) (x y : Int) (hp : tmps.getD p undef = .pointer (some ⟨g, 0, none⟩)) (h0 : w.cell? ⟨g, 0, none⟩ = some (.string s)) (h1 : w.cell? ⟨g, 1, none⟩ = some (.int .i64 x)) (h2 : w.cell? ⟨g, 2, none⟩ = some (.int .i64 y)) :
    (results fn tmps).run Try.prog w = .ok (.agg #[.string s, .int .i64 x, .int .i64 y]) w := by
  have hp' : tmps[p]?.getD undef = .pointer (some ⟨g, 0, none⟩) := by simpa using hp
  have hl := loadVar_cells (P := Try.prog) (w := w) (g := g) (ty := 91) (vs := [.string s, .int .i64 x, .int .i64 y]) (fun j v hv => by
    match j, hv with
    | 0, hv => cases hv; exact h0
    | 1, hv => cases hv; exact h1
    | 2, hv => cases hv; exact h2) Try.underlying91 rfl (by kernel_rfl)
  simp [results, hf, hp', asAddr, hl]

theorem index_ten {xs : Array Value} {d : Nat} {v : Value} (hd : d < 10) (hx : xs[d]? = some v) (w : World) : (Instr.index 108 (.agg xs) (.int .i64 d)).run Try.prog w = .ok v w := by
  obtain ⟨i, hi, hs⟩ : ∃ i, Try.prog.info? 3 = some i ∧ i.size = 1 := by
    have h : (Try.prog.info? 3).map (·.size) = some 1 := by kernel_rfl
    cases hq : Try.prog.info? 3 with
    | none => simp [hq] at h
    | some i => exact ⟨i, rfl, by simpa [hq] using h⟩
  have hagg : ∀ W, (isAgg 3).run Try.prog W = .ok false W := fun W => by
    unfold isAgg
    rw [Sem.run_bind, run_underlying Try.underlying3 W]
    rfl
  have h0 : (0 : Int) ≤ (d : Int) ∧ (d : Int) < ((10 : Nat) : Int) := by omega
  simp only [Instr.index, Sem.run_bind, asIntOf, Sem.run_pure, Result.andThen_ok, run_underlying Try.underlying108, h0, and_self, if_true]
  simp [sizeOf, typeInfo, Sem.run_bind, hi, hs, part, hagg, hx]

theorem three_of {p : Nat → Prop} (h0 : p 0) (h1 : p 1) (h2 : p 2) : ∀ j, j < 3 → p j
  | 0, _ => h0 | 1, _ => h1 | 2, _ => h2

set_option maxRecDepth 20000 in
set_option maxHeartbeats 2000000 in
theorem hintOf_any (s t : ByteArray) (w : World) (hT : TwoD s t) :
    Calls Try.prog 62 #[.string s, .string t] w fun e w' => e = .returned (.agg #[.string s, .int .i64 (hiP s t), .int .i64 (hiO s t)]) ∧ Below w.heap.size w w' := by
  have HT := Lib.hid hT
  obtain ⟨hn6, hst, hts⟩ : s.size ≤ 6 ∧ s.size ≤ t.size ∧ t.size ≤ s.size := ⟨hT.n6, by rw [hT.eq]; exact Nat.le_refl _, by rw [hT.eq]; exact Nat.le_refl _⟩
  clear hT
  go_enter Try.func62, Try.ntmps62
  go_wp2
  go_loopw [16] (fun i wr => ∃ k : Nat, k ≤ s.size ∧ i = .int .i64 k ∧ Cells wr w.heap.size 3 (h3F ByteArray.empty 0 0) ∧ Cells wr (w.heap.size + 1) 3 (h3F s (plN s t k : Nat) 0) ∧ Cells wr (w.heap.size + 1 + 1) 10 (ctF s k) ∧ Cells wr (w.heap.size + 1 + 1 + 1) 10 (ctF t k) ∧ Below w.heap.size w wr) (fun i _ => s.size - (intOf i).toNat)
  case atStart =>
    refine ⟨0, by omega, rfl, ?_, ?_, ?_, ?_, ?_⟩
    · exact (((cells_lit rfl (three_of rfl rfl rfl)).alloc _).alloc _).alloc _
    · exact ((cells_lit (by simp) (three_of rfl rfl rfl)).alloc _).alloc _
    · exact (cells_lit (by simp) (ten_of rfl rfl rfl rfl rfl rfl rfl rfl rfl rfl)).alloc _
    · exact cells_lit (by simp) (ten_of rfl rfl rfl rfl rfl rfl rfl rfl rfl rfl)
    · (repeat (first | assumption | exact Below.refl _ _ | (refine Below.alloc ?_ (by first | omega | (simp; done) | (simp; omega)) _) | (refine Below.setCell ?_ (by first | omega | (simp; done) | (simp; omega)) _) | refine bel_drewN ?_ _ | refine bel_drew ?_ | (refine bel_call ?_ (by assumption))))
  case round =>
    obtain ⟨k, hk, rfl, c0, c1, c2, c3, hB⟩ := hrel
    have HC0 := Lib.hid c0
    have HC1 := Lib.hid c1
    have HC2 := Lib.hid c2
    have HC3 := Lib.hid c3
    clear c0 c1 c2 c3
    have hpl := plN_le s t k
    by_cases hp : k < s.size
    · have hp' : k < t.size := by omega
      obtain ⟨d, hd9, hd⟩ := hk_digit HT.out.ds hp
      obtain ⟨e, he9, he⟩ := hk_digit HT.out.dt hp'
      have l1 : wr.cell? ⟨w.heap.size + 1, 1, none⟩ = some (.int .i64 (plN s t k : Nat)) := HC1.out.cell (show 1 < 3 by omega)
      have f1 : wr.frozen? ⟨w.heap.size + 1, 1, none⟩ = false := HC1.out.frozen (show 1 < 3 by omega)
      have l2 : wr.cell? ⟨w.heap.size + 1 + 1, d, none⟩ = some (.int .i64 (ctN s d k : Nat)) := HC2.out.cell (by omega)
      have f2 : wr.frozen? ⟨w.heap.size + 1 + 1, d, none⟩ = false := HC2.out.frozen (show d < 10 by omega)
      have l3 : wr.cell? ⟨w.heap.size + 1 + 1 + 1, e, none⟩ = some (.int .i64 (ctN t e k : Nat)) := HC3.out.cell (by omega)
      have f3 : wr.frozen? ⟨w.heap.size + 1 + 1 + 1, e, none⟩ = false := HC3.out.frozen (show e < 10 by omega)
      have n1 := ctN_le s d k
      have n2 := ctN_le t e k
      by_cases hq : (s[k].toNat : Int) = t[k].toNat
      · have HV := Lib.hid (plN_yes hp hp' hq)
        go_wp2
        go_quiet (fail)
        go_wp2
        go_roundw
        case rel =>
          refine ⟨k + 1, by omega, by go_num, ?_, ?_, ?_, ?_, ?_⟩
          · exact (((HC0.out.drewN _).far (by dsimp only; omega) _).far (by dsimp only; omega) _).far (by dsimp only; omega) _
          · exact ((((HC1.out.drewN _).set_ (show 1 < 3 by omega) _).far (by dsimp only; omega) _).far (by dsimp only; omega) _).congr (fun j _ => h3F_step HV.out j)
          · exact ((((HC2.out.drewN _).far (by dsimp only; omega) _).set_ (show d < 10 by omega) _).far (by dsimp only; omega) _).congr (fun j _ => ctF_step hp hd j)
          · exact ((((HC3.out.drewN _).far (by dsimp only; omega) _).far (by dsimp only; omega) _).set_ (show e < 10 by omega) _).congr (fun j _ => ctF_step hp' he j)
          · exact (((bel_drewN hB _).setCell (by dsimp only; omega) _).setCell (by dsimp only; omega) _).setCell (by dsimp only; omega) _
        case measure => simp [intOf]; omega
      · have HV := Lib.hid (plN_no hp hp' hq)
        go_wp2
        go_quiet (fail)
        go_wp2
        go_roundw
        case rel =>
          refine ⟨k + 1, by omega, by go_num, ?_, ?_, ?_, ?_, ?_⟩
          · exact ((HC0.out.drewN _).far (by dsimp only; omega) _).far (by dsimp only; omega) _
          · rw [HV.out]; exact ((HC1.out.drewN _).far (by dsimp only; omega) _).far (by dsimp only; omega) _
          · exact (((HC2.out.drewN _).set_ (show d < 10 by omega) _).far (by dsimp only; omega) _).congr (fun j _ => ctF_step hp hd j)
          · exact (((HC3.out.drewN _).far (by dsimp only; omega) _).set_ (show e < 10 by omega) _).congr (fun j _ => ctF_step hp' he j)
          · exact ((bel_drewN hB _).setCell (by dsimp only; omega) _).setCell (by dsimp only; omega) _
        case measure => simp [intOf]; omega
    · obtain rfl : k = s.size := by omega
      have m0 : wr.cell? ⟨w.heap.size + 1 + 1, 0, none⟩ = some (.int .i64 (ctN s 0 s.size : Nat)) := HC2.out.cell (show 0 < 10 by omega)
      have m1 : wr.cell? ⟨w.heap.size + 1 + 1, 1, none⟩ = some (.int .i64 (ctN s 1 s.size : Nat)) := HC2.out.cell (show 1 < 10 by omega)
      have m2 : wr.cell? ⟨w.heap.size + 1 + 1, 2, none⟩ = some (.int .i64 (ctN s 2 s.size : Nat)) := HC2.out.cell (show 2 < 10 by omega)
      have m3 : wr.cell? ⟨w.heap.size + 1 + 1, 3, none⟩ = some (.int .i64 (ctN s 3 s.size : Nat)) := HC2.out.cell (show 3 < 10 by omega)
      have m4 : wr.cell? ⟨w.heap.size + 1 + 1, 4, none⟩ = some (.int .i64 (ctN s 4 s.size : Nat)) := HC2.out.cell (show 4 < 10 by omega)
      have m5 : wr.cell? ⟨w.heap.size + 1 + 1, 5, none⟩ = some (.int .i64 (ctN s 5 s.size : Nat)) := HC2.out.cell (show 5 < 10 by omega)
      have m6 : wr.cell? ⟨w.heap.size + 1 + 1, 6, none⟩ = some (.int .i64 (ctN s 6 s.size : Nat)) := HC2.out.cell (show 6 < 10 by omega)
      have m7 : wr.cell? ⟨w.heap.size + 1 + 1, 7, none⟩ = some (.int .i64 (ctN s 7 s.size : Nat)) := HC2.out.cell (show 7 < 10 by omega)
      have m8 : wr.cell? ⟨w.heap.size + 1 + 1, 8, none⟩ = some (.int .i64 (ctN s 8 s.size : Nat)) := HC2.out.cell (show 8 < 10 by omega)
      have m9 : wr.cell? ⟨w.heap.size + 1 + 1, 9, none⟩ = some (.int .i64 (ctN s 9 s.size : Nat)) := HC2.out.cell (show 9 < 10 by omega)
      go_wp2
      clear m0 m1 m2 m3 m4 m5 m6 m7 m8 m9
      obtain ⟨xs, hxs⟩ : ∃ xs : Array Value, xs = #[.int .i64 (ctN s 0 s.size : Nat), .int .i64 (ctN s 1 s.size : Nat), .int .i64 (ctN s 2 s.size : Nat), .int .i64 (ctN s 3 s.size : Nat), .int .i64 (ctN s 4 s.size : Nat), .int .i64 (ctN s 5 s.size : Nat), .int .i64 (ctN s 6 s.size : Nat), .int .i64 (ctN s 7 s.size : Nat), .int .i64 (ctN s 8 s.size : Nat), .int .i64 (ctN s 9 s.size : Nat)] := ⟨_, rfl⟩
      rw [← hxs]
      have hix : ∀ d, d < 10 → xs[d]? = some (.int .i64 (ctN s d s.size : Nat)) := by
        subst hxs
        exact ten_of rfl rfl rfl rfl rfl rfl rfl rfl rfl rfl
      clear hxs
      have HX := Lib.hid hix
      clear hix
      have HP := Lib.hid hpl
      clear hpl
      obtain ⟨w1, hw1⟩ : ∃ w1, w1 = wr := ⟨wr, rfl⟩
      subst hw1
      go_loopw [9, 48] (fun c i wr => ∃ d : Nat, d ≤ 10 ∧ i = .int .i64 d ∧ c = .int .i64 (cmN s t s.size d : Nat) ∧ wr = w1) (fun _ i _ => 10 - (intOf i).toNat)
      case atStart => exact ⟨0, by omega, rfl, rfl, rfl⟩
      case round =>
        obtain ⟨d, hd, rfl, rfl, rfl⟩ := hrel
        have hcm := cmN_le s t s.size d
        have hcm2 : s.size * d ≤ 60 := Nat.le_trans (Nat.mul_le_mul hn6 hd) (by omega)
        by_cases hd9 : d < 10
        · have l3 : wr.cell? ⟨w.heap.size + 1 + 1 + 1, d, none⟩ = some (.int .i64 (ctN t d s.size : Nat)) := HC3.out.cell hd9
          have n1 := ctN_le s d s.size
          have n2 := ctN_le t d s.size
          have hidx := index_ten hd9 (HX.out d hd9)
          have HM : Hid (cmN s t s.size (d + 1) = cmN s t s.size d + min (ctN s d s.size) (ctN t d s.size)) := Lib.hid rfl
          go_wp2
          go_roundw
          case rel => exact ⟨d + 1, by omega, by go_num, congrArg (Value.int .i64) (by rw [HM.out]; split <;> omega), trivial⟩
          case measure => simp [intOf]; omega
        · obtain rfl : d = 10 := by omega
          have l1 : wr.cell? ⟨w.heap.size + 1, 0, none⟩ = some (.string s) := HC1.out.cell (show 0 < 3 by omega)
          have l2 : wr.cell? ⟨w.heap.size + 1, 1, none⟩ = some (.int .i64 (plN s t s.size : Nat)) := HC1.out.cell (show 1 < 3 by omega)
          have l4 : wr.cell? ⟨w.heap.size + 1, 2, none⟩ = some (.int .i64 0) := HC1.out.cell (show 2 < 3 by omega)
          have f4 : wr.frozen? ⟨w.heap.size + 1, 2, none⟩ = false := HC1.out.frozen (show 2 < 3 by omega)
          have k0 : wr.cell? ⟨w.heap.size, 0, none⟩ = some (.string ByteArray.empty) := HC0.out.cell (show 0 < 3 by omega)
          have k1 : wr.cell? ⟨w.heap.size, 1, none⟩ = some (.int .i64 0) := HC0.out.cell (show 1 < 3 by omega)
          have k2 : wr.cell? ⟨w.heap.size, 2, none⟩ = some (.int .i64 0) := HC0.out.cell (show 2 < 3 by omega)
          have k3 : wr.frozen? ⟨w.heap.size, 0, none⟩ = false := HC0.out.frozen (show 0 < 3 by omega)
          have k4 : wr.frozen? ⟨w.heap.size, 1, none⟩ = false := HC0.out.frozen (show 1 < 3 by omega)
          have k5 : wr.frozen? ⟨w.heap.size, 2, none⟩ = false := HC0.out.frozen (show 2 < 3 by omega)
          have hpl := HP.out
          go_wp2
          have HF := Lib.hid ((((HC0.out.far (p := ⟨w.heap.size + 1, 2, none⟩) (by simp) (.int .i64 ((cmN s t s.size 10 : Int) - (plN s t s.size : Int)))).set_ (show 0 < 3 by omega) (.string s)).set_ (show 1 < 3 by omega) (.int .i64 (plN s t s.size : Nat))).set_ (show 2 < 3 by omega) (.int .i64 ((cmN s t s.size 10 : Int) - (plN s t s.size : Int))))
          refine bodyPost_ret (hint_resG rfl _ _ _ _ _ _ rfl (HF.out.cell (show 0 < 3 by omega)) (HF.out.cell (show 1 < 3 by omega)) (HF.out.cell (show 2 < 3 by omega))) rfl ?_
          refine ⟨rfl, ?_⟩
          refine Below.setCell (Below.setCell (Below.setCell (Below.setCell hB ?_ _) ?_ _) ?_ _) ?_ _ <;> simp

end Go.Proofs.Ytgopaflggbgplaa

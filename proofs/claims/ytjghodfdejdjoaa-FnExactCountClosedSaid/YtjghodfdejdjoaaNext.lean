/- The codes one turn away, as the program lists them. No conditions. -/
import Derived.Test.YtjghodfdejdjoaaSets
import Derived.Test.YtjghodfdejdjoaaTurnDigits
import Derived.Test.YtjghodfdejdjoaaHasTurns
import Derived.Test.YtjghodfdejdjoaaDigits
namespace Go.Proofs.Ytjghodfdejdjoaa
open Go.ChangeShapes Go.WideShapes Go.ChangeAt Go.RowKit Go.Joins

/-- The code behind the turn of number i: forth and back, wheel by wheel. -/
def nxY (i : Nat) : Int := if i % 2 = 0 then 1 else -1

def nxT (b : Int) (ds : List Int) (i : Nat) : ByteArray := textOf (stepD b ds ((i / 2 : Nat) : Int) (nxY i))

def nxC (b : Int) (ds : List Int) (m : Nat) : List ByteArray := (List.range m).map (nxT b ds)

theorem nxC_length (b : Int) (ds : List Int) (m : Nat) : (nxC b ds m).length = m := by simp [nxC]

theorem nxC_succ (b : Int) (ds : List Int) (m : Nat) : nxC b ds (m + 1) = nxC b ds m ++ [nxT b ds m] := by simp [nxC, List.range_succ]

def nextL (a b : Int) (s : ByteArray) : List ByteArray := if askB a b s then ofKey (tidy (keyL (nxC b (dg s) (2 * s.size)))) else []

theorem nextL_yes {a b : Int} {s : ByteArray} (h : askB a b s = true) : nextL a b s = ofKey (tidy (keyL (nxC b (dg s) (2 * s.size)))) := by unfold nextL; rw [h]; rfl

theorem nextL_no {a b : Int} {s : ByteArray} (h : askB a b s = false) : nextL a b s = [] := by unfold nextL; rw [h]; rfl

theorem keyL_length (ts : List ByteArray) : (keyL ts).length = ts.length := by simp [keyL]

theorem ofKey_length (l : List (List UInt8)) : (ofKey l).length = l.length := by simp [ofKey]

theorem nxY_turn {a : Int} {k q : Nat} (hk : (k : Int) < a) (hq : q < 2) : turnB a (k : Int) (nxY (2 * k + q)) = true := by
  unfold turnB inB nxY
  have : q = 0 ∨ q = 1 := by omega
  rcases this with rfl | rfl
  · rw [if_pos (by omega)]; simp; omega
  · rw [if_neg (by omega)]; simp; omega

/-- A list of texts handed back, and whether it has been found. -/
def StrsOut (w : World) (ts : List ByteArray) (ok : Bool) (e : Ending) (w' : World) : Prop :=
  ∃ A c, e = .returned (.tuple #[.slice A ts.length c, .bool ok]) ∧ OwnS w' w.heap.size A ts.length ts ∧ Below w.heap.size w w'

theorem strs_none {w w' : World} (hb : Below w.heap.size w w') : StrsOut w [] false (.returned (.tuple #[.slice none 0 0, .bool false])) w' :=
  ⟨none, 0, rfl, ⟨rfl, by decide, .inl rfl⟩, hb⟩

theorem strs_some {w w' : World} {ts : List ByteArray} {t : TypeId} {v : Value} {base : Nat} {n : Nat} (hn : ts.length = n) (hs : n ≤ 1000) (hbs : w.heap.size ≤ base) (ho : w'.ownsRow base t 1 v n (sv ts)) (hb : Below w.heap.size w w') : StrsOut w ts true (.returned (.tuple #[v, .bool true])) w' := by
  subst hn
  obtain ⟨A, c, rfl, hO⟩ := own_strs ho (by omega)
  exact ⟨A, c, rfl, hO.base hbs, hb⟩

/-- Two turns of one wheel, as cells. -/
theorem cells_pair {w : World} {x : Int} {t : TypeId} : Cells (w.alloc (.cells #[.int .i64 x, .int .i64 1, .int .i64 x, .int .i64 (-1)] t)) w.heap.size 4 (turnF [(x, 1), (x, -1)]) := by
  refine ⟨by simp, fun j hj => ?_⟩
  rw [World.cell?_alloc_new, World.frozen?_alloc_new]
  have : j = 0 ∨ j = 1 ∨ j = 2 ∨ j = 3 := by omega
  rcases this with rfl | rfl | rfl | rfl <;> exact ⟨rfl, rfl⟩

theorem Cells.grown {w w' : World} {g n : Nat} {f : Nat → Value} {row : Option Nat} (h : Cells w g n f) (hg : w.grownBy w' row) (hne : row ≠ some g) : Cells w' g n f := by
  obtain ⟨_, _, _, hs, hb⟩ := hg
  have e := hb g h.lt (fun e => hne e.symm)
  refine ⟨Nat.lt_of_lt_of_le h.lt hs, fun j hj => ?_⟩
  have e1 : w'.cell? ⟨g, j, none⟩ = w.cell? ⟨g, j, none⟩ := by simp only [World.cell?, e]
  have e2 : w'.frozen? ⟨g, j, none⟩ = w.frozen? ⟨g, j, none⟩ := by simp only [World.frozen?, e]
  rw [e1, e2]
  exact h.at_ j hj

theorem nxC_next {b : Int} {ds : List Int} {k q : Nat} (hq : q < 2) : nxC b ds (2 * k + q + 1) = nxC b ds (2 * k + q) ++ [textOf (stepD b ds (k : Int) (nxY (2 * k + q)))] := by
  rw [nxC_succ, nxT, show (2 * k + q) / 2 = k by omega]

theorem pair_at {x : Int} {k q : Nat} (hq : q < 2) : ([(x, 1), (x, -1)] : List (Int × Int)).getD q (0, 0) = (x, nxY (2 * k + q)) := by
  have : q = 0 ∨ q = 1 := by omega
  unfold nxY
  rcases this with rfl | rfl
  · rw [if_pos (by omega)]; rfl
  · rw [if_neg (by omega)]; rfl

set_option maxHeartbeats 2000000 in
set_option maxRecDepth 100000 in
theorem next_any (a b : Int) (s : ByteArray) (w : World) (hs : s.size ≤ maxLen) :
    Calls Try.prog 43 #[.agg #[.int .i64 a, .int .i64 b], .string s] w (StrsOut w (nextL a b s) (askB a b s)) := by
  have HS := Lib.hid hs
  clear hs
  by_cases ha : askB a b s = true
  · have HY := Lib.hid ha
    have HA := Lib.hid (asked ha)
    obtain ⟨n1, n6, b2, b10⟩ : 1 ≤ s.size ∧ s.size ≤ 6 ∧ 2 ≤ b ∧ b ≤ 10 := ⟨HA.out.n1, HA.out.n6, HA.out.b2, HA.out.b10⟩
    obtain ⟨i0, hi, hy0, hy1, hy2⟩ := info_parts info_string
    have HDS : Hid ((dg s).length = s.size) := Lib.hid (dg_length s)
    have HGD := Lib.hid (Good.of HA.out)
    clear ha
    go_enter Try.func43, Try.ntmps43
    go_wp2_with (first | (go_at_call 51; refine (hasCode_any _ _ _ _ HS.out).mono ?_; rw [ask_eq, HY.out]; rintro e w1 ⟨rfl, hb⟩; have l0 : w1.cell? ⟨w.heap.size, 0, none⟩ = some (.int .i64 a) := by { rw [hb.cell (p := ⟨w.heap.size, 0, none⟩) (by simp)]; simp }; have l1 : w1.cell? ⟨w.heap.size, 1, none⟩ = some (.int .i64 b) := by { rw [hb.cell (p := ⟨w.heap.size, 1, none⟩) (by simp)]; simp }))
    have z1 : w.heap.size < w1.heap.size := by have := hb.size; simp at this; omega
    have HB1 := Lib.hid (show Below w.heap.size w w1 by (repeat (first | assumption | exact Below.refl _ _ | (refine Below.alloc ?_ (by first | omega | (simp; done) | (simp; omega)) _) | (refine Below.setCell ?_ (by first | omega | (simp; done) | (simp; omega)) _) | refine bel_drewN ?_ _ | refine bel_drew ?_ | (refine bel_call ?_ (by assumption)))))
    have L0 := Lib.hid l0
    have L1 := Lib.hid l1
    clear hb l0 l1
    go_loopw [6, 17] (fun v i wr => ∃ k : Nat, k ≤ s.size ∧ i = .int .i64 k ∧ wr.ownsRow w1.heap.size 9 1 v (2 * k) (sv (nxC b (dg s) (2 * k))) ∧ Below w1.heap.size w1 wr) (fun _ i _ => s.size - (intOf i).toNat)
    case atStart => exact ⟨0, by omega, rfl, World.ownsRow_nil _ _ _ _, Below.refl _ _⟩
    case round =>
      obtain ⟨k, hk, rfl, hown, hB⟩ := hrel
      have HOW := Lib.hid hown
      clear hown
      by_cases hlt : k < s.size
      · have hka : (k : Int) < a := by have := HA.out.size; omega
        obtain ⟨wi, hw⟩ : ∃ wi, wi = wr := ⟨_, rfl⟩
        subst hw
        go_wp2_with (first | (go_at_call 52; refine (forth_any _ _).mono ?_; rintro e w2 ⟨rfl, hb2⟩) | (go_at_call 53; refine (back_any _ _).mono ?_; rintro e w3 ⟨rfl, hb3⟩))
        have hb23 := bel_call hb2 hb3
        have hP := cells_pair (w := w3) (x := (k : Int)) (t := 55)
        have HO4 := Lib.hid ((own_keeps HOW.out hb23).alloc (.cells #[.int .i64 (k : Int), .int .i64 1, .int .i64 (k : Int), .int .i64 (-1)] 55))
        have hB4 : Below w1.heap.size w1 (w3.alloc (.cells #[.int .i64 (k : Int), .int .i64 1, .int .i64 (k : Int), .int .i64 (-1)] 55)) := (bel_call hB hb23).alloc (bel_call hB hb23).size _
        generalize hG : w3.heap.size = G at hP
        generalize (w3.alloc (.cells #[.int .i64 (k : Int), .int .i64 1, .int .i64 (k : Int), .int .i64 (-1)] 55)) = w4 at hP HO4 hB4
        have hne : u6.ownBlock ≠ some G := fun e => by
          have h1 := ((own_keeps HOW.out hb23).lt G e).2
          omega
        clear hb2 hb3 hb23 hB hG
        go_loopw [6, 26] (fun v i wr => ∃ q : Nat, q ≤ 2 ∧ i = .int .i64 q ∧ wr.ownsRow w1.heap.size 9 1 v (2 * k + q) (sv (nxC b (dg s) (2 * k + q))) ∧ v.ownBlock ≠ some G ∧ Cells wr G 4 (turnF [((k : Int), 1), ((k : Int), -1)]) ∧ Below w1.heap.size w1 wr) (fun _ i _ => 2 - (intOf i).toNat)
        case atStart => exact ⟨0, by omega, rfl, HO4.out, hne, hP, hB4⟩
        case round =>
          clear hP hB4 hne
          obtain ⟨q, hq, rfl, hown, hne, hP, hB⟩ := hrel
          have HOQ := Lib.hid hown
          have HNE := Lib.hid hne
          have HP := Lib.hid hP
          clear hown hne hP
          by_cases hqt : q < 2
          · have p0 : wr.cell? ⟨G, q * 2, none⟩ = some (.int .i64 (k : Int)) := by
              rw [HP.out.cell (by omega), turnF_0, pair_at (k := k) hqt]
            have p1 : wr.cell? ⟨G, q * 2 + 1, none⟩ = some (.int .i64 (nxY (2 * k + q))) := by
              rw [HP.out.cell (by omega), turnF_1, pair_at (k := k) hqt]
            have HN := Lib.hid (nxC_next (b := b) (ds := dg s) (k := k) hqt)
            have HTu := Lib.hid (nxY_turn hka hqt)
            generalize nxY (2 * k + q) = y at p1 HN HTu
            have r0 := (hB.cell (p := ⟨w.heap.size, 0, none⟩) z1).trans L0.out
            have r1 := (hB.cell (p := ⟨w.heap.size, 1, none⟩) z1).trans L1.out
            have zr : w.heap.size < wr.heap.size := Nat.lt_of_lt_of_le z1 hB.size
            go_wp2_with (first
              | (go_at_call 54; refine (digitsOf_any _ _ HA.out.digits (by omega)).mono ?_; rintro e w5 ⟨g5, c5, rfl, hg5, hC5, hb5⟩
                 have r2 : w5.cell? ⟨w.heap.size, 0, none⟩ = some (.int .i64 a) := (hb5.cell (p := ⟨w.heap.size, 0, none⟩) (by simp; omega)).trans (by rw [World.cell?_alloc_lt _ _ _ zr]; exact r0)
                 have r3 : w5.cell? ⟨w.heap.size, 1, none⟩ = some (.int .i64 b) := (hb5.cell (p := ⟨w.heap.size, 1, none⟩) (by simp; omega)).trans (by rw [World.cell?_alloc_lt _ _ _ zr]; exact r1)
                 have r4 : w5.cell? ⟨wr.heap.size, 0, none⟩ = some (.int .i64 (k : Int)) := (hb5.cell (p := ⟨wr.heap.size, 0, none⟩) (by simp)).trans (by simp)
                 have r5 : w5.cell? ⟨wr.heap.size, 1, none⟩ = some (.int .i64 y) := (hb5.cell (p := ⟨wr.heap.size, 1, none⟩) (by simp)).trans (by simp))
              | (go_at_call 55; refine (turnDigits_any _ _ _ _ _ _ _ _ _ HDS.out HGD.out b2 b10 HTu.out hC5).mono ?_; rintro e w6 ⟨rfl, hC6, hz6, hB6⟩)
              | (go_at_call 42; refine (codeOf_n _ _ _ ((stepD_length _ _ _ _).trans HDS.out) _ hC6 ((HGD.out.step b2 HTu.out).digits b10) (by omega)).mono ?_; rintro e w7 ⟨rfl, hb7⟩
                 have hbA : Below wr.heap.size wr w7 := bel_call ((bel_call ((Below.refl _ _).alloc (Nat.le_refl _) _) hb5).trans (hB6 _ (Nat.le_trans (by simp) hg5) (Nat.le_trans (by simp) hb5.size))) hb7
                 have HBA := Lib.hid hbA
                 have HO7 := Lib.hid ((own_keeps HOQ.out hbA).alloc (.cells #[.string (textOf (stepD b (dg s) (k : Int) y))] 9))
                 have HP7 := Lib.hid ((HP.out.call hbA).alloc (.cells #[.string (textOf (stepD b (dg s) (k : Int) y))] 9))
                 have HG7 := Lib.hid (Nat.lt_of_lt_of_le HP.out.lt hbA.size)
                 clear hbA hb7)
              | (at_builtin; refine wpList_append_own_at _ rfl _ _ 24 rfl w1.heap.size 9 i0 (.string ByteArray.empty) 1 16 Try.underlying24 hi hy0 hy1 hy2 rfl (by decide) _ _ _ rfl HO7.out ⟨w7.heap.size, 0, none⟩ 1 1 [.string (textOf (stepD b (dg s) (k : Int) y))] rfl rfl (news_of rfl) (by simp [Value.oneCell']) (by unfold maxLen; omega) (by omega) (by have h1 := hB.size; have h2 := HBA.out.size; simp; omega) ?_; intro v' w8 hown' hgrow hiff hblk; clear hiff))
            have HB8 := Lib.hid (((bel_call hB HBA.out).alloc (bel_call hB HBA.out).size _).grown hgrow (by have h1 := hB.size; have h2 := HBA.out.size; simp; omega) (fun j hj => ((own_keeps HOQ.out HBA.out).lt j hj).1))
            have HP8 := Lib.hid (HP7.out.grown hgrow HNE.out)
            have HN8 : Hid (v'.ownBlock ≠ some G) := Lib.hid (fun e => by
              rcases hblk with h | h
              · exact HNE.out (h.symm.trans e)
              · rw [h] at e; injection e with e; have := HG7.out; simp at e; omega)
            have HO8 : Hid (w8.ownsRow w1.heap.size 9 1 v' (2 * k + (q + 1)) (sv (nxC b (dg s) (2 * k + (q + 1))))) := Lib.hid (by
              rw [show 2 * k + (q + 1) = 2 * k + q + 1 by omega, HN.out, sv_snoc]; exact hown')
            clear hgrow hown' hblk
            go_wp2_with fail
            go_roundw
            case rel => exact ⟨q + 1, by omega, by go_num, HO8.out, HN8.out, HP8.out, HB8.out⟩
            case measure => simp [intOf]; omega
          · obtain rfl : q = 2 := by omega
            go_wp2_with fail
            go_roundw
            case rel => exact ⟨k + 1, by omega, by go_num, HOQ.out, hB⟩
            case measure => simp [intOf]; omega
      · obtain rfl : k = s.size := by omega
        have hka : ¬ ((s.size : Int) < a) := by have := HA.out.size; omega
        obtain ⟨ss, hss⟩ : ∃ ss, keyL (nxC b (dg s) (2 * s.size)) = ss := ⟨_, rfl⟩
        have how := HOW.out
        rw [sv_key, hss] at how
        have hnn : u6 ≠ .slice none 0 0 := fun e => by
          obtain ⟨g, c, e', _⟩ := how.form (by omega)
          rw [e'] at e; cases e
        obtain ⟨g, cap, rfl, hbg, hgl, hncap, hcm, hlen, hH⟩ := Lib.holds_of_ownsRow how hnn
        have hsort := Go.Proofs.Try.slices_Sort_string g 0 cap ss wr hH hgl (by omega)
        rw [hlen] at hsort
        have HX := Lib.hid (And.intro how hH)
        have HSS := Lib.hid hss
        have HLN := Lib.hid hlen
        have HLE := Lib.hid (And.intro hncap hcm)
        clear how hH hnn HOW hss hlen hncap hcm
        go_wp2_with (first
          | (go_at_call 56; refine hsort.mono ?_; rintro e w2 ⟨rfl, nn, os, rfl⟩
             have hl2 : (ss.mergeSort fun x y => decide (x ≤ y)).length = 2 * s.size := by rw [List.length_mergeSort]; exact HLN.out
             have hH2 := Sort.holds_grow encStr _ os g 0 _ (by simpa [Sort.putRow, Sort.mapBlock, Sort.ahead] using hgl) (Sort.holds_putRow encStr _ g 0 _ (ss.mergeSort fun x y => decide (x ≤ y)).toArray (Sort.holds_ahead encStr wr nn g 0 _ HX.out.2) (by simp))
             have hcomp := Go.Proofs.Try.slices_Compact_string g 0 cap (ss.mergeSort fun x y => decide (x ≤ y)) _ hH2 (by omega) (by have := HLE.out.1; omega)
             rw [hl2] at hcomp
             clear hH2 hsort hl2)
          | (go_at_call 57; refine hcomp.mono ?_; rintro e w3 ⟨rfl, q, rfl⟩; clear hcomp))
        go_ret2
        have hend := tidied (q := q) (nn := nn) (os := os) HX.out.1 (HB1.out.trans (hB.mono (Nat.le_of_lt z1))) (Nat.le_of_lt z1) hbg HLN.out
        rw [HY.out, nextL_yes HY.out, HSS.out]
        exact strs_some (ofKey_length _) (by have := tidy_le ss; have := HLN.out; omega) (Nat.le_of_lt z1) (by rw [sv_ofKey]; exact hend.1) hend.2
  · have HY := Lib.hid (Bool.eq_false_iff.2 ha)
    clear ha
    go_enter Try.func43, Try.ntmps43
    go_wp2_with (go_at_call 51; refine (hasCode_any _ _ _ _ HS.out).mono ?_; rw [ask_eq, HY.out]; rintro e w1 ⟨rfl, hb⟩; obtain ⟨hc, hf, hz⟩ := bcell hb; have hz0 : w.heap.size < w1.heap.size := by (try simp at hz); omega)
    go_ret2
    rw [HY.out, nextL_no HY.out]
    refine strs_none ?_
    (repeat (first | assumption | exact Below.refl _ _ | (refine Below.alloc ?_ (by first | omega | (simp; done) | (simp; omega)) _) | (refine Below.setCell ?_ (by first | omega | (simp; done) | (simp; omega)) _) | refine bel_drewN ?_ _ | refine bel_drew ?_ | (refine bel_call ?_ (by assumption))))

end Go.Proofs.Ytjghodfdejdjoaa

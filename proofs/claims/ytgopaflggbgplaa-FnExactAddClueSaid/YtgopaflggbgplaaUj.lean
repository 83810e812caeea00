/- The codes that fit clues, as both programs find them. For puzzles. -/
import Derived.Test.YtgopaflggbgplaaUi
import Derived.Test.YtgopaflggbgplaaStrs
namespace Go.Proofs.Ytgopaflggbgplaa
open Go.ChangeShapes Go.WideShapes Go.ChangeAt Go.RowKit Go.Joins

/-- A clue of a list that came in, in a world behind. -/
theorem ArgC.at {w wr : World} {A : Option Addr} {n : Nat} {cs : List Clu} (h : ArgC w A n cs) (hB : Below w.heap.size w wr) {k : Nat} (hk : k < n) : ∃ b off, A = some ⟨b, off, none⟩ ∧ wr.cell? ⟨b, off + k * 3, none⟩ = some (.int .i64 (cs.getD k cu0).1) ∧ wr.cell? ⟨b, off + k * 3 + 1, none⟩ = some (.int .i64 (cs.getD k cu0).2.1) ∧ wr.cell? ⟨b, off + k * 3 + 2, none⟩ = some (.int .i64 (cs.getD k cu0).2.2) := by
  obtain ⟨b, off, e, hb, hc⟩ := h.at_.resolve_left (by omega)
  refine ⟨b, off, e, ?_, ?_, ?_⟩
  · rw [hB.cell (p := ⟨b, off + k * 3, none⟩) hb]; exact (hc k hk).1
  · rw [hB.cell (p := ⟨b, off + k * 3 + 1, none⟩) hb]; exact (hc k hk).2.1
  · rw [hB.cell (p := ⟨b, off + k * 3 + 2, none⟩) hb]; exact (hc k hk).2.2

theorem all_at {cs : List Clu} {p : Clu → Bool} (h : cs.all p = true) {k : Nat} (hk : k < cs.length) : p (cs.getD k cu0) = true := by
  have := List.all_eq_true.1 h cs[k] (List.getElem_mem _)
  simpa [List.getD, List.getElem?_eq_getElem hk] using this

/-- The predicate that the program hands over: a lock's box, a code's box. -/
structure Boxes (w : World) (B G : Nat) (a b : Int) (s : ByteArray) : Prop where
  l0 : w.cell? ⟨B, 0, none⟩ = some (.int .i64 a)
  l1 : w.cell? ⟨B, 1, none⟩ = some (.int .i64 b)
  c0 : w.cell? ⟨G, 0, none⟩ = some (.string s)
  lt : B < w.heap.size ∧ G < w.heap.size

theorem Boxes.below {w w' : World} {B G : Nat} {a b : Int} {s : ByteArray} (h : Boxes w B G a b s) (hb : Below w.heap.size w w') : Boxes w' B G a b s :=
  ⟨by rw [hb.cell (p := ⟨B, 0, none⟩) h.lt.1]; exact h.l0, by rw [hb.cell (p := ⟨B, 1, none⟩) h.lt.1]; exact h.l1, by rw [hb.cell (p := ⟨G, 0, none⟩) h.lt.2]; exact h.c0, by have := hb.size; have := h.lt; omega⟩

theorem notFits_any (B G : Nat) (a b k x y : Int) (s : ByteArray) (w : World) (hp : puzB a b = true) (hs : askB a b s = true) (h : cluB a b (k, x, y) = true) (hX : Boxes w B G a b s) :
    Calls Try.prog 54 #[.agg #[.int .i64 k, .int .i64 x, .int .i64 y], .pointer (some ⟨B, 0, none⟩), .pointer (some ⟨G, 0, none⟩)] w fun e w' => e = .returned (.bool (!(fitC a b s (k, x, y)))) ∧ Below w.heap.size w w' := by
  have HS := Lib.hid hs
  have HP := Lib.hid hp
  have HC := Lib.hid h
  obtain ⟨l0, l1, c0, hB, hG⟩ := hX
  clear hs hp h
  go_enter Try.func54, Try.ntmps54
  go_wp2_with (go_at_call 55; refine (fits_any _ _ _ _ _ _ _ HP.out HS.out HC.out).mono ?_; rintro e w1 ⟨rfl, hb⟩; obtain ⟨hc, hf, hz⟩ := bcell hb; have hz0 : w.heap.size < w1.heap.size := by (try simp at hz); omega)
  go_ret
  refine ⟨rfl, ?_⟩
  (repeat (first | assumption | exact Below.refl _ _ | (refine Below.alloc ?_ (by first | omega | (simp; done) | (simp; omega)) _) | (refine Below.setCell ?_ (by first | omega | (simp; done) | (simp; omega)) _) | refine bel_drewN ?_ _ | refine bel_drew ?_ | (refine bel_call ?_ (by assumption))))

/-- Where the first clue is that a code does not fit. -/
def IxOut (w : World) (r : Bool) (e : Ending) (w' : World) : Prop := ∃ j : Int, e = .returned (.int .i64 j) ∧ (r = true → j = -1) ∧ (r = false → 0 ≤ j) ∧ -1 ≤ j ∧ Below w.heap.size w w'

set_option maxHeartbeats 2000000 in
theorem indexFunc_any (A : Option Addr) (n c : Nat) (cs : List Clu) (B G : Nat) (a b : Int) (s : ByteArray) (w : World) (hn : n ≤ 6) (hA : ArgC w A n cs) (hp : puzB a b = true) (hs : askB a b s = true) (h : cs.all (cluB a b) = true) (hX : Boxes w B G a b s) :
    Calls Try.prog 71 #[.slice A n c, .func (.func 54) #[] #[.pointer (some ⟨B, 0, none⟩), .pointer (some ⟨G, 0, none⟩)]] w (IxOut w (fitsC a b cs s)) := by
  have HL := Lib.hid hA.len
  have HA := Lib.hid hA
  have HS := Lib.hid hs
  have HP := Lib.hid hp
  have HC := Lib.hid h
  have HX := Lib.hid hX
  obtain ⟨r, hr⟩ : ∃ r, fitsC a b cs s = r := ⟨_, rfl⟩
  rw [hr]
  have HR := Lib.hid hr
  clear hA hs hp h hX hr
  go_enter Try.func71, Try.ntmps71
  go_wp2_with fail
  go_loopw [8] (fun i wr => ∃ k : Nat, k ≤ n ∧ i = .int .i64 k ∧ (cs.take k).all (fitC a b s) = true ∧ Below w.heap.size w wr) (fun i _ => n - (intOf i).toNat)
  case atStart => exact ⟨0, by omega, rfl, rfl, Below.refl _ _⟩
  case round =>
    obtain ⟨k, hk, rfl, hall, hB⟩ := hrel
    have HAL := Lib.hid hall
    clear hall
    by_cases hlt : k < n
    · obtain ⟨bk, off, e, o0, o1, o2⟩ := HA.out.at hB hlt
      subst e
      have HF1 : Hid (fitC a b s (cs.getD k cu0) = true → (cs.take (k + 1)).all (fitC a b s) = true) := Lib.hid (cAll_snoc (by rw [HL.out]; exact hlt) HAL.out)
      have HF0 : Hid (fitC a b s (cs.getD k cu0) = false → r = false) := Lib.hid (fun e => by rw [← HR.out]; exact cAll_not (by rw [HL.out]; exact hlt) e)
      have HCK : Hid (cluB a b (cs.getD k cu0) = true) := Lib.hid (all_at HC.out (by rw [HL.out]; exact hlt))
      obtain ⟨q, hq⟩ : ∃ q, q = cs.getD k cu0 := ⟨_, rfl⟩
      rw [← hq] at o0 o1 o2 HF1 HF0 HCK
      clear hq
      obtain ⟨x, y, z⟩ := q
      dsimp only at o0 o1 o2
      by_cases hcl : fitC a b s (x, y, z) = true
      · have HD := Lib.hid hcl
        have HN := Lib.hid (HF1.out hcl)
        clear hcl
        go_wp2_with (go_at_call 54; refine (notFits_any _ _ _ _ _ _ _ s _ HP.out HS.out HCK.out (HX.out.below hB)).mono ?_; rw [HD.out]; rintro e w3 ⟨rfl, hb3⟩)
        have HW := Lib.hid (bel_call hB hb3)
        clear hb3 hB
        go_roundw
        case rel => exact ⟨k + 1, by omega, by go_num, HN.out, HW.out⟩
        case measure => simp [intOf]; omega
      · have HD := Lib.hid (Bool.eq_false_iff.2 hcl)
        have HN := Lib.hid (HF0.out HD.out)
        clear hcl
        go_wp2_with (go_at_call 54; refine (notFits_any _ _ _ _ _ _ _ s _ HP.out HS.out HCK.out (HX.out.below hB)).mono ?_; rw [HD.out]; rintro e w3 ⟨rfl, hb3⟩)
        go_ret
        exact ⟨k, rfl, (fun e => by rw [HN.out] at e; cases e), (fun _ => by omega), by omega, bel_call hB hb3⟩
    · have HN : Hid (r = true) := Lib.hid (by rw [← HR.out]; exact cAll_end (by rw [HL.out]; omega) HAL.out)
      go_wp2_with fail
      go_ret
      exact ⟨-1, rfl, (fun _ => rfl), (fun e => by rw [HN.out] at e; cases e), by omega, hB⟩

theorem containsFunc_any (A : Option Addr) (n c : Nat) (cs : List Clu) (B G : Nat) (a b : Int) (s : ByteArray) (w : World) (hn : n ≤ 6) (hA : ArgC w A n cs) (hp : puzB a b = true) (hs : askB a b s = true) (h : cs.all (cluB a b) = true) (hX : Boxes w B G a b s) :
    Calls Try.prog 53 #[.slice A n c, .func (.func 54) #[] #[.pointer (some ⟨B, 0, none⟩), .pointer (some ⟨G, 0, none⟩)]] w fun e w' => e = .returned (.bool (!(fitsC a b cs s))) ∧ Below w.heap.size w w' := by
  have HI := Lib.hid (indexFunc_any A n c cs B G a b s w hn hA hp hs h hX)
  obtain ⟨r, hr⟩ : ∃ r, fitsC a b cs s = r := ⟨_, rfl⟩
  rw [hr] at HI ⊢
  clear hA hp hs h hX hr
  go_enter Try.func53, Try.ntmps53
  go_wp2_with (go_at_call 71; refine HI.out.mono ?_; rintro e w1 ⟨j, rfl, h1, h0, hj, hb⟩)
  cases r
  · have h2 := h0 rfl
    clear h1 h0
    go_wp2_with fail
    go_ret
    exact ⟨ret_bool (by simpa using h2), hb⟩
  · have h2 := h1 rfl
    subst h2
    clear h1 h0 hj
    go_wp2_with fail
    go_ret
    exact ⟨rfl, hb⟩

/-- The first codes. -/
def allN (a b : Int) (k : Nat) : List ByteArray := (List.range k).map (cdN a b)

theorem allN_succ (a b : Int) (k : Nat) : allN a b (k + 1) = allN a b k ++ [cdN a b k] := by
  unfold allN
  rw [List.range_succ, List.map_append, List.map_cons, List.map_nil]

theorem allN_length (a b : Int) (k : Nat) : (allN a b k).length = k := by unfold allN; rw [List.length_map, List.length_range]

theorem allN_at {a b : Int} {k m : Nat} (h : m < k) : (allN a b k).getD m ByteArray.empty = cdN a b m := by
  unfold allN
  simp [List.getD, h]

/-- Texts handed back in a row of their own. -/
def StrsOut (w : World) (ts : List ByteArray) (e : Ending) (w' : World) : Prop := ∃ A c, e = .returned (.slice A ts.length c) ∧ OwnS w' w.heap.size A ts.length ts ∧ Below w.heap.size w w'

set_option maxRecDepth 100000 in
set_option maxHeartbeats 2000000 in
theorem hiAll_any (a b : Int) (w : World) (hp : puzB a b = true) :
    Calls Try.prog 67 #[.agg #[.int .i64 a, .int .i64 b]] w (StrsOut w (allN a b (cnN a b))) := by
  have HG := Lib.hid (puzB_yes hp).1
  have hc := puzB_cn hp
  obtain ⟨n, rfl⟩ : ∃ n : Nat, a = n := ⟨a.toNat, by have := good_yes HG.out; omega⟩
  generalize hm : cnN n b = m at hc
  have HQ : Hid (countZ n b = (m : Int)) := Lib.hid hc.1.symm
  have hm125 := hc.2
  obtain ⟨i0, hi, hz0, hz1, hz2⟩ := info_parts info_string
  clear hp hc hm
  go_enter Try.func67, Try.ntmps67
  go_wp2_with fail
  obtain ⟨wo, e0⟩ : ∃ wo : World, wo = w.alloc (.cells #[.int .i64 (n : Int), .int .i64 b] 30) := ⟨_, rfl⟩
  rw [← e0]
  have d0 : wo.cell? ⟨w.heap.size, 0, none⟩ = some (.int .i64 (n : Int)) := by rw [e0]; simp
  have d1 : wo.cell? ⟨w.heap.size, 1, none⟩ = some (.int .i64 b) := by rw [e0]; simp
  have dB : Below w.heap.size w wo := by rw [e0]; (repeat (first | assumption | exact Below.refl _ _ | (refine Below.alloc ?_ (by first | omega | (simp; done) | (simp; omega)) _) | (refine Below.setCell ?_ (by first | omega | (simp; done) | (simp; omega)) _) | refine bel_drewN ?_ _ | refine bel_drew ?_ | (refine bel_call ?_ (by assumption))))
  have dz : w.heap.size < wo.heap.size := by rw [e0]; simp
  clear e0
  go_loopw [3, 4] (fun v i wr => ∃ k : Nat, k ≤ m ∧ i = .int .i64 k ∧ wr.ownsRow wo.heap.size 9 1 v k (sv (allN n b k)) ∧ Below wo.heap.size wo wr) (fun _ i _ => m - (intOf i).toNat)
  case atStart => exact ⟨0, by omega, rfl, World.ownsRow_nil _ _ _ _, Below.refl _ _⟩
  case round =>
    obtain ⟨k, hk, rfl, hown, hB⟩ := hrel
    have HOW := Lib.hid hown
    clear hown
    have l0 : wr.cell? ⟨w.heap.size, 0, none⟩ = some (.int .i64 (n : Int)) := by rw [hB.cell (p := ⟨w.heap.size, 0, none⟩) dz]; exact d0
    have l1 : wr.cell? ⟨w.heap.size, 1, none⟩ = some (.int .i64 b) := by rw [hB.cell (p := ⟨w.heap.size, 1, none⟩) dz]; exact d1
    have lz : w.heap.size < wr.heap.size := by have := hB.size; omega
    by_cases hlt : k < m
    · have hki : (k : Int) < (m : Int) := by omega
      have HT : Hid (sv (allN n b (k + 1)) = sv (allN n b k) ++ [.string (cdN n b k)]) := Lib.hid (by rw [allN_succ, sv_snoc])
      go_wp2_with (first | (go_at_call 39; refine (whCountZ_any _ _ _ HG.out).mono ?_; rw [HQ.out]; rintro e w1 ⟨rfl, hb1⟩; have m0 : w1.cell? ⟨w.heap.size, 0, none⟩ = some (.int .i64 (n : Int)) := by { rw [hb1.cell (p := ⟨w.heap.size, 0, none⟩) lz]; exact l0 }; have m1 : w1.cell? ⟨w.heap.size, 1, none⟩ = some (.int .i64 b) := by { rw [hb1.cell (p := ⟨w.heap.size, 1, none⟩) lz]; exact l1 }) | (go_at_call 75; refine (whOf_any _ _ _ _ HG.out (by omega) (by omega)).mono ?_; rw [← cdN_text]; rintro e w2 ⟨rfl, hb2⟩; have HO := Lib.hid (own_keeps (own_keeps HOW.out hb1) hb2); have HB2 := Lib.hid (bel_call (bel_call hB hb1) hb2); have s2 : wo.heap.size ≤ w2.heap.size := HB2.out.size; clear hb2) | (at_builtin; refine wpList_append_own _ rfl _ _ 60 rfl wo.heap.size 9 i0 (.string ByteArray.empty) 1 16 Try.underlying60 hi hz0 hz1 hz2 rfl (by decide) _ _ _ rfl (HO.out.alloc _) ⟨w2.heap.size, 0, none⟩ 1 1 [.string (cdN n b k)] rfl rfl (news_of rfl) (by simp [Value.oneCell']) (by unfold maxLen; omega) (by omega) (by simp; omega) ?_; intro v' w3 hown' hgrow hiff; clear hiff))
      have HN := Lib.hid hown'
      have HB3 : Hid (Below wo.heap.size wo w3) := Lib.hid ((HB2.out.alloc s2 _).grown hgrow (by simp; omega) (fun j hj => (HO.out.lt j hj).1))
      clear hgrow hown'
      go_roundw
      case rel => exact ⟨k + 1, by omega, by go_num, by rw [HT.out]; exact HN.out, HB3.out⟩
      case measure => simp [intOf]; omega
    · obtain rfl : k = m := by omega
      go_wp2_with (go_at_call 39; refine (whCountZ_any _ _ _ HG.out).mono ?_; rw [HQ.out]; rintro e w1 ⟨rfl, hb1⟩)
      obtain ⟨A, c, rfl, hO⟩ := own_strs (own_keeps HOW.out hb1) (by omega)
      have HOO := Lib.hid hO
      clear hO
      go_ret
      refine ⟨A, c, by rw [allN_length]; rfl, ?_, (dB.trans (hB.mono (Nat.le_of_lt dz))).trans (hb1.mono (Nat.le_of_lt lz))⟩
      rw [allN_length]
      exact ⟨HOO.out.1, HOO.out.2.1, HOO.out.2.2.imp id fun ⟨g, e, hg, hC⟩ => ⟨g, e, by omega, hC⟩⟩

end Go.Proofs.Ytgopaflggbgplaa

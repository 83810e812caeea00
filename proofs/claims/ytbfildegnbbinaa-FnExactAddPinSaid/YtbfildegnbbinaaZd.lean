/- A depth put into pins, as both programs do it. For at most 9 depths and 7 places. -/
import Derived.Test.YtbfildegnbbinaaZc
namespace Go.Proofs.Ytbfildegnbbinaa
set_option maxRecDepth 100000
open Go.ChangeShapes Go.WideShapes Go.ChangeAt Go.RowKit Go.Joins

/-- A depth put into a list. -/
def putL (d : Int) : List Int → List Int
  | [] => [d]
  | x :: xs => if x < d then x :: putL d xs else d :: x :: xs

theorem put_mem {d y : Int} {xs : List Int} : y ∈ putL d xs ↔ y = d ∨ y ∈ xs := by
  induction xs with
  | nil => unfold putL; simp
  | cons x xs ih =>
    unfold putL
    split
    · rw [List.mem_cons, ih, List.mem_cons]
      constructor
      · rintro (h | h | h)
        · exact .inr (.inl h)
        · exact .inl h
        · exact .inr (.inr h)
      · rintro (h | h | h)
        · exact .inr (.inl h)
        · exact .inl h
        · exact .inr (.inr h)
    · rw [List.mem_cons]

theorem put_rise {D d : Int} {xs : List Int} : ∀ {lo : Int}, riseB D lo xs = true → lo ≤ d → d < D → d ∉ xs → riseB D lo (putL d xs) = true := by
  induction xs with
  | nil =>
    intro lo _ h1 h2 _
    show (decide (lo ≤ d ∧ d < D) && true) = true
    rw [decide_eq_true ⟨h1, h2⟩]; rfl
  | cons x xs ih =>
    intro lo h h1 h2 h3
    obtain ⟨a1, a2, a3⟩ := rise_yes h
    rw [List.mem_cons, not_or] at h3
    unfold putL
    split
    · rename_i hx
      show (decide (lo ≤ x ∧ x < D) && riseB D (x + 1) (putL d xs)) = true
      rw [decide_eq_true ⟨a1, a2⟩, ih a3 (by omega) h2 h3.2]; rfl
    · show (decide (lo ≤ d ∧ d < D) && (decide (d + 1 ≤ x ∧ x < D) && riseB D (x + 1) xs)) = true
      rw [decide_eq_true ⟨h1, h2⟩, decide_eq_true ⟨by omega, a2⟩, a3]; rfl

theorem put_at {d : Int} {xs : List Int} : ∀ {k : Nat}, k ≤ xs.length → (∀ j, j < k → xs.getD j 0 < d) → (k = xs.length ∨ ¬ xs.getD k 0 < d) → putL d xs = xs.take k ++ d :: xs.drop k := by
  induction xs with
  | nil => intro k hk _ _; simp at hk; subst hk; rfl
  | cons x xs ih =>
    intro k hk h1 h2
    rcases k with _ | k
    · have h3 : ¬ x < d := by
        rcases h2 with h | h
        · simp at h
        · simpa using h
      unfold putL
      rw [if_neg h3]; rfl
    · have h3 : x < d := by simpa using h1 0 (by omega)
      unfold putL
      rw [if_pos h3, ih (k := k) (by simp at hk; omega) (fun j hj => by simpa using h1 (j + 1) (by omega)) (by
        rcases h2 with h | h
        · exact .inl (by simp at h; omega)
        · exact .inr (by simpa using h))]
      rfl

theorem put_ls {dn d : Nat} {xs : List Int} (h : riseB (dn : Int) 0 xs = true) (hd : d < dn) (hn : hasB xs d = false) : lsN (fun e => hasB xs e || decide (e = d)) dn = putL d xs := by
  have hn' : (d : Int) ∉ xs := of_decide_eq_false hn
  refine rise_ext (d := (dn : Int)) (lo := 0) (lsN_rise _ _) (put_rise h (by omega) (by omega) hn') fun x => ?_
  rw [lsN_mem, put_mem]
  constructor
  · rintro ⟨e, _, rfl, h2⟩
    rw [Bool.or_eq_true] at h2
    rcases h2 with h2 | h2
    · exact .inr (of_decide_eq_true h2)
    · exact .inl (by rw [of_decide_eq_true h2])
  · rintro (rfl | h1)
    · exact ⟨d, hd, rfl, by rw [decide_eq_true rfl, Bool.or_true]⟩
    · have h3 := rise_mem h x h1
      refine ⟨x.toNat, by omega, by omega, ?_⟩
      rw [Bool.or_eq_true]
      exact .inl (decide_eq_true (by rw [show ((x.toNat : Nat) : Int) = x by omega]; exact h1))

theorem joined_on {dn p d n : Nat} {ks : List (List Int)} (hk : ks.length = n) (hr : ∀ i, i < n → riseB (dn : Int) 0 (ks.getD i []) = true) (hp : p < n) (hd : d < dn) (hn : hasB (ks.getD p []) d = false) : jnL (fun x y => x || y) dn ks (onL p d n) n = ks.set p (putL d (ks.getD p [])) := by
  refine lists_ext (by rw [jnL_length, List.length_set, hk]) fun i hi => ?_
  rw [jnL_length] at hi
  rw [show (jnL (fun x y => x || y) dn ks (onL p d n) n).getD i [] = lsN (fun e => hasB (ks.getD i []) e || hasB ((onL p d n).getD i []) e) dn from rwL_at (f := fun i => lsN (fun e => hasB (ks.getD i []) e || hasB ((onL p d n).getD i []) e) dn) hi, onL_at hi]
  by_cases e : i = p
  · subst e
    rw [if_pos rfl, getD_set_eq (by omega), ← put_ls (hr i hi) hd hn]
    refine lsN_congr fun e _ => ?_
    rw [has_single]
    congr 1
    exact decide_eq_decide.2 ⟨fun h => by omega, fun h => by omega⟩
  · rw [if_neg e, getD_set_ne e]
    have h2 := rise_eq (hr i hi)
    refine Eq.trans (lsN_congr fun e _ => ?_) h2
    rw [has_nil, Bool.or_false]

/-- Whether a depth can be put in, and the lists with it. -/
def apB (d : Int) (ks : List (List Int)) (p q : Int) : Bool := pnB d ks p q && !hasB (ks.getD p.toNat []) q.toNat
def apD (d : Int) (ks : List (List Int)) (p q : Int) : Int := if apB d ks p q then d else 0
def apK (d : Int) (ks : List (List Int)) (p q : Int) : List (List Int) := if apB d ks p q then ks.set p.toNat (putL q (ks.getD p.toNat [])) else []

theorem ap_no {d p q : Int} {ks : List (List Int)} (h : pnB d ks p q = false ∨ hasB (ks.getD p.toNat []) q.toNat = true) : apB d ks p q = false := by
  unfold apB
  rcases h with h | h <;> rw [h] <;> simp

theorem ap_rows {d p q : Int} {ks : List (List Int)} (h : apB d ks p q = true) : ∀ i, i < ks.length → riseB d 0 ((apK d ks p q).getD i []) = true ∧ ((apK d ks p q).getD i []).length ≠ 0 := fun i hi => by
  have h0 := h
  unfold apB at h0
  rw [Bool.and_eq_true, Bool.not_eq_true'] at h0
  obtain ⟨h1, h2, h3, h4⟩ := pn_yes h0.1
  obtain ⟨_, _, _, _, h5⟩ := pinsB_yes h1
  unfold apK
  rw [if_pos h]
  have hp : p.toNat < ks.length := by omega
  by_cases e : i = p.toNat
  · subst e
    rw [getD_set_eq hp]
    have hq : q ∉ ks.getD p.toNat [] := by
      have := of_decide_eq_false h0.2
      rwa [show ((q.toNat : Nat) : Int) = q by omega] at this
    refine ⟨put_rise (h5 _ hp).2 h3 (by omega) hq, fun e => ?_⟩
    have : q ∈ putL q (ks.getD p.toNat []) := put_mem.2 (.inl rfl)
    rw [List.eq_nil_of_length_eq_zero e] at this
    cases this
  · rw [getD_set_ne e]
    exact ⟨(h5 i hi).2, (h5 i hi).1⟩

theorem apK_len {d p q : Int} {ks : List (List Int)} (h : apB d ks p q = true) : (apK d ks p q).length = ks.length := by unfold apK; rw [if_pos h, List.length_set]

theorem apK_nine {d p q : Int} {ks : List (List Int)} : Nine (apK d ks p q) := fun i => by
  by_cases h : apB d ks p q = true
  · by_cases hi : i < ks.length
    · have h0 := h
      unfold apB at h0
      rw [Bool.and_eq_true] at h0
      obtain ⟨h1, _⟩ := pn_yes h0.1
      have h2 := pinsB_yes h1
      have := rise_len (ap_rows h i hi).1 (by omega)
      omega
    · simp [List.getD, List.getElem?_eq_none (by rw [apK_len h]; omega : (apK d ks p q).length ≤ i)]
  · unfold apK
    rw [if_neg h]
    simp

theorem apK_size {d p q : Int} {ks : List (List Int)} : (apK d ks p q).length + lensAt (apK d ks p q) (apK d ks p q).length ≤ 1048576 := by
  have h1 := lens_nine (apK_nine (d := d) (ks := ks) (p := p) (q := q)) (apK d ks p q).length
  have h2 : (apK d ks p q).length ≤ 7 := by
    by_cases h : apB d ks p q = true
    · rw [apK_len h]
      unfold apB at h
      rw [Bool.and_eq_true] at h
      exact (pinsB_yes (pn_yes h.1).1).2.2.2.1
    · unfold apK
      rw [if_neg h]; simp
  omega

theorem apK_ne {d p q : Int} {ks : List (List Int)} : ∀ i, i < (apK d ks p q).length → ((apK d ks p q).getD i []).length ≠ 0 := fun i hi => by
  by_cases h : apB d ks p q = true
  · rw [apK_len h] at hi
    exact (ap_rows h i hi).2
  · unfold apK at hi
    rw [if_neg h] at hi
    cases hi

theorem row_inj {w : World} {base base' : Nat} {e : TypeId} {size : Nat} {v : Value} {n : Nat} {xs ys : List Value} (h : w.ownsRow base e size v n xs) (h' : w.ownsRow base' e size v n ys) : xs = ys := by
  rcases h.2 with ⟨e1, h0⟩ | ⟨g, cap, cur, e1, _, hg, _, _, _, ht⟩
  · have l1 := h.1
    have l2 := h'.1
    rw [h0, Nat.zero_mul] at l1 l2
    rw [List.eq_nil_of_length_eq_zero l1, List.eq_nil_of_length_eq_zero l2]
  · rcases h'.2 with ⟨e2, _⟩ | ⟨g', cap', cur', e2, _, hg', _, _, _, ht'⟩
    · rw [e1] at e2; cases e2
    · rw [e1] at e2
      injection e2 with e3
      injection e3 with e3
      injection e3 with e3
      subst e3
      rw [hg] at hg'
      injection hg' with hg'
      injection hg' with hg'
      subst hg'
      rw [← ht, ← ht']

/-- All rows have room for what they hold. -/
def CapV (vs : List Value) : Prop := ∀ x ∈ vs, ∃ A n c, x = .slice A n c ∧ n ≤ c

theorem own_intsC {w : World} {base : Nat} {t : TypeId} {v : Value} {xs : List Int} {n : Nat} (h : w.ownsRow base t 1 v n (iv xs)) (hv : v ≠ .slice none 0 0) :
    ∃ g c, v = .slice (some ⟨g, 0, none⟩) n c ∧ n ≤ c ∧ base ≤ g ∧ Cells w g n (digF xs) := by
  obtain ⟨g, c, rfl, h1, h2⟩ := own_ints h hv
  refine ⟨g, c, rfl, ?_, h1, h2⟩
  rcases h.2 with ⟨e, _⟩ | ⟨g', cap, cur, e, _, _, hc, _⟩
  · cases e
  · injection e with _ _ e3
    omega

theorem ints_news {w : World} {ad : Addr} {n : Nat} {xs : List Int} (h : IntsA w (some ad) n xs) : ∀ j u, (iv xs)[j]? = some u → w.cell? (ad.add j) = some u := by
  rcases h.at_ with h0 | ⟨b, off, e, hb, hc⟩
  · intro j u hu
    have : xs = [] := List.eq_nil_of_length_eq_zero (by rw [h.len, h0])
    subst this
    simp [iv] at hu
  · cases e
    exact iv_news h.len hc

theorem ints_head {w : World} {A : Option Addr} {n k : Nat} {xs : List Int} (h : IntsA w A n xs) (hk : k ≤ n) : IntsA w A k (xs.take k) := by
  refine ⟨by rw [List.length_take, h.len]; omega, ?_⟩
  rcases h.at_ with h0 | ⟨b, off, e, hb, hc⟩
  · exact .inl (by omega)
  · refine .inr ⟨b, off, e, hb, fun j hj => ?_⟩
    rw [show (xs.take k).getD j 0 = xs.getD j 0 by simp only [List.getD, List.getElem?_take, if_pos hj]]
    exact hc j (by omega)

theorem ints_tail {w : World} {b off n k : Nat} {xs : List Int} (h : IntsA w (some ⟨b, off, none⟩) n xs) (hk : k ≤ n) : IntsA w (some ⟨b, off + k, none⟩) (n - k) (xs.drop k) := by
  refine ⟨by rw [List.length_drop, h.len], ?_⟩
  rcases h.at_ with h0 | ⟨b', off', e, hb, hc⟩
  · exact .inl (by omega)
  · cases e
    refine .inr ⟨b, off + k, rfl, hb, fun j hj => ?_⟩
    rw [show (xs.drop k).getD j 0 = xs.getD (k + j) 0 by simp only [List.getD, List.getElem?_drop], Nat.add_assoc]
    exact hc (k + j) (by omega)

theorem ints_tailA {w : World} {b off n k c : Nat} {xs : List Int} (h : IntsA w (some ⟨b, off, none⟩) n xs) (hk : k ≤ n) (hc : n ≤ c) :
    ∃ a1 : Addr, (if c = k then some (⟨b, off, none⟩ : Addr) else some ⟨b, off + k, none⟩) = some a1 ∧ IntsA w (some a1) (n - k) (xs.drop k) := by
  by_cases he : c = k
  · refine ⟨_, if_pos he, ?_⟩
    have h0 : n - k = 0 := by omega
    rw [h0]
    exact ⟨by rw [List.length_drop, h.len]; omega, .inl rfl⟩
  · exact ⟨_, if_neg he, ints_tail h hk⟩

theorem slice_headI (bk off n c k : Nat) (h : k ≤ c) (W : World) : (Instr.slice 54 (.slice (some ⟨bk, off, none⟩) n c) none (some (.int .i64 (k : Int))) none).run Try.prog W = .ok (.slice (some ⟨bk, off, none⟩) k c) W := by
  rw [run_slice_h (P := Try.prog) W 54 (some ⟨bk, off, none⟩) n c Try.underlying54 .i64 (k : Int) (by omega) (by omega)]
  simp [go_sem, sliced]

theorem slice_tailI {bk off n c k : Nat} {a1 : Addr} (h : k ≤ n) (ha : (if c = k then some (⟨bk, off, none⟩ : Addr) else some ⟨bk, off + k, none⟩) = some a1) (W : World) :
    (Instr.slice 54 (.slice (some ⟨bk, off, none⟩) n c) (some (.int .i64 (k : Int))) none none).run Try.prog W = .ok (.slice (some a1) (n - k) (c - k)) W := by
  rw [run_slice_l (P := Try.prog) W 54 (some ⟨bk, off, none⟩) n c Try.underlying54 .i64 (k : Int) (by omega) (by omega)]
  by_cases he : c = k
  · rw [if_pos he] at ha
    cases ha
    simp [go_sem, sliced, he]
  · rw [if_neg he] at ha
    cases ha
    simp [go_sem, sliced, he, Addr.add]

set_option maxHeartbeats 1000000 in
theorem l1OwnC_any (A : Option Addr) (n c : Nat) (xs : List Int) (w : World) (hn : n ≤ 1048576) (hA : IntsA w A n xs) :
    Calls Try.prog 67 #[.slice A n c] w fun e w' => ∃ g c', e = .returned (.slice (some ⟨g, 0, none⟩) n c') ∧ w.heap.size ≤ g ∧ Cells w' g n (digF xs) ∧ Below w.heap.size w w' ∧ n ≤ c' := by
  obtain ⟨i0, hi, hy0, hy1, hy2⟩ := info_parts info_int
  have HL := Lib.hid hA.len
  have HO := Lib.hid (World.ownsRow_made (base := w.heap.size) (e := 3) (size := 1) w #[] 0 (Nat.le_refl _) (by unfold maxLen; omega) rfl)
  have HB0 := Lib.hid ((Below.refl w.heap.size w).alloc (Nat.le_refl _) (.cells #[] 3))
  rcases A with _ | ad
  · have h0 : n = 0 := by
      rcases hA.at_ with h | ⟨_, _, e, _⟩
      · exact h
      · cases e
    subst h0
    clear hA
    go_enter Try.func67, Try.ntmps67
    go_wp2_with fail
    go_ret
    exact ⟨w.heap.size, 0, rfl, Nat.le_refl _, ⟨by simp, fun j hj => by omega⟩, HB0.out, Nat.le_refl _⟩
  · have HN : Hid (∀ j u, (iv xs)[j]? = some u → (w.alloc (.cells #[] 3)).cell? (ad.add j) = some u) := Lib.hid (by
      rcases hA.at_ with h0 | ⟨b, off, e, hb, hc⟩
      · intro j u hu
        have : xs = [] := List.eq_nil_of_length_eq_zero (by rw [hA.len, h0])
        subst this
        simp [iv] at hu
      · cases e
        exact iv_news hA.len (fun k hk => by rw [World.cell?_alloc_lt _ _ _ hb]; exact hc k hk))
    clear hA
    go_enter Try.func67, Try.ntmps67
    go_wp2_with (at_builtin; refine wpList_append_own _ rfl _ _ 54 rfl w.heap.size 3 i0 (.int .i64 0) 1 8 Try.underlying54 hi hy0 hy1 hy2 rfl (by decide) _ _ _ rfl HO.out ad n c (iv xs) rfl (by simp [iv]; have := HL.out; omega) HN.out (iv_one _) (by unfold maxLen; omega) (by omega) (by simp) ?_; intro v' w1 hown' hgrow hiff)
    have hv : v' ≠ .slice none 0 0 := fun e => by have := (hiff.1 e).1; cases this
    have HB1 := Lib.hid (HB0.out.grown hgrow HB0.out.size (fun j hj => (HO.out.lt j hj).1))
    obtain ⟨g, c', rfl, hcap, hg, hC⟩ := own_intsC (xs := xs) (n := n) (by simpa using hown') hv
    go_ret
    exact ⟨g, c', rfl, hg, hC, HB1.out, hcap⟩


/-- A row whose rows have room. -/
def CapR (w : World) (B : Nat) (v : Value) (n : Nat) : Prop := ∃ vs, w.ownsRow B 54 1 v n vs ∧ CapV vs

theorem CapR.under {w : World} {B n : Nat} {v : Value} (h : CapR w B v n) {p : Addr} (hp : p.block < B) (x : Value) : CapR (w.setCell p x) B v n := by
  obtain ⟨vs, h1, h2⟩ := h
  exact ⟨vs, rowv_under h1 hp x, h2⟩

theorem CapR.call {w w' : World} {B n : Nat} {v : Value} (h : CapR w B v n) (hb : Below w.heap.size w w') : CapR w' B v n := by
  obtain ⟨vs, h1, h2⟩ := h
  exact ⟨vs, rowv_kept h1 hb, h2⟩

theorem CapR.weak {w : World} {B B' n : Nat} {v : Value} (h : CapR w B v n) (hB : B' ≤ B) : CapR w B' v n := by
  obtain ⟨vs, h1, h2⟩ := h
  exact ⟨vs, ⟨h1.1, h1.2.imp id fun ⟨g, cap, cur, e, b, rest⟩ => ⟨g, cap, cur, e, Nat.le_trans hB b, rest⟩⟩, h2⟩

theorem cap_snoc {vs : List Value} {A : Option Addr} {m c : Nat} (h : CapV vs) (hm : m ≤ c) : CapV (vs ++ [.slice A m c]) := fun x hx => by
  rw [List.mem_append, List.mem_singleton] at hx
  rcases hx with hx | rfl
  · exact h x hx
  · exact ⟨A, m, c, rfl, hm⟩

set_option maxRecDepth 100000 in
set_option maxHeartbeats 4000000 in
theorem keOwnC_any (d : Int) (A : Option Addr) (n c : Nat) (ks : List (List Int)) (w : World) (hn : n ≤ 7) (hA : KnobsA w A n ks) (h9 : Nine ks) :
    Calls Try.prog 34 #[.agg #[.int .i64 d, .slice A n c]] w fun e w' => ∃ v, e = .returned (.agg #[.int .i64 d, v]) ∧ RowP w' w.heap.size v ks ∧ Below w.heap.size w w' ∧ CapR w' w.heap.size v ks.length := by
  obtain ⟨i0, hi, hy0, hy1, hy2⟩ := info_parts info_lists
  have H1 := Lib.hid hA
  have HKL := Lib.hid hA.len
  have N9 := Lib.hid h9
  clear hA h9
  obtain ⟨W4, hW4⟩ : ∃ W4, ((w.alloc (.cells #[.int .i64 d, .slice A n c] 34)).alloc (.cells #[.int .i64 0, .slice none 0 0] 34)).alloc (.cells #[.int .i64 d, .slice none 0 0] 34) = W4 := ⟨_, rfl⟩
  have HB4 := Lib.hid (show Below w.heap.size w W4 from by rw [← hW4]; (repeat (first | assumption | exact Below.refl _ _ | (refine Below.alloc ?_ (by first | omega | (simp; done) | (simp; omega)) _) | (refine Below.setCell ?_ (by first | omega | (simp; done) | (simp; omega)) _) | refine bel_drewN ?_ _ | refine bel_drew ?_ | (refine bel_call ?_ (by assumption)))))
  have CP := Lib.hid (show Cells W4 w.heap.size 2 (pF d (.slice A n c)) from by rw [← hW4]; exact ((Cells.new (n := 2) rfl rfl).alloc _).alloc _)
  have CQ := Lib.hid (show Cells W4 (w.heap.size + 1) 2 (pF 0 (.slice none 0 0)) from by rw [← hW4]; exact (Cells.new (n := 2) (by simp) rfl).alloc _)
  have CT := Lib.hid (show Cells W4 (w.heap.size + 1 + 1) 2 (pF d (.slice none 0 0)) from by rw [← hW4]; exact Cells.new (n := 2) (by simp) rfl)
  have hz0' : w.heap.size + 3 ≤ W4.heap.size := by rw [← hW4]; simp
  have HW := Lib.hid hW4
  clear hW4
  go_enter Try.func34, Try.ntmps34
  go_wp2_with fail
  go_loopw [12] (fun i wr => ∃ (k : Nat) (u : Value), k ≤ n ∧ i = .int .i64 k ∧ RowP wr (w.heap.size + 3) u (ks.take k) ∧ Cells wr w.heap.size 2 (pF d (.slice A n c)) ∧ Cells wr (w.heap.size + 1) 2 (pF 0 (.slice none 0 0)) ∧ Cells wr (w.heap.size + 1 + 1) 2 (pF d u) ∧ w.heap.size + 3 ≤ wr.heap.size ∧ Below w.heap.size w wr ∧ CapR wr (w.heap.size + 3) u k) (fun i _ => n - (intOf i).toNat)
  case atStart => rw [HW.out]; exact ⟨0, .slice none 0 0, by omega, rfl, by rw [List.take_zero]; exact rowP_nil _ _, CP.out, CQ.out, CT.out, hz0', HB4.out, ⟨[], World.ownsRow_nil _ _ _ _, fun x hx => by cases hx⟩⟩
  case round =>
    clear HW CP CQ CT HB4 hz0'
    obtain ⟨k, v, hk, rfl, hR, hP, hQ, hT, hz, hB, hcp⟩ := hrel
    have HCP := Lib.hid hcp
    clear hcp
    have HR := Lib.hid hR
    have HP := Lib.hid hP
    have HQ := Lib.hid hQ
    have HT := Lib.hid hT
    have HB := Lib.hid hB
    clear hR hP hQ hT hB
    by_cases hlt : k < n
    · obtain ⟨b1, off1, e1, hb1, hc1⟩ := (H1.out.below HB.out).at_.resolve_left (by omega)
      subst e1
      obtain ⟨Ak1, ck1, o1, _, hI1⟩ := hc1 k hlt
      have HI1 := Lib.hid hI1
      have hl1 := N9.out k
      have HX := Lib.hid (take_snocL (ks := ks) (k := k) (by rw [HKL.out]; exact hlt))
      have hkl : (ks.take k).length = k := by rw [List.length_take, HKL.out]; omega
      clear hc1 hI1
      obtain ⟨xs, hxs⟩ : ∃ xs, ks.getD k [] = xs := ⟨_, rfl⟩
      rw [hxs] at o1 HI1 hl1 HX
      clear hxs
      obtain ⟨m, hm⟩ : ∃ m, xs.length = m := ⟨_, rfl⟩
      have HUL := Lib.hid hm
      rw [hm] at o1 HI1 hl1
      clear hm
      obtain ⟨K0, hK0⟩ : ∃ K0, ks.take k = K0 := ⟨_, rfl⟩
      rw [hK0] at HR HX hkl
      clear hK0
      obtain ⟨G, vs, hv1, hv2, hv3, hv4⟩ := HR.out.own
      have HV1' := Lib.hid hv1
      have HV2' := Lib.hid hv2
      have HV3' := Lib.hid hv3
      have HV4' := Lib.hid hv4
      clear hv1 hv2 hv3 hv4
      rw [hkl] at HV2'
      have HCV : Hid (CapV vs) := Lib.hid (by
        obtain ⟨vs', o', hcv⟩ := HCP.out
        rw [row_inj o' HV2'.out] at hcv
        exact hcv)
      have m1 : wr.cell? ⟨w.heap.size + 1 + 1, 1, none⟩ = some v := HT.out.cell (show 1 < 2 by omega)
      go_wp2_with fail
      go_region_law (first
        | (go_simp; go_at_call 67; refine (l1OwnC_any Ak1 m ck1 xs _ (by omega) (HI1.out.below (bel_drew (Below.refl _ _)))).mono ?_; rintro e w2 ⟨g2, c2, rfl, hg2, hC2, hb2, hm2⟩
           have HM2 := Lib.hid hm2
           clear hm2
           have HB2 := Lib.hid (below_undrew hb2)
           have HC2 : Hid (m = 0 ∨ ((some (⟨g2, 0, none⟩ : Addr) : Option Addr) = some ⟨g2, 0, none⟩ ∧ wr.heap.size ≤ g2 ∧ Cells w2 g2 m (digF xs))) := Lib.hid (.inr ⟨rfl, hg2, hC2⟩)
           have HT2 := Lib.hid (HT.out.call HB2.out)
           have m3 : w2.cell? ⟨w.heap.size + 1 + 1, 1, none⟩ = some v := HT2.out.cell (show 1 < 2 by omega)
           have m4 : (w2.alloc (.cells #[.slice (some ⟨g2, 0, none⟩) m c2] 54)).cell? ⟨w.heap.size + 1 + 1, 1, none⟩ = some v := (HT2.out.alloc _).cell (show 1 < 2 by omega)
           have HO2 := Lib.hid ((rowv_kept HV2'.out HB2.out).alloc (.cells #[.slice (some ⟨g2, 0, none⟩) m c2] 54))
           have HZ2 := Lib.hid (Nat.le_trans hz HB2.out.size)
           clear hb2 hC2 hg2)
        | (refine step_append_at rfl (.tmp 17) (.tmp 20) 30 rfl (w.heap.size + 3) 54 i0 (.slice none 0 0) 1 24 Try.underlying30 hi hy0 hy1 hy2 rfl (by decide) v k vs rfl HO2.out ⟨w2.heap.size, 0, none⟩ 1 1 [.slice (some ⟨g2, 0, none⟩) m c2] rfl rfl (newv_one rfl) (by simp [Value.oneCell']) (by unfold maxLen; omega) (by omega) (by have := HZ2.out; simp; omega) ?_; intro v' w4 hown' hgrow hblk
           have HR4 := Lib.hid (RowP.snoc (g := g2) HV1'.out HV3'.out HV4'.out HV2'.out.lt HB2.out hz HC2.out HUL.out (by rw [hkl]; exact hown') hgrow hblk)
           have hlt2 := HO2.out.lt
           have HT4 := Lib.hid ((HT2.out.alloc (.cells #[.slice (some ⟨g2, 0, none⟩) m c2] 54)).keptV hgrow (fun e => by have := (hlt2 _ e).1; omega))
           have HQ4 := Lib.hid (((HQ.out.call HB2.out).alloc (.cells #[.slice (some ⟨g2, 0, none⟩) m c2] 54)).keptV hgrow (fun e => by have := (hlt2 _ e).1; omega))
           have HP4 := Lib.hid (((HP.out.call HB2.out).alloc (.cells #[.slice (some ⟨g2, 0, none⟩) m c2] 54)).keptV hgrow (fun e => by have := (hlt2 _ e).1; omega))
           have HB4 := Lib.hid (((bel_call HB.out HB2.out).alloc (bel_call HB.out HB2.out).size _).grown hgrow (by have := HZ2.out; simp; omega) (fun j hj => by have := (hlt2 j hj).1; omega))
           have HZ4 := Lib.hid (show w.heap.size + 3 ≤ w4.heap.size by have h1 := HZ2.out; have h2 := hgrow.size; simp at h2; omega)
           have HC4 : Hid (CapR w4 (w.heap.size + 3) v' (k + 1)) := Lib.hid ⟨_, hown', cap_snoc HCV.out HM2.out⟩
           obtain ⟨g', cap', rfl⟩ := rowv_succ hown'
           have c2' : w4.cell? ⟨w.heap.size + 1 + 1, 1, none⟩ = some v := HT4.out.cell (show 1 < 2 by omega)
           have c3 := HT4.out.frozen (show 1 < 2 by omega)
           clear hown' hgrow hblk hlt2))
      all_goals
        have HRN := Lib.hid (HR4.out.under (p := ⟨w.heap.size + 1 + 1, 1, none⟩) (by show w.heap.size + 1 + 1 < w.heap.size + 3; omega) (.slice (some ⟨g', 0, none⟩) (k + 1) cap'))
        have HCN := Lib.hid (HC4.out.under (p := ⟨w.heap.size + 1 + 1, 1, none⟩) (by show w.heap.size + 1 + 1 < w.heap.size + 3; omega) (.slice (some ⟨g', 0, none⟩) (k + 1) cap'))
        have HQN := Lib.hid (HQ4.out.far (p := ⟨w.heap.size + 1 + 1, 1, none⟩) (by show w.heap.size + 1 + 1 ≠ w.heap.size + 1; omega) (.slice (some ⟨g', 0, none⟩) (k + 1) cap'))
        have HPN := Lib.hid (HP4.out.far (p := ⟨w.heap.size + 1 + 1, 1, none⟩) (by show w.heap.size + 1 + 1 ≠ w.heap.size; omega) (.slice (some ⟨g', 0, none⟩) (k + 1) cap'))
        have HTN := Lib.hid ((HT4.out.set_ (show 1 < 2 by omega) (.slice (some ⟨g', 0, none⟩) (k + 1) cap')).congr (f' := pF d (.slice (some ⟨g', 0, none⟩) (k + 1) cap')) (fun j hj => by
          have : j = 0 ∨ j = 1 := by omega
          rcases this with rfl | rfl <;> rfl))
        go_wp2_with fail
        go_roundw
        case rel => exact ⟨k + 1, _, by omega, by go_num, by rw [HX.out]; exact HRN.out, HPN.out, HQN.out, HTN.out, by rw [size_setCell]; exact HZ4.out, HB4.out.setCell (by show w.heap.size ≤ w.heap.size + 1 + 1; omega) _, HCN.out⟩
        case measure => simp [intOf]; omega
    · obtain rfl : k = n := by omega
      obtain ⟨A', c', rfl⟩ := HR.out.slice
      have hkl : (ks.take k).length = k := by rw [List.length_take, HKL.out]; omega
      rw [hkl] at HR HT HCP
      rw [List.take_of_length_le (by rw [HKL.out]; exact Nat.le_refl _)] at HR
      have t0 : wr.cell? ⟨w.heap.size + 1 + 1, 0, none⟩ = some (.int .i64 d) := HT.out.cell (show 0 < 2 by omega)
      have t1 : wr.cell? ⟨w.heap.size + 1 + 1, 1, none⟩ = some (.slice A' k c') := HT.out.cell (show 1 < 2 by omega)
      have q0 : wr.cell? ⟨w.heap.size + 1, 0, none⟩ = some (.int .i64 0) := HQ.out.cell (show 0 < 2 by omega)
      have q1 : wr.cell? ⟨w.heap.size + 1, 1, none⟩ = some (.slice none 0 0) := HQ.out.cell (show 1 < 2 by omega)
      have f0 := HQ.out.frozen (show 0 < 2 by omega)
      have f1 := HQ.out.frozen (show 1 < 2 by omega)
      go_wp2_with fail
      refine bodyPost_ret (v := .agg #[.int .i64 d, .slice A' k c']) (by simp [results, Try.results34, go_sem, q0, q1]) rfl ⟨_, rfl, ?_, ?_, ?_⟩
      · exact ((HR.out.under (by show w.heap.size + 1 < w.heap.size + 3; omega) _).under (by show w.heap.size + 1 < w.heap.size + 3; omega) _).weak (by omega)
      · have h := HB.out
        iterate 2 (refine Below.setCell ?_ (by show w.heap.size ≤ w.heap.size + 1; omega) _)
        exact h
      · rw [HKL.out]
        exact ((HCP.out.under (p := ⟨w.heap.size + 1, 0, none⟩) (by show w.heap.size + 1 < w.heap.size + 3; omega) _).under (p := ⟨w.heap.size + 1, 1, none⟩) (by show w.heap.size + 1 < w.heap.size + 3; omega) _).weak (B' := w.heap.size) (by omega)


theorem put_length (d : Int) (xs : List Int) : (putL d xs).length = xs.length + 1 := by
  induction xs with
  | nil => rfl
  | cons x xs ih => unfold putL; split <;> simp [ih]

theorem iv_app (xs ys : List Int) : iv (xs ++ ys) = iv xs ++ iv ys := List.map_append ..

set_option maxHeartbeats 4000000 in
theorem l1Put_any (b off n c : Nat) (xs : List Int) (d : Int) (w : World) (hm : n ≤ 1048576) (hc : n ≤ c) (hd : d ∉ xs) (h0 : 0 < n) (hA : IntsA w (some ⟨b, off, none⟩) n xs) :
    Calls Try.prog 35 #[.slice (some ⟨b, off, none⟩) n c, .int .i64 d] w (ListOut w (putL d xs)) := by
  obtain ⟨i0, hi, hy0, hy1, hy2⟩ := info_parts info_int
  have HL := Lib.hid hA.len
  have HA := Lib.hid hA
  have HD := Lib.hid hd
  have HO := Lib.hid (World.ownsRow_made (base := w.heap.size) (e := 3) (size := 1) w #[] 0 (Nat.le_refl _) (by unfold maxLen; omega) rfl)
  have HB0 := Lib.hid ((Below.refl w.heap.size w).alloc (Nat.le_refl _) (.cells #[] 3))
  clear hA hd
  go_enter Try.func35, Try.ntmps35
  go_wp2_with fail
  go_loop [5] (fun i => ∃ k : Nat, k ≤ n ∧ i = .int .i64 k ∧ ∀ j, j < k → xs.getD j 0 < d) (fun i => n - (intOf i).toNat)
  case atStart => exact ⟨0, by omega, rfl, fun j hj => by omega⟩
  case round =>
    obtain ⟨k, hk, rfl, hno⟩ := hrel
    have HNO := Lib.hid hno
    clear hno
    have hsh := slice_headI b off n c k (by omega)
    obtain ⟨a1, ha1, hI1⟩ := ints_tailA HA.out hk hc
    have hst := slice_tailI (bk := b) (off := off) hk ha1
    have HI1 := Lib.hid hI1
    have HI0 := Lib.hid (ints_head HA.out hk)
    clear hI1 ha1
    have HTL : Hid ((iv (xs.take k)).length = k * 1) := Lib.hid (by simp [iv]; have := HL.out; omega)
    have HDL : Hid ((iv (xs.drop k)).length = (n - k) * 1) := Lib.hid (by simp [iv]; have := HL.out; omega)
    by_cases hlt : k < n
    · obtain ⟨b', off', e', hb, hcl⟩ := HA.out.at_.resolve_left (by omega)
      cases e'
      have o1 := hcl k hlt
      clear hcl
      obtain ⟨x, hx⟩ : ∃ x, xs.getD k 0 = x := ⟨_, rfl⟩
      have HX := Lib.hid hx
      rw [hx] at o1
      clear hx
      by_cases hxd : x < d
      · go_wp2_with fail
        go_round
        case rel => exact ⟨k + 1, by omega, by go_num, fun j hj => by
          by_cases h : j = k
          · subst h; rw [HX.out]; exact hxd
          · exact HNO.out j (by omega)⟩
        case measure => simp [intOf]; omega
      · have HPU : Hid (putL d xs = xs.take k ++ d :: xs.drop k) := Lib.hid (put_at (by rw [HL.out]; exact hk) HNO.out (.inr (by rw [HX.out]; exact hxd)))
        have hxe : (x == d) = false := by
          have : x ≠ d := fun e => HD.out (by
            rw [← e, ← HX.out]
            simp [List.getD, List.getElem?_eq_getElem (show k < xs.length by rw [HL.out]; exact hlt)])
          simpa using this
        go_wp2_with (first
          | (at_builtin; refine wpList_append_own _ rfl _ _ 54 rfl w.heap.size 3 i0 (.int .i64 0) 1 8 Try.underlying54 hi hy0 hy1 hy2 rfl (by decide) _ _ _ rfl HO2.out a1 (n - k) (c - k) (iv (xs.drop k)) rfl HDL.out (ints_news (HI1.out.below HB2.out)) (iv_one _) (by unfold maxLen; omega) (by omega) HB2.out.size ?_; intro v3 w3 hown3 hgrow3 hiff3
             have HB3 := Lib.hid (HB2.out.grown hgrow3 HB2.out.size (fun j hj => (HO2.out.lt j hj).1))
             rw [Nat.zero_add] at hown3
             have HO3 : Hid (w3.ownsRow w.heap.size 3 1 v3 (n + 1) (iv (putL d xs))) := Lib.hid (by
               have h := hown3
               rw [show k + 1 + (n - k) = n + 1 by omega] at h
               rw [HPU.out, iv_app]
               simpa [iv] using h)
             obtain ⟨A3, c3, rfl, hl3⟩ := own_list (put_length d xs) (by rw [HL.out]; exact HO3.out)
             have HL3 := Lib.hid hl3
             clear hown3 hgrow3 hiff3 hl3 HO3)
          | (at_builtin; refine wpList_append_own _ rfl _ _ 54 rfl w.heap.size 3 i0 (.int .i64 0) 1 8 Try.underlying54 hi hy0 hy1 hy2 rfl (by decide) _ _ _ rfl (HO1.out.alloc _) ⟨w1.heap.size, 0, none⟩ 1 1 [.int .i64 d] rfl rfl (newv_one rfl) (by simp [Value.oneCell']) (by unfold maxLen; omega) (by omega) (by have := HB1.out.size; simp at this ⊢; omega) ?_; intro v2 w2 hown2 hgrow2 hiff2
             have HB2 := Lib.hid ((HB1.out.alloc HB1.out.size (.cells #[.int .i64 d] 3)).grown hgrow2 (HB1.out.alloc HB1.out.size (.cells #[.int .i64 d] 3)).size (fun j hj => (HO1.out.lt j hj).1))
             have HO2 := Lib.hid hown2
             clear hown2 hgrow2 hiff2)
          | (at_builtin; refine wpList_append_own _ rfl _ _ 54 rfl w.heap.size 3 i0 (.int .i64 0) 1 8 Try.underlying54 hi hy0 hy1 hy2 rfl (by decide) _ _ _ rfl HO.out ⟨b, off, none⟩ k c (iv (xs.take k)) rfl HTL.out (ints_news (HI0.out.below HB0.out)) (iv_one _) (by unfold maxLen; omega) (by omega) (by simp) ?_; intro v1 w1 hown1 hgrow1 hiff1
             have HB1 := Lib.hid (HB0.out.grown hgrow1 HB0.out.size (fun j hj => (HO.out.lt j hj).1))
             have HO1 := Lib.hid hown1
             clear hown1 hgrow1 hiff1))
        go_ret
        exact ⟨_, _, rfl, HL3.out, HB3.out⟩
    · have HKN := Lib.hid (show k = n by omega)
      have HPU : Hid (putL d xs = xs.take k ++ d :: xs.drop k) := Lib.hid (put_at (by rw [HL.out]; exact hk) HNO.out (.inl (HKN.out.trans HL.out.symm)))
      go_wp2_with (first
        | (at_builtin; refine wpList_append_own _ rfl _ _ 54 rfl w.heap.size 3 i0 (.int .i64 0) 1 8 Try.underlying54 hi hy0 hy1 hy2 rfl (by decide) _ _ _ rfl HO2.out a1 (n - k) (c - k) (iv (xs.drop k)) rfl HDL.out (ints_news (HI1.out.below HB2.out)) (iv_one _) (by unfold maxLen; omega) (by omega) HB2.out.size ?_; intro v3 w3 hown3 hgrow3 hiff3
           have HB3 := Lib.hid (HB2.out.grown hgrow3 HB2.out.size (fun j hj => (HO2.out.lt j hj).1))
           rw [Nat.zero_add] at hown3
           have HO3 : Hid (w3.ownsRow w.heap.size 3 1 v3 (n + 1) (iv (putL d xs))) := Lib.hid (by
             have h := hown3
             rw [show k + 1 + (n - k) = n + 1 by omega] at h
             rw [HPU.out, iv_app]
             simpa [iv] using h)
           obtain ⟨A3, c3, rfl, hl3⟩ := own_list (put_length d xs) (by rw [HL.out]; exact HO3.out)
           have HL3 := Lib.hid hl3
           clear hown3 hgrow3 hiff3 hl3 HO3)
        | (at_builtin; refine wpList_append_own _ rfl _ _ 54 rfl w.heap.size 3 i0 (.int .i64 0) 1 8 Try.underlying54 hi hy0 hy1 hy2 rfl (by decide) _ _ _ rfl (HO1.out.alloc _) ⟨w1.heap.size, 0, none⟩ 1 1 [.int .i64 d] rfl rfl (newv_one rfl) (by simp [Value.oneCell']) (by unfold maxLen; omega) (by omega) (by have := HB1.out.size; simp at this ⊢; omega) ?_; intro v2 w2 hown2 hgrow2 hiff2
           have HB2 := Lib.hid ((HB1.out.alloc HB1.out.size (.cells #[.int .i64 d] 3)).grown hgrow2 (HB1.out.alloc HB1.out.size (.cells #[.int .i64 d] 3)).size (fun j hj => (HO1.out.lt j hj).1))
           have HO2 := Lib.hid hown2
           clear hown2 hgrow2 hiff2)
        | (at_builtin; refine wpList_append_own _ rfl _ _ 54 rfl w.heap.size 3 i0 (.int .i64 0) 1 8 Try.underlying54 hi hy0 hy1 hy2 rfl (by decide) _ _ _ rfl HO.out ⟨b, off, none⟩ k c (iv (xs.take k)) rfl HTL.out (ints_news (HI0.out.below HB0.out)) (iv_one _) (by unfold maxLen; omega) (by omega) (by simp) ?_; intro v1 w1 hown1 hgrow1 hiff1
           have HB1 := Lib.hid (HB0.out.grown hgrow1 HB0.out.size (fun j hj => (HO.out.lt j hj).1))
           have HO1 := Lib.hid hown1
           clear hown1 hgrow1 hiff1))
      go_ret
      exact ⟨_, _, rfl, HL3.out, HB3.out⟩

theorem ap_pn {d p q : Int} {ks : List (List Int)} (h : pnB d ks p q = false) : apB d ks p q = false := ap_no (.inl h)

set_option maxHeartbeats 8000000 in
theorem addPin_any (d : Int) (A : Option Addr) (n c : Nat) (ks : List (List Int)) (p q : Int) (w : World) (hm : n + lensAt ks n ≤ 1048576) (hA : KnobsA w A n ks) :
    Calls Try.prog 16 #[.agg #[.int .i64 d, .slice A n c], .int .i64 p, .int .i64 q] w (PinsOut w (apD d ks p q) (apK d ks p q) (apB d ks p q)) := by
  obtain ⟨W0, hW0⟩ : ∃ W0, (w.alloc (.cells #[.int .i64 d, .slice A n c] 34)).alloc (.cells #[.int .i64 0, .slice none 0 0] 34) = W0 := ⟨_, rfl⟩
  have CP := Lib.hid (show Cells W0 w.heap.size 2 (pF d (.slice A n c)) from hW0 ▸ (Cells.new (W := w) (n := 2) rfl rfl).alloc _)
  have CQ := Lib.hid (show Cells W0 (w.heap.size + 1) 2 (pF 0 (.slice none 0 0)) from hW0 ▸ Cells.new (n := 2) (by simp) rfl)
  have HB0 := Lib.hid (show Below w.heap.size w W0 from hW0 ▸ (by (repeat (first | assumption | exact Below.refl _ _ | (refine Below.alloc ?_ (by first | omega | (simp; done) | (simp; omega)) _) | (refine Below.setCell ?_ (by first | omega | (simp; done) | (simp; omega)) _) | refine bel_drewN ?_ _ | refine bel_drew ?_ | (refine bel_call ?_ (by assumption))))))
  have z0 : w.heap.size + 2 ≤ W0.heap.size := by rw [← hW0]; simp
  have l0 : W0.cell? ⟨w.heap.size, 0, none⟩ = some (.int .i64 d) := CP.out.cell (show 0 < 2 by omega)
  have l1 : W0.cell? ⟨w.heap.size, 1, none⟩ = some (.slice A n c) := CP.out.cell (show 1 < 2 by omega)
  have HA := Lib.hid (hA.below HB0.out)
  have HL := Lib.hid hA.len
  clear hA
  obtain ⟨x, hx⟩ : ∃ x, pnB d ks p q = x := ⟨_, rfl⟩
  have HX := Lib.hid hx
  clear hx
  rcases x with _ | _
  · have HD : Hid (apB d ks p q = false) := Lib.hid (ap_pn HX.out)
    go_enter Try.func16, Try.ntmps16
    go_wp2_with (first
      | (go_at_call 37; refine (pin_any _ _ _ _ ks _ _ _ hm HA.out).mono ?_; rintro e w1 ⟨v1, rfl, hR1, hb1⟩
         obtain ⟨A1, c1, rfl⟩ := hR1.slice
         rw [HX.out]
         have CP1 := Lib.hid (CP.out.call hb1)
         have CQ1 := Lib.hid (CQ.out.call hb1)
         have HB1 := Lib.hid (bel_call HB0.out hb1)
         generalize pnD d ks p q = pd
         generalize (pnK d ks p q).length = pl
         obtain ⟨W2, hW2⟩ : ∃ W, w1.alloc (.cells #[.int .i64 pd, .slice A1 pl c1] 34) = W := ⟨_, rfl⟩
         have hb2 : Below w1.heap.size w1 W2 := by rw [← hW2]; exact (Below.refl _ _).alloc (Nat.le_refl _) _
         have CQ2 := Lib.hid (CQ1.out.call hb2)
         have HB2 := Lib.hid (bel_call HB1.out hb2)
         have s0 : W2.cell? ⟨w.heap.size + 1, 0, none⟩ = some (.int .i64 0) := CQ2.out.cell (show 0 < 2 by omega)
         have s1 : W2.cell? ⟨w.heap.size + 1, 1, none⟩ = some (.slice none 0 0) := CQ2.out.cell (show 1 < 2 by omega)
         have f0 := CQ2.out.frozen (show 0 < 2 by omega)
         have f1 := CQ2.out.frozen (show 1 < 2 by omega)
         clear hR1 hb1 hb2))
    refine bodyPost_ret (v := .tuple #[.agg #[.int .i64 0, .slice none 0 0], .bool false]) (by simp [results, Try.results16, go_sem, s0, s1]) rfl ?_
    unfold apD apK
    rw [HD.out]
    exact pinsOut_no rfl ((HB2.out.setCell (p := ⟨w.heap.size + 1, 0, none⟩) (by show w.heap.size ≤ w.heap.size + 1; omega) _).setCell (p := ⟨w.heap.size + 1, 1, none⟩) (by show w.heap.size ≤ w.heap.size + 1; omega) _)
  obtain ⟨hpp, hp, hq⟩ := pn_yes HX.out
  have HPP := Lib.hid hpp
  obtain ⟨h1, h2, h3, h4, h5⟩ := pinsB_yes hpp
  rw [HL.out] at h3 h4 hp
  have HRS := Lib.hid (show ∀ i, i < n → riseB d 0 (ks.getD i []) = true from fun i hi => (h5 i (by rw [HL.out]; exact hi)).2)
  clear h5 hpp
  obtain ⟨dn, rfl⟩ : ∃ dn : Nat, d = dn := ⟨d.toNat, by omega⟩
  obtain ⟨pn, rfl⟩ : ∃ pn : Nat, p = pn := ⟨p.toNat, by omega⟩
  obtain ⟨qn, rfl⟩ : ∃ qn : Nat, q = qn := ⟨q.toNat, by omega⟩
  have hpn : pn < n := by omega
  have hqn : qn < dn := by omega
  have HPD : Hid (pnD (dn : Int) ks (pn : Int) (qn : Int) = dn) := Lib.hid (by unfold pnD; rw [HX.out]; rfl)
  have HPK : Hid (pnK (dn : Int) ks (pn : Int) (qn : Int) = onL pn qn n) := Lib.hid (by unfold pnK; rw [HX.out, HL.out]; rfl)
  have HOL : Hid ((onL pn qn n).length = n) := Lib.hid (rwL_length _ _)
  have HO9 : Hid (Nine (onL pn qn n)) := Lib.hid (fun i => by
    by_cases hi : i < n
    · rw [onL_at hi]; split <;> simp
    · simp [List.getD, List.getElem?_eq_none (by have := HOL.out; omega : (onL pn qn n).length ≤ i)])
  have HHM := Lib.hid (hasM_on (dn := dn) (ks := ks) (show dn ≤ 9 by omega) (show n ≤ 7 by omega) hpn hqn)
  have HS1 := Lib.hid (pins_small HPP.out)
  have HS2 : Hid (SmallP (onL pn qn n)) := Lib.hid (on_small (by omega))
  have HSL : Hid ((ks.set pn (putL qn (ks.getD pn []))).length = n) := Lib.hid (by rw [List.length_set, HL.out])
  have HTB : Hid (∀ (h : Bool), hasB (ks.getD pn []) qn = h → apB (dn : Int) ks (pn : Int) (qn : Int) = !h) := Lib.hid (fun h e => by
    unfold apB
    rw [HX.out, Int.toNat_natCast, Int.toNat_natCast, e, Bool.true_and])
  have HTK : Hid (apB (dn : Int) ks (pn : Int) (qn : Int) = true → apK (dn : Int) ks (pn : Int) (qn : Int) = ks.set pn (putL qn (ks.getD pn []))) := Lib.hid (fun e => by unfold apK; rw [e]; rfl)
  obtain ⟨h, hh⟩ : ∃ h, hasB (ks.getD pn []) qn = h := ⟨_, rfl⟩
  have HH := Lib.hid hh
  have HTB2 := Lib.hid (HTB.out h hh)
  rw [hh] at HHM
  clear hh
  rcases h with _ | _
  · have HD : Hid (apB (dn : Int) ks (pn : Int) (qn : Int) = true) := Lib.hid HTB2.out
    have HK := Lib.hid (HTK.out HD.out)
    have HWO := Lib.hid (joined_on (dn := dn) (d := qn) HL.out HRS.out hpn hqn HH.out)
    go_enter Try.func16, Try.ntmps16
    go_wp2_with (first
      | (go_at_call 37; refine (pin_any _ _ _ _ ks _ _ _ hm HA.out).mono ?_; rw [HPD.out, HPK.out, HX.out]; rintro e w1 ⟨v1, rfl, hR1, hb1⟩
         obtain ⟨A1, c1, rfl⟩ := hR1.slice
         rw [HOL.out] at hR1 ⊢
         obtain ⟨W2, hW2⟩ : ∃ W, w1.alloc (.cells #[.int .i64 (dn : Int), .slice A1 n c1] 34) = W := ⟨_, rfl⟩
         have hb2 : Below w1.heap.size w1 W2 := by rw [← hW2]; exact (Below.refl _ _).alloc (Nat.le_refl _) _
         have CX2 := Lib.hid (show Cells W2 w1.heap.size 2 (pF (dn : Int) (.slice A1 n c1)) from hW2 ▸ Cells.new (n := 2) rfl rfl)
         have HR2 := Lib.hid (hR1.call hb2)
         have CP2 := Lib.hid ((CP.out.call hb1).call hb2)
         have CQ2 := Lib.hid ((CQ.out.call hb1).call hb2)
         have HB2 := Lib.hid (bel_call (bel_call HB0.out hb1) hb2)
         have HA2 := Lib.hid ((HA.out.below hb1).below hb2)
         have zU : w.heap.size + 2 ≤ w1.heap.size := Nat.le_trans z0 hb1.size
         have p0 : W2.cell? ⟨w.heap.size, 0, none⟩ = some (.int .i64 (dn : Int)) := CP2.out.cell (show 0 < 2 by omega)
         have p1 : W2.cell? ⟨w.heap.size, 1, none⟩ = some (.slice A n c) := CP2.out.cell (show 1 < 2 by omega)
         have s0 : W2.cell? ⟨w.heap.size + 1, 0, none⟩ = some (.int .i64 0) := CQ2.out.cell (show 0 < 2 by omega)
         have s1 : W2.cell? ⟨w.heap.size + 1, 1, none⟩ = some (.slice none 0 0) := CQ2.out.cell (show 1 < 2 by omega)
         have f0 := CQ2.out.frozen (show 0 < 2 by omega)
         have f1 := CQ2.out.frozen (show 1 < 2 by omega)
         have x0 : W2.cell? ⟨w1.heap.size, 0, none⟩ = some (.int .i64 (dn : Int)) := CX2.out.cell (show 0 < 2 by omega)
         have x1 : W2.cell? ⟨w1.heap.size, 1, none⟩ = some (.slice A1 n c1) := CX2.out.cell (show 1 < 2 by omega)
         clear hR1 hb1 hb2)
      | (go_at_call 38; refine (has_any dn (dn : Int) A A1 n n c c1 ks (onL pn qn n) _ (by omega) (by omega) (by omega) HA2.out (row_knobs HR2.out HO9.out) HS1.out HS2.out).mono ?_; rw [HHM.out]; rintro e w3 ⟨rfl, hb3⟩
         have CX3 := Lib.hid (CX2.out.call hb3)
         have HR3 := Lib.hid (HR2.out.call hb3)
         have CP3 := Lib.hid (CP2.out.call hb3)
         have CQ3 := Lib.hid (CQ2.out.call hb3)
         have HB3 := Lib.hid (bel_call HB2.out hb3)
         have HA3 := Lib.hid (HA2.out.below hb3)
         have p0 : w3.cell? ⟨w.heap.size, 0, none⟩ = some (.int .i64 (dn : Int)) := CP3.out.cell (show 0 < 2 by omega)
         have p1 : w3.cell? ⟨w.heap.size, 1, none⟩ = some (.slice A n c) := CP3.out.cell (show 1 < 2 by omega)
         have s0 : w3.cell? ⟨w.heap.size + 1, 0, none⟩ = some (.int .i64 0) := CQ3.out.cell (show 0 < 2 by omega)
         have s1 : w3.cell? ⟨w.heap.size + 1, 1, none⟩ = some (.slice none 0 0) := CQ3.out.cell (show 1 < 2 by omega)
         have f0 := CQ3.out.frozen (show 0 < 2 by omega)
         have f1 := CQ3.out.frozen (show 1 < 2 by omega)
         have x0 : w3.cell? ⟨w1.heap.size, 0, none⟩ = some (.int .i64 (dn : Int)) := CX3.out.cell (show 0 < 2 by omega)
         have x1 : w3.cell? ⟨w1.heap.size, 1, none⟩ = some (.slice A1 n c1) := CX3.out.cell (show 1 < 2 by omega)
         clear hb3)
      | (go_at_call 39; refine (joined_any dn (dn : Int) A A1 n n c c1 ks (onL pn qn n) _ (by omega) (by omega) (by omega) HA3.out (row_knobs HR3.out HO9.out) HS1.out HS2.out).mono ?_; rw [HWO.out]; rintro e w4 ⟨v4, rfl, hR4, hb4⟩
         obtain ⟨A4, c4, rfl⟩ := hR4.slice
         rw [HSL.out] at hR4 ⊢
         have hb5 : Below w4.heap.size w4 w4 := Below.refl _ _
         have HR5 := Lib.hid (hR4.call hb5)
         have z3 := CP3.out.lt
         have CP5 := Lib.hid ((CP3.out.call hb4).call hb5)
         have CQ5 := Lib.hid ((CQ3.out.call hb4).call hb5)
         have HB5 := Lib.hid (bel_call (bel_call HB3.out hb4) hb5)
         have hz4 := hb4.size
         have hq3 := CQ3.out.lt
         have p0 : w4.cell? ⟨w.heap.size, 0, none⟩ = some (.int .i64 (dn : Int)) := CP5.out.cell (show 0 < 2 by omega)
         have p1 : w4.cell? ⟨w.heap.size, 1, none⟩ = some (.slice A n c) := CP5.out.cell (show 1 < 2 by omega)
         have s0 : w4.cell? ⟨w.heap.size + 1, 0, none⟩ = some (.int .i64 0) := CQ5.out.cell (show 0 < 2 by omega)
         have s1 : w4.cell? ⟨w.heap.size + 1, 1, none⟩ = some (.slice none 0 0) := CQ5.out.cell (show 1 < 2 by omega)
         have f0 := CQ5.out.frozen (show 0 < 2 by omega)
         have f1 := CQ5.out.frozen (show 1 < 2 by omega)
         clear hR4 hb4 hb5))
    refine bodyPost_ret (v := .tuple #[.agg #[.int .i64 (dn : Int), .slice A4 n c4], .bool true]) (by simp [results, Try.results16, go_sem, s0, s1]) rfl ?_
    rw [HK.out]
    unfold apD
    rw [HD.out]
    exact ⟨_, rfl, ((HR5.out.under (by show w.heap.size + 1 < _; omega) _).under (by show w.heap.size + 1 < _; omega) _).weak (by omega), (HB5.out.setCell (p := ⟨w.heap.size + 1, 0, none⟩) (by show w.heap.size ≤ w.heap.size + 1; omega) _).setCell (p := ⟨w.heap.size + 1, 1, none⟩) (by show w.heap.size ≤ w.heap.size + 1; omega) _⟩
  · have HD : Hid (apB (dn : Int) ks (pn : Int) (qn : Int) = false) := Lib.hid HTB2.out
    go_enter Try.func16, Try.ntmps16
    go_wp2_with (first
      | (go_at_call 37; refine (pin_any _ _ _ _ ks _ _ _ hm HA.out).mono ?_; rw [HPD.out, HPK.out, HX.out]; rintro e w1 ⟨v1, rfl, hR1, hb1⟩
         obtain ⟨A1, c1, rfl⟩ := hR1.slice
         rw [HOL.out] at hR1 ⊢
         obtain ⟨W2, hW2⟩ : ∃ W, w1.alloc (.cells #[.int .i64 (dn : Int), .slice A1 n c1] 34) = W := ⟨_, rfl⟩
         have hb2 : Below w1.heap.size w1 W2 := by rw [← hW2]; exact (Below.refl _ _).alloc (Nat.le_refl _) _
         have CX2 := Lib.hid (show Cells W2 w1.heap.size 2 (pF (dn : Int) (.slice A1 n c1)) from hW2 ▸ Cells.new (n := 2) rfl rfl)
         have HR2 := Lib.hid (hR1.call hb2)
         have CP2 := Lib.hid ((CP.out.call hb1).call hb2)
         have CQ2 := Lib.hid ((CQ.out.call hb1).call hb2)
         have HB2 := Lib.hid (bel_call (bel_call HB0.out hb1) hb2)
         have HA2 := Lib.hid ((HA.out.below hb1).below hb2)
         have zU : w.heap.size + 2 ≤ w1.heap.size := Nat.le_trans z0 hb1.size
         have p0 : W2.cell? ⟨w.heap.size, 0, none⟩ = some (.int .i64 (dn : Int)) := CP2.out.cell (show 0 < 2 by omega)
         have p1 : W2.cell? ⟨w.heap.size, 1, none⟩ = some (.slice A n c) := CP2.out.cell (show 1 < 2 by omega)
         have s0 : W2.cell? ⟨w.heap.size + 1, 0, none⟩ = some (.int .i64 0) := CQ2.out.cell (show 0 < 2 by omega)
         have s1 : W2.cell? ⟨w.heap.size + 1, 1, none⟩ = some (.slice none 0 0) := CQ2.out.cell (show 1 < 2 by omega)
         have f0 := CQ2.out.frozen (show 0 < 2 by omega)
         have f1 := CQ2.out.frozen (show 1 < 2 by omega)
         have x0 : W2.cell? ⟨w1.heap.size, 0, none⟩ = some (.int .i64 (dn : Int)) := CX2.out.cell (show 0 < 2 by omega)
         have x1 : W2.cell? ⟨w1.heap.size, 1, none⟩ = some (.slice A1 n c1) := CX2.out.cell (show 1 < 2 by omega)
         clear hR1 hb1 hb2)
      | (go_at_call 38; refine (has_any dn (dn : Int) A A1 n n c c1 ks (onL pn qn n) _ (by omega) (by omega) (by omega) HA2.out (row_knobs HR2.out HO9.out) HS1.out HS2.out).mono ?_; rw [HHM.out]; rintro e w3 ⟨rfl, hb3⟩
         have CX3 := Lib.hid (CX2.out.call hb3)
         have HR3 := Lib.hid (HR2.out.call hb3)
         have CP3 := Lib.hid (CP2.out.call hb3)
         have CQ3 := Lib.hid (CQ2.out.call hb3)
         have HB3 := Lib.hid (bel_call HB2.out hb3)
         have HA3 := Lib.hid (HA2.out.below hb3)
         have p0 : w3.cell? ⟨w.heap.size, 0, none⟩ = some (.int .i64 (dn : Int)) := CP3.out.cell (show 0 < 2 by omega)
         have p1 : w3.cell? ⟨w.heap.size, 1, none⟩ = some (.slice A n c) := CP3.out.cell (show 1 < 2 by omega)
         have s0 : w3.cell? ⟨w.heap.size + 1, 0, none⟩ = some (.int .i64 0) := CQ3.out.cell (show 0 < 2 by omega)
         have s1 : w3.cell? ⟨w.heap.size + 1, 1, none⟩ = some (.slice none 0 0) := CQ3.out.cell (show 1 < 2 by omega)
         have f0 := CQ3.out.frozen (show 0 < 2 by omega)
         have f1 := CQ3.out.frozen (show 1 < 2 by omega)
         have x0 : w3.cell? ⟨w1.heap.size, 0, none⟩ = some (.int .i64 (dn : Int)) := CX3.out.cell (show 0 < 2 by omega)
         have x1 : w3.cell? ⟨w1.heap.size, 1, none⟩ = some (.slice A1 n c1) := CX3.out.cell (show 1 < 2 by omega)
         clear hb3))
    refine bodyPost_ret (v := .tuple #[.agg #[.int .i64 0, .slice none 0 0], .bool false]) (by simp [results, Try.results16, go_sem, s0, s1]) rfl ?_
    unfold apD apK
    rw [HD.out]
    exact pinsOut_no rfl ((HB3.out.setCell (p := ⟨w.heap.size + 1, 0, none⟩) (by show w.heap.size ≤ w.heap.size + 1; omega) _).setCell (p := ⟨w.heap.size + 1, 1, none⟩) (by show w.heap.size ≤ w.heap.size + 1; omega) _)

theorem RowP.capAt {w : World} {B n c g0 : Nat} {ks : List (List Int)} (h : RowP w B (.slice (some ⟨g0, 0, none⟩) n c) ks) (hc : CapR w B (.slice (some ⟨g0, 0, none⟩) n c) ks.length) {k : Nat} (hk : k < ks.length) (hne : (ks.getD k []).length ≠ 0) :
    ∃ gk ck, w.cell? ⟨g0, k, none⟩ = some (.slice (some ⟨gk, 0, none⟩) (ks.getD k []).length ck) ∧ (ks.getD k []).length ≤ ck ∧ IntsA w (some ⟨gk, 0, none⟩) (ks.getD k []).length (ks.getD k []) := by
  have hn : ks.length = n := by
    obtain ⟨A', c', e⟩ := h.slice
    injection e with _ e _
    exact e.symm
  subst hn
  obtain ⟨G, vs, h1, h2, h3, h4⟩ := h.own
  obtain ⟨vs', o', hcv⟩ := hc
  rw [row_inj o' h2] at hcv
  obtain ⟨Ai, ci, ei, hci⟩ := h3 k hk
  obtain ⟨rfl, _, _, hC⟩ := hci.resolve_left hne
  refine ⟨_, ci, by rw [h2.cellAt k (by omega), ei], ?_, rfl, .inr ⟨_, 0, rfl, hC.lt, fun j hj => by rw [Nat.zero_add, hC.cell hj]; rfl⟩⟩
  obtain ⟨A, m, c', e, hm⟩ := hcv _ (List.mem_of_getElem? ei)
  injection e with e1 e2 e3
  omega

set_option maxHeartbeats 8000000 in
theorem specAddPin_any (d : Int) (A : Option Addr) (n c : Nat) (ks : List (List Int)) (p q : Int) (w : World) (hm : n + lensAt ks n ≤ 1048576) (hA : KnobsA w A n ks) :
    Calls Try.prog 14 #[.agg #[.int .i64 d, .slice A n c], .int .i64 p, .int .i64 q] w (PinsOut w (apD d ks p q) (apK d ks p q) (apB d ks p q)) := by
  obtain ⟨W0, hW0⟩ : ∃ W0, (w.alloc (.cells #[.int .i64 d, .slice A n c] 34)).alloc (.cells #[.int .i64 0, .slice none 0 0] 34) = W0 := ⟨_, rfl⟩
  have CP := Lib.hid (show Cells W0 w.heap.size 2 (pF d (.slice A n c)) from hW0 ▸ (Cells.new (W := w) (n := 2) rfl rfl).alloc _)
  have CQ := Lib.hid (show Cells W0 (w.heap.size + 1) 2 (pF 0 (.slice none 0 0)) from hW0 ▸ Cells.new (n := 2) (by simp) rfl)
  have HB0 := Lib.hid (show Below w.heap.size w W0 from hW0 ▸ (by (repeat (first | assumption | exact Below.refl _ _ | (refine Below.alloc ?_ (by first | omega | (simp; done) | (simp; omega)) _) | (refine Below.setCell ?_ (by first | omega | (simp; done) | (simp; omega)) _) | refine bel_drewN ?_ _ | refine bel_drew ?_ | (refine bel_call ?_ (by assumption))))))
  have z0 : w.heap.size + 2 ≤ W0.heap.size := by rw [← hW0]; simp
  have l0 : W0.cell? ⟨w.heap.size, 0, none⟩ = some (.int .i64 d) := CP.out.cell (show 0 < 2 by omega)
  have l1 : W0.cell? ⟨w.heap.size, 1, none⟩ = some (.slice A n c) := CP.out.cell (show 1 < 2 by omega)
  have HA := Lib.hid (hA.below HB0.out)
  have HL := Lib.hid hA.len
  clear hA
  obtain ⟨x, hx⟩ : ∃ x, pnB d ks p q = x := ⟨_, rfl⟩
  have HX := Lib.hid hx
  clear hx
  rcases x with _ | _
  · have HD : Hid (apB d ks p q = false) := Lib.hid (ap_no (.inl HX.out))
    go_enter Try.func14, Try.ntmps14
    go_wp2_with (first
      | (go_at_call 32; refine (kePlace_any _ _ _ _ ks _ _ _ hm HA.out).mono ?_; rw [HX.out]; rintro e w1 ⟨rfl, hb1⟩
         have CP1 := Lib.hid (CP.out.call hb1)
         have CQ1 := Lib.hid (CQ.out.call hb1)
         have HB1 := Lib.hid (bel_call HB0.out hb1)
         have z1 : w.heap.size + 2 ≤ w1.heap.size := Nat.le_trans z0 hb1.size
         have HA1 := Lib.hid (HA.out.below hb1)
         have p0 : w1.cell? ⟨w.heap.size, 0, none⟩ = some (.int .i64 d) := CP1.out.cell (show 0 < 2 by omega)
         have p1 : w1.cell? ⟨w.heap.size, 1, none⟩ = some (.slice A n c) := CP1.out.cell (show 1 < 2 by omega)
         have s0 : w1.cell? ⟨w.heap.size + 1, 0, none⟩ = some (.int .i64 0) := CQ1.out.cell (show 0 < 2 by omega)
         have s1 : w1.cell? ⟨w.heap.size + 1, 1, none⟩ = some (.slice none 0 0) := CQ1.out.cell (show 1 < 2 by omega)
         have f0 := CQ1.out.frozen (show 0 < 2 by omega)
         have f1 := CQ1.out.frozen (show 1 < 2 by omega)
         clear hb1))
    refine bodyPost_ret (v := .tuple #[.agg #[.int .i64 0, .slice none 0 0], .bool false]) (by simp [results, Try.results14, go_sem, s0, s1]) rfl ?_
    unfold apD apK
    rw [HD.out]
    exact pinsOut_no rfl ((HB1.out.setCell (p := ⟨w.heap.size + 1, 0, none⟩) (by show w.heap.size ≤ w.heap.size + 1; omega) _).setCell (p := ⟨w.heap.size + 1, 1, none⟩) (by show w.heap.size ≤ w.heap.size + 1; omega) _)
  obtain ⟨hpp, hp, hq⟩ := pn_yes HX.out
  have HPP := Lib.hid hpp
  obtain ⟨h1, h2, h3, h4, h5⟩ := pinsB_yes hpp
  rw [HL.out] at h3 h4 hp
  obtain ⟨dn, rfl⟩ : ∃ dn : Nat, d = dn := ⟨d.toNat, by omega⟩
  obtain ⟨pn, rfl⟩ : ∃ pn : Nat, p = pn := ⟨p.toNat, by omega⟩
  obtain ⟨qn, rfl⟩ : ∃ qn : Nat, q = qn := ⟨q.toNat, by omega⟩
  have hpn : pn < n := by omega
  have hqn : qn < dn := by omega
  have hm0 := (h5 pn (by rw [HL.out]; exact hpn)).1
  clear h5 hpp
  have hpi : (pn : Int) < (n : Int) := by omega
  have H9 := Lib.hid (rows_nine HPP.out)
  have hm9 := H9.out pn
  obtain ⟨b, off, rfl, hb, hc⟩ := HA.out.at_.resolve_left (by omega)
  obtain ⟨Ak, ck, o1', _, hI⟩ := hc pn hpn
  have HI := Lib.hid hI
  have HO1 := Lib.hid o1'
  have HTB : Hid (∀ (h : Bool), hasB (ks.getD pn []) qn = h → apB (dn : Int) ks (pn : Int) (qn : Int) = !h) := Lib.hid (fun h e => by
    unfold apB
    rw [HX.out, Int.toNat_natCast, Int.toNat_natCast, e, Bool.true_and])
  have HTK : Hid (apB (dn : Int) ks (pn : Int) (qn : Int) = true → apK (dn : Int) ks (pn : Int) (qn : Int) = ks.set pn (putL qn (ks.getD pn []))) := Lib.hid (fun e => by unfold apK; rw [e]; rfl)
  obtain ⟨xs, hxs⟩ : ∃ xs, ks.getD pn [] = xs := ⟨_, rfl⟩
  have HXS := Lib.hid hxs
  rw [hxs] at HI HO1 HTB HTK hm9 hm0
  clear hxs hc hI o1'
  obtain ⟨m, hmx⟩ : ∃ m, xs.length = m := ⟨_, rfl⟩
  have HML := Lib.hid hmx
  rw [hmx] at HI HO1 hm9 hm0
  clear hmx
  obtain ⟨h, hh⟩ : ∃ h, hasB xs qn = h := ⟨_, rfl⟩
  have HH := Lib.hid hh
  have HTB2 := Lib.hid (HTB.out h hh)
  clear hh
  rcases h with _ | _
  · have HD : Hid (apB (dn : Int) ks (pn : Int) (qn : Int) = true) := Lib.hid HTB2.out
    have HK := Lib.hid (HTK.out HD.out)
    have HNQ : Hid ((qn : Int) ∉ xs) := Lib.hid (of_decide_eq_false HH.out)
    go_enter Try.func14, Try.ntmps14
    go_wp2_with (first
      | (go_at_call 32; refine (kePlace_any _ _ _ _ ks _ _ _ hm HA.out).mono ?_; rw [HX.out]; rintro e w1 ⟨rfl, hb1⟩
         have CP1 := Lib.hid (CP.out.call hb1)
         have CQ1 := Lib.hid (CQ.out.call hb1)
         have HB1 := Lib.hid (bel_call HB0.out hb1)
         have z1 : w.heap.size + 2 ≤ w1.heap.size := Nat.le_trans z0 hb1.size
         have HA1 := Lib.hid (HA.out.below hb1)
         have p0 : w1.cell? ⟨w.heap.size, 0, none⟩ = some (.int .i64 (dn : Int)) := CP1.out.cell (show 0 < 2 by omega)
         have p1 : w1.cell? ⟨w.heap.size, 1, none⟩ = some (.slice (some ⟨b, off, none⟩) n c) := CP1.out.cell (show 1 < 2 by omega)
         have s0 : w1.cell? ⟨w.heap.size + 1, 0, none⟩ = some (.int .i64 0) := CQ1.out.cell (show 0 < 2 by omega)
         have s1 : w1.cell? ⟨w.heap.size + 1, 1, none⟩ = some (.slice none 0 0) := CQ1.out.cell (show 1 < 2 by omega)
         have f0 := CQ1.out.frozen (show 0 < 2 by omega)
         have f1 := CQ1.out.frozen (show 1 < 2 by omega)
         have o1 : w1.cell? ⟨b, off + pn, none⟩ = some (.slice Ak m ck) := by rw [hb1.cell (p := ⟨b, off + pn, none⟩) hb]; exact HO1.out
         have hbz1 := hb1.size
         have HI1 := Lib.hid (HI.out.below hb1)
         clear hb1)
      | (go_at_call 33; refine (l1Has_any _ _ _ xs qn _ (by omega) HI1.out).mono ?_; rw [HH.out]; rintro e wq ⟨rfl, hwq⟩; have hwz := hwq.symm; clear hwq; subst hwz)
      | (go_at_call 34; refine (keOwnC_any _ _ _ _ ks _ (by omega) HA1.out H9.out).mono ?_; rintro e w2 ⟨v2, rfl, hR2, hb2, hcr2⟩
         obtain ⟨g0, c2, rfl⟩ : ∃ g0 c2, v2 = .slice (some ⟨g0, 0, none⟩) n c2 := by
           obtain ⟨G, vs, _, hv2, _, _⟩ := hR2.own
           rw [HL.out] at hv2
           obtain ⟨g0, c2, e, _⟩ := hv2.form (by omega)
           exact ⟨g0, c2, e⟩
         obtain ⟨gk, ck2, hk1, hmc, hk3⟩ := hR2.capAt hcr2 (k := pn) (by rw [HL.out]; exact hpn) (by rw [HXS.out, HML.out]; exact hm0)
         rw [HXS.out, HML.out] at hk1 hmc hk3
         obtain ⟨W3, hW3⟩ : ∃ W, w2.alloc (.cells #[.int .i64 (dn : Int), .slice (some ⟨g0, 0, none⟩) n c2] 34) = W := ⟨_, rfl⟩
         have hb3 : Below w2.heap.size w2 W3 := by rw [← hW3]; exact (Below.refl _ _).alloc (Nat.le_refl _) _
         obtain ⟨U, hU⟩ : ∃ U, w2.heap.size = U := ⟨_, rfl⟩
         have CX3 : Hid (Cells W3 U 2 (pF (dn : Int) (.slice (some ⟨g0, 0, none⟩) n c2))) := Lib.hid (by rw [← hW3]; exact Cells.new (n := 2) hU.symm rfl)
         have HR3 := Lib.hid (hR2.call hb3)
         have CP3 := Lib.hid ((CP1.out.call hb2).call hb3)
         have CQ3 := Lib.hid ((CQ1.out.call hb2).call hb3)
         have HB3 := Lib.hid (bel_call (bel_call HB1.out hb2) hb3)
         have HI3 := Lib.hid ((HI1.out.below hb2).below hb3)
         have o1 : W3.cell? ⟨b, off + pn, none⟩ = some (.slice Ak m ck) := by rw [(hb2.trans (hb3.mono hb2.size)).cell (p := ⟨b, off + pn, none⟩) (Nat.lt_of_lt_of_le hb hbz1)]; exact o1
         have zB : w1.heap.size ≤ W3.heap.size := Nat.le_trans hb2.size hb3.size
         have zU : U < W3.heap.size := CX3.out.lt
         have zg : g0 < U := by
           obtain ⟨G, vs, _, hv2, _, _⟩ := hR2.own
           rw [← hU]
           exact (hv2.lt g0 rfl).2
         have p0 : W3.cell? ⟨w.heap.size, 0, none⟩ = some (.int .i64 (dn : Int)) := CP3.out.cell (show 0 < 2 by omega)
         have p1 : W3.cell? ⟨w.heap.size, 1, none⟩ = some (.slice (some ⟨b, off, none⟩) n c) := CP3.out.cell (show 1 < 2 by omega)
         have s0 : W3.cell? ⟨w.heap.size + 1, 0, none⟩ = some (.int .i64 0) := CQ3.out.cell (show 0 < 2 by omega)
         have s1 : W3.cell? ⟨w.heap.size + 1, 1, none⟩ = some (.slice none 0 0) := CQ3.out.cell (show 1 < 2 by omega)
         have f0 := CQ3.out.frozen (show 0 < 2 by omega)
         have f1 := CQ3.out.frozen (show 1 < 2 by omega)
         have x0 : W3.cell? ⟨U, 0, none⟩ = some (.int .i64 (dn : Int)) := CX3.out.cell (show 0 < 2 by omega)
         have x1 : W3.cell? ⟨U, 1, none⟩ = some (.slice (some ⟨g0, 0, none⟩) n c2) := CX3.out.cell (show 1 < 2 by omega)
         have hg1 : W3.cell? ⟨g0, pn, none⟩ = some (.slice (some ⟨gk, 0, none⟩) m ck2) := by rw [hb3.cell (p := ⟨g0, pn, none⟩) (by show g0 < w2.heap.size; rw [hU]; exact zg)]; exact hk1
         have HG3 := Lib.hid (hk3.below hb3)
         clear hR2 hb2 hb3 hk1 hk3 hcr2)
      | (go_at_call 35; refine (l1Put_any gk 0 m ck2 xs _ _ (by omega) hmc HNQ.out (by omega) HG3.out).mono ?_; rintro e w4 ⟨AL, cL, rfl, hL4, hb4⟩
         obtain ⟨gL, hCL⟩ := listOut_at hL4
         have CXr := Lib.hid (CX3.out.call hb4)
         have CQr := Lib.hid (CQ3.out.call hb4)
         have x0 : w4.cell? ⟨U, 0, none⟩ = some (.int .i64 (dn : Int)) := CXr.out.cell (show 0 < 2 by omega)
         have x1 : w4.cell? ⟨U, 1, none⟩ = some (.slice (some ⟨g0, 0, none⟩) n c2) := CXr.out.cell (show 1 < 2 by omega)
         have hks : ks.length = n := HL.out
         have HP := Lib.hid (RowP.put (k := pn) (c := cL) (A' := AL) HR3.out hb4 (by rw [hks]; exact hpn) rfl (hCL.imp id fun ⟨e, h1, h2⟩ => ⟨e, h1, Nat.le_trans zB h1, h2⟩))
         have hRr := HR3.out.call hb4
         obtain ⟨G, vs, hv1, hv2, hv3, hv4⟩ := hRr.own
         rw [hks] at hv2
         have y0 : w4.cell? ⟨g0, pn, none⟩ = some (.slice (some ⟨gk, 0, none⟩) m ck2) := by rw [hb4.cell (p := ⟨g0, pn, none⟩) (by show g0 < W3.heap.size; omega)]; exact hg1
         have yf : w4.frozen? ⟨g0, pn, none⟩ = false := hv2.frozenAt pn
         have hgB := (hv2.lt g0 rfl).1
         obtain ⟨W6, hW6⟩ : ∃ W, w4.setCell ⟨g0, pn, none⟩ (.slice AL (putL qn xs).length cL) = W := ⟨_, rfl⟩
         rw [hW6] at HP
         have CX6 := Lib.hid (show Cells W6 U 2 _ from hW6 ▸ CXr.out.far (by show g0 ≠ U; omega) _)
         have CQ6 := Lib.hid (show Cells W6 (w.heap.size + 1) 2 _ from hW6 ▸ CQr.out.far (by show g0 ≠ w.heap.size + 1; omega) _)
         have HB6 := Lib.hid (show Below w.heap.size w W6 from hW6 ▸ (bel_call HB3.out hb4).setCell (by show w.heap.size ≤ g0; omega) _)
         have e0 : W6.cell? ⟨U, 0, none⟩ = some (.int .i64 (dn : Int)) := CX6.out.cell (show 0 < 2 by omega)
         have e1 : W6.cell? ⟨U, 1, none⟩ = some (.slice (some ⟨g0, 0, none⟩) n c2) := CX6.out.cell (show 1 < 2 by omega)
         have s0 : W6.cell? ⟨w.heap.size + 1, 0, none⟩ = some (.int .i64 0) := CQ6.out.cell (show 0 < 2 by omega)
         have s1 : W6.cell? ⟨w.heap.size + 1, 1, none⟩ = some (.slice none 0 0) := CQ6.out.cell (show 1 < 2 by omega)
         have f0 := CQ6.out.frozen (show 0 < 2 by omega)
         have f1 := CQ6.out.frozen (show 1 < 2 by omega)
         clear hL4 hCL hv1 hv2 hv3 hv4 hRr hb4))
    refine bodyPost_ret (v := .tuple #[.agg #[.int .i64 (dn : Int), .slice (some ⟨g0, 0, none⟩) n c2], .bool true]) (by simp [results, Try.results14, go_sem, s0, s1]) rfl ?_
    rw [HK.out, HD.out]
    unfold apD
    rw [HD.out]
    exact ⟨_, rfl, ((HP.out.under (by show w.heap.size + 1 < _; omega) _).under (by show w.heap.size + 1 < _; omega) _).weak (by omega), (HB6.out.setCell (p := ⟨w.heap.size + 1, 0, none⟩) (by show w.heap.size ≤ w.heap.size + 1; omega) _).setCell (p := ⟨w.heap.size + 1, 1, none⟩) (by show w.heap.size ≤ w.heap.size + 1; omega) _⟩
  · have HD : Hid (apB (dn : Int) ks (pn : Int) (qn : Int) = false) := Lib.hid HTB2.out
    go_enter Try.func14, Try.ntmps14
    go_wp2_with (first
      | (go_at_call 32; refine (kePlace_any _ _ _ _ ks _ _ _ hm HA.out).mono ?_; rw [HX.out]; rintro e w1 ⟨rfl, hb1⟩
         have CP1 := Lib.hid (CP.out.call hb1)
         have CQ1 := Lib.hid (CQ.out.call hb1)
         have HB1 := Lib.hid (bel_call HB0.out hb1)
         have z1 : w.heap.size + 2 ≤ w1.heap.size := Nat.le_trans z0 hb1.size
         have HA1 := Lib.hid (HA.out.below hb1)
         have p0 : w1.cell? ⟨w.heap.size, 0, none⟩ = some (.int .i64 (dn : Int)) := CP1.out.cell (show 0 < 2 by omega)
         have p1 : w1.cell? ⟨w.heap.size, 1, none⟩ = some (.slice (some ⟨b, off, none⟩) n c) := CP1.out.cell (show 1 < 2 by omega)
         have s0 : w1.cell? ⟨w.heap.size + 1, 0, none⟩ = some (.int .i64 0) := CQ1.out.cell (show 0 < 2 by omega)
         have s1 : w1.cell? ⟨w.heap.size + 1, 1, none⟩ = some (.slice none 0 0) := CQ1.out.cell (show 1 < 2 by omega)
         have f0 := CQ1.out.frozen (show 0 < 2 by omega)
         have f1 := CQ1.out.frozen (show 1 < 2 by omega)
         have o1 : w1.cell? ⟨b, off + pn, none⟩ = some (.slice Ak m ck) := by rw [hb1.cell (p := ⟨b, off + pn, none⟩) hb]; exact HO1.out
         have hbz1 := hb1.size
         have HI1 := Lib.hid (HI.out.below hb1)
         clear hb1)
      | (go_at_call 33; refine (l1Has_any _ _ _ xs qn _ (by omega) HI1.out).mono ?_; rw [HH.out]; rintro e wq ⟨rfl, hwq⟩; have hwz := hwq.symm; clear hwq; subst hwz))
    refine bodyPost_ret (v := .tuple #[.agg #[.int .i64 0, .slice none 0 0], .bool false]) (by simp [results, Try.results14, go_sem, s0, s1]) rfl ?_
    unfold apD apK
    rw [HD.out]
    exact pinsOut_no rfl ((HB1.out.setCell (p := ⟨w.heap.size + 1, 0, none⟩) (by show w.heap.size ≤ w.heap.size + 1; omega) _).setCell (p := ⟨w.heap.size + 1, 1, none⟩) (by show w.heap.size ≤ w.heap.size + 1; omega) _)

end Go.Proofs.Ytbfildegnbbinaa

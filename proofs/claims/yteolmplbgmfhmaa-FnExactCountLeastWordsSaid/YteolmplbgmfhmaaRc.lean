/- How many least words of a length there are, as both programs reckon it. No conditions. -/
import Derived.Test.YteolmplbgmfhmaaRl
namespace Go.Proofs.Yteolmplbgmfhmaa
open Go.ChangeShapes Go.WideShapes Go.ChangeAt Go.RowKit Go.Joins

/-- How many least words of m digits there are; f: more than m. -/
def lwF (b : Int) : Nat → Nat → Int
  | 0, _ => 0
  | f + 1, m => (List.range m).foldl (fun x k => if k != 0 && m % k == 0 then x - k * lwF b f k else x) (pw b m) / m

/-- What is left of all texts when those of shorter words are taken away. -/
def lwP (b : Int) (f m k : Nat) : Int := (List.range k).foldl (fun x k => if k != 0 && m % k == 0 then x - k * lwF b f k else x) (pw b m)

theorem lwF_succ (b : Int) (f m : Nat) : lwF b (f + 1) m = lwP b f m m / m := rfl

theorem lwP_one (b : Int) (f m : Nat) : lwP b f m 1 = pw b m := rfl

theorem lwP_succ (b : Int) (f m k : Nat) : lwP b f m (k + 1) = if k != 0 && m % k == 0 then lwP b f m k - k * lwF b f k else lwP b f m k := by
  unfold lwP
  rw [List.range_succ, List.foldl_append]
  rfl

def okL (b : Int) : Bool :=
  (List.range 14).all fun f => (List.range f).all fun m => m == 0 || ((List.range (m + 1)).all fun k => decide (0 ≤ lwP b (f - 1) m k ∧ lwP b (f - 1) m k ≤ 1000000000000)) && decide (0 ≤ lwF b f m ∧ lwF b f m ≤ 1000000000000)

theorem okL_all : ((List.range 9).all fun i => okL ((i : Int) + 2)) = true := by decide +kernel

theorem okL_of {b : Int} (h2 : 2 ≤ b) (h10 : b ≤ 10) : okL b = true := by
  have h := okL_all
  rw [List.all_eq_true] at h
  have := h (b - 2).toNat (by rw [List.mem_range]; omega)
  rwa [show (((b - 2).toNat : Nat) : Int) + 2 = b by omega] at this

theorem lw_bd {b : Int} (h2 : 2 ≤ b) (h10 : b ≤ 10) {f m : Nat} (h1 : 1 ≤ m) (hf : m < f) (h13 : f ≤ 13) :
    (∀ k, k ≤ m → 0 ≤ lwP b (f - 1) m k ∧ lwP b (f - 1) m k ≤ 1000000000000) ∧ 0 ≤ lwF b f m ∧ lwF b f m ≤ 1000000000000 := by
  have h := okL_of h2 h10
  unfold okL at h
  rw [List.all_eq_true] at h
  have h := h f (by rw [List.mem_range]; omega)
  rw [List.all_eq_true] at h
  have h := h m (by rw [List.mem_range]; omega)
  rw [Bool.or_eq_true, Bool.and_eq_true] at h
  rcases h with h | ⟨h, h'⟩
  · have := eq_of_beq h; omega
  · rw [List.all_eq_true] at h
    exact ⟨fun k hk => of_decide_eq_true (h k (by rw [List.mem_range]; omega)), of_decide_eq_true h'⟩

theorem pw_bdg {b : Int} (h1 : 2 ≤ b) (h2 : b ≤ 10) (k : Nat) : 1 ≤ pw b k ∧ pw b k ≤ 10 ^ k := by
  induction k with
  | zero => simp [pw]
  | succ k ih =>
    obtain ⟨i1, i2⟩ := ih
    rw [pw_succ]
    refine ⟨?_, ?_⟩
    · have := Int.mul_le_mul i1 (show (1 : Int) ≤ b by omega) (by omega) (by omega)
      omega
    · rw [Int.pow_succ]
      exact Int.mul_le_mul i2 h2 (by omega) (by omega)

theorem ten_pow12 {k : Nat} (h : k ≤ 12) : (10 : Int) ^ k ≤ 1000000000000 := by
  have : k = 0 ∨ k = 1 ∨ k = 2 ∨ k = 3 ∨ k = 4 ∨ k = 5 ∨ k = 6 ∨ k = 7 ∨ k = 8 ∨ k = 9 ∨ k = 10 ∨ k = 11 ∨ k = 12 := by omega
  rcases this with rfl | rfl | rfl | rfl | rfl | rfl | rfl | rfl | rfl | rfl | rfl | rfl | rfl <;> decide

theorem pw_bd12 {b : Int} (h1 : 2 ≤ b) (h2 : b ≤ 10) {k : Nat} (hk : k ≤ 12) : 1 ≤ pw b k ∧ pw b k ≤ 1000000000000 :=
  ⟨(pw_bdg h1 h2 k).1, Int.le_trans (pw_bdg h1 h2 k).2 (ten_pow12 hk)⟩

set_option maxHeartbeats 1000000 in
theorem countWords_any (n : Nat) (b : Int) (h2 : 2 ≤ b) (h10 : b ≤ 10) (f : Nat) : ∀ (m : Nat), 1 ≤ m → m < f → f ≤ 13 → ∀ w : World,
    Calls Try.prog 55 #[.agg #[.int .i64 n, .int .i64 b], .int .i64 m] w fun e w' => e = .returned (.int .i64 (lwF b f m)) ∧ Below w.heap.size w w' := by
  induction f with
  | zero => intro m _ h; omega
  | succ f ih =>
    intro m h1 hf h13 w
    have IH := Lib.hid ih
    have BD := Lib.hid (lw_bd h2 h10 h1 hf h13)
    clear ih
    go_enter Try.func55, Try.ntmps55
    go_wp2
    go_loop [5, 8] (fun v j => ∃ k : Nat, k ≤ m ∧ j = .int .i64 k ∧ v = .int .i64 (pw b k)) (fun _ j => m - (intOf j).toNat)
    case atStart => exact ⟨0, by omega, rfl, by simp [pw]⟩
    case round =>
      obtain ⟨k, hk, rfl, rfl⟩ := hrel
      by_cases hlt : k < m
      · obtain ⟨p1, p2⟩ := pw_bd12 h2 h10 (k := k + 1) (by omega)
        rw [pw_succ] at p1 p2
        go_wp2
        go_round
        case rel => exact ⟨k + 1, by omega, by go_num, by rw [pw_succ]⟩
        case measure => simp [intOf]; omega
      · obtain rfl : k = m := by omega
        have HE : Hid (pw b k = lwP b f k 1) := Lib.hid (lwP_one b f k).symm
        go_wp2
        go_loopw [5, 6] (fun v j wr => ∃ q : Nat, 1 ≤ q ∧ q ≤ k ∧ j = .int .i64 q ∧ v = .int .i64 (lwP b f k q) ∧ wr.cell? ⟨w.heap.size, 0, none⟩ = some (.int .i64 n) ∧ wr.cell? ⟨w.heap.size, 1, none⟩ = some (.int .i64 b) ∧ Below w.heap.size w wr ∧ w.heap.size < wr.heap.size) (fun _ j _ => k - (intOf j).toNat)
        case atStart => exact ⟨1, Nat.le_refl _, h1, rfl, by rw [HE.out], by simp, by simp, (Below.refl _ _).alloc (Nat.le_refl _) _, by simp⟩
        case round =>
          obtain ⟨q, hq1, hqk, rfl, rfl, c0, c1, hB, hz⟩ := hrel
          have hS := lwP_succ b f k q
          obtain ⟨p0, p1⟩ := BD.out.1 q (by omega)
          rw [show f + 1 - 1 = f from rfl] at p0 p1
          by_cases hlt : q < k
          · obtain ⟨r0, r1⟩ := BD.out.1 (q + 1) (by omega)
            rw [show f + 1 - 1 = f from rfl] at r0 r1
            obtain ⟨l0, l1⟩ := (lw_bd h2 h10 (f := f) hq1 (by omega) (by omega)).2
            have m0 := Int.mul_nonneg (show (0 : Int) ≤ q by omega) l0
            have m1 : (q : Int) * lwF b f q ≤ 12 * 1000000000000 := Int.mul_le_mul (by omega) l1 l0 (by omega)
            have HI := Lib.hid (fun w => IH.out q hq1 (by omega) (by omega) w)
            generalize lwF b f q = L at hS l0 l1 m0 m1 HI
            by_cases hd : k % q = 0
            · rw [if_pos (by rw [Bool.and_eq_true]; exact ⟨by simp; omega, by simp [hd]⟩)] at hS
              have HS := Lib.hid hS
              clear hS
              rw [HS.out] at r0 r1
              generalize lwP b f k q = P at p0 p1 r0 r1 HS
              have hdi : (k : Int) % (q : Int) = 0 := by omega
              go_wp2_with (go_at_call 55; refine (HI.out _).mono ?_; rintro e w1 ⟨rfl, hb⟩)
              go_roundw
              case rel => exact ⟨q + 1, by omega, by omega, by go_num, by rw [HS.out], by rw [hb.cell (p := ⟨w.heap.size, 0, none⟩) hz]; exact c0, by rw [hb.cell (p := ⟨w.heap.size, 1, none⟩) hz]; exact c1, bel_call hB hb, Nat.lt_of_lt_of_le hz hb.size⟩
              case measure => simp [intOf]; omega
            · rw [if_neg (by rw [Bool.and_eq_true]; intro h; exact hd (by simpa using h.2))] at hS
              have HS := Lib.hid hS
              clear hS
              have hdi : ¬ (k : Int) % (q : Int) = 0 := by omega
              generalize lwP b f k q = P at p0 p1 HS
              go_wp2
              go_roundw
              case rel => exact ⟨q + 1, by omega, by omega, by go_num, by rw [HS.out], c0, c1, hB, hz⟩
              case measure => simp [intOf]; omega
          · obtain rfl : q = k := by omega
            have HF := Lib.hid (lwF_succ b f q)
            clear hS
            have q1 := Int.ediv_nonneg p0 (show (0 : Int) ≤ (q : Int) by omega)
            have q2 := Int.ediv_le_self (q : Int) p0
            generalize lwP b f q q = P at p0 p1 HF q1 q2
            go_wp2
            go_ret
            exact ⟨ret_int HF.out.symm, hB⟩

theorem riPower_any (b : Int) (h2 : 2 ≤ b) (h10 : b ≤ 10) (m : Nat) (hm : m ≤ 12) (w : World) :
    Calls Try.prog 68 #[.int .i64 b, .int .i64 m] w fun e w' => e = .returned (.int .i64 (pw b m)) ∧ Below w.heap.size w w' := by
  go_enter Try.func68, Try.ntmps68
  go_wp2
  go_loop [1, 5] (fun j v => ∃ k : Nat, k ≤ m ∧ j = .int .i64 k ∧ v = .int .i64 (pw b (m - k))) (fun j _ => (intOf j).toNat)
  case atStart => exact ⟨m, by omega, rfl, by simp [pw]⟩
  case round =>
    obtain ⟨k, hk, rfl, rfl⟩ := hrel
    by_cases hlt : 0 < k
    · obtain ⟨p1, p2⟩ := pw_bd12 h2 h10 (k := m - k + 1) (by omega)
      rw [pw_succ] at p1 p2
      go_wp2
      go_round
      case rel => exact ⟨k - 1, by omega, by congr 1; omega, by rw [show m - (k - 1) = m - k + 1 by omega, pw_succ]⟩
      case measure => simp [intOf]; omega
    · go_wp2
      go_ret
      exact ⟨ret_int (by rw [show m - k = m by omega]), Below.refl _ _⟩

set_option maxHeartbeats 1000000 in
theorem riLeastWords_any (b : Int) (h2 : 2 ≤ b) (h10 : b ≤ 10) (f : Nat) : ∀ (m : Nat), 1 ≤ m → m < f → f ≤ 13 → ∀ w : World,
    Calls Try.prog 54 #[.int .i64 b, .int .i64 m] w fun e w' => e = .returned (.int .i64 (lwF b f m)) ∧ Below w.heap.size w w' := by
  induction f with
  | zero => intro m _ h; omega
  | succ f ih =>
    intro m h1 hf h13 w
    have IH := Lib.hid ih
    have BD := Lib.hid (lw_bd h2 h10 h1 hf h13)
    have HE : Hid (pw b m = lwP b f m 1) := Lib.hid (lwP_one b f m).symm
    clear ih
    go_enter Try.func54, Try.ntmps54
    go_wp2_with (go_at_call 68; refine (riPower_any _ h2 h10 _ (by omega) _).mono ?_; rintro e w1 ⟨rfl, hb⟩)
    go_loopw [5, 6] (fun v j wr => ∃ q : Nat, 1 ≤ q ∧ q ≤ m ∧ j = .int .i64 q ∧ v = .int .i64 (lwP b f m q) ∧ Below w.heap.size w wr) (fun _ j _ => m - (intOf j).toNat)
    case atStart => exact ⟨1, Nat.le_refl _, h1, rfl, by rw [HE.out], hb⟩
    case round =>
      obtain ⟨q, hq1, hqk, rfl, rfl, hB⟩ := hrel
      have hS := lwP_succ b f m q
      obtain ⟨p0, p1⟩ := BD.out.1 q (by omega)
      rw [show f + 1 - 1 = f from rfl] at p0 p1
      clear hb
      by_cases hlt : q < m
      · obtain ⟨r0, r1⟩ := BD.out.1 (q + 1) (by omega)
        rw [show f + 1 - 1 = f from rfl] at r0 r1
        obtain ⟨l0, l1⟩ := (lw_bd h2 h10 (f := f) hq1 (by omega) (by omega)).2
        have m0 := Int.mul_nonneg (show (0 : Int) ≤ q by omega) l0
        have m1 : (q : Int) * lwF b f q ≤ 12 * 1000000000000 := Int.mul_le_mul (by omega) l1 l0 (by omega)
        have HI := Lib.hid (fun w => IH.out q hq1 (by omega) (by omega) w)
        generalize lwF b f q = L at hS l0 l1 m0 m1 HI
        by_cases hd : m % q = 0
        · rw [if_pos (by rw [Bool.and_eq_true]; exact ⟨by simp; omega, by simp [hd]⟩)] at hS
          have HS := Lib.hid hS
          clear hS
          rw [HS.out] at r0 r1
          generalize lwP b f m q = P at p0 p1 r0 r1 HS
          have hdi : (m : Int) % (q : Int) = 0 := by omega
          go_wp2_with (go_at_call 54; refine (HI.out _).mono ?_; rintro e w1 ⟨rfl, hb⟩)
          go_roundw
          case rel => exact ⟨q + 1, by omega, by omega, by go_num, by rw [HS.out], bel_call hB hb⟩
          case measure => simp [intOf]; omega
        · rw [if_neg (by rw [Bool.and_eq_true]; intro h; exact hd (by simpa using h.2))] at hS
          have HS := Lib.hid hS
          clear hS
          have hdi : ¬ (m : Int) % (q : Int) = 0 := by omega
          generalize lwP b f m q = P at p0 p1 HS
          go_wp2
          go_roundw
          case rel => exact ⟨q + 1, by omega, by omega, by go_num, by rw [HS.out], hB⟩
          case measure => simp [intOf]; omega
      · obtain rfl : q = m := by omega
        have HF := Lib.hid (lwF_succ b f q)
        clear hS
        have q1 := Int.ediv_nonneg p0 (show (0 : Int) ≤ (q : Int) by omega)
        have q2 := Int.ediv_le_self (q : Int) p0
        generalize lwP b f q q = P at p0 p1 HF q1 q2
        go_wp2
        go_ret
        exact ⟨ret_int HF.out.symm, hB⟩

/-- A lock of few codes and a length that is asked for. -/
def lcB (a b x : Int) : Bool := riB a b && inB x 1 12

def lcZ (a b x : Int) : Int := if lcB a b x then lwF b 13 x.toNat else 0

theorem lc_yes {a b x : Int} (h : riB a b = true) (hx : inB x 1 12 = true) : lcB a b x = true ∧ lcZ a b x = lwF b 13 x.toNat := by
  have : lcB a b x = true := by unfold lcB; rw [h, hx]; rfl
  exact ⟨this, by unfold lcZ; rw [this]; rfl⟩

theorem lc_no {a b x : Int} (h : lcB a b x = false) : lcZ a b x = 0 := by unfold lcZ; rw [h]; rfl

set_option maxHeartbeats 1000000 in
theorem countLeastWords_any (a b x : Int) (w : World) :
    Calls Try.prog 30 #[.agg #[.int .i64 a, .int .i64 b], .int .i64 x] w fun e w' => e = .returned (.tuple #[.int .i64 (lcZ a b x), .bool (lcB a b x)]) ∧ Below w.heap.size w w' := by
  by_cases hg : riB a b = true
  · have HG := Lib.hid hg
    obtain ⟨n, rfl⟩ : ∃ n : Nat, a = n := ⟨a.toNat, by have := good_yes (riB_good hg); omega⟩
    obtain ⟨h1, h6, h2, h10⟩ := good_yes (riB_good hg)
    clear hg
    by_cases hx : inB x 1 12 = true
    · obtain ⟨x1, x12⟩ := of_decide_eq_true hx
      obtain ⟨m, rfl⟩ : ∃ m : Nat, x = m := ⟨x.toNat, by omega⟩
      have HY := Lib.hid (lc_yes HG.out hx)
      clear hx
      go_enter Try.func30, Try.ntmps30
      go_wp2_with (first | (go_at_call 39; refine (ringLength_any _ _ _).mono ?_; rw [HG.out]; rintro e w1 ⟨rfl, hb⟩; obtain ⟨hc, hf, hz⟩ := bcell hb; have hz0 : w.heap.size < w1.heap.size := by (try simp at hz); omega) | (go_at_call 55; refine (countWords_any _ _ h2 h10 13 _ (by omega) (by omega) (by omega) _).mono ?_; rintro e w1 ⟨rfl, hb⟩; obtain ⟨hc, hf, hz⟩ := bcell hb; have hz0 : w.heap.size < w1.heap.size := by (try simp at hz); omega))
      go_ret2
      refine ⟨by rw [HY.out.1, HY.out.2]; rfl, ?_⟩
      (repeat (first | assumption | exact Below.refl _ _ | (refine Below.alloc ?_ (by first | omega | (simp; done) | (simp; omega)) _) | (refine Below.setCell ?_ (by first | omega | (simp; done) | (simp; omega)) _) | refine bel_drewN ?_ _ | refine bel_drew ?_ | (refine bel_call ?_ (by assumption))))
    · have hx' : x < 1 ∨ 12 < x := by unfold inB at hx; simp at hx; omega
      have HN : Hid (lcB n b x = false) := Lib.hid (by unfold lcB; rw [HG.out, Bool.eq_false_iff.2 hx]; rfl)
      clear hx
      rcases hx' with hx' | hx'
      all_goals
        go_enter Try.func30, Try.ntmps30
        go_wp2_with (go_at_call 39; refine (ringLength_any _ _ _).mono ?_; rw [HG.out]; rintro e w1 ⟨rfl, hb⟩; obtain ⟨hc, hf, hz⟩ := bcell hb; have hz0 : w.heap.size < w1.heap.size := by (try simp at hz); omega)
        go_ret2
        refine ⟨by rw [lc_no HN.out, HN.out]; rfl, ?_⟩
        (repeat (first | assumption | exact Below.refl _ _ | (refine Below.alloc ?_ (by first | omega | (simp; done) | (simp; omega)) _) | (refine Below.setCell ?_ (by first | omega | (simp; done) | (simp; omega)) _) | refine bel_drewN ?_ _ | refine bel_drew ?_ | (refine bel_call ?_ (by assumption))))
  · have HG := Lib.hid (Bool.eq_false_iff.2 hg)
    have HN : Hid (lcB a b x = false) := Lib.hid (by unfold lcB; rw [HG.out]; rfl)
    clear hg
    go_enter Try.func30, Try.ntmps30
    go_wp2_with (go_at_call 39; refine (ringLength_any _ _ _).mono ?_; rw [HG.out]; rintro e w1 ⟨rfl, hb⟩; obtain ⟨hc, hf, hz⟩ := bcell hb; have hz0 : w.heap.size < w1.heap.size := by (try simp at hz); omega)
    go_ret2
    refine ⟨by rw [lc_no HN.out, HN.out]; rfl, ?_⟩
    (repeat (first | assumption | exact Below.refl _ _ | (refine Below.alloc ?_ (by first | omega | (simp; done) | (simp; omega)) _) | (refine Below.setCell ?_ (by first | omega | (simp; done) | (simp; omega)) _) | refine bel_drewN ?_ _ | refine bel_drew ?_ | (refine bel_call ?_ (by assumption))))

set_option maxHeartbeats 1000000 in
theorem specCountLeastWords_any (a b x : Int) (w : World) :
    Calls Try.prog 29 #[.agg #[.int .i64 a, .int .i64 b], .int .i64 x] w fun e w' => e = .returned (.tuple #[.int .i64 (lcZ a b x), .bool (lcB a b x)]) ∧ Below w.heap.size w w' := by
  by_cases hg : riB a b = true
  · have HG := Lib.hid hg
    obtain ⟨n, rfl⟩ : ∃ n : Nat, a = n := ⟨a.toNat, by have := good_yes (riB_good hg); omega⟩
    obtain ⟨h1, h6, h2, h10⟩ := good_yes (riB_good hg)
    clear hg
    by_cases hx : inB x 1 12 = true
    · obtain ⟨x1, x12⟩ := of_decide_eq_true hx
      obtain ⟨m, rfl⟩ : ∃ m : Nat, x = m := ⟨x.toNat, by omega⟩
      have HX := Lib.hid hx
      have HY := Lib.hid (lc_yes HG.out hx)
      clear hx
      go_enter Try.func29, Try.ntmps29
      go_wp2_with (first | (go_at_call 37; refine (riGood_any _ _ _).mono ?_; rw [HG.out]; rintro e w1 ⟨rfl, hb⟩; obtain ⟨hc, hf, hz⟩ := bcell hb; have hz0 : w.heap.size < w1.heap.size := by (try simp at hz); omega) | (go_at_call 44; refine (l1In_any _ _ _ _).mono ?_; rw [HX.out]; rintro e w1 ⟨rfl, rfl⟩) | (go_at_call 54; refine (riLeastWords_any _ h2 h10 13 _ (by omega) (by omega) (by omega) _).mono ?_; rintro e w1 ⟨rfl, hb⟩; obtain ⟨hc, hf, hz⟩ := bcell hb; have hz0 : w.heap.size < w1.heap.size := by (try simp at hz); omega))
      go_ret2
      refine ⟨by rw [HY.out.1, HY.out.2]; rfl, ?_⟩
      (repeat (first | assumption | exact Below.refl _ _ | (refine Below.alloc ?_ (by first | omega | (simp; done) | (simp; omega)) _) | (refine Below.setCell ?_ (by first | omega | (simp; done) | (simp; omega)) _) | refine bel_drewN ?_ _ | refine bel_drew ?_ | (refine bel_call ?_ (by assumption))))
    · have HX := Lib.hid (Bool.eq_false_iff.2 hx)
      have HN : Hid (lcB n b x = false) := Lib.hid (by unfold lcB; rw [HG.out, HX.out]; rfl)
      clear hx
      go_enter Try.func29, Try.ntmps29
      go_wp2_with (first | (go_at_call 37; refine (riGood_any _ _ _).mono ?_; rw [HG.out]; rintro e w1 ⟨rfl, hb⟩; obtain ⟨hc, hf, hz⟩ := bcell hb; have hz0 : w.heap.size < w1.heap.size := by (try simp at hz); omega) | (go_at_call 44; refine (l1In_any _ _ _ _).mono ?_; rw [HX.out]; rintro e w1 ⟨rfl, rfl⟩))
      go_ret2
      refine ⟨by rw [lc_no HN.out, HN.out]; rfl, ?_⟩
      (repeat (first | assumption | exact Below.refl _ _ | (refine Below.alloc ?_ (by first | omega | (simp; done) | (simp; omega)) _) | (refine Below.setCell ?_ (by first | omega | (simp; done) | (simp; omega)) _) | refine bel_drewN ?_ _ | refine bel_drew ?_ | (refine bel_call ?_ (by assumption))))
  · have HG := Lib.hid (Bool.eq_false_iff.2 hg)
    have HN : Hid (lcB a b x = false) := Lib.hid (by unfold lcB; rw [HG.out]; rfl)
    clear hg
    go_enter Try.func29, Try.ntmps29
    go_wp2_with (first | (go_at_call 37; refine (riGood_any _ _ _).mono ?_; rw [HG.out]; rintro e w1 ⟨rfl, hb⟩; obtain ⟨hc, hf, hz⟩ := bcell hb; have hz0 : w.heap.size < w1.heap.size := by (try simp at hz); omega))
    go_ret2
    refine ⟨by rw [lc_no HN.out, HN.out]; rfl, ?_⟩
    (repeat (first | assumption | exact Below.refl _ _ | (refine Below.alloc ?_ (by first | omega | (simp; done) | (simp; omega)) _) | (refine Below.setCell ?_ (by first | omega | (simp; done) | (simp; omega)) _) | refine bel_drewN ?_ _ | refine bel_drew ?_ | (refine bel_call ?_ (by assumption))))

end Go.Proofs.Yteolmplbgmfhmaa

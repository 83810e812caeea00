/- The first turns that lead from one code to another one, as the program lists them. No conditions. -/
import Derived.Test.YtjghodfdejdjoaaRepeat
import Derived.Test.YtjghodfdejdjoaaFewest
import Derived.Test.YtjghodfdejdjoaaParse
namespace Go.Proofs.Ytjghodfdejdjoaa
open Go.ChangeShapes Go.WideShapes Go.ChangeAt Go.RowKit Go.Joins

/-- The way of the first turns: back only where this is nearer. -/
def dirI (b x y : Int) : Int := if subI b x y < subI b y x then -1 else 1

def firstAt (b : Int) (xs ys : List Int) : Nat → List (Int × Int)
  | 0 => []
  | k + 1 => firstAt b xs ys k ++ List.replicate (farI b (xs.getD k 0) (ys.getD k 0)).toNat ((k : Int), dirI b (xs.getD k 0) (ys.getD k 0))

theorem firstAt_length {b : Int} (h2 : 2 ≤ b) (h10 : b ≤ 10) (xs ys : List Int) (k : Nat) : (firstAt b xs ys k).length ≤ 10 * k := by
  induction k with
  | zero => simp [firstAt]
  | succ k ih =>
    rw [firstAt, List.length_append, List.length_replicate]
    have := farI_bd h2 (xs.getD k 0) (ys.getD k 0)
    omega

def firstZ (a b : Int) (s t : ByteArray) : List (Int × Int) := if twoB a b s t then firstAt b (dg s) (dg t) s.size else []

theorem firstZ_yes {a b : Int} {s t : ByteArray} (h : twoB a b s t = true) : firstZ a b s t = firstAt b (dg s) (dg t) s.size := by unfold firstZ; rw [h]; rfl

theorem firstZ_no {a b : Int} {s t : ByteArray} (h : twoB a b s t = false) : firstZ a b s t = [] := by unfold firstZ; rw [h]; rfl

theorem turn_case {b x y : Int} (h2 : 2 ≤ b) : (b - subI b y x < subI b y x → farI b x y = b - subI b y x ∧ dirI b x y = -1) ∧ (¬ b - subI b y x < subI b y x → farI b x y = subI b y x ∧ dirI b x y = 1) := by
  have hb := far_back b x y
  obtain ⟨u0, u1⟩ := subI_bd h2 y x
  obtain ⟨v0, v1⟩ := subI_bd h2 x y
  have hq : subI b x y = if subI b y x = 0 then 0 else b - subI b y x := by
    rw [← hb]
    by_cases h : subI b y x = 0
    · rw [if_pos h, h, Int.sub_zero, Int.emod_self]
    · rw [if_neg h, Int.emod_eq_of_lt (by omega) (by omega)]
  unfold farI dirI lstI
  generalize subI b x y = q at hq v0 v1
  generalize subI b y x = p at hq u0 u1
  refine ⟨fun h => ?_, fun h => ?_⟩
  · rw [if_neg (by omega)] at hq
    rw [if_neg (by omega), if_pos (by omega)]
    exact ⟨hq, rfl⟩
  · by_cases hp : p = 0
    · rw [if_pos hp] at hq
      rw [if_neg (by omega), if_neg (by omega)]
      exact ⟨by omega, rfl⟩
    · rw [if_neg hp] at hq
      rw [if_neg (show ¬ q < p by omega)]
      refine ⟨?_, rfl⟩
      split <;> omega

theorem tv_app (xs ys : List (Int × Int)) : tv (xs ++ ys) = tv xs ++ tv ys := by unfold tv; rw [List.flatMap_append]

theorem tv_rep (L : List (Int × Int)) (j : Nat) (x y : Int) : tv (L ++ List.replicate (j + 1) (x, y)) = tv (L ++ List.replicate j (x, y)) ++ [.int .i64 x, .int .i64 y] := by
  rw [List.replicate_succ', ← List.append_assoc, tv_app (L ++ _) [(x, y)]]; rfl

theorem tv_one (ts : List (Int × Int)) : ∀ u ∈ tv ts, u.oneCell' = true := by
  intro u hu
  unfold tv at hu
  obtain ⟨t, _, h⟩ := List.mem_flatMap.1 hu
  simp at h
  rcases h with rfl | rfl <;> rfl

theorem tv_news {w : World} {g k : Nat} {ts : List (Int × Int)} (hk : ts.length = k) (hC : Cells w g (k * 2) (turnF ts)) : ∀ j u, (tv ts)[j]? = some u → w.cell? ((⟨g, 0, none⟩ : Addr).add j) = some u := by
  intro j u hu
  have hj : j < k * 2 := by
    have := (List.getElem?_eq_some_iff.1 hu).1
    rw [tv_length, hk] at this; exact this
  rw [tv_at ts j (by omega)] at hu
  injection hu with hu
  subst hu
  have ha : (⟨g, 0, none⟩ : Addr).add j = ⟨g, j, none⟩ := by unfold Addr.add; split <;> simp_all
  rw [ha, hC.cell hj]

/-- A list of turns handed back, and whether it has been found. -/
def TurnsOut (w : World) (ts : List (Int × Int)) (ok : Bool) (e : Ending) (w' : World) : Prop :=
  ∃ A c, e = .returned (.tuple #[.slice A ts.length c, .bool ok]) ∧ OwnT w' w.heap.size A ts.length ts ∧ Below w.heap.size w w'

theorem turns_none {w w' : World} (hb : Below w.heap.size w w') : TurnsOut w [] false (.returned (.tuple #[.slice none 0 0, .bool false])) w' :=
  ⟨none, 0, rfl, ⟨rfl, by decide, .inl rfl⟩, hb⟩

theorem turns_some {w w' : World} {ts : List (Int × Int)} {t : TypeId} {v : Value} {base : Nat} (hs : ts.length ≤ 1000) (hbs : w.heap.size ≤ base) (ho : w'.ownsRow base t 2 v ts.length (tv ts)) (hb : Below w.heap.size w w') : TurnsOut w ts true (.returned (.tuple #[v, .bool true])) w' := by
  rcases Nat.eq_zero_or_pos ts.length with h0 | h0
  · have hv : ∃ A c, v = .slice A 0 c := by
      rcases ho.2 with ⟨rfl, _⟩ | ⟨g, cap, cur, rfl, _⟩
      · exact ⟨none, 0, rfl⟩
      · exact ⟨_, cap, by rw [h0]⟩
    obtain ⟨A, c, rfl⟩ := hv
    exact ⟨A, c, by rw [h0], ⟨rfl, hs, .inl h0⟩, hb⟩
  · obtain ⟨g, c, rfl, hgg, hC⟩ := own_turns ho h0
    exact ⟨some ⟨g, 0, none⟩, c, rfl, ⟨rfl, hs, .inr ⟨g, rfl, by omega, hC⟩⟩, hb⟩

theorem repeat_int (g c k : Nat) (v x y : Int) (w : World) (hv : v = (k : Int)) (hC : Cells w g 2 (turnF [(x, y)])) (hk : k ≤ 1000) :
    Calls Try.prog 63 #[.slice (some ⟨g, 0, none⟩) 1 c, .int .i64 v] w fun e w' => ∃ g', e = .returned (.slice (some ⟨g', 0, none⟩) k k) ∧ w.heap.size ≤ g' ∧ Cells w' g' (k * 2) (turnF (List.replicate k (x, y))) ∧ Below w.heap.size w w' := by
  subst hv
  exact repeat_any g c k x y w hC hk

theorem cells_two {w : World} {x y : Int} {t : TypeId} {g : Nat} (hg : g = w.heap.size) : Cells (w.alloc (.cells #[.int .i64 x, .int .i64 y] t)) g 2 (turnF [(x, y)]) := by
  subst hg
  refine ⟨by simp, fun j hj => ?_⟩
  rw [World.cell?_alloc_new, World.frozen?_alloc_new]
  have : j = 0 ∨ j = 1 := by omega
  rcases this with rfl | rfl <;> exact ⟨rfl, rfl⟩

end Go.Proofs.Ytjghodfdejdjoaa

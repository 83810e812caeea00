/- Places and other digits of a guess for a code: the numbers. No conditions. -/
import Derived.Test.YtgdjbclkdnmebaaDoorAsked
namespace Go.Proofs.YtgdjbclkdnmebaaDoor
open Go.ChangeShapes Go.WideShapes Go.ChangeAt Go.RowKit Go.Joins

/-- In how many of the first k places both have the same digit. -/
def plN (s t : ByteArray) : Nat → Nat
  | 0 => 0
  | k + 1 => plN s t k + if (dg s).getD k 0 = (dg t).getD k 0 then 1 else 0

/-- In how many of the first k places a digit is. -/
def ctN (s : ByteArray) (d : Nat) : Nat → Nat
  | 0 => 0
  | k + 1 => ctN s d k + if (dg s).getD k 0 = (d : Int) then 1 else 0

/-- How many of the first d digits both have in common, in n places. -/
def cmN (s t : ByteArray) (n : Nat) : Nat → Nat
  | 0 => 0
  | d + 1 => cmN s t n d + min (ctN s d n) (ctN t d n)

theorem plN_le (s t : ByteArray) (k : Nat) : plN s t k ≤ k := by
  induction k with
  | zero => simp [plN]
  | succ k ih => simp only [plN]; split <;> omega

theorem ctN_le (s : ByteArray) (d k : Nat) : ctN s d k ≤ k := by
  induction k with
  | zero => simp [ctN]
  | succ k ih => simp only [ctN]; split <;> omega

theorem cmN_le (s t : ByteArray) (n d : Nat) : cmN s t n d ≤ n * d := by
  induction d with
  | zero => simp [cmN]
  | succ d ih =>
    have := ctN_le s d n
    simp only [cmN, Nat.mul_succ]
    omega

/-- Places and others. -/
def hiP (s t : ByteArray) : Int := plN s t s.size
def hiO (s t : ByteArray) : Int := (cmN s t s.size 10 : Int) - plN s t s.size

theorem hiP_bd {s t : ByteArray} (h : s.size ≤ 6) : 0 ≤ hiP s t ∧ hiP s t ≤ 6 := by
  have := plN_le s t s.size
  unfold hiP
  omega

theorem hiO_bd {s t : ByteArray} (h : s.size ≤ 6) : -6 ≤ hiO s t ∧ hiO s t ≤ 60 := by
  have := plN_le s t s.size
  have := cmN_le s t s.size 10
  unfold hiO
  omega

/-- Two texts of digits, as long as each other. -/
structure TwoD (s t : ByteArray) : Prop where
  n6 : s.size ≤ 6
  eq : t.size = s.size
  ds : Digits (dg s)
  dt : Digits (dg t)

theorem twoD_of {a b : Int} {s t : ByteArray} (h : Asked a b s) (h' : Asked a b t) : TwoD s t :=
  ⟨h.n6, by have := h.size; have := h'.size; omega, h.digits, h'.digits⟩

theorem dg_eq {s t : ByteArray} {k : Nat} (hk : k < s.size) (hk' : k < t.size) : (dg s).getD k 0 = (dg t).getD k 0 ↔ (s[k].toNat : Int) = t[k].toNat := by
  rw [dg_at hk, dg_at hk']
  omega

theorem dg_is {s : ByteArray} {k : Nat} (hk : k < s.size) (d : Nat) : (dg s).getD k 0 = (d : Int) ↔ (s[k].toNat : Int) = 48 + d := by
  rw [dg_at hk]
  omega

theorem plN_yes {s t : ByteArray} {k : Nat} (hk : k < s.size) (hk' : k < t.size) (h : (s[k].toNat : Int) = t[k].toNat) : plN s t (k + 1) = plN s t k + 1 := by
  simp only [plN]; rw [if_pos ((dg_eq hk hk').2 h)]

theorem plN_no {s t : ByteArray} {k : Nat} (hk : k < s.size) (hk' : k < t.size) (h : ¬ (s[k].toNat : Int) = t[k].toNat) : plN s t (k + 1) = plN s t k := by
  simp only [plN]; rw [if_neg (fun e => h ((dg_eq hk hk').1 e))]; rfl

theorem ctN_yes {s : ByteArray} {k d : Nat} (hk : k < s.size) (h : (s[k].toNat : Int) = 48 + d) : ctN s d (k + 1) = ctN s d k + 1 := by
  simp only [ctN]; rw [if_pos ((dg_is hk d).2 h)]

theorem ctN_no {s : ByteArray} {k d : Nat} (hk : k < s.size) (h : ¬ (s[k].toNat : Int) = 48 + d) : ctN s d (k + 1) = ctN s d k := by
  simp only [ctN]; rw [if_neg (fun e => h ((dg_is hk d).1 e))]; rfl

end Go.Proofs.YtgdjbclkdnmebaaDoor

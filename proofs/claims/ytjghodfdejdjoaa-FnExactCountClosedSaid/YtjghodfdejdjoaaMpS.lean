/- Maps with texts as their keys that a call makes, told by the list of their keys and what stands at each. For texts that are no longer than any may be. -/
import Derived.Test.YtjghodfdejdjoaaBase
import Derived.Maps.RangeWalk
import Derived.Sort.MapsRangeIn
namespace Go.Proofs.Ytjghodfdejdjoaa
open Go.ChangeShapes Go.WideShapes Go.ChangeAt Go.RowKit Go.Joins
open Go.Maps (Keyed string_keyed)
open Go.WideMaps (keyOf_string_mk)
open Go.WideElems (Fit rd rg pl rd_key rd_val rg_of)
open Go.ChangeMaps Go.MapKept

def kyS (s : ByteArray) : Lit := .string s.data.toList

theorem bytesJ {b c : ByteArray} (h : b.data.toList = c.data.toList) : b = c := by
  have := Array.toList_inj.1 h
  cases b; cases c; simp at this; rw [this]

theorem kyS_inj {s t : ByteArray} (h : kyS s = kyS t) : s = t := bytesJ (by unfold kyS at h; injection h)

theorem kyS_ne {s t : ByteArray} (h : s ≠ t) : kyS s ≠ kyS t := fun e => h (kyS_inj e)

theorem kyLaw : Keyed Try.prog 9 := string_keyed Try.underlying9

theorem kyOf {s : ByteArray} (hs : s.size ≤ maxLen) : keyOf Try.prog 9 (.string s) = some (kyS s) := keyOf_string_mk Try.underlying9 hs

theorem ky_inv {key : Value} {kl : Lit} (h : keyOf Try.prog 9 key = some kl) : ∃ s : ByteArray, key = .string s ∧ kl = kyS s := by
  obtain ⟨s, rfl⟩ := Maps.keyOf_string_inv Try.underlying9 h
  refine ⟨s, rfl, ?_⟩
  unfold keyOf mapKey at h
  simp [Try.underlying9] at h
  unfold kyS
  first | exact h.2.symm | exact h.symm

/-- The list without a text. -/
def offS (L : List ByteArray) (s : ByteArray) : List ByteArray := L.filter fun t => !decide (t = s)

theorem mem_offS {L : List ByteArray} {s t : ByteArray} : t ∈ offS L s ↔ t ∈ L ∧ t ≠ s := by
  unfold offS
  rw [List.mem_filter]
  simp

theorem length_offS : ∀ {L : List ByteArray} {s : ByteArray}, L.Nodup → s ∈ L → (offS L s).length + 1 = L.length
  | [], _, _, h => by cases h
  | x :: L, s, hn, h => by
    obtain ⟨h1, h2⟩ := List.nodup_cons.1 hn
    unfold offS
    rw [List.filter_cons]
    by_cases e : x = s
    · subst e
      have : L.filter (fun t => !decide (t = x)) = L := List.filter_eq_self.2 fun t ht => by
        have : t ≠ x := fun e => h1 (e ▸ ht)
        simp [this]
      simp [this]
    · have hm : s ∈ L := by
        rcases List.mem_cons.1 h with rfl | h
        · exact absurd rfl e
        · exact h
      have := length_offS h2 hm
      unfold offS at this
      simp [e]
      omega

theorem offS_not {L : List ByteArray} {s : ByteArray} (h : s ∉ L) : offS L s = L := List.filter_eq_self.2 fun t ht => by
  have : t ≠ s := fun e => h (e ▸ ht)
  simp [this]

/-- The entries are those of the list. -/
structure MpD (D : DataW Unit) (L : List ByteArray) (g : ByteArray → DataW Unit) : Prop where
  tidy : Maps.Tidy D
  has : ∀ t : ByteArray, t.size ≤ maxLen → (Maps.has D (kyS t) = true ↔ t ∈ L)
  at_ : ∀ t, t ∈ L → ∀ zd, D.atKey (kyS t) zd = g t
  size : Maps.size D = L.length
  nodup : L.Nodup
  small : ∀ t, t ∈ L → t.size ≤ maxLen

theorem MpD.not_has {D : DataW Unit} {L : List ByteArray} {g : ByteArray → DataW Unit} (h : MpD D L g) {s : ByteArray} (hs : s.size ≤ maxLen) (hn : s ∉ L) : Maps.has D (kyS s) = false := by
  cases hh : Maps.has D (kyS s)
  · rfl
  · exact absurd ((h.has s hs).1 hh) hn

theorem MpD.nil (g : ByteArray → DataW Unit) : MpD (.map []) [] g := ⟨Maps.tidy_empty, fun t _ => by simp [Maps.has], fun e he => (by cases he), rfl, by simp, fun t h => (by cases h)⟩

/-- The text is one of the list. -/
def hsS (L : List ByteArray) (s : ByteArray) : Bool := L.any fun t => decide (t = s)

theorem hsS_iff {L : List ByteArray} {s : ByteArray} : hsS L s = true ↔ s ∈ L := by
  unfold hsS
  rw [List.any_eq_true]
  constructor
  · rintro ⟨t, ht, h⟩
    rw [decide_eq_true_iff] at h
    rwa [← h]
  · exact fun h => ⟨s, h, decide_eq_true rfl⟩

theorem hsS_no {L : List ByteArray} {s : ByteArray} (h : s ∉ L) : hsS L s = false := by
  rw [Bool.eq_false_iff]
  exact fun h2 => h (hsS_iff.1 h2)

/-- The list with a text. -/
def addS (L : List ByteArray) (s : ByteArray) : List ByteArray := if hsS L s then L else L ++ [s]

theorem addS_in {L : List ByteArray} {s : ByteArray} (h : s ∈ L) : addS L s = L := by unfold addS; rw [hsS_iff.2 h, if_pos rfl]

theorem addS_out {L : List ByteArray} {s : ByteArray} (h : s ∉ L) : addS L s = L ++ [s] := by unfold addS; rw [hsS_no h, if_neg (by simp)]

theorem mem_addS {L : List ByteArray} {s t : ByteArray} : t ∈ addS L s ↔ t ∈ L ∨ t = s := by
  by_cases h : s ∈ L
  · rw [addS_in h]
    exact ⟨.inl, fun h2 => h2.elim id fun e => e ▸ h⟩
  · rw [addS_out h]; simp

theorem MpD.put {D : DataW Unit} {L : List ByteArray} {g : ByteArray → DataW Unit} (h : MpD D L g) {s : ByteArray} (hs : s.size ≤ maxLen) (d : DataW Unit) : MpD (D.put (kyS s) d) (addS L s) (fun t => if t = s then d else g t) := by
  have hk := kyLaw.key (kyOf hs)
  refine ⟨h.tidy.put hk d, fun t ht => ?_, fun t ht zd => ?_, ?_, ?_, fun t ht => ?_⟩
  · rw [mem_addS]
    by_cases e : t = s
    · subst e
      rw [Maps.has_put_same h.tidy.isMap hk]
      simp
    · rw [Maps.has_put_other (kyS_ne e), h.has t ht]
      simp [e]
  · by_cases e : t = s
    · subst e
      rw [Maps.atKey_put_same h.tidy.isMap hk, if_pos rfl]
    · rw [Maps.atKey_put_other (kyS_ne e), if_neg e]
      exact h.at_ t ((mem_addS.1 ht).resolve_right e) zd
  · rw [Maps.size_put h.tidy, h.size]
    by_cases e : s ∈ L
    · rw [addS_in e, if_pos ((h.has s hs).2 e)]
    · rw [addS_out e, h.not_has hs e, if_neg (by simp), List.length_append]; rfl
  · by_cases e : s ∈ L
    · rw [addS_in e]; exact h.nodup
    · rw [addS_out e, List.nodup_append]
      exact ⟨h.nodup, by simp, fun a ha b hb => by obtain rfl := List.mem_singleton.1 hb; exact fun e2 => e (e2 ▸ ha)⟩
  · rcases mem_addS.1 ht with h1 | rfl
    · exact h.small t h1
    · exact hs

theorem MpD.del {D : DataW Unit} {L : List ByteArray} {g : ByteArray → DataW Unit} (h : MpD D L g) {s : ByteArray} (hs : s.size ≤ maxLen) : MpD (D.del (kyS s)) (offS L s) g := by
  refine ⟨h.tidy.del _, fun t ht => ?_, fun t ht zd => ?_, ?_, h.nodup.filter _, fun t ht => h.small t (mem_offS.1 ht).1⟩
  · rw [mem_offS]
    by_cases e : t = s
    · subst e
      rw [Maps.has_del_same]
      simp
    · rw [Maps.has_del_other (kyS_ne e), h.has t ht]
      simp [e]
  · have := mem_offS.1 ht
    rw [Maps.atKey_del_other (kyS_ne this.2)]
    exact h.at_ t this.1 zd
  · have h1 := Maps.size_del (k := kyS s) h.tidy
    by_cases e : s ∈ L
    · rw [(h.has s hs).2 e, if_pos rfl, h.size] at h1
      have := length_offS h.nodup e
      omega
    · rw [h.not_has hs e, h.size] at h1
      rw [offS_not e]
      simpa using h1

theorem MpD.congr {D : DataW Unit} {L : List ByteArray} {g g' : ByteArray → DataW Unit} (h : MpD D L g) (hg : ∀ t, t ∈ L → g t = g' t) : MpD D L g' :=
  ⟨h.tidy, h.has, fun t ht zd => (h.at_ t ht zd).trans (hg t ht), h.size, h.nodup, h.small⟩

abbrev Rd := Value → Option (DataW Unit × List MemPlace)

/-- Block B is the map. -/
def MpS (w : World) (R : Rd) (B : Nat) (L : List ByteArray) (g : ByteArray → DataW Unit) : Prop := ∃ D, w.ownsMap Try.prog 9 R B L.length D ∧ MpD D L g

theorem owns_fit {w : World} {R : Rd} {B n : Nat} {D : DataW Unit} (h : w.ownsMap Try.prog 9 R B n D) : w.ownsMap Try.prog 9 R B (Maps.size D) D := by
  obtain ⟨es, clock, hb, F, hs, rfl⟩ := h
  exact ⟨es, clock, hb, F, by rw [Maps.size, length_sorted]; simp, rfl⟩

section
variable {w w' : World} {R : Rd} {B : Nat} {L : List ByteArray} {g : ByteArray → DataW Unit}

theorem MpS.kept {row : Option Nat} (h : MpS w R B L g) (hg : w.grownBy w' row) (hne : some B ≠ row) : MpS w' R B L g := by
  obtain ⟨D, h1, h2⟩ := h
  exact ⟨D, h1.kept hg hne, h2⟩

theorem MpS.call (h : MpS w R B L g) (hb : Below w.heap.size w w') : MpS w' R B L g := by
  obtain ⟨D, h1, h2⟩ := h
  refine ⟨D, ?_, h2⟩
  obtain ⟨es, clock, e1, e2⟩ := h1
  exact ⟨es, clock, (hb.block B (Array.getElem?_eq_some_iff.1 e1).1).trans e1, e2⟩

theorem MpS.lt (h : MpS w R B L g) : B < w.heap.size := by obtain ⟨D, h1, _⟩ := h; exact h1.lt

theorem MpS.made (w : World) (R : Rd) (g : ByteArray → DataW Unit) : MpS (w.alloc (.map #[] 0)) R w.heap.size [] g := ⟨.map [], World.ownsMap_made w _ _ _, MpD.nil g⟩

theorem MpS.alloc (h : MpS w R B L g) (o : Obj) : MpS (w.alloc o) R B L g := h.call ((Below.refl _ _).alloc (Nat.le_refl _) o)

theorem MpS.setCell (h : MpS w R B L g) {a : Addr} (ha : B ≠ a.block) (u : Value) : MpS (w.setCell a u) R B L g := by
  obtain ⟨D, h1, h2⟩ := h
  exact ⟨D, h1.setCell ha u, h2⟩

theorem MpS.drew (h : MpS w R B L g) : MpS w.drew R B L g := by
  obtain ⟨D, h1, h2⟩ := h
  exact ⟨D, h1.drew, h2⟩

theorem MpS.congr {g' : ByteArray → DataW Unit} (h : MpS w R B L g) (hg : ∀ t, t ∈ L → g t = g' t) : MpS w R B L g' := by
  obtain ⟨D, h1, h2⟩ := h
  exact ⟨D, h1, h2.congr hg⟩

theorem MpS.nodup (h : MpS w R B L g) : L.Nodup := by obtain ⟨D, _, h2⟩ := h; exact h2.nodup

/-- 'm[k] = v'. -/
theorem MpS.store {tM tE : TypeId} (h : MpS w R B L g) (ht : Try.prog.underlying tM = some (.map 9 tE)) {s : ByteArray} (hs : s.size ≤ maxLen) (hl : L.length ≤ 1000000) {v : Value} {d : DataW Unit} (hv : R v = some (d, [])) :
    ∃ w', (Instr.mapUpdate tM (.map (some B)) (.string s) v).run Try.prog w = .ok () w' ∧ MpS w' R B (addS L s) (fun t => if t = s then d else g t) ∧ w.grownBy w' (some B) := by
  obtain ⟨D, h1, h2⟩ := h
  obtain ⟨w', hr, h3, h4⟩ := h1.update kyLaw ht (by unfold maxLen; omega) (kyOf hs) hv
  have h5 := h2.put hs d
  have h6 := owns_fit h3
  rw [h5.size] at h6
  exact ⟨w', hr, ⟨_, h6, h5⟩, h4⟩

/-- Of the map's entries some have gone, none has come. -/
def Shr (w w' : World) (B : Nat) : Prop := ∃ es clock es', w.heap[B]? = some (.map es clock) ∧ w'.heap[B]? = some (.map es' clock) ∧ es'.toList.Sublist es.toList

theorem Shr.refl (h : MpS w R B L g) : Shr w w B := by
  obtain ⟨D, ⟨es, clock, hb, _⟩, _⟩ := h
  exact ⟨es, clock, es, hb, hb, List.Sublist.refl _⟩

theorem Shr.trans {w'' : World} (h : Shr w w' B) (h' : Shr w' w'' B) : Shr w w'' B := by
  obtain ⟨es, clock, es', h1, h2, h3⟩ := h
  obtain ⟨_, _, es'', g1, g2, g3⟩ := h'
  rw [h2] at g1
  injection g1 with g1
  injection g1 with e1 e2
  subst e1 e2
  exact ⟨es, clock, es'', h1, g2, g3.trans h3⟩

theorem Shr.kept {w'' : World} {row : Option Nat} (h : Shr w w' B) (hg : w'.grownBy w'' row) (hne : some B ≠ row) : Shr w w'' B := by
  obtain ⟨es, clock, es', h1, h2, h3⟩ := h
  exact ⟨es, clock, es', h1, (hg.block B (Array.getElem?_eq_some_iff.1 h2).1 hne).trans h2, h3⟩

theorem Shr.call {w'' : World} (h : Shr w w' B) (hg : Below w'.heap.size w' w'') : Shr w w'' B := by
  obtain ⟨es, clock, es', h1, h2, h3⟩ := h
  exact ⟨es, clock, es', h1, (hg.block B (Array.getElem?_eq_some_iff.1 h2).1).trans h2, h3⟩

/-- 'delete(m, k)'. -/
theorem MpS.drop {tM tE : TypeId} (h : MpS w R B L g) (ht : Try.prog.underlying tM = some (.map 9 tE)) {s : ByteArray} (hs : s.size ≤ maxLen) (ty : TypeId) :
    ∃ w', (Builtin.delete_ #[tM, 9] ty #[.map (some B), .string s]).run Try.prog w = .ok (.tuple #[]) w' ∧ MpS w' R B (offS L s) g ∧ w.grownBy w' (some B) ∧ Shr w w' B := by
  obtain ⟨D, ⟨es, clock, hb, F, hsz, rfl⟩, h2⟩ := h
  obtain ⟨es', hrun, F', hle, hdel, hsub, _⟩ := fit_drop_who (ty := ty) kyLaw ht hb F (kyOf hs)
  have h5 := h2.del hs
  have hw : (setBlock w B (.map es' clock)).ownsMap Try.prog 9 R B es'.size (DataW.del (.map ((es.toList.map (rg Try.prog 9 R)).foldr DataW.insert [])) (kyS s)) :=
    ⟨es', clock, heap_setBlock_same hb _, F', Nat.le_refl _, by rw [DataW.del_eq, hdel]⟩
  have h6 := owns_fit hw
  rw [h5.size] at h6
  exact ⟨_, hrun, ⟨_, h6, h5⟩, ⟨rfl, rfl, rfl, by simp [setBlock], fun i _ hi => heap_setBlock_other hb _ (fun e => hi (by rw [e]))⟩, ⟨es, clock, es', hb, heap_setBlock_same hb _, hsub⟩⟩

/-- 'range m' under way: those of Ds have come. -/
def RgS (w : World) (R : Rd) (B r : Nat) (L : List ByteArray) (g : ByteArray → DataW Unit) (Ds : List ByteArray) : Prop :=
  ∃ D left cnt n, w.ranges Try.prog 9 R B r n D left cnt ∧ MpD D L g ∧ ∀ t : ByteArray, t.size ≤ maxLen → (left (kyS t) = true ↔ t ∈ L ∧ t ∉ Ds)

theorem RgS.owns {r : Nat} {Ds : List ByteArray} (h : RgS w R B r L g Ds) : MpS w R B L g := by
  obtain ⟨D, left, cnt, n, h1, h2, _⟩ := h
  have := owns_fit h1.owns
  rw [h2.size] at this
  exact ⟨D, this, h2⟩

theorem RgS.ne {r : Nat} {Ds : List ByteArray} (h : RgS w R B r L g Ds) : r ≠ B := by
  obtain ⟨D, left, cnt, n, h1, h2, _⟩ := h
  exact h1.ne

theorem RgS.lt {r : Nat} {Ds : List ByteArray} (h : RgS w R B r L g Ds) : r < w.heap.size := by
  obtain ⟨D, left, cnt, n, h1, h2, _⟩ := h
  exact h1.lt

theorem RgS.kept {r : Nat} {Ds : List ByteArray} {row : Option Nat} (h : RgS w R B r L g Ds) (hg : w.grownBy w' row) (hB : some B ≠ row) (hr : some r ≠ row) : RgS w' R B r L g Ds ∧ w'.rangeLeft B r = w.rangeLeft B r := by
  obtain ⟨D, left, cnt, n, h1, h2, h3⟩ := h
  have h4 := h1.kept hg hB hr
  exact ⟨⟨D, left, cnt, n, h4, h2, h3⟩, by rw [h4.left_eq, h1.left_eq]⟩

theorem RgS.call {r : Nat} {Ds : List ByteArray} (h : RgS w R B r L g Ds) (hb : Below w.heap.size w w') : RgS w' R B r L g Ds ∧ w'.rangeLeft B r = w.rangeLeft B r := by
  obtain ⟨D, left, cnt, n, h1, h2, h3⟩ := h
  have hb1 := h1.owns.lt
  have hb2 := h1.lt
  have h4 : w'.ranges Try.prog 9 R B r n D left cnt := by
    obtain ⟨es, clock, since, seen, c0, hb', F, hs, hD, hr, rest⟩ := h1
    exact ⟨es, clock, since, seen, c0, (hb.block B hb1).trans hb', F, hs, hD, (hb.block r hb2).trans hr, rest⟩
  exact ⟨⟨D, left, cnt, n, h4, h2, h3⟩, by rw [h4.left_eq, h1.left_eq]⟩

set_option maxRecDepth 100000 in
/-- The map ranged over has lost entries on the way. -/
theorem RgS.shrunk {r : Nat} {Ds L' : List ByteArray} (h : RgS w R B r L g Ds) (hs : Shr w w' B) (hr : w'.heap[r]? = w.heap[r]?) (hm : MpS w' R B L' g) : RgS w' R B r L' g Ds ∧ w'.rangeLeft B r ≤ w.rangeLeft B r ∧ ∀ t, t ∈ L' → t ∈ L := by
  obtain ⟨D, left, cnt, n, h1, h2, h3⟩ := h
  have hle := h1.left_eq
  obtain ⟨es, clock, since, seen, c0, hb, F, hsz, rfl, hri, hold, hc, hl1, hl2, hs1, hs2⟩ := h1
  obtain ⟨D', ⟨fs, clock', hb', F', hsz', rfl⟩, h2'⟩ := hm
  obtain ⟨es0, clock0, es', g1, g2, g3⟩ := hs
  rw [hb] at g1
  rw [hb'] at g2
  simp only [Option.some.injEq, Obj.map.injEq] at g1 g2
  obtain ⟨rfl, rfl⟩ := g1
  obtain ⟨rfl, rfl⟩ := g2
  have hsub : ∀ x, x ∈ fs.toList → x ∈ es.toList := fun x hx => g3.subset hx
  have hin : ∀ x, x ∈ fs.toList → Maps.has (DataW.map ((fs.toList.map (rg Try.prog 9 R)).foldr DataW.insert [])) (rg Try.prog 9 R x).1 = true := fun x hx => by
    obtain ⟨y, hy⟩ := F'.reads x hx
    exact List.any_eq_true.2 ⟨rg Try.prog 9 R x, mem_sorted.2 (List.mem_map.2 ⟨x, hx, rfl⟩), WideAt.sameKey_self (by rw [rg_of hy]; exact kyLaw.key (rd_key hy))⟩
  have hnew : w'.ranges Try.prog 9 R B r fs.size (DataW.map ((fs.toList.map (rg Try.prog 9 R)).foldr DataW.insert []))
      (fun kl => left kl && Maps.has (DataW.map ((fs.toList.map (rg Try.prog 9 R)).foldr DataW.insert [])) kl) (leftOf fs seen).size := by
    refine ⟨fs, _, since, seen, c0, hb', F', Nat.le_refl _, rfl, hr.trans hri, fun x hx => hold x (hsub x hx), rfl, fun x hx => ?_, fun kl hkl => ?_, hs1, hs2⟩
    · show (left _ && _) = _
      rw [hl1 x (hsub x hx), hin x hx, Bool.and_true]
    · rw [Bool.and_eq_true] at hkl
      obtain ⟨p, hp, hpk⟩ := List.any_eq_true.1 hkl.2
      obtain ⟨x, hx, rfl⟩ := List.mem_map.1 (mem_sorted.1 hp)
      exact ⟨x, hx, WideAt.sameKey_eq hpk⟩
  have hcnt : (leftOf fs seen).size ≤ cnt := by
    have e1 : ∀ a : Array MapEntry, (leftOf a seen).size = (a.toList.filter fun e => !seen.contains e.born).length := fun a => by
      unfold leftOf
      rw [← Array.toList_filter, Array.length_toList]
    rw [← hc, e1, e1]
    exact (g3.filter _).length_le
  have hLL : ∀ t, t ∈ L' → t ∈ L := fun t ht => by
    have hts := h2'.small t ht
    have := (h2'.has t hts).2 ht
    obtain ⟨p, hp, hpk⟩ := List.any_eq_true.1 this
    refine (h2.has t hts).1 (List.any_eq_true.2 ⟨p, ?_, hpk⟩)
    obtain ⟨x, hx, rfl⟩ := List.mem_map.1 (mem_sorted.1 hp)
    exact mem_sorted.2 (List.mem_map.2 ⟨x, hsub x hx, rfl⟩)
  refine ⟨⟨_, _, _, _, hnew, h2', fun t ht => ?_⟩, by rw [hnew.left_eq, hle]; exact hcnt, hLL⟩
  rw [Bool.and_eq_true, h3 t ht, h2'.has t ht]
  exact ⟨fun ⟨⟨_, b⟩, c⟩ => ⟨c, b⟩, fun ⟨a, b⟩ => ⟨⟨hLL t a, b⟩, a⟩⟩

end

section
variable {w : World} {ops : Array Oper} {rest : List Oper} {o : Oper} {a : Act} {Q : Exit → Act → World → Prop} {R : Rd} {B : Nat} {L : List ByteArray} {g : ByteArray → DataW Unit}

theorem wpList_store_S (hg : o.guard = none) (m x v : Operand) (tM tE : TypeId) (hop : o.op = Op.mapUpdate tM m x v ∨ o.op = Op.insert tM m x v) (ht : Try.prog.underlying tM = some (.map 9 tE)) (h : MpS w R B L g) (s : ByteArray) (hs : s.size ≤ maxLen) (hl : L.length ≤ 1000000)
    (hm : a.eval m = .map (some B)) (hx : a.eval x = .string s) (va : Value) (hv : a.eval v = va) (d : DataW Unit) (hd : R va = some (d, []))
    (hK : ∀ w', MpS w' R B (addS L s) (fun t => if t = s then d else g t) → w.grownBy w' (some B) → wpList Try.prog ops Q rest (a.put o.dst undef) w') : wpList Try.prog ops Q (o :: rest) a w := by
  refine wpList_plain hg fun K' hK' => ?_
  obtain ⟨w', hrun, r1, r2⟩ := h.store ht hs hl hd
  unfold Oper.wp
  rcases hop with hop | hop <;> simp [execOp, hop, hm, hx, hv, hrun, Result.andThen] <;> exact hK' _ _ (hK w' r1 r2)

theorem wpList_drop_S (hg : o.guard = none) (m x : Operand) (tM tE : TypeId) (hop : o.op = Op.call { callee := Callee.builtin Builtin.delete, args := #[m, x], argTypes := #[tM, 9] }) (ht : Try.prog.underlying tM = some (.map 9 tE)) (h : MpS w R B L g) (s : ByteArray) (hs : s.size ≤ maxLen)
    (hm : a.eval m = .map (some B)) (hx : a.eval x = .string s) (hK : ∀ w', MpS w' R B (offS L s) g → w.grownBy w' (some B) → Shr w w' B → wpList Try.prog ops Q rest (a.put o.dst (.tuple #[])) w') : wpList Try.prog ops Q (o :: rest) a w := by
  refine wpList_plain hg fun K' hK' => ?_
  obtain ⟨w', hrun, r1, r2, r3⟩ := h.drop ht hs o.type
  unfold Oper.wp
  simp [execOp, hop, resolve, invoke, builtin, hm, hx, hrun, Result.andThen]
  exact hK' _ _ (hK w' r1 r2 r3)

theorem wpList_len_S (hg : o.guard = none) (m : Operand) (tM tE : TypeId) (hop : o.op = Op.call { callee := Callee.builtin Builtin.len, args := #[m], argTypes := #[tM] }) (ht : Try.prog.underlying tM = some (.map 9 tE)) (h : MpS w R B L g) (hm : a.eval m = .map (some B))
    (hK : wpList Try.prog ops Q rest (a.put o.dst (.int .i64 (L.length : Int))) w) : wpList Try.prog ops Q (o :: rest) a w := by
  obtain ⟨D, h1, h2⟩ := h
  refine wpList_len_own w hg m tM hop 9 tE ht R B L.length D hm h1 ?_
  rw [h2.size]
  exact hK

theorem wpList_range_S (hg : o.guard = none) (m : Operand) (tM tE : TypeId) (hop : o.op = Op.range tM m) (ht : Try.prog.underlying tM = some (.map 9 tE)) (h : MpS w R B L g) (hm : a.eval m = .map (some B))
    (hK : ∀ w', RgS w' R B w.heap.size L g [] → w.grownBy w' none → w'.heap.size = w.heap.size + 1 → wpList Try.prog ops Q rest (a.put o.dst (.pointer (some ⟨w.heap.size, 0, none⟩))) w') : wpList Try.prog ops Q (o :: rest) a w := by
  obtain ⟨D, h1, h2⟩ := h
  refine wpList_range_own w hg m tM hop 9 tE kyLaw ht R B L.length D hm h1 fun w' h3 h4 h5 => hK w' ⟨D, _, _, _, h3, h2, fun t ht => ?_⟩ h4 h5
  rw [h2.has t ht]
  simp

set_option maxRecDepth 100000 in
/-- The step. -/
theorem wpList_next_S (hg : o.guard = none) (it : Operand) (hop : o.op = Op.next it false) {r : Nat} {Ds : List ByteArray} (val : ByteArray → Value) (hval : ∀ v y t, R v = some y → y.1 = g t → v = val t) (hit : a.eval it = .pointer (some ⟨r, 0, none⟩)) (h : RgS w R B r L g Ds)
    (hDone : (∀ t, t ∈ L → t ∈ Ds) → wpList Try.prog ops Q rest (a.put o.dst (.tuple #[.bool false])) w)
    (hMore : ∀ x w', x ∈ L → x ∉ Ds → RgS w' R B r L g (x :: Ds) → w'.rangeLeft B r < w.rangeLeft B r → w.grownBy w' (some r) → w'.heap.size = w.heap.size → (Instr.entry (.pointer (some ⟨r, 0, none⟩))).run Try.prog w' = .ok (.tuple #[.string x, val x]) w' →
      wpList Try.prog ops Q rest (a.put o.dst (.tuple #[.bool true, .string x, val x])) w') : wpList Try.prog ops Q (o :: rest) a w := by
  refine wpList_plain hg fun K' hK' => ?_
  unfold Oper.wp
  obtain ⟨D, left, cnt, n, h1, h2, h3⟩ := h
  have hle := h1.left_eq
  rcases h1.next kyLaw o.type with ⟨h0, hl, hrun⟩ | ⟨key, v, kl, y, w', cnt', hkey, hlk, hv, hat, hrun, hrg, hlt, hgr, hsz, hen⟩
  · simp [execOp, hop, hit, hrun, Result.andThen]
    refine hK' _ _ (hDone fun t ht => ?_)
    have := hl (kyS t)
    rcases Classical.em (t ∈ Ds) with h4 | h4
    · exact h4
    · rw [(h3 t (h2.small t ht)).2 ⟨ht, h4⟩] at this
      cases this
  · obtain ⟨x, rfl, rfl⟩ := ky_inv hkey
    have hxs : x.size ≤ maxLen := by
      have hh : Maps.has D (kyS x) = true := Maps.has_true_of_atKey hat
      obtain ⟨es, clock, since, seen, c0, hb, F, hs, rfl, _⟩ := h1
      obtain ⟨p, hp, hpk⟩ := List.any_eq_true.1 hh
      obtain ⟨e, he, rfl⟩ := List.mem_map.1 (mem_sorted.1 hp)
      obtain ⟨z, hz⟩ := F.reads e he
      have h5 := rd_key hz
      rw [rg_of hz] at hpk
      rw [WideAt.sameKey_eq hpk] at h5
      have h6 := kyLaw.inj h5 hkey
      unfold keyOf mapKey at hkey
      simp [Try.underlying9] at hkey
      first | exact hkey.1 | exact hkey
    obtain ⟨hxL, hxD⟩ := (h3 x hxs).1 hlk
    have hy : y.1 = g x := by rw [← hat .nil, h2.at_ x hxL]
    obtain rfl := hval v y x hv hy
    simp [execOp, hop, hit, hrun, Result.andThen]
    refine hK' _ _ (hMore x w' hxL hxD ⟨D, _, cnt', n, hrg, h2, fun t ht => ?_⟩ (by rw [hrg.left_eq, hle]; exact hlt) hgr hsz hen)
    rw [Bool.and_eq_true, h3 t ht, List.mem_cons]
    by_cases e : t = x
    · subst e
      rw [WideAt.sameKey_self (kyLaw.key (kyOf ht))]
      simp
    · rw [Maps.sameKey_ne (kyS_ne e)]
      simp [e]

end

/-- Numbers. -/
def RdI (v : Value) : Option (DataW Unit × List MemPlace) := match v with
  | .int .i64 c => if (Lit.int .i64 c).wf = true then some (.lit (.int .i64 c), []) else none
  | _ => none

/-- Yes or no. -/
def RdB (v : Value) : Option (DataW Unit × List MemPlace) := match v with
  | .bool b => some (.lit (.bool b), [])
  | _ => none

def ltI (f : ByteArray → Int) (t : ByteArray) : DataW Unit := .lit (.int .i64 (f t))

def ltB (_ : ByteArray) : DataW Unit := .lit (.bool true)

theorem rdI_mk {c : Int} (h : (Lit.int .i64 c).wf = true) : RdI (.int .i64 c) = some (.lit (.int .i64 c), []) := by unfold RdI; exact if_pos h

theorem rdI_inv {v : Value} {y : DataW Unit × List MemPlace} (h : RdI v = some y) : ∃ c, v = .int .i64 c ∧ y = (.lit (.int .i64 c), []) := by
  unfold RdI at h
  split at h
  · rename_i c
    split at h
    · injection h with h; exact ⟨c, rfl, h.symm⟩
    · cases h
  · cases h

theorem rdI_val {f : ByteArray → Int} : ∀ v y t, RdI v = some y → y.1 = ltI f t → v = .int .i64 (f t) := fun v y t h e => by
  obtain ⟨c, rfl, rfl⟩ := rdI_inv h
  unfold ltI at e
  simp only [DataW.lit.injEq, Lit.int.injEq, true_and] at e
  rw [e]

theorem rdB_inv {v : Value} {y : DataW Unit × List MemPlace} (h : RdB v = some y) : ∃ b, v = .bool b ∧ y = (.lit (.bool b), []) := by
  unfold RdB at h
  split at h
  · rename_i b
    injection h with h; exact ⟨b, rfl, h.symm⟩
  · cases h

theorem rdB_val : ∀ v y t, RdB v = some y → y.1 = ltB t → v = .bool true := fun v y t h e => by
  obtain ⟨b, rfl, rfl⟩ := rdB_inv h
  unfold ltB at e
  simp only [DataW.lit.injEq, Lit.bool.injEq] at e
  rw [e]

theorem zeroI (w : World) : (zeroValue 3).run Try.prog w = .ok (.int .i64 0) w := by kernel_rfl

theorem zeroB (w : World) : (zeroValue 4).run Try.prog w = .ok (.bool false) w := by kernel_rfl

theorem MpS.lookI {w : World} {B : Nat} {L : List ByteArray} {f : ByteArray → Int} {tM : TypeId} (h : MpS w RdI B L (ltI f)) (ht : Try.prog.underlying tM = some (.map 9 3)) {s : ByteArray} (hs : s.size ≤ maxLen) {c : Int} (h1 : s ∈ L → f s = c) (h2 : s ∉ L → c = 0) : (Instr.lookup tM (.map (some B)) (.string s) false).run Try.prog w = .ok (.int .i64 c) w := by
  obtain ⟨D, g1, g2⟩ := h
  obtain ⟨v, ps, hr, hv⟩ := g1.lookup (t := tM) (e := 3) kyLaw ht (zeroI w) (rdI_mk (c := 0) (by decide)) (kyOf hs)
  rw [hr]
  by_cases e : s ∈ L
  · rw [g2.at_ s e] at hv
    rw [rdI_val v _ s hv rfl, h1 e]
  · rw [Maps.atKey_of_not_has (g2.not_has hs e)] at hv
    rw [h2 e, rdI_val (f := fun _ => 0) v _ s hv rfl]

theorem MpS.lookB {w : World} {B : Nat} {L : List ByteArray} {tM : TypeId} (h : MpS w RdB B L ltB) (ht : Try.prog.underlying tM = some (.map 9 4)) {s : ByteArray} (hs : s.size ≤ maxLen) {b : Bool} (hb : b = true ↔ s ∈ L) : (Instr.lookup tM (.map (some B)) (.string s) false).run Try.prog w = .ok (.bool b) w := by
  obtain ⟨D, g1, g2⟩ := h
  obtain ⟨v, ps, hr, hv⟩ := g1.lookup (t := tM) (e := 4) kyLaw ht (zeroB w) (zd := .lit (.bool false)) (zp := []) rfl (kyOf hs)
  rw [hr]
  by_cases e : s ∈ L
  · rw [g2.at_ s e] at hv
    rw [hb.2 e, rdB_val v _ s hv rfl]
  · rw [Maps.atKey_of_not_has (g2.not_has hs e)] at hv
    obtain ⟨b', rfl, h⟩ := rdB_inv hv
    have : b = false := Bool.eq_false_iff.2 fun h => e (hb.1 h)
    rw [this]
    simp only [Prod.mk.injEq, DataW.lit.injEq, Lit.bool.injEq] at h
    rw [← h.1]

end Go.Proofs.Ytjghodfdejdjoaa

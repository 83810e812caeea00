/- The keys of a map, collected, and the least of some texts, as the library makes them. For texts that are no longer than any may be. -/
import Derived.Test.YtilnjlcljjpnmaaIt
import Derived.Test.YtilnjlcljjpnmaaLf
namespace Go.Proofs.Ytilnjlcljjpnmaa
open Go.ChangeShapes Go.WideShapes Go.ChangeAt Go.RowKit Go.Joins
open Go.WideElems (Fit rd rg pl rd_key rd_val rg_of)

theorem enc_of (s : ByteArray) : encStr s.data.toList = .string s := by
  show Value.string ⟨s.data.toList.toArray⟩ = _
  rw [Array.toArray_toList]

/-- The keys that the library collects are those of the list. -/
theorem MpS.keys {w : World} {R : Rd} {B : Nat} {L : List ByteArray} {g : ByteArray → DataW Unit} (h : MpS w R B L g) :
    ∃ D : DataW Unit, w.ownsMap Try.prog 9 R B L.length D ∧ Maps.size D = L.length ∧ ∀ ss : List (List UInt8), ss.Perm (strKeys D) → ∃ ks : List ByteArray, ss.map encStr = sv ks ∧ ks.length = L.length ∧ ∀ t, t ∈ ks ↔ t ∈ L := by
  obtain ⟨D, h1, h2⟩ := h
  refine ⟨D, h1, h2.size, fun ss hp => ⟨ss.map fun l => ⟨l.toArray⟩, ?_, ?_, fun t => ?_⟩⟩
  · unfold sv
    rw [List.map_map]
    rfl
  · rw [List.length_map, hp.length_eq, ← h2.size]
    obtain ⟨es, rfl, _⟩ := h2.tidy
    simp [strKeys, Maps.size]
  · rw [List.mem_map]
    obtain ⟨es0, clock, hb, F, hsz, hD⟩ := h1
    have key : ∀ l, l ∈ strKeys D ↔ (⟨l.toArray⟩ : ByteArray) ∈ L := fun l => by
      constructor
      · intro hl
        rw [hD] at hl
        obtain ⟨p, hp2, rfl⟩ := List.mem_map.1 hl
        obtain ⟨x, hx, rfl⟩ := List.mem_map.1 (mem_sorted.1 hp2)
        obtain ⟨y, hy⟩ := F.reads x hx
        have h5 := rd_key hy
        obtain ⟨s, hk, hks⟩ := ky_inv h5
        have hss : s.size ≤ maxLen := by
          rw [hk] at h5
          unfold keyOf mapKey at h5
          simp [Try.underlying9] at h5
          first | exact h5.1 | exact h5
        have e1 : (rg Try.prog 9 R x).1 = kyS s := by rw [rg_of hy]; exact hks
        have hh : Maps.has D (kyS s) = true := by
          rw [hD]
          exact List.any_eq_true.2 ⟨rg Try.prog 9 R x, mem_sorted.2 (List.mem_map.2 ⟨x, hx, rfl⟩), by rw [e1]; exact WideAt.sameKey_self (kyLaw.key (kyOf hss))⟩
        have e2 : strOf (rg Try.prog 9 R x).1 = s.data.toList := by rw [e1]; rfl
        rw [e2, Array.toArray_toList]
        exact (h2.has s hss).1 hh
      · intro hl
        have hss := h2.small _ hl
        have hh := (h2.has _ hss).2 hl
        rw [hD] at hh ⊢
        obtain ⟨p, hp2, hpk⟩ := List.any_eq_true.1 hh
        refine List.mem_map.2 ⟨p, hp2, ?_⟩
        rw [WideAt.sameKey_eq hpk]
        show (l.toArray).toList = l
        rw [List.toList_toArray]
    constructor
    · rintro ⟨l, hl, rfl⟩
      exact (key l).1 (hp.mem_iff.1 hl)
    · intro ht
      exact ⟨t.data.toList, hp.mem_iff.2 ((key _).2 (by rw [Array.toArray_toList]; exact ht)), by rw [Array.toArray_toList]⟩

/-- The keys of a map, collected. -/
def KeysOut (w : World) (L : List ByteArray) (e : Ending) (w' : World) : Prop :=
  ∃ v ks, e = .returned v ∧ ks.length = L.length ∧ (∀ t, t ∈ ks ↔ t ∈ L) ∧ w'.ownsRow w.heap.size 9 1 v ks.length (sv ks) ∧ Below w.heap.size w w'

theorem keysB_any (mb : Option Nat) (w : World) : Calls Try.prog 83 #[.map mb] w fun e w' => e = .returned (.func (.func 118) #[] #[.pointer (some ⟨w.heap.size, 0, none⟩)]) ∧ w' = w.alloc (.cells #[.map mb] 70) :=
  callsIn_wide.1 (AnyZ.keys_in Try.keysB Fence.wide 5 trivial rfl mb w)

theorem keysL_any (mb : Option Nat) (w : World) : Calls Try.prog 84 #[.map mb] w fun e w' => e = .returned (.func (.func 119) #[] #[.pointer (some ⟨w.heap.size, 0, none⟩)]) ∧ w' = w.alloc (.cells #[.map mb] 81) :=
  callsIn_wide.1 (AnyZ.keys_in Try.keysL Fence.wide 5 trivial rfl mb w)

theorem collect_of {w : World} {R : Rd} {B P : Nat} {L : List ByteArray} {g : ByteArray → DataW Unit} {f : FuncId} (h : MpS w R B L g) (hL : L.length ≤ 1000)
    (eg : ∀ args w, (callFunc f args).run Try.prog w = .ok (.enter f args) w)
    (hs : ∀ D : DataW Unit, w.ownsMap Try.prog 9 R B L.length D → SeqGives Fence.wide 2 Try.prog f #[.pointer (some ⟨P, 0, none⟩)] encStr (fun ss => ss.Perm (strKeys D)) (Maps.size D) w) :
    Calls Try.prog 82 #[.func (.func f) #[] #[.pointer (some ⟨P, 0, none⟩)]] w (KeysOut w L) := by
  obtain ⟨D, h1, h2, h3⟩ := h.keys
  refine callsIn_wide.1 ((AnyZ.collect_in Try.collectS Fence.wide 4 trivial trivial rfl (by omega) f _ trivial eg _ (Maps.size D) (by rw [h2]; unfold maxLen; omega) (by rw [h2]; omega) w (hs D h1)).mono ?_)
  rintro e w' ⟨v, ss, rfl, hS, hrow, _, hb⟩
  obtain ⟨ks, e1, e2, e3⟩ := h3 ss hS
  refine ⟨v, ks, rfl, e2, e3, ?_, hb⟩
  rw [e1] at hrow
  have : ss.length = ks.length := by
    have := congrArg List.length e1
    unfold sv at this
    simpa using this
  rw [this] at hrow
  exact hrow

theorem collectB_any {w : World} {B P : Nat} {L : List ByteArray} (h : MpS w RdB B L ltB) (hL : L.length ≤ 1000) (hP : w.cell? ⟨P, 0, none⟩ = some (.map (some B))) :
    Calls Try.prog 82 #[.func (.func 118) #[] #[.pointer (some ⟨P, 0, none⟩)]] w (KeysOut w L) :=
  collect_of h hL (enters_of Try.func118 (by kernel_rfl) rfl) fun D hD => AnyZ.keys_gives (ρ := Try.keysB_ren) { Try.keysB with } Fence.wide _ trivial rfl (by omega) P B L.length D w (World.block_lt_of_cell? _ _ hP) hP hD

theorem collectL_any {w : World} {B P : Nat} {L : List ByteArray} {f : ByteArray → Int} (h : MpS w RdI B L (ltI f)) (hL : L.length ≤ 1000) (hP : w.cell? ⟨P, 0, none⟩ = some (.map (some B))) :
    Calls Try.prog 82 #[.func (.func 119) #[] #[.pointer (some ⟨P, 0, none⟩)]] w (KeysOut w L) :=
  collect_of h hL (enters_of Try.func119 (by kernel_rfl) rfl) fun D hD => AnyZ.keys_gives (ρ := Try.keysL_ren) { Try.keysL with } Fence.wide _ trivial rfl (by omega) P B L.length D w (World.block_lt_of_cell? _ _ hP) hP hD

end Go.Proofs.Ytilnjlcljjpnmaa

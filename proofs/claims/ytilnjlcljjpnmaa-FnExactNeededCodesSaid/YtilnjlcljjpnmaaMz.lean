/- The lock with its live codes, as the program makes it. For lists that can be. -/
import Derived.Test.YtilnjlcljjpnmaaAskD
import Derived.Test.YtilnjlcljjpnmaaMpS
namespace Go.Proofs.Ytilnjlcljjpnmaa
open Go.ChangeShapes Go.WideShapes Go.ChangeAt Go.RowKit Go.Joins

/-- The map holds just the codes that are alive. -/
def LiveM (w : World) (B : Nat) (al : ByteArray → Bool) : Prop := ∃ L, MpS w RdB B L ltB ∧ ∀ t, t ∈ L ↔ al t = true

theorem LiveM.congr {w : World} {B : Nat} {al al' : ByteArray → Bool} (h : LiveM w B al) (e : ∀ t, al t = al' t) : LiveM w B al' := by
  obtain ⟨L, h1, h2⟩ := h
  exact ⟨L, h1, fun t => by rw [h2, e]⟩

theorem LiveM.call {w w' : World} {B : Nat} {al : ByteArray → Bool} (h : LiveM w B al) (hb : Below w.heap.size w w') : LiveM w' B al := by
  obtain ⟨L, h1, h2⟩ := h
  exact ⟨L, h1.call hb, h2⟩

theorem LiveM.kept {w w' : World} {B : Nat} {al : ByteArray → Bool} {row : Option Nat} (h : LiveM w B al) (hg : w.grownBy w' row) (hne : some B ≠ row) : LiveM w' B al := by
  obtain ⟨L, h1, h2⟩ := h
  exact ⟨L, h1.kept hg hne, h2⟩

theorem LiveM.setCell {w : World} {B : Nat} {al : ByteArray → Bool} (h : LiveM w B al) {p : Addr} (hp : B ≠ p.block) (u : Value) : LiveM (w.setCell p u) B al := by
  obtain ⟨L, h1, h2⟩ := h
  exact ⟨L, h1.setCell hp u, h2⟩

theorem LiveM.lt {w : World} {B : Nat} {al : ByteArray → Bool} (h : LiveM w B al) : B < w.heap.size := by obtain ⟨L, h1, _⟩ := h; exact h1.lt

theorem LiveM.look {w : World} {B : Nat} {al : ByteArray → Bool} (h : LiveM w B al) {s : ByteArray} (hs : s.size ≤ maxLen) {c : Bool} (hc : al s = c) : (Instr.lookup 70 (.map (some B)) (.string s) false).run Try.prog w = .ok (.bool c) w := by
  obtain ⟨L, h1, h2⟩ := h
  exact h1.lookB Try.underlying70 hs (by rw [h2, hc])

def m3F (a b : Int) (v : Value) (j : Nat) : Value := (#[.int .i64 a, .int .i64 b, v] : Array Value).toList.getD j undef

theorem m3_new {W : World} {a b : Int} {v : Value} {t : TypeId} {g : Nat} (hg : g = W.heap.size) : Cells (W.alloc (.cells #[.int .i64 a, .int .i64 b, v] t)) g 3 (m3F a b v) := by
  subst hg
  refine ⟨by simp, fun j hj => ?_⟩
  rw [World.cell?_alloc_new, World.frozen?_alloc_new]
  refine ⟨?_, rfl⟩
  have : j = 0 ∨ j = 1 ∨ j = 2 := by omega
  rcases this with rfl | rfl | rfl <;> rfl

theorem Cells.grownM {w w' : World} {g n : Nat} {f : Nat → Value} {row : Option Nat} (h : Cells w g n f) (hg : w.grownBy w' row) (hne : some g ≠ row) : Cells w' g n f := by
  have e1 := hg.block g h.lt hne
  exact ⟨Nat.lt_of_lt_of_le h.lt hg.size, fun j hj => by
    have := h.at_ j hj
    rw [World.cell?_of_block (a := ⟨g, j, none⟩) e1, World.frozen?_of_block (a := ⟨g, j, none⟩) e1]; exact this⟩

/-- What the making holds. -/
structure MzSt (w wr : World) (a b : Int) (B : Nat) (al : ByteArray → Bool) : Prop where
  box : Cells wr w.heap.size 2 (b2F a b)
  res : Cells wr (w.heap.size + 1) 3 (m3F 0 0 (.map none))
  mz : Cells wr (B + 1) 3 (m3F a b (.map (some B)))
  live : LiveM wr B al
  bel : Below w.heap.size w wr

theorem MzSt.call {w wr w2 : World} {a b : Int} {B : Nat} {al : ByteArray → Bool} (h : MzSt w wr a b B al) (hb : Below wr.heap.size wr w2) : MzSt w w2 a b B al :=
  ⟨h.box.call hb, h.res.call hb, h.mz.call hb, h.live.call hb, bel_call h.bel hb⟩

theorem MzSt.turned {w wr w2 : World} {a b : Int} {B : Nat} {al al' : ByteArray → Bool} (h : MzSt w wr a b B al) (hB : w.heap.size + 1 < B) (hg : wr.grownBy w2 (some B)) (hl : LiveM w2 B al') : MzSt w w2 a b B al' :=
  ⟨h.box.grownM hg (fun e => by injection e with e; omega), h.res.grownM hg (fun e => by injection e with e; omega), h.mz.grownM hg (fun e => by injection e with e; omega), hl, h.bel.grown hg h.bel.size (fun j hj => by injection hj with hj; omega)⟩

theorem MzSt.congr {w wr : World} {a b : Int} {B : Nat} {al al' : ByteArray → Bool} (h : MzSt w wr a b B al) (e : ∀ t, al t = al' t) : MzSt w wr a b B al' :=
  ⟨h.box, h.res, h.mz, h.live.congr e, h.bel⟩

/-- The first codes. -/
def uptoB (a b : Int) (k : Nat) (t : ByteArray) : Bool := askB a b t && decide (nuN a b t < k)

theorem uptoB_all {a b : Int} (t : ByteArray) : uptoB a b (cnN a b) t = askB a b t := by
  unfold uptoB
  by_cases h : askB a b t = true
  · rw [h, decide_eq_true (nuN_lt h)]; rfl
  · rw [Bool.eq_false_iff.2 h]; rfl

theorem uptoB_succ {a b : Int} (hg : goodB a b = true) {k : Nat} (hk : k < cnN a b) (t : ByteArray) : uptoB a b (k + 1) t = true ↔ uptoB a b k t = true ∨ t = cdN a b k := by
  unfold uptoB
  rw [Bool.and_eq_true, Bool.and_eq_true, decide_eq_true_iff, decide_eq_true_iff]
  constructor
  · rintro ⟨h1, h2⟩
    by_cases e : nuN a b t = k
    · exact .inr (by rw [← cd_nu h1, e])
    · exact .inl ⟨h1, by omega⟩
  · rintro (⟨h1, h2⟩ | rfl)
    · exact ⟨h1, by omega⟩
    · exact ⟨cd_ask hg, by rw [nu_cd hg hk]; omega⟩

/-- Those that are not among the first of the dead ones. -/
def butB (a b : Int) (ts : List ByteArray) (k : Nat) (t : ByteArray) : Bool := askB a b t && !inS (ts.take k) t

theorem butB_none {a b : Int} {ts : List ByteArray} (t : ByteArray) : butB a b ts 0 t = askB a b t := by
  unfold butB
  rw [List.take_zero, inS_no (by simp)]
  simp

theorem butB_all {a b : Int} {ts : List ByteArray} {n : Nat} (hn : ts.length = n) (t : ByteArray) : butB a b ts n t = alB a b ts t := by
  unfold butB alB
  rw [← hn, List.take_length]

theorem butB_succ {a b : Int} {ts : List ByteArray} {k : Nat} (hk : k < ts.length) (t : ByteArray) : butB a b ts (k + 1) t = true ↔ butB a b ts k t = true ∧ t ≠ ts.getD k ByteArray.empty := by
  unfold butB
  have e : ∀ l, inS l t = true ↔ t ∈ l := fun l => inS_iff
  rw [List.take_succ_eq_append_getElem hk, ← getD_eq hk]
  by_cases h1 : askB a b t = true
  · rw [h1, Bool.true_and, Bool.true_and, Bool.not_eq_true', Bool.not_eq_true', Bool.eq_false_iff, Bool.eq_false_iff, Ne, Ne, e, e, List.mem_append, List.mem_singleton]
    constructor
    · exact fun h => ⟨fun h2 => h (.inl h2), fun h2 => h (.inr h2)⟩
    · rintro ⟨h2, h3⟩ (h | h)
      · exact h2 h
      · exact h3 h
  · rw [Bool.eq_false_iff.2 h1]; simp

theorem LiveM.few {w : World} {B : Nat} {al : ByteArray → Bool} {L : List ByteArray} {a b : Int} (h1 : MpS w RdB B L ltB) (h2 : ∀ t, t ∈ L ↔ al t = true) (ha : ∀ t, al t = true → askB a b t = true) (hM : cnN a b ≤ 1000) : L.length ≤ 1000000 := by
  have := codes_few h1.nodup fun t ht => ha t ((h2 t).1 ht)
  omega

theorem askB_size {a b : Int} {s : ByteArray} (h : askB a b s = true) : s.size ≤ maxLen := by have := (asked h).n6; unfold maxLen; omega

/-- All ends are alive. -/
def mzB (a b : Int) (ts es : List ByteArray) : Bool := areZ a b ts && es.all fun e => alB a b ts e

def mzV (a b : Int) (v : Value) : Value := .agg #[.int .i64 a, .int .i64 b, v]

/-- What is handed back. -/
def MzOut (w : World) (a b : Int) (ts es : List ByteArray) (e : Ending) (w' : World) : Prop :=
  (mzB a b ts es = true ∧ ∃ B, e = .returned (.tuple #[mzV a b (.map (some B)), .bool true]) ∧ w.heap.size ≤ B ∧ LiveM w' B (alB a b ts) ∧ Below w.heap.size w w') ∨
  (mzB a b ts es = false ∧ e = .returned (.tuple #[mzV 0 0 (.map none), .bool false]) ∧ Below w.heap.size w w')

theorem ends_snoc {p : ByteArray → Bool} {es : List ByteArray} {k : Nat} (hk : k < es.length) (h : (es.take k).all p = true) (hp : p (es.getD k ByteArray.empty) = true) : (es.take (k + 1)).all p = true := by
  rw [List.take_succ_eq_append_getElem hk, ← getD_eq hk, List.all_append, h, List.all_cons, hp]
  rfl

theorem ends_not {p : ByteArray → Bool} {es : List ByteArray} {k : Nat} (hk : k < es.length) (hp : p (es.getD k ByteArray.empty) = false) : es.all p = false := by
  rw [List.all_eq_false]
  exact ⟨_, List.getElem_mem hk, by rw [← getD_eq hk, hp]; simp⟩

set_option maxRecDepth 100000 in
set_option maxHeartbeats 4000000 in
theorem mazeOf_any (a b : Int) (A : Option Addr) (n c : Nat) (ts : List ByteArray) (E : Option Addr) (m d : Nat) (es : List ByteArray) (w : World) (hn : n ≤ maxLen) (hA : ArgS w A n ts) (hm : m ≤ maxLen) (hE : ArgS w E m es) :
    Calls Try.prog 68 #[.agg #[.int .i64 a, .int .i64 b], .slice A n c, .slice E m d] w (MzOut w a b ts es) := by
  have HA := Lib.hid hA
  have HE := Lib.hid hE
  have HN := Lib.hid hn
  have HM := Lib.hid hm
  unfold maxLen at hn hm
  have HU := Lib.hid (show Cells ((w.alloc (.cells #[.int .i64 a, .int .i64 b] 28)).alloc (.cells #[.int .i64 0, .int .i64 0, .map none] 72)) w.heap.size 2 (b2F a b) from (box_new (W := w) rfl).alloc _)
  have HQ := Lib.hid (show Cells ((w.alloc (.cells #[.int .i64 a, .int .i64 b] 28)).alloc (.cells #[.int .i64 0, .int .i64 0, .map none] 72)) (w.heap.size + 1) 3 (m3F 0 0 (.map none)) from m3_new (by simp))
  have HB0 := Lib.hid (show Below w.heap.size w ((w.alloc (.cells #[.int .i64 a, .int .i64 b] 28)).alloc (.cells #[.int .i64 0, .int .i64 0, .map none] 72)) by (repeat (first | assumption | exact Below.refl _ _ | (refine Below.alloc ?_ (by first | omega | (simp; done) | (simp; omega)) _) | (refine Below.setCell ?_ (by first | omega | (simp; done) | (simp; omega)) _) | refine bel_drewN ?_ _ | refine bel_drew ?_ | (refine bel_call ?_ (by assumption)))))
  have l0 : ((w.alloc (.cells #[.int .i64 a, .int .i64 b] 28)).alloc (.cells #[.int .i64 0, .int .i64 0, .map none] 72)).cell? ⟨w.heap.size, 0, none⟩ = some (.int .i64 a) := HU.out.cell (show 0 < 2 by omega)
  have l1 : ((w.alloc (.cells #[.int .i64 a, .int .i64 b] 28)).alloc (.cells #[.int .i64 0, .int .i64 0, .map none] 72)).cell? ⟨w.heap.size, 1, none⟩ = some (.int .i64 b) := HU.out.cell (show 1 < 2 by omega)
  clear hA hE
  by_cases hz : areZ a b ts = true
  · have HZ := Lib.hid hz
    have hsb : searchB a b = true := by unfold areZ at hz; rw [Bool.and_eq_true] at hz; exact hz.1
    have HS := Lib.hid hsb
    have HG := Lib.hid (searchB_good hsb).1
    obtain ⟨M, hMe⟩ : ∃ M, cnN a b = M := ⟨_, rfl⟩
    have HMe := Lib.hid hMe
    have HCZ : Hid (countZ a b = (M : Int)) := Lib.hid (by unfold countZ; rw [HG.out, if_pos rfl, ← cnN_cast HG.out, hMe])
    have hM : M ≤ 1000 := by have := (searchB_good hsb).2; rw [HCZ.out] at this; omega
    clear hz hsb hMe
    go_enter Try.func68, Try.ntmps68
    go_wp2_with (first
      | (go_at_call 22; refine (areDead_any _ _ _ _ _ ts _ HN.out (HA.out.below HB0.out)).mono ?_; rw [HZ.out, HS.out]; rintro e w1 ⟨rfl, hb1⟩
         have U1 := Lib.hid (HU.out.call hb1)
         have Q1 := Lib.hid (HQ.out.call hb1)
         have B1 := Lib.hid (bel_call HB0.out hb1)
         have k0 : w1.cell? ⟨w.heap.size, 0, none⟩ = some (.int .i64 a) := U1.out.cell (show 0 < 2 by omega)
         have k1 : w1.cell? ⟨w.heap.size, 1, none⟩ = some (.int .i64 b) := U1.out.cell (show 1 < 2 by omega)
         have hsz1 : w.heap.size + 1 < w1.heap.size := Q1.out.lt
         have hmm := @run_makeMap Try.prog
         have ST1 := Lib.hid (show MzSt w ((w1.alloc (.map #[] 0)).alloc (.cells #[.int .i64 a, .int .i64 b, .map (some w1.heap.size)] 72)) a b w1.heap.size (uptoB a b 0) from
           ⟨(U1.out.alloc _).alloc _, (Q1.out.alloc _).alloc _, m3_new (by simp), LiveM.call ⟨[], MpS.made w1 RdB ltB, fun t => by unfold uptoB; simp⟩ ((Below.refl _ _).alloc (Nat.le_refl _) _), (B1.out.alloc B1.out.size _).alloc (by rw [World.size_alloc]; have := B1.out.size; omega) _⟩)
         have j0 := ST1.out.box.cell (show 0 < 2 by omega)
         have j1 := ST1.out.box.cell (show 1 < 2 by omega)
         clear hb1)
      | (go_at_call 102; refine (count_any _ _ _).mono ?_; rw [HCZ.out]; rintro e w2 ⟨rfl, hb2⟩
         have ST2 := Lib.hid (ST1.out.call hb2)
         clear hb2))
    have hB1 : w.heap.size + 1 < w1.heap.size := hsz1
    obtain ⟨B, hBe⟩ : ∃ B, w1.heap.size = B := ⟨_, rfl⟩
    rw [hBe] at ST2 hB1 ⊢
    clear hBe ST1 U1 Q1 B1 k0 k1 j0 j1 l0 l1 hsz1 hmm HU HQ HB0
    go_loopw [42] (fun i wr => ∃ k : Nat, k ≤ M ∧ i = .int .i64 k ∧ MzSt w wr a b B (uptoB a b k)) (fun i _ => M - (intOf i).toNat)
    case atStart => exact ⟨0, by omega, rfl, ST2.out⟩
    case round =>
      clear ST2
      obtain ⟨k, hk, rfl, hS⟩ := hrel
      have HST := Lib.hid hS
      have l0 : wr.cell? ⟨w.heap.size, 0, none⟩ = some (.int .i64 a) := hS.box.cell (show 0 < 2 by omega)
      have l1 : wr.cell? ⟨w.heap.size, 1, none⟩ = some (.int .i64 b) := hS.box.cell (show 1 < 2 by omega)
      clear hS
      by_cases hlt : k < M
      · have HOF : Hid (ofZ a b (k : Int) = cdN a b k) := Lib.hid (by
          have h : hasNum a b (k : Int) = true := by unfold hasNum inB; rw [HG.out, HCZ.out]; simp; omega
          unfold ofZ cdN; rw [h, if_pos rfl])
        have HCA := Lib.hid (cd_ask (a := a) (b := b) (i := k) HG.out)
        have HUS := Lib.hid (uptoB_succ (a := a) (b := b) HG.out (show k < cnN a b by rw [HMe.out]; exact hlt))
        generalize cdN a b k = x at HOF HCA HUS
        go_wp2_with (first
          | (go_at_call 108; refine (ofNumber_any _ _ _ _).mono ?_; rw [HOF.out]; rintro e w2 ⟨rfl, hb2⟩
             have ST2 := Lib.hid (HST.out.call hb2)
             have m2 : w2.cell? ⟨B + 1, 2, none⟩ = some (.map (some B)) := ST2.out.mz.cell (show 2 < 3 by omega)
             clear hb2
             obtain ⟨L2, hL2, hm2⟩ := ST2.out.live
             have HL2 := Lib.hid hL2
             have HM2 := Lib.hid hm2
             have hfew := LiveM.few hL2 hm2 (fun t h => (Bool.and_eq_true _ _ ▸ h : _ ∧ _).1) (by rw [HMe.out]; exact hM)
             clear hL2 hm2)
          | (at_mapUpdate; refine wpList_store_S rfl _ _ _ _ _ (.inl rfl) Try.underlying70 HL2.out x (askB_size HCA.out) hfew rfl rfl _ rfl (.lit (.bool true)) rfl ?_; intro w3 hL3 hg3
             have ST3 := Lib.hid (ST2.out.turned hB1 hg3 (al' := uptoB a b (k + 1)) ⟨_, hL3.congr (fun t _ => by unfold ltB; split <;> rfl), fun t => by rw [mem_addS, HM2.out, HUS.out]⟩)
             clear hL3 hg3))
        go_roundw
        case rel => exact ⟨k + 1, by omega, by go_num, ST3.out⟩
        case measure => simp [intOf]; omega
      · obtain rfl : k = M := by omega
        have ST4 := Lib.hid (HST.out.congr (al' := butB a b ts 0) (fun t => by rw [← HMe.out, uptoB_all, butB_none]))
        clear HST l0 l1
        go_wp2_with fail
        go_loopw [57] (fun i wx => ∃ q : Nat, q ≤ n ∧ i = .int .i64 q ∧ MzSt w wx a b B (butB a b ts q)) (fun i _ => n - (intOf i).toNat)
        case atStart => exact ⟨0, by omega, rfl, ST4.out⟩
        case round =>
          clear ST4
          obtain ⟨q, hq, rfl, hS⟩ := hrel
          have HST := Lib.hid hS
          have HL := Lib.hid HA.out.len
          by_cases hlt : q < n
          · obtain ⟨D, off, rfl, hbD, hcD⟩ := HA.out.at_.resolve_left (by omega)
            have o1 : wr.cell? ⟨D, off + q, none⟩ = some (.string (ts.getD q ByteArray.empty)) := (hS.bel.cell (p := ⟨D, off + q, none⟩) hbD).trans (hcD q hlt)
            have m2 : wr.cell? ⟨B + 1, 2, none⟩ = some (.map (some B)) := hS.mz.cell (show 2 < 3 by omega)
            have HBS := Lib.hid (butB_succ (a := a) (b := b) (ts := ts) (k := q) (by rw [HL.out]; exact hlt))
            have HSZ := Lib.hid (HA.out.sz q hlt)
            clear hS hcD
            generalize ts.getD q ByteArray.empty = x at o1 HBS HSZ
            obtain ⟨L2, hL2, hm2⟩ := HST.out.live
            have HL2 := Lib.hid hL2
            have HM2 := Lib.hid hm2
            clear hL2 hm2
            go_wp2_with (at_delete; refine wpList_drop_S rfl _ _ _ _ rfl Try.underlying70 HL2.out x HSZ.out rfl rfl ?_; intro w3 hL3 hg3 hs3
                         have ST3 := Lib.hid (HST.out.turned hB1 hg3 (al' := butB a b ts (q + 1)) ⟨_, hL3, fun t => by rw [mem_offS, HM2.out, HBS.out]⟩)
                         clear hL3 hg3 hs3)
            go_roundw
            case rel => exact ⟨q + 1, by omega, by go_num, ST3.out⟩
            case measure => simp [intOf]; omega
          · obtain rfl : q = n := by omega
            have ST5 := Lib.hid (HST.out.congr (al' := alB a b ts) (fun t => butB_all HL.out t))
            clear HST
            go_wp2_with fail
            go_loopw [67] (fun i wx => ∃ q : Nat, q ≤ m ∧ i = .int .i64 q ∧ MzSt w wx a b B (alB a b ts) ∧ (es.take q).all (fun e => alB a b ts e) = true) (fun i _ => m - (intOf i).toNat)
            case atStart => exact ⟨0, by omega, rfl, ST5.out, by simp⟩
            case round =>
              clear ST5
              obtain ⟨q, hq, rfl, hS, hall⟩ := hrel
              have HST := Lib.hid hS
              have HAL := Lib.hid hall
              have HLE := Lib.hid HE.out.len
              have q0 : wr.cell? ⟨w.heap.size + 1, 0, none⟩ = some (.int .i64 0) := hS.res.cell (show 0 < 3 by omega)
              have q1 : wr.cell? ⟨w.heap.size + 1, 1, none⟩ = some (.int .i64 0) := hS.res.cell (show 1 < 3 by omega)
              have q2 : wr.cell? ⟨w.heap.size + 1, 2, none⟩ = some (.map none) := hS.res.cell (show 2 < 3 by omega)
              have f0 := hS.res.frozen (show 0 < 3 by omega)
              have f1 := hS.res.frozen (show 1 < 3 by omega)
              have f2 := hS.res.frozen (show 2 < 3 by omega)
              have m0 : wr.cell? ⟨B + 1, 0, none⟩ = some (.int .i64 a) := hS.mz.cell (show 0 < 3 by omega)
              have m1 : wr.cell? ⟨B + 1, 1, none⟩ = some (.int .i64 b) := hS.mz.cell (show 1 < 3 by omega)
              have m2 : wr.cell? ⟨B + 1, 2, none⟩ = some (.map (some B)) := hS.mz.cell (show 2 < 3 by omega)
              have HBW : Hid (∀ (v0 v1 v2 : Value), Below w.heap.size w (((wr.setCell ⟨w.heap.size + 1, 0, none⟩ v0).setCell ⟨w.heap.size + 1, 1, none⟩ v1).setCell ⟨w.heap.size + 1, 2, none⟩ v2)) := Lib.hid fun v0 v1 v2 =>
                ((hS.bel.setCell (p := ⟨w.heap.size + 1, 0, none⟩) (by show w.heap.size ≤ w.heap.size + 1; omega) _).setCell (p := ⟨w.heap.size + 1, 1, none⟩) (by show w.heap.size ≤ w.heap.size + 1; omega) _).setCell (p := ⟨w.heap.size + 1, 2, none⟩) (by show w.heap.size ≤ w.heap.size + 1; omega) _
              clear hS hall
              by_cases hlt : q < m
              · obtain ⟨D, off, rfl, hbD, hcD⟩ := HE.out.at_.resolve_left (by omega)
                have o1 : wr.cell? ⟨D, off + q, none⟩ = some (.string (es.getD q ByteArray.empty)) := (HST.out.bel.cell (p := ⟨D, off + q, none⟩) hbD).trans (hcD q hlt)
                have HSZ := Lib.hid (HE.out.sz q hlt)
                have HSN : Hid (alB a b ts (es.getD q ByteArray.empty) = true → (es.take (q + 1)).all (fun e => alB a b ts e) = true) := Lib.hid (ends_snoc (by rw [HLE.out]; exact hlt) HAL.out)
                have HSF : Hid (alB a b ts (es.getD q ByteArray.empty) = false → mzB a b ts es = false) := Lib.hid (fun h => by unfold mzB; rw [ends_not (p := fun e => alB a b ts e) (by rw [HLE.out]; exact hlt) h, Bool.and_false])
                clear hcD
                generalize es.getD q ByteArray.empty = x at o1 HSZ HSN HSF
                obtain ⟨u, hu⟩ : ∃ u, alB a b ts x = u := ⟨_, rfl⟩
                have HLK := HST.out.live.look HSZ.out hu
                rcases u with _ | _
                · have HV := Lib.hid (HSF.out hu)
                  clear hu
                  go_wp2_with fail
                  refine bodyPost_ret (v := .tuple #[.agg #[.int .i64 0, .int .i64 0, .map none], .bool false]) (by simp [results, Try.results68, go_sem, q0, q1, q2]) rfl ?_
                  exact .inr ⟨HV.out, rfl, HBW.out _ _ _⟩
                · have HV := Lib.hid (HSN.out hu)
                  clear hu
                  go_wp2_with fail
                  go_roundw
                  case rel => exact ⟨q + 1, by omega, by go_num, HST.out, HV.out⟩
                  case measure => simp [intOf]; omega
              · obtain rfl : q = m := by omega
                have HLT := Lib.hid HST.out.live.lt
                go_wp2_with fail
                refine bodyPost_ret (v := .tuple #[.agg #[.int .i64 a, .int .i64 b, .map (some B)], .bool true]) (by simp [results, Try.results68, go_sem, q0, q1, q2]) rfl ?_
                have hv := HAL.out
                rw [← HLE.out, List.take_length] at hv
                exact .inl ⟨by unfold mzB; rw [HZ.out, hv]; rfl, B, rfl, by omega, ((HST.out.live.setCell (by show B ≠ w.heap.size + 1; omega) _).setCell (by show B ≠ w.heap.size + 1; omega) _).setCell (by show B ≠ w.heap.size + 1; omega) _, HBW.out _ _ _⟩
  · have HZ := Lib.hid (Bool.eq_false_iff.2 hz)
    have HV : Hid (mzB a b ts es = false) := Lib.hid (by unfold mzB; rw [HZ.out]; rfl)
    clear hz
    obtain ⟨u, HS⟩ : ∃ u, Hid (searchB a b = u) := ⟨_, Lib.hid rfl⟩
    rcases u with _ | _ <;>
    · go_enter Try.func68, Try.ntmps68
      go_wp2_with (go_at_call 22; refine (areDead_any _ _ _ _ _ ts _ HN.out (HA.out.below HB0.out)).mono ?_; rw [HZ.out, HS.out]; rintro e w1 ⟨rfl, hb1⟩
                   have Q1 := Lib.hid (HQ.out.call hb1)
                   have B1 := Lib.hid (bel_call HB0.out hb1)
                   have q0 : w1.cell? ⟨w.heap.size + 1, 0, none⟩ = some (.int .i64 0) := Q1.out.cell (show 0 < 3 by omega)
                   have q1 : w1.cell? ⟨w.heap.size + 1, 1, none⟩ = some (.int .i64 0) := Q1.out.cell (show 1 < 3 by omega)
                   have q2 : w1.cell? ⟨w.heap.size + 1, 2, none⟩ = some (.map none) := Q1.out.cell (show 2 < 3 by omega)
                   have f0 := Q1.out.frozen (show 0 < 3 by omega)
                   have f1 := Q1.out.frozen (show 1 < 3 by omega)
                   have f2 := Q1.out.frozen (show 2 < 3 by omega)
                   clear hb1)
      refine bodyPost_ret (v := .tuple #[.agg #[.int .i64 0, .int .i64 0, .map none], .bool false]) (by simp [results, Try.results68, go_sem, q0, q1, q2]) rfl ?_
      exact .inr ⟨HV.out, rfl, ((B1.out.setCell (p := ⟨w.heap.size + 1, 0, none⟩) (by show w.heap.size ≤ w.heap.size + 1; omega) _).setCell (p := ⟨w.heap.size + 1, 1, none⟩) (by show w.heap.size ≤ w.heap.size + 1; omega) _).setCell (p := ⟨w.heap.size + 1, 2, none⟩) (by show w.heap.size ≤ w.heap.size + 1; omega) _⟩

end Go.Proofs.Ytilnjlcljjpnmaa

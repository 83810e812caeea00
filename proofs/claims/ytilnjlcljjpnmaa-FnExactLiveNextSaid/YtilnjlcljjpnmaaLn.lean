/- The live codes next to a code, as the program lists them. For lists that can be. -/
import Derived.Test.YtilnjlcljjpnmaaNx
import Derived.Test.YtilnjlcljjpnmaaJt
import Derived.Test.YtilnjlcljjpnmaaWk
namespace Go.Proofs.Ytilnjlcljjpnmaa
open Go.ChangeShapes Go.WideShapes Go.ChangeAt Go.RowKit Go.Joins

/-- The live codes one turn away. -/
def lnL (a b : Int) (ts : List ByteArray) (s : ByteArray) : List ByteArray := if dkB a b ts s then (nextL a b s).filter (fun t => !inS ts t) else []

/-- Texts that are no longer than any may be. -/
abbrev TxS := {s : ByteArray // s.size ≤ maxLen}

instance : Inhabited TxS := ⟨⟨ByteArray.empty, by decide⟩⟩

def encX (x : TxS) : Value := .string x.1

theorem next_ask {a b : Int} {s : ByteArray} (h : askB a b s = true) {t : ByteArray} (ht : t ∈ nextL a b s) : askB a b t = true := by
  rw [nextL_yes h] at ht
  have hk : t.data.toList ∈ keyL (ofKey (tidy (keyL (nxC b (dg s) (2 * s.size))))) := List.mem_map.2 ⟨t, ht, rfl⟩
  rw [keyL_ofKey, tidy_mem] at hk
  obtain ⟨u, hu, e⟩ := List.mem_map.1 hk
  have e2 : u = t := bytesJ e
  subst e2
  obtain ⟨i, hi, rfl⟩ := List.mem_map.1 hu
  have hi := List.mem_range.1 hi
  have hsz := (asked h).size
  have : nxT b (dg s) i = mvW b s i := rfl
  rw [this]
  exact mvW_ask h (by omega)

theorem next_some {a b : Int} {s : ByteArray} (h : askB a b s = true) : 0 < (nextL a b s).length ∧ (nextL a b s).length ≤ 1000 := by
  have h1 := (asked h).n1
  have h6 := (asked h).n6
  rw [nextL_yes h, ofKey_length]
  refine ⟨List.length_pos_iff.2 fun e => ?_, ?_⟩
  · have : (nxT b (dg s) 0).data.toList ∈ tidy (keyL (nxC b (dg s) (2 * s.size))) := (tidy_mem _ _).2 (List.mem_map.2 ⟨_, List.mem_map.2 ⟨0, List.mem_range.2 (by omega), rfl⟩, rfl⟩)
    rw [e] at this
    cases this
  · have := tidy_le (keyL (nxC b (dg s) (2 * s.size)))
    rw [keyL_length, nxC_length] at this
    omega

theorem liveOne_any (a b : Int) (al : ByteArray → Bool) (B gm : Nat) (t : ByteArray) (W : World) (hL : LiveM W B al) (hm : Cells W gm 3 (m3F a b (.map (some B)))) (ht : t.size ≤ maxLen) :
    Calls Try.prog 99 #[.string t, .pointer (some ⟨gm, 0, none⟩)] W fun e w' => e = .returned (.bool (!al t)) ∧ ∃ q, w' = W.drewN q := by
  obtain ⟨u, hu⟩ : ∃ u, al t = u := ⟨_, rfl⟩
  have HLK := hL.look ht hu
  have HU := Lib.hid hu
  have k2 : W.cell? ⟨gm, 2, none⟩ = some (.map (some B)) := hm.cell (show 2 < 3 by omega)
  clear hL hm ht hu
  go_enter Try.func99, Try.ntmps99
  go_wp2_with fail
  go_ret
  exact ⟨ret_bool (by rw [HU.out]), 0, rfl⟩

theorem grown_sortW {α : Type} [Inhabited α] (enc : α → Value) (w : World) (g n : Nat) (os : Array Obj) (d : Array α) : w.grownBy (sortWorld enc w g 0 n d os) (some g) := by
  unfold sortWorld
  refine ⟨rfl, rfl, rfl, by simp, fun k hk hne => ?_⟩
  rw [Sort.heap_grow_old _ _ (by simpa using hk)]
  have : g ≠ k := fun e => hne (by rw [e])
  simp [Sort.putRow, Sort.mapBlock, Sort.ahead, Array.getElem?_modify, this]

theorem encX_map (zs : List TxS) : sv (zs.map (·.1)) = zs.map encX := by
  unfold sv
  rw [List.map_map]
  rfl

theorem keep_map (p : ByteArray → Bool) (zs : List TxS) : (zs.filter fun x => !(!p x.1)).map (·.1) = (zs.map (·.1)).filter p := by
  rw [List.filter_map]
  congr 1
  exact List.filter_congr fun x _ => by simp

set_option maxRecDepth 100000 in
set_option maxHeartbeats 4000000 in
theorem liveNext_any (a b : Int) (A : Option Addr) (n c : Nat) (ts : List ByteArray) (s : ByteArray) (w : World) (hn : n ≤ maxLen) (hs : s.size ≤ maxLen) (hA : ArgS w A n ts) :
    Calls Try.prog 58 #[.agg #[.int .i64 a, .int .i64 b], .slice A n c, .string s] w (StrsOut w (lnL a b ts s) (dkB a b ts s)) := by
  have HA := Lib.hid hA
  have HN := Lib.hid hn
  have HS := Lib.hid hs
  have X0 := Lib.hid (show Below w.heap.size w ((w.alloc (.cells #[.int .i64 a, .int .i64 b] 28)).alloc (.cells #[.string s] 9)) by (repeat (first | assumption | exact Below.refl _ _ | (refine Below.alloc ?_ (by first | omega | (simp; done) | (simp; omega)) _) | (refine Below.setCell ?_ (by first | omega | (simp; done) | (simp; omega)) _) | refine bel_drewN ?_ _ | refine bel_drew ?_ | (refine bel_call ?_ (by assumption)))))
  have C0 := Lib.hid ((box_new (W := w) (a := a) (b := b) (t := 28) rfl).alloc (.cells #[.string s] 9))
  have E0 := Lib.hid (argS_one (W := w.alloc (.cells #[.int .i64 a, .int .i64 b] 28)) (s := s) (t := 9) (g := w.heap.size + 1) (by simp) hs)
  clear hA hn hs
  go_enter Try.func58, Try.ntmps58
  go_wp2_with fail
  refine (mazeOf_any _ _ _ _ _ ts _ _ _ [s] _ HN.out (HA.out.below X0.out) (by unfold maxLen; omega) E0.out).mono ?_
  rintro e w1 h1
  rcases h1 with ⟨hd, B, rfl, hB, hlv, hb1⟩ | ⟨hd, rfl, hb1⟩
  · rw [mzB_one] at hd
    unfold mzV
    have HD := Lib.hid hd
    have HP := Lib.hid (dkB_parts hd)
    have HY := Lib.hid HP.out.2.2.2.2.1
    have HV : Hid (lnL a b ts s = (nextL a b s).filter (alB a b ts)) := Lib.hid (by
      unfold lnL
      rw [hd, if_pos rfl]
      exact List.filter_congr fun t ht => (alB_of (next_ask HY.out ht)).symm)
    have hwB : w.heap.size ≤ B := by have := X0.out.size; omega
    have X1 := Lib.hid ((bel_call X0.out hb1).alloc (bel_call X0.out hb1).size (.cells #[.int .i64 a, .int .i64 b, .map (some B)] 72))
    have C1 := Lib.hid ((C0.out.call hb1).alloc (.cells #[.int .i64 a, .int .i64 b, .map (some B)] 72))
    have M1 := Lib.hid (m3_new (W := w1) (a := a) (b := b) (v := .map (some B)) (t := 72) rfl)
    have L1 := Lib.hid (hlv.call ((Below.refl _ _).alloc (Nat.le_refl _) (.cells #[.int .i64 a, .int .i64 b, .map (some B)] 72)))
    have l0 : (w1.alloc (.cells #[.int .i64 a, .int .i64 b, .map (some B)] 72)).cell? ⟨w.heap.size, 0, none⟩ = some (.int .i64 a) := C1.out.cell (show 0 < 2 by omega)
    have l1 : (w1.alloc (.cells #[.int .i64 a, .int .i64 b, .map (some B)] 72)).cell? ⟨w.heap.size, 1, none⟩ = some (.int .i64 b) := C1.out.cell (show 1 < 2 by omega)
    have hBw1 : B < w1.heap.size := hlv.lt
    clear hd hb1 hlv X0 E0 hB
    go_wp2_with fail
    refine (next_row _ _ _ _ HS.out).mono ?_
    rintro e w3 ⟨v, base, rfl, hbase, hrow, hb3⟩
    rw [World.size_alloc] at hbase
    have X3 := Lib.hid (bel_call X1.out hb3)
    have M3 := Lib.hid (M1.out.call hb3)
    have L3 := Lib.hid (L1.out.call hb3)
    obtain ⟨hn0, hn1⟩ := next_some HY.out
    obtain ⟨zs, hzs⟩ : ∃ zs : List TxS, zs.map (·.1) = nextL a b s := ⟨(nextL a b s).pmap Subtype.mk fun t ht => askB_size (next_ask HY.out ht), by rw [List.map_pmap]; simp⟩
    rw [← hzs] at hrow hn0 hn1
    rw [encX_map, List.length_map] at hrow
    rw [List.length_map] at hn0 hn1
    have hv0 : v ≠ .slice none 0 0 := fun e => by
      obtain ⟨g, c', e', _⟩ := hrow.form hn0
      rw [e'] at e; cases e
    obtain ⟨g, cap, rfl, hbg, hgl, hncap, hcm, _, hH⟩ := Lib.holds_of_ownsRow hrow hv0
    have hgm : g ≠ w1.heap.size := by omega
    have hgB : g ≠ B := by omega
    obtain ⟨gm, hgme⟩ : ∃ gm, w1.heap.size = gm := ⟨_, rfl⟩
    rw [hgme] at M3 hgm
    have hdel := AnyE.slices_DeleteFunc Try.delS encX (fun x => rfl) (fun x : TxS => !alB a b ts x.1) 99 #[.pointer (some ⟨gm, 0, none⟩)] (enters_of Try.func99 (by kernel_rfl) rfl) ⟨ByteArray.empty, by decide⟩ Try.zeroValue9 g 0 cap zs.toArray w3
      (fun W x hb => liveOne_any a b _ B gm x.1 W (L3.out.call hb) (M3.out.call hb) x.2)
      (fun q os dk x _ => liveOne_any a b _ B gm x.1 _ (L3.out.kept (grown_sortW encX w3 g q os dk) (fun e => by injection e with e; exact hgB e.symm)) (M3.out.grownM (grown_sortW encX w3 g q os dk) (fun e => by injection e with e; exact hgm e.symm)) x.2)
      hH (by simp; omega) (by simpa using hncap)
    rw [List.size_toArray, List.toList_toArray] at hdel
    obtain ⟨F, hF⟩ : ∃ F, (zs.filter fun x => !(!alB a b ts x.1)) = F := ⟨_, rfl⟩
    have hle : F.length ≤ zs.length := by rw [← hF]; exact List.length_filter_le _ _
    rw [hF] at hdel
    have HV2 : Hid (lnL a b ts s = F.map (·.1)) := Lib.hid (by rw [HV.out, ← hF, keep_map, hzs])
    have HR := Lib.hid hrow
    have hwg : w.heap.size ≤ g := by have := X1.out.size; rw [World.size_alloc] at this; omega
    rw [hgme]
    clear hF hH hrow hb3 X1 C1 M1 L1 l0 l1 hzs HV
    go_wp2_with (go_at_call 98; refine hdel.mono ?_; rintro e w4 ⟨rfl, q, rfl⟩)
    go_ret2
    have hO := Lib.ownsRow_putRow (q := q) (k := F.length) (ys := F ++ List.replicate (zs.length - F.length) ⟨ByteArray.empty, by decide⟩) HR.out (by simp; omega) hle
    rw [List.take_left, ← encX_map] at hO
    have hO2 := own_strs hO (by omega)
    obtain ⟨A4, c4, e4, hO4⟩ := hO2
    rw [HV2.out, HD.out]
    refine ⟨A4, c4, ?_, ?_, Lib.below_putRow X3.out hwg⟩
    · rw [List.length_map, ← e4]; rfl
    · rw [List.length_map]; exact hO4.base (by omega)
  · rw [mzB_one] at hd
    have HD := Lib.hid hd
    have X1 := Lib.hid ((bel_call X0.out hb1).alloc (bel_call X0.out hb1).size (.cells #[.int .i64 0, .int .i64 0, .map none] 72))
    unfold mzV
    have HV : Hid (lnL a b ts s = []) := Lib.hid (by unfold lnL; rw [hd]; rfl)
    clear hd hb1
    go_wp2_with fail
    go_ret2
    rw [HV.out, HD.out]
    exact strs_none X1.out

end Go.Proofs.Ytilnjlcljjpnmaa

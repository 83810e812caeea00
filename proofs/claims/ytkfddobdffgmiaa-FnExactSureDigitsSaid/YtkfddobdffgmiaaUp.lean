/- The digits that all solutions have, as both programs tell them. No conditions. -/
import Derived.Test.YtkfddobdffgmiaaUl
import Derived.IntWalk
import Derived.Laws.IdiomStrings
namespace Go.Proofs.Ytkfddobdffgmiaa
open Go.ChangeShapes Go.WideShapes Go.ChangeAt Go.RowKit Go.Joins

/-- The byte of a wheel of a code. -/
def byN (t : ByteArray) (i : Nat) : Nat := ((t.data.toList).getD i 0).toNat

/-- All of the first m codes have the first one's digit at a wheel. -/
def sameB (ts : List ByteArray) (m i : Nat) : Bool := (ts.take m).all fun t => byN t i == byN (ts.getD 0 ByteArray.empty) i

/-- What is sure of a wheel behind the first m codes. -/
def sdN (ts : List ByteArray) (m i : Nat) : Int := if sameB ts m i then (byN (ts.getD 0 ByteArray.empty) i : Int) else 63

/-- The first k wheels. -/
def sdL (ts : List ByteArray) (m k : Nat) : List Int := (List.range k).map (sdN ts m)

/-- The sure digits of a puzzle. -/
def sdS (a b : Int) (cs : List Clu) : ByteArray := if fsB a b cs then strOfNums (sdL (slL a b cs) (slL a b cs).length a.toNat) else ByteArray.empty

theorem sdL_succ (ts : List ByteArray) (m k : Nat) : sdL ts m (k + 1) = sdL ts m k ++ [sdN ts m k] := by unfold sdL; rw [List.range_succ, List.map_append]; rfl

theorem byN_at {t : ByteArray} {i : Nat} (h : i < t.size) : byN t i = (t[i]).toNat := by
  have h' : i < t.data.toList.length := by simpa using h
  unfold byN
  rw [List.getD, List.getElem?_eq_getElem h']
  rfl

theorem sd_size (ts : List ByteArray) (m k : Nat) : (strOfNums (sdL ts m k)).size = k := by
  have h : (strOfNums (sdL ts m k)).size = (strOfNums (sdL ts m k)).data.toList.length := by simp
  rw [h, strOfNums_data, List.length_map]
  unfold sdL
  rw [List.length_map, List.length_range]

theorem same_succ {ts : List ByteArray} {m i : Nat} (h : m < ts.length) : sameB ts (m + 1) i = (sameB ts m i && byN (ts.getD m ByteArray.empty) i == byN (ts.getD 0 ByteArray.empty) i) := by
  unfold sameB
  rw [List.take_succ_eq_append_getElem h, List.all_append]
  simp [List.getD, List.getElem?_eq_getElem h]

theorem same_no {ts : List ByteArray} {m n i : Nat} (hm : m ≤ n) (h : sameB ts m i = false) : sameB ts n i = false := by
  unfold sameB at h ⊢
  rw [List.all_eq_false] at h ⊢
  obtain ⟨t, ht, hn⟩ := h
  exact ⟨t, List.Sublist.mem ht (List.take_sublist_take_left hm), hn⟩

/-- Codes that are as long as there are wheels, of digits. -/
structure CodesN (ts : List ByteArray) (n : Nat) : Prop where
  size : ∀ m, m < ts.length → (ts.getD m ByteArray.empty).size = n
  lo : ∀ m i, m < ts.length → i < n → 48 ≤ byN (ts.getD m ByteArray.empty) i ∧ byN (ts.getD m ByteArray.empty) i ≤ 57
  n6 : n ≤ 6

theorem sl_codes {a b : Int} {cs : List Clu} (h : fsB a b cs = true) : CodesN (slL a b cs) a.toNat := by
  have hp : pzB a b cs = true := by
    by_cases hp : pzB a b cs = true
    · exact hp
    · unfold fsB at h
      rw [slL_no (Bool.eq_false_iff.2 hp)] at h
      simp at h
  have hg := (puzB_yes (pzB_yes hp).1).1
  have key : ∀ m, m < (slL a b cs).length → askB a b ((slL a b cs).getD m ByteArray.empty) = true := fun m hm => by
    have e : (slL a b cs).getD m ByteArray.empty = (slL a b cs)[m] := by simp [List.getD, List.getElem?_eq_getElem hm]
    have hsub : ∀ t, t ∈ slL a b cs → t ∈ solL a b cs := fun t ht => by rw [slL_yes hp] at ht; exact ht
    rw [e]
    have h2 := hsub _ (List.getElem_mem hm)
    exact solL_ask hg h2
  refine ⟨fun m hm => ?_, fun m i hm hi => ?_, ?_⟩
  · have := (asked (key m hm)).size; omega
  · have hA := asked (key m hm)
    have hs := hA.size
    have := digits_at hA.digits (k := i) (by omega)
    rw [byN_at (by omega)]
    omega
  · have := good_yes hg; omega

theorem bytesP {x y : ByteArray} (h : x ≠ y) : (x.toList == y.toList) = false := by
  rw [ByteArray.toList_eq, ByteArray.toList_eq]
  have : x.data.toList ≠ y.data.toList := fun e => h (bytes_inj e)
  simpa using this

theorem str_snoc (xs : List Int) (x : Int) : strOfNums (xs ++ [x]) = strOfNums xs ++ strOfNums [x] := bytes_inj (by
  rw [strOfNums_data, List.map_append, ByteArray.data_append, Array.toList_append, strOfNums_data, strOfNums_data])

theorem one_same (x : Nat) : ((strOfNums [(x : Int)]).toList == (strOfNums [(x : Int)]).toList) = true := by simp

theorem one_other {x y : Nat} (hx : x < 256) (hy : y < 256) (h : x ≠ y) : ((strOfNums [(x : Int)]).toList == (strOfNums [(y : Int)]).toList) = false := bytesP fun e => h (by
  have h1 : (strOfNums [(x : Int)]).data.toList = (strOfNums [(y : Int)]).data.toList := by rw [e]
  rw [strOfNums_data, strOfNums_data] at h1
  simp only [List.map_cons, List.map_nil, Int.toNat_natCast, List.cons.injEq, and_true] at h1
  have h2 := congrArg UInt8.toNat h1
  simpa [Nat.mod_eq_of_lt hx, Nat.mod_eq_of_lt hy] using h2)

theorem byN_lt (t : ByteArray) (i : Nat) : byN t i < 256 := UInt8.toNat_lt _

theorem ext_one {t : ByteArray} {k : Nat} (h : k < t.size) : t.extract k (k + 1) = strOfNums [(byN t k : Int)] := by
  have hl : (t.extract k (k + 1)).data.toList = (strOfNums [(byN t k : Int)]).data.toList := by
    have h' : k < t.data.toList.length := by simpa using h
    rw [strOfNums_data, ByteArray.data_extract, Array.toList_extract, List.extract_eq_take_drop, show k + 1 - k = 1 by omega, List.drop_eq_getElem_cons h', byN_at h]
    show [t.data.toList[k]] = [UInt8.ofNat ((t[k]).toNat : Int).toNat]
    rw [Int.toNat_natCast, UInt8.ofNat_toNat]
    rfl
  have hd : (t.extract k (k + 1)).data = (strOfNums [(byN t k : Int)]).data := Array.toList_inj.1 hl
  generalize strOfNums [(byN t k : Int)] = u at hd
  generalize t.extract k (k + 1) = v at hd
  cases u; cases v; simp at hd; rw [hd]

set_option maxRecDepth 100000 in
set_option maxHeartbeats 4000000 in
theorem specSureDigits_any (a b : Int) (A : Option Addr) (n c : Nat) (cs : List Clu) (w : World) (hn : n ≤ maxLen) (hA : ArgC w A n cs) :
    Calls Try.prog 39 #[.agg #[.int .i64 a, .int .i64 b, .slice A n c]] w fun e w' => e = .returned (.tuple #[.string (sdS a b cs), .bool (fsB a b cs)]) ∧ Below w.heap.size w w' := by
  have H0 : Hid (PB w a b (.slice A n c) (w.alloc (.cells #[.int .i64 a, .int .i64 b, .slice A n c] 39))) := Lib.hid (PB_new ..)
  have HN := Lib.hid hn
  have HA := Lib.hid hA
  clear hn hA
  by_cases hp : pzB a b cs = true
  · have HP := Lib.hid hp
    obtain ⟨hp1, hp2, hp3⟩ := pzB_yes hp
    have HP1 := Lib.hid hp1
    have HP3 := Lib.hid hp3
    have H6 : Hid (n ≤ 6) := Lib.hid (by rw [← HA.out.len]; exact hp2)
    have HE := Lib.hid (slL_yes hp)
    have HCN := Lib.hid (fun h => sl_codes (a := a) (b := b) (cs := cs) h)
    have hFS : fsB a b cs = decide (0 < (solL a b cs).length) := by unfold fsB; rw [slL_yes hp]
    have HSD : Hid (fsB a b cs = true → sdS a b cs = strOfNums (sdL (solL a b cs) (solL a b cs).length a.toNat)) := Lib.hid (fun h => by unfold sdS; rw [h, slL_yes hp]; rfl)
    rw [HE.out] at HCN
    have HALL := Lib.hid (fun W (hW : ArgC W A n cs) => pzAll_any a b A n c cs W H6.out hW hp1 hp3)
    obtain ⟨ts, hts⟩ : ∃ ts, solL a b cs = ts := ⟨_, rfl⟩
    rw [hts] at HALL HCN hFS HSD
    have HFS := Lib.hid hFS
    have HTS := Lib.hid hts
    clear hp hp1 hp2 hp3 hts hFS
    obtain ⟨m, hm⟩ : ∃ m, ts.length = m := ⟨_, rfl⟩
    have HM := Lib.hid hm
    by_cases h0 : m = 0
    · have HV : Hid (fsB a b cs = false) := Lib.hid (by rw [HFS.out, hm, h0]; rfl)
      have HV0 : Hid (sdS a b cs = ByteArray.empty) := Lib.hid (by unfold sdS; rw [HV.out]; rfl)
      clear hm
      go_enter Try.func39, Try.ntmps39
      go_wp2_with (first | (go_at_call 64; refine (call_PB H0.out (pzGood_any _ _ _ _ _ cs _ HN.out (HA.out.below H0.out.2.2.2.1))).mono ?_; rw [HP.out]; rintro e w1 ⟨rfl, hS1⟩; have H1 := Lib.hid hS1; obtain ⟨p1, q1, s1, _, z1⟩ := hS1) | (go_at_call 74; refine (HALL.out _ (HA.out.below H1.out.2.2.2.1)).mono ?_; rintro e w2 ⟨A9, c9, rfl, hO, hb⟩; rw [HM.out, h0]))
      go_ret2
      exact ⟨by rw [HV.out, HV0.out]; rfl, bel_call H1.out.2.2.2.1 hb⟩
    · have hpos : 0 < m := by omega
      have hm0 : ((m : Int) == 0) = false := by simp; omega
      have HV : Hid (fsB a b cs = true) := Lib.hid (by rw [HFS.out, hm, decide_eq_true hpos])
      have HD := Lib.hid (HCN.out HV.out)
      have HVS := Lib.hid (HSD.out HV.out)
      obtain ⟨s0, hs0⟩ : ∃ s0, ts.getD 0 ByteArray.empty = s0 := ⟨_, rfl⟩
      have HS0 := Lib.hid hs0
      clear hm h0 hs0
      go_enter Try.func39, Try.ntmps39
      go_wp2_with (first | (go_at_call 64; refine (call_PB H0.out (pzGood_any _ _ _ _ _ cs _ HN.out (HA.out.below H0.out.2.2.2.1))).mono ?_; rw [HP.out]; rintro e w1 ⟨rfl, hS1⟩; have H1 := Lib.hid hS1; obtain ⟨p1, q1, s1, _, z1⟩ := hS1) | (go_at_call 74; refine (HALL.out _ (HA.out.below H1.out.2.2.2.1)).mono ?_; rintro e w2 ⟨A9, c9, rfl, hO, hb⟩; rw [HM.out]; obtain ⟨g9, e9, o9⟩ := hO.first (by rw [HM.out]; exact hpos); rw [HS0.out] at o9; subst e9))
      have HCELL : Hid (Cells w2 g9 m (strF ts)) := Lib.hid (by
        obtain ⟨g', e', _, hC'⟩ := hO.2.2.resolve_left (by rw [HM.out]; omega)
        cases e'
        rw [HM.out] at hC'
        exact hC')
      have hB2 : Below w.heap.size w w2 := bel_call H1.out.2.2.2.1 hb
      have HB2 := Lib.hid hB2
      have HSZ : Hid ((ts.getD 0 ByteArray.empty).size = a.toNat) := Lib.hid (HD.out.size 0 (by rw [HM.out]; exact hpos))
      obtain ⟨N, hN⟩ : ∃ N, a.toNat = N := ⟨_, rfl⟩
      rw [hN] at HD HVS HSZ
      have n6 := HD.out.n6
      have hm125 : m ≤ 125 := by have := slL_length a b cs; rw [HE.out, HTS.out, HM.out] at this; exact this
      rw [HS0.out] at HSZ
      have hgl : g9 < w2.heap.size := HCELL.out.lt
      have hsz0 : N ≤ s0.size ∧ s0.size ≤ N := by rw [HSZ.out]; omega
      clear hN hO hb hB2 p1 q1 s1 z1
      go_loopw [5] (fun v wr => ∃ k : Nat, k ≤ N ∧ v = .string (strOfNums (sdL ts m k)) ∧ wr.heap[w2.heap.size]? = some (.stringIter s0 k) ∧ Below w2.heap.size w2 wr) (fun _ wr => N - wr.iterPos w2.heap.size)
      case atStart =>
        refine ⟨0, by omega, by rfl, ?_, ?_⟩
        · have := World.iter_heap w2 s0 0
          simpa using this
        · exact (Below.refl _ w2).alloc (Nat.le_refl _) _
      case round =>
        obtain ⟨k, hk, rfl, hit, hB⟩ := hrel
        obtain ⟨w3, hw3⟩ : ∃ w3, w3 = wr := ⟨wr, rfl⟩
        subst hw3
        have hsz : w2.heap.size < w3.heap.size := (Array.getElem?_eq_some_iff.1 hit).1
        by_cases hp : k < N
        · have hps : k < s0.size := by omega
          have hlo := HD.out.lo 0 k (by rw [HM.out]; exact hpos) hp
          rw [HS0.out, byN_at hps] at hlo
          have ha : (s0[k]).toNat < 128 := by omega
          have hnx : ∀ ty, (Instr.next (.pointer (some ⟨w2.heap.size, 0, none⟩)) true ty).run Try.prog w3 = _ := fun ty => Lib.run_next_ascii_at w3 w2.heap.size s0 k ty hit hps ha
          have hit2 := Lib.iterAt_heap w3 w2.heap.size s0 k (k + 1) hit
          have hB3 := Lib.below_iterAt hB (k := w2.heap.size) (by omega) s0 (k + 1)
          have o9b : (w3.iterAt w2.heap.size s0 (k + 1)).cell? ⟨g9, 0, none⟩ = some (.string s0) := by rw [hB3.cell (p := ⟨g9, 0, none⟩) hgl]; exact o9
          go_wp2_with fail
          have HX0 : Hid (byN (ts.getD 0 ByteArray.empty) k = byN s0 k) := Lib.hid (by rw [HS0.out])
          rw [ext_one hps]
          go_loop [7, 37] (fun g i => ∃ j : Nat, j ≤ m ∧ i = .int .i64 j ∧ g = .string (strOfNums [(byN s0 k : Int)]) ∧ sameB ts j k = true) (fun _ i => m - (intOf i).toNat)
          case atStart => exact ⟨0, by omega, rfl, rfl, rfl⟩
          case round =>
            obtain ⟨j, hj, rfl, rfl, hsame⟩ := hrel
            have HSM := Lib.hid hsame
            clear hsame
            by_cases hjm : j < m
            · have oj : (w3.iterAt w2.heap.size s0 (k + 1)).cell? ⟨g9, j, none⟩ = some (.string (ts.getD j ByteArray.empty)) := by rw [hB3.cell (p := ⟨g9, j, none⟩) hgl]; exact HCELL.out.cell hjm
              have HJS := Lib.hid (HD.out.size j (by rw [HM.out]; exact hjm))
              have HST := Lib.hid (same_succ (i := k) (show j < ts.length by rw [HM.out]; exact hjm))
              obtain ⟨t, ht⟩ : ∃ t, ts.getD j ByteArray.empty = t := ⟨_, rfl⟩
              rw [ht] at oj HJS HST
              have hkt : k < t.size := by rw [HJS.out]; exact hp
              clear ht
              have hxt := ext_one hkt
              rw [HX0.out] at HST
              have hx := byN_lt t k
              have hy := byN_lt s0 k
              obtain ⟨x, hxx⟩ : ∃ x, byN t k = x := ⟨_, rfl⟩
              rw [hxx] at HST hxt hx
              clear hxx
              by_cases he : x = byN s0 k
              · subst he
                have hc := one_same (byN s0 k)
                have HN : Hid (sameB ts (j + 1) k = true) := Lib.hid (by rw [HST.out, HSM.out]; simp)
                go_wp2_with fail
                go_round
                case rel => exact ⟨j + 1, by omega, by go_num, rfl, HN.out⟩
                case measure => simp [intOf]; omega
              · have hc := one_other hx hy he
                have HN : Hid (sameB ts (j + 1) k = false) := Lib.hid (by rw [HST.out, HSM.out]; simp [he])
                have HNN : Hid (sdN ts m k = 63) := Lib.hid (by unfold sdN; rw [same_no hjm HN.out]; rfl)
                have hadd : ∀ W : World, (Op.stringOp .add (strOfNums (sdL ts m k)) ⟨#[63]⟩).run Try.prog W = .ok (.string (strOfNums (sdL ts m k) ++ ⟨#[63]⟩)) W := fun W => run_string_add_sum _ _ _ (by rw [sd_size]; show k + 1 ≤ _; omega)
                go_wp2_with fail
                exact ⟨⟨k + 1, by omega, congrArg Value.string (by rw [sdL_succ, HNN.out, str_snoc]; rfl), hit2, hB3⟩, by rw [hj_pos hit, hj_pos hit2]; omega⟩
            · obtain rfl : j = m := by omega
              have HNN : Hid (sdN ts j k = (byN s0 k : Int)) := Lib.hid (by unfold sdN; rw [HSM.out, if_pos rfl, HX0.out])
              have hadd : ∀ W : World, (Op.stringOp .add (strOfNums (sdL ts j k)) (strOfNums [(byN s0 k : Int)])).run Try.prog W = .ok (.string (strOfNums (sdL ts j k) ++ strOfNums [(byN s0 k : Int)])) W := fun W => run_string_add_sum _ _ _ (by rw [sd_size, strOne_size]; omega)
              go_wp2_with fail
              exact ⟨⟨k + 1, by omega, congrArg Value.string (by rw [sdL_succ, HNN.out, str_snoc]), hit2, hB3⟩, by rw [hj_pos hit, hj_pos hit2]; omega⟩
        · obtain rfl : k = N := by omega
          have hks : k = s0.size := by omega
          have hnx : ∀ ty, (Instr.next (.pointer (some ⟨w2.heap.size, 0, none⟩)) true ty).run Try.prog w3 = _ := fun ty => Lib.run_next_end_at w3 w2.heap.size s0 k ty hit (by omega)
          clear hks
          go_wp2_with fail
          go_ret2
          exact ⟨by rw [HV.out, HVS.out, HM.out]; rfl, bel_call HB2.out hB⟩
  · have HP := Lib.hid (Bool.eq_false_iff.2 hp)
    have HV : Hid (sdS a b cs = ByteArray.empty ∧ fsB a b cs = false) := Lib.hid (by have h : fsB a b cs = false := by { unfold fsB; rw [slL_no HP.out]; rfl }; unfold sdS; rw [h]; exact ⟨rfl, rfl⟩)
    clear hp
    go_enter Try.func39, Try.ntmps39
    go_wp2_with (go_at_call 64; refine (call_PB H0.out (pzGood_any _ _ _ _ _ cs _ HN.out (HA.out.below H0.out.2.2.2.1))).mono ?_; rw [HP.out]; rintro e w1 ⟨rfl, hS1⟩; have H1 := Lib.hid hS1; obtain ⟨p1, q1, s1, _, z1⟩ := hS1)
    go_ret2
    exact ⟨by rw [HV.out.1, HV.out.2]; rfl, H1.out.2.2.2.1⟩

/-- The bytes of a text in a block of the call's own. -/
theorem conv_bytes (s : ByteArray) (w : World) : ∃ c W', (convert 9 84 (.string s)).run Try.prog w = .ok (.slice (some ⟨w.heap.size, 0, none⟩) s.size c) W' ∧ Cells W' w.heap.size s.size (fun j => .int .u8 (byN s j : Int)) ∧ Below w.heap.size w W' := by
  refine ⟨_, _, run_bytes_of_string w 9 84 5 s Try.underlying9 Try.underlying84 Try.underlying5, ?_, ?_⟩
  · generalize grownCap w s.size 0 5 = q
    have hsz : s.size ≤ (bytesRow s q).size := by unfold bytesRow; simp
    have hnew : (w.drew.alloc (.cells (bytesRow s q) 5 ((bytesRow s q).size, (bytesRow s q).size + 1))).heap[w.heap.size]? = some (.cells (bytesRow s q) 5 ((bytesRow s q).size, (bytesRow s q).size + 1)) := by
      show (w.heap.push _)[w.heap.size]? = _
      simp
    refine ⟨by show w.heap.size < (w.heap.push _).size; simp, fun j hj => ⟨?_, ?_⟩⟩
    · have h1 : j < s.data.size := hj
      unfold World.cell?
      rw [hnew]
      have hb := byN_at (t := s) hj
      simp only [bytesRow, Array.getElem?_append, Array.size_map, h1, if_true, Array.getElem?_map, Array.getElem?_eq_getElem h1, Option.map_some, hb]
      rfl
    · unfold World.frozen?
      rw [hnew]
      have : ¬ (bytesRow s q).size ≤ j := by omega
      simp [this]
  · exact (bel_drew (Below.refl _ w)).alloc (Nat.le_refl _) _

theorem sd_step {ts : List ByteArray} {N k i : Nat} (hD : CodesN ts N) (hk : k < ts.length) (hi : i < N) : sdN ts (k + 1) i = if sdN ts k i = (byN (ts.getD k ByteArray.empty) i : Int) then sdN ts k i else 63 := by
  have h := same_succ (i := i) hk
  have hb := hD.lo k i hk hi
  unfold sdN
  rw [h]
  cases hs : sameB ts k i
  · simp only [Bool.false_and, Bool.false_eq_true, if_false]
    split <;> rfl
  · rw [Bool.true_and, if_pos rfl]
    by_cases he : byN (ts.getD k ByteArray.empty) i = byN (ts.getD 0 ByteArray.empty) i
    · rw [he, beq_self_eq_true, if_pos rfl, if_pos rfl]
    · rw [beq_eq_false_iff_ne.2 he, if_neg (by decide), if_neg (fun e => he (by omega))]

theorem sd_bd {ts : List ByteArray} {N k i : Nat} (hD : CodesN ts N) (h0 : 0 < ts.length) (hi : i < N) : 0 ≤ sdN ts k i ∧ sdN ts k i ≤ 255 := by
  have hb := hD.lo 0 i h0 hi
  unfold sdN
  split <;> omega

theorem sd_zero (ts : List ByteArray) (i : Nat) : sdN ts 0 i = (byN (ts.getD 0 ByteArray.empty) i : Int) := rfl

theorem sd_at {ts : List ByteArray} {m N i : Nat} (hi : i < N) : (sdL ts m N)[i]? = some (sdN ts m i) := by
  unfold sdL
  simp [hi]

set_option maxRecDepth 100000 in
set_option maxHeartbeats 4000000 in
theorem sureDigits_any (a b : Int) (A : Option Addr) (n c : Nat) (cs : List Clu) (w : World) (hn : n ≤ maxLen) (hA : ArgC w A n cs) :
    Calls Try.prog 40 #[.agg #[.int .i64 a, .int .i64 b, .slice A n c]] w fun e w' => e = .returned (.tuple #[.string (sdS a b cs), .bool (fsB a b cs)]) ∧ Below w.heap.size w w' := by
  have H0 : Hid (PB w a b (.slice A n c) (w.alloc (.cells #[.int .i64 a, .int .i64 b, .slice A n c] 39))) := Lib.hid (PB_new ..)
  have HN := Lib.hid hn
  have HA := Lib.hid hA
  clear hn hA
  have HSOL := Lib.hid (fun W (hW : ArgC W A n cs) => solutions_any a b A n c cs W HN.out hW)
  have hFS : fsB a b cs = decide (0 < (slL a b cs).length) := rfl
  have hSD : fsB a b cs = true → sdS a b cs = strOfNums (sdL (slL a b cs) (slL a b cs).length a.toNat) := fun h => by unfold sdS; rw [h]; rfl
  have hCN : fsB a b cs = true → CodesN (slL a b cs) a.toNat := sl_codes
  have h125 := slL_length a b cs
  obtain ⟨ts, hts⟩ : ∃ ts, slL a b cs = ts := ⟨_, rfl⟩
  rw [hts] at HSOL hFS hSD hCN h125
  have HFS := Lib.hid hFS
  have HSD := Lib.hid hSD
  have HCN := Lib.hid hCN
  clear hts hFS hSD hCN
  obtain ⟨m, hm⟩ : ∃ m, ts.length = m := ⟨_, rfl⟩
  have HM := Lib.hid hm
  rw [hm] at h125
  by_cases h0 : m = 0
  · have HV : Hid (fsB a b cs = false) := Lib.hid (by rw [HFS.out, hm, h0]; rfl)
    have HV0 : Hid (sdS a b cs = ByteArray.empty) := Lib.hid (by unfold sdS; rw [HV.out]; rfl)
    clear hm
    go_enter Try.func40, Try.ntmps40
    go_wp2_with (go_at_call 30; refine (HSOL.out _ (HA.out.below H0.out.2.2.2.1)).mono ?_; rintro e w1 ⟨A9, c9, rfl, hO, hb⟩; rw [HM.out, h0])
    go_ret2
    exact ⟨by rw [HV.out, HV0.out]; rfl, bel_call H0.out.2.2.2.1 hb⟩
  · have hpos : 0 < m := by omega
    have hm0 : ((m : Int) == 0) = false := by simp; omega
    have HV : Hid (fsB a b cs = true) := Lib.hid (by rw [HFS.out, hm, decide_eq_true hpos])
    have HD := Lib.hid (HCN.out HV.out)
    have HVS := Lib.hid (HSD.out HV.out)
    have HSZ : Hid ((ts.getD 0 ByteArray.empty).size = a.toNat) := Lib.hid (HD.out.size 0 (by rw [HM.out]; exact hpos))
    obtain ⟨s0, hs0⟩ : ∃ s0, ts.getD 0 ByteArray.empty = s0 := ⟨_, rfl⟩
    have HS0 := Lib.hid hs0
    obtain ⟨N, hN⟩ : ∃ N, a.toNat = N := ⟨_, rfl⟩
    rw [hs0] at HSZ
    rw [hN] at HD HVS HSZ
    have n6 := HD.out.n6
    clear hm h0 hs0 hN
    go_enter Try.func40, Try.ntmps40
    go_wp2_with (go_at_call 30; refine (HSOL.out _ (HA.out.below H0.out.2.2.2.1)).mono ?_; rintro e w1 ⟨A9, c9, rfl, hO, hb⟩; rw [HM.out]; obtain ⟨g9, e9, o9⟩ := hO.first (by rw [HM.out]; exact hpos); rw [HS0.out] at o9; subst e9; obtain ⟨cq, W', hcv, hCC, hBB⟩ := conv_bytes s0 w1)
    have HCC : Hid (Cells W' w1.heap.size N (fun j => .int .u8 (sdN ts 0 j))) := Lib.hid (by
      rw [HSZ.out] at hCC
      exact hCC.congr fun j _ => by rw [sd_zero, HS0.out])
    have HCELL : Hid (Cells w1 g9 m (strF ts)) := Lib.hid (by
      obtain ⟨g', e', _, hC'⟩ := hO.2.2.resolve_left (by rw [HM.out]; omega)
      cases e'
      rw [HM.out] at hC'
      exact hC')
    have HB2 := Lib.hid (bel_call H0.out.2.2.2.1 hb)
    have hgl : g9 < w1.heap.size := HCELL.out.lt
    have HBB := Lib.hid hBB
    have hsz0 : s0.size = N := HSZ.out
    subst hsz0
    clear hO hb hcv hCC hBB o9
    go_loopw [24] (fun i wr => ∃ k : Nat, k ≤ m ∧ i = .int .i64 k ∧ Cells wr w1.heap.size s0.size (fun j => .int .u8 (sdN ts k j)) ∧ Below w1.heap.size w1 wr) (fun i _ => m - (intOf i).toNat)
    case atStart => exact ⟨0, by omega, rfl, HCC.out, HBB.out⟩
    case round =>
      obtain ⟨k, hk, rfl, hC, hB⟩ := hrel
      have HC := Lib.hid hC
      clear hC
      by_cases hlt : k < m
      · obtain ⟨w3, hw3⟩ : ∃ w3, w3 = wr := ⟨wr, rfl⟩
        subst hw3
        have oj : w3.cell? ⟨g9, k, none⟩ = some (.string (ts.getD k ByteArray.empty)) := by rw [hB.cell (p := ⟨g9, k, none⟩) hgl]; exact HCELL.out.cell hlt
        have HJS := Lib.hid (HD.out.size k (by rw [HM.out]; exact hlt))
        have HST := Lib.hid (fun i hi => sd_step (i := i) HD.out (show k < ts.length by rw [HM.out]; exact hlt) hi)
        obtain ⟨t, ht⟩ : ∃ t, ts.getD k ByteArray.empty = t := ⟨_, rfl⟩
        rw [ht] at oj HJS HST
        clear ht
        go_wp2_with fail
        go_loopw [30] (fun i wr => ∃ j : Nat, j ≤ s0.size ∧ i = .int .i64 j ∧ Cells wr w1.heap.size s0.size (fun x => if x < j then .int .u8 (sdN ts (k + 1) x) else .int .u8 (sdN ts k x)) ∧ Below w1.heap.size w1 wr) (fun i _ => s0.size - (intOf i).toNat)
        case atStart => exact ⟨0, by omega, rfl, HC.out.congr (fun j _ => by simp), hB⟩
        case round =>
          obtain ⟨j, hj, rfl, hCj, hBj⟩ := hrel
          have HCj := Lib.hid hCj
          clear hCj
          by_cases hjn : j < s0.size
          · have hkt : j < t.size := by rw [HJS.out]; exact hjn
            have p0 : wr.cell? ⟨w1.heap.size, j, none⟩ = some (.int .u8 (sdN ts k j)) := by rw [HCj.out.cell hjn, if_neg (by omega)]
            have pf := HCj.out.frozen hjn
            have hbd := sd_bd (k := k) HD.out (by rw [HM.out]; exact hpos) hjn
            obtain ⟨hbd0, hbd1⟩ := hbd
            have HSJ := Lib.hid (HST.out j hjn)
            have hx := byN_at hkt
            rw [hx] at HSJ
            clear hx
            obtain ⟨v, hv⟩ : ∃ v, sdN ts k j = v := ⟨_, rfl⟩
            have HVV := Lib.hid hv
            rw [hv] at p0 hbd0 hbd1 HSJ
            clear hv
            by_cases he : v = (t[j].toNat : Int)
            · have HN : Hid (sdN ts (k + 1) j = v) := Lib.hid (by rw [HSJ.out, if_pos he])
              have hbe : (v == (t[j].toNat : Int)) = true := by simp [he]
              have HCN2 : Hid (Cells wr w1.heap.size s0.size (fun x => if x < j + 1 then .int .u8 (sdN ts (k + 1) x) else .int .u8 (sdN ts k x))) := Lib.hid (HCj.out.congr fun x _ => by
                by_cases e1 : x = j
                · subst e1; rw [if_neg (by omega), if_pos (by omega), HN.out, HVV.out]
                · by_cases e2 : x < j
                  · rw [if_pos e2, if_pos (by omega)]
                  · rw [if_neg e2, if_neg (by omega)])
              clear he
              go_wp2_with fail
              go_quiet (fail)
              go_wp2_with fail
              go_roundw
              case rel => exact ⟨j + 1, by omega, by go_num, HCN2.out.call (bel_drewN (Below.refl _ _) _), bel_drewN hBj _⟩
              case measure => simp [intOf]; omega
            · have HN : Hid (sdN ts (k + 1) j = 63) := Lib.hid (by rw [HSJ.out, if_neg he])
              have hbe : (v == (t[j].toNat : Int)) = false := by simpa using he
              have HCN2 := Lib.hid (fun q => ((HCj.out.call (bel_drewN (Below.refl _ _) q)).set_ hjn (.int .u8 63)).congr (f' := fun x => if x < j + 1 then .int .u8 (sdN ts (k + 1) x) else .int .u8 (sdN ts k x)) (fun x _ => by
                by_cases e1 : x = j
                · subst e1; rw [if_pos rfl, if_pos (by omega), HN.out]
                · rw [if_neg e1]
                  by_cases e2 : x < j
                  · rw [if_pos e2, if_pos (by omega)]
                  · rw [if_neg e2, if_neg (by omega)]))
              clear he
              go_wp2_with fail
              go_quiet (fail)
              go_wp2_with fail
              go_roundw
              case rel => exact ⟨j + 1, by omega, by go_num, HCN2.out _, (bel_drewN hBj _).setCell (Nat.le_refl _) _⟩
              case measure => simp [intOf]; omega
          · obtain rfl : j = s0.size := by omega
            have HCE := Lib.hid (HCj.out.congr (f' := fun x => .int .u8 (sdN ts (k + 1) x)) (fun x hx => by rw [if_pos hx]))
            go_wp2_with fail
            go_roundw
            case rel => exact ⟨k + 1, by omega, by go_num, HCE.out, hBj⟩
            case measure => simp [intOf]; omega
      · obtain rfl : k = m := by omega
        have hcv : ∀ c', (convert 84 9 (.slice (some ⟨w1.heap.size, 0, none⟩) s0.size c')).run Try.prog wr = .ok (.string (strOfNums (sdL ts k s0.size))) wr := fun c' =>
          run_convert_bytes_arg _ _ _ Try.underlying84 Try.underlying5 _ 0 _ _ (sdL ts k s0.size) (by unfold sdL; simp) (fun i hi => by
            rw [Nat.zero_add, HC.out.cell hi, List.getD, sd_at hi]
            rfl) _ Try.underlying9
        go_wp2_with fail
        go_ret2
        exact ⟨by rw [HV.out, HVS.out, HM.out]; rfl, bel_call HB2.out hB⟩

end Go.Proofs.Ytkfddobdffgmiaa

/- The codes that fit clues, as both programs find them. For puzzles. -/
import Derived.Test.YtgopaflggbgplaaUj
namespace Go.Proofs.Ytgopaflggbgplaa
open Go.ChangeShapes Go.WideShapes Go.ChangeAt Go.RowKit Go.Joins

/-- One code more. -/
theorem sol_yes {a b : Int} {cs : List Clu} {k : Nat} (h : fitsC a b cs (cdN a b k) = true) : sv (solN a b cs (k + 1)) = sv (solN a b cs k) ++ [.string (cdN a b k)] ∧ (solN a b cs (k + 1)).length = (solN a b cs k).length + 1 := by
  rw [solN_yes h, sv_snoc, List.length_append]
  exact ⟨rfl, rfl⟩

theorem fits_end {a b : Int} {cs : List Clu} {s : ByteArray} {n : Nat} (hl : cs.length = n) : (cs.take n).all (fitC a b s) = fitsC a b cs s := by
  unfold fitsC
  rw [List.take_of_length_le (by omega)]

theorem take_step {cs : List Clu} {k : Nat} {p : Clu → Bool} (h : k < cs.length) : (cs.take (k + 1)).all p = ((cs.take k).all p && p (cs.getD k cu0)) := by
  rw [List.take_succ_eq_append_getElem h, List.all_append]
  simp [List.getD, List.getElem?_eq_getElem h]

theorem hiAll_m (a b : Int) (w : World) (hp : puzB a b = true) :
    Calls Try.prog 67 #[.agg #[.int .i64 a, .int .i64 b]] w fun e w' => ∃ A c, e = .returned (.slice A (cnN a b) c) ∧ OwnS w' w.heap.size A (cnN a b) (allN a b (cnN a b)) ∧ Below w.heap.size w w' :=
  (hiAll_any a b w hp).mono fun e w' ⟨A, c, he, hO, hb⟩ => by
    rw [allN_length] at he hO
    exact ⟨A, c, he, hO, hb⟩

set_option maxRecDepth 100000 in
set_option maxHeartbeats 4000000 in
theorem pzAll_any (a b : Int) (A : Option Addr) (n c : Nat) (cs : List Clu) (w : World) (hn : n ≤ 6) (hA : ArgC w A n cs) (hp : puzB a b = true) (h : cs.all (cluB a b) = true) :
    Calls Try.prog 48 #[.agg #[.int .i64 a, .int .i64 b], .slice A n c] w (StrsOut w (solL a b cs)) := by
  have HL := Lib.hid hA.len
  have HA := Lib.hid hA
  have HP := Lib.hid hp
  have HC := Lib.hid h
  have HG := Lib.hid (puzB_yes hp).1
  have hc := puzB_cn hp
  have HSOL : Hid (solL a b cs = solN a b cs (cnN a b)) := Lib.hid rfl
  obtain ⟨m, hm⟩ : ∃ m, cnN a b = m := ⟨_, rfl⟩
  have HALL := Lib.hid (fun W => hiAll_m a b W hp)
  rw [hm] at hc HSOL HALL
  have hm125 := hc.2
  obtain ⟨i0, hi, hz0, hz1, hz2⟩ := info_parts info_string
  clear hp hc hm hA h
  go_enter Try.func48, Try.ntmps48
  go_wp2_with (go_at_call 67; refine (HALL.out _).mono ?_; rintro e w1 ⟨A1, c1, rfl, hO, hb⟩)
  have hB0 : Below w.heap.size w w1 := by (repeat (first | assumption | exact Below.refl _ _ | (refine Below.alloc ?_ (by first | omega | (simp; done) | (simp; omega)) _) | (refine Below.setCell ?_ (by first | omega | (simp; done) | (simp; omega)) _) | refine bel_drewN ?_ _ | refine bel_drew ?_ | (refine bel_call ?_ (by assumption))))
  have d0 : w1.cell? ⟨w.heap.size, 0, none⟩ = some (.int .i64 a) := by rw [hb.cell (p := ⟨w.heap.size, 0, none⟩) (by simp)]; simp
  have d1 : w1.cell? ⟨w.heap.size, 1, none⟩ = some (.int .i64 b) := by rw [hb.cell (p := ⟨w.heap.size, 1, none⟩) (by simp)]; simp
  have dz : w.heap.size < w1.heap.size := by have := hb.size; simp at this; omega
  have HO := Lib.hid hO
  have HB0 := Lib.hid hB0
  clear hb hO HALL hB0
  go_loopw [5, 14] (fun v i wr => ∃ k : Nat, k ≤ m ∧ i = .int .i64 k ∧ wr.ownsRow w1.heap.size 9 1 v (solN a b cs k).length (sv (solN a b cs k)) ∧ Below w1.heap.size w1 wr) (fun _ i _ => m - (intOf i).toNat)
  case atStart => exact ⟨0, by omega, rfl, World.ownsRow_nil _ _ _ _, Below.refl _ _⟩
  case round =>
    obtain ⟨k, hk, rfl, hown, hB⟩ := hrel
    have HOW := Lib.hid hown
    clear hown
    obtain ⟨w2, hw2⟩ : ∃ w2, w2 = wr := ⟨wr, rfl⟩
    subst hw2
    by_cases hlt : k < m
    · obtain ⟨g, e, hg, hCg⟩ := HO.out.2.2.resolve_left (by omega)
      subst e
      have o1 : w2.cell? ⟨g, k, none⟩ = some (.string (cdN a b k)) := by rw [hB.cell (p := ⟨g, k, none⟩) hCg.lt, hCg.cell hlt]; unfold strF; rw [allN_at hlt]
      have HK := Lib.hid (cd_ask (i := k) HG.out)
      have HSY : Hid (fitsC a b cs (cdN a b k) = true → sv (solN a b cs (k + 1)) = sv (solN a b cs k) ++ [.string (cdN a b k)] ∧ (solN a b cs (k + 1)).length = (solN a b cs k).length + 1) := Lib.hid sol_yes
      have HSN : Hid (fitsC a b cs (cdN a b k) = false → solN a b cs (k + 1) = solN a b cs k) := Lib.hid solN_no
      have hsl := solN_length a b cs k
      obtain ⟨t, ht⟩ : ∃ t, cdN a b k = t := ⟨_, rfl⟩
      rw [ht] at o1 HK HSY HSN
      clear hCg hg ht
      go_wp2_with fail
      go_loopw [8, 20] (fun f i wr => ∃ j : Nat, j ≤ n ∧ i = .int .i64 j ∧ f = .bool ((cs.take j).all (fitC a b t)) ∧ Below w2.heap.size w2 wr) (fun _ i _ => n - (intOf i).toNat)
      case atStart => exact ⟨0, by omega, rfl, rfl, Below.refl _ _⟩
      case round =>
        obtain ⟨j, hj, rfl, rfl, hBj⟩ := hrel
        have HW := Lib.hid (bel_call (bel_call HB0.out hB) hBj)
        have q0 : wr.cell? ⟨w.heap.size, 0, none⟩ = some (.int .i64 a) := by rw [hBj.cell (p := ⟨w.heap.size, 0, none⟩) (by have := hB.size; show w.heap.size < w2.heap.size; omega), hB.cell (p := ⟨w.heap.size, 0, none⟩) dz]; exact d0
        have q1 : wr.cell? ⟨w.heap.size, 1, none⟩ = some (.int .i64 b) := by rw [hBj.cell (p := ⟨w.heap.size, 1, none⟩) (by have := hB.size; show w.heap.size < w2.heap.size; omega), hB.cell (p := ⟨w.heap.size, 1, none⟩) dz]; exact d1
        have qz : w.heap.size < wr.heap.size := by have := hB.size; have := hBj.size; omega
        by_cases hjn : j < n
        · obtain ⟨bk, off, e, o0, o2, o3⟩ := HA.out.at HW.out hjn
          subst e
          have HCK : Hid (cluB a b (cs.getD j cu0) = true) := Lib.hid (all_at HC.out (by rw [HL.out]; exact hjn))
          have HST : Hid ((cs.take (j + 1)).all (fitC a b t) = ((cs.take j).all (fitC a b t) && fitC a b t (cs.getD j cu0))) := Lib.hid (take_step (by rw [HL.out]; exact hjn))
          obtain ⟨q, hq⟩ : ∃ q, q = cs.getD j cu0 := ⟨_, rfl⟩
          rw [← hq] at o0 o2 o3 HCK HST
          clear hq
          obtain ⟨x, y, z⟩ := q
          dsimp only at o0 o2 o3
          obtain ⟨f, hf⟩ : ∃ f, (cs.take j).all (fitC a b t) = f := ⟨_, rfl⟩
          rw [hf] at HST ⊢
          clear hf
          cases f
          · have HN : Hid (false = (cs.take (j + 1)).all (fitC a b t)) := Lib.hid (by rw [HST.out]; rfl)
            go_wp2_with fail
            have HB9 : Hid (Below w2.heap.size w2 (wr.alloc (.cells #[.int .i64 x, .int .i64 y, .int .i64 z] 37))) := Lib.hid (hBj.alloc hBj.size _)
            go_roundw
            case rel => exact ⟨j + 1, by omega, by go_num, congrArg Value.bool HN.out, HB9.out⟩
            case measure => simp [intOf]; omega
          · obtain ⟨r, hr⟩ : ∃ r, fitC a b t (x, y, z) = r := ⟨_, rfl⟩
            have HN : Hid (r = (cs.take (j + 1)).all (fitC a b t)) := Lib.hid (by rw [HST.out, hr]; rfl)
            have HR := Lib.hid hr
            clear hr
            go_wp2_with (go_at_call 68; refine (pzFits_any _ _ _ _ _ _ _ HP.out HK.out HCK.out).mono ?_; rw [HR.out]; rintro e w5 ⟨rfl, hb5⟩)
            have HB9 : Hid (Below w2.heap.size w2 w5) := Lib.hid (bel_call (hBj.alloc hBj.size _) hb5)
            clear hb5
            go_roundw
            case rel => exact ⟨j + 1, by omega, by go_num, congrArg Value.bool HN.out, HB9.out⟩
            case measure => simp [intOf]; omega
        · obtain rfl : j = n := by omega
          rw [fits_end HL.out]
          obtain ⟨f, hf⟩ : ∃ f, fitsC a b cs t = f := ⟨_, rfl⟩
          rw [hf] at HSY HSN ⊢
          clear hf
          have HO2 := Lib.hid (own_keeps HOW.out hBj)
          have s2 : w1.heap.size ≤ wr.heap.size := by have := hB.size; have := hBj.size; omega
          have HB2 := Lib.hid (bel_call hB hBj)
          cases f
          · have HE := Lib.hid (HSN.out rfl)
            clear HSY HSN
            go_wp2_with fail
            go_roundw
            case rel => exact ⟨k + 1, by omega, by go_num, by rw [HE.out]; exact HO2.out, HB2.out⟩
            case measure => simp [intOf]; omega
          · obtain ⟨he1, he2⟩ := HSY.out rfl
            have HE1 := Lib.hid he1
            have HE2 := Lib.hid he2
            clear HSY HSN he1 he2
            obtain ⟨L, hL⟩ : ∃ L, (solN a b cs k).length = L := ⟨_, rfl⟩
            rw [hL] at HO2 HE2 hsl
            clear hL
            go_wp2_with (at_builtin; refine wpList_append_own _ rfl _ _ 60 rfl w1.heap.size 9 i0 (.string ByteArray.empty) 1 16 Try.underlying60 hi hz0 hz1 hz2 rfl (by decide) _ _ _ rfl (HO2.out.alloc _) ⟨wr.heap.size, 0, none⟩ 1 1 [.string t] rfl rfl (news_of rfl) (by simp [Value.oneCell']) (by unfold maxLen; omega) (by omega) (by simp; omega) ?_; intro v' w3 hown' hgrow hiff; clear hiff)
            have HN := Lib.hid hown'
            have HB3 : Hid (Below w1.heap.size w1 w3) := Lib.hid ((HB2.out.alloc s2 _).grown hgrow (by simp; omega) (fun j hj => (HO2.out.lt j hj).1))
            clear hgrow hown'
            go_roundw
            case rel => exact ⟨k + 1, by omega, by go_num, by rw [HE2.out, HE1.out]; exact HN.out, HB3.out⟩
            case measure => simp [intOf]; omega
    · obtain rfl : k = m := by omega
      have hsl := solN_length a b cs k
      obtain ⟨A9, c9, rfl, hO9⟩ := own_strs HOW.out (by omega)
      have HOO := Lib.hid hO9
      clear hO9
      go_wp2_with fail
      go_ret
      refine ⟨A9, c9, by rw [HSOL.out]; rfl, ?_, bel_call HB0.out hB⟩
      rw [HSOL.out]
      exact ⟨HOO.out.1, HOO.out.2.1, HOO.out.2.2.imp id fun ⟨g, e, hg, hC⟩ => ⟨g, e, by omega, hC⟩⟩

/-- A code by its number, as the program asks for it. -/
theorem ofNumber_cd (a b : Int) (k : Nat) (w : World) (hg : goodB a b = true) (hk : k < cnN a b) :
    Calls Try.prog 52 #[.agg #[.int .i64 a, .int .i64 b], .int .i64 (k : Int)] w fun e w' => e = .returned (.tuple #[.string (cdN a b k), .bool true]) ∧ Below w.heap.size w w' := by
  have h := ofNumber_any a b k w
  rw [(ofZ_cd hg hk).1, (ofZ_cd hg hk).2] at h
  exact h

set_option maxRecDepth 100000 in
set_option maxHeartbeats 4000000 in
theorem codesWith_any (a b : Int) (A : Option Addr) (n c : Nat) (cs : List Clu) (w : World) (hn : n ≤ 6) (hA : ArgC w A n cs) (hp : puzB a b = true) (h : cs.all (cluB a b) = true) :
    Calls Try.prog 34 #[.agg #[.int .i64 a, .int .i64 b], .slice A n c] w (StrsOut w (solL a b cs)) := by
  have hmf : ∀ (fn : Fn) (first cap : Array Value) (w : World), (Instr.makeFunc fn first cap).run Try.prog w = .ok (.func fn first cap) w := fun _ _ _ _ => rfl
  have HL := Lib.hid hA.len
  have HA := Lib.hid hA
  have HP := Lib.hid hp
  have HC := Lib.hid h
  have HG := Lib.hid (puzB_yes hp).1
  have hc := puzB_cn hp
  have HSOL : Hid (solL a b cs = solN a b cs (cnN a b)) := Lib.hid rfl
  have HCD := Lib.hid (fun k W hk => ofNumber_cd a b k W HG.out hk)
  obtain ⟨m, hm⟩ : ∃ m, cnN a b = m := ⟨_, rfl⟩
  rw [hm] at hc HSOL HCD
  have hm125 := hc.2
  have HQ : Hid (countZ a b = (m : Int)) := Lib.hid hc.1.symm
  obtain ⟨i0, hi, hz0, hz1, hz2⟩ := info_parts info_string
  clear hp hc hm hA h
  go_enter Try.func34, Try.ntmps34
  go_wp2_with (go_at_call 51; refine (count_any _ _ _).mono ?_; rw [HG.out, HQ.out]; rintro e w1 ⟨rfl, hb⟩)
  have hB0 : Below w.heap.size w w1 := by (repeat (first | assumption | exact Below.refl _ _ | (refine Below.alloc ?_ (by first | omega | (simp; done) | (simp; omega)) _) | (refine Below.setCell ?_ (by first | omega | (simp; done) | (simp; omega)) _) | refine bel_drewN ?_ _ | refine bel_drew ?_ | (refine bel_call ?_ (by assumption))))
  have d0 : w1.cell? ⟨w.heap.size, 0, none⟩ = some (.int .i64 a) := by rw [hb.cell (p := ⟨w.heap.size, 0, none⟩) (by simp)]; simp
  have d1 : w1.cell? ⟨w.heap.size, 1, none⟩ = some (.int .i64 b) := by rw [hb.cell (p := ⟨w.heap.size, 1, none⟩) (by simp)]; simp
  have dz : w.heap.size < w1.heap.size := by have := hb.size; simp at this; omega
  have HB0 := Lib.hid hB0
  clear hb hB0
  go_loopw [7, 17] (fun v i wr => ∃ k : Nat, k ≤ m ∧ i = .int .i64 k ∧ wr.ownsRow w1.heap.size 9 1 v (solN a b cs k).length (sv (solN a b cs k)) ∧ Below w1.heap.size w1 wr) (fun _ i _ => m - (intOf i).toNat)
  case atStart => exact ⟨0, by omega, rfl, World.ownsRow_nil _ _ _ _, Below.refl _ _⟩
  case round =>
    obtain ⟨k, hk, rfl, hown, hB⟩ := hrel
    have HOW := Lib.hid hown
    clear hown
    have l0 : wr.cell? ⟨w.heap.size, 0, none⟩ = some (.int .i64 a) := by rw [hB.cell (p := ⟨w.heap.size, 0, none⟩) dz]; exact d0
    have l1 : wr.cell? ⟨w.heap.size, 1, none⟩ = some (.int .i64 b) := by rw [hB.cell (p := ⟨w.heap.size, 1, none⟩) dz]; exact d1
    have lz : w.heap.size < wr.heap.size := by have := hB.size; omega
    by_cases hlt : k < m
    · have hki : (k : Int) < (m : Int) := by omega
      have HK := Lib.hid (cd_ask (i := k) HG.out)
      have HCK := Lib.hid (fun W => HCD.out k W hlt)
      have HSY : Hid (fitsC a b cs (cdN a b k) = true → sv (solN a b cs (k + 1)) = sv (solN a b cs k) ++ [.string (cdN a b k)] ∧ (solN a b cs (k + 1)).length = (solN a b cs k).length + 1) := Lib.hid sol_yes
      have HSN : Hid (fitsC a b cs (cdN a b k) = false → solN a b cs (k + 1) = solN a b cs k) := Lib.hid solN_no
      have hsl := solN_length a b cs k
      obtain ⟨t, ht⟩ : ∃ t, cdN a b k = t := ⟨_, rfl⟩
      rw [ht] at HK HSY HSN HCK
      clear ht
      obtain ⟨f, hf⟩ : ∃ f, fitsC a b cs t = f := ⟨_, rfl⟩
      have HF := Lib.hid hf
      rw [hf] at HSY HSN
      clear hf
      cases f
      · have HE := Lib.hid (HSN.out rfl)
        clear HSY HSN
        go_wp2_with (first | (go_at_call 52; refine (HCK.out _).mono ?_; rintro e w3 ⟨rfl, hb3⟩; have HB3 := Lib.hid (bel_call hB hb3); have HO3 := Lib.hid (own_keeps HOW.out hb3); have HX3 : Hid (Boxes (w3.alloc (.cells #[.string t] 9)) w.heap.size w3.heap.size a b t) := Lib.hid ⟨by { rw [World.cell?_alloc_lt _ _ _ (by have := hb3.size; show w.heap.size < w3.heap.size; omega), hb3.cell (p := ⟨w.heap.size, 0, none⟩) lz]; exact l0 }, by { rw [World.cell?_alloc_lt _ _ _ (by have := hb3.size; show w.heap.size < w3.heap.size; omega), hb3.cell (p := ⟨w.heap.size, 1, none⟩) lz]; exact l1 }, by simp, by { have := hb3.size; simp; omega }⟩; clear hb3) | (go_at_call 53; refine (containsFunc_any _ _ _ cs _ _ _ _ t _ hn (HA.out.below (bel_call HB0.out (HB3.out.alloc HB3.out.size _))) HP.out HK.out HC.out HX3.out).mono ?_; rw [HF.out]; rintro e w4 ⟨rfl, hb4⟩; have HB4 := Lib.hid (bel_call (HB3.out.alloc HB3.out.size _) hb4); have HO4 := Lib.hid (own_keeps (HO3.out.alloc _) hb4); have t0 : w4.cell? ⟨w3.heap.size, 0, none⟩ = some (.string t) := by { rw [hb4.cell (p := ⟨w3.heap.size, 0, none⟩) (by simp)]; simp }; have s4 : w1.heap.size ≤ w4.heap.size := HB4.out.size; clear hb4))
        go_roundw
        case rel => exact ⟨k + 1, by omega, by go_num, by rw [HE.out]; exact HO4.out, HB4.out⟩
        case measure => simp [intOf]; omega
      · obtain ⟨he1, he2⟩ := HSY.out rfl
        have HE1 := Lib.hid he1
        have HE2 := Lib.hid he2
        clear HSY HSN he1 he2
        obtain ⟨L, hL⟩ : ∃ L, (solN a b cs k).length = L := ⟨_, rfl⟩
        rw [hL] at HOW HE2 hsl
        clear hL
        go_wp2_with (first | (go_at_call 52; refine (HCK.out _).mono ?_; rintro e w3 ⟨rfl, hb3⟩; have HB3 := Lib.hid (bel_call hB hb3); have HO3 := Lib.hid (own_keeps HOW.out hb3); have HX3 : Hid (Boxes (w3.alloc (.cells #[.string t] 9)) w.heap.size w3.heap.size a b t) := Lib.hid ⟨by { rw [World.cell?_alloc_lt _ _ _ (by have := hb3.size; show w.heap.size < w3.heap.size; omega), hb3.cell (p := ⟨w.heap.size, 0, none⟩) lz]; exact l0 }, by { rw [World.cell?_alloc_lt _ _ _ (by have := hb3.size; show w.heap.size < w3.heap.size; omega), hb3.cell (p := ⟨w.heap.size, 1, none⟩) lz]; exact l1 }, by simp, by { have := hb3.size; simp; omega }⟩; clear hb3) | (go_at_call 53; refine (containsFunc_any _ _ _ cs _ _ _ _ t _ hn (HA.out.below (bel_call HB0.out (HB3.out.alloc HB3.out.size _))) HP.out HK.out HC.out HX3.out).mono ?_; rw [HF.out]; rintro e w4 ⟨rfl, hb4⟩; have HB4 := Lib.hid (bel_call (HB3.out.alloc HB3.out.size _) hb4); have HO4 := Lib.hid (own_keeps (HO3.out.alloc _) hb4); have t0 : w4.cell? ⟨w3.heap.size, 0, none⟩ = some (.string t) := by { rw [hb4.cell (p := ⟨w3.heap.size, 0, none⟩) (by simp)]; simp }; have s4 : w1.heap.size ≤ w4.heap.size := HB4.out.size; clear hb4) | (at_builtin; refine wpList_append_own _ rfl _ _ 60 rfl w1.heap.size 9 i0 (.string ByteArray.empty) 1 16 Try.underlying60 hi hz0 hz1 hz2 rfl (by decide) _ _ _ rfl (HO4.out.alloc _) ⟨w4.heap.size, 0, none⟩ 1 1 [.string t] rfl rfl (news_of rfl) (by simp [Value.oneCell']) (by unfold maxLen; omega) (by omega) (by simp; omega) ?_; intro v' w5 hown' hgrow hiff; clear hiff))
        have HN := Lib.hid hown'
        have HB5 : Hid (Below w1.heap.size w1 w5) := Lib.hid ((HB4.out.alloc s4 _).grown hgrow (by simp; omega) (fun j hj => (HO4.out.lt j hj).1))
        clear hgrow hown'
        go_roundw
        case rel => exact ⟨k + 1, by omega, by go_num, by rw [HE2.out, HE1.out]; exact HN.out, HB5.out⟩
        case measure => simp [intOf]; omega
    · obtain rfl : k = m := by omega
      have hsl := solN_length a b cs k
      obtain ⟨A9, c9, rfl, hO9⟩ := own_strs HOW.out (by omega)
      have HOO := Lib.hid hO9
      clear hO9
      go_wp2_with fail
      go_ret
      refine ⟨A9, c9, by rw [HSOL.out]; rfl, ?_, bel_call HB0.out hB⟩
      rw [HSOL.out]
      exact ⟨HOO.out.1, HOO.out.2.1, HOO.out.2.2.imp id fun ⟨g, e, hg, hC⟩ => ⟨g, e, by omega, hC⟩⟩

end Go.Proofs.Ytgopaflggbgplaa

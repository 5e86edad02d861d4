/-
  Facts on parts, exchanges and texts of amounts: what FnParts asks, apart from the walk.
-/
import Derived.Test.YteajjaenmbigeaaDoorText
import Derived.Test.YteajjaenmbigeaaDoorReadImpl
import Derived.Test.YteajjaenmbigeaaDoorPart
import Derived.Test.YteajjaenmbigeaaDoorExchange
import Derived.Test.YteajjaenmbigeaaDoorSrc
namespace Go.Proofs.YteajjaenmbigeaaDoor
open Go.ChangeShapes Go.WideShapes Go.ChangeAt Go.RowKit
set_option linter.unusedVariables false

theorem u8n (n : Nat) (h : n < 256) : (UInt8.ofNat n).toNat = n := by simp [UInt8.toNat_ofNat']; omega
theorem decD : ∀ u : Nat, allD (Lib.decDigits u) = true ∧ num (Lib.decDigits u) = (u : Int) ∧ 1 ≤ (Lib.decDigits u).length ∧ (10 ≤ u → ((Lib.decDigits u).headD 0).toNat ≠ 48) ∧ (1 ≤ u → ((Lib.decDigits u).headD 0).toNat ≠ 48) := by
  intro u
  induction u using Nat.strongRecOn with
  | _ u ih =>
    by_cases h : u < 10
    · rw [Lib.decDigits_one h]
      have e := u8n (48 + u) (by omega)
      have hd : dg (UInt8.ofNat (48 + u)) = true := (dg_iff _).mpr (by rw [e]; omega)
      refine ⟨by unfold allD; rw [List.all_cons, hd]; rfl, ?_, by simp, fun h' => by omega, fun h' => ?_⟩
      · show (10 * (0 : Int) + (((UInt8.ofNat (48 + u)).toNat : Int) - 48)) = _
        rw [e]; omega
      · show (UInt8.ofNat (48 + u)).toNat ≠ 48
        rw [e]; omega
    · obtain ⟨i1, i2, i3, i4, i5⟩ := ih (u / 10) (by omega)
      have e := u8n (48 + u % 10) (by omega)
      have hd : dg (UInt8.ofNat (48 + u % 10)) = true := (dg_iff _).mpr (by rw [e]; omega)
      rw [Lib.decDigits, dif_neg h]
      have hh : ((Lib.decDigits (u / 10) ++ [UInt8.ofNat (48 + u % 10)]).headD 0).toNat ≠ 48 := by
        have hi := i5 (by omega)
        cases hl : Lib.decDigits (u / 10) with
        | nil => rw [hl] at i3; simp at i3
        | cons a r => rw [hl] at hi; exact hi
      refine ⟨by rw [allD_snoc, i1, hd]; rfl, ?_, by simp, fun _ => hh, fun _ => hh⟩
      rw [num_snoc, i2, e]; omega
theorem decLe : ∀ (m u : Nat), u < 10 ^ (m + 1) → (Lib.decDigits u).length ≤ m + 1 := by
  intro m
  induction m with
  | zero => intro u h; rw [Lib.decDigits_one (by simpa using h)]; simp
  | succ m ih =>
    intro u h
    have e2 : (10 : Nat) ^ (m + 1 + 1) = 10 * 10 ^ (m + 1) := by rw [Nat.pow_succ, Nat.mul_comm]
    by_cases hu : u < 10
    · rw [Lib.decDigits_one hu]; simp
    · rw [Lib.decDigits, dif_neg hu]
      simp only [List.length_append, List.length_cons, List.length_nil]
      have := ih (u / 10) (by omega)
      omega

theorem wt_dec (k : Nat) (h : k < 100000) : wt 15 (Lib.decDigits k) = true := by
  obtain ⟨h1, _, h3, h4, _⟩ := decD k
  have h5 := decLe 4 k (by simpa using h)
  unfold wt
  rw [decide_eq_true (by omega), h1]
  by_cases hk : k < 10
  · have : (Lib.decDigits k).length = 1 := by rw [Lib.decDigits_one hk]; rfl
    rw [decide_eq_false (by omega)]; rfl
  · rw [decide_eq_false (p := ((Lib.decDigits k).headD 0).toNat = 48) (h4 (by omega))]; simp

theorem text_list (u : Nat) : (textS u).data.toList = Lib.decDigits (u / 100) ++ [46, UInt8.ofNat (48 + u / 10 % 10), UInt8.ofNat (48 + u % 10)] := by
  have e1 : (decS (u / 10 % 10)).data.toList = [UInt8.ofNat (48 + u / 10 % 10)] := by unfold decS; rw [Lib.decDigits_one (by omega)]
  have e2 : (decS (u % 10)).data.toList = [UInt8.ofNat (48 + u % 10)] := by unfold decS; rw [Lib.decDigits_one (by omega)]
  have e3 : (decS (u / 100)).data.toList = Lib.decDigits (u / 100) := by unfold decS; simp
  unfold textS
  simp only [ByteArray.data_append, Array.toList_append, e1, e2, e3]
  simp

theorem text_ok (u : Nat) (h : u ≤ 1000000) : okU (textS u).data.toList = true ∧ valU (textS u).data.toList = (u : Int) ∧ (textS u).data.toList.length ≤ 100 ∧ 1 ≤ (textS u).data.toList.length ∧ ((textS u).data.toList.headD 0).toNat ≠ 45 := by
  obtain ⟨d1, d2, d3, _, _⟩ := decD (u / 100)
  have d5 := decLe 4 (u / 100) (by have : (10 : Nat) ^ (4 + 1) = 100000 := by decide
                                   omega)
  rw [text_list]
  generalize hW : Lib.decDigits (u / 100) = W at *
  have hwt : wt 15 W = true := by rw [← hW]; exact wt_dec _ (by omega)
  have ea := u8n (48 + u / 10 % 10) (by omega)
  have eb := u8n (48 + u % 10) (by omega)
  have hl : (W ++ [46, UInt8.ofNat (48 + u / 10 % 10), UInt8.ofNat (48 + u % 10)]).length = W.length + 3 := by simp
  have g3 : (W ++ [46, UInt8.ofNat (48 + u / 10 % 10), UInt8.ofNat (48 + u % 10)]).getD (W.length + 3 - 3) 0 = 46 := by simp [List.getD_eq_getElem?_getD]
  have g2 : (W ++ [46, UInt8.ofNat (48 + u / 10 % 10), UInt8.ofNat (48 + u % 10)]).getD (W.length + 3 - 2) 0 = UInt8.ofNat (48 + u / 10 % 10) := by
    rw [List.getD_eq_getElem?_getD, List.getElem?_append_right (by omega), show W.length + 3 - 2 - W.length = 1 by omega]; rfl
  have g1 : (W ++ [46, UInt8.ofNat (48 + u / 10 % 10), UInt8.ofNat (48 + u % 10)]).getD (W.length + 3 - 1) 0 = UInt8.ofNat (48 + u % 10) := by
    rw [List.getD_eq_getElem?_getD, List.getElem?_append_right (by omega), show W.length + 3 - 1 - W.length = 2 by omega]; rfl
  have gt : (W ++ [46, UInt8.ofNat (48 + u / 10 % 10), UInt8.ofNat (48 + u % 10)]).take (W.length + 3 - 3) = W := List.take_left' (by omega)
  have da : dg (UInt8.ofNat (48 + u / 10 % 10)) = true := (dg_iff _).mpr (by rw [ea]; omega)
  have db : dg (UInt8.ofNat (48 + u % 10)) = true := (dg_iff _).mpr (by rw [eb]; omega)
  refine ⟨?_, ?_, by rw [hl]; omega, by rw [hl]; omega, ?_⟩
  · unfold okU; rw [hl, g3, g2, g1, gt, hwt, da, db, decide_eq_true (show 3 ≤ W.length + 3 by omega)]; rfl
  · unfold valU; rw [hl, g2, g1, gt, d2, ea, eb]; omega
  · cases W with
    | nil => simp at d3
    | cons c r =>
      have : dg c = true := by unfold allD at d1; rw [List.all_cons] at d1; simp at d1; exact d1.1
      have := (dg_iff c).mp this
      show c.toNat ≠ 45
      omega

theorem back_any (n : Int) (h1 : -50000 ≤ n) (h2 : n ≤ 150000) : mt2 n = 0 ∧ rm1 (mt1 n).data.toList = n ∧ rm2 (mt1 n).data.toList = 0 ∧ (mt1 n).size ≤ 200 := by
  have hA : amtB n = true := (amtB_iff n).mpr (by omega)
  have hT1 : told1 n = n := by unfold told1; rw [hA]; rfl
  have hT2 : told2 n = 0 := by unfold told2; rw [hA]; rfl
  have e1 : mt1 n = textV n := by unfold mt1; rw [hA]; rfl
  have e2 : mt2 n = 0 := by unfold mt2; rw [hA]; rfl
  rw [e1]
  unfold textV
  by_cases h : n < 0
  · rw [if_pos h]
    obtain ⟨t1, t2, t3, t4, t5⟩ := text_ok n.natAbs (by omega)
    have el : (⟨#[45]⟩ ++ textS n.natAbs : ByteArray).data.toList = 45 :: (textS n.natAbs).data.toList := by simp [ByteArray.data_append]
    have hs : (⟨#[45]⟩ ++ textS n.natAbs : ByteArray).size = 1 + (textS n.natAbs).data.toList.length := by
      rw [ByteArray.size_append, Array.length_toList]; rfl
    have hn : negL (45 :: (textS n.natAbs).data.toList) = true := by unfold negL; simp
    have hst : strip (45 :: (textS n.natAbs).data.toList) = (textS n.natAbs).data.toList := by unfold strip; rw [if_pos hn]; rfl
    have hok : rmOK (45 :: (textS n.natAbs).data.toList) = true := by
      unfold rmOK; rw [hst, t1, t2, hn, decide_eq_false (by omega)]; rfl
    have hv : rmV (45 :: (textS n.natAbs).data.toList) = n := by
      unfold rmV signV; rw [hst, t2, hn, if_pos rfl]; omega
    obtain ⟨r1, r2⟩ := rm_small (L := 45 :: (textS n.natAbs).data.toList) (by simp only [List.length_cons]; omega)
    rw [el, r1, r2, if_pos hok, if_pos hok, hv, hT1, hT2]
    exact ⟨e2, rfl, rfl, by omega⟩
  · rw [if_neg h]
    obtain ⟨t1, t2, t3, t4, t5⟩ := text_ok n.toNat (by omega)
    have hs : (textS n.toNat).size = (textS n.toNat).data.toList.length := by rw [Array.length_toList]; rfl
    have hn : negL (textS n.toNat).data.toList = false := by unfold negL; exact decide_eq_false (fun hh => t5 hh.2)
    have hst : strip (textS n.toNat).data.toList = (textS n.toNat).data.toList := by unfold strip; rw [hn]; rfl
    have hok : rmOK (textS n.toNat).data.toList = true := by unfold rmOK; rw [hst, t1, hn]; rfl
    have hv : rmV (textS n.toNat).data.toList = n := by unfold rmV signV; rw [hst, t2, hn, if_neg (by simp)]; omega
    obtain ⟨r1, r2⟩ := rm_small (L := (textS n.toNat).data.toList) (by omega)
    rw [r1, r2, if_pos hok, if_pos hok, hv, hT1, hT2]
    exact ⟨e2, rfl, rfl, by omega⟩

theorem same_rate (n N D : Int) (h1 : -50000 ≤ n) (h2 : n ≤ 150000) (hN : 1 ≤ N) (hN' : N ≤ 399) (hD : 1 ≤ D) (hD' : D ≤ 400) : xv1 n N D N D 3 = n ∧ xv2 n N D N D 3 = 0 := by
  have hA : amtB n = true := (amtB_iff n).mpr (by omega)
  have hR : rateB N D = true := (rateB_iff N D).mpr (by omega)
  have hM : modeB 3 = true := by decide
  have h0 : (N == 0) = false := by rw [beq_eq_false_iff_ne]; omega
  have hp : 0 < D * N := Int.mul_pos (by omega) (by omega)
  have e : xnum n N D = n * (D * N) := by unfold xnum; rw [Int.mul_assoc, Int.mul_comm N D]
  have hv : xval n N D N D 3 = n := by
    unfold xval xden
    rw [e, Int.mul_ediv_cancel _ (by omega), Int.mul_emod_left]
    refine (rq_of n n 0 (D * N) 3 (Or.inr ⟨?_, rfl⟩)).symm
    rintro (⟨h, _⟩ | ⟨_, h | ⟨h, _⟩⟩ | ⟨h, _⟩)
    · exact absurd h (by decide)
    · omega
    · omega
    · exact absurd h (by decide)
  have hT1 : told1 n = n := by unfold told1; rw [hA]; rfl
  have hT2 : told2 n = 0 := by unfold told2; rw [hA]; rfl
  unfold xv1 xv2
  rw [hA, hR, hM, h0, hv, hT1, hT2]
  exact ⟨rfl, rfl⟩

/-- What is asked of the four parts of P / D. -/
def PartsOf (P D lo hi g3 g4 : Int) : Prop :=
  hi - lo ≤ 1 ∧ lo ≤ hi ∧ lo * D ≤ P ∧ P ≤ hi * D ∧ (g3 = lo ∨ g3 = hi) ∧ (g4 = lo ∨ g4 = hi) ∧ 2 * (g3 * D - P) ≤ D ∧ -(2 * (g3 * D - P)) ≤ D ∧ 2 * (g4 * D - P) ≤ D ∧ -(2 * (g4 * D - P)) ≤ D ∧ -70000000 ≤ lo ∧ hi ≤ 70000000
theorem parts_any (n N D : Int) (h1 : -50000 ≤ n) (h2 : n ≤ 150000) (hN : 0 ≤ N) (hN' : N ≤ 399) (hD : 1 ≤ D) (hD' : D ≤ 400) :
    PartsOf (n * N) D (pv1 n N D 1) (pv1 n N D 2) (pv1 n N D 3) (pv1 n N D 4) ∧ pv2 n N D 1 = 0 ∧ pv2 n N D 2 = 0 ∧ pv2 n N D 3 = 0 ∧ pv2 n N D 4 = 0 ∧ -60000000 ≤ n * N ∧ n * N ≤ 60000000 := by
  have hA : amtB n = true := (amtB_iff n).mpr (by omega)
  have hR : rateB N D = true := (rateB_iff N D).mpr (by omega)
  obtain ⟨b1, b2⟩ := mul_bound n N 150000 399 (by omega) (by omega) hN hN' (by omega)
  generalize hP : n * N = P at *
  have q1 := Int.emod_nonneg P (show D ≠ 0 by omega)
  have q2 := Int.emod_lt_of_pos P (show 0 < D by omega)
  have q3 := Int.mul_ediv_add_emod P D
  obtain ⟨c1, c2⟩ := ediv_bound P D hD 60000000 (by omega) (by omega)
  have hv : ∀ m, (m = 1 ∨ m = 2 ∨ m = 3 ∨ m = 4) → pv1 n N D m = rq (P / D) (P % D) D m ∧ pv2 n N D m = 0 ∧ (rq (P / D) (P % D) D m = P / D ∨ rq (P / D) (P % D) D m = P / D + 1) := fun m hm => by
    have hM : modeB m = true := by rcases hm with rfl | rfl | rfl | rfl <;> decide
    have hr : rq (P / D) (P % D) D m = P / D ∨ rq (P / D) (P % D) D m = P / D + 1 := by unfold rq; split <;> simp
    have hT : amtB (rq (P / D) (P % D) D m) = true := (amtB_iff _).mpr (by omega)
    unfold pv1 pv2
    rw [hA, hR, hM, hP]
    refine ⟨?_, ?_, hr⟩
    · show told1 _ = _; unfold told1; rw [hT]; rfl
    · show told2 _ = _; unfold told2; rw [hT]; rfl
  obtain ⟨v1, w1, _⟩ := hv 1 (by omega)
  obtain ⟨v2, w2, _⟩ := hv 2 (by omega)
  obtain ⟨v3, w3, _⟩ := hv 3 (by omega)
  obtain ⟨v4, w4, _⟩ := hv 4 (by omega)
  rw [v1, v2, v3, v4]
  refine ⟨?_, w1, w2, w3, w4, by omega, by omega⟩
  have u1 : rq (P / D) (P % D) D 1 = P / D := by unfold rq upB; simp
  have u2 : rq (P / D) (P % D) D 2 = if 0 < P % D then P / D + 1 else P / D := by unfold rq upB; simp
  have e1 : (P / D + 1) * D = D * (P / D) + D := by rw [Int.add_mul, Int.mul_comm, Int.one_mul]
  have e0 : P / D * D = D * (P / D) := Int.mul_comm _ _
  have k3 : (rq (P / D) (P % D) D 3 = P / D ∧ 2 * (P % D) ≤ D) ∨ (rq (P / D) (P % D) D 3 = P / D + 1 ∧ D ≤ 2 * (P % D)) := by
    unfold rq
    cases hu : upB (P / D) (P % D) D 3
    · left; refine ⟨rfl, ?_⟩; unfold upB at hu; simp at hu; omega
    · right; refine ⟨rfl, ?_⟩; unfold upB at hu; simp at hu; omega
  have k4 : (rq (P / D) (P % D) D 4 = P / D ∧ 2 * (P % D) ≤ D) ∨ (rq (P / D) (P % D) D 4 = P / D + 1 ∧ D ≤ 2 * (P % D)) := by
    unfold rq
    cases hu : upB (P / D) (P % D) D 4
    · left; refine ⟨rfl, ?_⟩; unfold upB at hu; simp at hu; omega
    · right; refine ⟨rfl, ?_⟩; unfold upB at hu; simp at hu; omega
  rw [u1, u2]
  generalize rq (P / D) (P % D) D 3 = g3 at *
  generalize rq (P / D) (P % D) D 4 = g4 at *
  generalize hq : P / D = q at *
  generalize P % D = r at *
  unfold PartsOf
  by_cases hr : 0 < r
  · rw [if_pos hr]
    rcases k3 with ⟨rfl, k3⟩ | ⟨rfl, k3⟩ <;> rcases k4 with ⟨k4', k4⟩ | ⟨k4', k4⟩ <;> subst k4' <;> rw [e0, e1] <;> first | omega | (refine ⟨?_, ?_, ?_, ?_, ?_, ?_, ?_, ?_, ?_, ?_, ?_, ?_⟩ <;> omega)
  · rw [if_neg hr]
    rcases k3 with ⟨rfl, k3⟩ | ⟨rfl, k3⟩
    · rcases k4 with ⟨k4', k4⟩ | ⟨k4', k4⟩
      · subst k4'; rw [e0]; omega
      · omega
    · omega
end Go.Proofs.YteajjaenmbigeaaDoor

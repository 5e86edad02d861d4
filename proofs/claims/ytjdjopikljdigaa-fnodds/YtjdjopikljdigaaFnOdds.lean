/-
  For every list of bytes the law FnOdds answers true: by the program the cases of some days are all cases of each, their mean is that of a day as many times, and the safe level is enough while one unit less is not; with no condition.
-/
import Derived.Test.YtjdjopikljdigaaQvA
import Derived.Test.YtjdjopikljdigaaQdB
namespace Go.Proofs.Ytjdjopikljdigaa
open Go.ChangeShapes Go.WideShapes Go.ChangeAt Go.RowKit Go.Joins Go.Deep
set_option linter.unusedVariables false

theorem sl_least {f : Nat → Int} {den need : Int} {n : Nat} (hn : 1 ≤ n) (h : need ≤ sN f n * den) (h0 : 0 < need) : slN f den need n < n ∧ need ≤ sN f (slN f den need n + 1) * den ∧ sN f (slN f den need n) * den < need := by
  unfold slN
  cases hf : (List.range n).find? (fun m => decide (need ≤ sN f (m + 1) * den)) with
  | none =>
    have := List.find?_eq_none.1 hf (n - 1) (List.mem_range.2 (by omega))
    rw [Nat.sub_add_cancel hn] at this
    simp at this
    omega
  | some m =>
    obtain ⟨h1, h2, h3⟩ := List.find?_range_eq_some.1 hf
    have h1' := of_decide_eq_true h1
    refine ⟨List.mem_range.1 h2, h1', ?_⟩
    show sN f m * den < need
    cases m with
    | zero => rw [sN, Int.zero_mul]; exact h0
    | succ m =>
      have := h3 m (by omega)
      simp at this
      exact this
theorem wN_bound {f : Nat → Int} (h : ∀ i, 0 ≤ f i) : ∀ n, 0 ≤ wN f n ∧ wN f n ≤ (n : Int) * sN f n
  | 0 => by simp [wN, sN]
  | n + 1 => by
    obtain ⟨i1, i2⟩ := wN_bound h n
    have a1 := h n
    have a2 := sN_nonneg h n
    have a3 : 0 ≤ (n : Int) * f n := Int.mul_nonneg (by omega) a1
    rw [wN, sN]
    have e : ((n + 1 : Nat) : Int) = (n : Int) + 1 := by omega
    rw [e, Int.add_mul, Int.mul_add, Int.one_mul]
    omega
theorem sN_takeQ (L : List Int) {k : Nat} (hk : k ≤ L.length) : sN (gF (L.take k)) k = sN (gF L) k := sN_congr (fun i hi => by
  unfold gF
  rw [List.getD_eq_getElem?_getD, List.getElem?_take_of_lt hi, ← List.getD_eq_getElem?_getD])
theorem pw_pos {t : Int} (h : 1 ≤ t) : ∀ d, 1 ≤ pwI t d
  | 0 => Int.le_refl _
  | d + 1 => by
    have i := pw_pos h d
    have : pwI t d * 1 ≤ pwI t d * t := Int.mul_le_mul_of_nonneg_left h (by omega)
    rw [pwI]; omega
theorem Reads.laterO {w W : World} {a : Option Addr} {L : List Int} (h : Reads w.heap.size w a L) (hb : Below w.heap.size w W) : Reads W.heap.size W a L := (h.below hb).mono hb.size
theorem Reads.takeO {B : Nat} {w : World} {a : Option Addr} {L : List Int} (h : Reads B w a L) (k : Nat) (hk : k ≤ L.length) : Reads B w a (L.take k) := by
  rcases h with h | ⟨b', o, hg, hlt, hi⟩
  · exact .inl (by rw [h]; simp)
  · refine .inr ⟨b', o, hg, hlt, fun i h => ?_⟩
    rw [List.length_take] at h
    rw [List.getD_eq_getElem?_getD, List.getElem?_take_of_lt (by omega), ← List.getD_eq_getElem?_getD]
    exact hi i (by omega)
set_option maxHeartbeats 2000000 in
theorem sumQ_any (a : Option Addr) (cap : Nat) (L : List Int) (hl : L.length ≤ 100) (hP : ∀ k, k ≤ L.length → 0 ≤ sN (gF L) k ∧ sN (gF L) k ≤ 9022419900000) (w : World) (hr : Reads w.heap.size w a L) :
    Calls Try.prog 14 #[.slice a L.length cap] w fun e w' => e = .returned (.int .i64 (sL L)) ∧ w = w' := by
  have HR : Hid (Reads w.heap.size w a L) := hr
  have HP : Hid (∀ k, k ≤ L.length → 0 ≤ sN (gF L) k ∧ sN (gF L) k ≤ 9022419900000) := hP
  have HE : Hid (sL L = sN (gF L) L.length) := rfl
  clear hr hP
  generalize sL L = s0 at *
  go_enter Try.func14, Try.ntmps14
  go_wp2
  go_loopw [3, 4] (fun s c wr => ∃ k : Nat, k ≤ L.length ∧ c = .int .i64 (k : Int) ∧ s = .int .i64 (sN (gF L) k) ∧ w = wr) (fun _ c _ => L.length - (intOf c).toNat)
  case atStart => exact ⟨0, Nat.zero_le _, rfl, rfl, rfl⟩
  case round =>
    obtain ⟨k, hk, rfl, rfl, rfl⟩ := hrel
    by_cases hlt : k < L.length
    · have hlt' : (k : Int) < (L.length : Int) := by omega
      rcases HR.out with h | ⟨b0, o0, ha, hB0, ia⟩
      · rw [h] at hlt; simp at hlt
      have c0 : w.cell? ⟨b0, o0 + k, none⟩ = some (.int .i64 (gF L k)) := ia k hlt
      have h2 := HP.out (k + 1) hlt
      have HN : Hid (sN (gF L) (k + 1) = sN (gF L) k + gF L k) := rfl
      rw [HN.out] at h2
      rw [ha]
      clear ia
      generalize sN (gF L) k = s at *
      generalize gF L k = x at *
      have hwr : IntKind.i64.wrap (s + x) = s + x := wrap_id _ (by omega) (by omega)
      go_wp2_with fail
      exact ⟨⟨k + 1, by omega, by go_num, by rw [HN.out], by first | rfl | trivial⟩, by simp [intOf]; omega⟩
    · have hlt' : ¬ (k : Int) < (L.length : Int) := by omega
      obtain rfl : k = L.length := by omega
      go_wp2_with fail
      go_ret
      exact ⟨ret_int HE.out.symm, by first | rfl | trivial⟩
/-- All that the law asks, as mathematics. -/
structure OdF (L : List Int) (d : Nat) (num den : Int) : Prop where
  c0 : odC L (d : Int) = 0
  l0 : odL L (d : Int) = odD L d
  ok : OdOK (odD L d)
  ln : ((odD L d).length : Int) = (d : Int) * ((L.length : Int) - 1) + 1
  one : 1 ≤ sL L ∧ sL L ≤ 390
  all : sL (odD L d) = pwI (sL L) d
  alb : ∀ k, k ≤ d → 1 ≤ pwI (sL L) k ∧ pwI (sL L) k ≤ 9022419900000
  mean : 0 ≤ wL L ∧ wL L ≤ 5070
  far : 0 ≤ wL (odD L d) ∧ wL (odD L d) ≤ 550367613900000
  law : wL (odD L d) * sL L = (d : Int) * wL L * pwI (sL L) d
  sc : saC L (d : Int) num den = 0
  sn : ∃ m : Nat, saN L (d : Int) num den = (m : Int) ∧ m < (odD L d).length ∧ num * pwI (sL L) d ≤ sN (gF (odD L d)) (m + 1) * den ∧ sN (gF (odD L d)) m * den < num * pwI (sL L) d
theorem odF_of {L : List Int} {d : Nat} {num den : Int} (h1 : 1 ≤ L.length) (h2 : L.length ≤ 7) (hd : DrL 9 9 L) (d1 : 1 ≤ d) (d2 : d ≤ 4) (hden : 1 ≤ den ∧ den ≤ 100) (hnum : 1 ≤ num ∧ num ≤ den) : OdF L d num den := by
  have hm : ∀ x ∈ L, 0 ≤ x ∧ x ≤ 30 := fun x hx => by have := hd.2 x hx; omega
  have hb : odB L (d : Int) = true := by
    unfold odB tbB
    rw [al_of hm]
    unfold inB
    simp only [Bool.and_true, Bool.and_eq_true, decide_eq_true_eq]
    omega
  have e : (d : Int).toNat = d := by omega
  have hok := odOK_of hb
  rw [e] at hok
  rcases od_ways L (d : Int) with ⟨q, _⟩ | ⟨_, q, _⟩ | ⟨_, _, q1, q2⟩
  · omega
  · rw [hb] at q; cases q
  rw [e] at q2
  have st := sL_table (al_of hm) (by omega)
  have hp0 := gF_nonneg (fun x hx => (hm x hx).1)
  have hone : 1 ≤ sL L := by
    have := sN_at hp0 (p := 0) (n := L.length) h1
    have h9 : gF L 0 = L.getD 0 0 := rfl
    have := hd.1.1
    unfold sL
    omega
  have hall := sL_od h1 d
  have halb : ∀ k, k ≤ d → 1 ≤ pwI (sL L) k ∧ pwI (sL L) k ≤ 9022419900000 := fun k hk => by
    have a := pw_bound st.1 st.2 k
    have b := bnd_five k (by omega)
    exact ⟨pw_pos hone k, by omega⟩
  have hw1 := wN_bound hp0 L.length
  have hw2 := wN_bound (gF_nonneg hok.pos) (odD L d).length
  have hm1 : (L.length : Int) * sL L ≤ 13 * sL L := Int.mul_le_mul_of_nonneg_right (by omega) (by omega)
  have hs1 : 0 ≤ sL (odD L d) := sN_nonneg (gF_nonneg hok.pos) _
  have hm2 : ((odD L d).length : Int) * sL (odD L d) ≤ 61 * sL (odD L d) := Int.mul_le_mul_of_nonneg_right (by have := hok.l2; omega) hs1
  have hsum := hok.sum
  have hpt : ptB 1 num den = true := pt_of ⟨⟨hden.1, by omega⟩, hnum⟩
  have hne : sL (odD L (d : Int).toNat) ≠ 0 := by rw [e, hall]; have := halb d (Nat.le_refl _); omega
  have hsa := sa_right q1 hpt hne
  rw [e, hall] at hsa
  have hneed : 0 < num * pwI (sL L) d := Int.mul_pos (by omega) (by have := (halb d (Nat.le_refl _)).1; omega)
  have hend : num * pwI (sL L) d ≤ sN (gF (odD L d)) (odD L d).length * den := by
    rw [show sN (gF (odD L d)) (odD L d).length = pwI (sL L) d from hall, Int.mul_comm]
    exact Int.mul_le_mul_of_nonneg_left hnum.2 (by have := (halb d (Nat.le_refl _)).1; omega)
  obtain ⟨s1, s2, s3⟩ := sl_least hok.l1 hend hneed
  refine ⟨q1, q2, hok, ?_, ⟨hone, st.2⟩, hall, halb, ⟨hw1.1, ?_⟩, ⟨hw2.1, ?_⟩, wL_od h1 d, hsa.1, ⟨_, hsa.2, s1, s2, s3⟩⟩
  · rw [odD_length h1]
    have e2 : ((L.length - 1 : Nat) : Int) = (L.length : Int) - 1 := by omega
    rw [Int.natCast_add, Int.natCast_mul, e2]; rfl
  · have h5 : wL L ≤ (L.length : Int) * sL L := hw1.2
    omega
  · have h5 : wL (odD L d) ≤ ((odD L d).length : Int) * sL (odD L d) := hw2.2
    omega
theorem own_cellO {B : Nat} {w : World} {g : Option Addr} {L : List Int} (h : Own2 B w g L) (h1 : 1 ≤ L.length) : ∃ b, g = some ⟨b, 0, none⟩ ∧ ∀ k, k < L.length → w.cell? ⟨b, k, none⟩ = some (.int .i64 (gF L k)) := by
  rcases h with h | ⟨b, hg, hB, hlt, hi, hf⟩
  · rw [h] at h1; simp at h1
  · refine ⟨b, hg, fun k hk => ?_⟩
    have := hi k hk
    rw [Nat.zero_add] at this
    exact this

namespace FnOdds
set_option maxHeartbeats 16000000 in
set_option maxRecDepth 8000 in
theorem walk' (a0 : Option Addr) (len0 cap0 : Nat) (w : World) (h0 : (len0 : Int) ≤ 1048576)
    (hS : Calls Try.prog 16 #[.slice a0 len0 cap0] w (PostTableOf w)) :
    Calls Try.prog 5 #[.slice a0 len0 cap0] w fun e w' => e = .returned (.bool true) ∧ Below w.heap.size w w' := by
  go_enter Try.func5, Try.ntmps5
  go_wp2_with fail
  (first | go_at_call 16 | skip)
  refine hS.mono ?_
  rintro e w1 ⟨L, days, num, den, gl, cl, rfl, ⟨hL1, hL2⟩, hdr, ⟨hd1, hd2⟩, ⟨hn1, hn2⟩, ⟨hm1, hm2⟩, hcl, hrd, hb1⟩
  obtain ⟨d, hd⟩ : ∃ d : Nat, days = (d : Int) := ⟨days.toNat, by omega⟩
  subst hd
  have HF := odF_of (d := d) (num := num) (den := den) hL1 hL2 hdr (by omega) (by omega) ⟨hn1, hn2⟩ ⟨hm1, hm2⟩
  have HRd : Hid (Reads w1.heap.size w1 (some ⟨gl, 0, none⟩) L) := hrd
  have HB1 : Hid (Below w.heap.size w w1) := hb1
  have hp0 := gF_nonneg (fun x hx => (hdr.2 x hx).1)
  have HSum1 : Hid (∀ W, Below w1.heap.size w1 W → Calls Try.prog 14 #[.slice (some ⟨gl, 0, none⟩) L.length cl] W fun e w' => e = .returned (.int .i64 (sL L)) ∧ W = w') := fun W hW => sumQ_any _ cl L (by omega) (fun k hk => ⟨sN_nonneg hp0 k, by have a := sN_mono hp0 hk; have b := HF.one.2; unfold sL at b; omega⟩) W (HRd.out.laterO hW)
  have HOd : Hid (Calls Try.prog 17 #[.slice (some ⟨gl, 0, none⟩) L.length cl, .int .i64 (d : Int)] w1 (AnsLC w1 (odD L d) 0)) := by
    have := implOdds_cap (some ⟨gl, 0, none⟩) cl L (d : Int) (by omega) w1 HRd.out
    rwa [HF.c0, HF.l0] at this
  obtain ⟨m, hsn, hml, hen1, hen2⟩ := HF.sn
  have HSa : Hid (∀ W, Below w1.heap.size w1 W → Calls Try.prog 18 #[.slice (some ⟨gl, 0, none⟩) L.length cl, .int .i64 (d : Int), .int .i64 num, .int .i64 den] W fun e w' => e = .returned (.tuple #[.int .i64 (m : Int), .int .i64 0]) ∧ Below W.heap.size W w') := fun W hW => by
    have := implSafe_any (some ⟨gl, 0, none⟩) cl L (d : Int) num den (by omega) W (HRd.out.laterO hW)
    rwa [HF.sc, hsn] at this
  have hok := HF.ok
  have HSum2 : Hid (∀ g cp W, Reads W.heap.size W g (odD L d) → Calls Try.prog 14 #[.slice g (odD L d).length cp] W fun e w' => e = .returned (.int .i64 (pwI (sL L) d)) ∧ W = w') := fun g cp W hr => by
    rw [← HF.all]
    exact sumQ_any g cp _ (by have := hok.l2; omega) (fun k hk => odOK_part hok hk) W hr
  have HSum3 : Hid (∀ (k : Nat) g cp W, k ≤ (odD L d).length → Reads W.heap.size W g (odD L d) → Calls Try.prog 14 #[.slice g k cp] W fun e w' => e = .returned (.int .i64 (sN (gF (odD L d)) k)) ∧ W = w') := fun k g cp W hk hr => by
    have hlk : ((odD L d).take k).length = k := by rw [List.length_take]; omega
    have hsk : sL ((odD L d).take k) = sN (gF (odD L d)) k := by unfold sL; rw [hlk]; exact sN_takeQ _ hk
    have := sumQ_any g cp ((odD L d).take k) (by rw [hlk]; have := hok.l2; omega) (fun j hj => by
      rw [hlk] at hj
      have e1 : sN (gF ((odD L d).take k)) j = sN (gF (odD L d)) j := sN_congr (fun i hi => by
        unfold gF
        rw [List.getD_eq_getElem?_getD, List.getElem?_take_of_lt (by omega), ← List.getD_eq_getElem?_getD])
      rw [e1]
      exact odOK_part hok (by omega)) W (hr.takeO k hk)
    rwa [hlk, hsk] at this
  have hall := HF.alb d (Nat.le_refl _)
  have HAlb : Hid (∀ k, k ≤ d → 1 ≤ pwI (sL L) k ∧ pwI (sL L) k ≤ 9022419900000) := HF.alb
  have HLaw : Hid (wL (odD L d) * sL L = (d : Int) * wL L * pwI (sL L) d) := HF.law
  have HLn : Hid (((odD L d).length : Int) = (d : Int) * ((L.length : Int) - 1) + 1) := HF.ln
  have hone := HF.one
  have hmean := HF.mean
  have hfar := HF.far
  have HPart : Hid (∀ k, k ≤ (odD L d).length → 0 ≤ sN (gF (odD L d)) k ∧ sN (gF (odD L d)) k ≤ 9022419900000) := fun k hk => odOK_part hok hk
  have HWp : Hid (∀ k, k ≤ (odD L d).length → 0 ≤ wN (gF (odD L d)) k ∧ wN (gF (odD L d)) k ≤ 550367613900000) := fun k hk => by
    have a := wN_bound (gF_nonneg hok.pos) k
    have b := odOK_part hok hk
    have c : (k : Int) * sN (gF (odD L d)) k ≤ 61 * sN (gF (odD L d)) k := Int.mul_le_mul_of_nonneg_right (by have := hok.l2; omega) b.1
    omega
  have HWq : Hid (∀ k, k ≤ L.length → 0 ≤ wN (gF L) k ∧ wN (gF L) k ≤ 5070) := fun k hk => by
    have a := wN_bound hp0 k
    have b := sN_mono hp0 hk
    have b2 : sN (gF L) L.length ≤ 390 := hone.2
    have b3 := sN_nonneg hp0 k
    have c : (k : Int) * sN (gF L) k ≤ 13 * sN (gF L) k := Int.mul_le_mul_of_nonneg_right (by omega) b3
    omega
  have HCe : Hid (∀ k, k < (odD L d).length → 0 ≤ gF (odD L d) k ∧ gF (odD L d) k ≤ 9022419900000) := odOK_cell hok
  have HCt : Hid (∀ k, k < L.length → 0 ≤ gF L k ∧ gF L k ≤ 30) := fun k hk => getD_bound (fun x hx => by have := hdr.2 x hx; omega) k hk
  have hol1 := hok.l1
  have hol2 := hok.l2
  clear hS hrd hb1 hdr hp0 hok HF hsn
  have HMe : Hid (wL L = wN (gF L) L.length) := rfl
  have HFa : Hid (wL (odD L d) = wN (gF (odD L d)) (odD L d).length) := rfl
  generalize odD L d = od at *
  obtain ⟨P, hP⟩ : ∃ P : Nat → Int, P = pwI (sL L) := ⟨_, rfl⟩
  have HPn : Hid (∀ k, P (k + 1) = P k * sL L) := fun k => by rw [hP]; rfl
  have HP0 : Hid (P 0 = 1) := by show _ = _; rw [hP]; rfl
  rw [← hP] at hen1 hen2 HSum2 hall HAlb HLaw
  clear hP
  generalize sL L = s1 at *
  have hlm : (od.length : Int) ≤ 61 := by omega
  have hln := HLn.out
  obtain ⟨q, hq⟩ : ∃ q : Int, q = (d : Int) * ((L.length : Int) - 1) := ⟨_, rfl⟩
  rw [← hq] at hln
  have ew1 : IntKind.i64.wrap ((L.length : Int) - 1) = (L.length : Int) - 1 := wrap_id _ (by omega) (by omega)
  have ew2 : IntKind.i64.wrap ((d : Int) * ((L.length : Int) - 1)) = q := by rw [← hq]; exact wrap_id _ (by omega) (by omega)
  have ew3 : IntKind.i64.wrap (q + 1) = (od.length : Int) := by rw [wrap_id _ (by omega) (by omega)]; omega
  have hne : ((od.length : Int) != (od.length : Int)) = false := by simp
  have HQ : Hid (q = (d : Int) * ((L.length : Int) - 1)) := hq
  clear hq hln HLn HQ
  go_wp2_with fail
  (first | go_at_call 17 | skip)
  refine HOd.out.mono ?_
  rintro e w2 ⟨g1, c1, rfl, ho2, hb2, hc1⟩
  have HO1 : Hid (Own2 w1.heap.size w2 g1 od) := ho2
  have HB2 : Hid (Below w1.heap.size w1 w2) := hb2
  clear ho2 hb2 HOd
  go_wp2_with fail
  (first | go_at_call 14 | skip)
  refine (HSum1.out w2 HB2.out).mono ?_
  rintro e w3 ⟨rfl, rfl⟩
  clear HSum1 ew1 ew2 ew3
  go_wp2_with fail
  go_loopw [10, 11] (fun s c wr => ∃ k : Nat, k ≤ d ∧ c = .int .i64 (k : Int) ∧ s = .int .i64 (P k) ∧ w2 = wr) (fun _ c _ => d - (intOf c).toNat)
  case atStart => exact ⟨0, Nat.zero_le _, rfl, by rw [HP0.out], rfl⟩
  case round =>
    obtain ⟨k, hk, rfl, rfl, rfl⟩ := hrel
    by_cases hlt : k < d
    · have hlt' : (k : Int) < (d : Int) := by omega
      have h2 := HAlb.out (k + 1) hlt
      have hNx := HPn.out k
      rw [hNx] at h2
      have HNx : Hid (P (k + 1) = P k * s1) := hNx
      have hwr : IntKind.i64.wrap (P k * s1) = P k * s1 := wrap_id _ (by omega) (by omega)
      clear hNx
      go_wp2_with fail
      exact ⟨⟨k + 1, by omega, by go_num, by rw [HNx.out], by first | rfl | trivial⟩, by simp [intOf]; omega⟩
    have hlt' : ¬ (k : Int) < (d : Int) := by omega
    obtain rfl : k = d := by omega
    clear HPn HP0 HAlb
    go_wp2_with fail
    go_loopw [12, 13] (fun s c wr => ∃ j : Nat, j ≤ L.length ∧ c = .int .i64 (j : Int) ∧ s = .int .i64 (wN (gF L) j) ∧ w2 = wr) (fun _ c _ => L.length - (intOf c).toNat)
    case atStart => exact ⟨0, Nat.zero_le _, rfl, rfl, rfl⟩
    case round =>
      obtain ⟨j, hj, rfl, rfl, rfl⟩ := hrel
      by_cases hjl : j < L.length
      · have hjl' : (j : Int) < (L.length : Int) := by omega
        have c0 : w2.cell? ⟨gl, j, none⟩ = some (.int .i64 (gF L j)) := by
          rcases HRd.out with h | ⟨b', o', hg, hlt2, hi⟩
          · rw [h] at hjl; simp at hjl
          · cases hg
            have := (hi.below HB2.out hlt2) j hjl
            rw [Nat.zero_add] at this
            exact this
        have hx := HCt.out j hjl
        have h2 := HWq.out (j + 1) hjl
        have h3 := HWq.out j hj
        have HNx : Hid (wN (gF L) (j + 1) = wN (gF L) j + (j : Int) * gF L j) := rfl
        rw [HNx.out] at h2
        have e1 : IntKind.i64.wrap ((j : Int) * gF L j) = (j : Int) * gF L j := wrap_id _ (by omega) (by omega)
        have e2 : IntKind.i64.wrap (wN (gF L) j + (j : Int) * gF L j) = wN (gF L) j + (j : Int) * gF L j := wrap_id _ (by omega) (by omega)
        generalize wN (gF L) j = s at *
        generalize gF L j = x at *
        go_wp2_with fail
        exact ⟨⟨j + 1, by omega, by go_num, by rw [HNx.out], by first | rfl | trivial⟩, by simp [intOf]; omega⟩
      have hjl' : ¬ (j : Int) < (L.length : Int) := by omega
      obtain rfl : j = L.length := by omega
      rw [← HMe.out]
      clear HWq HCt HMe
      obtain ⟨b1, hg1, hcd⟩ := own_cellO HO1.out hol1
      subst hg1
      have HCd : Hid (∀ i, i < od.length → w2.cell? ⟨b1, i, none⟩ = some (.int .i64 (gF od i))) := hcd
      clear hcd
      go_wp2_with fail
      go_loopw [14, 15] (fun s c wr => ∃ i : Nat, i ≤ od.length ∧ c = .int .i64 (i : Int) ∧ s = .int .i64 (wN (gF od) i) ∧ w2 = wr) (fun _ c _ => od.length - (intOf c).toNat)
      case atStart => exact ⟨0, Nat.zero_le _, rfl, rfl, rfl⟩
      case round =>
        obtain ⟨i, hi, rfl, rfl, rfl⟩ := hrel
        by_cases hil : i < od.length
        · have hil' : (i : Int) < (od.length : Int) := by omega
          have c0 := HCd.out i hil
          have hx := HCe.out i hil
          have h2 := HWp.out (i + 1) hil
          have h3 := HWp.out i hi
          have HNx : Hid (wN (gF od) (i + 1) = wN (gF od) i + (i : Int) * gF od i) := rfl
          rw [HNx.out] at h2
          have e1 : IntKind.i64.wrap ((i : Int) * gF od i) = (i : Int) * gF od i := wrap_id _ (by omega) (by omega)
          have e2 : IntKind.i64.wrap (wN (gF od) i + (i : Int) * gF od i) = wN (gF od) i + (i : Int) * gF od i := wrap_id _ (by omega) (by omega)
          generalize wN (gF od) i = s at *
          generalize gF od i = x at *
          go_wp2_with fail
          exact ⟨⟨i + 1, by omega, by go_num, by rw [HNx.out], by first | rfl | trivial⟩, by simp [intOf]; omega⟩
        have hil' : ¬ (i : Int) < (od.length : Int) := by omega
        obtain rfl : i = od.length := by omega
        rw [← HFa.out]
        have hp1 := HPart.out (m + 1) hml
        have hp2 := HPart.out m (by omega)
        clear HWp HCe HFa HCd HPart
        have hlaw := HLaw.out
        clear HLaw
        have m1 : 0 ≤ wL od * s1 := Int.mul_nonneg hfar.1 (by omega)
        have m2 : wL od * s1 ≤ wL od * 390 := Int.mul_le_mul_of_nonneg_left hone.2 hfar.1
        have m3 : 0 ≤ (k : Int) * wL L := Int.mul_nonneg (by omega) hmean.1
        have m4 : (k : Int) * wL L ≤ (k : Int) * 5070 := Int.mul_le_mul_of_nonneg_left hmean.2 (by omega)
        have f1 : IntKind.i64.wrap (wL od * s1) = wL od * s1 := wrap_id _ (by omega) (by omega)
        have f2 : IntKind.i64.wrap ((k : Int) * wL L) = (k : Int) * wL L := wrap_id _ (by omega) (by omega)
        have f3 : IntKind.i64.wrap ((k : Int) * wL L * P k) = wL od * s1 := by rw [← hlaw]; exact f1
        have n1 : ∀ x : Int, (x != x) = false := fun x => by simp
        have g1 := n1 (wL od * s1)
        have g2 := n1 (P k)
        have o1 : 0 ≤ num * P k := Int.mul_nonneg (by omega) (by omega)
        have o2 : num * P k ≤ den * P k := Int.mul_le_mul_of_nonneg_right hm2 (by omega)
        have o3 : den * P k ≤ 100 * P k := Int.mul_le_mul_of_nonneg_right hn2 (by omega)
        have o4 : 0 ≤ sN (gF od) (m + 1) * den := Int.mul_nonneg hp1.1 (by omega)
        have o5 : sN (gF od) (m + 1) * den ≤ sN (gF od) (m + 1) * 100 := Int.mul_le_mul_of_nonneg_left hn2 hp1.1
        have o6 : 0 ≤ sN (gF od) m * den := Int.mul_nonneg hp2.1 (by omega)
        have o7 : sN (gF od) m * den ≤ sN (gF od) m * 100 := Int.mul_le_mul_of_nonneg_left hn2 hp2.1
        have f4 : IntKind.i64.wrap (num * P k) = num * P k := wrap_id _ (by omega) (by omega)
        have f5 : IntKind.i64.wrap (sN (gF od) (m + 1) * den) = sN (gF od) (m + 1) * den := wrap_id _ (by omega) (by omega)
        have f6 : IntKind.i64.wrap (sN (gF od) m * den) = sN (gF od) m * den := wrap_id _ (by omega) (by omega)
        have f7 : IntKind.i64.wrap ((m : Int) + 1) = ((m + 1 : Nat) : Int) := by rw [wrap_id _ (by omega) (by omega)]; omega
        clear n1 m1 m2 m3 m4 hlaw o1 o2 o3 o4 o5 o6 o7
        go_wp2_with fail
        (first | go_at_call 14 | skip)
        refine (HSum2.out _ _ w2 HO1.out.reads).mono ?_
        rintro e w4 ⟨rfl, rfl⟩
        go_wp2_with fail
        (first | go_at_call 18 | skip)
        refine (HSa.out w2 HB2.out).mono ?_
        rintro e w5 ⟨rfl, hb5⟩
        have HB5 : Hid (Below w2.heap.size w2 w5) := hb5
        have HR5 : Hid (Reads w5.heap.size w5 (some ⟨b1, 0, none⟩) od) := HO1.out.reads.laterO hb5
        clear hb5 HSa HSum2 f1 f2 f3 g1 g2
        have hm5 : (m : Int) < (od.length : Int) := by omega
        have hm6 : ((m + 1 : Nat) : Int) ≤ (c1 : Int) := by omega
        have hm7 : (m : Int) ≤ (c1 : Int) := by omega
        go_wp2_with fail
        (first | go_at_call 14 | skip)
        refine (HSum3.out (m + 1) _ _ w5 (by omega) HR5.out).mono ?_
        rintro e w6 ⟨rfl, rfl⟩
        go_wp2_with fail
        (first | go_at_call 14 | skip)
        refine (HSum3.out m _ _ w5 (by omega) HR5.out).mono ?_
        rintro e w6 ⟨rfl, rfl⟩
        go_wp2_with fail
        go_ret
        exact ⟨rfl, chain HB1.out (chain HB2.out HB5.out)⟩
theorem walk (a0 : Option Addr) (len0 cap0 : Nat) (z0 : List Int) (w : World) (r0 : RowB w.heap.size w a0 len0 z0) :
    Calls Try.prog 5 #[.slice a0 len0 cap0] w fun e w' => e = .returned (.bool true) ∧ Below w.heap.size w w' := by
  by_cases hbig : (1048576 : Int) < (len0 : Int)
  · clear r0
    go_enter Try.func5, Try.ntmps5
    go_wp2
    go_ret
    exact ⟨rfl, Below.refl _ _⟩
  · exact walk' a0 len0 cap0 w (by omega) (TableOf_any a0 len0 cap0 z0 w r0)

theorem own : ownKnob Try.prog.godebug = none := by kernel_rfl
theorem laidOut : laidOutB Try.prog = true := by kernel_rfl

set_option maxRecDepth 100000 in
theorem lifted (os : Os) (started : os.Started) (H : Type) (enc : TypeId × Value → H) :
    ReturnsInHanded {} Try.checked os 5 .any (Rows.fnOddsSpec.pre6 enc Try.prog Try.f5 Rows.fnOddsRow.domain false) (Rows.fnOddsSpec.post enc Try.prog Try.f5 false true false false) := by
  refine returnsInHanded_of_change (C := Try.checked) own started (by kernel_rfl) Try.func5
    (ChangeSpec.witness6 (enc := enc) (C := Try.checked) false ⟨#[], #[.slice none 0 0], []⟩ 8 (by kernel_rfl) (by kernel_rfl) (by kernel_rfl) (by kernel_rfl)) ?_
  intro W base args ds gs before hval0 hW hcnd _
  have hval : ∀ (j : Nat) t v, Try.f5.params[j]? = some t → args[j]? = some v → Value.okWide Try.prog W .any base t v := hval0
  have hW' := hW
  obtain ⟨p, q, hA0, hV, rfl, hfz, hnd⟩ := hW
  have hA : DataW.TrodAll enc Try.prog W 0 (fun _ => true) true Try.f5.params.toList args.toList ds p := hA0
  rw [Try.params5] at hA hval
  obtain ⟨v0, vs0, d0, ds0, p0, q0, hargs, rfl, rfl, h0, r0⟩ := trodAll_cons hA
  obtain ⟨rfl, rfl, rfl⟩ := trodAll_nil r0
  obtain rfl : args = #[v0] := by cases args; simp_all
  obtain ⟨rfl, rfl⟩ := trodVars_none hV
  have k0 := h0
  have lt0 : ∀ x ∈ p0, x.block < W.heap.size := by obtain ⟨m, hm⟩ := k0; exact DataW.trod_lt m _ _ _ hm
  obtain ⟨a0, len0, cap0, rfl⟩ := okWide_slice Try.underlying22 (hval 0 22 v0 rfl rfl)
  obtain ⟨z0, w0⟩ : ∃ zs, IsRow .u8 W a0 len0 cap0 zs := by
    obtain ⟨fuel, hf⟩ := h0
    rcases open_ints Try.underlying22 Try.underlying5 (by kernel_rfl) hf with ⟨hcs, _⟩ | ⟨x, l, c, zs, hcs, _, hl, hm, hz, _, hcell, hwz⟩
    · simp [Value.cells] at hcs
      obtain ⟨rfl, rfl, rfl⟩ := hcs
      exact ⟨[], .inl ⟨rfl, rfl, rfl, rfl⟩⟩
    · simp [Value.cells] at hcs
      obtain ⟨rfl, rfl, rfl⟩ := hcs
      exact ⟨zs, .inr ⟨_, rfl, hl, hm, by simpa using hz, hcell, hwz⟩⟩
  clear hA0 hval0
  refine (walk a0 len0 cap0 z0 W (rowB_of _ _ _ _ _ w0)).mono fun e W' ⟨he, bel⟩ => ?_
  subst he
  exact ⟨_, rfl, _, _, _, [], _, [], hW', trodAll_mk1 (shut_bool Try.underlying4 _), (trodAll_cons_mk (Below.trod laidOut (by kernel_rfl) (of_decide_eq_true (by kernel_rfl)) k0 bel lt0) trodAll_mk0), rfl, bel.frame _, fun h => by cases h⟩

theorem over : Rows.fnOddsRow.holds Try.pinned (OpenSpec.ofChange Rows.fnOddsSpec) :=
  OpenClaim.holds_of_wide 5 Try.f5 rfl rfl rfl rfl rfl rfl rfl ⟨rfl, rfl, rfl, rfl, rfl⟩ rfl rfl rfl rfl rfl (by kernel_rfl) Try.func5 (by kernel_rfl)
    (of_decide_eq_true (by kernel_rfl)) (by unfold Func.isWrapper; first | (rw [if_pos (by decide +kernel)]; kernel_rfl) | (rw [if_neg (by decide +kernel)]; exact ⟨rfl, rfl⟩))
    (fun os started H enc _ => lifted os started H enc)
end FnOdds

theorem fnOdds_holds : Rows.FnOddsSaid := FnOdds.over
end Go.Proofs.Ytjdjopikljdigaa

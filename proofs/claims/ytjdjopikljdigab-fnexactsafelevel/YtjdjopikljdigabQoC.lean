/-
  Contracts of the specification's l16Table, l16Odds, Odds, for all arguments.
-/
import Derived.Test.YtjdjopikljdigabQoB
import Derived.Test.YtjdjopikljdigabRegZ
namespace Go.Proofs.Ytjdjopikljdigab
open Go.ChangeShapes Go.WideShapes Go.ChangeAt Go.RowKit Go.Joins Go.Deep
set_option linter.unusedVariables false

set_option maxHeartbeats 2000000 in
theorem l16Table_any (a : Option Addr) (ca : Nat) (tb : List Int) (days : Int) (hl : tb.length ≤ 100000000) (w : World) (hr : Reads w.heap.size w a tb) :
    Calls Try.prog 8 #[.slice a tb.length ca, .int .i64 days] w fun e w' => e = .returned (.bool (odB tb days)) ∧ w = w' := by
  have HR : Hid (Reads w.heap.size w a tb) := hr
  have HD : Hid (∀ W, Calls Try.prog 9 #[.int .i64 days, .int .i64 1, .int .i64 5] W fun e w' => e = .returned (.bool (inB days 1 5)) ∧ W = w') := fun W => (in_any _ _ _ W).mono (fun e w' h => ⟨h.1, h.2.symm⟩)
  have HE : Hid (odB tb days = ((inB (tb.length : Int) 1 13 && alB 0 30 tb) && inB days 1 5)) := rfl
  generalize odB tb days = ob at *
  clear hr
  by_cases h1 : (tb.length : Int) < 1
  · rw [show inB (tb.length : Int) 1 13 = false from decide_eq_false (by omega)] at HE
    obtain rfl : ob = false := HE.out
    go_enter Try.func8, Try.ntmps8
    go_wp2
    go_ret
    exact ⟨rfl, rfl⟩
  by_cases h2 : 13 < (tb.length : Int)
  · rw [show inB (tb.length : Int) 1 13 = false from decide_eq_false (by omega)] at HE
    obtain rfl : ob = false := HE.out
    go_enter Try.func8, Try.ntmps8
    go_wp2
    go_ret
    exact ⟨rfl, rfl⟩
  rw [show inB (tb.length : Int) 1 13 = true from decide_eq_true (by omega)] at HE
  cases hb : inB days 1 5
  · rw [hb] at HD HE
    rw [Bool.and_false] at HE
    obtain rfl : ob = false := HE.out
    clear hb HE
    go_enter Try.func8, Try.ntmps8
    go_wp2_with (go_at_call 9; refine (HD.out _).mono ?_; rintro e w2 ⟨rfl, rfl⟩)
    go_ret
    exact ⟨rfl, rfl⟩
  rw [hb] at HD HE
  rw [Bool.and_true, Bool.true_and] at HE
  obtain rfl : ob = alB 0 30 tb := HE.out
  clear hb HE
  go_enter Try.func8, Try.ntmps8
  go_wp2_with (go_at_call 9; refine (HD.out _).mono ?_; rintro e w2 ⟨rfl, rfl⟩)
  clear HD
  go_loopw [5] (fun c wr => ∃ k : Nat, k ≤ tb.length ∧ c = .int .i64 (k : Int) ∧ alB 0 30 (tb.take k) = true ∧ w = wr) (fun c _ => tb.length - (intOf c).toNat)
  case atStart => exact ⟨0, Nat.zero_le _, rfl, rfl, rfl⟩
  case round =>
    obtain ⟨k, hk, rfl, hf, rfl⟩ := hrel
    have HF : Hid (alB 0 30 (tb.take k) = true) := hf
    clear hf
    by_cases hlt : k < tb.length
    · have hlt' : (k : Int) < (tb.length : Int) := by omega
      rcases HR.out with h | ⟨b0, o0, ha, hB0, ia⟩
      · rw [h] at hlt; simp at hlt
      have c0 := ia k hlt
      have HX : Hid (inB (tb.getD k 0) 0 30 = false → alB 0 30 tb = false) := fun h => al_fail hlt h
      have HN : Hid (alB 0 30 (tb.take (k + 1)) = (alB 0 30 (tb.take k) && inB (tb.getD k 0) 0 30)) := al_take _ _ tb k hlt
      have hm : Calls Try.prog 9 #[.int .i64 (tb.getD k 0), .int .i64 0, .int .i64 30] w fun e w' => e = .returned (.bool (inB (tb.getD k 0) 0 30)) ∧ w = w' := (in_any (tb.getD k 0) 0 30 w).mono (fun e w' h => ⟨h.1, h.2.symm⟩)
      rw [ha]
      clear ia
      generalize tb.getD k 0 = q at *
      generalize inB q 0 30 = mb at *
      cases mb
      · go_wp2_with (go_at_call 9; refine hm.mono ?_; rintro e w2 ⟨rfl, rfl⟩)
        go_ret
        exact ⟨ret_bool (HX.out trivial).symm, by first | rfl | trivial⟩
      · go_wp2_with (go_at_call 9; refine hm.mono ?_; rintro e w2 ⟨rfl, rfl⟩)
        exact ⟨⟨k + 1, by omega, by go_num, by rw [HN.out, HF.out]; rfl, by first | rfl | trivial⟩, by simp [intOf]; omega⟩
    · have hle : (tb.length : Int) ≤ (k : Int) := by omega
      have HE : Hid (alB 0 30 tb = true) := by have := HF.out; rwa [List.take_of_length_le (by omega)] at this
      go_wp2
      go_ret
      exact ⟨ret_bool HE.out.symm, by first | rfl | trivial⟩
theorem read_one {B : Nat} {w W : World} {g : Option Addr} {L : List Int} (h : Own2 B w g L) (hb : Below w.heap.size w W) {k : Nat} (hk : k < L.length) : ∃ b, g = some ⟨b, 0, none⟩ ∧ b < w.heap.size ∧ ∀ W, Below w.heap.size w W → W.cell? ⟨b, k, none⟩ = some (.int .i64 (gF L k)) := by
  rcases h with h | ⟨b, hg, hB, hlt, hi, hf⟩
  · rw [h] at hk; simp at hk
  · refine ⟨b, hg, hlt, fun W hW => ?_⟩
    have := hi k hk
    rw [Nat.zero_add] at this
    exact (hW.cell (p := ⟨b, k, none⟩) hlt).trans this
set_option maxHeartbeats 8000000 in
set_option maxRecDepth 4000 in
theorem l16Odds_any (a : Option Addr) (ca : Nat) (tb : List Int) (d : Nat) (hr1 : OdR tb (d : Int)) (w : World) (hr : Reads w.heap.size w a tb) :
    Calls Try.prog 10 #[.slice a tb.length ca, .int .i64 (d : Int)] w (AnsV w (odD tb d)) := by
  obtain ⟨l1, l2, al, d1, d2⟩ := hr1
  have hm := al_mem al
  have HT0 := gF_nonneg (fun x hx => (hm x hx).1)
  have HTb : Hid (∀ j, j < tb.length → 0 ≤ gF tb j ∧ gF tb j ≤ 30) := fun j hj => getD_bound hm j hj
  have HLn : Hid (∀ k, k < d → 1 ≤ (odD tb k).length ∧ (odD tb k).length ≤ 61) := fun k hk => od_len_le l1 l2 (by omega)
  have HOb : Hid (∀ t k, t < d → k < (odD tb t).length → 0 ≤ gF (odD tb t) k ∧ gF (odD tb t) k ≤ 9022419900000) := fun t k ht hk => by
    have HO0 := gF_nonneg (odD_nonneg (fun x hx => (hm x hx).1) t)
    have st := sL_table al l2
    have p2 := pw_bound st.1 st.2 t
    have b2 := bnd_five t (by omega)
    have h1 := sN_at HO0 hk
    have h2 : sN (gF (odD tb t)) (odD tb t).length = pwI (sL tb) t := sL_od l1 t
    rw [h2] at h1
    exact ⟨HO0 k, by omega⟩
  have HCb : Hid (∀ t k j p, t < d → k < (odD tb t).length → j ≤ tb.length → p < (odD tb t).length + tb.length - 1 → 0 ≤ adR (gF (odD tb t) k) (gF tb) k (cvR (gF (odD tb t)) (gF tb) tb.length k) j p ∧ adR (gF (odD tb t) k) (gF tb) k (cvR (gF (odD tb t)) (gF tb) tb.length k) j p ≤ 9022419900000) := fun t k j p ht hk hj hp => by
    have HO0 := gF_nonneg (odD_nonneg (fun x hx => (hm x hx).1) t)
    have st := sL_table al l2
    have p2 := pw_bound st.1 st.2 (t + 1)
    have b2 := bnd_five (t + 1) (by omega)
    have h1 := cell_bound (n := (odD tb t).length + tb.length - 1) HO0 HT0 hk hj (by omega) p hp
    have h2 : sN (gF (odD tb t)) (odD tb t).length * sN (gF tb) tb.length = pwI (sL tb) (t + 1) := by rw [show sN (gF (odD tb t)) (odD tb t).length = pwI (sL tb) t from sL_od l1 t]; rfl
    rw [h2] at h1
    exact ⟨h1.1, by omega⟩
  have H0 : Hid (Own2 w.heap.size (w.alloc (Obj.cells #[.int .i64 1] 3)) (some ⟨w.heap.size, 0, none⟩) (odD tb 0)) := own2_one w 1
  have HB0 : Hid (Below w.heap.size w (w.alloc (Obj.cells #[.int .i64 1] 3))) := below_alloc _ _
  have HL0 : Hid ((odD tb 0).length = 1) := rfl
  have HR : Hid (Reads w.heap.size w a tb) := hr
  clear hr hm al HT0
  have hd5 : d ≤ 5 := by omega
  clear d1 d2
  go_enter Try.func10, Try.ntmps10
  go_wp2_with fail
  generalize w.alloc (Obj.cells #[.int .i64 1] 3) = W1 at *
  go_loopw [1, 5, 6, 7, 8] (fun dv v _ _ _ wr => ∃ (t r : Nat) (g : Option Addr) (cp : Nat), t + r = d ∧ dv = .int .i64 (r : Int) ∧ v = .slice g (odD tb t).length cp ∧ Own2 w.heap.size wr g (odD tb t) ∧ Below w.heap.size w wr) (fun dv _ _ _ _ _ => (intOf dv).toNat)
  case atStart => exact ⟨0, d, _, _, by omega, rfl, by rw [HL0.out], H0.out, HB0.out⟩
  case round =>
    clear H0 HB0 HL0
    obtain ⟨t, r, g, cp, htr, rfl, rfl, ho, hb⟩ := hrel
    obtain ⟨W0, hW0⟩ : ∃ W0, W0 = wr := ⟨_, rfl⟩
    rw [← hW0] at ho hb ⊢
    clear hW0
    have HO : Hid (Own2 w.heap.size W0 g (odD tb t)) := ho
    have HB : Hid (Below w.heap.size w W0) := hb
    have HTR : Hid (t + r = d) := htr
    clear ho hb htr
    by_cases hlt : 0 < r
    · have hlt' : (0 : Int) < (r : Int) := by omega
      have HR1 : Hid (1 ≤ r) := hlt
      have htd : t < d := by have := HTR.out; omega
      have hlen := HLn.out t htd
      have HOb2 : Hid (∀ k, k < (odD tb t).length → 0 ≤ gF (odD tb t) k ∧ gF (odD tb t) k ≤ 9022419900000) := fun k => HOb.out t k htd
      have HCb2 : Hid (∀ k j p, k < (odD tb t).length → j ≤ tb.length → p < (odD tb t).length + tb.length - 1 → 0 ≤ adR (gF (odD tb t) k) (gF tb) k (cvR (gF (odD tb t)) (gF tb) tb.length k) j p ∧ adR (gF (odD tb t) k) (gF tb) k (cvR (gF (odD tb t)) (gF tb) tb.length k) j p ≤ 9022419900000) := fun k j p => HCb.out t k j p htd
      have HNx : Hid (odD tb (t + 1) = cvL (odD tb t) tb) := rfl
      obtain ⟨od, hod⟩ : ∃ od, od = odD tb t := ⟨_, rfl⟩
      rw [← hod] at hlen HOb2 HCb2 HNx HO ⊢
      clear hod
      obtain ⟨n, hn⟩ : ∃ n : Nat, n = od.length + tb.length - 1 := ⟨_, rfl⟩
      rw [← hn] at HCb2
      have hmk := fun w => run_make_row' (P := Try.prog) 22 3 (.int .i64 0) 8 Try.underlying22 intInfo rfl .i64 .i64 n (by omega) (by omega) w
      have hwr : IntKind.i64.wrap ((od.length : Int) + (tb.length : Int)) = (od.length : Int) + (tb.length : Int) := wrap_id _ (by omega) (by omega)
      have hwr2 : IntKind.i64.wrap ((od.length : Int) + (tb.length : Int) - 1) = (n : Int) := by rw [wrap_id _ (by omega) (by omega)]; omega
      have HLen : Hid ((odD tb (t + 1)).length = n) := by show _ = _; rw [HNx.out, cvL_length, hn]
      have HFin : Hid (∀ i, i < n → cvR (gF od) (gF tb) tb.length od.length i = gF (odD tb (t + 1)) i) := fun i hi => by rw [HNx.out]; exact (cvL_at od tb (by omega)).symm
      have H0 : Hid (RqSt W0 W0.heap.size n (cvR (gF od) (gF tb) tb.length 0) (W0.alloc (Obj.cells (madeCells #[.int .i64 0] n) 3))) := RqSt.made W0 n
      obtain ⟨nb, hnb⟩ : ∃ nb, nb = W0.heap.size := ⟨_, rfl⟩
      have HNB : Hid (nb = W0.heap.size) := hnb
      have HSum : Hid (od.length + tb.length = n + 1) := by show _ = _; omega
      clear hnb hn HNx
      have hln : n ≤ 112 := by have := HSum.out; omega
      go_upto_region 6 with fail
      rw [← HNB.out] at H0 ⊢
      clear hmk hwr hwr2
      generalize W0.alloc (Obj.cells (madeCells #[.int .i64 0] n) 3) = W2 at *
      go_loopw [7, 8] (fun c _ wr => ∃ k : Nat, k ≤ od.length ∧ c = .int .i64 (k : Int) ∧ RqSt W0 nb n (cvR (gF od) (gF tb) tb.length k) wr) (fun c _ _ => od.length - (intOf c).toNat)
      case atStart => exact ⟨0, Nat.zero_le _, rfl, H0.out⟩
      case round =>
        clear H0
        obtain ⟨k, hk, rfl, hst⟩ := hrel
        have HS : Hid (RqSt W0 nb n (cvR (gF od) (gF tb) tb.length k) wr) := hst
        clear hst
        by_cases hkl : k < od.length
        · have hkl' : (k : Int) < (od.length : Int) := by omega
          obtain ⟨b0, hg, hb0, hcd⟩ := read_one HO.out (Below.refl _ _) hkl
          have HC0 : Hid (∀ W, Below W0.heap.size W0 W → W.cell? ⟨b0, k, none⟩ = some (.int .i64 (gF od k))) := hcd
          have hx := HOb2.out k hkl
          have HS1 : Hid (RqSt W0 nb n (adR (gF od k) (gF tb) k (cvR (gF od) (gF tb) tb.length k) 0) wr) := HS.out
          have HS2 : Hid (∀ W, RqSt W0 nb n (adR (gF od k) (gF tb) k (cvR (gF od) (gF tb) tb.length k) tb.length) W → RqSt W0 nb n (cvR (gF od) (gF tb) tb.length (k + 1)) W) := fun W h => h
          have HC2 : Hid (∀ j p, j ≤ tb.length → p < n → 0 ≤ adR (gF od k) (gF tb) k (cvR (gF od) (gF tb) tb.length k) j p ∧ adR (gF od k) (gF tb) k (cvR (gF od) (gF tb) tb.length k) j p ≤ 9022419900000) := fun j p => HCb2.out k j p hkl
          subst hg
          clear HS hcd
          generalize cvR (gF od) (gF tb) tb.length k = f0 at *
          generalize gF od k = x at *
          go_upto_region 9 with fail
          go_loopw [8] (fun c wj => ∃ j : Nat, j ≤ tb.length ∧ c = .int .i64 (j : Int) ∧ RqSt W0 nb n (adR x (gF tb) k f0 j) wj) (fun c _ => tb.length - (intOf c).toNat)
          case atStart => exact ⟨0, Nat.zero_le _, rfl, HS1.out⟩
          case round =>
            clear HS1
            obtain ⟨j, hj, rfl, hst⟩ := hrel
            obtain ⟨wj, hwj⟩ : ∃ wj, wj = wr := ⟨_, rfl⟩
            rw [← hwj] at hst ⊢
            clear hwj
            have HS : Hid (RqSt W0 nb n (adR x (gF tb) k f0 j) wj) := hst
            clear hst
            by_cases hjl : j < tb.length
            · have hjl' : (j : Int) < (tb.length : Int) := by omega
              rcases HR.out with h | ⟨b1, o1, hbb, hB1, ib⟩
              · rw [h] at hjl; simp at hjl
              have hp : k + j < n := by have := HSum.out; omega
              have hy := HTb.out j hjl
              have hz := HC2.out j (k + j) (by omega) hp
              have m1 : 0 ≤ x * gF tb j := Int.mul_nonneg hx.1 hy.1
              have m2 : x * gF tb j ≤ x * 30 := Int.mul_le_mul_of_nonneg_left hy.2 hx.1
              have HQ : Hid (∀ W, Below wj.heap.size wj W → W.cell? ⟨b0, k, none⟩ = some (.int .i64 x) ∧ W.cell? ⟨b1, o1 + j, none⟩ = some (.int .i64 (gF tb j)) ∧ W.cell? ⟨nb, k + j, none⟩ = some (.int .i64 (adR x (gF tb) k f0 j (k + j))) ∧ W.frozen? ⟨nb, k + j, none⟩ = false ∧ RqSt W0 nb n (adR x (gF tb) k f0 (j + 1)) (W.setCell ⟨nb, k + j, none⟩ (.int .i64 (adR x (gF tb) k f0 j (k + j) + x * gF tb j)))) := fun W hW => by
                have h1 := HS.out.later hW
                exact ⟨HC0.out W h1.bel, (ib.below (chain HB.out h1.bel) hB1) j hjl, h1.row.cell (i := k + j) hp, h1.row.frozen _, h1.put (k + j) _⟩
              rw [hbb]
              clear ib HS
              generalize adR x (gF tb) k f0 j (k + j) = z at *
              have e0 : IntKind.i64.wrap ((k : Int) + (j : Int)) = ((k + j : Nat) : Int) := by rw [wrap_id _ (by omega) (by omega)]; omega
              have e1 : IntKind.i64.wrap (x * gF tb j) = x * gF tb j := wrap_id _ (by omega) (by omega)
              have e2 : IntKind.i64.wrap (z + x * gF tb j) = z + x * gF tb j := wrap_id _ (by omega) (by omega)
              have hp' : ((k + j : Nat) : Int) < (n : Int) := by omega
              generalize gF tb j = y at *
              generalize hkj : k + j = p at *
              go_upto_region 11 with fail
              refine wp_region_z (S := fun W' => Below wj.heap.size wj W') 17 (by kernel_rfl) (below_drew _) (fun hH => ?_)
              refine wpAnyZ_take (i := 0) (v := .slice (some ⟨nb, 0, none⟩) n n) rfl (by kernel_rfl) (by kernel_rfl) (by kernel_rfl) (by kernel_rfl) (fun _ _ _ h => h) (Or.inl ⟨by rfl, fun w hSw => by clear hSw; go_simp⟩) hH ?_
              refine wpAnyZ_take (i := 1) (v := .int .i64 (k : Int)) rfl (by kernel_rfl) (by kernel_rfl) (by kernel_rfl) (by kernel_rfl) (fun _ _ _ h => h) (Or.inl ⟨by rfl, fun w hSw => by clear hSw; go_simp⟩) hH ?_
              try simp only [Act.put, List.setIfInBounds_toArray, List.set_cons_zero, List.set_cons_succ, List.getElem_toArray, List.getElem_cons_succ, List.getElem_cons_zero]
              refine wpAnyZ_take (i := 2) (v := .int .i64 (j : Int)) rfl (by kernel_rfl) (by kernel_rfl) (by kernel_rfl) (by kernel_rfl) (fun _ _ _ h => h) (Or.inl ⟨by rfl, fun w hSw => by clear hSw; go_simp⟩) hH ?_
              try simp only [Act.put, List.setIfInBounds_toArray, List.set_cons_zero, List.set_cons_succ, List.getElem_toArray, List.getElem_cons_succ, List.getElem_cons_zero]
              refine wpAnyZ_take (i := 3) (v := .int .i64 (p : Int)) rfl (by kernel_rfl) (by kernel_rfl) (by kernel_rfl) (by kernel_rfl) (fun _ _ _ h => h) (Or.inl ⟨by rfl, fun w hSw => by clear hSw; go_simp⟩) hH ?_
              try simp only [Act.put, List.setIfInBounds_toArray, List.set_cons_zero, List.set_cons_succ, List.getElem_toArray, List.getElem_cons_succ, List.getElem_cons_zero]
              refine wpAnyZ_take (i := 4) (v := .pointer (some ⟨nb, p, none⟩)) rfl (by kernel_rfl) (by kernel_rfl) (by kernel_rfl) (by kernel_rfl) (fun _ _ _ h => h) (Or.inl ⟨by rfl, fun w hSw => by clear hSw; go_simp⟩) hH ?_
              try simp only [Act.put, List.setIfInBounds_toArray, List.set_cons_zero, List.set_cons_succ, List.getElem_toArray, List.getElem_cons_succ, List.getElem_cons_zero]
              refine wpAnyZ_take (i := 5) (v := .int .i64 z) rfl (by kernel_rfl) (by kernel_rfl) (by kernel_rfl) (by kernel_rfl) (fun _ _ _ h => h) (Or.inl ⟨by rfl, fun w hSw => by have f0 := (HQ.out w hSw).2.2.1; clear hSw; go_simp⟩) hH ?_
              try simp only [Act.put, List.setIfInBounds_toArray, List.set_cons_zero, List.set_cons_succ, List.getElem_toArray, List.getElem_cons_succ, List.getElem_cons_zero]
              refine wpAnyZ_take (i := 6) (v := .slice (some ⟨b0, 0, none⟩) od.length cp) rfl (by kernel_rfl) (by kernel_rfl) (by kernel_rfl) (by kernel_rfl) (fun _ _ _ h => h) (Or.inl ⟨by rfl, fun w hSw => by clear hSw; go_simp⟩) hH ?_
              try simp only [Act.put, List.setIfInBounds_toArray, List.set_cons_zero, List.set_cons_succ, List.getElem_toArray, List.getElem_cons_succ, List.getElem_cons_zero]
              refine wpAnyZ_take (i := 7) (v := .int .i64 (k : Int)) rfl (by kernel_rfl) (by kernel_rfl) (by kernel_rfl) (by kernel_rfl) (fun _ _ _ h => h) (Or.inl ⟨by rfl, fun w hSw => by clear hSw; go_simp⟩) hH ?_
              try simp only [Act.put, List.setIfInBounds_toArray, List.set_cons_zero, List.set_cons_succ, List.getElem_toArray, List.getElem_cons_succ, List.getElem_cons_zero]
              refine wpAnyZ_take (i := 8) (v := .pointer (some ⟨b0, k, none⟩)) rfl (by kernel_rfl) (by kernel_rfl) (by kernel_rfl) (by kernel_rfl) (fun _ _ _ h => h) (Or.inl ⟨by rfl, fun w hSw => by clear hSw; go_simp⟩) hH ?_
              try simp only [Act.put, List.setIfInBounds_toArray, List.set_cons_zero, List.set_cons_succ, List.getElem_toArray, List.getElem_cons_succ, List.getElem_cons_zero]
              refine wpAnyZ_take (i := 9) (v := .int .i64 x) rfl (by kernel_rfl) (by kernel_rfl) (by kernel_rfl) (by kernel_rfl) (fun _ _ _ h => h) (Or.inl ⟨by rfl, fun w hSw => by have f0 := (HQ.out w hSw).1; clear hSw; go_simp⟩) hH ?_
              try simp only [Act.put, List.setIfInBounds_toArray, List.set_cons_zero, List.set_cons_succ, List.getElem_toArray, List.getElem_cons_succ, List.getElem_cons_zero]
              refine wpAnyZ_take (i := 10) (v := .slice (some ⟨b1, o1, none⟩) tb.length ca) rfl (by kernel_rfl) (by kernel_rfl) (by kernel_rfl) (by kernel_rfl) (fun _ _ _ h => h) (Or.inl ⟨by rfl, fun w hSw => by clear hSw; go_simp⟩) hH ?_
              try simp only [Act.put, List.setIfInBounds_toArray, List.set_cons_zero, List.set_cons_succ, List.getElem_toArray, List.getElem_cons_succ, List.getElem_cons_zero]
              refine wpAnyZ_take (i := 11) (v := .int .i64 (j : Int)) rfl (by kernel_rfl) (by kernel_rfl) (by kernel_rfl) (by kernel_rfl) (fun _ _ _ h => h) (Or.inl ⟨by rfl, fun w hSw => by clear hSw; go_simp⟩) hH ?_
              try simp only [Act.put, List.setIfInBounds_toArray, List.set_cons_zero, List.set_cons_succ, List.getElem_toArray, List.getElem_cons_succ, List.getElem_cons_zero]
              refine wpAnyZ_take (i := 12) (v := .pointer (some ⟨b1, o1 + j, none⟩)) rfl (by kernel_rfl) (by kernel_rfl) (by kernel_rfl) (by kernel_rfl) (fun _ _ _ h => h) (Or.inl ⟨by rfl, fun w hSw => by clear hSw; go_simp⟩) hH ?_
              try simp only [Act.put, List.setIfInBounds_toArray, List.set_cons_zero, List.set_cons_succ, List.getElem_toArray, List.getElem_cons_succ, List.getElem_cons_zero]
              refine wpAnyZ_take (i := 13) (v := .int .i64 y) rfl (by kernel_rfl) (by kernel_rfl) (by kernel_rfl) (by kernel_rfl) (fun _ _ _ h => h) (Or.inl ⟨by rfl, fun w hSw => by have f0 := (HQ.out w hSw).2.1; clear hSw; go_simp⟩) hH ?_
              try simp only [Act.put, List.setIfInBounds_toArray, List.set_cons_zero, List.set_cons_succ, List.getElem_toArray, List.getElem_cons_succ, List.getElem_cons_zero]
              refine wpAnyZ_take (i := 14) (v := .int .i64 (x * y)) rfl (by kernel_rfl) (by kernel_rfl) (by kernel_rfl) (by kernel_rfl) (fun _ _ _ h => h) (Or.inl ⟨by rfl, fun w hSw => by clear hSw; go_simp⟩) hH ?_
              try simp only [Act.put, List.setIfInBounds_toArray, List.set_cons_zero, List.set_cons_succ, List.getElem_toArray, List.getElem_cons_succ, List.getElem_cons_zero]
              refine wpAnyZ_take (i := 15) (v := .int .i64 (z + x * y)) rfl (by kernel_rfl) (by kernel_rfl) (by kernel_rfl) (by kernel_rfl) (fun _ _ _ h => h) (Or.inl ⟨by rfl, fun w hSw => by clear hSw; go_simp⟩) hH ?_
              try simp only [Act.put, List.setIfInBounds_toArray, List.set_cons_zero, List.set_cons_succ, List.getElem_toArray, List.getElem_cons_succ, List.getElem_cons_zero]
              refine wpAnyZ_take (i := 16) (v := .pointer (some ⟨nb, p, none⟩)) rfl (by kernel_rfl) (by kernel_rfl) (by kernel_rfl) (by kernel_rfl) (fun _ _ _ h => h) (Or.inl ⟨by rfl, fun w hSw => by clear hSw; go_simp⟩) hH ?_
              try simp only [Act.put, List.setIfInBounds_toArray, List.set_cons_zero, List.set_cons_succ, List.getElem_toArray, List.getElem_cons_succ, List.getElem_cons_zero]
              refine wpAnyZ_ready (rs := [17]) (by kernel_rfl) (by simp) ?_
              refine AllReadyZ.cons rfl (fun K hK => ?_) AllReadyZ.nil
              have y0 := (HQ.out _ hH).2.2.1
              have y1 := (HQ.out _ hH).2.2.2.1
              have HP : Hid (RqSt W0 nb n (adR x (gF tb) k f0 (j + 1)) (wj.drew.setCell ⟨nb, p, none⟩ (.int .i64 (z + x * y)))) := (HQ.out _ hH).2.2.2.2
              clear HQ hH
              go_simp
              refine hK.out _ _ (Or.inl rfl) (fun _ => ?_)
              clear hK K
              try simp only [Act.put, List.setIfInBounds_toArray, List.set_cons_zero, List.set_cons_succ, List.getElem_toArray, List.getElem_cons_succ, List.getElem_cons_zero]
              refine wpAnyZ_done (by kernel_rfl) ?_ _
              clear y0 y1
              rw [show wj.drew.setCell ⟨nb, p, none⟩ (.int .i64 (z + x * y)) = (wj.setCell ⟨nb, p, none⟩ (.int .i64 (z + x * y))).drew from by first | rfl | simp] at HP
              generalize (wj.setCell ⟨nb, p, none⟩ (.int .i64 (z + x * y))).drew = wz at *
              go_wp2_with fail
              go_roundw
              case rel => exact ⟨j + 1, by omega, by go_num, HP.out⟩
              case measure => simp [intOf]; omega
            · have hjl' : ¬ (j : Int) < (tb.length : Int) := by omega
              obtain rfl : j = tb.length := by omega
              have HN : Hid (RqSt W0 nb n (cvR (gF od) (gF tb) tb.length (k + 1)) wj) := HS2.out _ HS.out
              clear HS
              go_wp2_with fail
              go_roundw
              case rel => exact ⟨k + 1, by omega, by go_num, HN.out⟩
              case measure => simp [intOf]; omega
        · have hkl' : ¬ (k : Int) < (od.length : Int) := by omega
          obtain rfl : k = od.length := by omega
          have HN : Hid (Own2 w.heap.size wr (some ⟨nb, 0, none⟩) (odD tb (t + 1)) ∧ Below w.heap.size w wr) := ⟨own2_mono (HS.out.own2 HLen.out.symm HFin.out) HB.out.size, chain HB.out HS.out.bel⟩
          have hrr : IntKind.i64.wrap ((r : Int) - 1) = ((r - 1 : Nat) : Int) := by have := HR1.out; have := HTR.out; rw [wrap_id _ (by omega) (by omega)]; omega
          clear HS
          go_wp2_with fail
          go_roundw
          case rel => exact ⟨t + 1, r - 1, some ⟨nb, 0, none⟩, n, by have := HTR.out; have := HR1.out; omega, rfl, by rw [HLen.out], HN.out.1, HN.out.2⟩
          case measure => have := HR1.out; simp [intOf]; omega
    · obtain rfl : r = 0 := by omega
      have htd : t = d := by have := HTR.out; omega
      subst htd
      go_wp2_with fail
      go_ret
      exact ⟨g, cp, rfl, HO.out, HB.out⟩
end Go.Proofs.Ytjdjopikljdigab

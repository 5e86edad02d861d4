/-
  Contract of the specification's Share where it answers no code.
-/
import Derived.Test.YtaledfdhiimhdahShareE
namespace Go.Proofs.Ytaledfdhiimhdah
open Go.ChangeShapes Go.WideShapes Go.ChangeAt Go.RowKit
set_option linter.unusedVariables false

theorem take_map_get {P : List Int} {k : Nat} (h : k < P.length) : ((P.take (k + 1)).map (Value.int .i64))[k]? = some (.int .i64 (P.getD k 0)) := by
  rw [List.getElem?_map, List.getElem?_take_of_lt (by omega), List.getElem?_eq_getElem h, getD_int h]; rfl

theorem map_get {P : List Int} {k : Nat} (h : k < P.length) : (P.map (Value.int .i64))[k]? = some (.int .i64 (P.getD k 0)) := by
  rw [List.getElem?_map, List.getElem?_eq_getElem h, getD_int h]; rfl

theorem sum_nonneg' (l : List Int) (h : ∀ i, i < l.length → 0 ≤ l.getD i 0) : 0 ≤ l.sum := by
  induction l with
  | nil => simp
  | cons x l ih =>
    have h0 := h 0 (by simp)
    have h1 := ih fun i hi => by have := h (i + 1) (by simpa using hi); simpa using this
    simp only [List.sum_cons]
    have : 0 ≤ x := by simpa using h0
    omega
theorem kin_self (R : List Int) (h : ∀ i, i < R.length → 0 ≤ R.getD i 0) : Kin R R := ⟨rfl, fun i hi => .inl ⟨rfl, h i hi⟩⟩
/-- The rests by S are what is left. -/
theorem rests_sum (z S : Int) (hS : 0 < S) : ∀ ws : List Int, (r0 z S ws).sum = z * ws.sum - (p0 z S ws).sum * S
  | [] => by simp [r0, p0]
  | x :: ws => by
    have ih := rests_sum z S hS ws
    unfold r0 p0 at *
    simp only [List.map_cons, List.sum_cons]
    rw [ih, Int.mul_add, Int.add_mul]
    have h1 := Int.emod_def (z * x) S
    have h2 := Int.mul_comm S (z * x / S)
    omega

set_option maxHeartbeats 8000000 in
theorem specShare_ok (a : Option Addr) (cap : Nat) (ws : List Int) (n : Int) (B : Nat) (w : World) (hBw : w.heap.size = B) (hr : Reads B w a ws) (hok : shCode n ws = 0) :
    Calls Try.prog 17 #[.int .i64 n, .slice a ws.length cap] w fun e w' => ∃ g cp, e = .returned (.tuple #[.slice (some ⟨g, 0, none⟩) ws.length cp, .int .i64 0]) ∧ B ≤ g ∧ w'.ownsRow B 3 1 (.slice (some ⟨g, 0, none⟩) ws.length cp) ws.length ((shList n ws).map (Value.int .i64)) ∧ Below B w w' := by
  have HR : Hid (Reads B w a ws) := hr
  have HX : Hid (shCode n ws = 0) := hok
  clear hr
  obtain ⟨hA, hW, hz0, h4⟩ : amtB n = true ∧ wsOK ws = true ∧ ws.sum ≠ 0 ∧ ws.length ≤ 4096 := by
    unfold shCode at hok
    split at hok
    · cases hok
    · split at hok
      · rename_i h1 h2
        split at hok
        · cases hok
        · exact ⟨h2.1, h2.2, by assumption, by omega⟩
      · cases hok
  clear hok
  obtain ⟨hw, hw1, hw2⟩ := (wsOK_iff ws).mp hW
  have HWs : Hid (∀ x ∈ ws, 0 ≤ x ∧ x ≤ 1000000) := hw
  obtain ⟨hn1, hn2⟩ := (amtB_iff n).mp hA
  clear hw
  have h1 : (1 : Int) ≤ (ws.length : Int) := by omega
  have h2 : (ws.length : Int) ≤ 60 := by omega
  go_enter Try.func17, Try.ntmps17
  go_wp2_with (go_at_call 28; refine (specMoney_any _ _).mono ?_; rintro e w' ⟨rfl, hw'⟩; rw [hA, hw']; clear hw')
  go_loop [6, 7] (fun t c => ∃ k : Nat, k ≤ ws.length ∧ c = .int .i64 (k : Int) ∧ t = .int .i64 (ws.take k).sum) (fun _ c => ws.length - (intOf c).toNat)
  case atStart => exact ⟨0, Nat.zero_le _, rfl, rfl⟩
  case round =>
    obtain ⟨k, hk, rfl, rfl⟩ := hrel
    obtain ⟨hs1, hs2⟩ := sum_range ws HWs.out k
    have hk6 : (k : Int) * 1000000 ≤ 60000000 := by omega
    by_cases hlt : k < ws.length
    · have hlt' : (k : Int) < (ws.length : Int) := by omega
      rcases HR.out with h | ⟨b0, o0, ha, hB0, ia⟩
      · rw [h] at hlt; simp at hlt
      have c0 := ia k hlt
      have hx' := HWs.out (ws.getD k 0) (by rw [getD_int hlt]; exact List.getElem_mem _)
      have HN : Hid ((ws.take (k + 1)).sum = (ws.take k).sum + ws.getD k 0) := sum_next ws k hlt
      rw [ha]
      generalize ws.getD k 0 = x at *
      clear ia ha
      have hx : inB x 0 1000000 = true := by simpa [inB] using hx'
      obtain ⟨hx1, hx2⟩ := hx'
      go_wp2_with (go_at_call 27; refine (in_any _ _ _ _).mono ?_; rintro e w' ⟨rfl, hw'⟩; rw [hx, hw']; clear hw')
      go_round
      case rel => exact ⟨k + 1, by omega, by go_num, by rw [HN.out]; try go_num⟩
      case measure => simp [intOf]; omega
    · have hs : ws.take k = ws := by rw [List.take_of_length_le (by omega)]
      have hkl : (ws.length : Int) ≤ (k : Int) := by omega
      rw [hs] at hs1 hs2 ⊢
      have hS1 : 1 ≤ ws.sum := by omega
      have hS2 : ws.sum ≤ 60000000 := by omega
      have hS0 : (ws.sum == 0) = false := by simpa using hz0
      clear hs hs1 hs2 hk6
      have HP : Hid (∀ i, i < ws.length → (p0 (n.natAbs : Int) ws.sum ws).getD i 0 = (n.natAbs : Int) * ws.getD i 0 / ws.sum ∧ (r0 (n.natAbs : Int) ws.sum ws).getD i 0 = (n.natAbs : Int) * ws.getD i 0 % ws.sum) := fun i hi => (p0_next _ _ _ i hi).2
      generalize hSg : ws.sum = S at *
      obtain ⟨z, hz⟩ : ∃ z, z = (n.natAbs : Int) := ⟨_, rfl⟩
      rw [← hz] at HP
      have hz1 : 0 ≤ z := by omega
      have hz2 : z ≤ 1000000000 := by omega
      obtain ⟨i0, hi, hi0, hi1, hi2⟩ := info_parts intInfo
      by_cases hneg : n < 0
      all_goals
        go_wp2
      case' _ =>
        rw [show -n = z by omega]
      rotate_left
      case' _ =>
        rw [show n = z by omega]
      all_goals
        have HZ : Hid (z = (n.natAbs : Int)) := hz
        clear hkl hlt hk hz
        go_loopw [10, 11, 12, 13] (fun v10 v11 l c wr => ∃ k : Nat, k ≤ ws.length ∧ c = .int .i64 (k : Int) ∧ l = .int .i64 (z - ((p0 z S ws).take k).sum) ∧ Two w B v10 v11 k k (p0 z S ws) (r0 z S ws) wr) (fun _ _ _ c _ => ws.length - (intOf c).toNat)
        case atStart => exact ⟨0, Nat.zero_le _, rfl, by simp, Two.start w B hBw _ _⟩
        case round =>
          obtain ⟨k, hk, rfl, rfl, hTwo⟩ := hrel
          have HG : Hid (Two w B u10 u11 k k (p0 z S ws) (r0 z S ws) wr) := hTwo
          clear hTwo
          obtain ⟨hs1, hs2⟩ := sum_take_bound z S ws k hz1 hS1 HWs.out
          by_cases hlt : k < ws.length
          · have hlt' : (k : Int) < (ws.length : Int) := by omega
            rcases HR.out with h | ⟨b0, o0, ha, hB0, ia⟩
            · rw [h] at hlt; simp at hlt
            have c0 := (ia.below HG.out.2.2.2.2 hB0) k hlt
            have hx := HWs.out (ws.getD k 0) (by rw [getD_int hlt]; exact List.getElem_mem _)
            have HN : Hid (((p0 z S ws).take (k + 1)).sum = ((p0 z S ws).take k).sum + z * ws.getD k 0 / S ∧ (p0 z S ws).getD k 0 = z * ws.getD k 0 / S ∧ (r0 z S ws).getD k 0 = z * ws.getD k 0 % S) := p0_next z S ws k hlt
            rw [ha]
            obtain ⟨hy1, hy2⟩ := mul_range z (ws.getD k 0) hz1 hz2 hx.1 hx.2
            have HI : Hid (IntsAt w b0 o0 ws) := ia
            obtain ⟨x, hxk⟩ : ∃ x, ws.getD k 0 = x := ⟨_, rfl⟩
            rw [hxk] at c0 hx HN hy1 hy2
            have HXk : Hid (ws.getD k 0 = x) := hxk
            generalize hzx : z * x = y at *
            clear ia ha hxk
            have hk6 : (k : Int) * (z * 1000000) ≤ 60 * (z * 1000000) := Int.mul_le_mul_of_nonneg_right (by omega) (by omega)
            have htd : y.tdiv S = y / S := Int.tdiv_eq_ediv_of_nonneg hy1
            have htm : y.tmod S = y % S := Int.tmod_eq_emod_of_nonneg hy1
            obtain ⟨hq1, hq2⟩ := ediv_bound y S hS1 1000000000000000 (by omega) hy2
            have hq0 : 0 ≤ y / S := Int.ediv_nonneg hy1 (by omega)
            go_wp2_with (first
              | (at_builtin; refine wpList_append_lies _ rfl _ _ 34 rfl B 3 i0 (.int .i64 0) 1 8 Try.underlying34 hi hi0 hi1 hi2 rfl (by decide) _ _ _ rfl (HG.out.1.alloc _) ⟨wr.heap.size, 0, none⟩ 1 1 [.int .i64 (y / S)] rfl rfl (news_one wr _ _) (by intro u hu; simp at hu; subst hu; rfl) (by omega) (by unfold maxLen; omega) (by omega) (by have := HG.out.2.2.2.1; simp; omega) _ rfl ?_; intro g1 cp1 w1 hown1 hgrow1 hat1 hglt1; have HG1 : Hid (Two w B (.slice (some ⟨g1, 0, none⟩) (k + 1) cp1) u11 (k + 1) k (p0 z S ws) (r0 z S ws) w1) := (HG.out.alloc _).push (by unfold p0; simp; exact hlt) (by rw [HN.out.2.1]; exact hown1) hgrow1 hat1; have c1 : w1.cell? ⟨b0, o0 + k, none⟩ = some (.int .i64 x) := HXk.out ▸ (HI.out.below HG1.out.2.2.2.2 hB0) k hlt)
              | (at_builtin; refine wpList_append_lies _ rfl _ _ 34 rfl B 3 i0 (.int .i64 0) 1 8 Try.underlying34 hi hi0 hi1 hi2 rfl (by decide) _ _ _ rfl (HG1.out.2.1.alloc _) ⟨w1.heap.size, 0, none⟩ 1 1 [.int .i64 (y % S)] rfl rfl (news_one w1 _ _) (by intro u hu; simp at hu; subst hu; rfl) (by omega) (by unfold maxLen; omega) (by omega) (by have := HG1.out.2.2.2.1; simp; omega) _ rfl ?_; intro g2 cp2 w2 hown2 hgrow2 hat2 hglt2; have HG2 : Hid (Two w B (.slice (some ⟨g1, 0, none⟩) (k + 1) cp1) (.slice (some ⟨g2, 0, none⟩) (k + 1) cp2) (k + 1) (k + 1) (p0 z S ws) (r0 z S ws) w2) := ((HG1.out.swap.alloc _).push (by unfold r0; simp; exact hlt) (by rw [HN.out.2.2]; exact hown2) hgrow2 hat2).swap; have c2 : w2.cell? ⟨g1, k, none⟩ = some (.int .i64 (y / S)) := (HG2.out.1.cellAt k (by omega)).trans (by rw [← HN.out.2.1]; exact take_map_get (by unfold p0; simp; exact hlt))))
            go_round
            case rel => exact ⟨k + 1, by omega, by go_num, by rw [HN.out.1]; go_num, HG2.out⟩
            case measure => simp [intOf]; omega
          · obtain rfl : k = ws.length := by omega
            obtain ⟨g1, cp1, hv1, hBg1, hlt1⟩ := HG.out.1.form (by omega)
            obtain ⟨g2, cp2, hv2, hBg2, hlt2⟩ := HG.out.2.1.form (by omega)
            subst hv1 hv2
            have hlp : (p0 z S ws).length = ws.length := by unfold p0; simp
            have hlr : (r0 z S ws).length = ws.length := by unfold r0; simp
            have hO := HG.out
            unfold Two at hO
            rw [List.take_of_length_le (by omega), List.take_of_length_le (by omega)] at hO
            have hne : g1 ≠ g2 := fun e => hO.2.2.1 (by rw [e]; rfl)
            have HO1 : Hid (wr.ownsRow B 3 1 (.slice (some ⟨g1, 0, none⟩) ws.length cp1) ws.length ((p0 z S ws).map (Value.int .i64))) := hO.1
            have HO2 : Hid (wr.ownsRow B 3 1 (.slice (some ⟨g2, 0, none⟩) ws.length cp2) ws.length ((r0 z S ws).map (Value.int .i64))) := hO.2.1
            have HBe : Hid (B ≤ wr.heap.size ∧ Below B w wr) := hO.2.2.2
            clear hO HG
            have hk6 : (ws.length : Int) * (z * 1000000) ≤ 60 * (z * 1000000) := Int.mul_le_mul_of_nonneg_right (by omega) (by omega)
            have hLe : z - ((p0 z S ws).take ws.length).sum = leftOf z S ws := by rw [List.take_of_length_le (by omega)]; rfl
            have hl2 : z - ((p0 z S ws).take ws.length).sum ≤ 1000000000 := by omega
            have hl1 : -100000000000000000 ≤ z - ((p0 z S ws).take ws.length).sum := by omega
            rw [hLe] at hl1 hl2 ⊢
            have HLP : Hid ((p0 z S ws).length = ws.length) := hlp
            have HLR : Hid ((r0 z S ws).length = ws.length) := hlr
            have HPb : Hid (∀ i, i < ws.length → 0 ≤ (p0 z S ws).getD i 0 ∧ (p0 z S ws).getD i 0 ≤ 1000000000000000) := fun i hi => p0_bound z S ws hz1 hz2 hS1 HWs.out i hi
            clear hLe hs1 hs2 hk6 hlp hlr hlt hk
            have HR0 : Hid (∀ i, i < (r0 z S ws).length → 0 ≤ (r0 z S ws).getD i 0) := fun i hi => by rw [(p0_next z S ws i (by rw [← HLR.out]; exact hi)).2.2]; exact Int.emod_nonneg _ (by omega)
            have HR1 : Hid (∀ i, i < (r0 z S ws).length → (r0 z S ws).getD i 0 < S) := fun i hi => by rw [(p0_next z S ws i (by rw [← HLR.out]; exact hi)).2.2]; exact Int.emod_lt_of_pos _ (by omega)
            have HSum : Hid (((leftOf z S ws).toNat : Int) * S ≤ (r0 z S ws).sum) := by
              show _ ≤ _
              have e1 := rests_sum z S (by omega) ws
              rw [hSg] at e1
              have e2 : (r0 z S ws).sum = leftOf z S ws * S := by rw [e1]; unfold leftOf; rw [Int.sub_mul]
              have e3 : 0 ≤ (r0 z S ws).sum := sum_nonneg' _ HR0.out
              have e4 : 0 ≤ leftOf z S ws := by
                by_cases h : 0 ≤ leftOf z S ws
                · exact h
                · have : leftOf z S ws * S < 0 := Int.mul_neg_of_neg_of_pos (by omega) (by omega)
                  omega
              rw [e2, Int.toNat_of_nonneg e4]; exact Int.le_refl _
            go_wp2
            go_loopw [12, 14, 15] (fun l _ _ wq => ∃ (m : Int) (P R : List Int), l = .int .i64 m ∧ -100000000000000000 ≤ m ∧ m ≤ 1000000000 ∧ P.length = ws.length ∧ R.length = ws.length ∧ (∀ i, i < ws.length → 0 ≤ P.getD i 0 ∧ P.getD i 0 ≤ 1000001000000000 - m) ∧ shl (-1) m.toNat P R = shl (-1) (leftOf z S ws).toNat (p0 z S ws) (r0 z S ws) ∧ wq.ownsRow B 3 1 (.slice (some ⟨g1, 0, none⟩) ws.length cp1) ws.length (P.map (Value.int .i64)) ∧ wq.ownsRow B 3 1 (.slice (some ⟨g2, 0, none⟩) ws.length cp2) ws.length (R.map (Value.int .i64)) ∧ Below B w wq) (fun l _ _ _ => (intOf l).toNat)
            case atStart => exact ⟨_, p0 z S ws, r0 z S ws, rfl, hl1, hl2, HLP.out, HLR.out, fun i hi => by have := HPb.out i hi; omega, rfl, HO1.out, HO2.out, HBe.out.2⟩
            case round =>
              clear hl1 hl2 HLP HLR HPb HO1 HO2 HBe
              obtain ⟨m, P, R, rfl, hm1, hm2, hlp, hlr, hPb, hT, hr0, hr1, hb⟩ := hrel
              have HT : Hid (shl (-1) m.toNat P R = shl (-1) (leftOf z S ws).toNat (p0 z S ws) (r0 z S ws)) := hT
              have HLP : Hid (P.length = ws.length) := hlp
              have HLR : Hid (R.length = ws.length) := hlr
              have HPb : Hid (∀ i, i < ws.length → 0 ≤ P.getD i 0 ∧ P.getD i 0 ≤ 1000001000000000 - m) := hPb
              have H0 : Hid (wr.ownsRow B 3 1 (.slice (some ⟨g1, 0, none⟩) ws.length cp1) ws.length (P.map (Value.int .i64))) := hr0
              have H1 : Hid (wr.ownsRow B 3 1 (.slice (some ⟨g2, 0, none⟩) ws.length cp2) ws.length (R.map (Value.int .i64))) := hr1
              have HB' : Hid (Below B w wr) := hb
              clear hT hlp hlr hPb hr0 hr1 hb
              by_cases hpos : 0 < m
              · go_wp2_with fail
                go_loopw [14, 15] (fun b c wq => ∃ k : Nat, 1 ≤ k ∧ k ≤ ws.length ∧ c = .int .i64 (k : Int) ∧ b = .int .i64 (fgTo R k : Int) ∧ wq.ownsRow B 3 1 (.slice (some ⟨g1, 0, none⟩) ws.length cp1) ws.length (P.map (Value.int .i64)) ∧ wq.ownsRow B 3 1 (.slice (some ⟨g2, 0, none⟩) ws.length cp2) ws.length (R.map (Value.int .i64)) ∧ Below B w wq) (fun _ c _ => ws.length - (intOf c).toNat)
                case atStart => exact ⟨1, by omega, by omega, rfl, by rw [fgTo_next]; simp [fgTo], H0.out, H1.out, HB'.out⟩
                case round =>
                  clear H0 H1 HB'
                  obtain ⟨k, hk1, hk, rfl, rfl, hr0, hr1, hb⟩ := hrel
                  have H0 : Hid (wr.ownsRow B 3 1 (.slice (some ⟨g1, 0, none⟩) ws.length cp1) ws.length (P.map (Value.int .i64))) := hr0
                  have H1 : Hid (wr.ownsRow B 3 1 (.slice (some ⟨g2, 0, none⟩) ws.length cp2) ws.length (R.map (Value.int .i64))) := hr1
                  have HB' : Hid (Below B w wr) := hb
                  clear hr0 hr1 hb
                  by_cases hlt : k < ws.length
                  · have hlt' : (k : Int) < (ws.length : Int) := by omega
                    have hmm : fgTo R k < ws.length := by have := fgTo_lt R k (by omega); omega
                    have hmm' : (fgTo R k : Int) < (ws.length : Int) := by omega
                    have c0 : wr.cell? ⟨g2, k, none⟩ = some (.int .i64 (R.getD k 0)) := (H1.out.cellAt k (by omega)).trans (map_get (by rw [HLR.out]; exact hlt))
                    have c1 : wr.cell? ⟨g2, fgTo R k, none⟩ = some (.int .i64 (R.getD (fgTo R k) 0)) := (H1.out.cellAt _ (by omega)).trans (map_get (by rw [HLR.out]; exact hmm))
                    have HN : Hid (fgTo R (k + 1) = if R.getD (fgTo R k) 0 < R.getD k 0 then k else fgTo R k) := fgTo_next R k
                    generalize R.getD k 0 = p at *
                    generalize R.getD (fgTo R k) 0 = q at *
                    generalize fgTo R k = b at *
                    by_cases hpq : q < p
                    · have HM : Hid (fgTo R (k + 1) = k) := by show _ = _; rw [HN.out, if_pos hpq]
                      go_wp2_with fail
                      go_region
                      go_wp2
                      go_round
                      case rel => exact ⟨k + 1, by omega, by omega, by go_num, by rw [HM.out], H0.out.drew, H1.out.drew, HB'.out.drew⟩
                      case measure => simp [intOf]; omega
                    · have HM : Hid (fgTo R (k + 1) = b) := by show _ = _; rw [HN.out, if_neg hpq]
                      go_wp2_with fail
                      go_region
                      go_wp2
                      go_round
                      case rel => exact ⟨k + 1, by omega, by omega, by go_num, by rw [HM.out], H0.out.drew, H1.out.drew, HB'.out.drew⟩
                      case measure => simp [intOf]; omega
                  · obtain rfl : k = ws.length := by omega
                    have hfg : fgTo R ws.length = fg R := by unfold fg; rw [HLR.out]
                    rw [hfg]
                    clear hfg
                    have hb1 : fg R < ws.length := by rw [← HLR.out]; exact fg_lt R (by rw [HLR.out]; omega)
                    have HS : Hid (shl (-1) m.toNat P R = shl (-1) (m - 1).toNat (P.set (fg R) (P.getD (fg R) 0 + 1)) (R.set (fg R) (-1))) := by
                      show _ = _
                      have e : m.toNat = (m - 1).toNat + 1 := by omega
                      rw [e]; rfl
                    obtain ⟨hq0, hq1⟩ := HPb.out (fg R) hb1
                    generalize fg R = b at *
                    have hb' : (b : Int) < (ws.length : Int) := by omega
                    have c0 : wr.cell? ⟨g1, b, none⟩ = some (.int .i64 (P.getD b 0)) := (H0.out.cellAt b (by omega)).trans (map_get (by rw [HLP.out]; exact hb1))
                    have f0 : wr.frozen? ⟨g1, b, none⟩ = false := H0.out.frozenAt b
                    generalize hpv : P.getD b 0 = p at *
                    obtain ⟨st1, st2⟩ := H0.out.stored b (.int .i64 (p + 1))
                    have st3 := H1.out.kept st2 (.inr (by simp [Value.ownBlock]; omega))
                    obtain ⟨st4, st5⟩ := st3.stored b (.int .i64 (-1))
                    have st6 := st1.kept st5 (.inr (by simp [Value.ownBlock]; omega))
                    have c1 : (wr.setCell ⟨g1, b, none⟩ (.int .i64 (p + 1))).cell? ⟨g2, b, none⟩ = some (.int .i64 (R.getD b 0)) := (st3.cellAt b (by omega)).trans (map_get (by rw [HLR.out]; exact hb1))
                    have f1 : (wr.setCell ⟨g1, b, none⟩ (.int .i64 (p + 1))).frozen? ⟨g2, b, none⟩ = false := st3.frozenAt b
                    have HF1 : Hid (((wr.setCell ⟨g1, b, none⟩ (.int .i64 (p + 1))).setCell ⟨g2, b, none⟩ (.int .i64 (-1))).ownsRow B 3 1 (.slice (some ⟨g1, 0, none⟩) ws.length cp1) ws.length ((P.set b (p + 1)).map (Value.int .i64))) := by show World.ownsRow _ _ _ _ _ _ _; rw [List.map_set]; exact st6
                    have HF2 : Hid (((wr.setCell ⟨g1, b, none⟩ (.int .i64 (p + 1))).setCell ⟨g2, b, none⟩ (.int .i64 (-1))).ownsRow B 3 1 (.slice (some ⟨g2, 0, none⟩) ws.length cp2) ws.length ((R.set b (-1)).map (Value.int .i64))) := by show World.ownsRow _ _ _ _ _ _ _; rw [List.map_set]; exact st4
                    have HFB : Hid (Below B w ((wr.setCell ⟨g1, b, none⟩ (.int .i64 (p + 1))).setCell ⟨g2, b, none⟩ (.int .i64 (-1)))) := (HB'.out.setCell (p := ⟨g1, b, none⟩) hBg1 _).setCell (p := ⟨g2, b, none⟩) hBg2 _
                    clear st1 st2 st3 st4 st5 st6 hlt hk
                    go_wp2_with fail
                    go_round
                    case rel =>
                      refine ⟨m - 1, P.set b (p + 1), R.set b (-1), by go_num, by omega, by omega, by rw [List.length_set]; exact HLP.out, by rw [List.length_set]; exact HLR.out, fun i hi => ?_, HS.out.symm.trans HT.out, HF1.out, HF2.out, HFB.out⟩
                      rw [getD_set _ _ _ _ (by rw [HLP.out]; exact hi)]
                      have h := HPb.out i hi
                      split <;> omega
                    case measure => simp [intOf]; omega
              · have hE : P = shl (-1) (leftOf z S ws).toNat (p0 z S ws) (r0 z S ws) := by
                  rw [← HT.out, show m.toNat = 0 by omega]; rfl
                have HE : Hid (P = shAbs n ws) := by
                  show _ = _
                  rw [hE]
                  unfold shAbs
                  rw [hSg, ← HZ.out]
                  exact (shl_eq S (by omega) _ _ _ _ (kin_self _ fun i hi => HR0.out i hi) (fun i hi => HR1.out i hi) HSum.out).symm
                have HLL : Hid ((shList n ws).length = ws.length) := by show _ = _; rw [shList_ok HX.out, List.length_map, shAbs_length]
                have HG : Hid (∀ i, i < ws.length → (shList n ws).getD i 0 = sgn ((shAbs n ws).getD i 0) (decide (n < 0))) := fun i hi => shList_getD HX.out i hi
                have HBd : Hid (∀ i, i < ws.length → 0 ≤ (shAbs n ws).getD i 0 ∧ (shAbs n ws).getD i 0 ≤ 1000001000000000) := fun i hi => shAbs_bound n ws hn1 hn2 (by rw [hSg]; exact hS1) hw1 HWs.out i hi
                clear hE
                go_wp2
                go_loopw [16] (fun c wq => ∃ (k : Nat) (L : List Int), k ≤ ws.length ∧ c = .int .i64 (k : Int) ∧ L.length = ws.length ∧ (∀ i, i < ws.length → L.getD i 0 = if i < k then (shList n ws).getD i 0 else (shAbs n ws).getD i 0) ∧ wq.ownsRow B 3 1 (.slice (some ⟨g1, 0, none⟩) ws.length cp1) ws.length (L.map (Value.int .i64)) ∧ Below B w wq) (fun c _ => ws.length - (intOf c).toNat)
                case atStart => exact ⟨0, P, Nat.zero_le _, rfl, HLP.out, fun i hi => by rw [if_neg (by omega), HE.out], H0.out, HB'.out⟩
                case round =>
                  clear H0 H1 HB' HPb HT HLP HLR HE
                  obtain ⟨k, L, hk, rfl, hll, hL, hr0, hb⟩ := hrel
                  have HLn : Hid (L.length = ws.length) := hll
                  have HLg : Hid (∀ i, i < ws.length → L.getD i 0 = if i < k then (shList n ws).getD i 0 else (shAbs n ws).getD i 0) := hL
                  have H0 : Hid (wr.ownsRow B 3 1 (.slice (some ⟨g1, 0, none⟩) ws.length cp1) ws.length (L.map (Value.int .i64))) := hr0
                  have HB' : Hid (Below B w wr) := hb
                  clear hll hL hr0 hb
                  by_cases hlt : k < ws.length
                  · have hlt' : (k : Int) < (ws.length : Int) := by omega
                    have hLk := HLg.out k hlt
                    rw [if_neg (by omega)] at hLk
                    have hGk := HG.out k hlt
                    obtain ⟨hq0, hq1⟩ := HBd.out k hlt
                    have c0 : wr.cell? ⟨g1, k, none⟩ = some (.int .i64 ((shAbs n ws).getD k 0)) := (H0.out.cellAt k (by omega)).trans ((map_get (by rw [HLn.out]; exact hlt)).trans (by rw [hLk]))
                    have f0 : wr.frozen? ⟨g1, k, none⟩ = false := H0.out.frozenAt k
                    have HF0 : Hid (∀ v, v = (shList n ws).getD k 0 → (wr.setCell ⟨g1, k, none⟩ (.int .i64 v)).ownsRow B 3 1 (.slice (some ⟨g1, 0, none⟩) ws.length cp1) ws.length ((L.set k v).map (Value.int .i64)) ∧ Below B w (wr.setCell ⟨g1, k, none⟩ (.int .i64 v)) ∧ (L.set k v).length = ws.length ∧ (∀ i, i < ws.length → (L.set k v).getD i 0 = if i < k + 1 then (shList n ws).getD i 0 else (shAbs n ws).getD i 0)) := fun v hv => by
                      refine ⟨by rw [List.map_set]; exact (H0.out.stored k _).1, HB'.out.setCell (p := ⟨g1, k, none⟩) hBg1 _, by rw [List.length_set]; exact HLn.out, fun i hi => ?_⟩
                      rw [getD_set _ _ _ _ (by rw [HLn.out]; exact hi)]
                      by_cases e : k = i
                      · rw [if_pos e, hv, e, if_pos (by omega)]
                      · rw [if_neg e, HLg.out i hi]
                        by_cases e' : i < k
                        · rw [if_pos e', if_pos (by omega)]
                        · rw [if_neg e', if_neg (by omega)]
                    have HGk : Hid ((shList n ws).getD k 0 = sgn ((shAbs n ws).getD k 0) (decide (n < 0))) := hGk
                    clear hLk hGk
                    generalize (shAbs n ws).getD k 0 = p at *
                    go_wp2
                    refine ⟨?_, by simp [intOf]; omega⟩
                    first
                      | (obtain ⟨q1, q2, q3, q4⟩ := HF0.out p (by rw [HGk.out, decide_eq_false (by omega)]; rfl); exact ⟨k + 1, _, by omega, by go_num, q3, q4, q1, q2⟩)
                      | (obtain ⟨q1, q2, q3, q4⟩ := HF0.out (-p) (by rw [HGk.out, decide_eq_true (by omega)]; rfl); exact ⟨k + 1, _, by omega, by go_num, q3, q4, q1, q2⟩)
                  · obtain rfl : k = ws.length := by omega
                    have HLe : Hid (L = shList n ws) := by
                      show _ = _
                      refine List.ext_getElem (by rw [HLn.out, HLL.out]) fun i h1 h2 => ?_
                      have h3 := HLg.out i (by rw [← HLn.out]; exact h1)
                      rw [if_pos (by rw [← HLn.out]; exact h1), getD_int h1, getD_int h2] at h3
                      exact h3
                    go_wp2
                    go_ret2
                    exact ⟨g1, cp1, rfl, hBg1, by rw [← HLe.out]; exact H0.out, HB'.out⟩
end Go.Proofs.Ytaledfdhiimhdah

/-
  Contract of the specification's SegmentsText, for every list of segments.
-/
import Derived.Test.YtjnlghngneonhaaSbD
namespace Go.Proofs.Ytjnlghngneonhaa
open Go.ChangeShapes Go.WideShapes Go.ChangeAt Go.RowKit Go.Joins Go.Deep
set_option linter.unusedVariables false

set_option maxHeartbeats 8000000 in
set_option maxRecDepth 8000 in
theorem specSegText_any (a : Option Addr) (cap : Nat) (cs : List CSg) (hl : cs.length ≤ 100000000) (hp : ∀ r ∈ cs, SgOK r) (w : World) (hr : ReadsSg w.heap.size w a cs) :
    Calls Try.prog 8 #[.slice a cs.length cap] w (AnsX w (sgT cs) (sgC cs)) := by
  have HR : Hid (ReadsSg w.heap.size w a cs) := hr
  have hOK := specSegments_any a cap cs hl hp w hr
  clear hr hp
  by_cases g1 : 4096 < cs.length
  · rcases sgt_ways cs with ⟨_, e1, e2⟩ | ⟨h, _⟩ | ⟨h, _⟩ | ⟨h, _⟩
    · rw [e1, e2]
      have l1 : (4096 : Int) < (cs.length : Int) := by omega
      clear hOK e1 e2
      go_enter Try.func8, Try.ntmps8
      go_wp2
      go_ret2
      exact ⟨rfl, Below.refl _ _⟩
    all_goals omega
  have l1 : ¬ (4096 : Int) < (cs.length : Int) := by omega
  cases g2 : sgsB cs
  · rcases sgt_ways cs with ⟨h, _⟩ | ⟨_, _, e1, e2⟩ | ⟨_, h, _⟩ | ⟨_, h, _⟩
    · omega
    · rw [e1, e2]
      rw [g2] at hOK
      clear e1 e2
      go_enter Try.func8, Try.ntmps8
      go_wp2_with (go_at_call 21; refine hOK.mono ?_; rintro e w2 ⟨rfl, rfl⟩)
      go_ret2
      exact ⟨rfl, Below.refl _ _⟩
    · rw [g2] at h; cases h
    · rw [g2] at h; cases h
  rw [g2] at hOK
  have h3 := g2
  unfold sgsB at h3
  simp only [Bool.and_eq_true, decide_eq_true_eq] at h3
  obtain ⟨h200, hall⟩ := h3
  have HA : Hid (cs.all sgB = true) := hall
  have HBd : Hid (∀ k, (sgsL (cs.take k)).length ≤ 800000) := fun k => by
    have h1 : (cs.take k).all sgB = true := by
      rw [List.all_eq_true]
      intro r hr
      exact (List.all_eq_true.mp hall) r (List.mem_of_mem_take hr)
    have h2 := sgsL_len h1
    rw [List.length_take] at h2
    omega
  obtain ⟨w2, hw2⟩ : ∃ w2, w2 = w := ⟨_, rfl⟩
  obtain ⟨B, hB⟩ : ∃ B, B = w.heap.size := ⟨_, rfl⟩
  have HR2 : Hid (ReadsSg B w2 a cs) := by show ReadsSg _ _ _ _; rw [hw2, hB]; exact HR.out
  have H0 : Hid (One8 w2 B (.slice (some ⟨w.heap.size, 0, none⟩) 0 0) [] (w.alloc (Obj.cells #[] 5))) := by show One8 _ _ _ _ _; rw [hw2, hB]; exact One8.start w _ rfl
  have HBw : Hid (∀ W, Below B w2 W → Below w.heap.size w W) := fun W h => by rw [hw2, hB] at h; exact h
  clear hall HR hw2 hB
  go_enter Try.func8, Try.ntmps8
  go_wp2_with (go_at_call 21; refine hOK.mono ?_; rintro e w9 ⟨rfl, rfl⟩)
  clear hOK
  go_loopw [4, 5, 6, 7, 8] (fun u c _ _ _ wr => ∃ k : Nat, k ≤ cs.length ∧ c = .int .i64 (k : Int) ∧ One8 w2 B u (sgsL (cs.take k)) wr) (fun _ c _ _ _ _ => cs.length - (intOf c).toNat)
  case atStart => exact ⟨0, Nat.zero_le _, rfl, by simpa [sgsL] using H0.out⟩
  case round =>
    clear H0
    obtain ⟨k, hk, rfl, hO⟩ := hrel
    have HO : Hid (One8 w2 B u4 (sgsL (cs.take k)) wr) := hO
    clear hO
    by_cases hlt : k < cs.length
    · have hlt' : (k : Int) < (cs.length : Int) := by omega
      rcases HR2.out with h | ⟨b0, o0, ha, hB0, ia⟩
      · rw [h] at hlt; simp at hlt
      obtain ⟨h, cp, ⟨d0, d1⟩, _, hS⟩ := ia k hlt
      have HS : Hid (ReadsS B w2 h (cs.getD k zSg).ps) := hS
      have HC : Hid (∀ W, Below B w2 W → W.cell? ⟨b0, o0 + k * 2, none⟩ = some (.string (cs.getD k zSg).nm) ∧ W.cell? ⟨b0, o0 + k * 2 + 1, none⟩ = some (.slice h (cs.getD k zSg).ps.length cp)) := fun W hW => ⟨(hW.cell (p := ⟨b0, o0 + k * 2, none⟩) hB0).trans d0, (hW.cell (p := ⟨b0, o0 + k * 2 + 1, none⟩) hB0).trans d1⟩
      have hbd := HBd.out k
      obtain ⟨q1, q2, q3⟩ := sg_facts (sgb_at HA.out hlt)
      have HQ3 : Hid (prsB (cs.getD k zSg).ps = true) := q3
      have HN : Hid (sgsL (cs.take (k + 1)) = sgsL (cs.take k) ++ (byL (cs.getD k zSg).nm ++ psL (cs.getD k zSg).ps ++ [39])) := sgsL_take cs k hlt
      rw [ha]
      clear ia hS d0 d1 q3
      generalize cs.getD k zSg = r at *
      obtain ⟨nm, ps⟩ := r
      dsimp only at *
      generalize sgsL (cs.take k) = L at *
      obtain ⟨c0, c1⟩ := HC.out wr HO.out.2.2
      go_wp2_with (at_builtin; refine wpList_pushS (by rfl) _ _ (by rfl) w2 B _ L _ nm HO.out (by omega) (by omega) (by rfl) (by rfl) ?_; intro v3 w3 h3 hg3; have HO3 : Hid (One8 w2 B v3 (L ++ byL nm) w3) := h3; clear h3 hg3)
      clear c0 c1
      obtain ⟨wo, rfl⟩ : ∃ wo, wo = wr := ⟨_, rfl⟩
      go_loopw [4, 6, 7, 8] (fun u c _ _ wr => ∃ m : Nat, m ≤ ps.length ∧ c = .int .i64 (m : Int) ∧ One8 w2 B u (L ++ byL nm ++ psL (ps.take m)) wr) (fun _ c _ _ _ => ps.length - (intOf c).toNat)
      case atStart => exact ⟨0, Nat.zero_le _, rfl, by simpa [psL] using HO3.out⟩
      case round =>
        clear HO3 HO
        obtain ⟨m, hm, rfl, hO⟩ := hrel
        have HO4 : Hid (One8 w2 B u4 (L ++ byL nm ++ psL (ps.take m)) wr) := hO
        clear hO
        obtain ⟨c0, c1⟩ := HC.out wr HO4.out.2.2
        have hbd2 : (L ++ byL nm ++ psL (ps.take m)).length ≤ 900000 := by
          have h1 := psL_len (ps.take m) (prs_takeT HQ3.out m)
          rw [List.length_take] at h1
          rw [List.length_append, List.length_append, byL_len]
          omega
        by_cases hlm : m < ps.length
        · have hlm' : (m : Int) < (ps.length : Int) := by omega
          rcases HS.out with h' | ⟨b1, o1, hb, hB1, ib⟩
          · rw [h'] at hlm; simp at hlm
          have HD : Hid (∀ W, Below B w2 W → W.cell? ⟨b1, o1 + m, none⟩ = some (.string (ps.getD m ByteArray.empty))) := fun W hW => (ib.below hW hB1) m hlm
          have hsz := prs_at HQ3.out hlm
          have HM : Hid (L ++ byL nm ++ psL (ps.take (m + 1)) = (L ++ byL nm ++ psL (ps.take m)) ++ [43] ++ escL (byL (ps.getD m ByteArray.empty))) := by
            show _ = _
            rw [psL_take ps m hlm]; simp
          rw [hb] at HC c1
          clear ib
          generalize ps.getD m ByteArray.empty = s at *
          generalize (L ++ byL nm ++ psL (ps.take m)) = M at *
          have HD2 : Hid (∀ W, One8 w2 B (Value.slice none 0 0) [] W → True) := fun _ _ => trivial
          clear HD2
          go_wp2_with (at_builtin; refine wpList_push8 (by rfl) _ _ (by rfl) w2 B _ M _ _ HO4.out (by first | omega | (simp; omega)) (by rfl) (by rfl) ?_; intro g7 cp7 w7 h7; have HO7 : Hid (One8 w2 B (.slice (some ⟨g7, 0, none⟩) (M.length + 1) cp7) (M ++ [43]) w7) := h7; obtain ⟨e0, e1⟩ := HC.out w7 HO7.out.2.2; have f0 := HD.out w7 HO7.out.2.2; clear h7)
          clear c0 c1 e0 e1 f0
          obtain ⟨wi, rfl⟩ : ∃ wi, wi = wr := ⟨_, rfl⟩
          have hM1 : (M ++ [43]).length = M.length + 1 := by simp
          go_loopw [4, 8] (fun u c wr => ∃ j : Nat, j ≤ s.size ∧ c = .int .i64 (j : Int) ∧ One8 w2 B u (M ++ [43] ++ escL ((byL s).take j)) wr) (fun _ c _ => s.size - (intOf c).toNat)
          case atStart => exact ⟨0, Nat.zero_le _, rfl, by simpa [escL] using HO7.out⟩
          case round =>
            clear HO7 HO4
            obtain ⟨j, hj, rfl, hO⟩ := hrel
            have HO : Hid (One8 w2 B u4 (M ++ [43] ++ escL ((byL s).take j)) wr) := hO
            clear hO
            by_cases hlj : j < s.size
            · have hlj' : (j : Int) < (s.size : Int) := by omega
              have hidx : ∀ w, (Instr.index 9 (.string s) (.int .i64 (j : Int))).run Try.prog w = .ok (.int .u8 ((byL s).getD j 0)) w := fun w => idx_any s j hlj w
              obtain ⟨z0, z1⟩ := byL_range s j
              have HSp : Hid (∀ W, Calls Try.prog 22 #[.int .u8 ((byL s).getD j 0)] W fun e w' => e = .returned (.bool (mkB ((byL s).getD j 0))) ∧ W = w') := fun W => special_any _ z0 z1 W
              have HN2 : Hid ((M ++ [43] ++ escL ((byL s).take j)) ++ escC ((byL s).getD j 0) = M ++ [43] ++ escL ((byL s).take (j + 1))) := by
                show _ = _
                rw [escL_take (byL s) j (by rw [byL_len]; exact hlj)]; simp
              have hbd3 : (M ++ [43] ++ escL ((byL s).take j)).length ≤ 1000000 := by
                have h1 := escL_len ((byL s).take j)
                rw [List.length_take] at h1
                rw [List.length_append, hM1]
                omega
              unfold escC at HN2
              generalize (byL s).getD j 0 = c at *
              generalize mkB c = b at *
              generalize (M ++ [43] ++ escL ((byL s).take j)) = N at *
              cases b
              · go_wp2_with (first | (go_at_call 22; refine (HSp.out _).mono ?_; rintro e w9 ⟨rfl, rfl⟩) | (at_builtin; refine wpList_push8 (by rfl) _ _ (by rfl) w2 B _ N _ _ HO.out (by first | omega | (simp; omega)) (by rfl) (by rfl) ?_; intro g7 cp7 w7 h7; have HO7 : Hid (One8 w2 B (.slice (some ⟨g7, 0, none⟩) (N.length + 1) cp7) (N ++ [c]) w7) := h7; clear h7))
                have HO8 : Hid (One8 w2 B (.slice (some ⟨g7, 0, none⟩) (N.length + 1) cp7) (M ++ [43] ++ escL ((byL s).take (j + 1))) w7) := by have := HN2.out; rw [if_neg (by simp)] at this; show One8 _ _ _ _ _; rw [← this]; exact HO7.out
                go_roundw
                case rel => exact ⟨j + 1, by omega, by go_num, HO8.out⟩
                case measure => simp [intOf]; omega
              · go_wp2_with (first | (go_at_call 22; refine (HSp.out _).mono ?_; rintro e w9 ⟨rfl, rfl⟩) | (at_builtin; refine wpList_push8 (by rfl) _ _ (by rfl) w2 B _ (N ++ [63]) _ _ HO7.out (by first | omega | (simp; omega)) (by rfl) (by rfl) ?_; intro g8 cp8 w8 h8; have HO8 : Hid (One8 w2 B (.slice (some ⟨g8, 0, none⟩) ((N ++ [63]).length + 1) cp8) ((N ++ [63]) ++ [c]) w8) := h8; clear h8) | (at_builtin; refine wpList_push8 (by rfl) _ _ (by rfl) w2 B _ N _ _ HO.out (by first | omega | (simp; omega)) (by rfl) (by rfl) ?_; intro g7 cp7 w7 h7; have HO7 : Hid (One8 w2 B (.slice (some ⟨g7, 0, none⟩) (N.length + 1) cp7) (N ++ [63]) w7) := h7; clear h7))
                have HO9 : Hid (One8 w2 B (.slice (some ⟨g8, 0, none⟩) (N.length + 1 + 1) cp8) (M ++ [43] ++ escL ((byL s).take (j + 1))) w8) := by have := HN2.out; rw [if_pos trivial] at this; show One8 _ _ _ _ _; rw [← this]; simpa using HO8.out
                go_roundw
                case rel => exact ⟨j + 1, by omega, by go_num, HO9.out⟩
                case measure => simp [intOf]; omega
            · have hle : ¬ (j : Int) < (s.size : Int) := by omega
              have HE : Hid (One8 w2 B u4 (L ++ byL nm ++ psL (ps.take (m + 1))) wr) := by show One8 _ _ _ _ _; rw [HM.out]; have := HO.out; rwa [List.take_of_length_le (by rw [byL_len]; omega)] at this
              go_wp2
              go_roundw
              case rel => exact ⟨m + 1, by omega, by go_num, HE.out⟩
              case measure => simp [intOf]; omega
        · have hle : ¬ (m : Int) < (ps.length : Int) := by omega
          have HE : Hid ((L ++ byL nm ++ psL (ps.take m)) ++ [39] = sgsL (cs.take (k + 1))) := by show _ = _; rw [HN.out, List.take_of_length_le (by omega)]; simp
          generalize (L ++ byL nm ++ psL (ps.take m)) = M at *
          go_wp2_with (at_builtin; refine wpList_push8 (by rfl) _ _ (by rfl) w2 B _ M _ _ HO4.out (by first | omega | (simp; omega)) (by rfl) (by rfl) ?_; intro g7 cp7 w7 h7; have HO7 : Hid (One8 w2 B (.slice (some ⟨g7, 0, none⟩) (M.length + 1) cp7) (M ++ [39]) w7) := h7; clear h7)
          have HO8 : Hid (One8 w2 B (.slice (some ⟨g7, 0, none⟩) (M.length + 1) cp7) (sgsL (cs.take (k + 1))) w7) := by show One8 _ _ _ _ _; rw [← HE.out]; exact HO7.out
          go_roundw
          case rel => exact ⟨k + 1, by omega, by go_num, HO8.out⟩
          case measure => simp [intOf]; omega
    · have hle : ¬ (k : Int) < (cs.length : Int) := by omega
      obtain rfl : k = cs.length := by omega
      have HE : Hid (One8 w2 B u4 (sgsL cs) wr) := by have := HO.out; rwa [List.take_length] at this
      obtain ⟨av, cv, hv⟩ := HE.out.form
      subst hv
      have hstr := str_of HE.out rfl
      have HB9 : Hid (Below w.heap.size w wr) := HBw.out _ HE.out.2.2
      rcases sgt_ways cs with ⟨h, _⟩ | ⟨_, h, _⟩ | ⟨_, _, _, h4, e1, e2⟩ | ⟨_, _, _, h4, e1, e2⟩
      · omega
      · rw [g2] at h; cases h
      · have HE9 : Hid (sgT cs = ByteArray.empty ∧ sgC cs = 11) := ⟨e2, e1⟩
        clear e1 e2 HE HO hstr
        generalize (sgsL cs).length = m at *
        have l5 : (65536 : Int) < (m : Int) := by omega
        go_wp2
        go_ret2
        exact ⟨by rw [HE9.out.1, HE9.out.2]; rfl, HB9.out⟩
      · have HE9 : Hid (sgT cs = txL (sgsL cs) ∧ sgC cs = 0) := ⟨e2, e1⟩
        clear e1 e2 HE HO
        generalize txL (sgsL cs) = tx at *
        generalize (sgsL cs).length = m at *
        have l5 : ¬ (65536 : Int) < (m : Int) := by omega
        go_wp2
        go_ret2
        exact ⟨by rw [HE9.out.1, HE9.out.2]; rfl, HB9.out⟩
end Go.Proofs.Ytjnlghngneonhaa

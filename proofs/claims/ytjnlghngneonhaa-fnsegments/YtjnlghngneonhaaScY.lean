/-
  The specification's ReadSegments, for every text.
-/
import Derived.Test.YtjnlghngneonhaaScX
import Derived.Test.YtjnlghngneonhaaSbD
namespace Go.Proofs.Ytjnlghngneonhaa
open Go.ChangeShapes Go.WideShapes Go.ChangeAt Go.RowKit Go.Joins Go.Deep
set_option linter.unusedVariables false

theorem SpR.down {B B' : Nat} {E : List SgE} {la : Option Addr} {lk : Nat} {W : World} (h : SpR B E la lk W) (hb : B' ≤ B) : SpR B' E la lk W := ⟨row_base h.rowL hb, fun e he => row_base (h.old e he) hb, h.dst, Nat.le_trans hb h.low⟩
set_option maxHeartbeats 16000000 in
set_option maxRecDepth 16000 in
theorem specRead_any (t : ByteArray) (ht : t.size ≤ 100000000) (w : World) :
    Calls Try.prog 14 #[.string t] w (AnsRd w (rsgR t)) := by
  rcases sz_ways t with ⟨h, e⟩ | ⟨h, e⟩
  · rw [e]
    have l1 : (65536 : Int) < (t.size : Int) := by omega
    go_enter Try.func14, Try.ntmps14
    go_wp2
    go_ret3
    exact AnsRd.err rfl (Nat.le_refl _) (heapNew w _) (below_alloc _ _)
  have l1 : ¬ (65536 : Int) < (t.size : Int) := by omega
  obtain ⟨fin, hfin⟩ : ∃ fin, rdEnd t ⟨0, 0, [], ByteArray.empty, [], []⟩ = fin := ⟨_, rfl⟩
  rw [e, hfin]
  clear e
  obtain ⟨w1, hw1⟩ : ∃ w1, w1 = w.alloc (Obj.cells #[] 43) := ⟨_, rfl⟩
  obtain ⟨nb, hnb⟩ : ∃ nb, nb = w.heap.size := ⟨_, rfl⟩
  have hsz1 : w1.heap.size = nb + 1 := by rw [hw1, hnb]; simp
  have HNb : Hid (w.heap.size ≤ nb ∧ ∀ W, Below w1.heap.size w1 W → W.heap[nb]? = some (.cells #[] 43 (0, 0))) := by
    refine ⟨Nat.le_of_eq hnb.symm, fun W hW => (hW.block nb (by omega)).trans ?_⟩
    rw [hw1, hnb]; exact heapNew w _
  have HDn : Hid (∀ W, Below w1.heap.size w1 W → Below w.heap.size w W) := fun W hW => chain (by rw [hw1]; exact below_alloc _ _) hW
  obtain ⟨w2, hw2⟩ : ∃ w2, w2 = w1.alloc (Obj.cells #[] 43) := ⟨_, rfl⟩
  have HW : Hid (w1 = w.alloc (Obj.cells #[] 43) ∧ w2 = w1.alloc (Obj.cells #[] 43) ∧ nb = w.heap.size) := ⟨hw1, hw2, hnb⟩
  have HS0 : Hid (SpR w1.heap.size [] (some ⟨w1.heap.size, 0, none⟩) 0 w2 ∧ Below w1.heap.size w1 w2) := by
    show _ ∧ _
    rw [hw2]
    refine ⟨⟨⟨rfl, .inr ⟨w1.heap.size, 0, #[], rfl, Nat.le_refl _, heapNew w1 _, Nat.le_refl _, by unfold maxLen; omega, rfl, rfl⟩⟩, fun e he => (by cases he), List.Pairwise.nil, by simp⟩, below_alloc _ _⟩
  have HLe : Hid (w.heap.size ≤ w1.heap.size) := by show _ ≤ _; rw [hw1]; simp
  have HF0 : Hid (rdEnd t ⟨0, 0, [], ByteArray.empty, [], []⟩ = fin) := hfin
  clear hw1 hw2 hfin
  go_enter Try.func14, Try.ntmps14
  go_wp2_with fail
  rw [← HW.out.1, ← HW.out.2.1, ← HW.out.2.2]
  clear HW
  obtain ⟨B, hB⟩ : ∃ B, B = nb + 1 := ⟨_, rfl⟩
  rw [hsz1, ← hB] at HS0 HNb HDn HLe
  rw [← hB]
  clear hB hsz1 hnb
  go_loopw [6, 7] (fun o c wr => ∃ (pl : Nat) (E : List SgE) (la : Option Addr) (lk : Nat) (tgx : ByteArray) (psx : List ByteArray), o = .slice la E.length lk ∧ c = .int .i64 (pl : Int) ∧ pl ≤ t.size ∧ E.length ≤ 200 ∧ rdEnd t ⟨0, pl, E.map (·.c), tgx, psx, []⟩ = fin ∧ SpR B E la lk wr ∧ Below B w1 wr) (fun _ c _ => t.size - (intOf c).toNat)
  case atStart => exact ⟨0, [], _, 0, _, _, rfl, rfl, Nat.zero_le _, by simp, HF0.out, HS0.out.1, HS0.out.2⟩
  case round =>
    clear HS0 HF0
    obtain ⟨pl, E, la, lk, tgx, psx, rfl, rfl, hp, hE2, hf, hs, hb⟩ := hrel
    have HF : Hid (rdEnd t ⟨0, pl, E.map (·.c), tgx, psx, []⟩ = fin) := hf
    have HR : Hid (SpR B E la lk wr ∧ Below B w1 wr) := ⟨hs, hb⟩
    clear hf hs hb
    by_cases he : pl = t.size
    · have hge : ¬ (pl : Int) < (t.size : Int) := by omega
      go_wp2_with fail
      go_ret3
      rw [rd_err (rd0a he) HF.out]
      exact AnsRd.fine (HR.out.1.down HLe.out) (HDn.out _ HR.out.2)
    have hlt : pl < t.size := by omega
    have hlt' : (pl : Int) < (t.size : Int) := by omega
    by_cases hE : E.length = 200
    · have e2 : ((E.length : Int) == 200) = true := by simp; omega
      go_wp2_with fail
      go_ret3
      rw [rd_err (rd0b hlt (by rw [List.length_map]; exact hE)) HF.out]
      exact AnsRd.err rfl HNb.out.1 (HNb.out.2 _ HR.out.2) (HDn.out _ HR.out.2)
    have e2 : ((E.length : Int) == 200) = false := by simp; omega
    go_wp2_with fail
    refine wp_loop_rounds 4 ?_
    rw [rounds_succ]
    rcases let_ways t pl with ⟨hA0, hl0, a0, b0⟩ | ⟨hA, hl⟩ | ⟨hA, hl, ha⟩ | ⟨hA, hl, ha, hb⟩
    rotate_left
    · have e1 : (t.size : Int) ≤ (pl : Int) := by omega
      have hT : tagF t pl = some 0 := by unfold tagF; rw [hA, if_pos rfl]
      clear hA
      go_wp2_with fail
      go_ret3
      rw [rd_err (rd0c hlt (by rw [List.length_map]; exact hE) hT) HF.out]
      exact AnsRd.err (by omega) HNb.out.1 (HNb.out.2 _ HR.out.2) (HDn.out _ HR.out.2)
    · have e1 : ¬ (t.size : Int) ≤ (pl : Int) := by omega
      have hT : tagF t pl = some 0 := by unfold tagF; rw [hA, if_pos rfl]
      have hidx : ∀ w, (Instr.index 9 (.string t) (.int .i64 (pl : Int))).run Try.prog w = .ok (.int .u8 ((byL t).getD pl 0)) w := fun w => idx_any t pl hl w
      generalize (byL t).getD pl 0 = c at *
      clear hA
      go_wp2_with fail
      go_ret3
      rw [rd_err (rd0c hlt (by rw [List.length_map]; exact hE) hT) HF.out]
      exact AnsRd.err (by omega) HNb.out.1 (HNb.out.2 _ HR.out.2) (HDn.out _ HR.out.2)
    · have e1 : ¬ (t.size : Int) ≤ (pl : Int) := by omega
      have hT : tagF t pl = some 0 := by unfold tagF; rw [hA, if_pos rfl]
      have hidx : ∀ w, (Instr.index 9 (.string t) (.int .i64 (pl : Int))).run Try.prog w = .ok (.int .u8 ((byL t).getD pl 0)) w := fun w => idx_any t pl hl w
      have e2 : ¬ (byL t).getD pl 0 < 65 := by omega
      generalize (byL t).getD pl 0 = c at *
      clear hA
      go_wp2_with fail
      go_ret3
      rw [rd_err (rd0c hlt (by rw [List.length_map]; exact hE) hT) HF.out]
      exact AnsRd.err (by omega) HNb.out.1 (HNb.out.2 _ HR.out.2) (HDn.out _ HR.out.2)
    have e1 : ¬ (t.size : Int) ≤ (pl : Int) := by omega
    have hidx : ∀ w, (Instr.index 9 (.string t) (.int .i64 (pl : Int))).run Try.prog w = .ok (.int .u8 ((byL t).getD pl 0)) w := fun w => idx_any t pl hl0 w
    have e2 : ¬ (byL t).getD pl 0 < 65 := by omega
    have e3 : ¬ 90 < (byL t).getD pl 0 := by omega
    clear a0 b0
    generalize (byL t).getD pl 0 = c0 at *
    go_wp2_with fail
    clear e1 hidx e2 e3
    rw [rounds_succ]
    rcases let_ways t (pl + 1) with ⟨hA1, hl1, a1, b1⟩ | ⟨hA, hl⟩ | ⟨hA, hl, ha⟩ | ⟨hA, hl, ha, hb⟩
    rotate_left
    · have e1 : (t.size : Int) ≤ ((pl : Int) + 1) := by omega
      have hT : tagF t pl = some 1 := by unfold tagF; rw [hA0, if_neg (by simp), hA, if_pos rfl]
      clear hA
      go_wp2_with fail
      go_ret3
      rw [rd_err (rd0c hlt (by rw [List.length_map]; exact hE) hT) HF.out]
      exact AnsRd.err (by omega) HNb.out.1 (HNb.out.2 _ HR.out.2) (HDn.out _ HR.out.2)
    · have e1 : ¬ (t.size : Int) ≤ ((pl : Int) + 1) := by omega
      have hT : tagF t pl = some 1 := by unfold tagF; rw [hA0, if_neg (by simp), hA, if_pos rfl]
      have hidx : ∀ w, (Instr.index 9 (.string t) (.int .i64 ((pl : Int) + 1))).run Try.prog w = .ok (.int .u8 ((byL t).getD (pl + 1) 0)) w := fun w => by have := idx_any t (pl + 1) hl w; rwa [show ((pl + 1 : Nat) : Int) = (pl : Int) + 1 by omega] at this
      generalize (byL t).getD (pl + 1) 0 = c at *
      clear hA
      go_wp2_with fail
      go_ret3
      rw [rd_err (rd0c hlt (by rw [List.length_map]; exact hE) hT) HF.out]
      exact AnsRd.err (by omega) HNb.out.1 (HNb.out.2 _ HR.out.2) (HDn.out _ HR.out.2)
    · have e1 : ¬ (t.size : Int) ≤ ((pl : Int) + 1) := by omega
      have hT : tagF t pl = some 1 := by unfold tagF; rw [hA0, if_neg (by simp), hA, if_pos rfl]
      have hidx : ∀ w, (Instr.index 9 (.string t) (.int .i64 ((pl : Int) + 1))).run Try.prog w = .ok (.int .u8 ((byL t).getD (pl + 1) 0)) w := fun w => by have := idx_any t (pl + 1) hl w; rwa [show ((pl + 1 : Nat) : Int) = (pl : Int) + 1 by omega] at this
      have e2 : ¬ (byL t).getD (pl + 1) 0 < 65 := by omega
      generalize (byL t).getD (pl + 1) 0 = c at *
      clear hA
      go_wp2_with fail
      go_ret3
      rw [rd_err (rd0c hlt (by rw [List.length_map]; exact hE) hT) HF.out]
      exact AnsRd.err (by omega) HNb.out.1 (HNb.out.2 _ HR.out.2) (HDn.out _ HR.out.2)
    have e1 : ¬ (t.size : Int) ≤ ((pl : Int) + 1) := by omega
    have hidx : ∀ w, (Instr.index 9 (.string t) (.int .i64 ((pl : Int) + 1))).run Try.prog w = .ok (.int .u8 ((byL t).getD (pl + 1) 0)) w := fun w => by have := idx_any t (pl + 1) hl1 w; rwa [show ((pl + 1 : Nat) : Int) = (pl : Int) + 1 by omega] at this
    have e2 : ¬ (byL t).getD (pl + 1) 0 < 65 := by omega
    have e3 : ¬ 90 < (byL t).getD (pl + 1) 0 := by omega
    clear a1 b1
    generalize (byL t).getD (pl + 1) 0 = c1 at *
    go_wp2_with fail
    clear e1 hidx e2 e3
    rw [rounds_succ]
    rcases let_ways t (pl + 2) with ⟨hA2, hl2, a2, b2⟩ | ⟨hA, hl⟩ | ⟨hA, hl, ha⟩ | ⟨hA, hl, ha, hb⟩
    rotate_left
    · have e1 : (t.size : Int) ≤ ((pl : Int) + 2) := by omega
      have hT : tagF t pl = some 2 := by unfold tagF; rw [hA0, if_neg (by simp), hA1, if_neg (by simp), hA, if_pos rfl]
      clear hA
      go_wp2_with fail
      go_ret3
      rw [rd_err (rd0c hlt (by rw [List.length_map]; exact hE) hT) HF.out]
      exact AnsRd.err (by omega) HNb.out.1 (HNb.out.2 _ HR.out.2) (HDn.out _ HR.out.2)
    · have e1 : ¬ (t.size : Int) ≤ ((pl : Int) + 2) := by omega
      have hT : tagF t pl = some 2 := by unfold tagF; rw [hA0, if_neg (by simp), hA1, if_neg (by simp), hA, if_pos rfl]
      have hidx : ∀ w, (Instr.index 9 (.string t) (.int .i64 ((pl : Int) + 2))).run Try.prog w = .ok (.int .u8 ((byL t).getD (pl + 2) 0)) w := fun w => by have := idx_any t (pl + 2) hl w; rwa [show ((pl + 2 : Nat) : Int) = (pl : Int) + 2 by omega] at this
      generalize (byL t).getD (pl + 2) 0 = c at *
      clear hA
      go_wp2_with fail
      go_ret3
      rw [rd_err (rd0c hlt (by rw [List.length_map]; exact hE) hT) HF.out]
      exact AnsRd.err (by omega) HNb.out.1 (HNb.out.2 _ HR.out.2) (HDn.out _ HR.out.2)
    · have e1 : ¬ (t.size : Int) ≤ ((pl : Int) + 2) := by omega
      have hT : tagF t pl = some 2 := by unfold tagF; rw [hA0, if_neg (by simp), hA1, if_neg (by simp), hA, if_pos rfl]
      have hidx : ∀ w, (Instr.index 9 (.string t) (.int .i64 ((pl : Int) + 2))).run Try.prog w = .ok (.int .u8 ((byL t).getD (pl + 2) 0)) w := fun w => by have := idx_any t (pl + 2) hl w; rwa [show ((pl + 2 : Nat) : Int) = (pl : Int) + 2 by omega] at this
      have e2 : ¬ (byL t).getD (pl + 2) 0 < 65 := by omega
      generalize (byL t).getD (pl + 2) 0 = c at *
      clear hA
      go_wp2_with fail
      go_ret3
      rw [rd_err (rd0c hlt (by rw [List.length_map]; exact hE) hT) HF.out]
      exact AnsRd.err (by omega) HNb.out.1 (HNb.out.2 _ HR.out.2) (HDn.out _ HR.out.2)
    have e1 : ¬ (t.size : Int) ≤ ((pl : Int) + 2) := by omega
    have hidx : ∀ w, (Instr.index 9 (.string t) (.int .i64 ((pl : Int) + 2))).run Try.prog w = .ok (.int .u8 ((byL t).getD (pl + 2) 0)) w := fun w => by have := idx_any t (pl + 2) hl2 w; rwa [show ((pl + 2 : Nat) : Int) = (pl : Int) + 2 by omega] at this
    have e2 : ¬ (byL t).getD (pl + 2) 0 < 65 := by omega
    have e3 : ¬ 90 < (byL t).getD (pl + 2) 0 := by omega
    clear a2 b2
    generalize (byL t).getD (pl + 2) 0 = c2 at *
    go_wp2_with fail
    clear e1 hidx e2 e3
    rw [rounds_succ]
    have hT : tagF t pl = none := by unfold tagF; rw [hA0, if_neg (by simp), hA1, if_neg (by simp), hA2, if_neg (by simp)]
    have HG : Hid (rdEnd t ⟨1, pl + 3, E.map (·.c), t.extract pl (pl + 3), [], []⟩ = fin) := rd_go hp (rd0d hlt (by rw [List.length_map]; exact hE) hT) HF.out
    have hsl : ∀ w, (Instr.slice 9 (.string t) (some (.int .i64 (pl : Int))) (some (.int .i64 ((pl : Int) + 3))) none).run Try.prog w = .ok (.string (t.extract pl (pl + 3))) w := fun w => run_slice_mid t pl (pl + 3) _ _ (by omega) hl2 rfl (by omega) w
    generalize t.extract pl (pl + 3) = tg at *
    clear hA0 hA1 hA2 HF hT hl0 hl1
    go_wp2_with fail
    obtain ⟨gb, hgb⟩ : ∃ gb, gb = wr.heap.size := ⟨_, rfl⟩
    obtain ⟨w3, hw3⟩ : ∃ w3, w3 = wr.alloc (Obj.cells #[.string tg, .slice none 0 0] 43) := ⟨_, rfl⟩
    have HS3 : Hid (SpG B gb gb E la lk tg [] none 0 w3 ∧ Below B w1 w3) := by
      show _ ∧ _
      rw [hw3, hgb]
      exact ⟨HR.out.1.start tg, HR.out.2.trans ((below_alloc _ _).mono HR.out.1.low)⟩
    rw [← hw3, ← hgb]
    clear hw3 hgb HR
    go_loopw [7] (fun c wr2 => ∃ (p2 : Nat) (ps : List ByteArray) (pa : Option Addr) (pk : Nat), c = .int .i64 (p2 : Int) ∧ pl < p2 ∧ p2 ≤ t.size ∧ ps.length ≤ 20 ∧ rdEnd t ⟨1, p2, E.map (·.c), tg, ps, []⟩ = fin ∧ SpG B gb gb E la lk tg ps pa pk wr2 ∧ Below B w1 wr2) (fun c _ => t.size - (intOf c).toNat)
    case atStart => exact ⟨pl + 3, [], none, 0, by go_num, by omega, by omega, by simp, HG.out, HS3.out.1, HS3.out.2⟩
    case round =>
      clear HG HS3
      obtain ⟨p2, ps, pa, pk, rfl, hpl2, hp2, hps, hf, hs, hb⟩ := hrel
      have HF2 : Hid (rdEnd t ⟨1, p2, E.map (·.c), tg, ps, []⟩ = fin) := hf
      obtain ⟨V, rfl⟩ : ∃ V, V = wr := ⟨_, rfl⟩
      have HR2 : Hid (SpG B gb gb E la lk tg ps pa pk V ∧ Below B w1 V) := ⟨hs, hb⟩
      clear hf hs hb
      by_cases hin : p2 < t.size
      · have hlt2 : (p2 : Int) < (t.size : Int) := by omega
        have hidx : ∀ w, (Instr.index 9 (.string t) (.int .i64 (p2 : Int))).run Try.prog w = .ok (.int .u8 ((byL t).getD p2 0)) w := fun w => idx_any t p2 hin w
        by_cases c43 : (byL t).getD p2 0 = 43
        · rw [c43] at hidx
          obtain ⟨f0, f1, fz⟩ := HR2.out.1.cells
          by_cases hP : ps.length = 20
          · have e2 : ((ps.length : Int) == 20) = true := by simp; omega
            go_wp2_with fail
            go_ret3
            rw [rd_err (rd1b hin c43 hP) HF2.out]
            exact AnsRd.err rfl HNb.out.1 (HNb.out.2 _ HR2.out.2) (HDn.out _ HR2.out.2)
          have e2 : ((ps.length : Int) == 20) = false := by simp; omega
          have HG2 : Hid (rdEnd t ⟨2, p2 + 1, E.map (·.c), tg, ps, []⟩ = fin) := rd_go hp2 (rd1c hin c43 hP) HF2.out
          clear HF2
          go_wp2_with fail
          obtain ⟨qb, hqb⟩ : ∃ qb, qb = V.heap.size := ⟨_, rfl⟩
          obtain ⟨w4, hw4⟩ : ∃ w4, w4 = V.alloc (Obj.cells #[] 5) := ⟨_, rfl⟩
          have HQ : Hid (One8 V qb (.slice (some ⟨qb, 0, none⟩) 0 0) [] w4) := by
            show One8 _ _ _ _ _
            rw [hw4]; exact One8.start V qb hqb.symm
          have HR4 : Hid (∀ W, Below qb V W → SpG B gb gb E la lk tg ps pa pk W ∧ Below B w1 W) := fun W hW => by
            rw [hqb] at hW
            exact ⟨HR2.out.1.later hW, HR2.out.2.trans (hW.mono HR2.out.1.base.low)⟩
          rw [← hw4, ← hqb]
          clear f0 f1 fz hw4 hqb HR2 hidx
          go_loopw [7, 10] (fun c v wr3 => ∃ (p3 : Nat) (pt : List Int), c = .int .i64 (p3 : Int) ∧ p2 < p3 ∧ p3 ≤ t.size ∧ pt.length ≤ 80 ∧ rdEnd t ⟨2, p3, E.map (·.c), tg, ps, pt⟩ = fin ∧ One8 V qb v pt wr3) (fun c _ _ => t.size - (intOf c).toNat)
          case atStart => exact ⟨p2 + 1, [], by go_num, by omega, by omega, by simp, HG2.out, HQ.out⟩
          case round =>
            clear HG2 HQ
            obtain ⟨p3, pt, rfl, h23, hp3, hpt, hf, hq⟩ := hrel
            have HF3 : Hid (rdEnd t ⟨2, p3, E.map (·.c), tg, ps, pt⟩ = fin) := hf
            obtain ⟨qa, qk, hqv⟩ := hq.form
            subst hqv
            have HQ3 : Hid (One8 V qb (.slice qa pt.length qk) pt wr) := hq
            clear hf hq
            by_cases hin3 : p3 < t.size
            · have hlt3 : (p3 : Int) < (t.size : Int) := by omega
              have hidx : ∀ w, (Instr.index 9 (.string t) (.int .i64 (p3 : Int))).run Try.prog w = .ok (.int .u8 ((byL t).getD p3 0)) w := fun w => idx_any t p3 hin3 w
              by_cases d43 : (byL t).getD p3 0 = 43
              · rw [d43] at hidx
                have HNx : Hid (rdEnd t ⟨1, p3, E.map (·.c), tg, ps ++ [txL pt], []⟩ = fin) := rd_go hp3 (rd2b hin3 (.inr d43)) HF3.out
                clear HF3
                have hcv := str_of HQ3.out rfl
                obtain ⟨x, hx⟩ : ∃ x, x = txL pt := ⟨_, rfl⟩
                rw [← hx] at hcv HNx
                clear hx
                have hr5 := HR4.out _ HQ3.out.2.2
                obtain ⟨_, f1, fz⟩ := hr5.1.cells
                have z1 := fz 1
                clear fz
                obtain ⟨i0, hi, hzz⟩ := Option.map_eq_some_iff.1 strInfo
                simp only [Prod.mk.injEq] at hzz
                obtain ⟨hi0, hi1, hi2⟩ := hzz
                have HNw : Hid ((wr.alloc (Obj.cells #[.string x] 9)).heap[wr.heap.size]? = some (.cells #[.string x] 9 (0, 0))) := heapNew wr _
                have HV5 : Hid (SpG B gb gb E la lk tg ps pa pk (wr.alloc (Obj.cells #[.string x] 9)) ∧ Below B w1 (wr.alloc (Obj.cells #[.string x] 9))) := ⟨hr5.1.later (below_alloc _ _), hr5.2.trans ((below_alloc _ _).mono hr5.1.base.low)⟩
                clear hr5
                go_wp2_with (at_builtin; refine wpList_append_lies _ rfl _ _ 41 rfl gb 9 i0 (.string ⟨#[]⟩) 1 16 Try.underlying41 hi hi0 hi1 hi2 rfl (by decide) (.slice pa ps.length pk) _ _ rfl HV5.out.1.rowP ⟨wr.heap.size, 0, none⟩ 1 1 [.string x] rfl rfl (World.news_of_block HNw.out) (by simp [Value.oneCell']) (by omega) (by unfold maxLen; omega) (by omega) HV5.out.1.ge.2.2 _ rfl ?_; intro g7 cp7 w7 hr7 hg7 _ _; have HO7 : Hid (SpG B gb gb E la lk tg (ps ++ [x]) (some ⟨g7, 0, none⟩) cp7 (w7.setCell ⟨gb, 1, none⟩ (.slice (some ⟨g7, 0, none⟩) (ps.length + 1) cp7)) ∧ Below B w1 (w7.setCell ⟨gb, 1, none⟩ (.slice (some ⟨g7, 0, none⟩) (ps.length + 1) cp7))) := ⟨(HV5.out.1.pushP hr7 hg7).1, HV5.out.2.trans (HV5.out.1.pushP hr7 hg7).2⟩; have hb7 : w7.heap[gb]? = some (.cells #[.string tg, .slice pa ps.length pk] 43 (0, 0)) := (hg7.block gb (blkLt HV5.out.1.box) (fun e => offBox HV5.out.1.box HV5.out.1.rowP (by decide) e.symm rfl)).trans HV5.out.1.box; have y7 := blkCell hb7 1 _ rfl; have z7 := blkFree hb7 1; clear hr7 hg7 hb7)
                exact ⟨⟨p3, ps ++ [x], some ⟨g7, 0, none⟩, cp7, rfl, by omega, hp3, by rw [List.length_append]; simp; omega, HNx.out, HO7.out.1, HO7.out.2⟩, by simp [intOf]; omega⟩
              by_cases d39 : (byL t).getD p3 0 = 39
              · rw [d39] at hidx
                have HNx : Hid (rdEnd t ⟨1, p3, E.map (·.c), tg, ps ++ [txL pt], []⟩ = fin) := rd_go hp3 (rd2b hin3 (.inl d39)) HF3.out
                clear HF3
                have hcv := str_of HQ3.out rfl
                obtain ⟨x, hx⟩ : ∃ x, x = txL pt := ⟨_, rfl⟩
                rw [← hx] at hcv HNx
                clear hx
                have hr5 := HR4.out _ HQ3.out.2.2
                obtain ⟨_, f1, fz⟩ := hr5.1.cells
                have z1 := fz 1
                clear fz
                obtain ⟨i0, hi, hzz⟩ := Option.map_eq_some_iff.1 strInfo
                simp only [Prod.mk.injEq] at hzz
                obtain ⟨hi0, hi1, hi2⟩ := hzz
                have HNw : Hid ((wr.alloc (Obj.cells #[.string x] 9)).heap[wr.heap.size]? = some (.cells #[.string x] 9 (0, 0))) := heapNew wr _
                have HV5 : Hid (SpG B gb gb E la lk tg ps pa pk (wr.alloc (Obj.cells #[.string x] 9)) ∧ Below B w1 (wr.alloc (Obj.cells #[.string x] 9))) := ⟨hr5.1.later (below_alloc _ _), hr5.2.trans ((below_alloc _ _).mono hr5.1.base.low)⟩
                clear hr5
                go_wp2_with (at_builtin; refine wpList_append_lies _ rfl _ _ 41 rfl gb 9 i0 (.string ⟨#[]⟩) 1 16 Try.underlying41 hi hi0 hi1 hi2 rfl (by decide) (.slice pa ps.length pk) _ _ rfl HV5.out.1.rowP ⟨wr.heap.size, 0, none⟩ 1 1 [.string x] rfl rfl (World.news_of_block HNw.out) (by simp [Value.oneCell']) (by omega) (by unfold maxLen; omega) (by omega) HV5.out.1.ge.2.2 _ rfl ?_; intro g7 cp7 w7 hr7 hg7 _ _; have HO7 : Hid (SpG B gb gb E la lk tg (ps ++ [x]) (some ⟨g7, 0, none⟩) cp7 (w7.setCell ⟨gb, 1, none⟩ (.slice (some ⟨g7, 0, none⟩) (ps.length + 1) cp7)) ∧ Below B w1 (w7.setCell ⟨gb, 1, none⟩ (.slice (some ⟨g7, 0, none⟩) (ps.length + 1) cp7))) := ⟨(HV5.out.1.pushP hr7 hg7).1, HV5.out.2.trans (HV5.out.1.pushP hr7 hg7).2⟩; have hb7 : w7.heap[gb]? = some (.cells #[.string tg, .slice pa ps.length pk] 43 (0, 0)) := (hg7.block gb (blkLt HV5.out.1.box) (fun e => offBox HV5.out.1.box HV5.out.1.rowP (by decide) e.symm rfl)).trans HV5.out.1.box; have y7 := blkCell hb7 1 _ rfl; have z7 := blkFree hb7 1; clear hr7 hg7 hb7)
                exact ⟨⟨p3, ps ++ [x], some ⟨g7, 0, none⟩, cp7, rfl, by omega, hp3, by rw [List.length_append]; simp; omega, HNx.out, HO7.out.1, HO7.out.2⟩, by simp [intOf]; omega⟩
              have n43 : ((byL t).getD p3 0 != 43) = true := bne_iff_ne.2 d43
              have n39 : ((byL t).getD p3 0 != 39) = true := bne_iff_ne.2 d39
              by_cases d63 : (byL t).getD p3 0 = 63
              · have b63 : ((byL t).getD p3 0 == 63) = true := beq_iff_eq.2 d63
                have HC63 : Hid ((byL t).getD p3 0 = 63) := d63
                clear d43 d39 d63
                generalize hcc : (byL t).getD p3 0 = c at *
                have HCC : Hid ((byL t).getD p3 0 = c) := hcc
                clear hcc
                by_cases hend : p3 + 1 = t.size
                · have e3 : ((p3 : Int) + 1 == (t.size : Int)) = true := beq_iff_eq.2 (by omega)
                  go_wp2_with fail
                  go_ret3
                  rw [rd_err (rd2c hin3 (HCC.out.trans HC63.out) (.inl hend)) HF3.out]
                  exact AnsRd.err (by omega) HNb.out.1 (HNb.out.2 _ (HR4.out _ HQ3.out.2.2).2) (HDn.out _ (HR4.out _ HQ3.out.2.2).2)
                have e3 : ((p3 : Int) + 1 == (t.size : Int)) = false := beq_eq_false_iff_ne.2 (by omega)
                have hin4 : p3 + 1 < t.size := by omega
                have hidx2 : ∀ w, (Instr.index 9 (.string t) (.int .i64 ((p3 : Int) + 1))).run Try.prog w = .ok (.int .u8 ((byL t).getD (p3 + 1) 0)) w := fun w => by have := idx_any t (p3 + 1) hin4 w; rwa [show ((p3 + 1 : Nat) : Int) = (p3 : Int) + 1 by omega] at this
                obtain ⟨r0, r1⟩ := byL_range t (p3 + 1)
                have HSp : Hid (∀ W, Calls Try.prog 22 #[.int .u8 ((byL t).getD (p3 + 1) 0)] W fun e w' => e = .returned (.bool (mkB ((byL t).getD (p3 + 1) 0))) ∧ W = w') := fun W => special_any _ r0 r1 W
                cases hM : mkB ((byL t).getD (p3 + 1) 0)
                · have HEr : Hid (fin = (4, p3 + 1, [])) := rd_err (rd2c hin3 (HCC.out.trans HC63.out) (.inr hM)) HF3.out
                  rw [hM] at HSp
                  generalize (byL t).getD (p3 + 1) 0 = c2 at *
                  clear hM
                  go_wp2_with (go_at_call 22; refine (HSp.out _).mono ?_; rintro e w5 ⟨rfl, rfl⟩)
                  go_ret3
                  rw [HEr.out]
                  exact AnsRd.err (by omega) HNb.out.1 (HNb.out.2 _ (HR4.out _ HQ3.out.2.2).2) (HDn.out _ (HR4.out _ HQ3.out.2.2).2)
                have HM : Hid (¬ (p3 + 1 = t.size ∨ mkB ((byL t).getD (p3 + 1) 0) = false)) := fun e => by
                  rcases e with e | e
                  · exact hend e
                  · rw [hM] at e; cases e
                rw [hM] at HSp
                have HE2 : Hid (∃ c2, c2 = (byL t).getD (p3 + 1) 0) := ⟨_, rfl⟩
                obtain ⟨c2, hc2⟩ := HE2.out
                rw [← hc2] at hidx2 HSp
                have HC2 : Hid (c2 = (byL t).getD (p3 + 1) 0) := hc2
                clear hM hc2 HE2 r0 r1
                by_cases hL : pt.length = 80
                · have e4 : ((pt.length : Int) == 80) = true := beq_iff_eq.2 (by omega)
                  go_wp2_with (go_at_call 22; refine (HSp.out _).mono ?_; rintro e w5 ⟨rfl, rfl⟩)
                  go_ret3
                  rw [rd_err (rd2d hin3 (HCC.out.trans HC63.out) HM.out hL) HF3.out]
                  exact AnsRd.err (by omega) HNb.out.1 (HNb.out.2 _ (HR4.out _ HQ3.out.2.2).2) (HDn.out _ (HR4.out _ HQ3.out.2.2).2)
                have e4 : ((pt.length : Int) == 80) = false := beq_eq_false_iff_ne.2 (by omega)
                have HNx : Hid (rdEnd t ⟨2, p3 + 2, E.map (·.c), tg, ps, pt ++ [c2]⟩ = fin) := by
                  show _ = _
                  rw [HC2.out]; exact rd_go hp3 (rd2e hin3 (HCC.out.trans HC63.out) HM.out hL) HF3.out
                clear HF3
                go_wp2_with (first | (go_at_call 22; refine (HSp.out _).mono ?_; rintro e w5 ⟨rfl, rfl⟩) | (at_builtin; refine wpList_push8 (by rfl) _ _ (by rfl) V qb _ pt _ _ HQ3.out (by omega) (by rfl) (by rfl) ?_; intro g7 cp7 w7 h7; have HO7 : Hid (One8 V qb (.slice (some ⟨g7, 0, none⟩) (pt.length + 1) cp7) (pt ++ [c2]) w7) := h7; clear h7))
                exact ⟨⟨p3 + 2, pt ++ [c2], by go_num, by omega, by omega, by simp; omega, HNx.out, HO7.out⟩, by simp [intOf]; omega⟩
              · have b63 : ((byL t).getD p3 0 == 63) = false := beq_eq_false_iff_ne.2 d63
                have HX3 : Hid ((byL t).getD p3 0 ≠ 39 ∧ (byL t).getD p3 0 ≠ 43 ∧ (byL t).getD p3 0 ≠ 63) := ⟨d39, d43, d63⟩
                have HE2 : Hid (∃ c2, c2 = (byL t).getD p3 0) := ⟨_, rfl⟩
                obtain ⟨c2, hc2⟩ := HE2.out
                rw [← hc2] at hidx n43 n39 b63
                have HC2 : Hid (c2 = (byL t).getD p3 0) := hc2
                clear d39 d43 d63 hc2 HE2
                by_cases hL : pt.length = 80
                · have e4 : ((pt.length : Int) == 80) = true := beq_iff_eq.2 (by omega)
                  go_wp2_with fail
                  go_ret3
                  rw [rd_err (rd2f hin3 HX3.out hL) HF3.out]
                  exact AnsRd.err rfl HNb.out.1 (HNb.out.2 _ (HR4.out _ HQ3.out.2.2).2) (HDn.out _ (HR4.out _ HQ3.out.2.2).2)
                have e4 : ((pt.length : Int) == 80) = false := beq_eq_false_iff_ne.2 (by omega)
                have HNx : Hid (rdEnd t ⟨2, p3 + 1, E.map (·.c), tg, ps, pt ++ [c2]⟩ = fin) := by
                  show _ = _
                  rw [HC2.out]; exact rd_go hp3 (rd2g hin3 HX3.out hL) HF3.out
                clear HF3
                go_wp2_with (at_builtin; refine wpList_push8 (by rfl) _ _ (by rfl) V qb _ pt _ _ HQ3.out (by omega) (by rfl) (by rfl) ?_; intro g7 cp7 w7 h7; have HO7 : Hid (One8 V qb (.slice (some ⟨g7, 0, none⟩) (pt.length + 1) cp7) (pt ++ [c2]) w7) := h7; clear h7)
                exact ⟨⟨p3 + 1, pt ++ [c2], by go_num, by omega, by omega, by simp; omega, HNx.out, HO7.out⟩, by simp [intOf]; omega⟩
            · have hge3 : ¬ (p3 : Int) < (t.size : Int) := by omega
              have hp3e : p3 = t.size := by omega
              have HNx : Hid (rdEnd t ⟨1, p3, E.map (·.c), tg, ps ++ [txL pt], []⟩ = fin) := by
                show _ = _
                rw [rd_err (rd2a hp3e) HF3.out]
                exact rdEnd_inl (rd1d (fun h => absurd h (by omega)))
              clear HF3 hp3e
              have hcv := str_of HQ3.out rfl
              obtain ⟨x, hx⟩ : ∃ x, x = txL pt := ⟨_, rfl⟩
              rw [← hx] at hcv HNx
              clear hx
              have hr5 := HR4.out _ HQ3.out.2.2
              obtain ⟨_, f1, fz⟩ := hr5.1.cells
              have z1 := fz 1
              clear fz
              obtain ⟨i0, hi, hzz⟩ := Option.map_eq_some_iff.1 strInfo
              simp only [Prod.mk.injEq] at hzz
              obtain ⟨hi0, hi1, hi2⟩ := hzz
              have HNw : Hid ((wr.alloc (Obj.cells #[.string x] 9)).heap[wr.heap.size]? = some (.cells #[.string x] 9 (0, 0))) := heapNew wr _
              have HV5 : Hid (SpG B gb gb E la lk tg ps pa pk (wr.alloc (Obj.cells #[.string x] 9)) ∧ Below B w1 (wr.alloc (Obj.cells #[.string x] 9))) := ⟨hr5.1.later (below_alloc _ _), hr5.2.trans ((below_alloc _ _).mono hr5.1.base.low)⟩
              clear hr5
              go_wp2_with (at_builtin; refine wpList_append_lies _ rfl _ _ 41 rfl gb 9 i0 (.string ⟨#[]⟩) 1 16 Try.underlying41 hi hi0 hi1 hi2 rfl (by decide) (.slice pa ps.length pk) _ _ rfl HV5.out.1.rowP ⟨wr.heap.size, 0, none⟩ 1 1 [.string x] rfl rfl (World.news_of_block HNw.out) (by simp [Value.oneCell']) (by omega) (by unfold maxLen; omega) (by omega) HV5.out.1.ge.2.2 _ rfl ?_; intro g7 cp7 w7 hr7 hg7 _ _; have HO7 : Hid (SpG B gb gb E la lk tg (ps ++ [x]) (some ⟨g7, 0, none⟩) cp7 (w7.setCell ⟨gb, 1, none⟩ (.slice (some ⟨g7, 0, none⟩) (ps.length + 1) cp7)) ∧ Below B w1 (w7.setCell ⟨gb, 1, none⟩ (.slice (some ⟨g7, 0, none⟩) (ps.length + 1) cp7))) := ⟨(HV5.out.1.pushP hr7 hg7).1, HV5.out.2.trans (HV5.out.1.pushP hr7 hg7).2⟩; have hb7 : w7.heap[gb]? = some (.cells #[.string tg, .slice pa ps.length pk] 43 (0, 0)) := (hg7.block gb (blkLt HV5.out.1.box) (fun e => offBox HV5.out.1.box HV5.out.1.rowP (by decide) e.symm rfl)).trans HV5.out.1.box; have y7 := blkCell hb7 1 _ rfl; have z7 := blkFree hb7 1; clear hr7 hg7 hb7)
              exact ⟨⟨p3, ps ++ [x], some ⟨g7, 0, none⟩, cp7, rfl, by omega, hp3, by rw [List.length_append]; simp; omega, HNx.out, HO7.out.1, HO7.out.2⟩, by simp [intOf]; omega⟩
        have b43 : ((byL t).getD p2 0 == 43) = false := beq_eq_false_iff_ne.2 c43
        have be : ((p2 : Int) == (t.size : Int)) = false := beq_eq_false_iff_ne.2 (by omega)
        by_cases c39 : (byL t).getD p2 0 = 39
        · have n39 : ((byL t).getD p2 0 != 39) = false := by rw [c39]; rfl
          have HNx : Hid (rdEnd t ⟨0, p2 + 1, E.map (·.c) ++ [⟨tg, ps⟩], tg, ps, []⟩ = fin) := rd_go hp2 (rd1a hin c39) HF2.out
          clear HF2 c43 c39
          generalize (byL t).getD p2 0 = c at *
          obtain ⟨f0, f1, fz⟩ := HR2.out.1.cells
          obtain ⟨i0, hi, hzz⟩ := Option.map_eq_some_iff.1 segInfo
          simp only [Prod.mk.injEq] at hzz
          obtain ⟨hi0, hi1, hi2⟩ := hzz
          have HNw : Hid ((V.alloc (Obj.cells #[.string tg, .slice pa ps.length pk] 43)).heap[V.heap.size]? = some (.cells #[.string tg, .slice pa ps.length pk] 43 (0, 0))) := heapNew V _
          have HV5 : Hid (SpG B gb gb E la lk tg ps pa pk (V.alloc (Obj.cells #[.string tg, .slice pa ps.length pk] 43)) ∧ Below B w1 (V.alloc (Obj.cells #[.string tg, .slice pa ps.length pk] 43))) := ⟨HR2.out.1.later (below_alloc _ _), HR2.out.2.trans ((below_alloc _ _).mono HR2.out.1.base.low)⟩
          go_wp2_with (at_builtin; refine wpList_append_lies _ rfl _ _ 23 rfl B 43 i0 (.agg #[.string ⟨#[]⟩, .slice none 0 0]) 2 40 Try.underlying23 hi hi0 hi1 hi2 rfl (by decide) (.slice la E.length lk) _ _ rfl HV5.out.1.base.rowL ⟨V.heap.size, 0, none⟩ 1 1 [.string tg, .slice pa ps.length pk] rfl rfl (World.news_of_block HNw.out) (by simp [Value.oneCell']) (by omega) (by unfold maxLen; omega) (by omega) HV5.out.1.base.low _ rfl ?_; intro g7 cp7 w7 hr7 hg7 _ _; have HO7 : Hid (SpR B (E ++ [⟨⟨tg, ps⟩, pa, pk⟩]) (some ⟨g7, 0, none⟩) cp7 w7 ∧ Below B w1 w7) := ⟨(HV5.out.1.pushL hr7 hg7).1, HV5.out.2.trans (HV5.out.1.pushL hr7 hg7).2⟩; clear hr7 hg7)
          exact ⟨⟨p2 + 1, E ++ [⟨⟨tg, ps⟩, pa, pk⟩], some ⟨g7, 0, none⟩, cp7, tg, ps, by rw [List.length_append]; rfl, by go_num, by omega, by rw [List.length_append]; simp; omega, by rw [List.map_append]; exact HNx.out, HO7.out.1, HO7.out.2⟩, by simp [intOf]; omega⟩
        have n39 : ((byL t).getD p2 0 != 39) = true := bne_iff_ne.2 c39
        have HEr : Hid (fin = (4, p2, [])) := rd_err (rd1d (fun _ => ⟨c39, c43⟩)) HF2.out
        clear c39 c43
        generalize (byL t).getD p2 0 = c at *
        go_wp2_with fail
        go_ret3
        rw [HEr.out]
        exact AnsRd.err rfl HNb.out.1 (HNb.out.2 _ HR2.out.2) (HDn.out _ HR2.out.2)
      · have hge2 : ¬ (p2 : Int) < (t.size : Int) := by omega
        have be : ((p2 : Int) == (t.size : Int)) = true := beq_iff_eq.2 (by omega)
        go_wp2_with fail
        go_ret3
        rw [rd_err (rd1d (fun h => absurd h hin)) HF2.out]
        exact AnsRd.err rfl HNb.out.1 (HNb.out.2 _ HR2.out.2) (HDn.out _ HR2.out.2)
end Go.Proofs.Ytjnlghngneonhaa

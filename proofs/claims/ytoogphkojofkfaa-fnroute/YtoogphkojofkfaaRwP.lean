/-
  The closure that BestRoute defers, for a frame that returns and for one that panics.
-/
import Derived.Test.YtoogphkojofkfaaRwO
import Derived.Defers
import Derived.Recover
namespace Go.Proofs.Ytoogphkojofkfaa
open Go.ChangeShapes Go.WideShapes Go.ChangeAt Go.RowKit Go.Joins Go.Deep
set_option linter.unusedVariables false

theorem calm_returning (s R C : Value) (w : World) :
    CallsD Try.prog 25 #[s, R, C] .returning w fun e u' w' => e = .returned (.tuple #[]) ∧ u' = .returning ∧ w' = w := by
  refine callsD_of_wpS Try.func25 rfl fun c₀ fs hu => ?_
  apply wpS_seq
  apply wpS_region
  simp [wpOpsS, go_sem, recoverD, hu, Try.ntmps25, Exit.thenS]
  apply wpS_seq
  apply wpS_region
  simp [wpOpsS, go_sem, Exit.thenS]
  refine wpS_cond (t := false) (by simp [Act.eval, Array.replicate, go_sem]) ?_
  simp only [Bool.false_eq_true, if_false]
  refine wpS_of_wp (wp_skip ?_)
  cases c₀
  simp_all [bodyPostS, results, Try.results25]
set_option maxHeartbeats 4000000 in
theorem calm_panicking (sb R C : Nat) (u : TypeId) (pv : Value) (older : List PanicEntry) (q s : Option Addr) (n cq m cs : Nat) (wt en code : Int) (v0 v1 v2 v3 vc : Value) (w : World)
    (hA : ∀ W, W = w → Calls Try.prog 26 #[.pointer (some ⟨sb, 0, none⟩)] W fun e w' => e = .returned (.tuple #[.agg #[.slice q n cq, .slice s m cs, .int .i64 wt, .int .i64 en], .int .i64 code]) ∧ Below W.heap.size W w')
    (hR : w.heap[R]? = some (.cells #[v0, v1, v2, v3] 28 (0, 0))) (hC : w.heap[C]? = some (.cells #[vc] 3 (0, 0))) (hRC : R ≠ C) :
    CallsD Try.prog 25 #[.pointer (some ⟨sb, 0, none⟩), .pointer (some ⟨R, 0, none⟩), .pointer (some ⟨C, 0, none⟩)] (.panicking ({ v := .iface u pv, recovered := false } :: older)) w fun e u' w' => e = .returned (.tuple #[]) ∧ u' = .panicking ({ v := .iface u pv, recovered := true } :: older) ∧ Fr (fun x => x = R ∨ x = C) w w' ∧ w'.heap[R]? = some (.cells #[.slice q n cq, .slice s m cs, .int .i64 wt, .int .i64 en] 28 (0, 0)) ∧ w'.heap[C]? = some (.cells #[.int .i64 code] 3 (0, 0)) := by
  refine callsD_of_wpS Try.func25 rfl fun c₀ fs hu => ?_
  apply wpS_seq
  apply wpS_region
  simp [wpOpsS, go_sem, recoverD, hu, Try.ntmps25, Exit.thenS]
  apply wpS_seq
  apply wpS_region
  simp [wpOpsS, go_sem, Exit.thenS]
  refine wpS_cond (t := true) (by simp [Act.eval, Array.replicate, go_sem]) ?_
  simp only [if_true]
  refine wpS_of_wp ?_
  go_wp2_with fail
  refine (hA w rfl).mono ?_
  rintro e w1 ⟨rfl, hb⟩
  have hR1 := (hb.block R (blkLt hR)).trans hR
  have hC1 := (hb.block C (blkLt hC)).trans hC
  obtain ⟨z0, z1, z2, z3⟩ := (show w1.cell? ⟨R, 0, none⟩ = some v0 ∧ w1.cell? ⟨R, 1, none⟩ = some v1 ∧ w1.cell? ⟨R, 2, none⟩ = some v2 ∧ w1.cell? ⟨R, 3, none⟩ = some v3 from ⟨blkCell hR1 0 _ rfl, blkCell hR1 1 _ rfl, blkCell hR1 2 _ rfl, blkCell hR1 3 _ rfl⟩)
  have y0 := blkFree hR1 0
  have y1 := blkFree hR1 1
  have y2 := blkFree hR1 2
  have y3 := blkFree hR1 3
  have x0 : w1.cell? ⟨C, 0, none⟩ = some vc := blkCell hC1 0 _ rfl
  have x1 := blkFree hC1 0
  have hCR : C ≠ R := fun e => hRC e.symm
  have h4 := heap_setCell_same _ _ 3 _ _ (.int .i64 en) (heap_setCell_same _ _ 2 _ _ (.int .i64 wt) (heap_setCell_same _ _ 1 _ _ (.slice s m cs) (heap_setCell_same _ _ 0 _ _ (.slice q n cq) hR1)))
  simp only [List.setIfInBounds_toArray, List.set_cons_zero, List.set_cons_succ] at h4
  obtain ⟨W2, hW2⟩ : ∃ W2, W2 = (((w1.setCell ⟨R, 0, none⟩ (.slice q n cq)).setCell ⟨R, 1, none⟩ (.slice s m cs)).setCell ⟨R, 2, none⟩ (.int .i64 wt)).setCell ⟨R, 3, none⟩ (.int .i64 en) := ⟨_, rfl⟩
  have hk : ∀ d, d ≠ R → W2.heap[d]? = w1.heap[d]? := fun d hd => by rw [hW2, heap_setCell_other _ _ _ _ hd, heap_setCell_other _ _ _ _ hd, heap_setCell_other _ _ _ _ hd, heap_setCell_other _ _ _ _ hd]
  have hC2 := (hk C hCR).trans hC1
  have h5 := heap_setCell_same W2 C 0 _ _ (.int .i64 code) hC2
  simp only [List.setIfInBounds_toArray, List.set_cons_zero] at h5
  have hF : Fr (fun x => x = R ∨ x = C) w (W2.setCell ⟨C, 0, none⟩ (.int .i64 code)) := by
    rw [hW2]
    exact Fr.set (X := fun x => x = R ∨ x = C) (Fr.set (X := fun x => x = R ∨ x = C) (Fr.set (X := fun x => x = R ∨ x = C) (Fr.set (X := fun x => x = R ∨ x = C) (Fr.set (X := fun x => x = R ∨ x = C) (Fr.of hb) (.inl rfl) _ _) (.inl rfl) _ _) (.inl rfl) _ _) (.inl rfl) _ _) (.inr rfl) _ _
  rw [← hW2] at h4
  have HEnd : Hid (Fr (fun x => x = R ∨ x = C) w (W2.setCell ⟨C, 0, none⟩ (.int .i64 code)) ∧ (W2.setCell ⟨C, 0, none⟩ (.int .i64 code)).heap[R]? = some (.cells #[.slice q n cq, .slice s m cs, .int .i64 wt, .int .i64 en] 28 (0, 0)) ∧ (W2.setCell ⟨C, 0, none⟩ (.int .i64 code)).heap[C]? = some (.cells #[.int .i64 code] 3 (0, 0))) := ⟨hF, (heap_setCell_other _ _ _ _ (by show R ≠ C; exact hRC)).trans h4, h5⟩
  have HW2 : Hid (W2 = (((w1.setCell ⟨R, 0, none⟩ (.slice q n cq)).setCell ⟨R, 1, none⟩ (.slice s m cs)).setCell ⟨R, 2, none⟩ (.int .i64 wt)).setCell ⟨R, 3, none⟩ (.int .i64 en)) := hW2
  clear hR1 hC1 h4 h5 hF hk hC2 hR hC hA hb hW2
  go_wp2_with fail
  rw [← HW2.out]
  simp [bodyPostS, results, Try.results25]
  exact HEnd.out
end Go.Proofs.Ytoogphkojofkfaa

/-
  Contracts of the program's calendar that is right, calendarOf, NextDay and DeliveryDays.
-/
import Derived.Test.YtbgjekhekjbcpaaDyB
import Derived.Test.YtbgjekhekjbcpaaQsB
namespace Go.Proofs.Ytbgjekhekjbcpaa
open Go.ChangeShapes Go.WideShapes Go.ChangeAt Go.RowKit Go.Joins Go.Deep
set_option linter.unusedVariables false

set_option maxHeartbeats 2000000 in
theorem calRight_any (wa ha : Option Addr) (wc hc : Nat) (wk : List Bool) (hs : List Int) (hl1 : wk.length ≤ 100000000) (hl : hs.length ≤ 100000000) (w : World) (hrh : Reads w.heap.size w ha hs) :
    Calls Try.prog 56 #[.agg #[.slice wa wk.length wc, .slice ha hs.length hc]] w fun e w' => e = .returned (.bool (cyB wk hs)) ∧ Below w.heap.size w w' := by
  have HA : Hid (∀ W, Below w.heap.size w W → Calls Try.prog 36 #[.agg #[.int .i64 0, .int .i64 100000], .slice ha hs.length hc] W fun e w' => e = .returned (.bool (alB 0 100000 hs)) ∧ Below W.heap.size W w') := fun W hb => hasAll_any 0 100000 ha hc hs hl W (readsL hrh hb)
  have HRs : Hid (∀ W, Below w.heap.size w W → Calls Try.prog 62 #[.slice ha hs.length hc] W fun e w' => e = .returned (.bool (rsN hs hs.length)) ∧ Below W.heap.size W w') := fun W hb => rises_any ha hc hs hl W (readsL hrh hb)
  have HC : Hid (∀ W, Below ((w.alloc (Obj.cells #[.slice wa wk.length wc, .slice ha hs.length hc] 71)).alloc (Obj.cells #[.int .i64 0, .int .i64 100000] 66)).heap.size ((w.alloc (Obj.cells #[.slice wa wk.length wc, .slice ha hs.length hc] 71)).alloc (Obj.cells #[.int .i64 0, .int .i64 100000] 66)) W → W.cell? ⟨w.heap.size, 1, none⟩ = some (.slice ha hs.length hc)) := fun W hW => (hW.cell (p := ⟨w.heap.size, 1, none⟩) (by simp; omega)).trans (by simp)
  unfold cyB
  generalize alB 0 100000 hs = b3 at *
  generalize rsN hs hs.length = b4 at *
  clear hrh
  by_cases h7 : wk.length = 7
  · have l1 : ((wk.length : Int) == 7) = true := by simp; omega
    rw [decide_eq_true h7]
    clear h7
    by_cases h60 : hs.length ≤ 60
    · have l2 : (hs.length : Int) ≤ 60 := by omega
      rw [decide_eq_true h60]
      clear h60
      cases b3
      · go_enter Try.func56, Try.ntmps56
        go_wp2_with (go_at_call 36; refine (HA.out _ (chain (below_alloc _ _) (below_alloc _ _))).mono ?_; rintro e w2 ⟨rfl, hb2⟩; have hc2 := HC.out _ hb2)
        go_ret
        exact ⟨ret_bool (by simp), chain (chain (below_alloc _ _) (below_alloc _ _)) hb2⟩
      · go_enter Try.func56, Try.ntmps56
        go_wp2_with (first | (go_at_call 36; refine (HA.out _ (chain (below_alloc _ _) (below_alloc _ _))).mono ?_; rintro e w2 ⟨rfl, hb2⟩; have hc2 := HC.out _ hb2) | (go_at_call 62; refine (HRs.out _ (chain (chain (below_alloc _ _) (below_alloc _ _)) hb2)).mono ?_; rintro e w3 ⟨rfl, hb3⟩))
        go_ret
        exact ⟨ret_bool (by simp), chain (chain (chain (below_alloc _ _) (below_alloc _ _)) hb2) hb3⟩
    · have l2 : ¬ (hs.length : Int) ≤ 60 := by omega
      rw [decide_eq_false h60]
      clear h60
      go_enter Try.func56, Try.ntmps56
      go_wp2
      go_ret
      exact ⟨ret_bool (by simp), chain (below_alloc _ _) (below_alloc _ _)⟩
  · have l1 : ((wk.length : Int) == 7) = false := by simp; omega
    have l1' : ¬ (wk.length : Int) = 7 := by omega
    rw [decide_eq_false h7]
    clear h7
    go_enter Try.func56, Try.ntmps56
    go_wp2
    go_ret
    exact ⟨ret_bool (by simp), chain (below_alloc _ _) (below_alloc _ _)⟩
theorem set2_at {w : World} {b : Nat} {o0 o1 : Value} (h0 : w.cell? ⟨b, 0, none⟩ = some o0) (h1 : w.cell? ⟨b, 1, none⟩ = some o1) (v0 v1 : Value) : ((w.setCell ⟨b, 0, none⟩ v0).setCell ⟨b, 1, none⟩ v1).cell? ⟨b, 0, none⟩ = some v0 ∧ ((w.setCell ⟨b, 0, none⟩ v0).setCell ⟨b, 1, none⟩ v1).cell? ⟨b, 1, none⟩ = some v1 := by
  refine ⟨?_, ?_⟩
  · rw [World.cell?_setCell_other _ _ _ _ (by simp)]; exact World.cell?_setCell_same _ _ _ h0
  · exact World.cell?_setCell_same _ _ _ (by rw [World.cell?_setCell_other _ _ _ _ (by simp)]; exact h1)
/-- The two boxes of calendarOf. -/
def bxW (w : World) (wa ha : Option Addr) (wc hc : Nat) (wk : List Bool) (hs : List Int) : World := (w.alloc (Obj.cells #[.slice none 0 0, .slice none 0 0] 71)).alloc (Obj.cells #[.slice wa wk.length wc, .slice ha hs.length hc] 71)
theorem bxW_cells (w : World) (wa ha : Option Addr) (wc hc : Nat) (wk : List Bool) (hs : List Int) : ∀ W, Below (bxW w wa ha wc hc wk hs).heap.size (bxW w wa ha wc hc wk hs) W → (W.cell? ⟨w.heap.size, 0, none⟩ = some (.slice none 0 0) ∧ W.cell? ⟨w.heap.size, 1, none⟩ = some (.slice none 0 0) ∧ W.frozen? ⟨w.heap.size, 0, none⟩ = false ∧ W.frozen? ⟨w.heap.size, 1, none⟩ = false) ∧ W.cell? ⟨w.heap.size + 1, 0, none⟩ = some (.slice wa wk.length wc) ∧ W.cell? ⟨w.heap.size + 1, 1, none⟩ = some (.slice ha hs.length hc) := fun W hW => by
  have z : (bxW w wa ha wc hc wk hs).heap.size = w.heap.size + 2 := by unfold bxW; simp
  have c : ∀ b j, b < w.heap.size + 2 → W.cell? ⟨b, j, none⟩ = (bxW w wa ha wc hc wk hs).cell? ⟨b, j, none⟩ := fun b j hb => hW.cell (p := ⟨b, j, none⟩) (by rw [z]; exact hb)
  have f : ∀ b j, b < w.heap.size + 2 → W.frozen? ⟨b, j, none⟩ = (bxW w wa ha wc hc wk hs).frozen? ⟨b, j, none⟩ := fun b j hb => hW.frozen (p := ⟨b, j, none⟩) (by rw [z]; exact hb)
  refine ⟨⟨?_, ?_, ?_, ?_⟩, ?_, ?_⟩
  · rw [c _ _ (by omega)]; unfold bxW; simp
  · rw [c _ _ (by omega)]; unfold bxW; simp
  · rw [f _ _ (by omega)]; unfold bxW; simp
  · rw [f _ _ (by omega)]; unfold bxW; simp
  · rw [c _ _ (by omega)]; unfold bxW; simp
  · rw [c _ _ (by omega)]; unfold bxW; simp
def calV (wa ha : Option Addr) (wc hc : Nat) (wk : List Bool) (hs : List Int) : Value := if cyC wk hs = 0 then .agg #[.slice wa wk.length wc, .slice ha hs.length hc] else .agg #[.slice none 0 0, .slice none 0 0]
set_option maxHeartbeats 2000000 in
theorem calOf_any (wa ha : Option Addr) (wc hc : Nat) (wk : List Bool) (hs : List Int) (hl1 : wk.length ≤ 100000000) (hl : hs.length ≤ 100000000) (w : World) (hrh : Reads w.heap.size w ha hs) :
    Calls Try.prog 42 #[.slice wa wk.length wc, .slice ha hs.length hc] w fun e w' => e = .returned (.tuple #[calV wa ha wc hc wk hs, .int .i64 (cyC wk hs)]) ∧ Below w.heap.size w w' := by
  have HR : Hid (∀ W, Below w.heap.size w W → Calls Try.prog 56 #[.agg #[.slice wa wk.length wc, .slice ha hs.length hc]] W fun e w' => e = .returned (.bool (cyB wk hs)) ∧ Below W.heap.size W w') := fun W hW => calRight_any wa ha wc hc wk hs hl1 hl W (readsL hrh hW)
  clear hrh
  unfold calV
  rcases cy_ways wk hs with ⟨h1, e1⟩ | ⟨h1, h2, e1⟩ | ⟨h1, h2, h3, e1⟩ | ⟨h1, h2, h3, e1⟩ <;> rw [e1] <;> clear e1
  · have l1 : (4096 : Int) < (wk.length : Int) := by omega
    rw [if_neg (by decide)]
    go_enter Try.func42, Try.ntmps42
    go_wp2
    refine bodyPost_ret (v := .tuple #[.agg #[.slice none 0 0, .slice none 0 0], .int .i64 2]) (by simp [results, Try.results42, go_sem]) rfl ⟨rfl, ?_⟩
    repeat (first | exact Below.refl _ _ | refine chain ?_ (below_alloc _ _) | refine Below.setCell ?_ (by dsimp only; omega) _)
  · have l1 : ¬ (4096 : Int) < (wk.length : Int) := by omega
    have l2 : (4096 : Int) < (hs.length : Int) := by omega
    rw [if_neg (by decide)]
    go_enter Try.func42, Try.ntmps42
    go_wp2
    refine bodyPost_ret (v := .tuple #[.agg #[.slice none 0 0, .slice none 0 0], .int .i64 2]) (by simp [results, Try.results42, go_sem]) rfl ⟨rfl, ?_⟩
    repeat (first | exact Below.refl _ _ | refine chain ?_ (below_alloc _ _) | refine Below.setCell ?_ (by dsimp only; omega) _)
  · have l1 : ¬ (4096 : Int) < (wk.length : Int) := by omega
    have l2 : ¬ (4096 : Int) < (hs.length : Int) := by omega
    rw [if_neg (by decide)]
    rw [h3] at HR
    have HC : Hid (∀ W, Below (bxW w wa ha wc hc wk hs).heap.size (bxW w wa ha wc hc wk hs) W → (W.cell? ⟨w.heap.size, 0, none⟩ = some (.slice none 0 0) ∧ W.cell? ⟨w.heap.size, 1, none⟩ = some (.slice none 0 0) ∧ W.frozen? ⟨w.heap.size, 0, none⟩ = false ∧ W.frozen? ⟨w.heap.size, 1, none⟩ = false) ∧ W.cell? ⟨w.heap.size + 1, 0, none⟩ = some (.slice wa wk.length wc) ∧ W.cell? ⟨w.heap.size + 1, 1, none⟩ = some (.slice ha hs.length hc)) := bxW_cells w wa ha wc hc wk hs
    have HB0 : Hid (Below w.heap.size w (bxW w wa ha wc hc wk hs)) := chain (below_alloc _ _) (below_alloc _ _)
    have hbx : (w.alloc (Obj.cells #[.slice none 0 0, .slice none 0 0] 71)).alloc (Obj.cells #[.slice wa wk.length wc, .slice ha hs.length hc] 71) = bxW w wa ha wc hc wk hs := rfl
    clear h1 h2 h3
    go_enter Try.func42, Try.ntmps42
    go_upto_region 4 with fail
    clear hbx
    generalize bxW w wa ha wc hc wk hs = W0 at *
    obtain ⟨⟨d0, d1, d2, d3⟩, d4, d5⟩ := HC.out W0 (Below.refl _ _)
    go_wp2_with fail
    (first | go_at_call 56 | skip)
    refine (HR.out _ HB0.out).mono ?_
    rintro e w2 ⟨rfl, hb2⟩
    obtain ⟨⟨f0, f1, f2, f3⟩, f4, f5⟩ := HC.out _ hb2
    have HB2 : Hid (Below w.heap.size w w2) := chain HB0.out hb2
    have HC9 : Hid (((w2.setCell ⟨w.heap.size, 0, none⟩ (.slice none 0 0)).setCell ⟨w.heap.size, 1, none⟩ (.slice none 0 0)).cell? ⟨w.heap.size, 0, none⟩ = some (.slice none 0 0) ∧ ((w2.setCell ⟨w.heap.size, 0, none⟩ (.slice none 0 0)).setCell ⟨w.heap.size, 1, none⟩ (.slice none 0 0)).cell? ⟨w.heap.size, 1, none⟩ = some (.slice none 0 0)) := set2_at f0 f1 _ _
    have HB9 : Hid (Below w.heap.size w ((w2.setCell ⟨w.heap.size, 0, none⟩ (.slice none 0 0)).setCell ⟨w.heap.size, 1, none⟩ (.slice none 0 0))) := (HB2.out.setCell (Nat.le_refl _) _).setCell (Nat.le_refl _) _
    clear d0 d1 d2 d3 d4 d5 hb2
    go_wp2_with fail
    generalize ((w2.setCell ⟨w.heap.size, 0, none⟩ (.slice none 0 0)).setCell ⟨w.heap.size, 1, none⟩ (.slice none 0 0)) = W9 at *
    obtain ⟨E0, E1⟩ := HC9.out
    refine bodyPost_ret (v := .tuple #[.agg #[.slice none 0 0, .slice none 0 0], .int .i64 1]) (by simp [results, Try.results42, go_sem, E0, E1]) rfl ⟨rfl, HB9.out⟩
  · have l1 : ¬ (4096 : Int) < (wk.length : Int) := by omega
    have l2 : ¬ (4096 : Int) < (hs.length : Int) := by omega
    rw [if_pos rfl]
    rw [h3] at HR
    have HC : Hid (∀ W, Below (bxW w wa ha wc hc wk hs).heap.size (bxW w wa ha wc hc wk hs) W → (W.cell? ⟨w.heap.size, 0, none⟩ = some (.slice none 0 0) ∧ W.cell? ⟨w.heap.size, 1, none⟩ = some (.slice none 0 0) ∧ W.frozen? ⟨w.heap.size, 0, none⟩ = false ∧ W.frozen? ⟨w.heap.size, 1, none⟩ = false) ∧ W.cell? ⟨w.heap.size + 1, 0, none⟩ = some (.slice wa wk.length wc) ∧ W.cell? ⟨w.heap.size + 1, 1, none⟩ = some (.slice ha hs.length hc)) := bxW_cells w wa ha wc hc wk hs
    have HB0 : Hid (Below w.heap.size w (bxW w wa ha wc hc wk hs)) := chain (below_alloc _ _) (below_alloc _ _)
    have hbx : (w.alloc (Obj.cells #[.slice none 0 0, .slice none 0 0] 71)).alloc (Obj.cells #[.slice wa wk.length wc, .slice ha hs.length hc] 71) = bxW w wa ha wc hc wk hs := rfl
    clear h1 h2 h3
    go_enter Try.func42, Try.ntmps42
    go_upto_region 4 with fail
    clear hbx
    generalize bxW w wa ha wc hc wk hs = W0 at *
    obtain ⟨⟨d0, d1, d2, d3⟩, d4, d5⟩ := HC.out W0 (Below.refl _ _)
    go_wp2_with fail
    (first | go_at_call 56 | skip)
    refine (HR.out _ HB0.out).mono ?_
    rintro e w2 ⟨rfl, hb2⟩
    obtain ⟨⟨f0, f1, f2, f3⟩, f4, f5⟩ := HC.out _ hb2
    have HB2 : Hid (Below w.heap.size w w2) := chain HB0.out hb2
    have HC9 : Hid (((w2.setCell ⟨w.heap.size, 0, none⟩ (.slice wa wk.length wc)).setCell ⟨w.heap.size, 1, none⟩ (.slice ha hs.length hc)).cell? ⟨w.heap.size, 0, none⟩ = some (.slice wa wk.length wc) ∧ ((w2.setCell ⟨w.heap.size, 0, none⟩ (.slice wa wk.length wc)).setCell ⟨w.heap.size, 1, none⟩ (.slice ha hs.length hc)).cell? ⟨w.heap.size, 1, none⟩ = some (.slice ha hs.length hc)) := set2_at f0 f1 _ _
    have HB9 : Hid (Below w.heap.size w ((w2.setCell ⟨w.heap.size, 0, none⟩ (.slice wa wk.length wc)).setCell ⟨w.heap.size, 1, none⟩ (.slice ha hs.length hc))) := (HB2.out.setCell (Nat.le_refl _) _).setCell (Nat.le_refl _) _
    clear d0 d1 d2 d3 d4 d5 hb2
    go_wp2_with fail
    generalize ((w2.setCell ⟨w.heap.size, 0, none⟩ (.slice wa wk.length wc)).setCell ⟨w.heap.size, 1, none⟩ (.slice ha hs.length hc)) = W9 at *
    obtain ⟨E0, E1⟩ := HC9.out
    refine bodyPost_ret (v := .tuple #[.agg #[.slice wa wk.length wc, .slice ha hs.length hc], .int .i64 0]) (by simp [results, Try.results42, go_sem, E0, E1]) rfl ⟨rfl, HB9.out⟩
end Go.Proofs.Ytbgjekhekjbcpaa

/-
  Contracts of the program's spots of a hall: hasSpot.
-/
import Derived.Test.YthmhpgbkapjjkaaPkA
import Derived.Test.YthmhpgbkapjjkaaRowG
namespace Go.Proofs.Ythmhpgbkapjjkaa
open Go.ChangeShapes Go.WideShapes Go.ChangeAt Go.RowKit Go.Joins Go.Deep
set_option linter.unusedVariables false

/-- Two spans that are being made, each in a block of its own, behind W1. -/
structure TwoB (W1 : World) (p5 p6 : Option (Nat × Int × Int)) (W : World) : Prop where
  low : Below W1.heap.size W1 W
  at5 : ∀ b u v, p5 = some (b, u, v) → W.heap[b]? = some (.cells #[.int .i64 u, .int .i64 v] 119 (0, 0)) ∧ W1.heap.size ≤ b
  at6 : ∀ b u v, p6 = some (b, u, v) → W.heap[b]? = some (.cells #[.int .i64 u, .int .i64 v] 119 (0, 0)) ∧ W1.heap.size ≤ b
  ne : ∀ b u v b' u' v', p5 = some (b, u, v) → p6 = some (b', u', v') → b ≠ b'
section
variable {W1 W W' : World} {p5 p6 : Option (Nat × Int × Int)}
theorem TwoB.later (h : TwoB W1 p5 p6 W) (hb : Below W.heap.size W W') : TwoB W1 p5 p6 W' :=
  ⟨chain h.low hb, fun b u v e => ⟨(hb.block b (blkLt (h.at5 b u v e).1)).trans (h.at5 b u v e).1, (h.at5 b u v e).2⟩, fun b u v e => ⟨(hb.block b (blkLt (h.at6 b u v e).1)).trans (h.at6 b u v e).1, (h.at6 b u v e).2⟩, h.ne⟩
theorem TwoB.mk5 (h : TwoB W1 none p6 W) : TwoB W1 (some (W.heap.size, 0, 0)) p6 (W.alloc (Obj.cells #[.int .i64 0, .int .i64 0] 119)) := by
  have k := h.later (below_alloc W (Obj.cells #[.int .i64 0, .int .i64 0] 119))
  refine ⟨k.low, fun b u v e => ?_, k.at6, fun b u v b' u' v' e e' hh => ?_⟩
  · simp only [Option.some.injEq, Prod.mk.injEq] at e
    obtain ⟨rfl, rfl, rfl⟩ := e
    exact ⟨heapNew _ _, h.low.size⟩
  · simp only [Option.some.injEq, Prod.mk.injEq] at e
    have := blkLt (h.at6 _ _ _ e').1
    omega
theorem TwoB.mk6 (h : TwoB W1 p5 none W) : TwoB W1 p5 (some (W.heap.size, 0, 0)) (W.alloc (Obj.cells #[.int .i64 0, .int .i64 0] 119)) := by
  have k := h.later (below_alloc W (Obj.cells #[.int .i64 0, .int .i64 0] 119))
  refine ⟨k.low, k.at5, fun b u v e => ?_, fun b u v b' u' v' e e' hh => ?_⟩
  · simp only [Option.some.injEq, Prod.mk.injEq] at e
    obtain ⟨rfl, rfl, rfl⟩ := e
    exact ⟨heapNew _ _, h.low.size⟩
  · simp only [Option.some.injEq, Prod.mk.injEq] at e'
    have := blkLt (h.at5 _ _ _ e).1
    omega
theorem set_two {b : Nat} {u v : Value} {t : TypeId} (h : W.heap[b]? = some (.cells #[u, v] t (0, 0))) (x y : Value) : ((W.setCell ⟨b, 0, none⟩ x).setCell ⟨b, 1, none⟩ y).heap[b]? = some (.cells #[x, y] t (0, 0)) ∧ (∀ d, d ≠ b → ((W.setCell ⟨b, 0, none⟩ x).setCell ⟨b, 1, none⟩ y).heap[d]? = W.heap[d]?) := by
  have h1 := heap_setCell_same W b 0 _ t x h
  have h2 := heap_setCell_same _ b 1 _ t y h1
  refine ⟨by rw [h2]; simp only [List.setIfInBounds_toArray, List.set_cons_zero, List.set_cons_succ], fun d hd => ?_⟩
  rw [heap_setCell_other _ _ _ _ hd, heap_setCell_other _ _ _ _ hd]
theorem TwoB.st5 {b : Nat} {u v x y : Int} (h : TwoB W1 (some (b, u, v)) p6 W) : TwoB W1 (some (b, x, y)) p6 ((W.setCell ⟨b, 0, none⟩ (.int .i64 x)).setCell ⟨b, 1, none⟩ (.int .i64 y)) := by
  obtain ⟨hb, hl⟩ := h.at5 _ _ _ rfl
  obtain ⟨e1, e2⟩ := set_two hb (.int .i64 x) (.int .i64 y)
  refine ⟨(h.low.setCell hl _).setCell hl _, fun b' u' v' e => ?_, fun b' u' v' e => ⟨(e2 b' (fun q => h.ne _ _ _ _ _ _ rfl e q.symm)).trans (h.at6 _ _ _ e).1, (h.at6 _ _ _ e).2⟩, fun b1 u1 v1 b' u' v' e e' => ?_⟩
  · simp only [Option.some.injEq, Prod.mk.injEq] at e
    obtain ⟨rfl, rfl, rfl⟩ := e
    exact ⟨e1, hl⟩
  · simp only [Option.some.injEq, Prod.mk.injEq] at e
    obtain ⟨rfl, rfl, rfl⟩ := e
    exact h.ne _ _ _ _ _ _ rfl e'
theorem TwoB.st6 {b : Nat} {u v x y : Int} (h : TwoB W1 p5 (some (b, u, v)) W) : TwoB W1 p5 (some (b, x, y)) ((W.setCell ⟨b, 0, none⟩ (.int .i64 x)).setCell ⟨b, 1, none⟩ (.int .i64 y)) := by
  obtain ⟨hb, hl⟩ := h.at6 _ _ _ rfl
  obtain ⟨e1, e2⟩ := set_two hb (.int .i64 x) (.int .i64 y)
  refine ⟨(h.low.setCell hl _).setCell hl _, fun b' u' v' e => ⟨(e2 b' (fun q => h.ne _ _ _ _ _ _ e rfl q)).trans (h.at5 _ _ _ e).1, (h.at5 _ _ _ e).2⟩, fun b' u' v' e => ?_, fun b1 u1 v1 b' u' v' e e' => ?_⟩
  · simp only [Option.some.injEq, Prod.mk.injEq] at e
    obtain ⟨rfl, rfl, rfl⟩ := e
    exact ⟨e1, hl⟩
  · simp only [Option.some.injEq, Prod.mk.injEq] at e'
    obtain ⟨rfl, rfl, rfl⟩ := e'
    exact h.ne _ _ _ _ _ _ e rfl
theorem TwoB.cells5 {b : Nat} {u v : Int} (h : TwoB W1 (some (b, u, v)) p6 W) : W.cell? ⟨b, 0, none⟩ = some (.int .i64 u) ∧ W.cell? ⟨b, 1, none⟩ = some (.int .i64 v) := ⟨blkCell (h.at5 _ _ _ rfl).1 0 _ rfl, blkCell (h.at5 _ _ _ rfl).1 1 _ rfl⟩
theorem TwoB.cells6 {b : Nat} {u v : Int} (h : TwoB W1 p5 (some (b, u, v)) W) : W.cell? ⟨b, 0, none⟩ = some (.int .i64 u) ∧ W.cell? ⟨b, 1, none⟩ = some (.int .i64 v) := ⟨blkCell (h.at6 _ _ _ rfl).1 0 _ rfl, blkCell (h.at6 _ _ _ rfl).1 1 _ rfl⟩
theorem TwoB.below {w : World} (h : TwoB W1 p5 p6 W) (hl : Below w.heap.size w W1) : Below w.heap.size w W := chain hl h.low
end
set_option maxHeartbeats 4000000 in
theorem impHas_any (a p g x y : Int) (hh : hlB a p g = true) (w : World) :
    Calls Try.prog 66 #[.agg #[.int .i64 a, .int .i64 p, .int .i64 g], .agg #[.int .i64 x, .int .i64 y]] w fun e w' => e = .returned (.bool (spB a p ⟨x, y⟩)) ∧ Below w.heap.size w w' := by
  obtain ⟨h1, h2, h3⟩ := hl_facts hh
  have hw : IntKind.i64.wrap (a - 1) = a - 1 := wrap_id _ (by omega) (by omega)
  have HB : Hid (∀ W, Calls Try.prog 60 #[.agg #[.int .i64 a, .int .i64 p, .int .i64 g]] W fun e w' => e = .returned (.int .i64 (p + 1)) ∧ Below W.heap.size W w') := fun W => impBack_any a p g (by omega) W
  have H1 : Hid (∀ W, Calls Try.prog 77 #[.agg #[.int .i64 0, .int .i64 (a - 1)], .int .i64 x] W fun e w' => e = .returned (.bool (inB x 0 (a - 1))) ∧ Below W.heap.size W w') := fun W => qSpan_any 0 (a - 1) x W
  have H2 : Hid (∀ W, Calls Try.prog 77 #[.agg #[.int .i64 0, .int .i64 (p + 1)], .int .i64 y] W fun e w' => e = .returned (.bool (inB y 0 (p + 1))) ∧ Below W.heap.size W w') := fun W => qSpan_any 0 (p + 1) y W
  unfold spB
  dsimp only
  generalize inB x 0 (a - 1) = b1 at *
  generalize inB y 0 (p + 1) = b2 at *
  clear h1 h2 h3 hh
  obtain ⟨W1, hW1⟩ : ∃ W1, W1 = (w.alloc (Obj.cells #[.int .i64 a, .int .i64 p, .int .i64 g] 24)).alloc (Obj.cells #[.int .i64 x, .int .i64 y] 35) := ⟨_, rfl⟩
  have HL : Hid (Below w.heap.size w W1) := by rw [hW1]; exact chain (below_alloc _ _) (below_alloc _ _)
  have HQ : Hid (∀ W, Below W1.heap.size W1 W → W.cell? ⟨w.heap.size, 0, none⟩ = some (.int .i64 a) ∧ W.cell? ⟨w.heap.size, 1, none⟩ = some (.int .i64 p) ∧ W.cell? ⟨w.heap.size, 2, none⟩ = some (.int .i64 g)) := fun W hb => by
    rw [hW1] at hb
    exact ⟨(hb.cell (p := ⟨w.heap.size, 0, none⟩) (by simp only [World.size_alloc]; omega)).trans ((cellOld _ _ (by simp only [World.size_alloc]; omega)).trans (cellNew _ _ _ _ rfl rfl)), (hb.cell (p := ⟨w.heap.size, 1, none⟩) (by simp only [World.size_alloc]; omega)).trans ((cellOld _ _ (by simp only [World.size_alloc]; omega)).trans (cellNew _ _ _ _ rfl rfl)), (hb.cell (p := ⟨w.heap.size, 2, none⟩) (by simp only [World.size_alloc]; omega)).trans ((cellOld _ _ (by simp only [World.size_alloc]; omega)).trans (cellNew _ _ _ _ rfl rfl))⟩
  have HS : Hid (∀ W, Below W1.heap.size W1 W → W.cell? ⟨w.heap.size + 1, 0, none⟩ = some (.int .i64 x) ∧ W.cell? ⟨w.heap.size + 1, 1, none⟩ = some (.int .i64 y)) := fun W hb => by
    rw [hW1] at hb
    exact ⟨(hb.cell (p := ⟨w.heap.size + 1, 0, none⟩) (by simp only [World.size_alloc]; omega)).trans (cellNew _ _ _ _ (by simp only [World.size_alloc]) rfl), (hb.cell (p := ⟨w.heap.size + 1, 1, none⟩) (by simp only [World.size_alloc]; omega)).trans (cellNew _ _ _ _ (by simp only [World.size_alloc]) rfl)⟩
  have HE : Hid (W1 = (w.alloc (Obj.cells #[.int .i64 a, .int .i64 p, .int .i64 g] 24)).alloc (Obj.cells #[.int .i64 x, .int .i64 y] 35)) := hW1
  obtain ⟨WD, hWD⟩ : ∃ WD, WD = W1.drew := ⟨_, rfl⟩
  have HD : Hid (WD = W1.drew) := hWD
  have R0 : Hid (TwoB W1 none none WD) := ⟨(by rw [hWD]; exact below_drew _), fun b u v e => (by cases e), fun b u v e => (by cases e), fun b u v b' u' v' e e' => (by cases e)⟩
  clear hW1 hWD
  go_enter Try.func66, Try.ntmps66
  go_upto_region 1 with fail
  rw [← HE.out]
  refine wp_region_held_drew (S := fun W' => Below W1.heap.size W1 W') (by kernel_rfl) (below_drew _) (fun hH => ?_)
  rw [← HD.out]
  rw [← HD.out] at hH
  refine wpAnyH_take (i := 0) (v := .pointer (some ⟨w.heap.size, 0, none⟩)) rfl (by kernel_rfl) (by kernel_rfl) (by kernel_rfl) (fun _ _ _ h => h) (Or.inl ⟨by rfl, fun w hSw => by go_simp⟩) hH ?_
  refine wpAnyH_take (i := 1) (v := .int .i64 a) rfl (by kernel_rfl) (by kernel_rfl) (by kernel_rfl) (fun _ _ _ h => h) (Or.inl ⟨by rfl, fun w hSw => by obtain ⟨f0, f1, f2⟩ := HQ.out w hSw; clear hSw; go_simp⟩) hH ?_
  try simp only [Act.put, List.setIfInBounds_toArray, List.set_cons_zero, List.set_cons_succ, List.getElem_toArray, List.getElem_cons_succ, List.getElem_cons_zero]
  refine wpAnyH_take (i := 2) (v := .int .i64 (a - 1)) rfl (by kernel_rfl) (by kernel_rfl) (by kernel_rfl) (fun _ _ _ h => h) (Or.inl ⟨by rfl, fun w hSw => by clear hSw; go_simp⟩) hH ?_
  try simp only [Act.put, List.setIfInBounds_toArray, List.set_cons_zero, List.set_cons_succ, List.getElem_toArray, List.getElem_cons_succ, List.getElem_cons_zero]
  refine wpAnyH_take (i := 3) (v := .agg #[.int .i64 0, .int .i64 (a - 1)]) rfl (by kernel_rfl) (by kernel_rfl) (by kernel_rfl) (fun _ _ _ h => h) (Or.inl ⟨by rfl, fun w hSw => by clear hSw; go_simp⟩) hH ?_
  try simp only [Act.put, List.setIfInBounds_toArray, List.set_cons_zero, List.set_cons_succ, List.getElem_toArray, List.getElem_cons_succ, List.getElem_cons_zero]
  refine wpAnyH_take (i := 4) (v := .agg #[.int .i64 a, .int .i64 p, .int .i64 g]) rfl (by kernel_rfl) (by kernel_rfl) (by kernel_rfl) (fun _ _ _ h => h) (Or.inl ⟨by rfl, fun w hSw => by obtain ⟨f0, f1, f2⟩ := HQ.out w hSw; clear hSw; go_simp⟩) hH ?_
  try simp only [Act.put, List.setIfInBounds_toArray, List.set_cons_zero, List.set_cons_succ, List.getElem_toArray, List.getElem_cons_succ, List.getElem_cons_zero]
  refine wpAnyH_ready (rs := [5, 7, 8]) (by kernel_rfl) (by simp) ?_
  refine AllReadyH.cons rfl (fun K hK => ?_) (AllReadyH.cons rfl (fun K hK => ?_) (AllReadyH.cons rfl (fun K hK => ?_) AllReadyH.nil))
  · skip
    go_simp
    go_at_call 60
    refine (HB.out _).mono ?_
    rintro e V1 ⟨rfl, hk⟩
    have R1 : Hid (TwoB W1 none none V1) := R0.out.later hk
    clear hk
    refine hK.out _ _ R1.out.low (fun _ => ?_)
    clear hK K
    try simp only [Act.put, List.setIfInBounds_toArray, List.set_cons_zero, List.set_cons_succ, List.getElem_toArray, List.getElem_cons_succ, List.getElem_cons_zero]
    refine wpAnyH_take (i := 6) (v := .agg #[.int .i64 0, .int .i64 (p + 1)]) rfl (by kernel_rfl) (by kernel_rfl) (by kernel_rfl) (fun _ _ _ h => h) (Or.inl ⟨by rfl, fun w hSw => by go_simp⟩) R1.out.low ?_
    try simp only [Act.put, List.setIfInBounds_toArray, List.set_cons_zero, List.set_cons_succ, List.getElem_toArray, List.getElem_cons_succ, List.getElem_cons_zero]
    refine wpAnyH_ready (rs := [7, 8]) (by kernel_rfl) (by simp) ?_
    refine AllReadyH.cons rfl (fun K hK => ?_) (AllReadyH.cons rfl (fun K hK => ?_) AllReadyH.nil)
    · skip
      go_simp
      obtain ⟨V2, hV2⟩ : ∃ V2, V2 = V1.alloc (Obj.cells #[.int .i64 0, .int .i64 0] 119) := ⟨_, rfl⟩
      rw [← hV2]
      have R2 : Hid (TwoB W1 (some (V1.heap.size, 0, 0)) none V2) := by rw [hV2]; exact R1.out.mk5
      clear hV2
      refine hK.out _ _ R2.out.low (fun _ => ?_)
      clear hK K
      try simp only [Act.put, List.setIfInBounds_toArray, List.set_cons_zero, List.set_cons_succ, List.getElem_toArray, List.getElem_cons_succ, List.getElem_cons_zero]
      refine wpAnyH_ready (rs := [8]) (by kernel_rfl) (by simp) ?_
      refine AllReadyH.cons rfl (fun K hK => ?_) AllReadyH.nil
      go_simp
      obtain ⟨V3, hV3⟩ : ∃ V3, V3 = V2.alloc (Obj.cells #[.int .i64 0, .int .i64 0] 119) := ⟨_, rfl⟩
      rw [← hV3]
      have R3 : Hid (TwoB W1 (some (V1.heap.size, 0, 0)) (some (V2.heap.size, 0, 0)) V3) := by rw [hV3]; exact R2.out.mk6
      clear hV3
      refine hK.out _ _ R3.out.low (fun _ => ?_)
      clear hK K
      try simp only [Act.put, List.setIfInBounds_toArray, List.set_cons_zero, List.set_cons_succ, List.getElem_toArray, List.getElem_cons_succ, List.getElem_cons_zero]
      refine wpAnyH_ready (rs := [9]) (by kernel_rfl) (by simp) ?_
      refine AllReadyH.cons rfl (fun K hK => ?_) AllReadyH.nil
      have hc := R3.out.at5 _ _ _ rfl
      have f0 := blkCell hc.1 0 _ rfl
      have f1 := blkCell hc.1 1 _ rfl
      have f2 := blkFree hc.1 0
      have f3 := blkFree hc.1 1
      clear hc
      go_simp
      clear f0 f1 f2 f3
      obtain ⟨V4, hV4⟩ : ∃ V4, V4 = (V3.setCell ⟨V1.heap.size, 0, none⟩ (.int .i64 0)).setCell ⟨V1.heap.size, 1, none⟩ (.int .i64 (a - 1)) := ⟨_, rfl⟩
      rw [← hV4]
      have R4 : Hid (TwoB W1 (some (V1.heap.size, 0, a - 1)) (some (V2.heap.size, 0, 0)) V4) := by rw [hV4]; exact R3.out.st5
      clear hV4
      refine hK.out _ _ R4.out.low (fun _ => ?_)
      clear hK K
      try simp only [Act.put, List.setIfInBounds_toArray, List.set_cons_zero, List.set_cons_succ, List.getElem_toArray, List.getElem_cons_succ, List.getElem_cons_zero]
      refine wpAnyH_ready (rs := [10]) (by kernel_rfl) (by simp) ?_
      refine AllReadyH.cons rfl (fun K hK => ?_) AllReadyH.nil
      have hc := R4.out.at6 _ _ _ rfl
      have f0 := blkCell hc.1 0 _ rfl
      have f1 := blkCell hc.1 1 _ rfl
      have f2 := blkFree hc.1 0
      have f3 := blkFree hc.1 1
      clear hc
      go_simp
      clear f0 f1 f2 f3
      obtain ⟨V5, hV5⟩ : ∃ V5, V5 = (V4.setCell ⟨V2.heap.size, 0, none⟩ (.int .i64 0)).setCell ⟨V2.heap.size, 1, none⟩ (.int .i64 (p + 1)) := ⟨_, rfl⟩
      rw [← hV5]
      have R5 : Hid (TwoB W1 (some (V1.heap.size, 0, a - 1)) (some (V2.heap.size, 0, p + 1)) V5) := by rw [hV5]; exact R4.out.st6
      clear hV5
      refine hK.out _ _ R5.out.low (fun _ => ?_)
      clear hK K
      try simp only [Act.put, List.setIfInBounds_toArray, List.set_cons_zero, List.set_cons_succ, List.getElem_toArray, List.getElem_cons_succ, List.getElem_cons_zero]
      refine wpAnyH_done (by kernel_rfl) ?_ _
      clear hH
      obtain ⟨q0, q1⟩ := R5.out.cells5
      obtain ⟨q2, q3⟩ := HS.out _ R5.out.low
      cases b1
      · go_wp2_with fail
        (first | go_at_call 77 | skip)
        refine (H1.out _).mono ?_
        rintro e w2 ⟨rfl, hb2⟩
        go_wp2
        go_ret
        exact ⟨rfl, (R5.out.later hb2).below HL.out⟩
      go_wp2_with fail
      (first | go_at_call 77 | skip)
      refine (H1.out _).mono ?_
      rintro e w2 ⟨rfl, hb2⟩
      have RR : Hid (TwoB W1 (some (V1.heap.size, 0, a - 1)) (some (V2.heap.size, 0, p + 1)) w2) := R5.out.later hb2
      obtain ⟨q4, q5⟩ := RR.out.cells6
      obtain ⟨q6, q7⟩ := HS.out _ RR.out.low
      clear q0 q1 q2 q3
      go_wp2_with fail
      (first | go_at_call 77 | skip)
      refine (H2.out _).mono ?_
      rintro e w3 ⟨rfl, hb3⟩
      cases b2
      all_goals
        go_wp2
        go_ret
        exact ⟨rfl, (RR.out.later hb3).below HL.out⟩
    · skip
      go_simp
      obtain ⟨V6, hV6⟩ : ∃ V6, V6 = V1.alloc (Obj.cells #[.int .i64 0, .int .i64 0] 119) := ⟨_, rfl⟩
      rw [← hV6]
      have R6 : Hid (TwoB W1 none (some (V1.heap.size, 0, 0)) V6) := by rw [hV6]; exact R1.out.mk6
      clear hV6
      refine hK.out _ _ R6.out.low (fun _ => ?_)
      clear hK K
      try simp only [Act.put, List.setIfInBounds_toArray, List.set_cons_zero, List.set_cons_succ, List.getElem_toArray, List.getElem_cons_succ, List.getElem_cons_zero]
      refine wpAnyH_ready (rs := [7]) (by kernel_rfl) (by simp) ?_
      refine AllReadyH.cons rfl (fun K hK => ?_) AllReadyH.nil
      go_simp
      obtain ⟨V7, hV7⟩ : ∃ V7, V7 = V6.alloc (Obj.cells #[.int .i64 0, .int .i64 0] 119) := ⟨_, rfl⟩
      rw [← hV7]
      have R7 : Hid (TwoB W1 (some (V6.heap.size, 0, 0)) (some (V1.heap.size, 0, 0)) V7) := by rw [hV7]; exact R6.out.mk5
      clear hV7
      refine hK.out _ _ R7.out.low (fun _ => ?_)
      clear hK K
      try simp only [Act.put, List.setIfInBounds_toArray, List.set_cons_zero, List.set_cons_succ, List.getElem_toArray, List.getElem_cons_succ, List.getElem_cons_zero]
      refine wpAnyH_ready (rs := [9]) (by kernel_rfl) (by simp) ?_
      refine AllReadyH.cons rfl (fun K hK => ?_) AllReadyH.nil
      have hc := R7.out.at5 _ _ _ rfl
      have f0 := blkCell hc.1 0 _ rfl
      have f1 := blkCell hc.1 1 _ rfl
      have f2 := blkFree hc.1 0
      have f3 := blkFree hc.1 1
      clear hc
      go_simp
      clear f0 f1 f2 f3
      obtain ⟨V8, hV8⟩ : ∃ V8, V8 = (V7.setCell ⟨V6.heap.size, 0, none⟩ (.int .i64 0)).setCell ⟨V6.heap.size, 1, none⟩ (.int .i64 (a - 1)) := ⟨_, rfl⟩
      rw [← hV8]
      have R8 : Hid (TwoB W1 (some (V6.heap.size, 0, a - 1)) (some (V1.heap.size, 0, 0)) V8) := by rw [hV8]; exact R7.out.st5
      clear hV8
      refine hK.out _ _ R8.out.low (fun _ => ?_)
      clear hK K
      try simp only [Act.put, List.setIfInBounds_toArray, List.set_cons_zero, List.set_cons_succ, List.getElem_toArray, List.getElem_cons_succ, List.getElem_cons_zero]
      refine wpAnyH_ready (rs := [10]) (by kernel_rfl) (by simp) ?_
      refine AllReadyH.cons rfl (fun K hK => ?_) AllReadyH.nil
      have hc := R8.out.at6 _ _ _ rfl
      have f0 := blkCell hc.1 0 _ rfl
      have f1 := blkCell hc.1 1 _ rfl
      have f2 := blkFree hc.1 0
      have f3 := blkFree hc.1 1
      clear hc
      go_simp
      clear f0 f1 f2 f3
      obtain ⟨V9, hV9⟩ : ∃ V9, V9 = (V8.setCell ⟨V1.heap.size, 0, none⟩ (.int .i64 0)).setCell ⟨V1.heap.size, 1, none⟩ (.int .i64 (p + 1)) := ⟨_, rfl⟩
      rw [← hV9]
      have R9 : Hid (TwoB W1 (some (V6.heap.size, 0, a - 1)) (some (V1.heap.size, 0, p + 1)) V9) := by rw [hV9]; exact R8.out.st6
      clear hV9
      refine hK.out _ _ R9.out.low (fun _ => ?_)
      clear hK K
      try simp only [Act.put, List.setIfInBounds_toArray, List.set_cons_zero, List.set_cons_succ, List.getElem_toArray, List.getElem_cons_succ, List.getElem_cons_zero]
      refine wpAnyH_done (by kernel_rfl) ?_ _
      clear hH
      obtain ⟨q0, q1⟩ := R9.out.cells5
      obtain ⟨q2, q3⟩ := HS.out _ R9.out.low
      cases b1
      · go_wp2_with fail
        (first | go_at_call 77 | skip)
        refine (H1.out _).mono ?_
        rintro e w2 ⟨rfl, hb2⟩
        go_wp2
        go_ret
        exact ⟨rfl, (R9.out.later hb2).below HL.out⟩
      go_wp2_with fail
      (first | go_at_call 77 | skip)
      refine (H1.out _).mono ?_
      rintro e w2 ⟨rfl, hb2⟩
      have RR : Hid (TwoB W1 (some (V6.heap.size, 0, a - 1)) (some (V1.heap.size, 0, p + 1)) w2) := R9.out.later hb2
      obtain ⟨q4, q5⟩ := RR.out.cells6
      obtain ⟨q6, q7⟩ := HS.out _ RR.out.low
      clear q0 q1 q2 q3
      go_wp2_with fail
      (first | go_at_call 77 | skip)
      refine (H2.out _).mono ?_
      rintro e w3 ⟨rfl, hb3⟩
      cases b2
      all_goals
        go_wp2
        go_ret
        exact ⟨rfl, (RR.out.later hb3).below HL.out⟩
  · skip
    go_simp
    obtain ⟨V10, hV10⟩ : ∃ V10, V10 = WD.alloc (Obj.cells #[.int .i64 0, .int .i64 0] 119) := ⟨_, rfl⟩
    rw [← hV10]
    have R10 : Hid (TwoB W1 (some (WD.heap.size, 0, 0)) none V10) := by rw [hV10]; exact R0.out.mk5
    clear hV10
    refine hK.out _ _ R10.out.low (fun _ => ?_)
    clear hK K
    try simp only [Act.put, List.setIfInBounds_toArray, List.set_cons_zero, List.set_cons_succ, List.getElem_toArray, List.getElem_cons_succ, List.getElem_cons_zero]
    refine wpAnyH_ready (rs := [5, 8]) (by kernel_rfl) (by simp) ?_
    refine AllReadyH.cons rfl (fun K hK => ?_) (AllReadyH.cons rfl (fun K hK => ?_) AllReadyH.nil)
    · skip
      go_simp
      go_at_call 60
      refine (HB.out _).mono ?_
      rintro e V11 ⟨rfl, hk⟩
      have R11 : Hid (TwoB W1 (some (WD.heap.size, 0, 0)) none V11) := R10.out.later hk
      clear hk
      refine hK.out _ _ R11.out.low (fun _ => ?_)
      clear hK K
      try simp only [Act.put, List.setIfInBounds_toArray, List.set_cons_zero, List.set_cons_succ, List.getElem_toArray, List.getElem_cons_succ, List.getElem_cons_zero]
      refine wpAnyH_take (i := 6) (v := .agg #[.int .i64 0, .int .i64 (p + 1)]) rfl (by kernel_rfl) (by kernel_rfl) (by kernel_rfl) (fun _ _ _ h => h) (Or.inl ⟨by rfl, fun w hSw => by go_simp⟩) R11.out.low ?_
      try simp only [Act.put, List.setIfInBounds_toArray, List.set_cons_zero, List.set_cons_succ, List.getElem_toArray, List.getElem_cons_succ, List.getElem_cons_zero]
      refine wpAnyH_ready (rs := [8]) (by kernel_rfl) (by simp) ?_
      refine AllReadyH.cons rfl (fun K hK => ?_) AllReadyH.nil
      go_simp
      obtain ⟨V12, hV12⟩ : ∃ V12, V12 = V11.alloc (Obj.cells #[.int .i64 0, .int .i64 0] 119) := ⟨_, rfl⟩
      rw [← hV12]
      have R12 : Hid (TwoB W1 (some (WD.heap.size, 0, 0)) (some (V11.heap.size, 0, 0)) V12) := by rw [hV12]; exact R11.out.mk6
      clear hV12
      refine hK.out _ _ R12.out.low (fun _ => ?_)
      clear hK K
      try simp only [Act.put, List.setIfInBounds_toArray, List.set_cons_zero, List.set_cons_succ, List.getElem_toArray, List.getElem_cons_succ, List.getElem_cons_zero]
      refine wpAnyH_ready (rs := [9]) (by kernel_rfl) (by simp) ?_
      refine AllReadyH.cons rfl (fun K hK => ?_) AllReadyH.nil
      have hc := R12.out.at5 _ _ _ rfl
      have f0 := blkCell hc.1 0 _ rfl
      have f1 := blkCell hc.1 1 _ rfl
      have f2 := blkFree hc.1 0
      have f3 := blkFree hc.1 1
      clear hc
      go_simp
      clear f0 f1 f2 f3
      obtain ⟨V13, hV13⟩ : ∃ V13, V13 = (V12.setCell ⟨WD.heap.size, 0, none⟩ (.int .i64 0)).setCell ⟨WD.heap.size, 1, none⟩ (.int .i64 (a - 1)) := ⟨_, rfl⟩
      rw [← hV13]
      have R13 : Hid (TwoB W1 (some (WD.heap.size, 0, a - 1)) (some (V11.heap.size, 0, 0)) V13) := by rw [hV13]; exact R12.out.st5
      clear hV13
      refine hK.out _ _ R13.out.low (fun _ => ?_)
      clear hK K
      try simp only [Act.put, List.setIfInBounds_toArray, List.set_cons_zero, List.set_cons_succ, List.getElem_toArray, List.getElem_cons_succ, List.getElem_cons_zero]
      refine wpAnyH_ready (rs := [10]) (by kernel_rfl) (by simp) ?_
      refine AllReadyH.cons rfl (fun K hK => ?_) AllReadyH.nil
      have hc := R13.out.at6 _ _ _ rfl
      have f0 := blkCell hc.1 0 _ rfl
      have f1 := blkCell hc.1 1 _ rfl
      have f2 := blkFree hc.1 0
      have f3 := blkFree hc.1 1
      clear hc
      go_simp
      clear f0 f1 f2 f3
      obtain ⟨V14, hV14⟩ : ∃ V14, V14 = (V13.setCell ⟨V11.heap.size, 0, none⟩ (.int .i64 0)).setCell ⟨V11.heap.size, 1, none⟩ (.int .i64 (p + 1)) := ⟨_, rfl⟩
      rw [← hV14]
      have R14 : Hid (TwoB W1 (some (WD.heap.size, 0, a - 1)) (some (V11.heap.size, 0, p + 1)) V14) := by rw [hV14]; exact R13.out.st6
      clear hV14
      refine hK.out _ _ R14.out.low (fun _ => ?_)
      clear hK K
      try simp only [Act.put, List.setIfInBounds_toArray, List.set_cons_zero, List.set_cons_succ, List.getElem_toArray, List.getElem_cons_succ, List.getElem_cons_zero]
      refine wpAnyH_done (by kernel_rfl) ?_ _
      clear hH
      obtain ⟨q0, q1⟩ := R14.out.cells5
      obtain ⟨q2, q3⟩ := HS.out _ R14.out.low
      cases b1
      · go_wp2_with fail
        (first | go_at_call 77 | skip)
        refine (H1.out _).mono ?_
        rintro e w2 ⟨rfl, hb2⟩
        go_wp2
        go_ret
        exact ⟨rfl, (R14.out.later hb2).below HL.out⟩
      go_wp2_with fail
      (first | go_at_call 77 | skip)
      refine (H1.out _).mono ?_
      rintro e w2 ⟨rfl, hb2⟩
      have RR : Hid (TwoB W1 (some (WD.heap.size, 0, a - 1)) (some (V11.heap.size, 0, p + 1)) w2) := R14.out.later hb2
      obtain ⟨q4, q5⟩ := RR.out.cells6
      obtain ⟨q6, q7⟩ := HS.out _ RR.out.low
      clear q0 q1 q2 q3
      go_wp2_with fail
      (first | go_at_call 77 | skip)
      refine (H2.out _).mono ?_
      rintro e w3 ⟨rfl, hb3⟩
      cases b2
      all_goals
        go_wp2
        go_ret
        exact ⟨rfl, (RR.out.later hb3).below HL.out⟩
    · skip
      go_simp
      obtain ⟨V15, hV15⟩ : ∃ V15, V15 = V10.alloc (Obj.cells #[.int .i64 0, .int .i64 0] 119) := ⟨_, rfl⟩
      rw [← hV15]
      have R15 : Hid (TwoB W1 (some (WD.heap.size, 0, 0)) (some (V10.heap.size, 0, 0)) V15) := by rw [hV15]; exact R10.out.mk6
      clear hV15
      refine hK.out _ _ R15.out.low (fun _ => ?_)
      clear hK K
      try simp only [Act.put, List.setIfInBounds_toArray, List.set_cons_zero, List.set_cons_succ, List.getElem_toArray, List.getElem_cons_succ, List.getElem_cons_zero]
      refine wpAnyH_ready (rs := [5]) (by kernel_rfl) (by simp) ?_
      refine AllReadyH.cons rfl (fun K hK => ?_) AllReadyH.nil
      go_simp
      go_at_call 60
      refine (HB.out _).mono ?_
      rintro e V16 ⟨rfl, hk⟩
      have R16 : Hid (TwoB W1 (some (WD.heap.size, 0, 0)) (some (V10.heap.size, 0, 0)) V16) := R15.out.later hk
      clear hk
      refine hK.out _ _ R16.out.low (fun _ => ?_)
      clear hK K
      try simp only [Act.put, List.setIfInBounds_toArray, List.set_cons_zero, List.set_cons_succ, List.getElem_toArray, List.getElem_cons_succ, List.getElem_cons_zero]
      refine wpAnyH_take (i := 6) (v := .agg #[.int .i64 0, .int .i64 (p + 1)]) rfl (by kernel_rfl) (by kernel_rfl) (by kernel_rfl) (fun _ _ _ h => h) (Or.inl ⟨by rfl, fun w hSw => by go_simp⟩) R16.out.low ?_
      try simp only [Act.put, List.setIfInBounds_toArray, List.set_cons_zero, List.set_cons_succ, List.getElem_toArray, List.getElem_cons_succ, List.getElem_cons_zero]
      refine wpAnyH_ready (rs := [9]) (by kernel_rfl) (by simp) ?_
      refine AllReadyH.cons rfl (fun K hK => ?_) AllReadyH.nil
      have hc := R16.out.at5 _ _ _ rfl
      have f0 := blkCell hc.1 0 _ rfl
      have f1 := blkCell hc.1 1 _ rfl
      have f2 := blkFree hc.1 0
      have f3 := blkFree hc.1 1
      clear hc
      go_simp
      clear f0 f1 f2 f3
      obtain ⟨V17, hV17⟩ : ∃ V17, V17 = (V16.setCell ⟨WD.heap.size, 0, none⟩ (.int .i64 0)).setCell ⟨WD.heap.size, 1, none⟩ (.int .i64 (a - 1)) := ⟨_, rfl⟩
      rw [← hV17]
      have R17 : Hid (TwoB W1 (some (WD.heap.size, 0, a - 1)) (some (V10.heap.size, 0, 0)) V17) := by rw [hV17]; exact R16.out.st5
      clear hV17
      refine hK.out _ _ R17.out.low (fun _ => ?_)
      clear hK K
      try simp only [Act.put, List.setIfInBounds_toArray, List.set_cons_zero, List.set_cons_succ, List.getElem_toArray, List.getElem_cons_succ, List.getElem_cons_zero]
      refine wpAnyH_ready (rs := [10]) (by kernel_rfl) (by simp) ?_
      refine AllReadyH.cons rfl (fun K hK => ?_) AllReadyH.nil
      have hc := R17.out.at6 _ _ _ rfl
      have f0 := blkCell hc.1 0 _ rfl
      have f1 := blkCell hc.1 1 _ rfl
      have f2 := blkFree hc.1 0
      have f3 := blkFree hc.1 1
      clear hc
      go_simp
      clear f0 f1 f2 f3
      obtain ⟨V18, hV18⟩ : ∃ V18, V18 = (V17.setCell ⟨V10.heap.size, 0, none⟩ (.int .i64 0)).setCell ⟨V10.heap.size, 1, none⟩ (.int .i64 (p + 1)) := ⟨_, rfl⟩
      rw [← hV18]
      have R18 : Hid (TwoB W1 (some (WD.heap.size, 0, a - 1)) (some (V10.heap.size, 0, p + 1)) V18) := by rw [hV18]; exact R17.out.st6
      clear hV18
      refine hK.out _ _ R18.out.low (fun _ => ?_)
      clear hK K
      try simp only [Act.put, List.setIfInBounds_toArray, List.set_cons_zero, List.set_cons_succ, List.getElem_toArray, List.getElem_cons_succ, List.getElem_cons_zero]
      refine wpAnyH_done (by kernel_rfl) ?_ _
      clear hH
      obtain ⟨q0, q1⟩ := R18.out.cells5
      obtain ⟨q2, q3⟩ := HS.out _ R18.out.low
      cases b1
      · go_wp2_with fail
        (first | go_at_call 77 | skip)
        refine (H1.out _).mono ?_
        rintro e w2 ⟨rfl, hb2⟩
        go_wp2
        go_ret
        exact ⟨rfl, (R18.out.later hb2).below HL.out⟩
      go_wp2_with fail
      (first | go_at_call 77 | skip)
      refine (H1.out _).mono ?_
      rintro e w2 ⟨rfl, hb2⟩
      have RR : Hid (TwoB W1 (some (WD.heap.size, 0, a - 1)) (some (V10.heap.size, 0, p + 1)) w2) := R18.out.later hb2
      obtain ⟨q4, q5⟩ := RR.out.cells6
      obtain ⟨q6, q7⟩ := HS.out _ RR.out.low
      clear q0 q1 q2 q3
      go_wp2_with fail
      (first | go_at_call 77 | skip)
      refine (H2.out _).mono ?_
      rintro e w3 ⟨rfl, hb3⟩
      cases b2
      all_goals
        go_wp2
        go_ret
        exact ⟨rfl, (RR.out.later hb3).below HL.out⟩
  · skip
    go_simp
    obtain ⟨V19, hV19⟩ : ∃ V19, V19 = WD.alloc (Obj.cells #[.int .i64 0, .int .i64 0] 119) := ⟨_, rfl⟩
    rw [← hV19]
    have R19 : Hid (TwoB W1 none (some (WD.heap.size, 0, 0)) V19) := by rw [hV19]; exact R0.out.mk6
    clear hV19
    refine hK.out _ _ R19.out.low (fun _ => ?_)
    clear hK K
    try simp only [Act.put, List.setIfInBounds_toArray, List.set_cons_zero, List.set_cons_succ, List.getElem_toArray, List.getElem_cons_succ, List.getElem_cons_zero]
    refine wpAnyH_ready (rs := [5, 7]) (by kernel_rfl) (by simp) ?_
    refine AllReadyH.cons rfl (fun K hK => ?_) (AllReadyH.cons rfl (fun K hK => ?_) AllReadyH.nil)
    · skip
      go_simp
      go_at_call 60
      refine (HB.out _).mono ?_
      rintro e V20 ⟨rfl, hk⟩
      have R20 : Hid (TwoB W1 none (some (WD.heap.size, 0, 0)) V20) := R19.out.later hk
      clear hk
      refine hK.out _ _ R20.out.low (fun _ => ?_)
      clear hK K
      try simp only [Act.put, List.setIfInBounds_toArray, List.set_cons_zero, List.set_cons_succ, List.getElem_toArray, List.getElem_cons_succ, List.getElem_cons_zero]
      refine wpAnyH_take (i := 6) (v := .agg #[.int .i64 0, .int .i64 (p + 1)]) rfl (by kernel_rfl) (by kernel_rfl) (by kernel_rfl) (fun _ _ _ h => h) (Or.inl ⟨by rfl, fun w hSw => by go_simp⟩) R20.out.low ?_
      try simp only [Act.put, List.setIfInBounds_toArray, List.set_cons_zero, List.set_cons_succ, List.getElem_toArray, List.getElem_cons_succ, List.getElem_cons_zero]
      refine wpAnyH_ready (rs := [7]) (by kernel_rfl) (by simp) ?_
      refine AllReadyH.cons rfl (fun K hK => ?_) AllReadyH.nil
      go_simp
      obtain ⟨V21, hV21⟩ : ∃ V21, V21 = V20.alloc (Obj.cells #[.int .i64 0, .int .i64 0] 119) := ⟨_, rfl⟩
      rw [← hV21]
      have R21 : Hid (TwoB W1 (some (V20.heap.size, 0, 0)) (some (WD.heap.size, 0, 0)) V21) := by rw [hV21]; exact R20.out.mk5
      clear hV21
      refine hK.out _ _ R21.out.low (fun _ => ?_)
      clear hK K
      try simp only [Act.put, List.setIfInBounds_toArray, List.set_cons_zero, List.set_cons_succ, List.getElem_toArray, List.getElem_cons_succ, List.getElem_cons_zero]
      refine wpAnyH_ready (rs := [9]) (by kernel_rfl) (by simp) ?_
      refine AllReadyH.cons rfl (fun K hK => ?_) AllReadyH.nil
      have hc := R21.out.at5 _ _ _ rfl
      have f0 := blkCell hc.1 0 _ rfl
      have f1 := blkCell hc.1 1 _ rfl
      have f2 := blkFree hc.1 0
      have f3 := blkFree hc.1 1
      clear hc
      go_simp
      clear f0 f1 f2 f3
      obtain ⟨V22, hV22⟩ : ∃ V22, V22 = (V21.setCell ⟨V20.heap.size, 0, none⟩ (.int .i64 0)).setCell ⟨V20.heap.size, 1, none⟩ (.int .i64 (a - 1)) := ⟨_, rfl⟩
      rw [← hV22]
      have R22 : Hid (TwoB W1 (some (V20.heap.size, 0, a - 1)) (some (WD.heap.size, 0, 0)) V22) := by rw [hV22]; exact R21.out.st5
      clear hV22
      refine hK.out _ _ R22.out.low (fun _ => ?_)
      clear hK K
      try simp only [Act.put, List.setIfInBounds_toArray, List.set_cons_zero, List.set_cons_succ, List.getElem_toArray, List.getElem_cons_succ, List.getElem_cons_zero]
      refine wpAnyH_ready (rs := [10]) (by kernel_rfl) (by simp) ?_
      refine AllReadyH.cons rfl (fun K hK => ?_) AllReadyH.nil
      have hc := R22.out.at6 _ _ _ rfl
      have f0 := blkCell hc.1 0 _ rfl
      have f1 := blkCell hc.1 1 _ rfl
      have f2 := blkFree hc.1 0
      have f3 := blkFree hc.1 1
      clear hc
      go_simp
      clear f0 f1 f2 f3
      obtain ⟨V23, hV23⟩ : ∃ V23, V23 = (V22.setCell ⟨WD.heap.size, 0, none⟩ (.int .i64 0)).setCell ⟨WD.heap.size, 1, none⟩ (.int .i64 (p + 1)) := ⟨_, rfl⟩
      rw [← hV23]
      have R23 : Hid (TwoB W1 (some (V20.heap.size, 0, a - 1)) (some (WD.heap.size, 0, p + 1)) V23) := by rw [hV23]; exact R22.out.st6
      clear hV23
      refine hK.out _ _ R23.out.low (fun _ => ?_)
      clear hK K
      try simp only [Act.put, List.setIfInBounds_toArray, List.set_cons_zero, List.set_cons_succ, List.getElem_toArray, List.getElem_cons_succ, List.getElem_cons_zero]
      refine wpAnyH_done (by kernel_rfl) ?_ _
      clear hH
      obtain ⟨q0, q1⟩ := R23.out.cells5
      obtain ⟨q2, q3⟩ := HS.out _ R23.out.low
      cases b1
      · go_wp2_with fail
        (first | go_at_call 77 | skip)
        refine (H1.out _).mono ?_
        rintro e w2 ⟨rfl, hb2⟩
        go_wp2
        go_ret
        exact ⟨rfl, (R23.out.later hb2).below HL.out⟩
      go_wp2_with fail
      (first | go_at_call 77 | skip)
      refine (H1.out _).mono ?_
      rintro e w2 ⟨rfl, hb2⟩
      have RR : Hid (TwoB W1 (some (V20.heap.size, 0, a - 1)) (some (WD.heap.size, 0, p + 1)) w2) := R23.out.later hb2
      obtain ⟨q4, q5⟩ := RR.out.cells6
      obtain ⟨q6, q7⟩ := HS.out _ RR.out.low
      clear q0 q1 q2 q3
      go_wp2_with fail
      (first | go_at_call 77 | skip)
      refine (H2.out _).mono ?_
      rintro e w3 ⟨rfl, hb3⟩
      cases b2
      all_goals
        go_wp2
        go_ret
        exact ⟨rfl, (RR.out.later hb3).below HL.out⟩
    · skip
      go_simp
      obtain ⟨V24, hV24⟩ : ∃ V24, V24 = V19.alloc (Obj.cells #[.int .i64 0, .int .i64 0] 119) := ⟨_, rfl⟩
      rw [← hV24]
      have R24 : Hid (TwoB W1 (some (V19.heap.size, 0, 0)) (some (WD.heap.size, 0, 0)) V24) := by rw [hV24]; exact R19.out.mk5
      clear hV24
      refine hK.out _ _ R24.out.low (fun _ => ?_)
      clear hK K
      try simp only [Act.put, List.setIfInBounds_toArray, List.set_cons_zero, List.set_cons_succ, List.getElem_toArray, List.getElem_cons_succ, List.getElem_cons_zero]
      refine wpAnyH_ready (rs := [5]) (by kernel_rfl) (by simp) ?_
      refine AllReadyH.cons rfl (fun K hK => ?_) AllReadyH.nil
      go_simp
      go_at_call 60
      refine (HB.out _).mono ?_
      rintro e V25 ⟨rfl, hk⟩
      have R25 : Hid (TwoB W1 (some (V19.heap.size, 0, 0)) (some (WD.heap.size, 0, 0)) V25) := R24.out.later hk
      clear hk
      refine hK.out _ _ R25.out.low (fun _ => ?_)
      clear hK K
      try simp only [Act.put, List.setIfInBounds_toArray, List.set_cons_zero, List.set_cons_succ, List.getElem_toArray, List.getElem_cons_succ, List.getElem_cons_zero]
      refine wpAnyH_take (i := 6) (v := .agg #[.int .i64 0, .int .i64 (p + 1)]) rfl (by kernel_rfl) (by kernel_rfl) (by kernel_rfl) (fun _ _ _ h => h) (Or.inl ⟨by rfl, fun w hSw => by go_simp⟩) R25.out.low ?_
      try simp only [Act.put, List.setIfInBounds_toArray, List.set_cons_zero, List.set_cons_succ, List.getElem_toArray, List.getElem_cons_succ, List.getElem_cons_zero]
      refine wpAnyH_ready (rs := [9]) (by kernel_rfl) (by simp) ?_
      refine AllReadyH.cons rfl (fun K hK => ?_) AllReadyH.nil
      have hc := R25.out.at5 _ _ _ rfl
      have f0 := blkCell hc.1 0 _ rfl
      have f1 := blkCell hc.1 1 _ rfl
      have f2 := blkFree hc.1 0
      have f3 := blkFree hc.1 1
      clear hc
      go_simp
      clear f0 f1 f2 f3
      obtain ⟨V26, hV26⟩ : ∃ V26, V26 = (V25.setCell ⟨V19.heap.size, 0, none⟩ (.int .i64 0)).setCell ⟨V19.heap.size, 1, none⟩ (.int .i64 (a - 1)) := ⟨_, rfl⟩
      rw [← hV26]
      have R26 : Hid (TwoB W1 (some (V19.heap.size, 0, a - 1)) (some (WD.heap.size, 0, 0)) V26) := by rw [hV26]; exact R25.out.st5
      clear hV26
      refine hK.out _ _ R26.out.low (fun _ => ?_)
      clear hK K
      try simp only [Act.put, List.setIfInBounds_toArray, List.set_cons_zero, List.set_cons_succ, List.getElem_toArray, List.getElem_cons_succ, List.getElem_cons_zero]
      refine wpAnyH_ready (rs := [10]) (by kernel_rfl) (by simp) ?_
      refine AllReadyH.cons rfl (fun K hK => ?_) AllReadyH.nil
      have hc := R26.out.at6 _ _ _ rfl
      have f0 := blkCell hc.1 0 _ rfl
      have f1 := blkCell hc.1 1 _ rfl
      have f2 := blkFree hc.1 0
      have f3 := blkFree hc.1 1
      clear hc
      go_simp
      clear f0 f1 f2 f3
      obtain ⟨V27, hV27⟩ : ∃ V27, V27 = (V26.setCell ⟨WD.heap.size, 0, none⟩ (.int .i64 0)).setCell ⟨WD.heap.size, 1, none⟩ (.int .i64 (p + 1)) := ⟨_, rfl⟩
      rw [← hV27]
      have R27 : Hid (TwoB W1 (some (V19.heap.size, 0, a - 1)) (some (WD.heap.size, 0, p + 1)) V27) := by rw [hV27]; exact R26.out.st6
      clear hV27
      refine hK.out _ _ R27.out.low (fun _ => ?_)
      clear hK K
      try simp only [Act.put, List.setIfInBounds_toArray, List.set_cons_zero, List.set_cons_succ, List.getElem_toArray, List.getElem_cons_succ, List.getElem_cons_zero]
      refine wpAnyH_done (by kernel_rfl) ?_ _
      clear hH
      obtain ⟨q0, q1⟩ := R27.out.cells5
      obtain ⟨q2, q3⟩ := HS.out _ R27.out.low
      cases b1
      · go_wp2_with fail
        (first | go_at_call 77 | skip)
        refine (H1.out _).mono ?_
        rintro e w2 ⟨rfl, hb2⟩
        go_wp2
        go_ret
        exact ⟨rfl, (R27.out.later hb2).below HL.out⟩
      go_wp2_with fail
      (first | go_at_call 77 | skip)
      refine (H1.out _).mono ?_
      rintro e w2 ⟨rfl, hb2⟩
      have RR : Hid (TwoB W1 (some (V19.heap.size, 0, a - 1)) (some (WD.heap.size, 0, p + 1)) w2) := R27.out.later hb2
      obtain ⟨q4, q5⟩ := RR.out.cells6
      obtain ⟨q6, q7⟩ := HS.out _ RR.out.low
      clear q0 q1 q2 q3
      go_wp2_with fail
      (first | go_at_call 77 | skip)
      refine (H2.out _).mono ?_
      rintro e w3 ⟨rfl, hb3⟩
      cases b2
      all_goals
        go_wp2
        go_ret
        exact ⟨rfl, (RR.out.later hb3).below HL.out⟩
end Go.Proofs.Ythmhpgbkapjjkaa

/-
  The program's search for the route that is back first: its answer, and what it keeps.
-/
import Derived.Test.YtoogphkojofkfaaRvD
import Derived.WalkLawsBesides
namespace Go.Proofs.Ytoogphkojofkfaa
open Go.ChangeShapes Go.WideShapes Go.ChangeAt Go.RowKit Go.Joins Go.Deep
set_option linter.unusedVariables false

theorem answer_none (sb : Nat) (v0 v1 : Value) (W : World) (h : W.heap[sb]? = some (.cells #[v0, v1, .pointer none] 53 (0, 0))) :
    Calls Try.prog 26 #[.pointer (some ⟨sb, 0, none⟩)] W fun e w' => e = .returned (.tuple #[.agg #[.slice none 0 0, .slice none 0 0, .int .i64 0, .int .i64 0], .int .i64 8]) ∧ Below W.heap.size W w' := by
  obtain ⟨R, hR⟩ : ∃ R, R = W.heap.size := ⟨_, rfl⟩
  obtain ⟨W0, hW0⟩ : ∃ W0, W0 = W.alloc (Obj.cells #[.slice none 0 0, .slice none 0 0, .int .i64 0, .int .i64 0] 28) := ⟨_, rfl⟩
  have HW0 : Hid (W0 = W.alloc (Obj.cells #[.slice none 0 0, .slice none 0 0, .int .i64 0, .int .i64 0] 28) ∧ R = W.heap.size) := ⟨hW0, hR⟩
  have HB0 : Hid (Below W.heap.size W W0 ∧ W.heap.size ≤ R) := by rw [hW0, hR]; exact ⟨below_alloc _ _, Nat.le_refl _⟩
  have HRx : Hid (W0.heap[R]? = some (.cells #[.slice none 0 0, .slice none 0 0, .int .i64 0, .int .i64 0] 28 (0, 0))) := by show _ = _; rw [hW0, hR]; exact heapNew _ _
  have hRw : W.heap.size ≤ R := HB0.out.2
  have x2 := blkCell ((HB0.out.1.block sb (blkLt h)).trans h) 2 _ rfl
  simp only [List.getElem_toArray, List.getElem_cons_zero, List.getElem_cons_succ] at x2
  have hrx := HRx.out
  have z0 := blkCell hrx 0 _ rfl
  have y0 := blkFree hrx 0
  have z1 := blkCell hrx 1 _ rfl
  have y1 := blkFree hrx 1
  have z2 := blkCell hrx 2 _ rfl
  have y2 := blkFree hrx 2
  have z3 := blkCell hrx 3 _ rfl
  have y3 := blkFree hrx 3
  simp only [List.getElem_toArray, List.getElem_cons_zero, List.getElem_cons_succ] at z0 z1 z2 z3
  clear hrx
  clear hW0 hR
  go_enter Try.func26, Try.ntmps26
  go_upto_region 1 with fail
  rw [← HW0.out.1, ← HW0.out.2]
  clear HW0
  go_wp2_with fail
  refine bodyPost_ret (v := .tuple #[.agg #[.slice none 0 0, .slice none 0 0, .int .i64 0, .int .i64 0], .int .i64 8]) (by simp [results, Try.results26, go_sem, z0, z1, z2, z3]) rfl ?_
  refine ⟨rfl, ?_⟩
  repeat refine Below.setCell ?_ (by dsimp only; omega) _
  exact HB0.out.1
theorem answer_some (sb bb : Nat) (v0 v1 : Value) (q s : Option Addr) (n cq m cs : Nat) (wt en : Int) (W : World) (h : W.heap[sb]? = some (.cells #[v0, v1, .pointer (some ⟨bb, 0, none⟩)] 53 (0, 0))) (hb : W.heap[bb]? = some (.cells #[.slice q n cq, .slice s m cs, .int .i64 wt, .int .i64 en] 28 (0, 0))) :
    Calls Try.prog 26 #[.pointer (some ⟨sb, 0, none⟩)] W fun e w' => e = .returned (.tuple #[.agg #[.slice q n cq, .slice s m cs, .int .i64 wt, .int .i64 en], .int .i64 0]) ∧ Below W.heap.size W w' := by
  obtain ⟨R, hR⟩ : ∃ R, R = W.heap.size := ⟨_, rfl⟩
  obtain ⟨W0, hW0⟩ : ∃ W0, W0 = W.alloc (Obj.cells #[.slice none 0 0, .slice none 0 0, .int .i64 0, .int .i64 0] 28) := ⟨_, rfl⟩
  have HW0 : Hid (W0 = W.alloc (Obj.cells #[.slice none 0 0, .slice none 0 0, .int .i64 0, .int .i64 0] 28) ∧ R = W.heap.size) := ⟨hW0, hR⟩
  have HB0 : Hid (Below W.heap.size W W0 ∧ W.heap.size ≤ R) := by rw [hW0, hR]; exact ⟨below_alloc _ _, Nat.le_refl _⟩
  have HRx : Hid (W0.heap[R]? = some (.cells #[.slice none 0 0, .slice none 0 0, .int .i64 0, .int .i64 0] 28 (0, 0))) := by show _ = _; rw [hW0, hR]; exact heapNew _ _
  have hRw : W.heap.size ≤ R := HB0.out.2
  have x2 := blkCell ((HB0.out.1.block sb (blkLt h)).trans h) 2 _ rfl
  have hbx := (HB0.out.1.block bb (blkLt hb)).trans hb
  have t0 := blkCell hbx 0 _ rfl
  have t1 := blkCell hbx 1 _ rfl
  have t2 := blkCell hbx 2 _ rfl
  have t3 := blkCell hbx 3 _ rfl
  simp only [List.getElem_toArray, List.getElem_cons_zero, List.getElem_cons_succ] at x2 t0 t1 t2 t3
  clear hbx
  have hrx := HRx.out
  have z0 := blkCell hrx 0 _ rfl
  have y0 := blkFree hrx 0
  have z1 := blkCell hrx 1 _ rfl
  have y1 := blkFree hrx 1
  have z2 := blkCell hrx 2 _ rfl
  have y2 := blkFree hrx 2
  have z3 := blkCell hrx 3 _ rfl
  have y3 := blkFree hrx 3
  simp only [List.getElem_toArray, List.getElem_cons_zero, List.getElem_cons_succ] at z0 z1 z2 z3
  clear hrx
  clear hW0 hR
  go_enter Try.func26, Try.ntmps26
  go_upto_region 1 with fail
  rw [← HW0.out.1, ← HW0.out.2]
  clear HW0
  go_wp2_with fail
  refine bodyPost_ret (v := .tuple #[.agg #[.slice q n cq, .slice s m cs, .int .i64 wt, .int .i64 en], .int .i64 0]) (by simp [results, Try.results26, go_sem, z0, z1, z2, z3]) rfl ?_
  refine ⟨rfl, ?_⟩
  repeat refine Below.setCell ?_ (by dsimp only; omega) _
  exact HB0.out.1
/-- What keep leaves: the route lies in a new block, the search points to it. -/
def KpI (sb : Nat) (v0 : Value) (bd : Int) (q s : Option Addr) (n cq m cs : Nat) (wt en : Int) (W w' : World) : Prop :=
  ∃ bb, W.heap.size ≤ bb ∧ w'.heap[sb]? = some (.cells #[v0, .int .i64 bd, .pointer (some ⟨bb, 0, none⟩)] 53 (0, 0)) ∧ w'.heap[bb]? = some (.cells #[.slice q n cq, .slice s m cs, .int .i64 wt, .int .i64 en] 28 (0, 0)) ∧ Fr (fun x => x = sb) W w'
theorem kp_start {sb : Nat} {v0 v2 : Value} {bd : Int} (q s : Option Addr) (n cq m cs : Nat) (wt en : Int) {W : World} (h : W.heap[sb]? = some (.cells #[v0, .int .i64 bd, v2] 53 (0, 0))) : KpI sb v0 bd q s n cq m cs wt en W ((W.alloc (Obj.cells #[.slice q n cq, .slice s m cs, .int .i64 wt, .int .i64 en] 28)).setCell ⟨sb, 2, none⟩ (.pointer (some ⟨W.heap.size, 0, none⟩))) := by
  have h1 := ((below_alloc W (Obj.cells #[.slice q n cq, .slice s m cs, .int .i64 wt, .int .i64 en] 28)).block sb (blkLt h)).trans h
  have e1 := heap_setCell_same _ sb 2 _ _ (.pointer (some ⟨W.heap.size, 0, none⟩)) h1
  simp only [List.setIfInBounds_toArray, List.set_cons_zero, List.set_cons_succ] at e1
  have hl := blkLt h
  exact ⟨W.heap.size, Nat.le_refl _, e1, (heap_setCell_other _ _ _ _ (by show W.heap.size ≠ sb; omega)).trans (heapNew _ _), Fr.set (X := fun x => x = sb) (Fr.of (below_alloc _ _)) rfl _ _⟩
theorem kp_two {sb : Nat} {v0 v2 : Value} {bd : Int} (q s : Option Addr) (n cq m cs : Nat) (wt en : Int) {W : World} (h : W.heap[sb]? = some (.cells #[v0, .int .i64 bd, v2] 53 (0, 0))) : ((W.alloc (Obj.cells #[.slice q n cq, .slice s m cs, .int .i64 wt, .int .i64 en] 28)).setCell ⟨sb, 2, none⟩ (.pointer (some ⟨W.heap.size, 0, none⟩))).heap[sb]? = some (.cells #[v0, .int .i64 bd, .pointer (some ⟨W.heap.size, 0, none⟩)] 53 (0, 0)) ∧ ((W.alloc (Obj.cells #[.slice q n cq, .slice s m cs, .int .i64 wt, .int .i64 en] 28)).setCell ⟨sb, 2, none⟩ (.pointer (some ⟨W.heap.size, 0, none⟩))).heap[W.heap.size]? = some (.cells #[.slice q n cq, .slice s m cs, .int .i64 wt, .int .i64 en] 28 (0, 0)) := by
  have h1 := ((below_alloc W (Obj.cells #[.slice q n cq, .slice s m cs, .int .i64 wt, .int .i64 en] 28)).block sb (blkLt h)).trans h
  have e1 := heap_setCell_same _ sb 2 _ _ (.pointer (some ⟨W.heap.size, 0, none⟩)) h1
  simp only [List.setIfInBounds_toArray, List.set_cons_zero, List.set_cons_succ] at e1
  have hl := blkLt h
  exact ⟨e1, (heap_setCell_other _ _ _ _ (by show W.heap.size ≠ sb; omega)).trans (heapNew _ _)⟩
theorem KpI.drew {sb : Nat} {v0 : Value} {bd : Int} {q s : Option Addr} {n cq m cs : Nat} {wt en : Int} {W w' w2 : World} (h : KpI sb v0 bd q s n cq m cs wt en W w') (hb : Below w'.heap.size w' w2) : KpI sb v0 bd q s n cq m cs wt en W w2 := by
  obtain ⟨bb, h1, h2, h3, h4⟩ := h
  exact ⟨bb, h1, (hb.block _ (blkLt h2)).trans h2, (hb.block _ (blkLt h3)).trans h3, h4.trans (Fr.of hb)⟩
set_option maxHeartbeats 4000000 in
/-- keep panics where the route is back at the bound. -/
theorem keep_end (sb : Nat) (v0 v2 : Value) (bd : Int) (q s : Option Addr) (n cq m cs : Nat) (wt en : Int) (hle : en ≤ bd) (W : World) (h : W.heap[sb]? = some (.cells #[v0, .int .i64 bd, v2] 53 (0, 0))) :
    Calls Try.prog 45 #[.pointer (some ⟨sb, 0, none⟩), .agg #[.slice q n cq, .slice s m cs, .int .i64 wt, .int .i64 en]] W fun e w' => e = .panicked [{ v := .iface 93 (.agg #[]), recovered := false }] ∧ KpI sb v0 bd q s n cq m cs wt en W w' := by
  have HK : Hid (KpI sb v0 bd q s n cq m cs wt en W ((W.alloc (Obj.cells #[.slice q n cq, .slice s m cs, .int .i64 wt, .int .i64 en] 28)).setCell ⟨sb, 2, none⟩ (.pointer (some ⟨W.heap.size, 0, none⟩)))) := kp_start q s n cq m cs wt en h
  have HV := (show Hid _ from kp_two q s n cq m cs wt en h)
  have h1 := ((below_alloc W (Obj.cells #[.slice q n cq, .slice s m cs, .int .i64 wt, .int .i64 en] 28)).block sb (blkLt h)).trans h
  have x1 := blkCell h1 1 _ rfl
  have x2 := blkCell h1 2 _ rfl
  have y2 := blkFree h1 2
  have hn := heapNew W (Obj.cells #[.slice q n cq, .slice s m cs, .int .i64 wt, .int .i64 en] 28)
  have t3 := blkCell hn 3 _ rfl
  simp only [List.getElem_toArray, List.getElem_cons_zero, List.getElem_cons_succ] at x1 x2 t3
  clear t3
  have hne : W.heap.size ≠ sb := by have := blkLt h; omega
  clear h1 hn h
  go_enter Try.func45, Try.ntmps45
  obtain ⟨V, hV⟩ : ∃ V, V = (W.alloc (Obj.cells #[.slice q n cq, .slice s m cs, .int .i64 wt, .int .i64 en] 28)).setCell ⟨sb, 2, none⟩ (.pointer (some ⟨W.heap.size, 0, none⟩)) := ⟨_, rfl⟩
  go_upto_region 2 with fail
  rw [← hV]
  rw [← hV] at HK HV
  clear hV x1 x2 y2
  refine wp_region_held_drew (S := fun V' => Below V.heap.size V V') (by kernel_rfl) (below_drew _) (fun hH => ?_)
  refine wpAnyH_take (i := 0) (v := .pointer (some ⟨W.heap.size, 3, none⟩)) rfl (by kernel_rfl) (by kernel_rfl) (by kernel_rfl) (fun _ _ _ h => h) (Or.inl ⟨by rfl, fun w hSw => by clear hSw; go_simp⟩) hH ?_
  refine wpAnyH_take (i := 1) (v := .int .i64 en) rfl (by kernel_rfl) (by kernel_rfl) (by kernel_rfl) (fun _ _ _ h => h) (Or.inl ⟨by rfl, fun w hSw => by have t3 := blkCell ((hSw.block W.heap.size (blkLt HV.out.2)).trans HV.out.2) 3 _ rfl; clear hSw; go_simp⟩) hH ?_
  try simp only [Act.put, List.setIfInBounds_toArray, List.set_cons_zero, List.set_cons_succ, List.getElem_toArray, List.getElem_cons_succ, List.getElem_cons_zero]
  refine wpAnyH_take (i := 2) (v := .pointer (some ⟨sb, 0, none⟩)) rfl (by kernel_rfl) (by kernel_rfl) (by kernel_rfl) (fun _ _ _ h => h) (Or.inl ⟨by rfl, fun w hSw => by clear hSw; go_simp⟩) hH ?_
  try simp only [Act.put, List.setIfInBounds_toArray, List.set_cons_zero, List.set_cons_succ, List.getElem_toArray, List.getElem_cons_succ, List.getElem_cons_zero]
  refine wpAnyH_take (i := 3) (v := .pointer (some ⟨sb, 0, none⟩)) rfl (by kernel_rfl) (by kernel_rfl) (by kernel_rfl) (fun _ _ _ h => h) (Or.inl ⟨by rfl, fun w hSw => by clear hSw; go_simp⟩) hH ?_
  try simp only [Act.put, List.setIfInBounds_toArray, List.set_cons_zero, List.set_cons_succ, List.getElem_toArray, List.getElem_cons_succ, List.getElem_cons_zero]
  refine wpAnyH_take (i := 4) (v := .pointer (some ⟨sb, 1, none⟩)) rfl (by kernel_rfl) (by kernel_rfl) (by kernel_rfl) (fun _ _ _ h => h) (Or.inl ⟨by rfl, fun w hSw => by clear hSw; go_simp⟩) hH ?_
  try simp only [Act.put, List.setIfInBounds_toArray, List.set_cons_zero, List.set_cons_succ, List.getElem_toArray, List.getElem_cons_succ, List.getElem_cons_zero]
  refine wpAnyH_take (i := 5) (v := .int .i64 bd) rfl (by kernel_rfl) (by kernel_rfl) (by kernel_rfl) (fun _ _ _ h => h) (Or.inl ⟨by rfl, fun w hSw => by have t3 := blkCell ((hSw.block sb (blkLt HV.out.1)).trans HV.out.1) 1 _ rfl; clear hSw; go_simp⟩) hH ?_
  try simp only [Act.put, List.setIfInBounds_toArray, List.set_cons_zero, List.set_cons_succ, List.getElem_toArray, List.getElem_cons_succ, List.getElem_cons_zero]
  refine wpAnyH_take (i := 6) (v := .bool (decide (en ≤ bd))) rfl (by kernel_rfl) (by kernel_rfl) (by kernel_rfl) (fun _ _ _ h => h) (Or.inl ⟨by rfl, fun w hSw => by clear hSw; go_simp⟩) hH ?_
  try simp only [Act.put, List.setIfInBounds_toArray, List.set_cons_zero, List.set_cons_succ, List.getElem_toArray, List.getElem_cons_succ, List.getElem_cons_zero]
  refine wpAnyH_done (by kernel_rfl) ?_ _
  clear hH
  go_wp2
  all_goals first | exact ⟨rfl, HK.out.drew (below_drew _)⟩ | exact ⟨rfl, rfl, HK.out.drew (below_drew _)⟩ | exact ⟨rfl, rfl, rfl, HK.out.drew (below_drew _)⟩ | trace_state
set_option maxHeartbeats 4000000 in
/-- keep, where the route is back behind the bound. -/
theorem keep_more (sb : Nat) (v0 v2 : Value) (bd : Int) (q s : Option Addr) (n cq m cs : Nat) (wt en : Int) (hle : bd < en) (W : World) (h : W.heap[sb]? = some (.cells #[v0, .int .i64 bd, v2] 53 (0, 0))) :
    Calls Try.prog 45 #[.pointer (some ⟨sb, 0, none⟩), .agg #[.slice q n cq, .slice s m cs, .int .i64 wt, .int .i64 en]] W fun e w' => e = .returned (.tuple #[]) ∧ KpI sb v0 bd q s n cq m cs wt en W w' := by
  have HK : Hid (KpI sb v0 bd q s n cq m cs wt en W ((W.alloc (Obj.cells #[.slice q n cq, .slice s m cs, .int .i64 wt, .int .i64 en] 28)).setCell ⟨sb, 2, none⟩ (.pointer (some ⟨W.heap.size, 0, none⟩)))) := kp_start q s n cq m cs wt en h
  have HV := (show Hid _ from kp_two q s n cq m cs wt en h)
  have h1 := ((below_alloc W (Obj.cells #[.slice q n cq, .slice s m cs, .int .i64 wt, .int .i64 en] 28)).block sb (blkLt h)).trans h
  have x1 := blkCell h1 1 _ rfl
  have x2 := blkCell h1 2 _ rfl
  have y2 := blkFree h1 2
  have hn := heapNew W (Obj.cells #[.slice q n cq, .slice s m cs, .int .i64 wt, .int .i64 en] 28)
  have t3 := blkCell hn 3 _ rfl
  simp only [List.getElem_toArray, List.getElem_cons_zero, List.getElem_cons_succ] at x1 x2 t3
  clear t3
  have hne : W.heap.size ≠ sb := by have := blkLt h; omega
  clear h1 hn h
  go_enter Try.func45, Try.ntmps45
  obtain ⟨V, hV⟩ : ∃ V, V = (W.alloc (Obj.cells #[.slice q n cq, .slice s m cs, .int .i64 wt, .int .i64 en] 28)).setCell ⟨sb, 2, none⟩ (.pointer (some ⟨W.heap.size, 0, none⟩)) := ⟨_, rfl⟩
  go_upto_region 2 with fail
  rw [← hV]
  rw [← hV] at HK HV
  clear hV x1 x2 y2
  refine wp_region_held_drew (S := fun V' => Below V.heap.size V V') (by kernel_rfl) (below_drew _) (fun hH => ?_)
  refine wpAnyH_take (i := 0) (v := .pointer (some ⟨W.heap.size, 3, none⟩)) rfl (by kernel_rfl) (by kernel_rfl) (by kernel_rfl) (fun _ _ _ h => h) (Or.inl ⟨by rfl, fun w hSw => by clear hSw; go_simp⟩) hH ?_
  refine wpAnyH_take (i := 1) (v := .int .i64 en) rfl (by kernel_rfl) (by kernel_rfl) (by kernel_rfl) (fun _ _ _ h => h) (Or.inl ⟨by rfl, fun w hSw => by have t3 := blkCell ((hSw.block W.heap.size (blkLt HV.out.2)).trans HV.out.2) 3 _ rfl; clear hSw; go_simp⟩) hH ?_
  try simp only [Act.put, List.setIfInBounds_toArray, List.set_cons_zero, List.set_cons_succ, List.getElem_toArray, List.getElem_cons_succ, List.getElem_cons_zero]
  refine wpAnyH_take (i := 2) (v := .pointer (some ⟨sb, 0, none⟩)) rfl (by kernel_rfl) (by kernel_rfl) (by kernel_rfl) (fun _ _ _ h => h) (Or.inl ⟨by rfl, fun w hSw => by clear hSw; go_simp⟩) hH ?_
  try simp only [Act.put, List.setIfInBounds_toArray, List.set_cons_zero, List.set_cons_succ, List.getElem_toArray, List.getElem_cons_succ, List.getElem_cons_zero]
  refine wpAnyH_take (i := 3) (v := .pointer (some ⟨sb, 0, none⟩)) rfl (by kernel_rfl) (by kernel_rfl) (by kernel_rfl) (fun _ _ _ h => h) (Or.inl ⟨by rfl, fun w hSw => by clear hSw; go_simp⟩) hH ?_
  try simp only [Act.put, List.setIfInBounds_toArray, List.set_cons_zero, List.set_cons_succ, List.getElem_toArray, List.getElem_cons_succ, List.getElem_cons_zero]
  refine wpAnyH_take (i := 4) (v := .pointer (some ⟨sb, 1, none⟩)) rfl (by kernel_rfl) (by kernel_rfl) (by kernel_rfl) (fun _ _ _ h => h) (Or.inl ⟨by rfl, fun w hSw => by clear hSw; go_simp⟩) hH ?_
  try simp only [Act.put, List.setIfInBounds_toArray, List.set_cons_zero, List.set_cons_succ, List.getElem_toArray, List.getElem_cons_succ, List.getElem_cons_zero]
  refine wpAnyH_take (i := 5) (v := .int .i64 bd) rfl (by kernel_rfl) (by kernel_rfl) (by kernel_rfl) (fun _ _ _ h => h) (Or.inl ⟨by rfl, fun w hSw => by have t3 := blkCell ((hSw.block sb (blkLt HV.out.1)).trans HV.out.1) 1 _ rfl; clear hSw; go_simp⟩) hH ?_
  try simp only [Act.put, List.setIfInBounds_toArray, List.set_cons_zero, List.set_cons_succ, List.getElem_toArray, List.getElem_cons_succ, List.getElem_cons_zero]
  refine wpAnyH_take (i := 6) (v := .bool (decide (en ≤ bd))) rfl (by kernel_rfl) (by kernel_rfl) (by kernel_rfl) (fun _ _ _ h => h) (Or.inl ⟨by rfl, fun w hSw => by clear hSw; go_simp⟩) hH ?_
  try simp only [Act.put, List.setIfInBounds_toArray, List.set_cons_zero, List.set_cons_succ, List.getElem_toArray, List.getElem_cons_succ, List.getElem_cons_zero]
  refine wpAnyH_done (by kernel_rfl) ?_ _
  clear hH
  have hnle : ¬ en ≤ bd := by omega
  go_wp2
  all_goals (first | go_end0 | skip)
  all_goals exact ⟨rfl, HK.out.drew (below_drew _)⟩
end Go.Proofs.Ytoogphkojofkfaa

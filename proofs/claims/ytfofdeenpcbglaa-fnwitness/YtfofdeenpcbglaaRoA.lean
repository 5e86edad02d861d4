/-
  Rooms in memory: a block of twelve numbers; contracts of the program's span.both and spanOf.
-/
import Derived.Test.YtfofdeenpcbglaaRuB
import Derived.Deep.WholeRow
import Derived.Laws.Tables
namespace Go.Proofs.Ytfofdeenpcbglaa
open Go.ChangeShapes Go.WideShapes Go.ChangeAt Go.RowKit Go.Deep
set_option linter.unusedVariables false

def rowI (L : List Int) : Array Value := (L.map fun x => Value.int .i64 x).toArray
theorem rowI_size (L : List Int) : (rowI L).size = L.length := by simp [rowI]
theorem rowI_at (L : List Int) (j : Nat) (h : j < L.length) : (rowI L)[j]? = some (.int .i64 (L.getD j 0)) := by simp [rowI, List.getD_eq_getElem?_getD, h]
theorem rowI_one (L : List Int) : (rowI L).all (·.oneCell') = true := by simp [rowI, Value.oneCell']
theorem rowI_set (L : List Int) (j : Nat) (x : Int) : (rowI L).setIfInBounds j (.int .i64 x) = rowI (L.set j x) := by
  simp [rowI, List.map_set]
theorem infoRm : (Try.prog.info? 48).map (·.size) = some 12 := by kernel_rfl
/-- The room L is block b. -/
def RoomAt (w : World) (b : Nat) (L : List Int) : Prop := w.heap[b]? = some (.cells (rowI L) 48 (0, 0))
theorem RoomAt.cell {w : World} {b : Nat} {L : List Int} (h : RoomAt w b L) (j : Nat) (hj : j < L.length) : w.cell? ⟨b, j, none⟩ = some (.int .i64 (L.getD j 0)) := by
  rw [cell_of_row _ _ j _ _ _ h, rowI_at L j hj]
theorem RoomAt.frozen {w : World} {b : Nat} {L : List Int} (h : RoomAt w b L) (j : Nat) : w.frozen? ⟨b, j, none⟩ = false := frozen_of_row _ _ _ _ _ h
theorem RoomAt.lt {w : World} {b : Nat} {L : List Int} (h : RoomAt w b L) : b < w.heap.size := by
  rcases Nat.lt_or_ge b w.heap.size with h1 | h1
  · exact h1
  · unfold RoomAt at h; rw [Array.getElem?_eq_none h1] at h; cases h
theorem RoomAt.below {B : Nat} {w w' : World} {b : Nat} {L : List Int} (h : RoomAt w b L) (hb : Below B w w') (hB : b < B) : RoomAt w' b L := (hb.block b hB).trans h
theorem RoomAt.later {w w' : World} {b : Nat} {L : List Int} (h : RoomAt w b L) (hb : Below w.heap.size w w') : RoomAt w' b L := h.below hb h.lt
theorem RoomAt.set {w : World} {b : Nat} {L : List Int} (h : RoomAt w b L) (j : Nat) (x : Int) : RoomAt (w.setCell ⟨b, j, none⟩ (.int .i64 x)) b (L.set j x) := by
  unfold RoomAt
  rw [← rowI_set]
  exact heap_setCell_same _ _ j _ _ _ h
theorem RoomAt.other {w : World} {b c : Nat} {L : List Int} (h : RoomAt w b L) (hc : c ≠ b) (j : Nat) (v : Value) : RoomAt (w.setCell ⟨c, j, none⟩ v) b L := (heap_setCell_other _ _ _ _ (by simpa using hc.symm)).trans h
theorem RoomAt.new (w : World) (L : List Int) : RoomAt (w.alloc (.cells (rowI L) 48)) w.heap.size L := heapNew _ _
theorem fieldsV_zero : fieldsV[1]? = some (.int .i64 0) := rfl

theorem max_ways (a b : Int) : (a ≤ b ∧ max a b = b) ∨ (b < a ∧ max a b = a) := by omega
theorem min_ways (a b : Int) : (a ≤ b ∧ min a b = a) ∨ (b < a ∧ min a b = b) := by omega
set_option maxHeartbeats 2000000 in
theorem spanBoth_any (a b c d : Int) (w : World) :
    Calls Try.prog 27 #[.agg #[.int .i64 a, .int .i64 b], .agg #[.int .i64 c, .int .i64 d]] w fun e w' => e = .returned (.agg #[.int .i64 (max a c), .int .i64 (min b d)]) ∧ Below w.heap.size w w' := by
  go_enter Try.func27, Try.ntmps27
  go_wp2
  all_goals
    (first | rw [show max a c = c by omega] | rw [show max a c = a by omega])
    (first | rw [show min b d = b by omega] | rw [show min b d = d by omega])
    refine bodyPost_ret (by simp [results, Try.results27, go_sem]) rfl ⟨rfl, ?_⟩
    exact chain (chain (below_alloc _ _) (below_alloc _ _)) (below_alloc _ _)
/-- What spanOf knows once its table is read. -/
def SpanFacts (W : World) (b nb : Nat) (f o n lo hi : Int) : Prop := (b ≠ nb ∧ b + 1 ≠ nb ∧ nb ≠ b ∧ nb ≠ b + 1) ∧ (W.cell? ⟨b, 1, none⟩ = some (.int .i64 o) ∧ W.cell? ⟨b, 2, none⟩ = some (.int .i64 n)) ∧ ((∃ v, W.cell? ⟨b + 1, 0, none⟩ = some v) ∧ (∃ v, W.cell? ⟨b + 1, 1, none⟩ = some v)) ∧ (W.cell? ⟨nb, 0, none⟩ = some (.int .i64 lo) ∧ W.cell? ⟨nb, 1, none⟩ = some (.int .i64 hi)) ∧ ((∀ j, W.frozen? ⟨nb, j, none⟩ = false) ∧ ∀ j, W.frozen? ⟨b + 1, j, none⟩ = false)
theorem spanFacts_old {w w1 : World} {k o n lo hi : Int} {nb : Nat} {W0 : World} (hW0 : W0 = (w.alloc (Obj.cells #[.int .i64 k, .int .i64 o, .int .i64 n] 37)).alloc (Obj.cells #[.int .i64 0, .int .i64 0] 46)) (h1 : Below W0.heap.size W0 w1) (hnb : W0.heap.size ≤ nb) (n0 : w1.cell? ⟨nb, 0, none⟩ = some (.int .i64 lo)) (n1 : w1.cell? ⟨nb, 1, none⟩ = some (.int .i64 hi)) (nf : ∀ j, w1.frozen? ⟨nb, j, none⟩ = false) :
    SpanFacts w1 w.heap.size nb k o n lo hi := by
  subst hW0
  have hs : w.heap.size + 2 ≤ nb := by simpa using hnb
  have c : ∀ b j, b < w.heap.size + 2 → w1.cell? ⟨b, j, none⟩ = _ := fun b j hb => h1.cell (p := ⟨b, j, none⟩) (by simpa using hb)
  have f : ∀ b j, b < w.heap.size + 2 → w1.frozen? ⟨b, j, none⟩ = _ := fun b j hb => h1.frozen (p := ⟨b, j, none⟩) (by simpa using hb)
  refine ⟨⟨by omega, by omega, by omega, by omega⟩, ⟨(c _ _ (by omega)).trans ((cellOld _ _ (by simp)).trans (cellNew _ _ _ _ rfl rfl)), (c _ _ (by omega)).trans ((cellOld _ _ (by simp)).trans (cellNew _ _ _ _ rfl rfl))⟩, ⟨⟨_, (c _ _ (by omega)).trans (cellNew _ _ _ _ (by simp) rfl)⟩, ⟨_, (c _ _ (by omega)).trans (cellNew _ _ _ _ (by simp) rfl)⟩⟩, ⟨n0, n1⟩, nf, fun j => (f _ _ (by omega)).trans (frozenNew _ _ _ (by simp))⟩
set_option maxRecDepth 4000 in
set_option maxHeartbeats 4000000 in
theorem spanOf_any (t : RTm) (hf : 1 ≤ t.fd ∧ t.fd ≤ 5) (w : World) :
    Calls Try.prog 28 #[.agg #[.int .i64 t.fd, .int .i64 t.op, .int .i64 t.nu]] w fun e w' => e = .returned (.agg #[.int .i64 (spL t), .int .i64 (spH t)]) ∧ Below w.heap.size w w' := by
  obtain ⟨f, o, n⟩ := t
  dsimp only at *
  obtain ⟨k, rfl⟩ : ∃ k : Nat, f = (k : Int) := ⟨f.toNat, by omega⟩
  have hk : 1 ≤ k ∧ k ≤ 5 := by omega
  have hk6 : (k : Int) < 6 := by omega
  have E1 : Hid (spL ⟨(k : Int), o, n⟩ = if o ≠ 2 then n else loF (k : Int)) := rfl
  have E2 : Hid (spH ⟨(k : Int), o, n⟩ = if o ≠ 1 then n else hiF (k : Int)) := rfl
  generalize spL ⟨(k : Int), o, n⟩ = sl at *
  generalize spH ⟨(k : Int), o, n⟩ = sh at *
  go_enter Try.func28, Try.ntmps28
  go_wp2
  refine wp_region_held_drew (S := fun W => Below ((w.alloc (Obj.cells #[.int .i64 (k : Int), .int .i64 o, .int .i64 n] 37)).alloc (Obj.cells #[.int .i64 0, .int .i64 0] 46)).heap.size ((w.alloc (Obj.cells #[.int .i64 (k : Int), .int .i64 o, .int .i64 n] 37)).alloc (Obj.cells #[.int .i64 0, .int .i64 0] 46)) W) (by kernel_rfl) (below_drew _) (fun hH => ?_)
  have HS : Hid (∀ W, Below ((w.alloc (Obj.cells #[.int .i64 (k : Int), .int .i64 o, .int .i64 n] 37)).alloc (Obj.cells #[.int .i64 0, .int .i64 0] 46)).heap.size ((w.alloc (Obj.cells #[.int .i64 (k : Int), .int .i64 o, .int .i64 n] 37)).alloc (Obj.cells #[.int .i64 0, .int .i64 0] 46)) W → W.cell? ⟨w.heap.size, 0, none⟩ = some (.int .i64 (k : Int))) := fun W hW => (hW.cell (p := ⟨w.heap.size, 0, none⟩) (by simp; omega)).trans ((cellOld _ _ (by simp)).trans (cellNew _ _ _ _ rfl rfl))
  refine wpAnyH_take (i := 1) (v := .pointer (some ⟨w.heap.size, 0, none⟩)) rfl (by kernel_rfl) (by kernel_rfl) (by kernel_rfl) (fun _ _ _ h => h) (Or.inl ⟨by rfl, fun w hSw => by go_simp⟩) hH ?_
  refine wpAnyH_take (i := 2) (v := .int .i64 (k : Int)) rfl (by kernel_rfl) (by kernel_rfl) (by kernel_rfl) (fun _ _ _ h => h) (Or.inl ⟨by rfl, fun w hSw => by have s0 := HS.out w hSw; go_simp⟩) hH ?_
  try simp only [Act.put, List.setIfInBounds_toArray, List.set_cons_zero, List.set_cons_succ, List.getElem_toArray, List.getElem_cons_succ, List.getElem_cons_zero]
  refine wpAnyH_ready (rs := [0, 6]) (by kernel_rfl) (by simp) ?_
  refine AllReadyH.cons rfl (fun K hK => ?_) (AllReadyH.cons rfl (fun K hK => ?_) AllReadyH.nil)
  · go_simp
    go_at_call 37
    refine (fieldsM_any _).mono ?_
    rintro e w1 ⟨b1, rfl, hb1, hc1⟩
    have hw1 := chain hH hb1
    obtain ⟨c1, c2⟩ := hc1 k hk.1 hk.2
    clear hc1
    refine hK.out _ _ hw1 (fun _ => ?_)
    clear hK K
    try simp only [Act.put, List.setIfInBounds_toArray, List.set_cons_zero, List.set_cons_succ, List.getElem_toArray, List.getElem_cons_succ, List.getElem_cons_zero]
    refine wpAnyH_take (i := 3) (v := .pointer (some ⟨b1, k * 3, none⟩)) rfl (by kernel_rfl) (by kernel_rfl) (by kernel_rfl) (fun _ _ _ h => h) (Or.inl ⟨by rfl, fun w hSw => by go_simp⟩) hw1 ?_
    try simp only [Act.put, List.setIfInBounds_toArray, List.set_cons_zero, List.set_cons_succ, List.getElem_toArray, List.getElem_cons_succ, List.getElem_cons_zero]
    refine wpAnyH_take (i := 4) (v := .pointer (some ⟨b1, k * 3 + 1, none⟩)) rfl (by kernel_rfl) (by kernel_rfl) (by kernel_rfl) (fun _ _ _ h => h) (Or.inl ⟨by rfl, fun w hSw => by go_simp⟩) hw1 ?_
    try simp only [Act.put, List.setIfInBounds_toArray, List.set_cons_zero, List.set_cons_succ, List.getElem_toArray, List.getElem_cons_succ, List.getElem_cons_zero]
    refine wpAnyH_ready (rs := [5, 6]) (by kernel_rfl) (by simp) ?_
    refine AllReadyH.cons rfl (fun K hK => ?_) (AllReadyH.cons rfl (fun K hK => ?_) AllReadyH.nil)
    · go_simp
      refine hK.out _ _ hw1 (fun _ => ?_)
      clear hK K
      try simp only [Act.put, List.setIfInBounds_toArray, List.set_cons_zero, List.set_cons_succ, List.getElem_toArray, List.getElem_cons_succ, List.getElem_cons_zero]
      refine wpAnyH_ready (rs := [6]) (by kernel_rfl) (by simp) ?_
      refine AllReadyH.cons rfl (fun K hK => ?_) AllReadyH.nil
      go_simp
      refine hK.out _ _ (chain hw1 (below_alloc _ _)) (fun _ => ?_)
      clear hK K
      try simp only [Act.put, List.setIfInBounds_toArray, List.set_cons_zero, List.set_cons_succ, List.getElem_toArray, List.getElem_cons_succ, List.getElem_cons_zero]
      refine wpAnyH_ready (rs := [7]) (by kernel_rfl) (by simp) ?_
      refine AllReadyH.cons rfl (fun K hK => ?_) AllReadyH.nil
      go_simp
      obtain ⟨W7, hW7⟩ : ∃ W7, W7 = w1.alloc (Obj.cells #[.int .i64 (loF (k : Int)), .int .i64 (hiF (k : Int))] 46) := ⟨_, rfl⟩
      rw [← hW7]
      have hS7 : Below ((w.alloc (Obj.cells #[.int .i64 (k : Int), .int .i64 o, .int .i64 n] 37)).alloc (Obj.cells #[.int .i64 0, .int .i64 0] 46)).heap.size ((w.alloc (Obj.cells #[.int .i64 (k : Int), .int .i64 o, .int .i64 n] 37)).alloc (Obj.cells #[.int .i64 0, .int .i64 0] 46)) W7 := by rw [hW7]; exact (chain hw1 (below_alloc _ _))
      have F7 : SpanFacts W7 w.heap.size (w1.heap.size) (k : Int) o n (loF (k : Int)) (hiF (k : Int)) := spanFacts_old rfl hS7 (by first | exact hw1.size | simp) (by rw [hW7]; exact cellNew _ _ _ _ rfl rfl) (by rw [hW7]; exact cellNew _ _ _ _ rfl rfl) (by rw [hW7]; exact fun j => frozenNew _ _ _ rfl)
      refine hK.out _ _ hS7 (fun _ => ?_)
      clear hK K
      try simp only [Act.put, List.setIfInBounds_toArray, List.set_cons_zero, List.set_cons_succ, List.getElem_toArray, List.getElem_cons_succ, List.getElem_cons_zero]
      refine wpAnyH_done (by kernel_rfl) ?_ _
      try simp
      have hle2 : w.heap.size ≤ w1.heap.size := by first | (have := hw1.size; simp at this; omega) | omega
      have HB7 : Hid (Below w.heap.size w W7) := chain (chain (below_alloc _ _) (below_alloc _ _)) hS7
      obtain ⟨⟨d1, d2, d3, d4⟩, ⟨p1, p2⟩, ⟨⟨v0, r0⟩, ⟨v1, r1⟩⟩, ⟨n0, n1⟩, nf, rf⟩ := F7
      have nf0 := nf 0
      have nf1 := nf 1
      have rf0 := rf 0
      have rf1 := rf 1
      clear hS7 hW7 nf rf hw1 hb1 c1 c2 hH HS
      generalize loF (k : Int) = lo at *
      generalize hiF (k : Int) = hi at *
      try generalize w1.heap.size = nb at *
      rcases (by omega : o = 2 ∨ o = 1 ∨ (o ≠ 2 ∧ o ≠ 1)) with rfl | rfl | ⟨o2, o1⟩
      · obtain rfl : sl = lo := E1.out
        obtain rfl : sh = n := E2.out
        go_wp2
        refine bodyPost_ret (by simp [results, Try.results28, go_sem, *]) rfl ⟨rfl, ?_⟩
        repeat refine Below.setCell ?_ (by dsimp only; omega) _
        exact HB7.out
      · obtain rfl : sl = n := E1.out
        obtain rfl : sh = hi := E2.out
        go_wp2
        refine bodyPost_ret (by simp [results, Try.results28, go_sem, *]) rfl ⟨rfl, ?_⟩
        repeat refine Below.setCell ?_ (by dsimp only; omega) _
        exact HB7.out
      · obtain rfl : sl = n := by rw [E1.out, if_pos o2]
        obtain rfl : sh = sl := by rw [E2.out, if_pos o1]
        go_wp2
        refine bodyPost_ret (by simp [results, Try.results28, go_sem, *]) rfl ⟨rfl, ?_⟩
        repeat refine Below.setCell ?_ (by dsimp only; omega) _
        exact HB7.out
    · go_simp
      refine hK.out _ _ (chain hw1 (below_alloc _ _)) (fun _ => ?_)
      clear hK K
      try simp only [Act.put, List.setIfInBounds_toArray, List.set_cons_zero, List.set_cons_succ, List.getElem_toArray, List.getElem_cons_succ, List.getElem_cons_zero]
      have lt1 : b1 < w1.heap.size := World.block_lt_of_cell? _ _ c1
      refine wpAnyH_ready (rs := [5]) (by kernel_rfl) (by simp) ?_
      refine AllReadyH.cons rfl (fun K hK => ?_) AllReadyH.nil
      go_simp
      refine hK.out _ _ (chain hw1 (below_alloc _ _)) (fun _ => ?_)
      clear hK K
      try simp only [Act.put, List.setIfInBounds_toArray, List.set_cons_zero, List.set_cons_succ, List.getElem_toArray, List.getElem_cons_succ, List.getElem_cons_zero]
      refine wpAnyH_ready (rs := [7]) (by kernel_rfl) (by simp) ?_
      refine AllReadyH.cons rfl (fun K hK => ?_) AllReadyH.nil
      go_simp
      obtain ⟨W7, hW7⟩ : ∃ W7, W7 = w1.alloc (Obj.cells #[.int .i64 (loF (k : Int)), .int .i64 (hiF (k : Int))] 46) := ⟨_, rfl⟩
      rw [← hW7]
      have hS7 : Below ((w.alloc (Obj.cells #[.int .i64 (k : Int), .int .i64 o, .int .i64 n] 37)).alloc (Obj.cells #[.int .i64 0, .int .i64 0] 46)).heap.size ((w.alloc (Obj.cells #[.int .i64 (k : Int), .int .i64 o, .int .i64 n] 37)).alloc (Obj.cells #[.int .i64 0, .int .i64 0] 46)) W7 := by rw [hW7]; exact (chain hw1 (below_alloc _ _))
      have F7 : SpanFacts W7 w.heap.size (w1.heap.size) (k : Int) o n (loF (k : Int)) (hiF (k : Int)) := spanFacts_old rfl hS7 (by first | exact hw1.size | simp) (by rw [hW7]; exact cellNew _ _ _ _ rfl rfl) (by rw [hW7]; exact cellNew _ _ _ _ rfl rfl) (by rw [hW7]; exact fun j => frozenNew _ _ _ rfl)
      refine hK.out _ _ hS7 (fun _ => ?_)
      clear hK K
      try simp only [Act.put, List.setIfInBounds_toArray, List.set_cons_zero, List.set_cons_succ, List.getElem_toArray, List.getElem_cons_succ, List.getElem_cons_zero]
      refine wpAnyH_done (by kernel_rfl) ?_ _
      try simp
      have hle2 : w.heap.size ≤ w1.heap.size := by first | (have := hw1.size; simp at this; omega) | omega
      have HB7 : Hid (Below w.heap.size w W7) := chain (chain (below_alloc _ _) (below_alloc _ _)) hS7
      obtain ⟨⟨d1, d2, d3, d4⟩, ⟨p1, p2⟩, ⟨⟨v0, r0⟩, ⟨v1, r1⟩⟩, ⟨n0, n1⟩, nf, rf⟩ := F7
      have nf0 := nf 0
      have nf1 := nf 1
      have rf0 := rf 0
      have rf1 := rf 1
      clear lt1 hS7 hW7 nf rf hw1 hb1 c1 c2 hH HS
      generalize loF (k : Int) = lo at *
      generalize hiF (k : Int) = hi at *
      try generalize w1.heap.size = nb at *
      rcases (by omega : o = 2 ∨ o = 1 ∨ (o ≠ 2 ∧ o ≠ 1)) with rfl | rfl | ⟨o2, o1⟩
      · obtain rfl : sl = lo := E1.out
        obtain rfl : sh = n := E2.out
        go_wp2
        refine bodyPost_ret (by simp [results, Try.results28, go_sem, *]) rfl ⟨rfl, ?_⟩
        repeat refine Below.setCell ?_ (by dsimp only; omega) _
        exact HB7.out
      · obtain rfl : sl = n := E1.out
        obtain rfl : sh = hi := E2.out
        go_wp2
        refine bodyPost_ret (by simp [results, Try.results28, go_sem, *]) rfl ⟨rfl, ?_⟩
        repeat refine Below.setCell ?_ (by dsimp only; omega) _
        exact HB7.out
      · obtain rfl : sl = n := by rw [E1.out, if_pos o2]
        obtain rfl : sh = sl := by rw [E2.out, if_pos o1]
        go_wp2
        refine bodyPost_ret (by simp [results, Try.results28, go_sem, *]) rfl ⟨rfl, ?_⟩
        repeat refine Below.setCell ?_ (by dsimp only; omega) _
        exact HB7.out
  · go_simp
    have hz := chain hH (below_alloc _ (Obj.cells #[.int .i64 0, .int .i64 0] 46))
    refine hK.out _ _ hz (fun _ => ?_)
    clear hK K
    try simp only [Act.put, List.setIfInBounds_toArray, List.set_cons_zero, List.set_cons_succ, List.getElem_toArray, List.getElem_cons_succ, List.getElem_cons_zero]
    refine wpAnyH_ready (rs := [0]) (by kernel_rfl) (by simp) ?_
    refine AllReadyH.cons rfl (fun K hK => ?_) AllReadyH.nil
    go_simp
    go_at_call 37
    refine (fieldsM_any _).mono ?_
    rintro e w1 ⟨b1, rfl, hb1, hc1⟩
    have hw1 := chain hz hb1
    obtain ⟨c1, c2⟩ := hc1 k hk.1 hk.2
    have z0 : w1.cell? ⟨w.heap.size + 1 + 1, 0, none⟩ = some (.int .i64 0) := (hb1.cell (p := ⟨w.heap.size + 1 + 1, 0, none⟩) (by simp)).trans (cellNew _ _ _ _ (by simp) rfl)
    have z1 : w1.cell? ⟨w.heap.size + 1 + 1, 1, none⟩ = some (.int .i64 0) := (hb1.cell (p := ⟨w.heap.size + 1 + 1, 1, none⟩) (by simp)).trans (cellNew _ _ _ _ (by simp) rfl)
    have zf : ∀ j, w1.frozen? ⟨w.heap.size + 1 + 1, j, none⟩ = false := fun j => (hb1.frozen (p := ⟨w.heap.size + 1 + 1, j, none⟩) (by simp)).trans (frozenNew _ _ _ (by simp))
    have hsz : ((w.alloc (Obj.cells #[.int .i64 (k : Int), .int .i64 o, .int .i64 n] 37)).alloc (Obj.cells #[.int .i64 0, .int .i64 0] 46)).heap.size ≤ w.heap.size + 1 + 1 := by simp
    have zf0 := zf 0
    have zf1 := zf 1
    clear hc1 hb1
    refine hK.out _ _ hw1 (fun _ => ?_)
    clear hK K
    try simp only [Act.put, List.setIfInBounds_toArray, List.set_cons_zero, List.set_cons_succ, List.getElem_toArray, List.getElem_cons_succ, List.getElem_cons_zero]
    refine wpAnyH_take (i := 3) (v := .pointer (some ⟨b1, k * 3, none⟩)) rfl (by kernel_rfl) (by kernel_rfl) (by kernel_rfl) (fun _ _ _ h => h) (Or.inl ⟨by rfl, fun w hSw => by go_simp⟩) hw1 ?_
    try simp only [Act.put, List.setIfInBounds_toArray, List.set_cons_zero, List.set_cons_succ, List.getElem_toArray, List.getElem_cons_succ, List.getElem_cons_zero]
    refine wpAnyH_take (i := 4) (v := .pointer (some ⟨b1, k * 3 + 1, none⟩)) rfl (by kernel_rfl) (by kernel_rfl) (by kernel_rfl) (fun _ _ _ h => h) (Or.inl ⟨by rfl, fun w hSw => by go_simp⟩) hw1 ?_
    try simp only [Act.put, List.setIfInBounds_toArray, List.set_cons_zero, List.set_cons_succ, List.getElem_toArray, List.getElem_cons_succ, List.getElem_cons_zero]
    refine wpAnyH_ready (rs := [5]) (by kernel_rfl) (by simp) ?_
    refine AllReadyH.cons rfl (fun K hK => ?_) AllReadyH.nil
    go_simp
    refine hK.out _ _ hw1 (fun _ => ?_)
    clear hK K
    try simp only [Act.put, List.setIfInBounds_toArray, List.set_cons_zero, List.set_cons_succ, List.getElem_toArray, List.getElem_cons_succ, List.getElem_cons_zero]
    refine wpAnyH_ready (rs := [7]) (by kernel_rfl) (by simp) ?_
    refine AllReadyH.cons rfl (fun K hK => ?_) AllReadyH.nil
    go_simp
    obtain ⟨W7, hW7⟩ : ∃ W7, W7 = (w1.setCell ⟨w.heap.size + 1 + 1, 0, none⟩ (.int .i64 (loF (k : Int)))).setCell ⟨w.heap.size + 1 + 1, 1, none⟩ (.int .i64 (hiF (k : Int))) := ⟨_, rfl⟩
    rw [← hW7]
    have hS7 : Below ((w.alloc (Obj.cells #[.int .i64 (k : Int), .int .i64 o, .int .i64 n] 37)).alloc (Obj.cells #[.int .i64 0, .int .i64 0] 46)).heap.size ((w.alloc (Obj.cells #[.int .i64 (k : Int), .int .i64 o, .int .i64 n] 37)).alloc (Obj.cells #[.int .i64 0, .int .i64 0] 46)) W7 := by rw [hW7]; exact (hw1.setCell hsz _).setCell hsz _
    have F7 : SpanFacts W7 w.heap.size (w.heap.size + 1 + 1) (k : Int) o n (loF (k : Int)) (hiF (k : Int)) := spanFacts_old rfl hS7 (by first | exact hw1.size | simp) (by rw [hW7]; simp [go_sem, z0]) (by rw [hW7]; simp [go_sem, z1]) (by rw [hW7]; intro j; rw [World.frozen?_setCell, World.frozen?_setCell]; exact zf j)
    refine hK.out _ _ hS7 (fun _ => ?_)
    clear hK K
    try simp only [Act.put, List.setIfInBounds_toArray, List.set_cons_zero, List.set_cons_succ, List.getElem_toArray, List.getElem_cons_succ, List.getElem_cons_zero]
    refine wpAnyH_done (by kernel_rfl) ?_ _
    try simp
    have hle2 : w.heap.size ≤ w.heap.size + 1 + 1 := by first | (have := hw1.size; simp at this; omega) | omega
    have HB7 : Hid (Below w.heap.size w W7) := chain (chain (below_alloc _ _) (below_alloc _ _)) hS7
    obtain ⟨⟨d1, d2, d3, d4⟩, ⟨p1, p2⟩, ⟨⟨v0, r0⟩, ⟨v1, r1⟩⟩, ⟨n0, n1⟩, nf, rf⟩ := F7
    have nf0 := nf 0
    have nf1 := nf 1
    have rf0 := rf 0
    have rf1 := rf 1
    clear hS7 hW7 nf rf hw1 hz hsz z0 z1 zf zf0 zf1 c1 c2 hH HS
    generalize loF (k : Int) = lo at *
    generalize hiF (k : Int) = hi at *
    try generalize w1.heap.size = nb at *
    rcases (by omega : o = 2 ∨ o = 1 ∨ (o ≠ 2 ∧ o ≠ 1)) with rfl | rfl | ⟨o2, o1⟩
    · obtain rfl : sl = lo := E1.out
      obtain rfl : sh = n := E2.out
      go_wp2
      refine bodyPost_ret (by simp [results, Try.results28, go_sem, *]) rfl ⟨rfl, ?_⟩
      repeat refine Below.setCell ?_ (by dsimp only; omega) _
      exact HB7.out
    · obtain rfl : sl = n := E1.out
      obtain rfl : sh = hi := E2.out
      go_wp2
      refine bodyPost_ret (by simp [results, Try.results28, go_sem, *]) rfl ⟨rfl, ?_⟩
      repeat refine Below.setCell ?_ (by dsimp only; omega) _
      exact HB7.out
    · obtain rfl : sl = n := by rw [E1.out, if_pos o2]
      obtain rfl : sh = sl := by rw [E2.out, if_pos o1]
      go_wp2
      refine bodyPost_ret (by simp [results, Try.results28, go_sem, *]) rfl ⟨rfl, ?_⟩
      repeat refine Below.setCell ?_ (by dsimp only; omega) _
      exact HB7.out
end Go.Proofs.Ytfofdeenpcbglaa

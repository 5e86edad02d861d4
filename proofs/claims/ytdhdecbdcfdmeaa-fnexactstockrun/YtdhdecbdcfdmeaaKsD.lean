/-
  The specification's l14Lot.
-/
import Derived.Test.YtdhdecbdcfdmeaaKsC
namespace Go.Proofs.Ytdhdecbdcfdmeaa
open Go.ChangeShapes Go.WideShapes Go.ChangeAt Go.RowKit Go.Deep
set_option linter.unusedVariables false

/-- One cell of the lots has turned. -/
theorem Bx.put {B : Nat} {av : Value} {w : World} {σ : StS} {g n c : Nat} {kd : Int} {ar : ByteArray} {lt nu un : Int} {W : World} (h : Bx B av w σ (.slice (some ⟨g, 0, none⟩) n c) kd ar lt nu un W) (hn : n = σ.L.length) {L2 : List RSl} {j : Nat} {u : Value} (hj : j < σ.L.length * 5) (hl : L2.length = σ.L.length) (hc : slCells L2 = (slCells σ.L).set j u) :
    Bx B av w { σ with L := L2 } (.slice (some ⟨g, 0, none⟩) n c) kd ar lt nu un (W.setCell ⟨g, j, none⟩ u) := by
  subst hn
  have hs := h.st.ne h.s (by decide)
  have hx := h.st.ne h.x (by decide)
  have h2 := h.st.ne h.r2 (by decide)
  have h3 := h.st.ne h.r3 (by decide)
  have hk : ∀ q, Value.ownBlock (.slice (some ⟨g, 0, none⟩) σ.L.length c) ≠ some q → (W.setCell ⟨g, j, none⟩ u).heap[q]? = W.heap[q]? := fun q hq => Below.heap_setCell _ _ _ _ (fun e => hq (by show some g = some q; exact congrArg some e.symm))
  refine ⟨⟨?_, ?_, h.st.new⟩, (hk _ hs).trans h.s, (hk _ hx).trans h.x, (hk _ h2).trans h.r2, (hk _ h3).trans h.r3⟩
  · show World.ownsRow _ B 38 5 _ L2.length (slCells L2)
    rw [hl, hc]
    exact rowPutG h.st.row j hj u
  · rcases h.st.new g rfl with q | q
    · exact h.st.fr.set (b := g) q _ _
    · exact h.st.fr.setNew q _ _
set_option maxHeartbeats 16000000 in
set_option maxRecDepth 8000 in
theorem sLot_any {B : Nat} (σ : StS) (a : Option Addr) (c : Nat) (ix : Nat) (hix : ix ≤ 1000) (hok : StOK ix σ) (kd : Int) (hkd : 4 ≤ kd ∧ kd ≤ 7) (ar : ByteArray) (lt nu un : Int) {i : Nat} (hi : i < σ.L.length) (w : World) (hB : B ≤ w.heap.size) (hr : w.ownsRow B 38 5 (.slice a σ.L.length c) σ.L.length (slCells σ.L)) :
    Calls Try.prog 47 #[.agg (stkV σ (.slice a σ.L.length c)), .agg #[.int .i64 kd, .string ar, .int .i64 lt, .int .i64 nu, .int .i64 un], .int .i64 (i : Int)] w (ActP B (.slice a σ.L.length c) w (lotE σ kd nu i) (lotN σ kd nu i) (lotS σ kd nu i)) := by
  obtain ⟨g, cp, hq⟩ := row_some hr (by omega)
  simp only [Value.slice.injEq, true_and] at hq
  obtain ⟨rfl, rfl⟩ := hq
  obtain ⟨W4, hW4⟩ : ∃ W4, W4 = ((((w.alloc (Obj.cells #[.int .i64 σ.day, .int .i64 σ.rc, .int .i64 σ.sd, .int .i64 σ.wa, .int .i64 σ.sh, .slice (some ⟨g, 0, none⟩) σ.L.length c] 29)).alloc (Obj.cells #[.int .i64 kd, .string ar, .int .i64 lt, .int .i64 nu, .int .i64 un] 34)).alloc (Obj.cells #[.int .i64 0, .int .i64 0, .int .i64 0, .int .i64 0, .int .i64 0, .slice none 0 0] 29)).alloc (Obj.cells #[.int .i64 0, .int .i64 0] 36)) := ⟨_, rfl⟩
  have hb4 : Bx B (.slice (some ⟨g, 0, none⟩) σ.L.length c) w σ (.slice (some ⟨g, 0, none⟩) σ.L.length c) kd ar lt nu un W4 := by rw [hW4]; exact bxStart hr kd ar lt nu un
  have hz4 : W4.heap.size = w.heap.size + 4 := by rw [hW4]; simp
  have hgl := (row_lt hr g rfl).2
  obtain ⟨q0, q1, q2, q3, q4⟩ := row_sl hb4.st.row hi
  have s5 := blkCell hb4.s 5 _ rfl
  rw [hW4] at s5 q0 q1 q2 q3 q4
  obtain ⟨⟨a0, a1, a2, a3, a4⟩, hir⟩ : ∃ r, gl σ.L i = r := ⟨_, rfl⟩
  have HIr : Hid (gl σ.L i = ⟨a0, a1, a2, a3, a4⟩) := hir
  rw [hir] at q0 q1 q2 q3 q4
  dsimp only at q0 q1 q2 q3 q4
  obtain ⟨W5, hW5⟩ : ∃ W5, W5 = W4.alloc (Obj.cells #[.string a0, .int .i64 a1, .int .i64 a2, .int .i64 a3, .bool a4] 38) := ⟨_, rfl⟩
  have HB : Hid (Bx B (.slice (some ⟨g, 0, none⟩) σ.L.length c) w σ (.slice (some ⟨g, 0, none⟩) σ.L.length c) kd ar lt nu un W5) := by rw [hW5]; exact hb4.later (below_alloc _ _)
  have HLb : Hid (W5.heap[w.heap.size + 4]? = some (.cells #[.string a0, .int .i64 a1, .int .i64 a2, .int .i64 a3, .bool a4] 38 (0, 0))) := by rw [hW5, ← hz4]; exact heapNew _ _
  have hnu := getN hok.good hi
  have hn1 := hnu.nu
  have hn2 := hnu.nu'
  rw [hir] at hn1 hn2
  dsimp only at hn1 hn2
  have hbal := hok.bal
  have htop := hok.top
  have hs0 := hok.s0
  have hw0 := hok.w0
  have hh0 := hok.h0
  have hu0 := hok.rc0.1
  have hLl := hok.len
  have hst : Value.agg (stkV σ (.slice (some ⟨g, 0, none⟩) σ.L.length c)) = .agg #[.int .i64 σ.day, .int .i64 σ.rc, .int .i64 σ.sd, .int .i64 σ.wa, .int .i64 σ.sh, .slice (some ⟨g, 0, none⟩) σ.L.length c] := rfl
  rw [hst]
  have hii : (i : Int) < (σ.L.length : Int) := by omega
  have l2 := blkCell HLb.out 2 _ rfl
  have l4 := blkCell HLb.out 4 _ rfl
  have x0 := blkCell HB.out.x 0 _ rfl
  have x3 := blkCell HB.out.x 3 _ rfl
  have s5b := blkCell HB.out.s 5 _ rfl
  have s3 := blkCell HB.out.s 3 _ rfl
  have s4 := blkCell HB.out.s 4 _ rfl
  have f3 := blkFree HB.out.s 3
  have f4 := blkFree HB.out.s 4
  have c2 : W5.cell? ⟨g, i * 5 + 2, none⟩ = some (.int .i64 a2) := by have := (row_sl HB.out.st.row hi).2.2.1; rw [hir] at this; exact this
  have c4 : W5.cell? ⟨g, i * 5 + 4, none⟩ = some (.bool a4) := by have := (row_sl HB.out.st.row hi).2.2.2.2; rw [hir] at this; exact this
  have e2 := (rowCellG HB.out.st.row (i * 5 + 2) (by omega)).2
  have e4 := (rowCellG HB.out.st.row (i * 5 + 4) (by omega)).2
  clear hok hr hst hb4 hir hnu
  rcases (by omega : kd = 4 ∨ kd = 5 ∨ kd = 6 ∨ kd = 7) with rfl | rfl | rfl | rfl
  · cases a4 with
    | true =>
      obtain ⟨E1, E2, E3⟩ : lotE σ 4 nu i = 12 ∧ lotN σ 4 nu i = 0 ∧ lotS σ 4 nu i = σ := by
        have q1 : lotE σ 4 nu i = 12 := by unfold lotE; rw [HIr.out]; simp
        exact ⟨q1, by unfold lotN; rw [q1]; simp, by unfold lotS; rw [q1]; simp⟩
      rw [E1, E2, E3]
      clear E1 E2 E3
      have b0 := blkCell HB.out.s 0 _ rfl
      have b1 := blkCell HB.out.s 1 _ rfl
      have b2 := blkCell HB.out.s 2 _ rfl
      have b3 := blkCell HB.out.s 3 _ rfl
      have b4 := blkCell HB.out.s 4 _ rfl
      have b5 := blkCell HB.out.s 5 _ rfl
      have r0 := blkCell HB.out.r2 0 _ rfl
      have r1 := blkCell HB.out.r2 1 _ rfl
      have r2 := blkCell HB.out.r2 2 _ rfl
      have r3 := blkCell HB.out.r2 3 _ rfl
      have r4 := blkCell HB.out.r2 4 _ rfl
      have r5 := blkCell HB.out.r2 5 _ rfl
      have gg0 := blkFree HB.out.r2 0
      have gg1 := blkFree HB.out.r2 1
      have gg2 := blkFree HB.out.r2 2
      have gg3 := blkFree HB.out.r2 3
      have gg4 := blkFree HB.out.r2 4
      have gg5 := blkFree HB.out.r2 5
      have hmid : ((((((W5.setCell ⟨w.heap.size + 2, 0, none⟩ (.int .i64 σ.day)).setCell ⟨w.heap.size + 2, 1, none⟩ (.int .i64 σ.rc)).setCell ⟨w.heap.size + 2, 2, none⟩ (.int .i64 σ.sd)).setCell ⟨w.heap.size + 2, 3, none⟩ (.int .i64 σ.wa)).setCell ⟨w.heap.size + 2, 4, none⟩ (.int .i64 σ.sh)).setCell ⟨w.heap.size + 2, 5, none⟩ (.slice (some ⟨g, 0, none⟩) σ.L.length c)).heap[w.heap.size + 3]? = some (.cells #[.int .i64 0, .int .i64 0] 36 (0, 0)) := ((six HB.out.r2 (.int .i64 σ.day) (.int .i64 σ.rc) (.int .i64 σ.sd) (.int .i64 σ.wa) (.int .i64 σ.sh) (.slice (some ⟨g, 0, none⟩) σ.L.length c)).2.block _ (blkLt HB.out.r3) (by omega)).trans HB.out.r3
      have y0 := blkCell hmid 0 _ rfl
      have y1 := blkCell hmid 1 _ rfl
      have z0 := blkFree hmid 0
      have z1 := blkFree hmid 1
      have HZ := HB.out.retA (.int .i64 σ.day) (.int .i64 σ.rc) (.int .i64 σ.sd) (.int .i64 σ.wa) (.int .i64 σ.sh) (.slice (some ⟨g, 0, none⟩) σ.L.length c) (.int .i64 12) (.int .i64 0)
      clear hmid
      go_enter Try.func47, Try.ntmps47
      go_upto_region 2 with fail
      rw [← hW4, ← hW5]
      clear hW4 hW5 s5 q0 q1 q2 q3 q4
      go_wp2
      obtain ⟨k1, k2, k3⟩ := HZ
      generalize ((((((((W5.setCell ⟨w.heap.size + 2, 0, none⟩ (.int .i64 σ.day)).setCell ⟨w.heap.size + 2, 1, none⟩ (.int .i64 σ.rc)).setCell ⟨w.heap.size + 2, 2, none⟩ (.int .i64 σ.sd)).setCell ⟨w.heap.size + 2, 3, none⟩ (.int .i64 σ.wa)).setCell ⟨w.heap.size + 2, 4, none⟩ (.int .i64 σ.sh)).setCell ⟨w.heap.size + 2, 5, none⟩ (.slice (some ⟨g, 0, none⟩) σ.L.length c)).setCell ⟨w.heap.size + 3, 0, none⟩ (.int .i64 12)).setCell ⟨w.heap.size + 3, 1, none⟩ (.int .i64 0)) = W9 at *
      have p0 := blkCell k2 0 _ rfl
      have p1 := blkCell k2 1 _ rfl
      have p2 := blkCell k2 2 _ rfl
      have p3 := blkCell k2 3 _ rfl
      have p4 := blkCell k2 4 _ rfl
      have p5 := blkCell k2 5 _ rfl
      have o0 := blkCell k3 0 _ rfl
      have o1 := blkCell k3 1 _ rfl
      refine bodyPost_ret (v := .tuple #[.agg #[.int .i64 σ.day, .int .i64 σ.rc, .int .i64 σ.sd, .int .i64 σ.wa, .int .i64 σ.sh, .slice (some ⟨g, 0, none⟩) σ.L.length c], .agg #[.int .i64 12, .int .i64 0]]) (by simp [results, Try.results47, go_sem, p0, p1, p2, p3, p4, p5, o0, o1]) rfl ?_
      exact ⟨some ⟨g, 0, none⟩, c, rfl, k1⟩
    | false =>
      obtain ⟨E1, E2, E3⟩ : lotE σ 4 nu i = 0 ∧ lotN σ 4 nu i = a2 ∧ lotS σ 4 nu i = { σ with L := σ.L.set i { gl σ.L i with hd := true } } := by
        have q1 : lotE σ 4 nu i = 0 := by unfold lotE; rw [HIr.out]; simp
        exact ⟨q1, by unfold lotN; rw [q1, HIr.out]; simp, by unfold lotS; rw [q1]; simp⟩
      rw [E1, E2, E3]
      clear E1 E2 E3
      have HBe0 : Hid (Bx B (.slice (some ⟨g, 0, none⟩) σ.L.length c) w { σ with L := σ.L.set i { gl σ.L i with hd := true } } (.slice (some ⟨g, 0, none⟩) σ.L.length c) 4 ar lt nu un (W5.setCell ⟨g, i * 5 + 4, none⟩ (.bool true))) := HB.out.put rfl (by omega) (by rw [List.length_set]) (slCells_setHd σ.L i hi true)
      have HLe0 : Hid ((W5.setCell ⟨g, i * 5 + 4, none⟩ (.bool true)).heap[w.heap.size + 4]? = some (.cells #[.string a0, .int .i64 a1, .int .i64 a2, .int .i64 a3, .bool false] 38 (0, 0))) := (Below.heap_setCell _ _ _ _ (by show w.heap.size + 4 ≠ g; omega)).trans HLb.out
      go_enter Try.func47, Try.ntmps47
      go_upto_region 2 with fail
      rw [← hW4, ← hW5]
      clear hW4 hW5 s5 q0 q1 q2 q3 q4
      go_wp2_with fail
      clear l2 l4 x0 x3 s5b s3 s4 f3 f4 c2 c4 e2 e4 HB HLb
      obtain ⟨We, hWe⟩ : ∃ We, We = W5.setCell ⟨g, i * 5 + 4, none⟩ (.bool true) := ⟨_, rfl⟩
      have HBe : Hid (Bx B (.slice (some ⟨g, 0, none⟩) σ.L.length c) w { σ with L := σ.L.set i { gl σ.L i with hd := true } } (.slice (some ⟨g, 0, none⟩) σ.L.length c) 4 ar lt nu un We) := by rw [hWe]; exact HBe0.out
      have HLe : Hid (We.heap[w.heap.size + 4]? = some (.cells #[.string a0, .int .i64 a1, .int .i64 a2, .int .i64 a3, .bool false] 38 (0, 0))) := by rw [hWe]; exact HLe0.out
      rw [← hWe]
      clear hWe HBe0 HLe0
      have HLd : Hid (We.drew.heap[w.heap.size + 4]? = some (.cells #[.string a0, .int .i64 a1, .int .i64 a2, .int .i64 a3, .bool false] 38 (0, 0))) := HLe.out
      have HBd : Hid (Bx B (.slice (some ⟨g, 0, none⟩) σ.L.length c) w { σ with L := σ.L.set i { gl σ.L i with hd := true } } (.slice (some ⟨g, 0, none⟩) σ.L.length c) 4 ar lt nu un We.drew) := HBe.out.later (below_drew _)
      have HQd : Hid (∀ W', Fr (fun q => q = w.heap.size + 2 ∨ q = w.heap.size + 3) We.drew W' → W'.heap[w.heap.size]? = some (.cells #[.int .i64 σ.day, .int .i64 σ.rc, .int .i64 σ.sd, .int .i64 σ.wa, .int .i64 σ.sh, .slice (some ⟨g, 0, none⟩) σ.L.length c] 29 (0, 0)) ∧ W'.heap[w.heap.size + 1]? = some (.cells #[.int .i64 4, .string ar, .int .i64 lt, .int .i64 nu, .int .i64 un] 34 (0, 0)) ∧ W'.heap[w.heap.size + 4]? = some (.cells #[.string a0, .int .i64 a1, .int .i64 a2, .int .i64 a3, .bool false] 38 (0, 0))) := fun W' hW' => ⟨(hW'.block _ (blkLt HBd.out.s) (by omega)).trans HBd.out.s, (hW'.block _ (blkLt HBd.out.x) (by omega)).trans HBd.out.x, (hW'.block _ (blkLt HLd.out) (by omega)).trans HLd.out⟩
      refine wp_region_held_drew (S := fun W' => Fr (fun q => q = w.heap.size + 2 ∨ q = w.heap.size + 3) We.drew W') (by kernel_rfl) (Fr.refl _ _) (fun hH => ?_)
      generalize We.drew = Wd at *
      refine wpAnyH_take (i := 0) (v := .agg #[.int .i64 σ.day, .int .i64 σ.rc, .int .i64 σ.sd, .int .i64 σ.wa, .int .i64 σ.sh, .slice (some ⟨g, 0, none⟩) σ.L.length c]) rfl (by kernel_rfl) (by kernel_rfl) (by kernel_rfl) (fun _ _ _ h => h) (Or.inl ⟨by rfl, fun w hSw => by have f0 := blkCell (HQd.out w hSw).1 0 _ rfl; have f1 := blkCell (HQd.out w hSw).1 1 _ rfl; have f2 := blkCell (HQd.out w hSw).1 2 _ rfl; have f3 := blkCell (HQd.out w hSw).1 3 _ rfl; have f4 := blkCell (HQd.out w hSw).1 4 _ rfl; have f5 := blkCell (HQd.out w hSw).1 5 _ rfl; go_simp⟩) hH ?_
      refine wpAnyH_take (i := 1) (v := .pointer (some ⟨w.heap.size + 4, 2, none⟩)) rfl (by kernel_rfl) (by kernel_rfl) (by kernel_rfl) (fun _ _ _ h => h) (Or.inl ⟨by rfl, fun w hSw => by go_simp⟩) hH ?_
      try simp only [Act.put, List.setIfInBounds_toArray, List.set_cons_zero, List.set_cons_succ, List.getElem_toArray, List.getElem_cons_succ, List.getElem_cons_zero]
      refine wpAnyH_take (i := 2) (v := .int .i64 a2) rfl (by kernel_rfl) (by kernel_rfl) (by kernel_rfl) (fun _ _ _ h => h) (Or.inl ⟨by rfl, fun w hSw => by have f0 := blkCell (HQd.out w hSw).2.2 2 _ rfl; go_simp⟩) hH ?_
      try simp only [Act.put, List.setIfInBounds_toArray, List.set_cons_zero, List.set_cons_succ, List.getElem_toArray, List.getElem_cons_succ, List.getElem_cons_zero]
      refine wpAnyH_take (i := 3) (v := .agg #[.int .i64 0, .int .i64 a2]) rfl (by kernel_rfl) (by kernel_rfl) (by kernel_rfl) (fun _ _ _ h => h) (Or.inl ⟨by rfl, fun w hSw => by go_simp⟩) hH ?_
      try simp only [Act.put, List.setIfInBounds_toArray, List.set_cons_zero, List.set_cons_succ, List.getElem_toArray, List.getElem_cons_succ, List.getElem_cons_zero]
      have HZA := HBd.out.retA (.int .i64 σ.day) (.int .i64 σ.rc) (.int .i64 σ.sd) (.int .i64 σ.wa) (.int .i64 σ.sh) (.slice (some ⟨g, 0, none⟩) σ.L.length c) (.int .i64 0) (.int .i64 a2)
      have HZB := HBd.out.retB (.int .i64 σ.day) (.int .i64 σ.rc) (.int .i64 σ.sd) (.int .i64 σ.wa) (.int .i64 σ.sh) (.slice (some ⟨g, 0, none⟩) σ.L.length c) (.int .i64 0) (.int .i64 a2)
      have h6 := six HBd.out.r2 (.int .i64 σ.day) (.int .i64 σ.rc) (.int .i64 σ.sd) (.int .i64 σ.wa) (.int .i64 σ.sh) (.slice (some ⟨g, 0, none⟩) σ.L.length c)
      have h2 := two HBd.out.r3 (.int .i64 0) (.int .i64 a2)
      have hA1 : Fr (fun q => q = w.heap.size + 2 ∨ q = w.heap.size + 3) Wd ((((((Wd.setCell ⟨w.heap.size + 2, 0, none⟩ (.int .i64 σ.day)).setCell ⟨w.heap.size + 2, 1, none⟩ (.int .i64 σ.rc)).setCell ⟨w.heap.size + 2, 2, none⟩ (.int .i64 σ.sd)).setCell ⟨w.heap.size + 2, 3, none⟩ (.int .i64 σ.wa)).setCell ⟨w.heap.size + 2, 4, none⟩ (.int .i64 σ.sh)).setCell ⟨w.heap.size + 2, 5, none⟩ (.slice (some ⟨g, 0, none⟩) σ.L.length c)) := h6.2.mono (fun q hq => .inl hq)
      have hB1 : Fr (fun q => q = w.heap.size + 2 ∨ q = w.heap.size + 3) Wd ((Wd.setCell ⟨w.heap.size + 3, 0, none⟩ (.int .i64 0)).setCell ⟨w.heap.size + 3, 1, none⟩ (.int .i64 a2)) := h2.2.mono (fun q hq => .inr hq)
      have hA2 : ((((((Wd.setCell ⟨w.heap.size + 2, 0, none⟩ (.int .i64 σ.day)).setCell ⟨w.heap.size + 2, 1, none⟩ (.int .i64 σ.rc)).setCell ⟨w.heap.size + 2, 2, none⟩ (.int .i64 σ.sd)).setCell ⟨w.heap.size + 2, 3, none⟩ (.int .i64 σ.wa)).setCell ⟨w.heap.size + 2, 4, none⟩ (.int .i64 σ.sh)).setCell ⟨w.heap.size + 2, 5, none⟩ (.slice (some ⟨g, 0, none⟩) σ.L.length c)).heap[w.heap.size + 3]? = some (.cells #[.int .i64 0, .int .i64 0] 36 (0, 0)) := (h6.2.block _ (blkLt HBd.out.r3) (by omega)).trans HBd.out.r3
      have hB2 : ((Wd.setCell ⟨w.heap.size + 3, 0, none⟩ (.int .i64 0)).setCell ⟨w.heap.size + 3, 1, none⟩ (.int .i64 a2)).heap[w.heap.size + 2]? = some (.cells #[.int .i64 0, .int .i64 0, .int .i64 0, .int .i64 0, .int .i64 0, .slice none 0 0] 29 (0, 0)) := (h2.2.block _ (blkLt HBd.out.r2) (by omega)).trans HBd.out.r2
      have hA3 : Fr (fun q => q = w.heap.size + 2 ∨ q = w.heap.size + 3) Wd ((((((((Wd.setCell ⟨w.heap.size + 2, 0, none⟩ (.int .i64 σ.day)).setCell ⟨w.heap.size + 2, 1, none⟩ (.int .i64 σ.rc)).setCell ⟨w.heap.size + 2, 2, none⟩ (.int .i64 σ.sd)).setCell ⟨w.heap.size + 2, 3, none⟩ (.int .i64 σ.wa)).setCell ⟨w.heap.size + 2, 4, none⟩ (.int .i64 σ.sh)).setCell ⟨w.heap.size + 2, 5, none⟩ (.slice (some ⟨g, 0, none⟩) σ.L.length c)).setCell ⟨w.heap.size + 3, 0, none⟩ (.int .i64 0)).setCell ⟨w.heap.size + 3, 1, none⟩ (.int .i64 a2)) := hA1.trans ((two hA2 (.int .i64 0) (.int .i64 a2)).2.mono (fun q hq => .inr hq))
      have hB3 : Fr (fun q => q = w.heap.size + 2 ∨ q = w.heap.size + 3) Wd ((((((((Wd.setCell ⟨w.heap.size + 3, 0, none⟩ (.int .i64 0)).setCell ⟨w.heap.size + 3, 1, none⟩ (.int .i64 a2)).setCell ⟨w.heap.size + 2, 0, none⟩ (.int .i64 σ.day)).setCell ⟨w.heap.size + 2, 1, none⟩ (.int .i64 σ.rc)).setCell ⟨w.heap.size + 2, 2, none⟩ (.int .i64 σ.sd)).setCell ⟨w.heap.size + 2, 3, none⟩ (.int .i64 σ.wa)).setCell ⟨w.heap.size + 2, 4, none⟩ (.int .i64 σ.sh)).setCell ⟨w.heap.size + 2, 5, none⟩ (.slice (some ⟨g, 0, none⟩) σ.L.length c)) := hB1.trans ((six hB2 (.int .i64 σ.day) (.int .i64 σ.rc) (.int .i64 σ.sd) (.int .i64 σ.wa) (.int .i64 σ.sh) (.slice (some ⟨g, 0, none⟩) σ.L.length c)).2.mono (fun q hq => .inl hq))
      clear h6 h2 HQd
      clear HZB hB1 hB2 hB3
      refine wpAnyH_ready (rs := [4]) (by kernel_rfl) (by simp) ?_
      refine AllReadyH.cons rfl (fun K hK => ?_) AllReadyH.nil
      have r0 := blkCell HBd.out.r2 0 _ rfl
      have r1 := blkCell HBd.out.r2 1 _ rfl
      have r2 := blkCell HBd.out.r2 2 _ rfl
      have r3 := blkCell HBd.out.r2 3 _ rfl
      have r4 := blkCell HBd.out.r2 4 _ rfl
      have r5 := blkCell HBd.out.r2 5 _ rfl
      have g0 := blkFree HBd.out.r2 0
      have gg1 := blkFree HBd.out.r2 1
      have g2 := blkFree HBd.out.r2 2
      have g3 := blkFree HBd.out.r2 3
      have g4 := blkFree HBd.out.r2 4
      have g5 := blkFree HBd.out.r2 5
      go_simp
      refine hK.out _ _ hA1 (fun _ => ?_)
      clear hK K
      try simp only [Act.put, List.setIfInBounds_toArray, List.set_cons_zero, List.set_cons_succ, List.getElem_toArray, List.getElem_cons_succ, List.getElem_cons_zero]
      clear r0 r1 r2 r3 r4 r5 g0 gg1 g2 g3 g4 g5
      have y0 := blkCell hA2 0 _ rfl
      have y1 := blkCell hA2 1 _ rfl
      have z0 := blkFree hA2 0
      have z1 := blkFree hA2 1
      refine wpAnyH_ready (rs := [5]) (by kernel_rfl) (by simp) ?_
      refine AllReadyH.cons rfl (fun K hK => ?_) AllReadyH.nil
      go_simp
      refine hK.out _ _ hA3 (fun _ => ?_)
      clear hK K
      try simp only [Act.put, List.setIfInBounds_toArray, List.set_cons_zero, List.set_cons_succ, List.getElem_toArray, List.getElem_cons_succ, List.getElem_cons_zero]
      refine wpAnyH_done (by kernel_rfl) ?_ _
      clear y0 y1 z0 z1 hA1 hA2 hA3 hH
      obtain ⟨k1, k2, k3⟩ := HZA
      generalize ((((((((Wd.setCell ⟨w.heap.size + 2, 0, none⟩ (.int .i64 σ.day)).setCell ⟨w.heap.size + 2, 1, none⟩ (.int .i64 σ.rc)).setCell ⟨w.heap.size + 2, 2, none⟩ (.int .i64 σ.sd)).setCell ⟨w.heap.size + 2, 3, none⟩ (.int .i64 σ.wa)).setCell ⟨w.heap.size + 2, 4, none⟩ (.int .i64 σ.sh)).setCell ⟨w.heap.size + 2, 5, none⟩ (.slice (some ⟨g, 0, none⟩) σ.L.length c)).setCell ⟨w.heap.size + 3, 0, none⟩ (.int .i64 0)).setCell ⟨w.heap.size + 3, 1, none⟩ (.int .i64 a2)) = W9 at *
      go_wp2
      have p0 := blkCell k2 0 _ rfl
      have p1 := blkCell k2 1 _ rfl
      have p2 := blkCell k2 2 _ rfl
      have p3 := blkCell k2 3 _ rfl
      have p4 := blkCell k2 4 _ rfl
      have p5 := blkCell k2 5 _ rfl
      have o0 := blkCell k3 0 _ rfl
      have o1 := blkCell k3 1 _ rfl
      refine bodyPost_ret (v := .tuple #[.agg #[.int .i64 σ.day, .int .i64 σ.rc, .int .i64 σ.sd, .int .i64 σ.wa, .int .i64 σ.sh, .slice (some ⟨g, 0, none⟩) σ.L.length c], .agg #[.int .i64 0, .int .i64 a2]]) (by simp [results, Try.results47, go_sem, p0, p1, p2, p3, p4, p5, o0, o1]) rfl ?_
      exact ⟨some ⟨g, 0, none⟩, c, by show _ = Ending.returned (.tuple #[.agg #[.int .i64 σ.day, .int .i64 σ.rc, .int .i64 σ.sd, .int .i64 σ.wa, .int .i64 σ.sh, .slice (some ⟨g, 0, none⟩) (σ.L.set i _).length c], .agg #[.int .i64 0, .int .i64 a2]]); rw [List.length_set], by dsimp only; rw [List.length_set]; exact k1⟩
  · cases a4 with
    | false =>
      obtain ⟨E1, E2, E3⟩ : lotE σ 5 nu i = 12 ∧ lotN σ 5 nu i = 0 ∧ lotS σ 5 nu i = σ := by
        have q1 : lotE σ 5 nu i = 12 := by unfold lotE; rw [HIr.out]; simp
        exact ⟨q1, by unfold lotN; rw [q1]; simp, by unfold lotS; rw [q1]; simp⟩
      rw [E1, E2, E3]
      clear E1 E2 E3
      have b0 := blkCell HB.out.s 0 _ rfl
      have b1 := blkCell HB.out.s 1 _ rfl
      have b2 := blkCell HB.out.s 2 _ rfl
      have b3 := blkCell HB.out.s 3 _ rfl
      have b4 := blkCell HB.out.s 4 _ rfl
      have b5 := blkCell HB.out.s 5 _ rfl
      have r0 := blkCell HB.out.r2 0 _ rfl
      have r1 := blkCell HB.out.r2 1 _ rfl
      have r2 := blkCell HB.out.r2 2 _ rfl
      have r3 := blkCell HB.out.r2 3 _ rfl
      have r4 := blkCell HB.out.r2 4 _ rfl
      have r5 := blkCell HB.out.r2 5 _ rfl
      have gg0 := blkFree HB.out.r2 0
      have gg1 := blkFree HB.out.r2 1
      have gg2 := blkFree HB.out.r2 2
      have gg3 := blkFree HB.out.r2 3
      have gg4 := blkFree HB.out.r2 4
      have gg5 := blkFree HB.out.r2 5
      have hmid : ((((((W5.setCell ⟨w.heap.size + 2, 0, none⟩ (.int .i64 σ.day)).setCell ⟨w.heap.size + 2, 1, none⟩ (.int .i64 σ.rc)).setCell ⟨w.heap.size + 2, 2, none⟩ (.int .i64 σ.sd)).setCell ⟨w.heap.size + 2, 3, none⟩ (.int .i64 σ.wa)).setCell ⟨w.heap.size + 2, 4, none⟩ (.int .i64 σ.sh)).setCell ⟨w.heap.size + 2, 5, none⟩ (.slice (some ⟨g, 0, none⟩) σ.L.length c)).heap[w.heap.size + 3]? = some (.cells #[.int .i64 0, .int .i64 0] 36 (0, 0)) := ((six HB.out.r2 (.int .i64 σ.day) (.int .i64 σ.rc) (.int .i64 σ.sd) (.int .i64 σ.wa) (.int .i64 σ.sh) (.slice (some ⟨g, 0, none⟩) σ.L.length c)).2.block _ (blkLt HB.out.r3) (by omega)).trans HB.out.r3
      have y0 := blkCell hmid 0 _ rfl
      have y1 := blkCell hmid 1 _ rfl
      have z0 := blkFree hmid 0
      have z1 := blkFree hmid 1
      have HZ := HB.out.retA (.int .i64 σ.day) (.int .i64 σ.rc) (.int .i64 σ.sd) (.int .i64 σ.wa) (.int .i64 σ.sh) (.slice (some ⟨g, 0, none⟩) σ.L.length c) (.int .i64 12) (.int .i64 0)
      clear hmid
      go_enter Try.func47, Try.ntmps47
      go_upto_region 2 with fail
      rw [← hW4, ← hW5]
      clear hW4 hW5 s5 q0 q1 q2 q3 q4
      go_wp2
      obtain ⟨k1, k2, k3⟩ := HZ
      generalize ((((((((W5.setCell ⟨w.heap.size + 2, 0, none⟩ (.int .i64 σ.day)).setCell ⟨w.heap.size + 2, 1, none⟩ (.int .i64 σ.rc)).setCell ⟨w.heap.size + 2, 2, none⟩ (.int .i64 σ.sd)).setCell ⟨w.heap.size + 2, 3, none⟩ (.int .i64 σ.wa)).setCell ⟨w.heap.size + 2, 4, none⟩ (.int .i64 σ.sh)).setCell ⟨w.heap.size + 2, 5, none⟩ (.slice (some ⟨g, 0, none⟩) σ.L.length c)).setCell ⟨w.heap.size + 3, 0, none⟩ (.int .i64 12)).setCell ⟨w.heap.size + 3, 1, none⟩ (.int .i64 0)) = W9 at *
      have p0 := blkCell k2 0 _ rfl
      have p1 := blkCell k2 1 _ rfl
      have p2 := blkCell k2 2 _ rfl
      have p3 := blkCell k2 3 _ rfl
      have p4 := blkCell k2 4 _ rfl
      have p5 := blkCell k2 5 _ rfl
      have o0 := blkCell k3 0 _ rfl
      have o1 := blkCell k3 1 _ rfl
      refine bodyPost_ret (v := .tuple #[.agg #[.int .i64 σ.day, .int .i64 σ.rc, .int .i64 σ.sd, .int .i64 σ.wa, .int .i64 σ.sh, .slice (some ⟨g, 0, none⟩) σ.L.length c], .agg #[.int .i64 12, .int .i64 0]]) (by simp [results, Try.results47, go_sem, p0, p1, p2, p3, p4, p5, o0, o1]) rfl ?_
      exact ⟨some ⟨g, 0, none⟩, c, rfl, k1⟩
    | true =>
      obtain ⟨E1, E2, E3⟩ : lotE σ 5 nu i = 0 ∧ lotN σ 5 nu i = a2 ∧ lotS σ 5 nu i = { σ with L := σ.L.set i { gl σ.L i with hd := false } } := by
        have q1 : lotE σ 5 nu i = 0 := by unfold lotE; rw [HIr.out]; simp
        exact ⟨q1, by unfold lotN; rw [q1, HIr.out]; simp, by unfold lotS; rw [q1]; simp⟩
      rw [E1, E2, E3]
      clear E1 E2 E3
      have HBe0 : Hid (Bx B (.slice (some ⟨g, 0, none⟩) σ.L.length c) w { σ with L := σ.L.set i { gl σ.L i with hd := false } } (.slice (some ⟨g, 0, none⟩) σ.L.length c) 5 ar lt nu un (W5.setCell ⟨g, i * 5 + 4, none⟩ (.bool false))) := HB.out.put rfl (by omega) (by rw [List.length_set]) (slCells_setHd σ.L i hi false)
      have HLe0 : Hid ((W5.setCell ⟨g, i * 5 + 4, none⟩ (.bool false)).heap[w.heap.size + 4]? = some (.cells #[.string a0, .int .i64 a1, .int .i64 a2, .int .i64 a3, .bool true] 38 (0, 0))) := (Below.heap_setCell _ _ _ _ (by show w.heap.size + 4 ≠ g; omega)).trans HLb.out
      go_enter Try.func47, Try.ntmps47
      go_upto_region 2 with fail
      rw [← hW4, ← hW5]
      clear hW4 hW5 s5 q0 q1 q2 q3 q4
      go_wp2_with fail
      clear l2 l4 x0 x3 s5b s3 s4 f3 f4 c2 c4 e2 e4 HB HLb
      obtain ⟨We, hWe⟩ : ∃ We, We = W5.setCell ⟨g, i * 5 + 4, none⟩ (.bool false) := ⟨_, rfl⟩
      have HBe : Hid (Bx B (.slice (some ⟨g, 0, none⟩) σ.L.length c) w { σ with L := σ.L.set i { gl σ.L i with hd := false } } (.slice (some ⟨g, 0, none⟩) σ.L.length c) 5 ar lt nu un We) := by rw [hWe]; exact HBe0.out
      have HLe : Hid (We.heap[w.heap.size + 4]? = some (.cells #[.string a0, .int .i64 a1, .int .i64 a2, .int .i64 a3, .bool true] 38 (0, 0))) := by rw [hWe]; exact HLe0.out
      rw [← hWe]
      clear hWe HBe0 HLe0
      have HLd : Hid (We.drew.heap[w.heap.size + 4]? = some (.cells #[.string a0, .int .i64 a1, .int .i64 a2, .int .i64 a3, .bool true] 38 (0, 0))) := HLe.out
      have HBd : Hid (Bx B (.slice (some ⟨g, 0, none⟩) σ.L.length c) w { σ with L := σ.L.set i { gl σ.L i with hd := false } } (.slice (some ⟨g, 0, none⟩) σ.L.length c) 5 ar lt nu un We.drew) := HBe.out.later (below_drew _)
      have HQd : Hid (∀ W', Fr (fun q => q = w.heap.size + 2 ∨ q = w.heap.size + 3) We.drew W' → W'.heap[w.heap.size]? = some (.cells #[.int .i64 σ.day, .int .i64 σ.rc, .int .i64 σ.sd, .int .i64 σ.wa, .int .i64 σ.sh, .slice (some ⟨g, 0, none⟩) σ.L.length c] 29 (0, 0)) ∧ W'.heap[w.heap.size + 1]? = some (.cells #[.int .i64 5, .string ar, .int .i64 lt, .int .i64 nu, .int .i64 un] 34 (0, 0)) ∧ W'.heap[w.heap.size + 4]? = some (.cells #[.string a0, .int .i64 a1, .int .i64 a2, .int .i64 a3, .bool true] 38 (0, 0))) := fun W' hW' => ⟨(hW'.block _ (blkLt HBd.out.s) (by omega)).trans HBd.out.s, (hW'.block _ (blkLt HBd.out.x) (by omega)).trans HBd.out.x, (hW'.block _ (blkLt HLd.out) (by omega)).trans HLd.out⟩
      refine wp_region_held_drew (S := fun W' => Fr (fun q => q = w.heap.size + 2 ∨ q = w.heap.size + 3) We.drew W') (by kernel_rfl) (Fr.refl _ _) (fun hH => ?_)
      generalize We.drew = Wd at *
      refine wpAnyH_take (i := 0) (v := .agg #[.int .i64 σ.day, .int .i64 σ.rc, .int .i64 σ.sd, .int .i64 σ.wa, .int .i64 σ.sh, .slice (some ⟨g, 0, none⟩) σ.L.length c]) rfl (by kernel_rfl) (by kernel_rfl) (by kernel_rfl) (fun _ _ _ h => h) (Or.inl ⟨by rfl, fun w hSw => by have f0 := blkCell (HQd.out w hSw).1 0 _ rfl; have f1 := blkCell (HQd.out w hSw).1 1 _ rfl; have f2 := blkCell (HQd.out w hSw).1 2 _ rfl; have f3 := blkCell (HQd.out w hSw).1 3 _ rfl; have f4 := blkCell (HQd.out w hSw).1 4 _ rfl; have f5 := blkCell (HQd.out w hSw).1 5 _ rfl; go_simp⟩) hH ?_
      refine wpAnyH_take (i := 1) (v := .pointer (some ⟨w.heap.size + 4, 2, none⟩)) rfl (by kernel_rfl) (by kernel_rfl) (by kernel_rfl) (fun _ _ _ h => h) (Or.inl ⟨by rfl, fun w hSw => by go_simp⟩) hH ?_
      try simp only [Act.put, List.setIfInBounds_toArray, List.set_cons_zero, List.set_cons_succ, List.getElem_toArray, List.getElem_cons_succ, List.getElem_cons_zero]
      refine wpAnyH_take (i := 2) (v := .int .i64 a2) rfl (by kernel_rfl) (by kernel_rfl) (by kernel_rfl) (fun _ _ _ h => h) (Or.inl ⟨by rfl, fun w hSw => by have f0 := blkCell (HQd.out w hSw).2.2 2 _ rfl; go_simp⟩) hH ?_
      try simp only [Act.put, List.setIfInBounds_toArray, List.set_cons_zero, List.set_cons_succ, List.getElem_toArray, List.getElem_cons_succ, List.getElem_cons_zero]
      refine wpAnyH_take (i := 3) (v := .agg #[.int .i64 0, .int .i64 a2]) rfl (by kernel_rfl) (by kernel_rfl) (by kernel_rfl) (fun _ _ _ h => h) (Or.inl ⟨by rfl, fun w hSw => by go_simp⟩) hH ?_
      try simp only [Act.put, List.setIfInBounds_toArray, List.set_cons_zero, List.set_cons_succ, List.getElem_toArray, List.getElem_cons_succ, List.getElem_cons_zero]
      have HZA := HBd.out.retA (.int .i64 σ.day) (.int .i64 σ.rc) (.int .i64 σ.sd) (.int .i64 σ.wa) (.int .i64 σ.sh) (.slice (some ⟨g, 0, none⟩) σ.L.length c) (.int .i64 0) (.int .i64 a2)
      have HZB := HBd.out.retB (.int .i64 σ.day) (.int .i64 σ.rc) (.int .i64 σ.sd) (.int .i64 σ.wa) (.int .i64 σ.sh) (.slice (some ⟨g, 0, none⟩) σ.L.length c) (.int .i64 0) (.int .i64 a2)
      have h6 := six HBd.out.r2 (.int .i64 σ.day) (.int .i64 σ.rc) (.int .i64 σ.sd) (.int .i64 σ.wa) (.int .i64 σ.sh) (.slice (some ⟨g, 0, none⟩) σ.L.length c)
      have h2 := two HBd.out.r3 (.int .i64 0) (.int .i64 a2)
      have hA1 : Fr (fun q => q = w.heap.size + 2 ∨ q = w.heap.size + 3) Wd ((((((Wd.setCell ⟨w.heap.size + 2, 0, none⟩ (.int .i64 σ.day)).setCell ⟨w.heap.size + 2, 1, none⟩ (.int .i64 σ.rc)).setCell ⟨w.heap.size + 2, 2, none⟩ (.int .i64 σ.sd)).setCell ⟨w.heap.size + 2, 3, none⟩ (.int .i64 σ.wa)).setCell ⟨w.heap.size + 2, 4, none⟩ (.int .i64 σ.sh)).setCell ⟨w.heap.size + 2, 5, none⟩ (.slice (some ⟨g, 0, none⟩) σ.L.length c)) := h6.2.mono (fun q hq => .inl hq)
      have hB1 : Fr (fun q => q = w.heap.size + 2 ∨ q = w.heap.size + 3) Wd ((Wd.setCell ⟨w.heap.size + 3, 0, none⟩ (.int .i64 0)).setCell ⟨w.heap.size + 3, 1, none⟩ (.int .i64 a2)) := h2.2.mono (fun q hq => .inr hq)
      have hA2 : ((((((Wd.setCell ⟨w.heap.size + 2, 0, none⟩ (.int .i64 σ.day)).setCell ⟨w.heap.size + 2, 1, none⟩ (.int .i64 σ.rc)).setCell ⟨w.heap.size + 2, 2, none⟩ (.int .i64 σ.sd)).setCell ⟨w.heap.size + 2, 3, none⟩ (.int .i64 σ.wa)).setCell ⟨w.heap.size + 2, 4, none⟩ (.int .i64 σ.sh)).setCell ⟨w.heap.size + 2, 5, none⟩ (.slice (some ⟨g, 0, none⟩) σ.L.length c)).heap[w.heap.size + 3]? = some (.cells #[.int .i64 0, .int .i64 0] 36 (0, 0)) := (h6.2.block _ (blkLt HBd.out.r3) (by omega)).trans HBd.out.r3
      have hB2 : ((Wd.setCell ⟨w.heap.size + 3, 0, none⟩ (.int .i64 0)).setCell ⟨w.heap.size + 3, 1, none⟩ (.int .i64 a2)).heap[w.heap.size + 2]? = some (.cells #[.int .i64 0, .int .i64 0, .int .i64 0, .int .i64 0, .int .i64 0, .slice none 0 0] 29 (0, 0)) := (h2.2.block _ (blkLt HBd.out.r2) (by omega)).trans HBd.out.r2
      have hA3 : Fr (fun q => q = w.heap.size + 2 ∨ q = w.heap.size + 3) Wd ((((((((Wd.setCell ⟨w.heap.size + 2, 0, none⟩ (.int .i64 σ.day)).setCell ⟨w.heap.size + 2, 1, none⟩ (.int .i64 σ.rc)).setCell ⟨w.heap.size + 2, 2, none⟩ (.int .i64 σ.sd)).setCell ⟨w.heap.size + 2, 3, none⟩ (.int .i64 σ.wa)).setCell ⟨w.heap.size + 2, 4, none⟩ (.int .i64 σ.sh)).setCell ⟨w.heap.size + 2, 5, none⟩ (.slice (some ⟨g, 0, none⟩) σ.L.length c)).setCell ⟨w.heap.size + 3, 0, none⟩ (.int .i64 0)).setCell ⟨w.heap.size + 3, 1, none⟩ (.int .i64 a2)) := hA1.trans ((two hA2 (.int .i64 0) (.int .i64 a2)).2.mono (fun q hq => .inr hq))
      have hB3 : Fr (fun q => q = w.heap.size + 2 ∨ q = w.heap.size + 3) Wd ((((((((Wd.setCell ⟨w.heap.size + 3, 0, none⟩ (.int .i64 0)).setCell ⟨w.heap.size + 3, 1, none⟩ (.int .i64 a2)).setCell ⟨w.heap.size + 2, 0, none⟩ (.int .i64 σ.day)).setCell ⟨w.heap.size + 2, 1, none⟩ (.int .i64 σ.rc)).setCell ⟨w.heap.size + 2, 2, none⟩ (.int .i64 σ.sd)).setCell ⟨w.heap.size + 2, 3, none⟩ (.int .i64 σ.wa)).setCell ⟨w.heap.size + 2, 4, none⟩ (.int .i64 σ.sh)).setCell ⟨w.heap.size + 2, 5, none⟩ (.slice (some ⟨g, 0, none⟩) σ.L.length c)) := hB1.trans ((six hB2 (.int .i64 σ.day) (.int .i64 σ.rc) (.int .i64 σ.sd) (.int .i64 σ.wa) (.int .i64 σ.sh) (.slice (some ⟨g, 0, none⟩) σ.L.length c)).2.mono (fun q hq => .inl hq))
      clear h6 h2 HQd
      clear HZB hB1 hB2 hB3
      refine wpAnyH_ready (rs := [4]) (by kernel_rfl) (by simp) ?_
      refine AllReadyH.cons rfl (fun K hK => ?_) AllReadyH.nil
      have r0 := blkCell HBd.out.r2 0 _ rfl
      have r1 := blkCell HBd.out.r2 1 _ rfl
      have r2 := blkCell HBd.out.r2 2 _ rfl
      have r3 := blkCell HBd.out.r2 3 _ rfl
      have r4 := blkCell HBd.out.r2 4 _ rfl
      have r5 := blkCell HBd.out.r2 5 _ rfl
      have g0 := blkFree HBd.out.r2 0
      have gg1 := blkFree HBd.out.r2 1
      have g2 := blkFree HBd.out.r2 2
      have g3 := blkFree HBd.out.r2 3
      have g4 := blkFree HBd.out.r2 4
      have g5 := blkFree HBd.out.r2 5
      go_simp
      refine hK.out _ _ hA1 (fun _ => ?_)
      clear hK K
      try simp only [Act.put, List.setIfInBounds_toArray, List.set_cons_zero, List.set_cons_succ, List.getElem_toArray, List.getElem_cons_succ, List.getElem_cons_zero]
      clear r0 r1 r2 r3 r4 r5 g0 gg1 g2 g3 g4 g5
      have y0 := blkCell hA2 0 _ rfl
      have y1 := blkCell hA2 1 _ rfl
      have z0 := blkFree hA2 0
      have z1 := blkFree hA2 1
      refine wpAnyH_ready (rs := [5]) (by kernel_rfl) (by simp) ?_
      refine AllReadyH.cons rfl (fun K hK => ?_) AllReadyH.nil
      go_simp
      refine hK.out _ _ hA3 (fun _ => ?_)
      clear hK K
      try simp only [Act.put, List.setIfInBounds_toArray, List.set_cons_zero, List.set_cons_succ, List.getElem_toArray, List.getElem_cons_succ, List.getElem_cons_zero]
      refine wpAnyH_done (by kernel_rfl) ?_ _
      clear y0 y1 z0 z1 hA1 hA2 hA3 hH
      obtain ⟨k1, k2, k3⟩ := HZA
      generalize ((((((((Wd.setCell ⟨w.heap.size + 2, 0, none⟩ (.int .i64 σ.day)).setCell ⟨w.heap.size + 2, 1, none⟩ (.int .i64 σ.rc)).setCell ⟨w.heap.size + 2, 2, none⟩ (.int .i64 σ.sd)).setCell ⟨w.heap.size + 2, 3, none⟩ (.int .i64 σ.wa)).setCell ⟨w.heap.size + 2, 4, none⟩ (.int .i64 σ.sh)).setCell ⟨w.heap.size + 2, 5, none⟩ (.slice (some ⟨g, 0, none⟩) σ.L.length c)).setCell ⟨w.heap.size + 3, 0, none⟩ (.int .i64 0)).setCell ⟨w.heap.size + 3, 1, none⟩ (.int .i64 a2)) = W9 at *
      go_wp2
      have p0 := blkCell k2 0 _ rfl
      have p1 := blkCell k2 1 _ rfl
      have p2 := blkCell k2 2 _ rfl
      have p3 := blkCell k2 3 _ rfl
      have p4 := blkCell k2 4 _ rfl
      have p5 := blkCell k2 5 _ rfl
      have o0 := blkCell k3 0 _ rfl
      have o1 := blkCell k3 1 _ rfl
      refine bodyPost_ret (v := .tuple #[.agg #[.int .i64 σ.day, .int .i64 σ.rc, .int .i64 σ.sd, .int .i64 σ.wa, .int .i64 σ.sh, .slice (some ⟨g, 0, none⟩) σ.L.length c], .agg #[.int .i64 0, .int .i64 a2]]) (by simp [results, Try.results47, go_sem, p0, p1, p2, p3, p4, p5, o0, o1]) rfl ?_
      exact ⟨some ⟨g, 0, none⟩, c, by show _ = Ending.returned (.tuple #[.agg #[.int .i64 σ.day, .int .i64 σ.rc, .int .i64 σ.sd, .int .i64 σ.wa, .int .i64 σ.sh, .slice (some ⟨g, 0, none⟩) (σ.L.set i _).length c], .agg #[.int .i64 0, .int .i64 a2]]); rw [List.length_set], by dsimp only; rw [List.length_set]; exact k1⟩
  · obtain ⟨E1, E2, E3⟩ : lotE σ 6 nu i = 0 ∧ lotN σ 6 nu i = a2 ∧ lotS σ 6 nu i = { σ with L := σ.L.take i ++ σ.L.drop (i + 1), wa := σ.wa + a2 } := by
      have q1 : lotE σ 6 nu i = 0 := by unfold lotE; simp
      exact ⟨q1, by unfold lotN; rw [q1, HIr.out]; simp, by unfold lotS; rw [q1, HIr.out]; simp [lv]⟩
    rw [E1, E2, E3]
    clear E1 E2 E3
    have hws : IntKind.i64.wrap (σ.wa + a2) = σ.wa + a2 := wrap_id _ (by omega) (by omega)
    obtain ⟨W6, hW6⟩ : ∃ W6, W6 = W5.setCell ⟨w.heap.size, 3, none⟩ (.int .i64 (σ.wa + a2)) := ⟨_, rfl⟩
    have HB6 : Hid (Bx B (.slice (some ⟨g, 0, none⟩) σ.L.length c) w { σ with wa := σ.wa + a2 } (.slice (some ⟨g, 0, none⟩) σ.L.length c) 6 ar lt nu un W6) := by rw [hW6]; exact HB.out.setWa (σ.wa + a2)
    have HL6 : Hid (W6.heap[w.heap.size + 4]? = some (.cells #[.string a0, .int .i64 a1, .int .i64 a2, .int .i64 a3, .bool a4] 38 (0, 0))) := by rw [hW6]; exact (Below.heap_setCell _ _ _ _ (by show w.heap.size + 4 ≠ w.heap.size; omega)).trans HLb.out
    have t5 := blkCell HB6.out.s 5 _ rfl
    rw [hW6] at t5
    have HDr := sDrop_any (B := B) (g := g) (c := c) σ.L (by omega) hi W6 HB6.out.st.row
    go_enter Try.func47, Try.ntmps47
    go_upto_region 2 with fail
    rw [← hW4, ← hW5]
    clear hW4 hW5 s5 q0 q1 q2 q3 q4
    go_wp2_with fail
    (first | go_at_call 61 | skip)
    rw [← hW6]
    clear l2 l4 x0 x3 s5b s3 s4 f3 f4 c2 c4 e2 e4 t5 hW6 HB HLb
    refine HDr.mono ?_
    rintro e w7 ⟨va, vc, rfl, hrow7, hb7⟩
    have hsz7 : B ≤ W6.heap.size := Nat.le_trans hB HB6.out.st.fr.size
    have htn := HB6.out.turn (L2 := σ.L.take i ++ σ.L.drop (i + 1)) (lv2 := .slice va (σ.L.length - 1) vc) (by rw [cut_len hi]; exact row_low hrow7 hsz7) (Fr.of hb7) (fun q hq => .inr (row_lt hrow7 q hq).1)
    have y5 := htn.2.1
    have y6 := htn.2.2
    obtain ⟨We, hWe⟩ : ∃ We, We = w7.setCell ⟨w.heap.size, 5, none⟩ (.slice va (σ.L.length - 1) vc) := ⟨_, rfl⟩
    have HBe : Hid (Bx B (.slice (some ⟨g, 0, none⟩) σ.L.length c) w { σ with L := σ.L.take i ++ σ.L.drop (i + 1), wa := σ.wa + a2 } (.slice va (σ.L.length - 1) vc) 6 ar lt nu un We) := by rw [hWe]; exact htn.1
    have HLe : Hid (We.heap[w.heap.size + 4]? = some (.cells #[.string a0, .int .i64 a1, .int .i64 a2, .int .i64 a3, .bool a4] 38 (0, 0))) := by rw [hWe]; exact ((Below.heap_setCell _ _ _ _ (by show w.heap.size + 4 ≠ w.heap.size; omega)).trans (hb7.block _ (blkLt HL6.out))).trans HL6.out
    clear htn hrow7 hb7 HDr HB6 HL6
    go_wp2_with fail
    rw [← hWe]
    clear hWe y5 y6
    have HLd : Hid (We.drew.heap[w.heap.size + 4]? = some (.cells #[.string a0, .int .i64 a1, .int .i64 a2, .int .i64 a3, .bool a4] 38 (0, 0))) := HLe.out
    have HBd : Hid (Bx B (.slice (some ⟨g, 0, none⟩) σ.L.length c) w { σ with L := σ.L.take i ++ σ.L.drop (i + 1), wa := σ.wa + a2 } (.slice va (σ.L.length - 1) vc) 6 ar lt nu un We.drew) := HBe.out.later (below_drew _)
    have HQd : Hid (∀ W', Fr (fun q => q = w.heap.size + 2 ∨ q = w.heap.size + 3) We.drew W' → W'.heap[w.heap.size]? = some (.cells #[.int .i64 σ.day, .int .i64 σ.rc, .int .i64 σ.sd, .int .i64 (σ.wa + a2), .int .i64 σ.sh, .slice va (σ.L.length - 1) vc] 29 (0, 0)) ∧ W'.heap[w.heap.size + 1]? = some (.cells #[.int .i64 6, .string ar, .int .i64 lt, .int .i64 nu, .int .i64 un] 34 (0, 0)) ∧ W'.heap[w.heap.size + 4]? = some (.cells #[.string a0, .int .i64 a1, .int .i64 a2, .int .i64 a3, .bool a4] 38 (0, 0))) := fun W' hW' => ⟨(hW'.block _ (blkLt HBd.out.s) (by omega)).trans HBd.out.s, (hW'.block _ (blkLt HBd.out.x) (by omega)).trans HBd.out.x, (hW'.block _ (blkLt HLd.out) (by omega)).trans HLd.out⟩
    refine wp_region_held_drew (S := fun W' => Fr (fun q => q = w.heap.size + 2 ∨ q = w.heap.size + 3) We.drew W') (by kernel_rfl) (Fr.refl _ _) (fun hH => ?_)
    generalize We.drew = Wd at *
    refine wpAnyH_take (i := 0) (v := .agg #[.int .i64 σ.day, .int .i64 σ.rc, .int .i64 σ.sd, .int .i64 (σ.wa + a2), .int .i64 σ.sh, .slice va (σ.L.length - 1) vc]) rfl (by kernel_rfl) (by kernel_rfl) (by kernel_rfl) (fun _ _ _ h => h) (Or.inl ⟨by rfl, fun w hSw => by have f0 := blkCell (HQd.out w hSw).1 0 _ rfl; have f1 := blkCell (HQd.out w hSw).1 1 _ rfl; have f2 := blkCell (HQd.out w hSw).1 2 _ rfl; have f3 := blkCell (HQd.out w hSw).1 3 _ rfl; have f4 := blkCell (HQd.out w hSw).1 4 _ rfl; have f5 := blkCell (HQd.out w hSw).1 5 _ rfl; go_simp⟩) hH ?_
    refine wpAnyH_take (i := 1) (v := .pointer (some ⟨w.heap.size + 4, 2, none⟩)) rfl (by kernel_rfl) (by kernel_rfl) (by kernel_rfl) (fun _ _ _ h => h) (Or.inl ⟨by rfl, fun w hSw => by go_simp⟩) hH ?_
    try simp only [Act.put, List.setIfInBounds_toArray, List.set_cons_zero, List.set_cons_succ, List.getElem_toArray, List.getElem_cons_succ, List.getElem_cons_zero]
    refine wpAnyH_take (i := 2) (v := .int .i64 a2) rfl (by kernel_rfl) (by kernel_rfl) (by kernel_rfl) (fun _ _ _ h => h) (Or.inl ⟨by rfl, fun w hSw => by have f0 := blkCell (HQd.out w hSw).2.2 2 _ rfl; go_simp⟩) hH ?_
    try simp only [Act.put, List.setIfInBounds_toArray, List.set_cons_zero, List.set_cons_succ, List.getElem_toArray, List.getElem_cons_succ, List.getElem_cons_zero]
    refine wpAnyH_take (i := 3) (v := .agg #[.int .i64 0, .int .i64 a2]) rfl (by kernel_rfl) (by kernel_rfl) (by kernel_rfl) (fun _ _ _ h => h) (Or.inl ⟨by rfl, fun w hSw => by go_simp⟩) hH ?_
    try simp only [Act.put, List.setIfInBounds_toArray, List.set_cons_zero, List.set_cons_succ, List.getElem_toArray, List.getElem_cons_succ, List.getElem_cons_zero]
    have HZA := HBd.out.retA (.int .i64 σ.day) (.int .i64 σ.rc) (.int .i64 σ.sd) (.int .i64 (σ.wa + a2)) (.int .i64 σ.sh) (.slice va (σ.L.length - 1) vc) (.int .i64 0) (.int .i64 a2)
    have HZB := HBd.out.retB (.int .i64 σ.day) (.int .i64 σ.rc) (.int .i64 σ.sd) (.int .i64 (σ.wa + a2)) (.int .i64 σ.sh) (.slice va (σ.L.length - 1) vc) (.int .i64 0) (.int .i64 a2)
    have h6 := six HBd.out.r2 (.int .i64 σ.day) (.int .i64 σ.rc) (.int .i64 σ.sd) (.int .i64 (σ.wa + a2)) (.int .i64 σ.sh) (.slice va (σ.L.length - 1) vc)
    have h2 := two HBd.out.r3 (.int .i64 0) (.int .i64 a2)
    have hA1 : Fr (fun q => q = w.heap.size + 2 ∨ q = w.heap.size + 3) Wd ((((((Wd.setCell ⟨w.heap.size + 2, 0, none⟩ (.int .i64 σ.day)).setCell ⟨w.heap.size + 2, 1, none⟩ (.int .i64 σ.rc)).setCell ⟨w.heap.size + 2, 2, none⟩ (.int .i64 σ.sd)).setCell ⟨w.heap.size + 2, 3, none⟩ (.int .i64 (σ.wa + a2))).setCell ⟨w.heap.size + 2, 4, none⟩ (.int .i64 σ.sh)).setCell ⟨w.heap.size + 2, 5, none⟩ (.slice va (σ.L.length - 1) vc)) := h6.2.mono (fun q hq => .inl hq)
    have hB1 : Fr (fun q => q = w.heap.size + 2 ∨ q = w.heap.size + 3) Wd ((Wd.setCell ⟨w.heap.size + 3, 0, none⟩ (.int .i64 0)).setCell ⟨w.heap.size + 3, 1, none⟩ (.int .i64 a2)) := h2.2.mono (fun q hq => .inr hq)
    have hA2 : ((((((Wd.setCell ⟨w.heap.size + 2, 0, none⟩ (.int .i64 σ.day)).setCell ⟨w.heap.size + 2, 1, none⟩ (.int .i64 σ.rc)).setCell ⟨w.heap.size + 2, 2, none⟩ (.int .i64 σ.sd)).setCell ⟨w.heap.size + 2, 3, none⟩ (.int .i64 (σ.wa + a2))).setCell ⟨w.heap.size + 2, 4, none⟩ (.int .i64 σ.sh)).setCell ⟨w.heap.size + 2, 5, none⟩ (.slice va (σ.L.length - 1) vc)).heap[w.heap.size + 3]? = some (.cells #[.int .i64 0, .int .i64 0] 36 (0, 0)) := (h6.2.block _ (blkLt HBd.out.r3) (by omega)).trans HBd.out.r3
    have hB2 : ((Wd.setCell ⟨w.heap.size + 3, 0, none⟩ (.int .i64 0)).setCell ⟨w.heap.size + 3, 1, none⟩ (.int .i64 a2)).heap[w.heap.size + 2]? = some (.cells #[.int .i64 0, .int .i64 0, .int .i64 0, .int .i64 0, .int .i64 0, .slice none 0 0] 29 (0, 0)) := (h2.2.block _ (blkLt HBd.out.r2) (by omega)).trans HBd.out.r2
    have hA3 : Fr (fun q => q = w.heap.size + 2 ∨ q = w.heap.size + 3) Wd ((((((((Wd.setCell ⟨w.heap.size + 2, 0, none⟩ (.int .i64 σ.day)).setCell ⟨w.heap.size + 2, 1, none⟩ (.int .i64 σ.rc)).setCell ⟨w.heap.size + 2, 2, none⟩ (.int .i64 σ.sd)).setCell ⟨w.heap.size + 2, 3, none⟩ (.int .i64 (σ.wa + a2))).setCell ⟨w.heap.size + 2, 4, none⟩ (.int .i64 σ.sh)).setCell ⟨w.heap.size + 2, 5, none⟩ (.slice va (σ.L.length - 1) vc)).setCell ⟨w.heap.size + 3, 0, none⟩ (.int .i64 0)).setCell ⟨w.heap.size + 3, 1, none⟩ (.int .i64 a2)) := hA1.trans ((two hA2 (.int .i64 0) (.int .i64 a2)).2.mono (fun q hq => .inr hq))
    have hB3 : Fr (fun q => q = w.heap.size + 2 ∨ q = w.heap.size + 3) Wd ((((((((Wd.setCell ⟨w.heap.size + 3, 0, none⟩ (.int .i64 0)).setCell ⟨w.heap.size + 3, 1, none⟩ (.int .i64 a2)).setCell ⟨w.heap.size + 2, 0, none⟩ (.int .i64 σ.day)).setCell ⟨w.heap.size + 2, 1, none⟩ (.int .i64 σ.rc)).setCell ⟨w.heap.size + 2, 2, none⟩ (.int .i64 σ.sd)).setCell ⟨w.heap.size + 2, 3, none⟩ (.int .i64 (σ.wa + a2))).setCell ⟨w.heap.size + 2, 4, none⟩ (.int .i64 σ.sh)).setCell ⟨w.heap.size + 2, 5, none⟩ (.slice va (σ.L.length - 1) vc)) := hB1.trans ((six hB2 (.int .i64 σ.day) (.int .i64 σ.rc) (.int .i64 σ.sd) (.int .i64 (σ.wa + a2)) (.int .i64 σ.sh) (.slice va (σ.L.length - 1) vc)).2.mono (fun q hq => .inl hq))
    clear h6 h2 HQd
    clear HZB hB1 hB2 hB3
    refine wpAnyH_ready (rs := [4]) (by kernel_rfl) (by simp) ?_
    refine AllReadyH.cons rfl (fun K hK => ?_) AllReadyH.nil
    have r0 := blkCell HBd.out.r2 0 _ rfl
    have r1 := blkCell HBd.out.r2 1 _ rfl
    have r2 := blkCell HBd.out.r2 2 _ rfl
    have r3 := blkCell HBd.out.r2 3 _ rfl
    have r4 := blkCell HBd.out.r2 4 _ rfl
    have r5 := blkCell HBd.out.r2 5 _ rfl
    have g0 := blkFree HBd.out.r2 0
    have gg1 := blkFree HBd.out.r2 1
    have g2 := blkFree HBd.out.r2 2
    have g3 := blkFree HBd.out.r2 3
    have g4 := blkFree HBd.out.r2 4
    have g5 := blkFree HBd.out.r2 5
    go_simp
    refine hK.out _ _ hA1 (fun _ => ?_)
    clear hK K
    try simp only [Act.put, List.setIfInBounds_toArray, List.set_cons_zero, List.set_cons_succ, List.getElem_toArray, List.getElem_cons_succ, List.getElem_cons_zero]
    clear r0 r1 r2 r3 r4 r5 g0 gg1 g2 g3 g4 g5
    have y0 := blkCell hA2 0 _ rfl
    have y1 := blkCell hA2 1 _ rfl
    have z0 := blkFree hA2 0
    have z1 := blkFree hA2 1
    refine wpAnyH_ready (rs := [5]) (by kernel_rfl) (by simp) ?_
    refine AllReadyH.cons rfl (fun K hK => ?_) AllReadyH.nil
    go_simp
    refine hK.out _ _ hA3 (fun _ => ?_)
    clear hK K
    try simp only [Act.put, List.setIfInBounds_toArray, List.set_cons_zero, List.set_cons_succ, List.getElem_toArray, List.getElem_cons_succ, List.getElem_cons_zero]
    refine wpAnyH_done (by kernel_rfl) ?_ _
    clear y0 y1 z0 z1 hA1 hA2 hA3 hH
    obtain ⟨k1, k2, k3⟩ := HZA
    generalize ((((((((Wd.setCell ⟨w.heap.size + 2, 0, none⟩ (.int .i64 σ.day)).setCell ⟨w.heap.size + 2, 1, none⟩ (.int .i64 σ.rc)).setCell ⟨w.heap.size + 2, 2, none⟩ (.int .i64 σ.sd)).setCell ⟨w.heap.size + 2, 3, none⟩ (.int .i64 (σ.wa + a2))).setCell ⟨w.heap.size + 2, 4, none⟩ (.int .i64 σ.sh)).setCell ⟨w.heap.size + 2, 5, none⟩ (.slice va (σ.L.length - 1) vc)).setCell ⟨w.heap.size + 3, 0, none⟩ (.int .i64 0)).setCell ⟨w.heap.size + 3, 1, none⟩ (.int .i64 a2)) = W9 at *
    go_wp2
    have p0 := blkCell k2 0 _ rfl
    have p1 := blkCell k2 1 _ rfl
    have p2 := blkCell k2 2 _ rfl
    have p3 := blkCell k2 3 _ rfl
    have p4 := blkCell k2 4 _ rfl
    have p5 := blkCell k2 5 _ rfl
    have o0 := blkCell k3 0 _ rfl
    have o1 := blkCell k3 1 _ rfl
    refine bodyPost_ret (v := .tuple #[.agg #[.int .i64 σ.day, .int .i64 σ.rc, .int .i64 σ.sd, .int .i64 (σ.wa + a2), .int .i64 σ.sh, .slice va (σ.L.length - 1) vc], .agg #[.int .i64 0, .int .i64 a2]]) (by simp [results, Try.results47, go_sem, p0, p1, p2, p3, p4, p5, o0, o1]) rfl ?_
    exact ⟨va, vc, by show _ = Ending.returned (.tuple #[.agg #[.int .i64 σ.day, .int .i64 σ.rc, .int .i64 σ.sd, .int .i64 (σ.wa + a2), .int .i64 σ.sh, .slice va (σ.L.take i ++ σ.L.drop (i + 1)).length vc], .agg #[.int .i64 0, .int .i64 a2]]); rw [cut_len hi], by dsimp only; rw [cut_len hi]; exact k1⟩
  · have HIn := fun n lo hi w => in_any n lo hi w
    by_cases hin : 0 ≤ nu ∧ nu ≤ a2
    · have hq : inB nu 0 a2 = true := decide_eq_true hin
      have E1 : lotE σ 7 nu i = 0 := by unfold lotE; rw [HIr.out]; simp [hin.1, hin.2]
      have E2 : lotN σ 7 nu i = a2 - nu := by unfold lotN; rw [E1, HIr.out]; simp
      have E3 : lotS σ 7 nu i = { σ with L := lv σ.L i nu, sh := σ.sh + (a2 - nu) } := by unfold lotS; rw [E1, HIr.out]; simp
      rw [E1, E2, E3]
      clear E1 E2 E3
      obtain ⟨hin1, hin2⟩ := hin
      have hwd : IntKind.i64.wrap (a2 - nu) = a2 - nu := wrap_id _ (by omega) (by omega)
      have hws : IntKind.i64.wrap (σ.sh + (a2 - nu)) = σ.sh + (a2 - nu) := wrap_id _ (by omega) (by omega)
      obtain ⟨W6, hW6⟩ : ∃ W6, W6 = W5.setCell ⟨w.heap.size, 4, none⟩ (.int .i64 (σ.sh + (a2 - nu))) := ⟨_, rfl⟩
      have HB6 : Hid (Bx B (.slice (some ⟨g, 0, none⟩) σ.L.length c) w { σ with sh := σ.sh + (a2 - nu) } (.slice (some ⟨g, 0, none⟩) σ.L.length c) 7 ar lt nu un W6) := by rw [hW6]; exact HB.out.setSh (σ.sh + (a2 - nu))
      have HL6 : Hid (W6.heap[w.heap.size + 4]? = some (.cells #[.string a0, .int .i64 a1, .int .i64 a2, .int .i64 a3, .bool a4] 38 (0, 0))) := by rw [hW6]; exact (Below.heap_setCell _ _ _ _ (by show w.heap.size + 4 ≠ w.heap.size; omega)).trans HLb.out
      obtain ⟨W7, hW7⟩ : ∃ W7, W7 = W6.setCell ⟨g, i * 5 + 2, none⟩ (.int .i64 nu) := ⟨_, rfl⟩
      have HB7 : Hid (Bx B (.slice (some ⟨g, 0, none⟩) σ.L.length c) w { σ with L := σ.L.set i { gl σ.L i with nu := nu }, sh := σ.sh + (a2 - nu) } (.slice (some ⟨g, 0, none⟩) σ.L.length c) 7 ar lt nu un W7) := by rw [hW7]; exact HB6.out.put (L2 := σ.L.set i { gl σ.L i with nu := nu }) rfl (by dsimp only; omega) (by rw [List.length_set]) (slCells_setNu σ.L i hi nu)
      have HL7 : Hid (W7.heap[w.heap.size + 4]? = some (.cells #[.string a0, .int .i64 a1, .int .i64 a2, .int .i64 a3, .bool a4] 38 (0, 0))) := by rw [hW7]; exact (Below.heap_setCell _ _ _ _ (by show w.heap.size + 4 ≠ g; omega)).trans HL6.out
      have u5 := blkCell HB6.out.s 5 _ rfl
      have u3 := blkCell HB6.out.x 3 _ rfl
      have uc : W6.cell? ⟨g, i * 5 + 2, none⟩ = some (.int .i64 a2) := by have := (row_sl HB6.out.st.row hi).2.2.1; rw [HIr.out] at this; exact this
      have ue := (rowCellG HB6.out.st.row (i * 5 + 2) (by omega)).2
      have v3 := blkCell HB7.out.x 3 _ rfl
      have v5 := blkCell HB7.out.s 5 _ rfl
      rw [hW6] at u5 u3 uc ue
      rw [hW7, hW6] at v3 v5
      by_cases hz : nu = 0
      · have hzb : (nu == 0) = true := by rw [hz]; rfl
        have hlv : lv σ.L i nu = σ.L.take i ++ σ.L.drop (i + 1) := if_neg (by omega)
        rw [hlv]
        clear hz
        have HEq : Hid ((σ.L.set i { gl σ.L i with nu := nu }).take i ++ (σ.L.set i { gl σ.L i with nu := nu }).drop (i + 1) = σ.L.take i ++ σ.L.drop (i + 1)) := by
          show _ = _
          rw [List.take_set, List.set_eq_of_length_le (by simp; omega), List.drop_set, if_pos (by omega)]
        have HDr := sDrop_any (B := B) (g := g) (c := c) (σ.L.set i { gl σ.L i with nu := nu }) (by rw [List.length_set]; omega) (k := i) (by rw [List.length_set]; exact hi) W7 (by have := HB7.out.st.row; dsimp only at this; rw [List.length_set] at this ⊢; exact this)
        rw [List.length_set, HEq.out] at HDr
        clear hlv HEq
        go_enter Try.func47, Try.ntmps47
        go_upto_region 2 with fail
        rw [← hW4, ← hW5]
        clear hW4 hW5 s5 q0 q1 q2 q3 q4
        go_wp2_with fail
        (first | go_at_call 45 | skip)
        refine (HIn _ _ _ _).mono ?_
        rintro e w1 ⟨rfl, hw1⟩
        rw [hw1]
        clear hw1
        go_wp2_with fail
        (first | go_at_call 61 | skip)
        rw [← hW6, ← hW7]
        clear l2 l4 x0 x3 s5b s3 s4 f3 f4 c2 c4 e2 e4 u5 u3 uc ue v3 v5 hW6 hW7 HB HLb HB6 HL6 HIn w1
        refine HDr.mono ?_
        rintro e w8 ⟨va, vc, rfl, hrow8, hb8⟩
        have hsz8 : B ≤ W7.heap.size := Nat.le_trans hB HB7.out.st.fr.size
        have htn := HB7.out.turn (L2 := σ.L.take i ++ σ.L.drop (i + 1)) (lv2 := .slice va (σ.L.length - 1) vc) (by rw [cut_len hi]; exact row_low hrow8 hsz8) (Fr.of hb8) (fun q hq => .inr (row_lt hrow8 q hq).1)
        have y5 := htn.2.1
        have y6 := htn.2.2
        obtain ⟨We, hWe⟩ : ∃ We, We = w8.setCell ⟨w.heap.size, 5, none⟩ (.slice va (σ.L.length - 1) vc) := ⟨_, rfl⟩
        have HBe : Hid (Bx B (.slice (some ⟨g, 0, none⟩) σ.L.length c) w { σ with L := σ.L.take i ++ σ.L.drop (i + 1), sh := σ.sh + (a2 - nu) } (.slice va (σ.L.length - 1) vc) 7 ar lt nu un We) := by rw [hWe]; exact htn.1
        have HLe : Hid (We.heap[w.heap.size + 4]? = some (.cells #[.string a0, .int .i64 a1, .int .i64 a2, .int .i64 a3, .bool a4] 38 (0, 0))) := by rw [hWe]; exact ((Below.heap_setCell _ _ _ _ (by show w.heap.size + 4 ≠ w.heap.size; omega)).trans (hb8.block _ (blkLt HL7.out))).trans HL7.out
        clear htn hrow8 hb8 HDr HB7 HL7
        go_wp2_with fail
        rw [← hWe]
        clear hWe y5 y6
        have HLd : Hid (We.drew.heap[w.heap.size + 4]? = some (.cells #[.string a0, .int .i64 a1, .int .i64 a2, .int .i64 a3, .bool a4] 38 (0, 0))) := HLe.out
        have HBd : Hid (Bx B (.slice (some ⟨g, 0, none⟩) σ.L.length c) w { σ with L := σ.L.take i ++ σ.L.drop (i + 1), sh := σ.sh + (a2 - nu) } (.slice va (σ.L.length - 1) vc) 7 ar lt nu un We.drew) := HBe.out.later (below_drew _)
        have HQd : Hid (∀ W', Fr (fun q => q = w.heap.size + 2 ∨ q = w.heap.size + 3) We.drew W' → W'.heap[w.heap.size]? = some (.cells #[.int .i64 σ.day, .int .i64 σ.rc, .int .i64 σ.sd, .int .i64 σ.wa, .int .i64 (σ.sh + (a2 - nu)), .slice va (σ.L.length - 1) vc] 29 (0, 0)) ∧ W'.heap[w.heap.size + 1]? = some (.cells #[.int .i64 7, .string ar, .int .i64 lt, .int .i64 nu, .int .i64 un] 34 (0, 0)) ∧ W'.heap[w.heap.size + 4]? = some (.cells #[.string a0, .int .i64 a1, .int .i64 a2, .int .i64 a3, .bool a4] 38 (0, 0))) := fun W' hW' => ⟨(hW'.block _ (blkLt HBd.out.s) (by omega)).trans HBd.out.s, (hW'.block _ (blkLt HBd.out.x) (by omega)).trans HBd.out.x, (hW'.block _ (blkLt HLd.out) (by omega)).trans HLd.out⟩
        refine wp_region_held_drew (S := fun W' => Fr (fun q => q = w.heap.size + 2 ∨ q = w.heap.size + 3) We.drew W') (by kernel_rfl) (Fr.refl _ _) (fun hH => ?_)
        generalize We.drew = Wd at *
        refine wpAnyH_take (i := 0) (v := .agg #[.int .i64 σ.day, .int .i64 σ.rc, .int .i64 σ.sd, .int .i64 σ.wa, .int .i64 (σ.sh + (a2 - nu)), .slice va (σ.L.length - 1) vc]) rfl (by kernel_rfl) (by kernel_rfl) (by kernel_rfl) (fun _ _ _ h => h) (Or.inl ⟨by rfl, fun w hSw => by have f0 := blkCell (HQd.out w hSw).1 0 _ rfl; have f1 := blkCell (HQd.out w hSw).1 1 _ rfl; have f2 := blkCell (HQd.out w hSw).1 2 _ rfl; have f3 := blkCell (HQd.out w hSw).1 3 _ rfl; have f4 := blkCell (HQd.out w hSw).1 4 _ rfl; have f5 := blkCell (HQd.out w hSw).1 5 _ rfl; go_simp⟩) hH ?_
        refine wpAnyH_take (i := 1) (v := .pointer (some ⟨w.heap.size + 4, 2, none⟩)) rfl (by kernel_rfl) (by kernel_rfl) (by kernel_rfl) (fun _ _ _ h => h) (Or.inl ⟨by rfl, fun w hSw => by go_simp⟩) hH ?_
        try simp only [Act.put, List.setIfInBounds_toArray, List.set_cons_zero, List.set_cons_succ, List.getElem_toArray, List.getElem_cons_succ, List.getElem_cons_zero]
        refine wpAnyH_take (i := 2) (v := .int .i64 a2) rfl (by kernel_rfl) (by kernel_rfl) (by kernel_rfl) (fun _ _ _ h => h) (Or.inl ⟨by rfl, fun w hSw => by have f0 := blkCell (HQd.out w hSw).2.2 2 _ rfl; go_simp⟩) hH ?_
        try simp only [Act.put, List.setIfInBounds_toArray, List.set_cons_zero, List.set_cons_succ, List.getElem_toArray, List.getElem_cons_succ, List.getElem_cons_zero]
        refine wpAnyH_take (i := 3) (v := .pointer (some ⟨w.heap.size + 1, 3, none⟩)) rfl (by kernel_rfl) (by kernel_rfl) (by kernel_rfl) (fun _ _ _ h => h) (Or.inl ⟨by rfl, fun w hSw => by go_simp⟩) hH ?_
        try simp only [Act.put, List.setIfInBounds_toArray, List.set_cons_zero, List.set_cons_succ, List.getElem_toArray, List.getElem_cons_succ, List.getElem_cons_zero]
        refine wpAnyH_take (i := 4) (v := .int .i64 nu) rfl (by kernel_rfl) (by kernel_rfl) (by kernel_rfl) (fun _ _ _ h => h) (Or.inl ⟨by rfl, fun w hSw => by have f0 := blkCell (HQd.out w hSw).2.1 3 _ rfl; go_simp⟩) hH ?_
        try simp only [Act.put, List.setIfInBounds_toArray, List.set_cons_zero, List.set_cons_succ, List.getElem_toArray, List.getElem_cons_succ, List.getElem_cons_zero]
        refine wpAnyH_take (i := 5) (v := .int .i64 (a2 - nu)) rfl (by kernel_rfl) (by kernel_rfl) (by kernel_rfl) (fun _ _ _ h => h) (Or.inl ⟨by rfl, fun w hSw => by go_simp⟩) hH ?_
        try simp only [Act.put, List.setIfInBounds_toArray, List.set_cons_zero, List.set_cons_succ, List.getElem_toArray, List.getElem_cons_succ, List.getElem_cons_zero]
        refine wpAnyH_take (i := 6) (v := .agg #[.int .i64 0, .int .i64 (a2 - nu)]) rfl (by kernel_rfl) (by kernel_rfl) (by kernel_rfl) (fun _ _ _ h => h) (Or.inl ⟨by rfl, fun w hSw => by go_simp⟩) hH ?_
        try simp only [Act.put, List.setIfInBounds_toArray, List.set_cons_zero, List.set_cons_succ, List.getElem_toArray, List.getElem_cons_succ, List.getElem_cons_zero]
        have HZA := HBd.out.retA (.int .i64 σ.day) (.int .i64 σ.rc) (.int .i64 σ.sd) (.int .i64 σ.wa) (.int .i64 (σ.sh + (a2 - nu))) (.slice va (σ.L.length - 1) vc) (.int .i64 0) (.int .i64 (a2 - nu))
        have HZB := HBd.out.retB (.int .i64 σ.day) (.int .i64 σ.rc) (.int .i64 σ.sd) (.int .i64 σ.wa) (.int .i64 (σ.sh + (a2 - nu))) (.slice va (σ.L.length - 1) vc) (.int .i64 0) (.int .i64 (a2 - nu))
        have h6 := six HBd.out.r2 (.int .i64 σ.day) (.int .i64 σ.rc) (.int .i64 σ.sd) (.int .i64 σ.wa) (.int .i64 (σ.sh + (a2 - nu))) (.slice va (σ.L.length - 1) vc)
        have h2 := two HBd.out.r3 (.int .i64 0) (.int .i64 (a2 - nu))
        have hA1 : Fr (fun q => q = w.heap.size + 2 ∨ q = w.heap.size + 3) Wd ((((((Wd.setCell ⟨w.heap.size + 2, 0, none⟩ (.int .i64 σ.day)).setCell ⟨w.heap.size + 2, 1, none⟩ (.int .i64 σ.rc)).setCell ⟨w.heap.size + 2, 2, none⟩ (.int .i64 σ.sd)).setCell ⟨w.heap.size + 2, 3, none⟩ (.int .i64 σ.wa)).setCell ⟨w.heap.size + 2, 4, none⟩ (.int .i64 (σ.sh + (a2 - nu)))).setCell ⟨w.heap.size + 2, 5, none⟩ (.slice va (σ.L.length - 1) vc)) := h6.2.mono (fun q hq => .inl hq)
        have hB1 : Fr (fun q => q = w.heap.size + 2 ∨ q = w.heap.size + 3) Wd ((Wd.setCell ⟨w.heap.size + 3, 0, none⟩ (.int .i64 0)).setCell ⟨w.heap.size + 3, 1, none⟩ (.int .i64 (a2 - nu))) := h2.2.mono (fun q hq => .inr hq)
        have hA2 : ((((((Wd.setCell ⟨w.heap.size + 2, 0, none⟩ (.int .i64 σ.day)).setCell ⟨w.heap.size + 2, 1, none⟩ (.int .i64 σ.rc)).setCell ⟨w.heap.size + 2, 2, none⟩ (.int .i64 σ.sd)).setCell ⟨w.heap.size + 2, 3, none⟩ (.int .i64 σ.wa)).setCell ⟨w.heap.size + 2, 4, none⟩ (.int .i64 (σ.sh + (a2 - nu)))).setCell ⟨w.heap.size + 2, 5, none⟩ (.slice va (σ.L.length - 1) vc)).heap[w.heap.size + 3]? = some (.cells #[.int .i64 0, .int .i64 0] 36 (0, 0)) := (h6.2.block _ (blkLt HBd.out.r3) (by omega)).trans HBd.out.r3
        have hB2 : ((Wd.setCell ⟨w.heap.size + 3, 0, none⟩ (.int .i64 0)).setCell ⟨w.heap.size + 3, 1, none⟩ (.int .i64 (a2 - nu))).heap[w.heap.size + 2]? = some (.cells #[.int .i64 0, .int .i64 0, .int .i64 0, .int .i64 0, .int .i64 0, .slice none 0 0] 29 (0, 0)) := (h2.2.block _ (blkLt HBd.out.r2) (by omega)).trans HBd.out.r2
        have hA3 : Fr (fun q => q = w.heap.size + 2 ∨ q = w.heap.size + 3) Wd ((((((((Wd.setCell ⟨w.heap.size + 2, 0, none⟩ (.int .i64 σ.day)).setCell ⟨w.heap.size + 2, 1, none⟩ (.int .i64 σ.rc)).setCell ⟨w.heap.size + 2, 2, none⟩ (.int .i64 σ.sd)).setCell ⟨w.heap.size + 2, 3, none⟩ (.int .i64 σ.wa)).setCell ⟨w.heap.size + 2, 4, none⟩ (.int .i64 (σ.sh + (a2 - nu)))).setCell ⟨w.heap.size + 2, 5, none⟩ (.slice va (σ.L.length - 1) vc)).setCell ⟨w.heap.size + 3, 0, none⟩ (.int .i64 0)).setCell ⟨w.heap.size + 3, 1, none⟩ (.int .i64 (a2 - nu))) := hA1.trans ((two hA2 (.int .i64 0) (.int .i64 (a2 - nu))).2.mono (fun q hq => .inr hq))
        have hB3 : Fr (fun q => q = w.heap.size + 2 ∨ q = w.heap.size + 3) Wd ((((((((Wd.setCell ⟨w.heap.size + 3, 0, none⟩ (.int .i64 0)).setCell ⟨w.heap.size + 3, 1, none⟩ (.int .i64 (a2 - nu))).setCell ⟨w.heap.size + 2, 0, none⟩ (.int .i64 σ.day)).setCell ⟨w.heap.size + 2, 1, none⟩ (.int .i64 σ.rc)).setCell ⟨w.heap.size + 2, 2, none⟩ (.int .i64 σ.sd)).setCell ⟨w.heap.size + 2, 3, none⟩ (.int .i64 σ.wa)).setCell ⟨w.heap.size + 2, 4, none⟩ (.int .i64 (σ.sh + (a2 - nu)))).setCell ⟨w.heap.size + 2, 5, none⟩ (.slice va (σ.L.length - 1) vc)) := hB1.trans ((six hB2 (.int .i64 σ.day) (.int .i64 σ.rc) (.int .i64 σ.sd) (.int .i64 σ.wa) (.int .i64 (σ.sh + (a2 - nu))) (.slice va (σ.L.length - 1) vc)).2.mono (fun q hq => .inl hq))
        clear h6 h2 HQd
        clear HZB hB1 hB2 hB3
        refine wpAnyH_ready (rs := [7]) (by kernel_rfl) (by simp) ?_
        refine AllReadyH.cons rfl (fun K hK => ?_) AllReadyH.nil
        have r0 := blkCell HBd.out.r2 0 _ rfl
        have r1 := blkCell HBd.out.r2 1 _ rfl
        have r2 := blkCell HBd.out.r2 2 _ rfl
        have r3 := blkCell HBd.out.r2 3 _ rfl
        have r4 := blkCell HBd.out.r2 4 _ rfl
        have r5 := blkCell HBd.out.r2 5 _ rfl
        have g0 := blkFree HBd.out.r2 0
        have gg1 := blkFree HBd.out.r2 1
        have g2 := blkFree HBd.out.r2 2
        have g3 := blkFree HBd.out.r2 3
        have g4 := blkFree HBd.out.r2 4
        have g5 := blkFree HBd.out.r2 5
        go_simp
        refine hK.out _ _ hA1 (fun _ => ?_)
        clear hK K
        try simp only [Act.put, List.setIfInBounds_toArray, List.set_cons_zero, List.set_cons_succ, List.getElem_toArray, List.getElem_cons_succ, List.getElem_cons_zero]
        clear r0 r1 r2 r3 r4 r5 g0 gg1 g2 g3 g4 g5
        have y0 := blkCell hA2 0 _ rfl
        have y1 := blkCell hA2 1 _ rfl
        have z0 := blkFree hA2 0
        have z1 := blkFree hA2 1
        refine wpAnyH_ready (rs := [8]) (by kernel_rfl) (by simp) ?_
        refine AllReadyH.cons rfl (fun K hK => ?_) AllReadyH.nil
        go_simp
        refine hK.out _ _ hA3 (fun _ => ?_)
        clear hK K
        try simp only [Act.put, List.setIfInBounds_toArray, List.set_cons_zero, List.set_cons_succ, List.getElem_toArray, List.getElem_cons_succ, List.getElem_cons_zero]
        refine wpAnyH_done (by kernel_rfl) ?_ _
        clear y0 y1 z0 z1 hA1 hA2 hA3 hH
        obtain ⟨k1, k2, k3⟩ := HZA
        generalize ((((((((Wd.setCell ⟨w.heap.size + 2, 0, none⟩ (.int .i64 σ.day)).setCell ⟨w.heap.size + 2, 1, none⟩ (.int .i64 σ.rc)).setCell ⟨w.heap.size + 2, 2, none⟩ (.int .i64 σ.sd)).setCell ⟨w.heap.size + 2, 3, none⟩ (.int .i64 σ.wa)).setCell ⟨w.heap.size + 2, 4, none⟩ (.int .i64 (σ.sh + (a2 - nu)))).setCell ⟨w.heap.size + 2, 5, none⟩ (.slice va (σ.L.length - 1) vc)).setCell ⟨w.heap.size + 3, 0, none⟩ (.int .i64 0)).setCell ⟨w.heap.size + 3, 1, none⟩ (.int .i64 (a2 - nu))) = W9 at *
        go_wp2
        have p0 := blkCell k2 0 _ rfl
        have p1 := blkCell k2 1 _ rfl
        have p2 := blkCell k2 2 _ rfl
        have p3 := blkCell k2 3 _ rfl
        have p4 := blkCell k2 4 _ rfl
        have p5 := blkCell k2 5 _ rfl
        have o0 := blkCell k3 0 _ rfl
        have o1 := blkCell k3 1 _ rfl
        refine bodyPost_ret (v := .tuple #[.agg #[.int .i64 σ.day, .int .i64 σ.rc, .int .i64 σ.sd, .int .i64 σ.wa, .int .i64 (σ.sh + (a2 - nu)), .slice va (σ.L.length - 1) vc], .agg #[.int .i64 0, .int .i64 (a2 - nu)]]) (by simp [results, Try.results47, go_sem, p0, p1, p2, p3, p4, p5, o0, o1]) rfl ?_
        exact ⟨va, vc, by show _ = Ending.returned (.tuple #[.agg #[.int .i64 σ.day, .int .i64 σ.rc, .int .i64 σ.sd, .int .i64 σ.wa, .int .i64 (σ.sh + (a2 - nu)), .slice va (σ.L.take i ++ σ.L.drop (i + 1)).length vc], .agg #[.int .i64 0, .int .i64 (a2 - nu)]]); rw [cut_len hi], by dsimp only; rw [cut_len hi]; exact k1⟩
      · have hzb : (nu == 0) = false := by rw [beq_eq_false_iff_ne]; exact hz
        have hlv : lv σ.L i nu = σ.L.set i { gl σ.L i with nu := nu } := if_pos (by omega)
        rw [hlv]
        clear hlv hz
        go_enter Try.func47, Try.ntmps47
        go_upto_region 2 with fail
        rw [← hW4, ← hW5]
        clear hW4 hW5 s5 q0 q1 q2 q3 q4
        go_wp2_with fail
        (first | go_at_call 45 | skip)
        refine (HIn _ _ _ _).mono ?_
        rintro e w1 ⟨rfl, hw1⟩
        rw [hw1]
        clear hw1
        go_wp2_with fail
        rw [← hW6, ← hW7]
        clear l2 l4 x0 x3 s5b s3 s4 f3 f4 c2 c4 e2 e4 u5 u3 uc ue v3 v5 hW6 hW7 HB HLb HB6 HL6 HIn w1
        have HLd : Hid (W7.drew.heap[w.heap.size + 4]? = some (.cells #[.string a0, .int .i64 a1, .int .i64 a2, .int .i64 a3, .bool a4] 38 (0, 0))) := HL7.out
        have HBd : Hid (Bx B (.slice (some ⟨g, 0, none⟩) σ.L.length c) w { σ with L := σ.L.set i { gl σ.L i with nu := nu }, sh := σ.sh + (a2 - nu) } (.slice (some ⟨g, 0, none⟩) σ.L.length c) 7 ar lt nu un W7.drew) := HB7.out.later (below_drew _)
        have HQd : Hid (∀ W', Fr (fun q => q = w.heap.size + 2 ∨ q = w.heap.size + 3) W7.drew W' → W'.heap[w.heap.size]? = some (.cells #[.int .i64 σ.day, .int .i64 σ.rc, .int .i64 σ.sd, .int .i64 σ.wa, .int .i64 (σ.sh + (a2 - nu)), .slice (some ⟨g, 0, none⟩) σ.L.length c] 29 (0, 0)) ∧ W'.heap[w.heap.size + 1]? = some (.cells #[.int .i64 7, .string ar, .int .i64 lt, .int .i64 nu, .int .i64 un] 34 (0, 0)) ∧ W'.heap[w.heap.size + 4]? = some (.cells #[.string a0, .int .i64 a1, .int .i64 a2, .int .i64 a3, .bool a4] 38 (0, 0))) := fun W' hW' => ⟨(hW'.block _ (blkLt HBd.out.s) (by omega)).trans HBd.out.s, (hW'.block _ (blkLt HBd.out.x) (by omega)).trans HBd.out.x, (hW'.block _ (blkLt HLd.out) (by omega)).trans HLd.out⟩
        refine wp_region_held_drew (S := fun W' => Fr (fun q => q = w.heap.size + 2 ∨ q = w.heap.size + 3) W7.drew W') (by kernel_rfl) (Fr.refl _ _) (fun hH => ?_)
        generalize W7.drew = Wd at *
        refine wpAnyH_take (i := 0) (v := .agg #[.int .i64 σ.day, .int .i64 σ.rc, .int .i64 σ.sd, .int .i64 σ.wa, .int .i64 (σ.sh + (a2 - nu)), .slice (some ⟨g, 0, none⟩) σ.L.length c]) rfl (by kernel_rfl) (by kernel_rfl) (by kernel_rfl) (fun _ _ _ h => h) (Or.inl ⟨by rfl, fun w hSw => by have f0 := blkCell (HQd.out w hSw).1 0 _ rfl; have f1 := blkCell (HQd.out w hSw).1 1 _ rfl; have f2 := blkCell (HQd.out w hSw).1 2 _ rfl; have f3 := blkCell (HQd.out w hSw).1 3 _ rfl; have f4 := blkCell (HQd.out w hSw).1 4 _ rfl; have f5 := blkCell (HQd.out w hSw).1 5 _ rfl; go_simp⟩) hH ?_
        refine wpAnyH_take (i := 1) (v := .pointer (some ⟨w.heap.size + 4, 2, none⟩)) rfl (by kernel_rfl) (by kernel_rfl) (by kernel_rfl) (fun _ _ _ h => h) (Or.inl ⟨by rfl, fun w hSw => by go_simp⟩) hH ?_
        try simp only [Act.put, List.setIfInBounds_toArray, List.set_cons_zero, List.set_cons_succ, List.getElem_toArray, List.getElem_cons_succ, List.getElem_cons_zero]
        refine wpAnyH_take (i := 2) (v := .int .i64 a2) rfl (by kernel_rfl) (by kernel_rfl) (by kernel_rfl) (fun _ _ _ h => h) (Or.inl ⟨by rfl, fun w hSw => by have f0 := blkCell (HQd.out w hSw).2.2 2 _ rfl; go_simp⟩) hH ?_
        try simp only [Act.put, List.setIfInBounds_toArray, List.set_cons_zero, List.set_cons_succ, List.getElem_toArray, List.getElem_cons_succ, List.getElem_cons_zero]
        refine wpAnyH_take (i := 3) (v := .pointer (some ⟨w.heap.size + 1, 3, none⟩)) rfl (by kernel_rfl) (by kernel_rfl) (by kernel_rfl) (fun _ _ _ h => h) (Or.inl ⟨by rfl, fun w hSw => by go_simp⟩) hH ?_
        try simp only [Act.put, List.setIfInBounds_toArray, List.set_cons_zero, List.set_cons_succ, List.getElem_toArray, List.getElem_cons_succ, List.getElem_cons_zero]
        refine wpAnyH_take (i := 4) (v := .int .i64 nu) rfl (by kernel_rfl) (by kernel_rfl) (by kernel_rfl) (fun _ _ _ h => h) (Or.inl ⟨by rfl, fun w hSw => by have f0 := blkCell (HQd.out w hSw).2.1 3 _ rfl; go_simp⟩) hH ?_
        try simp only [Act.put, List.setIfInBounds_toArray, List.set_cons_zero, List.set_cons_succ, List.getElem_toArray, List.getElem_cons_succ, List.getElem_cons_zero]
        refine wpAnyH_take (i := 5) (v := .int .i64 (a2 - nu)) rfl (by kernel_rfl) (by kernel_rfl) (by kernel_rfl) (fun _ _ _ h => h) (Or.inl ⟨by rfl, fun w hSw => by go_simp⟩) hH ?_
        try simp only [Act.put, List.setIfInBounds_toArray, List.set_cons_zero, List.set_cons_succ, List.getElem_toArray, List.getElem_cons_succ, List.getElem_cons_zero]
        refine wpAnyH_take (i := 6) (v := .agg #[.int .i64 0, .int .i64 (a2 - nu)]) rfl (by kernel_rfl) (by kernel_rfl) (by kernel_rfl) (fun _ _ _ h => h) (Or.inl ⟨by rfl, fun w hSw => by go_simp⟩) hH ?_
        try simp only [Act.put, List.setIfInBounds_toArray, List.set_cons_zero, List.set_cons_succ, List.getElem_toArray, List.getElem_cons_succ, List.getElem_cons_zero]
        have HZA := HBd.out.retA (.int .i64 σ.day) (.int .i64 σ.rc) (.int .i64 σ.sd) (.int .i64 σ.wa) (.int .i64 (σ.sh + (a2 - nu))) (.slice (some ⟨g, 0, none⟩) σ.L.length c) (.int .i64 0) (.int .i64 (a2 - nu))
        have HZB := HBd.out.retB (.int .i64 σ.day) (.int .i64 σ.rc) (.int .i64 σ.sd) (.int .i64 σ.wa) (.int .i64 (σ.sh + (a2 - nu))) (.slice (some ⟨g, 0, none⟩) σ.L.length c) (.int .i64 0) (.int .i64 (a2 - nu))
        have h6 := six HBd.out.r2 (.int .i64 σ.day) (.int .i64 σ.rc) (.int .i64 σ.sd) (.int .i64 σ.wa) (.int .i64 (σ.sh + (a2 - nu))) (.slice (some ⟨g, 0, none⟩) σ.L.length c)
        have h2 := two HBd.out.r3 (.int .i64 0) (.int .i64 (a2 - nu))
        have hA1 : Fr (fun q => q = w.heap.size + 2 ∨ q = w.heap.size + 3) Wd ((((((Wd.setCell ⟨w.heap.size + 2, 0, none⟩ (.int .i64 σ.day)).setCell ⟨w.heap.size + 2, 1, none⟩ (.int .i64 σ.rc)).setCell ⟨w.heap.size + 2, 2, none⟩ (.int .i64 σ.sd)).setCell ⟨w.heap.size + 2, 3, none⟩ (.int .i64 σ.wa)).setCell ⟨w.heap.size + 2, 4, none⟩ (.int .i64 (σ.sh + (a2 - nu)))).setCell ⟨w.heap.size + 2, 5, none⟩ (.slice (some ⟨g, 0, none⟩) σ.L.length c)) := h6.2.mono (fun q hq => .inl hq)
        have hB1 : Fr (fun q => q = w.heap.size + 2 ∨ q = w.heap.size + 3) Wd ((Wd.setCell ⟨w.heap.size + 3, 0, none⟩ (.int .i64 0)).setCell ⟨w.heap.size + 3, 1, none⟩ (.int .i64 (a2 - nu))) := h2.2.mono (fun q hq => .inr hq)
        have hA2 : ((((((Wd.setCell ⟨w.heap.size + 2, 0, none⟩ (.int .i64 σ.day)).setCell ⟨w.heap.size + 2, 1, none⟩ (.int .i64 σ.rc)).setCell ⟨w.heap.size + 2, 2, none⟩ (.int .i64 σ.sd)).setCell ⟨w.heap.size + 2, 3, none⟩ (.int .i64 σ.wa)).setCell ⟨w.heap.size + 2, 4, none⟩ (.int .i64 (σ.sh + (a2 - nu)))).setCell ⟨w.heap.size + 2, 5, none⟩ (.slice (some ⟨g, 0, none⟩) σ.L.length c)).heap[w.heap.size + 3]? = some (.cells #[.int .i64 0, .int .i64 0] 36 (0, 0)) := (h6.2.block _ (blkLt HBd.out.r3) (by omega)).trans HBd.out.r3
        have hB2 : ((Wd.setCell ⟨w.heap.size + 3, 0, none⟩ (.int .i64 0)).setCell ⟨w.heap.size + 3, 1, none⟩ (.int .i64 (a2 - nu))).heap[w.heap.size + 2]? = some (.cells #[.int .i64 0, .int .i64 0, .int .i64 0, .int .i64 0, .int .i64 0, .slice none 0 0] 29 (0, 0)) := (h2.2.block _ (blkLt HBd.out.r2) (by omega)).trans HBd.out.r2
        have hA3 : Fr (fun q => q = w.heap.size + 2 ∨ q = w.heap.size + 3) Wd ((((((((Wd.setCell ⟨w.heap.size + 2, 0, none⟩ (.int .i64 σ.day)).setCell ⟨w.heap.size + 2, 1, none⟩ (.int .i64 σ.rc)).setCell ⟨w.heap.size + 2, 2, none⟩ (.int .i64 σ.sd)).setCell ⟨w.heap.size + 2, 3, none⟩ (.int .i64 σ.wa)).setCell ⟨w.heap.size + 2, 4, none⟩ (.int .i64 (σ.sh + (a2 - nu)))).setCell ⟨w.heap.size + 2, 5, none⟩ (.slice (some ⟨g, 0, none⟩) σ.L.length c)).setCell ⟨w.heap.size + 3, 0, none⟩ (.int .i64 0)).setCell ⟨w.heap.size + 3, 1, none⟩ (.int .i64 (a2 - nu))) := hA1.trans ((two hA2 (.int .i64 0) (.int .i64 (a2 - nu))).2.mono (fun q hq => .inr hq))
        have hB3 : Fr (fun q => q = w.heap.size + 2 ∨ q = w.heap.size + 3) Wd ((((((((Wd.setCell ⟨w.heap.size + 3, 0, none⟩ (.int .i64 0)).setCell ⟨w.heap.size + 3, 1, none⟩ (.int .i64 (a2 - nu))).setCell ⟨w.heap.size + 2, 0, none⟩ (.int .i64 σ.day)).setCell ⟨w.heap.size + 2, 1, none⟩ (.int .i64 σ.rc)).setCell ⟨w.heap.size + 2, 2, none⟩ (.int .i64 σ.sd)).setCell ⟨w.heap.size + 2, 3, none⟩ (.int .i64 σ.wa)).setCell ⟨w.heap.size + 2, 4, none⟩ (.int .i64 (σ.sh + (a2 - nu)))).setCell ⟨w.heap.size + 2, 5, none⟩ (.slice (some ⟨g, 0, none⟩) σ.L.length c)) := hB1.trans ((six hB2 (.int .i64 σ.day) (.int .i64 σ.rc) (.int .i64 σ.sd) (.int .i64 σ.wa) (.int .i64 (σ.sh + (a2 - nu))) (.slice (some ⟨g, 0, none⟩) σ.L.length c)).2.mono (fun q hq => .inl hq))
        clear h6 h2 HQd
        clear HZB hB1 hB2 hB3
        refine wpAnyH_ready (rs := [7]) (by kernel_rfl) (by simp) ?_
        refine AllReadyH.cons rfl (fun K hK => ?_) AllReadyH.nil
        have r0 := blkCell HBd.out.r2 0 _ rfl
        have r1 := blkCell HBd.out.r2 1 _ rfl
        have r2 := blkCell HBd.out.r2 2 _ rfl
        have r3 := blkCell HBd.out.r2 3 _ rfl
        have r4 := blkCell HBd.out.r2 4 _ rfl
        have r5 := blkCell HBd.out.r2 5 _ rfl
        have g0 := blkFree HBd.out.r2 0
        have gg1 := blkFree HBd.out.r2 1
        have g2 := blkFree HBd.out.r2 2
        have g3 := blkFree HBd.out.r2 3
        have g4 := blkFree HBd.out.r2 4
        have g5 := blkFree HBd.out.r2 5
        go_simp
        refine hK.out _ _ hA1 (fun _ => ?_)
        clear hK K
        try simp only [Act.put, List.setIfInBounds_toArray, List.set_cons_zero, List.set_cons_succ, List.getElem_toArray, List.getElem_cons_succ, List.getElem_cons_zero]
        clear r0 r1 r2 r3 r4 r5 g0 gg1 g2 g3 g4 g5
        have y0 := blkCell hA2 0 _ rfl
        have y1 := blkCell hA2 1 _ rfl
        have z0 := blkFree hA2 0
        have z1 := blkFree hA2 1
        refine wpAnyH_ready (rs := [8]) (by kernel_rfl) (by simp) ?_
        refine AllReadyH.cons rfl (fun K hK => ?_) AllReadyH.nil
        go_simp
        refine hK.out _ _ hA3 (fun _ => ?_)
        clear hK K
        try simp only [Act.put, List.setIfInBounds_toArray, List.set_cons_zero, List.set_cons_succ, List.getElem_toArray, List.getElem_cons_succ, List.getElem_cons_zero]
        refine wpAnyH_done (by kernel_rfl) ?_ _
        clear y0 y1 z0 z1 hA1 hA2 hA3 hH
        obtain ⟨k1, k2, k3⟩ := HZA
        generalize ((((((((Wd.setCell ⟨w.heap.size + 2, 0, none⟩ (.int .i64 σ.day)).setCell ⟨w.heap.size + 2, 1, none⟩ (.int .i64 σ.rc)).setCell ⟨w.heap.size + 2, 2, none⟩ (.int .i64 σ.sd)).setCell ⟨w.heap.size + 2, 3, none⟩ (.int .i64 σ.wa)).setCell ⟨w.heap.size + 2, 4, none⟩ (.int .i64 (σ.sh + (a2 - nu)))).setCell ⟨w.heap.size + 2, 5, none⟩ (.slice (some ⟨g, 0, none⟩) σ.L.length c)).setCell ⟨w.heap.size + 3, 0, none⟩ (.int .i64 0)).setCell ⟨w.heap.size + 3, 1, none⟩ (.int .i64 (a2 - nu))) = W9 at *
        go_wp2
        have p0 := blkCell k2 0 _ rfl
        have p1 := blkCell k2 1 _ rfl
        have p2 := blkCell k2 2 _ rfl
        have p3 := blkCell k2 3 _ rfl
        have p4 := blkCell k2 4 _ rfl
        have p5 := blkCell k2 5 _ rfl
        have o0 := blkCell k3 0 _ rfl
        have o1 := blkCell k3 1 _ rfl
        refine bodyPost_ret (v := .tuple #[.agg #[.int .i64 σ.day, .int .i64 σ.rc, .int .i64 σ.sd, .int .i64 σ.wa, .int .i64 (σ.sh + (a2 - nu)), .slice (some ⟨g, 0, none⟩) σ.L.length c], .agg #[.int .i64 0, .int .i64 (a2 - nu)]]) (by simp [results, Try.results47, go_sem, p0, p1, p2, p3, p4, p5, o0, o1]) rfl ?_
        exact ⟨some ⟨g, 0, none⟩, c, by show _ = Ending.returned (.tuple #[.agg #[.int .i64 σ.day, .int .i64 σ.rc, .int .i64 σ.sd, .int .i64 σ.wa, .int .i64 (σ.sh + (a2 - nu)), .slice (some ⟨g, 0, none⟩) (σ.L.set i _).length c], .agg #[.int .i64 0, .int .i64 (a2 - nu)]]); rw [List.length_set], by dsimp only; rw [List.length_set]; exact k1⟩
    · have hq : inB nu 0 a2 = false := decide_eq_false hin
      have E1 : lotE σ 7 nu i = 5 := by unfold lotE; rw [HIr.out]; simp [hin]
      have E2 : lotN σ 7 nu i = 0 := by unfold lotN; rw [E1]; simp
      have E3 : lotS σ 7 nu i = σ := by unfold lotS; rw [E1]; simp
      rw [E1, E2, E3]
      clear E1 E2 E3 hin
      have b0 := blkCell HB.out.s 0 _ rfl
      have b1 := blkCell HB.out.s 1 _ rfl
      have b2 := blkCell HB.out.s 2 _ rfl
      have b3 := blkCell HB.out.s 3 _ rfl
      have b4 := blkCell HB.out.s 4 _ rfl
      have b5 := blkCell HB.out.s 5 _ rfl
      have r0 := blkCell HB.out.r2 0 _ rfl
      have r1 := blkCell HB.out.r2 1 _ rfl
      have r2 := blkCell HB.out.r2 2 _ rfl
      have r3 := blkCell HB.out.r2 3 _ rfl
      have r4 := blkCell HB.out.r2 4 _ rfl
      have r5 := blkCell HB.out.r2 5 _ rfl
      have gg0 := blkFree HB.out.r2 0
      have gg1 := blkFree HB.out.r2 1
      have gg2 := blkFree HB.out.r2 2
      have gg3 := blkFree HB.out.r2 3
      have gg4 := blkFree HB.out.r2 4
      have gg5 := blkFree HB.out.r2 5
      have hmid : ((((((W5.setCell ⟨w.heap.size + 2, 0, none⟩ (.int .i64 σ.day)).setCell ⟨w.heap.size + 2, 1, none⟩ (.int .i64 σ.rc)).setCell ⟨w.heap.size + 2, 2, none⟩ (.int .i64 σ.sd)).setCell ⟨w.heap.size + 2, 3, none⟩ (.int .i64 σ.wa)).setCell ⟨w.heap.size + 2, 4, none⟩ (.int .i64 σ.sh)).setCell ⟨w.heap.size + 2, 5, none⟩ (.slice (some ⟨g, 0, none⟩) σ.L.length c)).heap[w.heap.size + 3]? = some (.cells #[.int .i64 0, .int .i64 0] 36 (0, 0)) := ((six HB.out.r2 (.int .i64 σ.day) (.int .i64 σ.rc) (.int .i64 σ.sd) (.int .i64 σ.wa) (.int .i64 σ.sh) (.slice (some ⟨g, 0, none⟩) σ.L.length c)).2.block _ (blkLt HB.out.r3) (by omega)).trans HB.out.r3
      have y0 := blkCell hmid 0 _ rfl
      have y1 := blkCell hmid 1 _ rfl
      have z0 := blkFree hmid 0
      have z1 := blkFree hmid 1
      have HZ := HB.out.retA (.int .i64 σ.day) (.int .i64 σ.rc) (.int .i64 σ.sd) (.int .i64 σ.wa) (.int .i64 σ.sh) (.slice (some ⟨g, 0, none⟩) σ.L.length c) (.int .i64 5) (.int .i64 0)
      clear hmid
      go_enter Try.func47, Try.ntmps47
      go_upto_region 2 with fail
      rw [← hW4, ← hW5]
      clear hW4 hW5 s5 q0 q1 q2 q3 q4
      go_wp2_with fail
      (first | go_at_call 45 | skip)
      refine (HIn _ _ _ _).mono ?_
      rintro e w1 ⟨rfl, hw1⟩
      rw [hw1]
      clear hw1
      go_wp2
      obtain ⟨k1, k2, k3⟩ := HZ
      generalize ((((((((W5.setCell ⟨w.heap.size + 2, 0, none⟩ (.int .i64 σ.day)).setCell ⟨w.heap.size + 2, 1, none⟩ (.int .i64 σ.rc)).setCell ⟨w.heap.size + 2, 2, none⟩ (.int .i64 σ.sd)).setCell ⟨w.heap.size + 2, 3, none⟩ (.int .i64 σ.wa)).setCell ⟨w.heap.size + 2, 4, none⟩ (.int .i64 σ.sh)).setCell ⟨w.heap.size + 2, 5, none⟩ (.slice (some ⟨g, 0, none⟩) σ.L.length c)).setCell ⟨w.heap.size + 3, 0, none⟩ (.int .i64 5)).setCell ⟨w.heap.size + 3, 1, none⟩ (.int .i64 0)) = W9 at *
      have p0 := blkCell k2 0 _ rfl
      have p1 := blkCell k2 1 _ rfl
      have p2 := blkCell k2 2 _ rfl
      have p3 := blkCell k2 3 _ rfl
      have p4 := blkCell k2 4 _ rfl
      have p5 := blkCell k2 5 _ rfl
      have o0 := blkCell k3 0 _ rfl
      have o1 := blkCell k3 1 _ rfl
      refine bodyPost_ret (v := .tuple #[.agg #[.int .i64 σ.day, .int .i64 σ.rc, .int .i64 σ.sd, .int .i64 σ.wa, .int .i64 σ.sh, .slice (some ⟨g, 0, none⟩) σ.L.length c], .agg #[.int .i64 5, .int .i64 0]]) (by simp [results, Try.results47, go_sem, p0, p1, p2, p3, p4, p5, o0, o1]) rfl ?_
      exact ⟨some ⟨g, 0, none⟩, c, rfl, k1⟩
end Go.Proofs.Ytdhdecbdcfdmeaa

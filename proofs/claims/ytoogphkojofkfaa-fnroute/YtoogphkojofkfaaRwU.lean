/-
  The specification's search for the route that is back first: a try, by induction on what is left.
-/
import Derived.Test.YtoogphkojofkfaaRwS
import Derived.Deep.DeepCutAuto
namespace Go.Proofs.Ytoogphkojofkfaa
open Go.ChangeShapes Go.WideShapes Go.ChangeAt Go.RowKit Go.Joins Go.Deep
set_option linter.unusedVariables false

/-- A row that lies apart from a block stays when that block's cells are written. -/
theorem RowI.four {lo hi : Nat} {w : World} {g : Option Addr} {L : List Int} (h : RowI lo hi w g L) {nb : Nat} (hn : nb < lo ∨ hi ≤ nb) (v0 v1 v2 v3 : Value) : RowI lo hi ((((w.setCell ⟨nb, 0, none⟩ v0).setCell ⟨nb, 1, none⟩ v1).setCell ⟨nb, 2, none⟩ v2).setCell ⟨nb, 3, none⟩ v3) g L := by
  rcases h with h | ⟨c, h1, ⟨h2, h3, h4⟩, h5, h6⟩
  · exact .inl h
  · have hc : c ≠ nb := by omega
    have hk : ((((w.setCell ⟨nb, 0, none⟩ v0).setCell ⟨nb, 1, none⟩ v1).setCell ⟨nb, 2, none⟩ v2).setCell ⟨nb, 3, none⟩ v3).heap[c]? = w.heap[c]? := by
      rw [heap_setCell_other _ _ _ _ hc, heap_setCell_other _ _ _ _ hc, heap_setCell_other _ _ _ _ hc, heap_setCell_other _ _ _ _ hc]
    refine .inr ⟨c, h1, ⟨h2, h3, by simp only [World.size_setCell]; exact h4⟩, fun i hi => ?_, fun i hi => ?_⟩
    · have := h5 i hi
      unfold World.cell? at this ⊢
      rw [hk]; exact this
    · have := h6 i hi
      unfold World.frozen? at this ⊢
      rw [hk]; exact this
theorem row_at {V : World} {B g c : Nat} {xs : List Int} (h : V.ownsRow B 3 1 (.slice (some ⟨g, 0, none⟩) xs.length c) xs.length (inV xs)) : IntsAt V g 0 xs := fun i hi => by
  rw [Nat.zero_add, h.cellAt i (by omega)]
  simp [inV, List.getD_eq_getElem?_getD, hi]
theorem hasI_take {L : List Int} {j : Nat} {d : Int} (hj : j < L.length) : hasI (L.take (j + 1)) d = (hasI (L.take j) d || decide (L.getD j 0 = d)) := by
  have e : L.getD j 0 = L[j] := by simp [List.getD_eq_getElem?_getD, hj]
  rw [e, List.take_succ_eq_append_getElem hj, Bool.eq_iff_iff, Bool.or_eq_true, hasI_mem, hasI_mem, decide_eq_true_eq, List.mem_append, List.mem_singleton]
  constructor
  · rintro (h | h)
    · exact .inl h
    · exact .inr h.symm
  · rintro (h | h)
    · exact .inl h
    · exact .inr h.symm
set_option maxHeartbeats 16000000 in
set_option maxRecDepth 8000 in
theorem try_step (xb : Nat) (ad : Option Addr) (cap : Nat) (rs : List RHp) (b : Int) (h7 : rs.length ≤ 7) (hs : hpsB rs = true) (hb : 0 ≤ b ∧ b ≤ 100000) (w0 : World) (hr : ReadsHp w0.heap.size w0 ad rs) (k : Nat) (IH : Hid (∀ k', k = k' + 1 → ∀ (L : List Int) (B : Option (List Int)) (ao : Option Addr) (co : Nat) (W : World), L.length + k' = rs.length → (∀ j, j < L.length → ∃ m : Nat, m < rs.length ∧ L.getD j 0 = (m : Int)) → OrdI xb W ao L → TsI xb ad cap rs b (B) w0 W →
    Calls Try.prog 35 #[.pointer (some ⟨xb, 0, none⟩), .slice ao L.length co] W (TyQ xb ad cap rs b (tyR rs b k' L B) w0 W))) : ∀ (L : List Int) (B : Option (List Int)) (ao : Option Addr) (co : Nat) (W : World), L.length + k = rs.length → (∀ j, j < L.length → ∃ m : Nat, m < rs.length ∧ L.getD j 0 = (m : Int)) → OrdI xb W ao L → TsI xb ad cap rs b (B) w0 W →
    Calls Try.prog 35 #[.pointer (some ⟨xb, 0, none⟩), .slice ao L.length co] W (TyQ xb ad cap rs b (tyR rs b k L B) w0 W) := by
  intro L B ao co W hl hin ho hI
  have HI : Hid (TsI xb ad cap rs b (B) w0 W) := hI
  have HO : Hid (OrdI xb W ao L) := ho
  have HLr : Hid (∀ V, Below W.heap.size W V → Calls Try.prog 57 #[.slice ad rs.length cap, .int .i64 b, .slice ao L.length co] V (LrQ rs b L V)) := fun V hV => specLr_any ad cap rs b ao co L h7 hs hb (by omega) hin V ((hr.below (chain hI.low hV)).mono (Nat.le_trans hI.low.size hV.size)) (ho.fr (Fr.of hV)).reads
  have HIn : Hid (∀ j, j < L.length → ∃ m : Nat, m < rs.length ∧ L.getD j 0 = (m : Int)) := hin
  have hxl : xb < W.heap.size := by obtain ⟨q, cq, s, cs, h1, _⟩ := hI.se; exact blkLt h1
  clear hI ho hin hs hb hr
  go_enter Try.func35, Try.ntmps35
  go_upto_region 0 with fail
  go_cut [4, 5] from 9 to 21 (fun t4 t5 wx => ∃ nb q nq cq s ns cs wt en, t4 = .pointer (some ⟨nb, 0, none⟩) ∧ t5 = .bool (trp rs b L).ok ∧ TrE rs b L W nb q nq cq s ns cs wt en wx)
  case first =>
    have H0 : Hid (Below W.heap.size W W.drew) := below_drew _
    refine wp_region_held_drew (S := fun V => Below W.heap.size W V) (by kernel_rfl) H0.out (fun hH => ?_)
    generalize W.drew = V0 at *
    refine wpAnyH_take (i := 0) (v := .pointer (some ⟨xb, 0, none⟩)) rfl (by kernel_rfl) (by kernel_rfl) (by kernel_rfl) (fun _ _ _ h => h) (Or.inl ⟨by rfl, fun w hSw => by clear hSw; go_simp⟩) hH ?_
    refine wpAnyH_take (i := 1) (v := .pointer (some ⟨xb, 0, none⟩)) rfl (by kernel_rfl) (by kernel_rfl) (by kernel_rfl) (fun _ _ _ h => h) (Or.inl ⟨by rfl, fun w hSw => by clear hSw; go_simp⟩) hH ?_
    try simp only [Act.put, List.setIfInBounds_toArray, List.set_cons_zero, List.set_cons_succ, List.getElem_toArray, List.getElem_cons_succ, List.getElem_cons_zero]
    refine wpAnyH_take (i := 2) (v := .pointer (some ⟨xb, 0, none⟩)) rfl (by kernel_rfl) (by kernel_rfl) (by kernel_rfl) (fun _ _ _ h => h) (Or.inl ⟨by rfl, fun w hSw => by clear hSw; go_simp⟩) hH ?_
    try simp only [Act.put, List.setIfInBounds_toArray, List.set_cons_zero, List.set_cons_succ, List.getElem_toArray, List.getElem_cons_succ, List.getElem_cons_zero]
    refine wpAnyH_take (i := 3) (v := .slice ad rs.length cap) rfl (by kernel_rfl) (by kernel_rfl) (by kernel_rfl) (fun _ _ _ h => h) (Or.inl ⟨by rfl, fun w hSw => by obtain ⟨f0, f1, f2, f3⟩ := (HI.out.later hSw).sc; clear hSw; go_simp⟩) hH ?_
    try simp only [Act.put, List.setIfInBounds_toArray, List.set_cons_zero, List.set_cons_succ, List.getElem_toArray, List.getElem_cons_succ, List.getElem_cons_zero]
    refine wpAnyH_take (i := 4) (v := .pointer (some ⟨xb, 0, none⟩)) rfl (by kernel_rfl) (by kernel_rfl) (by kernel_rfl) (fun _ _ _ h => h) (Or.inl ⟨by rfl, fun w hSw => by clear hSw; go_simp⟩) hH ?_
    try simp only [Act.put, List.setIfInBounds_toArray, List.set_cons_zero, List.set_cons_succ, List.getElem_toArray, List.getElem_cons_succ, List.getElem_cons_zero]
    refine wpAnyH_take (i := 5) (v := .pointer (some ⟨xb, 0, none⟩)) rfl (by kernel_rfl) (by kernel_rfl) (by kernel_rfl) (fun _ _ _ h => h) (Or.inl ⟨by rfl, fun w hSw => by clear hSw; go_simp⟩) hH ?_
    try simp only [Act.put, List.setIfInBounds_toArray, List.set_cons_zero, List.set_cons_succ, List.getElem_toArray, List.getElem_cons_succ, List.getElem_cons_zero]
    refine wpAnyH_take (i := 6) (v := .pointer (some ⟨xb, 1, none⟩)) rfl (by kernel_rfl) (by kernel_rfl) (by kernel_rfl) (fun _ _ _ h => h) (Or.inl ⟨by rfl, fun w hSw => by clear hSw; go_simp⟩) hH ?_
    try simp only [Act.put, List.setIfInBounds_toArray, List.set_cons_zero, List.set_cons_succ, List.getElem_toArray, List.getElem_cons_succ, List.getElem_cons_zero]
    refine wpAnyH_take (i := 7) (v := .int .i64 b) rfl (by kernel_rfl) (by kernel_rfl) (by kernel_rfl) (fun _ _ _ h => h) (Or.inl ⟨by rfl, fun w hSw => by obtain ⟨f0, f1, f2, f3⟩ := (HI.out.later hSw).sc; clear hSw; go_simp⟩) hH ?_
    try simp only [Act.put, List.setIfInBounds_toArray, List.set_cons_zero, List.set_cons_succ, List.getElem_toArray, List.getElem_cons_succ, List.getElem_cons_zero]
    refine wpAnyH_take (i := 8) (v := .slice ao L.length co) rfl (by kernel_rfl) (by kernel_rfl) (by kernel_rfl) (fun _ _ _ h => h) (Or.inl ⟨by rfl, fun w hSw => by clear hSw; go_simp⟩) hH ?_
    try simp only [Act.put, List.setIfInBounds_toArray, List.set_cons_zero, List.set_cons_succ, List.getElem_toArray, List.getElem_cons_succ, List.getElem_cons_zero]
    refine wpAnyH_ready (rs := [9, 13]) (by kernel_rfl) (by simp) ?_
    refine AllReadyH.cons rfl (fun K hK => ?_) (AllReadyH.cons rfl (fun K hK => ?_) AllReadyH.nil)
    · skip
      go_simp
      go_at_call 57
      refine (HLr.out V0 H0.out).mono ?_
      intro e V1 hq
      have hb1 := hq.1
      obtain ⟨q, nq, cq, s, ns, cs, wt, en, rfl, hf⟩ := hq.one H0.out.size
      have H1 : Hid (Below W.heap.size W V1) := chain H0.out hb1
      have F1 : Hid (((trp rs b L).ok = true → (nq = L.length ∧ ns = (trp rs b L).A.length ∧ wt = (trp rs b L).wt ∧ en = enR rs b L) ∧ RowI W.heap.size V1.heap.size V1 q L ∧ RowI W.heap.size V1.heap.size V1 s (trp rs b L).A)) := hf
      clear hb1 hf hq
      refine hK.out _ _ H1.out (fun _ => ?_)
      clear hK K
      try simp only [Act.put, List.setIfInBounds_toArray, List.set_cons_zero, List.set_cons_succ, List.getElem_toArray, List.getElem_cons_succ, List.getElem_cons_zero]
      refine wpAnyH_take (i := 10) (v := .tuple #[.agg #[.slice q nq cq, .slice s ns cs, .int .i64 wt, .int .i64 en], .bool (trp rs b L).ok]) rfl (by kernel_rfl) (by kernel_rfl) (by kernel_rfl) (fun _ _ _ h => h) (Or.inl ⟨by rfl, fun w hSw => by clear hSw; go_simp⟩) H1.out ?_
      try simp only [Act.put, List.setIfInBounds_toArray, List.set_cons_zero, List.set_cons_succ, List.getElem_toArray, List.getElem_cons_succ, List.getElem_cons_zero]
      refine wpAnyH_take (i := 11) (v := .agg #[.slice q nq cq, .slice s ns cs, .int .i64 wt, .int .i64 en]) rfl (by kernel_rfl) (by kernel_rfl) (by kernel_rfl) (fun _ _ _ h => h) (Or.inl ⟨by rfl, fun w hSw => by clear hSw; go_simp⟩) H1.out ?_
      try simp only [Act.put, List.setIfInBounds_toArray, List.set_cons_zero, List.set_cons_succ, List.getElem_toArray, List.getElem_cons_succ, List.getElem_cons_zero]
      refine wpAnyH_take (i := 12) (v := .bool (trp rs b L).ok) rfl (by kernel_rfl) (by kernel_rfl) (by kernel_rfl) (fun _ _ _ h => h) (Or.inl ⟨by rfl, fun w hSw => by clear hSw; go_simp⟩) H1.out ?_
      try simp only [Act.put, List.setIfInBounds_toArray, List.set_cons_zero, List.set_cons_succ, List.getElem_toArray, List.getElem_cons_succ, List.getElem_cons_zero]
      refine wpAnyH_ready (rs := [13]) (by kernel_rfl) (by simp) ?_
      refine AllReadyH.cons rfl (fun K hK => ?_) AllReadyH.nil
      go_simp
      obtain ⟨V2, hV⟩ : ∃ V, V = V1.alloc (Obj.cells #[.slice none 0 0, .slice none 0 0, .int .i64 0, .int .i64 0] 28) := ⟨_, rfl⟩
      obtain ⟨nb, hn⟩ : ∃ n, n = V1.heap.size := ⟨_, rfl⟩
      rw [← hV, ← hn]
      have H2 : Hid (Below W.heap.size W V2) := by rw [hV]; exact chain H1.out (below_alloc _ _)
      have N : Hid (W.heap.size ≤ nb ∧ V2.heap[nb]? = some (.cells #[.slice none 0 0, .slice none 0 0, .int .i64 0, .int .i64 0] 28 (0, 0))) := by
        refine (show _ ∧ _ from ⟨?_, ?_⟩)
        · rw [hn]; exact H1.out.size
        · rw [hV, hn]; exact heapNew _ _
      have F2 : Hid (((trp rs b L).ok = true → (nq = L.length ∧ ns = (trp rs b L).A.length ∧ wt = (trp rs b L).wt ∧ en = enR rs b L) ∧ RowI W.heap.size V2.heap.size ((((V2.setCell ⟨nb, 0, none⟩ (.slice q nq cq)).setCell ⟨nb, 1, none⟩ (.slice s ns cs)).setCell ⟨nb, 2, none⟩ (.int .i64 wt)).setCell ⟨nb, 3, none⟩ (.int .i64 en)) q L ∧ RowI W.heap.size V2.heap.size ((((V2.setCell ⟨nb, 0, none⟩ (.slice q nq cq)).setCell ⟨nb, 1, none⟩ (.slice s ns cs)).setCell ⟨nb, 2, none⟩ (.int .i64 wt)).setCell ⟨nb, 3, none⟩ (.int .i64 en)) s (trp rs b L).A)) := by
        refine (show _ → _ from fun h => ?_)
        obtain ⟨g1, g2, g3⟩ := F1.out h
        have hb2 : Below V1.heap.size V1 V2 := by rw [hV]; exact below_alloc _ _
        have hz : V2.heap.size = V1.heap.size + 1 := by rw [hV]; simp
        refine ⟨g1, ?_, ?_⟩
        · exact (((g2.later hb2).four (nb := nb) (.inr (by omega)) _ _ _ _).wide (Nat.le_refl _) hb2.size (by simp only [World.size_setCell]; exact Nat.le_refl _))
        · exact (((g3.later hb2).four (nb := nb) (.inr (by omega)) _ _ _ _).wide (Nat.le_refl _) hb2.size (by simp only [World.size_setCell]; exact Nat.le_refl _))
      have N2 : Hid (W.heap.size ≤ nb ∧ V2.heap[nb]? = some (.cells #[.slice none 0 0, .slice none 0 0, .int .i64 0, .int .i64 0] 28 (0, 0))) := N.out
      clear hV hn H1 F1 N
      refine hK.out _ _ H2.out (fun _ => ?_)
      clear hK K
      try simp only [Act.put, List.setIfInBounds_toArray, List.set_cons_zero, List.set_cons_succ, List.getElem_toArray, List.getElem_cons_succ, List.getElem_cons_zero]
      obtain ⟨V3, hV3⟩ : ∃ V, V = (((V2.setCell ⟨nb, 0, none⟩ (.slice q nq cq)).setCell ⟨nb, 1, none⟩ (.slice s ns cs)).setCell ⟨nb, 2, none⟩ (.int .i64 wt)).setCell ⟨nb, 3, none⟩ (.int .i64 en) := ⟨_, rfl⟩
      have E3 : Hid (V3 = (((V2.setCell ⟨nb, 0, none⟩ (.slice q nq cq)).setCell ⟨nb, 1, none⟩ (.slice s ns cs)).setCell ⟨nb, 2, none⟩ (.int .i64 wt)).setCell ⟨nb, 3, none⟩ (.int .i64 en)) := hV3
      have k1 : V3.heap[nb]? = some (.cells #[.slice q nq cq, .slice s ns cs, .int .i64 wt, .int .i64 en] 28 (0, 0)) := by
        rw [hV3]
        have h4 := heap_setCell_same _ _ 3 _ _ (.int .i64 en) (heap_setCell_same _ _ 2 _ _ (.int .i64 wt) (heap_setCell_same _ _ 1 _ _ (.slice s ns cs) (heap_setCell_same _ _ 0 _ _ (.slice q nq cq) N2.out.2)))
        simp only [List.setIfInBounds_toArray, List.set_cons_zero, List.set_cons_succ] at h4
        exact h4
      have H3 : Hid (Below W.heap.size W V3) := by
        rw [hV3]
        exact (((H2.out.setCell N2.out.1 _).setCell N2.out.1 _).setCell N2.out.1 _).setCell N2.out.1 _
      have F3 : Hid (TrE rs b L W nb q nq cq s ns cs wt en V3) := by
        refine (show TrE rs b L W nb q nq cq s ns cs wt en V3 from ⟨⟨H3.out, N2.out.1, k1⟩, fun h => ?_⟩)
        obtain ⟨g1, g2, g3⟩ := F2.out h
        refine ⟨g1, ?_, ?_⟩
        · rw [hV3]; simp only [World.size_setCell]; exact g2
        · rw [hV3]; simp only [World.size_setCell]; exact g3
      have hx2 := N2.out.2
      have q0 := blkCell hx2 0 _ rfl
      have z0 := blkFree hx2 0
      have q1 := blkCell hx2 1 _ rfl
      have z1 := blkFree hx2 1
      have q2 := blkCell hx2 2 _ rfl
      have z2 := blkFree hx2 2
      have q3 := blkCell hx2 3 _ rfl
      have z3 := blkFree hx2 3
      clear k1 hV3 hx2
      refine wpAnyH_ready (rs := [14]) (by kernel_rfl) (by simp) ?_
      refine AllReadyH.cons rfl (fun K hK => ?_) AllReadyH.nil
      go_simp
      rw [← E3.out]
      clear q0 z0 q1 z1 q2 z2 q3 z3
      refine hK.out _ _ H3.out (fun _ => ?_)
      clear hK K
      try simp only [Act.put, List.setIfInBounds_toArray, List.set_cons_zero, List.set_cons_succ, List.getElem_toArray, List.getElem_cons_succ, List.getElem_cons_zero]
      refine wpAnyH_take (i := 15) (v := .bool (trp rs b L).ok) rfl (by kernel_rfl) (by kernel_rfl) (by kernel_rfl) (fun _ _ _ h => h) (Or.inl ⟨by rfl, fun w hSw => by clear hSw; go_simp⟩) H3.out ?_
      try simp only [Act.put, List.setIfInBounds_toArray, List.set_cons_zero, List.set_cons_succ, List.getElem_toArray, List.getElem_cons_succ, List.getElem_cons_zero]
      refine wpAnyH_done (by kernel_rfl) ?_ _
      clear hH
      go_wp2_with fail
      go_meet
      exact ⟨nb, q, nq, cq, s, ns, cs, wt, en, rfl, rfl, F3.out⟩
    · skip
      go_simp
      obtain ⟨V1, hV⟩ : ∃ V, V = V0.alloc (Obj.cells #[.slice none 0 0, .slice none 0 0, .int .i64 0, .int .i64 0] 28) := ⟨_, rfl⟩
      obtain ⟨nb, hn⟩ : ∃ n, n = V0.heap.size := ⟨_, rfl⟩
      rw [← hV, ← hn]
      have H1 : Hid (Below W.heap.size W V1) := by rw [hV]; exact chain H0.out (below_alloc _ _)
      have N : Hid (W.heap.size ≤ nb ∧ V1.heap[nb]? = some (.cells #[.slice none 0 0, .slice none 0 0, .int .i64 0, .int .i64 0] 28 (0, 0))) := by
        refine (show _ ∧ _ from ⟨?_, ?_⟩)
        · rw [hn]; exact H0.out.size
        · rw [hV, hn]; exact heapNew _ _
      have hz : nb < V1.heap.size ∧ W.heap.size ≤ nb := by rw [hV, hn]; exact ⟨by simp, H0.out.size⟩
      clear hV hn
      refine hK.out _ _ H1.out (fun _ => ?_)
      clear hK K
      try simp only [Act.put, List.setIfInBounds_toArray, List.set_cons_zero, List.set_cons_succ, List.getElem_toArray, List.getElem_cons_succ, List.getElem_cons_zero]
      refine wpAnyH_ready (rs := [9]) (by kernel_rfl) (by simp) ?_
      refine AllReadyH.cons rfl (fun K hK => ?_) AllReadyH.nil
      go_simp
      go_at_call 57
      refine (HLr.out V1 H1.out).mono ?_
      intro e V2 hq
      have hb1 := hq.1
      obtain ⟨q, nq, cq, s, ns, cs, wt, en, rfl, hf⟩ := hq.one (W := V1) (Nat.le_refl _)
      have H2 : Hid (Below W.heap.size W V2) := chain H1.out hb1
      have N2 : Hid (W.heap.size ≤ nb ∧ V2.heap[nb]? = some (.cells #[.slice none 0 0, .slice none 0 0, .int .i64 0, .int .i64 0] 28 (0, 0))) := ⟨N.out.1, (hb1.block nb (blkLt N.out.2)).trans N.out.2⟩
      have F2 : Hid (((trp rs b L).ok = true → (nq = L.length ∧ ns = (trp rs b L).A.length ∧ wt = (trp rs b L).wt ∧ en = enR rs b L) ∧ RowI W.heap.size V2.heap.size ((((V2.setCell ⟨nb, 0, none⟩ (.slice q nq cq)).setCell ⟨nb, 1, none⟩ (.slice s ns cs)).setCell ⟨nb, 2, none⟩ (.int .i64 wt)).setCell ⟨nb, 3, none⟩ (.int .i64 en)) q L ∧ RowI W.heap.size V2.heap.size ((((V2.setCell ⟨nb, 0, none⟩ (.slice q nq cq)).setCell ⟨nb, 1, none⟩ (.slice s ns cs)).setCell ⟨nb, 2, none⟩ (.int .i64 wt)).setCell ⟨nb, 3, none⟩ (.int .i64 en)) s (trp rs b L).A)) := by
        refine (show _ → _ from fun h => ?_)
        obtain ⟨g1, g2, g3⟩ := hf h
        refine ⟨g1, ?_, ?_⟩
        · exact ((g2.four (nb := nb) (.inl hz.1) _ _ _ _).wide H1.out.size (Nat.le_refl _) (by simp only [World.size_setCell]; exact Nat.le_refl _))
        · exact ((g3.four (nb := nb) (.inl hz.1) _ _ _ _).wide H1.out.size (Nat.le_refl _) (by simp only [World.size_setCell]; exact Nat.le_refl _))
      clear hb1 hf hq hz N
      refine hK.out _ _ H2.out (fun _ => ?_)
      clear hK K
      try simp only [Act.put, List.setIfInBounds_toArray, List.set_cons_zero, List.set_cons_succ, List.getElem_toArray, List.getElem_cons_succ, List.getElem_cons_zero]
      refine wpAnyH_take (i := 10) (v := .tuple #[.agg #[.slice q nq cq, .slice s ns cs, .int .i64 wt, .int .i64 en], .bool (trp rs b L).ok]) rfl (by kernel_rfl) (by kernel_rfl) (by kernel_rfl) (fun _ _ _ h => h) (Or.inl ⟨by rfl, fun w hSw => by clear hSw; go_simp⟩) H2.out ?_
      try simp only [Act.put, List.setIfInBounds_toArray, List.set_cons_zero, List.set_cons_succ, List.getElem_toArray, List.getElem_cons_succ, List.getElem_cons_zero]
      refine wpAnyH_take (i := 11) (v := .agg #[.slice q nq cq, .slice s ns cs, .int .i64 wt, .int .i64 en]) rfl (by kernel_rfl) (by kernel_rfl) (by kernel_rfl) (fun _ _ _ h => h) (Or.inl ⟨by rfl, fun w hSw => by clear hSw; go_simp⟩) H2.out ?_
      try simp only [Act.put, List.setIfInBounds_toArray, List.set_cons_zero, List.set_cons_succ, List.getElem_toArray, List.getElem_cons_succ, List.getElem_cons_zero]
      refine wpAnyH_take (i := 12) (v := .bool (trp rs b L).ok) rfl (by kernel_rfl) (by kernel_rfl) (by kernel_rfl) (fun _ _ _ h => h) (Or.inl ⟨by rfl, fun w hSw => by clear hSw; go_simp⟩) H2.out ?_
      try simp only [Act.put, List.setIfInBounds_toArray, List.set_cons_zero, List.set_cons_succ, List.getElem_toArray, List.getElem_cons_succ, List.getElem_cons_zero]
      obtain ⟨V3, hV3⟩ : ∃ V, V = (((V2.setCell ⟨nb, 0, none⟩ (.slice q nq cq)).setCell ⟨nb, 1, none⟩ (.slice s ns cs)).setCell ⟨nb, 2, none⟩ (.int .i64 wt)).setCell ⟨nb, 3, none⟩ (.int .i64 en) := ⟨_, rfl⟩
      have E3 : Hid (V3 = (((V2.setCell ⟨nb, 0, none⟩ (.slice q nq cq)).setCell ⟨nb, 1, none⟩ (.slice s ns cs)).setCell ⟨nb, 2, none⟩ (.int .i64 wt)).setCell ⟨nb, 3, none⟩ (.int .i64 en)) := hV3
      have k1 : V3.heap[nb]? = some (.cells #[.slice q nq cq, .slice s ns cs, .int .i64 wt, .int .i64 en] 28 (0, 0)) := by
        rw [hV3]
        have h4 := heap_setCell_same _ _ 3 _ _ (.int .i64 en) (heap_setCell_same _ _ 2 _ _ (.int .i64 wt) (heap_setCell_same _ _ 1 _ _ (.slice s ns cs) (heap_setCell_same _ _ 0 _ _ (.slice q nq cq) N2.out.2)))
        simp only [List.setIfInBounds_toArray, List.set_cons_zero, List.set_cons_succ] at h4
        exact h4
      have H3 : Hid (Below W.heap.size W V3) := by
        rw [hV3]
        exact (((H2.out.setCell N2.out.1 _).setCell N2.out.1 _).setCell N2.out.1 _).setCell N2.out.1 _
      have F3 : Hid (TrE rs b L W nb q nq cq s ns cs wt en V3) := by
        refine (show TrE rs b L W nb q nq cq s ns cs wt en V3 from ⟨⟨H3.out, N2.out.1, k1⟩, fun h => ?_⟩)
        obtain ⟨g1, g2, g3⟩ := F2.out h
        refine ⟨g1, ?_, ?_⟩
        · rw [hV3]; simp only [World.size_setCell]; exact g2
        · rw [hV3]; simp only [World.size_setCell]; exact g3
      have hx2 := N2.out.2
      have q0 := blkCell hx2 0 _ rfl
      have z0 := blkFree hx2 0
      have q1 := blkCell hx2 1 _ rfl
      have z1 := blkFree hx2 1
      have q2 := blkCell hx2 2 _ rfl
      have z2 := blkFree hx2 2
      have q3 := blkCell hx2 3 _ rfl
      have z3 := blkFree hx2 3
      clear k1 hV3 hx2
      refine wpAnyH_ready (rs := [14]) (by kernel_rfl) (by simp) ?_
      refine AllReadyH.cons rfl (fun K hK => ?_) AllReadyH.nil
      go_simp
      rw [← E3.out]
      clear q0 z0 q1 z1 q2 z2 q3 z3
      refine hK.out _ _ H3.out (fun _ => ?_)
      clear hK K
      try simp only [Act.put, List.setIfInBounds_toArray, List.set_cons_zero, List.set_cons_succ, List.getElem_toArray, List.getElem_cons_succ, List.getElem_cons_zero]
      refine wpAnyH_take (i := 15) (v := .bool (trp rs b L).ok) rfl (by kernel_rfl) (by kernel_rfl) (by kernel_rfl) (fun _ _ _ h => h) (Or.inl ⟨by rfl, fun w hSw => by clear hSw; go_simp⟩) H3.out ?_
      try simp only [Act.put, List.setIfInBounds_toArray, List.set_cons_zero, List.set_cons_succ, List.getElem_toArray, List.getElem_cons_succ, List.getElem_cons_zero]
      refine wpAnyH_done (by kernel_rfl) ?_ _
      clear hH
      go_wp2_with fail
      go_meet
      exact ⟨nb, q, nq, cq, s, ns, cs, wt, en, rfl, rfl, F3.out⟩
  case rest =>
    obtain ⟨nb, q, nq, cq, s, ns, cs, wt, en, rfl, rfl, ⟨hb3, hnb, hn3⟩, hf⟩ := hcut
    have HI3 : Hid (TsI xb ad cap rs b (B) w0 wc) := HI.out.later hb3
    have HF3 : Hid (Fr (fun x => x = xb) W wc) := Fr.of hb3
    have HO3 : Hid (OrdI xb wc ao L) := HO.out.fr HF3.out
    clear HLr HI HO
    cases hok : (trp rs b L).ok
    · have HTy : Hid (tyR rs b k L B = B) := tyR_late hok
      clear hf hok
      go_wp2
      go_end0
      rw [HTy.out]
      exact ⟨rfl, HI3.out, HF3.out⟩
    · obtain ⟨⟨rfl, rfl, rfl, rfl⟩, r1, r2⟩ := hf hok
      have HN3 : Hid (wc.heap[nb]? = some (.cells #[.slice q L.length cq, .slice s (trp rs b L).A.length cs, .int .i64 (trp rs b L).wt, .int .i64 (enR rs b L)] 28 (0, 0))) := hn3
      have HR3 : Hid (RowI (xb + 1) wc.heap.size wc q L ∧ RowI (xb + 1) wc.heap.size wc s (trp rs b L).A) := ⟨r1.wide (by omega) (Nat.le_refl _) (Nat.le_refl _), r2.wide (by omega) (Nat.le_refl _) (Nat.le_refl _)⟩
      have HOk : Hid ((trp rs b L).ok = true) := hok
      clear hf hok r1 r2 hn3
      obtain ⟨c0, c1, c2, c3⟩ := HI3.out.sc
      rcases Nat.eq_zero_or_pos k with hk | hk
      · subst hk
        have heq : ((L.length : Int) == (rs.length : Int)) = true := by rw [beq_iff_eq]; omega
        cases B with
        | none =>
          have HTy : Hid (tyR rs b 0 L none = some L) := tyR_end HOk.out
          go_upto_region 3 with fail
          clear c0 c1 c2 c3
          refine wp_region_held_drew (S := fun V => Below wc.heap.size wc V) (by kernel_rfl) (below_drew _) (fun hH => ?_)
          refine wpAnyH_take (i := 0) (v := .pointer (some ⟨xb, 0, none⟩)) rfl (by kernel_rfl) (by kernel_rfl) (by kernel_rfl) (fun _ _ _ h => h) (Or.inl ⟨by rfl, fun w hSw => by clear hSw; go_simp⟩) hH ?_
          refine wpAnyH_take (i := 1) (v := .pointer (some ⟨xb, 0, none⟩)) rfl (by kernel_rfl) (by kernel_rfl) (by kernel_rfl) (fun _ _ _ h => h) (Or.inl ⟨by rfl, fun w hSw => by clear hSw; go_simp⟩) hH ?_
          try simp only [Act.put, List.setIfInBounds_toArray, List.set_cons_zero, List.set_cons_succ, List.getElem_toArray, List.getElem_cons_succ, List.getElem_cons_zero]
          refine wpAnyH_take (i := 2) (v := .pointer (some ⟨xb, 6, none⟩)) rfl (by kernel_rfl) (by kernel_rfl) (by kernel_rfl) (fun _ _ _ h => h) (Or.inl ⟨by rfl, fun w hSw => by clear hSw; go_simp⟩) hH ?_
          try simp only [Act.put, List.setIfInBounds_toArray, List.set_cons_zero, List.set_cons_succ, List.getElem_toArray, List.getElem_cons_succ, List.getElem_cons_zero]
          refine wpAnyH_take (i := 3) (v := .bool false) rfl (by kernel_rfl) (by kernel_rfl) (by kernel_rfl) (fun _ _ _ h => h) (Or.inl ⟨by rfl, fun w hSw => by obtain ⟨f0, f1, f2, f3⟩ := (HI3.out.later hSw).sc; clear hSw; go_simp⟩) hH ?_
          try simp only [Act.put, List.setIfInBounds_toArray, List.set_cons_zero, List.set_cons_succ, List.getElem_toArray, List.getElem_cons_succ, List.getElem_cons_zero]
          refine wpAnyH_take (i := 4) (v := .bool true) rfl (by kernel_rfl) (by kernel_rfl) (by kernel_rfl) (fun _ _ _ h => h) (Or.inl ⟨by rfl, fun w hSw => by clear hSw; go_simp⟩) hH ?_
          try simp only [Act.put, List.setIfInBounds_toArray, List.set_cons_zero, List.set_cons_succ, List.getElem_toArray, List.getElem_cons_succ, List.getElem_cons_zero]
          refine wpAnyH_take (i := 5) (v := .bool true) rfl (by kernel_rfl) (by kernel_rfl) (by kernel_rfl) (fun _ _ _ h => h) (Or.inl ⟨by rfl, fun w hSw => by clear hSw; go_simp⟩) hH ?_
          try simp only [Act.put, List.setIfInBounds_toArray, List.set_cons_zero, List.set_cons_succ, List.getElem_toArray, List.getElem_cons_succ, List.getElem_cons_zero]
          refine wpAnyH_take (i := 6) (v := undef) rfl (by kernel_rfl) (by kernel_rfl) (by kernel_rfl) (fun _ _ _ h => h) (Or.inr ⟨by rfl, rfl⟩) hH ?_
          try simp only [Act.put, List.setIfInBounds_toArray, List.set_cons_zero, List.set_cons_succ, List.getElem_toArray, List.getElem_cons_succ, List.getElem_cons_zero]
          refine wpAnyH_take (i := 7) (v := undef) rfl (by kernel_rfl) (by kernel_rfl) (by kernel_rfl) (fun _ _ _ h => h) (Or.inr ⟨by rfl, rfl⟩) hH ?_
          try simp only [Act.put, List.setIfInBounds_toArray, List.set_cons_zero, List.set_cons_succ, List.getElem_toArray, List.getElem_cons_succ, List.getElem_cons_zero]
          refine wpAnyH_take (i := 8) (v := undef) rfl (by kernel_rfl) (by kernel_rfl) (by kernel_rfl) (fun _ _ _ h => h) (Or.inr ⟨by rfl, rfl⟩) hH ?_
          try simp only [Act.put, List.setIfInBounds_toArray, List.set_cons_zero, List.set_cons_succ, List.getElem_toArray, List.getElem_cons_succ, List.getElem_cons_zero]
          refine wpAnyH_take (i := 9) (v := undef) rfl (by kernel_rfl) (by kernel_rfl) (by kernel_rfl) (fun _ _ _ h => h) (Or.inr ⟨by rfl, rfl⟩) hH ?_
          try simp only [Act.put, List.setIfInBounds_toArray, List.set_cons_zero, List.set_cons_succ, List.getElem_toArray, List.getElem_cons_succ, List.getElem_cons_zero]
          refine wpAnyH_take (i := 10) (v := undef) rfl (by kernel_rfl) (by kernel_rfl) (by kernel_rfl) (fun _ _ _ h => h) (Or.inr ⟨by rfl, rfl⟩) hH ?_
          try simp only [Act.put, List.setIfInBounds_toArray, List.set_cons_zero, List.set_cons_succ, List.getElem_toArray, List.getElem_cons_succ, List.getElem_cons_zero]
          refine wpAnyH_take (i := 11) (v := undef) rfl (by kernel_rfl) (by kernel_rfl) (by kernel_rfl) (fun _ _ _ h => h) (Or.inr ⟨by rfl, rfl⟩) hH ?_
          try simp only [Act.put, List.setIfInBounds_toArray, List.set_cons_zero, List.set_cons_succ, List.getElem_toArray, List.getElem_cons_succ, List.getElem_cons_zero]
          refine wpAnyH_take (i := 12) (v := undef) rfl (by kernel_rfl) (by kernel_rfl) (by kernel_rfl) (fun _ _ _ h => h) (Or.inr ⟨by rfl, rfl⟩) hH ?_
          try simp only [Act.put, List.setIfInBounds_toArray, List.set_cons_zero, List.set_cons_succ, List.getElem_toArray, List.getElem_cons_succ, List.getElem_cons_zero]
          refine wpAnyH_take (i := 13) (v := undef) rfl (by kernel_rfl) (by kernel_rfl) (by kernel_rfl) (fun _ _ _ h => h) (Or.inr ⟨by rfl, rfl⟩) hH ?_
          try simp only [Act.put, List.setIfInBounds_toArray, List.set_cons_zero, List.set_cons_succ, List.getElem_toArray, List.getElem_cons_succ, List.getElem_cons_zero]
          refine wpAnyH_take (i := 14) (v := .bool true) rfl (by kernel_rfl) (by kernel_rfl) (by kernel_rfl) (fun _ _ _ h => h) (Or.inl ⟨by rfl, fun w hSw => by clear hSw; go_simp⟩) hH ?_
          try simp only [Act.put, List.setIfInBounds_toArray, List.set_cons_zero, List.set_cons_succ, List.getElem_toArray, List.getElem_cons_succ, List.getElem_cons_zero]
          refine wpAnyH_done (by kernel_rfl) ?_ _
          clear hH
          have HI4 : Hid (TsI xb ad cap rs b (none) w0 wc.drew) := HI3.out.later (below_drew _)
          have HN4 : Hid (wc.drew.heap[nb]? = some (.cells #[.slice q L.length cq, .slice s (trp rs b L).A.length cs, .int .i64 (trp rs b L).wt, .int .i64 (enR rs b L)] 28 (0, 0))) := ((below_drew wc).block nb (blkLt HN3.out)).trans HN3.out
          have HR4 : Hid (RowI (xb + 1) wc.drew.heap.size wc.drew q L ∧ RowI (xb + 1) wc.drew.heap.size wc.drew s (trp rs b L).A) := ⟨(HR3.out.1.later (below_drew _)).wide (Nat.le_refl _) (below_drew wc).size (Nat.le_refl _), (HR3.out.2.later (below_drew _)).wide (Nat.le_refl _) (below_drew wc).size (Nat.le_refl _)⟩
          have HF4 : Hid (Fr (fun x => x = xb) W wc.drew) := HF3.out.trans (Fr.of (below_drew _))
          generalize wc.drew = wd at *
          obtain ⟨⟨⟨z2, y2⟩, ⟨z3, y3⟩, ⟨z4, y4⟩, ⟨z5, y5⟩, ⟨z6, y6⟩⟩, x2, x3, x4, x5, x6⟩ := HI4.out.wc
          have hn4 := HN4.out
          have t0 := blkCell hn4 0 _ rfl
          have t1 := blkCell hn4 1 _ rfl
          have t2 := blkCell hn4 2 _ rfl
          have t3 := blkCell hn4 3 _ rfl
          simp only [List.getElem_toArray, List.getElem_cons_zero, List.getElem_cons_succ] at t0 t1 t2 t3
          have HP := HI4.out.put cq cs HR4.out.1 HR4.out.2
          have HFp : Fr (fun x => x = xb) W (((((wd.setCell ⟨xb, 2, none⟩ (.slice q L.length cq)).setCell ⟨xb, 3, none⟩ (.slice s (trp rs b L).A.length cs)).setCell ⟨xb, 4, none⟩ (.int .i64 (trp rs b L).wt)).setCell ⟨xb, 5, none⟩ (.int .i64 (enR rs b L))).setCell ⟨xb, 6, none⟩ (.bool true)) := ((((HF4.out.set rfl _ _).set rfl _ _).set rfl _ _).set rfl _ _).set rfl _ _
          have HPp : Hid (TyQ xb ad cap rs b (some L) w0 W (.returned (.tuple #[])) (((((wd.setCell ⟨xb, 2, none⟩ (.slice q L.length cq)).setCell ⟨xb, 3, none⟩ (.slice s (trp rs b L).A.length cs)).setCell ⟨xb, 4, none⟩ (.int .i64 (trp rs b L).wt)).setCell ⟨xb, 5, none⟩ (.int .i64 (enR rs b L))).setCell ⟨xb, 6, none⟩ (.bool true))) := ⟨rfl, HP, HFp⟩
          clear hn4 HP HFp HI3 HN3 HR3 HF3 HI4 HN4 HR4 HF4
          go_wp2
          go_end0
          rw [HTy.out]
          exact HPp.out
        | some o =>
          obtain ⟨eo, heo⟩ : ∃ eo, enR rs b o = eo := ⟨_, rfl⟩
          obtain ⟨en, hen⟩ : ∃ en, enR rs b L = en := ⟨_, rfl⟩
          have HEo : Hid (tsE rs b (some o) = eo) := heo
          have HEo2 : Hid (enR rs b o = eo) := heo
          have HEn : Hid (enR rs b L = en) := hen
          go_upto_region 3 with fail
          clear c0 c1 c2 c3 heo hen
          refine wp_region_held_drew (S := fun V => Below wc.heap.size wc V) (by kernel_rfl) (below_drew _) (fun hH => ?_)
          refine wpAnyH_take (i := 0) (v := .pointer (some ⟨xb, 0, none⟩)) rfl (by kernel_rfl) (by kernel_rfl) (by kernel_rfl) (fun _ _ _ h => h) (Or.inl ⟨by rfl, fun w hSw => by clear hSw; go_simp⟩) hH ?_
          refine wpAnyH_take (i := 1) (v := .pointer (some ⟨xb, 0, none⟩)) rfl (by kernel_rfl) (by kernel_rfl) (by kernel_rfl) (fun _ _ _ h => h) (Or.inl ⟨by rfl, fun w hSw => by clear hSw; go_simp⟩) hH ?_
          try simp only [Act.put, List.setIfInBounds_toArray, List.set_cons_zero, List.set_cons_succ, List.getElem_toArray, List.getElem_cons_succ, List.getElem_cons_zero]
          refine wpAnyH_take (i := 2) (v := .pointer (some ⟨xb, 6, none⟩)) rfl (by kernel_rfl) (by kernel_rfl) (by kernel_rfl) (fun _ _ _ h => h) (Or.inl ⟨by rfl, fun w hSw => by clear hSw; go_simp⟩) hH ?_
          try simp only [Act.put, List.setIfInBounds_toArray, List.set_cons_zero, List.set_cons_succ, List.getElem_toArray, List.getElem_cons_succ, List.getElem_cons_zero]
          refine wpAnyH_take (i := 3) (v := .bool true) rfl (by kernel_rfl) (by kernel_rfl) (by kernel_rfl) (fun _ _ _ h => h) (Or.inl ⟨by rfl, fun w hSw => by obtain ⟨f0, f1, f2, f3⟩ := (HI3.out.later hSw).sc; clear hSw; rw [HEo.out] at f2; go_simp⟩) hH ?_
          try simp only [Act.put, List.setIfInBounds_toArray, List.set_cons_zero, List.set_cons_succ, List.getElem_toArray, List.getElem_cons_succ, List.getElem_cons_zero]
          refine wpAnyH_take (i := 4) (v := .bool false) rfl (by kernel_rfl) (by kernel_rfl) (by kernel_rfl) (fun _ _ _ h => h) (Or.inl ⟨by rfl, fun w hSw => by clear hSw; go_simp⟩) hH ?_
          try simp only [Act.put, List.setIfInBounds_toArray, List.set_cons_zero, List.set_cons_succ, List.getElem_toArray, List.getElem_cons_succ, List.getElem_cons_zero]
          refine wpAnyH_take (i := 5) (v := .bool false) rfl (by kernel_rfl) (by kernel_rfl) (by kernel_rfl) (fun _ _ _ h => h) (Or.inl ⟨by rfl, fun w hSw => by clear hSw; go_simp⟩) hH ?_
          try simp only [Act.put, List.setIfInBounds_toArray, List.set_cons_zero, List.set_cons_succ, List.getElem_toArray, List.getElem_cons_succ, List.getElem_cons_zero]
          refine wpAnyH_take (i := 6) (v := .pointer (some ⟨nb, 3, none⟩)) rfl (by kernel_rfl) (by kernel_rfl) (by kernel_rfl) (fun _ _ _ h => h) (Or.inl ⟨by rfl, fun w hSw => by clear hSw; go_simp⟩) hH ?_
          try simp only [Act.put, List.setIfInBounds_toArray, List.set_cons_zero, List.set_cons_succ, List.getElem_toArray, List.getElem_cons_succ, List.getElem_cons_zero]
          refine wpAnyH_take (i := 7) (v := .int .i64 en) rfl (by kernel_rfl) (by kernel_rfl) (by kernel_rfl) (fun _ _ _ h => h) (Or.inl ⟨by rfl, fun w hSw => by have t3 := blkCell ((hSw.block nb (blkLt HN3.out)).trans HN3.out) 3 _ rfl; clear hSw; simp only [List.getElem_toArray, List.getElem_cons_zero, List.getElem_cons_succ] at t3; rw [HEn.out] at t3; go_simp⟩) hH ?_
          try simp only [Act.put, List.setIfInBounds_toArray, List.set_cons_zero, List.set_cons_succ, List.getElem_toArray, List.getElem_cons_succ, List.getElem_cons_zero]
          refine wpAnyH_take (i := 8) (v := .pointer (some ⟨xb, 0, none⟩)) rfl (by kernel_rfl) (by kernel_rfl) (by kernel_rfl) (fun _ _ _ h => h) (Or.inl ⟨by rfl, fun w hSw => by clear hSw; go_simp⟩) hH ?_
          try simp only [Act.put, List.setIfInBounds_toArray, List.set_cons_zero, List.set_cons_succ, List.getElem_toArray, List.getElem_cons_succ, List.getElem_cons_zero]
          refine wpAnyH_take (i := 9) (v := .pointer (some ⟨xb, 0, none⟩)) rfl (by kernel_rfl) (by kernel_rfl) (by kernel_rfl) (fun _ _ _ h => h) (Or.inl ⟨by rfl, fun w hSw => by clear hSw; go_simp⟩) hH ?_
          try simp only [Act.put, List.setIfInBounds_toArray, List.set_cons_zero, List.set_cons_succ, List.getElem_toArray, List.getElem_cons_succ, List.getElem_cons_zero]
          refine wpAnyH_take (i := 10) (v := .pointer (some ⟨xb, 2, none⟩)) rfl (by kernel_rfl) (by kernel_rfl) (by kernel_rfl) (fun _ _ _ h => h) (Or.inl ⟨by rfl, fun w hSw => by clear hSw; go_simp⟩) hH ?_
          try simp only [Act.put, List.setIfInBounds_toArray, List.set_cons_zero, List.set_cons_succ, List.getElem_toArray, List.getElem_cons_succ, List.getElem_cons_zero]
          refine wpAnyH_take (i := 11) (v := .pointer (some ⟨xb, 5, none⟩)) rfl (by kernel_rfl) (by kernel_rfl) (by kernel_rfl) (fun _ _ _ h => h) (Or.inl ⟨by rfl, fun w hSw => by clear hSw; go_simp⟩) hH ?_
          try simp only [Act.put, List.setIfInBounds_toArray, List.set_cons_zero, List.set_cons_succ, List.getElem_toArray, List.getElem_cons_succ, List.getElem_cons_zero]
          refine wpAnyH_take (i := 12) (v := .int .i64 eo) rfl (by kernel_rfl) (by kernel_rfl) (by kernel_rfl) (fun _ _ _ h => h) (Or.inl ⟨by rfl, fun w hSw => by obtain ⟨f0, f1, f2, f3⟩ := (HI3.out.later hSw).sc; clear hSw; rw [HEo.out] at f2; go_simp⟩) hH ?_
          try simp only [Act.put, List.setIfInBounds_toArray, List.set_cons_zero, List.set_cons_succ, List.getElem_toArray, List.getElem_cons_succ, List.getElem_cons_zero]
          refine wpAnyH_take (i := 13) (v := .bool (decide (en < eo))) rfl (by kernel_rfl) (by kernel_rfl) (by kernel_rfl) (fun _ _ _ h => h) (Or.inl ⟨by rfl, fun w hSw => by clear hSw; go_simp⟩) hH ?_
          try simp only [Act.put, List.setIfInBounds_toArray, List.set_cons_zero, List.set_cons_succ, List.getElem_toArray, List.getElem_cons_succ, List.getElem_cons_zero]
          refine wpAnyH_take (i := 14) (v := .bool (decide (en < eo))) rfl (by kernel_rfl) (by kernel_rfl) (by kernel_rfl) (fun _ _ _ h => h) (Or.inl ⟨by rfl, fun w hSw => by clear hSw; go_simp⟩) hH ?_
          try simp only [Act.put, List.setIfInBounds_toArray, List.set_cons_zero, List.set_cons_succ, List.getElem_toArray, List.getElem_cons_succ, List.getElem_cons_zero]
          refine wpAnyH_done (by kernel_rfl) ?_ _
          clear hH
          by_cases hlt : en < eo
          · have HTy : Hid (tyR rs b 0 L (some o) = some L) := (tyR_end HOk.out).trans (updR_lt (by rw [HEn.out, HEo2.out]; exact hlt))
            clear HEo HEo2 HEn
            have HI4 : Hid (TsI xb ad cap rs b (some o) w0 wc.drew) := HI3.out.later (below_drew _)
            have HN4 : Hid (wc.drew.heap[nb]? = some (.cells #[.slice q L.length cq, .slice s (trp rs b L).A.length cs, .int .i64 (trp rs b L).wt, .int .i64 (enR rs b L)] 28 (0, 0))) := ((below_drew wc).block nb (blkLt HN3.out)).trans HN3.out
            have HR4 : Hid (RowI (xb + 1) wc.drew.heap.size wc.drew q L ∧ RowI (xb + 1) wc.drew.heap.size wc.drew s (trp rs b L).A) := ⟨(HR3.out.1.later (below_drew _)).wide (Nat.le_refl _) (below_drew wc).size (Nat.le_refl _), (HR3.out.2.later (below_drew _)).wide (Nat.le_refl _) (below_drew wc).size (Nat.le_refl _)⟩
            have HF4 : Hid (Fr (fun x => x = xb) W wc.drew) := HF3.out.trans (Fr.of (below_drew _))
            generalize wc.drew = wd at *
            obtain ⟨⟨⟨z2, y2⟩, ⟨z3, y3⟩, ⟨z4, y4⟩, ⟨z5, y5⟩, ⟨z6, y6⟩⟩, x2, x3, x4, x5, x6⟩ := HI4.out.wc
            have hn4 := HN4.out
            have t0 := blkCell hn4 0 _ rfl
            have t1 := blkCell hn4 1 _ rfl
            have t2 := blkCell hn4 2 _ rfl
            have t3 := blkCell hn4 3 _ rfl
            simp only [List.getElem_toArray, List.getElem_cons_zero, List.getElem_cons_succ] at t0 t1 t2 t3
            have HP := HI4.out.put cq cs HR4.out.1 HR4.out.2
            have HFp : Fr (fun x => x = xb) W (((((wd.setCell ⟨xb, 2, none⟩ (.slice q L.length cq)).setCell ⟨xb, 3, none⟩ (.slice s (trp rs b L).A.length cs)).setCell ⟨xb, 4, none⟩ (.int .i64 (trp rs b L).wt)).setCell ⟨xb, 5, none⟩ (.int .i64 (enR rs b L))).setCell ⟨xb, 6, none⟩ (.bool true)) := ((((HF4.out.set rfl _ _).set rfl _ _).set rfl _ _).set rfl _ _).set rfl _ _
            have HPp : Hid (TyQ xb ad cap rs b (some L) w0 W (.returned (.tuple #[])) (((((wd.setCell ⟨xb, 2, none⟩ (.slice q L.length cq)).setCell ⟨xb, 3, none⟩ (.slice s (trp rs b L).A.length cs)).setCell ⟨xb, 4, none⟩ (.int .i64 (trp rs b L).wt)).setCell ⟨xb, 5, none⟩ (.int .i64 (enR rs b L))).setCell ⟨xb, 6, none⟩ (.bool true))) := ⟨rfl, HP, HFp⟩
            clear hn4 HP HFp HI3 HN3 HR3 HF3 HI4 HN4 HR4 HF4
            go_wp2
            go_end0
            rw [HTy.out]
            exact HPp.out
          · have HTy : Hid (tyR rs b 0 L (some o) = some o) := (tyR_end HOk.out).trans (updR_ge (by rw [HEn.out, HEo2.out]; exact hlt))
            go_wp2
            go_end0
            rw [HTy.out]
            exact ⟨rfl, HI3.out.later (below_drew _), HF3.out.trans (Fr.of (below_drew _))⟩
      · obtain ⟨k, rfl⟩ : ∃ k', k = k' + 1 := ⟨k - 1, by omega⟩
        have heq : ((L.length : Int) == (rs.length : Int)) = false := by rw [beq_eq_false_iff_ne]; omega
        have HTy : Hid (tyR rs b (k + 1) L B = stR rs b k L B rs.length) := tyR_more HOk.out
        have HT3 : Hid (TsI xb ad cap rs b (stR rs b k L B 0) w0 wc ∧ OrdI xb wc ao L ∧ Fr (fun x => x = xb) W wc) := by rw [stR_zero]; exact ⟨HI3.out, HO3.out, HF3.out⟩
        obtain ⟨i0, hi0, hzz⟩ := Option.map_eq_some_iff.1 intInf
        simp only [Prod.mk.injEq] at hzz
        obtain ⟨hi1, hi2, hi3⟩ := hzz
        have HOne : Hid (∀ u ∈ inV L, u.oneCell' = true) := fun u hu => by
          obtain ⟨z, _, rfl⟩ := List.mem_map.1 hu
          rfl
        have HLl : Hid (L.length < rs.length ∧ rs.length ≤ 7) := ⟨by omega, h7⟩
        have HLk : Hid (L.length + (k + 1) = rs.length) := hl
        clear HN3 HR3 HI3 HO3 HF3 hb3 hl hk hxl
        go_wp2
        go_loopw [6, 7, 8] (fun c _ _ wr => ∃ i : Nat, i ≤ rs.length ∧ c = .int .i64 (i : Int) ∧ (TsI xb ad cap rs b (stR rs b k L B i) w0 wr ∧ OrdI xb wr ao L ∧ Fr (fun x => x = xb) W wr)) (fun c _ _ _ => rs.length - (intOf c).toNat)
        case atStart => exact ⟨0, Nat.zero_le _, rfl, HT3.out⟩
        case round =>
          clear HT3 c0 c1 c2 c3
          obtain ⟨i, hi, rfl, hT⟩ := hrel
          have HT : Hid (TsI xb ad cap rs b (stR rs b k L B i) w0 wr ∧ OrdI xb wr ao L ∧ Fr (fun x => x = xb) W wr) := hT
          clear hT
          obtain ⟨c0, c1, c2, c3⟩ := HT.out.1.sc
          by_cases hlt : i < rs.length
          · have hlt' : (i : Int) < (rs.length : Int) := by omega
            have hL7 : L.length ≤ 7 := by have := HLl.out; omega
            go_wp2
            go_loopw [7, 8] (fun th c wq => ∃ j : Nat, j ≤ L.length ∧ c = .int .i64 (j : Int) ∧ th = .bool (hasI (L.take j) (i : Int)) ∧ wr = wq) (fun _ c _ => L.length - (intOf c).toNat)
            case atStart => exact ⟨0, Nat.zero_le _, rfl, rfl, rfl⟩
            case round =>
              obtain ⟨j, hj, rfl, rfl, rfl⟩ := hrel
              by_cases hlj : j < L.length
              · have hlj' : (j : Int) < (L.length : Int) := by omega
                rcases HT.out.2.1 with h | ⟨b1, o1, rfl, _, ia⟩
                · rw [h] at hlj; simp at hlj
                have d1 := ia j hlj
                have hnx := hasI_take (L := L) (j := j) (d := (i : Int)) hlj
                obtain ⟨d, hd⟩ : ∃ d, L.getD j 0 = d := ⟨_, rfl⟩
                rw [hd] at d1 hnx
                have HNx : Hid (hasI (L.take (j + 1)) (i : Int) = (hasI (L.take j) (i : Int) || decide (d = (i : Int)))) := hnx
                clear ia hnx hd
                cases hth : hasI (L.take j) (i : Int)
                · rw [hth, Bool.false_or] at HNx
                  by_cases hdi : d = (i : Int)
                  · have hdb : (d == (i : Int)) = true := by simp [hdi]
                    have HN2 : Hid (hasI (L.take (j + 1)) (i : Int) = true) := by show _ = _; rw [HNx.out]; simp [hdi]
                    clear hdi
                    go_wp2
                    exact ⟨⟨j + 1, by omega, by go_num, by rw [HN2.out], trivial⟩, by simp [intOf]; omega⟩
                  · have hdb : (d == (i : Int)) = false := by simp [hdi]
                    have HN2 : Hid (hasI (L.take (j + 1)) (i : Int) = false) := by show _ = _; rw [HNx.out]; simp [hdi]
                    go_wp2
                    exact ⟨⟨j + 1, by omega, by go_num, by rw [HN2.out], trivial⟩, by simp [intOf]; omega⟩
                · have HN2 : Hid (hasI (L.take (j + 1)) (i : Int) = true) := by show _ = _; rw [HNx.out, hth, Bool.true_or]
                  go_wp2
                  exact ⟨⟨j + 1, by omega, by go_num, by rw [HN2.out], trivial⟩, by simp [intOf]; omega⟩
              · have hle : (L.length : Int) ≤ (j : Int) := by omega
                obtain rfl : j = L.length := by omega
                rw [List.take_length]
                cases hh : hasI L (i : Int)
                · have HIH : Hid (∀ (g1 c1 : Nat) (V : World), V.ownsRow wr.heap.size 3 1 (.slice (some ⟨g1, 0, none⟩) (L.length + 1) c1) (L.length + 1) (inV (L ++ [(i : Int)])) → Below wr.heap.size wr V → Calls Try.prog 35 #[.pointer (some ⟨xb, 0, none⟩), .slice (some ⟨g1, 0, none⟩) (L.length + 1) c1] V fun e wr => e = .returned (.tuple #[]) ∧ (TsI xb ad cap rs b (stR rs b k L B (i + 1)) w0 wr ∧ OrdI xb wr ao L ∧ Fr (fun x => x = xb) W wr)) := fun g1 c1 V hv hbv => by
                    have e1 : (L ++ [(i : Int)]).length = L.length + 1 := by simp
                    have hx : xb < wr.heap.size := by obtain ⟨q, cq, s, cs, h1, _⟩ := HT.out.1.se; exact blkLt h1
                    have hg := row_lt hv g1 rfl
                    have hord : OrdI xb V (some ⟨g1, 0, none⟩) (L ++ [(i : Int)]) := .inr ⟨g1, 0, rfl, ⟨hg.2, by omega⟩, row_at (by rw [e1]; exact hv)⟩
                    have := IH.out k rfl (L ++ [(i : Int)]) (stR rs b k L B i) (some ⟨g1, 0, none⟩) c1 V (by have := HLk.out; rw [e1]; omega) (fun j hj => by
                      rw [e1] at hj
                      by_cases hj2 : j < L.length
                      · obtain ⟨m, hm, e⟩ := HIn.out j hj2
                        exact ⟨m, hm, by rw [← e]; simp [List.getD_eq_getElem?_getD, List.getElem?_append_left hj2]⟩
                      · obtain rfl : j = L.length := by omega
                        exact ⟨i, hlt, by simp [List.getD_eq_getElem?_getD]⟩) hord (HT.out.1.later hbv)
                    rw [e1] at this
                    refine this.mono (fun e w' h => ?_)
                    obtain ⟨h1, h2, h3⟩ := h
                    have hf : Fr (fun x => x = xb) wr w' := (Fr.of hbv).trans h3
                    exact ⟨h1, by rw [stR_take hh]; exact h2, HT.out.2.1.fr hf, HT.out.2.2.trans hf⟩
                  have HS1 : Hid ((wr.alloc (Obj.cells #[] 3)).ownsRow wr.heap.size 3 1 (.slice (some ⟨wr.heap.size, 0, none⟩) 0 0) 0 []) := ⟨rfl, .inr ⟨wr.heap.size, 0, #[], rfl, Nat.le_refl _, heapNew _ _, Nat.le_refl _, by unfold maxLen; omega, rfl, rfl⟩⟩
                  have HNw : Hid (0 < L.length → ∃ ad, ao = some ad ∧ ∀ j u, (inV L)[j]? = some u → (wr.alloc (Obj.cells #[] 3)).cell? (ad.add j) = some u) := fun h0 => by
                    rcases HT.out.2.1 with h | ⟨b1, o1, rfl, ⟨hb1, _⟩, ia⟩
                    · rw [h] at h0; simp at h0
                    · refine ⟨_, rfl, fun j u hu => ?_⟩
                      have hj : j < L.length := by
                        have := (List.getElem?_eq_some_iff.1 hu).1
                        simpa [inV] using this
                      have := (ia.below (below_alloc wr (Obj.cells #[] 3)) hb1) j hj
                      rw [Go.WideShapes.add_plain, this]
                      simp [inV, hj] at hu
                      simp [List.getD_eq_getElem?_getD, hj, hu]
                  clear HT
                  clear c0 c1 c2 c3
                  go_wp2_with (at_builtin; first | (refine wpList_append_any rfl _ _ 24 rfl wr.heap.size 3 i0 (.int .i64 0) 1 8 Try.underlying24 hi0 hi1 hi2 hi3 rfl (by decide) _ _ _ rfl HS1.out ao L.length co (inV L) rfl (by simp [inV]) HNw.out HOne.out (by unfold maxLen; omega) (by omega) (by simp) ?_; intro va vc w2 hown hgrow hat; simp only [Nat.zero_add, List.nil_append] at hown ⊢; have H2 : Hid (w2.ownsRow wr.heap.size 3 1 (.slice va L.length vc) L.length (inV L) ∧ Below wr.heap.size wr w2) := ⟨hown, (below_alloc wr (Obj.cells #[] 3)).grown hgrow (by simp) (fun q hq => (row_lt HS1.out q hq).1)⟩; clear hown hgrow hat) | (refine wpList_int1 rfl _ _ rfl wr.heap.size va vc L (i : Int) (w2.alloc (Obj.cells #[.int .i64 (i : Int)] 3)) rfl (H2.out.1.alloc _) w2.heap.size rfl (cellNew _ _ _ _ rfl rfl) (by omega) (by have := H2.out.2.size; simp; omega) ?_; intro g1 c1 w3 hr1 hr2 hg hg1; have H3 : Hid (w3.ownsRow wr.heap.size 3 1 (.slice (some ⟨g1, 0, none⟩) (L.length + 1) c1) (L.length + 1) (inV (L ++ [(i : Int)])) ∧ Below wr.heap.size wr w3) := ⟨hr1, (chain H2.out.2 (below_alloc _ _)).grown hg (by have := H2.out.2.size; simp; omega) (fun q hq => (row_lt H2.out.1 q hq).1)⟩; clear hr1 hr2 hg hg1))
                  (first | go_at_call 35 | skip)
                  refine (HIH.out g1 c1 w3 H3.out.1 H3.out.2).mono ?_
                  rintro e w4 ⟨rfl, hT4⟩
                  have HT4 : Hid (TsI xb ad cap rs b (stR rs b k L B (i + 1)) w0 w4 ∧ OrdI xb w4 ao L ∧ Fr (fun x => x = xb) W w4) := hT4
                  clear hT4 HIH HS1 HNw H2 H3
                  go_wp2
                  exact ⟨⟨i + 1, by omega, by go_num, HT4.out⟩, by simp [intOf]; omega⟩
                · have HT4 : Hid (TsI xb ad cap rs b (stR rs b k L B (i + 1)) w0 wr ∧ OrdI xb wr ao L ∧ Fr (fun x => x = xb) W wr) := by refine (show _ ∧ _ ∧ _ from ⟨?_, HT.out.2⟩); rw [stR_skip hh]; exact HT.out.1
                  clear HT
                  go_wp2
                  exact ⟨⟨i + 1, by omega, by go_num, HT4.out⟩, by simp [intOf]; omega⟩
          · have hle : (rs.length : Int) ≤ (i : Int) := by omega
            obtain rfl : i = rs.length := by omega
            go_wp2
            go_end0
            rw [HTy.out]
            exact ⟨rfl, HT.out.1, HT.out.2.2⟩
theorem try_any (xb : Nat) (ad : Option Addr) (cap : Nat) (rs : List RHp) (b : Int) (h7 : rs.length ≤ 7) (hs : hpsB rs = true) (hb : 0 ≤ b ∧ b ≤ 100000) (w0 : World) (hr : ReadsHp w0.heap.size w0 ad rs) : ∀ (k : Nat) (L : List Int) (B : Option (List Int)) (ao : Option Addr) (co : Nat) (W : World), L.length + k = rs.length → (∀ j, j < L.length → ∃ m : Nat, m < rs.length ∧ L.getD j 0 = (m : Int)) → OrdI xb W ao L → TsI xb ad cap rs b (B) w0 W →
    Calls Try.prog 35 #[.pointer (some ⟨xb, 0, none⟩), .slice ao L.length co] W (TyQ xb ad cap rs b (tyR rs b k L B) w0 W) := by
  intro k
  induction k with
  | zero => exact try_step xb ad cap rs b h7 hs hb w0 hr 0 (fun k' h => by omega)
  | succ k ih => exact try_step xb ad cap rs b h7 hs hb w0 hr (k + 1) (fun k' h => by
      obtain rfl : k' = k := by omega
      exact ih)
end Go.Proofs.Ytoogphkojofkfaa

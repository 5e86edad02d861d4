/-
  Contracts of the program's markSearch.choice, markSearch.choose, best: the whole search.
-/
import Derived.Test.YtlcnhkhkhlpghaaMrB
namespace Go.Proofs.Ytlcnhkhkhlpghaa
open Go.ChangeShapes Go.WideShapes Go.ChangeAt Go.RowKit Go.Deep
set_option linter.unusedVariables false

theorem fieldCh0 (a b : Int) (w : World) : (Instr.field 81 (.agg #[.int .i64 a, .int .i64 b]) 0).run Try.prog w = .ok (.int .i64 a) w := by kernel_rfl
theorem fieldCh1 (a b : Int) (w : World) : (Instr.field 81 (.agg #[.int .i64 a, .int .i64 b]) 1).run Try.prog w = .ok (.int .i64 b) w := by kernel_rfl
/-- The choice of step s on a day with k days behind it. -/
def CcP (C : Mx) (k : Nat) : Prop := ∀ (d s : Nat) (s0 l : Int) (n : Nat) (W : World), d + (k + 1) = C.cs.length → s < C.N → 0 ≤ l → l ≤ 200 → Env C n W → n + cB k ≤ 9000000 →
  Calls Try.prog 65 #[C.sv, .agg #[.int .i64 (d : Int), .int .i64 s0, .int .i64 l], .int .i64 (s : Int)] W fun e w' => e = .returned (.agg #[.int .i64 (s : Int), .int .i64 (wo C.prs C.cs C.N k s l)]) ∧ ∃ n', n' ≤ n + cB k ∧ Env C n' w' ∧ Fr (fun q => q = C.kb) W w'
set_option maxHeartbeats 4000000 in
theorem choice_of (C : Mx) (k : Nat) (hok : MrOK C.prs C.cs C.N) (hB : BsP C k) : CcP C k := fun d s s0 l n W hd hs hl hl' hE hn => by
  have hdl : d < C.cs.length := by omega
  have hc7 := hok.cl.2
  have hN5 := hok.n1.2
  have hdk : C.cs.length - (k + 1) = d := by omega
  obtain ⟨⟨so1, so2⟩, so3, so4⟩ := hok.so hdl hs hl hl'
  have HSo : Hid (∀ W', Reads C.kb W' (some ⟨C.pb, 0, none⟩) C.prs → ReadsDm W'.heap.size W' C.da C.cs → Calls Try.prog 53 #[.agg #[.slice (some ⟨C.pb, 0, none⟩) C.N C.pc, .slice C.da C.cs.length C.dc], .int .i64 (d : Int), .int .i64 (s : Int), .int .i64 l] W' fun e w' => e = .returned (.int .i64 (soA C.cs d s l)) ∧ Below W'.heap.size W' w') := fun W' _ h => lsold_any _ _ _ C.da C.dc C.cs hc7 d s hdl (by rw [hok.cr d hdl]; exact hs) (by rw [hok.cr d hdl]; exact hN5) l W' h
  have HBe : Hid (∀ W', ReadsDm W'.heap.size W' C.da C.cs → Calls Try.prog 56 #[.agg #[.slice (some ⟨C.pb, 0, none⟩) C.N C.pc, .slice C.da C.cs.length C.dc], .agg #[.int .i64 (d : Int), .int .i64 s0, .int .i64 l], .int .i64 (s : Int)] W' fun e w' => e = .returned (.agg #[.int .i64 ((d + 1 : Nat) : Int), .int .i64 (s : Int), .int .i64 (l - soA C.cs d s l)]) ∧ Below W'.heap.size W' w') := fun W' h => behind_any _ _ _ C.da C.dc C.cs hc7 C.N hN5 d s hdl (hok.cr d hdl) hs s0 l ⟨hl, hl'⟩ ⟨so1, so2⟩ W' h
  have HBs : Hid (∀ W', Env C n W' → Calls Try.prog 55 #[C.sv, .agg #[.int .i64 ((d + 1 : Nat) : Int), .int .i64 (s : Int), .int .i64 (l - soA C.cs d s l)]] W' fun e w' => e = .returned (chV (chz C.prs C.cs C.N k s (l - soA C.cs d s l))) ∧ ∃ n', n' ≤ n + cB k ∧ Env C n' w' ∧ Fr (fun q => q = C.kb) W' w') := fun W' h => hB (d + 1) s (l - soA C.cs d s l) n W' (by omega) hs (by omega) (by omega) h hn
  have HWo : Hid (wo C.prs C.cs C.N k s l = soA C.cs d s l * C.prs.getD s 0 + (chz C.prs C.cs C.N k s (l - soA C.cs d s l)).2) := by show _ = _; unfold wo; rw [hdk]
  obtain ⟨⟨b1, b2⟩, _⟩ := chz_bounds hok k s (l - soA C.cs d s l) (by omega) hs (by omega) (by omega)
  have hb3 : (chz C.prs C.cs C.N k s (l - soA C.cs d s l)).2 ≤ 1400000000 := by omega
  have HP : Hid (∀ W', Below C.kb W W' → W'.cell? ⟨C.pb, s, none⟩ = some (.int .i64 (C.prs.getD s 0))) := fun W' hb => by
    rcases hE.rp with h | ⟨b', o', e', hB', ia⟩
    · have := hok.pl; rw [h] at this; simp at this; omega
    · cases e'
      have := (ia.below hb hB') s (by rw [hok.pl]; exact hs)
      rwa [Nat.zero_add] at this
  have HE : Hid (Env C n W) := hE
  have hkb := hE.mm.lt
  clear hB hE hok hdk b2
  unfold chV at HBs
  unfold Mx.sv at HBs ⊢
  generalize wo C.prs C.cs C.N k s l = wv at *
  generalize chz C.prs C.cs C.N k s (l - soA C.cs d s l) = c at *
  generalize soA C.cs d s l = so at *
  generalize C.prs.getD s 0 = px at *
  obtain ⟨c1, c2⟩ := c
  dsimp only at *
  obtain rfl : wv = so * px + c2 := HWo.out
  clear HWo
  have hw1 : IntKind.i64.wrap (so * px) = so * px := wrap_id _ (by omega) (by omega)
  have hw2 : IntKind.i64.wrap (so * px + c2) = so * px + c2 := wrap_id _ (by omega) (by omega)
  clear so3 so4 b1 hb3
  have hsN : (s : Int) < (C.N : Int) := by omega
  obtain ⟨W0, hW0⟩ : ∃ W0, W0 = ((W.alloc (Obj.cells #[.slice (some ⟨C.pb, 0, none⟩) C.N C.pc, .slice C.da C.cs.length C.dc, .map (some C.kb)] 83)).alloc (Obj.cells #[.int .i64 (d : Int), .int .i64 s0, .int .i64 l] 79)).alloc (Obj.cells #[.int .i64 0, .int .i64 0] 81) := ⟨_, rfl⟩
  obtain ⟨D, hD⟩ : ∃ D, D = W.heap.size := ⟨_, rfl⟩
  have HW0 : Hid (W0 = ((W.alloc (Obj.cells #[.slice (some ⟨C.pb, 0, none⟩) C.N C.pc, .slice C.da C.cs.length C.dc, .map (some C.kb)] 83)).alloc (Obj.cells #[.int .i64 (d : Int), .int .i64 s0, .int .i64 l] 79)).alloc (Obj.cells #[.int .i64 0, .int .i64 0] 81) ∧ D = W.heap.size) := ⟨hW0, hD⟩
  have HB0 : Hid (Below W.heap.size W W0) := by show Below _ _ _; rw [hW0]; exact chain (chain (below_alloc _ _) (below_alloc _ _)) (below_alloc _ _)
  have HQ : Hid (∀ X, Fr (fun q => q = C.kb) W0 X → (X.cell? ⟨D, 0, none⟩ = some (.slice (some ⟨C.pb, 0, none⟩) C.N C.pc) ∧ X.cell? ⟨D, 1, none⟩ = some (.slice C.da C.cs.length C.dc) ∧ X.cell? ⟨D, 2, none⟩ = some (.map (some C.kb))) ∧ (X.cell? ⟨D + 1, 0, none⟩ = some (.int .i64 (d : Int)) ∧ X.cell? ⟨D + 1, 1, none⟩ = some (.int .i64 s0) ∧ X.cell? ⟨D + 1, 2, none⟩ = some (.int .i64 l)) ∧ X.heap[D + 1 + 1]? = some (.cells #[.int .i64 0, .int .i64 0] 81 (0, 0))) := fun X hf => by
    obtain ⟨f1, f2, f3⟩ := three_alloc W (Obj.cells #[.slice (some ⟨C.pb, 0, none⟩) C.N C.pc, .slice C.da C.cs.length C.dc, .map (some C.kb)] 83) (Obj.cells #[.int .i64 (d : Int), .int .i64 s0, .int .i64 l] 79) (Obj.cells #[.int .i64 0, .int .i64 0] 81)
    rw [← hW0, ← hD] at f1 f2 f3
    have g1 := (hf.block _ (blkLt f1) (by omega)).trans f1
    have g2 := (hf.block _ (blkLt f2) (by omega)).trans f2
    exact ⟨⟨blkCell g1 0 _ rfl, blkCell g1 1 _ rfl, blkCell g1 2 _ rfl⟩, ⟨blkCell g2 0 _ rfl, blkCell g2 1 _ rfl, blkCell g2 2 _ rfl⟩, (hf.block _ (blkLt f3) (by omega)).trans f3⟩
  have HE0 : Hid (Env C n W0) := HE.out.later HB0.out
  have HRd : Hid (∀ n' X, Env C n' X → ReadsDm X.heap.size X C.da C.cs) := fun n' X h => h.rd.mono (Nat.le_of_lt h.mm.lt)
  have hDw : W.heap.size ≤ D := by rw [hD]; exact Nat.le_refl _
  have hkD : C.kb < D := by rw [hD]; exact hkb
  clear hW0 hD HE
  go_enter Try.func65, Try.ntmps65
  go_upto_region 1 with fail
  rw [← HW0.out.1, ← HW0.out.2]
  clear HW0
  obtain ⟨⟨x0, x1, x2⟩, ⟨k0, k1, k2⟩, _⟩ := HQ.out W0 (Fr.refl _ _)
  go_upto_region 2 with (go_at_call 53; refine (HSo.out W0 HE0.out.rp (HRd.out _ _ HE0.out)).mono ?_; rintro e w1 ⟨rfl, hb1⟩; have HB1 : Hid (Below W0.heap.size W0 w1) := hb1; clear hb1)
  clear x0 x1 x2 k0 k1 k2 HSo
  have HE1 : Hid (Env C n w1) := HE0.out.later HB1.out
  have HPw : Hid (∀ X, Fr (fun q => q = C.kb) W0 X → X.cell? ⟨C.pb, s, none⟩ = some (.int .i64 px)) := fun X hf => HP.out X (((HB0.out).mono (Nat.le_of_lt hkb)).trans (fr_low hf HE0.out.mm.lt))
  have HF1 : Hid (Fr (fun q => q = C.kb) W0 w1) := Fr.of HB1.out
  refine wp_region_z (S := fun X => Fr (fun q => q = C.kb) w1 X) 19 (by kernel_rfl) (Fr.of (below_drew _)) (fun hH => ?_)
  refine wpAnyZ_take (i := 0) (v := .int .i64 (s : Int)) rfl (by kernel_rfl) (by kernel_rfl) (by kernel_rfl) (by kernel_rfl) (fun _ _ _ h => h) (Or.inl ⟨by rfl, fun w hSw => by clear hSw; go_simp⟩) hH ?_
  refine wpAnyZ_take (i := 1) (v := .int .i64 so) rfl (by kernel_rfl) (by kernel_rfl) (by kernel_rfl) (by kernel_rfl) (fun _ _ _ h => h) (Or.inl ⟨by rfl, fun w hSw => by clear hSw; go_simp⟩) hH ?_
  try simp only [Act.put, List.setIfInBounds_toArray, List.set_cons_zero, List.set_cons_succ, List.getElem_toArray, List.getElem_cons_succ, List.getElem_cons_zero]
  refine wpAnyZ_take (i := 2) (v := .pointer (some ⟨D, 0, none⟩)) rfl (by kernel_rfl) (by kernel_rfl) (by kernel_rfl) (by kernel_rfl) (fun _ _ _ h => h) (Or.inl ⟨by rfl, fun w hSw => by clear hSw; go_simp⟩) hH ?_
  try simp only [Act.put, List.setIfInBounds_toArray, List.set_cons_zero, List.set_cons_succ, List.getElem_toArray, List.getElem_cons_succ, List.getElem_cons_zero]
  refine wpAnyZ_take (i := 3) (v := .pointer (some ⟨D, 0, none⟩)) rfl (by kernel_rfl) (by kernel_rfl) (by kernel_rfl) (by kernel_rfl) (fun _ _ _ h => h) (Or.inl ⟨by rfl, fun w hSw => by clear hSw; go_simp⟩) hH ?_
  try simp only [Act.put, List.setIfInBounds_toArray, List.set_cons_zero, List.set_cons_succ, List.getElem_toArray, List.getElem_cons_succ, List.getElem_cons_zero]
  refine wpAnyZ_take (i := 4) (v := .slice (some ⟨C.pb, 0, none⟩) C.N C.pc) rfl (by kernel_rfl) (by kernel_rfl) (by kernel_rfl) (by kernel_rfl) (fun _ _ _ h => h) (Or.inl ⟨by rfl, fun w hSw => by obtain ⟨⟨f0, f1, f2⟩, _⟩ := HQ.out w (HF1.out.trans hSw); clear hSw; go_simp⟩) hH ?_
  try simp only [Act.put, List.setIfInBounds_toArray, List.set_cons_zero, List.set_cons_succ, List.getElem_toArray, List.getElem_cons_succ, List.getElem_cons_zero]
  refine wpAnyZ_take (i := 5) (v := .int .i64 (s : Int)) rfl (by kernel_rfl) (by kernel_rfl) (by kernel_rfl) (by kernel_rfl) (fun _ _ _ h => h) (Or.inl ⟨by rfl, fun w hSw => by clear hSw; go_simp⟩) hH ?_
  try simp only [Act.put, List.setIfInBounds_toArray, List.set_cons_zero, List.set_cons_succ, List.getElem_toArray, List.getElem_cons_succ, List.getElem_cons_zero]
  refine wpAnyZ_take (i := 6) (v := .pointer (some ⟨C.pb, s, none⟩)) rfl (by kernel_rfl) (by kernel_rfl) (by kernel_rfl) (by kernel_rfl) (fun _ _ _ h => h) (Or.inl ⟨by rfl, fun w hSw => by clear hSw; go_simp⟩) hH ?_
  try simp only [Act.put, List.setIfInBounds_toArray, List.set_cons_zero, List.set_cons_succ, List.getElem_toArray, List.getElem_cons_succ, List.getElem_cons_zero]
  refine wpAnyZ_take (i := 7) (v := .int .i64 px) rfl (by kernel_rfl) (by kernel_rfl) (by kernel_rfl) (by kernel_rfl) (fun _ _ _ h => h) (Or.inl ⟨by rfl, fun w hSw => by have f := HPw.out w (HF1.out.trans hSw); clear hSw; go_simp⟩) hH ?_
  try simp only [Act.put, List.setIfInBounds_toArray, List.set_cons_zero, List.set_cons_succ, List.getElem_toArray, List.getElem_cons_succ, List.getElem_cons_zero]
  refine wpAnyZ_take (i := 8) (v := .int .i64 (so * px)) rfl (by kernel_rfl) (by kernel_rfl) (by kernel_rfl) (by kernel_rfl) (fun _ _ _ h => h) (Or.inl ⟨by rfl, fun w hSw => by have f0 := hw1; clear hSw; go_simp⟩) hH ?_
  try simp only [Act.put, List.setIfInBounds_toArray, List.set_cons_zero, List.set_cons_succ, List.getElem_toArray, List.getElem_cons_succ, List.getElem_cons_zero]
  refine wpAnyZ_take (i := 9) (v := .agg #[.slice (some ⟨C.pb, 0, none⟩) C.N C.pc, .slice C.da C.cs.length C.dc, .map (some C.kb)]) rfl (by kernel_rfl) (by kernel_rfl) (by kernel_rfl) (by kernel_rfl) (fun _ _ _ h => h) (Or.inl ⟨by rfl, fun w hSw => by obtain ⟨⟨f0, f1, f2⟩, _⟩ := HQ.out w (HF1.out.trans hSw); clear hSw; go_simp⟩) hH ?_
  try simp only [Act.put, List.setIfInBounds_toArray, List.set_cons_zero, List.set_cons_succ, List.getElem_toArray, List.getElem_cons_succ, List.getElem_cons_zero]
  refine wpAnyZ_take (i := 10) (v := .pointer (some ⟨D, 0, none⟩)) rfl (by kernel_rfl) (by kernel_rfl) (by kernel_rfl) (by kernel_rfl) (fun _ _ _ h => h) (Or.inl ⟨by rfl, fun w hSw => by clear hSw; go_simp⟩) hH ?_
  try simp only [Act.put, List.setIfInBounds_toArray, List.set_cons_zero, List.set_cons_succ, List.getElem_toArray, List.getElem_cons_succ, List.getElem_cons_zero]
  refine wpAnyZ_take (i := 11) (v := .agg #[.slice (some ⟨C.pb, 0, none⟩) C.N C.pc, .slice C.da C.cs.length C.dc]) rfl (by kernel_rfl) (by kernel_rfl) (by kernel_rfl) (by kernel_rfl) (fun _ _ _ h => h) (Or.inl ⟨by rfl, fun w hSw => by obtain ⟨⟨f0, f1, f2⟩, _⟩ := HQ.out w (HF1.out.trans hSw); clear hSw; go_simp⟩) hH ?_
  try simp only [Act.put, List.setIfInBounds_toArray, List.set_cons_zero, List.set_cons_succ, List.getElem_toArray, List.getElem_cons_succ, List.getElem_cons_zero]
  refine wpAnyZ_take (i := 12) (v := .agg #[.int .i64 (d : Int), .int .i64 s0, .int .i64 l]) rfl (by kernel_rfl) (by kernel_rfl) (by kernel_rfl) (by kernel_rfl) (fun _ _ _ h => h) (Or.inl ⟨by rfl, fun w hSw => by obtain ⟨_, ⟨f0, f1, f2⟩, _⟩ := HQ.out w (HF1.out.trans hSw); clear hSw; go_simp⟩) hH ?_
  try simp only [Act.put, List.setIfInBounds_toArray, List.set_cons_zero, List.set_cons_succ, List.getElem_toArray, List.getElem_cons_succ, List.getElem_cons_zero]
  refine wpAnyZ_take (i := 13) (v := .int .i64 (s : Int)) rfl (by kernel_rfl) (by kernel_rfl) (by kernel_rfl) (by kernel_rfl) (fun _ _ _ h => h) (Or.inl ⟨by rfl, fun w hSw => by clear hSw; go_simp⟩) hH ?_
  try simp only [Act.put, List.setIfInBounds_toArray, List.set_cons_zero, List.set_cons_succ, List.getElem_toArray, List.getElem_cons_succ, List.getElem_cons_zero]
  refine wpAnyZ_ready (rs := [14]) (by kernel_rfl) (by simp) ?_
  refine AllReadyZ.cons rfl (fun K hK => ?_) AllReadyZ.nil
  go_simp
  go_at_call 56
  refine (HBe.out _ (HRd.out n _ (HE1.out.later (below_drew _)))).mono ?_
  rintro e w2 ⟨rfl, hb2⟩
  have h2 : Fr (fun q => q = C.kb) w1 w2 := hH.trans (Fr.of hb2)
  have HE2 : Hid (Env C n w2) := (HE1.out.later (below_drew _)).later hb2
  clear hb2
  refine hK.out _ _ (Or.inr h2) (fun _ => ?_)
  clear hK K
  try simp only [Act.put, List.setIfInBounds_toArray, List.set_cons_zero, List.set_cons_succ, List.getElem_toArray, List.getElem_cons_succ, List.getElem_cons_zero]
  refine wpAnyZ_ready (rs := [15]) (by kernel_rfl) (by simp) ?_
  refine AllReadyZ.cons rfl (fun K hK => ?_) AllReadyZ.nil
  go_simp
  go_at_call 55
  refine (HBs.out w2 HE2.out).mono ?_
  rintro e w3 ⟨rfl, n3, hn3, hE3, hf3⟩
  have h3 : Fr (fun q => q = C.kb) w1 w3 := h2.trans hf3
  have HE3 : Hid (Env C n3 w3) := hE3
  clear hE3 hf3
  refine hK.out _ _ (Or.inr h3) (fun _ => ?_)
  clear hK K
  try simp only [Act.put, List.setIfInBounds_toArray, List.set_cons_zero, List.set_cons_succ, List.getElem_toArray, List.getElem_cons_succ, List.getElem_cons_zero]
  refine wpAnyZ_take (i := 16) (v := .int .i64 c2) rfl (by kernel_rfl) (by kernel_rfl) (by kernel_rfl) (by kernel_rfl) (fun _ _ _ h => h) (Or.inl ⟨by rfl, fun w hSw => by have f0 := fieldCh1 (c1 : Int) c2 w; clear hSw; go_simp⟩) h3 ?_
  try simp only [Act.put, List.setIfInBounds_toArray, List.set_cons_zero, List.set_cons_succ, List.getElem_toArray, List.getElem_cons_succ, List.getElem_cons_zero]
  refine wpAnyZ_take (i := 17) (v := .int .i64 (so * px + c2)) rfl (by kernel_rfl) (by kernel_rfl) (by kernel_rfl) (by kernel_rfl) (fun _ _ _ h => h) (Or.inl ⟨by rfl, fun w hSw => by have f0 := hw2; clear hSw; go_simp⟩) h3 ?_
  try simp only [Act.put, List.setIfInBounds_toArray, List.set_cons_zero, List.set_cons_succ, List.getElem_toArray, List.getElem_cons_succ, List.getElem_cons_zero]
  refine wpAnyZ_take (i := 18) (v := .agg #[.int .i64 (s : Int), .int .i64 (so * px + c2)]) rfl (by kernel_rfl) (by kernel_rfl) (by kernel_rfl) (by kernel_rfl) (fun _ _ _ h => h) (Or.inl ⟨by rfl, fun w hSw => by clear hSw; go_simp⟩) h3 ?_
  try simp only [Act.put, List.setIfInBounds_toArray, List.set_cons_zero, List.set_cons_succ, List.getElem_toArray, List.getElem_cons_succ, List.getElem_cons_zero]
  refine wpAnyZ_ready (rs := [19]) (by kernel_rfl) (by simp) ?_
  refine AllReadyZ.cons rfl (fun K hK => ?_) AllReadyZ.nil
  have hx := (HQ.out w3 (HF1.out.trans h3)).2.2
  have z0 := blkCell hx 0 _ rfl
  have z1 := blkCell hx 1 _ rfl
  have y0 := blkFree hx 0
  have y1 := blkFree hx 1
  simp only [List.getElem_toArray, List.getElem_cons_zero, List.getElem_cons_succ] at z0 z1
  have HF3 : Hid (Fr (fun q => q = C.kb) W w3) := ((Fr.of HB0.out).trans HF1.out).trans h3
  clear hx h2 h3 hH HQ HBe HBs HPw HP
  go_simp
  refine hK.out _ _ (Or.inl rfl) (fun _ => ?_)
  clear hK K
  try simp only [Act.put, List.setIfInBounds_toArray, List.set_cons_zero, List.set_cons_succ, List.getElem_toArray, List.getElem_cons_succ, List.getElem_cons_zero]
  refine wpAnyZ_done (by kernel_rfl) ?_ _
  go_wp2_with fail
  refine bodyPost_ret (v := .agg #[.int .i64 (s : Int), .int .i64 (so * px + c2)]) (by simp [results, Try.results65, go_sem, z0, z1]) rfl ⟨rfl, n3, hn3, ?_, ?_⟩
  · exact (HE3.out.but (by omega) _ _).but (by omega) _ _
  · exact ((HF3.out.setNew (by omega) _ _).setNew (by omega) _ _)
end Go.Proofs.Ytlcnhkhkhlpghaa

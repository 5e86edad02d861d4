/-
  The program's hold, setFree, waste, count and doToLot.
-/
import Derived.Test.YtlfcaijhlgldnaaKmL
namespace Go.Proofs.Ytlfcaijhlgldnaa
open Go.ChangeShapes Go.WideShapes Go.ChangeAt Go.RowKit Go.Deep
set_option linter.unusedVariables false

theorem ObP.pass {B rb mb ub : Nat} {σ σ' : StS} {ov : Value} {w W w' : World} {c n : Int} {e : Ending} {u0 u1 : Value} (hR : Rn B rb mb ub σ ov W) (hb : Below w.heap.size w W) {b : Nat} (hbw : w.heap.size ≤ b) (hob : W.heap[b]? = some (.cells #[u0, u1] 36 (0, 0))) (h : ObP B rb mb ub ov W c n σ' e w') :
    w'.heap[b]? = some (.cells #[u0, u1] 36 (0, 0)) ∧ ObP B rb mb ub ov w c n σ' e ((w'.setCell ⟨b, 0, none⟩ (.int .i64 c)).setCell ⟨b, 1, none⟩ (.int .i64 n)) ∧ ((w'.setCell ⟨b, 0, none⟩ (.int .i64 c)).setCell ⟨b, 1, none⟩ (.int .i64 n)).heap[b]? = some (.cells #[.int .i64 c, .int .i64 n] 36 (0, 0)) := by
  obtain ⟨he, hf, ov', hR', hnew⟩ := h
  have hob' := (hf.block b (blkLt hob) (hR.notX hob (by decide) (by decide))).trans hob
  obtain ⟨k1, k2, k3⟩ := obsEnd hR' hob' (.int .i64 c) (.int .i64 n)
  refine ⟨hob', ⟨he, ((Fr.of hb).trans hf).far2 k3 hbw, ov', k1, fun q hq => (hnew q hq).imp id (fun z => Nat.le_trans hb.size z)⟩, k2⟩
set_option maxHeartbeats 8000000 in
theorem hold_any {B rb mb ub : Nat} {σ : StS} {ov : Value} {w : World} (h : Rn B rb mb ub σ ov w) (hlen : σ.L.length ≤ 60) (hN : ∀ r ∈ σ.L, SlN r) (hd : Dst σ.L) {i : Nat} (hi : i < σ.L.length) (n : Int) :
    Calls Try.prog 56 #[.pointer (some ⟨rb, 0, none⟩), .agg #[.string (gl σ.L i).ar, .int .i64 (gl σ.L i).lt]] w (ObP B rb mb ub ov w (lotE σ 4 n i) (lotN σ 4 n i) (lotS σ 4 n i)) := by
  have HKey : Hid (KeyOK (gl σ.L i).ar (gl σ.L i).lt) := (getN hN hi).key
  have HD : Hid (Dst σ.L) := hd
  have HN : Hid (∀ r ∈ σ.L, SlN r) := hN
  obtain ⟨⟨a0, a1, a2, a3, a4⟩, hir⟩ : ∃ r, gl σ.L i = r := ⟨_, rfl⟩
  have HIr : Hid (gl σ.L i = ⟨a0, a1, a2, a3, a4⟩) := hir
  have HE : Hid (lotE σ 4 n i = if a4 = true then 12 else 0) := by show _ = _; unfold lotE; rw [hir]; rw [if_pos rfl]
  have HNm : Hid (lotN σ 4 n i = if lotE σ 4 n i = 0 then a2 else 0) := by show _ = _; unfold lotN; rw [hir]; simp
  have HS : Hid (lotS σ 4 n i = if lotE σ 4 n i = 0 then { σ with L := σ.L.set i ⟨a0, a1, a2, a3, true⟩ } else σ) := by show _ = _; unfold lotS; rw [hir]; simp
  rw [hir]
  dsimp only
  clear hir
  generalize lotN σ 4 n i = ln at *
  generalize lotS σ 4 n i = ls at *
  generalize lotE σ 4 n i = le at *
  obtain ⟨W2, hW2⟩ : ∃ W2, W2 = (w.alloc (Obj.cells #[.string a0, .int .i64 a1] 82)).alloc (Obj.cells #[.int .i64 0, .int .i64 0] 36) := ⟨_, rfl⟩
  have H2 : Hid (Below w.heap.size w W2 ∧ W2.heap[w.heap.size]? = some (.cells #[.string a0, .int .i64 a1] 82 (0, 0)) ∧ W2.heap[w.heap.size + 1]? = some (.cells #[.int .i64 0, .int .i64 0] 36 (0, 0))) := by rw [hW2]; exact ⟨chain (below_alloc _ _) (below_alloc _ _), heapTwo _ _ _⟩
  have HR : Hid (∀ W, Below W2.heap.size W2 W → Rn B rb mb ub σ ov W ∧ Below w.heap.size w W ∧ W.heap[w.heap.size]? = some (.cells #[.string a0, .int .i64 a1] 82 (0, 0)) ∧ W.heap[w.heap.size + 1]? = some (.cells #[.int .i64 0, .int .i64 0] 36 (0, 0))) := fun W hW => ⟨h.later (chain H2.out.1 hW), chain H2.out.1 hW, (hW.block _ (blkLt H2.out.2.1)).trans H2.out.2.1, (hW.block _ (blkLt H2.out.2.2)).trans H2.out.2.2⟩
  have HX : Hid (¬ RnX rb mb ub ov w.heap.size) := fun e => by have := h.lt _ e; omega
  clear h hN hd H2
  by_cases ha : a4 = true
  · subst ha
    rw [if_pos rfl] at HE
    have e1 := HE.out
    rw [e1, if_neg (by omega)] at HNm HS
    subst e1
    have HG : Hid (∀ W, Below W2.heap.size W2 W → (Instr.lookup 54 (.map (some mb)) (.agg #[.string a0, .int .i64 a1]) false).run Try.prog W = .ok (.iface 139 (.agg #[.string a0, .int .i64 a1, .int .i64 a2, .int .i64 a3, .bool true])) W) := fun W hW => (HR.out W hW).1.get HN.out hi HIr.out
    have t1 := ta_hf
    clear HE HKey HD HN HIr HX
    go_enter Try.func56, Try.ntmps56
    go_wp2_with fail
    rw [← hW2]
    clear hW2
    refine wp_region_held_drew (S := fun W => Below W2.heap.size W2 W) (by kernel_rfl) (below_drew _) (fun hH => ?_)
    refine wpAnyH_take (i := 0) (v := .pointer (some ⟨rb, 0, none⟩)) rfl (by kernel_rfl) (by kernel_rfl) (by kernel_rfl) (fun _ _ _ h => h) (Or.inl ⟨by rfl, fun w hSw => by go_simp⟩) hH ?_
    refine wpAnyH_take (i := 1) (v := .pointer (some ⟨rb, 0, none⟩)) rfl (by kernel_rfl) (by kernel_rfl) (by kernel_rfl) (fun _ _ _ h => h) (Or.inl ⟨by rfl, fun w hSw => by go_simp⟩) hH ?_
    try simp only [Act.put, List.setIfInBounds_toArray, List.set_cons_zero, List.set_cons_succ, List.getElem_toArray, List.getElem_cons_succ, List.getElem_cons_zero]
    refine wpAnyH_take (i := 2) (v := .pointer (some ⟨rb, 6, none⟩)) rfl (by kernel_rfl) (by kernel_rfl) (by kernel_rfl) (fun _ _ _ h => h) (Or.inl ⟨by rfl, fun w hSw => by go_simp⟩) hH ?_
    try simp only [Act.put, List.setIfInBounds_toArray, List.set_cons_zero, List.set_cons_succ, List.getElem_toArray, List.getElem_cons_succ, List.getElem_cons_zero]
    refine wpAnyH_take (i := 3) (v := .map (some mb)) rfl (by kernel_rfl) (by kernel_rfl) (by kernel_rfl) (fun _ _ _ h => h) (Or.inl ⟨by rfl, fun w hSw => by have f0 := (HR.out w hSw).1.at.c6; go_simp⟩) hH ?_
    try simp only [Act.put, List.setIfInBounds_toArray, List.set_cons_zero, List.set_cons_succ, List.getElem_toArray, List.getElem_cons_succ, List.getElem_cons_zero]
    refine wpAnyH_take (i := 4) (v := .agg #[.string a0, .int .i64 a1]) rfl (by kernel_rfl) (by kernel_rfl) (by kernel_rfl) (fun _ _ _ h => h) (Or.inl ⟨by rfl, fun w hSw => by have f0 := blkCell (HR.out w hSw).2.2.1 0 _ rfl; have f1 := blkCell (HR.out w hSw).2.2.1 1 _ rfl; go_simp⟩) hH ?_
    try simp only [Act.put, List.setIfInBounds_toArray, List.set_cons_zero, List.set_cons_succ, List.getElem_toArray, List.getElem_cons_succ, List.getElem_cons_zero]
    refine wpAnyH_take (i := 5) (v := .iface 139 (.agg #[.string a0, .int .i64 a1, .int .i64 a2, .int .i64 a3, .bool true])) rfl (by kernel_rfl) (by kernel_rfl) (by kernel_rfl) (fun _ _ _ h => h) (Or.inl ⟨by rfl, fun w hSw => by have f0 := HG.out w hSw; go_simp⟩) hH ?_
    try simp only [Act.put, List.setIfInBounds_toArray, List.set_cons_zero, List.set_cons_succ, List.getElem_toArray, List.getElem_cons_succ, List.getElem_cons_zero]
    refine wpAnyH_take (i := 6) (v := .tuple #[.nilIface, .bool false]) rfl (by kernel_rfl) (by kernel_rfl) (by kernel_rfl) (fun _ _ _ h => h) (Or.inl ⟨by rfl, fun w hSw => by go_simp⟩) hH ?_
    try simp only [Act.put, List.setIfInBounds_toArray, List.set_cons_zero, List.set_cons_succ, List.getElem_toArray, List.getElem_cons_succ, List.getElem_cons_zero]
    refine wpAnyH_take (i := 7) (v := .tuple #[.nilIface, .bool false]) rfl (by kernel_rfl) (by kernel_rfl) (by kernel_rfl) (fun _ _ _ h => h) (Or.inl ⟨by rfl, fun w hSw => by go_simp⟩) hH ?_
    try simp only [Act.put, List.setIfInBounds_toArray, List.set_cons_zero, List.set_cons_succ, List.getElem_toArray, List.getElem_cons_succ, List.getElem_cons_zero]
    refine wpAnyH_take (i := 8) (v := .nilIface) rfl (by kernel_rfl) (by kernel_rfl) (by kernel_rfl) (fun _ _ _ h => h) (Or.inl ⟨by rfl, fun w hSw => by go_simp⟩) hH ?_
    try simp only [Act.put, List.setIfInBounds_toArray, List.set_cons_zero, List.set_cons_succ, List.getElem_toArray, List.getElem_cons_succ, List.getElem_cons_zero]
    refine wpAnyH_take (i := 9) (v := .bool false) rfl (by kernel_rfl) (by kernel_rfl) (by kernel_rfl) (fun _ _ _ h => h) (Or.inl ⟨by rfl, fun w hSw => by go_simp⟩) hH ?_
    try simp only [Act.put, List.setIfInBounds_toArray, List.set_cons_zero, List.set_cons_succ, List.getElem_toArray, List.getElem_cons_succ, List.getElem_cons_zero]
    refine wpAnyH_take (i := 10) (v := .nilIface) rfl (by kernel_rfl) (by kernel_rfl) (by kernel_rfl) (fun _ _ _ h => h) (Or.inl ⟨by rfl, fun w hSw => by go_simp⟩) hH ?_
    try simp only [Act.put, List.setIfInBounds_toArray, List.set_cons_zero, List.set_cons_succ, List.getElem_toArray, List.getElem_cons_succ, List.getElem_cons_zero]
    refine wpAnyH_take (i := 11) (v := .bool false) rfl (by kernel_rfl) (by kernel_rfl) (by kernel_rfl) (fun _ _ _ h => h) (Or.inl ⟨by rfl, fun w hSw => by go_simp⟩) hH ?_
    try simp only [Act.put, List.setIfInBounds_toArray, List.set_cons_zero, List.set_cons_succ, List.getElem_toArray, List.getElem_cons_succ, List.getElem_cons_zero]
    refine wpAnyH_done (by kernel_rfl) ?_ _
    have H3 : Hid (Rn B rb mb ub σ ov W2.drew ∧ Below w.heap.size w W2.drew ∧ W2.drew.heap[w.heap.size + 1]? = some (.cells #[.int .i64 0, .int .i64 0] 36 (0, 0))) := by
      obtain ⟨k1, k2, k3, k4⟩ := HR.out _ hH
      exact ⟨k1, k2, k4⟩
    clear hH HR HG t1
    generalize W2.drew = W3 at *
    have y0 := blkCell H3.out.2.2 0 _ rfl
    have y1 := blkCell H3.out.2.2 1 _ rfl
    have z0 := blkFree H3.out.2.2 0
    have z1 := blkFree H3.out.2.2 1
    go_wp2
    obtain ⟨k1, k2, k3⟩ := obsEnd H3.out.1 H3.out.2.2 (.int .i64 12) (.int .i64 0)
    have kf := (Fr.of (X := RnX rb mb ub ov) H3.out.2.1).far2 k3 (by omega)
    generalize (W3.setCell ⟨w.heap.size + 1, 0, none⟩ (.int .i64 12)).setCell ⟨w.heap.size + 1, 1, none⟩ (.int .i64 0) = W9 at *
    have p0 := blkCell k2 0 _ rfl
    have p1 := blkCell k2 1 _ rfl
    exact bodyPost_ret (v := .agg #[.int .i64 12, .int .i64 0]) (by simp [results, Try.results56, go_sem, p0, p1]) rfl (ObP.mk' kf (by rw [HS.out]; exact k1) (by rw [HNm.out]))
  · rw [if_neg ha] at HE
    have e1 := HE.out
    rw [e1, if_pos rfl] at HNm HS
    subst e1
    have hb4 : a4 = false := by simpa using ha
    subst hb4
    clear ha
    have HG : Hid (∀ W, Below W2.heap.size W2 W → (Instr.lookup 54 (.map (some mb)) (.agg #[.string a0, .int .i64 a1]) false).run Try.prog W = .ok (.iface 97 (.agg #[.string a0, .int .i64 a1, .int .i64 a2, .int .i64 a3, .bool false])) W) := fun W hW => (HR.out W hW).1.get HN.out hi HIr.out
    have t1 := ta_ff
    have t2 := na_hd
    have t3 := me_hd
    clear HE
    go_enter Try.func56, Try.ntmps56
    go_wp2_with fail
    rw [← hW2]
    clear hW2
    refine wp_region_held_drew (S := fun W => Below W2.heap.size W2 W) (by kernel_rfl) (below_drew _) (fun hH => ?_)
    refine wpAnyH_take (i := 0) (v := .pointer (some ⟨rb, 0, none⟩)) rfl (by kernel_rfl) (by kernel_rfl) (by kernel_rfl) (fun _ _ _ h => h) (Or.inl ⟨by rfl, fun w hSw => by go_simp⟩) hH ?_
    refine wpAnyH_take (i := 1) (v := .pointer (some ⟨rb, 0, none⟩)) rfl (by kernel_rfl) (by kernel_rfl) (by kernel_rfl) (fun _ _ _ h => h) (Or.inl ⟨by rfl, fun w hSw => by go_simp⟩) hH ?_
    try simp only [Act.put, List.setIfInBounds_toArray, List.set_cons_zero, List.set_cons_succ, List.getElem_toArray, List.getElem_cons_succ, List.getElem_cons_zero]
    refine wpAnyH_take (i := 2) (v := .pointer (some ⟨rb, 6, none⟩)) rfl (by kernel_rfl) (by kernel_rfl) (by kernel_rfl) (fun _ _ _ h => h) (Or.inl ⟨by rfl, fun w hSw => by go_simp⟩) hH ?_
    try simp only [Act.put, List.setIfInBounds_toArray, List.set_cons_zero, List.set_cons_succ, List.getElem_toArray, List.getElem_cons_succ, List.getElem_cons_zero]
    refine wpAnyH_take (i := 3) (v := .map (some mb)) rfl (by kernel_rfl) (by kernel_rfl) (by kernel_rfl) (fun _ _ _ h => h) (Or.inl ⟨by rfl, fun w hSw => by have f0 := (HR.out w hSw).1.at.c6; go_simp⟩) hH ?_
    try simp only [Act.put, List.setIfInBounds_toArray, List.set_cons_zero, List.set_cons_succ, List.getElem_toArray, List.getElem_cons_succ, List.getElem_cons_zero]
    refine wpAnyH_take (i := 4) (v := .agg #[.string a0, .int .i64 a1]) rfl (by kernel_rfl) (by kernel_rfl) (by kernel_rfl) (fun _ _ _ h => h) (Or.inl ⟨by rfl, fun w hSw => by have f0 := blkCell (HR.out w hSw).2.2.1 0 _ rfl; have f1 := blkCell (HR.out w hSw).2.2.1 1 _ rfl; go_simp⟩) hH ?_
    try simp only [Act.put, List.setIfInBounds_toArray, List.set_cons_zero, List.set_cons_succ, List.getElem_toArray, List.getElem_cons_succ, List.getElem_cons_zero]
    refine wpAnyH_take (i := 5) (v := .iface 97 (.agg #[.string a0, .int .i64 a1, .int .i64 a2, .int .i64 a3, .bool false])) rfl (by kernel_rfl) (by kernel_rfl) (by kernel_rfl) (fun _ _ _ h => h) (Or.inl ⟨by rfl, fun w hSw => by have f0 := HG.out w hSw; go_simp⟩) hH ?_
    try simp only [Act.put, List.setIfInBounds_toArray, List.set_cons_zero, List.set_cons_succ, List.getElem_toArray, List.getElem_cons_succ, List.getElem_cons_zero]
    refine wpAnyH_take (i := 6) (v := .tuple #[.iface 97 (.agg #[.string a0, .int .i64 a1, .int .i64 a2, .int .i64 a3, .bool false]), .bool true]) rfl (by kernel_rfl) (by kernel_rfl) (by kernel_rfl) (fun _ _ _ h => h) (Or.inl ⟨by rfl, fun w hSw => by go_simp⟩) hH ?_
    try simp only [Act.put, List.setIfInBounds_toArray, List.set_cons_zero, List.set_cons_succ, List.getElem_toArray, List.getElem_cons_succ, List.getElem_cons_zero]
    refine wpAnyH_take (i := 7) (v := .tuple #[.iface 97 (.agg #[.string a0, .int .i64 a1, .int .i64 a2, .int .i64 a3, .bool false]), .bool true]) rfl (by kernel_rfl) (by kernel_rfl) (by kernel_rfl) (fun _ _ _ h => h) (Or.inl ⟨by rfl, fun w hSw => by go_simp⟩) hH ?_
    try simp only [Act.put, List.setIfInBounds_toArray, List.set_cons_zero, List.set_cons_succ, List.getElem_toArray, List.getElem_cons_succ, List.getElem_cons_zero]
    refine wpAnyH_take (i := 8) (v := .iface 97 (.agg #[.string a0, .int .i64 a1, .int .i64 a2, .int .i64 a3, .bool false])) rfl (by kernel_rfl) (by kernel_rfl) (by kernel_rfl) (fun _ _ _ h => h) (Or.inl ⟨by rfl, fun w hSw => by go_simp⟩) hH ?_
    try simp only [Act.put, List.setIfInBounds_toArray, List.set_cons_zero, List.set_cons_succ, List.getElem_toArray, List.getElem_cons_succ, List.getElem_cons_zero]
    refine wpAnyH_take (i := 9) (v := .bool true) rfl (by kernel_rfl) (by kernel_rfl) (by kernel_rfl) (fun _ _ _ h => h) (Or.inl ⟨by rfl, fun w hSw => by go_simp⟩) hH ?_
    try simp only [Act.put, List.setIfInBounds_toArray, List.set_cons_zero, List.set_cons_succ, List.getElem_toArray, List.getElem_cons_succ, List.getElem_cons_zero]
    refine wpAnyH_take (i := 10) (v := .iface 97 (.agg #[.string a0, .int .i64 a1, .int .i64 a2, .int .i64 a3, .bool false])) rfl (by kernel_rfl) (by kernel_rfl) (by kernel_rfl) (fun _ _ _ h => h) (Or.inl ⟨by rfl, fun w hSw => by go_simp⟩) hH ?_
    try simp only [Act.put, List.setIfInBounds_toArray, List.set_cons_zero, List.set_cons_succ, List.getElem_toArray, List.getElem_cons_succ, List.getElem_cons_zero]
    refine wpAnyH_take (i := 11) (v := .bool true) rfl (by kernel_rfl) (by kernel_rfl) (by kernel_rfl) (fun _ _ _ h => h) (Or.inl ⟨by rfl, fun w hSw => by go_simp⟩) hH ?_
    try simp only [Act.put, List.setIfInBounds_toArray, List.set_cons_zero, List.set_cons_succ, List.getElem_toArray, List.getElem_cons_succ, List.getElem_cons_zero]
    refine wpAnyH_done (by kernel_rfl) ?_ _
    have HB3 : Hid (Below W2.heap.size W2 W2.drew) := hH
    clear hH HG t1
    generalize W2.drew = W3 at *
    go_wp2_with fail
    -- the map
    refine wp_region_z (S := fun W => Below W2.heap.size W2 W) 7 (by kernel_rfl) (chain HB3.out (below_drew _)) (fun hH => ?_)
    refine wpAnyZ_take (i := 0) (v := .pointer (some ⟨rb, 0, none⟩)) rfl (by kernel_rfl) (by kernel_rfl) (by kernel_rfl) (by kernel_rfl) (fun _ _ _ h => h) (Or.inl ⟨by rfl, fun w hSw => by go_simp⟩) hH ?_
    refine wpAnyZ_take (i := 1) (v := .pointer (some ⟨rb, 0, none⟩)) rfl (by kernel_rfl) (by kernel_rfl) (by kernel_rfl) (by kernel_rfl) (fun _ _ _ h => h) (Or.inl ⟨by rfl, fun w hSw => by go_simp⟩) hH ?_
    try simp only [Act.put, List.setIfInBounds_toArray, List.set_cons_zero, List.set_cons_succ, List.getElem_toArray, List.getElem_cons_succ, List.getElem_cons_zero]
    refine wpAnyZ_take (i := 2) (v := .pointer (some ⟨rb, 6, none⟩)) rfl (by kernel_rfl) (by kernel_rfl) (by kernel_rfl) (by kernel_rfl) (fun _ _ _ h => h) (Or.inl ⟨by rfl, fun w hSw => by go_simp⟩) hH ?_
    try simp only [Act.put, List.setIfInBounds_toArray, List.set_cons_zero, List.set_cons_succ, List.getElem_toArray, List.getElem_cons_succ, List.getElem_cons_zero]
    refine wpAnyZ_take (i := 3) (v := .map (some mb)) rfl (by kernel_rfl) (by kernel_rfl) (by kernel_rfl) (by kernel_rfl) (fun _ _ _ h => h) (Or.inl ⟨by rfl, fun w hSw => by have f0 := (HR.out w hSw).1.at.c6; go_simp⟩) hH ?_
    try simp only [Act.put, List.setIfInBounds_toArray, List.set_cons_zero, List.set_cons_succ, List.getElem_toArray, List.getElem_cons_succ, List.getElem_cons_zero]
    refine wpAnyZ_take (i := 4) (v := .agg #[.string a0, .int .i64 a1]) rfl (by kernel_rfl) (by kernel_rfl) (by kernel_rfl) (by kernel_rfl) (fun _ _ _ h => h) (Or.inl ⟨by rfl, fun w hSw => by have f0 := blkCell (HR.out w hSw).2.2.1 0 _ rfl; have f1 := blkCell (HR.out w hSw).2.2.1 1 _ rfl; go_simp⟩) hH ?_
    try simp only [Act.put, List.setIfInBounds_toArray, List.set_cons_zero, List.set_cons_succ, List.getElem_toArray, List.getElem_cons_succ, List.getElem_cons_zero]
    refine wpAnyZ_take (i := 5) (v := .iface 97 (.agg #[.string a0, .int .i64 a1, .int .i64 a2, .int .i64 a3, .bool false])) rfl (by kernel_rfl) (by kernel_rfl) (by kernel_rfl) (by kernel_rfl) (fun _ _ _ h => h) (Or.inl ⟨by rfl, fun w hSw => by go_simp⟩) hH ?_
    try simp only [Act.put, List.setIfInBounds_toArray, List.set_cons_zero, List.set_cons_succ, List.getElem_toArray, List.getElem_cons_succ, List.getElem_cons_zero]
    refine wpAnyZ_ready (rs := [6]) (by kernel_rfl) (by simp) ?_
    refine AllReadyZ.cons rfl (fun K hK => ?_) AllReadyZ.nil
    go_simp
    go_at_call 95
    refine (held_any a0 a1 a2 a3 false _).mono ?_
    rintro e w5 ⟨rfl, hb5⟩
    have h5 := chain hH hb5
    refine hK.out _ _ (Or.inr h5) (fun _ => ?_)
    clear hK K
    try simp only [Act.put, List.setIfInBounds_toArray, List.set_cons_zero, List.set_cons_succ, List.getElem_toArray, List.getElem_cons_succ, List.getElem_cons_zero]
    clear hb5 hH
    have hput := LotsIs.put (HR.out w5 h5).1.map HD.out (by omega) hi HKey.out (r := ⟨a0, a1, a2, a3, true⟩) (by rw [HIr.out]) (by rw [HIr.out])
    rw [HIr.out] at hput
    obtain ⟨w6, hrun, hm6, hg6⟩ := hput
    have hrun' : (Instr.mapUpdate 54 (.map (some mb)) (.agg #[.string a0, .int .i64 a1]) (.iface 139 (.agg #[.string a0, .int .i64 a1, .int .i64 a2, .int .i64 a3, .bool true]))).run Try.prog w5 = .ok () w6 := hrun
    have hf6 : Fr (fun k => k = mb) w5 w6 := (fr_grown hg6).mono (fun k hk => by simpa using hk.symm)
    have HEnd : Hid (Fr (RnX rb mb ub ov) w w6 ∧ Rn B rb mb ub { σ with L := σ.L.set i ⟨a0, a1, a2, a3, true⟩ } ov w6 ∧ w6.heap[w.heap.size]? = some (.cells #[.string a0, .int .i64 a1] 82 (0, 0)) ∧ w6.heap[w.heap.size + 1]? = some (.cells #[.int .i64 0, .int .i64 0] 36 (0, 0))) := by
      obtain ⟨k1, k2, k3, k4⟩ := HR.out w5 h5
      have n1 : w.heap.size ≠ mb := fun e => HX.out (.inr (.inl e))
      have n2 : w.heap.size + 1 ≠ mb := fun e => k1.notX k4 (by decide) (by decide) (.inr (.inl e))
      exact ⟨(Fr.of k2).trans (hf6.mono (fun k hk => .inr (.inl hk))), k1.turned hf6 hm6 (by rw [List.length_set]) (kyCells_set _ _ hi _ (by rw [HIr.out]) (by rw [HIr.out])), (hf6.block _ (blkLt k3) n1).trans k3, (hf6.block _ (blkLt k4) n2).trans k4⟩
    have HGt : Hid (gl (σ.L.set i ⟨a0, a1, a2, a3, true⟩) i = ⟨a0, a1, a2, a3, true⟩ ∧ i < (σ.L.set i ⟨a0, a1, a2, a3, true⟩).length ∧ ∀ r ∈ σ.L.set i ⟨a0, a1, a2, a3, true⟩, SlN r) := by
      refine ⟨by rw [gl_set hi, if_pos rfl], by rw [List.length_set]; exact hi, ?_⟩
      have := (heldSet HN.out HD.out hi true).1
      rw [HIr.out] at this
      exact this
    clear hrun hm6 hg6 hf6 HR HN HD HKey HIr h5 HB3 HX
    refine wpAnyZ_ready (rs := [7]) (by kernel_rfl) (by simp) ?_
    refine AllReadyZ.cons rfl (fun K hK => ?_) AllReadyZ.nil
    go_simp
    refine hK.out _ _ (Or.inl rfl) (fun _ => ?_)
    clear hK K
    try simp only [Act.put, List.setIfInBounds_toArray, List.set_cons_zero, List.set_cons_succ, List.getElem_toArray, List.getElem_cons_succ, List.getElem_cons_zero]
    refine wpAnyZ_done (by kernel_rfl) ?_ _
    clear hrun' t2 t3
    have HQ : Hid (∀ W, Below w6.heap.size w6 W → RnC rb mb ub { σ with L := σ.L.set i ⟨a0, a1, a2, a3, true⟩ } ov W ∧ (Instr.lookup 54 (.map (some mb)) (.agg #[.string a0, .int .i64 a1]) false).run Try.prog W = .ok (.iface 139 (.agg #[.string a0, .int .i64 a1, .int .i64 a2, .int .i64 a3, .bool true])) W ∧ W.heap[w.heap.size]? = some (.cells #[.string a0, .int .i64 a1] 82 (0, 0))) := fun W hW => ⟨(HEnd.out.2.1.later hW).at, (HEnd.out.2.1.later hW).get HGt.out.2.2 HGt.out.2.1 HGt.out.1, (hW.block _ (blkLt HEnd.out.2.2.1)).trans HEnd.out.2.2.1⟩
    have t0 := fldNu
    have t4 := nh_told
    have t5 := mh_told
    go_wp2_with fail
    refine wp_region_z (S := fun W => Below w6.heap.size w6 W) 9 (by kernel_rfl) (below_drew _) (fun hH => ?_)
    refine wpAnyZ_take (i := 0) (v := .pointer (some ⟨rb, 0, none⟩)) rfl (by kernel_rfl) (by kernel_rfl) (by kernel_rfl) (by kernel_rfl) (fun _ _ _ h => h) (Or.inl ⟨by rfl, fun w hSw => by go_simp⟩) hH ?_
    refine wpAnyZ_take (i := 1) (v := .pointer (some ⟨rb, 0, none⟩)) rfl (by kernel_rfl) (by kernel_rfl) (by kernel_rfl) (by kernel_rfl) (fun _ _ _ h => h) (Or.inl ⟨by rfl, fun w hSw => by go_simp⟩) hH ?_
    try simp only [Act.put, List.setIfInBounds_toArray, List.set_cons_zero, List.set_cons_succ, List.getElem_toArray, List.getElem_cons_succ, List.getElem_cons_zero]
    refine wpAnyZ_take (i := 2) (v := .pointer (some ⟨rb, 6, none⟩)) rfl (by kernel_rfl) (by kernel_rfl) (by kernel_rfl) (by kernel_rfl) (fun _ _ _ h => h) (Or.inl ⟨by rfl, fun w hSw => by go_simp⟩) hH ?_
    try simp only [Act.put, List.setIfInBounds_toArray, List.set_cons_zero, List.set_cons_succ, List.getElem_toArray, List.getElem_cons_succ, List.getElem_cons_zero]
    refine wpAnyZ_take (i := 3) (v := .map (some mb)) rfl (by kernel_rfl) (by kernel_rfl) (by kernel_rfl) (by kernel_rfl) (fun _ _ _ h => h) (Or.inl ⟨by rfl, fun w hSw => by have f0 := (HQ.out w hSw).1.c6; go_simp⟩) hH ?_
    try simp only [Act.put, List.setIfInBounds_toArray, List.set_cons_zero, List.set_cons_succ, List.getElem_toArray, List.getElem_cons_succ, List.getElem_cons_zero]
    refine wpAnyZ_take (i := 4) (v := .agg #[.string a0, .int .i64 a1]) rfl (by kernel_rfl) (by kernel_rfl) (by kernel_rfl) (by kernel_rfl) (fun _ _ _ h => h) (Or.inl ⟨by rfl, fun w hSw => by have f0 := blkCell (HQ.out w hSw).2.2 0 _ rfl; have f1 := blkCell (HQ.out w hSw).2.2 1 _ rfl; go_simp⟩) hH ?_
    try simp only [Act.put, List.setIfInBounds_toArray, List.set_cons_zero, List.set_cons_succ, List.getElem_toArray, List.getElem_cons_succ, List.getElem_cons_zero]
    refine wpAnyZ_take (i := 5) (v := .iface 139 (.agg #[.string a0, .int .i64 a1, .int .i64 a2, .int .i64 a3, .bool true])) rfl (by kernel_rfl) (by kernel_rfl) (by kernel_rfl) (by kernel_rfl) (fun _ _ _ h => h) (Or.inl ⟨by rfl, fun w hSw => by have f0 := (HQ.out w hSw).2.1; go_simp⟩) hH ?_
    try simp only [Act.put, List.setIfInBounds_toArray, List.set_cons_zero, List.set_cons_succ, List.getElem_toArray, List.getElem_cons_succ, List.getElem_cons_zero]
    refine wpAnyZ_ready (rs := [6]) (by kernel_rfl) (by simp) ?_
    refine AllReadyZ.cons rfl (fun K hK => ?_) AllReadyZ.nil
    go_simp
    go_at_call 92
    refine (told_any a0 a1 a2 a3 true _).mono ?_
    rintro e w7 ⟨rfl, hb7⟩
    have h7 := chain hH hb7
    refine hK.out _ _ (Or.inr h7) (fun _ => ?_)
    clear hK K
    try simp only [Act.put, List.setIfInBounds_toArray, List.set_cons_zero, List.set_cons_succ, List.getElem_toArray, List.getElem_cons_succ, List.getElem_cons_zero]
    clear hb7 hH
    refine wpAnyZ_take (i := 7) (v := .int .i64 a2) rfl (by kernel_rfl) (by kernel_rfl) (by kernel_rfl) (by kernel_rfl) (fun _ _ _ h => h) (Or.inl ⟨by rfl, fun w hSw => by go_simp⟩) h7 ?_
    try simp only [Act.put, List.setIfInBounds_toArray, List.set_cons_zero, List.set_cons_succ, List.getElem_toArray, List.getElem_cons_succ, List.getElem_cons_zero]
    refine wpAnyZ_take (i := 8) (v := .agg #[.int .i64 0, .int .i64 a2]) rfl (by kernel_rfl) (by kernel_rfl) (by kernel_rfl) (by kernel_rfl) (fun _ _ _ h => h) (Or.inl ⟨by rfl, fun w hSw => by go_simp⟩) h7 ?_
    try simp only [Act.put, List.setIfInBounds_toArray, List.set_cons_zero, List.set_cons_succ, List.getElem_toArray, List.getElem_cons_succ, List.getElem_cons_zero]
    have H7 : Hid (Rn B rb mb ub { σ with L := σ.L.set i ⟨a0, a1, a2, a3, true⟩ } ov w7 ∧ w7.heap[w.heap.size + 1]? = some (.cells #[.int .i64 0, .int .i64 0] 36 (0, 0)) ∧ Fr (RnX rb mb ub ov) w w7) := ⟨HEnd.out.2.1.later h7, (h7.block _ (blkLt HEnd.out.2.2.2)).trans HEnd.out.2.2.2, HEnd.out.1.trans (Fr.of h7)⟩
    have y0 := blkCell H7.out.2.1 0 _ rfl
    have y1 := blkCell H7.out.2.1 1 _ rfl
    have z0 := blkFree H7.out.2.1 0
    have z1 := blkFree H7.out.2.1 1
    clear h7 HQ HEnd HGt
    refine wpAnyZ_ready (rs := [9]) (by kernel_rfl) (by simp) ?_
    refine AllReadyZ.cons rfl (fun K hK => ?_) AllReadyZ.nil
    go_simp
    refine hK.out _ _ (Or.inl rfl) (fun _ => ?_)
    clear hK K
    try simp only [Act.put, List.setIfInBounds_toArray, List.set_cons_zero, List.set_cons_succ, List.getElem_toArray, List.getElem_cons_succ, List.getElem_cons_zero]
    refine wpAnyZ_done (by kernel_rfl) ?_ _
    clear y0 y1 z0 z1 t0 t4 t5
    obtain ⟨k1, k2, k3⟩ := obsEnd H7.out.1 H7.out.2.1 (.int .i64 0) (.int .i64 a2)
    have kf := H7.out.2.2.far2 k3 (by omega)
    have HZ : Hid (Rn B rb mb ub { σ with L := σ.L.set i ⟨a0, a1, a2, a3, true⟩ } ov ((w7.setCell ⟨w.heap.size + 1, 0, none⟩ (.int .i64 0)).setCell ⟨w.heap.size + 1, 1, none⟩ (.int .i64 a2)) ∧ Fr (RnX rb mb ub ov) w ((w7.setCell ⟨w.heap.size + 1, 0, none⟩ (.int .i64 0)).setCell ⟨w.heap.size + 1, 1, none⟩ (.int .i64 a2)) ∧ ((w7.setCell ⟨w.heap.size + 1, 0, none⟩ (.int .i64 0)).setCell ⟨w.heap.size + 1, 1, none⟩ (.int .i64 a2)).heap[w.heap.size + 1]? = some (.cells #[.int .i64 0, .int .i64 a2] 36 (0, 0))) := ⟨k1, kf, k2⟩
    clear k1 k2 k3 kf H7
    generalize (w7.setCell ⟨w.heap.size + 1, 0, none⟩ (.int .i64 0)).setCell ⟨w.heap.size + 1, 1, none⟩ (.int .i64 a2) = W9 at *
    go_wp2
    have p0 := blkCell HZ.out.2.2 0 _ rfl
    have p1 := blkCell HZ.out.2.2 1 _ rfl
    exact bodyPost_ret (v := .agg #[.int .i64 0, .int .i64 a2]) (by simp [results, Try.results56, go_sem, p0, p1]) rfl (ObP.mk' HZ.out.2.1 (by rw [HS.out]; exact HZ.out.1) (by rw [HNm.out]))
set_option maxHeartbeats 8000000 in
theorem setFree_any {B rb mb ub : Nat} {σ : StS} {ov : Value} {w : World} (h : Rn B rb mb ub σ ov w) (hlen : σ.L.length ≤ 60) (hN : ∀ r ∈ σ.L, SlN r) (hd : Dst σ.L) {i : Nat} (hi : i < σ.L.length) (n : Int) :
    Calls Try.prog 57 #[.pointer (some ⟨rb, 0, none⟩), .agg #[.string (gl σ.L i).ar, .int .i64 (gl σ.L i).lt]] w (ObP B rb mb ub ov w (lotE σ 5 n i) (lotN σ 5 n i) (lotS σ 5 n i)) := by
  have HKey : Hid (KeyOK (gl σ.L i).ar (gl σ.L i).lt) := (getN hN hi).key
  have HD : Hid (Dst σ.L) := hd
  have HN : Hid (∀ r ∈ σ.L, SlN r) := hN
  obtain ⟨⟨a0, a1, a2, a3, a4⟩, hir⟩ : ∃ r, gl σ.L i = r := ⟨_, rfl⟩
  have HIr : Hid (gl σ.L i = ⟨a0, a1, a2, a3, a4⟩) := hir
  have HE : Hid (lotE σ 5 n i = if a4 = false then 12 else 0) := by show _ = _; unfold lotE; rw [hir]; rw [if_neg (by omega), if_pos rfl]; cases a4 <;> rfl
  have HNm : Hid (lotN σ 5 n i = if lotE σ 5 n i = 0 then a2 else 0) := by show _ = _; unfold lotN; rw [hir]; simp
  have HS : Hid (lotS σ 5 n i = if lotE σ 5 n i = 0 then { σ with L := σ.L.set i ⟨a0, a1, a2, a3, false⟩ } else σ) := by show _ = _; unfold lotS; rw [hir]; simp
  rw [hir]
  dsimp only
  clear hir
  generalize lotN σ 5 n i = ln at *
  generalize lotS σ 5 n i = ls at *
  generalize lotE σ 5 n i = le at *
  obtain ⟨W2, hW2⟩ : ∃ W2, W2 = (w.alloc (Obj.cells #[.string a0, .int .i64 a1] 82)).alloc (Obj.cells #[.int .i64 0, .int .i64 0] 36) := ⟨_, rfl⟩
  have H2 : Hid (Below w.heap.size w W2 ∧ W2.heap[w.heap.size]? = some (.cells #[.string a0, .int .i64 a1] 82 (0, 0)) ∧ W2.heap[w.heap.size + 1]? = some (.cells #[.int .i64 0, .int .i64 0] 36 (0, 0))) := by rw [hW2]; exact ⟨chain (below_alloc _ _) (below_alloc _ _), heapTwo _ _ _⟩
  have HR : Hid (∀ W, Below W2.heap.size W2 W → Rn B rb mb ub σ ov W ∧ Below w.heap.size w W ∧ W.heap[w.heap.size]? = some (.cells #[.string a0, .int .i64 a1] 82 (0, 0)) ∧ W.heap[w.heap.size + 1]? = some (.cells #[.int .i64 0, .int .i64 0] 36 (0, 0))) := fun W hW => ⟨h.later (chain H2.out.1 hW), chain H2.out.1 hW, (hW.block _ (blkLt H2.out.2.1)).trans H2.out.2.1, (hW.block _ (blkLt H2.out.2.2)).trans H2.out.2.2⟩
  have HX : Hid (¬ RnX rb mb ub ov w.heap.size) := fun e => by have := h.lt _ e; omega
  clear h hN hd H2
  by_cases ha : a4 = false
  · subst ha
    rw [if_pos rfl] at HE
    have e1 := HE.out
    rw [e1, if_neg (by omega)] at HNm HS
    subst e1
    have HG : Hid (∀ W, Below W2.heap.size W2 W → (Instr.lookup 54 (.map (some mb)) (.agg #[.string a0, .int .i64 a1]) false).run Try.prog W = .ok (.iface 97 (.agg #[.string a0, .int .i64 a1, .int .i64 a2, .int .i64 a3, .bool false])) W) := fun W hW => (HR.out W hW).1.get HN.out hi HIr.out
    have t1 := ta_fh
    clear HE HKey HD HN HIr HX
    go_enter Try.func57, Try.ntmps57
    go_wp2_with fail
    rw [← hW2]
    clear hW2
    refine wp_region_held_drew (S := fun W => Below W2.heap.size W2 W) (by kernel_rfl) (below_drew _) (fun hH => ?_)
    refine wpAnyH_take (i := 0) (v := .pointer (some ⟨rb, 0, none⟩)) rfl (by kernel_rfl) (by kernel_rfl) (by kernel_rfl) (fun _ _ _ h => h) (Or.inl ⟨by rfl, fun w hSw => by go_simp⟩) hH ?_
    refine wpAnyH_take (i := 1) (v := .pointer (some ⟨rb, 0, none⟩)) rfl (by kernel_rfl) (by kernel_rfl) (by kernel_rfl) (fun _ _ _ h => h) (Or.inl ⟨by rfl, fun w hSw => by go_simp⟩) hH ?_
    try simp only [Act.put, List.setIfInBounds_toArray, List.set_cons_zero, List.set_cons_succ, List.getElem_toArray, List.getElem_cons_succ, List.getElem_cons_zero]
    refine wpAnyH_take (i := 2) (v := .pointer (some ⟨rb, 6, none⟩)) rfl (by kernel_rfl) (by kernel_rfl) (by kernel_rfl) (fun _ _ _ h => h) (Or.inl ⟨by rfl, fun w hSw => by go_simp⟩) hH ?_
    try simp only [Act.put, List.setIfInBounds_toArray, List.set_cons_zero, List.set_cons_succ, List.getElem_toArray, List.getElem_cons_succ, List.getElem_cons_zero]
    refine wpAnyH_take (i := 3) (v := .map (some mb)) rfl (by kernel_rfl) (by kernel_rfl) (by kernel_rfl) (fun _ _ _ h => h) (Or.inl ⟨by rfl, fun w hSw => by have f0 := (HR.out w hSw).1.at.c6; go_simp⟩) hH ?_
    try simp only [Act.put, List.setIfInBounds_toArray, List.set_cons_zero, List.set_cons_succ, List.getElem_toArray, List.getElem_cons_succ, List.getElem_cons_zero]
    refine wpAnyH_take (i := 4) (v := .agg #[.string a0, .int .i64 a1]) rfl (by kernel_rfl) (by kernel_rfl) (by kernel_rfl) (fun _ _ _ h => h) (Or.inl ⟨by rfl, fun w hSw => by have f0 := blkCell (HR.out w hSw).2.2.1 0 _ rfl; have f1 := blkCell (HR.out w hSw).2.2.1 1 _ rfl; go_simp⟩) hH ?_
    try simp only [Act.put, List.setIfInBounds_toArray, List.set_cons_zero, List.set_cons_succ, List.getElem_toArray, List.getElem_cons_succ, List.getElem_cons_zero]
    refine wpAnyH_take (i := 5) (v := .iface 97 (.agg #[.string a0, .int .i64 a1, .int .i64 a2, .int .i64 a3, .bool false])) rfl (by kernel_rfl) (by kernel_rfl) (by kernel_rfl) (fun _ _ _ h => h) (Or.inl ⟨by rfl, fun w hSw => by have f0 := HG.out w hSw; go_simp⟩) hH ?_
    try simp only [Act.put, List.setIfInBounds_toArray, List.set_cons_zero, List.set_cons_succ, List.getElem_toArray, List.getElem_cons_succ, List.getElem_cons_zero]
    refine wpAnyH_take (i := 6) (v := .tuple #[.nilIface, .bool false]) rfl (by kernel_rfl) (by kernel_rfl) (by kernel_rfl) (fun _ _ _ h => h) (Or.inl ⟨by rfl, fun w hSw => by go_simp⟩) hH ?_
    try simp only [Act.put, List.setIfInBounds_toArray, List.set_cons_zero, List.set_cons_succ, List.getElem_toArray, List.getElem_cons_succ, List.getElem_cons_zero]
    refine wpAnyH_take (i := 7) (v := .tuple #[.nilIface, .bool false]) rfl (by kernel_rfl) (by kernel_rfl) (by kernel_rfl) (fun _ _ _ h => h) (Or.inl ⟨by rfl, fun w hSw => by go_simp⟩) hH ?_
    try simp only [Act.put, List.setIfInBounds_toArray, List.set_cons_zero, List.set_cons_succ, List.getElem_toArray, List.getElem_cons_succ, List.getElem_cons_zero]
    refine wpAnyH_take (i := 8) (v := .nilIface) rfl (by kernel_rfl) (by kernel_rfl) (by kernel_rfl) (fun _ _ _ h => h) (Or.inl ⟨by rfl, fun w hSw => by go_simp⟩) hH ?_
    try simp only [Act.put, List.setIfInBounds_toArray, List.set_cons_zero, List.set_cons_succ, List.getElem_toArray, List.getElem_cons_succ, List.getElem_cons_zero]
    refine wpAnyH_take (i := 9) (v := .bool false) rfl (by kernel_rfl) (by kernel_rfl) (by kernel_rfl) (fun _ _ _ h => h) (Or.inl ⟨by rfl, fun w hSw => by go_simp⟩) hH ?_
    try simp only [Act.put, List.setIfInBounds_toArray, List.set_cons_zero, List.set_cons_succ, List.getElem_toArray, List.getElem_cons_succ, List.getElem_cons_zero]
    refine wpAnyH_take (i := 10) (v := .nilIface) rfl (by kernel_rfl) (by kernel_rfl) (by kernel_rfl) (fun _ _ _ h => h) (Or.inl ⟨by rfl, fun w hSw => by go_simp⟩) hH ?_
    try simp only [Act.put, List.setIfInBounds_toArray, List.set_cons_zero, List.set_cons_succ, List.getElem_toArray, List.getElem_cons_succ, List.getElem_cons_zero]
    refine wpAnyH_take (i := 11) (v := .bool false) rfl (by kernel_rfl) (by kernel_rfl) (by kernel_rfl) (fun _ _ _ h => h) (Or.inl ⟨by rfl, fun w hSw => by go_simp⟩) hH ?_
    try simp only [Act.put, List.setIfInBounds_toArray, List.set_cons_zero, List.set_cons_succ, List.getElem_toArray, List.getElem_cons_succ, List.getElem_cons_zero]
    refine wpAnyH_done (by kernel_rfl) ?_ _
    have H3 : Hid (Rn B rb mb ub σ ov W2.drew ∧ Below w.heap.size w W2.drew ∧ W2.drew.heap[w.heap.size + 1]? = some (.cells #[.int .i64 0, .int .i64 0] 36 (0, 0))) := by
      obtain ⟨k1, k2, k3, k4⟩ := HR.out _ hH
      exact ⟨k1, k2, k4⟩
    clear hH HR HG t1
    generalize W2.drew = W3 at *
    have y0 := blkCell H3.out.2.2 0 _ rfl
    have y1 := blkCell H3.out.2.2 1 _ rfl
    have z0 := blkFree H3.out.2.2 0
    have z1 := blkFree H3.out.2.2 1
    go_wp2
    obtain ⟨k1, k2, k3⟩ := obsEnd H3.out.1 H3.out.2.2 (.int .i64 12) (.int .i64 0)
    have kf := (Fr.of (X := RnX rb mb ub ov) H3.out.2.1).far2 k3 (by omega)
    generalize (W3.setCell ⟨w.heap.size + 1, 0, none⟩ (.int .i64 12)).setCell ⟨w.heap.size + 1, 1, none⟩ (.int .i64 0) = W9 at *
    have p0 := blkCell k2 0 _ rfl
    have p1 := blkCell k2 1 _ rfl
    exact bodyPost_ret (v := .agg #[.int .i64 12, .int .i64 0]) (by simp [results, Try.results57, go_sem, p0, p1]) rfl (ObP.mk' kf (by rw [HS.out]; exact k1) (by rw [HNm.out]))
  · rw [if_neg ha] at HE
    have e1 := HE.out
    rw [e1, if_pos rfl] at HNm HS
    subst e1
    have hb4 : a4 = true := by simpa using ha
    subst hb4
    clear ha
    have HG : Hid (∀ W, Below W2.heap.size W2 W → (Instr.lookup 54 (.map (some mb)) (.agg #[.string a0, .int .i64 a1]) false).run Try.prog W = .ok (.iface 139 (.agg #[.string a0, .int .i64 a1, .int .i64 a2, .int .i64 a3, .bool true])) W) := fun W hW => (HR.out W hW).1.get HN.out hi HIr.out
    have t1 := ta_hh
    have t2 := nh_fr
    have t3 := mh_fr
    clear HE
    go_enter Try.func57, Try.ntmps57
    go_wp2_with fail
    rw [← hW2]
    clear hW2
    refine wp_region_held_drew (S := fun W => Below W2.heap.size W2 W) (by kernel_rfl) (below_drew _) (fun hH => ?_)
    refine wpAnyH_take (i := 0) (v := .pointer (some ⟨rb, 0, none⟩)) rfl (by kernel_rfl) (by kernel_rfl) (by kernel_rfl) (fun _ _ _ h => h) (Or.inl ⟨by rfl, fun w hSw => by go_simp⟩) hH ?_
    refine wpAnyH_take (i := 1) (v := .pointer (some ⟨rb, 0, none⟩)) rfl (by kernel_rfl) (by kernel_rfl) (by kernel_rfl) (fun _ _ _ h => h) (Or.inl ⟨by rfl, fun w hSw => by go_simp⟩) hH ?_
    try simp only [Act.put, List.setIfInBounds_toArray, List.set_cons_zero, List.set_cons_succ, List.getElem_toArray, List.getElem_cons_succ, List.getElem_cons_zero]
    refine wpAnyH_take (i := 2) (v := .pointer (some ⟨rb, 6, none⟩)) rfl (by kernel_rfl) (by kernel_rfl) (by kernel_rfl) (fun _ _ _ h => h) (Or.inl ⟨by rfl, fun w hSw => by go_simp⟩) hH ?_
    try simp only [Act.put, List.setIfInBounds_toArray, List.set_cons_zero, List.set_cons_succ, List.getElem_toArray, List.getElem_cons_succ, List.getElem_cons_zero]
    refine wpAnyH_take (i := 3) (v := .map (some mb)) rfl (by kernel_rfl) (by kernel_rfl) (by kernel_rfl) (fun _ _ _ h => h) (Or.inl ⟨by rfl, fun w hSw => by have f0 := (HR.out w hSw).1.at.c6; go_simp⟩) hH ?_
    try simp only [Act.put, List.setIfInBounds_toArray, List.set_cons_zero, List.set_cons_succ, List.getElem_toArray, List.getElem_cons_succ, List.getElem_cons_zero]
    refine wpAnyH_take (i := 4) (v := .agg #[.string a0, .int .i64 a1]) rfl (by kernel_rfl) (by kernel_rfl) (by kernel_rfl) (fun _ _ _ h => h) (Or.inl ⟨by rfl, fun w hSw => by have f0 := blkCell (HR.out w hSw).2.2.1 0 _ rfl; have f1 := blkCell (HR.out w hSw).2.2.1 1 _ rfl; go_simp⟩) hH ?_
    try simp only [Act.put, List.setIfInBounds_toArray, List.set_cons_zero, List.set_cons_succ, List.getElem_toArray, List.getElem_cons_succ, List.getElem_cons_zero]
    refine wpAnyH_take (i := 5) (v := .iface 139 (.agg #[.string a0, .int .i64 a1, .int .i64 a2, .int .i64 a3, .bool true])) rfl (by kernel_rfl) (by kernel_rfl) (by kernel_rfl) (fun _ _ _ h => h) (Or.inl ⟨by rfl, fun w hSw => by have f0 := HG.out w hSw; go_simp⟩) hH ?_
    try simp only [Act.put, List.setIfInBounds_toArray, List.set_cons_zero, List.set_cons_succ, List.getElem_toArray, List.getElem_cons_succ, List.getElem_cons_zero]
    refine wpAnyH_take (i := 6) (v := .tuple #[.iface 139 (.agg #[.string a0, .int .i64 a1, .int .i64 a2, .int .i64 a3, .bool true]), .bool true]) rfl (by kernel_rfl) (by kernel_rfl) (by kernel_rfl) (fun _ _ _ h => h) (Or.inl ⟨by rfl, fun w hSw => by go_simp⟩) hH ?_
    try simp only [Act.put, List.setIfInBounds_toArray, List.set_cons_zero, List.set_cons_succ, List.getElem_toArray, List.getElem_cons_succ, List.getElem_cons_zero]
    refine wpAnyH_take (i := 7) (v := .tuple #[.iface 139 (.agg #[.string a0, .int .i64 a1, .int .i64 a2, .int .i64 a3, .bool true]), .bool true]) rfl (by kernel_rfl) (by kernel_rfl) (by kernel_rfl) (fun _ _ _ h => h) (Or.inl ⟨by rfl, fun w hSw => by go_simp⟩) hH ?_
    try simp only [Act.put, List.setIfInBounds_toArray, List.set_cons_zero, List.set_cons_succ, List.getElem_toArray, List.getElem_cons_succ, List.getElem_cons_zero]
    refine wpAnyH_take (i := 8) (v := .iface 139 (.agg #[.string a0, .int .i64 a1, .int .i64 a2, .int .i64 a3, .bool true])) rfl (by kernel_rfl) (by kernel_rfl) (by kernel_rfl) (fun _ _ _ h => h) (Or.inl ⟨by rfl, fun w hSw => by go_simp⟩) hH ?_
    try simp only [Act.put, List.setIfInBounds_toArray, List.set_cons_zero, List.set_cons_succ, List.getElem_toArray, List.getElem_cons_succ, List.getElem_cons_zero]
    refine wpAnyH_take (i := 9) (v := .bool true) rfl (by kernel_rfl) (by kernel_rfl) (by kernel_rfl) (fun _ _ _ h => h) (Or.inl ⟨by rfl, fun w hSw => by go_simp⟩) hH ?_
    try simp only [Act.put, List.setIfInBounds_toArray, List.set_cons_zero, List.set_cons_succ, List.getElem_toArray, List.getElem_cons_succ, List.getElem_cons_zero]
    refine wpAnyH_take (i := 10) (v := .iface 139 (.agg #[.string a0, .int .i64 a1, .int .i64 a2, .int .i64 a3, .bool true])) rfl (by kernel_rfl) (by kernel_rfl) (by kernel_rfl) (fun _ _ _ h => h) (Or.inl ⟨by rfl, fun w hSw => by go_simp⟩) hH ?_
    try simp only [Act.put, List.setIfInBounds_toArray, List.set_cons_zero, List.set_cons_succ, List.getElem_toArray, List.getElem_cons_succ, List.getElem_cons_zero]
    refine wpAnyH_take (i := 11) (v := .bool true) rfl (by kernel_rfl) (by kernel_rfl) (by kernel_rfl) (fun _ _ _ h => h) (Or.inl ⟨by rfl, fun w hSw => by go_simp⟩) hH ?_
    try simp only [Act.put, List.setIfInBounds_toArray, List.set_cons_zero, List.set_cons_succ, List.getElem_toArray, List.getElem_cons_succ, List.getElem_cons_zero]
    refine wpAnyH_done (by kernel_rfl) ?_ _
    have HB3 : Hid (Below W2.heap.size W2 W2.drew) := hH
    clear hH HG t1
    generalize W2.drew = W3 at *
    go_wp2_with fail
    -- the map
    refine wp_region_z (S := fun W => Below W2.heap.size W2 W) 7 (by kernel_rfl) (chain HB3.out (below_drew _)) (fun hH => ?_)
    refine wpAnyZ_take (i := 0) (v := .pointer (some ⟨rb, 0, none⟩)) rfl (by kernel_rfl) (by kernel_rfl) (by kernel_rfl) (by kernel_rfl) (fun _ _ _ h => h) (Or.inl ⟨by rfl, fun w hSw => by go_simp⟩) hH ?_
    refine wpAnyZ_take (i := 1) (v := .pointer (some ⟨rb, 0, none⟩)) rfl (by kernel_rfl) (by kernel_rfl) (by kernel_rfl) (by kernel_rfl) (fun _ _ _ h => h) (Or.inl ⟨by rfl, fun w hSw => by go_simp⟩) hH ?_
    try simp only [Act.put, List.setIfInBounds_toArray, List.set_cons_zero, List.set_cons_succ, List.getElem_toArray, List.getElem_cons_succ, List.getElem_cons_zero]
    refine wpAnyZ_take (i := 2) (v := .pointer (some ⟨rb, 6, none⟩)) rfl (by kernel_rfl) (by kernel_rfl) (by kernel_rfl) (by kernel_rfl) (fun _ _ _ h => h) (Or.inl ⟨by rfl, fun w hSw => by go_simp⟩) hH ?_
    try simp only [Act.put, List.setIfInBounds_toArray, List.set_cons_zero, List.set_cons_succ, List.getElem_toArray, List.getElem_cons_succ, List.getElem_cons_zero]
    refine wpAnyZ_take (i := 3) (v := .map (some mb)) rfl (by kernel_rfl) (by kernel_rfl) (by kernel_rfl) (by kernel_rfl) (fun _ _ _ h => h) (Or.inl ⟨by rfl, fun w hSw => by have f0 := (HR.out w hSw).1.at.c6; go_simp⟩) hH ?_
    try simp only [Act.put, List.setIfInBounds_toArray, List.set_cons_zero, List.set_cons_succ, List.getElem_toArray, List.getElem_cons_succ, List.getElem_cons_zero]
    refine wpAnyZ_take (i := 4) (v := .agg #[.string a0, .int .i64 a1]) rfl (by kernel_rfl) (by kernel_rfl) (by kernel_rfl) (by kernel_rfl) (fun _ _ _ h => h) (Or.inl ⟨by rfl, fun w hSw => by have f0 := blkCell (HR.out w hSw).2.2.1 0 _ rfl; have f1 := blkCell (HR.out w hSw).2.2.1 1 _ rfl; go_simp⟩) hH ?_
    try simp only [Act.put, List.setIfInBounds_toArray, List.set_cons_zero, List.set_cons_succ, List.getElem_toArray, List.getElem_cons_succ, List.getElem_cons_zero]
    refine wpAnyZ_take (i := 5) (v := .iface 139 (.agg #[.string a0, .int .i64 a1, .int .i64 a2, .int .i64 a3, .bool true])) rfl (by kernel_rfl) (by kernel_rfl) (by kernel_rfl) (by kernel_rfl) (fun _ _ _ h => h) (Or.inl ⟨by rfl, fun w hSw => by go_simp⟩) hH ?_
    try simp only [Act.put, List.setIfInBounds_toArray, List.set_cons_zero, List.set_cons_succ, List.getElem_toArray, List.getElem_cons_succ, List.getElem_cons_zero]
    refine wpAnyZ_ready (rs := [6]) (by kernel_rfl) (by simp) ?_
    refine AllReadyZ.cons rfl (fun K hK => ?_) AllReadyZ.nil
    go_simp
    go_at_call 99
    refine (freed_any a0 a1 a2 a3 true _).mono ?_
    rintro e w5 ⟨rfl, hb5⟩
    have h5 := chain hH hb5
    refine hK.out _ _ (Or.inr h5) (fun _ => ?_)
    clear hK K
    try simp only [Act.put, List.setIfInBounds_toArray, List.set_cons_zero, List.set_cons_succ, List.getElem_toArray, List.getElem_cons_succ, List.getElem_cons_zero]
    clear hb5 hH
    have hput := LotsIs.put (HR.out w5 h5).1.map HD.out (by omega) hi HKey.out (r := ⟨a0, a1, a2, a3, false⟩) (by rw [HIr.out]) (by rw [HIr.out])
    rw [HIr.out] at hput
    obtain ⟨w6, hrun, hm6, hg6⟩ := hput
    have hrun' : (Instr.mapUpdate 54 (.map (some mb)) (.agg #[.string a0, .int .i64 a1]) (.iface 97 (.agg #[.string a0, .int .i64 a1, .int .i64 a2, .int .i64 a3, .bool false]))).run Try.prog w5 = .ok () w6 := hrun
    have hf6 : Fr (fun k => k = mb) w5 w6 := (fr_grown hg6).mono (fun k hk => by simpa using hk.symm)
    have HEnd : Hid (Fr (RnX rb mb ub ov) w w6 ∧ Rn B rb mb ub { σ with L := σ.L.set i ⟨a0, a1, a2, a3, false⟩ } ov w6 ∧ w6.heap[w.heap.size]? = some (.cells #[.string a0, .int .i64 a1] 82 (0, 0)) ∧ w6.heap[w.heap.size + 1]? = some (.cells #[.int .i64 0, .int .i64 0] 36 (0, 0))) := by
      obtain ⟨k1, k2, k3, k4⟩ := HR.out w5 h5
      have n1 : w.heap.size ≠ mb := fun e => HX.out (.inr (.inl e))
      have n2 : w.heap.size + 1 ≠ mb := fun e => k1.notX k4 (by decide) (by decide) (.inr (.inl e))
      exact ⟨(Fr.of k2).trans (hf6.mono (fun k hk => .inr (.inl hk))), k1.turned hf6 hm6 (by rw [List.length_set]) (kyCells_set _ _ hi _ (by rw [HIr.out]) (by rw [HIr.out])), (hf6.block _ (blkLt k3) n1).trans k3, (hf6.block _ (blkLt k4) n2).trans k4⟩
    have HGt : Hid (gl (σ.L.set i ⟨a0, a1, a2, a3, false⟩) i = ⟨a0, a1, a2, a3, false⟩ ∧ i < (σ.L.set i ⟨a0, a1, a2, a3, false⟩).length ∧ ∀ r ∈ σ.L.set i ⟨a0, a1, a2, a3, false⟩, SlN r) := by
      refine ⟨by rw [gl_set hi, if_pos rfl], by rw [List.length_set]; exact hi, ?_⟩
      have := (heldSet HN.out HD.out hi false).1
      rw [HIr.out] at this
      exact this
    clear hrun hm6 hg6 hf6 HR HN HD HKey HIr h5 HB3 HX
    refine wpAnyZ_ready (rs := [7]) (by kernel_rfl) (by simp) ?_
    refine AllReadyZ.cons rfl (fun K hK => ?_) AllReadyZ.nil
    go_simp
    refine hK.out _ _ (Or.inl rfl) (fun _ => ?_)
    clear hK K
    try simp only [Act.put, List.setIfInBounds_toArray, List.set_cons_zero, List.set_cons_succ, List.getElem_toArray, List.getElem_cons_succ, List.getElem_cons_zero]
    refine wpAnyZ_done (by kernel_rfl) ?_ _
    clear hrun' t2 t3
    have HQ : Hid (∀ W, Below w6.heap.size w6 W → RnC rb mb ub { σ with L := σ.L.set i ⟨a0, a1, a2, a3, false⟩ } ov W ∧ (Instr.lookup 54 (.map (some mb)) (.agg #[.string a0, .int .i64 a1]) false).run Try.prog W = .ok (.iface 97 (.agg #[.string a0, .int .i64 a1, .int .i64 a2, .int .i64 a3, .bool false])) W ∧ W.heap[w.heap.size]? = some (.cells #[.string a0, .int .i64 a1] 82 (0, 0))) := fun W hW => ⟨(HEnd.out.2.1.later hW).at, (HEnd.out.2.1.later hW).get HGt.out.2.2 HGt.out.2.1 HGt.out.1, (hW.block _ (blkLt HEnd.out.2.2.1)).trans HEnd.out.2.2.1⟩
    have t0 := fldNu
    have t4 := na_told
    have t5 := me_told
    go_wp2_with fail
    refine wp_region_z (S := fun W => Below w6.heap.size w6 W) 9 (by kernel_rfl) (below_drew _) (fun hH => ?_)
    refine wpAnyZ_take (i := 0) (v := .pointer (some ⟨rb, 0, none⟩)) rfl (by kernel_rfl) (by kernel_rfl) (by kernel_rfl) (by kernel_rfl) (fun _ _ _ h => h) (Or.inl ⟨by rfl, fun w hSw => by go_simp⟩) hH ?_
    refine wpAnyZ_take (i := 1) (v := .pointer (some ⟨rb, 0, none⟩)) rfl (by kernel_rfl) (by kernel_rfl) (by kernel_rfl) (by kernel_rfl) (fun _ _ _ h => h) (Or.inl ⟨by rfl, fun w hSw => by go_simp⟩) hH ?_
    try simp only [Act.put, List.setIfInBounds_toArray, List.set_cons_zero, List.set_cons_succ, List.getElem_toArray, List.getElem_cons_succ, List.getElem_cons_zero]
    refine wpAnyZ_take (i := 2) (v := .pointer (some ⟨rb, 6, none⟩)) rfl (by kernel_rfl) (by kernel_rfl) (by kernel_rfl) (by kernel_rfl) (fun _ _ _ h => h) (Or.inl ⟨by rfl, fun w hSw => by go_simp⟩) hH ?_
    try simp only [Act.put, List.setIfInBounds_toArray, List.set_cons_zero, List.set_cons_succ, List.getElem_toArray, List.getElem_cons_succ, List.getElem_cons_zero]
    refine wpAnyZ_take (i := 3) (v := .map (some mb)) rfl (by kernel_rfl) (by kernel_rfl) (by kernel_rfl) (by kernel_rfl) (fun _ _ _ h => h) (Or.inl ⟨by rfl, fun w hSw => by have f0 := (HQ.out w hSw).1.c6; go_simp⟩) hH ?_
    try simp only [Act.put, List.setIfInBounds_toArray, List.set_cons_zero, List.set_cons_succ, List.getElem_toArray, List.getElem_cons_succ, List.getElem_cons_zero]
    refine wpAnyZ_take (i := 4) (v := .agg #[.string a0, .int .i64 a1]) rfl (by kernel_rfl) (by kernel_rfl) (by kernel_rfl) (by kernel_rfl) (fun _ _ _ h => h) (Or.inl ⟨by rfl, fun w hSw => by have f0 := blkCell (HQ.out w hSw).2.2 0 _ rfl; have f1 := blkCell (HQ.out w hSw).2.2 1 _ rfl; go_simp⟩) hH ?_
    try simp only [Act.put, List.setIfInBounds_toArray, List.set_cons_zero, List.set_cons_succ, List.getElem_toArray, List.getElem_cons_succ, List.getElem_cons_zero]
    refine wpAnyZ_take (i := 5) (v := .iface 97 (.agg #[.string a0, .int .i64 a1, .int .i64 a2, .int .i64 a3, .bool false])) rfl (by kernel_rfl) (by kernel_rfl) (by kernel_rfl) (by kernel_rfl) (fun _ _ _ h => h) (Or.inl ⟨by rfl, fun w hSw => by have f0 := (HQ.out w hSw).2.1; go_simp⟩) hH ?_
    try simp only [Act.put, List.setIfInBounds_toArray, List.set_cons_zero, List.set_cons_succ, List.getElem_toArray, List.getElem_cons_succ, List.getElem_cons_zero]
    refine wpAnyZ_ready (rs := [6]) (by kernel_rfl) (by simp) ?_
    refine AllReadyZ.cons rfl (fun K hK => ?_) AllReadyZ.nil
    go_simp
    go_at_call 92
    refine (told_any a0 a1 a2 a3 false _).mono ?_
    rintro e w7 ⟨rfl, hb7⟩
    have h7 := chain hH hb7
    refine hK.out _ _ (Or.inr h7) (fun _ => ?_)
    clear hK K
    try simp only [Act.put, List.setIfInBounds_toArray, List.set_cons_zero, List.set_cons_succ, List.getElem_toArray, List.getElem_cons_succ, List.getElem_cons_zero]
    clear hb7 hH
    refine wpAnyZ_take (i := 7) (v := .int .i64 a2) rfl (by kernel_rfl) (by kernel_rfl) (by kernel_rfl) (by kernel_rfl) (fun _ _ _ h => h) (Or.inl ⟨by rfl, fun w hSw => by go_simp⟩) h7 ?_
    try simp only [Act.put, List.setIfInBounds_toArray, List.set_cons_zero, List.set_cons_succ, List.getElem_toArray, List.getElem_cons_succ, List.getElem_cons_zero]
    refine wpAnyZ_take (i := 8) (v := .agg #[.int .i64 0, .int .i64 a2]) rfl (by kernel_rfl) (by kernel_rfl) (by kernel_rfl) (by kernel_rfl) (fun _ _ _ h => h) (Or.inl ⟨by rfl, fun w hSw => by go_simp⟩) h7 ?_
    try simp only [Act.put, List.setIfInBounds_toArray, List.set_cons_zero, List.set_cons_succ, List.getElem_toArray, List.getElem_cons_succ, List.getElem_cons_zero]
    have H7 : Hid (Rn B rb mb ub { σ with L := σ.L.set i ⟨a0, a1, a2, a3, false⟩ } ov w7 ∧ w7.heap[w.heap.size + 1]? = some (.cells #[.int .i64 0, .int .i64 0] 36 (0, 0)) ∧ Fr (RnX rb mb ub ov) w w7) := ⟨HEnd.out.2.1.later h7, (h7.block _ (blkLt HEnd.out.2.2.2)).trans HEnd.out.2.2.2, HEnd.out.1.trans (Fr.of h7)⟩
    have y0 := blkCell H7.out.2.1 0 _ rfl
    have y1 := blkCell H7.out.2.1 1 _ rfl
    have z0 := blkFree H7.out.2.1 0
    have z1 := blkFree H7.out.2.1 1
    clear h7 HQ HEnd HGt
    refine wpAnyZ_ready (rs := [9]) (by kernel_rfl) (by simp) ?_
    refine AllReadyZ.cons rfl (fun K hK => ?_) AllReadyZ.nil
    go_simp
    refine hK.out _ _ (Or.inl rfl) (fun _ => ?_)
    clear hK K
    try simp only [Act.put, List.setIfInBounds_toArray, List.set_cons_zero, List.set_cons_succ, List.getElem_toArray, List.getElem_cons_succ, List.getElem_cons_zero]
    refine wpAnyZ_done (by kernel_rfl) ?_ _
    clear y0 y1 z0 z1 t0 t4 t5
    obtain ⟨k1, k2, k3⟩ := obsEnd H7.out.1 H7.out.2.1 (.int .i64 0) (.int .i64 a2)
    have kf := H7.out.2.2.far2 k3 (by omega)
    have HZ : Hid (Rn B rb mb ub { σ with L := σ.L.set i ⟨a0, a1, a2, a3, false⟩ } ov ((w7.setCell ⟨w.heap.size + 1, 0, none⟩ (.int .i64 0)).setCell ⟨w.heap.size + 1, 1, none⟩ (.int .i64 a2)) ∧ Fr (RnX rb mb ub ov) w ((w7.setCell ⟨w.heap.size + 1, 0, none⟩ (.int .i64 0)).setCell ⟨w.heap.size + 1, 1, none⟩ (.int .i64 a2)) ∧ ((w7.setCell ⟨w.heap.size + 1, 0, none⟩ (.int .i64 0)).setCell ⟨w.heap.size + 1, 1, none⟩ (.int .i64 a2)).heap[w.heap.size + 1]? = some (.cells #[.int .i64 0, .int .i64 a2] 36 (0, 0))) := ⟨k1, kf, k2⟩
    clear k1 k2 k3 kf H7
    generalize (w7.setCell ⟨w.heap.size + 1, 0, none⟩ (.int .i64 0)).setCell ⟨w.heap.size + 1, 1, none⟩ (.int .i64 a2) = W9 at *
    go_wp2
    have p0 := blkCell HZ.out.2.2 0 _ rfl
    have p1 := blkCell HZ.out.2.2 1 _ rfl
    exact bodyPost_ret (v := .agg #[.int .i64 0, .int .i64 a2]) (by simp [results, Try.results57, go_sem, p0, p1]) rfl (ObP.mk' HZ.out.2.1 (by rw [HS.out]; exact HZ.out.1) (by rw [HNm.out]))
end Go.Proofs.Ytlfcaijhlgldnaa

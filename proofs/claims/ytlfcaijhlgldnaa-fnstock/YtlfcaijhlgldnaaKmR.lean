/-
  The program's waste, count, doToLot and do.
-/
import Derived.Test.YtlfcaijhlgldnaaKmH
import Derived.Test.YtlfcaijhlgldnaaKmP
import Derived.Test.YtlfcaijhlgldnaaKmQ
namespace Go.Proofs.Ytlfcaijhlgldnaa
open Go.ChangeShapes Go.WideShapes Go.ChangeAt Go.RowKit Go.Deep
set_option linter.unusedVariables false

set_option maxHeartbeats 8000000 in
theorem waste_any {B rb mb ub : Nat} {σ : StS} {ov : Value} {w : World} (h : Rn B rb mb ub σ ov w) (ix : Nat) (hix : ix ≤ 1000) (hok : StOK ix σ) {i : Nat} (hi : i < σ.L.length) (n : Int) :
    Calls Try.prog 58 #[.pointer (some ⟨rb, 0, none⟩), .agg #[.string (gl σ.L i).ar, .int .i64 (gl σ.L i).lt]] w (ObP B rb mb ub ov w (lotE σ 6 n i) (lotN σ 6 n i) (lotS σ 6 n i)) := by
  obtain ⟨g, oc, rfl⟩ := row_some h.ord (by omega)
  have HSt : Hid (StOK ix σ) := hok
  have hnu := getN hok.good hi
  have hn1 := hnu.nu
  have hn2 := hnu.nu'
  have hbal := hok.bal
  have htop := hok.top
  have hs0 := hok.s0
  have hw0 := hok.w0
  have hh0 := hok.h0
  have hu0 := hok.rc0.1
  obtain ⟨⟨a0, a1, a2, a3, a4⟩, hir⟩ : ∃ r, gl σ.L i = r := ⟨_, rfl⟩
  have HIr : Hid (gl σ.L i = ⟨a0, a1, a2, a3, a4⟩) := hir
  have HE : Hid (lotE σ 6 n i = (0 : Int)) := by show _ = _; unfold lotE; rw [hir]; simp
  have HNm : Hid (lotN σ 6 n i = if lotE σ 6 n i = 0 then a2 else 0) := by show _ = _; unfold lotN; rw [hir]; simp
  have HS : Hid (lotS σ 6 n i = if lotE σ 6 n i = 0 then { σ with L := lv σ.L i 0, wa := σ.wa + a2 } else σ) := by show _ = _; unfold lotS; rw [hir]; simp
  have HLv : Hid (∀ W, Below w.heap.size w W → Calls Try.prog 68 #[.pointer (some ⟨rb, 0, none⟩), .agg #[.string a0, .int .i64 a1], .int .i64 0] W (LvP B rb mb ub g oc σ (lv σ.L i 0) σ.L.length W)) := fun W hW => by
    have := leave_any (h.later hW) hok.len hok.good hok.dst hi 0
    rw [hir] at this
    exact this
  rw [hir] at hn1 hn2 ⊢
  dsimp only at hn1 hn2 ⊢
  clear hir hnu
  generalize lotN σ 6 n i = ln at *
  generalize lotS σ 6 n i = ls at *
  generalize lotE σ 6 n i = le at *
  obtain ⟨W2, hW2⟩ : ∃ W2, W2 = (w.alloc (Obj.cells #[.string a0, .int .i64 a1] 82)).alloc (Obj.cells #[.int .i64 0, .int .i64 0] 36) := ⟨_, rfl⟩
  have H2 : Hid (Below w.heap.size w W2 ∧ W2.heap[w.heap.size]? = some (.cells #[.string a0, .int .i64 a1] 82 (0, 0)) ∧ W2.heap[w.heap.size + 1]? = some (.cells #[.int .i64 0, .int .i64 0] 36 (0, 0))) := by rw [hW2]; exact ⟨chain (below_alloc _ _) (below_alloc _ _), heapTwo _ _ _⟩
  have HR : Hid (∀ W, Below W2.heap.size W2 W → Rn B rb mb ub σ (.slice (some ⟨g, 0, none⟩) σ.L.length oc) W ∧ Below w.heap.size w W ∧ W.heap[w.heap.size]? = some (.cells #[.string a0, .int .i64 a1] 82 (0, 0)) ∧ W.heap[w.heap.size + 1]? = some (.cells #[.int .i64 0, .int .i64 0] 36 (0, 0))) := fun W hW => ⟨h.later (chain H2.out.1 hW), chain H2.out.1 hW, (hW.block _ (blkLt H2.out.2.1)).trans H2.out.2.1, (hW.block _ (blkLt H2.out.2.2)).trans H2.out.2.2⟩
  have HG : Hid (∀ W, Below W2.heap.size W2 W → (Instr.lookup 54 (.map (some mb)) (.agg #[.string a0, .int .i64 a1]) false).run Try.prog W = .ok (.iface (lotT a4) (.agg #[.string a0, .int .i64 a1, .int .i64 a2, .int .i64 a3, .bool a4])) W) := fun W hW => (HR.out W hW).1.get HSt.out.good hi HIr.out
  have t0 := fldNu
  have t1 := na_toldT
  have t2 := me_toldT
  clear h hok H2
  go_enter Try.func58, Try.ntmps58
  go_wp2_with fail
  rw [← hW2]
  clear hW2
  refine wp_region_held_drew (S := fun W => Below W2.heap.size W2 W) (by kernel_rfl) (below_drew _) (fun hH => ?_)
  refine wpAnyH_take (i := 0) (v := .pointer (some ⟨rb, 0, none⟩)) rfl (by kernel_rfl) (by kernel_rfl) (by kernel_rfl) (fun _ _ _ h => h) (Or.inl ⟨by rfl, fun w hSw => by go_simp⟩) hH ?_
  refine wpAnyH_take (i := 1) (v := .pointer (some ⟨rb, 0, none⟩)) rfl (by kernel_rfl) (by kernel_rfl) (by kernel_rfl) (fun _ _ _ h => h) (Or.inl ⟨by rfl, fun w hSw => by go_simp⟩) hH ?_
  try simp only [Act.put, List.setIfInBounds_toArray, List.set_cons_zero, List.set_cons_succ, List.getElem_toArray, List.getElem_cons_succ, List.getElem_cons_zero]
  refine wpAnyH_take (i := 2) (v := .pointer (some ⟨rb, 6, none⟩)) rfl (by kernel_rfl) (by kernel_rfl) (by kernel_rfl) (fun _ _ _ h => h) (Or.inl ⟨by rfl, fun w hSw => by go_simp⟩) hH ?_
  try simp only [Act.put, List.setIfInBounds_toArray, List.set_cons_zero, List.set_cons_succ, List.getElem_toArray, List.getElem_cons_succ, List.getElem_cons_zero]
  refine wpAnyH_take (i := 3) (v := .map (some mb)) rfl (by kernel_rfl) (by kernel_rfl) (by kernel_rfl) (fun _ _ _ h => h) (Or.inl ⟨by rfl, fun w hSw => by have f0 := (HR.out w hSw).1.at.c6; go_simp⟩) hH ?_
  try simp only [Act.put, List.setIfInBounds_toArray, List.set_cons_zero, List.set_cons_succ, List.getElem_toArray, List.getElem_cons_succ, List.getElem_cons_zero]
  refine wpAnyH_take (i := 4) (v := .agg #[.string a0, .int .i64 a1]) rfl (by kernel_rfl) (by kernel_rfl) (by kernel_rfl) (fun _ _ _ h => h) (Or.inl ⟨by rfl, fun w hSw => by have f0 := blkCell (HR.out w hSw).2.2.1 0 _ rfl; have f1 := blkCell (HR.out w hSw).2.2.1 1 _ rfl; go_simp⟩) hH ?_
  try simp only [Act.put, List.setIfInBounds_toArray, List.set_cons_zero, List.set_cons_succ, List.getElem_toArray, List.getElem_cons_succ, List.getElem_cons_zero]
  refine wpAnyH_take (i := 5) (v := .iface (lotT a4) (.agg #[.string a0, .int .i64 a1, .int .i64 a2, .int .i64 a3, .bool a4])) rfl (by kernel_rfl) (by kernel_rfl) (by kernel_rfl) (fun _ _ _ h => h) (Or.inl ⟨by rfl, fun w hSw => by have f0 := HG.out w hSw; go_simp⟩) hH ?_
  try simp only [Act.put, List.setIfInBounds_toArray, List.set_cons_zero, List.set_cons_succ, List.getElem_toArray, List.getElem_cons_succ, List.getElem_cons_zero]
  refine wpAnyH_ready (rs := [6]) (by kernel_rfl) (by simp) ?_
  refine AllReadyH.cons rfl (fun K hK => ?_) AllReadyH.nil
  go_simp
  refine (told_any a0 a1 a2 a3 a4 _).mono ?_
  rintro e w3 ⟨rfl, hb3⟩
  have h3 := chain hH hb3
  refine hK.out _ _ h3 (fun _ => ?_)
  clear hK K
  try simp only [Act.put, List.setIfInBounds_toArray, List.set_cons_zero, List.set_cons_succ, List.getElem_toArray, List.getElem_cons_succ, List.getElem_cons_zero]
  clear hb3 hH
  refine wpAnyH_take (i := 7) (v := .int .i64 a2) rfl (by kernel_rfl) (by kernel_rfl) (by kernel_rfl) (fun _ _ _ h => h) (Or.inl ⟨by rfl, fun w hSw => by go_simp⟩) h3 ?_
  try simp only [Act.put, List.setIfInBounds_toArray, List.set_cons_zero, List.set_cons_succ, List.getElem_toArray, List.getElem_cons_succ, List.getElem_cons_zero]
  refine wpAnyH_take (i := 8) (v := .int .i64 a2) rfl (by kernel_rfl) (by kernel_rfl) (by kernel_rfl) (fun _ _ _ h => h) (Or.inl ⟨by rfl, fun w hSw => by go_simp⟩) h3 ?_
  try simp only [Act.put, List.setIfInBounds_toArray, List.set_cons_zero, List.set_cons_succ, List.getElem_toArray, List.getElem_cons_succ, List.getElem_cons_zero]
  refine wpAnyH_done (by kernel_rfl) ?_ _
  have H3 : Hid (Below W2.heap.size W2 w3) := h3
  have k0 := blkCell (HR.out _ h3).2.2.1 0 _ rfl
  have k1 := blkCell (HR.out _ h3).2.2.1 1 _ rfl
  clear h3 HG t0 t1 t2
  have e1 := HE.out
  rw [e1, if_pos rfl] at HNm HS
  subst e1
  go_wp2_with fail
  (first | go_at_call 68 | skip)
  refine (HLv.out w3 (HR.out w3 H3.out).2.1).mono ?_
  rintro e w4 ⟨rfl, hf4, hr4⟩
  have hws : IntKind.i64.wrap (σ.wa + a2) = σ.wa + a2 := wrap_id _ (by omega) (by omega)
  have cw := hr4.at.c3
  have cf := hr4.free 3
  dsimp only at cw
  obtain ⟨r1, r2, r3, r4⟩ := HR.out w3 H3.out
  have hob := (hf4.block _ (blkLt r4) (r1.notX r4 (by decide) (by decide))).trans r4
  have hne : w.heap.size + 1 ≠ rb := fun e => (hr4.notX hob (by decide) (by decide)) (.inl e)
  have HD : Hid (Rn B rb mb ub { σ with L := lv σ.L i 0, wa := σ.wa + a2 } (.slice (some ⟨g, 0, none⟩) (lv σ.L i 0).length oc) (w4.setCell ⟨rb, 3, none⟩ (.int .i64 (σ.wa + a2))) ∧ (w4.setCell ⟨rb, 3, none⟩ (.int .i64 (σ.wa + a2))).heap[w.heap.size + 1]? = some (.cells #[.int .i64 0, .int .i64 0] 36 (0, 0)) ∧ Fr (RnX rb mb ub (.slice (some ⟨g, 0, none⟩) σ.L.length oc)) w (w4.setCell ⟨rb, 3, none⟩ (.int .i64 (σ.wa + a2)))) := ⟨hr4.setWa (σ.wa + a2), (Below.heap_setCell _ _ _ _ hne).trans hob, ((Fr.of r2).trans hf4).set (b := rb) (.inl rfl) _ _⟩
  have y0 := blkCell HD.out.2.1 0 _ rfl
  have y1 := blkCell HD.out.2.1 1 _ rfl
  have z0 := blkFree HD.out.2.1 0
  have z1 := blkFree HD.out.2.1 1
  clear hf4 hr4 r1 r2 r3 r4 hob HR H3 HLv k0 k1
  go_wp2
  obtain ⟨k1, k2, k3⟩ := obsEnd HD.out.1 HD.out.2.1 (.int .i64 0) (.int .i64 a2)
  have kf := HD.out.2.2.far2 k3 (by omega)
  generalize ((w4.setCell ⟨rb, 3, none⟩ (.int .i64 (σ.wa + a2))).setCell ⟨w.heap.size + 1, 0, none⟩ (.int .i64 0)).setCell ⟨w.heap.size + 1, 1, none⟩ (.int .i64 a2) = W9 at *
  have p0 := blkCell k2 0 _ rfl
  have p1 := blkCell k2 1 _ rfl
  exact bodyPost_ret (v := .agg #[.int .i64 0, .int .i64 a2]) (by simp [results, Try.results58, go_sem, p0, p1]) rfl ⟨by rw [HNm.out], kf, .slice (some ⟨g, 0, none⟩) (lv σ.L i 0).length oc, by rw [HS.out]; exact k1, fun q hq => .inl hq⟩
set_option maxHeartbeats 8000000 in
theorem count_any {B rb mb ub : Nat} {σ : StS} {ov : Value} {w : World} (h : Rn B rb mb ub σ ov w) (ix : Nat) (hix : ix ≤ 1000) (hok : StOK ix σ) {i : Nat} (hi : i < σ.L.length) (n : Int) :
    Calls Try.prog 59 #[.pointer (some ⟨rb, 0, none⟩), .agg #[.string (gl σ.L i).ar, .int .i64 (gl σ.L i).lt], .int .i64 n] w (ObP B rb mb ub ov w (lotE σ 7 n i) (lotN σ 7 n i) (lotS σ 7 n i)) := by
  obtain ⟨g, oc, rfl⟩ := row_some h.ord (by omega)
  have HSt : Hid (StOK ix σ) := hok
  have hnu := getN hok.good hi
  have hn1 := hnu.nu
  have hn2 := hnu.nu'
  have hbal := hok.bal
  have htop := hok.top
  have hs0 := hok.s0
  have hw0 := hok.w0
  have hh0 := hok.h0
  have hu0 := hok.rc0.1
  obtain ⟨⟨a0, a1, a2, a3, a4⟩, hir⟩ : ∃ r, gl σ.L i = r := ⟨_, rfl⟩
  have HIr : Hid (gl σ.L i = ⟨a0, a1, a2, a3, a4⟩) := hir
  have HE : Hid (lotE σ 7 n i = if 0 ≤ n ∧ n ≤ a2 then (0 : Int) else 5) := by show _ = _; unfold lotE; rw [hir]; simp
  have HNm : Hid (lotN σ 7 n i = if lotE σ 7 n i = 0 then a2 - n else 0) := by show _ = _; unfold lotN; rw [hir]; simp
  have HS : Hid (lotS σ 7 n i = if lotE σ 7 n i = 0 then { σ with L := lv σ.L i n, sh := σ.sh + (a2 - n) } else σ) := by show _ = _; unfold lotS; rw [hir]; simp
  have HLv : Hid (∀ W, Below w.heap.size w W → Calls Try.prog 68 #[.pointer (some ⟨rb, 0, none⟩), .agg #[.string a0, .int .i64 a1], .int .i64 n] W (LvP B rb mb ub g oc σ (lv σ.L i n) σ.L.length W)) := fun W hW => by
    have := leave_any (h.later hW) hok.len hok.good hok.dst hi n
    rw [hir] at this
    exact this
  rw [hir] at hn1 hn2 ⊢
  dsimp only at hn1 hn2 ⊢
  clear hir hnu
  generalize lotN σ 7 n i = ln at *
  generalize lotS σ 7 n i = ls at *
  generalize lotE σ 7 n i = le at *
  obtain ⟨W2, hW2⟩ : ∃ W2, W2 = (w.alloc (Obj.cells #[.string a0, .int .i64 a1] 82)).alloc (Obj.cells #[.int .i64 0, .int .i64 0] 36) := ⟨_, rfl⟩
  have H2 : Hid (Below w.heap.size w W2 ∧ W2.heap[w.heap.size]? = some (.cells #[.string a0, .int .i64 a1] 82 (0, 0)) ∧ W2.heap[w.heap.size + 1]? = some (.cells #[.int .i64 0, .int .i64 0] 36 (0, 0))) := by rw [hW2]; exact ⟨chain (below_alloc _ _) (below_alloc _ _), heapTwo _ _ _⟩
  have HR : Hid (∀ W, Below W2.heap.size W2 W → Rn B rb mb ub σ (.slice (some ⟨g, 0, none⟩) σ.L.length oc) W ∧ Below w.heap.size w W ∧ W.heap[w.heap.size]? = some (.cells #[.string a0, .int .i64 a1] 82 (0, 0)) ∧ W.heap[w.heap.size + 1]? = some (.cells #[.int .i64 0, .int .i64 0] 36 (0, 0))) := fun W hW => ⟨h.later (chain H2.out.1 hW), chain H2.out.1 hW, (hW.block _ (blkLt H2.out.2.1)).trans H2.out.2.1, (hW.block _ (blkLt H2.out.2.2)).trans H2.out.2.2⟩
  have HG : Hid (∀ W, Below W2.heap.size W2 W → (Instr.lookup 54 (.map (some mb)) (.agg #[.string a0, .int .i64 a1]) false).run Try.prog W = .ok (.iface (lotT a4) (.agg #[.string a0, .int .i64 a1, .int .i64 a2, .int .i64 a3, .bool a4])) W) := fun W hW => (HR.out W hW).1.get HSt.out.good hi HIr.out
  have t0 := fldNu
  have t1 := na_toldT
  have t2 := me_toldT
  clear h hok H2
  go_enter Try.func59, Try.ntmps59
  go_wp2_with fail
  rw [← hW2]
  clear hW2
  refine wp_region_held_drew (S := fun W => Below W2.heap.size W2 W) (by kernel_rfl) (below_drew _) (fun hH => ?_)
  refine wpAnyH_take (i := 0) (v := .pointer (some ⟨rb, 0, none⟩)) rfl (by kernel_rfl) (by kernel_rfl) (by kernel_rfl) (fun _ _ _ h => h) (Or.inl ⟨by rfl, fun w hSw => by go_simp⟩) hH ?_
  refine wpAnyH_take (i := 1) (v := .pointer (some ⟨rb, 0, none⟩)) rfl (by kernel_rfl) (by kernel_rfl) (by kernel_rfl) (fun _ _ _ h => h) (Or.inl ⟨by rfl, fun w hSw => by go_simp⟩) hH ?_
  try simp only [Act.put, List.setIfInBounds_toArray, List.set_cons_zero, List.set_cons_succ, List.getElem_toArray, List.getElem_cons_succ, List.getElem_cons_zero]
  refine wpAnyH_take (i := 2) (v := .pointer (some ⟨rb, 6, none⟩)) rfl (by kernel_rfl) (by kernel_rfl) (by kernel_rfl) (fun _ _ _ h => h) (Or.inl ⟨by rfl, fun w hSw => by go_simp⟩) hH ?_
  try simp only [Act.put, List.setIfInBounds_toArray, List.set_cons_zero, List.set_cons_succ, List.getElem_toArray, List.getElem_cons_succ, List.getElem_cons_zero]
  refine wpAnyH_take (i := 3) (v := .map (some mb)) rfl (by kernel_rfl) (by kernel_rfl) (by kernel_rfl) (fun _ _ _ h => h) (Or.inl ⟨by rfl, fun w hSw => by have f0 := (HR.out w hSw).1.at.c6; go_simp⟩) hH ?_
  try simp only [Act.put, List.setIfInBounds_toArray, List.set_cons_zero, List.set_cons_succ, List.getElem_toArray, List.getElem_cons_succ, List.getElem_cons_zero]
  refine wpAnyH_take (i := 4) (v := .agg #[.string a0, .int .i64 a1]) rfl (by kernel_rfl) (by kernel_rfl) (by kernel_rfl) (fun _ _ _ h => h) (Or.inl ⟨by rfl, fun w hSw => by have f0 := blkCell (HR.out w hSw).2.2.1 0 _ rfl; have f1 := blkCell (HR.out w hSw).2.2.1 1 _ rfl; go_simp⟩) hH ?_
  try simp only [Act.put, List.setIfInBounds_toArray, List.set_cons_zero, List.set_cons_succ, List.getElem_toArray, List.getElem_cons_succ, List.getElem_cons_zero]
  refine wpAnyH_take (i := 5) (v := .iface (lotT a4) (.agg #[.string a0, .int .i64 a1, .int .i64 a2, .int .i64 a3, .bool a4])) rfl (by kernel_rfl) (by kernel_rfl) (by kernel_rfl) (fun _ _ _ h => h) (Or.inl ⟨by rfl, fun w hSw => by have f0 := HG.out w hSw; go_simp⟩) hH ?_
  try simp only [Act.put, List.setIfInBounds_toArray, List.set_cons_zero, List.set_cons_succ, List.getElem_toArray, List.getElem_cons_succ, List.getElem_cons_zero]
  refine wpAnyH_ready (rs := [6]) (by kernel_rfl) (by simp) ?_
  refine AllReadyH.cons rfl (fun K hK => ?_) AllReadyH.nil
  go_simp
  refine (told_any a0 a1 a2 a3 a4 _).mono ?_
  rintro e w3 ⟨rfl, hb3⟩
  have h3 := chain hH hb3
  refine hK.out _ _ h3 (fun _ => ?_)
  clear hK K
  try simp only [Act.put, List.setIfInBounds_toArray, List.set_cons_zero, List.set_cons_succ, List.getElem_toArray, List.getElem_cons_succ, List.getElem_cons_zero]
  clear hb3 hH
  refine wpAnyH_take (i := 7) (v := .int .i64 a2) rfl (by kernel_rfl) (by kernel_rfl) (by kernel_rfl) (fun _ _ _ h => h) (Or.inl ⟨by rfl, fun w hSw => by go_simp⟩) h3 ?_
  try simp only [Act.put, List.setIfInBounds_toArray, List.set_cons_zero, List.set_cons_succ, List.getElem_toArray, List.getElem_cons_succ, List.getElem_cons_zero]
  refine wpAnyH_take (i := 8) (v := .int .i64 a2) rfl (by kernel_rfl) (by kernel_rfl) (by kernel_rfl) (fun _ _ _ h => h) (Or.inl ⟨by rfl, fun w hSw => by go_simp⟩) h3 ?_
  try simp only [Act.put, List.setIfInBounds_toArray, List.set_cons_zero, List.set_cons_succ, List.getElem_toArray, List.getElem_cons_succ, List.getElem_cons_zero]
  refine wpAnyH_done (by kernel_rfl) ?_ _
  have H3 : Hid (Below W2.heap.size W2 w3) := h3
  have k0 := blkCell (HR.out _ h3).2.2.1 0 _ rfl
  have k1 := blkCell (HR.out _ h3).2.2.1 1 _ rfl
  clear h3 HG t0 t1 t2
  have hne0 : w.heap.size + 1 ≠ rb := fun e => ((HR.out w3 H3.out).1.notX (HR.out w3 H3.out).2.2.2 (by decide) (by decide)) (.inl e)
  by_cases hin : 0 ≤ n ∧ n ≤ a2
  · rw [if_pos hin] at HE
    have e1 := HE.out
    rw [e1, if_pos rfl] at HNm HS
    subst e1
    have g1 : ¬ n < 0 := by omega
    have g2 : ¬ a2 < n := by omega
    have g3 : 0 ≤ n := hin.1
    have g4 : n ≤ a2 := hin.2
    have hwd : IntKind.i64.wrap (a2 - n) = a2 - n := wrap_id _ (by omega) (by omega)
    clear HE hin
    go_wp2_with fail
    (first | go_at_call 68 | skip)
    refine (HLv.out w3 (HR.out w3 H3.out).2.1).mono ?_
    rintro e w4 ⟨rfl, hf4, hr4⟩
    have hws : IntKind.i64.wrap (σ.sh + (a2 - n)) = σ.sh + (a2 - n) := wrap_id _ (by omega) (by omega)
    have cw := hr4.at.c4
    have cf := hr4.free 4
    dsimp only at cw
    obtain ⟨r1, r2, r3, r4⟩ := HR.out w3 H3.out
    have hob := (hf4.block _ (blkLt r4) (r1.notX r4 (by decide) (by decide))).trans r4
    have hne : w.heap.size + 1 ≠ rb := fun e => (hr4.notX hob (by decide) (by decide)) (.inl e)
    have HD : Hid (Rn B rb mb ub { σ with L := lv σ.L i n, sh := σ.sh + (a2 - n) } (.slice (some ⟨g, 0, none⟩) (lv σ.L i n).length oc) (w4.setCell ⟨rb, 4, none⟩ (.int .i64 (σ.sh + (a2 - n)))) ∧ (w4.setCell ⟨rb, 4, none⟩ (.int .i64 (σ.sh + (a2 - n)))).heap[w.heap.size + 1]? = some (.cells #[.int .i64 0, .int .i64 0] 36 (0, 0)) ∧ Fr (RnX rb mb ub (.slice (some ⟨g, 0, none⟩) σ.L.length oc)) w (w4.setCell ⟨rb, 4, none⟩ (.int .i64 (σ.sh + (a2 - n))))) := ⟨hr4.setSh (σ.sh + (a2 - n)), (Below.heap_setCell _ _ _ _ hne).trans hob, ((Fr.of r2).trans hf4).set (b := rb) (.inl rfl) _ _⟩
    have y0 := blkCell HD.out.2.1 0 _ rfl
    have y1 := blkCell HD.out.2.1 1 _ rfl
    have z0 := blkFree HD.out.2.1 0
    have z1 := blkFree HD.out.2.1 1
    clear hf4 hr4 r1 r2 r3 r4 hob HR H3 HLv k0 k1
    go_wp2
    obtain ⟨k1, k2, k3⟩ := obsEnd HD.out.1 HD.out.2.1 (.int .i64 0) (.int .i64 (a2 - n))
    have kf := HD.out.2.2.far2 k3 (by omega)
    generalize ((w4.setCell ⟨rb, 4, none⟩ (.int .i64 (σ.sh + (a2 - n)))).setCell ⟨w.heap.size + 1, 0, none⟩ (.int .i64 0)).setCell ⟨w.heap.size + 1, 1, none⟩ (.int .i64 (a2 - n)) = W9 at *
    have p0 := blkCell k2 0 _ rfl
    have p1 := blkCell k2 1 _ rfl
    exact bodyPost_ret (v := .agg #[.int .i64 0, .int .i64 (a2 - n)]) (by simp [results, Try.results59, go_sem, p0, p1]) rfl ⟨by rw [HNm.out], kf, .slice (some ⟨g, 0, none⟩) (lv σ.L i n).length oc, by rw [HS.out]; exact k1, fun q hq => .inl hq⟩
  · rw [if_neg hin] at HE
    have e1 := HE.out
    rw [e1, if_neg (by omega)] at HNm HS
    subst e1
    have H4 : Hid (Rn B rb mb ub σ (.slice (some ⟨g, 0, none⟩) σ.L.length oc) w3 ∧ Below w.heap.size w w3 ∧ w3.heap[w.heap.size + 1]? = some (.cells #[.int .i64 0, .int .i64 0] 36 (0, 0))) := by
      obtain ⟨r1, r2, r3, r4⟩ := HR.out w3 H3.out
      exact ⟨r1, r2, r4⟩
    have y0 := blkCell H4.out.2.2 0 _ rfl
    have y1 := blkCell H4.out.2.2 1 _ rfl
    have z0 := blkFree H4.out.2.2 0
    have z1 := blkFree H4.out.2.2 1
    clear HE HR H3 HLv k0 k1
    rcases (by omega : n < 0 ∨ (¬ n < 0 ∧ a2 < n)) with g1 | ⟨g1, g2⟩
    all_goals
      clear hin
      go_wp2
      obtain ⟨k1, k2, k3⟩ := obsEnd H4.out.1 H4.out.2.2 (.int .i64 5) (.int .i64 0)
      have kf := (Fr.of (X := RnX rb mb ub (.slice (some ⟨g, 0, none⟩) σ.L.length oc)) H4.out.2.1).far2 k3 (by omega)
      generalize (w3.setCell ⟨w.heap.size + 1, 0, none⟩ (.int .i64 5)).setCell ⟨w.heap.size + 1, 1, none⟩ (.int .i64 0) = W9 at *
      have p0 := blkCell k2 0 _ rfl
      have p1 := blkCell k2 1 _ rfl
      exact bodyPost_ret (v := .agg #[.int .i64 5, .int .i64 0]) (by simp [results, Try.results59, go_sem, p0, p1]) rfl (ObP.mk' kf (by rw [HS.out]; exact k1) (by rw [HNm.out]))
theorem fd_skip (σ : StS) (x : RSk) (i : Nat) (h : fdI σ.L x.ar x.lt = some i) : toE σ x = lotE σ x.kd x.nu i ∧ toN σ x = lotN σ x.kd x.nu i ∧ toS σ x = lotS σ x.kd x.nu i := by
  unfold toE toN toS; rw [h]; exact ⟨rfl, rfl, rfl⟩
set_option maxHeartbeats 8000000 in
theorem doToLot_any {B rb mb ub : Nat} {σ : StS} {ov : Value} {w : World} (h : Rn B rb mb ub σ ov w) (ix : Nat) (hix : ix ≤ 1000) (hok : StOK ix σ) (kd : Int) (ar : ByteArray) (lt nu un : Int) (har : ar.size ≤ 2000000) (hlt : WfI lt) (hkd : 4 ≤ kd ∧ kd ≤ 7) :
    Calls Try.prog 41 #[.pointer (some ⟨rb, 0, none⟩), .agg #[.int .i64 kd, .string ar, .int .i64 lt, .int .i64 nu, .int .i64 un]] w (ObP B rb mb ub ov w (toE σ ⟨kd, ar, lt, nu, un⟩) (toN σ ⟨kd, ar, lt, nu, un⟩) (toS σ ⟨kd, ar, lt, nu, un⟩)) := by
  have HSt : Hid (StOK ix σ) := hok
  obtain ⟨W3, hW3⟩ : ∃ W3, W3 = ((w.alloc (Obj.cells #[.int .i64 kd, .string ar, .int .i64 lt, .int .i64 nu, .int .i64 un] 34)).alloc (Obj.cells #[.int .i64 0, .int .i64 0] 36)).alloc (Obj.cells #[.string ar, .int .i64 lt] 82) := ⟨_, rfl⟩
  have H3 : Hid (Below w.heap.size w W3 ∧ W3.heap[w.heap.size]? = some (.cells #[.int .i64 kd, .string ar, .int .i64 lt, .int .i64 nu, .int .i64 un] 34 (0, 0)) ∧ W3.heap[w.heap.size + 1]? = some (.cells #[.int .i64 0, .int .i64 0] 36 (0, 0)) ∧ W3.heap[w.heap.size + 2]? = some (.cells #[.string ar, .int .i64 lt] 82 (0, 0))) := by rw [hW3]; exact ⟨chain (chain (below_alloc _ _) (below_alloc _ _)) (below_alloc _ _), heapThree _ _ _ _⟩
  have HR : Hid (∀ W, Below W3.heap.size W3 W → Rn B rb mb ub σ ov W ∧ Below w.heap.size w W ∧ W.heap[w.heap.size]? = some (.cells #[.int .i64 kd, .string ar, .int .i64 lt, .int .i64 nu, .int .i64 un] 34 (0, 0)) ∧ W.heap[w.heap.size + 1]? = some (.cells #[.int .i64 0, .int .i64 0] 36 (0, 0)) ∧ W.heap[w.heap.size + 2]? = some (.cells #[.string ar, .int .i64 lt] 82 (0, 0))) := fun W hW => ⟨h.later (chain H3.out.1 hW), chain H3.out.1 hW, (hW.block _ (blkLt H3.out.2.1)).trans H3.out.2.1, (hW.block _ (blkLt H3.out.2.2.1)).trans H3.out.2.2.1, (hW.block _ (blkLt H3.out.2.2.2)).trans H3.out.2.2.2⟩
  have HKy : Hid (KeyOK ar lt) := ⟨hlt, by unfold maxLen; omega⟩
  clear h hok H3
  cases hf : fdI σ.L ar lt with
  | none =>
    have e1 : toE σ ⟨kd, ar, lt, nu, un⟩ = 8 := by unfold toE; dsimp only; rw [hf]
    have e2 : toN σ ⟨kd, ar, lt, nu, un⟩ = 0 := by unfold toN; dsimp only; rw [hf]
    have e3 : toS σ ⟨kd, ar, lt, nu, un⟩ = σ := by unfold toS; dsimp only; rw [hf]
    rw [e1, e2, e3]
    have HL : Hid (∀ W, Below W3.heap.size W3 W → (Instr.lookup 54 (.map (some mb)) (.agg #[.string ar, .int .i64 lt]) true).run Try.prog W = .ok (.tuple #[.nilIface, .bool false]) W) := fun W hW => (HR.out W hW).1.map.none (fd_no hf) HKy.out
    clear e1 e2 e3 hf
    go_enter Try.func41, Try.ntmps41
    go_wp2_with fail
    rw [← hW3]
    clear hW3
    refine wp_region_held_drew (S := fun W => Below W3.heap.size W3 W) (by kernel_rfl) (below_drew _) (fun hH => ?_)
    refine wpAnyH_take (i := 0) (v := .pointer (some ⟨rb, 0, none⟩)) rfl (by kernel_rfl) (by kernel_rfl) (by kernel_rfl) (fun _ _ _ h => h) (Or.inl ⟨by rfl, fun w hSw => by go_simp⟩) hH ?_
    refine wpAnyH_take (i := 1) (v := .pointer (some ⟨rb, 0, none⟩)) rfl (by kernel_rfl) (by kernel_rfl) (by kernel_rfl) (fun _ _ _ h => h) (Or.inl ⟨by rfl, fun w hSw => by go_simp⟩) hH ?_
    try simp only [Act.put, List.setIfInBounds_toArray, List.set_cons_zero, List.set_cons_succ, List.getElem_toArray, List.getElem_cons_succ, List.getElem_cons_zero]
    refine wpAnyH_take (i := 2) (v := .pointer (some ⟨rb, 6, none⟩)) rfl (by kernel_rfl) (by kernel_rfl) (by kernel_rfl) (fun _ _ _ h => h) (Or.inl ⟨by rfl, fun w hSw => by go_simp⟩) hH ?_
    try simp only [Act.put, List.setIfInBounds_toArray, List.set_cons_zero, List.set_cons_succ, List.getElem_toArray, List.getElem_cons_succ, List.getElem_cons_zero]
    refine wpAnyH_take (i := 3) (v := .map (some mb)) rfl (by kernel_rfl) (by kernel_rfl) (by kernel_rfl) (fun _ _ _ h => h) (Or.inl ⟨by rfl, fun w hSw => by have f0 := (HR.out w hSw).1.at.c6; go_simp⟩) hH ?_
    try simp only [Act.put, List.setIfInBounds_toArray, List.set_cons_zero, List.set_cons_succ, List.getElem_toArray, List.getElem_cons_succ, List.getElem_cons_zero]
    refine wpAnyH_take (i := 4) (v := .agg #[.string ar, .int .i64 lt]) rfl (by kernel_rfl) (by kernel_rfl) (by kernel_rfl) (fun _ _ _ h => h) (Or.inl ⟨by rfl, fun w hSw => by have f0 := blkCell (HR.out w hSw).2.2.2.2 0 _ rfl; have f1 := blkCell (HR.out w hSw).2.2.2.2 1 _ rfl; go_simp⟩) hH ?_
    try simp only [Act.put, List.setIfInBounds_toArray, List.set_cons_zero, List.set_cons_succ, List.getElem_toArray, List.getElem_cons_succ, List.getElem_cons_zero]
    refine wpAnyH_take (i := 5) (v := .tuple #[.nilIface, .bool false]) rfl (by kernel_rfl) (by kernel_rfl) (by kernel_rfl) (fun _ _ _ h => h) (Or.inl ⟨by rfl, fun w hSw => by have f0 := HL.out w hSw; go_simp⟩) hH ?_
    try simp only [Act.put, List.setIfInBounds_toArray, List.set_cons_zero, List.set_cons_succ, List.getElem_toArray, List.getElem_cons_succ, List.getElem_cons_zero]
    refine wpAnyH_take (i := 6) (v := .tuple #[.nilIface, .bool false]) rfl (by kernel_rfl) (by kernel_rfl) (by kernel_rfl) (fun _ _ _ h => h) (Or.inl ⟨by rfl, fun w hSw => by go_simp⟩) hH ?_
    try simp only [Act.put, List.setIfInBounds_toArray, List.set_cons_zero, List.set_cons_succ, List.getElem_toArray, List.getElem_cons_succ, List.getElem_cons_zero]
    refine wpAnyH_take (i := 7) (v := .nilIface) rfl (by kernel_rfl) (by kernel_rfl) (by kernel_rfl) (fun _ _ _ h => h) (Or.inl ⟨by rfl, fun w hSw => by go_simp⟩) hH ?_
    try simp only [Act.put, List.setIfInBounds_toArray, List.set_cons_zero, List.set_cons_succ, List.getElem_toArray, List.getElem_cons_succ, List.getElem_cons_zero]
    refine wpAnyH_take (i := 8) (v := .bool false) rfl (by kernel_rfl) (by kernel_rfl) (by kernel_rfl) (fun _ _ _ h => h) (Or.inl ⟨by rfl, fun w hSw => by go_simp⟩) hH ?_
    try simp only [Act.put, List.setIfInBounds_toArray, List.set_cons_zero, List.set_cons_succ, List.getElem_toArray, List.getElem_cons_succ, List.getElem_cons_zero]
    refine wpAnyH_take (i := 9) (v := .nilIface) rfl (by kernel_rfl) (by kernel_rfl) (by kernel_rfl) (fun _ _ _ h => h) (Or.inl ⟨by rfl, fun w hSw => by go_simp⟩) hH ?_
    try simp only [Act.put, List.setIfInBounds_toArray, List.set_cons_zero, List.set_cons_succ, List.getElem_toArray, List.getElem_cons_succ, List.getElem_cons_zero]
    refine wpAnyH_take (i := 10) (v := .bool false) rfl (by kernel_rfl) (by kernel_rfl) (by kernel_rfl) (fun _ _ _ h => h) (Or.inl ⟨by rfl, fun w hSw => by go_simp⟩) hH ?_
    try simp only [Act.put, List.setIfInBounds_toArray, List.set_cons_zero, List.set_cons_succ, List.getElem_toArray, List.getElem_cons_succ, List.getElem_cons_zero]
    refine wpAnyH_done (by kernel_rfl) ?_ _
    have H4 : Hid (Rn B rb mb ub σ ov W3.drew ∧ Below w.heap.size w W3.drew ∧ W3.drew.heap[w.heap.size + 1]? = some (.cells #[.int .i64 0, .int .i64 0] 36 (0, 0))) := by
      obtain ⟨k1, k2, k3, k4, k5⟩ := HR.out _ hH
      exact ⟨k1, k2, k4⟩
    clear hH HR HL
    generalize W3.drew = W4 at *
    have y0 := blkCell H4.out.2.2 0 _ rfl
    have y1 := blkCell H4.out.2.2 1 _ rfl
    have z0 := blkFree H4.out.2.2 0
    have z1 := blkFree H4.out.2.2 1
    go_wp2
    obtain ⟨k1, k2, k3⟩ := obsEnd H4.out.1 H4.out.2.2 (.int .i64 8) (.int .i64 0)
    have kf := (Fr.of (X := RnX rb mb ub ov) H4.out.2.1).far2 k3 (by omega)
    generalize (W4.setCell ⟨w.heap.size + 1, 0, none⟩ (.int .i64 8)).setCell ⟨w.heap.size + 1, 1, none⟩ (.int .i64 0) = W9 at *
    have p0 := blkCell k2 0 _ rfl
    have p1 := blkCell k2 1 _ rfl
    exact bodyPost_ret (v := .agg #[.int .i64 8, .int .i64 0]) (by simp [results, Try.results41, go_sem, p0, p1]) rfl (ObP.mk' kf k1 rfl)
  | some i =>
    obtain ⟨e1, e2, e3⟩ := fd_skip σ ⟨kd, ar, lt, nu, un⟩ i hf
    rw [e1, e2, e3]
    dsimp only
    obtain ⟨hi, ha, hl⟩ := fd_some hf
    have HL : Hid (∀ W, Below W3.heap.size W3 W → (Instr.lookup 54 (.map (some mb)) (.agg #[.string ar, .int .i64 lt]) true).run Try.prog W = .ok (.tuple #[lotV (gl σ.L i), .bool true]) W) := fun W hW => by
      have := (HR.out W hW).1.map.look hi (getN HSt.out.good hi).key
      rw [ha, hl] at this; exact this
    have HC4 : Hid (∀ W, Below W3.heap.size W3 W → Calls Try.prog 56 #[.pointer (some ⟨rb, 0, none⟩), .agg #[.string ar, .int .i64 lt]] W (ObP B rb mb ub ov W (lotE σ 4 nu i) (lotN σ 4 nu i) (lotS σ 4 nu i))) := fun W hW => by
      have := hold_any (HR.out W hW).1 HSt.out.len HSt.out.good HSt.out.dst hi nu
      rw [ha, hl] at this; exact this
    have HC5 : Hid (∀ W, Below W3.heap.size W3 W → Calls Try.prog 57 #[.pointer (some ⟨rb, 0, none⟩), .agg #[.string ar, .int .i64 lt]] W (ObP B rb mb ub ov W (lotE σ 5 nu i) (lotN σ 5 nu i) (lotS σ 5 nu i))) := fun W hW => by
      have := setFree_any (HR.out W hW).1 HSt.out.len HSt.out.good HSt.out.dst hi nu
      rw [ha, hl] at this; exact this
    have HC6 : Hid (∀ W, Below W3.heap.size W3 W → Calls Try.prog 58 #[.pointer (some ⟨rb, 0, none⟩), .agg #[.string ar, .int .i64 lt]] W (ObP B rb mb ub ov W (lotE σ 6 nu i) (lotN σ 6 nu i) (lotS σ 6 nu i))) := fun W hW => by
      have := waste_any (HR.out W hW).1 ix hix HSt.out hi nu
      rw [ha, hl] at this; exact this
    have HC7 : Hid (∀ W, Below W3.heap.size W3 W → Calls Try.prog 59 #[.pointer (some ⟨rb, 0, none⟩), .agg #[.string ar, .int .i64 lt], .int .i64 nu] W (ObP B rb mb ub ov W (lotE σ 7 nu i) (lotN σ 7 nu i) (lotS σ 7 nu i))) := fun W hW => by
      have := count_any (HR.out W hW).1 ix hix HSt.out hi nu
      rw [ha, hl] at this; exact this
    generalize lotV (gl σ.L i) = lvv at *
    clear e1 e2 e3 hf hi ha hl HKy
    rcases (by omega : kd = 4 ∨ kd = 5 ∨ kd = 6 ∨ kd = 7) with rfl | rfl | rfl | rfl
    · generalize lotE σ 4 nu i = le at *
      generalize lotN σ 4 nu i = ln at *
      generalize lotS σ 4 nu i = ls at *
      clear HC5 HC6 HC7
      go_enter Try.func41, Try.ntmps41
      go_wp2_with fail
      rw [← hW3]
      clear hW3
      refine wp_region_held_drew (S := fun W => Below W3.heap.size W3 W) (by kernel_rfl) (below_drew _) (fun hH => ?_)
      refine wpAnyH_take (i := 0) (v := .pointer (some ⟨rb, 0, none⟩)) rfl (by kernel_rfl) (by kernel_rfl) (by kernel_rfl) (fun _ _ _ h => h) (Or.inl ⟨by rfl, fun w hSw => by go_simp⟩) hH ?_
      refine wpAnyH_take (i := 1) (v := .pointer (some ⟨rb, 0, none⟩)) rfl (by kernel_rfl) (by kernel_rfl) (by kernel_rfl) (fun _ _ _ h => h) (Or.inl ⟨by rfl, fun w hSw => by go_simp⟩) hH ?_
      try simp only [Act.put, List.setIfInBounds_toArray, List.set_cons_zero, List.set_cons_succ, List.getElem_toArray, List.getElem_cons_succ, List.getElem_cons_zero]
      refine wpAnyH_take (i := 2) (v := .pointer (some ⟨rb, 6, none⟩)) rfl (by kernel_rfl) (by kernel_rfl) (by kernel_rfl) (fun _ _ _ h => h) (Or.inl ⟨by rfl, fun w hSw => by go_simp⟩) hH ?_
      try simp only [Act.put, List.setIfInBounds_toArray, List.set_cons_zero, List.set_cons_succ, List.getElem_toArray, List.getElem_cons_succ, List.getElem_cons_zero]
      refine wpAnyH_take (i := 3) (v := .map (some mb)) rfl (by kernel_rfl) (by kernel_rfl) (by kernel_rfl) (fun _ _ _ h => h) (Or.inl ⟨by rfl, fun w hSw => by have f0 := (HR.out w hSw).1.at.c6; go_simp⟩) hH ?_
      try simp only [Act.put, List.setIfInBounds_toArray, List.set_cons_zero, List.set_cons_succ, List.getElem_toArray, List.getElem_cons_succ, List.getElem_cons_zero]
      refine wpAnyH_take (i := 4) (v := .agg #[.string ar, .int .i64 lt]) rfl (by kernel_rfl) (by kernel_rfl) (by kernel_rfl) (fun _ _ _ h => h) (Or.inl ⟨by rfl, fun w hSw => by have f0 := blkCell (HR.out w hSw).2.2.2.2 0 _ rfl; have f1 := blkCell (HR.out w hSw).2.2.2.2 1 _ rfl; go_simp⟩) hH ?_
      try simp only [Act.put, List.setIfInBounds_toArray, List.set_cons_zero, List.set_cons_succ, List.getElem_toArray, List.getElem_cons_succ, List.getElem_cons_zero]
      refine wpAnyH_take (i := 5) (v := .tuple #[lvv, .bool true]) rfl (by kernel_rfl) (by kernel_rfl) (by kernel_rfl) (fun _ _ _ h => h) (Or.inl ⟨by rfl, fun w hSw => by have f0 := HL.out w hSw; go_simp⟩) hH ?_
      try simp only [Act.put, List.setIfInBounds_toArray, List.set_cons_zero, List.set_cons_succ, List.getElem_toArray, List.getElem_cons_succ, List.getElem_cons_zero]
      refine wpAnyH_take (i := 6) (v := .tuple #[lvv, .bool true]) rfl (by kernel_rfl) (by kernel_rfl) (by kernel_rfl) (fun _ _ _ h => h) (Or.inl ⟨by rfl, fun w hSw => by go_simp⟩) hH ?_
      try simp only [Act.put, List.setIfInBounds_toArray, List.set_cons_zero, List.set_cons_succ, List.getElem_toArray, List.getElem_cons_succ, List.getElem_cons_zero]
      refine wpAnyH_take (i := 7) (v := lvv) rfl (by kernel_rfl) (by kernel_rfl) (by kernel_rfl) (fun _ _ _ h => h) (Or.inl ⟨by rfl, fun w hSw => by go_simp⟩) hH ?_
      try simp only [Act.put, List.setIfInBounds_toArray, List.set_cons_zero, List.set_cons_succ, List.getElem_toArray, List.getElem_cons_succ, List.getElem_cons_zero]
      refine wpAnyH_take (i := 8) (v := .bool true) rfl (by kernel_rfl) (by kernel_rfl) (by kernel_rfl) (fun _ _ _ h => h) (Or.inl ⟨by rfl, fun w hSw => by go_simp⟩) hH ?_
      try simp only [Act.put, List.setIfInBounds_toArray, List.set_cons_zero, List.set_cons_succ, List.getElem_toArray, List.getElem_cons_succ, List.getElem_cons_zero]
      refine wpAnyH_take (i := 9) (v := lvv) rfl (by kernel_rfl) (by kernel_rfl) (by kernel_rfl) (fun _ _ _ h => h) (Or.inl ⟨by rfl, fun w hSw => by go_simp⟩) hH ?_
      try simp only [Act.put, List.setIfInBounds_toArray, List.set_cons_zero, List.set_cons_succ, List.getElem_toArray, List.getElem_cons_succ, List.getElem_cons_zero]
      refine wpAnyH_take (i := 10) (v := .bool true) rfl (by kernel_rfl) (by kernel_rfl) (by kernel_rfl) (fun _ _ _ h => h) (Or.inl ⟨by rfl, fun w hSw => by go_simp⟩) hH ?_
      try simp only [Act.put, List.setIfInBounds_toArray, List.set_cons_zero, List.set_cons_succ, List.getElem_toArray, List.getElem_cons_succ, List.getElem_cons_zero]
      refine wpAnyH_done (by kernel_rfl) ?_ _
      have H4 : Hid (Below W3.heap.size W3 W3.drew) := hH
      clear hH HL
      generalize W3.drew = W4 at *
      have q0 := blkCell (HR.out W4 H4.out).2.2.1 0 _ rfl
      have q3 := blkCell (HR.out W4 H4.out).2.2.1 3 _ rfl
      have k0 := blkCell (HR.out W4 H4.out).2.2.2.2 0 _ rfl
      have k1 := blkCell (HR.out W4 H4.out).2.2.2.2 1 _ rfl
      go_wp2_with fail
      (first | go_at_call 56 | skip)
      refine (HC4.out W4 H4.out).mono ?_
      rintro e w5 hob
      obtain ⟨r1, r2, r3, r4, r5⟩ := HR.out W4 H4.out
      have HP : Hid (w5.heap[w.heap.size + 1]? = some (.cells #[.int .i64 0, .int .i64 0] 36 (0, 0)) ∧ ObP B rb mb ub ov w le ln ls e ((w5.setCell ⟨w.heap.size + 1, 0, none⟩ (.int .i64 le)).setCell ⟨w.heap.size + 1, 1, none⟩ (.int .i64 ln)) ∧ ((w5.setCell ⟨w.heap.size + 1, 0, none⟩ (.int .i64 le)).setCell ⟨w.heap.size + 1, 1, none⟩ (.int .i64 ln)).heap[w.heap.size + 1]? = some (.cells #[.int .i64 le, .int .i64 ln] 36 (0, 0))) := hob.pass r1 r2 (by omega) r4
      obtain ⟨rfl, -⟩ := hob
      have y0 := blkCell HP.out.1 0 _ rfl
      have y1 := blkCell HP.out.1 1 _ rfl
      have z0 := blkFree HP.out.1 0
      have z1 := blkFree HP.out.1 1
      clear r1 r2 r3 r4 r5 q0 q3 k0 k1 HR H4 HC4
      go_wp2
      obtain ⟨-, k1, k2⟩ := HP.out
      generalize (w5.setCell ⟨w.heap.size + 1, 0, none⟩ (.int .i64 le)).setCell ⟨w.heap.size + 1, 1, none⟩ (.int .i64 ln) = W9 at *
      have p0 := blkCell k2 0 _ rfl
      have p1 := blkCell k2 1 _ rfl
      exact bodyPost_ret (v := .agg #[.int .i64 le, .int .i64 ln]) (by simp [results, Try.results41, go_sem, p0, p1]) rfl k1
    · generalize lotE σ 5 nu i = le at *
      generalize lotN σ 5 nu i = ln at *
      generalize lotS σ 5 nu i = ls at *
      clear HC4 HC6 HC7
      go_enter Try.func41, Try.ntmps41
      go_wp2_with fail
      rw [← hW3]
      clear hW3
      refine wp_region_held_drew (S := fun W => Below W3.heap.size W3 W) (by kernel_rfl) (below_drew _) (fun hH => ?_)
      refine wpAnyH_take (i := 0) (v := .pointer (some ⟨rb, 0, none⟩)) rfl (by kernel_rfl) (by kernel_rfl) (by kernel_rfl) (fun _ _ _ h => h) (Or.inl ⟨by rfl, fun w hSw => by go_simp⟩) hH ?_
      refine wpAnyH_take (i := 1) (v := .pointer (some ⟨rb, 0, none⟩)) rfl (by kernel_rfl) (by kernel_rfl) (by kernel_rfl) (fun _ _ _ h => h) (Or.inl ⟨by rfl, fun w hSw => by go_simp⟩) hH ?_
      try simp only [Act.put, List.setIfInBounds_toArray, List.set_cons_zero, List.set_cons_succ, List.getElem_toArray, List.getElem_cons_succ, List.getElem_cons_zero]
      refine wpAnyH_take (i := 2) (v := .pointer (some ⟨rb, 6, none⟩)) rfl (by kernel_rfl) (by kernel_rfl) (by kernel_rfl) (fun _ _ _ h => h) (Or.inl ⟨by rfl, fun w hSw => by go_simp⟩) hH ?_
      try simp only [Act.put, List.setIfInBounds_toArray, List.set_cons_zero, List.set_cons_succ, List.getElem_toArray, List.getElem_cons_succ, List.getElem_cons_zero]
      refine wpAnyH_take (i := 3) (v := .map (some mb)) rfl (by kernel_rfl) (by kernel_rfl) (by kernel_rfl) (fun _ _ _ h => h) (Or.inl ⟨by rfl, fun w hSw => by have f0 := (HR.out w hSw).1.at.c6; go_simp⟩) hH ?_
      try simp only [Act.put, List.setIfInBounds_toArray, List.set_cons_zero, List.set_cons_succ, List.getElem_toArray, List.getElem_cons_succ, List.getElem_cons_zero]
      refine wpAnyH_take (i := 4) (v := .agg #[.string ar, .int .i64 lt]) rfl (by kernel_rfl) (by kernel_rfl) (by kernel_rfl) (fun _ _ _ h => h) (Or.inl ⟨by rfl, fun w hSw => by have f0 := blkCell (HR.out w hSw).2.2.2.2 0 _ rfl; have f1 := blkCell (HR.out w hSw).2.2.2.2 1 _ rfl; go_simp⟩) hH ?_
      try simp only [Act.put, List.setIfInBounds_toArray, List.set_cons_zero, List.set_cons_succ, List.getElem_toArray, List.getElem_cons_succ, List.getElem_cons_zero]
      refine wpAnyH_take (i := 5) (v := .tuple #[lvv, .bool true]) rfl (by kernel_rfl) (by kernel_rfl) (by kernel_rfl) (fun _ _ _ h => h) (Or.inl ⟨by rfl, fun w hSw => by have f0 := HL.out w hSw; go_simp⟩) hH ?_
      try simp only [Act.put, List.setIfInBounds_toArray, List.set_cons_zero, List.set_cons_succ, List.getElem_toArray, List.getElem_cons_succ, List.getElem_cons_zero]
      refine wpAnyH_take (i := 6) (v := .tuple #[lvv, .bool true]) rfl (by kernel_rfl) (by kernel_rfl) (by kernel_rfl) (fun _ _ _ h => h) (Or.inl ⟨by rfl, fun w hSw => by go_simp⟩) hH ?_
      try simp only [Act.put, List.setIfInBounds_toArray, List.set_cons_zero, List.set_cons_succ, List.getElem_toArray, List.getElem_cons_succ, List.getElem_cons_zero]
      refine wpAnyH_take (i := 7) (v := lvv) rfl (by kernel_rfl) (by kernel_rfl) (by kernel_rfl) (fun _ _ _ h => h) (Or.inl ⟨by rfl, fun w hSw => by go_simp⟩) hH ?_
      try simp only [Act.put, List.setIfInBounds_toArray, List.set_cons_zero, List.set_cons_succ, List.getElem_toArray, List.getElem_cons_succ, List.getElem_cons_zero]
      refine wpAnyH_take (i := 8) (v := .bool true) rfl (by kernel_rfl) (by kernel_rfl) (by kernel_rfl) (fun _ _ _ h => h) (Or.inl ⟨by rfl, fun w hSw => by go_simp⟩) hH ?_
      try simp only [Act.put, List.setIfInBounds_toArray, List.set_cons_zero, List.set_cons_succ, List.getElem_toArray, List.getElem_cons_succ, List.getElem_cons_zero]
      refine wpAnyH_take (i := 9) (v := lvv) rfl (by kernel_rfl) (by kernel_rfl) (by kernel_rfl) (fun _ _ _ h => h) (Or.inl ⟨by rfl, fun w hSw => by go_simp⟩) hH ?_
      try simp only [Act.put, List.setIfInBounds_toArray, List.set_cons_zero, List.set_cons_succ, List.getElem_toArray, List.getElem_cons_succ, List.getElem_cons_zero]
      refine wpAnyH_take (i := 10) (v := .bool true) rfl (by kernel_rfl) (by kernel_rfl) (by kernel_rfl) (fun _ _ _ h => h) (Or.inl ⟨by rfl, fun w hSw => by go_simp⟩) hH ?_
      try simp only [Act.put, List.setIfInBounds_toArray, List.set_cons_zero, List.set_cons_succ, List.getElem_toArray, List.getElem_cons_succ, List.getElem_cons_zero]
      refine wpAnyH_done (by kernel_rfl) ?_ _
      have H4 : Hid (Below W3.heap.size W3 W3.drew) := hH
      clear hH HL
      generalize W3.drew = W4 at *
      have q0 := blkCell (HR.out W4 H4.out).2.2.1 0 _ rfl
      have q3 := blkCell (HR.out W4 H4.out).2.2.1 3 _ rfl
      have k0 := blkCell (HR.out W4 H4.out).2.2.2.2 0 _ rfl
      have k1 := blkCell (HR.out W4 H4.out).2.2.2.2 1 _ rfl
      go_wp2_with fail
      (first | go_at_call 57 | skip)
      refine (HC5.out W4 H4.out).mono ?_
      rintro e w5 hob
      obtain ⟨r1, r2, r3, r4, r5⟩ := HR.out W4 H4.out
      have HP : Hid (w5.heap[w.heap.size + 1]? = some (.cells #[.int .i64 0, .int .i64 0] 36 (0, 0)) ∧ ObP B rb mb ub ov w le ln ls e ((w5.setCell ⟨w.heap.size + 1, 0, none⟩ (.int .i64 le)).setCell ⟨w.heap.size + 1, 1, none⟩ (.int .i64 ln)) ∧ ((w5.setCell ⟨w.heap.size + 1, 0, none⟩ (.int .i64 le)).setCell ⟨w.heap.size + 1, 1, none⟩ (.int .i64 ln)).heap[w.heap.size + 1]? = some (.cells #[.int .i64 le, .int .i64 ln] 36 (0, 0))) := hob.pass r1 r2 (by omega) r4
      obtain ⟨rfl, -⟩ := hob
      have y0 := blkCell HP.out.1 0 _ rfl
      have y1 := blkCell HP.out.1 1 _ rfl
      have z0 := blkFree HP.out.1 0
      have z1 := blkFree HP.out.1 1
      clear r1 r2 r3 r4 r5 q0 q3 k0 k1 HR H4 HC5
      go_wp2
      obtain ⟨-, k1, k2⟩ := HP.out
      generalize (w5.setCell ⟨w.heap.size + 1, 0, none⟩ (.int .i64 le)).setCell ⟨w.heap.size + 1, 1, none⟩ (.int .i64 ln) = W9 at *
      have p0 := blkCell k2 0 _ rfl
      have p1 := blkCell k2 1 _ rfl
      exact bodyPost_ret (v := .agg #[.int .i64 le, .int .i64 ln]) (by simp [results, Try.results41, go_sem, p0, p1]) rfl k1
    · generalize lotE σ 6 nu i = le at *
      generalize lotN σ 6 nu i = ln at *
      generalize lotS σ 6 nu i = ls at *
      clear HC4 HC5 HC7
      go_enter Try.func41, Try.ntmps41
      go_wp2_with fail
      rw [← hW3]
      clear hW3
      refine wp_region_held_drew (S := fun W => Below W3.heap.size W3 W) (by kernel_rfl) (below_drew _) (fun hH => ?_)
      refine wpAnyH_take (i := 0) (v := .pointer (some ⟨rb, 0, none⟩)) rfl (by kernel_rfl) (by kernel_rfl) (by kernel_rfl) (fun _ _ _ h => h) (Or.inl ⟨by rfl, fun w hSw => by go_simp⟩) hH ?_
      refine wpAnyH_take (i := 1) (v := .pointer (some ⟨rb, 0, none⟩)) rfl (by kernel_rfl) (by kernel_rfl) (by kernel_rfl) (fun _ _ _ h => h) (Or.inl ⟨by rfl, fun w hSw => by go_simp⟩) hH ?_
      try simp only [Act.put, List.setIfInBounds_toArray, List.set_cons_zero, List.set_cons_succ, List.getElem_toArray, List.getElem_cons_succ, List.getElem_cons_zero]
      refine wpAnyH_take (i := 2) (v := .pointer (some ⟨rb, 6, none⟩)) rfl (by kernel_rfl) (by kernel_rfl) (by kernel_rfl) (fun _ _ _ h => h) (Or.inl ⟨by rfl, fun w hSw => by go_simp⟩) hH ?_
      try simp only [Act.put, List.setIfInBounds_toArray, List.set_cons_zero, List.set_cons_succ, List.getElem_toArray, List.getElem_cons_succ, List.getElem_cons_zero]
      refine wpAnyH_take (i := 3) (v := .map (some mb)) rfl (by kernel_rfl) (by kernel_rfl) (by kernel_rfl) (fun _ _ _ h => h) (Or.inl ⟨by rfl, fun w hSw => by have f0 := (HR.out w hSw).1.at.c6; go_simp⟩) hH ?_
      try simp only [Act.put, List.setIfInBounds_toArray, List.set_cons_zero, List.set_cons_succ, List.getElem_toArray, List.getElem_cons_succ, List.getElem_cons_zero]
      refine wpAnyH_take (i := 4) (v := .agg #[.string ar, .int .i64 lt]) rfl (by kernel_rfl) (by kernel_rfl) (by kernel_rfl) (fun _ _ _ h => h) (Or.inl ⟨by rfl, fun w hSw => by have f0 := blkCell (HR.out w hSw).2.2.2.2 0 _ rfl; have f1 := blkCell (HR.out w hSw).2.2.2.2 1 _ rfl; go_simp⟩) hH ?_
      try simp only [Act.put, List.setIfInBounds_toArray, List.set_cons_zero, List.set_cons_succ, List.getElem_toArray, List.getElem_cons_succ, List.getElem_cons_zero]
      refine wpAnyH_take (i := 5) (v := .tuple #[lvv, .bool true]) rfl (by kernel_rfl) (by kernel_rfl) (by kernel_rfl) (fun _ _ _ h => h) (Or.inl ⟨by rfl, fun w hSw => by have f0 := HL.out w hSw; go_simp⟩) hH ?_
      try simp only [Act.put, List.setIfInBounds_toArray, List.set_cons_zero, List.set_cons_succ, List.getElem_toArray, List.getElem_cons_succ, List.getElem_cons_zero]
      refine wpAnyH_take (i := 6) (v := .tuple #[lvv, .bool true]) rfl (by kernel_rfl) (by kernel_rfl) (by kernel_rfl) (fun _ _ _ h => h) (Or.inl ⟨by rfl, fun w hSw => by go_simp⟩) hH ?_
      try simp only [Act.put, List.setIfInBounds_toArray, List.set_cons_zero, List.set_cons_succ, List.getElem_toArray, List.getElem_cons_succ, List.getElem_cons_zero]
      refine wpAnyH_take (i := 7) (v := lvv) rfl (by kernel_rfl) (by kernel_rfl) (by kernel_rfl) (fun _ _ _ h => h) (Or.inl ⟨by rfl, fun w hSw => by go_simp⟩) hH ?_
      try simp only [Act.put, List.setIfInBounds_toArray, List.set_cons_zero, List.set_cons_succ, List.getElem_toArray, List.getElem_cons_succ, List.getElem_cons_zero]
      refine wpAnyH_take (i := 8) (v := .bool true) rfl (by kernel_rfl) (by kernel_rfl) (by kernel_rfl) (fun _ _ _ h => h) (Or.inl ⟨by rfl, fun w hSw => by go_simp⟩) hH ?_
      try simp only [Act.put, List.setIfInBounds_toArray, List.set_cons_zero, List.set_cons_succ, List.getElem_toArray, List.getElem_cons_succ, List.getElem_cons_zero]
      refine wpAnyH_take (i := 9) (v := lvv) rfl (by kernel_rfl) (by kernel_rfl) (by kernel_rfl) (fun _ _ _ h => h) (Or.inl ⟨by rfl, fun w hSw => by go_simp⟩) hH ?_
      try simp only [Act.put, List.setIfInBounds_toArray, List.set_cons_zero, List.set_cons_succ, List.getElem_toArray, List.getElem_cons_succ, List.getElem_cons_zero]
      refine wpAnyH_take (i := 10) (v := .bool true) rfl (by kernel_rfl) (by kernel_rfl) (by kernel_rfl) (fun _ _ _ h => h) (Or.inl ⟨by rfl, fun w hSw => by go_simp⟩) hH ?_
      try simp only [Act.put, List.setIfInBounds_toArray, List.set_cons_zero, List.set_cons_succ, List.getElem_toArray, List.getElem_cons_succ, List.getElem_cons_zero]
      refine wpAnyH_done (by kernel_rfl) ?_ _
      have H4 : Hid (Below W3.heap.size W3 W3.drew) := hH
      clear hH HL
      generalize W3.drew = W4 at *
      have q0 := blkCell (HR.out W4 H4.out).2.2.1 0 _ rfl
      have q3 := blkCell (HR.out W4 H4.out).2.2.1 3 _ rfl
      have k0 := blkCell (HR.out W4 H4.out).2.2.2.2 0 _ rfl
      have k1 := blkCell (HR.out W4 H4.out).2.2.2.2 1 _ rfl
      go_wp2_with fail
      (first | go_at_call 58 | skip)
      refine (HC6.out W4 H4.out).mono ?_
      rintro e w5 hob
      obtain ⟨r1, r2, r3, r4, r5⟩ := HR.out W4 H4.out
      have HP : Hid (w5.heap[w.heap.size + 1]? = some (.cells #[.int .i64 0, .int .i64 0] 36 (0, 0)) ∧ ObP B rb mb ub ov w le ln ls e ((w5.setCell ⟨w.heap.size + 1, 0, none⟩ (.int .i64 le)).setCell ⟨w.heap.size + 1, 1, none⟩ (.int .i64 ln)) ∧ ((w5.setCell ⟨w.heap.size + 1, 0, none⟩ (.int .i64 le)).setCell ⟨w.heap.size + 1, 1, none⟩ (.int .i64 ln)).heap[w.heap.size + 1]? = some (.cells #[.int .i64 le, .int .i64 ln] 36 (0, 0))) := hob.pass r1 r2 (by omega) r4
      obtain ⟨rfl, -⟩ := hob
      have y0 := blkCell HP.out.1 0 _ rfl
      have y1 := blkCell HP.out.1 1 _ rfl
      have z0 := blkFree HP.out.1 0
      have z1 := blkFree HP.out.1 1
      clear r1 r2 r3 r4 r5 q0 q3 k0 k1 HR H4 HC6
      go_wp2
      obtain ⟨-, k1, k2⟩ := HP.out
      generalize (w5.setCell ⟨w.heap.size + 1, 0, none⟩ (.int .i64 le)).setCell ⟨w.heap.size + 1, 1, none⟩ (.int .i64 ln) = W9 at *
      have p0 := blkCell k2 0 _ rfl
      have p1 := blkCell k2 1 _ rfl
      exact bodyPost_ret (v := .agg #[.int .i64 le, .int .i64 ln]) (by simp [results, Try.results41, go_sem, p0, p1]) rfl k1
    · generalize lotE σ 7 nu i = le at *
      generalize lotN σ 7 nu i = ln at *
      generalize lotS σ 7 nu i = ls at *
      clear HC4 HC5 HC6
      go_enter Try.func41, Try.ntmps41
      go_wp2_with fail
      rw [← hW3]
      clear hW3
      refine wp_region_held_drew (S := fun W => Below W3.heap.size W3 W) (by kernel_rfl) (below_drew _) (fun hH => ?_)
      refine wpAnyH_take (i := 0) (v := .pointer (some ⟨rb, 0, none⟩)) rfl (by kernel_rfl) (by kernel_rfl) (by kernel_rfl) (fun _ _ _ h => h) (Or.inl ⟨by rfl, fun w hSw => by go_simp⟩) hH ?_
      refine wpAnyH_take (i := 1) (v := .pointer (some ⟨rb, 0, none⟩)) rfl (by kernel_rfl) (by kernel_rfl) (by kernel_rfl) (fun _ _ _ h => h) (Or.inl ⟨by rfl, fun w hSw => by go_simp⟩) hH ?_
      try simp only [Act.put, List.setIfInBounds_toArray, List.set_cons_zero, List.set_cons_succ, List.getElem_toArray, List.getElem_cons_succ, List.getElem_cons_zero]
      refine wpAnyH_take (i := 2) (v := .pointer (some ⟨rb, 6, none⟩)) rfl (by kernel_rfl) (by kernel_rfl) (by kernel_rfl) (fun _ _ _ h => h) (Or.inl ⟨by rfl, fun w hSw => by go_simp⟩) hH ?_
      try simp only [Act.put, List.setIfInBounds_toArray, List.set_cons_zero, List.set_cons_succ, List.getElem_toArray, List.getElem_cons_succ, List.getElem_cons_zero]
      refine wpAnyH_take (i := 3) (v := .map (some mb)) rfl (by kernel_rfl) (by kernel_rfl) (by kernel_rfl) (fun _ _ _ h => h) (Or.inl ⟨by rfl, fun w hSw => by have f0 := (HR.out w hSw).1.at.c6; go_simp⟩) hH ?_
      try simp only [Act.put, List.setIfInBounds_toArray, List.set_cons_zero, List.set_cons_succ, List.getElem_toArray, List.getElem_cons_succ, List.getElem_cons_zero]
      refine wpAnyH_take (i := 4) (v := .agg #[.string ar, .int .i64 lt]) rfl (by kernel_rfl) (by kernel_rfl) (by kernel_rfl) (fun _ _ _ h => h) (Or.inl ⟨by rfl, fun w hSw => by have f0 := blkCell (HR.out w hSw).2.2.2.2 0 _ rfl; have f1 := blkCell (HR.out w hSw).2.2.2.2 1 _ rfl; go_simp⟩) hH ?_
      try simp only [Act.put, List.setIfInBounds_toArray, List.set_cons_zero, List.set_cons_succ, List.getElem_toArray, List.getElem_cons_succ, List.getElem_cons_zero]
      refine wpAnyH_take (i := 5) (v := .tuple #[lvv, .bool true]) rfl (by kernel_rfl) (by kernel_rfl) (by kernel_rfl) (fun _ _ _ h => h) (Or.inl ⟨by rfl, fun w hSw => by have f0 := HL.out w hSw; go_simp⟩) hH ?_
      try simp only [Act.put, List.setIfInBounds_toArray, List.set_cons_zero, List.set_cons_succ, List.getElem_toArray, List.getElem_cons_succ, List.getElem_cons_zero]
      refine wpAnyH_take (i := 6) (v := .tuple #[lvv, .bool true]) rfl (by kernel_rfl) (by kernel_rfl) (by kernel_rfl) (fun _ _ _ h => h) (Or.inl ⟨by rfl, fun w hSw => by go_simp⟩) hH ?_
      try simp only [Act.put, List.setIfInBounds_toArray, List.set_cons_zero, List.set_cons_succ, List.getElem_toArray, List.getElem_cons_succ, List.getElem_cons_zero]
      refine wpAnyH_take (i := 7) (v := lvv) rfl (by kernel_rfl) (by kernel_rfl) (by kernel_rfl) (fun _ _ _ h => h) (Or.inl ⟨by rfl, fun w hSw => by go_simp⟩) hH ?_
      try simp only [Act.put, List.setIfInBounds_toArray, List.set_cons_zero, List.set_cons_succ, List.getElem_toArray, List.getElem_cons_succ, List.getElem_cons_zero]
      refine wpAnyH_take (i := 8) (v := .bool true) rfl (by kernel_rfl) (by kernel_rfl) (by kernel_rfl) (fun _ _ _ h => h) (Or.inl ⟨by rfl, fun w hSw => by go_simp⟩) hH ?_
      try simp only [Act.put, List.setIfInBounds_toArray, List.set_cons_zero, List.set_cons_succ, List.getElem_toArray, List.getElem_cons_succ, List.getElem_cons_zero]
      refine wpAnyH_take (i := 9) (v := lvv) rfl (by kernel_rfl) (by kernel_rfl) (by kernel_rfl) (fun _ _ _ h => h) (Or.inl ⟨by rfl, fun w hSw => by go_simp⟩) hH ?_
      try simp only [Act.put, List.setIfInBounds_toArray, List.set_cons_zero, List.set_cons_succ, List.getElem_toArray, List.getElem_cons_succ, List.getElem_cons_zero]
      refine wpAnyH_take (i := 10) (v := .bool true) rfl (by kernel_rfl) (by kernel_rfl) (by kernel_rfl) (fun _ _ _ h => h) (Or.inl ⟨by rfl, fun w hSw => by go_simp⟩) hH ?_
      try simp only [Act.put, List.setIfInBounds_toArray, List.set_cons_zero, List.set_cons_succ, List.getElem_toArray, List.getElem_cons_succ, List.getElem_cons_zero]
      refine wpAnyH_done (by kernel_rfl) ?_ _
      have H4 : Hid (Below W3.heap.size W3 W3.drew) := hH
      clear hH HL
      generalize W3.drew = W4 at *
      have q0 := blkCell (HR.out W4 H4.out).2.2.1 0 _ rfl
      have q3 := blkCell (HR.out W4 H4.out).2.2.1 3 _ rfl
      have k0 := blkCell (HR.out W4 H4.out).2.2.2.2 0 _ rfl
      have k1 := blkCell (HR.out W4 H4.out).2.2.2.2 1 _ rfl
      go_wp2_with fail
      (first | go_at_call 59 | skip)
      refine (HC7.out W4 H4.out).mono ?_
      rintro e w5 hob
      obtain ⟨r1, r2, r3, r4, r5⟩ := HR.out W4 H4.out
      have HP : Hid (w5.heap[w.heap.size + 1]? = some (.cells #[.int .i64 0, .int .i64 0] 36 (0, 0)) ∧ ObP B rb mb ub ov w le ln ls e ((w5.setCell ⟨w.heap.size + 1, 0, none⟩ (.int .i64 le)).setCell ⟨w.heap.size + 1, 1, none⟩ (.int .i64 ln)) ∧ ((w5.setCell ⟨w.heap.size + 1, 0, none⟩ (.int .i64 le)).setCell ⟨w.heap.size + 1, 1, none⟩ (.int .i64 ln)).heap[w.heap.size + 1]? = some (.cells #[.int .i64 le, .int .i64 ln] 36 (0, 0))) := hob.pass r1 r2 (by omega) r4
      obtain ⟨rfl, -⟩ := hob
      have y0 := blkCell HP.out.1 0 _ rfl
      have y1 := blkCell HP.out.1 1 _ rfl
      have z0 := blkFree HP.out.1 0
      have z1 := blkFree HP.out.1 1
      clear r1 r2 r3 r4 r5 q0 q3 k0 k1 HR H4 HC7
      go_wp2
      obtain ⟨-, k1, k2⟩ := HP.out
      generalize (w5.setCell ⟨w.heap.size + 1, 0, none⟩ (.int .i64 le)).setCell ⟨w.heap.size + 1, 1, none⟩ (.int .i64 ln) = W9 at *
      have p0 := blkCell k2 0 _ rfl
      have p1 := blkCell k2 1 _ rfl
      exact bodyPost_ret (v := .agg #[.int .i64 le, .int .i64 ln]) (by simp [results, Try.results41, go_sem, p0, p1]) rfl k1
set_option maxHeartbeats 8000000 in
theorem do_any {B rb mb ub : Nat} {σ : StS} {ov : Value} {w : World} (h : Rn B rb mb ub σ ov w) (hB : B ≤ w.heap.size) (ix : Nat) (hix : ix ≤ 1000) (hok : StOK ix σ) (kd : Int) (ar : ByteArray) (lt nu un : Int) (har : ar.size ≤ 2000000) (hlt : WfI lt) :
    Calls Try.prog 24 #[.pointer (some ⟨rb, 0, none⟩), .agg #[.int .i64 kd, .string ar, .int .i64 lt, .int .i64 nu, .int .i64 un]] w (ObP B rb mb ub ov w (actE σ ⟨kd, ar, lt, nu, un⟩) (actN σ ⟨kd, ar, lt, nu, un⟩) (actS σ ⟨kd, ar, lt, nu, un⟩)) := by
  obtain ⟨W2, hW2⟩ : ∃ W2, W2 = (w.alloc (Obj.cells #[.int .i64 kd, .string ar, .int .i64 lt, .int .i64 nu, .int .i64 un] 34)).alloc (Obj.cells #[.int .i64 0, .int .i64 0] 36) := ⟨_, rfl⟩
  have H2 : Hid (Rn B rb mb ub σ ov W2 ∧ Below w.heap.size w W2 ∧ W2.heap[w.heap.size]? = some (.cells #[.int .i64 kd, .string ar, .int .i64 lt, .int .i64 nu, .int .i64 un] 34 (0, 0)) ∧ W2.heap[w.heap.size + 1]? = some (.cells #[.int .i64 0, .int .i64 0] 36 (0, 0))) := by rw [hW2]; exact ⟨h.later (chain (below_alloc _ _) (below_alloc _ _)), chain (below_alloc _ _) (below_alloc _ _), heapTwo _ _ _⟩
  have HSt : Hid (StOK ix σ) := hok
  have q0 := blkCell H2.out.2.2.1 0 _ rfl
  have q1 := blkCell H2.out.2.2.1 1 _ rfl
  have q2 := blkCell H2.out.2.2.1 2 _ rfl
  have q3 := blkCell H2.out.2.2.1 3 _ rfl
  have q4 := blkCell H2.out.2.2.1 4 _ rfl
  rw [hW2] at q0 q1 q2 q3 q4
  have hB2 : B ≤ W2.heap.size := Nat.le_trans hB H2.out.2.1.size
  have HO : Hid (Rn B rb mb ub σ ov w) := h
  clear h hok
  rcases (by omega : kd = 1 ∨ kd = 2 ∨ kd = 3 ∨ (4 ≤ kd ∧ kd ≤ 7) ∨ (kd < 1 ∨ 7 < kd)) with hk | hk | hk | hk | hk
  · subst hk
    have e1 : actE σ ⟨1, ar, lt, nu, un⟩ = rcvC σ ⟨1, ar, lt, nu, un⟩ := by unfold actE; dsimp only; rw [if_pos rfl]
    have e2 : actN σ ⟨1, ar, lt, nu, un⟩ = rcvN σ ⟨1, ar, lt, nu, un⟩ := by unfold actN; dsimp only; rw [if_pos rfl]
    have e3 : actS σ ⟨1, ar, lt, nu, un⟩ = rcvS σ ⟨1, ar, lt, nu, un⟩ := by unfold actS; dsimp only; rw [if_pos rfl]
    rw [e1, e2, e3]
    have HC := receive_any H2.out.1 hB2 ix hix HSt.out 1 ar lt nu un har hlt
    have HC2 : Hid (Calls Try.prog 38 #[.pointer (some ⟨rb, 0, none⟩), .agg #[.int .i64 1, .string ar, .int .i64 lt, .int .i64 nu, .int .i64 un]] W2 (ObP B rb mb ub ov W2 (rcvC σ ⟨1, ar, lt, nu, un⟩) (rcvN σ ⟨1, ar, lt, nu, un⟩) (rcvS σ ⟨1, ar, lt, nu, un⟩))) := HC
    clear e1 e2 e3 HC
    generalize rcvC σ ⟨1, ar, lt, nu, un⟩ = le at *
    generalize rcvN σ ⟨1, ar, lt, nu, un⟩ = ln at *
    generalize rcvS σ ⟨1, ar, lt, nu, un⟩ = ls at *
    go_enter Try.func24, Try.ntmps24
    go_wp2_with fail
    (first | go_at_call 38 | skip)
    rw [← hW2]
    clear hW2 q0 q1 q2 q3 q4
    refine HC2.out.mono ?_
    rintro e w5 hob
    obtain ⟨r1, r2, r3, r4⟩ := H2.out
    have HP : Hid (w5.heap[w.heap.size + 1]? = some (.cells #[.int .i64 0, .int .i64 0] 36 (0, 0)) ∧ ObP B rb mb ub ov w le ln ls e ((w5.setCell ⟨w.heap.size + 1, 0, none⟩ (.int .i64 le)).setCell ⟨w.heap.size + 1, 1, none⟩ (.int .i64 ln)) ∧ ((w5.setCell ⟨w.heap.size + 1, 0, none⟩ (.int .i64 le)).setCell ⟨w.heap.size + 1, 1, none⟩ (.int .i64 ln)).heap[w.heap.size + 1]? = some (.cells #[.int .i64 le, .int .i64 ln] 36 (0, 0))) := hob.pass r1 r2 (by omega) r4
    obtain ⟨rfl, -⟩ := hob
    have y0 := blkCell HP.out.1 0 _ rfl
    have y1 := blkCell HP.out.1 1 _ rfl
    have z0 := blkFree HP.out.1 0
    have z1 := blkFree HP.out.1 1
    clear r1 r2 r3 r4 H2 HC2
    go_wp2
    obtain ⟨-, k1, k2⟩ := HP.out
    generalize (w5.setCell ⟨w.heap.size + 1, 0, none⟩ (.int .i64 le)).setCell ⟨w.heap.size + 1, 1, none⟩ (.int .i64 ln) = W9 at *
    have p0 := blkCell k2 0 _ rfl
    have p1 := blkCell k2 1 _ rfl
    exact bodyPost_ret (v := .agg #[.int .i64 le, .int .i64 ln]) (by simp [results, Try.results24, go_sem, p0, p1]) rfl k1
  · subst hk
    have e1 : actE σ ⟨2, ar, lt, nu, un⟩ = selE σ ar nu := by unfold actE; dsimp only; rw [if_neg (by omega), if_pos rfl]
    have e2 : actN σ ⟨2, ar, lt, nu, un⟩ = selN σ ar nu := by unfold actN; dsimp only; rw [if_neg (by omega), if_pos rfl]
    have e3 : actS σ ⟨2, ar, lt, nu, un⟩ = selS σ ar nu := by unfold actS; dsimp only; rw [if_neg (by omega), if_pos rfl]
    rw [e1, e2, e3]
    have HC := sell_any H2.out.1 ix hix HSt.out ar nu
    have HC2 : Hid (Calls Try.prog 39 #[.pointer (some ⟨rb, 0, none⟩), .string ar, .int .i64 nu] W2 (ObP B rb mb ub ov W2 (selE σ ar nu) (selN σ ar nu) (selS σ ar nu))) := HC
    clear e1 e2 e3 HC
    generalize selE σ ar nu = le at *
    generalize selN σ ar nu = ln at *
    generalize selS σ ar nu = ls at *
    go_enter Try.func24, Try.ntmps24
    go_wp2_with fail
    (first | go_at_call 39 | skip)
    rw [← hW2]
    clear hW2 q0 q1 q2 q3 q4
    refine HC2.out.mono ?_
    rintro e w5 hob
    obtain ⟨r1, r2, r3, r4⟩ := H2.out
    have HP : Hid (w5.heap[w.heap.size + 1]? = some (.cells #[.int .i64 0, .int .i64 0] 36 (0, 0)) ∧ ObP B rb mb ub ov w le ln ls e ((w5.setCell ⟨w.heap.size + 1, 0, none⟩ (.int .i64 le)).setCell ⟨w.heap.size + 1, 1, none⟩ (.int .i64 ln)) ∧ ((w5.setCell ⟨w.heap.size + 1, 0, none⟩ (.int .i64 le)).setCell ⟨w.heap.size + 1, 1, none⟩ (.int .i64 ln)).heap[w.heap.size + 1]? = some (.cells #[.int .i64 le, .int .i64 ln] 36 (0, 0))) := hob.pass r1 r2 (by omega) r4
    obtain ⟨rfl, -⟩ := hob
    have y0 := blkCell HP.out.1 0 _ rfl
    have y1 := blkCell HP.out.1 1 _ rfl
    have z0 := blkFree HP.out.1 0
    have z1 := blkFree HP.out.1 1
    clear r1 r2 r3 r4 H2 HC2
    go_wp2
    obtain ⟨-, k1, k2⟩ := HP.out
    generalize (w5.setCell ⟨w.heap.size + 1, 0, none⟩ (.int .i64 le)).setCell ⟨w.heap.size + 1, 1, none⟩ (.int .i64 ln) = W9 at *
    have p0 := blkCell k2 0 _ rfl
    have p1 := blkCell k2 1 _ rfl
    exact bodyPost_ret (v := .agg #[.int .i64 le, .int .i64 ln]) (by simp [results, Try.results24, go_sem, p0, p1]) rfl k1
  · subst hk
    have e1 : actE σ ⟨3, ar, lt, nu, un⟩ = dayE σ nu := by unfold actE; dsimp only; rw [if_neg (by omega), if_neg (by omega), if_pos rfl]
    have e2 : actN σ ⟨3, ar, lt, nu, un⟩ = dayN σ nu := by unfold actN; dsimp only; rw [if_neg (by omega), if_neg (by omega), if_pos rfl]
    have e3 : actS σ ⟨3, ar, lt, nu, un⟩ = dayS σ nu := by unfold actS; dsimp only; rw [if_neg (by omega), if_neg (by omega), if_pos rfl]
    rw [e1, e2, e3]
    have HC := goOn_any H2.out.1 nu
    have HC2 : Hid (Calls Try.prog 40 #[.pointer (some ⟨rb, 0, none⟩), .int .i64 nu] W2 (ObP B rb mb ub ov W2 (dayE σ nu) (dayN σ nu) (dayS σ nu))) := HC
    clear e1 e2 e3 HC
    generalize dayE σ nu = le at *
    generalize dayN σ nu = ln at *
    generalize dayS σ nu = ls at *
    go_enter Try.func24, Try.ntmps24
    go_wp2_with fail
    (first | go_at_call 40 | skip)
    rw [← hW2]
    clear hW2 q0 q1 q2 q3 q4
    refine HC2.out.mono ?_
    rintro e w5 hob
    obtain ⟨r1, r2, r3, r4⟩ := H2.out
    have HP : Hid (w5.heap[w.heap.size + 1]? = some (.cells #[.int .i64 0, .int .i64 0] 36 (0, 0)) ∧ ObP B rb mb ub ov w le ln ls e ((w5.setCell ⟨w.heap.size + 1, 0, none⟩ (.int .i64 le)).setCell ⟨w.heap.size + 1, 1, none⟩ (.int .i64 ln)) ∧ ((w5.setCell ⟨w.heap.size + 1, 0, none⟩ (.int .i64 le)).setCell ⟨w.heap.size + 1, 1, none⟩ (.int .i64 ln)).heap[w.heap.size + 1]? = some (.cells #[.int .i64 le, .int .i64 ln] 36 (0, 0))) := hob.pass r1 r2 (by omega) r4
    obtain ⟨rfl, -⟩ := hob
    have y0 := blkCell HP.out.1 0 _ rfl
    have y1 := blkCell HP.out.1 1 _ rfl
    have z0 := blkFree HP.out.1 0
    have z1 := blkFree HP.out.1 1
    clear r1 r2 r3 r4 H2 HC2
    go_wp2
    obtain ⟨-, k1, k2⟩ := HP.out
    generalize (w5.setCell ⟨w.heap.size + 1, 0, none⟩ (.int .i64 le)).setCell ⟨w.heap.size + 1, 1, none⟩ (.int .i64 ln) = W9 at *
    have p0 := blkCell k2 0 _ rfl
    have p1 := blkCell k2 1 _ rfl
    exact bodyPost_ret (v := .agg #[.int .i64 le, .int .i64 ln]) (by simp [results, Try.results24, go_sem, p0, p1]) rfl k1
  · skip
    have e1 : actE σ ⟨kd, ar, lt, nu, un⟩ = toE σ ⟨kd, ar, lt, nu, un⟩ := by unfold actE; dsimp only; rw [if_neg (by omega), if_neg (by omega), if_neg (by omega), if_pos hk]
    have e2 : actN σ ⟨kd, ar, lt, nu, un⟩ = toN σ ⟨kd, ar, lt, nu, un⟩ := by unfold actN; dsimp only; rw [if_neg (by omega), if_neg (by omega), if_neg (by omega), if_pos hk]
    have e3 : actS σ ⟨kd, ar, lt, nu, un⟩ = toS σ ⟨kd, ar, lt, nu, un⟩ := by unfold actS; dsimp only; rw [if_neg (by omega), if_neg (by omega), if_neg (by omega), if_pos hk]
    rw [e1, e2, e3]
    have HC := doToLot_any H2.out.1 ix hix HSt.out kd ar lt nu un har hlt hk
    have HC2 : Hid (Calls Try.prog 41 #[.pointer (some ⟨rb, 0, none⟩), .agg #[.int .i64 kd, .string ar, .int .i64 lt, .int .i64 nu, .int .i64 un]] W2 (ObP B rb mb ub ov W2 (toE σ ⟨kd, ar, lt, nu, un⟩) (toN σ ⟨kd, ar, lt, nu, un⟩) (toS σ ⟨kd, ar, lt, nu, un⟩))) := HC
    clear e1 e2 e3 HC
    generalize toE σ ⟨kd, ar, lt, nu, un⟩ = le at *
    generalize toN σ ⟨kd, ar, lt, nu, un⟩ = ln at *
    generalize toS σ ⟨kd, ar, lt, nu, un⟩ = ls at *
    have n1 : (kd == 1) = false := by rw [beq_eq_false_iff_ne]; omega
    have n2 : (kd == 2) = false := by rw [beq_eq_false_iff_ne]; omega
    have n3 : (kd == 3) = false := by rw [beq_eq_false_iff_ne]; omega
    clear n1 n2 n3
    rcases (by omega : kd = 4 ∨ kd = 5 ∨ kd = 6 ∨ kd = 7) with hq | hq | hq | hq
    all_goals
      subst hq
      clear hk
      go_enter Try.func24, Try.ntmps24
      go_wp2_with fail
      (first | go_at_call 41 | skip)
      rw [← hW2]
      clear hW2 q0 q1 q2 q3 q4
      refine HC2.out.mono ?_
      rintro e w5 hob
      obtain ⟨r1, r2, r3, r4⟩ := H2.out
      have HP : Hid (w5.heap[w.heap.size + 1]? = some (.cells #[.int .i64 0, .int .i64 0] 36 (0, 0)) ∧ ObP B rb mb ub ov w le ln ls e ((w5.setCell ⟨w.heap.size + 1, 0, none⟩ (.int .i64 le)).setCell ⟨w.heap.size + 1, 1, none⟩ (.int .i64 ln)) ∧ ((w5.setCell ⟨w.heap.size + 1, 0, none⟩ (.int .i64 le)).setCell ⟨w.heap.size + 1, 1, none⟩ (.int .i64 ln)).heap[w.heap.size + 1]? = some (.cells #[.int .i64 le, .int .i64 ln] 36 (0, 0))) := hob.pass r1 r2 (by omega) r4
      obtain ⟨rfl, -⟩ := hob
      have y0 := blkCell HP.out.1 0 _ rfl
      have y1 := blkCell HP.out.1 1 _ rfl
      have z0 := blkFree HP.out.1 0
      have z1 := blkFree HP.out.1 1
      clear r1 r2 r3 r4 H2 HC2
      go_wp2
      obtain ⟨-, k1, k2⟩ := HP.out
      generalize (w5.setCell ⟨w.heap.size + 1, 0, none⟩ (.int .i64 le)).setCell ⟨w.heap.size + 1, 1, none⟩ (.int .i64 ln) = W9 at *
      have p0 := blkCell k2 0 _ rfl
      have p1 := blkCell k2 1 _ rfl
      exact bodyPost_ret (v := .agg #[.int .i64 le, .int .i64 ln]) (by simp [results, Try.results24, go_sem, p0, p1]) rfl k1
  · have e1 : actE σ ⟨kd, ar, lt, nu, un⟩ = 13 := by unfold actE; dsimp only; rw [if_neg (by omega), if_neg (by omega), if_neg (by omega), if_neg (by omega)]
    have e2 : actN σ ⟨kd, ar, lt, nu, un⟩ = 0 := by unfold actN; dsimp only; rw [if_neg (by omega), if_neg (by omega), if_neg (by omega), if_neg (by omega)]
    have e3 : actS σ ⟨kd, ar, lt, nu, un⟩ = σ := by unfold actS; dsimp only; rw [if_neg (by omega), if_neg (by omega), if_neg (by omega), if_neg (by omega)]
    rw [e1, e2, e3]
    have n1 : (kd == 1) = false := by rw [beq_eq_false_iff_ne]; omega
    have n2 : (kd == 2) = false := by rw [beq_eq_false_iff_ne]; omega
    have n3 : (kd == 3) = false := by rw [beq_eq_false_iff_ne]; omega
    have n4 : (kd == 4) = false := by rw [beq_eq_false_iff_ne]; omega
    have n5 : (kd == 5) = false := by rw [beq_eq_false_iff_ne]; omega
    have n6 : (kd == 6) = false := by rw [beq_eq_false_iff_ne]; omega
    have n7 : (kd == 7) = false := by rw [beq_eq_false_iff_ne]; omega
    have HEn : Hid (Rn B rb mb ub σ ov ((w.alloc (Obj.cells #[.int .i64 kd, .string ar, .int .i64 lt, .int .i64 nu, .int .i64 un] 34)).alloc (Obj.cells #[.int .i64 13, .int .i64 0] 36)) ∧ Below w.heap.size w ((w.alloc (Obj.cells #[.int .i64 kd, .string ar, .int .i64 lt, .int .i64 nu, .int .i64 un] 34)).alloc (Obj.cells #[.int .i64 13, .int .i64 0] 36))) := by
      have hb : Below w.heap.size w ((w.alloc (Obj.cells #[.int .i64 kd, .string ar, .int .i64 lt, .int .i64 nu, .int .i64 un] 34)).alloc (Obj.cells #[.int .i64 13, .int .i64 0] 36)) := chain (below_alloc _ _) (below_alloc _ _)
      exact ⟨HO.out.later hb, hb⟩
    clear e1 e2 e3 q0 q1 q2 q3 q4 H2 hW2 hk
    go_enter Try.func24, Try.ntmps24
    go_wp2
    exact bodyPost_ret (v := .agg #[.int .i64 13, .int .i64 0]) (by simp [results, Try.results24, go_sem]) rfl (ObP.mk' (Fr.of HEn.out.2) HEn.out.1 rfl)
end Go.Proofs.Ytlfcaijhlgldnaa

/-
  Texts of this claim laid together: TlN.
-/
import Derived.Test.YtabpkfhbnendjaaGreatM21
/-
  The program's carryOut where a basket is taken up again.
-/
namespace Go.Proofs.YtabpkfhbnendjaaGreat
open Go.ChangeShapes Go.WideShapes Go.ChangeAt Go.RowKit Go.Deep
set_option linter.unusedVariables false

theorem kbCells_len : ∀ ks : List Kb, (ks.flatMap kbC).length = ks.length * 2
  | [] => rfl
  | k :: r => by rw [List.flatMap_cons, List.length_append, kbCells_len r, List.length_cons]; show 2 + _ = _; omega
def zKb : Kb := ⟨.slice none 0 0, [], 0⟩
theorem kbCells_at : ∀ (ks : List Kb) (i c : Nat), i < ks.length → c < 2 → (ks.flatMap kbC)[i * 2 + c]? = (kbC (ks.getD i zKb))[c]?
  | [], i, c, h, _ => by simp at h
  | k :: r, 0, c, _, hc => by rw [List.flatMap_cons, Nat.zero_mul, Nat.zero_add, List.getElem?_append_left (by show c < 2; exact hc)]; rfl
  | k :: r, i + 1, c, h, hc => by
    have h2 : (kbC k).length = 2 := rfl
    rw [List.flatMap_cons, List.getElem?_append_right (by rw [h2]; omega), h2, show (i + 1) * 2 + c - 2 = i * 2 + c by omega, kbCells_at r i c (by simpa using h) hc]; rfl
theorem kbCells_take : ∀ (M : List Kb) (k : Nat), (M.take k).flatMap kbC = (M.flatMap kbC).take (k * 2)
  | [], k => by simp
  | t :: r, 0 => by simp
  | t :: r, k + 1 => by
    rw [List.take_succ_cons, List.flatMap_cons, List.flatMap_cons, kbCells_take r k, show (k + 1) * 2 = k * 2 + 1 + 1 by omega]; rfl
theorem kbCells_drop : ∀ (M : List Kb) (k : Nat), (M.drop k).flatMap kbC = (M.flatMap kbC).drop (k * 2)
  | [], k => by simp
  | t :: r, 0 => by simp
  | t :: r, k + 1 => by
    rw [List.drop_succ_cons, List.flatMap_cons, kbCells_drop r k, show (k + 1) * 2 = k * 2 + 1 + 1 by omega]; rfl
theorem getKb {p : Kb → Prop} {ks : List Kb} (h : ∀ k ∈ ks, p k) {i : Nat} (hi : i < ks.length) : p (ks.getD i zKb) := by
  have e : ks.getD i zKb = ks[i] := by simp [List.getD_eq_getElem?_getD, hi]
  rw [e]; exact h _ (List.getElem_mem hi)
theorem kbCells_one {ks : List Kb} (h : ∀ k ∈ ks, ∃ a n c, k.v = .slice a n c) : ∀ u ∈ ks.flatMap kbC, u.oneCell' = true := by
  intro u hu
  obtain ⟨k, hk, hl⟩ := List.mem_flatMap.1 hu
  obtain ⟨a, n, c, e⟩ := h k hk
  unfold kbC at hl
  simp at hl
  rcases hl with rfl | rfl
  · rw [e]; rfl
  · rfl
/-- The basket that is now has been taken out of the kept ones. -/
theorem Rg.resume {B rb : Nat} {iv lv : Value} {ls : List RLi} {sh : Int} {kv : Value} {ks : List Kb} {sl tk dp : Int} {cs : List Int} {W W' : World} {kv' : Value} {i : Nat} (hi : i < ks.length) (h : Rg B rb iv lv ls sh kv ks sl tk dp cs W) (hf : Fr (fun k => k = rb ∨ kv.ownBlock = some k) W W') (hr : RegIs W' rb (ks.getD i zKb).v (ks.getD i zKb).sh iv kv' sl tk dp cs) (hk' : W'.ownsRow B 30 2 kv' (ks.take i ++ ks.drop (i + 1)).length ((ks.take i ++ ks.drop (i + 1)).flatMap kbC)) (hv : kv'.ownBlock = kv.ownBlock) : Rg B rb iv (ks.getD i zKb).v (ks.getD i zKb).ls (ks.getD i zKb).sh kv' (ks.take i ++ ks.drop (i + 1)) sl tk dp cs W' := by
  obtain ⟨f1, f2, f3, f4, f5, f6, f7⟩ := h.far
  have hrow : ∀ k ∈ ks, W'.ownsRow B 82 4 k.v k.ls.length (lnCells k.ls) := fun k hk => by
    refine row_of (h.rows k hk) (fun q hq => hf.block q (row_lt (h.rows k hk) q hq).2 ?_)
    rintro (e | e)
    · exact f3 k hk (by rw [hq, e])
    · exact f5 k hk q e hq
  have hsub : ∀ k ∈ ks.take i ++ ks.drop (i + 1), k ∈ ks := fun k hk => by
    rcases List.mem_append.1 hk with hk | hk
    · exact List.mem_of_mem_take hk
    · exact List.mem_of_mem_drop hk
  have hex : ks = ks.take i ++ ks.getD i zKb :: ks.drop (i + 1) := by
    have e : ks.getD i zKb = ks[i] := by simp [List.getD_eq_getElem?_getD, hi]
    rw [e, List.getElem_cons_drop hi, List.take_append_drop]
  have hsym : ∀ a b : Option Nat, Far a b → Far b a := fun a b hab q hq e => hab q e hq
  have hp := f7
  rw [hex, List.map_append, List.map_cons, List.pairwise_append] at hp
  obtain ⟨p1, p2, p3⟩ := hp
  obtain ⟨p4, p5⟩ := List.pairwise_cons.1 p2
  refine ⟨hr, getKb hrow hi, hk', fun k hk => hrow k (hsub k hk), ?_, h.low⟩
  rw [hv]
  refine dist_mk (getKb f3 hi) f2 (fun a ha => ?_) (getKb f5 hi) (fun a ha => ?_) (fun a ha => ?_) ?_
  · obtain ⟨x, hx, rfl⟩ := List.mem_map.1 ha; exact f3 x (hsub x hx)
  · obtain ⟨x, hx, rfl⟩ := List.mem_map.1 ha; exact f5 x (hsub x hx)
  · rw [List.map_append] at ha
    rcases List.mem_append.1 ha with ha | ha
    · exact hsym _ _ (p3 a ha _ List.mem_cons_self)
    · exact p4 a ha
  · rw [List.map_append, List.pairwise_append]
    exact ⟨p1, p5, fun a ha b hb => p3 a ha b (List.mem_cons_of_mem _ hb)⟩
set_option maxHeartbeats 8000000 in
set_option maxRecDepth 8000 in
theorem carryRes (B rb : Nat) (iv lv : Value) (ls : List RLi) (sh : Int) (g kc : Nat) (ks : List Kb) (hk : ks.length ≤ 50) (sl tk dp : Int) (cs : List Int) (i : Nat) (hi : i < ks.length) (hN : ∀ l ∈ (ks.getD i zKb).ls, LiN l) (hl : (ks.getD i zKb).ls.length ≤ 1000) (w : World) (hg : Rg B rb iv lv ls sh (.slice (some ⟨g, 0, none⟩) ks.length kc) ks sl tk dp cs w) :
    Calls Tryz.prog 29 #[.pointer (some ⟨rb, 0, none⟩), .iface 101 (.agg #[.int .i64 (i : Int)])] w fun e w' => e = .returned (.int .i64 (totL (ks.getD i zKb).ls)) ∧ Fr (RgX rb lv (.slice (some ⟨g, 0, none⟩) ks.length kc)) w w' ∧ Rg B rb iv (ks.getD i zKb).v (ks.getD i zKb).ls (ks.getD i zKb).sh (.slice (some ⟨g, 0, none⟩) (ks.length - 1) kc) (ks.take i ++ ks.drop (i + 1)) sl tk dp cs w' := by
  have hlow := hg.low
  have hlt := hg.reg.lt
  have hgB := row_lt hg.krow g rfl
  have hne : g ≠ rb := fun e => hg.far.2.1 (by rw [e]; rfl)
  have HG0 : Hid (Rg B rb iv lv ls sh (.slice (some ⟨g, 0, none⟩) ks.length kc) ks sl tk dp cs w) := hg
  obtain ⟨ra, rc, hrv⟩ := row_slice (getKb hg.rows hi)
  have hcell : ∀ W : World, W.heap[g]? = w.heap[g]? → W.cell? ⟨g, i * 2, none⟩ = some (.slice ra (ks.getD i zKb).ls.length rc) ∧ W.cell? ⟨g, i * 2 + 1, none⟩ = some (.int .i64 (ks.getD i zKb).sh) := fun W hW => by
    have hr := row_of hg.krow (w' := W) (fun q hq => by cases hq; exact hW)
    have c0 := kbCells_at ks i 0 hi (by omega)
    have c1 := kbCells_at ks i 1 hi (by omega)
    rw [Nat.add_zero] at c0
    refine ⟨?_, ?_⟩
    · rw [hr.cellAt (i * 2) (by omega), c0, ← hrv]; rfl
    · rw [hr.cellAt (i * 2 + 1) (by omega), c1]; rfl
  have HC : Hid (∀ W : World, W.heap[g]? = w.heap[g]? → W.cell? ⟨g, i * 2, none⟩ = some (.slice ra (ks.getD i zKb).ls.length rc) ∧ W.cell? ⟨g, i * 2 + 1, none⟩ = some (.int .i64 (ks.getD i zKb).sh)) := hcell
  have HD : Hid (∀ W : World, W.heap[g]? = w.heap[g]? → Calls Tryz.prog 47 #[.slice (some ⟨g, 0, none⟩) ks.length kc, .int .i64 (i : Int), .int .i64 ((i : Int) + 1)] W fun e w' => e = .returned (.slice (some ⟨g, 0, none⟩) (ks.length - 1) kc) ∧ Fr (fun k => k = g) W w' ∧ w'.ownsRow B 30 2 (.slice (some ⟨g, 0, none⟩) (ks.length - 1) kc) (ks.length - 1) ((ks.take i ++ ks.drop (i + 1)).flatMap kbC)) := fun W hW => by
    have := bkDelete_any B g kc ks.length i (ks.flatMap kbC) hi (kbCells_one (fun k hk => by obtain ⟨a, c, e⟩ := row_slice (hg.rows k hk); exact ⟨a, _, c, e⟩)) W (row_of hg.krow (fun q hq => by cases hq; exact hW)) (by omega)
    rwa [← kbCells_take, ← kbCells_drop, ← List.flatMap_append] at this
  have HT : Hid (∀ W, ReadsLi W.heap.size W ra (ks.getD i zKb).ls → Calls Tryz.prog 48 #[.agg #[.slice ra (ks.getD i zKb).ls.length rc, .int .i64 (ks.getD i zKb).sh]] W fun e w' => e = .returned (.int .i64 (totL (ks.getD i zKb).ls)) ∧ Below W.heap.size W w') := fun W h => total_any ra rc _ hN hl _ W h
  have hcutl : (ks.take i ++ ks.drop (i + 1)).length = ks.length - 1 := by rw [List.length_append, List.length_take, List.length_drop]; omega
  have HFin : Hid (∀ W', Fr (fun k => k = rb ∨ (Value.slice (some ⟨g, 0, none⟩) ks.length kc).ownBlock = some k) w W' → RegIs W' rb (.slice ra (ks.getD i zKb).ls.length rc) (ks.getD i zKb).sh iv (.slice (some ⟨g, 0, none⟩) (ks.length - 1) kc) sl tk dp cs → W'.ownsRow B 30 2 (.slice (some ⟨g, 0, none⟩) (ks.length - 1) kc) (ks.length - 1) ((ks.take i ++ ks.drop (i + 1)).flatMap kbC) → Rg B rb iv (.slice ra (ks.getD i zKb).ls.length rc) (ks.getD i zKb).ls (ks.getD i zKb).sh (.slice (some ⟨g, 0, none⟩) (ks.length - 1) kc) (ks.take i ++ ks.drop (i + 1)) sl tk dp cs W') := fun W' h1 h2 h3 => by
    rw [← hrv] at h2 ⊢
    exact hg.resume hi h1 h2 (by rw [hcutl]; exact h3) rfl
  rw [hrv]
  have HRi : Hid (ReadsLi w.heap.size w ra (ks.getD i zKb).ls ∧ ∀ q, (Value.slice ra (ks.getD i zKb).ls.length rc).ownBlock = some q → q ≠ rb ∧ q ≠ g ∧ q < w.heap.size) := by
    have hrow := getKb hg.rows hi
    have hf3 := getKb hg.far.2.2.1 hi
    have hf5 := getKb hg.far.2.2.2.2.1 hi
    rw [hrv] at hrow hf3 hf5
    exact ⟨(rowLn_reads hrow).2, fun q hq => ⟨fun e => hf3 (by rw [hq, e]), fun e => hf5 g rfl (by rw [hq, e]), (row_lt hrow q hq).2⟩⟩
  clear hg hcell hN
  generalize ks.getD i zKb = kb at *
  obtain ⟨kbv, kls, ksh⟩ := kb
  dsimp only at *
  have t1' := ta_resuming_scanning
  have t2' := ta_resuming_voiding
  have t3' := ta_resuming_showing
  have t4' := ta_resuming_suspending
  have t5' := ta_resuming_resuming
  have hi' : (i : Int) < (ks.length : Int) := by omega
  have hw1 : IntKind.i64.wrap ((i : Int) + 1) = (i : Int) + 1 := wrap_id _ (by omega) (by omega)
  go_enter Tryz.func29, Tryz.ntmps29
  go_wp2_with fail
  have hbx := heapNew w (Obj.cells #[.int .i64 (i : Int)] 101)
  have hW2 : Below w.heap.size w (w.alloc (Obj.cells #[.int .i64 (i : Int)] 101)) := below_alloc _ _
  generalize (w.alloc (Obj.cells #[.int .i64 (i : Int)] 101)) = W2 at *
  have hs2 : w.heap.size < W2.heap.size := blkLt hbx
  have HB2 : Hid (∀ W, Fr (fun k => k = rb) W2 W → Fr (fun k => k = rb) w W ∧ W.heap[w.heap.size]? = some (.cells #[.int .i64 (i : Int)] 101 (0, 0)) ∧ W.heap[g]? = w.heap[g]?) := fun W hW => ⟨(Fr.of hW2).trans hW, (hW.block _ hs2 (by omega)).trans hbx, (hW.block g (by omega) hne).trans (hW2.block g hgB.2)⟩
  have HG2 : Hid (RegIs W2 rb lv sh iv (.slice (some ⟨g, 0, none⟩) ks.length kc) sl tk dp cs) := HG0.out.reg.later hW2
  clear hbx hW2
  refine wp_region_held_drew (S := fun W => Fr (fun k => k = rb) W2 W ∧ W.cell? ⟨rb, 3, none⟩ = some (.slice (some ⟨g, 0, none⟩) ks.length kc)) (by kernel_rfl) ⟨Fr.of (below_drew _), (HG2.out.later (below_drew _)).cells.2.2.2.1⟩ (fun hH => ?_)
  have HGd : Hid (RegIs W2.drew rb lv sh iv (.slice (some ⟨g, 0, none⟩) ks.length kc) sl tk dp cs) := HG2.out.later (below_drew _)
  clear HG2
  generalize W2.drew = Wd at *
  refine wpAnyH_take (i := 0) (v := .pointer (some ⟨rb, 0, none⟩)) rfl (by kernel_rfl) (by kernel_rfl) (by kernel_rfl) (fun _ _ _ h => h) (Or.inl ⟨by rfl, fun w hSw => by go_simp⟩) hH ?_
  refine wpAnyH_take (i := 1) (v := .pointer (some ⟨rb, 0, none⟩)) rfl (by kernel_rfl) (by kernel_rfl) (by kernel_rfl) (fun _ _ _ h => h) (Or.inl ⟨by rfl, fun w hSw => by go_simp⟩) hH ?_
  try simp only [Act.put, List.setIfInBounds_toArray, List.set_cons_zero, List.set_cons_succ, List.getElem_toArray, List.getElem_cons_succ, List.getElem_cons_zero]
  refine wpAnyH_take (i := 2) (v := .pointer (some ⟨rb, 0, none⟩)) rfl (by kernel_rfl) (by kernel_rfl) (by kernel_rfl) (fun _ _ _ h => h) (Or.inl ⟨by rfl, fun w hSw => by go_simp⟩) hH ?_
  try simp only [Act.put, List.setIfInBounds_toArray, List.set_cons_zero, List.set_cons_succ, List.getElem_toArray, List.getElem_cons_succ, List.getElem_cons_zero]
  refine wpAnyH_take (i := 3) (v := .pointer (some ⟨rb, 3, none⟩)) rfl (by kernel_rfl) (by kernel_rfl) (by kernel_rfl) (fun _ _ _ h => h) (Or.inl ⟨by rfl, fun w hSw => by go_simp⟩) hH ?_
  try simp only [Act.put, List.setIfInBounds_toArray, List.set_cons_zero, List.set_cons_succ, List.getElem_toArray, List.getElem_cons_succ, List.getElem_cons_zero]
  refine wpAnyH_take (i := 4) (v := .slice (some ⟨g, 0, none⟩) ks.length kc) rfl (by kernel_rfl) (by kernel_rfl) (by kernel_rfl) (fun _ _ _ h => h) (Or.inl ⟨by rfl, fun w hSw => by have f0 := hSw.2; go_simp⟩) hH ?_
  try simp only [Act.put, List.setIfInBounds_toArray, List.set_cons_zero, List.set_cons_succ, List.getElem_toArray, List.getElem_cons_succ, List.getElem_cons_zero]
  refine wpAnyH_take (i := 5) (v := .pointer (some ⟨w.heap.size, 0, none⟩)) rfl (by kernel_rfl) (by kernel_rfl) (by kernel_rfl) (fun _ _ _ h => h) (Or.inl ⟨by rfl, fun w hSw => by go_simp⟩) hH ?_
  try simp only [Act.put, List.setIfInBounds_toArray, List.set_cons_zero, List.set_cons_succ, List.getElem_toArray, List.getElem_cons_succ, List.getElem_cons_zero]
  refine wpAnyH_take (i := 6) (v := .int .i64 (i : Int)) rfl (by kernel_rfl) (by kernel_rfl) (by kernel_rfl) (fun _ _ _ h => h) (Or.inl ⟨by rfl, fun w hSw => by have f0 := blkCell (HB2.out w hSw.1).2.1 0 _ rfl; go_simp⟩) hH ?_
  try simp only [Act.put, List.setIfInBounds_toArray, List.set_cons_zero, List.set_cons_succ, List.getElem_toArray, List.getElem_cons_succ, List.getElem_cons_zero]
  refine wpAnyH_take (i := 7) (v := .pointer (some ⟨g, i * 2, none⟩)) rfl (by kernel_rfl) (by kernel_rfl) (by kernel_rfl) (fun _ _ _ h => h) (Or.inl ⟨by rfl, fun w hSw => by go_simp⟩) hH ?_
  try simp only [Act.put, List.setIfInBounds_toArray, List.set_cons_zero, List.set_cons_succ, List.getElem_toArray, List.getElem_cons_succ, List.getElem_cons_zero]
  refine wpAnyH_take (i := 8) (v := .agg #[.slice ra kls.length rc, .int .i64 ksh]) rfl (by kernel_rfl) (by kernel_rfl) (by kernel_rfl) (fun _ _ _ h => h) (Or.inl ⟨by rfl, fun w hSw => by obtain ⟨f0, f1⟩ := HC.out w (HB2.out w hSw.1).2.2; go_simp⟩) hH ?_
  try simp only [Act.put, List.setIfInBounds_toArray, List.set_cons_zero, List.set_cons_succ, List.getElem_toArray, List.getElem_cons_succ, List.getElem_cons_zero]
  refine wpAnyH_take (i := 9) (v := .pointer (some ⟨rb, 0, none⟩)) rfl (by kernel_rfl) (by kernel_rfl) (by kernel_rfl) (fun _ _ _ h => h) (Or.inl ⟨by rfl, fun w hSw => by go_simp⟩) hH ?_
  try simp only [Act.put, List.setIfInBounds_toArray, List.set_cons_zero, List.set_cons_succ, List.getElem_toArray, List.getElem_cons_succ, List.getElem_cons_zero]
  refine wpAnyH_take (i := 10) (v := .pointer (some ⟨rb, 0, none⟩)) rfl (by kernel_rfl) (by kernel_rfl) (by kernel_rfl) (fun _ _ _ h => h) (Or.inl ⟨by rfl, fun w hSw => by go_simp⟩) hH ?_
  try simp only [Act.put, List.setIfInBounds_toArray, List.set_cons_zero, List.set_cons_succ, List.getElem_toArray, List.getElem_cons_succ, List.getElem_cons_zero]
  refine wpAnyH_ready (rs := [11]) (by kernel_rfl) (by simp) ?_
  refine AllReadyH.cons rfl (fun K hK => ?_) AllReadyH.nil
  obtain ⟨r0, r1, _⟩ := HGd.out.cells
  have z0 := HGd.out.free 0
  have z1 := HGd.out.free 1
  have HG3 : Hid (RegIs ((Wd.setCell ⟨rb, 0, none⟩ (.slice ra kls.length rc)).setCell ⟨rb, 1, none⟩ (.int .i64 ksh)) rb (.slice ra kls.length rc) ksh iv (.slice (some ⟨g, 0, none⟩) ks.length kc) sl tk dp cs) := (HGd.out.set0 _).set1 _
  have hf3 : Fr (fun k => k = rb) W2 ((Wd.setCell ⟨rb, 0, none⟩ (.slice ra kls.length rc)).setCell ⟨rb, 1, none⟩ (.int .i64 ksh)) := (hH.1.set (b := rb) rfl _ _).set (b := rb) rfl _ _
  go_simp
  clear r0 r1 z0 z1
  generalize ((Wd.setCell ⟨rb, 0, none⟩ (.slice ra kls.length rc)).setCell ⟨rb, 1, none⟩ (.int .i64 ksh)) = W3 at *
  have hS3 : Fr (fun k => k = rb) W2 W3 ∧ W3.cell? ⟨rb, 3, none⟩ = some (.slice (some ⟨g, 0, none⟩) ks.length kc) := ⟨hf3, HG3.out.cells.2.2.2.1⟩
  refine hK.out _ _ hS3 (fun _ => ?_)
  clear hK K
  try simp only [Act.put, List.setIfInBounds_toArray, List.set_cons_zero, List.set_cons_succ, List.getElem_toArray, List.getElem_cons_succ, List.getElem_cons_zero]
  refine wpAnyH_done (by kernel_rfl) ?_ _
  try simp
  go_wp2_with fail
  have HF3 : Hid (Fr (fun k => k = rb) W2 W3) := hf3
  clear hS3 hf3 hH HGd
  refine wp_region_held_drew (S := fun W => W.heap[w.heap.size]? = some (.cells #[.int .i64 (i : Int)] 101 (0, 0))) (by kernel_rfl) (HB2.out W3 HF3.out).2.1 (fun hH => ?_)
  have HGe : Hid (RegIs W3.drew rb (.slice ra kls.length rc) ksh iv (.slice (some ⟨g, 0, none⟩) ks.length kc) sl tk dp cs) := HG3.out.later (below_drew _)
  have HFe : Hid (Fr (fun k => k = rb) W2 W3.drew) := HF3.out.trans (Fr.of (below_drew _))
  clear HG3 HF3
  generalize W3.drew = We at *
  refine wpAnyH_take (i := 0) (v := .pointer (some ⟨rb, 0, none⟩)) rfl (by kernel_rfl) (by kernel_rfl) (by kernel_rfl) (fun _ _ _ h => h) (Or.inl ⟨by rfl, fun w hSw => by go_simp⟩) hH ?_
  refine wpAnyH_take (i := 1) (v := .pointer (some ⟨rb, 0, none⟩)) rfl (by kernel_rfl) (by kernel_rfl) (by kernel_rfl) (fun _ _ _ h => h) (Or.inl ⟨by rfl, fun w hSw => by go_simp⟩) hH ?_
  try simp only [Act.put, List.setIfInBounds_toArray, List.set_cons_zero, List.set_cons_succ, List.getElem_toArray, List.getElem_cons_succ, List.getElem_cons_zero]
  refine wpAnyH_take (i := 2) (v := .pointer (some ⟨rb, 0, none⟩)) rfl (by kernel_rfl) (by kernel_rfl) (by kernel_rfl) (fun _ _ _ h => h) (Or.inl ⟨by rfl, fun w hSw => by go_simp⟩) hH ?_
  try simp only [Act.put, List.setIfInBounds_toArray, List.set_cons_zero, List.set_cons_succ, List.getElem_toArray, List.getElem_cons_succ, List.getElem_cons_zero]
  refine wpAnyH_take (i := 3) (v := .pointer (some ⟨rb, 3, none⟩)) rfl (by kernel_rfl) (by kernel_rfl) (by kernel_rfl) (fun _ _ _ h => h) (Or.inl ⟨by rfl, fun w hSw => by go_simp⟩) hH ?_
  try simp only [Act.put, List.setIfInBounds_toArray, List.set_cons_zero, List.set_cons_succ, List.getElem_toArray, List.getElem_cons_succ, List.getElem_cons_zero]
  refine wpAnyH_take (i := 5) (v := .pointer (some ⟨w.heap.size, 0, none⟩)) rfl (by kernel_rfl) (by kernel_rfl) (by kernel_rfl) (fun _ _ _ h => h) (Or.inl ⟨by rfl, fun w hSw => by go_simp⟩) hH ?_
  try simp only [Act.put, List.setIfInBounds_toArray, List.set_cons_zero, List.set_cons_succ, List.getElem_toArray, List.getElem_cons_succ, List.getElem_cons_zero]
  refine wpAnyH_take (i := 6) (v := .int .i64 (i : Int)) rfl (by kernel_rfl) (by kernel_rfl) (by kernel_rfl) (fun _ _ _ h => h) (Or.inl ⟨by rfl, fun w hSw => by have f0 := blkCell hSw 0 _ rfl; go_simp⟩) hH ?_
  try simp only [Act.put, List.setIfInBounds_toArray, List.set_cons_zero, List.set_cons_succ, List.getElem_toArray, List.getElem_cons_succ, List.getElem_cons_zero]
  refine wpAnyH_take (i := 7) (v := .pointer (some ⟨w.heap.size, 0, none⟩)) rfl (by kernel_rfl) (by kernel_rfl) (by kernel_rfl) (fun _ _ _ h => h) (Or.inl ⟨by rfl, fun w hSw => by go_simp⟩) hH ?_
  try simp only [Act.put, List.setIfInBounds_toArray, List.set_cons_zero, List.set_cons_succ, List.getElem_toArray, List.getElem_cons_succ, List.getElem_cons_zero]
  refine wpAnyH_take (i := 8) (v := .int .i64 (i : Int)) rfl (by kernel_rfl) (by kernel_rfl) (by kernel_rfl) (fun _ _ _ h => h) (Or.inl ⟨by rfl, fun w hSw => by have f0 := blkCell hSw 0 _ rfl; go_simp⟩) hH ?_
  try simp only [Act.put, List.setIfInBounds_toArray, List.set_cons_zero, List.set_cons_succ, List.getElem_toArray, List.getElem_cons_succ, List.getElem_cons_zero]
  refine wpAnyH_take (i := 9) (v := .int .i64 ((i : Int) + 1)) rfl (by kernel_rfl) (by kernel_rfl) (by kernel_rfl) (fun _ _ _ h => h) (Or.inl ⟨by rfl, fun w hSw => by go_simp⟩) hH ?_
  try simp only [Act.put, List.setIfInBounds_toArray, List.set_cons_zero, List.set_cons_succ, List.getElem_toArray, List.getElem_cons_succ, List.getElem_cons_zero]
  refine wpAnyH_ready (rs := [4]) (by kernel_rfl) (by simp) ?_
  refine AllReadyH.cons rfl (fun K hK => ?_) AllReadyH.nil
  have r3 := HGe.out.cells.2.2.2.1
  go_simp
  clear r3
  refine hK.out _ _ hH (fun _ => ?_)
  clear hK K
  try simp only [Act.put, List.setIfInBounds_toArray, List.set_cons_zero, List.set_cons_succ, List.getElem_toArray, List.getElem_cons_succ, List.getElem_cons_zero]
  refine wpAnyH_ready (rs := [10]) (by kernel_rfl) (by simp) ?_
  refine AllReadyH.cons rfl (fun K hK => ?_) AllReadyH.nil
  go_simp
  go_at_call 47
  refine (HD.out We (HB2.out We HFe.out).2.2).mono ?_
  rintro e w5 ⟨rfl, hf5, hk5⟩
  have hb5 : RegIs w5 rb (.slice ra kls.length rc) ksh iv (.slice (some ⟨g, 0, none⟩) ks.length kc) sl tk dp cs := (hf5.block rb HGe.out.lt (fun e => hne e.symm)).trans HGe.out
  have hH5 : w5.heap[w.heap.size]? = some (.cells #[.int .i64 (i : Int)] 101 (0, 0)) := (hf5.block _ (blkLt hH) (by show ¬ w.heap.size = g; omega)).trans hH
  have r3 := hb5.cells.2.2.2.1
  have z3 := hb5.free 3
  refine hK.out _ _ hH5 (fun _ => ?_)
  clear hK K
  try simp only [Act.put, List.setIfInBounds_toArray, List.set_cons_zero, List.set_cons_succ, List.getElem_toArray, List.getElem_cons_succ, List.getElem_cons_zero]
  refine wpAnyH_take (i := 11) (v := .pointer (some ⟨rb, 0, none⟩)) rfl (by kernel_rfl) (by kernel_rfl) (by kernel_rfl) (fun _ _ _ h => h) (Or.inl ⟨by rfl, fun w hSw => by go_simp⟩) hH5 ?_
  try simp only [Act.put, List.setIfInBounds_toArray, List.set_cons_zero, List.set_cons_succ, List.getElem_toArray, List.getElem_cons_succ, List.getElem_cons_zero]
  refine wpAnyH_take (i := 12) (v := .pointer (some ⟨rb, 3, none⟩)) rfl (by kernel_rfl) (by kernel_rfl) (by kernel_rfl) (fun _ _ _ h => h) (Or.inl ⟨by rfl, fun w hSw => by go_simp⟩) hH5 ?_
  try simp only [Act.put, List.setIfInBounds_toArray, List.set_cons_zero, List.set_cons_succ, List.getElem_toArray, List.getElem_cons_succ, List.getElem_cons_zero]
  refine wpAnyH_ready (rs := [13]) (by kernel_rfl) (by simp) ?_
  refine AllReadyH.cons rfl (fun K hK => ?_) AllReadyH.nil
  have HG6 : Hid (RegIs (w5.setCell ⟨rb, 3, none⟩ (.slice (some ⟨g, 0, none⟩) (ks.length - 1) kc)) rb (.slice ra kls.length rc) ksh iv (.slice (some ⟨g, 0, none⟩) (ks.length - 1) kc) sl tk dp cs) := hb5.set3 _
  have HF6 : Hid (Fr (fun k => k = rb ∨ (Value.slice (some ⟨g, 0, none⟩) ks.length kc).ownBlock = some k) w (w5.setCell ⟨rb, 3, none⟩ (.slice (some ⟨g, 0, none⟩) (ks.length - 1) kc))) := (((HB2.out We HFe.out).1.mono (fun k hk => .inl hk)).trans (hf5.mono (fun k hk => .inr (by rw [hk]; rfl)))).set (b := rb) (.inl rfl) _ _
  have HK6 : Hid ((w5.setCell ⟨rb, 3, none⟩ (.slice (some ⟨g, 0, none⟩) (ks.length - 1) kc)).ownsRow B 30 2 (.slice (some ⟨g, 0, none⟩) (ks.length - 1) kc) (ks.length - 1) ((ks.take i ++ ks.drop (i + 1)).flatMap kbC)) := row_of hk5 (fun q hq => Below.heap_setCell _ _ _ _ (by cases hq; exact hne))
  have hH6 : (w5.setCell ⟨rb, 3, none⟩ (.slice (some ⟨g, 0, none⟩) (ks.length - 1) kc)).heap[w.heap.size]? = some (.cells #[.int .i64 (i : Int)] 101 (0, 0)) := (Below.heap_setCell _ _ _ _ (by show w.heap.size ≠ rb; omega)).trans hH5
  go_simp
  clear r3 z3
  generalize (w5.setCell ⟨rb, 3, none⟩ (.slice (some ⟨g, 0, none⟩) (ks.length - 1) kc)) = W6 at *
  refine hK.out _ _ hH6 (fun _ => ?_)
  clear hK K
  try simp only [Act.put, List.setIfInBounds_toArray, List.set_cons_zero, List.set_cons_succ, List.getElem_toArray, List.getElem_cons_succ, List.getElem_cons_zero]
  refine wpAnyH_done (by kernel_rfl) ?_ _
  try simp
  have HR6 : Hid (Rg B rb iv (.slice ra kls.length rc) kls ksh (.slice (some ⟨g, 0, none⟩) (ks.length - 1) kc) (ks.take i ++ ks.drop (i + 1)) sl tk dp cs W6) := HFin.out W6 HF6.out HG6.out HK6.out
  obtain ⟨r0, r1, _⟩ := HG6.out.cells
  have HFB : Hid (Fr (RgX rb lv (.slice (some ⟨g, 0, none⟩) ks.length kc)) w W6) := HF6.out.mono (fun k hk => by
    rcases hk with hk | hk
    · exact .inl hk
    · exact .inr (.inr hk))
  clear hf5 hk5 hb5 hH5 hH6 hH HGe HFe
  go_wp2_with (go_at_call 48; refine (HT.out W6 (rowLn_reads HR6.out.lrow).2).mono ?_; rintro e w9 ⟨rfl, hb9⟩)
  go_ret
  exact ⟨rfl, HFB.out.trans (Fr.of hb9), HR6.out.later hb9⟩
end Go.Proofs.YtabpkfhbnendjaaGreat

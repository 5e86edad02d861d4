/-
  Texts of this claim laid together: SpH.
-/
import Derived.Test.YtabpkfhbnendjaaGreatM43
import Derived.Test.YtabpkfhbnendjaaGreatM33
/-
  The specification's act where a basket is taken up again.
-/
namespace Go.Proofs.YtabpkfhbnendjaaGreat
open Go.ChangeShapes Go.WideShapes Go.ChangeAt Go.RowKit Go.Deep
set_option linter.unusedVariables false

theorem ownEmptyBk (w : World) (B : Nat) (h : B ≤ w.heap.size) : (w.alloc (Obj.cells #[] 30)).ownsRow B 30 2 (.slice (some ⟨w.heap.size, 0, none⟩) ([] : List Kb).length 0) ([] : List Kb).length (bkCells []) :=
  ⟨rfl, .inr ⟨w.heap.size, 0, #[], rfl, h, heapNew w _, Nat.le_refl _, by unfold maxLen; omega, rfl, rfl⟩⟩
set_option maxHeartbeats 8000000 in
set_option maxRecDepth 8000 in
theorem actS_resume (B rb : Nat) (iv : Value) (la : Option Addr) (lc : Nat) (ls : List RLi) (hl50 : ls.length ≤ 50) (sh : Int) (kv : Value) (ks : List Kb) (sl tk dp : Int) (cv : Value) (cs : List Int) (kd : Int) (tx : ByteArray) (n : Int) (w : World) (hg : Sg B rb iv (.slice la ls.length lc) ls sh kv ks sl tk dp cv cs w) (m : Nat) (ka : Option Addr) (kc : Nat) (hkv : kv = .slice ka ks.length kc) (hk : kd = 5) (hn : n = (m : Int)) (hm : m < ks.length) (hk5 : ks.length ≤ 5) (hl0 : ls.length = 0) (hNk : ∀ k ∈ ks, ∀ l ∈ k.ls, LiN l) (hNl : ∀ k ∈ ks, k.ls.length ≤ 50) (hB : B ≤ w.heap.size) :
    Calls Tryz.prog 16 #[.pointer (some ⟨rb, 0, none⟩), .agg #[.int .i64 kd, .string tx, .int .i64 n]] w fun e w' => e = .returned (.tuple #[.int .i64 (totL (ks.getD m zKb).ls), .int .i64 0]) ∧ Fr (RgX rb (.slice la ls.length lc) kv) w w' ∧ ∃ kv', Sg B rb iv (ks.getD m zKb).v (ks.getD m zKb).ls (ks.getD m zKb).sh kv' (ks.take m ++ ks.drop (m + 1)) sl tk dp cv cs w' := by
  subst hn
  subst hkv
  obtain ⟨g0, cp0, hgv⟩ := row_some hg.krow (by omega)
  injection hgv with hla0 _ hcp0
  subst hla0
  subst hcp0
  have hlow := hg.low
  have hlt := hg.reg.lt
  have hx1 : ¬ (ks.length : Int) ≤ (m : Int) := by omega
  have hx2 : ¬ (0 : Int) < (ls.length : Int) := by omega
  have hx : decide ((m : Int) < 0) = false := decide_eq_false (by omega)
  have hy : decide ((ks.length : Int) ≤ (m : Int)) = false := decide_eq_false (by omega)
  have hk1 : (kd == 1) = false := by simp; omega
  have hk2 : (kd == 2) = false := by simp; omega
  have hk3 : (kd == 3) = false := by simp; omega
  have hk4 : (kd == 4) = false := by simp; omega
  have hk5 : (kd == 5) = true := by simp; omega
  have hk6 : (kd == 6) = false := by simp; omega
  clear hk
  have hla : Below w.heap.size w (w.alloc (Obj.cells #[.int .i64 kd, .string tx, .int .i64 (m : Int)] 42)) := below_alloc _ _
  have HZ : Hid (∀ W, Below (w.alloc (Obj.cells #[.int .i64 kd, .string tx, .int .i64 (m : Int)] 42)).heap.size (w.alloc (Obj.cells #[.int .i64 kd, .string tx, .int .i64 (m : Int)] 42)) W → W.heap[w.heap.size]? = some (.cells #[.int .i64 kd, .string tx, .int .i64 (m : Int)] 42 (0, 0)) ∧ Below w.heap.size w W ∧ Sg B rb iv (.slice la ls.length lc) ls sh (.slice (some ⟨g0, 0, none⟩) ks.length kc) ks sl tk dp cv cs W) := fun W hW =>
    ⟨(hW.block _ (by simp)).trans (heapNew _ _), chain (below_alloc _ _) hW, hg.later (chain (below_alloc _ _) hW)⟩
  have r1 := (HZ.out _ (Below.refl _ _)).2.2.reg.cells.2.1
  have a0 := blkCell (HZ.out _ (Below.refl _ _)).1 0 _ rfl
  have a2 := blkCell (HZ.out _ (Below.refl _ _)).1 2 _ rfl
  clear hla
  go_enter Tryz.func16, Tryz.ntmps16
  go_wp2_with fail
  clear r1 a0 a2
  generalize hW1 : (w.alloc (Obj.cells #[.int .i64 kd, .string tx, .int .i64 (m : Int)] 42)) = W1 at *
  clear hW1
  refine wp_region_held_drew (S := fun W => Below W1.heap.size W1 W) (by kernel_rfl) (below_drew _) (fun hH => ?_)
  refine wpAnyH_take (i := 0) (v := .pointer (some ⟨w.heap.size, 2, none⟩)) rfl (by kernel_rfl) (by kernel_rfl) (by kernel_rfl) (fun _ _ _ h => h) (Or.inl ⟨by rfl, fun w hSw => by go_simp⟩) hH ?_
  refine wpAnyH_take (i := 1) (v := .int .i64 (m : Int)) rfl (by kernel_rfl) (by kernel_rfl) (by kernel_rfl) (fun _ _ _ h => h) (Or.inl ⟨by rfl, fun w hSw => by have f0 := blkCell (HZ.out w hSw).1 2 _ rfl; go_simp⟩) hH ?_
  try simp only [Act.put, List.setIfInBounds_toArray, List.set_cons_zero, List.set_cons_succ, List.getElem_toArray, List.getElem_cons_succ, List.getElem_cons_zero]
  refine wpAnyH_take (i := 2) (v := .bool false) rfl (by kernel_rfl) (by kernel_rfl) (by kernel_rfl) (fun _ _ _ h => h) (Or.inl ⟨by rfl, fun w hSw => by go_simp⟩) hH ?_
  try simp only [Act.put, List.setIfInBounds_toArray, List.set_cons_zero, List.set_cons_succ, List.getElem_toArray, List.getElem_cons_succ, List.getElem_cons_zero]
  refine wpAnyH_take (i := 3) (v := .bool false) rfl (by kernel_rfl) (by kernel_rfl) (by kernel_rfl) (fun _ _ _ h => h) (Or.inl ⟨by rfl, fun w hSw => by go_simp⟩) hH ?_
  try simp only [Act.put, List.setIfInBounds_toArray, List.set_cons_zero, List.set_cons_succ, List.getElem_toArray, List.getElem_cons_succ, List.getElem_cons_zero]
  refine wpAnyH_take (i := 4) (v := .pointer (some ⟨w.heap.size, 2, none⟩)) rfl (by kernel_rfl) (by kernel_rfl) (by kernel_rfl) (fun _ _ _ h => h) (Or.inl ⟨by rfl, fun w hSw => by go_simp⟩) hH ?_
  try simp only [Act.put, List.setIfInBounds_toArray, List.set_cons_zero, List.set_cons_succ, List.getElem_toArray, List.getElem_cons_succ, List.getElem_cons_zero]
  refine wpAnyH_take (i := 5) (v := .int .i64 (m : Int)) rfl (by kernel_rfl) (by kernel_rfl) (by kernel_rfl) (fun _ _ _ h => h) (Or.inl ⟨by rfl, fun w hSw => by have f0 := blkCell (HZ.out w hSw).1 2 _ rfl; go_simp⟩) hH ?_
  try simp only [Act.put, List.setIfInBounds_toArray, List.set_cons_zero, List.set_cons_succ, List.getElem_toArray, List.getElem_cons_succ, List.getElem_cons_zero]
  refine wpAnyH_take (i := 6) (v := .pointer (some ⟨rb, 0, none⟩)) rfl (by kernel_rfl) (by kernel_rfl) (by kernel_rfl) (fun _ _ _ h => h) (Or.inl ⟨by rfl, fun w hSw => by go_simp⟩) hH ?_
  try simp only [Act.put, List.setIfInBounds_toArray, List.set_cons_zero, List.set_cons_succ, List.getElem_toArray, List.getElem_cons_succ, List.getElem_cons_zero]
  refine wpAnyH_take (i := 7) (v := .pointer (some ⟨rb, 0, none⟩)) rfl (by kernel_rfl) (by kernel_rfl) (by kernel_rfl) (fun _ _ _ h => h) (Or.inl ⟨by rfl, fun w hSw => by go_simp⟩) hH ?_
  try simp only [Act.put, List.setIfInBounds_toArray, List.set_cons_zero, List.set_cons_succ, List.getElem_toArray, List.getElem_cons_succ, List.getElem_cons_zero]
  refine wpAnyH_take (i := 8) (v := .pointer (some ⟨rb, 1, none⟩)) rfl (by kernel_rfl) (by kernel_rfl) (by kernel_rfl) (fun _ _ _ h => h) (Or.inl ⟨by rfl, fun w hSw => by go_simp⟩) hH ?_
  try simp only [Act.put, List.setIfInBounds_toArray, List.set_cons_zero, List.set_cons_succ, List.getElem_toArray, List.getElem_cons_succ, List.getElem_cons_zero]
  refine wpAnyH_take (i := 9) (v := .pointer (some ⟨rb, 3, none⟩)) rfl (by kernel_rfl) (by kernel_rfl) (by kernel_rfl) (fun _ _ _ h => h) (Or.inl ⟨by rfl, fun w hSw => by go_simp⟩) hH ?_
  try simp only [Act.put, List.setIfInBounds_toArray, List.set_cons_zero, List.set_cons_succ, List.getElem_toArray, List.getElem_cons_succ, List.getElem_cons_zero]
  refine wpAnyH_take (i := 10) (v := .slice (some ⟨g0, 0, none⟩) ks.length kc) rfl (by kernel_rfl) (by kernel_rfl) (by kernel_rfl) (fun _ _ _ h => h) (Or.inl ⟨by rfl, fun w hSw => by have f0 := (HZ.out w hSw).2.2.reg.cells.2.2.2.1; go_simp⟩) hH ?_
  try simp only [Act.put, List.setIfInBounds_toArray, List.set_cons_zero, List.set_cons_succ, List.getElem_toArray, List.getElem_cons_succ, List.getElem_cons_zero]
  refine wpAnyH_take (i := 11) (v := .int .i64 (ks.length : Int)) rfl (by kernel_rfl) (by kernel_rfl) (by kernel_rfl) (fun _ _ _ h => h) (Or.inl ⟨by rfl, fun w hSw => by go_simp⟩) hH ?_
  try simp only [Act.put, List.setIfInBounds_toArray, List.set_cons_zero, List.set_cons_succ, List.getElem_toArray, List.getElem_cons_succ, List.getElem_cons_zero]
  refine wpAnyH_take (i := 12) (v := .bool false) rfl (by kernel_rfl) (by kernel_rfl) (by kernel_rfl) (fun _ _ _ h => h) (Or.inl ⟨by rfl, fun w hSw => by go_simp⟩) hH ?_
  try simp only [Act.put, List.setIfInBounds_toArray, List.set_cons_zero, List.set_cons_succ, List.getElem_toArray, List.getElem_cons_succ, List.getElem_cons_zero]
  refine wpAnyH_take (i := 13) (v := .bool false) rfl (by kernel_rfl) (by kernel_rfl) (by kernel_rfl) (fun _ _ _ h => h) (Or.inl ⟨by rfl, fun w hSw => by go_simp⟩) hH ?_
  try simp only [Act.put, List.setIfInBounds_toArray, List.set_cons_zero, List.set_cons_succ, List.getElem_toArray, List.getElem_cons_succ, List.getElem_cons_zero]
  refine wpAnyH_done (by kernel_rfl) ?_ _
  try simp
  have HE : Hid (Below w.heap.size w W1.drew) := (HZ.out _ hH).2.1
  have HD : Hid (Below w.heap.size w W1.drew ∧ Sg B rb iv (.slice la ls.length lc) ls sh (.slice (some ⟨g0, 0, none⟩) ks.length kc) ks sl tk dp cv cs W1.drew ∧ w.heap.size < W1.drew.heap.size ∧ W1.drew.heap[w.heap.size]? = some (.cells #[.int .i64 kd, .string tx, .int .i64 (m : Int)] 42 (0, 0))) := ⟨(HZ.out _ hH).2.1, (HZ.out _ hH).2.2, blkLt (HZ.out _ hH).1, (HZ.out _ hH).1⟩
  clear hH HZ HE hg
  go_wp2_with fail
  generalize W1.drew = Wd0 at *
  have HDd : Hid (Below w.heap.size w Wd0.drew ∧ Sg B rb iv (.slice la ls.length lc) ls sh (.slice (some ⟨g0, 0, none⟩) ks.length kc) ks sl tk dp cv cs Wd0.drew ∧ w.heap.size < Wd0.drew.heap.size ∧ Wd0.drew.heap[w.heap.size]? = some (.cells #[.int .i64 kd, .string tx, .int .i64 (m : Int)] 42 (0, 0))) := ⟨chain HD.out.1 (below_drew _), HD.out.2.1.later (below_drew _), HD.out.2.2.1, HD.out.2.2.2⟩
  refine wp_region_held_drew (S := fun W => W.heap[w.heap.size]? = some (.cells #[.int .i64 kd, .string tx, .int .i64 (m : Int)] 42 (0, 0)) ∧ W.heap[g0]? = Wd0.drew.heap[g0]? ∧ W.cell? ⟨rb, 3, none⟩ = some (.slice (some ⟨g0, 0, none⟩) ks.length kc)) (by kernel_rfl) ⟨HDd.out.2.2.2, rfl, HDd.out.2.1.reg.cells.2.2.2.1⟩ (fun hH => ?_)
  clear HD
  generalize Wd0.drew = Wd at *
  have HNv : Hid (∀ l ∈ (ks.getD m zKb).ls, LiN l) := getKb (p := fun k => ∀ l ∈ k.ls, LiN l) hNk hm
  have HLv : Hid ((ks.getD m zKb).ls.length ≤ 50) := getKb (p := fun k => k.ls.length ≤ 50) hNl hm
  have HRm : Hid (Wd.ownsRow B 82 4 (ks.getD m zKb).v (ks.getD m zKb).ls.length (lnCells (ks.getD m zKb).ls)) := getKb (fun k hk => HDd.out.2.1.rows k hk) hm
  have HCe : Hid (∀ W : World, W.heap[g0]? = Wd.heap[g0]? → W.cell? ⟨g0, m * 2 + 0, none⟩ = (kbC (ks.getD m zKb))[0]? ∧ W.cell? ⟨g0, m * 2 + 1, none⟩ = (kbC (ks.getD m zKb))[1]?) := fun W hW => by
    have hrow : W.ownsRow B 30 2 (.slice (some ⟨g0, 0, none⟩) ks.length kc) ks.length (ks.flatMap kbC) := row_of HDd.out.2.1.krow (fun q hq => by cases hq; exact hW)
    refine ⟨?_, ?_⟩ <;> rw [hrow.cellAt _ (by omega), kbCells_at _ _ _ hm (by omega)]
  generalize hKB : ks.getD m zKb = kb at *
  have HKB : Hid (ks.getD m zKb = kb) := hKB
  clear hKB
  obtain ⟨vv, vl, vs⟩ := kb
  dsimp only [kbC, List.getElem?_cons_zero, List.getElem?_cons_succ] at *
  obtain ⟨va, vc, hvv⟩ : ∃ va vc, vv = .slice va vl.length vc := by
    rcases HRm.out.2 with ⟨q1, q2⟩ | ⟨g, cap, cur, q1, _⟩
    · exact ⟨none, 0, by rw [q1, q2]⟩
    · exact ⟨_, _, q1⟩
  subst hvv
  refine wpAnyH_take (i := 0) (v := .pointer (some ⟨rb, 0, none⟩)) rfl (by kernel_rfl) (by kernel_rfl) (by kernel_rfl) (fun _ _ _ h => h) (Or.inl ⟨by rfl, fun w hSw => by go_simp⟩) hH ?_
  refine wpAnyH_take (i := 1) (v := .pointer (some ⟨rb, 0, none⟩)) rfl (by kernel_rfl) (by kernel_rfl) (by kernel_rfl) (fun _ _ _ h => h) (Or.inl ⟨by rfl, fun w hSw => by go_simp⟩) hH ?_
  try simp only [Act.put, List.setIfInBounds_toArray, List.set_cons_zero, List.set_cons_succ, List.getElem_toArray, List.getElem_cons_succ, List.getElem_cons_zero]
  refine wpAnyH_take (i := 2) (v := .pointer (some ⟨rb, 0, none⟩)) rfl (by kernel_rfl) (by kernel_rfl) (by kernel_rfl) (fun _ _ _ h => h) (Or.inl ⟨by rfl, fun w hSw => by go_simp⟩) hH ?_
  try simp only [Act.put, List.setIfInBounds_toArray, List.set_cons_zero, List.set_cons_succ, List.getElem_toArray, List.getElem_cons_succ, List.getElem_cons_zero]
  refine wpAnyH_take (i := 3) (v := .pointer (some ⟨rb, 1, none⟩)) rfl (by kernel_rfl) (by kernel_rfl) (by kernel_rfl) (fun _ _ _ h => h) (Or.inl ⟨by rfl, fun w hSw => by go_simp⟩) hH ?_
  try simp only [Act.put, List.setIfInBounds_toArray, List.set_cons_zero, List.set_cons_succ, List.getElem_toArray, List.getElem_cons_succ, List.getElem_cons_zero]
  refine wpAnyH_take (i := 4) (v := .pointer (some ⟨rb, 3, none⟩)) rfl (by kernel_rfl) (by kernel_rfl) (by kernel_rfl) (fun _ _ _ h => h) (Or.inl ⟨by rfl, fun w hSw => by go_simp⟩) hH ?_
  try simp only [Act.put, List.setIfInBounds_toArray, List.set_cons_zero, List.set_cons_succ, List.getElem_toArray, List.getElem_cons_succ, List.getElem_cons_zero]
  refine wpAnyH_take (i := 5) (v := (.slice (some ⟨g0, 0, none⟩) ks.length kc)) rfl (by kernel_rfl) (by kernel_rfl) (by kernel_rfl) (fun _ _ _ h => h) (Or.inl ⟨by rfl, fun w hSw => by have f0 := hSw.2.2; go_simp⟩) hH ?_
  try simp only [Act.put, List.setIfInBounds_toArray, List.set_cons_zero, List.set_cons_succ, List.getElem_toArray, List.getElem_cons_succ, List.getElem_cons_zero]
  refine wpAnyH_take (i := 6) (v := .pointer (some ⟨w.heap.size, 2, none⟩)) rfl (by kernel_rfl) (by kernel_rfl) (by kernel_rfl) (fun _ _ _ h => h) (Or.inl ⟨by rfl, fun w hSw => by go_simp⟩) hH ?_
  try simp only [Act.put, List.setIfInBounds_toArray, List.set_cons_zero, List.set_cons_succ, List.getElem_toArray, List.getElem_cons_succ, List.getElem_cons_zero]
  refine wpAnyH_take (i := 7) (v := .int .i64 (m : Int)) rfl (by kernel_rfl) (by kernel_rfl) (by kernel_rfl) (fun _ _ _ h => h) (Or.inl ⟨by rfl, fun w hSw => by have f0 := blkCell hSw.1 2 _ rfl; go_simp⟩) hH ?_
  try simp only [Act.put, List.setIfInBounds_toArray, List.set_cons_zero, List.set_cons_succ, List.getElem_toArray, List.getElem_cons_succ, List.getElem_cons_zero]
  refine wpAnyH_take (i := 8) (v := .pointer (some ⟨g0, m * 2, none⟩)) rfl (by kernel_rfl) (by kernel_rfl) (by kernel_rfl) (fun _ _ _ h => h) (Or.inl ⟨by rfl, fun w hSw => by go_simp⟩) hH ?_
  try simp only [Act.put, List.setIfInBounds_toArray, List.set_cons_zero, List.set_cons_succ, List.getElem_toArray, List.getElem_cons_succ, List.getElem_cons_zero]
  refine wpAnyH_take (i := 9) (v := .agg #[.slice va vl.length vc, .int .i64 vs]) rfl (by kernel_rfl) (by kernel_rfl) (by kernel_rfl) (fun _ _ _ h => h) (Or.inl ⟨by rfl, fun w hSw => by have f0 := (HCe.out w hSw.2.1).1; have f1 := (HCe.out w hSw.2.1).2; rw [Nat.add_zero] at f0; go_simp⟩) hH ?_
  try simp only [Act.put, List.setIfInBounds_toArray, List.set_cons_zero, List.set_cons_succ, List.getElem_toArray, List.getElem_cons_succ, List.getElem_cons_zero]
  refine wpAnyH_take (i := 10) (v := .pointer (some ⟨rb, 0, none⟩)) rfl (by kernel_rfl) (by kernel_rfl) (by kernel_rfl) (fun _ _ _ h => h) (Or.inl ⟨by rfl, fun w hSw => by go_simp⟩) hH ?_
  try simp only [Act.put, List.setIfInBounds_toArray, List.set_cons_zero, List.set_cons_succ, List.getElem_toArray, List.getElem_cons_succ, List.getElem_cons_zero]
  refine wpAnyH_take (i := 11) (v := .pointer (some ⟨rb, 1, none⟩)) rfl (by kernel_rfl) (by kernel_rfl) (by kernel_rfl) (fun _ _ _ h => h) (Or.inl ⟨by rfl, fun w hSw => by go_simp⟩) hH ?_
  try simp only [Act.put, List.setIfInBounds_toArray, List.set_cons_zero, List.set_cons_succ, List.getElem_toArray, List.getElem_cons_succ, List.getElem_cons_zero]
  refine wpAnyH_take (i := 12) (v := .pointer (some ⟨rb, 1, none⟩)) rfl (by kernel_rfl) (by kernel_rfl) (by kernel_rfl) (fun _ _ _ h => h) (Or.inl ⟨by rfl, fun w hSw => by go_simp⟩) hH ?_
  try simp only [Act.put, List.setIfInBounds_toArray, List.set_cons_zero, List.set_cons_succ, List.getElem_toArray, List.getElem_cons_succ, List.getElem_cons_zero]
  refine wpAnyH_ready (rs := [13]) (by kernel_rfl) (by simp) ?_
  refine AllReadyH.cons rfl (fun K hK => ?_) AllReadyH.nil
  have hr0 := HDd.out.2.1.reg
  have hr1 := hr0.set1 (.slice va vl.length vc)
  have hr2 := hr1.set2 vs
  have c1 := hr0.cells.2.1
  have c2 := hr0.cells.2.2.1
  have d2 := hr1.cells.2.2.1
  have z1 := hr0.free 1
  have z2 := hr1.free 2
  have z2' := hr0.free 2
  go_simp
  have hgr : g0 ≠ rb := fun e => HDd.out.2.1.far.2.1 (by rw [e]; rfl)
  have hs4 : ((Wd.setCell ⟨rb, 1, none⟩ (.slice va vl.length vc)).setCell ⟨rb, 2, none⟩ (.int .i64 vs)).heap[w.heap.size]? = some (.cells #[.int .i64 kd, .string tx, .int .i64 (m : Int)] 42 (0, 0)) ∧ ((Wd.setCell ⟨rb, 1, none⟩ (.slice va vl.length vc)).setCell ⟨rb, 2, none⟩ (.int .i64 vs)).heap[g0]? = Wd.heap[g0]? ∧ ((Wd.setCell ⟨rb, 1, none⟩ (.slice va vl.length vc)).setCell ⟨rb, 2, none⟩ (.int .i64 vs)).cell? ⟨rb, 3, none⟩ = some (.slice (some ⟨g0, 0, none⟩) ks.length kc) := ⟨(Below.heap_setCell _ _ _ _ (by show w.heap.size ≠ rb; omega)).trans ((Below.heap_setCell _ _ _ _ (by show w.heap.size ≠ rb; omega)).trans HDd.out.2.2.2), (Below.heap_setCell _ _ _ _ hgr).trans (Below.heap_setCell _ _ _ _ hgr), hr2.cells.2.2.2.1⟩
  have H4 : Hid (Fr (fun k => k = rb) Wd ((Wd.setCell ⟨rb, 1, none⟩ (.slice va vl.length vc)).setCell ⟨rb, 2, none⟩ (.int .i64 vs)) ∧ SpIs ((Wd.setCell ⟨rb, 1, none⟩ (.slice va vl.length vc)).setCell ⟨rb, 2, none⟩ (.int .i64 vs)) rb iv (.slice va vl.length vc) vs (.slice (some ⟨g0, 0, none⟩) ks.length kc) sl tk dp cv ∧ (((Wd.setCell ⟨rb, 1, none⟩ (.slice va vl.length vc)).setCell ⟨rb, 2, none⟩ (.int .i64 vs)).heap[w.heap.size]? = some (.cells #[.int .i64 kd, .string tx, .int .i64 (m : Int)] 42 (0, 0)) ∧ ((Wd.setCell ⟨rb, 1, none⟩ (.slice va vl.length vc)).setCell ⟨rb, 2, none⟩ (.int .i64 vs)).heap[g0]? = Wd.heap[g0]? ∧ ((Wd.setCell ⟨rb, 1, none⟩ (.slice va vl.length vc)).setCell ⟨rb, 2, none⟩ (.int .i64 vs)).cell? ⟨rb, 3, none⟩ = some (.slice (some ⟨g0, 0, none⟩) ks.length kc))) := ⟨Fr.set (X := fun k => k = rb) (Fr.set (X := fun k => k = rb) (Fr.of (Below.refl _ _)) (b := rb) rfl _ _) (b := rb) rfl _ _, hr2, hs4⟩
  refine hK.out _ _ hs4 (fun _ => ?_)
  clear hK K
  try simp only [Act.put, List.setIfInBounds_toArray, List.set_cons_zero, List.set_cons_succ, List.getElem_toArray, List.getElem_cons_succ, List.getElem_cons_zero]
  refine wpAnyH_done (by kernel_rfl) ?_ _
  try simp
  clear hr0 hr1 hr2 c1 c2 d2 z1 z2 z2' hs4 hH
  generalize ((Wd.setCell ⟨rb, 1, none⟩ (.slice va vl.length vc)).setCell ⟨rb, 2, none⟩ (.int .i64 vs)) = Wr at *
  go_wp2_with fail
  have HVs : Hid (∀ k ∈ ks, ∃ a n c, k.v = .slice a n c) := fun k hk => by
    obtain ⟨g, cp, e⟩ := row_slice (HDd.out.2.1.rows k hk)
    exact ⟨_, _, _, e⟩
  have HKr : Hid (Wr.ownsRow B 30 2 (.slice (some ⟨g0, 0, none⟩) ks.length kc) ks.length (bkCells ks)) := row_of HDd.out.2.1.krow (fun q hq => H4.out.1.block q (row_lt HDd.out.2.1.krow q hq).2 (fun e => HDd.out.2.1.far.2.1 (by rw [← e]; exact hq)))
  have hcap : ks.length ≤ kc := by
    rcases HKr.out.2 with ⟨q, _⟩ | ⟨g', cap, cur, q, _, hg, hc, _⟩
    · simp at q
    · simp at q
      omega
  obtain ⟨o8, ho8⟩ : ∃ o8 : Nat, o8 = if kc = m + 1 then 0 else (m + 1) * 2 := ⟨_, rfl⟩
  have hof : (if kc = m + 1 then (some (⟨g0, 0, none⟩ : Addr)) else some ⟨g0, (m + 1) * 2, none⟩) = some ⟨g0, o8, none⟩ := by rw [ho8]; split <;> rfl
  have HT1 : Hid ((ks.take m).length = m) := by show _ = _; rw [List.length_take]; omega
  have HT2 : Hid ((ks.drop (m + 1)).length = ks.length - (m + 1)) := by show _ = _; rw [List.length_drop]
  have hrw : rb < w.heap.size := hlt
  have hBr : B ≤ Wr.heap.size := by have := H4.out.1.size; have := HDd.out.2.2.1; omega
  have HLi : Hid (∀ W, Below Wr.heap.size Wr W → BkLies W g0 0 (ks.take m) ∧ BkLies W g0 o8 (ks.drop (m + 1))) := fun W hW => by
    have hrow : W.ownsRow B 30 2 (.slice (some ⟨g0, 0, none⟩) ks.length kc) ks.length (bkCells ks) := row_of HKr.out (fun q hq => hW.block q (row_lt HKr.out q hq).2)
    have h1 := BkLies_of hrow 0 m 0 (.inl rfl)
    have h2 := BkLies_of hrow (m + 1) (ks.length - (m + 1)) o8 (by
      rw [ho8]
      split
      · right
        rw [List.drop_eq_nil_of_le (by omega)]; simp
      · exact .inl rfl)
    rw [List.drop_zero] at h1
    rw [List.take_of_length_le (by rw [List.length_drop]; omega)] at h2
    exact ⟨h1, h2⟩
  clear ho8
  have HAc : Hid (∀ W, Below Wr.heap.size Wr W → W.heap[w.heap.size]? = some (.cells #[.int .i64 kd, .string tx, .int .i64 (m : Int)] 42 (0, 0)) ∧ SpIs W rb iv (.slice va vl.length vc) vs (.slice (some ⟨g0, 0, none⟩) ks.length kc) sl tk dp cv) := fun W hW => ⟨(hW.block _ (blkLt H4.out.2.2.1)).trans H4.out.2.2.1, H4.out.2.1.later hW⟩
  have hwi : IntKind.i64.wrap ((m : Int) + 1) = (m : Int) + 1 := wrap_id _ (by omega) (by omega)
  have hm1 : m + 1 ≤ ks.length := by omega
  have hmc : m ≤ kc := by omega
  have hi2' : (m : Int) + 1 ≤ (ks.length : Int) := by omega
  have hi3' : (0 : Int) ≤ (m : Int) + 1 := by omega
  have hi4' : ¬ ((m : Int) + 1 < 0) := by omega
  refine wp_region_z (S := fun W => Below Wr.heap.size Wr W) 24 (by kernel_rfl) (below_drew _) (fun hH => ?_)
  refine wpAnyZ_take (i := 0) (v := .pointer (some ⟨rb, 0, none⟩)) rfl (by kernel_rfl) (by kernel_rfl) (by kernel_rfl) (by kernel_rfl) (fun _ _ _ h => h) (Or.inl ⟨by rfl, fun w hSw => by go_simp⟩) hH ?_
  refine wpAnyZ_take (i := 2) (v := .pointer (some ⟨rb, 0, none⟩)) rfl (by kernel_rfl) (by kernel_rfl) (by kernel_rfl) (by kernel_rfl) (fun _ _ _ h => h) (Or.inl ⟨by rfl, fun w hSw => by go_simp⟩) hH ?_
  try simp only [Act.put, List.setIfInBounds_toArray, List.set_cons_zero, List.set_cons_succ, List.getElem_toArray, List.getElem_cons_succ, List.getElem_cons_zero]
  refine wpAnyZ_take (i := 3) (v := .pointer (some ⟨rb, 0, none⟩)) rfl (by kernel_rfl) (by kernel_rfl) (by kernel_rfl) (by kernel_rfl) (fun _ _ _ h => h) (Or.inl ⟨by rfl, fun w hSw => by go_simp⟩) hH ?_
  try simp only [Act.put, List.setIfInBounds_toArray, List.set_cons_zero, List.set_cons_succ, List.getElem_toArray, List.getElem_cons_succ, List.getElem_cons_zero]
  refine wpAnyZ_take (i := 4) (v := .pointer (some ⟨rb, 1, none⟩)) rfl (by kernel_rfl) (by kernel_rfl) (by kernel_rfl) (by kernel_rfl) (fun _ _ _ h => h) (Or.inl ⟨by rfl, fun w hSw => by go_simp⟩) hH ?_
  try simp only [Act.put, List.setIfInBounds_toArray, List.set_cons_zero, List.set_cons_succ, List.getElem_toArray, List.getElem_cons_succ, List.getElem_cons_zero]
  refine wpAnyZ_take (i := 5) (v := .pointer (some ⟨rb, 3, none⟩)) rfl (by kernel_rfl) (by kernel_rfl) (by kernel_rfl) (by kernel_rfl) (fun _ _ _ h => h) (Or.inl ⟨by rfl, fun w hSw => by go_simp⟩) hH ?_
  try simp only [Act.put, List.setIfInBounds_toArray, List.set_cons_zero, List.set_cons_succ, List.getElem_toArray, List.getElem_cons_succ, List.getElem_cons_zero]
  refine wpAnyZ_take (i := 6) (v := (.slice (some ⟨g0, 0, none⟩) ks.length kc)) rfl (by kernel_rfl) (by kernel_rfl) (by kernel_rfl) (by kernel_rfl) (fun _ _ _ h => h) (Or.inl ⟨by rfl, fun w hSw => by have f0 := (HAc.out w hSw).2.cells.2.2.2.1; go_simp⟩) hH ?_
  try simp only [Act.put, List.setIfInBounds_toArray, List.set_cons_zero, List.set_cons_succ, List.getElem_toArray, List.getElem_cons_succ, List.getElem_cons_zero]
  refine wpAnyZ_take (i := 7) (v := .pointer (some ⟨w.heap.size, 2, none⟩)) rfl (by kernel_rfl) (by kernel_rfl) (by kernel_rfl) (by kernel_rfl) (fun _ _ _ h => h) (Or.inl ⟨by rfl, fun w hSw => by go_simp⟩) hH ?_
  try simp only [Act.put, List.setIfInBounds_toArray, List.set_cons_zero, List.set_cons_succ, List.getElem_toArray, List.getElem_cons_succ, List.getElem_cons_zero]
  refine wpAnyZ_take (i := 8) (v := .int .i64 (m : Int)) rfl (by kernel_rfl) (by kernel_rfl) (by kernel_rfl) (by kernel_rfl) (fun _ _ _ h => h) (Or.inl ⟨by rfl, fun w hSw => by have f0 := blkCell (HAc.out w hSw).1 2 _ rfl; go_simp⟩) hH ?_
  try simp only [Act.put, List.setIfInBounds_toArray, List.set_cons_zero, List.set_cons_succ, List.getElem_toArray, List.getElem_cons_succ, List.getElem_cons_zero]
  refine wpAnyZ_take (i := 9) (v := .slice (some ⟨g0, 0, none⟩) m kc) rfl (by kernel_rfl) (by kernel_rfl) (by kernel_rfl) (by kernel_rfl) (fun _ _ _ h => h) (Or.inl ⟨by rfl, fun w hSw => by go_simp⟩) hH ?_
  try simp only [Act.put, List.setIfInBounds_toArray, List.set_cons_zero, List.set_cons_succ, List.getElem_toArray, List.getElem_cons_succ, List.getElem_cons_zero]
  refine wpAnyZ_take (i := 11) (v := .pointer (some ⟨rb, 0, none⟩)) rfl (by kernel_rfl) (by kernel_rfl) (by kernel_rfl) (by kernel_rfl) (fun _ _ _ h => h) (Or.inl ⟨by rfl, fun w hSw => by go_simp⟩) hH ?_
  try simp only [Act.put, List.setIfInBounds_toArray, List.set_cons_zero, List.set_cons_succ, List.getElem_toArray, List.getElem_cons_succ, List.getElem_cons_zero]
  refine wpAnyZ_take (i := 12) (v := .pointer (some ⟨rb, 0, none⟩)) rfl (by kernel_rfl) (by kernel_rfl) (by kernel_rfl) (by kernel_rfl) (fun _ _ _ h => h) (Or.inl ⟨by rfl, fun w hSw => by go_simp⟩) hH ?_
  try simp only [Act.put, List.setIfInBounds_toArray, List.set_cons_zero, List.set_cons_succ, List.getElem_toArray, List.getElem_cons_succ, List.getElem_cons_zero]
  refine wpAnyZ_take (i := 13) (v := .pointer (some ⟨rb, 1, none⟩)) rfl (by kernel_rfl) (by kernel_rfl) (by kernel_rfl) (by kernel_rfl) (fun _ _ _ h => h) (Or.inl ⟨by rfl, fun w hSw => by go_simp⟩) hH ?_
  try simp only [Act.put, List.setIfInBounds_toArray, List.set_cons_zero, List.set_cons_succ, List.getElem_toArray, List.getElem_cons_succ, List.getElem_cons_zero]
  refine wpAnyZ_take (i := 14) (v := .pointer (some ⟨rb, 3, none⟩)) rfl (by kernel_rfl) (by kernel_rfl) (by kernel_rfl) (by kernel_rfl) (fun _ _ _ h => h) (Or.inl ⟨by rfl, fun w hSw => by go_simp⟩) hH ?_
  try simp only [Act.put, List.setIfInBounds_toArray, List.set_cons_zero, List.set_cons_succ, List.getElem_toArray, List.getElem_cons_succ, List.getElem_cons_zero]
  refine wpAnyZ_take (i := 15) (v := (.slice (some ⟨g0, 0, none⟩) ks.length kc)) rfl (by kernel_rfl) (by kernel_rfl) (by kernel_rfl) (by kernel_rfl) (fun _ _ _ h => h) (Or.inl ⟨by rfl, fun w hSw => by have f0 := (HAc.out w hSw).2.cells.2.2.2.1; go_simp⟩) hH ?_
  try simp only [Act.put, List.setIfInBounds_toArray, List.set_cons_zero, List.set_cons_succ, List.getElem_toArray, List.getElem_cons_succ, List.getElem_cons_zero]
  refine wpAnyZ_take (i := 16) (v := .pointer (some ⟨w.heap.size, 2, none⟩)) rfl (by kernel_rfl) (by kernel_rfl) (by kernel_rfl) (by kernel_rfl) (fun _ _ _ h => h) (Or.inl ⟨by rfl, fun w hSw => by go_simp⟩) hH ?_
  try simp only [Act.put, List.setIfInBounds_toArray, List.set_cons_zero, List.set_cons_succ, List.getElem_toArray, List.getElem_cons_succ, List.getElem_cons_zero]
  refine wpAnyZ_take (i := 17) (v := .int .i64 (m : Int)) rfl (by kernel_rfl) (by kernel_rfl) (by kernel_rfl) (by kernel_rfl) (fun _ _ _ h => h) (Or.inl ⟨by rfl, fun w hSw => by have f0 := blkCell (HAc.out w hSw).1 2 _ rfl; go_simp⟩) hH ?_
  try simp only [Act.put, List.setIfInBounds_toArray, List.set_cons_zero, List.set_cons_succ, List.getElem_toArray, List.getElem_cons_succ, List.getElem_cons_zero]
  refine wpAnyZ_take (i := 18) (v := .int .i64 ((m : Int) + 1)) rfl (by kernel_rfl) (by kernel_rfl) (by kernel_rfl) (by kernel_rfl) (fun _ _ _ h => h) (Or.inl ⟨by rfl, fun w hSw => by go_simp⟩) hH ?_
  try simp only [Act.put, List.setIfInBounds_toArray, List.set_cons_zero, List.set_cons_succ, List.getElem_toArray, List.getElem_cons_succ, List.getElem_cons_zero]
  refine wpAnyZ_take (i := 19) (v := .slice (some ⟨g0, o8, none⟩) (ks.length - (m + 1)) (kc - (m + 1))) rfl (by kernel_rfl) (by kernel_rfl) (by kernel_rfl) (by kernel_rfl) (fun _ _ _ h => h) (Or.inl ⟨by rfl, fun w hSw => by go_simp⟩) hH ?_
  try simp only [Act.put, List.setIfInBounds_toArray, List.set_cons_zero, List.set_cons_succ, List.getElem_toArray, List.getElem_cons_succ, List.getElem_cons_zero]
  refine wpAnyZ_ready (rs := [1]) (by kernel_rfl) (by simp) ?_
  refine AllReadyZ.cons rfl (fun K hK => ?_) AllReadyZ.nil
  go_simp
  have hb0 : Below Wr.heap.size Wr (Wr.drew.alloc (Obj.cells #[] 30)) := chain (below_drew _) (below_alloc _ _)
  have own0 := ownEmptyBk Wr.drew B hBr
  refine hK.out _ _ (Or.inr hb0) (fun _ => ?_)
  clear hK K
  try simp only [Act.put, List.setIfInBounds_toArray, List.set_cons_zero, List.set_cons_succ, List.getElem_toArray, List.getElem_cons_succ, List.getElem_cons_zero]
  refine wpAnyZ_ready (rs := [10]) (by kernel_rfl) (by simp) ?_
  refine AllReadyZ.cons rfl (fun K hK => ?_) AllReadyZ.nil
  refine step_BkO rfl _ _ rfl B Wr.drew.heap.size 0 [] rfl own0 g0 0 kc (ks.take m) (fun k hk => HVs.out k (List.mem_of_mem_take hk)) (by rw [HT1.out]; simp; omega) (by rw [HT1.out]; rfl) (HLi.out _ hb0).1 (by simp; exact Nat.le_succ_of_le hBr) ?_
  intro g1 c1 u1 own1 grow1 hat1 glt1
  rw [List.nil_append] at own1 ⊢
  have hb1 : Below Wr.heap.size Wr u1 := hb0.grown grow1 hb0.size (fun q hq => by cases hq; exact Nat.le_refl _)
  have hg1 : Wr.heap.size ≤ g1 := by
    rcases hat1 with q | q
    · rw [q]; exact Nat.le_refl _
    · rw [q]; exact hb0.size
  clear grow1 hat1 glt1 own0
  refine hK.out _ _ (Or.inr hb1) (fun _ => ?_)
  clear hK K
  try simp only [Act.put, List.setIfInBounds_toArray, List.set_cons_zero, List.set_cons_succ, List.getElem_toArray, List.getElem_cons_succ, List.getElem_cons_zero]
  refine wpAnyZ_ready (rs := [20]) (by kernel_rfl) (by simp) ?_
  refine AllReadyZ.cons rfl (fun K hK => ?_) AllReadyZ.nil
  refine step_BkO rfl _ _ rfl B g1 c1 (ks.take m) rfl own1 g0 o8 (kc - (m + 1)) (ks.drop (m + 1)) (fun k hk => HVs.out k (List.mem_of_mem_drop hk)) (by rw [HT1.out, HT2.out]; omega) (by rw [HT2.out]; rfl) (HLi.out _ hb1).2 (Nat.le_trans hBr hb1.size) ?_
  intro g2 c2 u2 own2 grow2 hat2 glt2
  have hb2 : Below Wr.heap.size Wr u2 := hb1.grown grow2 hb1.size (fun q hq => by cases hq; exact hg1)
  have hg2 : Wr.heap.size ≤ g2 := by
    have := hb1.size
    rcases hat2 with q | q <;> omega
  have hr2 := H4.out.2.1.later hb2
  have z1 := hr2.cells.2.2.2.1
  have zf := hr2.free 3
  have hr3 := hr2.set3 (.slice (some ⟨g2, 0, none⟩) (ks.take m ++ ks.drop (m + 1)).length c2)
  have HFi : Hid (Fr (RgX rb (.slice la ls.length lc) (.slice (some ⟨g0, 0, none⟩) ks.length kc)) w (u2.setCell ⟨rb, 3, none⟩ (.slice (some ⟨g2, 0, none⟩) (ks.take m ++ ks.drop (m + 1)).length c2)) ∧ Sg B rb iv (.slice va vl.length vc) vl vs (.slice (some ⟨g2, 0, none⟩) (ks.take m ++ ks.drop (m + 1)).length c2) (ks.take m ++ ks.drop (m + 1)) sl tk dp cv cs (u2.setCell ⟨rb, 3, none⟩ (.slice (some ⟨g2, 0, none⟩) (ks.take m ++ ks.drop (m + 1)).length c2))) := by
    have hsz := HDd.out.2.2.1
    have hs4 := H4.out.1.size
    have hf : Fr (fun k => k = rb) Wd (u2.setCell ⟨rb, 3, none⟩ (.slice (some ⟨g2, 0, none⟩) (ks.take m ++ ks.drop (m + 1)).length c2)) := (H4.out.1.trans (Fr.of hb2)).set (b := rb) rfl _ _
    refine ⟨(Fr.of HDd.out.1).trans (hf.mono (fun k hk => .inl hk)), ?_⟩
    have hh := HDd.out.2.1.resume hm (hf.mono (fun k hk => .inl hk)) (show SpIs _ rb iv (ks.getD m zKb).v (ks.getD m zKb).sh (.slice (some ⟨g2, 0, none⟩) (ks.take m ++ ks.drop (m + 1)).length c2) sl tk dp cv from by rw [HKB.out]; exact hr3) (row_of own2 (fun q hq => Below.heap_setCell _ _ _ _ (by cases hq; show g2 ≠ rb; omega))) (.inr ⟨g2, rfl, by omega⟩)
    rw [HKB.out] at hh
    exact hh
  clear own2 grow2 hat2 glt2 own1
  generalize hL2 : ks.take m ++ ks.drop (m + 1) = L2 at *
  have HL2 : Hid (ks.take m ++ ks.drop (m + 1) = L2) := hL2
  clear hL2
  refine hK.out _ _ (Or.inr hb2) (fun _ => ?_)
  clear hK K
  try simp only [Act.put, List.setIfInBounds_toArray, List.set_cons_zero, List.set_cons_succ, List.getElem_toArray, List.getElem_cons_succ, List.getElem_cons_zero]
  refine wpAnyZ_take (i := 21) (v := .pointer (some ⟨rb, 0, none⟩)) rfl (by kernel_rfl) (by kernel_rfl) (by kernel_rfl) (by kernel_rfl) (fun _ _ _ h => h) (Or.inl ⟨by rfl, fun w hSw => by go_simp⟩) hb2 ?_
  try simp only [Act.put, List.setIfInBounds_toArray, List.set_cons_zero, List.set_cons_succ, List.getElem_toArray, List.getElem_cons_succ, List.getElem_cons_zero]
  refine wpAnyZ_take (i := 22) (v := .pointer (some ⟨rb, 1, none⟩)) rfl (by kernel_rfl) (by kernel_rfl) (by kernel_rfl) (by kernel_rfl) (fun _ _ _ h => h) (Or.inl ⟨by rfl, fun w hSw => by go_simp⟩) hb2 ?_
  try simp only [Act.put, List.setIfInBounds_toArray, List.set_cons_zero, List.set_cons_succ, List.getElem_toArray, List.getElem_cons_succ, List.getElem_cons_zero]
  refine wpAnyZ_take (i := 23) (v := .pointer (some ⟨rb, 3, none⟩)) rfl (by kernel_rfl) (by kernel_rfl) (by kernel_rfl) (by kernel_rfl) (fun _ _ _ h => h) (Or.inl ⟨by rfl, fun w hSw => by go_simp⟩) hb2 ?_
  try simp only [Act.put, List.setIfInBounds_toArray, List.set_cons_zero, List.set_cons_succ, List.getElem_toArray, List.getElem_cons_succ, List.getElem_cons_zero]
  refine wpAnyZ_ready (rs := [24]) (by kernel_rfl) (by simp) ?_
  refine AllReadyZ.cons rfl (fun K hK => ?_) AllReadyZ.nil
  go_simp
  refine hK.out _ _ (Or.inl rfl) (fun _ => ?_)
  clear hK K
  try simp only [Act.put, List.setIfInBounds_toArray, List.set_cons_zero, List.set_cons_succ, List.getElem_toArray, List.getElem_cons_succ, List.getElem_cons_zero]
  refine wpAnyZ_done (by kernel_rfl) ?_ _
  try simp
  have c1 := hr3.cells.2.1
  have c2' := hr3.cells.2.2.1
  have HTt := specTotal_any va vc vl HNv.out (by have := HLv.out; omega) vs _ (rowLn_reads HFi.out.2.lrow).2
  clear z1 zf hr2 hr3 hb2
  generalize (u2.setCell ⟨rb, 3, none⟩ (.slice (some ⟨g2, 0, none⟩) L2.length c2)) = W9 at *
  go_wp2_with fail
  (first | go_at_call 34 | skip)
  refine HTt.mono ?_
  rintro e w9 ⟨rfl, hb9⟩
  have HF9 : Hid (Fr (RgX rb (.slice la ls.length lc) (.slice (some ⟨g0, 0, none⟩) ks.length kc)) w w9 ∧ Sg B rb iv (.slice va vl.length vc) vl vs (.slice (some ⟨g2, 0, none⟩) L2.length c2) L2 sl tk dp cv cs w9) := ⟨HFi.out.1.trans (Fr.of hb9), HFi.out.2.later hb9⟩
  clear hb9 HTt HFi
  go_wp2
  go_ret2
  have e := HL2.out
  subst e
  rw [HKB.out]
  exact ⟨rfl, HF9.out.1, _, HF9.out.2⟩
end Go.Proofs.YtabpkfhbnendjaaGreat

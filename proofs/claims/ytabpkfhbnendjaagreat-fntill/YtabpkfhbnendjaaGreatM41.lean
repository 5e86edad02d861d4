/-
  Texts of this claim laid together: SpE.
-/
import Derived.Test.YtabpkfhbnendjaaGreatM40
/-
  The specification's act where a basket is suspended.
-/
namespace Go.Proofs.YtabpkfhbnendjaaGreat
open Go.ChangeShapes Go.WideShapes Go.ChangeAt Go.RowKit Go.Deep
set_option linter.unusedVariables false

set_option maxHeartbeats 8000000 in
set_option maxRecDepth 8000 in
theorem actS_susp (B rb : Nat) (iv : Value) (la : Option Addr) (lc : Nat) (ls : List RLi) (hl50 : ls.length ≤ 50) (sh : Int) (kv : Value) (ks : List Kb) (sl tk dp : Int) (cv : Value) (cs : List Int) (kd : Int) (tx : ByteArray) (n : Int) (w : World) (hg : Sg B rb iv (.slice la ls.length lc) ls sh kv ks sl tk dp cv cs w) (ka : Option Addr) (kc : Nat) (hkv : kv = .slice ka ks.length kc) (hk : kd = 4) (hn : ¬ (ls.length : Int) = 0) (hn5 : ks.length < 5) (hB : B ≤ w.heap.size) :
    Calls Tryz.prog 16 #[.pointer (some ⟨rb, 0, none⟩), .agg #[.int .i64 kd, .string tx, .int .i64 n]] w fun e w' => e = .returned (.tuple #[.int .i64 ((ks.length : Int) + 1), .int .i64 0]) ∧ Fr (RgX rb (.slice la ls.length lc) kv) w w' ∧ ∃ kv', Sg B rb iv (.slice none 0 0) [] 0 kv' (ks ++ [Kb.mk (.slice la ls.length lc) ls sh]) sl tk dp cv cs w' := by
  have hn' : ((ls.length : Int) == 0) = false := by simpa using hn
  have hn5' : ((ks.length : Int) == 5) = false := by simp; omega
  have hlow := hg.low
  have hlt := hg.reg.lt
  obtain ⟨j0, hj, hzy⟩ := Option.map_eq_some_iff.1 bkInfo
  simp only [Prod.mk.injEq] at hzy
  obtain ⟨hj0, hj1, hj2⟩ := hzy
  subst hkv
  have hk1 : (kd == 1) = false := by simp; omega
  have hk2 : (kd == 2) = false := by simp; omega
  have hk3 : (kd == 3) = false := by simp; omega
  have hk4 : (kd == 4) = true := by simp; omega
  have hk5 : (kd == 5) = false := by simp; omega
  have hk6 : (kd == 6) = false := by simp; omega
  clear hk
  have hla : Below w.heap.size w (w.alloc (Obj.cells #[.int .i64 kd, .string tx, .int .i64 n] 42)) := below_alloc _ _
  have HZ : Hid (∀ W, Below (w.alloc (Obj.cells #[.int .i64 kd, .string tx, .int .i64 n] 42)).heap.size (w.alloc (Obj.cells #[.int .i64 kd, .string tx, .int .i64 n] 42)) W → W.heap[w.heap.size]? = some (.cells #[.int .i64 kd, .string tx, .int .i64 n] 42 (0, 0)) ∧ Below w.heap.size w W ∧ Sg B rb iv (.slice la ls.length lc) ls sh (.slice ka ks.length kc) ks sl tk dp cv cs W) := fun W hW =>
    ⟨(hW.block _ (by simp)).trans (heapNew _ _), chain (below_alloc _ _) hW, hg.later (chain (below_alloc _ _) hW)⟩
  have r1 := (HZ.out _ (Below.refl _ _)).2.2.reg.cells.2.1
  have a0 := blkCell (HZ.out _ (Below.refl _ _)).1 0 _ rfl
  have a2 := blkCell (HZ.out _ (Below.refl _ _)).1 2 _ rfl
  have r3 := (HZ.out _ (Below.refl _ _)).2.2.reg.cells.2.2.2.1
  clear hla
  go_enter Tryz.func16, Tryz.ntmps16
  go_wp2_with fail
  clear r1 a0 a2 r3 hg
  have hW2 : Below (w.alloc (Obj.cells #[.int .i64 kd, .string tx, .int .i64 n] 42)).heap.size (w.alloc (Obj.cells #[.int .i64 kd, .string tx, .int .i64 n] 42)) (w.alloc (Obj.cells #[.int .i64 kd, .string tx, .int .i64 n] 42)).drew := below_drew _
  have HF : Hid (Below w.heap.size w (w.alloc (Obj.cells #[.int .i64 kd, .string tx, .int .i64 n] 42)).drew) := (HZ.out _ hW2).2.1
  have HG : Hid (Sg B rb iv (.slice la ls.length lc) ls sh (.slice ka ks.length kc) ks sl tk dp cv cs (w.alloc (Obj.cells #[.int .i64 kd, .string tx, .int .i64 n] 42)).drew) := (HZ.out _ hW2).2.2
  refine wp_region_held_drew (S := fun W => W.cell? ⟨rb, 1, none⟩ = some (.slice la ls.length lc) ∧ W.cell? ⟨rb, 2, none⟩ = some (.int .i64 sh)) (by kernel_rfl) ⟨HG.out.reg.cells.2.1, HG.out.reg.cells.2.2.1⟩ (fun hH => ?_)
  clear HZ hW2
  generalize (w.alloc (Obj.cells #[.int .i64 kd, .string tx, .int .i64 n] 42)).drew = Wd at *
  refine wpAnyH_take (i := 0) (v := .pointer (some ⟨rb, 0, none⟩)) rfl (by kernel_rfl) (by kernel_rfl) (by kernel_rfl) (fun _ _ _ h => h) (Or.inl ⟨by rfl, fun w hSw => by go_simp⟩) hH ?_
  refine wpAnyH_take (i := 1) (v := .pointer (some ⟨rb, 0, none⟩)) rfl (by kernel_rfl) (by kernel_rfl) (by kernel_rfl) (fun _ _ _ h => h) (Or.inl ⟨by rfl, fun w hSw => by go_simp⟩) hH ?_
  try simp only [Act.put, List.setIfInBounds_toArray, List.set_cons_zero, List.set_cons_succ, List.getElem_toArray, List.getElem_cons_succ, List.getElem_cons_zero]
  refine wpAnyH_take (i := 2) (v := .pointer (some ⟨rb, 0, none⟩)) rfl (by kernel_rfl) (by kernel_rfl) (by kernel_rfl) (fun _ _ _ h => h) (Or.inl ⟨by rfl, fun w hSw => by go_simp⟩) hH ?_
  try simp only [Act.put, List.setIfInBounds_toArray, List.set_cons_zero, List.set_cons_succ, List.getElem_toArray, List.getElem_cons_succ, List.getElem_cons_zero]
  refine wpAnyH_take (i := 3) (v := .pointer (some ⟨rb, 1, none⟩)) rfl (by kernel_rfl) (by kernel_rfl) (by kernel_rfl) (fun _ _ _ h => h) (Or.inl ⟨by rfl, fun w hSw => by go_simp⟩) hH ?_
  try simp only [Act.put, List.setIfInBounds_toArray, List.set_cons_zero, List.set_cons_succ, List.getElem_toArray, List.getElem_cons_succ, List.getElem_cons_zero]
  refine wpAnyH_take (i := 4) (v := .pointer (some ⟨rb, 3, none⟩)) rfl (by kernel_rfl) (by kernel_rfl) (by kernel_rfl) (fun _ _ _ h => h) (Or.inl ⟨by rfl, fun w hSw => by go_simp⟩) hH ?_
  try simp only [Act.put, List.setIfInBounds_toArray, List.set_cons_zero, List.set_cons_succ, List.getElem_toArray, List.getElem_cons_succ, List.getElem_cons_zero]
  refine wpAnyH_take (i := 6) (v := .pointer (some ⟨rb, 0, none⟩)) rfl (by kernel_rfl) (by kernel_rfl) (by kernel_rfl) (fun _ _ _ h => h) (Or.inl ⟨by rfl, fun w hSw => by go_simp⟩) hH ?_
  try simp only [Act.put, List.setIfInBounds_toArray, List.set_cons_zero, List.set_cons_succ, List.getElem_toArray, List.getElem_cons_succ, List.getElem_cons_zero]
  refine wpAnyH_take (i := 7) (v := .pointer (some ⟨rb, 0, none⟩)) rfl (by kernel_rfl) (by kernel_rfl) (by kernel_rfl) (fun _ _ _ h => h) (Or.inl ⟨by rfl, fun w hSw => by go_simp⟩) hH ?_
  try simp only [Act.put, List.setIfInBounds_toArray, List.set_cons_zero, List.set_cons_succ, List.getElem_toArray, List.getElem_cons_succ, List.getElem_cons_zero]
  refine wpAnyH_take (i := 8) (v := .pointer (some ⟨rb, 1, none⟩)) rfl (by kernel_rfl) (by kernel_rfl) (by kernel_rfl) (fun _ _ _ h => h) (Or.inl ⟨by rfl, fun w hSw => by go_simp⟩) hH ?_
  try simp only [Act.put, List.setIfInBounds_toArray, List.set_cons_zero, List.set_cons_succ, List.getElem_toArray, List.getElem_cons_succ, List.getElem_cons_zero]
  refine wpAnyH_take (i := 9) (v := .pointer (some ⟨rb, 1, none⟩)) rfl (by kernel_rfl) (by kernel_rfl) (by kernel_rfl) (fun _ _ _ h => h) (Or.inl ⟨by rfl, fun w hSw => by go_simp⟩) hH ?_
  try simp only [Act.put, List.setIfInBounds_toArray, List.set_cons_zero, List.set_cons_succ, List.getElem_toArray, List.getElem_cons_succ, List.getElem_cons_zero]
  refine wpAnyH_take (i := 10) (v := .agg #[(.slice la ls.length lc), .int .i64 sh]) rfl (by kernel_rfl) (by kernel_rfl) (by kernel_rfl) (fun _ _ _ h => h) (Or.inl ⟨by rfl, fun w hSw => by have f0 := hSw.1; have f1 := hSw.2; go_simp⟩) hH ?_
  try simp only [Act.put, List.setIfInBounds_toArray, List.set_cons_zero, List.set_cons_succ, List.getElem_toArray, List.getElem_cons_succ, List.getElem_cons_zero]
  refine wpAnyH_ready (rs := [5, 11]) (by kernel_rfl) (by simp) ?_
  refine AllReadyH.cons rfl (fun K hK => ?_) (AllReadyH.cons rfl (fun K hK => ?_) AllReadyH.nil)
  · skip
    have q5 := HG.out.reg.cells.2.2.2.1
    go_simp
    clear q5
    refine hK.out _ _ hH (fun _ => ?_)
    clear hK K
    try simp only [Act.put, List.setIfInBounds_toArray, List.set_cons_zero, List.set_cons_succ, List.getElem_toArray, List.getElem_cons_succ, List.getElem_cons_zero]
    refine wpAnyH_ready (rs := [11]) (by kernel_rfl) (by simp) ?_
    refine AllReadyH.cons rfl (fun K hK => ?_) AllReadyH.nil
    go_simp
    have HG5 : Hid (Sg B rb iv (.slice la ls.length lc) ls sh (.slice ka ks.length kc) ks sl tk dp cv cs (Wd.alloc (Obj.cells #[(.slice la ls.length lc), .int .i64 sh] 30))) := HG.out.later (below_alloc _ _)
    have hH5 : (Wd.alloc (Obj.cells #[(.slice la ls.length lc), .int .i64 sh] 30)).cell? ⟨rb, 1, none⟩ = some (.slice la ls.length lc) ∧ (Wd.alloc (Obj.cells #[(.slice la ls.length lc), .int .i64 sh] 30)).cell? ⟨rb, 2, none⟩ = some (.int .i64 sh) := ⟨HG5.out.reg.cells.2.1, HG5.out.reg.cells.2.2.1⟩
    refine hK.out _ _ hH5 (fun _ => ?_)
    clear hK K
    try simp only [Act.put, List.setIfInBounds_toArray, List.set_cons_zero, List.set_cons_succ, List.getElem_toArray, List.getElem_cons_succ, List.getElem_cons_zero]
    refine wpAnyH_ready (rs := [12]) (by kernel_rfl) (by simp) ?_
    refine AllReadyH.cons rfl (fun K hK => ?_) AllReadyH.nil
    refine step_append_lies _ rfl _ _ 31 rfl B 30 j0 (.agg #[.slice none 0 0, .int .i64 0]) 2 32 Tryz.underlying31 hj hj0 hj1 hj2 rfl (by decide) _ _ _ rfl HG5.out.krow ⟨Wd.heap.size, 0, none⟩ 1 1 [(.slice la ls.length lc), .int .i64 sh] rfl rfl (World.news_of_block (heapNew Wd _)) (by simp [Value.oneCell']) (by omega) (by unfold maxLen; omega) (by omega) (by have := HG5.out.reg.lt; have := HG5.out.low; omega) _ rfl ?_
    intro g1 cp1 w7 hown1 hgrow1 hat1 hglt1
    have hf7 := fr_grown hgrow1
    have hb7 : SpIs w7 rb iv (.slice la ls.length lc) sh (.slice ka ks.length kc) sl tk dp cv := (hf7.block rb HG5.out.reg.lt (fun e => HG5.out.far.2.1 e)).trans HG5.out.reg
    have z1 := hb7.cells.2.2.2.1
    have zf := hb7.free 3
    have hH7 : w7.cell? ⟨rb, 1, none⟩ = some (.slice la ls.length lc) ∧ w7.cell? ⟨rb, 2, none⟩ = some (.int .i64 sh) := ⟨hb7.cells.2.1, hb7.cells.2.2.1⟩
    have hr8 := hb7.set3 (.slice (some ⟨g1, 0, none⟩) (ks.length + 1) cp1)
    have hH8 : (w7.setCell ⟨rb, 3, none⟩ (.slice (some ⟨g1, 0, none⟩) (ks.length + 1) cp1)).cell? ⟨rb, 1, none⟩ = some (.slice la ls.length lc) ∧ (w7.setCell ⟨rb, 3, none⟩ (.slice (some ⟨g1, 0, none⟩) (ks.length + 1) cp1)).cell? ⟨rb, 2, none⟩ = some (.int .i64 sh) := ⟨hr8.cells.2.1, hr8.cells.2.2.1⟩
    have hr9 := (hr8.set1 (.slice none 0 0)).set2 0
    have HFi : Hid (Fr (RgX rb (.slice la ls.length lc) (.slice ka ks.length kc)) w (((w7.setCell ⟨rb, 3, none⟩ (.slice (some ⟨g1, 0, none⟩) (ks.length + 1) cp1)).setCell ⟨rb, 1, none⟩ (.slice none 0 0)).setCell ⟨rb, 2, none⟩ (.int .i64 0)) ∧ Sg B rb iv (.slice none 0 0) [] 0 (.slice (some ⟨g1, 0, none⟩) (ks.length + 1) cp1) (ks ++ [Kb.mk (.slice la ls.length lc) ls sh]) sl tk dp cv cs (((w7.setCell ⟨rb, 3, none⟩ (.slice (some ⟨g1, 0, none⟩) (ks.length + 1) cp1)).setCell ⟨rb, 1, none⟩ (.slice none 0 0)).setCell ⟨rb, 2, none⟩ (.int .i64 0))) := by
      have hg1 : g1 ≠ rb := by
        rcases hat1 with q | q
        · exact fun e => HG5.out.far.2.1 (by rw [← e]; exact q)
        · have := HG5.out.reg.lt; omega
      have hfd : Fr (fun k => k = rb ∨ (Value.slice ka ks.length kc).ownBlock = some k) (Wd.alloc (Obj.cells #[(.slice la ls.length lc), .int .i64 sh] 30)) (((w7.setCell ⟨rb, 3, none⟩ (.slice (some ⟨g1, 0, none⟩) (ks.length + 1) cp1)).setCell ⟨rb, 1, none⟩ (.slice none 0 0)).setCell ⟨rb, 2, none⟩ (.int .i64 0)) := (((hf7.mono (fun k hk => .inr hk)).set (b := rb) (.inl rfl) _ _).set (b := rb) (.inl rfl) _ _).set (b := rb) (.inl rfl) _ _
      refine ⟨((Fr.of HF.out).alloc _).trans (hfd.mono (fun k hk => ?_)), HG5.out.susp hfd hr9 (row_of hown1 (fun q hq => (Below.heap_setCell _ _ _ _ (by cases hq; exact hg1)).trans ((Below.heap_setCell _ _ _ _ (by cases hq; exact hg1)).trans (Below.heap_setCell _ _ _ _ (by cases hq; exact hg1))))) ?_⟩
      · rcases hk with hk | hk
        · exact .inl hk
        · exact .inr (.inr hk)
      · rcases hat1 with q | q
        · exact .inl q.symm
        · exact .inr ⟨g1, rfl, by omega⟩
    clear hown1 hgrow1 hat1 hglt1 hf7 hb7
    refine hK.out _ _ hH7 (fun _ => ?_)
    clear hK K
    try simp only [Act.put, List.setIfInBounds_toArray, List.set_cons_zero, List.set_cons_succ, List.getElem_toArray, List.getElem_cons_succ, List.getElem_cons_zero]
    refine wpAnyH_take (i := 13) (v := .pointer (some ⟨rb, 0, none⟩)) rfl (by kernel_rfl) (by kernel_rfl) (by kernel_rfl) (fun _ _ _ h => h) (Or.inl ⟨by rfl, fun w hSw => by go_simp⟩) hH7 ?_
    try simp only [Act.put, List.setIfInBounds_toArray, List.set_cons_zero, List.set_cons_succ, List.getElem_toArray, List.getElem_cons_succ, List.getElem_cons_zero]
    refine wpAnyH_take (i := 14) (v := .pointer (some ⟨rb, 1, none⟩)) rfl (by kernel_rfl) (by kernel_rfl) (by kernel_rfl) (fun _ _ _ h => h) (Or.inl ⟨by rfl, fun w hSw => by go_simp⟩) hH7 ?_
    try simp only [Act.put, List.setIfInBounds_toArray, List.set_cons_zero, List.set_cons_succ, List.getElem_toArray, List.getElem_cons_succ, List.getElem_cons_zero]
    refine wpAnyH_take (i := 15) (v := .pointer (some ⟨rb, 3, none⟩)) rfl (by kernel_rfl) (by kernel_rfl) (by kernel_rfl) (fun _ _ _ h => h) (Or.inl ⟨by rfl, fun w hSw => by go_simp⟩) hH7 ?_
    try simp only [Act.put, List.setIfInBounds_toArray, List.set_cons_zero, List.set_cons_succ, List.getElem_toArray, List.getElem_cons_succ, List.getElem_cons_zero]
    refine wpAnyH_ready (rs := [16]) (by kernel_rfl) (by simp) ?_
    refine AllReadyH.cons rfl (fun K hK => ?_) AllReadyH.nil
    go_simp
    refine hK.out _ _ hH8 (fun _ => ?_)
    clear hK K
    try simp only [Act.put, List.setIfInBounds_toArray, List.set_cons_zero, List.set_cons_succ, List.getElem_toArray, List.getElem_cons_succ, List.getElem_cons_zero]
    refine wpAnyH_done (by kernel_rfl) ?_ _
    try simp
    clear z1 zf hH7 hH8 hH5 hH
    generalize (w7.setCell ⟨rb, 3, none⟩ (.slice (some ⟨g1, 0, none⟩) (ks.length + 1) cp1)) = W8v at *
    have c1 := hr8.cells.2.1
    have c2 := hr8.cells.2.2.1
    have f1 := hr8.free 1
    have f2 := (hr8.set1 (.slice none 0 0)).free 2
    have d2 := (hr8.set1 (.slice none 0 0)).cells.2.2.1
    have c3 := hr9.cells.2.2.2.1
    clear hr8 hr9
    go_wp2
    go_ret2
    exact ⟨rfl, HFi.out.1, _, HFi.out.2⟩
  · skip
    go_simp
    have HG5 : Hid (Sg B rb iv (.slice la ls.length lc) ls sh (.slice ka ks.length kc) ks sl tk dp cv cs (Wd.alloc (Obj.cells #[(.slice la ls.length lc), .int .i64 sh] 30))) := HG.out.later (below_alloc _ _)
    have hH5 : (Wd.alloc (Obj.cells #[(.slice la ls.length lc), .int .i64 sh] 30)).cell? ⟨rb, 1, none⟩ = some (.slice la ls.length lc) ∧ (Wd.alloc (Obj.cells #[(.slice la ls.length lc), .int .i64 sh] 30)).cell? ⟨rb, 2, none⟩ = some (.int .i64 sh) := ⟨HG5.out.reg.cells.2.1, HG5.out.reg.cells.2.2.1⟩
    refine hK.out _ _ hH5 (fun _ => ?_)
    clear hK K
    try simp only [Act.put, List.setIfInBounds_toArray, List.set_cons_zero, List.set_cons_succ, List.getElem_toArray, List.getElem_cons_succ, List.getElem_cons_zero]
    refine wpAnyH_ready (rs := [5]) (by kernel_rfl) (by simp) ?_
    refine AllReadyH.cons rfl (fun K hK => ?_) AllReadyH.nil
    have q5 := HG5.out.reg.cells.2.2.2.1
    go_simp
    clear q5
    refine hK.out _ _ hH5 (fun _ => ?_)
    clear hK K
    try simp only [Act.put, List.setIfInBounds_toArray, List.set_cons_zero, List.set_cons_succ, List.getElem_toArray, List.getElem_cons_succ, List.getElem_cons_zero]
    refine wpAnyH_ready (rs := [12]) (by kernel_rfl) (by simp) ?_
    refine AllReadyH.cons rfl (fun K hK => ?_) AllReadyH.nil
    refine step_append_lies _ rfl _ _ 31 rfl B 30 j0 (.agg #[.slice none 0 0, .int .i64 0]) 2 32 Tryz.underlying31 hj hj0 hj1 hj2 rfl (by decide) _ _ _ rfl HG5.out.krow ⟨Wd.heap.size, 0, none⟩ 1 1 [(.slice la ls.length lc), .int .i64 sh] rfl rfl (World.news_of_block (heapNew Wd _)) (by simp [Value.oneCell']) (by omega) (by unfold maxLen; omega) (by omega) (by have := HG5.out.reg.lt; have := HG5.out.low; omega) _ rfl ?_
    intro g1 cp1 w7 hown1 hgrow1 hat1 hglt1
    have hf7 := fr_grown hgrow1
    have hb7 : SpIs w7 rb iv (.slice la ls.length lc) sh (.slice ka ks.length kc) sl tk dp cv := (hf7.block rb HG5.out.reg.lt (fun e => HG5.out.far.2.1 e)).trans HG5.out.reg
    have z1 := hb7.cells.2.2.2.1
    have zf := hb7.free 3
    have hH7 : w7.cell? ⟨rb, 1, none⟩ = some (.slice la ls.length lc) ∧ w7.cell? ⟨rb, 2, none⟩ = some (.int .i64 sh) := ⟨hb7.cells.2.1, hb7.cells.2.2.1⟩
    have hr8 := hb7.set3 (.slice (some ⟨g1, 0, none⟩) (ks.length + 1) cp1)
    have hH8 : (w7.setCell ⟨rb, 3, none⟩ (.slice (some ⟨g1, 0, none⟩) (ks.length + 1) cp1)).cell? ⟨rb, 1, none⟩ = some (.slice la ls.length lc) ∧ (w7.setCell ⟨rb, 3, none⟩ (.slice (some ⟨g1, 0, none⟩) (ks.length + 1) cp1)).cell? ⟨rb, 2, none⟩ = some (.int .i64 sh) := ⟨hr8.cells.2.1, hr8.cells.2.2.1⟩
    have hr9 := (hr8.set1 (.slice none 0 0)).set2 0
    have HFi : Hid (Fr (RgX rb (.slice la ls.length lc) (.slice ka ks.length kc)) w (((w7.setCell ⟨rb, 3, none⟩ (.slice (some ⟨g1, 0, none⟩) (ks.length + 1) cp1)).setCell ⟨rb, 1, none⟩ (.slice none 0 0)).setCell ⟨rb, 2, none⟩ (.int .i64 0)) ∧ Sg B rb iv (.slice none 0 0) [] 0 (.slice (some ⟨g1, 0, none⟩) (ks.length + 1) cp1) (ks ++ [Kb.mk (.slice la ls.length lc) ls sh]) sl tk dp cv cs (((w7.setCell ⟨rb, 3, none⟩ (.slice (some ⟨g1, 0, none⟩) (ks.length + 1) cp1)).setCell ⟨rb, 1, none⟩ (.slice none 0 0)).setCell ⟨rb, 2, none⟩ (.int .i64 0))) := by
      have hg1 : g1 ≠ rb := by
        rcases hat1 with q | q
        · exact fun e => HG5.out.far.2.1 (by rw [← e]; exact q)
        · have := HG5.out.reg.lt; omega
      have hfd : Fr (fun k => k = rb ∨ (Value.slice ka ks.length kc).ownBlock = some k) (Wd.alloc (Obj.cells #[(.slice la ls.length lc), .int .i64 sh] 30)) (((w7.setCell ⟨rb, 3, none⟩ (.slice (some ⟨g1, 0, none⟩) (ks.length + 1) cp1)).setCell ⟨rb, 1, none⟩ (.slice none 0 0)).setCell ⟨rb, 2, none⟩ (.int .i64 0)) := (((hf7.mono (fun k hk => .inr hk)).set (b := rb) (.inl rfl) _ _).set (b := rb) (.inl rfl) _ _).set (b := rb) (.inl rfl) _ _
      refine ⟨((Fr.of HF.out).alloc _).trans (hfd.mono (fun k hk => ?_)), HG5.out.susp hfd hr9 (row_of hown1 (fun q hq => (Below.heap_setCell _ _ _ _ (by cases hq; exact hg1)).trans ((Below.heap_setCell _ _ _ _ (by cases hq; exact hg1)).trans (Below.heap_setCell _ _ _ _ (by cases hq; exact hg1))))) ?_⟩
      · rcases hk with hk | hk
        · exact .inl hk
        · exact .inr (.inr hk)
      · rcases hat1 with q | q
        · exact .inl q.symm
        · exact .inr ⟨g1, rfl, by omega⟩
    clear hown1 hgrow1 hat1 hglt1 hf7 hb7
    refine hK.out _ _ hH7 (fun _ => ?_)
    clear hK K
    try simp only [Act.put, List.setIfInBounds_toArray, List.set_cons_zero, List.set_cons_succ, List.getElem_toArray, List.getElem_cons_succ, List.getElem_cons_zero]
    refine wpAnyH_take (i := 13) (v := .pointer (some ⟨rb, 0, none⟩)) rfl (by kernel_rfl) (by kernel_rfl) (by kernel_rfl) (fun _ _ _ h => h) (Or.inl ⟨by rfl, fun w hSw => by go_simp⟩) hH7 ?_
    try simp only [Act.put, List.setIfInBounds_toArray, List.set_cons_zero, List.set_cons_succ, List.getElem_toArray, List.getElem_cons_succ, List.getElem_cons_zero]
    refine wpAnyH_take (i := 14) (v := .pointer (some ⟨rb, 1, none⟩)) rfl (by kernel_rfl) (by kernel_rfl) (by kernel_rfl) (fun _ _ _ h => h) (Or.inl ⟨by rfl, fun w hSw => by go_simp⟩) hH7 ?_
    try simp only [Act.put, List.setIfInBounds_toArray, List.set_cons_zero, List.set_cons_succ, List.getElem_toArray, List.getElem_cons_succ, List.getElem_cons_zero]
    refine wpAnyH_take (i := 15) (v := .pointer (some ⟨rb, 3, none⟩)) rfl (by kernel_rfl) (by kernel_rfl) (by kernel_rfl) (fun _ _ _ h => h) (Or.inl ⟨by rfl, fun w hSw => by go_simp⟩) hH7 ?_
    try simp only [Act.put, List.setIfInBounds_toArray, List.set_cons_zero, List.set_cons_succ, List.getElem_toArray, List.getElem_cons_succ, List.getElem_cons_zero]
    refine wpAnyH_ready (rs := [16]) (by kernel_rfl) (by simp) ?_
    refine AllReadyH.cons rfl (fun K hK => ?_) AllReadyH.nil
    go_simp
    refine hK.out _ _ hH8 (fun _ => ?_)
    clear hK K
    try simp only [Act.put, List.setIfInBounds_toArray, List.set_cons_zero, List.set_cons_succ, List.getElem_toArray, List.getElem_cons_succ, List.getElem_cons_zero]
    refine wpAnyH_done (by kernel_rfl) ?_ _
    try simp
    clear z1 zf hH7 hH8 hH5 hH
    generalize (w7.setCell ⟨rb, 3, none⟩ (.slice (some ⟨g1, 0, none⟩) (ks.length + 1) cp1)) = W8v at *
    have c1 := hr8.cells.2.1
    have c2 := hr8.cells.2.2.1
    have f1 := hr8.free 1
    have f2 := (hr8.set1 (.slice none 0 0)).free 2
    have d2 := (hr8.set1 (.slice none 0 0)).cells.2.2.1
    have c3 := hr9.cells.2.2.2.1
    clear hr8 hr9
    go_wp2
    go_ret2
    exact ⟨rfl, HFi.out.1, _, HFi.out.2⟩
end Go.Proofs.YtabpkfhbnendjaaGreat

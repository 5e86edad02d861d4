/-
  Texts of this claim laid together: TlM.
-/
import Derived.Test.YtabpkfhbnendjaaGreatM20
import Derived.Deep.AppendLies
/-
  The program's carryOut where a line is void, where one is scanned, where a basket is suspended.
-/
namespace Go.Proofs.YtabpkfhbnendjaaGreat
open Go.ChangeShapes Go.WideShapes Go.ChangeAt Go.RowKit Go.Deep
set_option linter.unusedVariables false

theorem fr_grown {w w' : World} {o : Option Nat} (h : w.grownBy w' o) : Fr (fun k => o = some k) w w' :=
  have b : Below 0 w w' := (Below.refl 0 w).grown h (Nat.zero_le _) (fun _ _ => Nat.zero_le _)
  ⟨b.os, b.tape, b.output, b.size, fun k hk hx => h.block k hk (fun e => hx e.symm)⟩
theorem cut_len (ls : List RLi) (i : Nat) (h : i < ls.length) : (ls.take i ++ ls.drop (i + 1)).length = ls.length - 1 := by rw [List.length_append, List.length_take, List.length_drop]; omega
set_option maxHeartbeats 4000000 in
set_option maxRecDepth 8000 in
theorem carryVoid (B rb : Nat) (iv : Value) (g lc : Nat) (ls : List RLi) (hN : ∀ l ∈ ls, LiN l) (hl : ls.length ≤ 50) (sh : Int) (kv : Value) (ks : List Kb) (sl tk dp : Int) (cs : List Int) (i : Nat) (hi : i < ls.length) (w : World) (hg : Rg B rb iv (.slice (some ⟨g, 0, none⟩) ls.length lc) ls sh kv ks sl tk dp cs w) :
    Calls Tryz.prog 29 #[.pointer (some ⟨rb, 0, none⟩), .iface 95 (.agg #[.int .i64 (i : Int)])] w fun e w' => e = .returned (.int .i64 ((ls.getD i zLi).am + (ls.getD i zLi).dp)) ∧ Fr (RgX rb (.slice (some ⟨g, 0, none⟩) ls.length lc) kv) w w' ∧ Rg B rb iv (.slice (some ⟨g, 0, none⟩) (ls.length - 1) lc) (ls.take i ++ ls.drop (i + 1)) sh kv ks sl tk dp cs w' := by
  have hlow := hg.low
  have hlt := hg.reg.lt
  have hgB := row_lt hg.lrow g rfl
  have hne : g ≠ rb := fun e => hg.far.1 (by rw [e]; rfl)
  have HG : Hid (Rg B rb iv (.slice (some ⟨g, 0, none⟩) ls.length lc) ls sh kv ks sl tk dp cs w) := hg
  have HTk : Hid (∀ W, Below w.heap.size w W → Calls Tryz.prog 45 #[.pointer (some ⟨rb, 0, none⟩), .int .i64 (i : Int)] W fun e w' => e = .returned (.agg #[.int .i64 (ls.getD i zLi).it, .int .i64 (ls.getD i zLi).ct, .int .i64 (ls.getD i zLi).am, .int .i64 (ls.getD i zLi).dp]) ∧ Fr (fun k => k = rb ∨ k = g) W w' ∧ Rg B rb iv (.slice (some ⟨g, 0, none⟩) (ls.length - 1) lc) (ls.take i ++ ls.drop (i + 1)) sh kv ks sl tk dp cs w') := fun W hW => by
    have hgW := hg.later hW
    refine (takeOut_any B rb g lc i _ _ ls hi (by omega) hne W hgW.reg rfl hgW.lrow).mono ?_
    rintro e w' ⟨h1, h2, h3, h4⟩
    rw [regC_set0] at h3
    refine ⟨h1, h2, hgW.now (h2.mono (fun k hk => by rcases hk with hk | hk; exact .inl hk; exact .inr (by rw [hk]; rfl))) h3 (by rw [cut_len ls i hi]; exact h4) (.inl rfl)⟩
  obtain ⟨n1, n2, n3, n4⟩ := getLi hN hi
  clear hg hN
  generalize ls.getD i zLi = q at *
  obtain ⟨q0, q1, q2, q3⟩ := q
  dsimp only at n1 n2 n3 n4 HTk ⊢
  have hD := fun w => due_any q0 q1 q2 q3 ⟨by omega, by omega, by omega, by omega⟩ w
  have t1' := ta_voiding_scanning
  have t2' := ta_voiding_voiding
  go_enter Tryz.func29, Tryz.ntmps29
  go_wp2_with fail
  have hbx := heapNew w (Obj.cells #[.int .i64 (i : Int)] 95)
  have hW2 : Below w.heap.size w (w.alloc (Obj.cells #[.int .i64 (i : Int)] 95)) := below_alloc _ _
  generalize (w.alloc (Obj.cells #[.int .i64 (i : Int)] 95)) = W2 at *
  refine wp_region_held_drew (S := fun W => W.heap[w.heap.size]? = some (.cells #[.int .i64 (i : Int)] 95 (0, 0))) (by kernel_rfl) hbx (fun hH => ?_)
  refine wpAnyH_take (i := 0) (v := .pointer (some ⟨rb, 0, none⟩)) rfl (by kernel_rfl) (by kernel_rfl) (by kernel_rfl) (fun _ _ _ h => h) (Or.inl ⟨by rfl, fun w hSw => by go_simp⟩) hH ?_
  refine wpAnyH_take (i := 1) (v := .pointer (some ⟨rb, 0, none⟩)) rfl (by kernel_rfl) (by kernel_rfl) (by kernel_rfl) (fun _ _ _ h => h) (Or.inl ⟨by rfl, fun w hSw => by go_simp⟩) hH ?_
  try simp only [Act.put, List.setIfInBounds_toArray, List.set_cons_zero, List.set_cons_succ, List.getElem_toArray, List.getElem_cons_succ, List.getElem_cons_zero]
  refine wpAnyH_take (i := 2) (v := .pointer (some ⟨rb, 0, none⟩)) rfl (by kernel_rfl) (by kernel_rfl) (by kernel_rfl) (fun _ _ _ h => h) (Or.inl ⟨by rfl, fun w hSw => by go_simp⟩) hH ?_
  try simp only [Act.put, List.setIfInBounds_toArray, List.set_cons_zero, List.set_cons_succ, List.getElem_toArray, List.getElem_cons_succ, List.getElem_cons_zero]
  refine wpAnyH_take (i := 3) (v := .pointer (some ⟨w.heap.size, 0, none⟩)) rfl (by kernel_rfl) (by kernel_rfl) (by kernel_rfl) (fun _ _ _ h => h) (Or.inl ⟨by rfl, fun w hSw => by go_simp⟩) hH ?_
  try simp only [Act.put, List.setIfInBounds_toArray, List.set_cons_zero, List.set_cons_succ, List.getElem_toArray, List.getElem_cons_succ, List.getElem_cons_zero]
  refine wpAnyH_take (i := 4) (v := .int .i64 (i : Int)) rfl (by kernel_rfl) (by kernel_rfl) (by kernel_rfl) (fun _ _ _ h => h) (Or.inl ⟨by rfl, fun w hSw => by have f0 := blkCell hSw 0 _ rfl; go_simp⟩) hH ?_
  try simp only [Act.put, List.setIfInBounds_toArray, List.set_cons_zero, List.set_cons_succ, List.getElem_toArray, List.getElem_cons_succ, List.getElem_cons_zero]
  refine wpAnyH_ready (rs := [5]) (by kernel_rfl) (by simp) ?_
  refine AllReadyH.cons rfl (fun K hK => ?_) AllReadyH.nil
  go_simp
  go_at_call 45
  refine (HTk.out _ (chain hW2 (below_drew _))).mono ?_
  rintro e w5 ⟨rfl, hf5, hr5⟩
  have hH5 : w5.heap[w.heap.size]? = some (.cells #[.int .i64 (i : Int)] 95 (0, 0)) := (hf5.block _ (blkLt hH) (by show ¬ (w.heap.size = rb ∨ w.heap.size = g); omega)).trans hH
  refine hK.out _ _ hH5 (fun _ => ?_)
  clear hK K
  try simp only [Act.put, List.setIfInBounds_toArray, List.set_cons_zero, List.set_cons_succ, List.getElem_toArray, List.getElem_cons_succ, List.getElem_cons_zero]
  refine wpAnyH_ready (rs := [6]) (by kernel_rfl) (by simp) ?_
  refine AllReadyH.cons rfl (fun K hK => ?_) AllReadyH.nil
  go_simp
  go_at_call 44
  refine (hD _).mono ?_
  rintro e w6 ⟨rfl, hb6⟩
  have hH6 : w6.heap[w.heap.size]? = some (.cells #[.int .i64 (i : Int)] 95 (0, 0)) := (hb6.block _ (blkLt hH5)).trans hH5
  refine hK.out _ _ hH6 (fun _ => ?_)
  clear hK K
  try simp only [Act.put, List.setIfInBounds_toArray, List.set_cons_zero, List.set_cons_succ, List.getElem_toArray, List.getElem_cons_succ, List.getElem_cons_zero]
  refine wpAnyH_take (i := 7) (v := .int .i64 (q2 + q3)) rfl (by kernel_rfl) (by kernel_rfl) (by kernel_rfl) (fun _ _ _ h => h) (Or.inl ⟨by rfl, fun w hSw => by go_simp⟩) hH6 ?_
  try simp only [Act.put, List.setIfInBounds_toArray, List.set_cons_zero, List.set_cons_succ, List.getElem_toArray, List.getElem_cons_succ, List.getElem_cons_zero]
  refine wpAnyH_done (by kernel_rfl) ?_ _
  try simp
  have HFi : Hid (Fr (RgX rb (.slice (some ⟨g, 0, none⟩) ls.length lc) kv) w w6 ∧ Rg B rb iv (.slice (some ⟨g, 0, none⟩) (ls.length - 1) lc) (ls.take i ++ ls.drop (i + 1)) sh kv ks sl tk dp cs w6) := ⟨((Fr.of (chain hW2 (below_drew _))).trans (hf5.mono (fun k hk => by rcases hk with hk | hk; exact .inl hk; exact .inr (.inl (by rw [hk]; rfl))))).trans (Fr.of hb6), hr5.later hb6⟩
  clear hf5 hr5 hH5 hH hbx hH6 hb6
  go_wp2
  go_ret
  exact ⟨rfl, HFi.out⟩
set_option maxHeartbeats 8000000 in
set_option maxRecDepth 8000 in
theorem carryScan (B rb : Nat) (iv : Value) (la : Option Addr) (lc : Nat) (ls : List RLi) (hl : ls.length ≤ 50) (sh : Int) (kv : Value) (ks : List Kb) (sl tk dp : Int) (cs : List Int) (q0 q1 q2 q3 ag : Int) (hN : LiN ⟨q0, q1, q2, q3⟩) (w : World) (hg : Rg B rb iv (.slice la ls.length lc) ls sh kv ks sl tk dp cs w) (hB : B ≤ w.heap.size) :
    Calls Tryz.prog 29 #[.pointer (some ⟨rb, 0, none⟩), .iface 91 (.agg #[.int .i64 q0, .int .i64 q1, .int .i64 q2, .int .i64 q3, .int .i64 ag])] w fun e w' => e = .returned (.int .i64 (q2 + q3)) ∧ Fr (RgX rb (.slice la ls.length lc) kv) w w' ∧ ∃ lv', Rg B rb iv lv' (ls ++ [⟨q0, q1, q2, q3⟩]) sh kv ks sl tk dp cs w' := by
  have hlow := hg.low
  have hlt := hg.reg.lt
  have HG0 : Hid (Rg B rb iv (.slice la ls.length lc) ls sh kv ks sl tk dp cs w) := hg
  obtain ⟨n1, n2, n3, n4⟩ := hN
  dsimp only at n1 n2 n3 n4
  have hD := fun w => due_any q0 q1 q2 q3 ⟨by omega, by omega, by omega, by omega⟩ w
  obtain ⟨j0, hj, hzy⟩ := Option.map_eq_some_iff.1 lnInfo
  simp only [Prod.mk.injEq] at hzy
  obtain ⟨hj0, hj1, hj2⟩ := hzy
  clear hg
  have t1' := ta_scanning_scanning
  go_enter Tryz.func29, Tryz.ntmps29
  go_wp2_with fail
  have hbx := heapNew w (Obj.cells #[.int .i64 q0, .int .i64 q1, .int .i64 q2, .int .i64 q3, .int .i64 ag] 91)
  have hW2 : Below w.heap.size w (w.alloc (Obj.cells #[.int .i64 q0, .int .i64 q1, .int .i64 q2, .int .i64 q3, .int .i64 ag] 91)) := below_alloc _ _
  generalize (w.alloc (Obj.cells #[.int .i64 q0, .int .i64 q1, .int .i64 q2, .int .i64 q3, .int .i64 ag] 91)) = W2 at *
  refine wp_region_held_drew (S := fun W => W.heap[w.heap.size]? = some (.cells #[.int .i64 q0, .int .i64 q1, .int .i64 q2, .int .i64 q3, .int .i64 ag] 91 (0, 0))) (by kernel_rfl) hbx (fun hH => ?_)
  have HG : Hid (Rg B rb iv (.slice la ls.length lc) ls sh kv ks sl tk dp cs W2.drew) := HG0.out.later (chain hW2 (below_drew _))
  have HF : Hid (Fr (RgX rb (.slice la ls.length lc) kv) w W2.drew) := Fr.of (chain hW2 (below_drew _))
  have hs2 : w.heap.size < W2.drew.heap.size := blkLt hH
  have HG0l : Hid (w.ownsRow B 82 4 (.slice la ls.length lc) ls.length (lnCells ls)) := HG0.out.lrow
  clear HG0 hbx hW2
  generalize W2.drew = Wd at *
  refine wpAnyH_take (i := 0) (v := .pointer (some ⟨rb, 0, none⟩)) rfl (by kernel_rfl) (by kernel_rfl) (by kernel_rfl) (fun _ _ _ h => h) (Or.inl ⟨by rfl, fun w hSw => by go_simp⟩) hH ?_
  refine wpAnyH_take (i := 1) (v := .pointer (some ⟨rb, 0, none⟩)) rfl (by kernel_rfl) (by kernel_rfl) (by kernel_rfl) (fun _ _ _ h => h) (Or.inl ⟨by rfl, fun w hSw => by go_simp⟩) hH ?_
  try simp only [Act.put, List.setIfInBounds_toArray, List.set_cons_zero, List.set_cons_succ, List.getElem_toArray, List.getElem_cons_succ, List.getElem_cons_zero]
  refine wpAnyH_take (i := 2) (v := .pointer (some ⟨rb, 0, none⟩)) rfl (by kernel_rfl) (by kernel_rfl) (by kernel_rfl) (fun _ _ _ h => h) (Or.inl ⟨by rfl, fun w hSw => by go_simp⟩) hH ?_
  try simp only [Act.put, List.setIfInBounds_toArray, List.set_cons_zero, List.set_cons_succ, List.getElem_toArray, List.getElem_cons_succ, List.getElem_cons_zero]
  refine wpAnyH_take (i := 3) (v := .pointer (some ⟨rb, 0, none⟩)) rfl (by kernel_rfl) (by kernel_rfl) (by kernel_rfl) (fun _ _ _ h => h) (Or.inl ⟨by rfl, fun w hSw => by go_simp⟩) hH ?_
  try simp only [Act.put, List.setIfInBounds_toArray, List.set_cons_zero, List.set_cons_succ, List.getElem_toArray, List.getElem_cons_succ, List.getElem_cons_zero]
  refine wpAnyH_take (i := 4) (v := .pointer (some ⟨rb, 0, none⟩)) rfl (by kernel_rfl) (by kernel_rfl) (by kernel_rfl) (fun _ _ _ h => h) (Or.inl ⟨by rfl, fun w hSw => by go_simp⟩) hH ?_
  try simp only [Act.put, List.setIfInBounds_toArray, List.set_cons_zero, List.set_cons_succ, List.getElem_toArray, List.getElem_cons_succ, List.getElem_cons_zero]
  refine wpAnyH_take (i := 6) (v := .pointer (some ⟨w.heap.size, 0, none⟩)) rfl (by kernel_rfl) (by kernel_rfl) (by kernel_rfl) (fun _ _ _ h => h) (Or.inl ⟨by rfl, fun w hSw => by go_simp⟩) hH ?_
  try simp only [Act.put, List.setIfInBounds_toArray, List.set_cons_zero, List.set_cons_succ, List.getElem_toArray, List.getElem_cons_succ, List.getElem_cons_zero]
  refine wpAnyH_take (i := 7) (v := .agg #[.int .i64 q0, .int .i64 q1, .int .i64 q2, .int .i64 q3]) rfl (by kernel_rfl) (by kernel_rfl) (by kernel_rfl) (fun _ _ _ h => h) (Or.inl ⟨by rfl, fun w hSw => by have f0 := blkCell hSw 0 _ rfl; have f1 := blkCell hSw 1 _ rfl; have f2 := blkCell hSw 2 _ rfl; have f3 := blkCell hSw 3 _ rfl; go_simp⟩) hH ?_
  try simp only [Act.put, List.setIfInBounds_toArray, List.set_cons_zero, List.set_cons_succ, List.getElem_toArray, List.getElem_cons_succ, List.getElem_cons_zero]
  refine wpAnyH_ready (rs := [5, 8]) (by kernel_rfl) (by simp) ?_
  refine AllReadyH.cons rfl (fun K hK => ?_) (AllReadyH.cons rfl (fun K hK => ?_) AllReadyH.nil)
  · skip
    have q5 := HG.out.reg.cells.1
    go_simp
    clear q5
    refine hK.out _ _ hH (fun _ => ?_)
    clear hK K
    try simp only [Act.put, List.setIfInBounds_toArray, List.set_cons_zero, List.set_cons_succ, List.getElem_toArray, List.getElem_cons_succ, List.getElem_cons_zero]
    refine wpAnyH_ready (rs := [8]) (by kernel_rfl) (by simp) ?_
    refine AllReadyH.cons rfl (fun K hK => ?_) AllReadyH.nil
    go_simp
    have HG5 : Hid (Rg B rb iv (.slice la ls.length lc) ls sh kv ks sl tk dp cs (Wd.alloc (Obj.cells #[.int .i64 q0, .int .i64 q1, .int .i64 q2, .int .i64 q3] 82))) := HG.out.later (below_alloc _ _)
    have hH5 : (Wd.alloc (Obj.cells #[.int .i64 q0, .int .i64 q1, .int .i64 q2, .int .i64 q3] 82)).heap[w.heap.size]? = some (.cells #[.int .i64 q0, .int .i64 q1, .int .i64 q2, .int .i64 q3, .int .i64 ag] 91 (0, 0)) := (Below.heap_alloc _ _ _ (blkLt hH)).trans hH
    refine hK.out _ _ hH5 (fun _ => ?_)
    clear hK K
    try simp only [Act.put, List.setIfInBounds_toArray, List.set_cons_zero, List.set_cons_succ, List.getElem_toArray, List.getElem_cons_succ, List.getElem_cons_zero]
    refine wpAnyH_ready (rs := [9]) (by kernel_rfl) (by simp) ?_
    refine AllReadyH.cons rfl (fun K hK => ?_) AllReadyH.nil
    refine step_append_lies _ rfl _ _ 28 rfl B 82 j0 (.agg #[.int .i64 0, .int .i64 0, .int .i64 0, .int .i64 0]) 4 32 Tryz.underlying28 hj hj0 hj1 hj2 rfl (by decide) _ _ _ rfl HG5.out.lrow ⟨Wd.heap.size, 0, none⟩ 1 1 [.int .i64 q0, .int .i64 q1, .int .i64 q2, .int .i64 q3] rfl rfl (World.news_of_block (heapNew Wd _)) (by simp [Value.oneCell']) (by omega) (by unfold maxLen; omega) (by omega) (by have := HG5.out.reg.lt; omega) _ rfl ?_
    intro g1 cp1 w7 hown1 hgrow1 hat1 hglt1
    have hf7 := fr_grown hgrow1
    have hxl : ∀ q, (Value.slice la ls.length lc).ownBlock = some q → q ≠ rb := fun q hq e => HG5.out.far.1 (by rw [hq, e])
    have hb7 : RegIs w7 rb (.slice la ls.length lc) sh iv kv sl tk dp cs := (hf7.block rb HG5.out.reg.lt (fun e => HG5.out.far.1 e)).trans HG5.out.reg
    have z1 := hb7.cells.1
    have zf := hb7.free 0
    have hH7 : w7.heap[w.heap.size]? = some (.cells #[.int .i64 q0, .int .i64 q1, .int .i64 q2, .int .i64 q3, .int .i64 ag] 91 (0, 0)) := (hf7.block _ (blkLt hH5) (fun e => by have := (row_lt HG0l.out _ e).2; omega)).trans hH5
    have HFi : Hid (Fr (RgX rb (.slice la ls.length lc) kv) w (w7.setCell ⟨rb, 0, none⟩ (.slice (some ⟨g1, 0, none⟩) (ls.length + 1) cp1)) ∧ Rg B rb iv (.slice (some ⟨g1, 0, none⟩) (ls.length + 1) cp1) (ls ++ [⟨q0, q1, q2, q3⟩]) sh kv ks sl tk dp cs (w7.setCell ⟨rb, 0, none⟩ (.slice (some ⟨g1, 0, none⟩) (ls.length + 1) cp1))) := by
      refine ⟨((HF.out.alloc _).trans (hf7.mono (fun k hk => .inr (.inl hk)))).set (b := rb) (.inl rfl) _ _, ?_⟩
      have hg1 : g1 ≠ rb := by
        rcases hat1 with q | q
        · exact hxl g1 q
        · have := HG5.out.reg.lt; omega
      refine HG5.out.now ((hf7.mono (fun k hk => .inr hk)).set (b := rb) (.inl rfl) _ _) (hb7.set0 _) ?_ ?_
      · rw [List.length_append, lnCells_append]
        exact row_of hown1 (fun q hq => Below.heap_setCell _ _ _ _ (by cases hq; exact hg1))
      · rcases hat1 with q | q
        · exact .inl q.symm
        · exact .inr ⟨g1, rfl, by omega⟩
    have hH8 : (w7.setCell ⟨rb, 0, none⟩ (.slice (some ⟨g1, 0, none⟩) (ls.length + 1) cp1)).heap[w.heap.size]? = some (.cells #[.int .i64 q0, .int .i64 q1, .int .i64 q2, .int .i64 q3, .int .i64 ag] 91 (0, 0)) := (Below.heap_setCell _ _ _ _ (by show w.heap.size ≠ rb; omega)).trans hH7
    clear hown1 hgrow1 hat1 hglt1 hf7 hb7 hxl
    refine hK.out _ _ hH7 (fun _ => ?_)
    clear hK K
    try simp only [Act.put, List.setIfInBounds_toArray, List.set_cons_zero, List.set_cons_succ, List.getElem_toArray, List.getElem_cons_succ, List.getElem_cons_zero]
    refine wpAnyH_take (i := 10) (v := .pointer (some ⟨rb, 0, none⟩)) rfl (by kernel_rfl) (by kernel_rfl) (by kernel_rfl) (fun _ _ _ h => h) (Or.inl ⟨by rfl, fun w hSw => by go_simp⟩) hH7 ?_
    try simp only [Act.put, List.setIfInBounds_toArray, List.set_cons_zero, List.set_cons_succ, List.getElem_toArray, List.getElem_cons_succ, List.getElem_cons_zero]
    refine wpAnyH_take (i := 11) (v := .pointer (some ⟨rb, 0, none⟩)) rfl (by kernel_rfl) (by kernel_rfl) (by kernel_rfl) (fun _ _ _ h => h) (Or.inl ⟨by rfl, fun w hSw => by go_simp⟩) hH7 ?_
    try simp only [Act.put, List.setIfInBounds_toArray, List.set_cons_zero, List.set_cons_succ, List.getElem_toArray, List.getElem_cons_succ, List.getElem_cons_zero]
    refine wpAnyH_take (i := 12) (v := .pointer (some ⟨rb, 0, none⟩)) rfl (by kernel_rfl) (by kernel_rfl) (by kernel_rfl) (fun _ _ _ h => h) (Or.inl ⟨by rfl, fun w hSw => by go_simp⟩) hH7 ?_
    try simp only [Act.put, List.setIfInBounds_toArray, List.set_cons_zero, List.set_cons_succ, List.getElem_toArray, List.getElem_cons_succ, List.getElem_cons_zero]
    refine wpAnyH_ready (rs := [13]) (by kernel_rfl) (by simp) ?_
    refine AllReadyH.cons rfl (fun K hK => ?_) AllReadyH.nil
    go_simp
    refine hK.out _ _ hH8 (fun _ => ?_)
    clear hK K
    try simp only [Act.put, List.setIfInBounds_toArray, List.set_cons_zero, List.set_cons_succ, List.getElem_toArray, List.getElem_cons_succ, List.getElem_cons_zero]
    refine wpAnyH_done (by kernel_rfl) ?_ _
    try simp
    clear z1 zf
    generalize (w7.setCell ⟨rb, 0, none⟩ (.slice (some ⟨g1, 0, none⟩) (ls.length + 1) cp1)) = W8 at *
    have f0 := blkCell hH8 0 _ rfl
    have f1 := blkCell hH8 1 _ rfl
    have f2 := blkCell hH8 2 _ rfl
    have f3 := blkCell hH8 3 _ rfl
    clear hH8 hH7 hH5 hH
    go_wp2_with (go_at_call 44; refine (hD _).mono ?_; rintro e w9 ⟨rfl, hb9⟩)
    go_ret
    exact ⟨rfl, HFi.out.1.trans (Fr.of hb9), _, HFi.out.2.later hb9⟩
  · skip
    go_simp
    have HG5 : Hid (Rg B rb iv (.slice la ls.length lc) ls sh kv ks sl tk dp cs (Wd.alloc (Obj.cells #[.int .i64 q0, .int .i64 q1, .int .i64 q2, .int .i64 q3] 82))) := HG.out.later (below_alloc _ _)
    have hH5 : (Wd.alloc (Obj.cells #[.int .i64 q0, .int .i64 q1, .int .i64 q2, .int .i64 q3] 82)).heap[w.heap.size]? = some (.cells #[.int .i64 q0, .int .i64 q1, .int .i64 q2, .int .i64 q3, .int .i64 ag] 91 (0, 0)) := (Below.heap_alloc _ _ _ (blkLt hH)).trans hH
    refine hK.out _ _ hH5 (fun _ => ?_)
    clear hK K
    try simp only [Act.put, List.setIfInBounds_toArray, List.set_cons_zero, List.set_cons_succ, List.getElem_toArray, List.getElem_cons_succ, List.getElem_cons_zero]
    refine wpAnyH_ready (rs := [5]) (by kernel_rfl) (by simp) ?_
    refine AllReadyH.cons rfl (fun K hK => ?_) AllReadyH.nil
    have q5 := HG5.out.reg.cells.1
    go_simp
    clear q5
    refine hK.out _ _ hH5 (fun _ => ?_)
    clear hK K
    try simp only [Act.put, List.setIfInBounds_toArray, List.set_cons_zero, List.set_cons_succ, List.getElem_toArray, List.getElem_cons_succ, List.getElem_cons_zero]
    refine wpAnyH_ready (rs := [9]) (by kernel_rfl) (by simp) ?_
    refine AllReadyH.cons rfl (fun K hK => ?_) AllReadyH.nil
    refine step_append_lies _ rfl _ _ 28 rfl B 82 j0 (.agg #[.int .i64 0, .int .i64 0, .int .i64 0, .int .i64 0]) 4 32 Tryz.underlying28 hj hj0 hj1 hj2 rfl (by decide) _ _ _ rfl HG5.out.lrow ⟨Wd.heap.size, 0, none⟩ 1 1 [.int .i64 q0, .int .i64 q1, .int .i64 q2, .int .i64 q3] rfl rfl (World.news_of_block (heapNew Wd _)) (by simp [Value.oneCell']) (by omega) (by unfold maxLen; omega) (by omega) (by have := HG5.out.reg.lt; omega) _ rfl ?_
    intro g1 cp1 w7 hown1 hgrow1 hat1 hglt1
    have hf7 := fr_grown hgrow1
    have hxl : ∀ q, (Value.slice la ls.length lc).ownBlock = some q → q ≠ rb := fun q hq e => HG5.out.far.1 (by rw [hq, e])
    have hb7 : RegIs w7 rb (.slice la ls.length lc) sh iv kv sl tk dp cs := (hf7.block rb HG5.out.reg.lt (fun e => HG5.out.far.1 e)).trans HG5.out.reg
    have z1 := hb7.cells.1
    have zf := hb7.free 0
    have hH7 : w7.heap[w.heap.size]? = some (.cells #[.int .i64 q0, .int .i64 q1, .int .i64 q2, .int .i64 q3, .int .i64 ag] 91 (0, 0)) := (hf7.block _ (blkLt hH5) (fun e => by have := (row_lt HG0l.out _ e).2; omega)).trans hH5
    have HFi : Hid (Fr (RgX rb (.slice la ls.length lc) kv) w (w7.setCell ⟨rb, 0, none⟩ (.slice (some ⟨g1, 0, none⟩) (ls.length + 1) cp1)) ∧ Rg B rb iv (.slice (some ⟨g1, 0, none⟩) (ls.length + 1) cp1) (ls ++ [⟨q0, q1, q2, q3⟩]) sh kv ks sl tk dp cs (w7.setCell ⟨rb, 0, none⟩ (.slice (some ⟨g1, 0, none⟩) (ls.length + 1) cp1))) := by
      refine ⟨((HF.out.alloc _).trans (hf7.mono (fun k hk => .inr (.inl hk)))).set (b := rb) (.inl rfl) _ _, ?_⟩
      have hg1 : g1 ≠ rb := by
        rcases hat1 with q | q
        · exact hxl g1 q
        · have := HG5.out.reg.lt; omega
      refine HG5.out.now ((hf7.mono (fun k hk => .inr hk)).set (b := rb) (.inl rfl) _ _) (hb7.set0 _) ?_ ?_
      · rw [List.length_append, lnCells_append]
        exact row_of hown1 (fun q hq => Below.heap_setCell _ _ _ _ (by cases hq; exact hg1))
      · rcases hat1 with q | q
        · exact .inl q.symm
        · exact .inr ⟨g1, rfl, by omega⟩
    have hH8 : (w7.setCell ⟨rb, 0, none⟩ (.slice (some ⟨g1, 0, none⟩) (ls.length + 1) cp1)).heap[w.heap.size]? = some (.cells #[.int .i64 q0, .int .i64 q1, .int .i64 q2, .int .i64 q3, .int .i64 ag] 91 (0, 0)) := (Below.heap_setCell _ _ _ _ (by show w.heap.size ≠ rb; omega)).trans hH7
    clear hown1 hgrow1 hat1 hglt1 hf7 hb7 hxl
    refine hK.out _ _ hH7 (fun _ => ?_)
    clear hK K
    try simp only [Act.put, List.setIfInBounds_toArray, List.set_cons_zero, List.set_cons_succ, List.getElem_toArray, List.getElem_cons_succ, List.getElem_cons_zero]
    refine wpAnyH_take (i := 10) (v := .pointer (some ⟨rb, 0, none⟩)) rfl (by kernel_rfl) (by kernel_rfl) (by kernel_rfl) (fun _ _ _ h => h) (Or.inl ⟨by rfl, fun w hSw => by go_simp⟩) hH7 ?_
    try simp only [Act.put, List.setIfInBounds_toArray, List.set_cons_zero, List.set_cons_succ, List.getElem_toArray, List.getElem_cons_succ, List.getElem_cons_zero]
    refine wpAnyH_take (i := 11) (v := .pointer (some ⟨rb, 0, none⟩)) rfl (by kernel_rfl) (by kernel_rfl) (by kernel_rfl) (fun _ _ _ h => h) (Or.inl ⟨by rfl, fun w hSw => by go_simp⟩) hH7 ?_
    try simp only [Act.put, List.setIfInBounds_toArray, List.set_cons_zero, List.set_cons_succ, List.getElem_toArray, List.getElem_cons_succ, List.getElem_cons_zero]
    refine wpAnyH_take (i := 12) (v := .pointer (some ⟨rb, 0, none⟩)) rfl (by kernel_rfl) (by kernel_rfl) (by kernel_rfl) (fun _ _ _ h => h) (Or.inl ⟨by rfl, fun w hSw => by go_simp⟩) hH7 ?_
    try simp only [Act.put, List.setIfInBounds_toArray, List.set_cons_zero, List.set_cons_succ, List.getElem_toArray, List.getElem_cons_succ, List.getElem_cons_zero]
    refine wpAnyH_ready (rs := [13]) (by kernel_rfl) (by simp) ?_
    refine AllReadyH.cons rfl (fun K hK => ?_) AllReadyH.nil
    go_simp
    refine hK.out _ _ hH8 (fun _ => ?_)
    clear hK K
    try simp only [Act.put, List.setIfInBounds_toArray, List.set_cons_zero, List.set_cons_succ, List.getElem_toArray, List.getElem_cons_succ, List.getElem_cons_zero]
    refine wpAnyH_done (by kernel_rfl) ?_ _
    try simp
    clear z1 zf
    generalize (w7.setCell ⟨rb, 0, none⟩ (.slice (some ⟨g1, 0, none⟩) (ls.length + 1) cp1)) = W8 at *
    have f0 := blkCell hH8 0 _ rfl
    have f1 := blkCell hH8 1 _ rfl
    have f2 := blkCell hH8 2 _ rfl
    have f3 := blkCell hH8 3 _ rfl
    clear hH8 hH7 hH5 hH
    go_wp2_with (go_at_call 44; refine (hD _).mono ?_; rintro e w9 ⟨rfl, hb9⟩)
    go_ret
    exact ⟨rfl, HFi.out.1.trans (Fr.of hb9), _, HFi.out.2.later hb9⟩
set_option maxHeartbeats 8000000 in
set_option maxRecDepth 8000 in
theorem carrySusp (B rb : Nat) (iv : Value) (la : Option Addr) (lc : Nat) (ls : List RLi) (sh : Int) (ka : Option Addr) (kc : Nat) (ks : List Kb) (hk : ks.length ≤ 50) (sl tk dp : Int) (cs : List Int) (w : World) (hg : Rg B rb iv (.slice la ls.length lc) ls sh (.slice ka ks.length kc) ks sl tk dp cs w) (hB : B ≤ w.heap.size) :
    Calls Tryz.prog 29 #[.pointer (some ⟨rb, 0, none⟩), .iface 99 (.agg #[])] w fun e w' => e = .returned (.int .i64 ((ks.length : Int) + 1)) ∧ Fr (RgX rb (.slice la ls.length lc) (.slice ka ks.length kc)) w w' ∧ ∃ kv', Rg B rb iv (.slice none 0 0) [] 0 kv' (ks ++ [Kb.mk (.slice la ls.length lc) ls sh]) sl tk dp cs w' := by
  have hlow := hg.low
  have hlt := hg.reg.lt
  have HG0 : Hid (Rg B rb iv (.slice la ls.length lc) ls sh (.slice ka ks.length kc) ks sl tk dp cs w) := hg
  have HH : Hid (∀ W, Below w.heap.size w W → Calls Tryz.prog 46 #[.pointer (some ⟨rb, 0, none⟩)] W fun e w' => e = .returned (.agg #[.slice la ls.length lc, .int .i64 sh]) ∧ Fr (fun k => k = rb) W w' ∧ RegIs w' rb (.slice none 0 0) 0 iv (.slice ka ks.length kc) sl tk dp cs) := fun W hW => by
    have := handOver_any rb _ _ (.slice la ls.length lc) sh W (hg.later hW).reg rfl rfl la ls.length lc rfl
    rwa [regC_set0, regC_set1] at this
  obtain ⟨j0, hj, hzy⟩ := Option.map_eq_some_iff.1 bkInfo
  simp only [Prod.mk.injEq] at hzy
  obtain ⟨hj0, hj1, hj2⟩ := hzy
  clear hg
  have t1' := ta_suspending_scanning
  have t2' := ta_suspending_voiding
  have t3' := ta_suspending_showing
  have t4' := ta_suspending_suspending
  have hw1 : IntKind.i64.wrap ((ks.length : Int) + 1) = (ks.length : Int) + 1 := wrap_id _ (by omega) (by omega)
  go_enter Tryz.func29, Tryz.ntmps29
  go_wp2_with fail
  have hW2 : Below w.heap.size w (w.alloc (Obj.cells #[] 99)) := below_alloc _ _
  generalize (w.alloc (Obj.cells #[] 99)) = W2 at *
  refine wp_region_held_drew (S := fun _ => True) (by kernel_rfl) trivial (fun hH => ?_)
  have HBd : Hid (Below w.heap.size w W2.drew) := chain hW2 (below_drew _)
  have HG : Hid (Rg B rb iv (.slice la ls.length lc) ls sh (.slice ka ks.length kc) ks sl tk dp cs W2.drew) := HG0.out.later HBd.out
  clear hW2 HG0
  generalize W2.drew = Wd at *
  refine wpAnyH_take (i := 0) (v := .pointer (some ⟨rb, 0, none⟩)) rfl (by kernel_rfl) (by kernel_rfl) (by kernel_rfl) (fun _ _ _ h => h) (Or.inl ⟨by rfl, fun w hSw => by go_simp⟩) trivial ?_
  refine wpAnyH_take (i := 1) (v := .pointer (some ⟨rb, 0, none⟩)) rfl (by kernel_rfl) (by kernel_rfl) (by kernel_rfl) (fun _ _ _ h => h) (Or.inl ⟨by rfl, fun w hSw => by go_simp⟩) trivial ?_
  try simp only [Act.put, List.setIfInBounds_toArray, List.set_cons_zero, List.set_cons_succ, List.getElem_toArray, List.getElem_cons_succ, List.getElem_cons_zero]
  refine wpAnyH_take (i := 2) (v := .pointer (some ⟨rb, 0, none⟩)) rfl (by kernel_rfl) (by kernel_rfl) (by kernel_rfl) (fun _ _ _ h => h) (Or.inl ⟨by rfl, fun w hSw => by go_simp⟩) trivial ?_
  try simp only [Act.put, List.setIfInBounds_toArray, List.set_cons_zero, List.set_cons_succ, List.getElem_toArray, List.getElem_cons_succ, List.getElem_cons_zero]
  refine wpAnyH_take (i := 3) (v := .pointer (some ⟨rb, 3, none⟩)) rfl (by kernel_rfl) (by kernel_rfl) (by kernel_rfl) (fun _ _ _ h => h) (Or.inl ⟨by rfl, fun w hSw => by go_simp⟩) trivial ?_
  try simp only [Act.put, List.setIfInBounds_toArray, List.set_cons_zero, List.set_cons_succ, List.getElem_toArray, List.getElem_cons_succ, List.getElem_cons_zero]
  refine wpAnyH_take (i := 5) (v := .pointer (some ⟨rb, 0, none⟩)) rfl (by kernel_rfl) (by kernel_rfl) (by kernel_rfl) (fun _ _ _ h => h) (Or.inl ⟨by rfl, fun w hSw => by go_simp⟩) trivial ?_
  try simp only [Act.put, List.setIfInBounds_toArray, List.set_cons_zero, List.set_cons_succ, List.getElem_toArray, List.getElem_cons_succ, List.getElem_cons_zero]
  refine wpAnyH_take (i := 6) (v := .pointer (some ⟨rb, 0, none⟩)) rfl (by kernel_rfl) (by kernel_rfl) (by kernel_rfl) (fun _ _ _ h => h) (Or.inl ⟨by rfl, fun w hSw => by go_simp⟩) trivial ?_
  try simp only [Act.put, List.setIfInBounds_toArray, List.set_cons_zero, List.set_cons_succ, List.getElem_toArray, List.getElem_cons_succ, List.getElem_cons_zero]
  refine wpAnyH_take (i := 7) (v := .pointer (some ⟨rb, 0, none⟩)) rfl (by kernel_rfl) (by kernel_rfl) (by kernel_rfl) (fun _ _ _ h => h) (Or.inl ⟨by rfl, fun w hSw => by go_simp⟩) trivial ?_
  try simp only [Act.put, List.setIfInBounds_toArray, List.set_cons_zero, List.set_cons_succ, List.getElem_toArray, List.getElem_cons_succ, List.getElem_cons_zero]
  refine wpAnyH_ready (rs := [4, 8]) (by kernel_rfl) (by simp) ?_
  refine AllReadyH.cons rfl (fun K hK => ?_) (AllReadyH.cons rfl (fun K hK => ?_) AllReadyH.nil)
  · skip
    have q5 := HG.out.reg.cells.2.2.2.1
    go_simp
    clear q5
    refine hK.out _ _ trivial (fun _ => ?_)
    clear hK K
    try simp only [Act.put, List.setIfInBounds_toArray, List.set_cons_zero, List.set_cons_succ, List.getElem_toArray, List.getElem_cons_succ, List.getElem_cons_zero]
    refine wpAnyH_ready (rs := [8]) (by kernel_rfl) (by simp) ?_
    refine AllReadyH.cons rfl (fun K hK => ?_) AllReadyH.nil
    go_simp
    go_at_call 46
    refine (HH.out _ HBd.out).mono ?_
    rintro e w5 ⟨rfl, hf5, hr5⟩
    refine hK.out _ _ trivial (fun _ => ?_)
    clear hK K
    try simp only [Act.put, List.setIfInBounds_toArray, List.set_cons_zero, List.set_cons_succ, List.getElem_toArray, List.getElem_cons_succ, List.getElem_cons_zero]
    have HR5 : Hid (RegIs w5 rb (.slice none 0 0) 0 iv (.slice ka ks.length kc) sl tk dp cs) := hr5
    have HK5 : Hid (w5.ownsRow B 30 2 (.slice ka ks.length kc) ks.length (ks.flatMap kbC)) := row_of HG.out.krow (fun q hq => hf5.block q (row_lt HG.out.krow q hq).2 (fun e => HG.out.far.2.1 (by rw [hq, e])))
    clear hr5
    refine wpAnyH_ready (rs := [9]) (by kernel_rfl) (by simp) ?_
    refine AllReadyH.cons rfl (fun K hK => ?_) AllReadyH.nil
    go_simp
    have HR6 : Hid (RegIs (w5.alloc (Obj.cells #[.slice la ls.length lc, .int .i64 sh] 30)) rb (.slice none 0 0) 0 iv (.slice ka ks.length kc) sl tk dp cs) := HR5.out.later (below_alloc _ _)
    have HK6 : Hid ((w5.alloc (Obj.cells #[.slice la ls.length lc, .int .i64 sh] 30)).ownsRow B 30 2 (.slice ka ks.length kc) ks.length (ks.flatMap kbC)) := row_of HK5.out (fun q hq => Below.heap_alloc _ _ _ (row_lt HK5.out q hq).2)
    refine hK.out _ _ trivial (fun _ => ?_)
    clear hK K
    try simp only [Act.put, List.setIfInBounds_toArray, List.set_cons_zero, List.set_cons_succ, List.getElem_toArray, List.getElem_cons_succ, List.getElem_cons_zero]
    refine wpAnyH_ready (rs := [10]) (by kernel_rfl) (by simp) ?_
    refine AllReadyH.cons rfl (fun K hK => ?_) AllReadyH.nil
    refine step_append_lies _ rfl _ _ 31 rfl B 30 j0 (.agg #[.slice none 0 0, .int .i64 0]) 2 32 Tryz.underlying31 hj hj0 hj1 hj2 rfl (by decide) _ _ _ rfl HK6.out ⟨w5.heap.size, 0, none⟩ 1 1 [.slice la ls.length lc, .int .i64 sh] rfl rfl (World.news_of_block (heapNew w5 _)) (by simp [Value.oneCell']) (by omega) (by unfold maxLen; omega) (by omega) (by have := HR6.out.lt; omega) _ rfl ?_
    intro g1 cp1 w7 hown1 hgrow1 hat1 hglt1
    have hf7 := fr_grown hgrow1
    have hb7 : RegIs w7 rb (.slice none 0 0) 0 iv (.slice ka ks.length kc) sl tk dp cs := (hf7.block rb HR6.out.lt (fun e => HG.out.far.2.1 e)).trans HR6.out
    have z1 := hb7.cells.2.2.2.1
    have zf := hb7.free 3
    have HFi : Hid (Fr (RgX rb (.slice la ls.length lc) (.slice ka ks.length kc)) w (w7.setCell ⟨rb, 3, none⟩ (.slice (some ⟨g1, 0, none⟩) (ks.length + 1) cp1)) ∧ Rg B rb iv (.slice none 0 0) [] 0 (.slice (some ⟨g1, 0, none⟩) (ks.length + 1) cp1) (ks ++ [Kb.mk (.slice la ls.length lc) ls sh]) sl tk dp cs (w7.setCell ⟨rb, 3, none⟩ (.slice (some ⟨g1, 0, none⟩) (ks.length + 1) cp1))) := by
      have hg1 : g1 ≠ rb := by
        rcases hat1 with q | q
        · exact fun e => HG.out.far.2.1 (by rw [← e]; exact q)
        · have := HR6.out.lt; omega
      have hfd : Fr (fun k => k = rb ∨ (Value.slice ka ks.length kc).ownBlock = some k) Wd (w7.setCell ⟨rb, 3, none⟩ (.slice (some ⟨g1, 0, none⟩) (ks.length + 1) cp1)) := (((hf5.alloc _).mono (fun k hk => .inl hk)).trans (hf7.mono (fun k hk => .inr hk))).set (b := rb) (.inl rfl) _ _
      refine ⟨(Fr.of HBd.out).trans (hfd.mono (fun k hk => ?_)), HG.out.susp hfd (hb7.set3 _) (row_of hown1 (fun q hq => Below.heap_setCell _ _ _ _ (by cases hq; exact hg1))) ?_⟩
      · rcases hk with hk | hk
        · exact .inl hk
        · exact .inr (.inr hk)
      · rcases hat1 with q | q
        · exact .inl q.symm
        · exact .inr ⟨g1, rfl, by have := hf5.size; simp at q; omega⟩
    have hr8 := hb7.set3 (.slice (some ⟨g1, 0, none⟩) (ks.length + 1) cp1)
    clear hown1 hgrow1 hat1 hglt1 hf7 hb7
    refine hK.out _ _ trivial (fun _ => ?_)
    clear hK K
    try simp only [Act.put, List.setIfInBounds_toArray, List.set_cons_zero, List.set_cons_succ, List.getElem_toArray, List.getElem_cons_succ, List.getElem_cons_zero]
    refine wpAnyH_take (i := 11) (v := .pointer (some ⟨rb, 0, none⟩)) rfl (by kernel_rfl) (by kernel_rfl) (by kernel_rfl) (fun _ _ _ h => h) (Or.inl ⟨by rfl, fun w hSw => by go_simp⟩) trivial ?_
    try simp only [Act.put, List.setIfInBounds_toArray, List.set_cons_zero, List.set_cons_succ, List.getElem_toArray, List.getElem_cons_succ, List.getElem_cons_zero]
    refine wpAnyH_take (i := 12) (v := .pointer (some ⟨rb, 3, none⟩)) rfl (by kernel_rfl) (by kernel_rfl) (by kernel_rfl) (fun _ _ _ h => h) (Or.inl ⟨by rfl, fun w hSw => by go_simp⟩) trivial ?_
    try simp only [Act.put, List.setIfInBounds_toArray, List.set_cons_zero, List.set_cons_succ, List.getElem_toArray, List.getElem_cons_succ, List.getElem_cons_zero]
    refine wpAnyH_ready (rs := [13]) (by kernel_rfl) (by simp) ?_
    refine AllReadyH.cons rfl (fun K hK => ?_) AllReadyH.nil
    go_simp
    refine hK.out _ _ trivial (fun _ => ?_)
    clear hK K
    try simp only [Act.put, List.setIfInBounds_toArray, List.set_cons_zero, List.set_cons_succ, List.getElem_toArray, List.getElem_cons_succ, List.getElem_cons_zero]
    refine wpAnyH_done (by kernel_rfl) ?_ _
    try simp
    clear z1 zf
    generalize (w7.setCell ⟨rb, 3, none⟩ (.slice (some ⟨g1, 0, none⟩) (ks.length + 1) cp1)) = W8 at *
    have f3 := hr8.cells.2.2.2.1
    clear hr8
    go_wp2
    go_ret
    exact ⟨ret_int (by push_cast; rfl), HFi.out.1, _, HFi.out.2⟩
  · skip
    go_simp
    go_at_call 46
    refine (HH.out _ HBd.out).mono ?_
    rintro e w5 ⟨rfl, hf5, hr5⟩
    refine hK.out _ _ trivial (fun _ => ?_)
    clear hK K
    try simp only [Act.put, List.setIfInBounds_toArray, List.set_cons_zero, List.set_cons_succ, List.getElem_toArray, List.getElem_cons_succ, List.getElem_cons_zero]
    have HR5 : Hid (RegIs w5 rb (.slice none 0 0) 0 iv (.slice ka ks.length kc) sl tk dp cs) := hr5
    have HK5 : Hid (w5.ownsRow B 30 2 (.slice ka ks.length kc) ks.length (ks.flatMap kbC)) := row_of HG.out.krow (fun q hq => hf5.block q (row_lt HG.out.krow q hq).2 (fun e => HG.out.far.2.1 (by rw [hq, e])))
    clear hr5
    refine wpAnyH_ready (rs := [4, 9]) (by kernel_rfl) (by simp) ?_
    refine AllReadyH.cons rfl (fun K hK => ?_) (AllReadyH.cons rfl (fun K hK => ?_) AllReadyH.nil)
    · skip
      have q5 := HR5.out.cells.2.2.2.1
      go_simp
      clear q5
      refine hK.out _ _ trivial (fun _ => ?_)
      clear hK K
      try simp only [Act.put, List.setIfInBounds_toArray, List.set_cons_zero, List.set_cons_succ, List.getElem_toArray, List.getElem_cons_succ, List.getElem_cons_zero]
      refine wpAnyH_ready (rs := [9]) (by kernel_rfl) (by simp) ?_
      refine AllReadyH.cons rfl (fun K hK => ?_) AllReadyH.nil
      go_simp
      have HR6 : Hid (RegIs (w5.alloc (Obj.cells #[.slice la ls.length lc, .int .i64 sh] 30)) rb (.slice none 0 0) 0 iv (.slice ka ks.length kc) sl tk dp cs) := HR5.out.later (below_alloc _ _)
      have HK6 : Hid ((w5.alloc (Obj.cells #[.slice la ls.length lc, .int .i64 sh] 30)).ownsRow B 30 2 (.slice ka ks.length kc) ks.length (ks.flatMap kbC)) := row_of HK5.out (fun q hq => Below.heap_alloc _ _ _ (row_lt HK5.out q hq).2)
      refine hK.out _ _ trivial (fun _ => ?_)
      clear hK K
      try simp only [Act.put, List.setIfInBounds_toArray, List.set_cons_zero, List.set_cons_succ, List.getElem_toArray, List.getElem_cons_succ, List.getElem_cons_zero]
      refine wpAnyH_ready (rs := [10]) (by kernel_rfl) (by simp) ?_
      refine AllReadyH.cons rfl (fun K hK => ?_) AllReadyH.nil
      refine step_append_lies _ rfl _ _ 31 rfl B 30 j0 (.agg #[.slice none 0 0, .int .i64 0]) 2 32 Tryz.underlying31 hj hj0 hj1 hj2 rfl (by decide) _ _ _ rfl HK6.out ⟨w5.heap.size, 0, none⟩ 1 1 [.slice la ls.length lc, .int .i64 sh] rfl rfl (World.news_of_block (heapNew w5 _)) (by simp [Value.oneCell']) (by omega) (by unfold maxLen; omega) (by omega) (by have := HR6.out.lt; omega) _ rfl ?_
      intro g1 cp1 w7 hown1 hgrow1 hat1 hglt1
      have hf7 := fr_grown hgrow1
      have hb7 : RegIs w7 rb (.slice none 0 0) 0 iv (.slice ka ks.length kc) sl tk dp cs := (hf7.block rb HR6.out.lt (fun e => HG.out.far.2.1 e)).trans HR6.out
      have z1 := hb7.cells.2.2.2.1
      have zf := hb7.free 3
      have HFi : Hid (Fr (RgX rb (.slice la ls.length lc) (.slice ka ks.length kc)) w (w7.setCell ⟨rb, 3, none⟩ (.slice (some ⟨g1, 0, none⟩) (ks.length + 1) cp1)) ∧ Rg B rb iv (.slice none 0 0) [] 0 (.slice (some ⟨g1, 0, none⟩) (ks.length + 1) cp1) (ks ++ [Kb.mk (.slice la ls.length lc) ls sh]) sl tk dp cs (w7.setCell ⟨rb, 3, none⟩ (.slice (some ⟨g1, 0, none⟩) (ks.length + 1) cp1))) := by
        have hg1 : g1 ≠ rb := by
          rcases hat1 with q | q
          · exact fun e => HG.out.far.2.1 (by rw [← e]; exact q)
          · have := HR6.out.lt; omega
        have hfd : Fr (fun k => k = rb ∨ (Value.slice ka ks.length kc).ownBlock = some k) Wd (w7.setCell ⟨rb, 3, none⟩ (.slice (some ⟨g1, 0, none⟩) (ks.length + 1) cp1)) := (((hf5.alloc _).mono (fun k hk => .inl hk)).trans (hf7.mono (fun k hk => .inr hk))).set (b := rb) (.inl rfl) _ _
        refine ⟨(Fr.of HBd.out).trans (hfd.mono (fun k hk => ?_)), HG.out.susp hfd (hb7.set3 _) (row_of hown1 (fun q hq => Below.heap_setCell _ _ _ _ (by cases hq; exact hg1))) ?_⟩
        · rcases hk with hk | hk
          · exact .inl hk
          · exact .inr (.inr hk)
        · rcases hat1 with q | q
          · exact .inl q.symm
          · exact .inr ⟨g1, rfl, by have := hf5.size; simp at q; omega⟩
      have hr8 := hb7.set3 (.slice (some ⟨g1, 0, none⟩) (ks.length + 1) cp1)
      clear hown1 hgrow1 hat1 hglt1 hf7 hb7
      refine hK.out _ _ trivial (fun _ => ?_)
      clear hK K
      try simp only [Act.put, List.setIfInBounds_toArray, List.set_cons_zero, List.set_cons_succ, List.getElem_toArray, List.getElem_cons_succ, List.getElem_cons_zero]
      refine wpAnyH_take (i := 11) (v := .pointer (some ⟨rb, 0, none⟩)) rfl (by kernel_rfl) (by kernel_rfl) (by kernel_rfl) (fun _ _ _ h => h) (Or.inl ⟨by rfl, fun w hSw => by go_simp⟩) trivial ?_
      try simp only [Act.put, List.setIfInBounds_toArray, List.set_cons_zero, List.set_cons_succ, List.getElem_toArray, List.getElem_cons_succ, List.getElem_cons_zero]
      refine wpAnyH_take (i := 12) (v := .pointer (some ⟨rb, 3, none⟩)) rfl (by kernel_rfl) (by kernel_rfl) (by kernel_rfl) (fun _ _ _ h => h) (Or.inl ⟨by rfl, fun w hSw => by go_simp⟩) trivial ?_
      try simp only [Act.put, List.setIfInBounds_toArray, List.set_cons_zero, List.set_cons_succ, List.getElem_toArray, List.getElem_cons_succ, List.getElem_cons_zero]
      refine wpAnyH_ready (rs := [13]) (by kernel_rfl) (by simp) ?_
      refine AllReadyH.cons rfl (fun K hK => ?_) AllReadyH.nil
      go_simp
      refine hK.out _ _ trivial (fun _ => ?_)
      clear hK K
      try simp only [Act.put, List.setIfInBounds_toArray, List.set_cons_zero, List.set_cons_succ, List.getElem_toArray, List.getElem_cons_succ, List.getElem_cons_zero]
      refine wpAnyH_done (by kernel_rfl) ?_ _
      try simp
      clear z1 zf
      generalize (w7.setCell ⟨rb, 3, none⟩ (.slice (some ⟨g1, 0, none⟩) (ks.length + 1) cp1)) = W8 at *
      have f3 := hr8.cells.2.2.2.1
      clear hr8
      go_wp2
      go_ret
      exact ⟨ret_int (by push_cast; rfl), HFi.out.1, _, HFi.out.2⟩
    · skip
      go_simp
      have HR6 : Hid (RegIs (w5.alloc (Obj.cells #[.slice la ls.length lc, .int .i64 sh] 30)) rb (.slice none 0 0) 0 iv (.slice ka ks.length kc) sl tk dp cs) := HR5.out.later (below_alloc _ _)
      have HK6 : Hid ((w5.alloc (Obj.cells #[.slice la ls.length lc, .int .i64 sh] 30)).ownsRow B 30 2 (.slice ka ks.length kc) ks.length (ks.flatMap kbC)) := row_of HK5.out (fun q hq => Below.heap_alloc _ _ _ (row_lt HK5.out q hq).2)
      refine hK.out _ _ trivial (fun _ => ?_)
      clear hK K
      try simp only [Act.put, List.setIfInBounds_toArray, List.set_cons_zero, List.set_cons_succ, List.getElem_toArray, List.getElem_cons_succ, List.getElem_cons_zero]
      refine wpAnyH_ready (rs := [4]) (by kernel_rfl) (by simp) ?_
      refine AllReadyH.cons rfl (fun K hK => ?_) AllReadyH.nil
      have q5 := HR6.out.cells.2.2.2.1
      go_simp
      clear q5
      refine hK.out _ _ trivial (fun _ => ?_)
      clear hK K
      try simp only [Act.put, List.setIfInBounds_toArray, List.set_cons_zero, List.set_cons_succ, List.getElem_toArray, List.getElem_cons_succ, List.getElem_cons_zero]
      refine wpAnyH_ready (rs := [10]) (by kernel_rfl) (by simp) ?_
      refine AllReadyH.cons rfl (fun K hK => ?_) AllReadyH.nil
      refine step_append_lies _ rfl _ _ 31 rfl B 30 j0 (.agg #[.slice none 0 0, .int .i64 0]) 2 32 Tryz.underlying31 hj hj0 hj1 hj2 rfl (by decide) _ _ _ rfl HK6.out ⟨w5.heap.size, 0, none⟩ 1 1 [.slice la ls.length lc, .int .i64 sh] rfl rfl (World.news_of_block (heapNew w5 _)) (by simp [Value.oneCell']) (by omega) (by unfold maxLen; omega) (by omega) (by have := HR6.out.lt; omega) _ rfl ?_
      intro g1 cp1 w7 hown1 hgrow1 hat1 hglt1
      have hf7 := fr_grown hgrow1
      have hb7 : RegIs w7 rb (.slice none 0 0) 0 iv (.slice ka ks.length kc) sl tk dp cs := (hf7.block rb HR6.out.lt (fun e => HG.out.far.2.1 e)).trans HR6.out
      have z1 := hb7.cells.2.2.2.1
      have zf := hb7.free 3
      have HFi : Hid (Fr (RgX rb (.slice la ls.length lc) (.slice ka ks.length kc)) w (w7.setCell ⟨rb, 3, none⟩ (.slice (some ⟨g1, 0, none⟩) (ks.length + 1) cp1)) ∧ Rg B rb iv (.slice none 0 0) [] 0 (.slice (some ⟨g1, 0, none⟩) (ks.length + 1) cp1) (ks ++ [Kb.mk (.slice la ls.length lc) ls sh]) sl tk dp cs (w7.setCell ⟨rb, 3, none⟩ (.slice (some ⟨g1, 0, none⟩) (ks.length + 1) cp1))) := by
        have hg1 : g1 ≠ rb := by
          rcases hat1 with q | q
          · exact fun e => HG.out.far.2.1 (by rw [← e]; exact q)
          · have := HR6.out.lt; omega
        have hfd : Fr (fun k => k = rb ∨ (Value.slice ka ks.length kc).ownBlock = some k) Wd (w7.setCell ⟨rb, 3, none⟩ (.slice (some ⟨g1, 0, none⟩) (ks.length + 1) cp1)) := (((hf5.alloc _).mono (fun k hk => .inl hk)).trans (hf7.mono (fun k hk => .inr hk))).set (b := rb) (.inl rfl) _ _
        refine ⟨(Fr.of HBd.out).trans (hfd.mono (fun k hk => ?_)), HG.out.susp hfd (hb7.set3 _) (row_of hown1 (fun q hq => Below.heap_setCell _ _ _ _ (by cases hq; exact hg1))) ?_⟩
        · rcases hk with hk | hk
          · exact .inl hk
          · exact .inr (.inr hk)
        · rcases hat1 with q | q
          · exact .inl q.symm
          · exact .inr ⟨g1, rfl, by have := hf5.size; simp at q; omega⟩
      have hr8 := hb7.set3 (.slice (some ⟨g1, 0, none⟩) (ks.length + 1) cp1)
      clear hown1 hgrow1 hat1 hglt1 hf7 hb7
      refine hK.out _ _ trivial (fun _ => ?_)
      clear hK K
      try simp only [Act.put, List.setIfInBounds_toArray, List.set_cons_zero, List.set_cons_succ, List.getElem_toArray, List.getElem_cons_succ, List.getElem_cons_zero]
      refine wpAnyH_take (i := 11) (v := .pointer (some ⟨rb, 0, none⟩)) rfl (by kernel_rfl) (by kernel_rfl) (by kernel_rfl) (fun _ _ _ h => h) (Or.inl ⟨by rfl, fun w hSw => by go_simp⟩) trivial ?_
      try simp only [Act.put, List.setIfInBounds_toArray, List.set_cons_zero, List.set_cons_succ, List.getElem_toArray, List.getElem_cons_succ, List.getElem_cons_zero]
      refine wpAnyH_take (i := 12) (v := .pointer (some ⟨rb, 3, none⟩)) rfl (by kernel_rfl) (by kernel_rfl) (by kernel_rfl) (fun _ _ _ h => h) (Or.inl ⟨by rfl, fun w hSw => by go_simp⟩) trivial ?_
      try simp only [Act.put, List.setIfInBounds_toArray, List.set_cons_zero, List.set_cons_succ, List.getElem_toArray, List.getElem_cons_succ, List.getElem_cons_zero]
      refine wpAnyH_ready (rs := [13]) (by kernel_rfl) (by simp) ?_
      refine AllReadyH.cons rfl (fun K hK => ?_) AllReadyH.nil
      go_simp
      refine hK.out _ _ trivial (fun _ => ?_)
      clear hK K
      try simp only [Act.put, List.setIfInBounds_toArray, List.set_cons_zero, List.set_cons_succ, List.getElem_toArray, List.getElem_cons_succ, List.getElem_cons_zero]
      refine wpAnyH_done (by kernel_rfl) ?_ _
      try simp
      clear z1 zf
      generalize (w7.setCell ⟨rb, 3, none⟩ (.slice (some ⟨g1, 0, none⟩) (ks.length + 1) cp1)) = W8 at *
      have f3 := hr8.cells.2.2.2.1
      clear hr8
      go_wp2
      go_ret
      exact ⟨ret_int (by push_cast; rfl), HFi.out.1, _, HFi.out.2⟩
end Go.Proofs.YtabpkfhbnendjaaGreat

/-
  Texts of this claim laid together: SpB.
-/
import Derived.Test.YtabpkfhbnendjaaGreatM37
/-
  The specification's scan, where it has a code that hangs on the items alone.
-/
namespace Go.Proofs.YtabpkfhbnendjaaGreat
open Go.ChangeShapes Go.WideShapes Go.ChangeAt Go.RowKit Go.Deep
set_option linter.unusedVariables false

set_option maxHeartbeats 8000000 in
set_option maxRecDepth 8000 in
theorem scanS_code (R : ByteArray → Int × ByteArray × Int × Int) (hR : RsS R) (hv : ∀ s, 0 ≤ (R s).2.2.1 ∧ (R s).2.2.1 ≤ 99999) (ia : Option Addr) (ic : Nat) (its : List RIt) (hok : ∀ r ∈ its, ItN r) (hil : its.length ≤ 40) (B rb : Nat) (la : Option Addr) (lc : Nat) (ls : List RLi) (hN : ∀ l ∈ ls, LiN l) (hl50 : ls.length ≤ 50) (sh : Int) (kv : Value) (ks : List Kb) (sl tk dp : Int) (cv : Value) (cs : List Int) (tx : ByteArray) (ct : Int) (w : World) (hg : Sg B rb (.slice ia its.length ic) (.slice la ls.length lc) ls sh kv ks sl tk dp cv cs w) (hI : ReadsIt B w ia its) (hB : B ≤ w.heap.size) (hE : scanE R its tx ct ≠ 0) :
    Calls Tryz.prog 32 #[.pointer (some ⟨rb, 0, none⟩), .agg #[.int .i64 1, .string tx, .int .i64 ct]] w fun e w' => e = .returned (.tuple #[.int .i64 0, .int .i64 (scanE R its tx ct)]) ∧ Below w.heap.size w w' := by
  have HI : Hid (∀ W, Below w.heap.size w W → ReadsIt W.heap.size W ia its) := fun W hW => (hI.below (hW.mono hB)).mono (Nat.le_trans hB hW.size)
  have hS := hR tx
  have HX : Hid (∀ W, Below w.heap.size w W → Calls Tryz.prog 23 #[(.slice ia its.length ic), .string (R tx).2.1] W fun e w' => e = .returned (.int .i64 (itIx (R tx).2.1 its)) ∧ w' = W) := fun W hW => find8_any ia ic its (by omega) _ W (HI.out W hW)
  have HG0 : Hid (Sg B rb (.slice ia its.length ic) (.slice la ls.length lc) ls sh kv ks sl tk dp cv cs w) := hg
  have hin := fun w => in_any ct 1 99 w
  have hwy := scan_ways R its tx ct
  unfold scanV at hS
  clear hg hI hok hR hv
  generalize scanE R its tx ct = ce at *
  generalize scanL R its tx ct = ln at *
  generalize scanG R its tx ct = ag at *
  generalize (R tx).1 = k at *
  generalize (R tx).2.1 = a at *
  generalize (R tx).2.2.1 = v at *
  generalize (R tx).2.2.2 = c at *
  generalize hix : itIx a its = ix at *
  rcases hwy with ⟨h1, rfl, _⟩ | ⟨h1, h2, rfl, _⟩ | ⟨h1, h2, h3, rfl, _⟩ | ⟨_, _, _, h3, _⟩
  · have h1' : (ce != 0) = true := by simpa using h1
    go_enter Tryz.func32, Tryz.ntmps32
    go_wp2_with fail
    (first | go_at_call 51 | skip)
    refine (hS _).mono ?_
    rintro e w1 ⟨rfl, hb1⟩
    go_wp2
    go_ret2
    exact ⟨rfl, chain (below_alloc _ _) (chain hb1 (below_alloc _ _))⟩
  · subst h1
    go_enter Tryz.func32, Tryz.ntmps32
    go_wp2_with fail
    (first | go_at_call 51 | skip)
    refine (hS _).mono ?_
    rintro e w1 ⟨rfl, hb1⟩
    have HZ : Hid (∀ W, Below (w1.alloc (Obj.cells #[.int .i64 k, .string a, .int .i64 v] 108)).heap.size (w1.alloc (Obj.cells #[.int .i64 k, .string a, .int .i64 v] 108)) W → W.heap[w.heap.size]? = some (.cells #[.int .i64 1, .string tx, .int .i64 ct] 42 (0, 0)) ∧ W.heap[w1.heap.size]? = some (.cells #[.int .i64 k, .string a, .int .i64 v] 108 (0, 0)) ∧ Below w.heap.size w W ∧ Sg B rb (.slice ia its.length ic) (.slice la ls.length lc) ls sh kv ks sl tk dp cv cs W) := fun W hW => by
      have hbw : Below w.heap.size w W := chain (below_alloc _ _) (chain hb1 (chain (below_alloc _ _) hW))
      exact ⟨(hW.block _ (by have := hb1.size; simp at *; omega)).trans ((Below.heap_alloc _ _ _ (by have := hb1.size; simp at *; omega)).trans ((hb1.block _ (by simp)).trans (heapNew _ _))), (hW.block _ (by simp)).trans (heapNew _ _), hbw, HG0.out.later hbw⟩
    clear hb1
    go_wp2_with fail
    generalize (w1.alloc (Obj.cells #[.int .i64 k, .string a, .int .i64 v] 108)) = W1 at *
    generalize w1.heap.size = bs at *
    refine wp_region_held_drew (S := fun W => Below W1.heap.size W1 W) (by kernel_rfl) (below_drew _) (fun hH => ?_)
    refine wpAnyH_take (i := 0) (v := .pointer (some ⟨rb, 0, none⟩)) rfl (by kernel_rfl) (by kernel_rfl) (by kernel_rfl) (fun _ _ _ h => h) (Or.inl ⟨by rfl, fun w hSw => by go_simp⟩) hH ?_
    refine wpAnyH_take (i := 1) (v := .pointer (some ⟨rb, 0, none⟩)) rfl (by kernel_rfl) (by kernel_rfl) (by kernel_rfl) (fun _ _ _ h => h) (Or.inl ⟨by rfl, fun w hSw => by go_simp⟩) hH ?_
    try simp only [Act.put, List.setIfInBounds_toArray, List.set_cons_zero, List.set_cons_succ, List.getElem_toArray, List.getElem_cons_succ, List.getElem_cons_zero]
    refine wpAnyH_take (i := 2) (v := .pointer (some ⟨rb, 0, none⟩)) rfl (by kernel_rfl) (by kernel_rfl) (by kernel_rfl) (fun _ _ _ h => h) (Or.inl ⟨by rfl, fun w hSw => by go_simp⟩) hH ?_
    try simp only [Act.put, List.setIfInBounds_toArray, List.set_cons_zero, List.set_cons_succ, List.getElem_toArray, List.getElem_cons_succ, List.getElem_cons_zero]
    refine wpAnyH_take (i := 3) (v := (.slice ia its.length ic)) rfl (by kernel_rfl) (by kernel_rfl) (by kernel_rfl) (fun _ _ _ h => h) (Or.inl ⟨by rfl, fun w hSw => by have f0 := (HZ.out w hSw).2.2.2.reg.cells.1; go_simp⟩) hH ?_
    try simp only [Act.put, List.setIfInBounds_toArray, List.set_cons_zero, List.set_cons_succ, List.getElem_toArray, List.getElem_cons_succ, List.getElem_cons_zero]
    refine wpAnyH_take (i := 4) (v := .pointer (some ⟨bs, 1, none⟩)) rfl (by kernel_rfl) (by kernel_rfl) (by kernel_rfl) (fun _ _ _ h => h) (Or.inl ⟨by rfl, fun w hSw => by go_simp⟩) hH ?_
    try simp only [Act.put, List.setIfInBounds_toArray, List.set_cons_zero, List.set_cons_succ, List.getElem_toArray, List.getElem_cons_succ, List.getElem_cons_zero]
    refine wpAnyH_take (i := 5) (v := .string a) rfl (by kernel_rfl) (by kernel_rfl) (by kernel_rfl) (fun _ _ _ h => h) (Or.inl ⟨by rfl, fun w hSw => by have f0 := blkCell (HZ.out w hSw).2.1 1 _ rfl; go_simp⟩) hH ?_
    try simp only [Act.put, List.setIfInBounds_toArray, List.set_cons_zero, List.set_cons_succ, List.getElem_toArray, List.getElem_cons_succ, List.getElem_cons_zero]
    refine wpAnyH_ready (rs := [6]) (by kernel_rfl) (by simp) ?_
    refine AllReadyH.cons rfl (fun K hK => ?_) AllReadyH.nil
    go_simp
    go_at_call 23
    refine (HX.out _ (HZ.out _ hH).2.2.1).mono ?_
    rintro e w2 ⟨rfl, h2e⟩
    rw [h2e]
    clear h2e w2
    refine hK.out _ _ hH (fun _ => ?_)
    clear hK K
    try simp only [Act.put, List.setIfInBounds_toArray, List.set_cons_zero, List.set_cons_succ, List.getElem_toArray, List.getElem_cons_succ, List.getElem_cons_zero]
    refine wpAnyH_take (i := 7) (v := .int .i64 ix) rfl (by kernel_rfl) (by kernel_rfl) (by kernel_rfl) (fun _ _ _ h => h) (Or.inl ⟨by rfl, fun w hSw => by go_simp⟩) hH ?_
    try simp only [Act.put, List.setIfInBounds_toArray, List.set_cons_zero, List.set_cons_succ, List.getElem_toArray, List.getElem_cons_succ, List.getElem_cons_zero]
    refine wpAnyH_done (by kernel_rfl) ?_ _
    try simp
    have HW2 : Hid (Below W1.heap.size W1 W1.drew) := hH
    clear hH
    generalize W1.drew = W2 at *
    have a0 := blkCell (HZ.out W2 HW2.out).1 0 _ rfl
    have a2 := blkCell (HZ.out W2 HW2.out).1 2 _ rfl
    have s0 := blkCell (HZ.out W2 HW2.out).2.1 0 _ rfl
    have s2 := blkCell (HZ.out W2 HW2.out).2.1 2 _ rfl
    go_wp2
    go_ret2
    exact ⟨rfl, (HZ.out W2 HW2.out).2.2.1⟩
  · subst h1
    have hx0 : ¬ ix < 0 := by omega
    by_cases h99 : 1 ≤ ct ∧ ct ≤ 99
    · have e99 : inB ct 1 99 = true := decide_eq_true h99
      rw [e99] at hin
      have hk1 : (k != 1) = true := by simp; omega
      have hc1 : (ct != 1) = true := by simp; omega
      go_enter Tryz.func32, Tryz.ntmps32
      go_wp2_with fail
      (first | go_at_call 51 | skip)
      refine (hS _).mono ?_
      rintro e w1 ⟨rfl, hb1⟩
      have HZ : Hid (∀ W, Below (w1.alloc (Obj.cells #[.int .i64 k, .string a, .int .i64 v] 108)).heap.size (w1.alloc (Obj.cells #[.int .i64 k, .string a, .int .i64 v] 108)) W → W.heap[w.heap.size]? = some (.cells #[.int .i64 1, .string tx, .int .i64 ct] 42 (0, 0)) ∧ W.heap[w1.heap.size]? = some (.cells #[.int .i64 k, .string a, .int .i64 v] 108 (0, 0)) ∧ Below w.heap.size w W ∧ Sg B rb (.slice ia its.length ic) (.slice la ls.length lc) ls sh kv ks sl tk dp cv cs W) := fun W hW => by
        have hbw : Below w.heap.size w W := chain (below_alloc _ _) (chain hb1 (chain (below_alloc _ _) hW))
        exact ⟨(hW.block _ (by have := hb1.size; simp at *; omega)).trans ((Below.heap_alloc _ _ _ (by have := hb1.size; simp at *; omega)).trans ((hb1.block _ (by simp)).trans (heapNew _ _))), (hW.block _ (by simp)).trans (heapNew _ _), hbw, HG0.out.later hbw⟩
      clear hb1
      go_wp2_with fail
      generalize (w1.alloc (Obj.cells #[.int .i64 k, .string a, .int .i64 v] 108)) = W1 at *
      generalize w1.heap.size = bs at *
      refine wp_region_held_drew (S := fun W => Below W1.heap.size W1 W) (by kernel_rfl) (below_drew _) (fun hH => ?_)
      refine wpAnyH_take (i := 0) (v := .pointer (some ⟨rb, 0, none⟩)) rfl (by kernel_rfl) (by kernel_rfl) (by kernel_rfl) (fun _ _ _ h => h) (Or.inl ⟨by rfl, fun w hSw => by go_simp⟩) hH ?_
      refine wpAnyH_take (i := 1) (v := .pointer (some ⟨rb, 0, none⟩)) rfl (by kernel_rfl) (by kernel_rfl) (by kernel_rfl) (fun _ _ _ h => h) (Or.inl ⟨by rfl, fun w hSw => by go_simp⟩) hH ?_
      try simp only [Act.put, List.setIfInBounds_toArray, List.set_cons_zero, List.set_cons_succ, List.getElem_toArray, List.getElem_cons_succ, List.getElem_cons_zero]
      refine wpAnyH_take (i := 2) (v := .pointer (some ⟨rb, 0, none⟩)) rfl (by kernel_rfl) (by kernel_rfl) (by kernel_rfl) (fun _ _ _ h => h) (Or.inl ⟨by rfl, fun w hSw => by go_simp⟩) hH ?_
      try simp only [Act.put, List.setIfInBounds_toArray, List.set_cons_zero, List.set_cons_succ, List.getElem_toArray, List.getElem_cons_succ, List.getElem_cons_zero]
      refine wpAnyH_take (i := 3) (v := (.slice ia its.length ic)) rfl (by kernel_rfl) (by kernel_rfl) (by kernel_rfl) (fun _ _ _ h => h) (Or.inl ⟨by rfl, fun w hSw => by have f0 := (HZ.out w hSw).2.2.2.reg.cells.1; go_simp⟩) hH ?_
      try simp only [Act.put, List.setIfInBounds_toArray, List.set_cons_zero, List.set_cons_succ, List.getElem_toArray, List.getElem_cons_succ, List.getElem_cons_zero]
      refine wpAnyH_take (i := 4) (v := .pointer (some ⟨bs, 1, none⟩)) rfl (by kernel_rfl) (by kernel_rfl) (by kernel_rfl) (fun _ _ _ h => h) (Or.inl ⟨by rfl, fun w hSw => by go_simp⟩) hH ?_
      try simp only [Act.put, List.setIfInBounds_toArray, List.set_cons_zero, List.set_cons_succ, List.getElem_toArray, List.getElem_cons_succ, List.getElem_cons_zero]
      refine wpAnyH_take (i := 5) (v := .string a) rfl (by kernel_rfl) (by kernel_rfl) (by kernel_rfl) (fun _ _ _ h => h) (Or.inl ⟨by rfl, fun w hSw => by have f0 := blkCell (HZ.out w hSw).2.1 1 _ rfl; go_simp⟩) hH ?_
      try simp only [Act.put, List.setIfInBounds_toArray, List.set_cons_zero, List.set_cons_succ, List.getElem_toArray, List.getElem_cons_succ, List.getElem_cons_zero]
      refine wpAnyH_ready (rs := [6]) (by kernel_rfl) (by simp) ?_
      refine AllReadyH.cons rfl (fun K hK => ?_) AllReadyH.nil
      go_simp
      go_at_call 23
      refine (HX.out _ (HZ.out _ hH).2.2.1).mono ?_
      rintro e w2 ⟨rfl, h2e⟩
      rw [h2e]
      clear h2e w2
      refine hK.out _ _ hH (fun _ => ?_)
      clear hK K
      try simp only [Act.put, List.setIfInBounds_toArray, List.set_cons_zero, List.set_cons_succ, List.getElem_toArray, List.getElem_cons_succ, List.getElem_cons_zero]
      refine wpAnyH_take (i := 7) (v := .int .i64 ix) rfl (by kernel_rfl) (by kernel_rfl) (by kernel_rfl) (fun _ _ _ h => h) (Or.inl ⟨by rfl, fun w hSw => by go_simp⟩) hH ?_
      try simp only [Act.put, List.setIfInBounds_toArray, List.set_cons_zero, List.set_cons_succ, List.getElem_toArray, List.getElem_cons_succ, List.getElem_cons_zero]
      refine wpAnyH_done (by kernel_rfl) ?_ _
      try simp
      have HW2 : Hid (Below W1.heap.size W1 W1.drew) := hH
      clear hH
      generalize W1.drew = W2 at *
      have a0 := blkCell (HZ.out W2 HW2.out).1 0 _ rfl
      have a2 := blkCell (HZ.out W2 HW2.out).1 2 _ rfl
      have s0 := blkCell (HZ.out W2 HW2.out).2.1 0 _ rfl
      have s2 := blkCell (HZ.out W2 HW2.out).2.1 2 _ rfl
      go_wp2_with (go_at_call 33; refine (hin _).mono ?_; rintro e w3 ⟨rfl, h3e⟩; rw [h3e]; clear h3e w3)
      go_ret2
      exact ⟨rfl, (HZ.out W2 HW2.out).2.2.1⟩
    · have e99 : inB ct 1 99 = false := decide_eq_false h99
      rw [e99] at hin
      go_enter Tryz.func32, Tryz.ntmps32
      go_wp2_with fail
      (first | go_at_call 51 | skip)
      refine (hS _).mono ?_
      rintro e w1 ⟨rfl, hb1⟩
      have HZ : Hid (∀ W, Below (w1.alloc (Obj.cells #[.int .i64 k, .string a, .int .i64 v] 108)).heap.size (w1.alloc (Obj.cells #[.int .i64 k, .string a, .int .i64 v] 108)) W → W.heap[w.heap.size]? = some (.cells #[.int .i64 1, .string tx, .int .i64 ct] 42 (0, 0)) ∧ W.heap[w1.heap.size]? = some (.cells #[.int .i64 k, .string a, .int .i64 v] 108 (0, 0)) ∧ Below w.heap.size w W ∧ Sg B rb (.slice ia its.length ic) (.slice la ls.length lc) ls sh kv ks sl tk dp cv cs W) := fun W hW => by
        have hbw : Below w.heap.size w W := chain (below_alloc _ _) (chain hb1 (chain (below_alloc _ _) hW))
        exact ⟨(hW.block _ (by have := hb1.size; simp at *; omega)).trans ((Below.heap_alloc _ _ _ (by have := hb1.size; simp at *; omega)).trans ((hb1.block _ (by simp)).trans (heapNew _ _))), (hW.block _ (by simp)).trans (heapNew _ _), hbw, HG0.out.later hbw⟩
      clear hb1
      go_wp2_with fail
      generalize (w1.alloc (Obj.cells #[.int .i64 k, .string a, .int .i64 v] 108)) = W1 at *
      generalize w1.heap.size = bs at *
      refine wp_region_held_drew (S := fun W => Below W1.heap.size W1 W) (by kernel_rfl) (below_drew _) (fun hH => ?_)
      refine wpAnyH_take (i := 0) (v := .pointer (some ⟨rb, 0, none⟩)) rfl (by kernel_rfl) (by kernel_rfl) (by kernel_rfl) (fun _ _ _ h => h) (Or.inl ⟨by rfl, fun w hSw => by go_simp⟩) hH ?_
      refine wpAnyH_take (i := 1) (v := .pointer (some ⟨rb, 0, none⟩)) rfl (by kernel_rfl) (by kernel_rfl) (by kernel_rfl) (fun _ _ _ h => h) (Or.inl ⟨by rfl, fun w hSw => by go_simp⟩) hH ?_
      try simp only [Act.put, List.setIfInBounds_toArray, List.set_cons_zero, List.set_cons_succ, List.getElem_toArray, List.getElem_cons_succ, List.getElem_cons_zero]
      refine wpAnyH_take (i := 2) (v := .pointer (some ⟨rb, 0, none⟩)) rfl (by kernel_rfl) (by kernel_rfl) (by kernel_rfl) (fun _ _ _ h => h) (Or.inl ⟨by rfl, fun w hSw => by go_simp⟩) hH ?_
      try simp only [Act.put, List.setIfInBounds_toArray, List.set_cons_zero, List.set_cons_succ, List.getElem_toArray, List.getElem_cons_succ, List.getElem_cons_zero]
      refine wpAnyH_take (i := 3) (v := (.slice ia its.length ic)) rfl (by kernel_rfl) (by kernel_rfl) (by kernel_rfl) (fun _ _ _ h => h) (Or.inl ⟨by rfl, fun w hSw => by have f0 := (HZ.out w hSw).2.2.2.reg.cells.1; go_simp⟩) hH ?_
      try simp only [Act.put, List.setIfInBounds_toArray, List.set_cons_zero, List.set_cons_succ, List.getElem_toArray, List.getElem_cons_succ, List.getElem_cons_zero]
      refine wpAnyH_take (i := 4) (v := .pointer (some ⟨bs, 1, none⟩)) rfl (by kernel_rfl) (by kernel_rfl) (by kernel_rfl) (fun _ _ _ h => h) (Or.inl ⟨by rfl, fun w hSw => by go_simp⟩) hH ?_
      try simp only [Act.put, List.setIfInBounds_toArray, List.set_cons_zero, List.set_cons_succ, List.getElem_toArray, List.getElem_cons_succ, List.getElem_cons_zero]
      refine wpAnyH_take (i := 5) (v := .string a) rfl (by kernel_rfl) (by kernel_rfl) (by kernel_rfl) (fun _ _ _ h => h) (Or.inl ⟨by rfl, fun w hSw => by have f0 := blkCell (HZ.out w hSw).2.1 1 _ rfl; go_simp⟩) hH ?_
      try simp only [Act.put, List.setIfInBounds_toArray, List.set_cons_zero, List.set_cons_succ, List.getElem_toArray, List.getElem_cons_succ, List.getElem_cons_zero]
      refine wpAnyH_ready (rs := [6]) (by kernel_rfl) (by simp) ?_
      refine AllReadyH.cons rfl (fun K hK => ?_) AllReadyH.nil
      go_simp
      go_at_call 23
      refine (HX.out _ (HZ.out _ hH).2.2.1).mono ?_
      rintro e w2 ⟨rfl, h2e⟩
      rw [h2e]
      clear h2e w2
      refine hK.out _ _ hH (fun _ => ?_)
      clear hK K
      try simp only [Act.put, List.setIfInBounds_toArray, List.set_cons_zero, List.set_cons_succ, List.getElem_toArray, List.getElem_cons_succ, List.getElem_cons_zero]
      refine wpAnyH_take (i := 7) (v := .int .i64 ix) rfl (by kernel_rfl) (by kernel_rfl) (by kernel_rfl) (fun _ _ _ h => h) (Or.inl ⟨by rfl, fun w hSw => by go_simp⟩) hH ?_
      try simp only [Act.put, List.setIfInBounds_toArray, List.set_cons_zero, List.set_cons_succ, List.getElem_toArray, List.getElem_cons_succ, List.getElem_cons_zero]
      refine wpAnyH_done (by kernel_rfl) ?_ _
      try simp
      have HW2 : Hid (Below W1.heap.size W1 W1.drew) := hH
      clear hH
      generalize W1.drew = W2 at *
      have a0 := blkCell (HZ.out W2 HW2.out).1 0 _ rfl
      have a2 := blkCell (HZ.out W2 HW2.out).1 2 _ rfl
      have s0 := blkCell (HZ.out W2 HW2.out).2.1 0 _ rfl
      have s2 := blkCell (HZ.out W2 HW2.out).2.1 2 _ rfl
      go_wp2_with (go_at_call 33; refine (hin _).mono ?_; rintro e w3 ⟨rfl, h3e⟩; rw [h3e]; clear h3e w3)
      go_ret2
      exact ⟨rfl, (HZ.out W2 HW2.out).2.2.1⟩
  · exact absurd h3 hE
end Go.Proofs.YtabpkfhbnendjaaGreat

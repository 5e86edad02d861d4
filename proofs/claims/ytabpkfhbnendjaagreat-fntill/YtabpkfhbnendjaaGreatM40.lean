/-
  Texts of this claim laid together: SpD.
-/
import Derived.Test.YtabpkfhbnendjaaGreatM39
/-
  The specification's act, by kinds.
-/
namespace Go.Proofs.YtabpkfhbnendjaaGreat
open Go.ChangeShapes Go.WideShapes Go.ChangeAt Go.RowKit Go.Deep
set_option linter.unusedVariables false

set_option maxHeartbeats 8000000 in
set_option maxRecDepth 8000 in
theorem actS_none (B rb : Nat) (iv : Value) (la : Option Addr) (lc : Nat) (ls : List RLi) (hl50 : ls.length ≤ 50) (sh : Int) (kv : Value) (ks : List Kb) (sl tk dp : Int) (cv : Value) (cs : List Int) (kd : Int) (tx : ByteArray) (n : Int) (w : World) (hg : Sg B rb iv (.slice la ls.length lc) ls sh kv ks sl tk dp cv cs w) (hk : kd < 1 ∨ 6 < kd) :
    Calls Tryz.prog 16 #[.pointer (some ⟨rb, 0, none⟩), .agg #[.int .i64 kd, .string tx, .int .i64 n]] w fun e w' => e = .returned (.tuple #[.int .i64 0, .int .i64 13]) ∧ Below w.heap.size w w' := by
  have hk1 : (kd == 1) = false := by simp; omega
  have hk2 : (kd == 2) = false := by simp; omega
  have hk3 : (kd == 3) = false := by simp; omega
  have hk4 : (kd == 4) = false := by simp; omega
  have hk5 : (kd == 5) = false := by simp; omega
  have hk6 : (kd == 6) = false := by simp; omega
  clear hk
  have hla : Below w.heap.size w (w.alloc (Obj.cells #[.int .i64 kd, .string tx, .int .i64 n] 42)) := below_alloc _ _
  have HZ : Hid (∀ W, Below (w.alloc (Obj.cells #[.int .i64 kd, .string tx, .int .i64 n] 42)).heap.size (w.alloc (Obj.cells #[.int .i64 kd, .string tx, .int .i64 n] 42)) W → W.heap[w.heap.size]? = some (.cells #[.int .i64 kd, .string tx, .int .i64 n] 42 (0, 0)) ∧ Below w.heap.size w W ∧ Sg B rb iv (.slice la ls.length lc) ls sh kv ks sl tk dp cv cs W) := fun W hW =>
    ⟨(hW.block _ (by simp)).trans (heapNew _ _), chain (below_alloc _ _) hW, hg.later (chain (below_alloc _ _) hW)⟩
  have r1 := (HZ.out _ (Below.refl _ _)).2.2.reg.cells.2.1
  have a0 := blkCell (HZ.out _ (Below.refl _ _)).1 0 _ rfl
  have a2 := blkCell (HZ.out _ (Below.refl _ _)).1 2 _ rfl
  clear hla
  go_enter Tryz.func16, Tryz.ntmps16
  go_wp2_with fail
  go_ret2
  exact ⟨rfl, below_alloc _ _⟩
set_option maxHeartbeats 8000000 in
set_option maxRecDepth 8000 in
theorem actS_void8 (B rb : Nat) (iv : Value) (la : Option Addr) (lc : Nat) (ls : List RLi) (hl50 : ls.length ≤ 50) (sh : Int) (kv : Value) (ks : List Kb) (sl tk dp : Int) (cv : Value) (cs : List Int) (kd : Int) (tx : ByteArray) (n : Int) (w : World) (hg : Sg B rb iv (.slice la ls.length lc) ls sh kv ks sl tk dp cv cs w) (hk : kd = 2) (hn : ¬ (0 ≤ n ∧ n < (ls.length : Int))) :
    Calls Tryz.prog 16 #[.pointer (some ⟨rb, 0, none⟩), .agg #[.int .i64 kd, .string tx, .int .i64 n]] w fun e w' => e = .returned (.tuple #[.int .i64 0, .int .i64 8]) ∧ Below w.heap.size w w' := by
  rcases (by omega : n < 0 ∨ (¬ n < 0 ∧ (ls.length : Int) ≤ n)) with hn1 | ⟨hn1, hn2⟩
  · skip
    have hk1 : (kd == 1) = false := by simp; omega
    have hk2 : (kd == 2) = true := by simp; omega
    have hk3 : (kd == 3) = false := by simp; omega
    have hk4 : (kd == 4) = false := by simp; omega
    have hk5 : (kd == 5) = false := by simp; omega
    have hk6 : (kd == 6) = false := by simp; omega
    clear hk
    have hla : Below w.heap.size w (w.alloc (Obj.cells #[.int .i64 kd, .string tx, .int .i64 n] 42)) := below_alloc _ _
    have HZ : Hid (∀ W, Below (w.alloc (Obj.cells #[.int .i64 kd, .string tx, .int .i64 n] 42)).heap.size (w.alloc (Obj.cells #[.int .i64 kd, .string tx, .int .i64 n] 42)) W → W.heap[w.heap.size]? = some (.cells #[.int .i64 kd, .string tx, .int .i64 n] 42 (0, 0)) ∧ Below w.heap.size w W ∧ Sg B rb iv (.slice la ls.length lc) ls sh kv ks sl tk dp cv cs W) := fun W hW =>
      ⟨(hW.block _ (by simp)).trans (heapNew _ _), chain (below_alloc _ _) hW, hg.later (chain (below_alloc _ _) hW)⟩
    have r1 := (HZ.out _ (Below.refl _ _)).2.2.reg.cells.2.1
    have a0 := blkCell (HZ.out _ (Below.refl _ _)).1 0 _ rfl
    have a2 := blkCell (HZ.out _ (Below.refl _ _)).1 2 _ rfl
    clear hla
    go_enter Tryz.func16, Tryz.ntmps16
    go_wp2_with fail
    go_ret2
    exact ⟨rfl, below_alloc _ _⟩
  · skip
    have hk1 : (kd == 1) = false := by simp; omega
    have hk2 : (kd == 2) = true := by simp; omega
    have hk3 : (kd == 3) = false := by simp; omega
    have hk4 : (kd == 4) = false := by simp; omega
    have hk5 : (kd == 5) = false := by simp; omega
    have hk6 : (kd == 6) = false := by simp; omega
    clear hk
    have hla : Below w.heap.size w (w.alloc (Obj.cells #[.int .i64 kd, .string tx, .int .i64 n] 42)) := below_alloc _ _
    have HZ : Hid (∀ W, Below (w.alloc (Obj.cells #[.int .i64 kd, .string tx, .int .i64 n] 42)).heap.size (w.alloc (Obj.cells #[.int .i64 kd, .string tx, .int .i64 n] 42)) W → W.heap[w.heap.size]? = some (.cells #[.int .i64 kd, .string tx, .int .i64 n] 42 (0, 0)) ∧ Below w.heap.size w W ∧ Sg B rb iv (.slice la ls.length lc) ls sh kv ks sl tk dp cv cs W) := fun W hW =>
      ⟨(hW.block _ (by simp)).trans (heapNew _ _), chain (below_alloc _ _) hW, hg.later (chain (below_alloc _ _) hW)⟩
    have r1 := (HZ.out _ (Below.refl _ _)).2.2.reg.cells.2.1
    have a0 := blkCell (HZ.out _ (Below.refl _ _)).1 0 _ rfl
    have a2 := blkCell (HZ.out _ (Below.refl _ _)).1 2 _ rfl
    clear hla
    go_enter Tryz.func16, Tryz.ntmps16
    go_wp2_with fail
    go_ret2
    exact ⟨rfl, below_alloc _ _⟩
set_option maxHeartbeats 8000000 in
set_option maxRecDepth 8000 in
theorem actS_show5 (B rb : Nat) (iv : Value) (la : Option Addr) (lc : Nat) (ls : List RLi) (hl50 : ls.length ≤ 50) (sh : Int) (kv : Value) (ks : List Kb) (sl tk dp : Int) (cv : Value) (cs : List Int) (kd : Int) (tx : ByteArray) (n : Int) (w : World) (hg : Sg B rb iv (.slice la ls.length lc) ls sh kv ks sl tk dp cv cs w) (hk : kd = 3) (hn : ¬ (0 ≤ n ∧ n ≤ 120)) :
    Calls Tryz.prog 16 #[.pointer (some ⟨rb, 0, none⟩), .agg #[.int .i64 kd, .string tx, .int .i64 n]] w fun e w' => e = .returned (.tuple #[.int .i64 0, .int .i64 5]) ∧ Below w.heap.size w w' := by
  have hin := fun w => in_any n 0 120 w
  have e99 : inB n 0 120 = false := decide_eq_false hn
  rw [e99] at hin
  have hk1 : (kd == 1) = false := by simp; omega
  have hk2 : (kd == 2) = false := by simp; omega
  have hk3 : (kd == 3) = true := by simp; omega
  have hk4 : (kd == 4) = false := by simp; omega
  have hk5 : (kd == 5) = false := by simp; omega
  have hk6 : (kd == 6) = false := by simp; omega
  clear hk
  have hla : Below w.heap.size w (w.alloc (Obj.cells #[.int .i64 kd, .string tx, .int .i64 n] 42)) := below_alloc _ _
  have HZ : Hid (∀ W, Below (w.alloc (Obj.cells #[.int .i64 kd, .string tx, .int .i64 n] 42)).heap.size (w.alloc (Obj.cells #[.int .i64 kd, .string tx, .int .i64 n] 42)) W → W.heap[w.heap.size]? = some (.cells #[.int .i64 kd, .string tx, .int .i64 n] 42 (0, 0)) ∧ Below w.heap.size w W ∧ Sg B rb iv (.slice la ls.length lc) ls sh kv ks sl tk dp cv cs W) := fun W hW =>
    ⟨(hW.block _ (by simp)).trans (heapNew _ _), chain (below_alloc _ _) hW, hg.later (chain (below_alloc _ _) hW)⟩
  have r1 := (HZ.out _ (Below.refl _ _)).2.2.reg.cells.2.1
  have a0 := blkCell (HZ.out _ (Below.refl _ _)).1 0 _ rfl
  have a2 := blkCell (HZ.out _ (Below.refl _ _)).1 2 _ rfl
  clear hla
  go_enter Tryz.func16, Tryz.ntmps16
  go_wp2_with (first | (go_at_call 33; refine (hin _).mono ?_; rintro e w3 ⟨rfl, h3e⟩; rw [h3e]; clear h3e w3) | fail)
  go_ret2
  exact ⟨rfl, below_alloc _ _⟩
set_option maxHeartbeats 8000000 in
set_option maxRecDepth 8000 in
theorem actS_susp12 (B rb : Nat) (iv : Value) (la : Option Addr) (lc : Nat) (ls : List RLi) (hl50 : ls.length ≤ 50) (sh : Int) (kv : Value) (ks : List Kb) (sl tk dp : Int) (cv : Value) (cs : List Int) (kd : Int) (tx : ByteArray) (n : Int) (w : World) (hg : Sg B rb iv (.slice la ls.length lc) ls sh kv ks sl tk dp cv cs w) (hk : kd = 4) (hn : (ls.length : Int) = 0) :
    Calls Tryz.prog 16 #[.pointer (some ⟨rb, 0, none⟩), .agg #[.int .i64 kd, .string tx, .int .i64 n]] w fun e w' => e = .returned (.tuple #[.int .i64 0, .int .i64 12]) ∧ Below w.heap.size w w' := by
  have hk1 : (kd == 1) = false := by simp; omega
  have hk2 : (kd == 2) = false := by simp; omega
  have hk3 : (kd == 3) = false := by simp; omega
  have hk4 : (kd == 4) = true := by simp; omega
  have hk5 : (kd == 5) = false := by simp; omega
  have hk6 : (kd == 6) = false := by simp; omega
  clear hk
  have hla : Below w.heap.size w (w.alloc (Obj.cells #[.int .i64 kd, .string tx, .int .i64 n] 42)) := below_alloc _ _
  have HZ : Hid (∀ W, Below (w.alloc (Obj.cells #[.int .i64 kd, .string tx, .int .i64 n] 42)).heap.size (w.alloc (Obj.cells #[.int .i64 kd, .string tx, .int .i64 n] 42)) W → W.heap[w.heap.size]? = some (.cells #[.int .i64 kd, .string tx, .int .i64 n] 42 (0, 0)) ∧ Below w.heap.size w W ∧ Sg B rb iv (.slice la ls.length lc) ls sh kv ks sl tk dp cv cs W) := fun W hW =>
    ⟨(hW.block _ (by simp)).trans (heapNew _ _), chain (below_alloc _ _) hW, hg.later (chain (below_alloc _ _) hW)⟩
  have r1 := (HZ.out _ (Below.refl _ _)).2.2.reg.cells.2.1
  have a0 := blkCell (HZ.out _ (Below.refl _ _)).1 0 _ rfl
  have a2 := blkCell (HZ.out _ (Below.refl _ _)).1 2 _ rfl
  clear hla
  go_enter Tryz.func16, Tryz.ntmps16
  go_wp2_with fail
  go_ret2
  exact ⟨rfl, below_alloc _ _⟩
set_option maxHeartbeats 8000000 in
set_option maxRecDepth 8000 in
theorem actS_susp14 (B rb : Nat) (iv : Value) (la : Option Addr) (lc : Nat) (ls : List RLi) (hl50 : ls.length ≤ 50) (sh : Int) (kv : Value) (ks : List Kb) (sl tk dp : Int) (cv : Value) (cs : List Int) (kd : Int) (tx : ByteArray) (n : Int) (w : World) (hg : Sg B rb iv (.slice la ls.length lc) ls sh kv ks sl tk dp cv cs w) (ka : Option Addr) (kc : Nat) (hkv : kv = .slice ka ks.length kc) (hk : kd = 4) (hn : ¬ (ls.length : Int) = 0) (hn5 : (ks.length : Int) = 5) :
    Calls Tryz.prog 16 #[.pointer (some ⟨rb, 0, none⟩), .agg #[.int .i64 kd, .string tx, .int .i64 n]] w fun e w' => e = .returned (.tuple #[.int .i64 0, .int .i64 14]) ∧ Below w.heap.size w w' := by
  have hn' : ((ls.length : Int) == 0) = false := by simpa using hn
  have hk1 : (kd == 1) = false := by simp; omega
  have hk2 : (kd == 2) = false := by simp; omega
  have hk3 : (kd == 3) = false := by simp; omega
  have hk4 : (kd == 4) = true := by simp; omega
  have hk5 : (kd == 5) = false := by simp; omega
  have hk6 : (kd == 6) = false := by simp; omega
  clear hk
  have hla : Below w.heap.size w (w.alloc (Obj.cells #[.int .i64 kd, .string tx, .int .i64 n] 42)) := below_alloc _ _
  have HZ : Hid (∀ W, Below (w.alloc (Obj.cells #[.int .i64 kd, .string tx, .int .i64 n] 42)).heap.size (w.alloc (Obj.cells #[.int .i64 kd, .string tx, .int .i64 n] 42)) W → W.heap[w.heap.size]? = some (.cells #[.int .i64 kd, .string tx, .int .i64 n] 42 (0, 0)) ∧ Below w.heap.size w W ∧ Sg B rb iv (.slice la ls.length lc) ls sh kv ks sl tk dp cv cs W) := fun W hW =>
    ⟨(hW.block _ (by simp)).trans (heapNew _ _), chain (below_alloc _ _) hW, hg.later (chain (below_alloc _ _) hW)⟩
  have r1 := (HZ.out _ (Below.refl _ _)).2.2.reg.cells.2.1
  have a0 := blkCell (HZ.out _ (Below.refl _ _)).1 0 _ rfl
  have a2 := blkCell (HZ.out _ (Below.refl _ _)).1 2 _ rfl
  have r3 := (HZ.out _ (Below.refl _ _)).2.2.reg.cells.2.2.2.1
  rw [hkv] at r3
  clear hkv
  clear hla
  go_enter Tryz.func16, Tryz.ntmps16
  go_wp2_with fail
  go_ret2
  exact ⟨rfl, below_alloc _ _⟩
set_option maxHeartbeats 8000000 in
set_option maxRecDepth 8000 in
theorem actS_res8 (B rb : Nat) (iv : Value) (la : Option Addr) (lc : Nat) (ls : List RLi) (hl50 : ls.length ≤ 50) (sh : Int) (kv : Value) (ks : List Kb) (sl tk dp : Int) (cv : Value) (cs : List Int) (kd : Int) (tx : ByteArray) (n : Int) (w : World) (hg : Sg B rb iv (.slice la ls.length lc) ls sh kv ks sl tk dp cv cs w) (ka : Option Addr) (kc : Nat) (hkv : kv = .slice ka ks.length kc) (hk : kd = 5) (hn : ¬ (0 ≤ n ∧ n < (ks.length : Int))) :
    Calls Tryz.prog 16 #[.pointer (some ⟨rb, 0, none⟩), .agg #[.int .i64 kd, .string tx, .int .i64 n]] w fun e w' => e = .returned (.tuple #[.int .i64 0, .int .i64 8]) ∧ Below w.heap.size w w' := by
  have hk1 : (kd == 1) = false := by simp; omega
  have hk2 : (kd == 2) = false := by simp; omega
  have hk3 : (kd == 3) = false := by simp; omega
  have hk4 : (kd == 4) = false := by simp; omega
  have hk5 : (kd == 5) = true := by simp; omega
  have hk6 : (kd == 6) = false := by simp; omega
  clear hk
  have hla : Below w.heap.size w (w.alloc (Obj.cells #[.int .i64 kd, .string tx, .int .i64 n] 42)) := below_alloc _ _
  have HZ : Hid (∀ W, Below (w.alloc (Obj.cells #[.int .i64 kd, .string tx, .int .i64 n] 42)).heap.size (w.alloc (Obj.cells #[.int .i64 kd, .string tx, .int .i64 n] 42)) W → W.heap[w.heap.size]? = some (.cells #[.int .i64 kd, .string tx, .int .i64 n] 42 (0, 0)) ∧ Below w.heap.size w W ∧ Sg B rb iv (.slice la ls.length lc) ls sh kv ks sl tk dp cv cs W) := fun W hW =>
    ⟨(hW.block _ (by simp)).trans (heapNew _ _), chain (below_alloc _ _) hW, hg.later (chain (below_alloc _ _) hW)⟩
  have r1 := (HZ.out _ (Below.refl _ _)).2.2.reg.cells.2.1
  have a0 := blkCell (HZ.out _ (Below.refl _ _)).1 0 _ rfl
  have a2 := blkCell (HZ.out _ (Below.refl _ _)).1 2 _ rfl
  clear hla
  go_enter Tryz.func16, Tryz.ntmps16
  go_wp2_with fail
  have HKV : Hid (kv = .slice ka ks.length kc) := hkv
  clear hkv r1 a0 a2
  generalize hW1 : (w.alloc (Obj.cells #[.int .i64 kd, .string tx, .int .i64 n] 42)) = W1 at *
  clear hW1
  refine wp_region_held_drew (S := fun W => Below W1.heap.size W1 W) (by kernel_rfl) (below_drew _) (fun hH => ?_)
  refine wpAnyH_take (i := 0) (v := .pointer (some ⟨w.heap.size, 2, none⟩)) rfl (by kernel_rfl) (by kernel_rfl) (by kernel_rfl) (fun _ _ _ h => h) (Or.inl ⟨by rfl, fun w hSw => by go_simp⟩) hH ?_
  refine wpAnyH_take (i := 1) (v := .int .i64 n) rfl (by kernel_rfl) (by kernel_rfl) (by kernel_rfl) (fun _ _ _ h => h) (Or.inl ⟨by rfl, fun w hSw => by have f0 := blkCell (HZ.out w hSw).1 2 _ rfl; go_simp⟩) hH ?_
  try simp only [Act.put, List.setIfInBounds_toArray, List.set_cons_zero, List.set_cons_succ, List.getElem_toArray, List.getElem_cons_succ, List.getElem_cons_zero]
  by_cases hn1 : n < 0
  · have hx : decide (n < 0) = true := decide_eq_true hn1
    refine wpAnyH_take (i := 2) (v := .bool true) rfl (by kernel_rfl) (by kernel_rfl) (by kernel_rfl) (fun _ _ _ h => h) (Or.inl ⟨by rfl, fun w hSw => by go_simp⟩) hH ?_
    try simp only [Act.put, List.setIfInBounds_toArray, List.set_cons_zero, List.set_cons_succ, List.getElem_toArray, List.getElem_cons_succ, List.getElem_cons_zero]
    refine wpAnyH_take (i := 3) (v := .bool true) rfl (by kernel_rfl) (by kernel_rfl) (by kernel_rfl) (fun _ _ _ h => h) (Or.inl ⟨by rfl, fun w hSw => by go_simp⟩) hH ?_
    try simp only [Act.put, List.setIfInBounds_toArray, List.set_cons_zero, List.set_cons_succ, List.getElem_toArray, List.getElem_cons_succ, List.getElem_cons_zero]
    refine wpAnyH_take (i := 4) (v := undef) rfl (by kernel_rfl) (by kernel_rfl) (by kernel_rfl) (fun _ _ _ h => h) (Or.inr ⟨by rfl, rfl⟩) hH ?_
    try simp only [Act.put, List.setIfInBounds_toArray, List.set_cons_zero, List.set_cons_succ, List.getElem_toArray, List.getElem_cons_succ, List.getElem_cons_zero]
    refine wpAnyH_take (i := 5) (v := undef) rfl (by kernel_rfl) (by kernel_rfl) (by kernel_rfl) (fun _ _ _ h => h) (Or.inr ⟨by rfl, rfl⟩) hH ?_
    try simp only [Act.put, List.setIfInBounds_toArray, List.set_cons_zero, List.set_cons_succ, List.getElem_toArray, List.getElem_cons_succ, List.getElem_cons_zero]
    refine wpAnyH_take (i := 6) (v := undef) rfl (by kernel_rfl) (by kernel_rfl) (by kernel_rfl) (fun _ _ _ h => h) (Or.inr ⟨by rfl, rfl⟩) hH ?_
    try simp only [Act.put, List.setIfInBounds_toArray, List.set_cons_zero, List.set_cons_succ, List.getElem_toArray, List.getElem_cons_succ, List.getElem_cons_zero]
    refine wpAnyH_take (i := 7) (v := undef) rfl (by kernel_rfl) (by kernel_rfl) (by kernel_rfl) (fun _ _ _ h => h) (Or.inr ⟨by rfl, rfl⟩) hH ?_
    try simp only [Act.put, List.setIfInBounds_toArray, List.set_cons_zero, List.set_cons_succ, List.getElem_toArray, List.getElem_cons_succ, List.getElem_cons_zero]
    refine wpAnyH_take (i := 8) (v := undef) rfl (by kernel_rfl) (by kernel_rfl) (by kernel_rfl) (fun _ _ _ h => h) (Or.inr ⟨by rfl, rfl⟩) hH ?_
    try simp only [Act.put, List.setIfInBounds_toArray, List.set_cons_zero, List.set_cons_succ, List.getElem_toArray, List.getElem_cons_succ, List.getElem_cons_zero]
    refine wpAnyH_take (i := 9) (v := undef) rfl (by kernel_rfl) (by kernel_rfl) (by kernel_rfl) (fun _ _ _ h => h) (Or.inr ⟨by rfl, rfl⟩) hH ?_
    try simp only [Act.put, List.setIfInBounds_toArray, List.set_cons_zero, List.set_cons_succ, List.getElem_toArray, List.getElem_cons_succ, List.getElem_cons_zero]
    refine wpAnyH_take (i := 10) (v := undef) rfl (by kernel_rfl) (by kernel_rfl) (by kernel_rfl) (fun _ _ _ h => h) (Or.inr ⟨by rfl, rfl⟩) hH ?_
    try simp only [Act.put, List.setIfInBounds_toArray, List.set_cons_zero, List.set_cons_succ, List.getElem_toArray, List.getElem_cons_succ, List.getElem_cons_zero]
    refine wpAnyH_take (i := 11) (v := undef) rfl (by kernel_rfl) (by kernel_rfl) (by kernel_rfl) (fun _ _ _ h => h) (Or.inr ⟨by rfl, rfl⟩) hH ?_
    try simp only [Act.put, List.setIfInBounds_toArray, List.set_cons_zero, List.set_cons_succ, List.getElem_toArray, List.getElem_cons_succ, List.getElem_cons_zero]
    refine wpAnyH_take (i := 12) (v := undef) rfl (by kernel_rfl) (by kernel_rfl) (by kernel_rfl) (fun _ _ _ h => h) (Or.inr ⟨by rfl, rfl⟩) hH ?_
    try simp only [Act.put, List.setIfInBounds_toArray, List.set_cons_zero, List.set_cons_succ, List.getElem_toArray, List.getElem_cons_succ, List.getElem_cons_zero]
    refine wpAnyH_take (i := 13) (v := .bool true) rfl (by kernel_rfl) (by kernel_rfl) (by kernel_rfl) (fun _ _ _ h => h) (Or.inl ⟨by rfl, fun w hSw => by go_simp⟩) hH ?_
    try simp only [Act.put, List.setIfInBounds_toArray, List.set_cons_zero, List.set_cons_succ, List.getElem_toArray, List.getElem_cons_succ, List.getElem_cons_zero]
    refine wpAnyH_done (by kernel_rfl) ?_ _
    try simp
    have HE : Hid (Below w.heap.size w W1.drew) := (HZ.out _ hH).2.1
    go_wp2
    go_ret2
    exact ⟨rfl, HE.out⟩
  · have hx : decide (n < 0) = false := decide_eq_false hn1
    have hy : decide ((ks.length : Int) ≤ n) = true := decide_eq_true (by omega)
    refine wpAnyH_take (i := 2) (v := .bool false) rfl (by kernel_rfl) (by kernel_rfl) (by kernel_rfl) (fun _ _ _ h => h) (Or.inl ⟨by rfl, fun w hSw => by go_simp⟩) hH ?_
    try simp only [Act.put, List.setIfInBounds_toArray, List.set_cons_zero, List.set_cons_succ, List.getElem_toArray, List.getElem_cons_succ, List.getElem_cons_zero]
    refine wpAnyH_take (i := 3) (v := .bool false) rfl (by kernel_rfl) (by kernel_rfl) (by kernel_rfl) (fun _ _ _ h => h) (Or.inl ⟨by rfl, fun w hSw => by go_simp⟩) hH ?_
    try simp only [Act.put, List.setIfInBounds_toArray, List.set_cons_zero, List.set_cons_succ, List.getElem_toArray, List.getElem_cons_succ, List.getElem_cons_zero]
    refine wpAnyH_take (i := 4) (v := .pointer (some ⟨w.heap.size, 2, none⟩)) rfl (by kernel_rfl) (by kernel_rfl) (by kernel_rfl) (fun _ _ _ h => h) (Or.inl ⟨by rfl, fun w hSw => by go_simp⟩) hH ?_
    try simp only [Act.put, List.setIfInBounds_toArray, List.set_cons_zero, List.set_cons_succ, List.getElem_toArray, List.getElem_cons_succ, List.getElem_cons_zero]
    refine wpAnyH_take (i := 5) (v := .int .i64 n) rfl (by kernel_rfl) (by kernel_rfl) (by kernel_rfl) (fun _ _ _ h => h) (Or.inl ⟨by rfl, fun w hSw => by have f0 := blkCell (HZ.out w hSw).1 2 _ rfl; go_simp⟩) hH ?_
    try simp only [Act.put, List.setIfInBounds_toArray, List.set_cons_zero, List.set_cons_succ, List.getElem_toArray, List.getElem_cons_succ, List.getElem_cons_zero]
    refine wpAnyH_take (i := 6) (v := .pointer (some ⟨rb, 0, none⟩)) rfl (by kernel_rfl) (by kernel_rfl) (by kernel_rfl) (fun _ _ _ h => h) (Or.inl ⟨by rfl, fun w hSw => by go_simp⟩) hH ?_
    try simp only [Act.put, List.setIfInBounds_toArray, List.set_cons_zero, List.set_cons_succ, List.getElem_toArray, List.getElem_cons_succ, List.getElem_cons_zero]
    refine wpAnyH_take (i := 7) (v := .pointer (some ⟨rb, 0, none⟩)) rfl (by kernel_rfl) (by kernel_rfl) (by kernel_rfl) (fun _ _ _ h => h) (Or.inl ⟨by rfl, fun w hSw => by go_simp⟩) hH ?_
    try simp only [Act.put, List.setIfInBounds_toArray, List.set_cons_zero, List.set_cons_succ, List.getElem_toArray, List.getElem_cons_succ, List.getElem_cons_zero]
    refine wpAnyH_take (i := 8) (v := .pointer (some ⟨rb, 1, none⟩)) rfl (by kernel_rfl) (by kernel_rfl) (by kernel_rfl) (fun _ _ _ h => h) (Or.inl ⟨by rfl, fun w hSw => by go_simp⟩) hH ?_
    try simp only [Act.put, List.setIfInBounds_toArray, List.set_cons_zero, List.set_cons_succ, List.getElem_toArray, List.getElem_cons_succ, List.getElem_cons_zero]
    refine wpAnyH_take (i := 9) (v := .pointer (some ⟨rb, 3, none⟩)) rfl (by kernel_rfl) (by kernel_rfl) (by kernel_rfl) (fun _ _ _ h => h) (Or.inl ⟨by rfl, fun w hSw => by go_simp⟩) hH ?_
    try simp only [Act.put, List.setIfInBounds_toArray, List.set_cons_zero, List.set_cons_succ, List.getElem_toArray, List.getElem_cons_succ, List.getElem_cons_zero]
    refine wpAnyH_take (i := 10) (v := .slice ka ks.length kc) rfl (by kernel_rfl) (by kernel_rfl) (by kernel_rfl) (fun _ _ _ h => h) (Or.inl ⟨by rfl, fun w hSw => by have f0 := (HZ.out w hSw).2.2.reg.cells.2.2.2.1; rw [HKV.out] at f0; go_simp⟩) hH ?_
    try simp only [Act.put, List.setIfInBounds_toArray, List.set_cons_zero, List.set_cons_succ, List.getElem_toArray, List.getElem_cons_succ, List.getElem_cons_zero]
    refine wpAnyH_take (i := 11) (v := .int .i64 (ks.length : Int)) rfl (by kernel_rfl) (by kernel_rfl) (by kernel_rfl) (fun _ _ _ h => h) (Or.inl ⟨by rfl, fun w hSw => by go_simp⟩) hH ?_
    try simp only [Act.put, List.setIfInBounds_toArray, List.set_cons_zero, List.set_cons_succ, List.getElem_toArray, List.getElem_cons_succ, List.getElem_cons_zero]
    refine wpAnyH_take (i := 12) (v := .bool true) rfl (by kernel_rfl) (by kernel_rfl) (by kernel_rfl) (fun _ _ _ h => h) (Or.inl ⟨by rfl, fun w hSw => by go_simp⟩) hH ?_
    try simp only [Act.put, List.setIfInBounds_toArray, List.set_cons_zero, List.set_cons_succ, List.getElem_toArray, List.getElem_cons_succ, List.getElem_cons_zero]
    refine wpAnyH_take (i := 13) (v := .bool true) rfl (by kernel_rfl) (by kernel_rfl) (by kernel_rfl) (fun _ _ _ h => h) (Or.inl ⟨by rfl, fun w hSw => by go_simp⟩) hH ?_
    try simp only [Act.put, List.setIfInBounds_toArray, List.set_cons_zero, List.set_cons_succ, List.getElem_toArray, List.getElem_cons_succ, List.getElem_cons_zero]
    refine wpAnyH_done (by kernel_rfl) ?_ _
    try simp
    have HE : Hid (Below w.heap.size w W1.drew) := (HZ.out _ hH).2.1
    go_wp2
    go_ret2
    exact ⟨rfl, HE.out⟩
set_option maxHeartbeats 8000000 in
set_option maxRecDepth 8000 in
theorem actS_res12 (B rb : Nat) (iv : Value) (la : Option Addr) (lc : Nat) (ls : List RLi) (hl50 : ls.length ≤ 50) (sh : Int) (kv : Value) (ks : List Kb) (sl tk dp : Int) (cv : Value) (cs : List Int) (kd : Int) (tx : ByteArray) (n : Int) (w : World) (hg : Sg B rb iv (.slice la ls.length lc) ls sh kv ks sl tk dp cv cs w) (ka : Option Addr) (kc : Nat) (hkv : kv = .slice ka ks.length kc) (hk : kd = 5) (hn : 0 ≤ n ∧ n < (ks.length : Int)) (hn5 : ¬ (ls.length : Int) = 0) :
    Calls Tryz.prog 16 #[.pointer (some ⟨rb, 0, none⟩), .agg #[.int .i64 kd, .string tx, .int .i64 n]] w fun e w' => e = .returned (.tuple #[.int .i64 0, .int .i64 12]) ∧ Below w.heap.size w w' := by
  have hk1 : (kd == 1) = false := by simp; omega
  have hk2 : (kd == 2) = false := by simp; omega
  have hk3 : (kd == 3) = false := by simp; omega
  have hk4 : (kd == 4) = false := by simp; omega
  have hk5 : (kd == 5) = true := by simp; omega
  have hk6 : (kd == 6) = false := by simp; omega
  clear hk
  have hla : Below w.heap.size w (w.alloc (Obj.cells #[.int .i64 kd, .string tx, .int .i64 n] 42)) := below_alloc _ _
  have HZ : Hid (∀ W, Below (w.alloc (Obj.cells #[.int .i64 kd, .string tx, .int .i64 n] 42)).heap.size (w.alloc (Obj.cells #[.int .i64 kd, .string tx, .int .i64 n] 42)) W → W.heap[w.heap.size]? = some (.cells #[.int .i64 kd, .string tx, .int .i64 n] 42 (0, 0)) ∧ Below w.heap.size w W ∧ Sg B rb iv (.slice la ls.length lc) ls sh kv ks sl tk dp cv cs W) := fun W hW =>
    ⟨(hW.block _ (by simp)).trans (heapNew _ _), chain (below_alloc _ _) hW, hg.later (chain (below_alloc _ _) hW)⟩
  have r1 := (HZ.out _ (Below.refl _ _)).2.2.reg.cells.2.1
  have a0 := blkCell (HZ.out _ (Below.refl _ _)).1 0 _ rfl
  have a2 := blkCell (HZ.out _ (Below.refl _ _)).1 2 _ rfl
  clear hla
  go_enter Tryz.func16, Tryz.ntmps16
  go_wp2_with fail
  have HKV : Hid (kv = .slice ka ks.length kc) := hkv
  clear hkv r1 a0 a2
  generalize hW1 : (w.alloc (Obj.cells #[.int .i64 kd, .string tx, .int .i64 n] 42)) = W1 at *
  clear hW1
  refine wp_region_held_drew (S := fun W => Below W1.heap.size W1 W) (by kernel_rfl) (below_drew _) (fun hH => ?_)
  refine wpAnyH_take (i := 0) (v := .pointer (some ⟨w.heap.size, 2, none⟩)) rfl (by kernel_rfl) (by kernel_rfl) (by kernel_rfl) (fun _ _ _ h => h) (Or.inl ⟨by rfl, fun w hSw => by go_simp⟩) hH ?_
  refine wpAnyH_take (i := 1) (v := .int .i64 n) rfl (by kernel_rfl) (by kernel_rfl) (by kernel_rfl) (fun _ _ _ h => h) (Or.inl ⟨by rfl, fun w hSw => by have f0 := blkCell (HZ.out w hSw).1 2 _ rfl; go_simp⟩) hH ?_
  try simp only [Act.put, List.setIfInBounds_toArray, List.set_cons_zero, List.set_cons_succ, List.getElem_toArray, List.getElem_cons_succ, List.getElem_cons_zero]
  have hx : decide (n < 0) = false := decide_eq_false (by omega)
  have hy : decide ((ks.length : Int) ≤ n) = false := decide_eq_false (by omega)
  have hn3 : (0 : Int) < (ls.length : Int) := by omega
  refine wpAnyH_take (i := 2) (v := .bool false) rfl (by kernel_rfl) (by kernel_rfl) (by kernel_rfl) (fun _ _ _ h => h) (Or.inl ⟨by rfl, fun w hSw => by go_simp⟩) hH ?_
  try simp only [Act.put, List.setIfInBounds_toArray, List.set_cons_zero, List.set_cons_succ, List.getElem_toArray, List.getElem_cons_succ, List.getElem_cons_zero]
  refine wpAnyH_take (i := 3) (v := .bool false) rfl (by kernel_rfl) (by kernel_rfl) (by kernel_rfl) (fun _ _ _ h => h) (Or.inl ⟨by rfl, fun w hSw => by go_simp⟩) hH ?_
  try simp only [Act.put, List.setIfInBounds_toArray, List.set_cons_zero, List.set_cons_succ, List.getElem_toArray, List.getElem_cons_succ, List.getElem_cons_zero]
  refine wpAnyH_take (i := 4) (v := .pointer (some ⟨w.heap.size, 2, none⟩)) rfl (by kernel_rfl) (by kernel_rfl) (by kernel_rfl) (fun _ _ _ h => h) (Or.inl ⟨by rfl, fun w hSw => by go_simp⟩) hH ?_
  try simp only [Act.put, List.setIfInBounds_toArray, List.set_cons_zero, List.set_cons_succ, List.getElem_toArray, List.getElem_cons_succ, List.getElem_cons_zero]
  refine wpAnyH_take (i := 5) (v := .int .i64 n) rfl (by kernel_rfl) (by kernel_rfl) (by kernel_rfl) (fun _ _ _ h => h) (Or.inl ⟨by rfl, fun w hSw => by have f0 := blkCell (HZ.out w hSw).1 2 _ rfl; go_simp⟩) hH ?_
  try simp only [Act.put, List.setIfInBounds_toArray, List.set_cons_zero, List.set_cons_succ, List.getElem_toArray, List.getElem_cons_succ, List.getElem_cons_zero]
  refine wpAnyH_take (i := 6) (v := .pointer (some ⟨rb, 0, none⟩)) rfl (by kernel_rfl) (by kernel_rfl) (by kernel_rfl) (fun _ _ _ h => h) (Or.inl ⟨by rfl, fun w hSw => by go_simp⟩) hH ?_
  try simp only [Act.put, List.setIfInBounds_toArray, List.set_cons_zero, List.set_cons_succ, List.getElem_toArray, List.getElem_cons_succ, List.getElem_cons_zero]
  refine wpAnyH_take (i := 7) (v := .pointer (some ⟨rb, 0, none⟩)) rfl (by kernel_rfl) (by kernel_rfl) (by kernel_rfl) (fun _ _ _ h => h) (Or.inl ⟨by rfl, fun w hSw => by go_simp⟩) hH ?_
  try simp only [Act.put, List.setIfInBounds_toArray, List.set_cons_zero, List.set_cons_succ, List.getElem_toArray, List.getElem_cons_succ, List.getElem_cons_zero]
  refine wpAnyH_take (i := 8) (v := .pointer (some ⟨rb, 1, none⟩)) rfl (by kernel_rfl) (by kernel_rfl) (by kernel_rfl) (fun _ _ _ h => h) (Or.inl ⟨by rfl, fun w hSw => by go_simp⟩) hH ?_
  try simp only [Act.put, List.setIfInBounds_toArray, List.set_cons_zero, List.set_cons_succ, List.getElem_toArray, List.getElem_cons_succ, List.getElem_cons_zero]
  refine wpAnyH_take (i := 9) (v := .pointer (some ⟨rb, 3, none⟩)) rfl (by kernel_rfl) (by kernel_rfl) (by kernel_rfl) (fun _ _ _ h => h) (Or.inl ⟨by rfl, fun w hSw => by go_simp⟩) hH ?_
  try simp only [Act.put, List.setIfInBounds_toArray, List.set_cons_zero, List.set_cons_succ, List.getElem_toArray, List.getElem_cons_succ, List.getElem_cons_zero]
  refine wpAnyH_take (i := 10) (v := .slice ka ks.length kc) rfl (by kernel_rfl) (by kernel_rfl) (by kernel_rfl) (fun _ _ _ h => h) (Or.inl ⟨by rfl, fun w hSw => by have f0 := (HZ.out w hSw).2.2.reg.cells.2.2.2.1; rw [HKV.out] at f0; go_simp⟩) hH ?_
  try simp only [Act.put, List.setIfInBounds_toArray, List.set_cons_zero, List.set_cons_succ, List.getElem_toArray, List.getElem_cons_succ, List.getElem_cons_zero]
  refine wpAnyH_take (i := 11) (v := .int .i64 (ks.length : Int)) rfl (by kernel_rfl) (by kernel_rfl) (by kernel_rfl) (fun _ _ _ h => h) (Or.inl ⟨by rfl, fun w hSw => by go_simp⟩) hH ?_
  try simp only [Act.put, List.setIfInBounds_toArray, List.set_cons_zero, List.set_cons_succ, List.getElem_toArray, List.getElem_cons_succ, List.getElem_cons_zero]
  refine wpAnyH_take (i := 12) (v := .bool false) rfl (by kernel_rfl) (by kernel_rfl) (by kernel_rfl) (fun _ _ _ h => h) (Or.inl ⟨by rfl, fun w hSw => by go_simp⟩) hH ?_
  try simp only [Act.put, List.setIfInBounds_toArray, List.set_cons_zero, List.set_cons_succ, List.getElem_toArray, List.getElem_cons_succ, List.getElem_cons_zero]
  refine wpAnyH_take (i := 13) (v := .bool false) rfl (by kernel_rfl) (by kernel_rfl) (by kernel_rfl) (fun _ _ _ h => h) (Or.inl ⟨by rfl, fun w hSw => by go_simp⟩) hH ?_
  try simp only [Act.put, List.setIfInBounds_toArray, List.set_cons_zero, List.set_cons_succ, List.getElem_toArray, List.getElem_cons_succ, List.getElem_cons_zero]
  refine wpAnyH_done (by kernel_rfl) ?_ _
  try simp
  have HE : Hid (Below w.heap.size w W1.drew) := (HZ.out _ hH).2.1
  go_wp2
  go_ret2
  exact ⟨rfl, HE.out⟩
set_option maxHeartbeats 8000000 in
set_option maxRecDepth 8000 in
theorem actS_show (B rb : Nat) (iv : Value) (la : Option Addr) (lc : Nat) (ls : List RLi) (hl50 : ls.length ≤ 50) (sh : Int) (kv : Value) (ks : List Kb) (sl tk dp : Int) (cv : Value) (cs : List Int) (kd : Int) (tx : ByteArray) (n : Int) (w : World) (hg : Sg B rb iv (.slice la ls.length lc) ls sh kv ks sl tk dp cv cs w) (hk : kd = 3) (hn : 0 ≤ n ∧ n ≤ 120) :
    Calls Tryz.prog 16 #[.pointer (some ⟨rb, 0, none⟩), .agg #[.int .i64 kd, .string tx, .int .i64 n]] w fun e w' => e = .returned (.tuple #[.int .i64 n, .int .i64 0]) ∧ Fr (fun k => k = rb) w w' ∧ Sg B rb iv (.slice la ls.length lc) ls n kv ks sl tk dp cv cs w' := by
  have hin := fun w => in_any n 0 120 w
  have e99 : inB n 0 120 = true := decide_eq_true hn
  rw [e99] at hin
  have hk1 : (kd == 1) = false := by simp; omega
  have hk2 : (kd == 2) = false := by simp; omega
  have hk3 : (kd == 3) = true := by simp; omega
  have hk4 : (kd == 4) = false := by simp; omega
  have hk5 : (kd == 5) = false := by simp; omega
  have hk6 : (kd == 6) = false := by simp; omega
  clear hk
  have hla : Below w.heap.size w (w.alloc (Obj.cells #[.int .i64 kd, .string tx, .int .i64 n] 42)) := below_alloc _ _
  have HZ : Hid (∀ W, Below (w.alloc (Obj.cells #[.int .i64 kd, .string tx, .int .i64 n] 42)).heap.size (w.alloc (Obj.cells #[.int .i64 kd, .string tx, .int .i64 n] 42)) W → W.heap[w.heap.size]? = some (.cells #[.int .i64 kd, .string tx, .int .i64 n] 42 (0, 0)) ∧ Below w.heap.size w W ∧ Sg B rb iv (.slice la ls.length lc) ls sh kv ks sl tk dp cv cs W) := fun W hW =>
    ⟨(hW.block _ (by simp)).trans (heapNew _ _), chain (below_alloc _ _) hW, hg.later (chain (below_alloc _ _) hW)⟩
  have r1 := (HZ.out _ (Below.refl _ _)).2.2.reg.cells.2.1
  have a0 := blkCell (HZ.out _ (Below.refl _ _)).1 0 _ rfl
  have a2 := blkCell (HZ.out _ (Below.refl _ _)).1 2 _ rfl
  have zf := (HZ.out _ (Below.refl _ _)).2.2.reg.free 2
  have z2 := (HZ.out _ (Below.refl _ _)).2.2.reg.cells.2.2.1
  have hne : w.heap.size ≠ rb := by have := hg.reg.lt; omega
  have b2 : ((w.alloc (Obj.cells #[.int .i64 kd, .string tx, .int .i64 n] 42)).setCell ⟨rb, 2, none⟩ (.int .i64 n)).cell? ⟨w.heap.size, 2, none⟩ = some (.int .i64 n) := blkCell ((Below.heap_setCell _ _ _ _ hne).trans (HZ.out _ (Below.refl _ _)).1) 2 _ rfl
  have HF : Hid (Fr (fun k => k = rb) w ((w.alloc (Obj.cells #[.int .i64 kd, .string tx, .int .i64 n] 42)).setCell ⟨rb, 2, none⟩ (.int .i64 n)) ∧ Sg B rb iv (.slice la ls.length lc) ls n kv ks sl tk dp cv cs ((w.alloc (Obj.cells #[.int .i64 kd, .string tx, .int .i64 n] 42)).setCell ⟨rb, 2, none⟩ (.int .i64 n))) := by
    have hf : Fr (fun k => k = rb) w ((w.alloc (Obj.cells #[.int .i64 kd, .string tx, .int .i64 n] 42)).setCell ⟨rb, 2, none⟩ (.int .i64 n)) := Fr.set (X := fun k => k = rb) (Fr.of hla) (b := rb) rfl _ _
    exact ⟨hf, hg.cells hf ((HZ.out _ (Below.refl _ _)).2.2.reg.set2 n)⟩
  clear hla
  go_enter Tryz.func16, Tryz.ntmps16
  go_wp2_with (first | (go_at_call 33; refine (hin _).mono ?_; rintro e w3 ⟨rfl, h3e⟩; rw [h3e]; clear h3e w3) | fail)
  go_ret2
  exact ⟨rfl, HF.out⟩
set_option maxHeartbeats 8000000 in
set_option maxRecDepth 8000 in
theorem actS_scan (B rb : Nat) (iv : Value) (la : Option Addr) (lc : Nat) (ls : List RLi) (hl50 : ls.length ≤ 50) (sh : Int) (kv : Value) (ks : List Kb) (sl tk dp : Int) (cv : Value) (cs : List Int) (kd : Int) (tx : ByteArray) (n : Int) (w : World) (hg : Sg B rb iv (.slice la ls.length lc) ls sh kv ks sl tk dp cv cs w) (hk : kd = 1) (Q : Int → Int → World → Prop) (hC : ∀ W, Below w.heap.size w W → Calls Tryz.prog 32 #[.pointer (some ⟨rb, 0, none⟩), .agg #[.int .i64 kd, .string tx, .int .i64 n]] W fun e w' => ∃ x c, e = .returned (.tuple #[.int .i64 x, .int .i64 c]) ∧ Q x c w') :
    Calls Tryz.prog 16 #[.pointer (some ⟨rb, 0, none⟩), .agg #[.int .i64 kd, .string tx, .int .i64 n]] w fun e w' => ∃ x c, e = .returned (.tuple #[.int .i64 x, .int .i64 c]) ∧ Q x c w' := by
  have HC : Hid (∀ W, Below w.heap.size w W → Calls Tryz.prog 32 #[.pointer (some ⟨rb, 0, none⟩), .agg #[.int .i64 kd, .string tx, .int .i64 n]] W fun e w' => ∃ x c, e = .returned (.tuple #[.int .i64 x, .int .i64 c]) ∧ Q x c w') := hC
  clear hC
  have hk1 : (kd == 1) = true := by simp; omega
  have hk2 : (kd == 2) = false := by simp; omega
  have hk3 : (kd == 3) = false := by simp; omega
  have hk4 : (kd == 4) = false := by simp; omega
  have hk5 : (kd == 5) = false := by simp; omega
  have hk6 : (kd == 6) = false := by simp; omega
  clear hk
  have hla : Below w.heap.size w (w.alloc (Obj.cells #[.int .i64 kd, .string tx, .int .i64 n] 42)) := below_alloc _ _
  have HZ : Hid (∀ W, Below (w.alloc (Obj.cells #[.int .i64 kd, .string tx, .int .i64 n] 42)).heap.size (w.alloc (Obj.cells #[.int .i64 kd, .string tx, .int .i64 n] 42)) W → W.heap[w.heap.size]? = some (.cells #[.int .i64 kd, .string tx, .int .i64 n] 42 (0, 0)) ∧ Below w.heap.size w W ∧ Sg B rb iv (.slice la ls.length lc) ls sh kv ks sl tk dp cv cs W) := fun W hW =>
    ⟨(hW.block _ (by simp)).trans (heapNew _ _), chain (below_alloc _ _) hW, hg.later (chain (below_alloc _ _) hW)⟩
  have r1 := (HZ.out _ (Below.refl _ _)).2.2.reg.cells.2.1
  have a0 := blkCell (HZ.out _ (Below.refl _ _)).1 0 _ rfl
  have a2 := blkCell (HZ.out _ (Below.refl _ _)).1 2 _ rfl
  clear hla
  go_enter Tryz.func16, Tryz.ntmps16
  go_wp2_with fail
  (first | go_at_call 32 | skip)
  refine (HC.out _ (below_alloc _ _)).mono ?_
  rintro e w2 ⟨x, c, rfl, hq⟩
  go_wp2
  go_ret2
  exact ⟨x, c, rfl, hq⟩
set_option maxHeartbeats 8000000 in
set_option maxRecDepth 8000 in
theorem actS_pay (B rb : Nat) (iv : Value) (la : Option Addr) (lc : Nat) (ls : List RLi) (hl50 : ls.length ≤ 50) (sh : Int) (kv : Value) (ks : List Kb) (sl tk dp : Int) (cv : Value) (cs : List Int) (kd : Int) (tx : ByteArray) (n : Int) (w : World) (hg : Sg B rb iv (.slice la ls.length lc) ls sh kv ks sl tk dp cv cs w) (hk : kd = 6) (Q : Int → Int → World → Prop) (hC : ∀ W, Below w.heap.size w W → Calls Tryz.prog 35 #[.pointer (some ⟨rb, 0, none⟩), .int .i64 n] W fun e w' => ∃ x c, e = .returned (.tuple #[.int .i64 x, .int .i64 c]) ∧ Q x c w') :
    Calls Tryz.prog 16 #[.pointer (some ⟨rb, 0, none⟩), .agg #[.int .i64 kd, .string tx, .int .i64 n]] w fun e w' => ∃ x c, e = .returned (.tuple #[.int .i64 x, .int .i64 c]) ∧ Q x c w' := by
  have HC : Hid (∀ W, Below w.heap.size w W → Calls Tryz.prog 35 #[.pointer (some ⟨rb, 0, none⟩), .int .i64 n] W fun e w' => ∃ x c, e = .returned (.tuple #[.int .i64 x, .int .i64 c]) ∧ Q x c w') := hC
  clear hC
  have hk1 : (kd == 1) = false := by simp; omega
  have hk2 : (kd == 2) = false := by simp; omega
  have hk3 : (kd == 3) = false := by simp; omega
  have hk4 : (kd == 4) = false := by simp; omega
  have hk5 : (kd == 5) = false := by simp; omega
  have hk6 : (kd == 6) = true := by simp; omega
  clear hk
  have hla : Below w.heap.size w (w.alloc (Obj.cells #[.int .i64 kd, .string tx, .int .i64 n] 42)) := below_alloc _ _
  have HZ : Hid (∀ W, Below (w.alloc (Obj.cells #[.int .i64 kd, .string tx, .int .i64 n] 42)).heap.size (w.alloc (Obj.cells #[.int .i64 kd, .string tx, .int .i64 n] 42)) W → W.heap[w.heap.size]? = some (.cells #[.int .i64 kd, .string tx, .int .i64 n] 42 (0, 0)) ∧ Below w.heap.size w W ∧ Sg B rb iv (.slice la ls.length lc) ls sh kv ks sl tk dp cv cs W) := fun W hW =>
    ⟨(hW.block _ (by simp)).trans (heapNew _ _), chain (below_alloc _ _) hW, hg.later (chain (below_alloc _ _) hW)⟩
  have r1 := (HZ.out _ (Below.refl _ _)).2.2.reg.cells.2.1
  have a0 := blkCell (HZ.out _ (Below.refl _ _)).1 0 _ rfl
  have a2 := blkCell (HZ.out _ (Below.refl _ _)).1 2 _ rfl
  clear hla
  go_enter Tryz.func16, Tryz.ntmps16
  go_wp2_with fail
  (first | go_at_call 35 | skip)
  refine (HC.out _ (below_alloc _ _)).mono ?_
  rintro e w2 ⟨x, c, rfl, hq⟩
  go_wp2
  go_ret2
  exact ⟨x, c, rfl, hq⟩
end Go.Proofs.YtabpkfhbnendjaaGreat

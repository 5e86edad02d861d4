/-
  Texts of this claim laid together: TlC.
-/
import Derived.Test.YtabpkfhbnendjaaGreatM2
/-
  What stands against a scan and a pay (the program's).
-/
namespace Go.Proofs.YtabpkfhbnendjaaGreat
open Go.ChangeShapes Go.WideShapes Go.ChangeAt Go.RowKit Go.Deep
set_option linter.unusedVariables false

set_option maxHeartbeats 4000000 in
theorem scanAgainst_any (i n am d age : Int) (ha : 0 ≤ am ∧ am ≤ 1000000000 ∧ 0 ≤ d ∧ d ≤ 1000000000) (la : Option Addr) (lc : Nat) (ls : List RLi) (sh : Int) (iv kv : Value) (sl tk dp c0 c1 c2 c3 c4 c5 c6 c7 c8 : Int) (hn : ∀ l ∈ ls, LiN l) (hl : ls.length ≤ 1000) (w : World) (hr : ReadsLi w.heap.size w la ls) :
    Calls Tryz.prog 114 #[.agg #[.int .i64 i, .int .i64 n, .int .i64 am, .int .i64 d, .int .i64 age], .agg #[.slice la ls.length lc, .int .i64 sh, iv, kv, .int .i64 sl, .int .i64 tk, .int .i64 dp, .int .i64 c0, .int .i64 c1, .int .i64 c2, .int .i64 c3, .int .i64 c4, .int .i64 c5, .int .i64 c6, .int .i64 c7, .int .i64 c8]] w fun e w' => e = .returned (.int .i64 (scanC ls sh am d age)) ∧ Below w.heap.size w w' := by
  have l1 : ∀ n : Nat, n < n + 1 + 1 := fun n => by omega
  have HT : Hid (∀ W, Below w.heap.size w W → Calls Tryz.prog 48 #[.agg #[.slice la ls.length lc, .int .i64 sh]] W fun e w' => e = .returned (.int .i64 (totL ls)) ∧ Below W.heap.size W w') := fun W hW => total_any la lc ls hn hl sh W (readsLi_later hr hW)
  have hD := fun w => due_any i n am d ⟨by omega, by omega, by omega, by omega⟩ w
  obtain ⟨t1, t2⟩ := totL_nn hn
  have hw : IntKind.i64.wrap (totL ls + (am + d)) = totL ls + (am + d) := wrap_id _ (by omega) (by omega)
  unfold scanC
  clear hr hn
  generalize totL ls = tot at *
  by_cases h1 : sh < age
  · rw [if_pos h1]
    go_enter Tryz.func114, Tryz.ntmps114
    go_wp2
    go_ret
    exact ⟨rfl, chain (below_alloc _ _) (below_alloc _ _)⟩
  rw [if_neg h1]
  by_cases h2 : (ls.length : Int) = 50
  · rw [if_pos h2]
    go_enter Tryz.func114, Tryz.ntmps114
    go_wp2
    go_ret
    exact ⟨rfl, chain (below_alloc _ _) (below_alloc _ _)⟩
  rw [if_neg h2]
  have h2' : ((ls.length : Int) == 50) = false := by simpa using h2
  have HQ : Hid (∀ W, Below ((w.alloc (Obj.cells #[.int .i64 i, .int .i64 n, .int .i64 am, .int .i64 d, .int .i64 age] 91)).alloc (Obj.cells #[.slice la ls.length lc, .int .i64 sh, iv, kv, .int .i64 sl, .int .i64 tk, .int .i64 dp, .int .i64 c0, .int .i64 c1, .int .i64 c2, .int .i64 c3, .int .i64 c4, .int .i64 c5, .int .i64 c6, .int .i64 c7, .int .i64 c8] 51)).heap.size ((w.alloc (Obj.cells #[.int .i64 i, .int .i64 n, .int .i64 am, .int .i64 d, .int .i64 age] 91)).alloc (Obj.cells #[.slice la ls.length lc, .int .i64 sh, iv, kv, .int .i64 sl, .int .i64 tk, .int .i64 dp, .int .i64 c0, .int .i64 c1, .int .i64 c2, .int .i64 c3, .int .i64 c4, .int .i64 c5, .int .i64 c6, .int .i64 c7, .int .i64 c8] 51)) W → (W.cell? ⟨w.heap.size, 0, none⟩ = some (.int .i64 i) ∧ W.cell? ⟨w.heap.size, 1, none⟩ = some (.int .i64 n) ∧ W.cell? ⟨w.heap.size, 2, none⟩ = some (.int .i64 am) ∧ W.cell? ⟨w.heap.size, 3, none⟩ = some (.int .i64 d)) ∧ RegAt W (w.heap.size + 1) la ls.length lc sh kv) := fun W hW => by
    have q : ∀ j v, #[Value.int .i64 i, .int .i64 n, .int .i64 am, .int .i64 d, .int .i64 age][j]? = some v → W.cell? ⟨w.heap.size, j, none⟩ = some v := fun j v hv => (hW.cell (p := ⟨w.heap.size, j, none⟩) (by simp; omega)).trans ((cellOld _ _ (by simp)).trans (cellNew _ _ _ _ rfl hv))
    exact ⟨⟨q _ _ rfl, q _ _ rfl, q _ _ rfl, q _ _ rfl⟩, regAt rfl rfl rfl hW⟩
  have HB2 : Hid (Below w.heap.size w ((w.alloc (Obj.cells #[.int .i64 i, .int .i64 n, .int .i64 am, .int .i64 d, .int .i64 age] 91)).alloc (Obj.cells #[.slice la ls.length lc, .int .i64 sh, iv, kv, .int .i64 sl, .int .i64 tk, .int .i64 dp, .int .i64 c0, .int .i64 c1, .int .i64 c2, .int .i64 c3, .int .i64 c4, .int .i64 c5, .int .i64 c6, .int .i64 c7, .int .i64 c8] 51))) := chain (below_alloc _ _) (below_alloc _ _)
  generalize hres : (if 1000000000 < tot + (am + d) then (11 : Int) else 0) = res
  have HRes : Hid ((if 1000000000 < tot + (am + d) then (11 : Int) else 0) = res) := hres
  clear hres
  go_enter Tryz.func114, Tryz.ntmps114
  go_wp2_with fail
  generalize ((w.alloc (Obj.cells #[.int .i64 i, .int .i64 n, .int .i64 am, .int .i64 d, .int .i64 age] 91)).alloc (Obj.cells #[.slice la ls.length lc, .int .i64 sh, iv, kv, .int .i64 sl, .int .i64 tk, .int .i64 dp, .int .i64 c0, .int .i64 c1, .int .i64 c2, .int .i64 c3, .int .i64 c4, .int .i64 c5, .int .i64 c6, .int .i64 c7, .int .i64 c8] 51)) = W2 at *
  refine wp_region_held_drew (S := fun W => Below W2.heap.size W2 W) (by kernel_rfl) (below_drew _) (fun hH => ?_)
  refine wpAnyH_take (i := 0) (v := .pointer (some ⟨w.heap.size + 1, 0, none⟩)) rfl (by kernel_rfl) (by kernel_rfl) (by kernel_rfl) (fun _ _ _ h => h) (Or.inl ⟨by rfl, fun w hSw => by go_simp⟩) hH ?_
  refine wpAnyH_take (i := 1) (v := .agg #[.slice la ls.length lc, .int .i64 sh]) rfl (by kernel_rfl) (by kernel_rfl) (by kernel_rfl) (fun _ _ _ h => h) (Or.inl ⟨by rfl, fun w hSw => by obtain ⟨_, q0, q1, _⟩ := HQ.out w hSw; go_simp⟩) hH ?_
  try simp only [Act.put, List.setIfInBounds_toArray, List.set_cons_zero, List.set_cons_succ, List.getElem_toArray, List.getElem_cons_succ, List.getElem_cons_zero]
  refine wpAnyH_take (i := 3) (v := .pointer (some ⟨w.heap.size, 0, none⟩)) rfl (by kernel_rfl) (by kernel_rfl) (by kernel_rfl) (fun _ _ _ h => h) (Or.inl ⟨by rfl, fun w hSw => by go_simp⟩) hH ?_
  try simp only [Act.put, List.setIfInBounds_toArray, List.set_cons_zero, List.set_cons_succ, List.getElem_toArray, List.getElem_cons_succ, List.getElem_cons_zero]
  refine wpAnyH_take (i := 4) (v := .agg #[.int .i64 i, .int .i64 n, .int .i64 am, .int .i64 d]) rfl (by kernel_rfl) (by kernel_rfl) (by kernel_rfl) (fun _ _ _ h => h) (Or.inl ⟨by rfl, fun w hSw => by obtain ⟨⟨q0, q1, q2, q3⟩, _⟩ := HQ.out w hSw; go_simp⟩) hH ?_
  try simp only [Act.put, List.setIfInBounds_toArray, List.set_cons_zero, List.set_cons_succ, List.getElem_toArray, List.getElem_cons_succ, List.getElem_cons_zero]
  refine wpAnyH_ready (rs := [2]) (by kernel_rfl) (by simp) ?_
  refine AllReadyH.cons rfl (fun K hK => ?_) AllReadyH.nil
  go_simp
  go_at_call 48
  refine (HT.out _ (chain HB2.out hH)).mono ?_
  rintro e w3 ⟨rfl, hb3⟩
  have hw3 := chain hH hb3
  refine hK.out _ _ hw3 (fun _ => ?_)
  clear hK K
  try simp only [Act.put, List.setIfInBounds_toArray, List.set_cons_zero, List.set_cons_succ, List.getElem_toArray, List.getElem_cons_succ, List.getElem_cons_zero]
  refine wpAnyH_ready (rs := [5]) (by kernel_rfl) (by simp) ?_
  refine AllReadyH.cons rfl (fun K hK => ?_) AllReadyH.nil
  go_simp
  go_at_call 44
  refine (hD _).mono ?_
  rintro e w4 ⟨rfl, hb4⟩
  have hw4 := chain hw3 hb4
  refine hK.out _ _ hw4 (fun _ => ?_)
  clear hK K
  try simp only [Act.put, List.setIfInBounds_toArray, List.set_cons_zero, List.set_cons_succ, List.getElem_toArray, List.getElem_cons_succ, List.getElem_cons_zero]
  refine wpAnyH_take (i := 6) (v := .int .i64 (tot + (am + d))) rfl (by kernel_rfl) (by kernel_rfl) (by kernel_rfl) (fun _ _ _ h => h) (Or.inl ⟨by rfl, fun w hSw => by go_simp⟩) hw4 ?_
  try simp only [Act.put, List.setIfInBounds_toArray, List.set_cons_zero, List.set_cons_succ, List.getElem_toArray, List.getElem_cons_succ, List.getElem_cons_zero]
  by_cases h3 : 1000000000 < tot + (am + d)
  · have HX : Hid ((11 : Int) = res) := by have := HRes.out; rwa [if_pos h3] at this
    have h3' : decide (1000000000 < tot + (am + d)) = true := decide_eq_true h3
    refine wpAnyH_take (i := 7) (v := .bool true) rfl (by kernel_rfl) (by kernel_rfl) (by kernel_rfl) (fun _ _ _ h => h) (Or.inl ⟨by rfl, fun w hSw => by go_simp⟩) hw4 ?_
    try simp only [Act.put, List.setIfInBounds_toArray, List.set_cons_zero, List.set_cons_succ, List.getElem_toArray, List.getElem_cons_succ, List.getElem_cons_zero]
    refine wpAnyH_take (i := 8) (v := .bool true) rfl (by kernel_rfl) (by kernel_rfl) (by kernel_rfl) (fun _ _ _ h => h) (Or.inl ⟨by rfl, fun w hSw => by go_simp⟩) hw4 ?_
    try simp only [Act.put, List.setIfInBounds_toArray, List.set_cons_zero, List.set_cons_succ, List.getElem_toArray, List.getElem_cons_succ, List.getElem_cons_zero]
    refine wpAnyH_done (by kernel_rfl) ?_ _
    try simp
    go_wp2
    go_ret
    exact ⟨ret_int HX.out, chain HB2.out hw4⟩
  · have HX : Hid ((0 : Int) = res) := by have := HRes.out; rwa [if_neg h3] at this
    have h3' : decide (1000000000 < tot + (am + d)) = false := decide_eq_false h3
    refine wpAnyH_take (i := 7) (v := .bool false) rfl (by kernel_rfl) (by kernel_rfl) (by kernel_rfl) (fun _ _ _ h => h) (Or.inl ⟨by rfl, fun w hSw => by go_simp⟩) hw4 ?_
    try simp only [Act.put, List.setIfInBounds_toArray, List.set_cons_zero, List.set_cons_succ, List.getElem_toArray, List.getElem_cons_succ, List.getElem_cons_zero]
    refine wpAnyH_take (i := 8) (v := .bool false) rfl (by kernel_rfl) (by kernel_rfl) (by kernel_rfl) (fun _ _ _ h => h) (Or.inl ⟨by rfl, fun w hSw => by go_simp⟩) hw4 ?_
    try simp only [Act.put, List.setIfInBounds_toArray, List.set_cons_zero, List.set_cons_succ, List.getElem_toArray, List.getElem_cons_succ, List.getElem_cons_zero]
    refine wpAnyH_done (by kernel_rfl) ?_ _
    try simp
    go_wp2
    go_ret
    exact ⟨ret_int HX.out, chain HB2.out hw4⟩
set_option maxHeartbeats 4000000 in
theorem payAgainst_any (n : Int) (la : Option Addr) (lc : Nat) (ls : List RLi) (sh : Int) (iv kv : Value) (sl tk dp c0 c1 c2 c3 c4 c5 c6 c7 c8 : Int) (hn : ∀ l ∈ ls, LiN l) (hl : ls.length ≤ 1000) (w : World) (hr : ReadsLi w.heap.size w la ls) :
    Calls Tryz.prog 119 #[.agg #[.int .i64 n], .agg #[.slice la ls.length lc, .int .i64 sh, iv, kv, .int .i64 sl, .int .i64 tk, .int .i64 dp, .int .i64 c0, .int .i64 c1, .int .i64 c2, .int .i64 c3, .int .i64 c4, .int .i64 c5, .int .i64 c6, .int .i64 c7, .int .i64 c8]] w fun e w' => e = .returned (.int .i64 (payC ls n)) ∧ Below w.heap.size w w' := by
  have l1 : ∀ n : Nat, n < n + 1 + 1 := fun n => by omega
  have HT : Hid (∀ W, Below w.heap.size w W → Calls Tryz.prog 48 #[.agg #[.slice la ls.length lc, .int .i64 sh]] W fun e w' => e = .returned (.int .i64 (totL ls)) ∧ Below W.heap.size W w') := fun W hW => total_any la lc ls hn hl sh W (readsLi_later hr hW)
  have hE := fun w => empty_any la ls.length lc sh w
  unfold payC
  clear hr hn
  generalize totL ls = tot at *
  have HQ : Hid (∀ W, Below ((w.alloc (Obj.cells #[.int .i64 n] 103)).alloc (Obj.cells #[.slice la ls.length lc, .int .i64 sh, iv, kv, .int .i64 sl, .int .i64 tk, .int .i64 dp, .int .i64 c0, .int .i64 c1, .int .i64 c2, .int .i64 c3, .int .i64 c4, .int .i64 c5, .int .i64 c6, .int .i64 c7, .int .i64 c8] 51)).heap.size ((w.alloc (Obj.cells #[.int .i64 n] 103)).alloc (Obj.cells #[.slice la ls.length lc, .int .i64 sh, iv, kv, .int .i64 sl, .int .i64 tk, .int .i64 dp, .int .i64 c0, .int .i64 c1, .int .i64 c2, .int .i64 c3, .int .i64 c4, .int .i64 c5, .int .i64 c6, .int .i64 c7, .int .i64 c8] 51)) W → W.cell? ⟨w.heap.size, 0, none⟩ = some (.int .i64 n) ∧ RegAt W (w.heap.size + 1) la ls.length lc sh kv) := fun W hW => by
    refine ⟨(hW.cell (p := ⟨w.heap.size, 0, none⟩) (by simp; omega)).trans ((cellOld _ _ (by simp)).trans (cellNew _ _ _ _ rfl rfl)), regAt rfl rfl rfl hW⟩
  have HB2 : Hid (Below w.heap.size w ((w.alloc (Obj.cells #[.int .i64 n] 103)).alloc (Obj.cells #[.slice la ls.length lc, .int .i64 sh, iv, kv, .int .i64 sl, .int .i64 tk, .int .i64 dp, .int .i64 c0, .int .i64 c1, .int .i64 c2, .int .i64 c3, .int .i64 c4, .int .i64 c5, .int .i64 c6, .int .i64 c7, .int .i64 c8] 51))) := chain (below_alloc _ _) (below_alloc _ _)
  by_cases h0 : (ls.length : Int) = 0
  · rw [if_pos h0]
    have hb : ((ls.length : Int) == 0) = true := by simpa using h0
    rw [hb] at hE
    go_enter Tryz.func119, Tryz.ntmps119
    go_wp2_with (go_at_call 112; refine (hE _).mono ?_; rintro e w2 ⟨rfl, hb2⟩)
    go_ret
    exact ⟨rfl, chain HB2.out hb2⟩
  rw [if_neg h0]
  generalize hres : (if n < tot then (19 : Int) else if 1000000000 < n then 5 else 0) = res
  have HRes : Hid ((if n < tot then (19 : Int) else if 1000000000 < n then 5 else 0) = res) := hres
  clear hres
  have hb : ((ls.length : Int) == 0) = false := by simpa using h0
  rw [hb] at hE
  go_enter Tryz.func119, Tryz.ntmps119
  go_wp2_with fail
  (first | go_at_call 112 | skip)
  generalize ((w.alloc (Obj.cells #[.int .i64 n] 103)).alloc (Obj.cells #[.slice la ls.length lc, .int .i64 sh, iv, kv, .int .i64 sl, .int .i64 tk, .int .i64 dp, .int .i64 c0, .int .i64 c1, .int .i64 c2, .int .i64 c3, .int .i64 c4, .int .i64 c5, .int .i64 c6, .int .i64 c7, .int .i64 c8] 51)) = W2 at *
  refine (hE _).mono ?_
  rintro e w2 ⟨rfl, hb2⟩
  have B2 : Hid (Below W2.heap.size W2 w2) := hb2
  clear hb2
  go_wp2_with fail
  refine wp_region_held_drew (S := fun W => Below W2.heap.size W2 W) (by kernel_rfl) (chain B2.out (below_drew _)) (fun hH => ?_)
  refine wpAnyH_take (i := 0) (v := .pointer (some ⟨w.heap.size, 0, none⟩)) rfl (by kernel_rfl) (by kernel_rfl) (by kernel_rfl) (fun _ _ _ h => h) (Or.inl ⟨by rfl, fun w hSw => by go_simp⟩) hH ?_
  refine wpAnyH_take (i := 1) (v := .int .i64 n) rfl (by kernel_rfl) (by kernel_rfl) (by kernel_rfl) (fun _ _ _ h => h) (Or.inl ⟨by rfl, fun w hSw => by obtain ⟨q0, _⟩ := HQ.out w hSw; go_simp⟩) hH ?_
  try simp only [Act.put, List.setIfInBounds_toArray, List.set_cons_zero, List.set_cons_succ, List.getElem_toArray, List.getElem_cons_succ, List.getElem_cons_zero]
  refine wpAnyH_take (i := 2) (v := .pointer (some ⟨w.heap.size + 1, 0, none⟩)) rfl (by kernel_rfl) (by kernel_rfl) (by kernel_rfl) (fun _ _ _ h => h) (Or.inl ⟨by rfl, fun w hSw => by go_simp⟩) hH ?_
  try simp only [Act.put, List.setIfInBounds_toArray, List.set_cons_zero, List.set_cons_succ, List.getElem_toArray, List.getElem_cons_succ, List.getElem_cons_zero]
  refine wpAnyH_take (i := 3) (v := .agg #[.slice la ls.length lc, .int .i64 sh]) rfl (by kernel_rfl) (by kernel_rfl) (by kernel_rfl) (fun _ _ _ h => h) (Or.inl ⟨by rfl, fun w hSw => by obtain ⟨_, q0, q1, _⟩ := HQ.out w hSw; go_simp⟩) hH ?_
  try simp only [Act.put, List.setIfInBounds_toArray, List.set_cons_zero, List.set_cons_succ, List.getElem_toArray, List.getElem_cons_succ, List.getElem_cons_zero]
  refine wpAnyH_ready (rs := [4]) (by kernel_rfl) (by simp) ?_
  refine AllReadyH.cons rfl (fun K hK => ?_) AllReadyH.nil
  go_simp
  go_at_call 48
  refine (HT.out _ (chain HB2.out hH)).mono ?_
  rintro e w3 ⟨rfl, hb3⟩
  have hw3 := chain hH hb3
  refine hK.out _ _ hw3 (fun _ => ?_)
  clear hK K
  try simp only [Act.put, List.setIfInBounds_toArray, List.set_cons_zero, List.set_cons_succ, List.getElem_toArray, List.getElem_cons_succ, List.getElem_cons_zero]
  by_cases h3 : n < tot
  · have HX : Hid ((19 : Int) = res) := by have := HRes.out; rwa [if_pos h3] at this
    have h3' : decide (n < tot) = true := decide_eq_true h3
    refine wpAnyH_take (i := 5) (v := .bool true) rfl (by kernel_rfl) (by kernel_rfl) (by kernel_rfl) (fun _ _ _ h => h) (Or.inl ⟨by rfl, fun w hSw => by go_simp⟩) hw3 ?_
    try simp only [Act.put, List.setIfInBounds_toArray, List.set_cons_zero, List.set_cons_succ, List.getElem_toArray, List.getElem_cons_succ, List.getElem_cons_zero]
    refine wpAnyH_take (i := 6) (v := .bool true) rfl (by kernel_rfl) (by kernel_rfl) (by kernel_rfl) (fun _ _ _ h => h) (Or.inl ⟨by rfl, fun w hSw => by go_simp⟩) hw3 ?_
    try simp only [Act.put, List.setIfInBounds_toArray, List.set_cons_zero, List.set_cons_succ, List.getElem_toArray, List.getElem_cons_succ, List.getElem_cons_zero]
    refine wpAnyH_done (by kernel_rfl) ?_ _
    try simp
    go_wp2
    go_ret
    exact ⟨ret_int HX.out, chain HB2.out hw3⟩
  · skip
    have h3' : decide (n < tot) = false := decide_eq_false h3
    refine wpAnyH_take (i := 5) (v := .bool false) rfl (by kernel_rfl) (by kernel_rfl) (by kernel_rfl) (fun _ _ _ h => h) (Or.inl ⟨by rfl, fun w hSw => by go_simp⟩) hw3 ?_
    try simp only [Act.put, List.setIfInBounds_toArray, List.set_cons_zero, List.set_cons_succ, List.getElem_toArray, List.getElem_cons_succ, List.getElem_cons_zero]
    refine wpAnyH_take (i := 6) (v := .bool false) rfl (by kernel_rfl) (by kernel_rfl) (by kernel_rfl) (fun _ _ _ h => h) (Or.inl ⟨by rfl, fun w hSw => by go_simp⟩) hw3 ?_
    try simp only [Act.put, List.setIfInBounds_toArray, List.set_cons_zero, List.set_cons_succ, List.getElem_toArray, List.getElem_cons_succ, List.getElem_cons_zero]
    refine wpAnyH_done (by kernel_rfl) ?_ _
    try simp
    obtain ⟨q0, _⟩ := HQ.out w3 hw3
    by_cases h4 : 1000000000 < n
    · have HX : Hid ((5 : Int) = res) := by have := HRes.out; rwa [if_neg h3, if_pos h4] at this
      go_wp2
      go_ret
      exact ⟨ret_int HX.out, chain HB2.out hw3⟩
    · have HX : Hid ((0 : Int) = res) := by have := HRes.out; rwa [if_neg h3, if_neg h4] at this
      go_wp2
      go_ret
      exact ⟨ret_int HX.out, chain HB2.out hw3⟩
end Go.Proofs.YtabpkfhbnendjaaGreat

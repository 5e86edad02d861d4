/-
  For every list of numbers the law FnExactWatchOf answers true: the program's WatchOf answers as the specification's, nan for nan and nought for nought of the same sign, and writes into no argument; with no condition.
-/
import Derived.Test.YtillkllkekhmfaaFlF
import Derived.Test.YtillkllkekhmfaaFlG
namespace Go.Proofs.Ytillkllkekhmfaa
open Go.ChangeShapes Go.WideShapes Go.ChangeAt Go.RowKit Go.Joins
set_option linter.unusedVariables false
attribute [local go_sem] run_store_float
theorem eqWatch_any (n g : Int) (m lo hi : Nat) (w : World) :
    Calls Try.prog 21 #[.agg #[.int .i64 n, .int .i64 g, .float .f64 m, .float .f64 lo, .float .f64 hi], .agg #[.int .i64 n, .int .i64 g, .float .f64 m, .float .f64 lo, .float .f64 hi]] w fun e w' => e = .returned (.bool true) ∧ Below w.heap.size w w' := by
  have HS : Hid (∀ x W, Calls Try.prog 28 #[.float .f64 x, .float .f64 x] W fun e w' => e = .returned (.bool true) ∧ Below W.heap.size W w') := fun x W => sameF_any x W
  have hn : (n != n) = false := by simp
  have hg : (g != g) = false := by simp
  obtain ⟨W0, hW0⟩ : ∃ W0, W0 = (w.alloc (Obj.cells #[.int .i64 n, .int .i64 g, .float .f64 m, .float .f64 lo, .float .f64 hi] 28)).alloc (Obj.cells #[.int .i64 n, .int .i64 g, .float .f64 m, .float .f64 lo, .float .f64 hi] 28) := ⟨_, rfl⟩
  have HW0 : Hid (W0 = (w.alloc (Obj.cells #[.int .i64 n, .int .i64 g, .float .f64 m, .float .f64 lo, .float .f64 hi] 28)).alloc (Obj.cells #[.int .i64 n, .int .i64 g, .float .f64 m, .float .f64 lo, .float .f64 hi] 28)) := hW0
  have hz : W0.heap.size = w.heap.size + 1 + 1 := by rw [hW0]; simp
  have HB : Hid (Below w.heap.size w W0) := by show Below _ _ _; rw [hW0]; exact chain (below_alloc _ _) (below_alloc _ _)
  have g0 : W0.heap[w.heap.size]? = some (.cells #[.int .i64 n, .int .i64 g, .float .f64 m, .float .f64 lo, .float .f64 hi] 28 (0, 0)) := by rw [hW0]; exact (Below.heap_alloc _ _ _ (by simp)).trans (heapNew _ _)
  have g1 : W0.heap[w.heap.size + 1]? = some (.cells #[.int .i64 n, .int .i64 g, .float .f64 m, .float .f64 lo, .float .f64 hi] 28 (0, 0)) := by
    rw [hW0]
    have := heapNew (w.alloc (Obj.cells #[.int .i64 n, .int .i64 g, .float .f64 m, .float .f64 lo, .float .f64 hi] 28)) (Obj.cells #[.int .i64 n, .int .i64 g, .float .f64 m, .float .f64 lo, .float .f64 hi] 28)
    rwa [World.size_alloc] at this
  have HC : Hid (∀ W, Below W0.heap.size W0 W → (W.cell? ⟨w.heap.size, 0, none⟩ = some (.int .i64 n) ∧ W.cell? ⟨w.heap.size, 1, none⟩ = some (.int .i64 g) ∧ W.cell? ⟨w.heap.size, 2, none⟩ = some (.float .f64 m) ∧ W.cell? ⟨w.heap.size, 3, none⟩ = some (.float .f64 lo) ∧ W.cell? ⟨w.heap.size, 4, none⟩ = some (.float .f64 hi)) ∧ W.cell? ⟨w.heap.size + 1, 0, none⟩ = some (.int .i64 n) ∧ W.cell? ⟨w.heap.size + 1, 1, none⟩ = some (.int .i64 g) ∧ W.cell? ⟨w.heap.size + 1, 2, none⟩ = some (.float .f64 m) ∧ W.cell? ⟨w.heap.size + 1, 3, none⟩ = some (.float .f64 lo) ∧ W.cell? ⟨w.heap.size + 1, 4, none⟩ = some (.float .f64 hi)) := fun W hb => by
    have k0 := (hb.block _ (by omega)).trans g0
    have k1 := (hb.block _ (by omega)).trans g1
    exact ⟨⟨blkCell k0 0 _ rfl, blkCell k0 1 _ rfl, blkCell k0 2 _ rfl, blkCell k0 3 _ rfl, blkCell k0 4 _ rfl⟩, blkCell k1 0 _ rfl, blkCell k1 1 _ rfl, blkCell k1 2 _ rfl, blkCell k1 3 _ rfl, blkCell k1 4 _ rfl⟩
  clear hW0 g0 g1 hz
  go_enter Try.func21, Try.ntmps21
  go_upto_region 1 with fail
  rw [← HW0.out]
  obtain ⟨⟨a0, a1, a2, a3, a4⟩, b0, b1, b2, b3, b4⟩ := HC.out W0 (Below.refl _ _)
  go_wp2_with fail
  (first | go_at_call 28 | skip)
  refine (HS.out _ _).mono ?_
  rintro e w1 ⟨rfl, hb1⟩
  have H1 : Hid (Below W0.heap.size W0 w1) := hb1
  clear a0 a1 a2 a3 a4 b0 b1 b2 b3 b4 hb1
  obtain ⟨⟨a0, a1, a2, a3, a4⟩, b0, b1, b2, b3, b4⟩ := HC.out w1 H1.out
  go_wp2_with fail
  (first | go_at_call 28 | skip)
  refine (HS.out _ _).mono ?_
  rintro e w2 ⟨rfl, hb2⟩
  have H2 : Hid (Below W0.heap.size W0 w2) := chain H1.out hb2
  clear a0 a1 a2 a3 a4 b0 b1 b2 b3 b4 hb2
  obtain ⟨⟨a0, a1, a2, a3, a4⟩, b0, b1, b2, b3, b4⟩ := HC.out w2 H2.out
  go_wp2_with fail
  (first | go_at_call 28 | skip)
  refine (HS.out _ _).mono ?_
  rintro e w3 ⟨rfl, hb3⟩
  go_wp2
  go_ret
  exact ⟨rfl, chain HB.out (chain H2.out hb3)⟩
namespace WatchLaw
set_option maxHeartbeats 8000000 in
theorem walk' (a : Option Addr) (cap : Nat) (xs : List Nat) (hl : (xs.length : Int) ≤ 1048576) (w : World) (hr : ReadsF w.heap.size w a xs) :
    Calls Try.prog 6 #[.slice a xs.length cap] w fun e w' => e = .returned (.bool true) ∧ Below w.heap.size w w' := by
  have HTo : Hid (∀ W, Below w.heap.size w W → Calls Try.prog 20 #[.slice a xs.length cap] W fun e w' => e = .returned (.slice (some ⟨W.heap.size, 0, none⟩) xs.length xs.length) ∧ Below W.heap.size W w' ∧ ReadsF w'.heap.size w' (some ⟨W.heap.size, 0, none⟩) xs) := fun W hb => (toFlts_any a cap xs (by omega) W (hr.later hb)).mono (by
    rintro e w' ⟨rfl, hb1, hz1, hi1, hf1⟩
    exact ⟨rfl, hb1, .inr ⟨_, _, rfl, hz1, hi1⟩⟩)
  have HI : Hid (∀ W b cb, ReadsF W.heap.size W b xs → Calls Try.prog 10 #[.slice b xs.length cb] W (AnsWt W (wtA xs))) := fun W b cb h => implWatch_any b cb xs (by omega) W h
  have HSp : Hid (∀ W b cb, ReadsF W.heap.size W b xs → Calls Try.prog 11 #[.slice b xs.length cb] W (AnsWt W (wtA xs))) := fun W b cb h => specWatch_any b cb xs (by omega) W h
  have HEq : Hid (∀ W b cb d cd, ReadsF W.heap.size W b xs → ReadsF W.heap.size W d xs → Calls Try.prog 22 #[.slice b xs.length cb, .slice d xs.length cd] W fun e w' => e = .returned (.bool true) ∧ Below W.heap.size W w') := fun W b cb d cd h k => eqFlts_any b d cb cd xs (by omega) W h k
  unfold AnsWt at HI HSp
  generalize wtA xs = r at *
  obtain ⟨n, g, m, lo, hi, c⟩ := r
  dsimp only at HI HSp
  have HEw : Hid (∀ W, Calls Try.prog 21 #[.agg #[.int .i64 n, .int .i64 g, .float .f64 m, .float .f64 lo, .float .f64 hi], .agg #[.int .i64 n, .int .i64 g, .float .f64 m, .float .f64 lo, .float .f64 hi]] W fun e w' => e = .returned (.bool true) ∧ Below W.heap.size W w') := fun W => eqWatch_any n g m lo hi W
  clear hr
  have hl' : ¬ (1048576 : Int) < (xs.length : Int) := by omega
  have hcc : (c != c) = false := by simp
  go_enter Try.func6, Try.ntmps6
  go_wp2_with fail
  (first | go_at_call 20 | skip)
  refine (HTo.out _ (Below.refl _ _)).mono ?_
  rintro e w1 ⟨rfl, hb1, hr1⟩
  have B1 : Hid (Below w.heap.size w w1) := hb1
  have R1 : Hid (ReadsF w1.heap.size w1 (some ⟨w.heap.size, 0, none⟩) xs) := hr1
  clear hb1 hr1
  go_wp2_with fail
  (first | go_at_call 11 | skip)
  refine (HSp.out _ _ _ R1.out).mono ?_
  rintro e w2 ⟨rfl, hb2⟩
  have B2 : Hid (Below w.heap.size w w2) := chain B1.out hb2
  clear hb2 R1 B1
  go_upto_region 4 with fail
  obtain ⟨w3, hw3⟩ : ∃ w3, w3 = w2.alloc (Obj.cells #[.int .i64 n, .int .i64 g, .float .f64 m, .float .f64 lo, .float .f64 hi] 28) := ⟨_, rfl⟩
  have g3 : w3.heap[w2.heap.size]? = some (.cells #[.int .i64 n, .int .i64 g, .float .f64 m, .float .f64 lo, .float .f64 hi] 28 (0, 0)) := by rw [hw3]; exact heapNew _ _
  have B3 : Hid (Below w.heap.size w w3) := by show Below _ _ _; rw [hw3]; exact chain B2.out (below_alloc _ _)
  have H3 : Hid (w3.heap[w2.heap.size]? = some (.cells #[.int .i64 n, .int .i64 g, .float .f64 m, .float .f64 lo, .float .f64 hi] 28 (0, 0))) := g3
  rw [← hw3]
  clear hw3 g3 B2
  go_wp2_with fail
  (first | go_at_call 20 | skip)
  refine (HTo.out _ B3.out).mono ?_
  rintro e w4 ⟨rfl, hb4, hr4⟩
  have B4 : Hid (Below w.heap.size w w4) := chain B3.out hb4
  have H4 : Hid (w4.heap[w2.heap.size]? = some (.cells #[.int .i64 n, .int .i64 g, .float .f64 m, .float .f64 lo, .float .f64 hi] 28 (0, 0))) := (hb4.block _ (blkLt H3.out)).trans H3.out
  have R4 : Hid (ReadsF w4.heap.size w4 (some ⟨w3.heap.size, 0, none⟩) xs) := hr4
  clear hb4 hr4 H3 B3
  generalize w3.heap.size = X at *
  go_wp2_with fail
  (first | go_at_call 10 | skip)
  refine (HI.out _ _ _ R4.out).mono ?_
  rintro e w5 ⟨rfl, hb5⟩
  have B5 : Hid (Below w.heap.size w w5) := chain B4.out hb5
  have H5 : Hid (w5.heap[w2.heap.size]? = some (.cells #[.int .i64 n, .int .i64 g, .float .f64 m, .float .f64 lo, .float .f64 hi] 28 (0, 0))) := (hb5.block _ (blkLt H4.out)).trans H4.out
  have R5 : Hid (ReadsF w5.heap.size w5 (some ⟨X, 0, none⟩) xs) := R4.out.later hb5
  clear hb5 H4 B4 R4
  generalize w2.heap.size = D at *
  go_upto_region 6 with fail
  obtain ⟨w6, hw6⟩ : ∃ w6, w6 = w5.alloc (Obj.cells #[.int .i64 n, .int .i64 g, .float .f64 m, .float .f64 lo, .float .f64 hi] 28) := ⟨_, rfl⟩
  have g6 : w6.heap[w5.heap.size]? = some (.cells #[.int .i64 n, .int .i64 g, .float .f64 m, .float .f64 lo, .float .f64 hi] 28 (0, 0)) := by rw [hw6]; exact heapNew _ _
  have hb6 : Below w5.heap.size w5 w6 := by rw [hw6]; exact below_alloc _ _
  have B6 : Hid (Below w.heap.size w w6) := chain B5.out hb6
  have h6 := (hb6.block _ (blkLt H5.out)).trans H5.out
  have R6 : Hid (ReadsF w6.heap.size w6 (some ⟨X, 0, none⟩) xs) := R5.out.later hb6
  rw [← hw6]
  have a0 := blkCell g6 0 _ rfl
  have a1 := blkCell g6 1 _ rfl
  have a2 := blkCell g6 2 _ rfl
  have a3 := blkCell g6 3 _ rfl
  have a4 := blkCell g6 4 _ rfl
  have b0 := blkCell h6 0 _ rfl
  have b1 := blkCell h6 1 _ rfl
  have b2 := blkCell h6 2 _ rfl
  have b3 := blkCell h6 3 _ rfl
  have b4 := blkCell h6 4 _ rfl
  simp only [List.getElem_toArray, List.getElem_cons_zero, List.getElem_cons_succ] at a0 a1 a2 a3 a4 b0 b1 b2 b3 b4
  clear hw6 g6 hb6 h6 H5 B5 R5
  generalize w5.heap.size = E at *
  go_wp2_with fail
  (first | go_at_call 21 | skip)
  refine (HEw.out _).mono ?_
  rintro e w7 ⟨rfl, hb7⟩
  have B7 : Hid (Below w.heap.size w w7) := chain B6.out hb7
  have R7 : Hid (ReadsF w7.heap.size w7 (some ⟨X, 0, none⟩) xs) := R6.out.later hb7
  clear a0 a1 a2 a3 a4 b0 b1 b2 b3 b4 hb7 B6 R6
  go_wp2_with fail
  (first | go_at_call 20 | skip)
  refine (HTo.out _ B7.out).mono ?_
  rintro e w8 ⟨rfl, hb8, hr8⟩
  have B8 : Hid (Below w.heap.size w w8) := chain B7.out hb8
  have R8 : Hid (ReadsF w8.heap.size w8 (some ⟨X, 0, none⟩) xs) := R7.out.later hb8
  have Q8 : Hid (ReadsF w8.heap.size w8 (some ⟨w7.heap.size, 0, none⟩) xs) := hr8
  clear hb8 hr8 B7 R7
  generalize w7.heap.size = Y at *
  go_wp2_with fail
  (first | go_at_call 22 | skip)
  refine (HEq.out _ _ _ _ _ R8.out Q8.out).mono ?_
  rintro e w9 ⟨rfl, hb9⟩
  go_wp2
  go_ret
  exact ⟨rfl, chain B8.out hb9⟩
theorem walk (a : Option Addr) (len cap : Nat) (zs : List Nat) (w : World) (hr : IsFls w a len cap zs) :
    Calls Try.prog 6 #[.slice a len cap] w fun e w' => e = .returned (.bool true) ∧ Below w.heap.size w w' := by
  obtain ⟨rfl, h2, h3, h4⟩ := hr
  unfold maxLen at h3
  by_cases h : (1048576 : Int) < (zs.length : Int)
  · clear h4
    go_enter Try.func6, Try.ntmps6
    go_wp2
    go_ret
    exact ⟨rfl, Below.refl _ _⟩
  · exact walk' a cap zs (by omega) w h4

theorem own : ownKnob Try.prog.godebug = none := by kernel_rfl
theorem laidOut : laidOutB Try.prog = true := by kernel_rfl

set_option maxRecDepth 100000 in
theorem lifted (os : Os) (started : os.Started) (H : Type) (enc : TypeId × Value → H) :
    ReturnsInHanded {} Try.checked os 6 .any (Rows.fnExactWatchOfSpec.pre6 enc Try.prog Try.f6 Rows.fnExactWatchOfRow.domain false) (Rows.fnExactWatchOfSpec.post enc Try.prog Try.f6 false true false false) := by
  refine returnsInHanded_of_change (C := Try.checked) own started (by kernel_rfl) Try.func6
    (ChangeSpec.witness6 (enc := enc) (C := Try.checked) false ⟨#[], #[.slice none 0 0], []⟩ 8 (by kernel_rfl) (by kernel_rfl) (by kernel_rfl) (by kernel_rfl)) ?_
  intro W base args ds gs before hval0 hW hcnd _
  have hval : ∀ (j : Nat) t v, Try.f6.params[j]? = some t → args[j]? = some v → Value.okWide Try.prog W .any base t v := hval0
  have hW' := hW
  obtain ⟨p, q, hA0, hV, rfl, hfz, hnd⟩ := hW
  have hA : DataW.TrodAll enc Try.prog W 0 (fun _ => true) true Try.f6.params.toList args.toList ds p := hA0
  rw [Try.params6] at hA hval
  obtain ⟨v0, vs0, d0, ds0, p0, q0, hargs, rfl, rfl, h0, r0⟩ := trodAll_cons hA
  obtain ⟨rfl, rfl, rfl⟩ := trodAll_nil r0
  obtain rfl : args = #[v0] := by cases args; simp_all
  obtain ⟨rfl, rfl⟩ := trodVars_none hV
  have k0 := h0
  have lt0 : ∀ x ∈ p0, x.block < W.heap.size := by obtain ⟨m, hm⟩ := k0; exact DataW.trod_lt m _ _ _ hm
  obtain ⟨a0, len0, cap0, rfl⟩ := okWide_slice Try.underlying23 (hval 0 23 v0 rfl rfl)
  obtain ⟨z0, w0⟩ : ∃ zs, IsFls W a0 len0 cap0 zs := by
    obtain ⟨fuel, hf⟩ := h0
    exact openFls (by simpa [Value.cells] using hf)
  clear hA0 hval0
  refine (walk a0 len0 cap0 z0 W w0).mono fun e W' ⟨he, bel⟩ => ?_
  subst he
  exact ⟨_, rfl, _, _, _, [], _, [], hW', trodAll_mk1 (shut_bool Try.underlying4 _), (trodAll_cons_mk (Below.trod laidOut (by kernel_rfl) (of_decide_eq_true (by kernel_rfl)) k0 bel lt0) trodAll_mk0), rfl, bel.frame _, fun h => by cases h⟩

theorem over : Rows.fnExactWatchOfRow.holds Try.pinned (OpenSpec.ofChange Rows.fnExactWatchOfSpec) :=
  OpenClaim.holds_of_wide 6 Try.f6 rfl rfl rfl rfl rfl rfl rfl ⟨rfl, rfl, rfl, rfl, rfl⟩ rfl rfl rfl rfl rfl (by kernel_rfl) Try.func6 (by kernel_rfl)
    (of_decide_eq_true (by kernel_rfl)) (by unfold Func.isWrapper; first | (rw [if_pos (by decide +kernel)]; kernel_rfl) | (rw [if_neg (by decide +kernel)]; exact ⟨rfl, rfl⟩))
    (fun os started H enc _ => lifted os started H enc)
end WatchLaw

theorem fnExactWatchOf_holds : Rows.FnExactWatchOfSaid := WatchLaw.over
end Go.Proofs.Ytillkllkekhmfaa

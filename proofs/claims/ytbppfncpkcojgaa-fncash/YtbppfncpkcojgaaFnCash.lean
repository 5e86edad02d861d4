/-
  For every two lists of bytes the law FnCash answers true: what the program rounds a drawn amount to is a multiple of the step, no farther than half of it, and the same below 0; with no condition.
-/
import Derived.Test.YtbppfncpkcojgaaCash
import Derived.Test.YtbppfncpkcojgaaSrc
namespace Go.Proofs.Ytbppfncpkcojgaa
open Go.ChangeShapes Go.WideShapes Go.ChangeAt Go.RowKit Go.Joins
set_option linter.unusedVariables false
namespace FnCash

theorem cash_facts (n s : Int) (h1 : -150000 ≤ n) (h2 : n ≤ 150000) (s1 : 1 ≤ s) (s2 : s ≤ 100) :
    cv1 n s = cv n s ∧ cv2 n s = 0 ∧ -151000 ≤ cv n s ∧ cv n s ≤ 151000 ∧ (cv n s).tmod s = 0 ∧ 2 * (cv n s - n) ≤ s ∧ -(2 * (cv n s - n)) ≤ s := by
  obtain ⟨p1, p2, p3⟩ := div_parts n s s1
  have hA : amtB n = true := (amtB_iff n).mpr (by omega)
  have hS : stepB s = true := (stepB_iff s).mpr (by omega)
  have hcv : (cup (n / s) (n % s) s = true ∧ cv n s = n / s * s + s ∧ s ≤ 2 * (n % s)) ∨ (cup (n / s) (n % s) s = false ∧ cv n s = n / s * s ∧ 2 * (n % s) ≤ s) := by
    by_cases hc : cup (n / s) (n % s) s = true
    · left
      refine ⟨hc, ?_, ?_⟩
      · unfold cv cq; rw [if_pos hc, Int.mul_add, Int.mul_comm]; omega
      · unfold cup at hc; simp at hc; omega
    · right
      refine ⟨by simpa using hc, ?_, ?_⟩
      · unfold cv cq; rw [if_neg hc, Int.mul_comm]
      · unfold cup at hc; simp at hc; omega
  have hb : -151000 ≤ cv n s ∧ cv n s ≤ 151000 := by omega
  have hT : amtB (cv n s) = true := (amtB_iff _).mpr (by omega)
  have hm : (cv n s).tmod s = 0 := by unfold cv; exact Int.mul_tmod_right _ _
  refine ⟨?_, ?_, hb.1, hb.2, hm, by omega, by omega⟩
  · unfold cv1 told1; rw [hA, hS, hT]; rfl
  · unfold cv2 told2; rw [if_pos hA, if_pos hS, if_pos hT]

theorem cv_zero (s : Int) (hs : 1 ≤ s) : cv 0 s = 0 := by
  have h : cup (0 / s) (0 % s) s = false := by unfold cup; simp; omega
  unfold cv cq
  rw [h]; simp

theorem cv_flip (n s : Int) (hs : 1 ≤ s) : cv (-n) s = -(cv n s) := by
  rcases (by omega : n < 0 ∨ n = 0 ∨ 0 < n) with h | h | h
  · exact cv_neg n s h hs
  · subst h; simp [cv_zero s hs]
  · have := cv_neg (-n) s (by omega) hs
    rw [Int.neg_neg] at this
    omega

set_option maxHeartbeats 800000 in
theorem walk (a0 : Option Addr) (len0 cap0 : Nat) (z0 : List Int) (a1 : Option Addr) (len1 cap1 : Nat) (z1 : List Int) (w : World) (r0 : RowB w.heap.size w a0 len0 z0) (r1 : RowB w.heap.size w a1 len1 z1) :
    Calls Try.prog 4 #[.slice a0 len0 cap0, .slice a1 len1 cap1] w fun e w' => e = .returned (.bool true) ∧ Below w.heap.size w w' := by
  have hl0 := r0.1
  have hl1 := r1.1
  unfold maxLen at hl0 hl1
  rcases (by omega : (1048576 : Int) < (len0 : Int) ∨ ((len0 : Int) ≤ 1048576 ∧ (1048576 : Int) < (len1 : Int)) ∨ ((len0 : Int) ≤ 1048576 ∧ (len1 : Int) ≤ 1048576)) with h | ⟨h, h'⟩ | ⟨h, h'⟩
  · go_enter Try.func4, Try.ntmps4
    go_wp2
    go_ret
    exact ⟨rfl, Below.refl _ _⟩
  · go_enter Try.func4, Try.ntmps4
    go_wp2
    go_ret
    exact ⟨rfl, Below.refl _ _⟩
  · have hamt := amountOf_any a0 len0 cap0 z0 w r0
    go_enter Try.func4, Try.ntmps4
    go_wp2_with fail
    go_at_call 6
    refine hamt.mono ?_
    rintro e w1 ⟨n, N, D, rfl, hn1, hn2, _, _, _, _, hb1⟩
    clear hamt
    go_wp2_with fail
    go_at_call 9
    refine (at_any w.heap.size a1 len1 cap1 z1 0 100 _ (r1.below ?hb) (by omega) (by omega) (by omega)).mono ?_
    case hb => exact hb1.alloc hb1.size _
    rintro e w2 ⟨x, rfl, ⟨hx0, hx1⟩, hb2⟩
    have hx2 : x < 100 := by omega
    obtain ⟨f1, f2, f3, f4, f5, f6, f7⟩ := cash_facts n (1 + x) (by omega) (by omega) (by omega) (by omega)
    obtain ⟨g1, g2, _, _, _, _, _⟩ := cash_facts (-n) (1 + x) (by omega) (by omega) (by omega) (by omega)
    rw [cv_flip n (1 + x) (by omega)] at g1
    have hC1 : ∀ w, Calls Try.prog 10 #[.int .i64 n, .int .i64 (1 + x)] w fun e w' => e = .returned (.tuple #[.int .i64 (cv n (1 + x)), .int .i64 0]) ∧ Below w.heap.size w w' := fun w => by
      have := implCash_any n (1 + x) w
      rw [f1, f2] at this; exact this
    have hC2 : ∀ w, Calls Try.prog 10 #[.int .i64 (-n), .int .i64 (1 + x)] w fun e w' => e = .returned (.tuple #[.int .i64 (-(cv n (1 + x))), .int .i64 0]) ∧ Below w.heap.size w w' := fun w => by
      have := implCash_any (-n) (1 + x) w
      rw [g1, g2] at this; exact this
    clear f1 f2 g1 g2
    generalize cv n (1 + x) = v at *
    replace hb2 := (hb1.alloc hb1.size _).trans hb2
    clear hb1 hx1
    go_wp2_with fail
    go_at_call 10
    refine (hC1 _).mono ?_
    rintro e w3 ⟨rfl, hb3⟩
    replace hb3 := chain hb2 hb3
    clear hb2 hC1
    go_wp2_with fail
    go_at_call 10
    refine (hC2 _).mono ?_
    rintro e w4 ⟨rfl, hb4⟩
    replace hb4 := chain hb3 hb4
    clear hb3 hC2
    go_wp2
    go_ret
    exact ⟨rfl, hb4⟩

theorem own : ownKnob Try.prog.godebug = none := by kernel_rfl
theorem laidOut : laidOutB Try.prog = true := by kernel_rfl

set_option maxRecDepth 100000 in
theorem lifted (os : Os) (started : os.Started) (H : Type) (enc : TypeId × Value → H) :
    ReturnsInHanded {} Try.checked os 4 .any (Rows.fnCashSpec.pre6 enc Try.prog Try.f4 Rows.fnCashRow.domain false) (Rows.fnCashSpec.post enc Try.prog Try.f4 false true false false) := by
  refine returnsInHanded_of_change (C := Try.checked) own started (by kernel_rfl) Try.func4
    (ChangeSpec.witness6 (enc := enc) (C := Try.checked) false ⟨#[], #[.slice none 0 0, .slice none 0 0], []⟩ 8 (by kernel_rfl) (by kernel_rfl) (by kernel_rfl) (by kernel_rfl)) ?_
  intro W base args ds gs before hval0 hW hcnd _
  have hval : ∀ (j : Nat) t v, Try.f4.params[j]? = some t → args[j]? = some v → Value.okWide Try.prog W .any base t v := hval0
  have hW' := hW
  obtain ⟨p, q, hA0, hV, rfl, hfz, hnd⟩ := hW
  have hA : DataW.TrodAll enc Try.prog W 0 (fun _ => true) true Try.f4.params.toList args.toList ds p := hA0
  rw [Try.params4] at hA hval
  obtain ⟨v0, vs0, d0, ds0, p0, q0, hargs, rfl, rfl, h0, r0⟩ := trodAll_cons hA
  obtain ⟨v1, vs1, d1, ds1, p1, q1, rfl, rfl, rfl, h1, r1⟩ := trodAll_cons r0
  obtain ⟨rfl, rfl, rfl⟩ := trodAll_nil r1
  obtain rfl : args = #[v0, v1] := by cases args; simp_all
  obtain ⟨rfl, rfl⟩ := trodVars_none hV
  have k0 := h0
  have lt0 : ∀ x ∈ p0, x.block < W.heap.size := by obtain ⟨m, hm⟩ := k0; exact DataW.trod_lt m _ _ _ hm
  have k1 := h1
  have lt1 : ∀ x ∈ p1, x.block < W.heap.size := by obtain ⟨m, hm⟩ := k1; exact DataW.trod_lt m _ _ _ hm
  obtain ⟨a0, len0, cap0, rfl⟩ := okWide_slice Try.underlying22 (hval 0 22 v0 rfl rfl)
  obtain ⟨z0, w0⟩ : ∃ zs, IsRow .u8 W a0 len0 cap0 zs := by
    obtain ⟨fuel, hf⟩ := h0
    rcases open_ints Try.underlying22 Try.underlying5 (by kernel_rfl) hf with ⟨hcs, _⟩ | ⟨x, l, c, zs, hcs, _, hl, hm, hz, _, hcell, hwz⟩
    · simp [Value.cells] at hcs
      obtain ⟨rfl, rfl, rfl⟩ := hcs
      exact ⟨[], .inl ⟨rfl, rfl, rfl, rfl⟩⟩
    · simp [Value.cells] at hcs
      obtain ⟨rfl, rfl, rfl⟩ := hcs
      exact ⟨zs, .inr ⟨_, rfl, hl, hm, by simpa using hz, hcell, hwz⟩⟩
  obtain ⟨a1, len1, cap1, rfl⟩ := okWide_slice Try.underlying22 (hval 1 22 v1 rfl rfl)
  obtain ⟨z1, w1⟩ : ∃ zs, IsRow .u8 W a1 len1 cap1 zs := by
    obtain ⟨fuel, hf⟩ := h1
    rcases open_ints Try.underlying22 Try.underlying5 (by kernel_rfl) hf with ⟨hcs, _⟩ | ⟨x, l, c, zs, hcs, _, hl, hm, hz, _, hcell, hwz⟩
    · simp [Value.cells] at hcs
      obtain ⟨rfl, rfl, rfl⟩ := hcs
      exact ⟨[], .inl ⟨rfl, rfl, rfl, rfl⟩⟩
    · simp [Value.cells] at hcs
      obtain ⟨rfl, rfl, rfl⟩ := hcs
      exact ⟨zs, .inr ⟨_, rfl, hl, hm, by simpa using hz, hcell, hwz⟩⟩
  clear hA0 hval0
  refine (walk a0 len0 cap0 z0 a1 len1 cap1 z1 W (rowB_of _ _ _ _ _ w0) (rowB_of _ _ _ _ _ w1)).mono fun e W' ⟨he, bel⟩ => ?_
  subst he
  exact ⟨_, rfl, _, _, _, [], _, [], hW', trodAll_mk1 (shut_bool Try.underlying4 _), (trodAll_cons_mk (Below.trod laidOut (by kernel_rfl) (of_decide_eq_true (by kernel_rfl)) k0 bel lt0) (trodAll_cons_mk (Below.trod laidOut (by kernel_rfl) (of_decide_eq_true (by kernel_rfl)) k1 bel lt1) trodAll_mk0)), rfl, bel.frame _, fun h => by cases h⟩

theorem over : Rows.fnCashRow.holds Try.pinned (OpenSpec.ofChange Rows.fnCashSpec) :=
  OpenClaim.holds_of_wide 4 Try.f4 rfl rfl rfl rfl rfl rfl rfl ⟨rfl, rfl, rfl, rfl, rfl⟩ rfl rfl rfl rfl rfl (by kernel_rfl) Try.func4 (by kernel_rfl)
    (of_decide_eq_true (by kernel_rfl)) (by unfold Func.isWrapper; first | (rw [if_pos (by decide +kernel)]; kernel_rfl) | (rw [if_neg (by decide +kernel)]; exact ⟨rfl, rfl⟩))
    (fun os started H enc _ => lifted os started H enc)
end FnCash

theorem fnCash_holds : Rows.FnCashSaid := FnCash.over
end Go.Proofs.Ytbppfncpkcojgaa

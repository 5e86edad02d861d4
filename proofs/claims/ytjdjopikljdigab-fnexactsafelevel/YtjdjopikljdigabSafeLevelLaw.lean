/-
  For every table, number of days and share the law FnExactSafeLevel answers true: the program's SafeLevel answers as the specification's, and writes into no argument; with no condition.
-/
import Derived.Test.YtjdjopikljdigabQvB
import Derived.Test.YtjdjopikljdigabOwn2
namespace Go.Proofs.Ytjdjopikljdigab
open Go.ChangeShapes Go.WideShapes Go.ChangeAt Go.RowKit Go.Joins
set_option linter.unusedVariables false
namespace SafeLevelLaw

set_option maxHeartbeats 8000000 in
theorem walk' (days num den : Int) (a : Option Addr) (cap : Nat) (ws : List Int) (hl : (ws.length : Int) ≤ 1048576) (w : World) (hr : Reads w.heap.size w a ws) :
    Calls Try.prog 3 #[.slice a ws.length cap, .int .i64 days, .int .i64 num, .int .i64 den] w fun e w' => e = .returned (.bool true) ∧ Below w.heap.size w w' := by
  have HR : Hid (Reads w.heap.size w a ws) := hr
  clear hr
  have hI := fun a cap w h => implSafe_any a cap ws days num den (by omega) w h
  have hS := fun a cap w h => specSafe_any a cap ws days num den (by omega) w h
  generalize saN ws days num den = x at *
  generalize saC ws days num den = c at *
  have hcc : ∀ x : Int, (x != x) = false := fun x => by simp
  have hx := hcc x
  have hc := hcc c
  clear hcc
  go_enter Try.func3, Try.ntmps3
  go_wp2_with (first
    | (go_at_call 7; refine (eqInts_any w5.heap.size _ _ _ _ ws ws (by omega) (by omega) w5 (.inr ⟨_, _, rfl, X5.out.1, X5.out.2⟩) R5.out).mono ?_; rintro e w6 ⟨rfl, hb6⟩; rw [decide_eq_true (rfl : ws = ws)]; have B6 : Hid (Below w.heap.size w w6) := chain B5.out hb6; clear hb6)
    | (go_at_call 5; have G5 := B4; refine (toInts_any a cap ws (by omega) w4 ((HR.out.below B4.out).mono B4.out.size)).mono ?_; rintro e w5 ⟨rfl, hb5, hz5, hi5, hf5⟩; have B5 : Hid (Below w.heap.size w w5) := chain B4.out hb5; have R5 : Hid (Reads w5.heap.size w5 (some ⟨w4.heap.size, 0, none⟩) ws) := .inr ⟨_, _, rfl, hz5, hi5⟩; have X5 : Hid (w2.heap.size < w5.heap.size ∧ IntsAt w5 w2.heap.size 0 ws) := ⟨Nat.lt_of_lt_of_le X4.out.1 hb5.size, X4.out.2.below hb5 X4.out.1⟩; clear hb5 hz5 hi5 hf5)
    | (go_at_call 6; refine (hI _ _ w3 R3.out).mono ?_; rintro e w4 ⟨rfl, hb4⟩; have B4 : Hid (Below w.heap.size w w4) := chain B3.out hb4; have X4 : Hid (w2.heap.size < w4.heap.size ∧ IntsAt w4 w2.heap.size 0 ws) := ⟨Nat.lt_of_lt_of_le X3.out.1 hb4.size, X3.out.2.below hb4 X3.out.1⟩; clear hb4)
    | (go_at_call 5; have G3 := B2; refine (toInts_any a cap ws (by omega) w2 ((HR.out.below B2.out).mono B2.out.size)).mono ?_; rintro e w3 ⟨rfl, hb3, hz3, hi3, hf3⟩; have B3 : Hid (Below w.heap.size w w3) := chain B2.out hb3; have R3 : Hid (Reads w3.heap.size w3 (some ⟨w2.heap.size, 0, none⟩) ws) := .inr ⟨_, _, rfl, hz3, hi3⟩; have X3 : Hid (w2.heap.size < w3.heap.size ∧ IntsAt w3 w2.heap.size 0 ws) := ⟨hz3, hi3⟩; clear hb3 hz3 hi3 hf3)
    | (go_at_call 4; refine (hS _ _ w1 R1.out).mono ?_; rintro e w2 ⟨rfl, hb2⟩; have B2 : Hid (Below w.heap.size w w2) := chain B1.out hb2; clear hb2)
    | (go_at_call 5; refine (toInts_any a cap ws (by omega) w HR.out).mono ?_; rintro e w1 ⟨rfl, hb1, hz1, hi1, hf1⟩; have B1 : Hid (Below w.heap.size w w1) := hb1; have R1 : Hid (Reads w1.heap.size w1 (some ⟨w.heap.size, 0, none⟩) ws) := .inr ⟨_, _, rfl, hz1, hi1⟩; clear hb1 hz1 hi1 hf1))
  go_ret
  exact ⟨rfl, B6.out⟩

theorem walk (a : Option Addr) (len cap : Nat) (zs : List Int) (days : Int) (wdays : (Lit.int .i64 days).wf = true) (num : Int) (wnum : (Lit.int .i64 num).wf = true) (den : Int) (wden : (Lit.int .i64 den).wf = true) (w : World) (hr : IsRow .i64 w a len cap zs) :
    Calls Try.prog 3 #[.slice a len cap, .int .i64 days, .int .i64 num, .int .i64 den] w fun e w' => e = .returned (.bool true) ∧ Below w.heap.size w w' := by
  obtain ⟨h1, h2, h3, h4⟩ := reads_of_row hr
  unfold maxLen at h3
  by_cases h : (1048576 : Int) < (len : Int)
  · clear hr h4 h1
    go_enter Try.func3, Try.ntmps3
    go_wp2
    go_ret
    exact ⟨rfl, Below.refl _ _⟩
  · have := walk' days num den a cap (zs.take len) (by omega) w h4
    rwa [h1] at this

theorem own : ownKnob Try.prog.godebug = none := by kernel_rfl
theorem laidOut : laidOutB Try.prog = true := by kernel_rfl

set_option maxRecDepth 100000 in
theorem lifted (os : Os) (started : os.Started) (H : Type) (enc : TypeId × Value → H) :
    ReturnsInHanded {} Try.checked os 3 .any (Rows.fnExactSafeLevelSpec.pre6 enc Try.prog Try.f3 Rows.fnExactSafeLevelRow.domain false) (Rows.fnExactSafeLevelSpec.post enc Try.prog Try.f3 false true false false) := by
  refine returnsInHanded_of_change (C := Try.checked) own started (by kernel_rfl) Try.func3
    (ChangeSpec.witness6 (enc := enc) (C := Try.checked) false ⟨#[], #[.slice none 0 0, .int .i64 0, .int .i64 0, .int .i64 0], []⟩ 8 (by kernel_rfl) (by kernel_rfl) (by kernel_rfl) (by kernel_rfl)) ?_
  intro W base args ds gs before hval0 hW hcnd _
  have hval : ∀ (j : Nat) t v, Try.f3.params[j]? = some t → args[j]? = some v → Value.okWide Try.prog W .any base t v := hval0
  have hW' := hW
  obtain ⟨p, q, hA0, hV, rfl, hfz, hnd⟩ := hW
  have hA : DataW.TrodAll enc Try.prog W 0 (fun _ => true) true Try.f3.params.toList args.toList ds p := hA0
  rw [Try.params3] at hA hval
  obtain ⟨v0, vs0, d0, ds0, p0, q0, hargs, rfl, rfl, h0, r0⟩ := trodAll_cons hA
  obtain ⟨v1, vs1, d1, ds1, p1, q1, rfl, rfl, rfl, h1, r1⟩ := trodAll_cons r0
  obtain ⟨v2, vs2, d2, ds2, p2, q2, rfl, rfl, rfl, h2, r2⟩ := trodAll_cons r1
  obtain ⟨v3, vs3, d3, ds3, p3, q3, rfl, rfl, rfl, h3, r3⟩ := trodAll_cons r2
  obtain ⟨rfl, rfl, rfl⟩ := trodAll_nil r3
  obtain rfl : args = #[v0, v1, v2, v3] := by cases args; simp_all
  obtain ⟨rfl, rfl⟩ := trodVars_none hV
  have k0 := h0
  have lt0 : ∀ x ∈ p0, x.block < W.heap.size := by obtain ⟨m, hm⟩ := k0; exact DataW.trod_lt m _ _ _ hm
  have k1 := h1
  have lt1 : ∀ x ∈ p1, x.block < W.heap.size := by obtain ⟨m, hm⟩ := k1; exact DataW.trod_lt m _ _ _ hm
  have k2 := h2
  have lt2 : ∀ x ∈ p2, x.block < W.heap.size := by obtain ⟨m, hm⟩ := k2; exact DataW.trod_lt m _ _ _ hm
  have k3 := h3
  have lt3 : ∀ x ∈ p3, x.block < W.heap.size := by obtain ⟨m, hm⟩ := k3; exact DataW.trod_lt m _ _ _ hm
  obtain ⟨a0, len0, cap0, rfl⟩ := okWide_slice Try.underlying22 (hval 0 22 v0 rfl rfl)
  obtain ⟨z0, w0⟩ : ∃ zs, IsRow .i64 W a0 len0 cap0 zs := by
    obtain ⟨fuel, hf⟩ := h0
    rcases open_ints Try.underlying22 Try.underlying3 (by kernel_rfl) hf with ⟨hcs, _⟩ | ⟨x, l, c, zs, hcs, _, hl, hm, hz, _, hcell, hwz⟩
    · simp [Value.cells] at hcs
      obtain ⟨rfl, rfl, rfl⟩ := hcs
      exact ⟨[], .inl ⟨rfl, rfl, rfl, rfl⟩⟩
    · simp [Value.cells] at hcs
      obtain ⟨rfl, rfl, rfl⟩ := hcs
      exact ⟨zs, .inr ⟨_, rfl, hl, hm, by simpa using hz, hcell, hwz⟩⟩
  obtain ⟨a1, rfl, rfl, rfl, w1⟩ := open_int Try.underlying3 (hval 1 3 v1 rfl rfl) h1
  obtain ⟨a2, rfl, rfl, rfl, w2⟩ := open_int Try.underlying3 (hval 2 3 v2 rfl rfl) h2
  obtain ⟨a3, rfl, rfl, rfl, w3⟩ := open_int Try.underlying3 (hval 3 3 v3 rfl rfl) h3
  clear hA0 hval0
  refine (walk a0 len0 cap0 z0 a1 w1 a2 w2 a3 w3 W w0).mono fun e W' ⟨he, bel⟩ => ?_
  subst he
  exact ⟨_, rfl, _, _, _, [], _, [], hW', trodAll_mk1 (shut_bool Try.underlying4 _), (trodAll_cons_mk (Below.trod laidOut (by kernel_rfl) (of_decide_eq_true (by kernel_rfl)) k0 bel lt0) (trodAll_cons_mk (Below.trod laidOut (by kernel_rfl) (of_decide_eq_true (by kernel_rfl)) k1 bel lt1) (trodAll_cons_mk (Below.trod laidOut (by kernel_rfl) (of_decide_eq_true (by kernel_rfl)) k2 bel lt2) (trodAll_cons_mk (Below.trod laidOut (by kernel_rfl) (of_decide_eq_true (by kernel_rfl)) k3 bel lt3) trodAll_mk0)))), rfl, bel.frame _, fun h => by cases h⟩

theorem over : Rows.fnExactSafeLevelRow.holds Try.pinned (OpenSpec.ofChange Rows.fnExactSafeLevelSpec) :=
  OpenClaim.holds_of_wide 3 Try.f3 rfl rfl rfl rfl rfl rfl rfl ⟨rfl, rfl, rfl, rfl, rfl⟩ rfl rfl rfl rfl rfl (by kernel_rfl) Try.func3 (by kernel_rfl)
    (of_decide_eq_true (by kernel_rfl)) (by unfold Func.isWrapper; first | (rw [if_pos (by decide +kernel)]; kernel_rfl) | (rw [if_neg (by decide +kernel)]; exact ⟨rfl, rfl⟩))
    (fun os started H enc _ => lifted os started H enc)
end SafeLevelLaw

theorem fnExactSafeLevel_holds : Rows.FnExactSafeLevelSaid := SafeLevelLaw.over
end Go.Proofs.Ytjdjopikljdigab

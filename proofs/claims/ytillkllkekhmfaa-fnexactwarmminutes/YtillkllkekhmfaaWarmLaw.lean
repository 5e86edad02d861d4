/-
  For every list of numbers, every limit and every base the law FnExactWarmMinutes answers true: the program's WarmMinutes answers as the specification's, and writes into no argument; with no condition.
-/
import Derived.Test.YtillkllkekhmfaaFlY
import Derived.Test.YtillkllkekhmfaaFlG
namespace Go.Proofs.Ytillkllkekhmfaa
open Go.ChangeShapes Go.WideShapes Go.ChangeAt Go.RowKit Go.Joins
set_option linter.unusedVariables false
attribute [local go_sem] run_store_float
namespace WarmLaw
set_option maxHeartbeats 8000000 in
theorem walk' (a : Option Addr) (cap : Nat) (xs : List Nat) (lim bs : Nat) (hl : (xs.length : Int) ≤ 1048576) (w : World) (hr : ReadsF w.heap.size w a xs) :
    Calls Try.prog 8 #[.slice a xs.length cap, .float .f64 lim, .float .f32 bs] w fun e w' => e = .returned (.bool true) ∧ Below w.heap.size w w' := by
  have HTo : Hid (∀ W, Below w.heap.size w W → Calls Try.prog 20 #[.slice a xs.length cap] W fun e w' => e = .returned (.slice (some ⟨W.heap.size, 0, none⟩) xs.length xs.length) ∧ Below W.heap.size W w' ∧ ReadsF w'.heap.size w' (some ⟨W.heap.size, 0, none⟩) xs) := fun W hb => (toFlts_any a cap xs (by omega) W (hr.later hb)).mono (by
    rintro e w' ⟨rfl, hb1, hz1, hi1, hf1⟩
    exact ⟨rfl, hb1, .inr ⟨_, _, rfl, hz1, hi1⟩⟩)
  have HI : Hid (∀ W b cb, ReadsF W.heap.size W b xs → Calls Try.prog 12 #[.slice b xs.length cb, .float .f64 lim, .float .f32 bs] W (AnsWm W (wmA xs lim bs) (wmC xs lim bs))) := fun W b cb h => implWarm_any b cb xs lim bs (by omega) W h
  have HSp : Hid (∀ W b cb, ReadsF W.heap.size W b xs → Calls Try.prog 27 #[.slice b xs.length cb, .float .f64 lim, .float .f32 bs] W (AnsWm W (wmA xs lim bs) (wmC xs lim bs))) := fun W b cb h => specWarm_any b cb xs lim bs (by omega) W h
  have HEq : Hid (∀ W b cb d cd, ReadsF W.heap.size W b xs → ReadsF W.heap.size W d xs → Calls Try.prog 22 #[.slice b xs.length cb, .slice d xs.length cd] W fun e w' => e = .returned (.bool true) ∧ Below W.heap.size W w') := fun W b cb d cd h k => eqFlts_any b d cb cd xs (by omega) W h k
  have HSm : Hid (∀ x W, Calls Try.prog 28 #[.float .f64 x, .float .f64 x] W fun e w' => e = .returned (.bool true) ∧ Below W.heap.size W w') := fun x W => sameF_any x W
  obtain ⟨q, hq⟩ := back_some (wmA_nonneg xs lim bs)
  have hcv := fun W => run_convert_float_float (P := Try.prog) W 31 24 .f32 .f64 _ _ (by rw [Try.underlying31]; rfl) Try.underlying24 hq
  unfold AnsWm at HI HSp
  clear hq
  generalize wmA xs lim bs = m at *
  generalize wmC xs lim bs = c at *
  clear hr
  have hl' : ¬ (1048576 : Int) < (xs.length : Int) := by omega
  have hcc : (c != c) = false := by simp
  go_enter Try.func8, Try.ntmps8
  go_wp2_with fail
  (first | go_at_call 20 | skip)
  refine (HTo.out _ (Below.refl _ _)).mono ?_
  rintro e w1 ⟨rfl, hb1, hr1⟩
  have B1 : Hid (Below w.heap.size w w1) := hb1
  have R1 : Hid (ReadsF w1.heap.size w1 (some ⟨w.heap.size, 0, none⟩) xs) := hr1
  clear hb1 hr1
  go_wp2_with fail
  (first | go_at_call 27 | skip)
  refine (HSp.out _ _ _ R1.out).mono ?_
  rintro e w2 ⟨rfl, hb2⟩
  have B2 : Hid (Below w.heap.size w w2) := chain B1.out hb2
  clear hb2 R1 B1
  go_wp2_with fail
  (first | go_at_call 20 | skip)
  refine (HTo.out _ B2.out).mono ?_
  rintro e w4 ⟨rfl, hb4, hr4⟩
  have B4 : Hid (Below w.heap.size w w4) := chain B2.out hb4
  have R4 : Hid (ReadsF w4.heap.size w4 (some ⟨w2.heap.size, 0, none⟩) xs) := hr4
  clear hb4 hr4 B2
  generalize w2.heap.size = X at *
  go_wp2_with fail
  (first | go_at_call 12 | skip)
  refine (HI.out _ _ _ R4.out).mono ?_
  rintro e w5 ⟨rfl, hb5⟩
  have B5 : Hid (Below w.heap.size w w5) := chain B4.out hb5
  have R5 : Hid (ReadsF w5.heap.size w5 (some ⟨X, 0, none⟩) xs) := R4.out.later hb5
  clear hb5 B4 R4
  go_wp2_with fail
  (first | go_at_call 28 | skip)
  refine (HSm.out _ _).mono ?_
  rintro e w7 ⟨rfl, hb7⟩
  have B7 : Hid (Below w.heap.size w w7) := chain B5.out hb7
  have R7 : Hid (ReadsF w7.heap.size w7 (some ⟨X, 0, none⟩) xs) := R5.out.later hb7
  clear hb7 B5 R5
  go_wp2_with fail
  (first | go_at_call 20 | skip)
  refine (HTo.out _ B7.out).mono ?_
  rintro e w8 ⟨rfl, hb8, hr8⟩
  have B8 : Hid (Below w.heap.size w w8) := chain B7.out hb8
  have R8 : Hid (ReadsF w8.heap.size w8 (some ⟨X, 0, none⟩) xs) := R7.out.later hb8
  have Q8 : Hid (ReadsF w8.heap.size w8 (some ⟨w7.heap.size, 0, none⟩) xs) := hr8
  clear hb8 hr8 B7 R7
  generalize w7.heap.size = Y at *
  go_wp2_with fail
  (first | go_at_call 22 | skip)
  refine (HEq.out _ _ _ _ _ R8.out Q8.out).mono ?_
  rintro e w9 ⟨rfl, hb9⟩
  go_wp2
  go_ret
  exact ⟨rfl, chain B8.out hb9⟩
theorem walk (a : Option Addr) (len cap : Nat) (zs : List Nat) (lim bs : Nat) (w : World) (hr : IsFls w a len cap zs) :
    Calls Try.prog 8 #[.slice a len cap, .float .f64 lim, .float .f32 bs] w fun e w' => e = .returned (.bool true) ∧ Below w.heap.size w w' := by
  obtain ⟨rfl, h2, h3, h4⟩ := hr
  unfold maxLen at h3
  by_cases h : (1048576 : Int) < (zs.length : Int)
  · clear h4
    go_enter Try.func8, Try.ntmps8
    go_wp2
    go_ret
    exact ⟨rfl, Below.refl _ _⟩
  · exact walk' a cap zs lim bs (by omega) w h4

theorem own : ownKnob Try.prog.godebug = none := by kernel_rfl
theorem laidOut : laidOutB Try.prog = true := by kernel_rfl

set_option maxRecDepth 100000 in
theorem lifted (os : Os) (started : os.Started) (H : Type) (enc : TypeId × Value → H) :
    ReturnsInHanded {} Try.checked os 8 .any (Rows.fnExactWarmMinutesSpec.pre6 enc Try.prog Try.f8 Rows.fnExactWarmMinutesRow.domain false) (Rows.fnExactWarmMinutesSpec.post enc Try.prog Try.f8 false true false false) := by
  refine returnsInHanded_of_change (C := Try.checked) own started (by kernel_rfl) Try.func8
    (ChangeSpec.witness6 (enc := enc) (C := Try.checked) false ⟨#[], #[.slice none 0 0, .float .f64 0, .float .f32 0], []⟩ 8 (by kernel_rfl) (by kernel_rfl) (by kernel_rfl) (by kernel_rfl)) ?_
  intro W base args ds gs before hval0 hW hcnd _
  have hval : ∀ (j : Nat) t v, Try.f8.params[j]? = some t → args[j]? = some v → Value.okWide Try.prog W .any base t v := hval0
  have hW' := hW
  obtain ⟨p, q, hA0, hV, rfl, hfz, hnd⟩ := hW
  have hA : DataW.TrodAll enc Try.prog W 0 (fun _ => true) true Try.f8.params.toList args.toList ds p := hA0
  rw [Try.params8] at hA hval
  obtain ⟨v0, vs0, d0, ds0, p0, q0, hargs, rfl, rfl, h0, r0⟩ := trodAll_cons hA
  obtain ⟨v1, vs1, d1, ds1, p1, q1, rfl, rfl, rfl, h1, r1⟩ := trodAll_cons r0
  obtain ⟨v2, vs2, d2, ds2, p2, q2, rfl, rfl, rfl, h2, r2⟩ := trodAll_cons r1
  obtain ⟨rfl, rfl, rfl⟩ := trodAll_nil r2
  obtain rfl : args = #[v0, v1, v2] := by cases args; simp_all
  obtain ⟨rfl, rfl⟩ := trodVars_none hV
  have k0 := h0
  have lt0 : ∀ x ∈ p0, x.block < W.heap.size := by obtain ⟨m, hm⟩ := k0; exact DataW.trod_lt m _ _ _ hm
  have k1 := h1
  have lt1 : ∀ x ∈ p1, x.block < W.heap.size := by obtain ⟨m, hm⟩ := k1; exact DataW.trod_lt m _ _ _ hm
  have k2 := h2
  have lt2 : ∀ x ∈ p2, x.block < W.heap.size := by obtain ⟨m, hm⟩ := k2; exact DataW.trod_lt m _ _ _ hm
  obtain ⟨a0, len0, cap0, rfl⟩ := okWide_slice Try.underlying23 (hval 0 23 v0 rfl rfl)
  obtain ⟨z0, w0⟩ : ∃ zs, IsFls W a0 len0 cap0 zs := by
    obtain ⟨fuel, hf⟩ := h0
    exact openFls (by simpa [Value.cells] using hf)
  obtain ⟨a1, rfl, rfl, rfl, w1⟩ := open_float Try.underlying24 (hval 1 24 v1 rfl rfl) h1
  obtain ⟨a2, rfl, rfl, rfl, w2⟩ := open_float Try.underlying31 (hval 2 31 v2 rfl rfl) h2
  clear hA0 hval0
  refine (walk a0 len0 cap0 z0 a1 a2 W w0).mono fun e W' ⟨he, bel⟩ => ?_
  subst he
  exact ⟨_, rfl, _, _, _, [], _, [], hW', trodAll_mk1 (shut_bool Try.underlying4 _), (trodAll_cons_mk (Below.trod laidOut (by kernel_rfl) (of_decide_eq_true (by kernel_rfl)) k0 bel lt0) (trodAll_cons_mk (Below.trod laidOut (by kernel_rfl) (of_decide_eq_true (by kernel_rfl)) k1 bel lt1) (trodAll_cons_mk (Below.trod laidOut (by kernel_rfl) (of_decide_eq_true (by kernel_rfl)) k2 bel lt2) trodAll_mk0))), rfl, bel.frame _, fun h => by cases h⟩

theorem over : Rows.fnExactWarmMinutesRow.holds Try.pinned (OpenSpec.ofChange Rows.fnExactWarmMinutesSpec) :=
  OpenClaim.holds_of_wide 8 Try.f8 rfl rfl rfl rfl rfl rfl rfl ⟨rfl, rfl, rfl, rfl, rfl⟩ rfl rfl rfl rfl rfl (by kernel_rfl) Try.func8 (by kernel_rfl)
    (of_decide_eq_true (by kernel_rfl)) (by unfold Func.isWrapper; first | (rw [if_pos (by decide +kernel)]; kernel_rfl) | (rw [if_neg (by decide +kernel)]; exact ⟨rfl, rfl⟩))
    (fun os started H enc _ => lifted os started H enc)
end WarmLaw

theorem fnExactWarmMinutes_holds : Rows.FnExactWarmMinutesSaid := WarmLaw.over
end Go.Proofs.Ytillkllkekhmfaa

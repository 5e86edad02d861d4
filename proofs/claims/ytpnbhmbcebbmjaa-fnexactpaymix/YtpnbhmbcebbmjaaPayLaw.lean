/-
  For every total and every list of tenders the law FnExactPayMix answers true: the program's PayMix answers as the specification's and writes into no argument; with no condition.
-/
import Derived.Test.YtpnbhmbcebbmjaaPmB
import Derived.Test.YtpnbhmbcebbmjaaPmC
import Derived.Test.YtpnbhmbcebbmjaaTdF
namespace Go.Proofs.Ytpnbhmbcebbmjaa
open Go.ChangeShapes Go.WideShapes Go.ChangeAt Go.RowKit Go.Joins
set_option linter.unusedVariables false

namespace PayLaw
theorem eqPaid_any (x0 x1 x2 x3 x4 x5 : Int) (w : World) :
    Calls Try.prog 21 #[.agg #[.int .i64 x0, .int .i64 x1, .int .i64 x2, .int .i64 x3, .int .i64 x4, .int .i64 x5], .agg #[.int .i64 x0, .int .i64 x1, .int .i64 x2, .int .i64 x3, .int .i64 x4, .int .i64 x5]] w fun e w' => e = .returned (.bool true) ∧ Below w.heap.size w w' := by
  have l1 : ∀ n : Nat, n < n + 1 + 1 := fun n => by omega
  have l2 : ∀ n : Nat, n < n + 2 := fun n => by omega
  go_enter Try.func21, Try.ntmps21
  go_wp2
  go_ret
  exact ⟨rfl, chain (below_alloc _ _) (below_alloc _ _)⟩
theorem pm_form (total : Int) (rs : List RTd) : ∃ x0 x1 x2 x3 x4 x5 : Int, pmVal total rs = .agg #[.int .i64 x0, .int .i64 x1, .int .i64 x2, .int .i64 x3, .int .i64 x4, .int .i64 x5] := by
  rcases pm_ways total rs with ⟨_, _, h⟩ | ⟨_, _, _, h⟩ | ⟨_, _, _, h⟩ | ⟨_, _, _, _, h⟩ | ⟨_, _, _, _, h⟩
  · exact ⟨_, _, _, _, _, _, h⟩
  · exact ⟨_, _, _, _, _, _, h⟩
  · exact ⟨_, _, _, _, _, _, h⟩
  · exact ⟨_, _, _, _, _, _, h⟩
  · rw [h]; exact paid6_form _ _ _ _
theorem six_made (w : World) (x0 x1 x2 x3 x4 x5 : Int) : Six (w.alloc (Obj.cells #[.int .i64 x0, .int .i64 x1, .int .i64 x2, .int .i64 x3, .int .i64 x4, .int .i64 x5] 39)) w.heap.size x0 x1 x2 x3 x4 x5 := by
  refine ⟨by simp, fun i hi => ?_⟩
  rcases (by omega : i = 0 ∨ i = 1 ∨ i = 2 ∨ i = 3 ∨ i = 4 ∨ i = 5) with rfl | rfl | rfl | rfl | rfl | rfl <;> exact ⟨by simp [sx], by simp⟩
set_option maxHeartbeats 4000000 in
theorem walk' (total : Int) (a : Option Addr) (cap : Nat) (rs : List RTd) (hl : rs.length ≤ maxLen) (w : World) (hr : ReadsTd w.heap.size w a rs) :
    Calls Try.prog 5 #[.int .i64 total, .slice a rs.length cap] w fun e w' => e = .returned (.bool true) ∧ Below w.heap.size w w' := by
  have HR : Hid (ReadsTd w.heap.size w a rs) := hr
  have hZ := szTds_any a cap rs hl 1048576 (by omega) (by omega) w
  clear hr
  go_enter Try.func5, Try.ntmps5
  go_wp2_with (go_at_call 17; refine hZ.mono ?_; rintro e w1 ⟨⟨x, rfl, hx⟩, hw1⟩; rw [hw1]; have HX : Hid (x < 0 ∨ (0 ≤ x ∧ x + (rs.length : Int) ≤ 1048576)) := hx; clear hx hw1 w1)
  · go_ret
    exact ⟨rfl, by repeat (first | exact Below.refl _ _ | refine chain ?_ (below_alloc _ _))⟩
  rcases HX.out with h | ⟨h, hlen0⟩
  · omega
  have hlen : rs.length ≤ 1048576 := by omega
  obtain ⟨x0, x1, x2, x3, x4, x5, hx⟩ := pm_form total rs
  have hS : Hid (∀ a c w, ReadsTd w.heap.size w a rs → Calls Try.prog 18 #[.int .i64 total, .slice a rs.length c] w fun e w' => e = .returned (.tuple #[.agg #[.int .i64 x0, .int .i64 x1, .int .i64 x2, .int .i64 x3, .int .i64 x4, .int .i64 x5], .int .i64 (pmCode total rs)]) ∧ Below w.heap.size w w') := fun a c w h => by rw [← hx]; exact specPay_any total a c rs (by omega) w h
  have hI : Hid (∀ a c w, ReadsTd w.heap.size w a rs → Calls Try.prog 20 #[.int .i64 total, .slice a rs.length c] w fun e w' => e = .returned (.tuple #[.agg #[.int .i64 x0, .int .i64 x1, .int .i64 x2, .int .i64 x3, .int .i64 x4, .int .i64 x5], .int .i64 (pmCode total rs)]) ∧ Below w.heap.size w w') := fun a c w h => by rw [← hx]; exact implPay_any total a c rs (by omega) w h
  have hT : Hid (∀ w, ReadsTd w.heap.size w a rs → Calls Try.prog 19 #[.slice a rs.length cap] w fun e w' => e = .returned (.slice (some ⟨w.heap.size, 0, none⟩) rs.length rs.length) ∧ Below w.heap.size w w' ∧ w.heap.size < w'.heap.size ∧ TdsAt w' w.heap.size 0 rs) := fun w h => (toTds_any a cap rs hlen w h).mono fun e w' ⟨h1, h2, h3, h4, _⟩ => ⟨h1, h2, h3, h4⟩
  generalize pmCode total rs = c at *
  have hd1 : (c != c) = false := by simp
  clear HX hlen0 hx
  (first | go_at_call 19 | skip)
  refine (hT.out w HR.out).mono ?_
  rintro e w2 ⟨rfl, hb2, hz2, hi2⟩
  have B2 : Hid (Below w.heap.size w w2) := hb2
  have X2 : Hid (ReadsTd w2.heap.size w2 (some ⟨w.heap.size, 0, none⟩) rs) := .inr ⟨_, _, rfl, hz2, hi2⟩
  clear hb2 hz2 hi2
  go_wp2_with fail
  (first | go_at_call 18 | skip)
  refine (hS.out _ _ w2 X2.out).mono ?_
  rintro e w3 ⟨rfl, hb3⟩
  have B3 : Hid (Below w.heap.size w w3) := chain B2.out hb3
  clear hb3 X2
  have HV3 := six_made w3 x0 x1 x2 x3 x4 x5
  have B3' : Hid (Below w.heap.size w (w3.alloc (Obj.cells #[.int .i64 x0, .int .i64 x1, .int .i64 x2, .int .i64 x3, .int .i64 x4, .int .i64 x5] 39))) := chain B3.out (below_alloc _ _)
  have HV3' : Hid (Six (w3.alloc (Obj.cells #[.int .i64 x0, .int .i64 x1, .int .i64 x2, .int .i64 x3, .int .i64 x4, .int .i64 x5] 39)) w3.heap.size x0 x1 x2 x3 x4 x5) := HV3
  clear HV3
  go_wp2_with fail
  obtain ⟨W3, hW3⟩ : ∃ W3, W3 = w3.alloc (Obj.cells #[.int .i64 x0, .int .i64 x1, .int .i64 x2, .int .i64 x3, .int .i64 x4, .int .i64 x5] 39) := ⟨_, rfl⟩
  rw [← hW3] at B3' HV3' ⊢
  obtain ⟨bw, hbw⟩ : ∃ bw, bw = w3.heap.size := ⟨_, rfl⟩
  rw [← hbw] at HV3' ⊢
  clear hW3 hbw
  (first | go_at_call 19 | skip)
  refine (hT.out W3 ((HR.out.below B3'.out).mono B3'.out.size)).mono ?_
  rintro e w4 ⟨rfl, hb4, hz4, hi4⟩
  have B4 : Hid (Below w.heap.size w w4) := chain B3'.out hb4
  have V4 : Hid (Six w4 bw x0 x1 x2 x3 x4 x5) := HV3'.out.below hb4
  have X4 : Hid (ReadsTd w4.heap.size w4 (some ⟨W3.heap.size, 0, none⟩) rs) := .inr ⟨_, _, rfl, hz4, hi4⟩
  clear hb4 hz4 hi4 HV3' B3'
  go_wp2_with fail
  (first | go_at_call 20 | skip)
  refine (hI.out _ _ w4 X4.out).mono ?_
  rintro e w5 ⟨rfl, hb5⟩
  have B5 : Hid (Below w.heap.size w w5) := chain B4.out hb5
  have V5 : Hid (Six w5 bw x0 x1 x2 x3 x4 x5) := V4.out.below hb5
  have X5 : Hid (ReadsTd w5.heap.size w5 (some ⟨W3.heap.size, 0, none⟩) rs) := (X4.out.below hb5).mono hb5.size
  clear hb5 X4 V4
  have B6 : Hid (Below w.heap.size w (w5.alloc (Obj.cells #[.int .i64 x0, .int .i64 x1, .int .i64 x2, .int .i64 x3, .int .i64 x4, .int .i64 x5] 39))) := chain B5.out (below_alloc _ _)
  have V6 : Hid (Six (w5.alloc (Obj.cells #[.int .i64 x0, .int .i64 x1, .int .i64 x2, .int .i64 x3, .int .i64 x4, .int .i64 x5] 39)) bw x0 x1 x2 x3 x4 x5) := V5.out.below (below_alloc _ _)
  have U6 : Hid (Six (w5.alloc (Obj.cells #[.int .i64 x0, .int .i64 x1, .int .i64 x2, .int .i64 x3, .int .i64 x4, .int .i64 x5] 39)) w5.heap.size x0 x1 x2 x3 x4 x5) := six_made w5 x0 x1 x2 x3 x4 x5
  have X6 : Hid (ReadsTd (w5.alloc (Obj.cells #[.int .i64 x0, .int .i64 x1, .int .i64 x2, .int .i64 x3, .int .i64 x4, .int .i64 x5] 39)).heap.size (w5.alloc (Obj.cells #[.int .i64 x0, .int .i64 x1, .int .i64 x2, .int .i64 x3, .int .i64 x4, .int .i64 x5] 39)) (some ⟨W3.heap.size, 0, none⟩) rs) := (X5.out.below (below_alloc _ _)).mono (by simp)
  clear X5 V5
  obtain ⟨v0, v1, v2, v3, v4, v5⟩ := V6.out.cells
  have hbl : bw < w5.heap.size + 1 := by have := V6.out.1; simpa using this
  go_wp2_with fail
  (first | go_at_call 21 | skip)
  refine (eqPaid_any x0 x1 x2 x3 x4 x5 _).mono ?_
  rintro e w6 ⟨rfl, hb6⟩
  have B7 : Hid (Below w.heap.size w w6) := chain B6.out hb6
  have X7 : Hid (ReadsTd w6.heap.size w6 (some ⟨W3.heap.size, 0, none⟩) rs) := (X6.out.below hb6).mono hb6.size
  clear hb6 v0 v1 v2 v3 v4 v5 V6 U6 X6 B6
  go_wp2_with fail
  (first | go_at_call 19 | skip)
  refine (hT.out w6 ((HR.out.below B7.out).mono B7.out.size)).mono ?_
  rintro e w8 ⟨rfl, hb8, hz8, hi8⟩
  have B8 : Hid (Below w.heap.size w w8) := chain B7.out hb8
  have X8 : Hid (ReadsTd w8.heap.size w8 (some ⟨W3.heap.size, 0, none⟩) rs) := (X7.out.below hb8).mono hb8.size
  have Y8 : Hid (ReadsTd w8.heap.size w8 (some ⟨w6.heap.size, 0, none⟩) rs) := .inr ⟨_, _, rfl, hz8, hi8⟩
  clear hb8 hz8 hi8 X7
  go_wp2_with fail
  (first | go_at_call 22 | skip)
  refine (eqTds_any _ _ _ _ rs hlen w8 X8.out Y8.out).mono ?_
  rintro e w9 ⟨rfl, hb9⟩
  have B9 : Hid (Below w.heap.size w w9) := chain B8.out hb9
  clear hb9
  go_wp2
  go_ret
  exact ⟨rfl, B9.out⟩
theorem walk (total : Int) (hdw : (Lit.int .i64 total).wf = true) (a : Option Addr) (len cap : Nat) (rs : List RTd) (w : World) (h : IsTds w a len cap rs) :
    Calls Try.prog 5 #[.int .i64 total, .slice a len cap] w fun e w' => e = .returned (.bool true) ∧ Below w.heap.size w w' := by
  obtain ⟨rfl, h2, h3, h4, h5⟩ := h
  exact walk' total a cap rs (Nat.le_trans h2 h3) w h5

theorem own : ownKnob Try.prog.godebug = none := by kernel_rfl
theorem laidOut : laidOutB Try.prog = true := by kernel_rfl

set_option maxRecDepth 100000 in
theorem lifted (os : Os) (started : os.Started) (H : Type) (enc : TypeId × Value → H) :
    ReturnsInHanded {} Try.checked os 5 .any (Rows.fnExactPayMixSpec.pre6 enc Try.prog Try.f5 Rows.fnExactPayMixRow.domain false) (Rows.fnExactPayMixSpec.post enc Try.prog Try.f5 false true false false) := by
  refine returnsInHanded_of_change (C := Try.checked) own started (by kernel_rfl) Try.func5
    (ChangeSpec.witness6 (enc := enc) (C := Try.checked) false ⟨#[], #[.int .i64 0, .slice none 0 0], []⟩ 8 (by kernel_rfl) (by kernel_rfl) (by kernel_rfl) (by kernel_rfl)) ?_
  intro W base args ds gs before hval0 hW hcnd _
  have hval : ∀ (j : Nat) t v, Try.f5.params[j]? = some t → args[j]? = some v → Value.okWide Try.prog W .any base t v := hval0
  have hW' := hW
  obtain ⟨p, q, hA0, hV, rfl, hfz, hnd⟩ := hW
  have hA : DataW.TrodAll enc Try.prog W 0 (fun _ => true) true Try.f5.params.toList args.toList ds p := hA0
  rw [Try.params5] at hA hval
  obtain ⟨v0, vs0, d0, ds0, p0, q0, hargs, rfl, rfl, h0, r0⟩ := trodAll_cons hA
  obtain ⟨v1, vs1, d1, ds1, p1, q1, rfl, rfl, rfl, h1, r1⟩ := trodAll_cons r0
  obtain ⟨rfl, rfl, rfl⟩ := trodAll_nil r1
  obtain rfl : args = #[v0, v1] := by cases args; simp_all
  obtain ⟨rfl, rfl⟩ := trodVars_none hV
  have k0 := h0
  have lt0 : ∀ x ∈ p0, x.block < W.heap.size := by obtain ⟨m, hm⟩ := k0; exact DataW.trod_lt m _ _ _ hm
  have k1 := h1
  have lt1 : ∀ x ∈ p1, x.block < W.heap.size := by obtain ⟨m, hm⟩ := k1; exact DataW.trod_lt m _ _ _ hm
  obtain ⟨a0, rfl, rfl, rfl, w0⟩ := open_int Try.underlying3 (hval 0 3 v0 rfl rfl) h0
  obtain ⟨a1, len1, cap1, rfl⟩ := okWide_slice Try.underlying36 (hval 1 36 v1 rfl rfl)
  obtain ⟨z1, w1⟩ : ∃ zs, IsTds W a1 len1 cap1 zs := by
    obtain ⟨fuel, hf⟩ := h1
    exact openTds (by simpa [Value.cells] using hf)
  clear hA0 hval0
  refine (walk a0 w0 a1 len1 cap1 z1 W w1).mono fun e W' ⟨he, bel⟩ => ?_
  subst he
  exact ⟨_, rfl, _, _, _, [], _, [], hW', trodAll_mk1 (shut_bool Try.underlying4 _), (trodAll_cons_mk (Below.trod laidOut (by kernel_rfl) (of_decide_eq_true (by kernel_rfl)) k0 bel lt0) (trodAll_cons_mk (Below.trod laidOut (by kernel_rfl) (of_decide_eq_true (by kernel_rfl)) k1 bel lt1) trodAll_mk0)), rfl, bel.frame _, fun h => by cases h⟩

theorem over : Rows.fnExactPayMixRow.holds Try.pinned (OpenSpec.ofChange Rows.fnExactPayMixSpec) :=
  OpenClaim.holds_of_wide 5 Try.f5 rfl rfl rfl rfl rfl rfl rfl ⟨rfl, rfl, rfl, rfl, rfl⟩ rfl rfl rfl rfl rfl (by kernel_rfl) Try.func5 (by kernel_rfl)
    (of_decide_eq_true (by kernel_rfl)) (by unfold Func.isWrapper; first | (rw [if_pos (by decide +kernel)]; kernel_rfl) | (rw [if_neg (by decide +kernel)]; exact ⟨rfl, rfl⟩))
    (fun os started H enc _ => lifted os started H enc)
end PayLaw

theorem fnExactPayMix_holds : Rows.FnExactPayMixSaid := PayLaw.over
end Go.Proofs.Ytpnbhmbcebbmjaa

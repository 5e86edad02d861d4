/-
  For every list of stops and every minute the law FnExactLeastEnd answers true: the program's LeastEnd answers as the specification's and writes into no argument; with no condition.
-/
import Derived.Test.YtenahlkplfmdoaaRvC
import Derived.Test.YtenahlkplfmdoaaHpF
namespace Go.Proofs.Ytenahlkplfmdoaa
open Go.ChangeShapes Go.WideShapes Go.ChangeAt Go.RowKit Go.Joins
set_option linter.unusedVariables false

namespace LeastLaw
set_option maxHeartbeats 4000000 in
theorem walk' (a : Option Addr) (cap : Nat) (rs : List RHp) (t : Int) (hl : rs.length ≤ maxLen) (w : World) (hr : ReadsHp w.heap.size w a rs) :
    Calls Try.prog 7 #[.slice a rs.length cap, .int .i64 t] w fun e w' => e = .returned (.bool true) ∧ Below w.heap.size w w' := by
  have HR : Hid (ReadsHp w.heap.size w a rs) := hr
  have hZ := szHps_any a cap rs hl 1048576 (by omega) (by omega) w
  clear hr
  go_enter Try.func7, Try.ntmps7
  go_wp2_with (go_at_call 15; refine hZ.mono ?_; rintro e w1 ⟨⟨x, rfl, hx⟩, hw1⟩; rw [hw1]; have HX : Hid (x < 0 ∨ (0 ≤ x ∧ x + (rs.length : Int) ≤ 1048576)) := hx; clear hx hw1 w1)
  · go_ret
    exact ⟨rfl, by repeat (first | exact Below.refl _ _ | refine chain ?_ (below_alloc _ _))⟩
  rcases HX.out with h | ⟨h, hlen0⟩
  · omega
  have hlen : rs.length ≤ 1048576 := by omega
  have hS : Hid (∀ a c w, ReadsHp w.heap.size w a rs → Calls Try.prog 27 #[.slice a rs.length c, .int .i64 t] w fun e w' => e = .returned (.tuple #[.int .i64 (leV rs t), .int .i64 (leC rs t)]) ∧ Below w.heap.size w w') := fun a c w h => specLeast_any a c rs t (by omega) w h
  have hI : Hid (∀ a c w, ReadsHp w.heap.size w a rs → Calls Try.prog 13 #[.slice a rs.length c, .int .i64 t] w fun e w' => e = .returned (.tuple #[.int .i64 (leV rs t), .int .i64 (leC rs t)]) ∧ Below w.heap.size w w') := fun a c w h => implLeast_any a c rs t (by omega) w h
  have hT : Hid (∀ w, ReadsHp w.heap.size w a rs → Calls Try.prog 17 #[.slice a rs.length cap] w fun e w' => e = .returned (.slice (some ⟨w.heap.size, 0, none⟩) rs.length rs.length) ∧ Below w.heap.size w w' ∧ w.heap.size < w'.heap.size ∧ HpsAt w' w.heap.size 0 rs) := fun w h => (toHps_any a cap rs hlen w h).mono fun e w' ⟨h1, h2, h3, h4, _⟩ => ⟨h1, h2, h3, h4⟩
  generalize leV rs t = y0 at *
  generalize leC rs t = y1 at *
  clear HX hlen0
  have hd0 : (y0 != y0) = false := by simp
  have hd1 : (y1 != y1) = false := by simp
  (first | go_at_call 17 | skip)
  refine (hT.out w HR.out).mono ?_
  rintro e w2 ⟨rfl, hb2, hz2, hi2⟩
  have B2 : Hid (Below w.heap.size w w2) := hb2
  have X2 : Hid (ReadsHp w2.heap.size w2 (some ⟨w.heap.size, 0, none⟩) rs) := .inr ⟨_, _, rfl, hz2, hi2⟩
  clear hb2 hz2 hi2
  go_wp2_with fail
  (first | go_at_call 27 | skip)
  refine (hS.out _ _ w2 X2.out).mono ?_
  rintro e w3 ⟨rfl, hb3⟩
  have B3 : Hid (Below w.heap.size w w3) := chain B2.out hb3
  clear hb3 X2
  go_wp2_with fail
  (first | go_at_call 17 | skip)
  refine (hT.out w3 ((HR.out.below B3.out).mono B3.out.size)).mono ?_
  rintro e w4 ⟨rfl, hb4, hz4, hi4⟩
  have B4 : Hid (Below w.heap.size w w4) := chain B3.out hb4
  have X4 : Hid (ReadsHp w4.heap.size w4 (some ⟨w3.heap.size, 0, none⟩) rs) := .inr ⟨_, _, rfl, hz4, hi4⟩
  clear hb4 hz4 hi4
  go_wp2_with fail
  (first | go_at_call 13 | skip)
  refine (hI.out _ _ w4 X4.out).mono ?_
  rintro e w5 ⟨rfl, hb5⟩
  have B5 : Hid (Below w.heap.size w w5) := chain B4.out hb5
  have X5 : Hid (ReadsHp w5.heap.size w5 (some ⟨w3.heap.size, 0, none⟩) rs) := (X4.out.below hb5).mono hb5.size
  clear hb5 X4
  go_wp2_with fail
  (first | go_at_call 17 | skip)
  refine (hT.out w5 ((HR.out.below B5.out).mono B5.out.size)).mono ?_
  rintro e w8 ⟨rfl, hb8, hz8, hi8⟩
  have B8 : Hid (Below w.heap.size w w8) := chain B5.out hb8
  have X8 : Hid (ReadsHp w8.heap.size w8 (some ⟨w3.heap.size, 0, none⟩) rs) := (X5.out.below hb8).mono hb8.size
  have Y8 : Hid (ReadsHp w8.heap.size w8 (some ⟨w5.heap.size, 0, none⟩) rs) := .inr ⟨_, _, rfl, hz8, hi8⟩
  clear hb8 hz8 hi8 X5
  go_wp2_with fail
  (first | go_at_call 18 | skip)
  refine (eqHps_any _ _ _ _ rs hlen w8 X8.out Y8.out).mono ?_
  rintro e w9 ⟨rfl, hb9⟩
  have B9 : Hid (Below w.heap.size w w9) := chain B8.out hb9
  clear hb9
  go_wp2
  go_ret
  exact ⟨rfl, B9.out⟩
theorem walk (a : Option Addr) (len cap : Nat) (rs : List RHp) (t : Int) (htw : (Lit.int .i64 t).wf = true) (w : World) (h : IsHps w a len cap rs) :
    Calls Try.prog 7 #[.slice a len cap, .int .i64 t] w fun e w' => e = .returned (.bool true) ∧ Below w.heap.size w w' := by
  obtain ⟨rfl, h2, h3, h4, h5⟩ := h
  exact walk' a cap rs t (Nat.le_trans h2 h3) w h5

theorem own : ownKnob Try.prog.godebug = none := by kernel_rfl
theorem laidOut : laidOutB Try.prog = true := by kernel_rfl

set_option maxRecDepth 100000 in
theorem lifted (os : Os) (started : os.Started) (H : Type) (enc : TypeId × Value → H) :
    ReturnsInHanded {} Try.checked os 7 .any (Rows.fnExactLeastEndSpec.pre6 enc Try.prog Try.f7 Rows.fnExactLeastEndRow.domain false) (Rows.fnExactLeastEndSpec.post enc Try.prog Try.f7 false true false false) := by
  refine returnsInHanded_of_change (C := Try.checked) own started (by kernel_rfl) Try.func7
    (ChangeSpec.witness6 (enc := enc) (C := Try.checked) false ⟨#[], #[.slice none 0 0, .int .i64 0], []⟩ 8 (by kernel_rfl) (by kernel_rfl) (by kernel_rfl) (by kernel_rfl)) ?_
  intro W base args ds gs before hval0 hW hcnd _
  have hval : ∀ (j : Nat) t v, Try.f7.params[j]? = some t → args[j]? = some v → Value.okWide Try.prog W .any base t v := hval0
  have hW' := hW
  obtain ⟨p, q, hA0, hV, rfl, hfz, hnd⟩ := hW
  have hA : DataW.TrodAll enc Try.prog W 0 (fun _ => true) true Try.f7.params.toList args.toList ds p := hA0
  rw [Try.params7] at hA hval
  obtain ⟨v0, vs0, d0, ds0, p0, q0, hargs, rfl, rfl, h0, r0⟩ := trodAll_cons hA
  obtain ⟨v1, vs1, d1, ds1, p1, q1, rfl, rfl, rfl, h1, r1⟩ := trodAll_cons r0
  obtain ⟨rfl, rfl, rfl⟩ := trodAll_nil r1
  obtain rfl : args = #[v0, v1] := by cases args; simp_all
  obtain ⟨rfl, rfl⟩ := trodVars_none hV
  have k0 := h0
  have lt0 : ∀ x ∈ p0, x.block < W.heap.size := by obtain ⟨m, hm⟩ := k0; exact DataW.trod_lt m _ _ _ hm
  have k1 := h1
  have lt1 : ∀ x ∈ p1, x.block < W.heap.size := by obtain ⟨m, hm⟩ := k1; exact DataW.trod_lt m _ _ _ hm
  obtain ⟨a0, len0, cap0, rfl⟩ := okWide_slice Try.underlying39 (hval 0 39 v0 rfl rfl)
  obtain ⟨z0, w0⟩ : ∃ zs, IsHps W a0 len0 cap0 zs := by
    obtain ⟨fuel, hf⟩ := h0
    exact openHps (by simpa [Value.cells] using hf)
  obtain ⟨a1, rfl, rfl, rfl, w1⟩ := open_int Try.underlying3 (hval 1 3 v1 rfl rfl) h1
  clear hA0 hval0
  refine (walk a0 len0 cap0 z0 a1 w1 W w0).mono fun e W' ⟨he, bel⟩ => ?_
  subst he
  exact ⟨_, rfl, _, _, _, [], _, [], hW', trodAll_mk1 (shut_bool Try.underlying4 _), (trodAll_cons_mk (Below.trod laidOut (by kernel_rfl) (of_decide_eq_true (by kernel_rfl)) k0 bel lt0) (trodAll_cons_mk (Below.trod laidOut (by kernel_rfl) (of_decide_eq_true (by kernel_rfl)) k1 bel lt1) trodAll_mk0)), rfl, bel.frame _, fun h => by cases h⟩

theorem over : Rows.fnExactLeastEndRow.holds Try.pinned (OpenSpec.ofChange Rows.fnExactLeastEndSpec) :=
  OpenClaim.holds_of_wide 7 Try.f7 rfl rfl rfl rfl rfl rfl rfl ⟨rfl, rfl, rfl, rfl, rfl⟩ rfl rfl rfl rfl rfl (by kernel_rfl) Try.func7 (by kernel_rfl)
    (of_decide_eq_true (by kernel_rfl)) (by unfold Func.isWrapper; first | (rw [if_pos (by decide +kernel)]; kernel_rfl) | (rw [if_neg (by decide +kernel)]; exact ⟨rfl, rfl⟩))
    (fun os started H enc _ => lifted os started H enc)
end LeastLaw

theorem fnExactLeastEnd_holds : Rows.FnExactLeastEndSaid := LeastLaw.over
end Go.Proofs.Ytenahlkplfmdoaa

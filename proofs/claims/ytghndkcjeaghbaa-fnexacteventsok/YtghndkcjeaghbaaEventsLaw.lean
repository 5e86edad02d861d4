/-
  For every list of events the law FnExactEventsOK answers true: the program's EventsOK answers as the specification's and writes into no argument; with no condition.
-/
import Derived.Test.YtghndkcjeaghbaaEvD
import Derived.Test.YtghndkcjeaghbaaEvF
namespace Go.Proofs.Ytghndkcjeaghbaa
open Go.ChangeShapes Go.WideShapes Go.ChangeAt Go.RowKit Go.Joins
set_option linter.unusedVariables false

namespace EventsLaw
set_option maxHeartbeats 4000000 in
theorem walk' (a : Option Addr) (cap : Nat) (rs : List REv) (hl : rs.length ≤ maxLen) (hp : ∀ r ∈ rs, EvWide r) (w : World) (hr : ReadsEv w.heap.size w a rs) :
    Calls Try.prog 5 #[.slice a rs.length cap] w fun e w' => e = .returned (.bool true) ∧ Below w.heap.size w w' := by
  have HR : Hid (ReadsEv w.heap.size w a rs) := hr
  have HZ : Hid (∀ w, ReadsEv w.heap.size w a rs → Calls Try.prog 16 #[.slice a rs.length cap, .int .i64 1048576] w (SzEv rs w)) := fun w h => szEvs_any a cap rs hl hp 1048576 (by omega) (by omega) w h
  clear hr hp
  go_enter Try.func5, Try.ntmps5
  go_wp2_with (go_at_call 16; refine (HZ.out _ HR.out).mono ?_; rintro e w1 ⟨x, rfl, hx, hb1⟩; have HX : Hid (x < 0 ∨ (0 ≤ x ∧ x ≤ 1048576 ∧ rs.length ≤ 1048576 ∧ ∀ r ∈ rs, EvOK r)) := hx; have B1 : Hid (Below w.heap.size w w1) := hb1; clear hx hb1)
  · go_ret
    exact ⟨rfl, B1.out⟩
  · rcases HX.out with h | ⟨h, _, hlen, hok⟩
    · omega
    have HOK : Hid (∀ r ∈ rs, EvOK r) := hok
    have hS := fun a w h => specEvents_any a rs.length rs (by omega) HOK.out w h
    have hI := fun a w h => implEvents_any a rs.length rs (by omega) HOK.out w h
    have hT := fun w h => toEvs_any a cap rs hlen w h
    generalize evAll rs = b at *
    have hbb : (b != b) = false := by simp
    clear hok HX
    refine (hT w1 ((HR.out.below B1.out).mono B1.out.size)).mono ?_
    rintro e w2 ⟨rfl, hb2, hz2, hi2, _⟩
    have B2 : Hid (Below w.heap.size w w2) := chain B1.out hb2
    have X2 : Hid (w1.heap.size < w2.heap.size ∧ EvsAt w2 w1.heap.size 0 rs) := ⟨hz2, hi2⟩
    clear hb2 hz2 hi2
    go_wp2_with (first
      | (go_at_call 20; refine (eqEvs_any _ _ _ _ rs hlen w6 (.inr ⟨_, _, rfl, by have := Z6.out; omega, X6.out⟩) R6.out).mono ?_; rintro e w7 ⟨rfl, hb7⟩; have B7 : Hid (Below w.heap.size w w7) := chain B6.out hb7; clear hb7)
      | (go_at_call 18; have G5 := X5; refine (hT w5 ((HR.out.below B5.out).mono B5.out.size)).mono ?_; rintro e w6 ⟨rfl, hb6, hz6, hi6, _⟩; have B6 : Hid (Below w.heap.size w w6) := chain B5.out hb6; have X6 : Hid (EvsAt w6 w3.heap.size 0 rs) := X5.out.2.below hb6 (by have := X5.out.1; omega); have Z6 : Hid (w3.heap.size < w6.heap.size) := Nat.lt_of_lt_of_le X5.out.1 hb6.size; have R6 : Hid (ReadsEv w6.heap.size w6 (some ⟨w5.heap.size, 0, none⟩) rs) := .inr ⟨_, _, rfl, hz6, hi6⟩; clear hb6 hz6 hi6)
      | (go_at_call 19; refine (hI _ w4 (.inr ⟨_, _, rfl, X4.out.1, X4.out.2⟩)).mono ?_; rintro e w5 ⟨rfl, hb5⟩; have B5 : Hid (Below w.heap.size w w5) := chain B4.out hb5; have X5 : Hid (w3.heap.size < w5.heap.size ∧ EvsAt w5 w3.heap.size 0 rs) := ⟨Nat.lt_of_lt_of_le X4.out.1 hb5.size, X4.out.2.below hb5 X4.out.1⟩; clear hb5)
      | (go_at_call 18; have G3 := B3; refine (hT w3 ((HR.out.below B3.out).mono B3.out.size)).mono ?_; rintro e w4 ⟨rfl, hb4, hz4, hi4, _⟩; have B4 : Hid (Below w.heap.size w w4) := chain B3.out hb4; have X4 : Hid (w3.heap.size < w4.heap.size ∧ EvsAt w4 w3.heap.size 0 rs) := ⟨hz4, hi4⟩; clear hb4 hz4 hi4)
      | (go_at_call 17; refine (hS _ w2 (.inr ⟨_, _, rfl, X2.out.1, X2.out.2⟩)).mono ?_; rintro e w3 ⟨rfl, hb3⟩; have B3 : Hid (Below w.heap.size w w3) := chain B2.out hb3; clear hb3))
    go_ret
    exact ⟨rfl, B7.out⟩

theorem walk (a : Option Addr) (len cap : Nat) (rs : List REv) (w : World) (h : IsEvs w a len cap rs) :
    Calls Try.prog 5 #[.slice a len cap] w fun e w' => e = .returned (.bool true) ∧ Below w.heap.size w w' := by
  obtain ⟨rfl, h2, h3, h4, h5⟩ := h
  exact walk' a cap rs (Nat.le_trans h2 h3) h4 w h5

theorem own : ownKnob Try.prog.godebug = none := by kernel_rfl
theorem laidOut : laidOutB Try.prog = true := by kernel_rfl

set_option maxRecDepth 100000 in
theorem lifted (os : Os) (started : os.Started) (H : Type) (enc : TypeId × Value → H) :
    ReturnsInHanded {} Try.checked os 5 .any (Rows.fnExactEventsOKSpec.pre6 enc Try.prog Try.f5 Rows.fnExactEventsOKRow.domain false) (Rows.fnExactEventsOKSpec.post enc Try.prog Try.f5 false true false false) := by
  refine returnsInHanded_of_change (C := Try.checked) own started (by kernel_rfl) Try.func5
    (ChangeSpec.witness6 (enc := enc) (C := Try.checked) false ⟨#[], #[.slice none 0 0], []⟩ 8 (by kernel_rfl) (by kernel_rfl) (by kernel_rfl) (by kernel_rfl)) ?_
  intro W base args ds gs before hval0 hW hcnd _
  have hval : ∀ (j : Nat) t v, Try.f5.params[j]? = some t → args[j]? = some v → Value.okWide Try.prog W .any base t v := hval0
  have hW' := hW
  obtain ⟨p, q, hA0, hV, rfl, hfz, hnd⟩ := hW
  have hA : DataW.TrodAll enc Try.prog W 0 (fun _ => true) true Try.f5.params.toList args.toList ds p := hA0
  rw [Try.params5] at hA hval
  obtain ⟨v0, vs0, d0, ds0, p0, q0, hargs, rfl, rfl, h0, r0⟩ := trodAll_cons hA
  obtain ⟨rfl, rfl, rfl⟩ := trodAll_nil r0
  obtain rfl : args = #[v0] := by cases args; simp_all
  obtain ⟨rfl, rfl⟩ := trodVars_none hV
  have k0 := h0
  have lt0 : ∀ x ∈ p0, x.block < W.heap.size := by obtain ⟨m, hm⟩ := k0; exact DataW.trod_lt m _ _ _ hm
  obtain ⟨a0, len0, cap0, rfl⟩ := okWide_slice Try.underlying45 (hval 0 45 v0 rfl rfl)
  obtain ⟨z0, w0⟩ : ∃ zs, IsEvs W a0 len0 cap0 zs := by
    obtain ⟨fuel, hf⟩ := h0
    exact openEvs (by simpa [Value.cells] using hf)
  clear hA0 hval0
  refine (walk a0 len0 cap0 z0 W w0).mono fun e W' ⟨he, bel⟩ => ?_
  subst he
  exact ⟨_, rfl, _, _, _, [], _, [], hW', trodAll_mk1 (shut_bool Try.underlying4 _), (trodAll_cons_mk (Below.trod laidOut (by kernel_rfl) (of_decide_eq_true (by kernel_rfl)) k0 bel lt0) trodAll_mk0), rfl, bel.frame _, fun h => by cases h⟩

theorem over : Rows.fnExactEventsOKRow.holds Try.pinned (OpenSpec.ofChange Rows.fnExactEventsOKSpec) :=
  OpenClaim.holds_of_wide 5 Try.f5 rfl rfl rfl rfl rfl rfl rfl ⟨rfl, rfl, rfl, rfl, rfl⟩ rfl rfl rfl rfl rfl (by kernel_rfl) Try.func5 (by kernel_rfl)
    (of_decide_eq_true (by kernel_rfl)) (by unfold Func.isWrapper; first | (rw [if_pos (by decide +kernel)]; kernel_rfl) | (rw [if_neg (by decide +kernel)]; exact ⟨rfl, rfl⟩))
    (fun os started H enc _ => lifted os started H enc)
end EventsLaw

theorem fnExactEventsOK_holds : Rows.FnExactEventsOKSaid := EventsLaw.over
end Go.Proofs.Ytghndkcjeaghbaa

/-
  For every list of price rows the law FnExactPricesOK answers true: the program's PricesOK answers as the specification's and writes into no argument; with no condition.
-/
import Derived.Test.YtbkaikobjkkgkaaPriceCS
import Derived.Test.YtbkaikobjkkgkaaPrF
namespace Go.Proofs.Ytbkaikobjkkgkaa
open Go.ChangeShapes Go.WideShapes Go.ChangeAt Go.RowKit Go.Joins
set_option linter.unusedVariables false

namespace PricesLaw
set_option maxHeartbeats 4000000 in
theorem walk' (a : Option Addr) (cap : Nat) (rs : List RPr) (hl : rs.length ≤ maxLen) (hp : ∀ r ∈ rs, PrWide r) (w : World) (hr : ReadsPr w.heap.size w a rs) :
    Calls Try.prog 3 #[.slice a rs.length cap] w fun e w' => e = .returned (.bool true) ∧ Below w.heap.size w w' := by
  have HR : Hid (ReadsPr w.heap.size w a rs) := hr
  have HZ : Hid (∀ w, ReadsPr w.heap.size w a rs → Calls Try.prog 7 #[.slice a rs.length cap, .int .i64 1048576] w (SzPr rs w)) := fun w h => szPrs_any a cap rs hl hp 1048576 (by omega) (by omega) w h
  clear hr hp
  go_enter Try.func3, Try.ntmps3
  go_wp2_with (go_at_call 7; refine (HZ.out _ HR.out).mono ?_; rintro e w1 ⟨x, rfl, hx, hb1⟩; have HX : Hid (x < 0 ∨ (0 ≤ x ∧ x ≤ 1048576 ∧ rs.length ≤ 1048576 ∧ ∀ r ∈ rs, PrOK r)) := hx; have B1 : Hid (Below w.heap.size w w1) := hb1; clear hx hb1)
  · go_ret
    exact ⟨rfl, B1.out⟩
  · rcases HX.out with h | ⟨h, _, hlen, hok⟩
    · omega
    have HOK : Hid (∀ r ∈ rs, PrOK r) := hok
    have hS := fun a c w h => specPrices_any a c rs (by omega) HOK.out w h
    have hI := fun a c w h => implPrices_any a c rs (by omega) HOK.out w h
    have hT := fun w h => toPrs_any a cap rs hlen w h
    generalize prAll rs = b at *
    have hbb : (b != b) = false := by simp
    clear hok HX
    refine (hT w1 ((HR.out.below B1.out).mono B1.out.size)).mono ?_
    rintro e w2 ⟨rfl, hb2, hz2, hi2, _⟩
    have B2 : Hid (Below w.heap.size w w2) := chain B1.out hb2
    have X2 : Hid (w1.heap.size < w2.heap.size ∧ PrsAt w2 w1.heap.size 0 rs) := ⟨hz2, hi2⟩
    clear hb2 hz2 hi2
    go_wp2_with (first
      | (go_at_call 11; refine (eqPrs_any _ _ _ _ rs hlen w6 (.inr ⟨_, _, rfl, by have := Z6.out; omega, X6.out⟩) R6.out).mono ?_; rintro e w7 ⟨rfl, hb7⟩; have B7 : Hid (Below w.heap.size w w7) := chain B6.out hb7; clear hb7)
      | (go_at_call 9; have G5 := X5; refine (hT w5 ((HR.out.below B5.out).mono B5.out.size)).mono ?_; rintro e w6 ⟨rfl, hb6, hz6, hi6, _⟩; have B6 : Hid (Below w.heap.size w w6) := chain B5.out hb6; have X6 : Hid (PrsAt w6 w3.heap.size 0 rs) := X5.out.2.below hb6 (by have := X5.out.1; omega); have Z6 : Hid (w3.heap.size < w6.heap.size) := Nat.lt_of_lt_of_le X5.out.1 hb6.size; have R6 : Hid (ReadsPr w6.heap.size w6 (some ⟨w5.heap.size, 0, none⟩) rs) := .inr ⟨_, _, rfl, hz6, hi6⟩; clear hb6 hz6 hi6)
      | (go_at_call 10; refine (hI _ _ w4 (.inr ⟨_, _, rfl, X4.out.1, X4.out.2⟩)).mono ?_; rintro e w5 ⟨rfl, hb5⟩; have B5 : Hid (Below w.heap.size w w5) := chain B4.out hb5; have X5 : Hid (w3.heap.size < w5.heap.size ∧ PrsAt w5 w3.heap.size 0 rs) := ⟨Nat.lt_of_lt_of_le X4.out.1 hb5.size, X4.out.2.below hb5 X4.out.1⟩; clear hb5)
      | (go_at_call 9; have G3 := B3; refine (hT w3 ((HR.out.below B3.out).mono B3.out.size)).mono ?_; rintro e w4 ⟨rfl, hb4, hz4, hi4, _⟩; have B4 : Hid (Below w.heap.size w w4) := chain B3.out hb4; have X4 : Hid (w3.heap.size < w4.heap.size ∧ PrsAt w4 w3.heap.size 0 rs) := ⟨hz4, hi4⟩; clear hb4 hz4 hi4)
      | (go_at_call 8; refine (hS _ _ w2 (.inr ⟨_, _, rfl, X2.out.1, X2.out.2⟩)).mono ?_; rintro e w3 ⟨rfl, hb3⟩; have B3 : Hid (Below w.heap.size w w3) := chain B2.out hb3; clear hb3))
    go_ret
    exact ⟨rfl, B7.out⟩

theorem walk (a : Option Addr) (len cap : Nat) (rs : List RPr) (w : World) (h : IsPrs w a len cap rs) :
    Calls Try.prog 3 #[.slice a len cap] w fun e w' => e = .returned (.bool true) ∧ Below w.heap.size w w' := by
  obtain ⟨rfl, h2, h3, h4, h5⟩ := h
  exact walk' a cap rs (Nat.le_trans h2 h3) h4 w h5

theorem own : ownKnob Try.prog.godebug = none := by kernel_rfl
theorem laidOut : laidOutB Try.prog = true := by kernel_rfl

set_option maxRecDepth 100000 in
theorem lifted (os : Os) (started : os.Started) (H : Type) (enc : TypeId × Value → H) :
    ReturnsInHanded {} Try.checked os 3 .any (Rows.fnExactPricesOKSpec.pre6 enc Try.prog Try.f3 Rows.fnExactPricesOKRow.domain false) (Rows.fnExactPricesOKSpec.post enc Try.prog Try.f3 false true false false) := by
  refine returnsInHanded_of_change (C := Try.checked) own started (by kernel_rfl) Try.func3
    (ChangeSpec.witness6 (enc := enc) (C := Try.checked) false ⟨#[], #[.slice none 0 0], []⟩ 8 (by kernel_rfl) (by kernel_rfl) (by kernel_rfl) (by kernel_rfl)) ?_
  intro W base args ds gs before hval0 hW hcnd _
  have hval : ∀ (j : Nat) t v, Try.f3.params[j]? = some t → args[j]? = some v → Value.okWide Try.prog W .any base t v := hval0
  have hW' := hW
  obtain ⟨p, q, hA0, hV, rfl, hfz, hnd⟩ := hW
  have hA : DataW.TrodAll enc Try.prog W 0 (fun _ => true) true Try.f3.params.toList args.toList ds p := hA0
  rw [Try.params3] at hA hval
  obtain ⟨v0, vs0, d0, ds0, p0, q0, hargs, rfl, rfl, h0, r0⟩ := trodAll_cons hA
  obtain ⟨rfl, rfl, rfl⟩ := trodAll_nil r0
  obtain rfl : args = #[v0] := by cases args; simp_all
  obtain ⟨rfl, rfl⟩ := trodVars_none hV
  have k0 := h0
  have lt0 : ∀ x ∈ p0, x.block < W.heap.size := by obtain ⟨m, hm⟩ := k0; exact DataW.trod_lt m _ _ _ hm
  obtain ⟨a0, len0, cap0, rfl⟩ := okWide_slice Try.underlying22 (hval 0 22 v0 rfl rfl)
  obtain ⟨z0, w0⟩ : ∃ zs, IsPrs W a0 len0 cap0 zs := by
    obtain ⟨fuel, hf⟩ := h0
    exact openPrs (by simpa [Value.cells] using hf)
  clear hA0 hval0
  refine (walk a0 len0 cap0 z0 W w0).mono fun e W' ⟨he, bel⟩ => ?_
  subst he
  exact ⟨_, rfl, _, _, _, [], _, [], hW', trodAll_mk1 (shut_bool Try.underlying4 _), (trodAll_cons_mk (Below.trod laidOut (by kernel_rfl) (of_decide_eq_true (by kernel_rfl)) k0 bel lt0) trodAll_mk0), rfl, bel.frame _, fun h => by cases h⟩

theorem over : Rows.fnExactPricesOKRow.holds Try.pinned (OpenSpec.ofChange Rows.fnExactPricesOKSpec) :=
  OpenClaim.holds_of_wide 3 Try.f3 rfl rfl rfl rfl rfl rfl rfl ⟨rfl, rfl, rfl, rfl, rfl⟩ rfl rfl rfl rfl rfl (by kernel_rfl) Try.func3 (by kernel_rfl)
    (of_decide_eq_true (by kernel_rfl)) (by unfold Func.isWrapper; first | (rw [if_pos (by decide +kernel)]; kernel_rfl) | (rw [if_neg (by decide +kernel)]; exact ⟨rfl, rfl⟩))
    (fun os started H enc _ => lifted os started H enc)
end PricesLaw

theorem fnExactPricesOK_holds : Rows.FnExactPricesOKSaid := PricesLaw.over
end Go.Proofs.Ytbkaikobjkkgkaa

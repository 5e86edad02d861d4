/-
  For every list of price rows, article, zone and minute the law FnExactPriceAt answers true: the program's PriceAt answers as the specification's and writes into no argument; with no condition.
-/
import Derived.Test.YtbkaikobjkkgkaaPriceK
namespace Go.Proofs.Ytbkaikobjkkgkaa
open Go.ChangeShapes Go.WideShapes Go.ChangeAt Go.RowKit Go.Joins
open Go.ChangeMaps (open_string shut_string)
set_option linter.unusedVariables false

namespace PriceAtLaw
set_option maxHeartbeats 4000000 in
set_option maxRecDepth 4000 in
theorem walk' (a : Option Addr) (cap : Nat) (rs : List RPr) (hl : rs.length ≤ maxLen) (hp : ∀ r ∈ rs, PrWide r) (art : ByteArray) (hart : art.size ≤ maxLen) (zn : ByteArray) (hzn : zn.size ≤ maxLen) (m : Int) (w : World) (hr : ReadsPr w.heap.size w a rs) :
    Calls Try.prog 4 #[.slice a rs.length cap, .string art, .string zn, .int .i64 m] w fun e w' => e = .returned (.bool true) ∧ Below w.heap.size w w' := by
  unfold maxLen at hart hzn
  by_cases hbig : (1048576 : Int) < (art.size : Int)
  · clear hr hp
    go_enter Try.func4, Try.ntmps4
    go_wp2
    go_ret
    exact ⟨rfl, Below.refl _ _⟩
  have hbig' : (art.size : Int) ≤ 1048576 := by omega
  by_cases hbz : (1048576 : Int) < (zn.size : Int)
  · clear hr hp
    go_enter Try.func4, Try.ntmps4
    go_wp2
    go_ret
    exact ⟨rfl, Below.refl _ _⟩
  have hbz' : (zn.size : Int) ≤ 1048576 := by omega
  have HR : Hid (ReadsPr w.heap.size w a rs) := hr
  have HZ : Hid (∀ w, ReadsPr w.heap.size w a rs → Calls Try.prog 7 #[.slice a rs.length cap, .int .i64 1048576] w (SzPr rs w)) := fun w h => szPrs_any a cap rs hl hp 1048576 (by omega) (by omega) w h
  clear hr hp hbig hbz
  go_enter Try.func4, Try.ntmps4
  go_wp2_with (go_at_call 7; refine (HZ.out _ HR.out).mono ?_; rintro e w1 ⟨x, rfl, hx, hb1⟩; have HX : Hid (x < 0 ∨ (0 ≤ x ∧ x ≤ 1048576 ∧ rs.length ≤ 1048576 ∧ ∀ r ∈ rs, PrOK r)) := hx; have B1 : Hid (Below w.heap.size w w1) := hb1; clear hx hb1)
  · go_ret
    exact ⟨rfl, B1.out⟩
  · rcases HX.out with h | ⟨h, _, hlen, hok⟩
    · omega
    have HOK : Hid (∀ r ∈ rs, PrOK r) := hok
    have hS := fun a c w h => specPriceAt_any a c rs (by omega) HOK.out art zn (by omega) (by omega) m w h
    have hI := fun a c w h => implPriceAt_any a c rs (by omega) HOK.out art zn (by omega) (by omega) m w h
    have hT := fun w h => toPrs_any a cap rs hlen w h
    generalize paAm rs art zn m = y0 at *
    generalize paRow rs art zn m = y1 at *
    generalize paCode rs art zn m = y2 at *
    clear hok HX
    refine (hT w1 ((HR.out.below B1.out).mono B1.out.size)).mono ?_
    rintro e w2 ⟨rfl, hb2, hz2, hi2, _⟩
    have B2 : Hid (Below w.heap.size w w2) := chain B1.out hb2
    have X2 : Hid (w1.heap.size < w2.heap.size ∧ PrsAt w2 w1.heap.size 0 rs) := ⟨hz2, hi2⟩
    clear hb2 hz2 hi2
    go_wp2_with fail
    (first | go_at_call 12 | skip)
    refine (hS _ _ w2 (.inr ⟨_, _, rfl, X2.out.1, X2.out.2⟩)).mono ?_
    rintro e w3 ⟨rfl, hb3⟩
    have B3 : Hid (Below w.heap.size w w3) := chain B2.out hb3
    clear hb3
    go_wp2_with fail
    (first | go_at_call 9 | skip)
    refine (hT w3 ((HR.out.below B3.out).mono B3.out.size)).mono ?_
    rintro e w4 ⟨rfl, hb4, hz4, hi4, _⟩
    have B4 : Hid (Below w.heap.size w w4) := chain B3.out hb4
    have X4 : Hid (w3.heap.size < w4.heap.size ∧ PrsAt w4 w3.heap.size 0 rs) := ⟨hz4, hi4⟩
    clear hb4 hz4 hi4
    go_wp2_with fail
    (first | go_at_call 13 | skip)
    refine (hI _ _ w4 (.inr ⟨_, _, rfl, X4.out.1, X4.out.2⟩)).mono ?_
    rintro e w5 ⟨rfl, hb5⟩
    have B5 : Hid (Below w.heap.size w w5) := chain B4.out hb5
    have X5 : Hid (w3.heap.size < w5.heap.size ∧ PrsAt w5 w3.heap.size 0 rs) := ⟨Nat.lt_of_lt_of_le X4.out.1 hb5.size, X4.out.2.below hb5 X4.out.1⟩
    clear hb5
    go_wp2_with fail
    (first | go_at_call 9 | skip)
    refine (hT w5 ((HR.out.below B5.out).mono B5.out.size)).mono ?_
    rintro e w6 ⟨rfl, hb6, hz6, hi6, _⟩
    have B6 : Hid (Below w.heap.size w w6) := chain B5.out hb6
    have X6 : Hid (w3.heap.size < w6.heap.size ∧ PrsAt w6 w3.heap.size 0 rs) := ⟨Nat.lt_of_lt_of_le X5.out.1 hb6.size, X5.out.2.below hb6 X5.out.1⟩
    have R6 : Hid (ReadsPr w6.heap.size w6 (some ⟨w5.heap.size, 0, none⟩) rs) := .inr ⟨_, _, rfl, hz6, hi6⟩
    clear hb6 hz6 hi6
    go_wp2_with fail
    (first | go_at_call 11 | skip)
    refine (eqPrs_any _ _ _ _ rs hlen w6 (.inr ⟨_, _, rfl, X6.out.1, X6.out.2⟩) R6.out).mono ?_
    rintro e w7 ⟨rfl, hb7⟩
    have B7 : Hid (Below w.heap.size w w7) := chain B6.out hb7
    clear hb7
    go_wp2
    go_ret
    exact ⟨rfl, B7.out⟩

theorem walk (a : Option Addr) (len cap : Nat) (rs : List RPr) (art : ByteArray) (hart : art.size ≤ maxLen) (zn : ByteArray) (hzn : zn.size ≤ maxLen) (m : Int) (hm : (Lit.int .i64 m).wf = true) (w : World) (h : IsPrs w a len cap rs) :
    Calls Try.prog 4 #[.slice a len cap, .string art, .string zn, .int .i64 m] w fun e w' => e = .returned (.bool true) ∧ Below w.heap.size w w' := by
  obtain ⟨rfl, h2, h3, h4, h5⟩ := h
  exact walk' a cap rs (Nat.le_trans h2 h3) h4 art hart zn hzn m w h5

theorem own : ownKnob Try.prog.godebug = none := by kernel_rfl
theorem laidOut : laidOutB Try.prog = true := by kernel_rfl

set_option maxRecDepth 100000 in
theorem lifted (os : Os) (started : os.Started) (H : Type) (enc : TypeId × Value → H) :
    ReturnsInHanded {} Try.checked os 4 .any (Rows.fnExactPriceAtSpec.pre6 enc Try.prog Try.f4 Rows.fnExactPriceAtRow.domain false) (Rows.fnExactPriceAtSpec.post enc Try.prog Try.f4 false true false false) := by
  refine returnsInHanded_of_change (C := Try.checked) own started (by kernel_rfl) Try.func4
    (ChangeSpec.witness6 (enc := enc) (C := Try.checked) false ⟨#[], #[.slice none 0 0, .string ByteArray.empty, .string ByteArray.empty, .int .i64 0], []⟩ 8 (by kernel_rfl) (by kernel_rfl) (by kernel_rfl) (by kernel_rfl)) ?_
  intro W base args ds gs before hval0 hW hcnd _
  have hval : ∀ (j : Nat) t v, Try.f4.params[j]? = some t → args[j]? = some v → Value.okWide Try.prog W .any base t v := hval0
  have hW' := hW
  obtain ⟨p, q, hA0, hV, rfl, hfz, hnd⟩ := hW
  have hA : DataW.TrodAll enc Try.prog W 0 (fun _ => true) true Try.f4.params.toList args.toList ds p := hA0
  rw [Try.params4] at hA hval
  obtain ⟨v0, vs0, d0, ds0, p0, q0, hargs, rfl, rfl, h0, r0⟩ := trodAll_cons hA
  obtain ⟨v1, vs1, d1, ds1, p1, q1, rfl, rfl, rfl, h1, r1⟩ := trodAll_cons r0
  obtain ⟨v2, vs2, d2, ds2, p2, q2, rfl, rfl, rfl, h2, r2⟩ := trodAll_cons r1
  obtain ⟨v3, vs3, d3, ds3, p3, q3, rfl, rfl, rfl, h3, r3⟩ := trodAll_cons r2
  obtain ⟨rfl, rfl, rfl⟩ := trodAll_nil r3
  obtain rfl : args = #[v0, v1, v2, v3] := by cases args; simp_all
  obtain ⟨rfl, rfl⟩ := trodVars_none hV
  have k0 := h0
  have lt0 : ∀ x ∈ p0, x.block < W.heap.size := by obtain ⟨m, hm⟩ := k0; exact DataW.trod_lt m _ _ _ hm
  have k1 := h1
  have lt1 : ∀ x ∈ p1, x.block < W.heap.size := by obtain ⟨m, hm⟩ := k1; exact DataW.trod_lt m _ _ _ hm
  have k2 := h2
  have lt2 : ∀ x ∈ p2, x.block < W.heap.size := by obtain ⟨m, hm⟩ := k2; exact DataW.trod_lt m _ _ _ hm
  have k3 := h3
  have lt3 : ∀ x ∈ p3, x.block < W.heap.size := by obtain ⟨m, hm⟩ := k3; exact DataW.trod_lt m _ _ _ hm
  obtain ⟨a0, len0, cap0, rfl⟩ := okWide_slice Try.underlying22 (hval 0 22 v0 rfl rfl)
  obtain ⟨z0, w0⟩ : ∃ zs, IsPrs W a0 len0 cap0 zs := by
    obtain ⟨fuel, hf⟩ := h0
    exact openPrs (by simpa [Value.cells] using hf)
  obtain ⟨a1, rfl, rfl, rfl, w1⟩ := open_string Try.underlying9 (hval 1 9 v1 rfl rfl) h1
  obtain ⟨a2, rfl, rfl, rfl, w2⟩ := open_string Try.underlying9 (hval 2 9 v2 rfl rfl) h2
  obtain ⟨a3, rfl, rfl, rfl, w3⟩ := open_int Try.underlying3 (hval 3 3 v3 rfl rfl) h3
  clear hA0 hval0
  refine (walk a0 len0 cap0 z0 a1 w1 a2 w2 a3 w3 W w0).mono fun e W' ⟨he, bel⟩ => ?_
  subst he
  exact ⟨_, rfl, _, _, _, [], _, [], hW', trodAll_mk1 (shut_bool Try.underlying4 _), (trodAll_cons_mk (Below.trod laidOut (by kernel_rfl) (of_decide_eq_true (by kernel_rfl)) k0 bel lt0) (trodAll_cons_mk (Below.trod laidOut (by kernel_rfl) (of_decide_eq_true (by kernel_rfl)) k1 bel lt1) (trodAll_cons_mk (Below.trod laidOut (by kernel_rfl) (of_decide_eq_true (by kernel_rfl)) k2 bel lt2) (trodAll_cons_mk (Below.trod laidOut (by kernel_rfl) (of_decide_eq_true (by kernel_rfl)) k3 bel lt3) trodAll_mk0)))), rfl, bel.frame _, fun h => by cases h⟩

theorem over : Rows.fnExactPriceAtRow.holds Try.pinned (OpenSpec.ofChange Rows.fnExactPriceAtSpec) :=
  OpenClaim.holds_of_wide 4 Try.f4 rfl rfl rfl rfl rfl rfl rfl ⟨rfl, rfl, rfl, rfl, rfl⟩ rfl rfl rfl rfl rfl (by kernel_rfl) Try.func4 (by kernel_rfl)
    (of_decide_eq_true (by kernel_rfl)) (by unfold Func.isWrapper; first | (rw [if_pos (by decide +kernel)]; kernel_rfl) | (rw [if_neg (by decide +kernel)]; exact ⟨rfl, rfl⟩))
    (fun os started H enc _ => lifted os started H enc)
end PriceAtLaw

theorem fnExactPriceAt_holds : Rows.FnExactPriceAtSaid := PriceAtLaw.over
end Go.Proofs.Ytbkaikobjkkgkaa

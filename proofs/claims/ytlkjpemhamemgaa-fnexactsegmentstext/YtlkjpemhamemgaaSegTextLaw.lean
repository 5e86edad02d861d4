/-
  For every list of segments the law FnExactSegmentsText answers true: the program's SegmentsText answers as the specification's and writes into no argument; with no condition.
-/
import Derived.Test.YtlkjpemhamemgaaSbE
import Derived.Test.YtlkjpemhamemgaaSgF
import Derived.Test.YtlkjpemhamemgaaSgO
namespace Go.Proofs.Ytlkjpemhamemgaa
open Go.ChangeShapes Go.WideShapes Go.ChangeAt Go.RowKit Go.Joins
set_option linter.unusedVariables false

namespace SegTextLaw
set_option maxHeartbeats 4000000 in
theorem walk' (a : Option Addr) (cap : Nat) (rs : List CSg) (hl : rs.length ≤ maxLen) (hp : ∀ r ∈ rs, SgWide r) (w : World) (hr : ReadsSg w.heap.size w a rs) :
    Calls Try.prog 5 #[.slice a rs.length cap] w fun e w' => e = .returned (.bool true) ∧ Below w.heap.size w w' := by
  have HR : Hid (ReadsSg w.heap.size w a rs) := hr
  have HZ : Hid (∀ w, ReadsSg w.heap.size w a rs → Calls Try.prog 17 #[.slice a rs.length cap, .int .i64 1048576] w (SzSgs rs w)) := fun w h => szSgs_any a cap rs hl hp 1048576 (by omega) (by omega) w h
  clear hr hp
  go_enter Try.func5, Try.ntmps5
  go_wp2_with (go_at_call 17; refine (HZ.out _ HR.out).mono ?_; rintro e w1 ⟨x, rfl, hx, hb1⟩; have HX : Hid (x < 0 ∨ (0 ≤ x ∧ x ≤ 1048576 ∧ rs.length ≤ 1048576 ∧ totSg rs ≤ 1048576 ∧ ∀ r ∈ rs, SgOK r)) := hx; have B1 : Hid (Below w.heap.size w w1) := hb1; clear hx hb1)
  · go_ret
    exact ⟨rfl, B1.out⟩
  rcases HX.out with h | ⟨h, _, hlen, _, hok⟩
  · omega
  have HOK : Hid (∀ r ∈ rs, SgOK r) := hok
  have hS : Hid (∀ a c w, rs.length ≤ c → ReadsSg w.heap.size w a rs → Calls Try.prog 11 #[.slice a rs.length c] w fun e w' => e = .returned (.tuple #[.string (sgT rs), .int .i64 (sgC rs)]) ∧ Below w.heap.size w w') := fun a c w hc h => specSegText_any a c rs (by omega) HOK.out w h
  have hI : Hid (∀ a c w, ReadsSg w.heap.size w a rs → Calls Try.prog 10 #[.slice a rs.length c] w fun e w' => e = .returned (.tuple #[.string (sgT rs), .int .i64 (sgC rs)]) ∧ Below w.heap.size w w') := fun a c w h => implSegText_any a c rs (by omega) HOK.out w h
  have hT : Hid (∀ w, ReadsSg w.heap.size w a rs → Calls Try.prog 18 #[.slice a rs.length cap] w fun e w' => ∃ g, e = .returned (.slice (some ⟨g, 0, none⟩) rs.length rs.length) ∧ Below w.heap.size w w' ∧ OwnSg w.heap.size w' g rs) := fun w h => (toSgs_any a cap rs hlen HOK.out w h).mono fun e w' ⟨h1, h2, h3⟩ => ⟨_, h1, h2, h3⟩
  generalize sgT rs = tx at *
  generalize sgC rs = b at *
  have hbb : (b != b) = false := by simp
  have hbs := beq_self tx
  clear hok HX HZ
  (first | go_at_call 18 | skip)
  refine (hT.out w1 (HR.out.later B1.out)).mono ?_
  rintro e w2 ⟨g2, rfl, hb2, ho2⟩
  have B2 : Hid (Below w.heap.size w w2) := chain B1.out hb2
  have X2 : Hid (OwnSg w1.heap.size w2 g2 rs) := ho2
  clear hb2 ho2
  go_wp2_with fail
  (first | go_at_call 11 | skip)
  refine (hS.out _ _ w2 (Nat.le_refl _) X2.out.reads).mono ?_
  rintro e w3 ⟨rfl, hb3⟩
  have B3 : Hid (Below w.heap.size w w3) := chain B2.out hb3
  clear hb3 X2
  go_wp2_with fail
  (first | go_at_call 18 | skip)
  refine (hT.out w3 (HR.out.later B3.out)).mono ?_
  rintro e w4 ⟨g4, rfl, hb4, ho4⟩
  have B4 : Hid (Below w.heap.size w w4) := chain B3.out hb4
  have X4 : Hid (OwnSg w3.heap.size w4 g4 rs) := ho4
  clear hb4 ho4
  go_wp2_with fail
  (first | go_at_call 10 | skip)
  refine (hI.out _ _ w4 X4.out.reads).mono ?_
  rintro e w5 ⟨rfl, hb5⟩
  have B5 : Hid (Below w.heap.size w w5) := chain B4.out hb5
  have X5 : Hid (OwnSg w3.heap.size w5 g4 rs) := X4.out.below hb5 (Nat.le_refl _)
  clear hb5 X4
  go_wp2_with fail
  (first | go_at_call 18 | skip)
  refine (hT.out w5 (HR.out.later B5.out)).mono ?_
  rintro e w6 ⟨g6, rfl, hb6, ho6⟩
  have B6 : Hid (Below w.heap.size w w6) := chain B5.out hb6
  have X6 : Hid (OwnSg w3.heap.size w6 g4 rs) := X5.out.below hb6 (Nat.le_refl _)
  have Y6 : Hid (OwnSg w5.heap.size w6 g6 rs) := ho6
  clear hb6 ho6 X5
  go_wp2_with fail
  (first | go_at_call 19 | skip)
  refine (eqSgs_any _ _ _ _ rs hlen HOK.out w6 X6.out.reads Y6.out.reads).mono ?_
  rintro e w7 ⟨rfl, hb7⟩
  have B7 : Hid (Below w.heap.size w w7) := chain B6.out hb7
  clear hb7
  go_wp2
  go_ret
  exact ⟨rfl, B7.out⟩

theorem walk (a : Option Addr) (len cap : Nat) (rs : List CSg) (w : World) (h : IsSgs w a len cap rs) :
    Calls Try.prog 5 #[.slice a len cap] w fun e w' => e = .returned (.bool true) ∧ Below w.heap.size w w' := by
  obtain ⟨rfl, h2, h3, h4, h5⟩ := h
  exact walk' a cap rs (Nat.le_trans h2 h3) h4 w h5

theorem own : ownKnob Try.prog.godebug = none := by kernel_rfl
theorem laidOut : laidOutB Try.prog = true := by kernel_rfl

set_option maxRecDepth 100000 in
theorem lifted (os : Os) (started : os.Started) (H : Type) (enc : TypeId × Value → H) :
    ReturnsInHanded {} Try.checked os 5 .any (Rows.fnExactSegmentsTextSpec.pre6 enc Try.prog Try.f5 Rows.fnExactSegmentsTextRow.domain false) (Rows.fnExactSegmentsTextSpec.post enc Try.prog Try.f5 false true false false) := by
  refine returnsInHanded_of_change (C := Try.checked) own started (by kernel_rfl) Try.func5
    (ChangeSpec.witness6 (enc := enc) (C := Try.checked) false ⟨#[], #[.slice none 0 0], []⟩ 8 (by kernel_rfl) (by kernel_rfl) (by kernel_rfl) (by kernel_rfl)) ?_
  intro W base args ds gs before hval0 hW hcnd _
  have hval : ∀ (j : Nat) t v, Try.f5.params[j]? = some t → args[j]? = some v → Value.okWide Try.prog W .any base t v := hval0
  have hW' := hW
  obtain ⟨p, q, hA0, hV, rfl, hfz, hnd⟩ := hW
  have hA : DataW.TrodAll enc Try.prog W 0 (fun _ => true) true Try.f5.params.toList args.toList ds p := hA0
  rw [Try.params5] at hA hval
  obtain ⟨v0, vs0, d0, ds0, p0, q0, hargs, rfl, rfl, h0, r0⟩ := trodAll_cons hA
  obtain ⟨rfl, rfl, rfl⟩ := trodAll_nil r0
  obtain rfl : args = #[v0] := by cases args; simp_all
  obtain ⟨rfl, rfl⟩ := trodVars_none hV
  have k0 := h0
  have lt0 : ∀ x ∈ p0, x.block < W.heap.size := by obtain ⟨m, hm⟩ := k0; exact DataW.trod_lt m _ _ _ hm
  obtain ⟨a0, len0, cap0, rfl⟩ := okWide_slice Try.underlying41 (hval 0 41 v0 rfl rfl)
  obtain ⟨z0, w0⟩ : ∃ zs, IsSgs W a0 len0 cap0 zs := by
    obtain ⟨fuel, hf⟩ := h0
    exact openSgs (by simpa [Value.cells] using hf)
  clear hA0 hval0
  refine (walk a0 len0 cap0 z0 W w0).mono fun e W' ⟨he, bel⟩ => ?_
  subst he
  exact ⟨_, rfl, _, _, _, [], _, [], hW', trodAll_mk1 (shut_bool Try.underlying4 _), (trodAll_cons_mk (Below.trod laidOut (by kernel_rfl) (of_decide_eq_true (by kernel_rfl)) k0 bel lt0) trodAll_mk0), rfl, bel.frame _, fun h => by cases h⟩

theorem over : Rows.fnExactSegmentsTextRow.holds Try.pinned (OpenSpec.ofChange Rows.fnExactSegmentsTextSpec) :=
  OpenClaim.holds_of_wide 5 Try.f5 rfl rfl rfl rfl rfl rfl rfl ⟨rfl, rfl, rfl, rfl, rfl⟩ rfl rfl rfl rfl rfl (by kernel_rfl) Try.func5 (by kernel_rfl)
    (of_decide_eq_true (by kernel_rfl)) (by unfold Func.isWrapper; first | (rw [if_pos (by decide +kernel)]; kernel_rfl) | (rw [if_neg (by decide +kernel)]; exact ⟨rfl, rfl⟩))
    (fun os started H enc _ => lifted os started H enc)
end SegTextLaw

theorem fnExactSegmentsText_holds : Rows.FnExactSegmentsTextSaid := SegTextLaw.over
end Go.Proofs.Ytlkjpemhamemgaa

/-
  For every gross amount and rate the law FnExactSplit answers true: the program's Split answers as the specification's, at every argument, with no condition.
-/
import Derived.Test.YtaledfdhiimhdajSplit
namespace Go.Proofs.Ytaledfdhiimhdaj
open Go.ChangeShapes Go.WideShapes Go.ChangeAt Go.RowKit Go.Joins
set_option linter.unusedVariables false

theorem eqTaxed_any (a b c : Int) (w : World) :
    Calls Try.prog 30 #[.agg #[.int .i64 a, .int .i64 b, .int .i64 c], .agg #[.int .i64 a, .int .i64 b, .int .i64 c]] w fun e w' => e = .returned (.bool true) ∧ Below w.heap.size w w' := by
  have l1 : ∀ n : Nat, n < n + 1 + 1 := fun n => by omega
  have l2 : ∀ n : Nat, n < n + 2 := fun n => by omega
  go_enter Try.func30, Try.ntmps30
  go_wp2
  go_ret
  exact ⟨rfl, by repeat (first | exact Below.refl _ _ | refine chain ?_ (by assumption) | refine chain ?_ (below_alloc _ _) | refine chain ?_ (below_drew _))⟩

theorem rateCells {w w' : World} {n d : Int} (hb : Below (w.alloc (Obj.cells #[.int .i64 n, .int .i64 d] 50)).heap.size (w.alloc (Obj.cells #[.int .i64 n, .int .i64 d] 50)) w') :
    w'.cell? ⟨w.heap.size, 0, none⟩ = some (.int .i64 n) ∧ w'.cell? ⟨w.heap.size, 1, none⟩ = some (.int .i64 d) ∧ w.heap.size < w'.heap.size := by
  have hlt : w.heap.size < (w.alloc (Obj.cells #[.int .i64 n, .int .i64 d] 50)).heap.size := by simp
  exact ⟨(hb.cell (p := ⟨w.heap.size, 0, none⟩) hlt).trans (by simp), (hb.cell (p := ⟨w.heap.size, 1, none⟩) hlt).trans (by simp), Nat.lt_of_lt_of_le hlt hb.size⟩

namespace SplitLaw
theorem walk (g : Int) (wg : (Lit.int .i64 g).wf = true) (n d : Int) (w : World) :
    Calls Try.prog 7 #[.int .i64 g, .agg #[.int .i64 n, .int .i64 d]] w fun e w' => e = .returned (.bool true) ∧ Below w.heap.size w w' := by
  clear wg
  have hs := fun w => specSplit_any g n d w
  have hi := fun w => implSplit_any g n d w
  obtain ⟨a, b, c, hv⟩ : ∃ a b c : Int, spV g n d = .agg #[.int .i64 a, .int .i64 b, .int .i64 c] := by unfold spV; split <;> exact ⟨_, _, _, rfl⟩
  rw [hv] at hs hi
  clear hv
  generalize spC g n d = k at *
  go_enter Try.func7, Try.ntmps7
  go_wp2_with (first
    | (go_at_call 30; refine (eqTaxed_any _ _ _ _).mono ?_; rintro e w6 ⟨rfl, hb6⟩; have HB6 : Hid (Below w.heap.size w w6) := chain HB5.out hb6)
    | (go_at_call 29; refine (hi _).mono ?_; rintro e w4 ⟨rfl, hb4⟩; clear y0 y1 y2; have HB4 : Hid (Below w.heap.size w w4) := chain HB3.out hb4; obtain ⟨y0, y1, y2, yl⟩ := (⟨(hb4.cell (p := ⟨w2.heap.size, 0, none⟩) yl).trans Y3.out.1, (hb4.cell (p := ⟨w2.heap.size, 1, none⟩) yl).trans Y3.out.2.1, (hb4.cell (p := ⟨w2.heap.size, 2, none⟩) yl).trans Y3.out.2.2, Nat.lt_of_lt_of_le yl hb4.size⟩ : w4.cell? ⟨w2.heap.size, 0, none⟩ = some (.int .i64 a) ∧ w4.cell? ⟨w2.heap.size, 1, none⟩ = some (.int .i64 b) ∧ w4.cell? ⟨w2.heap.size, 2, none⟩ = some (.int .i64 c) ∧ w2.heap.size < w4.heap.size); have HB5 : Hid (Below w.heap.size w (w4.alloc (Obj.cells #[.int .i64 a, .int .i64 b, .int .i64 c] 52))) := chain HB4.out (below_alloc _ _))
    | (go_at_call 28; have G2 := HB2; refine (toRate_any _ _ _).mono ?_; rintro e w3 ⟨rfl, hb3⟩; have HB3 : Hid (Below w.heap.size w w3) := chain (chain HB2.out (below_alloc _ _)) hb3; obtain ⟨y0, y1, y2, yl⟩ := (⟨(hb3.cell (p := ⟨w2.heap.size, 0, none⟩) (by simp)).trans (by simp), (hb3.cell (p := ⟨w2.heap.size, 1, none⟩) (by simp)).trans (by simp), (hb3.cell (p := ⟨w2.heap.size, 2, none⟩) (by simp)).trans (by simp), Nat.lt_of_lt_of_le (by simp) hb3.size⟩ : w3.cell? ⟨w2.heap.size, 0, none⟩ = some (.int .i64 a) ∧ w3.cell? ⟨w2.heap.size, 1, none⟩ = some (.int .i64 b) ∧ w3.cell? ⟨w2.heap.size, 2, none⟩ = some (.int .i64 c) ∧ w2.heap.size < w3.heap.size); have Y3 : Hid (w3.cell? ⟨w2.heap.size, 0, none⟩ = some (.int .i64 a) ∧ w3.cell? ⟨w2.heap.size, 1, none⟩ = some (.int .i64 b) ∧ w3.cell? ⟨w2.heap.size, 2, none⟩ = some (.int .i64 c)) := ⟨y0, y1, y2⟩)
    | (go_at_call 27; refine (hs _).mono ?_; rintro e w2 ⟨rfl, hb2⟩; have HB2 : Hid (Below w.heap.size w w2) := chain HB1.out hb2; obtain ⟨r0, r1, rl⟩ := rateCells (w := w) (n := n) (d := d) (chain HC1.out hb2))
    | (go_at_call 28; refine (toRate_any _ _ _).mono ?_; rintro e w1 ⟨rfl, hb1⟩; have HB1 : Hid (Below w.heap.size w w1) := chain (below_alloc _ _) hb1; have HC1 : Hid (Below (w.alloc (Obj.cells #[.int .i64 n, .int .i64 d] 50)).heap.size (w.alloc (Obj.cells #[.int .i64 n, .int .i64 d] 50)) w1) := hb1))
  go_ret
  exact ⟨rfl, HB6.out⟩

theorem own : ownKnob Try.prog.godebug = none := by kernel_rfl
theorem laidOut : laidOutB Try.prog = true := by kernel_rfl

set_option maxRecDepth 100000 in
theorem lifted (os : Os) (started : os.Started) (H : Type) (enc : TypeId × Value → H) :
    ReturnsInHanded {} Try.checked os 7 .any (Rows.fnExactSplitSpec.pre6 enc Try.prog Try.f7 Rows.fnExactSplitRow.domain false) (Rows.fnExactSplitSpec.post enc Try.prog Try.f7 false true false false) := by
  refine returnsInHanded_of_change (C := Try.checked) own started (by kernel_rfl) Try.func7
    (ChangeSpec.witness6 (enc := enc) (C := Try.checked) false ⟨#[], #[.int .i64 0, .agg #[.int .i64 0, .int .i64 0]], []⟩ 8 (by kernel_rfl) (by kernel_rfl) (by kernel_rfl) (by kernel_rfl)) ?_
  intro W base args ds gs before hval0 hW hcnd _
  have hval : ∀ (j : Nat) t v, Try.f7.params[j]? = some t → args[j]? = some v → Value.okWide Try.prog W .any base t v := hval0
  have hW' := hW
  obtain ⟨p, q, hA0, hV, rfl, hfz, hnd⟩ := hW
  have hA : DataW.TrodAll enc Try.prog W 0 (fun _ => true) true Try.f7.params.toList args.toList ds p := hA0
  rw [Try.params7] at hA hval
  obtain ⟨v0, vs0, d0, ds0, p0, q0, hargs, rfl, rfl, h0, r0⟩ := trodAll_cons hA
  obtain ⟨v1, vs1, d1, ds1, p1, q1, rfl, rfl, rfl, h1, r1⟩ := trodAll_cons r0
  obtain ⟨rfl, rfl, rfl⟩ := trodAll_nil r1
  obtain rfl : args = #[v0, v1] := by cases args; simp_all
  obtain ⟨rfl, rfl⟩ := trodVars_none hV
  have k0 := h0
  have lt0 : ∀ x ∈ p0, x.block < W.heap.size := by obtain ⟨m, hm⟩ := k0; exact DataW.trod_lt m _ _ _ hm
  have k1 := h1
  have lt1 : ∀ x ∈ p1, x.block < W.heap.size := by obtain ⟨m, hm⟩ := k1; exact DataW.trod_lt m _ _ _ hm
  obtain ⟨a0, rfl, rfl, rfl, w0⟩ := open_int Try.underlying3 (hval 0 3 v0 rfl rfl) h0
  obtain ⟨c1, e1, y1, z1, m1, rfl, rfl, rfl, hy1, hz1⟩ := open_agg2 Try.underlying50 (by kernel_rfl) (by kernel_rfl) (hval 1 50 v1 rfl rfl) h1
  obtain ⟨a1, ea1, rfl, wa1⟩ := DataW.trod_int Try.underlying3 hy1
  obtain ⟨b1, eb1, rfl, wb1⟩ := DataW.trod_int Try.underlying3 hz1
  simp at ea1 eb1
  subst ea1 eb1
  clear hA0 hval0
  refine (walk a0 w0 a1 b1 W ).mono fun e W' ⟨he, bel⟩ => ?_
  subst he
  exact ⟨_, rfl, _, _, _, [], _, [], hW', trodAll_mk1 (shut_bool Try.underlying4 _), (trodAll_cons_mk (Below.trod laidOut (by kernel_rfl) (of_decide_eq_true (by kernel_rfl)) k0 bel lt0) (trodAll_cons_mk (Below.trod laidOut (by kernel_rfl) (of_decide_eq_true (by kernel_rfl)) k1 bel lt1) trodAll_mk0)), rfl, bel.frame _, fun h => by cases h⟩

theorem over : Rows.fnExactSplitRow.holds Try.pinned (OpenSpec.ofChange Rows.fnExactSplitSpec) :=
  OpenClaim.holds_of_wide 7 Try.f7 rfl rfl rfl rfl rfl rfl rfl ⟨rfl, rfl, rfl, rfl, rfl⟩ rfl rfl rfl rfl rfl (by kernel_rfl) Try.func7 (by kernel_rfl)
    (of_decide_eq_true (by kernel_rfl)) (by unfold Func.isWrapper; first | (rw [if_pos (by decide +kernel)]; kernel_rfl) | (rw [if_neg (by decide +kernel)]; exact ⟨rfl, rfl⟩))
    (fun os started H enc _ => lifted os started H enc)
end SplitLaw

theorem fnExactSplit_holds : Rows.FnExactSplitSaid := SplitLaw.over
end Go.Proofs.Ytaledfdhiimhdaj

/-
  For every need the law FnExactOrderFor answers true: the program's OrderFor answers as the specification's; with no condition.
-/
import Derived.Test.YtbgjekhekjbcpaaOrC
import Derived.Test.YtbgjekhekjbcpaaOrD
import Derived.Test.YtbgjekhekjbcpaaAgg6
namespace Go.Proofs.Ytbgjekhekjbcpaa
open Go.ChangeShapes Go.WideShapes Go.ChangeAt Go.RowKit Go.Joins Go.Deep
set_option linter.unusedVariables false
namespace OrderForLaw
set_option maxHeartbeats 2000000 in
theorem walk (x1 x2 x3 x4 x5 x6 : Int) (w : World) :
    Calls Try.prog 7 #[.agg #[.int .i64 x1, .int .i64 x2, .int .i64 x3, .int .i64 x4, .int .i64 x5, .int .i64 x6]] w fun e w' => e = .returned (.bool true) ∧ Below w.heap.size w w' := by
  have HTo : Hid (∀ W, Calls Try.prog 22 #[.agg #[.int .i64 x1, .int .i64 x2, .int .i64 x3, .int .i64 x4, .int .i64 x5, .int .i64 x6]] W fun e w' => e = .returned (.agg #[.int .i64 x1, .int .i64 x2, .int .i64 x3, .int .i64 x4, .int .i64 x5, .int .i64 x6]) ∧ Below W.heap.size W w') := fun W => toNeed_any x1 x2 x3 x4 x5 x6 W
  have HS : Hid (∀ W, Calls Try.prog 11 #[.agg #[.int .i64 x1, .int .i64 x2, .int .i64 x3, .int .i64 x4, .int .i64 x5, .int .i64 x6]] W (AnsO W.heap.size (odU x1 x2 x3 x4 x5 x6) (odT x1 x2 x3 x4 x5 x6) (odC x1 x2 x3 x4 x5 x6) W)) := fun W => specOrder_any x1 x2 x3 x4 x5 x6 W
  have HP : Hid (∀ W, Calls Try.prog 10 #[.agg #[.int .i64 x1, .int .i64 x2, .int .i64 x3, .int .i64 x4, .int .i64 x5, .int .i64 x6]] W (AnsO W.heap.size (odU x1 x2 x3 x4 x5 x6) (odT x1 x2 x3 x4 x5 x6) (odC x1 x2 x3 x4 x5 x6) W)) := fun W => implOrder_any x1 x2 x3 x4 x5 x6 W
  generalize odU x1 x2 x3 x4 x5 x6 = u at *
  generalize odT x1 x2 x3 x4 x5 x6 = t at *
  generalize odC x1 x2 x3 x4 x5 x6 = k at *
  have hu : (u != u) = false := by simp
  have ht : (t != t) = false := by simp
  have hk : (k != k) = false := by simp
  have HN0 : Hid (∀ W, Below ((w.alloc (Obj.cells #[.int .i64 x1, .int .i64 x2, .int .i64 x3, .int .i64 x4, .int .i64 x5, .int .i64 x6] 49))).heap.size (w.alloc (Obj.cells #[.int .i64 x1, .int .i64 x2, .int .i64 x3, .int .i64 x4, .int .i64 x5, .int .i64 x6] 49)) W → W.cell? ⟨w.heap.size, 0, none⟩ = some (.int .i64 x1) ∧ W.cell? ⟨w.heap.size, 1, none⟩ = some (.int .i64 x2) ∧ W.cell? ⟨w.heap.size, 2, none⟩ = some (.int .i64 x3) ∧ W.cell? ⟨w.heap.size, 3, none⟩ = some (.int .i64 x4) ∧ W.cell? ⟨w.heap.size, 4, none⟩ = some (.int .i64 x5) ∧ W.cell? ⟨w.heap.size, 5, none⟩ = some (.int .i64 x6)) := fun W hW => ⟨(hW.cell (p := ⟨w.heap.size, 0, none⟩) (by simp)).trans (by simp), (hW.cell (p := ⟨w.heap.size, 1, none⟩) (by simp)).trans (by simp), (hW.cell (p := ⟨w.heap.size, 2, none⟩) (by simp)).trans (by simp), (hW.cell (p := ⟨w.heap.size, 3, none⟩) (by simp)).trans (by simp), (hW.cell (p := ⟨w.heap.size, 4, none⟩) (by simp)).trans (by simp), (hW.cell (p := ⟨w.heap.size, 5, none⟩) (by simp)).trans (by simp)⟩
  have HB0 : Hid (Below w.heap.size w (w.alloc (Obj.cells #[.int .i64 x1, .int .i64 x2, .int .i64 x3, .int .i64 x4, .int .i64 x5, .int .i64 x6] 49))) := below_alloc _ _
  go_enter Try.func7, Try.ntmps7
  go_upto_region 1 with fail
  generalize (w.alloc (Obj.cells #[.int .i64 x1, .int .i64 x2, .int .i64 x3, .int .i64 x4, .int .i64 x5, .int .i64 x6] 49)) = W0 at *
  have HI : Hid (w.heap.size ≤ W0.heap.size) := HB0.out.size
  generalize hbk : w.heap.size = bk at *
  have HBK : Hid (w.heap.size = bk) := hbk
  clear hbk
  obtain ⟨c0, c1, c2, c3, c4, c5⟩ := HN0.out W0 (Below.refl _ _)
  go_wp2_with fail
  (first | go_at_call 22 | skip)
  refine (HTo.out _).mono ?_
  rintro e w1 ⟨rfl, hb1⟩
  go_wp2_with fail
  (first | go_at_call 11 | skip)
  refine (HS.out _).mono ?_
  rintro e w2 ⟨rfl, hb2⟩
  have K2 : Hid (Below W0.heap.size W0 w2) := chain hb1 hb2
  clear c0 c1 c2 c3 c4 c5 hb1 hb2
  obtain ⟨c0, c1, c2, c3, c4, c5⟩ := HN0.out w2 K2.out
  go_wp2_with fail
  (first | go_at_call 22 | skip)
  refine (HTo.out _).mono ?_
  rintro e w3 ⟨rfl, hb3⟩
  go_wp2_with fail
  (first | go_at_call 10 | skip)
  refine (HP.out _).mono ?_
  rintro e w4 ⟨rfl, hb4⟩
  have K4 : Hid (Below W0.heap.size W0 w4) := chain K2.out (chain hb3 hb4)
  clear c0 c1 c2 c3 c4 c5 hb3 hb4
  go_wp2
  go_ret
  exact ⟨rfl, by rw [HBK.out]; exact HB0.out.trans (K4.out.mono HI.out)⟩

theorem own : ownKnob Try.prog.godebug = none := by kernel_rfl
theorem laidOut : laidOutB Try.prog = true := by kernel_rfl

set_option maxRecDepth 100000 in
theorem lifted (os : Os) (started : os.Started) (H : Type) (enc : TypeId × Value → H) :
    ReturnsInHanded {} Try.checked os 7 .any (Rows.fnExactOrderForSpec.pre6 enc Try.prog Try.f7 Rows.fnExactOrderForRow.domain false) (Rows.fnExactOrderForSpec.post enc Try.prog Try.f7 false true false false) := by
  refine returnsInHanded_of_change (C := Try.checked) own started (by kernel_rfl) Try.func7
    (ChangeSpec.witness6 (enc := enc) (C := Try.checked) false ⟨#[], #[.agg #[.int .i64 0, .int .i64 0, .int .i64 0, .int .i64 0, .int .i64 0, .int .i64 0]], []⟩ 8 (by kernel_rfl) (by kernel_rfl) (by kernel_rfl) (by kernel_rfl)) ?_
  intro W base args ds gs before hval0 hW hcnd _
  have hval : ∀ (j : Nat) t v, Try.f7.params[j]? = some t → args[j]? = some v → Value.okWide Try.prog W .any base t v := hval0
  have hW' := hW
  obtain ⟨p, q, hA0, hV, rfl, hfz, hnd⟩ := hW
  have hA : DataW.TrodAll enc Try.prog W 0 (fun _ => true) true Try.f7.params.toList args.toList ds p := hA0
  rw [Try.params7] at hA hval
  obtain ⟨v0, vs0, d0, ds0, p0, q0, hargs, rfl, rfl, h0, r0⟩ := trodAll_cons hA
  obtain ⟨rfl, rfl, rfl⟩ := trodAll_nil r0
  obtain rfl : args = #[v0] := by cases args; simp_all
  obtain ⟨rfl, rfl⟩ := trodVars_none hV
  have k0 := h0
  have lt0 : ∀ x ∈ p0, x.block < W.heap.size := by obtain ⟨m, hm⟩ := k0; exact DataW.trod_lt m _ _ _ hm
  obtain ⟨x0_1, x0_2, x0_3, x0_4, x0_5, x0_6, rfl⟩ := open_need (hval 0 49 v0 rfl rfl) h0
  clear hA0 hval0
  refine (walk x0_1 x0_2 x0_3 x0_4 x0_5 x0_6 W ).mono fun e W' ⟨he, bel⟩ => ?_
  subst he
  exact ⟨_, rfl, _, _, _, [], _, [], hW', trodAll_mk1 (shut_bool Try.underlying4 _), (trodAll_cons_mk (Below.trod laidOut (by kernel_rfl) (of_decide_eq_true (by kernel_rfl)) k0 bel lt0) trodAll_mk0), rfl, bel.frame _, fun h => by cases h⟩

theorem over : Rows.fnExactOrderForRow.holds Try.pinned (OpenSpec.ofChange Rows.fnExactOrderForSpec) :=
  OpenClaim.holds_of_wide 7 Try.f7 rfl rfl rfl rfl rfl rfl rfl ⟨rfl, rfl, rfl, rfl, rfl⟩ rfl rfl rfl rfl rfl (by kernel_rfl) Try.func7 (by kernel_rfl)
    (of_decide_eq_true (by kernel_rfl)) (by unfold Func.isWrapper; first | (rw [if_pos (by decide +kernel)]; kernel_rfl) | (rw [if_neg (by decide +kernel)]; exact ⟨rfl, rfl⟩))
    (fun os started H enc _ => lifted os started H enc)
end OrderForLaw

theorem fnExactOrderFor_holds : Rows.FnExactOrderForSaid := OrderForLaw.over
end Go.Proofs.Ytbgjekhekjbcpaa

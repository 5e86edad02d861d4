/-
  For every list of bytes the law FnPoints answers true: by the program all points that were earned are left, spent or expired, no lot that is left has ended, and each spend without a code takes just what it says; with no condition.
-/
import Derived.Test.YtgjplolhcjiidaaPpW
import Derived.Test.YtgjplolhcjiidaaDrawPb
namespace Go.Proofs.Ytgjplolhcjiidaa
open Go.ChangeShapes Go.WideShapes Go.ChangeAt Go.RowKit Go.Joins
set_option linter.unusedVariables false

theorem pointsOf_any (a : Option Addr) (len cap : Nat) (zs : List Int) (w : World) (hr : RowB w.heap.size w a len zs) :
    Calls Try.prog 4 #[.slice a len cap] w (DrawnPa w) := by
  have hlen := hr.1
  have hsrc := source_any a len cap w hlen
  have HD : Hid (∀ (w1 : World) (s0 : Int), Src w1 w.heap.size a len cap 0 s0 → Below w.heap.size w w1 → Calls Try.prog 7 #[.pointer (some ⟨w.heap.size, 0, none⟩)] w1 fun e w' => ∃ (rs : List RPa) (g cp : Nat) (at' sd : Int), e = .returned (.slice (some ⟨g, 0, none⟩) rs.length cp) ∧ rs.length ≤ 22 ∧ (∀ r ∈ rs, PaD r) ∧ PaSt w w.heap.size a len cap (.slice (some ⟨g, 0, none⟩) rs.length cp) rs at' sd w') := fun w1 s0 h1 h2 => pointActs_drawn w.heap.size a len cap zs s0 w w1 h1 h2 hr hlen
  obtain ⟨Q, hQ⟩ : ∃ Q, Q = DrawnPa w := ⟨_, rfl⟩
  have HQ : Hid (∀ e w', DrawnPa w e w' → Q e w') := fun e w' h => by rw [hQ]; exact h
  rw [← hQ]
  clear hr hQ
  go_enter Try.func4, Try.ntmps4
  go_wp2_with fail
  (first | go_at_call 6 | skip)
  refine hsrc.mono ?_
  rintro e w1 ⟨s1, rfl, hs1, hb1⟩
  clear hsrc
  go_wp2_with fail
  (first | go_at_call 7 | skip)
  refine (HD.out w1 s1 hs1 hb1).mono ?_
  rintro e w2 ⟨rs, g, cp, at', sd, rfl, hl, hD, hst⟩
  clear HD hs1 hb1
  have HF : Hid (DrawnPa w (.returned (.slice (some ⟨g, 0, none⟩) rs.length cp)) w2) := by
    have hlt := hst.1.lt g rfl
    exact ⟨g, rs, cp, rfl, by omega, hD, pas_of_row hst.1, by omega, hlt.2, hst.2.2.2⟩
  clear hst hD
  go_wp2
  exact HQ.out _ _ HF.out

namespace FnPoints
set_option maxRecDepth 8000 in
theorem walk (a0 : Option Addr) (len0 cap0 : Nat) (z0 : List Int) (w : World) (r0 : RowB w.heap.size w a0 len0 z0) :
    Calls Try.prog 3 #[.slice a0 len0 cap0] w fun e w' => e = .returned (.bool true) ∧ Below w.heap.size w w' := by
  by_cases hbig : (1048576 : Int) < (len0 : Int)
  · clear r0
    go_enter Try.func3, Try.ntmps3
    go_wp2
    go_ret
    exact ⟨rfl, Below.refl _ _⟩
  · exact fnPoints_of a0 len0 cap0 w (by omega) (pointsOf_any a0 len0 cap0 z0 w r0)

theorem own : ownKnob Try.prog.godebug = none := by kernel_rfl
theorem laidOut : laidOutB Try.prog = true := by kernel_rfl

set_option maxRecDepth 100000 in
theorem lifted (os : Os) (started : os.Started) (H : Type) (enc : TypeId × Value → H) :
    ReturnsInHanded {} Try.checked os 3 .any (Rows.fnPointsSpec.pre6 enc Try.prog Try.f3 Rows.fnPointsRow.domain false) (Rows.fnPointsSpec.post enc Try.prog Try.f3 false true false false) := by
  refine returnsInHanded_of_change (C := Try.checked) own started (by kernel_rfl) Try.func3
    (ChangeSpec.witness6 (enc := enc) (C := Try.checked) false ⟨#[], #[.slice none 0 0], []⟩ 8 (by kernel_rfl) (by kernel_rfl) (by kernel_rfl) (by kernel_rfl)) ?_
  intro W base args ds gs before hval0 hW hcnd _
  have hval : ∀ (j : Nat) t v, Try.f3.params[j]? = some t → args[j]? = some v → Value.okWide Try.prog W .any base t v := hval0
  have hW' := hW
  obtain ⟨p, q, hA0, hV, rfl, hfz, hnd⟩ := hW
  have hA : DataW.TrodAll enc Try.prog W 0 (fun _ => true) true Try.f3.params.toList args.toList ds p := hA0
  rw [Try.params3] at hA hval
  obtain ⟨v0, vs0, d0, ds0, p0, q0, hargs, rfl, rfl, h0, r0⟩ := trodAll_cons hA
  obtain ⟨rfl, rfl, rfl⟩ := trodAll_nil r0
  obtain rfl : args = #[v0] := by cases args; simp_all
  obtain ⟨rfl, rfl⟩ := trodVars_none hV
  have k0 := h0
  have lt0 : ∀ x ∈ p0, x.block < W.heap.size := by obtain ⟨m, hm⟩ := k0; exact DataW.trod_lt m _ _ _ hm
  obtain ⟨a0, len0, cap0, rfl⟩ := okWide_slice Try.underlying22 (hval 0 22 v0 rfl rfl)
  obtain ⟨z0, w0⟩ : ∃ zs, IsRow .u8 W a0 len0 cap0 zs := by
    obtain ⟨fuel, hf⟩ := h0
    rcases open_ints Try.underlying22 Try.underlying5 (by kernel_rfl) hf with ⟨hcs, _⟩ | ⟨x, l, c, zs, hcs, _, hl, hm, hz, _, hcell, hwz⟩
    · simp [Value.cells] at hcs
      obtain ⟨rfl, rfl, rfl⟩ := hcs
      exact ⟨[], .inl ⟨rfl, rfl, rfl, rfl⟩⟩
    · simp [Value.cells] at hcs
      obtain ⟨rfl, rfl, rfl⟩ := hcs
      exact ⟨zs, .inr ⟨_, rfl, hl, hm, by simpa using hz, hcell, hwz⟩⟩
  clear hA0 hval0
  refine (walk a0 len0 cap0 z0 W (rowB_of _ _ _ _ _ w0)).mono fun e W' ⟨he, bel⟩ => ?_
  subst he
  exact ⟨_, rfl, _, _, _, [], _, [], hW', trodAll_mk1 (shut_bool Try.underlying4 _), (trodAll_cons_mk (Below.trod laidOut (by kernel_rfl) (of_decide_eq_true (by kernel_rfl)) k0 bel lt0) trodAll_mk0), rfl, bel.frame _, fun h => by cases h⟩

theorem over : Rows.fnPointsRow.holds Try.pinned (OpenSpec.ofChange Rows.fnPointsSpec) :=
  OpenClaim.holds_of_wide 3 Try.f3 rfl rfl rfl rfl rfl rfl rfl ⟨rfl, rfl, rfl, rfl, rfl⟩ rfl rfl rfl rfl rfl (by kernel_rfl) Try.func3 (by kernel_rfl)
    (of_decide_eq_true (by kernel_rfl)) (by unfold Func.isWrapper; first | (rw [if_pos (by decide +kernel)]; kernel_rfl) | (rw [if_neg (by decide +kernel)]; exact ⟨rfl, rfl⟩))
    (fun os started H enc _ => lifted os started H enc)
end FnPoints

theorem fnPoints_holds : Rows.FnPointsSaid := FnPoints.over
end Go.Proofs.Ytgjplolhcjiidaa

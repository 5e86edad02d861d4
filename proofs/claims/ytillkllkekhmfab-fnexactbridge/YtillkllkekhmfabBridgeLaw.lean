/-
  For every list of powers the law FnExactBridge answers true: the program's Bridge answers as the specification's, and writes into no argument; with no condition.
-/
import Derived.Test.YtillkllkekhmfabPwY
import Derived.Test.YtillkllkekhmfabPwF
namespace Go.Proofs.Ytillkllkekhmfab
open Go.ChangeShapes Go.WideShapes Go.ChangeAt Go.RowKit Go.Joins
set_option linter.unusedVariables false
attribute [local go_sem] run_store_float
namespace BridgeLaw
set_option maxHeartbeats 8000000 in
theorem walk (a : Option Addr) (len cap : Nat) (rs : List RPw) (w : World) (hr : IsPws w a len cap rs) :
    Calls Try.prog 4 #[.slice a len cap] w fun e w' => e = .returned (.bool true) ∧ Below w.heap.size w w' := by
  obtain ⟨rfl, h2, h3, _, hr⟩ := hr
  have hsz := szPws_any a cap rs (by omega) 1048576 (by omega) (by omega) w
  go_enter Try.func4, Try.ntmps4
  go_wp2_with fail
  (first | go_at_call 5 | skip)
  refine hsz.mono ?_
  rintro e w0 ⟨⟨y, rfl, hy⟩, rfl⟩
  rcases hy with hy | ⟨hy0, hy⟩
  · go_wp2
    go_ret
    exact ⟨rfl, Below.refl _ _⟩
  have hy' : ¬ y < 0 := by omega
  have hl : rs.length ≤ 1048576 := by omega
  clear hsz hy h3
  have HTo : Hid (∀ W, Below w0.heap.size w0 W → Calls Try.prog 7 #[.slice a rs.length cap] W fun e w' => e = .returned (.slice (some ⟨W.heap.size, 0, none⟩) rs.length rs.length) ∧ Below W.heap.size W w' ∧ ReadsPw w'.heap.size w' (some ⟨W.heap.size, 0, none⟩) rs) := fun W hb => (toPws_any a cap rs hl W ((hr.below hb).mono hb.size)).mono (by
    rintro e w' ⟨rfl, hb1, hz1, hi1, hf1⟩
    exact ⟨rfl, hb1, .inr ⟨_, _, rfl, hz1, hi1⟩⟩)
  have HI : Hid (∀ W b cb, ReadsPw W.heap.size W b rs → Calls Try.prog 12 #[.slice b rs.length cb] W (AnsPw W (brA rs) (brC rs))) := fun W b cb h => implBridge_any b cb rs W h
  have HSp : Hid (∀ W b cb, ReadsPw W.heap.size W b rs → Calls Try.prog 11 #[.slice b rs.length cb] W (AnsPw W (brA rs) (brC rs))) := fun W b cb h => specBridge_any b cb rs W h
  have HEq : Hid (∀ W b cb d cd, ReadsPw W.heap.size W b rs → ReadsPw W.heap.size W d rs → Calls Try.prog 10 #[.slice b rs.length cb, .slice d rs.length cd] W fun e w' => e = .returned (.bool true) ∧ Below W.heap.size W w') := fun W b cb d cd h k => eqPws_any b d cb cd rs hl W h k
  unfold AnsPw at HI HSp
  generalize brA rs = r at *
  generalize brC rs = c at *
  obtain ⟨x1, x2⟩ := r
  dsimp only at HI HSp
  have HEw : Hid (∀ W, Calls Try.prog 9 #[.agg #[.float .f64 x1, .float .f64 x2], .agg #[.float .f64 x1, .float .f64 x2]] W fun e w' => e = .returned (.bool true) ∧ Below W.heap.size W w') := fun W => eqPw_any x1 x2 W
  clear hr
  have hcc : (c != c) = false := by simp
  go_wp2_with fail
  (first | go_at_call 7 | skip)
  refine (HTo.out _ (Below.refl _ _)).mono ?_
  rintro e w1 ⟨rfl, hb1, hr1⟩
  have B1 : Hid (Below w0.heap.size w0 w1) := hb1
  have R1 : Hid (ReadsPw w1.heap.size w1 (some ⟨w0.heap.size, 0, none⟩) rs) := hr1
  clear hb1 hr1
  go_wp2_with fail
  (first | go_at_call 11 | skip)
  refine (HSp.out _ _ _ R1.out).mono ?_
  rintro e w2 ⟨rfl, hb2⟩
  have B2 : Hid (Below w0.heap.size w0 w2) := chain B1.out hb2
  clear hb2 R1 B1
  go_upto_region 6 with fail
  obtain ⟨w3, hw3⟩ : ∃ w3, w3 = w2.alloc (Obj.cells #[.float .f64 x1, .float .f64 x2] 26) := ⟨_, rfl⟩
  have g3 : w3.heap[w2.heap.size]? = some (.cells #[.float .f64 x1, .float .f64 x2] 26 (0, 0)) := by rw [hw3]; exact heapNew _ _
  have B3 : Hid (Below w0.heap.size w0 w3) := by show Below _ _ _; rw [hw3]; exact chain B2.out (below_alloc _ _)
  have H3 : Hid (w3.heap[w2.heap.size]? = some (.cells #[.float .f64 x1, .float .f64 x2] 26 (0, 0))) := g3
  rw [← hw3]
  clear hw3 g3 B2
  go_wp2_with fail
  (first | go_at_call 7 | skip)
  refine (HTo.out _ B3.out).mono ?_
  rintro e w4 ⟨rfl, hb4, hr4⟩
  have B4 : Hid (Below w0.heap.size w0 w4) := chain B3.out hb4
  have H4 : Hid (w4.heap[w2.heap.size]? = some (.cells #[.float .f64 x1, .float .f64 x2] 26 (0, 0))) := (hb4.block _ (blkLt H3.out)).trans H3.out
  have R4 : Hid (ReadsPw w4.heap.size w4 (some ⟨w3.heap.size, 0, none⟩) rs) := hr4
  clear hb4 hr4 H3 B3
  generalize w3.heap.size = X at *
  go_wp2_with fail
  (first | go_at_call 12 | skip)
  refine (HI.out _ _ _ R4.out).mono ?_
  rintro e w5 ⟨rfl, hb5⟩
  have B5 : Hid (Below w0.heap.size w0 w5) := chain B4.out hb5
  have H5 : Hid (w5.heap[w2.heap.size]? = some (.cells #[.float .f64 x1, .float .f64 x2] 26 (0, 0))) := (hb5.block _ (blkLt H4.out)).trans H4.out
  have R5 : Hid (ReadsPw w5.heap.size w5 (some ⟨X, 0, none⟩) rs) := (R4.out.below hb5).mono hb5.size
  clear hb5 H4 B4 R4
  generalize w2.heap.size = D at *
  go_upto_region 8 with fail
  obtain ⟨w6, hw6⟩ : ∃ w6, w6 = w5.alloc (Obj.cells #[.float .f64 x1, .float .f64 x2] 26) := ⟨_, rfl⟩
  have g6 : w6.heap[w5.heap.size]? = some (.cells #[.float .f64 x1, .float .f64 x2] 26 (0, 0)) := by rw [hw6]; exact heapNew _ _
  have hb6 : Below w5.heap.size w5 w6 := by rw [hw6]; exact below_alloc _ _
  have B6 : Hid (Below w0.heap.size w0 w6) := chain B5.out hb6
  have h6 := (hb6.block _ (blkLt H5.out)).trans H5.out
  have R6 : Hid (ReadsPw w6.heap.size w6 (some ⟨X, 0, none⟩) rs) := (R5.out.below hb6).mono hb6.size
  rw [← hw6]
  obtain ⟨⟨a0, _⟩, a1, _⟩ := two_cells g6
  obtain ⟨⟨b0, _⟩, b1, _⟩ := two_cells h6
  clear hw6 g6 hb6 h6 H5 B5 R5
  generalize w5.heap.size = E at *
  go_wp2_with fail
  (first | go_at_call 9 | skip)
  refine (HEw.out _).mono ?_
  rintro e w7 ⟨rfl, hb7⟩
  have B7 : Hid (Below w0.heap.size w0 w7) := chain B6.out hb7
  have R7 : Hid (ReadsPw w7.heap.size w7 (some ⟨X, 0, none⟩) rs) := (R6.out.below hb7).mono hb7.size
  clear a0 a1 b0 b1 hb7 B6 R6
  go_wp2_with fail
  (first | go_at_call 7 | skip)
  refine (HTo.out _ B7.out).mono ?_
  rintro e w8 ⟨rfl, hb8, hr8⟩
  have B8 : Hid (Below w0.heap.size w0 w8) := chain B7.out hb8
  have R8 : Hid (ReadsPw w8.heap.size w8 (some ⟨X, 0, none⟩) rs) := (R7.out.below hb8).mono hb8.size
  have Q8 : Hid (ReadsPw w8.heap.size w8 (some ⟨w7.heap.size, 0, none⟩) rs) := hr8
  clear hb8 hr8 B7 R7
  generalize w7.heap.size = Y at *
  go_wp2_with fail
  (first | go_at_call 10 | skip)
  refine (HEq.out _ _ _ _ _ R8.out Q8.out).mono ?_
  rintro e w9 ⟨rfl, hb9⟩
  go_wp2
  go_ret
  exact ⟨rfl, chain B8.out hb9⟩

theorem own : ownKnob Try.prog.godebug = none := by kernel_rfl
theorem laidOut : laidOutB Try.prog = true := by kernel_rfl

set_option maxRecDepth 100000 in
theorem lifted (os : Os) (started : os.Started) (H : Type) (enc : TypeId × Value → H) :
    ReturnsInHanded {} Try.checked os 4 .any (Rows.fnExactBridgeSpec.pre6 enc Try.prog Try.f4 Rows.fnExactBridgeRow.domain false) (Rows.fnExactBridgeSpec.post enc Try.prog Try.f4 false true false false) := by
  refine returnsInHanded_of_change (C := Try.checked) own started (by kernel_rfl) Try.func4
    (ChangeSpec.witness6 (enc := enc) (C := Try.checked) false ⟨#[], #[.slice none 0 0], []⟩ 8 (by kernel_rfl) (by kernel_rfl) (by kernel_rfl) (by kernel_rfl)) ?_
  intro W base args ds gs before hval0 hW hcnd _
  have hval : ∀ (j : Nat) t v, Try.f4.params[j]? = some t → args[j]? = some v → Value.okWide Try.prog W .any base t v := hval0
  have hW' := hW
  obtain ⟨p, q, hA0, hV, rfl, hfz, hnd⟩ := hW
  have hA : DataW.TrodAll enc Try.prog W 0 (fun _ => true) true Try.f4.params.toList args.toList ds p := hA0
  rw [Try.params4] at hA hval
  obtain ⟨v0, vs0, d0, ds0, p0, q0, hargs, rfl, rfl, h0, r0⟩ := trodAll_cons hA
  obtain ⟨rfl, rfl, rfl⟩ := trodAll_nil r0
  obtain rfl : args = #[v0] := by cases args; simp_all
  obtain ⟨rfl, rfl⟩ := trodVars_none hV
  have k0 := h0
  have lt0 : ∀ x ∈ p0, x.block < W.heap.size := by obtain ⟨m, hm⟩ := k0; exact DataW.trod_lt m _ _ _ hm
  obtain ⟨a0, len0, cap0, rfl⟩ := okWide_slice Try.underlying22 (hval 0 22 v0 rfl rfl)
  obtain ⟨z0, w0⟩ : ∃ zs, IsPws W a0 len0 cap0 zs := by
    obtain ⟨fuel, hf⟩ := h0
    exact openPws (by simpa [Value.cells] using hf)
  clear hA0 hval0
  refine (walk a0 len0 cap0 z0 W w0).mono fun e W' ⟨he, bel⟩ => ?_
  subst he
  exact ⟨_, rfl, _, _, _, [], _, [], hW', trodAll_mk1 (shut_bool Try.underlying4 _), (trodAll_cons_mk (Below.trod laidOut (by kernel_rfl) (of_decide_eq_true (by kernel_rfl)) k0 bel lt0) trodAll_mk0), rfl, bel.frame _, fun h => by cases h⟩

theorem over : Rows.fnExactBridgeRow.holds Try.pinned (OpenSpec.ofChange Rows.fnExactBridgeSpec) :=
  OpenClaim.holds_of_wide 4 Try.f4 rfl rfl rfl rfl rfl rfl rfl ⟨rfl, rfl, rfl, rfl, rfl⟩ rfl rfl rfl rfl rfl (by kernel_rfl) Try.func4 (by kernel_rfl)
    (of_decide_eq_true (by kernel_rfl)) (by unfold Func.isWrapper; first | (rw [if_pos (by decide +kernel)]; kernel_rfl) | (rw [if_neg (by decide +kernel)]; exact ⟨rfl, rfl⟩))
    (fun os started H enc _ => lifted os started H enc)
end BridgeLaw

theorem fnExactBridge_holds : Rows.FnExactBridgeSaid := BridgeLaw.over
end Go.Proofs.Ytillkllkekhmfab

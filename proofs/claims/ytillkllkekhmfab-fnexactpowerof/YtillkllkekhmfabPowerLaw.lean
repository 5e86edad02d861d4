/-
  For all volts and amps the law FnExactPowerOf answers true: the program's PowerOf answers as the specification's, and writes into no argument; with no condition.
-/
import Derived.Test.YtillkllkekhmfabPwS
import Derived.Test.YtillkllkekhmfabPwF
namespace Go.Proofs.Ytillkllkekhmfab
open Go.ChangeShapes Go.WideShapes Go.ChangeAt Go.RowKit Go.Joins
set_option linter.unusedVariables false
attribute [local go_sem] run_store_float
namespace PowerLaw
set_option maxHeartbeats 8000000 in
theorem walk (a : Option Addr) (len cap : Nat) (vs : List RPw) (b : Option Addr) (lenb cb : Nat) (ss : List RPw) (w : World) (hr : IsPws w a len cap vs) (hq : IsPws w b lenb cb ss) :
    Calls Try.prog 3 #[.slice a len cap, .slice b lenb cb] w fun e w' => e = .returned (.bool true) ∧ Below w.heap.size w w' := by
  obtain ⟨rfl, h2, h3, _, hr⟩ := hr
  obtain ⟨rfl, k2, k3, _, hq⟩ := hq
  have hsz := szPws_any a cap vs (by omega) 1048576 (by omega) (by omega) w
  go_enter Try.func3, Try.ntmps3
  go_wp2_with fail
  (first | go_at_call 5 | skip)
  refine hsz.mono ?_
  rintro e w0 ⟨⟨y, rfl, hy⟩, rfl⟩
  rcases hy with hy | ⟨hy0, hy⟩
  · go_wp2
    go_ret
    exact ⟨rfl, Below.refl _ _⟩
  have hy' : ¬ y < 0 := by omega
  have hl : vs.length ≤ 1048576 := by omega
  have hsz2 := szPws_any b cb ss (by omega) y hy0 (by omega) w0
  clear hsz
  go_wp2_with fail
  (first | go_at_call 5 | skip)
  refine hsz2.mono ?_
  rintro e w00 ⟨⟨z, rfl, hz⟩, rfl⟩
  rcases hz with hz | ⟨hz0, hz⟩
  · go_wp2
    go_ret
    exact ⟨rfl, Below.refl _ _⟩
  have hz' : ¬ z < 0 := by omega
  have hlb : ss.length ≤ 1048576 := by omega
  clear hsz2 hy hz h3 k3
  have HTo : Hid (∀ W, Below w00.heap.size w00 W → Calls Try.prog 7 #[.slice a vs.length cap] W fun e w' => e = .returned (.slice (some ⟨W.heap.size, 0, none⟩) vs.length vs.length) ∧ Below W.heap.size W w' ∧ ReadsPw w'.heap.size w' (some ⟨W.heap.size, 0, none⟩) vs) := fun W hb => (toPws_any a cap vs hl W ((hr.below hb).mono hb.size)).mono (by
    rintro e w' ⟨rfl, hb1, hz1, hi1, hf1⟩
    exact ⟨rfl, hb1, .inr ⟨_, _, rfl, hz1, hi1⟩⟩)
  have HTb : Hid (∀ W, Below w00.heap.size w00 W → Calls Try.prog 7 #[.slice b ss.length cb] W fun e w' => e = .returned (.slice (some ⟨W.heap.size, 0, none⟩) ss.length ss.length) ∧ Below W.heap.size W w' ∧ ReadsPw w'.heap.size w' (some ⟨W.heap.size, 0, none⟩) ss) := fun W hb => (toPws_any b cb ss hlb W ((hq.below hb).mono hb.size)).mono (by
    rintro e w' ⟨rfl, hb1, hz1, hi1, hf1⟩
    exact ⟨rfl, hb1, .inr ⟨_, _, rfl, hz1, hi1⟩⟩)
  have HI : Hid (∀ W a ca b cb, ReadsPw W.heap.size W a vs → ReadsPw W.heap.size W b ss → Calls Try.prog 8 #[.slice a vs.length ca, .slice b ss.length cb] W (AnsPw W (poA vs ss) (poC vs ss))) := fun W a ca b cb h k => implPow_any a ca vs b cb ss W h k
  have HSp : Hid (∀ W a ca b cb, ReadsPw W.heap.size W a vs → ReadsPw W.heap.size W b ss → Calls Try.prog 6 #[.slice a vs.length ca, .slice b ss.length cb] W (AnsPw W (poA vs ss) (poC vs ss))) := fun W a ca b cb h k => specPow_any a ca vs b cb ss W h k
  have HEq : Hid (∀ W b cb d cd, ReadsPw W.heap.size W b vs → ReadsPw W.heap.size W d vs → Calls Try.prog 10 #[.slice b vs.length cb, .slice d vs.length cd] W fun e w' => e = .returned (.bool true) ∧ Below W.heap.size W w') := fun W b cb d cd h k => eqPws_any b d cb cd vs hl W h k
  have HEb : Hid (∀ W b cb d cd, ReadsPw W.heap.size W b ss → ReadsPw W.heap.size W d ss → Calls Try.prog 10 #[.slice b ss.length cb, .slice d ss.length cd] W fun e w' => e = .returned (.bool true) ∧ Below W.heap.size W w') := fun W b cb d cd h k => eqPws_any b d cb cd ss hlb W h k
  unfold AnsPw at HI HSp
  generalize poA vs ss = r at *
  generalize poC vs ss = c at *
  obtain ⟨x1, x2⟩ := r
  dsimp only at HI HSp
  have HEw : Hid (∀ W, Calls Try.prog 9 #[.agg #[.float .f64 x1, .float .f64 x2], .agg #[.float .f64 x1, .float .f64 x2]] W fun e w' => e = .returned (.bool true) ∧ Below W.heap.size W w') := fun W => eqPw_any x1 x2 W
  clear hr hq
  have hcc : (c != c) = false := by simp
  go_wp2_with fail
  (first | go_at_call 7 | skip)
  refine (HTo.out _ (Below.refl _ _)).mono ?_
  rintro e w1 ⟨rfl, hb1, hr1⟩
  have B1 : Hid (Below w00.heap.size w00 w1) := hb1
  have R1 : Hid (ReadsPw w1.heap.size w1 (some ⟨w00.heap.size, 0, none⟩) vs) := hr1
  clear hb1 hr1
  go_wp2_with fail
  (first | go_at_call 7 | skip)
  refine (HTb.out _ B1.out).mono ?_
  rintro e w1' ⟨rfl, hb1, hr1⟩
  have B1' : Hid (Below w00.heap.size w00 w1') := chain B1.out hb1
  have R1' : Hid (ReadsPw w1'.heap.size w1' (some ⟨w00.heap.size, 0, none⟩) vs) := (R1.out.below hb1).mono hb1.size
  have Q1' : Hid (ReadsPw w1'.heap.size w1' (some ⟨w1.heap.size, 0, none⟩) ss) := hr1
  clear hb1 hr1 B1 R1
  generalize w1.heap.size = X2 at *
  go_wp2_with fail
  (first | go_at_call 6 | skip)
  refine (HSp.out _ _ _ _ _ R1'.out Q1'.out).mono ?_
  rintro e w2 ⟨rfl, hb2⟩
  have B2 : Hid (Below w00.heap.size w00 w2) := chain B1'.out hb2
  clear hb2 R1' Q1' B1'
  go_upto_region 9 with fail
  obtain ⟨w3, hw3⟩ : ∃ w3, w3 = w2.alloc (Obj.cells #[.float .f64 x1, .float .f64 x2] 26) := ⟨_, rfl⟩
  have g3 : w3.heap[w2.heap.size]? = some (.cells #[.float .f64 x1, .float .f64 x2] 26 (0, 0)) := by rw [hw3]; exact heapNew _ _
  have B3 : Hid (Below w00.heap.size w00 w3) := by show Below _ _ _; rw [hw3]; exact chain B2.out (below_alloc _ _)
  have H3 : Hid (w3.heap[w2.heap.size]? = some (.cells #[.float .f64 x1, .float .f64 x2] 26 (0, 0))) := g3
  rw [← hw3]
  clear hw3 g3 B2
  generalize w2.heap.size = D at *
  go_wp2_with fail
  (first | go_at_call 7 | skip)
  refine (HTo.out _ B3.out).mono ?_
  rintro e w4 ⟨rfl, hb4, hr4⟩
  have B4 : Hid (Below w00.heap.size w00 w4) := chain B3.out hb4
  have H4 : Hid (w4.heap[D]? = some (.cells #[.float .f64 x1, .float .f64 x2] 26 (0, 0))) := (hb4.block _ (blkLt H3.out)).trans H3.out
  have R4 : Hid (ReadsPw w4.heap.size w4 (some ⟨w3.heap.size, 0, none⟩) vs) := hr4
  clear hb4 hr4 H3 B3
  generalize w3.heap.size = X at *
  go_wp2_with fail
  (first | go_at_call 7 | skip)
  refine (HTb.out _ B4.out).mono ?_
  rintro e w5 ⟨rfl, hb5, hr5⟩
  have B5 : Hid (Below w00.heap.size w00 w5) := chain B4.out hb5
  have H5 : Hid (w5.heap[D]? = some (.cells #[.float .f64 x1, .float .f64 x2] 26 (0, 0))) := (hb5.block _ (blkLt H4.out)).trans H4.out
  have R5 : Hid (ReadsPw w5.heap.size w5 (some ⟨X, 0, none⟩) vs) := (R4.out.below hb5).mono hb5.size
  have Q5 : Hid (ReadsPw w5.heap.size w5 (some ⟨w4.heap.size, 0, none⟩) ss) := hr5
  clear hb5 hr5 H4 B4 R4
  generalize w4.heap.size = Y at *
  go_wp2_with fail
  (first | go_at_call 8 | skip)
  refine (HI.out _ _ _ _ _ R5.out Q5.out).mono ?_
  rintro e w6 ⟨rfl, hb6⟩
  have B6 : Hid (Below w00.heap.size w00 w6) := chain B5.out hb6
  have H6 : Hid (w6.heap[D]? = some (.cells #[.float .f64 x1, .float .f64 x2] 26 (0, 0))) := (hb6.block _ (blkLt H5.out)).trans H5.out
  have R6 : Hid (ReadsPw w6.heap.size w6 (some ⟨X, 0, none⟩) vs) := (R5.out.below hb6).mono hb6.size
  have Q6 : Hid (ReadsPw w6.heap.size w6 (some ⟨Y, 0, none⟩) ss) := (Q5.out.below hb6).mono hb6.size
  clear hb6 H5 B5 R5 Q5
  go_upto_region 12 with fail
  obtain ⟨w7, hw7⟩ : ∃ w7, w7 = w6.alloc (Obj.cells #[.float .f64 x1, .float .f64 x2] 26) := ⟨_, rfl⟩
  have g7 : w7.heap[w6.heap.size]? = some (.cells #[.float .f64 x1, .float .f64 x2] 26 (0, 0)) := by rw [hw7]; exact heapNew _ _
  have hb7 : Below w6.heap.size w6 w7 := by rw [hw7]; exact below_alloc _ _
  have B7 : Hid (Below w00.heap.size w00 w7) := chain B6.out hb7
  have h7 := (hb7.block _ (blkLt H6.out)).trans H6.out
  have R7 : Hid (ReadsPw w7.heap.size w7 (some ⟨X, 0, none⟩) vs) := (R6.out.below hb7).mono hb7.size
  have Q7 : Hid (ReadsPw w7.heap.size w7 (some ⟨Y, 0, none⟩) ss) := (Q6.out.below hb7).mono hb7.size
  rw [← hw7]
  obtain ⟨⟨a0, _⟩, a1, _⟩ := two_cells g7
  obtain ⟨⟨b0, _⟩, b1, _⟩ := two_cells h7
  clear hw7 g7 hb7 h7 H6 B6 R6 Q6
  generalize w6.heap.size = E at *
  go_wp2_with fail
  (first | go_at_call 9 | skip)
  refine (HEw.out _).mono ?_
  rintro e w8 ⟨rfl, hb8⟩
  have B8 : Hid (Below w00.heap.size w00 w8) := chain B7.out hb8
  have R8 : Hid (ReadsPw w8.heap.size w8 (some ⟨X, 0, none⟩) vs) := (R7.out.below hb8).mono hb8.size
  have Q8 : Hid (ReadsPw w8.heap.size w8 (some ⟨Y, 0, none⟩) ss) := (Q7.out.below hb8).mono hb8.size
  clear a0 a1 b0 b1 hb8 B7 R7 Q7
  go_wp2_with fail
  (first | go_at_call 7 | skip)
  refine (HTo.out _ B8.out).mono ?_
  rintro e w9 ⟨rfl, hb9, hr9⟩
  have B9 : Hid (Below w00.heap.size w00 w9) := chain B8.out hb9
  have R9 : Hid (ReadsPw w9.heap.size w9 (some ⟨X, 0, none⟩) vs) := (R8.out.below hb9).mono hb9.size
  have S9 : Hid (ReadsPw w9.heap.size w9 (some ⟨w8.heap.size, 0, none⟩) vs) := hr9
  have Q9 : Hid (ReadsPw w9.heap.size w9 (some ⟨Y, 0, none⟩) ss) := (Q8.out.below hb9).mono hb9.size
  clear hb9 hr9 B8 R8 Q8
  generalize w8.heap.size = X8 at *
  go_wp2_with fail
  (first | go_at_call 10 | skip)
  refine (HEq.out _ _ _ _ _ R9.out S9.out).mono ?_
  rintro e w10 ⟨rfl, hb10⟩
  have B10 : Hid (Below w00.heap.size w00 w10) := chain B9.out hb10
  have Q10 : Hid (ReadsPw w10.heap.size w10 (some ⟨Y, 0, none⟩) ss) := (Q9.out.below hb10).mono hb10.size
  clear hb10 B9 Q9 R9 S9
  go_wp2_with fail
  (first | go_at_call 7 | skip)
  refine (HTb.out _ B10.out).mono ?_
  rintro e w11 ⟨rfl, hb11, hr11⟩
  have B11 : Hid (Below w00.heap.size w00 w11) := chain B10.out hb11
  have Q11 : Hid (ReadsPw w11.heap.size w11 (some ⟨Y, 0, none⟩) ss) := (Q10.out.below hb11).mono hb11.size
  have S11 : Hid (ReadsPw w11.heap.size w11 (some ⟨w10.heap.size, 0, none⟩) ss) := hr11
  clear hb11 hr11 B10 Q10
  generalize w10.heap.size = X10 at *
  go_wp2_with fail
  (first | go_at_call 10 | skip)
  refine (HEb.out _ _ _ _ _ Q11.out S11.out).mono ?_
  rintro e w12 ⟨rfl, hb12⟩
  go_wp2
  go_ret
  exact ⟨rfl, chain B11.out hb12⟩

theorem own : ownKnob Try.prog.godebug = none := by kernel_rfl
theorem laidOut : laidOutB Try.prog = true := by kernel_rfl

set_option maxRecDepth 100000 in
theorem lifted (os : Os) (started : os.Started) (H : Type) (enc : TypeId × Value → H) :
    ReturnsInHanded {} Try.checked os 3 .any (Rows.fnExactPowerOfSpec.pre6 enc Try.prog Try.f3 Rows.fnExactPowerOfRow.domain false) (Rows.fnExactPowerOfSpec.post enc Try.prog Try.f3 false true false false) := by
  refine returnsInHanded_of_change (C := Try.checked) own started (by kernel_rfl) Try.func3
    (ChangeSpec.witness6 (enc := enc) (C := Try.checked) false ⟨#[], #[.slice none 0 0, .slice none 0 0], []⟩ 8 (by kernel_rfl) (by kernel_rfl) (by kernel_rfl) (by kernel_rfl)) ?_
  intro W base args ds gs before hval0 hW hcnd _
  have hval : ∀ (j : Nat) t v, Try.f3.params[j]? = some t → args[j]? = some v → Value.okWide Try.prog W .any base t v := hval0
  have hW' := hW
  obtain ⟨p, q, hA0, hV, rfl, hfz, hnd⟩ := hW
  have hA : DataW.TrodAll enc Try.prog W 0 (fun _ => true) true Try.f3.params.toList args.toList ds p := hA0
  rw [Try.params3] at hA hval
  obtain ⟨v0, vs0, d0, ds0, p0, q0, hargs, rfl, rfl, h0, r0⟩ := trodAll_cons hA
  obtain ⟨v1, vs1, d1, ds1, p1, q1, rfl, rfl, rfl, h1, r1⟩ := trodAll_cons r0
  obtain ⟨rfl, rfl, rfl⟩ := trodAll_nil r1
  obtain rfl : args = #[v0, v1] := by cases args; simp_all
  obtain ⟨rfl, rfl⟩ := trodVars_none hV
  have k0 := h0
  have lt0 : ∀ x ∈ p0, x.block < W.heap.size := by obtain ⟨m, hm⟩ := k0; exact DataW.trod_lt m _ _ _ hm
  have k1 := h1
  have lt1 : ∀ x ∈ p1, x.block < W.heap.size := by obtain ⟨m, hm⟩ := k1; exact DataW.trod_lt m _ _ _ hm
  obtain ⟨a0, len0, cap0, rfl⟩ := okWide_slice Try.underlying22 (hval 0 22 v0 rfl rfl)
  obtain ⟨z0, w0⟩ : ∃ zs, IsPws W a0 len0 cap0 zs := by
    obtain ⟨fuel, hf⟩ := h0
    exact openPws (by simpa [Value.cells] using hf)
  obtain ⟨a1, len1, cap1, rfl⟩ := okWide_slice Try.underlying22 (hval 1 22 v1 rfl rfl)
  obtain ⟨z1, w1⟩ : ∃ zs, IsPws W a1 len1 cap1 zs := by
    obtain ⟨fuel, hf⟩ := h1
    exact openPws (by simpa [Value.cells] using hf)
  clear hA0 hval0
  refine (walk a0 len0 cap0 z0 a1 len1 cap1 z1 W w0 w1).mono fun e W' ⟨he, bel⟩ => ?_
  subst he
  exact ⟨_, rfl, _, _, _, [], _, [], hW', trodAll_mk1 (shut_bool Try.underlying4 _), (trodAll_cons_mk (Below.trod laidOut (by kernel_rfl) (of_decide_eq_true (by kernel_rfl)) k0 bel lt0) (trodAll_cons_mk (Below.trod laidOut (by kernel_rfl) (of_decide_eq_true (by kernel_rfl)) k1 bel lt1) trodAll_mk0)), rfl, bel.frame _, fun h => by cases h⟩

theorem over : Rows.fnExactPowerOfRow.holds Try.pinned (OpenSpec.ofChange Rows.fnExactPowerOfSpec) :=
  OpenClaim.holds_of_wide 3 Try.f3 rfl rfl rfl rfl rfl rfl rfl ⟨rfl, rfl, rfl, rfl, rfl⟩ rfl rfl rfl rfl rfl (by kernel_rfl) Try.func3 (by kernel_rfl)
    (of_decide_eq_true (by kernel_rfl)) (by unfold Func.isWrapper; first | (rw [if_pos (by decide +kernel)]; kernel_rfl) | (rw [if_neg (by decide +kernel)]; exact ⟨rfl, rfl⟩))
    (fun os started H enc _ => lifted os started H enc)
end PowerLaw

theorem fnExactPowerOf_holds : Rows.FnExactPowerOfSaid := PowerLaw.over
end Go.Proofs.Ytillkllkekhmfab

/-
  For every text the law FnExactReadSegments answers true: the program's ReadSegments answers as the specification's, its answer is new memory, each time; with no condition.
-/
import Derived.Test.YtnhmiaakkijjiaaScZ
namespace Go.Proofs.Ytnhmiaakkijjiaa
open Go.ChangeShapes Go.WideShapes Go.ChangeAt Go.RowKit Go.Joins
open Go.ChangeMaps (open_string shut_string)
set_option linter.unusedVariables false

namespace ReadSegLaw
set_option maxHeartbeats 4000000 in
theorem walk (s : ByteArray) (hs : s.size ≤ maxLen) (w : World) :
    Calls Try.prog 5 #[.string s] w fun e w' => e = .returned (.bool true) ∧ Below w.heap.size w w' := by
  unfold maxLen at hs
  by_cases h : (1048576 : Int) < (s.size : Int)
  · go_enter Try.func5, Try.ntmps5
    go_wp2
    go_ret
    exact ⟨rfl, Below.refl _ _⟩
  have HS : Hid (∀ W, Calls Try.prog 14 #[.string s] W (AnsRd W (rsgR s))) := fun W => specRead_any s (by omega) W
  have HI : Hid (∀ W, Calls Try.prog 9 #[.string s] W (AnsRd W (rsgR s))) := fun W => implRead_any s (by omega) W
  have HSm : Hid (SmR (rsgR s)) := rsg_sm s
  generalize rsgR s = r at *
  obtain ⟨cd, pl, L⟩ := r
  have hcd : (cd != cd) = false := by simp
  have hpl : ((pl : Int) != (pl : Int)) = false := by simp
  have HEq : Hid (∀ (B B' : Nat) (E E' : List SgE) (la la' : Option Addr) (lk lk' : Nat) (W : World), L = E.map (·.c) → L = E'.map (·.c) → SpR B E la lk W → SpR B' E' la' lk' W → Calls Try.prog 13 #[.slice la E.length lk, .slice la' E'.length lk'] W fun e w' => e = .returned (.bool true) ∧ Below W.heap.size W w') := fun B B' E E' la la' lk lk' W e1 e2 h1 h2 => by
    have k1 := h1.reads
    have k2 := h2.reads
    rw [← e1] at k1
    rw [← e2] at k2
    have hl := HSm.out.2
    have hc := HSm.out.1
    dsimp only at hl hc
    have := eqSgs_any la la' lk lk' L (by omega) (fun r hr => by
      obtain ⟨q1, q2, q3⟩ := hc r hr
      exact ⟨by omega, by omega, fun x hx => by have := q3 x hx; omega⟩) W k1 k2
    rw [show E.length = L.length by rw [e1, List.length_map], show E'.length = L.length by rw [e2, List.length_map]]
    exact this
  have HLn : Hid (∀ E : List SgE, L = E.map (·.c) → E.length ≤ 200 ∧ ∀ i, i < E.length → (E.getD i zE).c.ps.length ≤ 20) := fun E e => by
    have hl := HSm.out.2
    have hc := HSm.out.1
    dsimp only at hl hc
    rw [e] at hl hc
    refine ⟨by rwa [List.length_map] at hl, fun i hi => (hc _ (List.mem_map_of_mem (getE_mem hi))).2.1⟩
  go_enter Try.func5, Try.ntmps5
  go_wp2_with fail
  (first | go_at_call 14 | skip)
  refine (HS.out w).mono ?_
  intro e w1 hA
  obtain ⟨E0, l0, k0, rfl, e0, hs0, hb1⟩ := hA.open' HSm.out
  dsimp only at e0
  have HE0 : Hid (L = E0.map (·.c)) := e0
  have HS0 : Hid (SpR w.heap.size E0 l0 k0 w1 ∧ Below w.heap.size w w1) := ⟨hs0, hb1⟩
  clear hA hs0 hb1 e0 HS
  go_wp2_with fail
  (first | go_at_call 9 | skip)
  refine (HI.out w1).mono ?_
  intro e w2 hA
  obtain ⟨E1, l1, k1, rfl, e1, hs1, hb2⟩ := hA.open' HSm.out
  dsimp only at e1
  have HE1 : Hid (L = E1.map (·.c)) := e1
  have HS1 : Hid (SpR w1.heap.size E1 l1 k1 w2 ∧ Below w1.heap.size w1 w2) := ⟨hs1, hb2⟩
  clear hA hs1 hb2 e1
  go_wp2_with fail
  (first | go_at_call 13 | skip)
  refine (HEq.out _ _ _ _ _ _ _ _ w2 HE1.out HE0.out HS1.out.1 (HS0.out.1.later HS1.out.2)).mono ?_
  rintro e w3 ⟨rfl, hb3⟩
  have HB3 : Hid (Below w1.heap.size w1 w3) := chain HS1.out.2 hb3
  have HT3 : Hid (SgT w1.heap.size l1 E1.length k1 (fun i => (E1.getD i zE).row) (fun i => (E1.getD i zE).c.ps.length) (fSg E1) (fun i => strV (E1.getD i zE).c.ps) w3) := (HS1.out.1.later hb3).marked
  clear hb3 HS1
  obtain ⟨hn1, hm1⟩ := HLn.out E1 HE1.out
  have HKs : Hid (kAtS 1 (fun i => (E1.getD i zE).c.ps.length) E1.length ≤ 1000000) := by
    have := kAtS_small 1 (fun i => (E1.getD i zE).c.ps.length) E1.length hm1
    show _ ≤ _
    omega
  have HVs : Hid (∀ i, i < E1.length → fSg E1 (i * 2 + 1) = (E1.getD i zE).row) := fun i hi => by
    unfold fSg
    rw [if_neg (by omega), show (i * 2 + 1) / 2 = i by omega]
  clear hm1
  generalize hvs : (fun i => (E1.getD i zE).row) = vs at *
  have HV2 : Hid (∀ i, i < E1.length → fSg E1 (i * 2 + 1) = vs i) := fun i hi => by rw [← hvs]; exact HVs.out i hi
  clear hvs HVs
  generalize (fun i => (E1.getD i zE).c.ps.length) = M at *
  generalize (fun i => strV (E1.getD i zE).c.ps) = C at *
  generalize fSg E1 = f at *
  have HMk : Hid (Calls Try.prog 15 #[.slice l1 E1.length k1, .int .i64 1] w3 fun e w' => e = .returned (.int .i64 (kAtS 1 M E1.length : Int)) ∧ Fr (SgX l1 E1.length k1 vs) w3 w' ∧ SgT w1.heap.size l1 E1.length k1 vs M (tgM 1 M f E1.length) (ptM 1 M C E1.length) w') := markSgs_any (by omega) HV2.out 1 (by omega) HKs.out w3 HT3.out
  have HHd : Hid (∀ W, SgT w1.heap.size l1 E1.length k1 vs M (tgM 1 M f E1.length) (ptM 1 M C E1.length) W → Calls Try.prog 16 #[.slice l1 E1.length k1, .int .i64 1] W fun e w' => e = .returned (.int .i64 (kAtS 1 M E1.length : Int)) ∧ Below W.heap.size W w') := fun W hW => heldSgs_any (C := C) (by omega) HV2.out 1 (by omega) HKs.out W hW
  have hk0 : ¬ ((kAtS 1 M E1.length : Nat) : Int) < 0 := by omega
  generalize kAtS 1 M E1.length = K at *
  have hkk : ((K : Int) != (K : Int)) = false := by simp
  go_wp2_with fail
  (first | go_at_call 15 | skip)
  refine HMk.out.mono ?_
  rintro e w4 ⟨rfl, hf4, ht4⟩
  have HB4 : Hid (Below w1.heap.size w1 w4) := hf4.below HB3.out HB3.out.size (fun q hq => (HT3.out.lt q hq).1)
  have HT4 : Hid (SgT w1.heap.size l1 E1.length k1 vs M (tgM 1 M f E1.length) (ptM 1 M C E1.length) w4) := ht4
  clear hf4 ht4 HMk HT3 HB3
  go_wp2_with fail
  (first | go_at_call 16 | skip)
  refine (HHd.out w4 HT4.out).mono ?_
  rintro e w5 ⟨rfl, hb5⟩
  have HB5 : Hid (Below w1.heap.size w1 w5) := HB4.out.trans (hb5.mono HB4.out.size)
  have HT5 : Hid (SgT w1.heap.size l1 E1.length k1 vs M (tgM 1 M f E1.length) (ptM 1 M C E1.length) w5) := HT4.out.later hb5
  clear hb5 HT4 HB4
  go_wp2_with fail
  (first | go_at_call 9 | skip)
  refine (HI.out w5).mono ?_
  intro e w6 hA
  obtain ⟨E2, l2, k2, rfl, e2, hs2, hb6⟩ := hA.open' HSm.out
  dsimp only at e2
  have HE2 : Hid (L = E2.map (·.c)) := e2
  have HS2 : Hid (SpR w5.heap.size E2 l2 k2 w6) := hs2
  have HB6 : Hid (Below w1.heap.size w1 w6) := HB5.out.trans (hb6.mono HB5.out.size)
  have HT6 : Hid (SgT w1.heap.size l1 E1.length k1 vs M (tgM 1 M f E1.length) (ptM 1 M C E1.length) w6) := HT5.out.later hb6
  clear hA hs2 hb6 e2 HT5 HB5 HI
  go_wp2_with fail
  (first | go_at_call 13 | skip)
  refine (HEq.out _ _ _ _ _ _ _ _ w6 HE2.out HE0.out HS2.out (HS0.out.1.later HB6.out)).mono ?_
  rintro e w7 ⟨rfl, hb7⟩
  have HB7 : Hid (Below w1.heap.size w1 w7) := HB6.out.trans (hb7.mono HB6.out.size)
  have HT7 : Hid (SgT w1.heap.size l1 E1.length k1 vs M (tgM 1 M f E1.length) (ptM 1 M C E1.length) w7) := HT6.out.later hb7
  clear hb7 HT6 HB6 HS2
  go_wp2_with fail
  (first | go_at_call 16 | skip)
  refine (HHd.out w7 HT7.out).mono ?_
  rintro e w8 ⟨rfl, hb8⟩
  have HB8 : Hid (Below w.heap.size w w8) := chain HS0.out.2 (HB7.out.trans (hb8.mono HB7.out.size))
  clear hb8 HT7 HB7
  go_wp2
  go_ret
  exact ⟨rfl, HB8.out⟩

theorem own : ownKnob Try.prog.godebug = none := by kernel_rfl
theorem laidOut : laidOutB Try.prog = true := by kernel_rfl

set_option maxRecDepth 100000 in
theorem lifted (os : Os) (started : os.Started) (H : Type) (enc : TypeId × Value → H) :
    ReturnsInHanded {} Try.checked os 5 .any (Rows.fnExactReadSegmentsSpec.pre6 enc Try.prog Try.f5 Rows.fnExactReadSegmentsRow.domain false) (Rows.fnExactReadSegmentsSpec.post enc Try.prog Try.f5 false true false false) := by
  refine returnsInHanded_of_change (C := Try.checked) own started (by kernel_rfl) Try.func5
    (ChangeSpec.witness6 (enc := enc) (C := Try.checked) false ⟨#[], #[.string ByteArray.empty], []⟩ 8 (by kernel_rfl) (by kernel_rfl) (by kernel_rfl) (by kernel_rfl)) ?_
  intro W base args ds gs before hval0 hW hcnd _
  have hval : ∀ (j : Nat) t v, Try.f5.params[j]? = some t → args[j]? = some v → Value.okWide Try.prog W .any base t v := hval0
  have hW' := hW
  obtain ⟨p, q, hA0, hV, rfl, hfz, hnd⟩ := hW
  have hA : DataW.TrodAll enc Try.prog W 0 (fun _ => true) true Try.f5.params.toList args.toList ds p := hA0
  rw [Try.params5] at hA hval
  obtain ⟨v0, vs0, d0, ds0, p0, q0, hargs, rfl, rfl, h0, r0⟩ := trodAll_cons hA
  obtain ⟨rfl, rfl, rfl⟩ := trodAll_nil r0
  obtain rfl : args = #[v0] := by cases args; simp_all
  obtain ⟨rfl, rfl⟩ := trodVars_none hV
  have k0 := h0
  have lt0 : ∀ x ∈ p0, x.block < W.heap.size := by obtain ⟨m, hm⟩ := k0; exact DataW.trod_lt m _ _ _ hm
  obtain ⟨a0, rfl, rfl, rfl, w0⟩ := open_string Try.underlying9 (hval 0 9 v0 rfl rfl) h0
  clear hA0 hval0
  refine (walk a0 w0 W ).mono fun e W' ⟨he, bel⟩ => ?_
  subst he
  exact ⟨_, rfl, _, _, _, [], _, [], hW', trodAll_mk1 (shut_bool Try.underlying4 _), (trodAll_cons_mk (Below.trod laidOut (by kernel_rfl) (of_decide_eq_true (by kernel_rfl)) k0 bel lt0) trodAll_mk0), rfl, bel.frame _, fun h => by cases h⟩

theorem over : Rows.fnExactReadSegmentsRow.holds Try.pinned (OpenSpec.ofChange Rows.fnExactReadSegmentsSpec) :=
  OpenClaim.holds_of_wide 5 Try.f5 rfl rfl rfl rfl rfl rfl rfl ⟨rfl, rfl, rfl, rfl, rfl⟩ rfl rfl rfl rfl rfl (by kernel_rfl) Try.func5 (by kernel_rfl)
    (of_decide_eq_true (by kernel_rfl)) (by unfold Func.isWrapper; first | (rw [if_pos (by decide +kernel)]; kernel_rfl) | (rw [if_neg (by decide +kernel)]; exact ⟨rfl, rfl⟩))
    (fun os started H enc _ => lifted os started H enc)
end ReadSegLaw

theorem fnExactReadSegments_holds : Rows.FnExactReadSegmentsSaid := ReadSegLaw.over
end Go.Proofs.Ytnhmiaakkijjiaa

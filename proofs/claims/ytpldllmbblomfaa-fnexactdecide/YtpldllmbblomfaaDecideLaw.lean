/-
  For every list of rules the law FnExactDecide answers true: the program's Decide answers as the specification's and writes into no argument; with no condition.
-/
import Derived.Test.YtpldllmbblomfaaRdD
import Derived.Test.YtpldllmbblomfaaAgg5
import Derived.Test.YtpldllmbblomfaaClF
import Derived.Test.YtpldllmbblomfaaClO
namespace Go.Proofs.Ytpldllmbblomfaa
open Go.ChangeShapes Go.WideShapes Go.ChangeAt Go.RowKit Go.Joins
set_option linter.unusedVariables false

namespace DecideLaw
set_option maxHeartbeats 4000000 in
theorem walk' (a : Option Addr) (cap : Nat) (rs : List CCl) (x1 x2 x3 x4 x5 : Int) (hl : rs.length ≤ maxLen) (hp : ∀ r ∈ rs, ClWide r) (w : World) (hr : ReadsCl w.heap.size w a rs) :
    Calls Try.prog 4 #[.slice a rs.length cap, .agg #[.int .i64 x1, .int .i64 x2, .int .i64 x3, .int .i64 x4, .int .i64 x5]] w fun e w' => e = .returned (.bool true) ∧ Below w.heap.size w w' := by
  have HR : Hid (ReadsCl w.heap.size w a rs) := hr
  have HZ : Hid (∀ w, ReadsCl w.heap.size w a rs → Calls Try.prog 8 #[.slice a rs.length cap, .int .i64 1048576] w (SzCls rs w)) := fun w h => szCls_any a cap rs hl hp 1048576 (by omega) (by omega) w h
  clear hr hp
  have F0 : Hid (FcAt (w.alloc (.cells #[.int .i64 x1, .int .i64 x2, .int .i64 x3, .int .i64 x4, .int .i64 x5] 30)) w.heap.size x1 x2 x3 x4 x5) := ⟨cellNew _ _ _ _ rfl rfl, cellNew _ _ _ _ rfl rfl, cellNew _ _ _ _ rfl rfl, cellNew _ _ _ _ rfl rfl, cellNew _ _ _ _ rfl rfl⟩
  go_enter Try.func4, Try.ntmps4
  go_wp2_with (go_at_call 8; refine (HZ.out _ (HR.out.later (below_alloc _ _))).mono ?_; rintro e w1 ⟨x, rfl, hx, hb1⟩; have HX : Hid (x < 0 ∨ (0 ≤ x ∧ x ≤ 1048576 ∧ rs.length ≤ 1048576 ∧ totCl rs ≤ 1048576 ∧ ∀ r ∈ rs, ClOK r)) := hx; have B1 : Hid (Below w.heap.size w w1) := chain (below_alloc _ _) hb1; have F1 : Hid (FcAt w1 w.heap.size x1 x2 x3 x4 x5) := F0.out.later hb1; clear hx hb1)
  · go_ret
    exact ⟨rfl, B1.out⟩
  rcases HX.out with h | ⟨h, _, hlen, _, hok⟩
  · omega
  have HOK : Hid (∀ r ∈ rs, ClOK r) := hok
  have hS : Hid (∀ a c w, rs.length ≤ c → ReadsCl w.heap.size w a rs → Calls Try.prog 13 #[.slice a rs.length c, .agg #[.int .i64 x1, .int .i64 x2, .int .i64 x3, .int .i64 x4, .int .i64 x5]] w fun e w' => e = .returned (.tuple #[.int .i64 (decN rs [0, x1, x2, x3, x4, x5]), .int .i64 (decC rs [0, x1, x2, x3, x4, x5])]) ∧ Below w.heap.size w w') := fun a c w hc h => specDecide_any a c rs hc (by omega) HOK.out x1 x2 x3 x4 x5 w h
  have hI : Hid (∀ a c w, ReadsCl w.heap.size w a rs → Calls Try.prog 15 #[.slice a rs.length c, .agg #[.int .i64 x1, .int .i64 x2, .int .i64 x3, .int .i64 x4, .int .i64 x5]] w fun e w' => e = .returned (.tuple #[.int .i64 (decN rs [0, x1, x2, x3, x4, x5]), .int .i64 (decC rs [0, x1, x2, x3, x4, x5])]) ∧ Below w.heap.size w w') := fun a c w h => implDecide_any a c rs (by omega) HOK.out x1 x2 x3 x4 x5 w h
  have hT : Hid (∀ w, ReadsCl w.heap.size w a rs → Calls Try.prog 10 #[.slice a rs.length cap] w fun e w' => ∃ g, e = .returned (.slice (some ⟨g, 0, none⟩) rs.length rs.length) ∧ Below w.heap.size w w' ∧ OwnCl w.heap.size w' g rs) := fun w h => (toCls_any a cap rs hlen HOK.out w h).mono fun e w' ⟨h1, h2, h3⟩ => ⟨_, h1, h2, h3⟩
  generalize decN rs [0, x1, x2, x3, x4, x5] = dn at *
  generalize decC rs [0, x1, x2, x3, x4, x5] = dc at *
  have hd1 : (dn != dn) = false := by simp
  have hd2 : (dc != dc) = false := by simp
  clear hok HX HZ
  refine wp_region_held_drew (S := fun W => Below w1.heap.size w1 W) (by kernel_rfl) (below_drew _) (fun hH => ?_)
  refine wpAnyH_take (i := 0) (v := .slice a rs.length cap) rfl (by kernel_rfl) (by kernel_rfl) (by kernel_rfl) (fun _ _ _ h => h) (Or.inl ⟨by rfl, fun w hSw => by go_simp⟩) hH ?_
  refine wpAnyH_take (i := 2) (v := .agg #[.int .i64 x1, .int .i64 x2, .int .i64 x3, .int .i64 x4, .int .i64 x5]) rfl (by kernel_rfl) (by kernel_rfl) (by kernel_rfl) (fun _ _ _ h => h) (Or.inl ⟨by rfl, fun w hSw => by obtain ⟨s0, s1, s2, s3, s4⟩ := F1.out.later hSw; go_simp⟩) hH ?_
  try simp only [Act.put, List.setIfInBounds_toArray, List.set_cons_zero, List.set_cons_succ, List.getElem_toArray, List.getElem_cons_succ, List.getElem_cons_zero]
  refine wpAnyH_ready (rs := [1]) (by kernel_rfl) (by simp) ?_
  refine AllReadyH.cons rfl (fun K hK => ?_) AllReadyH.nil
  go_simp
  go_at_call 10
  refine (hT.out _ (HR.out.later (chain B1.out hH))).mono ?_
  rintro e w2 ⟨g2, rfl, hb2, ho2⟩
  have hw2 := chain hH hb2
  refine hK.out _ _ hw2 (fun _ => ?_)
  clear hK K
  try simp only [Act.put, List.setIfInBounds_toArray, List.set_cons_zero, List.set_cons_succ, List.getElem_toArray, List.getElem_cons_succ, List.getElem_cons_zero]
  refine wpAnyH_ready (rs := [3]) (by kernel_rfl) (by simp) ?_
  refine AllReadyH.cons rfl (fun K hK => ?_) AllReadyH.nil
  go_simp
  go_at_call 14
  refine (toFacts_any x1 x2 x3 x4 x5 w2).mono ?_
  rintro e w2' ⟨rfl, hb2'⟩
  have hw2' := chain hw2 hb2'
  refine hK.out _ _ hw2' (fun _ => ?_)
  clear hK K
  try simp only [Act.put, List.setIfInBounds_toArray, List.set_cons_zero, List.set_cons_succ, List.getElem_toArray, List.getElem_cons_succ, List.getElem_cons_zero]
  refine wpAnyH_ready (rs := [4]) (by kernel_rfl) (by simp) ?_
  refine AllReadyH.cons rfl (fun K hK => ?_) AllReadyH.nil
  go_simp
  go_at_call 13
  refine (hS.out _ _ w2' (Nat.le_refl _) (ho2.below hb2' (Nat.le_refl _)).reads).mono ?_
  rintro e w3 ⟨rfl, hb3⟩
  have hw3 := chain hw2' hb3
  refine hK.out _ _ hw3 (fun _ => ?_)
  clear hK K
  try simp only [Act.put, List.setIfInBounds_toArray, List.set_cons_zero, List.set_cons_succ, List.getElem_toArray, List.getElem_cons_succ, List.getElem_cons_zero]
  refine wpAnyH_take (i := 5) (v := .tuple #[.int .i64 dn, .int .i64 dc]) rfl (by kernel_rfl) (by kernel_rfl) (by kernel_rfl) (fun _ _ _ h => h) (Or.inl ⟨by rfl, fun w hSw => by go_simp⟩) hw3 ?_
  try simp only [Act.put, List.setIfInBounds_toArray, List.set_cons_zero, List.set_cons_succ, List.getElem_toArray, List.getElem_cons_succ, List.getElem_cons_zero]
  refine wpAnyH_take (i := 6) (v := .int .i64 dn) rfl (by kernel_rfl) (by kernel_rfl) (by kernel_rfl) (fun _ _ _ h => h) (Or.inl ⟨by rfl, fun w hSw => by go_simp⟩) hw3 ?_
  try simp only [Act.put, List.setIfInBounds_toArray, List.set_cons_zero, List.set_cons_succ, List.getElem_toArray, List.getElem_cons_succ, List.getElem_cons_zero]
  refine wpAnyH_take (i := 7) (v := .int .i64 dc) rfl (by kernel_rfl) (by kernel_rfl) (by kernel_rfl) (fun _ _ _ h => h) (Or.inl ⟨by rfl, fun w hSw => by go_simp⟩) hw3 ?_
  try simp only [Act.put, List.setIfInBounds_toArray, List.set_cons_zero, List.set_cons_succ, List.getElem_toArray, List.getElem_cons_succ, List.getElem_cons_zero]
  refine wpAnyH_take (i := 8) (v := .int .i64 dn) rfl (by kernel_rfl) (by kernel_rfl) (by kernel_rfl) (fun _ _ _ h => h) (Or.inl ⟨by rfl, fun w hSw => by go_simp⟩) hw3 ?_
  try simp only [Act.put, List.setIfInBounds_toArray, List.set_cons_zero, List.set_cons_succ, List.getElem_toArray, List.getElem_cons_succ, List.getElem_cons_zero]
  refine wpAnyH_take (i := 9) (v := .int .i64 dc) rfl (by kernel_rfl) (by kernel_rfl) (by kernel_rfl) (fun _ _ _ h => h) (Or.inl ⟨by rfl, fun w hSw => by go_simp⟩) hw3 ?_
  try simp only [Act.put, List.setIfInBounds_toArray, List.set_cons_zero, List.set_cons_succ, List.getElem_toArray, List.getElem_cons_succ, List.getElem_cons_zero]
  refine wpAnyH_done (by kernel_rfl) ?_ _
  try simp
  have B3 : Hid (Below w.heap.size w w3) := chain B1.out hw3
  have F3 : Hid (FcAt w3 w.heap.size x1 x2 x3 x4 x5) := F1.out.later hw3
  clear hw3 hw2' hw2 hH hb2 hb2' hb3 ho2
  go_wp2_with fail
  (first | go_at_call 10 | skip)
  refine (hT.out w3 (HR.out.later B3.out)).mono ?_
  rintro e w4 ⟨g4, rfl, hb4, ho4⟩
  have B4 : Hid (Below w.heap.size w w4) := chain B3.out hb4
  have X4 : Hid (OwnCl w3.heap.size w4 g4 rs) := ho4
  obtain ⟨f0, f1, f2, f3, f4⟩ := F3.out.later hb4
  clear hb4 ho4
  go_wp2_with fail
  (first | go_at_call 14 | skip)
  refine (toFacts_any x1 x2 x3 x4 x5 w4).mono ?_
  rintro e w4' ⟨rfl, hb4'⟩
  have B4' : Hid (Below w.heap.size w w4') := chain B4.out hb4'
  have X4' : Hid (OwnCl w3.heap.size w4' g4 rs) := X4.out.below hb4' (Nat.le_refl _)
  clear hb4' X4
  go_wp2_with fail
  (first | go_at_call 15 | skip)
  refine (hI.out _ _ w4' X4'.out.reads).mono ?_
  rintro e w5 ⟨rfl, hb5⟩
  have B5 : Hid (Below w.heap.size w w5) := chain B4'.out hb5
  have X5 : Hid (OwnCl w3.heap.size w5 g4 rs) := X4'.out.below hb5 (Nat.le_refl _)
  clear hb5 X4'
  go_wp2_with fail
  (first | go_at_call 10 | skip)
  refine (hT.out w5 (HR.out.later B5.out)).mono ?_
  rintro e w6 ⟨g6, rfl, hb6, ho6⟩
  have B6 : Hid (Below w.heap.size w w6) := chain B5.out hb6
  have X6 : Hid (OwnCl w3.heap.size w6 g4 rs) := X5.out.below hb6 (Nat.le_refl _)
  have Y6 : Hid (OwnCl w5.heap.size w6 g6 rs) := ho6
  clear hb6 ho6 X5
  go_wp2_with fail
  (first | go_at_call 12 | skip)
  refine (eqCls_any _ _ _ _ rs hlen HOK.out w6 X6.out.reads Y6.out.reads).mono ?_
  rintro e w7 ⟨rfl, hb7⟩
  have B7 : Hid (Below w.heap.size w w7) := chain B6.out hb7
  clear hb7
  go_wp2
  go_ret
  exact ⟨rfl, B7.out⟩

theorem walk (a : Option Addr) (len cap : Nat) (rs : List CCl) (x1 x2 x3 x4 x5 : Int) (w : World) (h : IsCls w a len cap rs) :
    Calls Try.prog 4 #[.slice a len cap, .agg #[.int .i64 x1, .int .i64 x2, .int .i64 x3, .int .i64 x4, .int .i64 x5]] w fun e w' => e = .returned (.bool true) ∧ Below w.heap.size w w' := by
  obtain ⟨rfl, h2, h3, h4, h5⟩ := h
  exact walk' a cap rs x1 x2 x3 x4 x5 (Nat.le_trans h2 h3) h4 w h5

theorem own : ownKnob Try.prog.godebug = none := by kernel_rfl
theorem laidOut : laidOutB Try.prog = true := by kernel_rfl

set_option maxRecDepth 100000 in
theorem lifted (os : Os) (started : os.Started) (H : Type) (enc : TypeId × Value → H) :
    ReturnsInHanded {} Try.checked os 4 .any (Rows.fnExactDecideSpec.pre6 enc Try.prog Try.f4 Rows.fnExactDecideRow.domain false) (Rows.fnExactDecideSpec.post enc Try.prog Try.f4 false true false false) := by
  refine returnsInHanded_of_change (C := Try.checked) own started (by kernel_rfl) Try.func4
    (ChangeSpec.witness6 (enc := enc) (C := Try.checked) false ⟨#[], #[.slice none 0 0, .agg #[.int .i64 0, .int .i64 0, .int .i64 0, .int .i64 0, .int .i64 0]], []⟩ 8 (by kernel_rfl) (by kernel_rfl) (by kernel_rfl) (by kernel_rfl)) ?_
  intro W base args ds gs before hval0 hW hcnd _
  have hval : ∀ (j : Nat) t v, Try.f4.params[j]? = some t → args[j]? = some v → Value.okWide Try.prog W .any base t v := hval0
  have hW' := hW
  obtain ⟨p, q, hA0, hV, rfl, hfz, hnd⟩ := hW
  have hA : DataW.TrodAll enc Try.prog W 0 (fun _ => true) true Try.f4.params.toList args.toList ds p := hA0
  rw [Try.params4] at hA hval
  obtain ⟨v0, vs0, d0, ds0, p0, q0, hargs, rfl, rfl, h0, r0⟩ := trodAll_cons hA
  obtain ⟨v1, vs1, d1, ds1, p1, q1, rfl, rfl, rfl, h1, r1⟩ := trodAll_cons r0
  obtain ⟨rfl, rfl, rfl⟩ := trodAll_nil r1
  obtain rfl : args = #[v0, v1] := by cases args; simp_all
  obtain ⟨rfl, rfl⟩ := trodVars_none hV
  have k0 := h0
  have lt0 : ∀ x ∈ p0, x.block < W.heap.size := by obtain ⟨m, hm⟩ := k0; exact DataW.trod_lt m _ _ _ hm
  have k1 := h1
  have lt1 : ∀ x ∈ p1, x.block < W.heap.size := by obtain ⟨m, hm⟩ := k1; exact DataW.trod_lt m _ _ _ hm
  obtain ⟨a0, len0, cap0, rfl⟩ := okWide_slice Try.underlying22 (hval 0 22 v0 rfl rfl)
  obtain ⟨z0, w0⟩ : ∃ zs, IsCls W a0 len0 cap0 zs := by
    obtain ⟨fuel, hf⟩ := h0
    exact openCls (by simpa [Value.cells] using hf)
  obtain ⟨x1_1, x1_2, x1_3, x1_4, x1_5, rfl⟩ := open_facts (hval 1 30 v1 rfl rfl) h1
  clear hA0 hval0
  refine (walk a0 len0 cap0 z0 x1_1 x1_2 x1_3 x1_4 x1_5 W w0).mono fun e W' ⟨he, bel⟩ => ?_
  subst he
  exact ⟨_, rfl, _, _, _, [], _, [], hW', trodAll_mk1 (shut_bool Try.underlying4 _), (trodAll_cons_mk (Below.trod laidOut (by kernel_rfl) (of_decide_eq_true (by kernel_rfl)) k0 bel lt0) (trodAll_cons_mk (Below.trod laidOut (by kernel_rfl) (of_decide_eq_true (by kernel_rfl)) k1 bel lt1) trodAll_mk0)), rfl, bel.frame _, fun h => by cases h⟩

theorem over : Rows.fnExactDecideRow.holds Try.pinned (OpenSpec.ofChange Rows.fnExactDecideSpec) :=
  OpenClaim.holds_of_wide 4 Try.f4 rfl rfl rfl rfl rfl rfl rfl ⟨rfl, rfl, rfl, rfl, rfl⟩ rfl rfl rfl rfl rfl (by kernel_rfl) Try.func4 (by kernel_rfl)
    (of_decide_eq_true (by kernel_rfl)) (by unfold Func.isWrapper; first | (rw [if_pos (by decide +kernel)]; kernel_rfl) | (rw [if_neg (by decide +kernel)]; exact ⟨rfl, rfl⟩))
    (fun os started H enc _ => lifted os started H enc)
end DecideLaw

theorem fnExactDecide_holds : Rows.FnExactDecideSaid := DecideLaw.over
end Go.Proofs.Ytpldllmbblomfaa

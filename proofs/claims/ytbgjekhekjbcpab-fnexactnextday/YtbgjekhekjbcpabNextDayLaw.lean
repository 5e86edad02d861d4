/-
  For every week, holidays and day the law FnExactNextDay answers true: the program's NextDay answers as the specification's and writes into no argument; with no condition.
-/
import Derived.Test.YtbgjekhekjbcpabDyE
import Derived.Test.YtbgjekhekjbcpabBlE
namespace Go.Proofs.Ytbgjekhekjbcpab
open Go.ChangeShapes Go.WideShapes Go.ChangeAt Go.RowKit Go.Joins Go.Deep
set_option linter.unusedVariables false

namespace NextDayLaw
set_option maxHeartbeats 8000000 in
theorem walk' (a1 : Option Addr) (c1 : Nat) (wk : List Bool) (a2 : Option Addr) (c2 : Nat) (hs : List Int) (day : Int) (hl1 : (wk.length : Int) ≤ 1048576) (hl2 : (hs.length : Int) ≤ 1048576) (w : World) (hr1 : ReadsBl w.heap.size w a1 wk) (hr2 : Reads w.heap.size w a2 hs) :
    Calls Try.prog 3 #[.slice a1 wk.length c1, .slice a2 hs.length c2, .int .i64 day] w fun e w' => e = .returned (.bool true) ∧ Below w.heap.size w w' := by
  have HTb : Hid (∀ W, Below w.heap.size w W → Calls Try.prog 6 #[.slice a1 wk.length c1] W fun e w' => e = .returned (.slice (some ⟨W.heap.size, 0, none⟩) wk.length wk.length) ∧ Below W.heap.size W w' ∧ W.heap.size < w'.heap.size ∧ BoolsAt w' W.heap.size 0 wk ∧ FreeAt w' W.heap.size 0 wk.length) := fun W hW => toBools_any a1 c1 wk (by omega) W (hr1.later hW)
  have HTi : Hid (∀ W, Below w.heap.size w W → Calls Try.prog 7 #[.slice a2 hs.length c2] W fun e w' => e = .returned (.slice (some ⟨W.heap.size, 0, none⟩) hs.length hs.length) ∧ Below W.heap.size W w' ∧ W.heap.size < w'.heap.size ∧ IntsAt w' W.heap.size 0 hs ∧ FreeAt w' W.heap.size 0 hs.length) := fun W hW => toInts_any a2 c2 hs (by omega) W (readsL hr2 hW)
  have HS : Hid (∀ x y W, ReadsBl W.heap.size W x wk → Reads W.heap.size W y hs → Calls Try.prog 5 #[.slice x wk.length wk.length, .slice y hs.length hs.length, .int .i64 day] W (AnsN W (ndD wk hs day) (ndC wk hs day))) := fun x y W h1 h2 => specNext_any x y wk.length hs.length wk hs day (by omega) (by omega) W h1 h2
  have HI : Hid (∀ x y W, ReadsBl W.heap.size W x wk → Reads W.heap.size W y hs → Calls Try.prog 8 #[.slice x wk.length wk.length, .slice y hs.length hs.length, .int .i64 day] W (AnsN W (ndD wk hs day) (ndC wk hs day))) := fun x y W h1 h2 => implNext_any x y wk.length hs.length wk hs day (by omega) (by omega) W h1 h2
  unfold AnsN at HS HI
  generalize ndD wk hs day = dd at *
  generalize ndC wk hs day = cc at *
  have hdd : (dd != dd) = false := by simp
  have hcc : (cc != cc) = false := by simp
  clear hr1 hr2
  go_enter Try.func3, Try.ntmps3
  have B0 : Hid (Below w.heap.size w w) := Below.refl _ _
  go_wp2_with fail
  (first | go_at_call 6 | skip)
  refine (HTb.out w B0.out).mono ?_
  rintro e w1 ⟨rfl, hb, hz, hi, hf⟩
  have B1 : Hid (Below w.heap.size w w1) := chain B0.out hb
  have R1 : Hid (ReadsBl w1.heap.size w1 (some ⟨w.heap.size, 0, none⟩) wk) := .inr ⟨_, _, rfl, hz, hi⟩
  clear hb hz hi hf
  go_wp2_with fail
  (first | go_at_call 7 | skip)
  refine (HTi.out w1 B1.out).mono ?_
  rintro e w2 ⟨rfl, hb, hz, hi, hf⟩
  have B2 : Hid (Below w.heap.size w w2) := chain B1.out hb
  have R2 : Hid (ReadsBl w2.heap.size w2 (some ⟨w.heap.size, 0, none⟩) wk) := R1.out.later hb
  have Q2 : Hid (Reads w2.heap.size w2 (some ⟨w1.heap.size, 0, none⟩) hs) := .inr ⟨_, _, rfl, hz, hi⟩
  clear hb hz hi hf R1
  go_wp2_with fail
  (first | go_at_call 5 | skip)
  refine (HS.out _ _ w2 R2.out Q2.out).mono ?_
  rintro e w3 ⟨rfl, hb⟩
  have B3 : Hid (Below w.heap.size w w3) := chain B2.out hb
  clear hb R2 Q2
  go_wp2_with fail
  (first | go_at_call 6 | skip)
  refine (HTb.out w3 B3.out).mono ?_
  rintro e w4 ⟨rfl, hb, hz, hi, hf⟩
  have B4 : Hid (Below w.heap.size w w4) := chain B3.out hb
  have R4 : Hid (ReadsBl w4.heap.size w4 (some ⟨w3.heap.size, 0, none⟩) wk) := .inr ⟨_, _, rfl, hz, hi⟩
  clear hb hz hi hf
  go_wp2_with fail
  (first | go_at_call 7 | skip)
  refine (HTi.out w4 B4.out).mono ?_
  rintro e w5 ⟨rfl, hb, hz, hi, hf⟩
  have B5 : Hid (Below w.heap.size w w5) := chain B4.out hb
  have R5 : Hid (ReadsBl w5.heap.size w5 (some ⟨w3.heap.size, 0, none⟩) wk) := R4.out.later hb
  have Q5 : Hid (Reads w5.heap.size w5 (some ⟨w4.heap.size, 0, none⟩) hs) := .inr ⟨_, _, rfl, hz, hi⟩
  clear hb hz hi hf R4
  go_wp2_with fail
  (first | go_at_call 8 | skip)
  refine (HI.out _ _ w5 R5.out Q5.out).mono ?_
  rintro e w6 ⟨rfl, hb⟩
  have B6 : Hid (Below w.heap.size w w6) := chain B5.out hb
  have R6 : Hid (ReadsBl w6.heap.size w6 (some ⟨w3.heap.size, 0, none⟩) wk) := R5.out.later hb
  have Q6 : Hid (Reads w6.heap.size w6 (some ⟨w4.heap.size, 0, none⟩) hs) := readsL Q5.out hb
  clear hb R5 Q5
  go_wp2_with fail
  (first | go_at_call 6 | skip)
  refine (HTb.out w6 B6.out).mono ?_
  rintro e w7 ⟨rfl, hb, hz, hi, hf⟩
  have B7 : Hid (Below w.heap.size w w7) := chain B6.out hb
  have R7 : Hid (ReadsBl w7.heap.size w7 (some ⟨w3.heap.size, 0, none⟩) wk) := R6.out.later hb
  have Q7 : Hid (Reads w7.heap.size w7 (some ⟨w4.heap.size, 0, none⟩) hs) := readsL Q6.out hb
  have V7 : Hid (ReadsBl w7.heap.size w7 (some ⟨w6.heap.size, 0, none⟩) wk) := .inr ⟨_, _, rfl, hz, hi⟩
  clear hb hz hi hf R6 Q6
  go_wp2_with fail
  (first | go_at_call 9 | skip)
  refine (eqBools_any w7.heap.size _ _ _ _ wk (by omega) w7 R7.out V7.out).mono ?_
  rintro e w8 ⟨rfl, hb⟩
  have B8 : Hid (Below w.heap.size w w8) := chain B7.out hb
  have Q8 : Hid (Reads w8.heap.size w8 (some ⟨w4.heap.size, 0, none⟩) hs) := readsL Q7.out hb
  clear hb R7 V7 Q7
  go_wp2_with fail
  (first | go_at_call 7 | skip)
  refine (HTi.out w8 B8.out).mono ?_
  rintro e w9 ⟨rfl, hb, hz, hi, hf⟩
  have B9 : Hid (Below w.heap.size w w9) := chain B8.out hb
  have Q9 : Hid (Reads w9.heap.size w9 (some ⟨w4.heap.size, 0, none⟩) hs) := readsL Q8.out hb
  have V9 : Hid (Reads w9.heap.size w9 (some ⟨w8.heap.size, 0, none⟩) hs) := .inr ⟨_, _, rfl, hz, hi⟩
  clear hb hz hi hf Q8
  go_wp2_with fail
  (first | go_at_call 10 | skip)
  refine (eqInts_any w9.heap.size _ _ _ _ hs hs (by omega) (by omega) w9 Q9.out V9.out).mono ?_
  rintro e w10 ⟨rfl, hb⟩
  have B10 : Hid (Below w.heap.size w w10) := chain B9.out hb
  rw [decide_eq_true (rfl : hs = hs)]
  clear hb Q9 V9
  go_wp2
  go_ret
  exact ⟨rfl, B10.out⟩
theorem walk (a1 : Option Addr) (l1 c1 : Nat) (wk : List Bool) (a2 : Option Addr) (l2 c2 : Nat) (zs : List Int) (day : Int) (wday : (Lit.int .i64 day).wf = true) (w : World) (h1 : IsBls w a1 l1 c1 wk) (h2 : IsRow .i64 w a2 l2 c2 zs) :
    Calls Try.prog 3 #[.slice a1 l1 c1, .slice a2 l2 c2, .int .i64 day] w fun e w' => e = .returned (.bool true) ∧ Below w.heap.size w w' := by
  obtain ⟨rfl, k2, k3, k4⟩ := h1
  obtain ⟨r1, r2, r3, r4⟩ := reads_of_row h2
  unfold maxLen at k3 r3
  by_cases g1 : (1048576 : Int) < (wk.length : Int)
  · clear h2 r4 r1 k4
    go_enter Try.func3, Try.ntmps3
    go_wp2
    go_ret
    exact ⟨rfl, Below.refl _ _⟩
  by_cases g2 : (1048576 : Int) < (l2 : Int)
  · clear h2 r4 r1 k4
    go_enter Try.func3, Try.ntmps3
    go_wp2
    go_ret
    exact ⟨rfl, Below.refl _ _⟩
  · have := walk' a1 c1 wk a2 c2 (zs.take l2) day (by omega) (by omega) w k4 r4
    rwa [r1] at this

theorem own : ownKnob Try.prog.godebug = none := by kernel_rfl
theorem laidOut : laidOutB Try.prog = true := by kernel_rfl

set_option maxRecDepth 100000 in
theorem lifted (os : Os) (started : os.Started) (H : Type) (enc : TypeId × Value → H) :
    ReturnsInHanded {} Try.checked os 3 .any (Rows.fnExactNextDaySpec.pre6 enc Try.prog Try.f3 Rows.fnExactNextDayRow.domain false) (Rows.fnExactNextDaySpec.post enc Try.prog Try.f3 false true false false) := by
  refine returnsInHanded_of_change (C := Try.checked) own started (by kernel_rfl) Try.func3
    (ChangeSpec.witness6 (enc := enc) (C := Try.checked) false ⟨#[], #[.slice none 0 0, .slice none 0 0, .int .i64 0], []⟩ 8 (by kernel_rfl) (by kernel_rfl) (by kernel_rfl) (by kernel_rfl)) ?_
  intro W base args ds gs before hval0 hW hcnd _
  have hval : ∀ (j : Nat) t v, Try.f3.params[j]? = some t → args[j]? = some v → Value.okWide Try.prog W .any base t v := hval0
  have hW' := hW
  obtain ⟨p, q, hA0, hV, rfl, hfz, hnd⟩ := hW
  have hA : DataW.TrodAll enc Try.prog W 0 (fun _ => true) true Try.f3.params.toList args.toList ds p := hA0
  rw [Try.params3] at hA hval
  obtain ⟨v0, vs0, d0, ds0, p0, q0, hargs, rfl, rfl, h0, r0⟩ := trodAll_cons hA
  obtain ⟨v1, vs1, d1, ds1, p1, q1, rfl, rfl, rfl, h1, r1⟩ := trodAll_cons r0
  obtain ⟨v2, vs2, d2, ds2, p2, q2, rfl, rfl, rfl, h2, r2⟩ := trodAll_cons r1
  obtain ⟨rfl, rfl, rfl⟩ := trodAll_nil r2
  obtain rfl : args = #[v0, v1, v2] := by cases args; simp_all
  obtain ⟨rfl, rfl⟩ := trodVars_none hV
  have k0 := h0
  have lt0 : ∀ x ∈ p0, x.block < W.heap.size := by obtain ⟨m, hm⟩ := k0; exact DataW.trod_lt m _ _ _ hm
  have k1 := h1
  have lt1 : ∀ x ∈ p1, x.block < W.heap.size := by obtain ⟨m, hm⟩ := k1; exact DataW.trod_lt m _ _ _ hm
  have k2 := h2
  have lt2 : ∀ x ∈ p2, x.block < W.heap.size := by obtain ⟨m, hm⟩ := k2; exact DataW.trod_lt m _ _ _ hm
  obtain ⟨a0, len0, cap0, rfl⟩ := okWide_slice Try.underlying22 (hval 0 22 v0 rfl rfl)
  obtain ⟨z0, w0⟩ : ∃ zs, IsBls W a0 len0 cap0 zs := by
    obtain ⟨fuel, hf⟩ := h0
    exact openBls (by simpa [Value.cells] using hf)
  obtain ⟨a1, len1, cap1, rfl⟩ := okWide_slice Try.underlying23 (hval 1 23 v1 rfl rfl)
  obtain ⟨z1, w1⟩ : ∃ zs, IsRow .i64 W a1 len1 cap1 zs := by
    obtain ⟨fuel, hf⟩ := h1
    rcases open_ints Try.underlying23 Try.underlying3 (by kernel_rfl) hf with ⟨hcs, _⟩ | ⟨x, l, c, zs, hcs, _, hl, hm, hz, _, hcell, hwz⟩
    · simp [Value.cells] at hcs
      obtain ⟨rfl, rfl, rfl⟩ := hcs
      exact ⟨[], .inl ⟨rfl, rfl, rfl, rfl⟩⟩
    · simp [Value.cells] at hcs
      obtain ⟨rfl, rfl, rfl⟩ := hcs
      exact ⟨zs, .inr ⟨_, rfl, hl, hm, by simpa using hz, hcell, hwz⟩⟩
  obtain ⟨a2, rfl, rfl, rfl, w2⟩ := open_int Try.underlying3 (hval 2 3 v2 rfl rfl) h2
  clear hA0 hval0
  refine (walk a0 len0 cap0 z0 a1 len1 cap1 z1 a2 w2 W w0 w1).mono fun e W' ⟨he, bel⟩ => ?_
  subst he
  exact ⟨_, rfl, _, _, _, [], _, [], hW', trodAll_mk1 (shut_bool Try.underlying4 _), (trodAll_cons_mk (Below.trod laidOut (by kernel_rfl) (of_decide_eq_true (by kernel_rfl)) k0 bel lt0) (trodAll_cons_mk (Below.trod laidOut (by kernel_rfl) (of_decide_eq_true (by kernel_rfl)) k1 bel lt1) (trodAll_cons_mk (Below.trod laidOut (by kernel_rfl) (of_decide_eq_true (by kernel_rfl)) k2 bel lt2) trodAll_mk0))), rfl, bel.frame _, fun h => by cases h⟩

theorem over : Rows.fnExactNextDayRow.holds Try.pinned (OpenSpec.ofChange Rows.fnExactNextDaySpec) :=
  OpenClaim.holds_of_wide 3 Try.f3 rfl rfl rfl rfl rfl rfl rfl ⟨rfl, rfl, rfl, rfl, rfl⟩ rfl rfl rfl rfl rfl (by kernel_rfl) Try.func3 (by kernel_rfl)
    (of_decide_eq_true (by kernel_rfl)) (by unfold Func.isWrapper; first | (rw [if_pos (by decide +kernel)]; kernel_rfl) | (rw [if_neg (by decide +kernel)]; exact ⟨rfl, rfl⟩))
    (fun os started H enc _ => lifted os started H enc)
end NextDayLaw

theorem fnExactNextDay_holds : Rows.FnExactNextDaySaid := NextDayLaw.over
end Go.Proofs.Ytbgjekhekjbcpab

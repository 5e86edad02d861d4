/-
  For every amount and every list of coins the law FnExactChange answers true: the program's Change answers as the specification's, writes into no argument, and its answer owns its memory; with no condition.
-/
import Derived.Test.YtpnbhmbcebbmjaaChD
import Derived.Test.YtpnbhmbcebbmjaaChF
import Derived.Test.YtpnbhmbcebbmjaaCoM
import Derived.Test.YtpnbhmbcebbmjaaCoF
import Derived.Test.YtpnbhmbcebbmjaaOwn2
namespace Go.Proofs.Ytpnbhmbcebbmjaa
open Go.ChangeShapes Go.WideShapes Go.ChangeAt Go.RowKit Go.Joins
set_option linter.unusedVariables false

namespace ChangeLaw
theorem ch_len (due : Int) (rs : List RCo) (h : rs.length ≤ 1048576) : (chList due rs).length ≤ 1048576 := by
  unfold chList
  split
  · unfold chL; simp; exact h
  · simp
theorem mk_below {b m : Nat} {w w2 : World} (h : Mk b m w w) (hb : Below w.heap.size w w2) : Mk b m w2 w2 := Mk.start (h.later hb).2.1 (h.later hb).2.2.1 (h.later hb).2.2.2
set_option maxHeartbeats 8000000 in
theorem walk' (due : Int) (a : Option Addr) (cap : Nat) (rs : List RCo) (hl : rs.length ≤ maxLen) (w : World) (hr : ReadsCo w.heap.size w a rs) :
    Calls Try.prog 4 #[.int .i64 due, .slice a rs.length cap] w fun e w' => e = .returned (.bool true) ∧ Below w.heap.size w w' := by
  have HR : Hid (ReadsCo w.heap.size w a rs) := hr
  have hZ := szCos_any a cap rs hl 1048576 (by omega) (by omega) w
  clear hr
  go_enter Try.func4, Try.ntmps4
  go_wp2_with (go_at_call 6; refine hZ.mono ?_; rintro e w1 ⟨⟨x, rfl, hx⟩, hw1⟩; rw [hw1]; have HX : Hid (x < 0 ∨ (0 ≤ x ∧ x + (rs.length : Int) ≤ 1048576)) := hx; clear hx hw1 w1)
  · go_ret
    exact ⟨rfl, Below.refl _ _⟩
  rcases HX.out with h | ⟨h, hlen0⟩
  · omega
  have hlen : rs.length ≤ 1048576 := by omega
  have hS : Hid (∀ a c w, ReadsCo w.heap.size w a rs → Calls Try.prog 11 #[.int .i64 due, .slice a rs.length c] w fun e w' => ∃ g cp, e = .returned (.tuple #[.slice g (chList due rs).length cp, .int .i64 (chCode due rs)]) ∧ Own2 w.heap.size w' g (chList due rs) ∧ Below w.heap.size w w') := fun a c w h => (specChange_any a c rs (by omega) due w h).mono fun e w' ⟨⟨g, cp, h1, h2⟩, h3⟩ => ⟨g, cp, h1, h2, h3⟩
  have hI : Hid (∀ a c w, ReadsCo w.heap.size w a rs → Calls Try.prog 12 #[.int .i64 due, .slice a rs.length c] w fun e w' => ∃ g cp, e = .returned (.tuple #[.slice g (chList due rs).length cp, .int .i64 (chCode due rs)]) ∧ Own2 w.heap.size w' g (chList due rs) ∧ Below w.heap.size w w') := fun a c w h => (implChange_any a c rs (by omega) due w h).mono fun e w' ⟨⟨g, cp, h1, h2⟩, h3⟩ => ⟨g, cp, h1, h2, h3⟩
  have hT : Hid (∀ w, ReadsCo w.heap.size w a rs → Calls Try.prog 8 #[.slice a rs.length cap] w fun e w' => e = .returned (.slice (some ⟨w.heap.size, 0, none⟩) rs.length rs.length) ∧ Below w.heap.size w w' ∧ w.heap.size < w'.heap.size ∧ CosAt w' w.heap.size 0 rs ∧ Mk w.heap.size (rs.length * 2) w' w') := fun w h => (toCos_any a cap rs hlen w h).mono fun e w' ⟨h1, h2, h3, h4, h5⟩ => ⟨h1, h2, h3, h4, Mk.start h3 (cos_some h4) h5⟩
  have hMk : Hid (∀ b w, Mk b (rs.length * 2) w w → Calls Try.prog 14 #[.slice (some ⟨b, 0, none⟩) rs.length rs.length, .int .i64 1] w fun e w' => ∃ K : Int, 0 ≤ K ∧ e = .returned (.int .i64 K) ∧ Mk b (rs.length * 2) w w') := fun b w h => (markCos_any b rs.length rs.length hlen 1 (by omega) (by omega) w h).mono fun e w' ⟨h1, h2⟩ => ⟨_, by omega, h1, h2⟩
  have hle := ch_len due rs hlen
  generalize chList due rs = L at *
  generalize chCode due rs = c at *
  have hd1 : (c != c) = false := by simp
  clear HX hlen0
  (first | go_at_call 8 | skip)
  refine (hT.out w HR.out).mono ?_
  rintro e w2 ⟨rfl, hb2, hz2, hi2, _⟩
  have B2 : Hid (Below w.heap.size w w2) := hb2
  have X2 : Hid (ReadsCo w2.heap.size w2 (some ⟨w.heap.size, 0, none⟩) rs) := .inr ⟨_, _, rfl, hz2, hi2⟩
  clear hb2 hz2 hi2
  go_wp2_with fail
  (first | go_at_call 11 | skip)
  refine (hS.out _ _ w2 X2.out).mono ?_
  rintro e w3 ⟨gw, cw, rfl, o3, hb3⟩
  have B3 : Hid (Below w.heap.size w w3) := chain B2.out hb3
  have OW3 : Hid (Own2 w2.heap.size w3 gw L) := o3
  clear hb3 o3 X2
  go_wp2_with fail
  (first | go_at_call 8 | skip)
  refine (hT.out w3 ((HR.out.below B3.out).mono B3.out.size)).mono ?_
  rintro e w4 ⟨rfl, hb4, hz4, hi4, hm4⟩
  have B4 : Hid (Below w.heap.size w w4) := chain B3.out hb4
  have X4 : Hid (ReadsCo w4.heap.size w4 (some ⟨w3.heap.size, 0, none⟩) rs) := .inr ⟨_, _, rfl, hz4, hi4⟩
  have OW4 : Hid (Own2 w2.heap.size w4 gw L) := OW3.out.below hb4 (Nat.le_refl _)
  have OWlt : Hid (∀ c, gw = some ⟨c, 0, none⟩ → c < w3.heap.size ∨ L = []) := own2_lt OW3.out (Nat.le_refl _)
  have Y4 : Hid (Mk w3.heap.size (rs.length * 2) w4 w4) := hm4
  have Z34 : Hid (w3.heap.size < w4.heap.size) := hz4
  clear hb4 hz4 hi4 hm4
  go_wp2_with fail
  (first | go_at_call 12 | skip)
  refine (hI.out _ _ w4 X4.out).mono ?_
  rintro e w5 ⟨g0, c0, rfl, o5, hb5⟩
  have B5 : Hid (Below w.heap.size w w5) := chain B4.out hb5
  have OW5 : Hid (Own2 w2.heap.size w5 gw L) := OW4.out.below hb5 (Nat.le_refl _)
  have OG5 : Hid (Own2 w4.heap.size w5 g0 L) := o5
  have X5 : Hid (ReadsCo w5.heap.size w5 (some ⟨w3.heap.size, 0, none⟩) rs) := (X4.out.below hb5).mono hb5.size
  have Y5 : Hid (Mk w3.heap.size (rs.length * 2) w5 w5) := mk_below Y4.out hb5
  clear hb5 o5 X4 Y4
  go_wp2_with fail
  (first | go_at_call 13 | skip)
  refine (eqInts_any w5.heap.size g0 gw c0 cw L L (by omega) (by omega) w5 OG5.out.reads OW5.out.reads).mono ?_
  rintro e w6 ⟨rfl, hb6⟩
  rw [decide_eq_true (rfl : L = L)]
  have B6 : Hid (Below w.heap.size w w6) := chain B5.out hb6
  have OW6 : Hid (Own2 w2.heap.size w6 gw L) := OW5.out.below hb6 (Nat.le_refl _)
  have OG6 : Hid (Own2 w4.heap.size w6 g0 L) := OG5.out.below hb6 (Nat.le_refl _)
  have X6 : Hid (ReadsCo w6.heap.size w6 (some ⟨w3.heap.size, 0, none⟩) rs) := (X5.out.below hb6).mono hb6.size
  have Y6 : Hid (Mk w3.heap.size (rs.length * 2) w6 w6) := mk_below Y5.out hb6
  clear hb6 X5 Y5
  go_wp2_with fail
  (first | go_at_call 8 | skip)
  refine (hT.out w6 ((HR.out.below B6.out).mono B6.out.size)).mono ?_
  rintro e w7 ⟨rfl, hb7, hz7, hi7, _⟩
  have B7 : Hid (Below w.heap.size w w7) := chain B6.out hb7
  have OW7 : Hid (Own2 w2.heap.size w7 gw L) := OW6.out.below hb7 (Nat.le_refl _)
  have OG7 : Hid (Own2 w4.heap.size w7 g0 L) := OG6.out.below hb7 (Nat.le_refl _)
  have X7 : Hid (ReadsCo w7.heap.size w7 (some ⟨w3.heap.size, 0, none⟩) rs) := (X6.out.below hb7).mono hb7.size
  have Y7 : Hid (Mk w3.heap.size (rs.length * 2) w7 w7) := mk_below Y6.out hb7
  have V7 : Hid (ReadsCo w7.heap.size w7 (some ⟨w6.heap.size, 0, none⟩) rs) := .inr ⟨_, _, rfl, hz7, hi7⟩
  clear hb7 hz7 hi7 X6 Y6
  go_wp2_with fail
  (first | go_at_call 10 | skip)
  refine (eqCos_any _ _ _ _ rs hlen w7 X7.out V7.out).mono ?_
  rintro e w8 ⟨rfl, hb8⟩
  have B8 : Hid (Below w.heap.size w w8) := chain B7.out hb8
  have OW8 : Hid (Own2 w2.heap.size w8 gw L) := OW7.out.below hb8 (Nat.le_refl _)
  have OG8 : Hid (Own2 w4.heap.size w8 g0 L) := OG7.out.below hb8 (Nat.le_refl _)
  have Y8 : Hid (Mk w3.heap.size (rs.length * 2) w8 w8) := mk_below Y7.out hb8
  clear hb8 X7 Y7 V7
  go_wp2_with fail
  (first | go_at_call 14 | skip)
  refine (hMk.out _ w8 Y8.out).mono ?_
  rintro e w9 ⟨K, hK0, rfl, hm9⟩
  have B9 : Hid (Below w.heap.size w w9) := B8.out.trans (hm9.1.1.mono B3.out.size)
  have OW9 : Hid (Own2 w2.heap.size w9 gw L) := own2_low OW8.out hm9.1.1 OWlt.out
  have OG9 : Hid (Own2 w4.heap.size w9 g0 L) := own2_apart OG8.out hm9.1.2 (own2_ge OG8.out Z34.out)
  have hK1 : decide (K < 0) = false := decide_eq_false (by omega)
  clear hm9 Y8 hMk
  go_wp2_with fail
  (first | go_at_call 13 | skip)
  refine (eqInts_any w9.heap.size g0 gw c0 cw L L (by omega) (by omega) w9 OG9.out.reads OW9.out.reads).mono ?_
  rintro e w10 ⟨rfl, hb10⟩
  rw [decide_eq_true (rfl : L = L)]
  have B10 : Hid (Below w.heap.size w w10) := chain B9.out hb10
  have OW10 : Hid (Own2 w2.heap.size w10 gw L) := OW9.out.below hb10 (Nat.le_refl _)
  have OG10 : Hid (Own2 w4.heap.size w10 g0 L) := OG9.out.below hb10 (Nat.le_refl _)
  clear hb10
  go_wp2_with fail
  (first | go_at_call 15 | skip)
  refine (mark_own w4.heap.size g0 c0 L (by omega) 1 (by omega) (by omega) w10 OG10.out).mono ?_
  rintro e w11 ⟨rfl, hb11, hz11, om11⟩
  have B11 : Hid (Below w.heap.size w w11) := B10.out.trans (hb11.mono B4.out.size)
  have OW11 : Hid (Own2 w2.heap.size w11 gw L) := own2_low OW10.out hb11 (fun c hc => (OWlt.out c hc).imp (fun h => Nat.lt_trans h Z34.out) id)
  have OG11 : Hid (Own2 w4.heap.size w11 g0 (marks 1 L.length)) := om11
  clear hb11 hz11 om11
  go_wp2_with fail
  (first | go_at_call 16 | skip)
  refine (held_own w4.heap.size g0 c0 L.length (by omega) 1 (by omega) (by omega) w11 OG11.out).mono ?_
  rintro e w11' ⟨rfl, rfl⟩
  go_wp2_with fail
  (first | go_at_call 8 | skip)
  refine (hT.out _ ((HR.out.below B11.out).mono B11.out.size)).mono ?_
  rintro e w12 ⟨rfl, hb12, hz12, hi12, _⟩
  have B12 : Hid (Below w.heap.size w w12) := chain B11.out hb12
  have OW12 : Hid (Own2 w2.heap.size w12 gw L) := OW11.out.below hb12 (Nat.le_refl _)
  have OG12 : Hid (Own2 w4.heap.size w12 g0 (marks 1 L.length)) := OG11.out.below hb12 (Nat.le_refl _)
  have X12 : Hid (ReadsCo w12.heap.size w12 _ rs) := .inr ⟨_, _, rfl, hz12, hi12⟩
  clear hb12 hz12 hi12
  go_wp2_with fail
  (first | go_at_call 12 | skip)
  refine (hI.out _ _ w12 X12.out).mono ?_
  rintro e w13 ⟨h0, ch, rfl, o13, hb13⟩
  have B13 : Hid (Below w.heap.size w w13) := chain B12.out hb13
  have OW13 : Hid (Own2 w2.heap.size w13 gw L) := OW12.out.below hb13 (Nat.le_refl _)
  have OG13 : Hid (Own2 w4.heap.size w13 g0 (marks 1 L.length)) := OG12.out.below hb13 (Nat.le_refl _)
  have OH13 : Hid (Own2 w12.heap.size w13 h0 L) := o13
  clear hb13 o13
  go_wp2_with fail
  (first | go_at_call 13 | skip)
  refine (eqInts_any w13.heap.size h0 gw ch cw L L (by omega) (by omega) w13 OH13.out.reads OW13.out.reads).mono ?_
  rintro e w14 ⟨rfl, hb14⟩
  rw [decide_eq_true (rfl : L = L)]
  have B14 : Hid (Below w.heap.size w w14) := chain B13.out hb14
  have OG14 : Hid (Own2 w4.heap.size w14 g0 (marks 1 L.length)) := OG13.out.below hb14 (Nat.le_refl _)
  clear hb14
  go_wp2_with fail
  (first | go_at_call 16 | skip)
  refine (held_own w4.heap.size g0 c0 L.length (by omega) 1 (by omega) (by omega) w14 OG14.out).mono ?_
  rintro e w14' ⟨rfl, rfl⟩
  go_wp2
  go_ret
  exact ⟨rfl, B14.out⟩

theorem walk (due : Int) (hdw : (Lit.int .i64 due).wf = true) (a : Option Addr) (len cap : Nat) (rs : List RCo) (w : World) (h : IsCos w a len cap rs) :
    Calls Try.prog 4 #[.int .i64 due, .slice a len cap] w fun e w' => e = .returned (.bool true) ∧ Below w.heap.size w w' := by
  obtain ⟨rfl, h2, h3, h4, h5⟩ := h
  exact walk' due a cap rs (Nat.le_trans h2 h3) w h5

theorem own : ownKnob Try.prog.godebug = none := by kernel_rfl
theorem laidOut : laidOutB Try.prog = true := by kernel_rfl

set_option maxRecDepth 100000 in
theorem lifted (os : Os) (started : os.Started) (H : Type) (enc : TypeId × Value → H) :
    ReturnsInHanded {} Try.checked os 4 .any (Rows.fnExactChangeSpec.pre6 enc Try.prog Try.f4 Rows.fnExactChangeRow.domain false) (Rows.fnExactChangeSpec.post enc Try.prog Try.f4 false true false false) := by
  refine returnsInHanded_of_change (C := Try.checked) own started (by kernel_rfl) Try.func4
    (ChangeSpec.witness6 (enc := enc) (C := Try.checked) false ⟨#[], #[.int .i64 0, .slice none 0 0], []⟩ 8 (by kernel_rfl) (by kernel_rfl) (by kernel_rfl) (by kernel_rfl)) ?_
  intro W base args ds gs before hval0 hW hcnd _
  have hval : ∀ (j : Nat) t v, Try.f4.params[j]? = some t → args[j]? = some v → Value.okWide Try.prog W .any base t v := hval0
  have hW' := hW
  obtain ⟨p, q, hA0, hV, rfl, hfz, hnd⟩ := hW
  have hA : DataW.TrodAll enc Try.prog W 0 (fun _ => true) true Try.f4.params.toList args.toList ds p := hA0
  rw [Try.params4] at hA hval
  obtain ⟨v0, vs0, d0, ds0, p0, q0, hargs, rfl, rfl, h0, r0⟩ := trodAll_cons hA
  obtain ⟨v1, vs1, d1, ds1, p1, q1, rfl, rfl, rfl, h1, r1⟩ := trodAll_cons r0
  obtain ⟨rfl, rfl, rfl⟩ := trodAll_nil r1
  obtain rfl : args = #[v0, v1] := by cases args; simp_all
  obtain ⟨rfl, rfl⟩ := trodVars_none hV
  have k0 := h0
  have lt0 : ∀ x ∈ p0, x.block < W.heap.size := by obtain ⟨m, hm⟩ := k0; exact DataW.trod_lt m _ _ _ hm
  have k1 := h1
  have lt1 : ∀ x ∈ p1, x.block < W.heap.size := by obtain ⟨m, hm⟩ := k1; exact DataW.trod_lt m _ _ _ hm
  obtain ⟨a0, rfl, rfl, rfl, w0⟩ := open_int Try.underlying3 (hval 0 3 v0 rfl rfl) h0
  obtain ⟨a1, len1, cap1, rfl⟩ := okWide_slice Try.underlying22 (hval 1 22 v1 rfl rfl)
  obtain ⟨z1, w1⟩ : ∃ zs, IsCos W a1 len1 cap1 zs := by
    obtain ⟨fuel, hf⟩ := h1
    exact openCos (by simpa [Value.cells] using hf)
  clear hA0 hval0
  refine (walk a0 w0 a1 len1 cap1 z1 W w1).mono fun e W' ⟨he, bel⟩ => ?_
  subst he
  exact ⟨_, rfl, _, _, _, [], _, [], hW', trodAll_mk1 (shut_bool Try.underlying4 _), (trodAll_cons_mk (Below.trod laidOut (by kernel_rfl) (of_decide_eq_true (by kernel_rfl)) k0 bel lt0) (trodAll_cons_mk (Below.trod laidOut (by kernel_rfl) (of_decide_eq_true (by kernel_rfl)) k1 bel lt1) trodAll_mk0)), rfl, bel.frame _, fun h => by cases h⟩

theorem over : Rows.fnExactChangeRow.holds Try.pinned (OpenSpec.ofChange Rows.fnExactChangeSpec) :=
  OpenClaim.holds_of_wide 4 Try.f4 rfl rfl rfl rfl rfl rfl rfl ⟨rfl, rfl, rfl, rfl, rfl⟩ rfl rfl rfl rfl rfl (by kernel_rfl) Try.func4 (by kernel_rfl)
    (of_decide_eq_true (by kernel_rfl)) (by unfold Func.isWrapper; first | (rw [if_pos (by decide +kernel)]; kernel_rfl) | (rw [if_neg (by decide +kernel)]; exact ⟨rfl, rfl⟩))
    (fun os started H enc _ => lifted os started H enc)
end ChangeLaw

theorem fnExactChange_holds : Rows.FnExactChangeSaid := ChangeLaw.over
end Go.Proofs.Ytpnbhmbcebbmjaa

/-
  For every list of price rows, article, zone and stretch the law FnExactPriceSteps answers true: the program's PriceSteps answers as the specification's, writes into no argument, and its answer owns its memory; with no condition.
-/
import Derived.Test.YtbkaikobjkkgkaaStepE
import Derived.Test.YtbkaikobjkkgkaaStepG
import Derived.Test.YtbkaikobjkkgkaaStH
import Derived.Test.YtbkaikobjkkgkaaPrM
namespace Go.Proofs.Ytbkaikobjkkgkaa
open Go.ChangeShapes Go.WideShapes Go.ChangeAt Go.RowKit Go.Joins
open Go.ChangeMaps (open_string shut_string)
set_option linter.unusedVariables false

theorem stList_len (rs : List RPr) (art zn : ByteArray) (fr to : Int) : ∃ n : Nat, (stList rs art zn fr to).length = n * 2 ∧ (stList rs art zn fr to).length / 2 = n ∧ n ≤ 161 := by
  rcases st_ways rs art zn fr to with ⟨h, e1, e2⟩ | ⟨h, h', e1, e2⟩ | ⟨h, h', e1, e2⟩
  · rw [e2]; exact ⟨0, rfl, rfl, by omega⟩
  · rw [e2]; exact ⟨0, rfl, rfl, by omega⟩
  · rw [e2]
    have h1 := stepsL_len rs art zn fr to
    rcases pf_ways rs art zn with ⟨f, _⟩ | ⟨f, _, _⟩ | ⟨_, q, q'⟩
    · rw [h] at f; omega
    · rw [h] at f; omega
    have h2 := prAll_len2 q'
    exact ⟨(stepsL rs art zn fr to).length / 2, by omega, rfl, by omega⟩
theorem markPrs_one (b n cap : Nat) (hn : n ≤ 1048576) (w : World) (hM : Mk b (n * 6) w w) :
    Calls Try.prog 17 #[.slice (some ⟨b, 0, none⟩) n cap, .int .i64 1] w fun e w' => e = .returned (.int .i64 (1 + (n : Int) * 6)) ∧ Mk b (n * 6) w w' :=
  markPrs_any b n cap hn 1 (by omega) (by omega) w hM

namespace PriceStepsLaw
set_option maxHeartbeats 8000000 in
set_option maxRecDepth 4000 in
theorem walk' (a : Option Addr) (cap : Nat) (rs : List RPr) (hl : rs.length ≤ maxLen) (hp : ∀ r ∈ rs, PrWide r) (art : ByteArray) (hart : art.size ≤ maxLen) (zn : ByteArray) (hzn : zn.size ≤ maxLen) (fr to : Int) (w : World) (hr : ReadsPr w.heap.size w a rs) :
    Calls Try.prog 5 #[.slice a rs.length cap, .string art, .string zn, .int .i64 fr, .int .i64 to] w fun e w' => e = .returned (.bool true) ∧ Below w.heap.size w w' := by
  unfold maxLen at hart hzn
  by_cases hbig : (1048576 : Int) < (art.size : Int)
  · clear hr hp
    go_enter Try.func5, Try.ntmps5
    go_wp2
    go_ret
    exact ⟨rfl, Below.refl _ _⟩
  have hbig' : (art.size : Int) ≤ 1048576 := by omega
  by_cases hbz : (1048576 : Int) < (zn.size : Int)
  · clear hr hp
    go_enter Try.func5, Try.ntmps5
    go_wp2
    go_ret
    exact ⟨rfl, Below.refl _ _⟩
  have hbz' : (zn.size : Int) ≤ 1048576 := by omega
  have HR : Hid (ReadsPr w.heap.size w a rs) := hr
  have HZ : Hid (∀ w, ReadsPr w.heap.size w a rs → Calls Try.prog 7 #[.slice a rs.length cap, .int .i64 1048576] w (SzPr rs w)) := fun w h => szPrs_any a cap rs hl hp 1048576 (by omega) (by omega) w h
  clear hr hp hbig hbz
  go_enter Try.func5, Try.ntmps5
  go_wp2_with (go_at_call 7; refine (HZ.out _ HR.out).mono ?_; rintro e w1 ⟨x, rfl, hx, hb1⟩; have HX : Hid (x < 0 ∨ (0 ≤ x ∧ x ≤ 1048576 ∧ rs.length ≤ 1048576 ∧ ∀ r ∈ rs, PrOK r)) := hx; have B1 : Hid (Below w.heap.size w w1) := hb1; clear hx hb1)
  · go_ret
    exact ⟨rfl, B1.out⟩
  rcases HX.out with h | ⟨h, _, hlen, hok⟩
  · omega
  have HOK : Hid (∀ r ∈ rs, PrOK r) := hok
  have hS : Hid (∀ a c w, ReadsPr w.heap.size w a rs → Calls Try.prog 14 #[.slice a rs.length c, .string art, .string zn, .int .i64 fr, .int .i64 to] w (AnsS rs art zn fr to w)) := fun a c w h => specSteps_any a c rs (by omega) HOK.out art zn (by omega) (by omega) fr to w h
  have hI : Hid (∀ a c w, ReadsPr w.heap.size w a rs → Calls Try.prog 15 #[.slice a rs.length c, .string art, .string zn, .int .i64 fr, .int .i64 to] w (AnsS rs art zn fr to w)) := fun a c w h => implSteps_any a c rs (by omega) HOK.out art zn (by omega) (by omega) fr to w h
  have hT : Hid (∀ w, ReadsPr w.heap.size w a rs → Calls Try.prog 9 #[.slice a rs.length cap] w fun e w' => e = .returned (.slice (some ⟨w.heap.size, 0, none⟩) rs.length rs.length) ∧ Below w.heap.size w w' ∧ w.heap.size < w'.heap.size ∧ PrsAt w' w.heap.size 0 rs ∧ FreePr w' w.heap.size rs.length) := fun w h => toPrs_any a cap rs hlen w h
  obtain ⟨n, hn2, hnh, hn⟩ := stList_len rs art zn fr to
  unfold AnsS at hS hI
  rw [hnh] at hS hI
  generalize stList rs art zn fr to = L at *
  generalize stCode rs art zn fr to = c at *
  have p1 : (0 : Int) ≤ 1 + (n : Int) * 2 := by omega
  have p2 : (0 : Int) ≤ 1 + (rs.length : Int) * 6 := by omega
  clear hok HX HZ HOK hnh
  (first | go_at_call 9 | skip)
  refine (hT.out w1 ((HR.out.below B1.out).mono B1.out.size)).mono ?_
  rintro e w2 ⟨rfl, hb2, hz2, hi2, hf2⟩
  have B2 : Hid (Below w.heap.size w w2) := chain B1.out hb2
  have R2 : Hid (ReadsPr w2.heap.size w2 (some ⟨w1.heap.size, 0, none⟩) rs) := .inr ⟨_, _, rfl, hz2, hi2⟩
  clear hb2 hz2 hi2 hf2
  go_wp2_with fail
  (first | go_at_call 14 | skip)
  refine (hS.out _ _ w2 R2.out).mono ?_
  rintro e w3 ⟨gw, cw, rfl, o3, hb3⟩
  have B3 : Hid (Below w.heap.size w w3) := chain B2.out hb3
  have OW3 : Hid (Own2 w2.heap.size w3 gw L) := o3
  have OWlt : Hid (∀ c, gw = some ⟨c, 0, none⟩ → c < w3.heap.size ∨ L = []) := own2_lt o3 (Nat.le_refl _)
  clear hb3 o3
  go_wp2_with fail
  (first | go_at_call 9 | skip)
  refine (hT.out w3 ((HR.out.below B3.out).mono B3.out.size)).mono ?_
  rintro e w4 ⟨rfl, hb4, hz4, hi4, hf4⟩
  have B4 : Hid (Below w.heap.size w w4) := chain B3.out hb4
  have OW4 : Hid (Own2 w2.heap.size w4 gw L) := OW3.out.below hb4 (Nat.le_refl _)
  have XR4 : Hid (w3.heap.size < w4.heap.size ∧ PrsAt w4 w3.heap.size 0 rs ∧ FreePr w4 w3.heap.size rs.length) := ⟨hz4, hi4, hf4⟩
  clear hb4 hz4 hi4 hf4
  go_wp2_with fail
  (first | go_at_call 15 | skip)
  refine (hI.out _ _ w4 (.inr ⟨_, _, rfl, XR4.out.1, XR4.out.2.1⟩)).mono ?_
  rintro e w5 ⟨g0, c0, rfl, o5, hb5⟩
  have B5 : Hid (Below w.heap.size w w5) := chain B4.out hb5
  have OW5 : Hid (Own2 w2.heap.size w5 gw L) := OW4.out.below hb5 (Nat.le_refl _)
  have XR5 : Hid (w3.heap.size < w5.heap.size ∧ PrsAt w5 w3.heap.size 0 rs ∧ FreePr w5 w3.heap.size rs.length) := ⟨Nat.lt_of_lt_of_le XR4.out.1 hb5.size, XR4.out.2.1.below hb5 XR4.out.1, XR4.out.2.2.below hb5 XR4.out.1⟩
  have OG5 : Hid (Own2 w4.heap.size w5 g0 L) := o5
  have OGn : Hid (∀ c, g0 = some ⟨c, 0, none⟩ → c ≠ w3.heap.size ∨ L = []) := own2_ge o5 XR4.out.1
  clear hb5 o5
  go_wp2_with fail
  (first | go_at_call 16 | skip)
  refine (StH.eqs_any g0 gw c0 cw L n hn2 (by omega) w5 OG5.out.reads OW5.out.reads).mono ?_
  rintro e w6 ⟨rfl, hb6⟩
  have B6 : Hid (Below w.heap.size w w6) := chain B5.out hb6
  have OW6 : Hid (Own2 w2.heap.size w6 gw L) := OW5.out.below hb6 (Nat.le_refl _)
  have XR6 : Hid (w3.heap.size < w6.heap.size ∧ PrsAt w6 w3.heap.size 0 rs ∧ FreePr w6 w3.heap.size rs.length) := ⟨Nat.lt_of_lt_of_le XR5.out.1 hb6.size, XR5.out.2.1.below hb6 XR5.out.1, XR5.out.2.2.below hb6 XR5.out.1⟩
  have OG6 : Hid (Own2 w4.heap.size w6 g0 L) := OG5.out.below hb6 (Nat.le_refl _)
  clear hb6
  go_wp2_with fail
  (first | go_at_call 9 | skip)
  refine (hT.out w6 ((HR.out.below B6.out).mono B6.out.size)).mono ?_
  rintro e w7 ⟨rfl, hb7, hz7, hi7, hf7⟩
  have B7 : Hid (Below w.heap.size w w7) := chain B6.out hb7
  have OW7 : Hid (Own2 w2.heap.size w7 gw L) := OW6.out.below hb7 (Nat.le_refl _)
  have XR7 : Hid (w3.heap.size < w7.heap.size ∧ PrsAt w7 w3.heap.size 0 rs ∧ FreePr w7 w3.heap.size rs.length) := ⟨Nat.lt_of_lt_of_le XR6.out.1 hb7.size, XR6.out.2.1.below hb7 XR6.out.1, XR6.out.2.2.below hb7 XR6.out.1⟩
  have OG7 : Hid (Own2 w4.heap.size w7 g0 L) := OG6.out.below hb7 (Nat.le_refl _)
  have R7 : Hid (ReadsPr w7.heap.size w7 (some ⟨w6.heap.size, 0, none⟩) rs) := .inr ⟨_, _, rfl, hz7, hi7⟩
  clear hb7 hz7 hi7 hf7
  go_wp2_with fail
  (first | go_at_call 11 | skip)
  refine (eqPrs_any _ _ _ _ rs hlen w7 (.inr ⟨_, _, rfl, XR7.out.1, XR7.out.2.1⟩) R7.out).mono ?_
  rintro e w8 ⟨rfl, hb8⟩
  have B8 : Hid (Below w.heap.size w w8) := chain B7.out hb8
  have OW8 : Hid (Own2 w2.heap.size w8 gw L) := OW7.out.below hb8 (Nat.le_refl _)
  have XR8 : Hid (w3.heap.size < w8.heap.size ∧ PrsAt w8 w3.heap.size 0 rs ∧ FreePr w8 w3.heap.size rs.length) := ⟨Nat.lt_of_lt_of_le XR7.out.1 hb8.size, XR7.out.2.1.below hb8 XR7.out.1, XR7.out.2.2.below hb8 XR7.out.1⟩
  have OG8 : Hid (Own2 w4.heap.size w8 g0 L) := OG7.out.below hb8 (Nat.le_refl _)
  clear hb8
  go_wp2_with fail
  (first | go_at_call 17 | skip)
  refine (markPrs_one w3.heap.size rs.length rs.length hlen w8 (Mk.start XR8.out.1 (prs_some XR8.out.2.1) XR8.out.2.2)).mono ?_
  rintro e w9 ⟨rfl, hm9⟩
  have B9 : Hid (Below w.heap.size w w9) := B8.out.trans (hm9.1.1.mono B3.out.size)
  have OW9 : Hid (Own2 w2.heap.size w9 gw L) := own2_low OW8.out hm9.1.1 OWlt.out
  have OG9 : Hid (Own2 w4.heap.size w9 g0 L) := own2_apart OG8.out hm9.1.2 OGn.out
  clear hm9
  go_wp2_with fail
  (first | go_at_call 16 | skip)
  refine (StH.eqs_any g0 gw c0 cw L n hn2 (by omega) w9 OG9.out.reads OW9.out.reads).mono ?_
  rintro e w10 ⟨rfl, hb10⟩
  have B10 : Hid (Below w.heap.size w w10) := chain B9.out hb10
  have OW10 : Hid (Own2 w2.heap.size w10 gw L) := OW9.out.below hb10 (Nat.le_refl _)
  have OG10 : Hid (Own2 w4.heap.size w10 g0 L) := OG9.out.below hb10 (Nat.le_refl _)
  clear hb10
  go_wp2_with fail
  (first | go_at_call 18 | skip)
  refine (markSts_own w4.heap.size g0 c0 L n hn2 (by omega) 1 (by omega) (by omega) w10 OG10.out).mono ?_
  rintro e w11 ⟨rfl, hb11, hz11, om11⟩
  have B11 : Hid (Below w.heap.size w w11) := B10.out.trans (hb11.mono B4.out.size)
  have OW11 : Hid (Own2 w2.heap.size w11 gw L) := own2_low OW10.out hb11 (fun c h => (OWlt.out c h).imp (fun h => Nat.lt_trans h XR4.out.1) id)
  have OG11 : Hid (Own2 w4.heap.size w11 g0 (marks 1 (n * 2))) := om11
  clear hb11 hz11 om11
  go_wp2_with fail
  (first | go_at_call 19 | skip)
  refine (heldSts_own w4.heap.size g0 c0 n (by omega) 1 (by omega) (by omega) w11 OG11.out).mono ?_
  rintro e w12 ⟨rfl, hw12⟩
  rw [hw12]
  clear hw12 w12
  go_wp2_with fail
  (first | go_at_call 9 | skip)
  refine (hT.out w11 ((HR.out.below B11.out).mono B11.out.size)).mono ?_
  rintro e w12 ⟨rfl, hb12, hz12, hi12, hf12⟩
  have B12 : Hid (Below w.heap.size w w12) := chain B11.out hb12
  have OW12 : Hid (Own2 w2.heap.size w12 gw L) := OW11.out.below hb12 (Nat.le_refl _)
  have OG12 : Hid (Own2 w4.heap.size w12 g0 (marks 1 (n * 2))) := OG11.out.below hb12 (Nat.le_refl _)
  have R12 : Hid (ReadsPr w12.heap.size w12 (some ⟨w11.heap.size, 0, none⟩) rs) := .inr ⟨_, _, rfl, hz12, hi12⟩
  clear hb12 hz12 hi12 hf12
  go_wp2_with fail
  (first | go_at_call 15 | skip)
  refine (hI.out _ _ w12 R12.out).mono ?_
  rintro e w13 ⟨h0, ch, rfl, o13, hb13⟩
  have B13 : Hid (Below w.heap.size w w13) := chain B12.out hb13
  have OW13 : Hid (Own2 w2.heap.size w13 gw L) := OW12.out.below hb13 (Nat.le_refl _)
  have OG13 : Hid (Own2 w4.heap.size w13 g0 (marks 1 (n * 2))) := OG12.out.below hb13 (Nat.le_refl _)
  have OH13 : Hid (Own2 w12.heap.size w13 h0 L) := o13
  clear hb13 o13
  go_wp2_with fail
  (first | go_at_call 16 | skip)
  refine (StH.eqs_any h0 gw ch cw L n hn2 (by omega) w13 OH13.out.reads OW13.out.reads).mono ?_
  rintro e w14 ⟨rfl, hb14⟩
  have B14 : Hid (Below w.heap.size w w14) := chain B13.out hb14
  have OG14 : Hid (Own2 w4.heap.size w14 g0 (marks 1 (n * 2))) := OG13.out.below hb14 (Nat.le_refl _)
  clear hb14
  go_wp2_with fail
  (first | go_at_call 19 | skip)
  refine (heldSts_own w4.heap.size g0 c0 n (by omega) 1 (by omega) (by omega) w14 OG14.out).mono ?_
  rintro e w15 ⟨rfl, hw15⟩
  rw [hw15]
  clear hw15 w15
  go_wp2
  go_ret
  exact ⟨rfl, B14.out⟩

theorem walk (a : Option Addr) (len cap : Nat) (rs : List RPr) (art : ByteArray) (hart : art.size ≤ maxLen) (zn : ByteArray) (hzn : zn.size ≤ maxLen) (fr : Int) (hfr : (Lit.int .i64 fr).wf = true) (to : Int) (hto : (Lit.int .i64 to).wf = true) (w : World) (h : IsPrs w a len cap rs) :
    Calls Try.prog 5 #[.slice a len cap, .string art, .string zn, .int .i64 fr, .int .i64 to] w fun e w' => e = .returned (.bool true) ∧ Below w.heap.size w w' := by
  obtain ⟨rfl, h2, h3, h4, h5⟩ := h
  exact walk' a cap rs (Nat.le_trans h2 h3) h4 art hart zn hzn fr to w h5

theorem own : ownKnob Try.prog.godebug = none := by kernel_rfl
theorem laidOut : laidOutB Try.prog = true := by kernel_rfl

set_option maxRecDepth 100000 in
theorem lifted (os : Os) (started : os.Started) (H : Type) (enc : TypeId × Value → H) :
    ReturnsInHanded {} Try.checked os 5 .any (Rows.fnExactPriceStepsSpec.pre6 enc Try.prog Try.f5 Rows.fnExactPriceStepsRow.domain false) (Rows.fnExactPriceStepsSpec.post enc Try.prog Try.f5 false true false false) := by
  refine returnsInHanded_of_change (C := Try.checked) own started (by kernel_rfl) Try.func5
    (ChangeSpec.witness6 (enc := enc) (C := Try.checked) false ⟨#[], #[.slice none 0 0, .string ByteArray.empty, .string ByteArray.empty, .int .i64 0, .int .i64 0], []⟩ 8 (by kernel_rfl) (by kernel_rfl) (by kernel_rfl) (by kernel_rfl)) ?_
  intro W base args ds gs before hval0 hW hcnd _
  have hval : ∀ (j : Nat) t v, Try.f5.params[j]? = some t → args[j]? = some v → Value.okWide Try.prog W .any base t v := hval0
  have hW' := hW
  obtain ⟨p, q, hA0, hV, rfl, hfz, hnd⟩ := hW
  have hA : DataW.TrodAll enc Try.prog W 0 (fun _ => true) true Try.f5.params.toList args.toList ds p := hA0
  rw [Try.params5] at hA hval
  obtain ⟨v0, vs0, d0, ds0, p0, q0, hargs, rfl, rfl, h0, r0⟩ := trodAll_cons hA
  obtain ⟨v1, vs1, d1, ds1, p1, q1, rfl, rfl, rfl, h1, r1⟩ := trodAll_cons r0
  obtain ⟨v2, vs2, d2, ds2, p2, q2, rfl, rfl, rfl, h2, r2⟩ := trodAll_cons r1
  obtain ⟨v3, vs3, d3, ds3, p3, q3, rfl, rfl, rfl, h3, r3⟩ := trodAll_cons r2
  obtain ⟨v4, vs4, d4, ds4, p4, q4, rfl, rfl, rfl, h4, r4⟩ := trodAll_cons r3
  obtain ⟨rfl, rfl, rfl⟩ := trodAll_nil r4
  obtain rfl : args = #[v0, v1, v2, v3, v4] := by cases args; simp_all
  obtain ⟨rfl, rfl⟩ := trodVars_none hV
  have k0 := h0
  have lt0 : ∀ x ∈ p0, x.block < W.heap.size := by obtain ⟨m, hm⟩ := k0; exact DataW.trod_lt m _ _ _ hm
  have k1 := h1
  have lt1 : ∀ x ∈ p1, x.block < W.heap.size := by obtain ⟨m, hm⟩ := k1; exact DataW.trod_lt m _ _ _ hm
  have k2 := h2
  have lt2 : ∀ x ∈ p2, x.block < W.heap.size := by obtain ⟨m, hm⟩ := k2; exact DataW.trod_lt m _ _ _ hm
  have k3 := h3
  have lt3 : ∀ x ∈ p3, x.block < W.heap.size := by obtain ⟨m, hm⟩ := k3; exact DataW.trod_lt m _ _ _ hm
  have k4 := h4
  have lt4 : ∀ x ∈ p4, x.block < W.heap.size := by obtain ⟨m, hm⟩ := k4; exact DataW.trod_lt m _ _ _ hm
  obtain ⟨a0, len0, cap0, rfl⟩ := okWide_slice Try.underlying22 (hval 0 22 v0 rfl rfl)
  obtain ⟨z0, w0⟩ : ∃ zs, IsPrs W a0 len0 cap0 zs := by
    obtain ⟨fuel, hf⟩ := h0
    exact openPrs (by simpa [Value.cells] using hf)
  obtain ⟨a1, rfl, rfl, rfl, w1⟩ := open_string Try.underlying9 (hval 1 9 v1 rfl rfl) h1
  obtain ⟨a2, rfl, rfl, rfl, w2⟩ := open_string Try.underlying9 (hval 2 9 v2 rfl rfl) h2
  obtain ⟨a3, rfl, rfl, rfl, w3⟩ := open_int Try.underlying3 (hval 3 3 v3 rfl rfl) h3
  obtain ⟨a4, rfl, rfl, rfl, w4⟩ := open_int Try.underlying3 (hval 4 3 v4 rfl rfl) h4
  clear hA0 hval0
  refine (walk a0 len0 cap0 z0 a1 w1 a2 w2 a3 w3 a4 w4 W w0).mono fun e W' ⟨he, bel⟩ => ?_
  subst he
  exact ⟨_, rfl, _, _, _, [], _, [], hW', trodAll_mk1 (shut_bool Try.underlying4 _), (trodAll_cons_mk (Below.trod laidOut (by kernel_rfl) (of_decide_eq_true (by kernel_rfl)) k0 bel lt0) (trodAll_cons_mk (Below.trod laidOut (by kernel_rfl) (of_decide_eq_true (by kernel_rfl)) k1 bel lt1) (trodAll_cons_mk (Below.trod laidOut (by kernel_rfl) (of_decide_eq_true (by kernel_rfl)) k2 bel lt2) (trodAll_cons_mk (Below.trod laidOut (by kernel_rfl) (of_decide_eq_true (by kernel_rfl)) k3 bel lt3) (trodAll_cons_mk (Below.trod laidOut (by kernel_rfl) (of_decide_eq_true (by kernel_rfl)) k4 bel lt4) trodAll_mk0))))), rfl, bel.frame _, fun h => by cases h⟩

theorem over : Rows.fnExactPriceStepsRow.holds Try.pinned (OpenSpec.ofChange Rows.fnExactPriceStepsSpec) :=
  OpenClaim.holds_of_wide 5 Try.f5 rfl rfl rfl rfl rfl rfl rfl ⟨rfl, rfl, rfl, rfl, rfl⟩ rfl rfl rfl rfl rfl (by kernel_rfl) Try.func5 (by kernel_rfl)
    (of_decide_eq_true (by kernel_rfl)) (by unfold Func.isWrapper; first | (rw [if_pos (by decide +kernel)]; kernel_rfl) | (rw [if_neg (by decide +kernel)]; exact ⟨rfl, rfl⟩))
    (fun os started H enc _ => lifted os started H enc)
end PriceStepsLaw

theorem fnExactPriceSteps_holds : Rows.FnExactPriceStepsSaid := PriceStepsLaw.over
end Go.Proofs.Ytbkaikobjkkgkaa

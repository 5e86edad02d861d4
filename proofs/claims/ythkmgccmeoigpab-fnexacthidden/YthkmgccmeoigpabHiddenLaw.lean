/-
  For every list of rules the law FnExactHidden answers true: the program's Hidden answers as the specification's, writes into no argument, and its answer owns its memory; with no condition.
-/
import Derived.Test.YthkmgccmeoigpabRhF
import Derived.Test.YthkmgccmeoigpabRhG
import Derived.Test.YthkmgccmeoigpabClM
import Derived.Test.YthkmgccmeoigpabClF
import Derived.Test.YthkmgccmeoigpabClO
import Derived.Test.YthkmgccmeoigpabOwn2
namespace Go.Proofs.Ythkmgccmeoigpab
open Go.ChangeShapes Go.WideShapes Go.ChangeAt Go.RowKit Go.Joins
set_option linter.unusedVariables false

namespace HiddenLaw
theorem totCl_next (cs : List CCl) (k : Nat) (h : k < cs.length) : totCl (cs.take (k + 1)) = totCl (cs.take k) + (cs.getD k zCl).ts.length := by
  have e : cs.getD k zCl = cs[k] := by simp [List.getD_eq_getElem?_getD, h]
  unfold totCl
  rw [List.take_succ_eq_append_getElem h, List.map_append, List.sum_append, e]
  simp
theorem kAtC_take (k0 : Nat) (cs : List CCl) : ∀ k, k ≤ cs.length → kAtC k0 (fun i => (cs.getD i zCl).ts.length) k = k0 + 3 * k + 3 * totCl (cs.take k) := fun k hk => by
  induction k with
  | zero => simp [kAtC, totCl]
  | succ k ih =>
    have h1 := ih (by omega)
    have h2 := totCl_next cs k hk
    show kAtC k0 (fun i => (cs.getD i zCl).ts.length) k + 3 + (cs.getD k zCl).ts.length * 3 = _
    omega
theorem kAtC_all (k0 : Nat) (cs : List CCl) : kAtC k0 (fun i => (cs.getD i zCl).ts.length) cs.length = k0 + 3 * cs.length + 3 * totCl cs := by
  have := kAtC_take k0 cs cs.length (Nat.le_refl _)
  rwa [List.take_length] at this
theorem ts_le (cs : List CCl) (h : totCl cs ≤ 1048576) (i : Nat) (hi : i < cs.length) : (cs.getD i zCl).ts.length ≤ 1048576 := by
  have h1 := totCl_next cs i hi
  have h2 : totCl (cs.take (i + 1)) ≤ totCl cs := by
    unfold totCl
    conv => rhs; rw [← List.take_append_drop (i + 1) cs]
    rw [List.map_append, List.sum_append]
    omega
  omega
theorem own2_span {B lo hi : Nat} {w w' : World} {g : Option Addr} {L : List Int} (h : Own2 B w g L) (hs : Span lo hi w w') (hB : hi ≤ B) : Own2 B w' g L := by
  rcases h with h | ⟨b, hg, h1, h2, h3, h4⟩
  · exact .inl h
  · exact .inr ⟨b, hg, h1, Nat.lt_of_lt_of_le h2 hs.1.size, fun i hi => (hs.above (by omega) h2 _).1.trans (h3 i hi), fun i hi => (hs.above (by omega) h2 _).2.trans (h4 i hi)⟩
set_option maxHeartbeats 8000000 in
theorem walk' (a : Option Addr) (cap : Nat) (rs : List CCl) (hl : rs.length ≤ maxLen) (hp : ∀ r ∈ rs, ClWide r) (w : World) (hr : ReadsCl w.heap.size w a rs) :
    Calls Try.prog 3 #[.slice a rs.length cap] w fun e w' => e = .returned (.bool true) ∧ Below w.heap.size w w' := by
  have HR : Hid (ReadsCl w.heap.size w a rs) := hr
  have HZ : Hid (∀ w, ReadsCl w.heap.size w a rs → Calls Try.prog 4 #[.slice a rs.length cap, .int .i64 1048576] w (SzCls rs w)) := fun w h => szCls_any a cap rs hl hp 1048576 (by omega) (by omega) w h
  clear hr hp
  go_enter Try.func3, Try.ntmps3
  go_wp2_with (go_at_call 4; refine (HZ.out _ HR.out).mono ?_; rintro e w1 ⟨x, rfl, hx, hb1⟩; have HX : Hid (x < 0 ∨ (0 ≤ x ∧ x ≤ 1048576 ∧ rs.length ≤ 1048576 ∧ totCl rs ≤ 1048576 ∧ ∀ r ∈ rs, ClOK r)) := hx; have B1 : Hid (Below w.heap.size w w1) := hb1; clear hx hb1)
  · go_ret
    exact ⟨rfl, B1.out⟩
  rcases HX.out with h | ⟨h, _, hlen, htot, hok⟩
  · omega
  have HOK : Hid (∀ r ∈ rs, ClOK r) := hok
  have hS : Hid (∀ a c w, rs.length ≤ c → ReadsCl w.heap.size w a rs → Calls Try.prog 5 #[.slice a rs.length c] w fun e w' => ∃ g cp, e = .returned (.tuple #[.slice g (hidL rs).length cp, .int .i64 (fltC rs)]) ∧ Own2 w.heap.size w' g (hidL rs) ∧ Below w.heap.size w w') := fun a c w hc h => specHidden_any a c rs hc hlen HOK.out w h
  have hI : Hid (∀ a c w, ReadsCl w.heap.size w a rs → Calls Try.prog 7 #[.slice a rs.length c] w fun e w' => ∃ g cp, e = .returned (.tuple #[.slice g (hidL rs).length cp, .int .i64 (fltC rs)]) ∧ Own2 w.heap.size w' g (hidL rs) ∧ Below w.heap.size w w') := fun a c w h => implHidden_any a c rs hlen HOK.out w h
  have hT : Hid (∀ w, ReadsCl w.heap.size w a rs → Calls Try.prog 6 #[.slice a rs.length cap] w fun e w' => ∃ g, e = .returned (.slice (some ⟨g, 0, none⟩) rs.length rs.length) ∧ Below w.heap.size w w' ∧ OwnCl w.heap.size w' g rs) := fun w h => (toCls_any a cap rs hlen HOK.out w h).mono fun e w' ⟨h1, h2, h3⟩ => ⟨_, h1, h2, h3⟩
  have hMk : Hid (∀ lo hi g w, ClMk lo hi w g rs.length (fun i => (rs.getD i zCl).ts.length) → Calls Try.prog 10 #[.slice (some ⟨g, 0, none⟩) rs.length rs.length, .int .i64 1] w fun e w' => ∃ K : Int, 0 ≤ K ∧ e = .returned (.int .i64 K) ∧ Span lo hi w w') := fun lo hi g w h => (markCls_any lo hi g rs.length rs.length (fun i => (rs.getD i zCl).ts.length) hlen (fun i hi => ts_le rs htot i hi) 1 (by omega) (by rw [kAtC_all]; omega) w h).mono fun e w' ⟨h1, h2⟩ => ⟨_, Int.natCast_nonneg _, h1, h2⟩
  have hle := hidL_len rs
  generalize hidL rs = L at *
  generalize fltC rs = c at *
  have hd1 : (c != c) = false := by simp
  clear hok HX HZ
  go_wp2_with fail
  (first | go_at_call 6 | skip)
  refine (hT.out w1 (HR.out.later B1.out)).mono ?_
  rintro e w2 ⟨g2, rfl, hb2, ho2⟩
  have B2 : Hid (Below w.heap.size w w2) := chain B1.out hb2
  have X2 : Hid (OwnCl w1.heap.size w2 g2 rs) := ho2
  clear hb2 ho2
  go_wp2_with fail
  (first | go_at_call 5 | skip)
  refine (hS.out _ _ w2 (Nat.le_refl _) X2.out.reads).mono ?_
  rintro e w3 ⟨gw, cw, rfl, o3, hb3⟩
  have B3 : Hid (Below w.heap.size w w3) := chain B2.out hb3
  have OW3 : Hid (Own2 w2.heap.size w3 gw L) := o3
  clear hb3 o3 X2
  go_wp2_with fail
  (first | go_at_call 6 | skip)
  refine (hT.out w3 (HR.out.later B3.out)).mono ?_
  rintro e w4 ⟨g4, rfl, hb4, ho4⟩
  have B4 : Hid (Below w.heap.size w w4) := chain B3.out hb4
  have X4 : Hid (OwnCl w3.heap.size w4 g4 rs) := ho4
  have OW4 : Hid (Own2 w2.heap.size w4 gw L) := OW3.out.below hb4 (Nat.le_refl _)
  have OWlt : Hid (∀ c, gw = some ⟨c, 0, none⟩ → c < w3.heap.size ∨ L = []) := own2_lt OW3.out (Nat.le_refl _)
  have Z34 : Hid (w3.heap.size ≤ w4.heap.size) := hb4.size
  clear hb4 ho4
  go_wp2_with fail
  (first | go_at_call 7 | skip)
  refine (hI.out _ _ w4 X4.out.reads).mono ?_
  rintro e w5 ⟨g0, c0, rfl, o5, hb5⟩
  have B5 : Hid (Below w.heap.size w w5) := chain B4.out hb5
  have OW5 : Hid (Own2 w2.heap.size w5 gw L) := OW4.out.below hb5 (Nat.le_refl _)
  have OG5 : Hid (Own2 w4.heap.size w5 g0 L) := o5
  have X5 : Hid (OwnCl w3.heap.size w5 g4 rs) := X4.out.below hb5 (Nat.le_refl _)
  have Y5 : Hid (ClMk w3.heap.size w4.heap.size w5 g4 rs.length (fun i => (rs.getD i zCl).ts.length)) := X4.out.mk.later hb5
  clear hb5 o5
  go_wp2_with fail
  (first | go_at_call 8 | skip)
  refine (eqInts_any w5.heap.size g0 gw c0 cw L L (by omega) (by omega) w5 OG5.out.reads OW5.out.reads).mono ?_
  rintro e w6 ⟨rfl, hb6⟩
  rw [decide_eq_true (rfl : L = L)]
  have B6 : Hid (Below w.heap.size w w6) := chain B5.out hb6
  have OW6 : Hid (Own2 w2.heap.size w6 gw L) := OW5.out.below hb6 (Nat.le_refl _)
  have OG6 : Hid (Own2 w4.heap.size w6 g0 L) := OG5.out.below hb6 (Nat.le_refl _)
  have X6 : Hid (OwnCl w3.heap.size w6 g4 rs) := X5.out.below hb6 (Nat.le_refl _)
  have Y6 : Hid (ClMk w3.heap.size w4.heap.size w6 g4 rs.length (fun i => (rs.getD i zCl).ts.length)) := Y5.out.later hb6
  clear hb6
  go_wp2_with fail
  (first | go_at_call 6 | skip)
  refine (hT.out w6 (HR.out.later B6.out)).mono ?_
  rintro e w7 ⟨g7, rfl, hb7, ho7⟩
  have B7 : Hid (Below w.heap.size w w7) := chain B6.out hb7
  have OW7 : Hid (Own2 w2.heap.size w7 gw L) := OW6.out.below hb7 (Nat.le_refl _)
  have OG7 : Hid (Own2 w4.heap.size w7 g0 L) := OG6.out.below hb7 (Nat.le_refl _)
  have X7 : Hid (OwnCl w3.heap.size w7 g4 rs) := X6.out.below hb7 (Nat.le_refl _)
  have Y7 : Hid (ClMk w3.heap.size w4.heap.size w7 g4 rs.length (fun i => (rs.getD i zCl).ts.length)) := Y6.out.later hb7
  have V7 : Hid (OwnCl w6.heap.size w7 g7 rs) := ho7
  clear hb7 ho7
  go_wp2_with fail
  (first | go_at_call 9 | skip)
  refine (eqCls_any _ _ _ _ rs hlen HOK.out w7 X7.out.reads V7.out.reads).mono ?_
  rintro e w8 ⟨rfl, hb8⟩
  have B8 : Hid (Below w.heap.size w w8) := chain B7.out hb8
  have OW8 : Hid (Own2 w2.heap.size w8 gw L) := OW7.out.below hb8 (Nat.le_refl _)
  have OG8 : Hid (Own2 w4.heap.size w8 g0 L) := OG7.out.below hb8 (Nat.le_refl _)
  have Y8 : Hid (ClMk w3.heap.size w4.heap.size w8 g4 rs.length (fun i => (rs.getD i zCl).ts.length)) := Y7.out.later hb8
  clear hb8 X4 X5 X6 X7 Y5 Y6 Y7 V7
  go_wp2_with fail
  (first | go_at_call 10 | skip)
  refine (hMk.out _ _ g4 w8 Y8.out).mono ?_
  rintro e w9 ⟨K, hK0, rfl, hs9⟩
  have B9 : Hid (Below w.heap.size w w9) := B8.out.trans (hs9.1.mono B3.out.size)
  have OW9 : Hid (Own2 w2.heap.size w9 gw L) := own2_low OW8.out hs9.1 OWlt.out
  have OG9 : Hid (Own2 w4.heap.size w9 g0 L) := own2_span OG8.out hs9 (Nat.le_refl _)
  have hK1 : decide (K < 0) = false := decide_eq_false (by omega)
  clear hs9 Y8 hMk
  go_wp2_with fail
  (first | go_at_call 8 | skip)
  refine (eqInts_any w9.heap.size g0 gw c0 cw L L (by omega) (by omega) w9 OG9.out.reads OW9.out.reads).mono ?_
  rintro e w10 ⟨rfl, hb10⟩
  rw [decide_eq_true (rfl : L = L)]
  have B10 : Hid (Below w.heap.size w w10) := chain B9.out hb10
  have OW10 : Hid (Own2 w2.heap.size w10 gw L) := OW9.out.below hb10 (Nat.le_refl _)
  have OG10 : Hid (Own2 w4.heap.size w10 g0 L) := OG9.out.below hb10 (Nat.le_refl _)
  clear hb10
  go_wp2_with fail
  (first | go_at_call 11 | skip)
  refine (mark_own w4.heap.size g0 c0 L (by omega) 1 (by omega) (by omega) w10 OG10.out).mono ?_
  rintro e w11 ⟨rfl, hb11, hz11, om11⟩
  have B11 : Hid (Below w.heap.size w w11) := B10.out.trans (hb11.mono B4.out.size)
  have OW11 : Hid (Own2 w2.heap.size w11 gw L) := own2_low OW10.out hb11 (fun c hc => (OWlt.out c hc).imp (fun h => Nat.lt_of_lt_of_le h Z34.out) id)
  have OG11 : Hid (Own2 w4.heap.size w11 g0 (marks 1 L.length)) := om11
  clear hb11 hz11 om11
  go_wp2_with fail
  (first | go_at_call 12 | skip)
  refine (held_own w4.heap.size g0 c0 L.length (by omega) 1 (by omega) (by omega) w11 OG11.out).mono ?_
  rintro e w11' ⟨rfl, rfl⟩
  go_wp2_with fail
  (first | go_at_call 6 | skip)
  refine (hT.out _ (HR.out.later B11.out)).mono ?_
  rintro e w12 ⟨g12, rfl, hb12, ho12⟩
  have B12 : Hid (Below w.heap.size w w12) := chain B11.out hb12
  have OW12 : Hid (Own2 w2.heap.size w12 gw L) := OW11.out.below hb12 (Nat.le_refl _)
  have OG12 : Hid (Own2 w4.heap.size w12 g0 (marks 1 L.length)) := OG11.out.below hb12 (Nat.le_refl _)
  have X12 : Hid (OwnCl _ w12 g12 rs) := ho12
  clear hb12 ho12
  go_wp2_with fail
  (first | go_at_call 7 | skip)
  refine (hI.out _ _ w12 X12.out.reads).mono ?_
  rintro e w13 ⟨h0, ch, rfl, o13, hb13⟩
  have B13 : Hid (Below w.heap.size w w13) := chain B12.out hb13
  have OW13 : Hid (Own2 w2.heap.size w13 gw L) := OW12.out.below hb13 (Nat.le_refl _)
  have OG13 : Hid (Own2 w4.heap.size w13 g0 (marks 1 L.length)) := OG12.out.below hb13 (Nat.le_refl _)
  have OH13 : Hid (Own2 w12.heap.size w13 h0 L) := o13
  clear hb13 o13
  go_wp2_with fail
  (first | go_at_call 8 | skip)
  refine (eqInts_any w13.heap.size h0 gw ch cw L L (by omega) (by omega) w13 OH13.out.reads OW13.out.reads).mono ?_
  rintro e w14 ⟨rfl, hb14⟩
  rw [decide_eq_true (rfl : L = L)]
  have B14 : Hid (Below w.heap.size w w14) := chain B13.out hb14
  have OG14 : Hid (Own2 w4.heap.size w14 g0 (marks 1 L.length)) := OG13.out.below hb14 (Nat.le_refl _)
  clear hb14
  go_wp2_with fail
  (first | go_at_call 12 | skip)
  refine (held_own w4.heap.size g0 c0 L.length (by omega) 1 (by omega) (by omega) w14 OG14.out).mono ?_
  rintro e w14' ⟨rfl, rfl⟩
  go_wp2
  go_ret
  exact ⟨rfl, B14.out⟩

theorem walk (a : Option Addr) (len cap : Nat) (rs : List CCl) (w : World) (h : IsCls w a len cap rs) :
    Calls Try.prog 3 #[.slice a len cap] w fun e w' => e = .returned (.bool true) ∧ Below w.heap.size w w' := by
  obtain ⟨rfl, h2, h3, h4, h5⟩ := h
  exact walk' a cap rs (Nat.le_trans h2 h3) h4 w h5

theorem own : ownKnob Try.prog.godebug = none := by kernel_rfl
theorem laidOut : laidOutB Try.prog = true := by kernel_rfl

set_option maxRecDepth 100000 in
theorem lifted (os : Os) (started : os.Started) (H : Type) (enc : TypeId × Value → H) :
    ReturnsInHanded {} Try.checked os 3 .any (Rows.fnExactHiddenSpec.pre6 enc Try.prog Try.f3 Rows.fnExactHiddenRow.domain false) (Rows.fnExactHiddenSpec.post enc Try.prog Try.f3 false true false false) := by
  refine returnsInHanded_of_change (C := Try.checked) own started (by kernel_rfl) Try.func3
    (ChangeSpec.witness6 (enc := enc) (C := Try.checked) false ⟨#[], #[.slice none 0 0], []⟩ 8 (by kernel_rfl) (by kernel_rfl) (by kernel_rfl) (by kernel_rfl)) ?_
  intro W base args ds gs before hval0 hW hcnd _
  have hval : ∀ (j : Nat) t v, Try.f3.params[j]? = some t → args[j]? = some v → Value.okWide Try.prog W .any base t v := hval0
  have hW' := hW
  obtain ⟨p, q, hA0, hV, rfl, hfz, hnd⟩ := hW
  have hA : DataW.TrodAll enc Try.prog W 0 (fun _ => true) true Try.f3.params.toList args.toList ds p := hA0
  rw [Try.params3] at hA hval
  obtain ⟨v0, vs0, d0, ds0, p0, q0, hargs, rfl, rfl, h0, r0⟩ := trodAll_cons hA
  obtain ⟨rfl, rfl, rfl⟩ := trodAll_nil r0
  obtain rfl : args = #[v0] := by cases args; simp_all
  obtain ⟨rfl, rfl⟩ := trodVars_none hV
  have k0 := h0
  have lt0 : ∀ x ∈ p0, x.block < W.heap.size := by obtain ⟨m, hm⟩ := k0; exact DataW.trod_lt m _ _ _ hm
  obtain ⟨a0, len0, cap0, rfl⟩ := okWide_slice Try.underlying22 (hval 0 22 v0 rfl rfl)
  obtain ⟨z0, w0⟩ : ∃ zs, IsCls W a0 len0 cap0 zs := by
    obtain ⟨fuel, hf⟩ := h0
    exact openCls (by simpa [Value.cells] using hf)
  clear hA0 hval0
  refine (walk a0 len0 cap0 z0 W w0).mono fun e W' ⟨he, bel⟩ => ?_
  subst he
  exact ⟨_, rfl, _, _, _, [], _, [], hW', trodAll_mk1 (shut_bool Try.underlying4 _), (trodAll_cons_mk (Below.trod laidOut (by kernel_rfl) (of_decide_eq_true (by kernel_rfl)) k0 bel lt0) trodAll_mk0), rfl, bel.frame _, fun h => by cases h⟩

theorem over : Rows.fnExactHiddenRow.holds Try.pinned (OpenSpec.ofChange Rows.fnExactHiddenSpec) :=
  OpenClaim.holds_of_wide 3 Try.f3 rfl rfl rfl rfl rfl rfl rfl ⟨rfl, rfl, rfl, rfl, rfl⟩ rfl rfl rfl rfl rfl (by kernel_rfl) Try.func3 (by kernel_rfl)
    (of_decide_eq_true (by kernel_rfl)) (by unfold Func.isWrapper; first | (rw [if_pos (by decide +kernel)]; kernel_rfl) | (rw [if_neg (by decide +kernel)]; exact ⟨rfl, rfl⟩))
    (fun os started H enc _ => lifted os started H enc)
end HiddenLaw

theorem fnExactHidden_holds : Rows.FnExactHiddenSaid := HiddenLaw.over
end Go.Proofs.Ythkmgccmeoigpab

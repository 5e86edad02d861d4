/-
  For every list of packs the law FnExactPackUnits answers true: the program's PackUnits answers as the specification's, writes into no argument, and its answer owns its memory; with no condition.
-/
import Derived.Test.YtaledfdhiimhdajPackH
namespace Go.Proofs.Ytaledfdhiimhdaj
open Go.ChangeShapes Go.WideShapes Go.ChangeAt Go.RowKit Go.Joins
set_option linter.unusedVariables false

namespace PackLaw
set_option maxHeartbeats 8000000 in
theorem walk' (a : Option Addr) (cap : Nat) (ps : List Pk) (hcap : ps.length ≤ cap) (hl : ps.length ≤ maxLen) (hp : ∀ p ∈ ps, PkWide p) (w : World) (hr : ReadsP w.heap.size w a ps) :
    Calls Try.prog 3 #[.slice a ps.length cap] w fun e w' => e = .returned (.bool true) ∧ Below w.heap.size w w' := by
  have HR : Hid (ReadsP w.heap.size w a ps) := hr
  have HZ : Hid (∀ w, ReadsP w.heap.size w a ps → Calls Try.prog 8 #[.slice a ps.length cap, .int .i64 1048576] w (SzPost ps w)) := fun w h => szPacks_any a cap ps hl hp w h
  clear hr hp
  go_enter Try.func3, Try.ntmps3
  go_wp2_with (go_at_call 8; refine (HZ.out _ HR.out).mono ?_; rintro e w1 ⟨x, rfl, hx, hb1⟩; have HX : Hid (x < 0 ∨ (0 ≤ x ∧ ps.length ≤ 1048576 ∧ ∀ p ∈ ps, PkOK p)) := hx; have B1 : Hid (Below w.heap.size w w1) := hb1; clear hx hb1)
  · go_ret
    exact ⟨rfl, B1.out⟩
  · rcases HX.out with h | ⟨h, hlen, hok⟩
    · omega
    have HOK : Hid (∀ p ∈ ps, PkOK p) := hok
    have hS := fun a c w (hc : ps.length ≤ c) h => (specPack_any a c ps (by omega) hc HOK.out w.heap.size w rfl h).mono (fun e w' hp => PackPost.elim hp)
    have hI := fun a c w (hc : ps.length ≤ c) h => (implPack_any a c ps (by omega) hc HOK.out w.heap.size w rfl h).mono (fun e w' hp => PackPost.elim hp)
    have hT := fun w h => toPacks_any a cap ps hlen w h
    have hLl := pkAll_len ps
    obtain ⟨L, c, s, hA⟩ : ∃ L c s, pkAll ps = (L, c, s) := ⟨_, _, _, rfl⟩
    rw [hA] at hS hI hLl
    simp only [] at hS hI hLl
    clear hA hok HX
    refine (hT w1 ((HR.out.below B1.out).mono B1.out.size)).mono ?_
    rintro e w2 ⟨rfl, hb2, hz2, hi2, hf2⟩
    have B2 : Hid (Below w.heap.size w w2) := chain B1.out hb2
    have X2 : Hid (w1.heap.size < w2.heap.size ∧ PacksAt w2 w1.heap.size 0 ps) := ⟨hz2, hi2⟩
    clear hb2 hz2 hi2 hf2
    go_wp2_with (first
      | (go_at_call 16; have G15 := OG15; refine (held_own w4.heap.size g0 c0 L.length (by omega) 1 (by omega) (by omega) w15 OG15.out).mono ?_; rintro e w16 ⟨rfl, rfl⟩)
      | (go_at_call 12; have G14 := OH14; refine (eqInts_any w14.heap.size h0 gw ch cw L L (by omega) (by omega) w14 OH14.out.reads OW14.out.reads).mono ?_; rintro e w15 ⟨rfl, hb15⟩; rw [decide_eq_true (rfl : L = L)]; have B15 : Hid (Below w.heap.size w w15) := chain B14.out hb15; have OG15 : Hid (Own2 w4.heap.size w15 g0 (marks 1 L.length)) := OG14.out.below hb15 (Nat.le_refl _); clear hb15)
      | (go_at_call 11; have G13 := OG13; refine (hI _ _ w13 (Nat.le_refl _) R13.out).mono ?_; rintro e w14 ⟨h0, ch, rfl, o14, hb14⟩; have B14 : Hid (Below w.heap.size w w14) := chain B13.out hb14; have OW14 : Hid (Own2 w2.heap.size w14 gw L) := OW13.out.below hb14 (Nat.le_refl _); have OG14 : Hid (Own2 w4.heap.size w14 g0 (marks 1 L.length)) := OG13.out.below hb14 (Nat.le_refl _); have OH14 : Hid (Own2 w13.heap.size w14 h0 L) := o14; clear hb14 o14)
      | (go_at_call 10; have G12 := OG12; refine (hT w12 ((HR.out.below B11.out).mono B11.out.size)).mono ?_; rintro e w13 ⟨rfl, hb13, hz13, hi13, hf13⟩; have B13 : Hid (Below w.heap.size w w13) := chain B11.out hb13; have OW13 : Hid (Own2 w2.heap.size w13 gw L) := OW11.out.below hb13 (Nat.le_refl _); have OG13 : Hid (Own2 w4.heap.size w13 g0 (marks 1 L.length)) := OG12.out.below hb13 (Nat.le_refl _); have R13 : Hid (ReadsP w13.heap.size w13 (some ⟨w12.heap.size, 0, none⟩) ps) := .inr ⟨_, _, rfl, hz13, hi13⟩; clear hb13 hz13 hi13 hf13)
      | (go_at_call 16; have G11 := OG11; refine (held_own w4.heap.size g0 c0 L.length (by omega) 1 (by omega) (by omega) w11 OG11.out).mono ?_; rintro e w12 ⟨rfl, rfl⟩; have OG12 : Hid (Own2 w4.heap.size w12 g0 (marks 1 L.length)) := OG11.out)
      | (go_at_call 15; have G10 := OG10; refine (mark_own w4.heap.size g0 c0 L (by omega) 1 (by omega) (by omega) w10 OG10.out).mono ?_; rintro e w11 ⟨rfl, hb11, hz11, om11⟩; have B11 : Hid (Below w.heap.size w w11) := B10.out.trans (hb11.mono B4.out.size); have OW11 : Hid (Own2 w2.heap.size w11 gw L) := own2_low OW10.out hb11 (fun c h => (OWlt.out c h).imp (fun h => Nat.lt_trans h Z5.out.1) id); have OG11 : Hid (Own2 w4.heap.size w11 g0 (marks 1 L.length)) := om11; clear hb11 hz11 om11)
      | (go_at_call 12; have G9 := OG9; refine (eqInts_any w9.heap.size g0 gw c0 cw L L (by omega) (by omega) w9 OG9.out.reads OW9.out.reads).mono ?_; rintro e w10 ⟨rfl, hb10⟩; rw [decide_eq_true (rfl : L = L)]; have B10 : Hid (Below w.heap.size w w10) := chain B9.out hb10; have OW10 : Hid (Own2 w2.heap.size w10 gw L) := OW9.out.below hb10 (Nat.le_refl _); have OG10 : Hid (Own2 w4.heap.size w10 g0 L) := OG9.out.below hb10 (Nat.le_refl _); clear hb10)
      | (go_at_call 14; have G8 := OG8; refine (markPacks_any w3.heap.size ps.length ps.length hlen w8 (Mk.start (by have := Z8.out; omega) (packs_some X8.out.1) X8.out.2)).mono ?_; rintro e w9 ⟨rfl, hm9⟩; have B9 : Hid (Below w.heap.size w w9) := B8.out.trans (hm9.1.1.mono B3.out.size); have OW9 : Hid (Own2 w2.heap.size w9 gw L) := own2_low OW8.out hm9.1.1 OWlt.out; have OG9 : Hid (Own2 w4.heap.size w9 g0 L) := own2_apart OG8.out hm9.1.2 OGne.out; clear hm9)
      | (go_at_call 13; have G7 := OG7; refine (eqPacks_any _ _ _ _ ps hlen w7 (.inr ⟨_, _, rfl, by have := Z7.out; omega, X7.out.1⟩) R7.out).mono ?_; rintro e w8 ⟨rfl, hb8⟩; have B8 : Hid (Below w.heap.size w w8) := chain B7.out hb8; have OW8 : Hid (Own2 w2.heap.size w8 gw L) := OW7.out.below hb8 (Nat.le_refl _); have OG8 : Hid (Own2 w4.heap.size w8 g0 L) := OG7.out.below hb8 (Nat.le_refl _); have X8 : Hid (PacksAt w8 w3.heap.size 0 ps ∧ FreeP w8 w3.heap.size ps.length) := ⟨X7.out.1.below hb8 (by have := Z7.out; omega), X7.out.2.below hb8 (by have := Z7.out; omega)⟩; have Z8 : Hid (w3.heap.size < w4.heap.size ∧ w4.heap.size ≤ w8.heap.size) := ⟨Z7.out.1, Nat.le_trans Z7.out.2 hb8.size⟩; clear hb8)
      | (go_at_call 10; have G6 := OG6; refine (hT w6 ((HR.out.below B6.out).mono B6.out.size)).mono ?_; rintro e w7 ⟨rfl, hb7, hz7, hi7, hf7⟩; have B7 : Hid (Below w.heap.size w w7) := chain B6.out hb7; have OW7 : Hid (Own2 w2.heap.size w7 gw L) := OW6.out.below hb7 (Nat.le_refl _); have OG7 : Hid (Own2 w4.heap.size w7 g0 L) := OG6.out.below hb7 (Nat.le_refl _); have X7 : Hid (PacksAt w7 w3.heap.size 0 ps ∧ FreeP w7 w3.heap.size ps.length) := ⟨X6.out.1.below hb7 (by have := Z6.out; omega), X6.out.2.below hb7 (by have := Z6.out; omega)⟩; have Z7 : Hid (w3.heap.size < w4.heap.size ∧ w4.heap.size ≤ w7.heap.size) := ⟨Z6.out.1, Nat.le_trans Z6.out.2 hb7.size⟩; have R7 : Hid (ReadsP w7.heap.size w7 (some ⟨w6.heap.size, 0, none⟩) ps) := .inr ⟨_, _, rfl, hz7, hi7⟩; clear hb7 hz7 hi7 hf7)
      | (go_at_call 12; have G5 := OG5; refine (eqInts_any w5.heap.size g0 gw c0 cw L L (by omega) (by omega) w5 OG5.out.reads OW5.out.reads).mono ?_; rintro e w6 ⟨rfl, hb6⟩; rw [decide_eq_true (rfl : L = L)]; have B6 : Hid (Below w.heap.size w w6) := chain B5.out hb6; have OW6 : Hid (Own2 w2.heap.size w6 gw L) := OW5.out.below hb6 (Nat.le_refl _); have OG6 : Hid (Own2 w4.heap.size w6 g0 L) := OG5.out.below hb6 (Nat.le_refl _); have X6 : Hid (PacksAt w6 w3.heap.size 0 ps ∧ FreeP w6 w3.heap.size ps.length) := ⟨X5.out.1.below hb6 (by have := Z5.out; omega), X5.out.2.below hb6 (by have := Z5.out; omega)⟩; have Z6 : Hid (w3.heap.size < w4.heap.size ∧ w4.heap.size ≤ w6.heap.size) := ⟨Z5.out.1, Nat.le_trans Z5.out.2 hb6.size⟩; clear hb6)
      | (go_at_call 11; have G4 := X4; refine (hI _ _ w4 (Nat.le_refl _) (.inr ⟨_, _, rfl, X4.out.1, X4.out.2.1⟩)).mono ?_; rintro e w5 ⟨g0, c0, rfl, o5, hb5⟩; have B5 : Hid (Below w.heap.size w w5) := chain B4.out hb5; have OW5 : Hid (Own2 w2.heap.size w5 gw L) := OW4.out.below hb5 (Nat.le_refl _); have OG5 : Hid (Own2 w4.heap.size w5 g0 L) := o5; have X5 : Hid (PacksAt w5 w3.heap.size 0 ps ∧ FreeP w5 w3.heap.size ps.length) := ⟨X4.out.2.1.below hb5 X4.out.1, X4.out.2.2.below hb5 X4.out.1⟩; have Z5 : Hid (w3.heap.size < w4.heap.size ∧ w4.heap.size ≤ w5.heap.size) := ⟨X4.out.1, hb5.size⟩; have OGne : Hid (∀ c, g0 = some ⟨c, 0, none⟩ → c ≠ w3.heap.size ∨ L = []) := own2_ge o5 X4.out.1; clear hb5 o5)
      | (go_at_call 10; have G3 := OW3; refine (hT w3 ((HR.out.below B3.out).mono B3.out.size)).mono ?_; rintro e w4 ⟨rfl, hb4, hz4, hi4, hf4⟩; have B4 : Hid (Below w.heap.size w w4) := chain B3.out hb4; have OW4 : Hid (Own2 w2.heap.size w4 gw L) := OW3.out.below hb4 (Nat.le_refl _); have X4 : Hid (w3.heap.size < w4.heap.size ∧ PacksAt w4 w3.heap.size 0 ps ∧ FreeP w4 w3.heap.size ps.length) := ⟨hz4, hi4, hf4⟩; have OWlt : Hid (∀ c, gw = some ⟨c, 0, none⟩ → c < w3.heap.size ∨ L = []) := own2_lt OW3.out (Nat.le_refl _); clear hb4 hz4 hi4 hf4)
      | (go_at_call 9; refine (hS _ _ w2 (Nat.le_refl _) (.inr ⟨_, _, rfl, X2.out.1, X2.out.2⟩)).mono ?_; rintro e w3 ⟨gw, cw, rfl, o3, hb3⟩; have B3 : Hid (Below w.heap.size w w3) := chain B2.out hb3; have OW3 : Hid (Own2 w2.heap.size w3 gw L) := o3; clear hb3 o3))
    go_ret
    exact ⟨rfl, B15.out⟩

theorem walk (a : Option Addr) (len cap : Nat) (ps : List Pk) (w : World) (h : IsPacks w a len cap ps) :
    Calls Try.prog 3 #[.slice a len cap] w fun e w' => e = .returned (.bool true) ∧ Below w.heap.size w w' := by
  obtain ⟨rfl, h2, h3, h4, h5⟩ := h
  exact walk' a cap ps h2 (Nat.le_trans h2 h3) h4 w h5

theorem own : ownKnob Try.prog.godebug = none := by kernel_rfl
theorem laidOut : laidOutB Try.prog = true := by kernel_rfl

set_option maxRecDepth 100000 in
theorem lifted (os : Os) (started : os.Started) (H : Type) (enc : TypeId × Value → H) :
    ReturnsInHanded {} Try.checked os 3 .any (Rows.fnExactPackUnitsSpec.pre6 enc Try.prog Try.f3 Rows.fnExactPackUnitsRow.domain false) (Rows.fnExactPackUnitsSpec.post enc Try.prog Try.f3 false true false false) := by
  refine returnsInHanded_of_change (C := Try.checked) own started (by kernel_rfl) Try.func3
    (ChangeSpec.witness6 (enc := enc) (C := Try.checked) false ⟨#[], #[.slice none 0 0], []⟩ 8 (by kernel_rfl) (by kernel_rfl) (by kernel_rfl) (by kernel_rfl)) ?_
  intro W base args ds gs before hval0 hW hcnd _
  have hval : ∀ (j : Nat) t v, Try.f3.params[j]? = some t → args[j]? = some v → Value.okWide Try.prog W .any base t v := hval0
  have hW' := hW
  obtain ⟨p, q, hA0, hV, rfl, hfz, hnd⟩ := hW
  have hA : DataW.TrodAll enc Try.prog W 0 (fun _ => true) true Try.f3.params.toList args.toList ds p := hA0
  rw [Try.params3] at hA hval
  obtain ⟨v0, vs0, d0, ds0, p0, q0, hargs, rfl, rfl, h0, r0⟩ := trodAll_cons hA
  obtain ⟨rfl, rfl, rfl⟩ := trodAll_nil r0
  obtain rfl : args = #[v0] := by cases args; simp_all
  obtain ⟨rfl, rfl⟩ := trodVars_none hV
  have k0 := h0
  have lt0 : ∀ x ∈ p0, x.block < W.heap.size := by obtain ⟨m, hm⟩ := k0; exact DataW.trod_lt m _ _ _ hm
  obtain ⟨a0, len0, cap0, rfl⟩ := okWide_slice Try.underlying22 (hval 0 22 v0 rfl rfl)
  obtain ⟨z0, w0⟩ : ∃ zs, IsPacks W a0 len0 cap0 zs := by
    obtain ⟨fuel, hf⟩ := h0
    exact openPacks (by simpa [Value.cells] using hf)
  clear hA0 hval0
  refine (walk a0 len0 cap0 z0 W w0).mono fun e W' ⟨he, bel⟩ => ?_
  subst he
  exact ⟨_, rfl, _, _, _, [], _, [], hW', trodAll_mk1 (shut_bool Try.underlying4 _), (trodAll_cons_mk (Below.trod laidOut (by kernel_rfl) (of_decide_eq_true (by kernel_rfl)) k0 bel lt0) trodAll_mk0), rfl, bel.frame _, fun h => by cases h⟩

theorem over : Rows.fnExactPackUnitsRow.holds Try.pinned (OpenSpec.ofChange Rows.fnExactPackUnitsSpec) :=
  OpenClaim.holds_of_wide 3 Try.f3 rfl rfl rfl rfl rfl rfl rfl ⟨rfl, rfl, rfl, rfl, rfl⟩ rfl rfl rfl rfl rfl (by kernel_rfl) Try.func3 (by kernel_rfl)
    (of_decide_eq_true (by kernel_rfl)) (by unfold Func.isWrapper; first | (rw [if_pos (by decide +kernel)]; kernel_rfl) | (rw [if_neg (by decide +kernel)]; exact ⟨rfl, rfl⟩))
    (fun os started H enc _ => lifted os started H enc)
end PackLaw

theorem fnExactPackUnits_holds : Rows.FnExactPackUnitsSaid := PackLaw.over
end Go.Proofs.Ytaledfdhiimhdaj

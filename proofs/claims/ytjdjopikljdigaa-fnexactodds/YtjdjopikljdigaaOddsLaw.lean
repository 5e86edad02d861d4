/-
  For every table and every number of days the law FnExactOdds answers true: the program's Odds answers as the specification's, writes into no argument, and its answer owns its memory; with no condition.
-/
import Derived.Test.YtjdjopikljdigaaQoC
import Derived.Test.YtjdjopikljdigaaOwn2
namespace Go.Proofs.Ytjdjopikljdigaa
open Go.ChangeShapes Go.WideShapes Go.ChangeAt Go.RowKit Go.Joins
set_option linter.unusedVariables false
namespace OddsLaw

theorem own2_ne {B : Nat} {w : World} {g : Option Addr} {L : List Int} (h : Own2 B w g L) : ∀ c, g = some ⟨c, 0, none⟩ → c ≠ w.heap.size ∨ L = [] := fun c hc => by
  rcases h with h | ⟨b, hg, _, hlt, _⟩
  · exact .inr h
  · rw [hg] at hc; cases hc; exact .inl (by omega)
theorem own2_lt {B D : Nat} {w : World} {g : Option Addr} {L : List Int} (h : Own2 B w g L) (hD : w.heap.size ≤ D) : ∀ c, g = some ⟨c, 0, none⟩ → c < D ∨ L = [] := fun c hc => by
  rcases h with h | ⟨b, hg, _, hlt, _⟩
  · exact .inr h
  · rw [hg] at hc; cases hc; exact .inl (by omega)
theorem own2_ge {B D : Nat} {w : World} {g : Option Addr} {L : List Int} (h : Own2 B w g L) (hD : D < B) : ∀ c, g = some ⟨c, 0, none⟩ → c ≠ D ∨ L = [] := fun c hc => by
  rcases h with h | ⟨b, hg, hB, hlt, _⟩
  · exact .inr h
  · rw [hg] at hc; cases hc; exact .inl (by omega)
theorem own2_low {B D : Nat} {w w' : World} {g : Option Addr} {L : List Int} (h : Own2 B w g L) (hb : Below D w w') (hz : w'.heap.size = w.heap.size) (hlt : ∀ c, g = some ⟨c, 0, none⟩ → c < D ∨ L = []) : Own2 B w' g L := by
  rcases h with h | ⟨b, hg, hB, hl, hi, hf⟩
  · exact .inl h
  · rcases hlt b hg with h | h
    · exact .inr ⟨b, hg, hB, by omega, hi.below hb h, hf.below hb h⟩
    · exact .inl h

set_option maxHeartbeats 8000000 in
theorem walk' (days : Int) (a : Option Addr) (cap : Nat) (ws : List Int) (hl : (ws.length : Int) ≤ 1048576) (w : World) (hr : Reads w.heap.size w a ws) :
    Calls Try.prog 8 #[.slice a ws.length cap, .int .i64 days] w fun e w' => e = .returned (.bool true) ∧ Below w.heap.size w w' := by
  have HR : Hid (Reads w.heap.size w a ws) := hr
  clear hr
  have hle := od_le ws days
  have hI := fun a cap w h => implOdds_any a cap ws days (by omega) w h
  have hS := fun a cap w h => specOdds_any a cap ws days (by omega) w h
  unfold AnsL at hI hS
  generalize odL ws days = L at *
  generalize odC ws days = c at *
  go_enter Try.func8, Try.ntmps8
  go_wp2_with (first
    | (go_at_call 23; have G14 := OG14; refine (held_own w3.heap.size g0 c0 L.length (by omega) 1 (by omega) (by omega) w14 OG14.out).mono ?_; rintro e w15 ⟨rfl, rfl⟩)
    | (go_at_call 21; have G13 := OH13; refine (eqInts_any w13.heap.size h0 gw ch cw L L (by omega) (by omega) w13 OH13.out.reads OW13.out.reads).mono ?_; rintro e w14 ⟨rfl, hb14⟩; rw [decide_eq_true (rfl : L = L)]; have B14 : Hid (Below w.heap.size w w14) := chain B13.out hb14; have OG14 : Hid (Own2 w3.heap.size w14 g0 (marks 1 L.length)) := OG13.out.below hb14 (Nat.le_refl _); clear hb14)
    | (go_at_call 17; have G12 := OG12; refine (hI _ _ w12 R12.out).mono ?_; rintro e w13 ⟨h0, ch, rfl, o13, hb13⟩; have B13 : Hid (Below w.heap.size w w13) := chain B12.out hb13; have OW13 : Hid (Own2 w1.heap.size w13 gw L) := OW12.out.below hb13 (Nat.le_refl _); have OG13 : Hid (Own2 w3.heap.size w13 g0 (marks 1 L.length)) := OG12.out.below hb13 (Nat.le_refl _); have OH13 : Hid (Own2 w12.heap.size w13 h0 L) := o13; clear hb13 o13)
    | (go_at_call 20; have G11 := OG11; refine (toInts_any a cap ws (by omega) w11 ((HR.out.below B10.out).mono B10.out.size)).mono ?_; rintro e w12 ⟨rfl, hb12, hz12, hi12, hf12⟩; have B12 : Hid (Below w.heap.size w w12) := chain B10.out hb12; have OW12 : Hid (Own2 w1.heap.size w12 gw L) := OW10.out.below hb12 (Nat.le_refl _); have OG12 : Hid (Own2 w3.heap.size w12 g0 (marks 1 L.length)) := OG11.out.below hb12 (Nat.le_refl _); have R12 : Hid (Reads w12.heap.size w12 (some ⟨w11.heap.size, 0, none⟩) ws) := .inr ⟨_, _, rfl, hz12, hi12⟩; clear hb12 hz12 hi12 hf12)
    | (go_at_call 23; have G10 := OG10; refine (held_own w3.heap.size g0 c0 L.length (by omega) 1 (by omega) (by omega) w10 OG10.out).mono ?_; rintro e w11 ⟨rfl, rfl⟩; have OG11 : Hid (Own2 w3.heap.size w11 g0 (marks 1 L.length)) := OG10.out)
    | (go_at_call 22; have G9 := OG9; refine (mark_own w3.heap.size g0 c0 L (by omega) 1 (by omega) (by omega) w9 OG9.out).mono ?_; rintro e w10 ⟨rfl, hb10, hz10, om10⟩; have B10 : Hid (Below w.heap.size w w10) := B9.out.trans (hb10.mono B3.out.size); have OW10 : Hid (Own2 w1.heap.size w10 gw L) := own2_low OW9.out hb10 hz10 OWlt.out; have OG10 : Hid (Own2 w3.heap.size w10 g0 (marks 1 L.length)) := om10; clear hb10 hz10 om10)
    | (go_at_call 21; have G8 := OG8; refine (eqInts_any w8.heap.size g0 gw c0 cw L L (by omega) (by omega) w8 OG8.out.reads OW8.out.reads).mono ?_; rintro e w9 ⟨rfl, hb9⟩; rw [decide_eq_true (rfl : L = L)]; have B9 : Hid (Below w.heap.size w w9) := chain B8.out hb9; have OW9 : Hid (Own2 w1.heap.size w9 gw L) := OW8.out.below hb9 (Nat.le_refl _); have OG9 : Hid (Own2 w3.heap.size w9 g0 L) := OG8.out.below hb9 (Nat.le_refl _); clear hb9)
    | (go_at_call 22; have G7 := OG7; refine (mark_any w2.heap.size 0 ws.length ws.length (by omega) 1 (by omega) (by omega) w7 (fun i hi => by rw [X7.out.1 i hi]; rfl) X7.out.2).mono ?_; rintro e w8 ⟨rfl, ho8, hm8⟩; have B8 : Hid (Below w.heap.size w w8) := B7.out.trans (ho8.2.2.2 _ B2.out.size); have OW8 : Hid (Own2 w1.heap.size w8 gw L) := OW7.out.others ho8 (fun c hc => OWne.out c hc); have OG8 : Hid (Own2 w3.heap.size w8 g0 L) := OG7.out.others ho8 (fun c hc => OGne.out c hc); clear ho8 hm8)
    | (go_at_call 21; have G6 := OG6; refine (eqInts_any w6.heap.size _ _ _ _ ws ws (by omega) (by omega) w6 (.inr ⟨_, _, rfl, by have := Z6.out; omega, X6.out.1⟩) R6.out).mono ?_; rintro e w7 ⟨rfl, hb7⟩; rw [decide_eq_true (rfl : ws = ws)]; have B7 : Hid (Below w.heap.size w w7) := chain B6.out hb7; have OW7 : Hid (Own2 w1.heap.size w7 gw L) := OW6.out.below hb7 (Nat.le_refl _); have OG7 : Hid (Own2 w3.heap.size w7 g0 L) := OG6.out.below hb7 (Nat.le_refl _); have X7 : Hid (IntsAt w7 w2.heap.size 0 ws ∧ FreeAt w7 w2.heap.size 0 ws.length) := ⟨X6.out.1.below hb7 (by have := Z6.out; omega), X6.out.2.below hb7 (by have := Z6.out; omega)⟩; have Z7 : Hid (w2.heap.size < w3.heap.size ∧ w3.heap.size ≤ w7.heap.size) := ⟨Z6.out.1, Nat.le_trans Z6.out.2 hb7.size⟩; clear hb7)
    | (go_at_call 20; have G5 := OG5; refine (toInts_any a cap ws (by omega) w5 ((HR.out.below B5.out).mono B5.out.size)).mono ?_; rintro e w6 ⟨rfl, hb6, hz6, hi6, hf6⟩; have B6 : Hid (Below w.heap.size w w6) := chain B5.out hb6; have OW6 : Hid (Own2 w1.heap.size w6 gw L) := OW5.out.below hb6 (Nat.le_refl _); have OG6 : Hid (Own2 w3.heap.size w6 g0 L) := OG5.out.below hb6 (Nat.le_refl _); have X6 : Hid (IntsAt w6 w2.heap.size 0 ws ∧ FreeAt w6 w2.heap.size 0 ws.length) := ⟨X5.out.1.below hb6 (by have := Z5.out; omega), X5.out.2.below hb6 (by have := Z5.out; omega)⟩; have Z6 : Hid (w2.heap.size < w3.heap.size ∧ w3.heap.size ≤ w6.heap.size) := ⟨Z5.out.1, Nat.le_trans Z5.out.2 hb6.size⟩; have R6 : Hid (Reads w6.heap.size w6 (some ⟨w5.heap.size, 0, none⟩) ws) := .inr ⟨_, _, rfl, hz6, hi6⟩; clear hb6 hz6 hi6 hf6)
    | (go_at_call 21; have G4 := OG4; refine (eqInts_any w4.heap.size g0 gw c0 cw L L (by omega) (by omega) w4 OG4.out.reads OW4.out.reads).mono ?_; rintro e w5 ⟨rfl, hb5⟩; rw [decide_eq_true (rfl : L = L)]; have B5 : Hid (Below w.heap.size w w5) := chain B4.out hb5; have OW5 : Hid (Own2 w1.heap.size w5 gw L) := OW4.out.below hb5 (Nat.le_refl _); have OG5 : Hid (Own2 w3.heap.size w5 g0 L) := OG4.out.below hb5 (Nat.le_refl _); have X5 : Hid (IntsAt w5 w2.heap.size 0 ws ∧ FreeAt w5 w2.heap.size 0 ws.length) := ⟨X4.out.1.below hb5 (by have := Z4.out; omega), X4.out.2.below hb5 (by have := Z4.out; omega)⟩; have Z5 : Hid (w2.heap.size < w3.heap.size ∧ w3.heap.size ≤ w5.heap.size) := ⟨Z4.out.1, Nat.le_trans Z4.out.2 hb5.size⟩; clear hb5)
    | (go_at_call 17; have G3 := X3; refine (hI _ _ w3 (.inr ⟨_, _, rfl, X3.out.1, X3.out.2.1⟩)).mono ?_; rintro e w4 ⟨g0, c0, rfl, o4, hb4⟩; have B4 : Hid (Below w.heap.size w w4) := chain B3.out hb4; have OW4 : Hid (Own2 w1.heap.size w4 gw L) := OW3.out.below hb4 (Nat.le_refl _); have OG4 : Hid (Own2 w3.heap.size w4 g0 L) := o4; have X4 : Hid (IntsAt w4 w2.heap.size 0 ws ∧ FreeAt w4 w2.heap.size 0 ws.length) := ⟨X3.out.2.1.below hb4 X3.out.1, X3.out.2.2.below hb4 X3.out.1⟩; have Z4 : Hid (w2.heap.size < w3.heap.size ∧ w3.heap.size ≤ w4.heap.size) := ⟨X3.out.1, hb4.size⟩; have OGne : Hid (∀ c, g0 = some ⟨c, 0, none⟩ → c ≠ w2.heap.size ∨ L = []) := own2_ge o4 X3.out.1; clear hb4 o4)
    | (go_at_call 20; have G2 := OW2; refine (toInts_any a cap ws (by omega) w2 ((HR.out.below B2.out).mono B2.out.size)).mono ?_; rintro e w3 ⟨rfl, hb3, hz3, hi3, hf3⟩; have B3 : Hid (Below w.heap.size w w3) := chain B2.out hb3; have OW3 : Hid (Own2 w1.heap.size w3 gw L) := OW2.out.below hb3 (Nat.le_refl _); have X3 : Hid (w2.heap.size < w3.heap.size ∧ IntsAt w3 w2.heap.size 0 ws ∧ FreeAt w3 w2.heap.size 0 ws.length) := ⟨hz3, hi3, hf3⟩; have OWne : Hid (∀ c, gw = some ⟨c, 0, none⟩ → c ≠ w2.heap.size ∨ L = []) := own2_ne OW2.out; have OWlt : Hid (∀ c, gw = some ⟨c, 0, none⟩ → c < w3.heap.size ∨ L = []) := own2_lt OW2.out hb3.size; clear hb3 hz3 hi3 hf3)
    | (go_at_call 28; refine (hS _ _ w1 R1.out).mono ?_; rintro e w2 ⟨gw, cw, rfl, o2, hb2⟩; have B2 : Hid (Below w.heap.size w w2) := chain B1.out hb2; have OW2 : Hid (Own2 w1.heap.size w2 gw L) := o2; clear hb2 o2)
    | (go_at_call 20; refine (toInts_any a cap ws (by omega) w HR.out).mono ?_; rintro e w1 ⟨rfl, hb1, hz1, hi1, hf1⟩; have B1 : Hid (Below w.heap.size w w1) := hb1; have R1 : Hid (Reads w1.heap.size w1 (some ⟨w.heap.size, 0, none⟩) ws) := .inr ⟨_, _, rfl, hz1, hi1⟩; clear hb1 hz1 hi1 hf1))
  go_ret
  exact ⟨rfl, B14.out⟩

theorem walk (a : Option Addr) (len cap : Nat) (zs : List Int) (days : Int) (wdays : (Lit.int .i64 days).wf = true) (w : World) (hr : IsRow .i64 w a len cap zs) :
    Calls Try.prog 8 #[.slice a len cap, .int .i64 days] w fun e w' => e = .returned (.bool true) ∧ Below w.heap.size w w' := by
  obtain ⟨h1, h2, h3, h4⟩ := reads_of_row hr
  unfold maxLen at h3
  by_cases h : (1048576 : Int) < (len : Int)
  · clear hr h4 h1
    go_enter Try.func8, Try.ntmps8
    go_wp2
    go_ret
    exact ⟨rfl, Below.refl _ _⟩
  · have := walk' days a cap (zs.take len) (by omega) w h4
    rwa [h1] at this

theorem own : ownKnob Try.prog.godebug = none := by kernel_rfl
theorem laidOut : laidOutB Try.prog = true := by kernel_rfl

set_option maxRecDepth 100000 in
theorem lifted (os : Os) (started : os.Started) (H : Type) (enc : TypeId × Value → H) :
    ReturnsInHanded {} Try.checked os 8 .any (Rows.fnExactOddsSpec.pre6 enc Try.prog Try.f8 Rows.fnExactOddsRow.domain false) (Rows.fnExactOddsSpec.post enc Try.prog Try.f8 false true false false) := by
  refine returnsInHanded_of_change (C := Try.checked) own started (by kernel_rfl) Try.func8
    (ChangeSpec.witness6 (enc := enc) (C := Try.checked) false ⟨#[], #[.slice none 0 0, .int .i64 0], []⟩ 8 (by kernel_rfl) (by kernel_rfl) (by kernel_rfl) (by kernel_rfl)) ?_
  intro W base args ds gs before hval0 hW hcnd _
  have hval : ∀ (j : Nat) t v, Try.f8.params[j]? = some t → args[j]? = some v → Value.okWide Try.prog W .any base t v := hval0
  have hW' := hW
  obtain ⟨p, q, hA0, hV, rfl, hfz, hnd⟩ := hW
  have hA : DataW.TrodAll enc Try.prog W 0 (fun _ => true) true Try.f8.params.toList args.toList ds p := hA0
  rw [Try.params8] at hA hval
  obtain ⟨v0, vs0, d0, ds0, p0, q0, hargs, rfl, rfl, h0, r0⟩ := trodAll_cons hA
  obtain ⟨v1, vs1, d1, ds1, p1, q1, rfl, rfl, rfl, h1, r1⟩ := trodAll_cons r0
  obtain ⟨rfl, rfl, rfl⟩ := trodAll_nil r1
  obtain rfl : args = #[v0, v1] := by cases args; simp_all
  obtain ⟨rfl, rfl⟩ := trodVars_none hV
  have k0 := h0
  have lt0 : ∀ x ∈ p0, x.block < W.heap.size := by obtain ⟨m, hm⟩ := k0; exact DataW.trod_lt m _ _ _ hm
  have k1 := h1
  have lt1 : ∀ x ∈ p1, x.block < W.heap.size := by obtain ⟨m, hm⟩ := k1; exact DataW.trod_lt m _ _ _ hm
  obtain ⟨a0, len0, cap0, rfl⟩ := okWide_slice Try.underlying23 (hval 0 23 v0 rfl rfl)
  obtain ⟨z0, w0⟩ : ∃ zs, IsRow .i64 W a0 len0 cap0 zs := by
    obtain ⟨fuel, hf⟩ := h0
    rcases open_ints Try.underlying23 Try.underlying3 (by kernel_rfl) hf with ⟨hcs, _⟩ | ⟨x, l, c, zs, hcs, _, hl, hm, hz, _, hcell, hwz⟩
    · simp [Value.cells] at hcs
      obtain ⟨rfl, rfl, rfl⟩ := hcs
      exact ⟨[], .inl ⟨rfl, rfl, rfl, rfl⟩⟩
    · simp [Value.cells] at hcs
      obtain ⟨rfl, rfl, rfl⟩ := hcs
      exact ⟨zs, .inr ⟨_, rfl, hl, hm, by simpa using hz, hcell, hwz⟩⟩
  obtain ⟨a1, rfl, rfl, rfl, w1⟩ := open_int Try.underlying3 (hval 1 3 v1 rfl rfl) h1
  clear hA0 hval0
  refine (walk a0 len0 cap0 z0 a1 w1 W w0).mono fun e W' ⟨he, bel⟩ => ?_
  subst he
  exact ⟨_, rfl, _, _, _, [], _, [], hW', trodAll_mk1 (shut_bool Try.underlying4 _), (trodAll_cons_mk (Below.trod laidOut (by kernel_rfl) (of_decide_eq_true (by kernel_rfl)) k0 bel lt0) (trodAll_cons_mk (Below.trod laidOut (by kernel_rfl) (of_decide_eq_true (by kernel_rfl)) k1 bel lt1) trodAll_mk0)), rfl, bel.frame _, fun h => by cases h⟩

theorem over : Rows.fnExactOddsRow.holds Try.pinned (OpenSpec.ofChange Rows.fnExactOddsSpec) :=
  OpenClaim.holds_of_wide 8 Try.f8 rfl rfl rfl rfl rfl rfl rfl ⟨rfl, rfl, rfl, rfl, rfl⟩ rfl rfl rfl rfl rfl (by kernel_rfl) Try.func8 (by kernel_rfl)
    (of_decide_eq_true (by kernel_rfl)) (by unfold Func.isWrapper; first | (rw [if_pos (by decide +kernel)]; kernel_rfl) | (rw [if_neg (by decide +kernel)]; exact ⟨rfl, rfl⟩))
    (fun os started H enc _ => lifted os started H enc)
end OddsLaw

theorem fnExactOdds_holds : Rows.FnExactOddsSaid := OddsLaw.over
end Go.Proofs.Ytjdjopikljdigaa

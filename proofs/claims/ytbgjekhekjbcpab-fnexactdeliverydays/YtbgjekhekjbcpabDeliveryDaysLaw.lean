/-
  For every week, holidays and stretch the law FnExactDeliveryDays answers true: the program's DeliveryDays answers as the specification's, writes into no argument, and its answer owns its memory; with no condition.
-/
import Derived.Test.YtbgjekhekjbcpabDyE
import Derived.Test.YtbgjekhekjbcpabBlE
import Derived.Test.YtbgjekhekjbcpabOwn2
namespace Go.Proofs.Ytbgjekhekjbcpab
open Go.ChangeShapes Go.WideShapes Go.ChangeAt Go.RowKit Go.Joins Go.Deep
set_option linter.unusedVariables false

namespace DeliveryDaysLaw
theorem own2_ne {B : Nat} {w : World} {g : Option Addr} {L : List Int} (h : Own2 B w g L) : ∀ c, g = some ⟨c, 0, none⟩ → c ≠ w.heap.size ∨ L = [] := fun c hc => by
  rcases h with h | ⟨b, hg, _, hlt, _⟩
  · exact .inr h
  · rw [hg] at hc; cases hc; exact .inl (by omega)
theorem own2_lt {B D : Nat} {w : World} {g : Option Addr} {L : List Int} (h : Own2 B w g L) (hD : w.heap.size ≤ D) : ∀ c, g = some ⟨c, 0, none⟩ → c < D ∨ L = [] := fun c hc => by
  rcases h with h | ⟨b, hg, _, hlt, _⟩
  · exact .inr h
  · rw [hg] at hc; cases hc; exact .inl (by omega)
theorem own2_ge {B D : Nat} {w : World} {g : Option Addr} {L : List Int} (h : Own2 B w g L) (hD : D < B) : ∀ c, g = some ⟨c, 0, none⟩ → c ≠ D ∨ L = [] := fun c hc => by
  rcases h with h | ⟨b, hg, hB, hlt, _⟩
  · exact .inr h
  · rw [hg] at hc; cases hc; exact .inl (by omega)
theorem own2_low {B D : Nat} {w w' : World} {g : Option Addr} {L : List Int} (h : Own2 B w g L) (hb : Below D w w') (hz : w'.heap.size = w.heap.size) (hlt : ∀ c, g = some ⟨c, 0, none⟩ → c < D ∨ L = []) : Own2 B w' g L := by
  rcases h with h | ⟨b, hg, hB, hl, hi, hf⟩
  · exact .inl h
  · rcases hlt b hg with h | h
    · exact .inr ⟨b, hg, hB, by omega, hi.below hb h, hf.below hb h⟩
    · exact .inl h

set_option maxHeartbeats 8000000 in
theorem walk' (a1 : Option Addr) (c1 : Nat) (wk : List Bool) (a2 : Option Addr) (c2 : Nat) (hs : List Int) (fr : Int) (til : Int) (hl1 : (wk.length : Int) ≤ 1048576) (hl2 : (hs.length : Int) ≤ 1048576) (w : World) (hr1 : ReadsBl w.heap.size w a1 wk) (hr2 : Reads w.heap.size w a2 hs) :
    Calls Try.prog 4 #[.slice a1 wk.length c1, .slice a2 hs.length c2, .int .i64 fr, .int .i64 til] w fun e w' => e = .returned (.bool true) ∧ Below w.heap.size w w' := by
  have HTb : Hid (∀ W, Below w.heap.size w W → Calls Try.prog 6 #[.slice a1 wk.length c1] W fun e w' => e = .returned (.slice (some ⟨W.heap.size, 0, none⟩) wk.length wk.length) ∧ Below W.heap.size W w' ∧ W.heap.size < w'.heap.size ∧ BoolsAt w' W.heap.size 0 wk ∧ FreeAt w' W.heap.size 0 wk.length) := fun W hW => toBools_any a1 c1 wk (by omega) W (hr1.later hW)
  have HTi : Hid (∀ W, Below w.heap.size w W → Calls Try.prog 7 #[.slice a2 hs.length c2] W fun e w' => e = .returned (.slice (some ⟨W.heap.size, 0, none⟩) hs.length hs.length) ∧ Below W.heap.size W w' ∧ W.heap.size < w'.heap.size ∧ IntsAt w' W.heap.size 0 hs ∧ FreeAt w' W.heap.size 0 hs.length) := fun W hW => toInts_any a2 c2 hs (by omega) W (readsL hr2 hW)
  have HS : Hid (∀ x y W, ReadsBl W.heap.size W x wk → Reads W.heap.size W y hs → Calls Try.prog 11 #[.slice x wk.length wk.length, .slice y hs.length hs.length, .int .i64 fr, .int .i64 til] W (AnsL W (ddL wk hs fr til) (ddC wk hs fr til))) := fun x y W h1 h2 => specDays_any x y wk.length hs.length wk hs fr til (by omega) (by omega) W h1 h2
  have HI : Hid (∀ x y W, ReadsBl W.heap.size W x wk → Reads W.heap.size W y hs → Calls Try.prog 12 #[.slice x wk.length wk.length, .slice y hs.length hs.length, .int .i64 fr, .int .i64 til] W (AnsL W (ddL wk hs fr til) (ddC wk hs fr til))) := fun x y W h1 h2 => implDays_any x y wk.length hs.length wk hs fr til (by omega) (by omega) W h1 h2
  have hle := dd_le wk hs fr til
  unfold AnsL at HS HI
  generalize ddL wk hs fr til = L at *
  generalize ddC wk hs fr til = cc at *
  have hcc : (cc != cc) = false := by simp
  clear hr1 hr2
  go_enter Try.func4, Try.ntmps4
  have B0 : Hid (Below w.heap.size w w) := Below.refl _ _
  go_wp2_with fail
  (first | go_at_call 6 | skip)
  refine (HTb.out w B0.out).mono ?_
  rintro e w1 ⟨rfl, hb, hz, hi, hf⟩
  have B1 : Hid (Below w.heap.size w w1) := chain B0.out hb
  have R1 : Hid (ReadsBl w1.heap.size w1 (some ⟨w.heap.size, 0, none⟩) wk) := .inr ⟨_, _, rfl, hz, hi⟩
  clear hz hi hf
  clear hb
  go_wp2_with fail
  (first | go_at_call 7 | skip)
  refine (HTi.out w1 B1.out).mono ?_
  rintro e w2 ⟨rfl, hb, hz, hi, hf⟩
  have B2 : Hid (Below w.heap.size w w2) := chain B1.out hb
  have R2 : Hid (ReadsBl w2.heap.size w2 (some ⟨w.heap.size, 0, none⟩) wk) := R1.out.later hb
  have Q2 : Hid (Reads w2.heap.size w2 (some ⟨w1.heap.size, 0, none⟩) hs) := .inr ⟨_, _, rfl, hz, hi⟩
  clear hz hi hf R1
  clear hb
  go_wp2_with fail
  (first | go_at_call 11 | skip)
  refine (HS.out _ _ w2 R2.out Q2.out).mono ?_
  rintro e w3 ⟨gw, cw, rfl, ow, hb⟩
  have B3 : Hid (Below w.heap.size w w3) := chain B2.out hb
  have OW3 : Hid (Own2 w2.heap.size w3 gw L) := ow
  have OWn0 : Hid (∀ c, gw = some ⟨c, 0, none⟩ → c ≠ w3.heap.size ∨ L = []) := own2_ne ow
  have OWl : Hid (∀ c, gw = some ⟨c, 0, none⟩ → c < w3.heap.size ∨ L = []) := own2_lt ow (Nat.le_refl _)
  clear ow R2 Q2
  clear hb
  go_wp2_with fail
  (first | go_at_call 6 | skip)
  refine (HTb.out w3 B3.out).mono ?_
  rintro e w4 ⟨rfl, hb, hz, hi, hf⟩
  have B4 : Hid (Below w.heap.size w w4) := chain B3.out hb
  have OW4 : Hid (Own2 w2.heap.size w4 gw L) := OW3.out.below hb (Nat.le_refl _)
  have X4 : Hid (BoolsAt w4 w3.heap.size 0 wk ∧ FreeAt w4 w3.heap.size 0 wk.length ∧ w3.heap.size < w4.heap.size) := ⟨hi, hf, hz⟩
  have Z4 : Hid (w3.heap.size < w4.heap.size) := hz
  clear hz hi hf
  clear hb
  go_wp2_with fail
  (first | go_at_call 7 | skip)
  refine (HTi.out w4 B4.out).mono ?_
  rintro e w5 ⟨rfl, hb, hz, hi, hf⟩
  have B5 : Hid (Below w.heap.size w w5) := chain B4.out hb
  have OW5 : Hid (Own2 w2.heap.size w5 gw L) := OW4.out.below hb (Nat.le_refl _)
  have X5 : Hid (BoolsAt w5 w3.heap.size 0 wk ∧ FreeAt w5 w3.heap.size 0 wk.length ∧ w3.heap.size < w5.heap.size) := ⟨X4.out.1.below hb X4.out.2.2, X4.out.2.1.below hb X4.out.2.2, Nat.lt_of_lt_of_le X4.out.2.2 hb.size⟩
  have Y5 : Hid (IntsAt w5 w4.heap.size 0 hs ∧ FreeAt w5 w4.heap.size 0 hs.length ∧ w4.heap.size < w5.heap.size) := ⟨hi, hf, hz⟩
  have Z5 : Hid (w4.heap.size < w5.heap.size) := hz
  clear hz hi hf
  clear hb
  go_wp2_with fail
  (first | go_at_call 12 | skip)
  refine (HI.out _ _ w5 (.inr ⟨_, _, rfl, X5.out.2.2, X5.out.1⟩) (.inr ⟨_, _, rfl, Y5.out.2.2, Y5.out.1⟩)).mono ?_
  rintro e w6 ⟨g0, c0, rfl, og, hb⟩
  have B6 : Hid (Below w.heap.size w w6) := chain B5.out hb
  have OW6 : Hid (Own2 w2.heap.size w6 gw L) := OW5.out.below hb (Nat.le_refl _)
  have X6 : Hid (BoolsAt w6 w3.heap.size 0 wk ∧ FreeAt w6 w3.heap.size 0 wk.length ∧ w3.heap.size < w6.heap.size) := ⟨X5.out.1.below hb X5.out.2.2, X5.out.2.1.below hb X5.out.2.2, Nat.lt_of_lt_of_le X5.out.2.2 hb.size⟩
  have Y6 : Hid (IntsAt w6 w4.heap.size 0 hs ∧ FreeAt w6 w4.heap.size 0 hs.length ∧ w4.heap.size < w6.heap.size) := ⟨Y5.out.1.below hb Y5.out.2.2, Y5.out.2.1.below hb Y5.out.2.2, Nat.lt_of_lt_of_le Y5.out.2.2 hb.size⟩
  have OG6 : Hid (Own2 w5.heap.size w6 g0 L) := og
  have OGn0 : Hid (∀ c, g0 = some ⟨c, 0, none⟩ → c ≠ w3.heap.size ∨ L = []) := own2_ge og (by have := Z4.out; have := Z5.out; omega)
  have OGn1 : Hid (∀ c, g0 = some ⟨c, 0, none⟩ → c ≠ w4.heap.size ∨ L = []) := own2_ge og Z5.out
  clear og
  clear hb
  go_wp2_with fail
  (first | go_at_call 10 | skip)
  refine (eqInts_any w6.heap.size g0 gw c0 cw L L (by omega) (by omega) w6 OG6.out.reads OW6.out.reads).mono ?_
  rintro e w7 ⟨rfl, hb⟩
  have B7 : Hid (Below w.heap.size w w7) := chain B6.out hb
  have OW7 : Hid (Own2 w2.heap.size w7 gw L) := OW6.out.below hb (Nat.le_refl _)
  have X7 : Hid (BoolsAt w7 w3.heap.size 0 wk ∧ FreeAt w7 w3.heap.size 0 wk.length ∧ w3.heap.size < w7.heap.size) := ⟨X6.out.1.below hb X6.out.2.2, X6.out.2.1.below hb X6.out.2.2, Nat.lt_of_lt_of_le X6.out.2.2 hb.size⟩
  have Y7 : Hid (IntsAt w7 w4.heap.size 0 hs ∧ FreeAt w7 w4.heap.size 0 hs.length ∧ w4.heap.size < w7.heap.size) := ⟨Y6.out.1.below hb Y6.out.2.2, Y6.out.2.1.below hb Y6.out.2.2, Nat.lt_of_lt_of_le Y6.out.2.2 hb.size⟩
  have OG7 : Hid (Own2 w5.heap.size w7 g0 L) := OG6.out.below hb (Nat.le_refl _)
  rw [decide_eq_true (rfl : L = L)]
  clear hb
  go_wp2_with fail
  (first | go_at_call 6 | skip)
  refine (HTb.out w7 B7.out).mono ?_
  rintro e w8 ⟨rfl, hb, hz, hi, hf⟩
  have B8 : Hid (Below w.heap.size w w8) := chain B7.out hb
  have OW8 : Hid (Own2 w2.heap.size w8 gw L) := OW7.out.below hb (Nat.le_refl _)
  have X8 : Hid (BoolsAt w8 w3.heap.size 0 wk ∧ FreeAt w8 w3.heap.size 0 wk.length ∧ w3.heap.size < w8.heap.size) := ⟨X7.out.1.below hb X7.out.2.2, X7.out.2.1.below hb X7.out.2.2, Nat.lt_of_lt_of_le X7.out.2.2 hb.size⟩
  have Y8 : Hid (IntsAt w8 w4.heap.size 0 hs ∧ FreeAt w8 w4.heap.size 0 hs.length ∧ w4.heap.size < w8.heap.size) := ⟨Y7.out.1.below hb Y7.out.2.2, Y7.out.2.1.below hb Y7.out.2.2, Nat.lt_of_lt_of_le Y7.out.2.2 hb.size⟩
  have OG8 : Hid (Own2 w5.heap.size w8 g0 L) := OG7.out.below hb (Nat.le_refl _)
  have V8 : Hid (ReadsBl w8.heap.size w8 (some ⟨w7.heap.size, 0, none⟩) wk) := .inr ⟨_, _, rfl, hz, hi⟩
  clear hz hi hf
  clear hb
  go_wp2_with fail
  (first | go_at_call 9 | skip)
  refine (eqBools_any w8.heap.size _ _ _ _ wk (by omega) w8 (.inr ⟨_, _, rfl, X8.out.2.2, X8.out.1⟩) V8.out).mono ?_
  rintro e w9 ⟨rfl, hb⟩
  have B9 : Hid (Below w.heap.size w w9) := chain B8.out hb
  have OW9 : Hid (Own2 w2.heap.size w9 gw L) := OW8.out.below hb (Nat.le_refl _)
  have X9 : Hid (BoolsAt w9 w3.heap.size 0 wk ∧ FreeAt w9 w3.heap.size 0 wk.length ∧ w3.heap.size < w9.heap.size) := ⟨X8.out.1.below hb X8.out.2.2, X8.out.2.1.below hb X8.out.2.2, Nat.lt_of_lt_of_le X8.out.2.2 hb.size⟩
  have Y9 : Hid (IntsAt w9 w4.heap.size 0 hs ∧ FreeAt w9 w4.heap.size 0 hs.length ∧ w4.heap.size < w9.heap.size) := ⟨Y8.out.1.below hb Y8.out.2.2, Y8.out.2.1.below hb Y8.out.2.2, Nat.lt_of_lt_of_le Y8.out.2.2 hb.size⟩
  have OG9 : Hid (Own2 w5.heap.size w9 g0 L) := OG8.out.below hb (Nat.le_refl _)
  clear V8
  clear hb
  go_wp2_with fail
  (first | go_at_call 7 | skip)
  refine (HTi.out w9 B9.out).mono ?_
  rintro e w10 ⟨rfl, hb, hz, hi, hf⟩
  have B10 : Hid (Below w.heap.size w w10) := chain B9.out hb
  have OW10 : Hid (Own2 w2.heap.size w10 gw L) := OW9.out.below hb (Nat.le_refl _)
  have X10 : Hid (BoolsAt w10 w3.heap.size 0 wk ∧ FreeAt w10 w3.heap.size 0 wk.length ∧ w3.heap.size < w10.heap.size) := ⟨X9.out.1.below hb X9.out.2.2, X9.out.2.1.below hb X9.out.2.2, Nat.lt_of_lt_of_le X9.out.2.2 hb.size⟩
  have Y10 : Hid (IntsAt w10 w4.heap.size 0 hs ∧ FreeAt w10 w4.heap.size 0 hs.length ∧ w4.heap.size < w10.heap.size) := ⟨Y9.out.1.below hb Y9.out.2.2, Y9.out.2.1.below hb Y9.out.2.2, Nat.lt_of_lt_of_le Y9.out.2.2 hb.size⟩
  have OG10 : Hid (Own2 w5.heap.size w10 g0 L) := OG9.out.below hb (Nat.le_refl _)
  have V10 : Hid (Reads w10.heap.size w10 (some ⟨w9.heap.size, 0, none⟩) hs) := .inr ⟨_, _, rfl, hz, hi⟩
  clear hz hi hf
  clear hb
  go_wp2_with fail
  (first | go_at_call 10 | skip)
  refine (eqInts_any w10.heap.size _ _ _ _ hs hs (by omega) (by omega) w10 (.inr ⟨_, _, rfl, Y10.out.2.2, Y10.out.1⟩) V10.out).mono ?_
  rintro e w11 ⟨rfl, hb⟩
  have B11 : Hid (Below w.heap.size w w11) := chain B10.out hb
  have OW11 : Hid (Own2 w2.heap.size w11 gw L) := OW10.out.below hb (Nat.le_refl _)
  have X11 : Hid (BoolsAt w11 w3.heap.size 0 wk ∧ FreeAt w11 w3.heap.size 0 wk.length ∧ w3.heap.size < w11.heap.size) := ⟨X10.out.1.below hb X10.out.2.2, X10.out.2.1.below hb X10.out.2.2, Nat.lt_of_lt_of_le X10.out.2.2 hb.size⟩
  have Y11 : Hid (IntsAt w11 w4.heap.size 0 hs ∧ FreeAt w11 w4.heap.size 0 hs.length ∧ w4.heap.size < w11.heap.size) := ⟨Y10.out.1.below hb Y10.out.2.2, Y10.out.2.1.below hb Y10.out.2.2, Nat.lt_of_lt_of_le Y10.out.2.2 hb.size⟩
  have OG11 : Hid (Own2 w5.heap.size w11 g0 L) := OG10.out.below hb (Nat.le_refl _)
  rw [decide_eq_true (rfl : hs = hs)]
  clear V10
  clear hb
  go_wp2_with fail
  (first | go_at_call 13 | skip)
  refine (markBools_any w3.heap.size 0 wk.length wk.length (by omega) 1 (by omega) (by omega) w11 (fun i hi => by rw [X11.out.1 i hi]; rfl) X11.out.2.1).mono ?_
  rintro e w12 ⟨rfl, ho⟩
  have B12 : Hid (Below w.heap.size w w12) := B11.out.trans (ho.2.2.2 _ B3.out.size)
  have OW12 : Hid (Own2 w2.heap.size w12 gw L) := OW11.out.others ho (fun c hc => OWn0.out c hc)
  have OG12 : Hid (Own2 w5.heap.size w12 g0 L) := OG11.out.others ho (fun c hc => OGn0.out c hc)
  have Y12 : Hid (IntsAt w12 w4.heap.size 0 hs ∧ FreeAt w12 w4.heap.size 0 hs.length ∧ w4.heap.size < w12.heap.size) := ⟨ho.ints (by have := Z4.out; omega) Y11.out.1, ho.free Y11.out.2.1, by rw [ho.2.2.1]; exact Y11.out.2.2⟩
  clear ho X11 Y11
  go_wp2_with fail
  (first | go_at_call 14 | skip)
  refine (mark_any w4.heap.size 0 hs.length hs.length (by omega) (1 + (wk.length : Int)) (by omega) (by omega) w12 (fun i hi => by rw [Y12.out.1 i hi]; rfl) Y12.out.2.1).mono ?_
  rintro e w13 ⟨rfl, ho, _⟩
  have B13 : Hid (Below w.heap.size w w13) := B12.out.trans (ho.2.2.2 _ B4.out.size)
  have OW13 : Hid (Own2 w2.heap.size w13 gw L) := OW12.out.others ho (fun c hc => by rcases OWl.out c hc with h | h; exact .inl (by have := Z4.out; omega); exact .inr h)
  have OG13 : Hid (Own2 w5.heap.size w13 g0 L) := OG12.out.others ho (fun c hc => OGn1.out c hc)
  have hkn : ¬ (1 + (wk.length : Int) + (hs.length : Int)) < 0 := by omega
  clear ho Y12
  go_wp2_with fail
  (first | go_at_call 10 | skip)
  refine (eqInts_any w13.heap.size g0 gw c0 cw L L (by omega) (by omega) w13 OG13.out.reads OW13.out.reads).mono ?_
  rintro e w14 ⟨rfl, hb⟩
  have B14 : Hid (Below w.heap.size w w14) := chain B13.out hb
  have OW14 : Hid (Own2 w2.heap.size w14 gw L) := OW13.out.below hb (Nat.le_refl _)
  have OG14 : Hid (Own2 w5.heap.size w14 g0 L) := OG13.out.below hb (Nat.le_refl _)
  rw [decide_eq_true (rfl : L = L)]
  clear hb
  go_wp2_with fail
  (first | go_at_call 14 | skip)
  refine (mark_own w5.heap.size g0 c0 L (by omega) 1 (by omega) (by omega) w14 OG14.out).mono ?_
  rintro e w15 ⟨rfl, hb, hz, om⟩
  have B15 : Hid (Below w.heap.size w w15) := B14.out.trans (hb.mono B5.out.size)
  have OW15 : Hid (Own2 w2.heap.size w15 gw L) := own2_low OW14.out hb hz (fun c hc => by rcases OWl.out c hc with h | h; exact .inl (by have := Z4.out; have := Z5.out; omega); exact .inr h)
  have OG15 : Hid (Own2 w5.heap.size w15 g0 (marks 1 L.length)) := om
  have hqn : ¬ (1 + (L.length : Int)) < 0 := by omega
  have hqm : ((1 + (L.length : Int)) != (1 + (L.length : Int))) = false := by simp
  clear hb hz om
  go_wp2_with fail
  (first | go_at_call 15 | skip)
  refine (held_own w5.heap.size g0 c0 L.length (by omega) 1 (by omega) (by omega) w15 OG15.out).mono ?_
  rintro e w15b ⟨rfl, hwb⟩
  rw [hwb]
  clear hwb
  go_wp2_with fail
  (first | go_at_call 6 | skip)
  refine (HTb.out w15 B15.out).mono ?_
  rintro e w16 ⟨rfl, hb, hz, hi, hf⟩
  have B16 : Hid (Below w.heap.size w w16) := chain B15.out hb
  have OW16 : Hid (Own2 w2.heap.size w16 gw L) := OW15.out.below hb (Nat.le_refl _)
  have OG16 : Hid (Own2 w5.heap.size w16 g0 (marks 1 L.length)) := OG15.out.below hb (Nat.le_refl _)
  have V16 : Hid (ReadsBl w16.heap.size w16 (some ⟨w15.heap.size, 0, none⟩) wk) := .inr ⟨_, _, rfl, hz, hi⟩
  clear hz hi hf
  clear hb
  go_wp2_with fail
  (first | go_at_call 7 | skip)
  refine (HTi.out w16 B16.out).mono ?_
  rintro e w17 ⟨rfl, hb, hz, hi, hf⟩
  have B17 : Hid (Below w.heap.size w w17) := chain B16.out hb
  have OW17 : Hid (Own2 w2.heap.size w17 gw L) := OW16.out.below hb (Nat.le_refl _)
  have OG17 : Hid (Own2 w5.heap.size w17 g0 (marks 1 L.length)) := OG16.out.below hb (Nat.le_refl _)
  have V17 : Hid (ReadsBl w17.heap.size w17 (some ⟨w15.heap.size, 0, none⟩) wk) := V16.out.later hb
  have U17 : Hid (Reads w17.heap.size w17 (some ⟨w16.heap.size, 0, none⟩) hs) := .inr ⟨_, _, rfl, hz, hi⟩
  clear hz hi hf V16
  clear hb
  go_wp2_with fail
  (first | go_at_call 12 | skip)
  refine (HI.out _ _ w17 V17.out U17.out).mono ?_
  rintro e w18 ⟨h0, ch, rfl, oh, hb⟩
  have B18 : Hid (Below w.heap.size w w18) := chain B17.out hb
  have OW18 : Hid (Own2 w2.heap.size w18 gw L) := OW17.out.below hb (Nat.le_refl _)
  have OG18 : Hid (Own2 w5.heap.size w18 g0 (marks 1 L.length)) := OG17.out.below hb (Nat.le_refl _)
  have OH18 : Hid (Own2 w17.heap.size w18 h0 L) := oh
  clear oh V17 U17
  clear hb
  go_wp2_with fail
  (first | go_at_call 10 | skip)
  refine (eqInts_any w18.heap.size h0 gw ch cw L L (by omega) (by omega) w18 OH18.out.reads OW18.out.reads).mono ?_
  rintro e w19 ⟨rfl, hb⟩
  have B19 : Hid (Below w.heap.size w w19) := chain B18.out hb
  have OW19 : Hid (Own2 w2.heap.size w19 gw L) := OW18.out.below hb (Nat.le_refl _)
  have OG19 : Hid (Own2 w5.heap.size w19 g0 (marks 1 L.length)) := OG18.out.below hb (Nat.le_refl _)
  rw [decide_eq_true (rfl : L = L)]
  clear hb
  go_wp2_with fail
  (first | go_at_call 15 | skip)
  refine (held_own w5.heap.size g0 c0 L.length (by omega) 1 (by omega) (by omega) w19 OG19.out).mono ?_
  rintro e w19b ⟨rfl, hwb⟩
  rw [hwb]
  clear hwb
  go_wp2
  go_ret
  exact ⟨rfl, B19.out⟩
theorem walk (a1 : Option Addr) (l1 c1 : Nat) (wk : List Bool) (a2 : Option Addr) (l2 c2 : Nat) (zs : List Int) (fr : Int) (wfr : (Lit.int .i64 fr).wf = true) (til : Int) (wtil : (Lit.int .i64 til).wf = true) (w : World) (h1 : IsBls w a1 l1 c1 wk) (h2 : IsRow .i64 w a2 l2 c2 zs) :
    Calls Try.prog 4 #[.slice a1 l1 c1, .slice a2 l2 c2, .int .i64 fr, .int .i64 til] w fun e w' => e = .returned (.bool true) ∧ Below w.heap.size w w' := by
  obtain ⟨rfl, k2, k3, k4⟩ := h1
  obtain ⟨r1, r2, r3, r4⟩ := reads_of_row h2
  unfold maxLen at k3 r3
  by_cases g1 : (1048576 : Int) < (wk.length : Int)
  · clear h2 r4 r1 k4
    go_enter Try.func4, Try.ntmps4
    go_wp2
    go_ret
    exact ⟨rfl, Below.refl _ _⟩
  by_cases g2 : (1048576 : Int) < (l2 : Int)
  · clear h2 r4 r1 k4
    go_enter Try.func4, Try.ntmps4
    go_wp2
    go_ret
    exact ⟨rfl, Below.refl _ _⟩
  · have := walk' a1 c1 wk a2 c2 (zs.take l2) fr til (by omega) (by omega) w k4 r4
    rwa [r1] at this

theorem own : ownKnob Try.prog.godebug = none := by kernel_rfl
theorem laidOut : laidOutB Try.prog = true := by kernel_rfl

set_option maxRecDepth 100000 in
theorem lifted (os : Os) (started : os.Started) (H : Type) (enc : TypeId × Value → H) :
    ReturnsInHanded {} Try.checked os 4 .any (Rows.fnExactDeliveryDaysSpec.pre6 enc Try.prog Try.f4 Rows.fnExactDeliveryDaysRow.domain false) (Rows.fnExactDeliveryDaysSpec.post enc Try.prog Try.f4 false true false false) := by
  refine returnsInHanded_of_change (C := Try.checked) own started (by kernel_rfl) Try.func4
    (ChangeSpec.witness6 (enc := enc) (C := Try.checked) false ⟨#[], #[.slice none 0 0, .slice none 0 0, .int .i64 0, .int .i64 0], []⟩ 8 (by kernel_rfl) (by kernel_rfl) (by kernel_rfl) (by kernel_rfl)) ?_
  intro W base args ds gs before hval0 hW hcnd _
  have hval : ∀ (j : Nat) t v, Try.f4.params[j]? = some t → args[j]? = some v → Value.okWide Try.prog W .any base t v := hval0
  have hW' := hW
  obtain ⟨p, q, hA0, hV, rfl, hfz, hnd⟩ := hW
  have hA : DataW.TrodAll enc Try.prog W 0 (fun _ => true) true Try.f4.params.toList args.toList ds p := hA0
  rw [Try.params4] at hA hval
  obtain ⟨v0, vs0, d0, ds0, p0, q0, hargs, rfl, rfl, h0, r0⟩ := trodAll_cons hA
  obtain ⟨v1, vs1, d1, ds1, p1, q1, rfl, rfl, rfl, h1, r1⟩ := trodAll_cons r0
  obtain ⟨v2, vs2, d2, ds2, p2, q2, rfl, rfl, rfl, h2, r2⟩ := trodAll_cons r1
  obtain ⟨v3, vs3, d3, ds3, p3, q3, rfl, rfl, rfl, h3, r3⟩ := trodAll_cons r2
  obtain ⟨rfl, rfl, rfl⟩ := trodAll_nil r3
  obtain rfl : args = #[v0, v1, v2, v3] := by cases args; simp_all
  obtain ⟨rfl, rfl⟩ := trodVars_none hV
  have k0 := h0
  have lt0 : ∀ x ∈ p0, x.block < W.heap.size := by obtain ⟨m, hm⟩ := k0; exact DataW.trod_lt m _ _ _ hm
  have k1 := h1
  have lt1 : ∀ x ∈ p1, x.block < W.heap.size := by obtain ⟨m, hm⟩ := k1; exact DataW.trod_lt m _ _ _ hm
  have k2 := h2
  have lt2 : ∀ x ∈ p2, x.block < W.heap.size := by obtain ⟨m, hm⟩ := k2; exact DataW.trod_lt m _ _ _ hm
  have k3 := h3
  have lt3 : ∀ x ∈ p3, x.block < W.heap.size := by obtain ⟨m, hm⟩ := k3; exact DataW.trod_lt m _ _ _ hm
  obtain ⟨a0, len0, cap0, rfl⟩ := okWide_slice Try.underlying22 (hval 0 22 v0 rfl rfl)
  obtain ⟨z0, w0⟩ : ∃ zs, IsBls W a0 len0 cap0 zs := by
    obtain ⟨fuel, hf⟩ := h0
    exact openBls (by simpa [Value.cells] using hf)
  obtain ⟨a1, len1, cap1, rfl⟩ := okWide_slice Try.underlying23 (hval 1 23 v1 rfl rfl)
  obtain ⟨z1, w1⟩ : ∃ zs, IsRow .i64 W a1 len1 cap1 zs := by
    obtain ⟨fuel, hf⟩ := h1
    rcases open_ints Try.underlying23 Try.underlying3 (by kernel_rfl) hf with ⟨hcs, _⟩ | ⟨x, l, c, zs, hcs, _, hl, hm, hz, _, hcell, hwz⟩
    · simp [Value.cells] at hcs
      obtain ⟨rfl, rfl, rfl⟩ := hcs
      exact ⟨[], .inl ⟨rfl, rfl, rfl, rfl⟩⟩
    · simp [Value.cells] at hcs
      obtain ⟨rfl, rfl, rfl⟩ := hcs
      exact ⟨zs, .inr ⟨_, rfl, hl, hm, by simpa using hz, hcell, hwz⟩⟩
  obtain ⟨a2, rfl, rfl, rfl, w2⟩ := open_int Try.underlying3 (hval 2 3 v2 rfl rfl) h2
  obtain ⟨a3, rfl, rfl, rfl, w3⟩ := open_int Try.underlying3 (hval 3 3 v3 rfl rfl) h3
  clear hA0 hval0
  refine (walk a0 len0 cap0 z0 a1 len1 cap1 z1 a2 w2 a3 w3 W w0 w1).mono fun e W' ⟨he, bel⟩ => ?_
  subst he
  exact ⟨_, rfl, _, _, _, [], _, [], hW', trodAll_mk1 (shut_bool Try.underlying4 _), (trodAll_cons_mk (Below.trod laidOut (by kernel_rfl) (of_decide_eq_true (by kernel_rfl)) k0 bel lt0) (trodAll_cons_mk (Below.trod laidOut (by kernel_rfl) (of_decide_eq_true (by kernel_rfl)) k1 bel lt1) (trodAll_cons_mk (Below.trod laidOut (by kernel_rfl) (of_decide_eq_true (by kernel_rfl)) k2 bel lt2) (trodAll_cons_mk (Below.trod laidOut (by kernel_rfl) (of_decide_eq_true (by kernel_rfl)) k3 bel lt3) trodAll_mk0)))), rfl, bel.frame _, fun h => by cases h⟩

theorem over : Rows.fnExactDeliveryDaysRow.holds Try.pinned (OpenSpec.ofChange Rows.fnExactDeliveryDaysSpec) :=
  OpenClaim.holds_of_wide 4 Try.f4 rfl rfl rfl rfl rfl rfl rfl ⟨rfl, rfl, rfl, rfl, rfl⟩ rfl rfl rfl rfl rfl (by kernel_rfl) Try.func4 (by kernel_rfl)
    (of_decide_eq_true (by kernel_rfl)) (by unfold Func.isWrapper; first | (rw [if_pos (by decide +kernel)]; kernel_rfl) | (rw [if_neg (by decide +kernel)]; exact ⟨rfl, rfl⟩))
    (fun os started H enc _ => lifted os started H enc)
end DeliveryDaysLaw

theorem fnExactDeliveryDays_holds : Rows.FnExactDeliveryDaysSaid := DeliveryDaysLaw.over
end Go.Proofs.Ytbgjekhekjbcpab

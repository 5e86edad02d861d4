/-
  For every list of tax rows, place, day and list of lines the law FnExactTaxBook answers true: the program's TaxBook answers as the specification's, writes into no argument, and its answer owns its memory; with no condition.
-/
import Derived.Test.YtaledfdhiimhdakBookF
import Derived.Test.YtaledfdhiimhdakBookH
namespace Go.Proofs.Ytaledfdhiimhdak
open Go.ChangeShapes Go.WideShapes Go.ChangeAt Go.RowKit Go.Joins
open Go.ChangeMaps (open_string shut_string)
set_option linter.unusedVariables false

theorem tbGo_len (rs : List TR) (s : ByteArray) (day : Int) (ls : List TL) : ∃ n : Nat, (tbGo rs s day ls).1.length = n * 4 ∧ n ≤ 9 := by
  unfold tbGo
  split
  · exact ⟨0, rfl, by omega⟩
  split
  · exact ⟨0, rfl, by omega⟩
  split
  · exact ⟨0, rfl, by omega⟩
  split
  · exact ⟨0, rfl, by omega⟩
  split
  · exact ⟨(cls ls).length, bkL_length _ _ _, cls_len ls⟩
  · exact ⟨0, rfl, by omega⟩
theorem lines_apart {D b : Nat} {w w' : World} {ls : List TL} (h : LinesAt w b 0 ls) (ha : Apart D w w') (hne : b ≠ D) (hlt : b < w.heap.size) : LinesAt w' b 0 ls := fun i hi => by
  have e := ha.2 b hne hlt
  exact ⟨(World.cell?_of_block (w := w) (a := ⟨b, 0 + i * 2, none⟩) e).trans (h i hi).1, (World.cell?_of_block (w := w) (a := ⟨b, 0 + i * 2 + 1, none⟩) e).trans (h i hi).2⟩
theorem free_apart {D b n : Nat} {w w' : World} (h : FreeL w b n) (ha : Apart D w w') (hne : b ≠ D) (hlt : b < w.heap.size) : FreeL w' b n := fun i hi => by
  have e := ha.2 b hne hlt
  exact (World.frozen?_of_block (w := w) (a := ⟨b, i, none⟩) e).trans (h i hi)

namespace TaxBookLaw
set_option maxHeartbeats 8000000 in
set_option maxRecDepth 4000 in
theorem walk' (a : Option Addr) (cap : Nat) (rs : List TR) (hl : rs.length ≤ maxLen) (hp : ∀ r ∈ rs, TrWide r) (s : ByteArray) (hs : s.size ≤ maxLen) (day : Int) (la : Option Addr) (lcap : Nat) (ls : List TL) (hll : ls.length ≤ maxLen) (w : World) (hr : ReadsT w.heap.size w a rs) (hL : ReadsL w.heap.size w la ls) :
    Calls Try.prog 3 #[.slice a rs.length cap, .string s, .int .i64 day, .slice la ls.length lcap] w fun e w' => e = .returned (.bool true) ∧ Below w.heap.size w w' := by
  have hs0 := hs
  unfold maxLen at hs
  by_cases hbig : (1048576 : Int) < (s.size : Int)
  · go_enter Try.func3, Try.ntmps3
    go_wp2
    go_ret
    exact ⟨rfl, Below.refl _ _⟩
  have hbig' : (s.size : Int) ≤ 1048576 := by omega
  have HR : Hid (ReadsT w.heap.size w a rs) := hr
  have HL : Hid (ReadsL w.heap.size w la ls) := hL
  have HZ : Hid (∀ w, ReadsT w.heap.size w a rs → Calls Try.prog 4 #[.slice a rs.length cap, .int .i64 1048576] w (SzT rs w)) := fun w h => szRows_any a cap rs hl hp w h
  clear hr hL hp hbig
  go_enter Try.func3, Try.ntmps3
  go_wp2_with (go_at_call 4; refine (HZ.out _ HR.out).mono ?_; rintro e w1 ⟨x, rfl, hx, hb1⟩; have HX : Hid (x < 0 ∨ (0 ≤ x ∧ x ≤ 1048576 ∧ rs.length ≤ 1048576 ∧ ∀ r ∈ rs, TrOK r)) := hx; have B1 : Hid (Below w.heap.size w w1) := hb1; clear hx hb1)
  · go_ret
    exact ⟨rfl, B1.out⟩
  rcases HX.out with h | ⟨h, hx1, hlen, hok⟩
  · omega
  refine (szLines_any la lcap ls hll x h hx1 w1).mono ?_
  rintro e w2 ⟨⟨y, rfl, hy⟩, hw2⟩
  rw [hw2]
  clear hw2 w2
  have HY : Hid (y < 0 ∨ (0 ≤ y ∧ ls.length ≤ 1048576)) := hy
  clear hy HX HZ
  have HOK : Hid (∀ r ∈ rs, TrOK r) := hok
  clear hok
  go_wp2_with fail
  · go_ret
    exact ⟨rfl, B1.out⟩
  rcases HY.out with h' | ⟨h', hlenl⟩
  · omega
  have hS : Hid (∀ a c la lc w, ReadsT w.heap.size w a rs → ReadsL w.heap.size w la ls → Calls Try.prog 6 #[.slice a rs.length c, .string s, .int .i64 day, .slice la ls.length lc] w (TbPost rs s day ls w)) := fun a c la lc w h1 h2 => specBook_any a c rs (by omega) HOK.out s hs0 day la lc ls (by omega) w h1 h2
  have hI : Hid (∀ a c la lc w, ReadsT w.heap.size w a rs → ReadsL w.heap.size w la ls → Calls Try.prog 9 #[.slice a rs.length c, .string s, .int .i64 day, .slice la ls.length lc] w (TbPost rs s day ls w)) := fun a c la lc w h1 h2 => implBook_any a c rs (by omega) HOK.out s hs0 day la lc ls (by omega) w h1 h2
  obtain ⟨n, hn4, hn9⟩ := tbGo_len rs s day ls
  unfold TbPost at hS hI
  rw [hn4, Nat.mul_div_cancel n (by omega : 0 < 4)] at hS hI
  generalize (tbGo rs s day ls).1 = L at *
  generalize (tbGo rs s day ls).2 = q at *
  have hqq : (q != q) = false := by simp
  have hT : Hid (∀ w, ReadsT w.heap.size w a rs → Calls Try.prog 7 #[.slice a rs.length cap] w fun e w' => e = .returned (.slice (some ⟨w.heap.size, 0, none⟩) rs.length rs.length) ∧ Below w.heap.size w w' ∧ w.heap.size < w'.heap.size ∧ RowsAt w' w.heap.size 0 rs ∧ FreeT w' w.heap.size rs.length) := fun w h => toRows_any a cap rs hlen w h
  have hU : Hid (∀ w, ReadsL w.heap.size w la ls → Calls Try.prog 8 #[.slice la ls.length lcap] w fun e w' => e = .returned (.slice (some ⟨w.heap.size, 0, none⟩) ls.length ls.length) ∧ Below w.heap.size w w' ∧ w.heap.size < w'.heap.size ∧ LinesAt w' w.heap.size 0 ls ∧ FreeL w' w.heap.size (ls.length * 2)) := fun w h => toLines_any la lcap ls hlenl w h
  have p1 : (0 : Int) ≤ 1 + (n : Int) * 4 := by omega
  have p2 : (0 : Int) ≤ 1 + (rs.length : Int) * 6 + (ls.length : Int) * 2 := by omega
  clear HY HOK
  (first | go_at_call 7 | skip)
  refine (hT.out w1 ((HR.out.below B1.out).mono B1.out.size)).mono ?_
  rintro e w2 ⟨rfl, hb2, hz2, hi2, hf2⟩
  have B2 : Hid (Below w.heap.size w w2) := chain B1.out hb2
  have R2 : Hid (w1.heap.size < w2.heap.size ∧ RowsAt w2 w1.heap.size 0 rs) := ⟨hz2, hi2⟩
  clear hb2 hz2 hi2 hf2
  go_wp2_with fail
  (first | go_at_call 8 | skip)
  refine (hU.out w2 ((HL.out.below B2.out).mono B2.out.size)).mono ?_
  rintro e w3 ⟨rfl, hb3, hz3, hi3, hf3⟩
  have B3 : Hid (Below w.heap.size w w3) := chain B2.out hb3
  have R3 : Hid (ReadsT w3.heap.size w3 (some ⟨w1.heap.size, 0, none⟩) rs) := .inr ⟨_, _, rfl, Nat.lt_of_lt_of_le R2.out.1 hb3.size, R2.out.2.below hb3 R2.out.1⟩
  have Q3 : Hid (ReadsL w3.heap.size w3 (some ⟨w2.heap.size, 0, none⟩) ls) := .inr ⟨_, _, rfl, hz3, hi3⟩
  clear hb3 hz3 hi3 hf3
  go_wp2_with fail
  (first | go_at_call 6 | skip)
  refine (hS.out _ _ _ _ w3 R3.out Q3.out).mono ?_
  rintro e w4 ⟨gw, cw, rfl, o4, hb4⟩
  have B4 : Hid (Below w.heap.size w w4) := chain B3.out hb4
  have OW4 : Hid (Own2 w3.heap.size w4 gw L) := o4
  have OWlt : Hid (∀ c, gw = some ⟨c, 0, none⟩ → c < w4.heap.size ∨ L = []) := own2_lt o4 (Nat.le_refl _)
  clear hb4 o4
  go_wp2_with fail
  (first | go_at_call 7 | skip)
  refine (hT.out w4 ((HR.out.below B4.out).mono B4.out.size)).mono ?_
  rintro e w5 ⟨rfl, hb5, hz5, hi5, hf5⟩
  have B5 : Hid (Below w.heap.size w w5) := chain B4.out hb5
  have OW5 : Hid (Own2 w3.heap.size w5 gw L) := OW4.out.below hb5 (Nat.le_refl _)
  have XR5 : Hid (w4.heap.size < w5.heap.size ∧ RowsAt w5 w4.heap.size 0 rs ∧ FreeT w5 w4.heap.size rs.length) := ⟨hz5, hi5, hf5⟩
  clear hb5 hz5 hi5 hf5
  go_wp2_with fail
  (first | go_at_call 8 | skip)
  refine (hU.out w5 ((HL.out.below B5.out).mono B5.out.size)).mono ?_
  rintro e w6 ⟨rfl, hb6, hz6, hi6, hf6⟩
  have B6 : Hid (Below w.heap.size w w6) := chain B5.out hb6
  have OW6 : Hid (Own2 w3.heap.size w6 gw L) := OW5.out.below hb6 (Nat.le_refl _)
  have XR6 : Hid (w4.heap.size < w6.heap.size ∧ RowsAt w6 w4.heap.size 0 rs ∧ FreeT w6 w4.heap.size rs.length) := ⟨Nat.lt_of_lt_of_le XR5.out.1 hb6.size, XR5.out.2.1.below hb6 XR5.out.1, XR5.out.2.2.below hb6 XR5.out.1⟩
  have XL6 : Hid (w5.heap.size < w6.heap.size ∧ LinesAt w6 w5.heap.size 0 ls ∧ FreeL w6 w5.heap.size (ls.length * 2)) := ⟨hz6, hi6, hf6⟩
  have Z6 : Hid (w4.heap.size < w5.heap.size ∧ w5.heap.size < w6.heap.size) := ⟨XR5.out.1, hz6⟩
  clear hb6 hz6 hi6 hf6
  go_wp2_with fail
  (first | go_at_call 9 | skip)
  refine (hI.out _ _ _ _ w6 (.inr ⟨_, _, rfl, XR6.out.1, XR6.out.2.1⟩) (.inr ⟨_, _, rfl, XL6.out.1, XL6.out.2.1⟩)).mono ?_
  rintro e w7 ⟨g0, c0, rfl, o7, hb7⟩
  have B7 : Hid (Below w.heap.size w w7) := chain B6.out hb7
  have OW7 : Hid (Own2 w3.heap.size w7 gw L) := OW6.out.below hb7 (Nat.le_refl _)
  have XR7 : Hid (w4.heap.size < w7.heap.size ∧ RowsAt w7 w4.heap.size 0 rs ∧ FreeT w7 w4.heap.size rs.length) := ⟨Nat.lt_of_lt_of_le XR6.out.1 hb7.size, XR6.out.2.1.below hb7 XR6.out.1, XR6.out.2.2.below hb7 XR6.out.1⟩
  have XL7 : Hid (w5.heap.size < w7.heap.size ∧ LinesAt w7 w5.heap.size 0 ls ∧ FreeL w7 w5.heap.size (ls.length * 2)) := ⟨Nat.lt_of_lt_of_le XL6.out.1 hb7.size, XL6.out.2.1.below hb7 XL6.out.1, XL6.out.2.2.below hb7 XL6.out.1⟩
  have OG7 : Hid (Own2 w6.heap.size w7 g0 L) := o7
  have OGn4 : Hid (∀ c, g0 = some ⟨c, 0, none⟩ → c ≠ w4.heap.size ∨ L = []) := own2_ge o7 (by have := Z6.out; omega)
  have OGn5 : Hid (∀ c, g0 = some ⟨c, 0, none⟩ → c ≠ w5.heap.size ∨ L = []) := own2_ge o7 Z6.out.2
  clear hb7 o7
  go_wp2_with fail
  (first | go_at_call 10 | skip)
  refine (eqSums_any g0 gw c0 cw L n hn4 (by omega) w7 OG7.out.reads OW7.out.reads).mono ?_
  rintro e w8 ⟨rfl, hb8⟩
  have B8 : Hid (Below w.heap.size w w8) := chain B7.out hb8
  have OW8 : Hid (Own2 w3.heap.size w8 gw L) := OW7.out.below hb8 (Nat.le_refl _)
  have XR8 : Hid (w4.heap.size < w8.heap.size ∧ RowsAt w8 w4.heap.size 0 rs ∧ FreeT w8 w4.heap.size rs.length) := ⟨Nat.lt_of_lt_of_le XR7.out.1 hb8.size, XR7.out.2.1.below hb8 XR7.out.1, XR7.out.2.2.below hb8 XR7.out.1⟩
  have XL8 : Hid (w5.heap.size < w8.heap.size ∧ LinesAt w8 w5.heap.size 0 ls ∧ FreeL w8 w5.heap.size (ls.length * 2)) := ⟨Nat.lt_of_lt_of_le XL7.out.1 hb8.size, XL7.out.2.1.below hb8 XL7.out.1, XL7.out.2.2.below hb8 XL7.out.1⟩
  have OG8 : Hid (Own2 w6.heap.size w8 g0 L) := OG7.out.below hb8 (Nat.le_refl _)
  clear hb8
  go_wp2_with fail
  (first | go_at_call 7 | skip)
  refine (hT.out w8 ((HR.out.below B8.out).mono B8.out.size)).mono ?_
  rintro e w9 ⟨rfl, hb9, hz9, hi9, hf9⟩
  have B9 : Hid (Below w.heap.size w w9) := chain B8.out hb9
  have OW9 : Hid (Own2 w3.heap.size w9 gw L) := OW8.out.below hb9 (Nat.le_refl _)
  have XR9 : Hid (w4.heap.size < w9.heap.size ∧ RowsAt w9 w4.heap.size 0 rs ∧ FreeT w9 w4.heap.size rs.length) := ⟨Nat.lt_of_lt_of_le XR8.out.1 hb9.size, XR8.out.2.1.below hb9 XR8.out.1, XR8.out.2.2.below hb9 XR8.out.1⟩
  have XL9 : Hid (w5.heap.size < w9.heap.size ∧ LinesAt w9 w5.heap.size 0 ls ∧ FreeL w9 w5.heap.size (ls.length * 2)) := ⟨Nat.lt_of_lt_of_le XL8.out.1 hb9.size, XL8.out.2.1.below hb9 XL8.out.1, XL8.out.2.2.below hb9 XL8.out.1⟩
  have OG9 : Hid (Own2 w6.heap.size w9 g0 L) := OG8.out.below hb9 (Nat.le_refl _)
  have R9 : Hid (ReadsT w9.heap.size w9 (some ⟨w8.heap.size, 0, none⟩) rs) := .inr ⟨_, _, rfl, hz9, hi9⟩
  clear hb9 hz9 hi9 hf9
  go_wp2_with fail
  (first | go_at_call 11 | skip)
  refine (eqRows_any _ _ _ _ rs hlen w9 (.inr ⟨_, _, rfl, XR9.out.1, XR9.out.2.1⟩) R9.out).mono ?_
  rintro e w10 ⟨rfl, hb10⟩
  have B10 : Hid (Below w.heap.size w w10) := chain B9.out hb10
  have OW10 : Hid (Own2 w3.heap.size w10 gw L) := OW9.out.below hb10 (Nat.le_refl _)
  have XR10 : Hid (w4.heap.size < w10.heap.size ∧ RowsAt w10 w4.heap.size 0 rs ∧ FreeT w10 w4.heap.size rs.length) := ⟨Nat.lt_of_lt_of_le XR9.out.1 hb10.size, XR9.out.2.1.below hb10 XR9.out.1, XR9.out.2.2.below hb10 XR9.out.1⟩
  have XL10 : Hid (w5.heap.size < w10.heap.size ∧ LinesAt w10 w5.heap.size 0 ls ∧ FreeL w10 w5.heap.size (ls.length * 2)) := ⟨Nat.lt_of_lt_of_le XL9.out.1 hb10.size, XL9.out.2.1.below hb10 XL9.out.1, XL9.out.2.2.below hb10 XL9.out.1⟩
  have OG10 : Hid (Own2 w6.heap.size w10 g0 L) := OG9.out.below hb10 (Nat.le_refl _)
  clear hb10
  go_wp2_with fail
  (first | go_at_call 8 | skip)
  refine (hU.out w10 ((HL.out.below B10.out).mono B10.out.size)).mono ?_
  rintro e w11 ⟨rfl, hb11, hz11, hi11, hf11⟩
  have B11 : Hid (Below w.heap.size w w11) := chain B10.out hb11
  have OW11 : Hid (Own2 w3.heap.size w11 gw L) := OW10.out.below hb11 (Nat.le_refl _)
  have XR11 : Hid (w4.heap.size < w11.heap.size ∧ RowsAt w11 w4.heap.size 0 rs ∧ FreeT w11 w4.heap.size rs.length) := ⟨Nat.lt_of_lt_of_le XR10.out.1 hb11.size, XR10.out.2.1.below hb11 XR10.out.1, XR10.out.2.2.below hb11 XR10.out.1⟩
  have XL11 : Hid (w5.heap.size < w11.heap.size ∧ LinesAt w11 w5.heap.size 0 ls ∧ FreeL w11 w5.heap.size (ls.length * 2)) := ⟨Nat.lt_of_lt_of_le XL10.out.1 hb11.size, XL10.out.2.1.below hb11 XL10.out.1, XL10.out.2.2.below hb11 XL10.out.1⟩
  have OG11 : Hid (Own2 w6.heap.size w11 g0 L) := OG10.out.below hb11 (Nat.le_refl _)
  have Q11 : Hid (ReadsL w11.heap.size w11 (some ⟨w10.heap.size, 0, none⟩) ls) := .inr ⟨_, _, rfl, hz11, hi11⟩
  clear hb11 hz11 hi11 hf11
  go_wp2_with fail
  (first | go_at_call 12 | skip)
  refine (eqLines_any _ _ _ _ ls hlenl w11 (.inr ⟨_, _, rfl, XL11.out.1, XL11.out.2.1⟩) Q11.out).mono ?_
  rintro e w12 ⟨rfl, hb12⟩
  have B12 : Hid (Below w.heap.size w w12) := chain B11.out hb12
  have OW12 : Hid (Own2 w3.heap.size w12 gw L) := OW11.out.below hb12 (Nat.le_refl _)
  have XR12 : Hid (w4.heap.size < w12.heap.size ∧ RowsAt w12 w4.heap.size 0 rs ∧ FreeT w12 w4.heap.size rs.length) := ⟨Nat.lt_of_lt_of_le XR11.out.1 hb12.size, XR11.out.2.1.below hb12 XR11.out.1, XR11.out.2.2.below hb12 XR11.out.1⟩
  have XL12 : Hid (w5.heap.size < w12.heap.size ∧ LinesAt w12 w5.heap.size 0 ls ∧ FreeL w12 w5.heap.size (ls.length * 2)) := ⟨Nat.lt_of_lt_of_le XL11.out.1 hb12.size, XL11.out.2.1.below hb12 XL11.out.1, XL11.out.2.2.below hb12 XL11.out.1⟩
  have OG12 : Hid (Own2 w6.heap.size w12 g0 L) := OG11.out.below hb12 (Nat.le_refl _)
  clear hb12
  go_wp2_with fail
  (first | go_at_call 13 | skip)
  refine (markRows_any w4.heap.size rs.length rs.length hlen w12 (Mk.start XR12.out.1 (rows_some XR12.out.2.1) XR12.out.2.2)).mono ?_
  rintro e w13 ⟨rfl, hm13⟩
  have B13 : Hid (Below w.heap.size w w13) := B12.out.trans (hm13.1.1.mono B4.out.size)
  have OW13 : Hid (Own2 w3.heap.size w13 gw L) := own2_low OW12.out hm13.1.1 OWlt.out
  have OG13 : Hid (Own2 w6.heap.size w13 g0 L) := own2_apart OG12.out hm13.1.2 OGn4.out
  have XL13 : Hid (w5.heap.size < w13.heap.size ∧ LinesAt w13 w5.heap.size 0 ls ∧ FreeL w13 w5.heap.size (ls.length * 2)) := ⟨Nat.lt_of_lt_of_le XL12.out.1 hm13.1.2.1, lines_apart XL12.out.2.1 hm13.1.2 (by have := Z6.out; omega) XL12.out.1, free_apart XL12.out.2.2 hm13.1.2 (by have := Z6.out; omega) XL12.out.1⟩
  clear hm13
  go_wp2_with fail
  (first | go_at_call 14 | skip)
  refine (markLines_any w5.heap.size ls.length ls.length hlenl (1 + (rs.length : Int) * 6) (by omega) (by omega) w13 (Mk.start XL13.out.1 (lines_some XL13.out.2.1) XL13.out.2.2)).mono ?_
  rintro e w14 ⟨rfl, hm14⟩
  have B14 : Hid (Below w.heap.size w w14) := B13.out.trans (hm14.1.1.mono B5.out.size)
  have OW14 : Hid (Own2 w3.heap.size w14 gw L) := own2_low OW13.out hm14.1.1 (fun c h => (OWlt.out c h).imp (fun h => Nat.lt_trans h Z6.out.1) id)
  have OG14 : Hid (Own2 w6.heap.size w14 g0 L) := own2_apart OG13.out hm14.1.2 OGn5.out
  clear hm14
  go_wp2_with fail
  (first | go_at_call 10 | skip)
  refine (eqSums_any g0 gw c0 cw L n hn4 (by omega) w14 OG14.out.reads OW14.out.reads).mono ?_
  rintro e w15 ⟨rfl, hb15⟩
  have B15 : Hid (Below w.heap.size w w15) := chain B14.out hb15
  have OW15 : Hid (Own2 w3.heap.size w15 gw L) := OW14.out.below hb15 (Nat.le_refl _)
  have OG15 : Hid (Own2 w6.heap.size w15 g0 L) := OG14.out.below hb15 (Nat.le_refl _)
  clear hb15
  go_wp2_with fail
  (first | go_at_call 15 | skip)
  refine (markSums_own w6.heap.size g0 c0 L n hn4 (by omega) 1 (by omega) (by omega) w15 OG15.out).mono ?_
  rintro e w16 ⟨rfl, hb16, hz16, om16⟩
  have B16 : Hid (Below w.heap.size w w16) := B15.out.trans (hb16.mono B6.out.size)
  have OW16 : Hid (Own2 w3.heap.size w16 gw L) := own2_low OW15.out hb16 (fun c h => (OWlt.out c h).imp (fun h => Nat.lt_trans h (Nat.lt_trans Z6.out.1 Z6.out.2)) id)
  have OG16 : Hid (Own2 w6.heap.size w16 g0 (marks 1 (n * 4))) := om16
  clear hb16 hz16 om16
  go_wp2_with fail
  (first | go_at_call 16 | skip)
  refine (heldSums_own w6.heap.size g0 c0 n (by omega) 1 (by omega) (by omega) w16 OG16.out).mono ?_
  rintro e w17 ⟨rfl, hw17⟩
  rw [hw17]
  clear hw17 w17
  go_wp2_with fail
  (first | go_at_call 7 | skip)
  refine (hT.out w16 ((HR.out.below B16.out).mono B16.out.size)).mono ?_
  rintro e w17 ⟨rfl, hb17, hz17, hi17, hf17⟩
  have B17 : Hid (Below w.heap.size w w17) := chain B16.out hb17
  have OW17 : Hid (Own2 w3.heap.size w17 gw L) := OW16.out.below hb17 (Nat.le_refl _)
  have OG17 : Hid (Own2 w6.heap.size w17 g0 (marks 1 (n * 4))) := OG16.out.below hb17 (Nat.le_refl _)
  have R17 : Hid (w16.heap.size < w17.heap.size ∧ RowsAt w17 w16.heap.size 0 rs) := ⟨hz17, hi17⟩
  clear hb17 hz17 hi17 hf17
  go_wp2_with fail
  (first | go_at_call 8 | skip)
  refine (hU.out w17 ((HL.out.below B17.out).mono B17.out.size)).mono ?_
  rintro e w18 ⟨rfl, hb18, hz18, hi18, hf18⟩
  have B18 : Hid (Below w.heap.size w w18) := chain B17.out hb18
  have OW18 : Hid (Own2 w3.heap.size w18 gw L) := OW17.out.below hb18 (Nat.le_refl _)
  have OG18 : Hid (Own2 w6.heap.size w18 g0 (marks 1 (n * 4))) := OG17.out.below hb18 (Nat.le_refl _)
  have R18 : Hid (ReadsT w18.heap.size w18 (some ⟨w16.heap.size, 0, none⟩) rs) := .inr ⟨_, _, rfl, Nat.lt_of_lt_of_le R17.out.1 hb18.size, R17.out.2.below hb18 R17.out.1⟩
  have Q18 : Hid (ReadsL w18.heap.size w18 (some ⟨w17.heap.size, 0, none⟩) ls) := .inr ⟨_, _, rfl, hz18, hi18⟩
  clear hb18 hz18 hi18 hf18
  go_wp2_with fail
  (first | go_at_call 9 | skip)
  refine (hI.out _ _ _ _ w18 R18.out Q18.out).mono ?_
  rintro e w19 ⟨h0, ch, rfl, o19, hb19⟩
  have B19 : Hid (Below w.heap.size w w19) := chain B18.out hb19
  have OW19 : Hid (Own2 w3.heap.size w19 gw L) := OW18.out.below hb19 (Nat.le_refl _)
  have OG19 : Hid (Own2 w6.heap.size w19 g0 (marks 1 (n * 4))) := OG18.out.below hb19 (Nat.le_refl _)
  have OH19 : Hid (Own2 w18.heap.size w19 h0 L) := o19
  clear hb19 o19
  go_wp2_with fail
  (first | go_at_call 10 | skip)
  refine (eqSums_any h0 gw ch cw L n hn4 (by omega) w19 OH19.out.reads OW19.out.reads).mono ?_
  rintro e w20 ⟨rfl, hb20⟩
  have B20 : Hid (Below w.heap.size w w20) := chain B19.out hb20
  have OG20 : Hid (Own2 w6.heap.size w20 g0 (marks 1 (n * 4))) := OG19.out.below hb20 (Nat.le_refl _)
  clear hb20
  go_wp2_with fail
  (first | go_at_call 16 | skip)
  refine (heldSums_own w6.heap.size g0 c0 n (by omega) 1 (by omega) (by omega) w20 OG20.out).mono ?_
  rintro e w21 ⟨rfl, hw21⟩
  rw [hw21]
  clear hw21 w21
  go_wp2
  go_ret
  exact ⟨rfl, B20.out⟩

theorem walk (a : Option Addr) (len cap : Nat) (rs : List TR) (s : ByteArray) (hs : s.size ≤ maxLen) (day : Int) (hd : (Lit.int .i64 day).wf = true) (la : Option Addr) (llen lcap : Nat) (ls : List TL) (w : World) (h : IsTaxRows w a len cap rs) (hL : IsTaxLines w la llen lcap ls) :
    Calls Try.prog 3 #[.slice a len cap, .string s, .int .i64 day, .slice la llen lcap] w fun e w' => e = .returned (.bool true) ∧ Below w.heap.size w w' := by
  obtain ⟨rfl, h2, h3, h4, h5⟩ := h
  obtain ⟨rfl, k2, k3, k5⟩ := hL
  exact walk' a cap rs (Nat.le_trans h2 h3) h4 s hs day la lcap ls (Nat.le_trans k2 k3) w h5 k5

theorem own : ownKnob Try.prog.godebug = none := by kernel_rfl
theorem laidOut : laidOutB Try.prog = true := by kernel_rfl

set_option maxRecDepth 100000 in
theorem lifted (os : Os) (started : os.Started) (H : Type) (enc : TypeId × Value → H) :
    ReturnsInHanded {} Try.checked os 3 .any (Rows.fnExactTaxBookSpec.pre6 enc Try.prog Try.f3 Rows.fnExactTaxBookRow.domain false) (Rows.fnExactTaxBookSpec.post enc Try.prog Try.f3 false true false false) := by
  refine returnsInHanded_of_change (C := Try.checked) own started (by kernel_rfl) Try.func3
    (ChangeSpec.witness6 (enc := enc) (C := Try.checked) false ⟨#[], #[.slice none 0 0, .string ByteArray.empty, .int .i64 0, .slice none 0 0], []⟩ 8 (by kernel_rfl) (by kernel_rfl) (by kernel_rfl) (by kernel_rfl)) ?_
  intro W base args ds gs before hval0 hW hcnd _
  have hval : ∀ (j : Nat) t v, Try.f3.params[j]? = some t → args[j]? = some v → Value.okWide Try.prog W .any base t v := hval0
  have hW' := hW
  obtain ⟨p, q, hA0, hV, rfl, hfz, hnd⟩ := hW
  have hA : DataW.TrodAll enc Try.prog W 0 (fun _ => true) true Try.f3.params.toList args.toList ds p := hA0
  rw [Try.params3] at hA hval
  obtain ⟨v0, vs0, d0, ds0, p0, q0, hargs, rfl, rfl, h0, r0⟩ := trodAll_cons hA
  obtain ⟨v1, vs1, d1, ds1, p1, q1, rfl, rfl, rfl, h1, r1⟩ := trodAll_cons r0
  obtain ⟨v2, vs2, d2, ds2, p2, q2, rfl, rfl, rfl, h2, r2⟩ := trodAll_cons r1
  obtain ⟨v3, vs3, d3, ds3, p3, q3, rfl, rfl, rfl, h3, r3⟩ := trodAll_cons r2
  obtain ⟨rfl, rfl, rfl⟩ := trodAll_nil r3
  obtain rfl : args = #[v0, v1, v2, v3] := by cases args; simp_all
  obtain ⟨rfl, rfl⟩ := trodVars_none hV
  have k0 := h0
  have lt0 : ∀ x ∈ p0, x.block < W.heap.size := by obtain ⟨m, hm⟩ := k0; exact DataW.trod_lt m _ _ _ hm
  have k1 := h1
  have lt1 : ∀ x ∈ p1, x.block < W.heap.size := by obtain ⟨m, hm⟩ := k1; exact DataW.trod_lt m _ _ _ hm
  have k2 := h2
  have lt2 : ∀ x ∈ p2, x.block < W.heap.size := by obtain ⟨m, hm⟩ := k2; exact DataW.trod_lt m _ _ _ hm
  have k3 := h3
  have lt3 : ∀ x ∈ p3, x.block < W.heap.size := by obtain ⟨m, hm⟩ := k3; exact DataW.trod_lt m _ _ _ hm
  obtain ⟨a0, len0, cap0, rfl⟩ := okWide_slice Try.underlying22 (hval 0 22 v0 rfl rfl)
  obtain ⟨z0, w0⟩ : ∃ zs, IsTaxRows W a0 len0 cap0 zs := by
    obtain ⟨fuel, hf⟩ := h0
    exact openTaxRows (by simpa [Value.cells] using hf)
  obtain ⟨a1, rfl, rfl, rfl, w1⟩ := open_string Try.underlying9 (hval 1 9 v1 rfl rfl) h1
  obtain ⟨a2, rfl, rfl, rfl, w2⟩ := open_int Try.underlying3 (hval 2 3 v2 rfl rfl) h2
  obtain ⟨a3, len3, cap3, rfl⟩ := okWide_slice Try.underlying23 (hval 3 23 v3 rfl rfl)
  obtain ⟨z3, w3⟩ : ∃ zs, IsTaxLines W a3 len3 cap3 zs := by
    obtain ⟨fuel, hf⟩ := h3
    exact openTaxLines (by simpa [Value.cells] using hf)
  clear hA0 hval0
  refine (walk a0 len0 cap0 z0 a1 w1 a2 w2 a3 len3 cap3 z3 W w0 w3).mono fun e W' ⟨he, bel⟩ => ?_
  subst he
  exact ⟨_, rfl, _, _, _, [], _, [], hW', trodAll_mk1 (shut_bool Try.underlying4 _), (trodAll_cons_mk (Below.trod laidOut (by kernel_rfl) (of_decide_eq_true (by kernel_rfl)) k0 bel lt0) (trodAll_cons_mk (Below.trod laidOut (by kernel_rfl) (of_decide_eq_true (by kernel_rfl)) k1 bel lt1) (trodAll_cons_mk (Below.trod laidOut (by kernel_rfl) (of_decide_eq_true (by kernel_rfl)) k2 bel lt2) (trodAll_cons_mk (Below.trod laidOut (by kernel_rfl) (of_decide_eq_true (by kernel_rfl)) k3 bel lt3) trodAll_mk0)))), rfl, bel.frame _, fun h => by cases h⟩

theorem over : Rows.fnExactTaxBookRow.holds Try.pinned (OpenSpec.ofChange Rows.fnExactTaxBookSpec) :=
  OpenClaim.holds_of_wide 3 Try.f3 rfl rfl rfl rfl rfl rfl rfl ⟨rfl, rfl, rfl, rfl, rfl⟩ rfl rfl rfl rfl rfl (by kernel_rfl) Try.func3 (by kernel_rfl)
    (of_decide_eq_true (by kernel_rfl)) (by unfold Func.isWrapper; first | (rw [if_pos (by decide +kernel)]; kernel_rfl) | (rw [if_neg (by decide +kernel)]; exact ⟨rfl, rfl⟩))
    (fun os started H enc _ => lifted os started H enc)
end TaxBookLaw

theorem fnExactTaxBook_holds : Rows.FnExactTaxBookSaid := TaxBookLaw.over
end Go.Proofs.Ytaledfdhiimhdak

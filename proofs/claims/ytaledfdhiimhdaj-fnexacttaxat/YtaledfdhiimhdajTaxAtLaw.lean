/-
  For every list of tax rows, class, place and day the law FnExactTaxAt answers true: the program's TaxAt answers as the specification's and writes into no argument; with no condition.
-/
import Derived.Test.YtaledfdhiimhdajTaxH
import Derived.Test.YtaledfdhiimhdajTaxF
namespace Go.Proofs.Ytaledfdhiimhdaj
open Go.ChangeShapes Go.WideShapes Go.ChangeAt Go.RowKit Go.Joins
open Go.ChangeMaps (open_string shut_string)
set_option linter.unusedVariables false

theorem later1 {W w1 : World} {b : Nat} {rs : List TR} (h : b < W.heap.size ∧ RowsAt W b 0 rs) (hb : Below W.heap.size W w1) : b < w1.heap.size ∧ RowsAt w1 b 0 rs :=
  ⟨Nat.lt_of_lt_of_le h.1 hb.size, h.2.below hb h.1⟩
theorem sizeOne {w3 w4 : World} {o : Obj} {rs : List TR} (h : (w3.alloc o).heap.size < w4.heap.size) (hi : RowsAt w4 (w3.alloc o).heap.size 0 rs) : w3.heap.size + 1 < w4.heap.size ∧ RowsAt w4 (w3.heap.size + 1) 0 rs := by
  have e : (w3.alloc o).heap.size = w3.heap.size + 1 := by simp
  rw [e] at h hi
  exact ⟨h, hi⟩
theorem rateNew {w W : World} {n d : Int} (hb : Below (w.alloc (Obj.cells #[.int .i64 n, .int .i64 d] 45)).heap.size (w.alloc (Obj.cells #[.int .i64 n, .int .i64 d] 45)) W) :
    W.cell? ⟨w.heap.size, 0, none⟩ = some (.int .i64 n) ∧ W.cell? ⟨w.heap.size, 1, none⟩ = some (.int .i64 d) ∧ w.heap.size < W.heap.size := by
  obtain ⟨hc, hf, hz⟩ := bfacts hb
  have l : w.heap.size < (w.alloc (Obj.cells #[.int .i64 n, .int .i64 d] 45)).heap.size := by simp
  have e : (w.alloc (Obj.cells #[.int .i64 n, .int .i64 d] 45)).heap[w.heap.size]? = some (.cells #[.int .i64 n, .int .i64 d] 45 (0, 0)) := heapNew w _
  refine ⟨?_, ?_, hz _ l⟩
  · rw [hc _ _ l, cell_of_row _ _ _ _ _ _ e]; rfl
  · rw [hc _ _ l, cell_of_row _ _ _ _ _ _ e]; rfl

namespace TaxAtLaw
set_option maxHeartbeats 8000000 in
set_option maxRecDepth 4000 in
theorem walk' (a : Option Addr) (cap : Nat) (rs : List TR) (hl : rs.length ≤ maxLen) (hp : ∀ r ∈ rs, TrWide r) (c : Int) (hc : (Lit.int .i64 c).wf = true) (s : ByteArray) (hs : s.size ≤ maxLen) (day : Int) (w : World) (hr : ReadsT w.heap.size w a rs) :
    Calls Try.prog 6 #[.slice a rs.length cap, .int .i64 c, .string s, .int .i64 day] w fun e w' => e = .returned (.bool true) ∧ Below w.heap.size w w' := by
  have hk : KeyOK c s := ⟨hc, hs⟩
  unfold maxLen at hs
  by_cases hbig : (1048576 : Int) < (s.size : Int)
  · go_enter Try.func6, Try.ntmps6
    go_wp2
    go_ret
    exact ⟨rfl, Below.refl _ _⟩
  have hbig' : (s.size : Int) ≤ 1048576 := by omega
  have HR : Hid (ReadsT w.heap.size w a rs) := hr
  have HZ : Hid (∀ w, ReadsT w.heap.size w a rs → Calls Try.prog 19 #[.slice a rs.length cap, .int .i64 1048576] w (SzT rs w)) := fun w h => szRows_any a cap rs hl hp w h
  clear hr hp hbig
  go_enter Try.func6, Try.ntmps6
  go_wp2_with (go_at_call 19; refine (HZ.out _ HR.out).mono ?_; rintro e w1 ⟨x, rfl, hx, hb1⟩; have HX : Hid (x < 0 ∨ (0 ≤ x ∧ x ≤ 1048576 ∧ rs.length ≤ 1048576 ∧ ∀ r ∈ rs, TrOK r)) := hx; have B1 : Hid (Below w.heap.size w w1) := hb1; clear hx hb1)
  · go_ret
    exact ⟨rfl, B1.out⟩
  · rcases HX.out with h | ⟨h, _, hlen, hok⟩
    · omega
    have HOK : Hid (∀ r ∈ rs, TrOK r) := hok
    have hS := fun a c' w h => specTaxAt_any a c' rs (by omega) HOK.out c s hk day w h
    have hI := fun a c' w h => implTaxAt_any a c' rs (by omega) HOK.out c s hk day w h
    have hT := fun w h => toRows_any a cap rs hlen w h
    unfold RateV at hS hI
    generalize oN (taRow rs c s day) = n at *
    generalize oD (taRow rs c s day) = d at *
    generalize taCode rs c s day = q at *
    have hqq : (q != q) = false := by simp
    have hE := fun w => eqRate_any n d w
    clear hok HX hk
    refine (hT w1 ((HR.out.below B1.out).mono B1.out.size)).mono ?_
    rintro e w2 ⟨rfl, hb2, hz2, hi2, _⟩
    have B2 : Hid (Below w.heap.size w w2) := chain B1.out hb2
    have X2 : Hid (w1.heap.size < w2.heap.size ∧ RowsAt w2 w1.heap.size 0 rs) := ⟨hz2, hi2⟩
    clear hb2 hz2 hi2
    go_wp2_with (first
      | (go_at_call 24; refine (hS _ _ w2 (.inr ⟨_, _, rfl, X2.out.1, X2.out.2⟩)).mono ?_; rintro e w3 ⟨rfl, hb3⟩; have B3 : Hid (Below w.heap.size w w3) := chain B2.out hb3; clear hb3)
      | (go_at_call 23; refine (eqRows_any _ _ _ _ rs hlen w7 (.inr ⟨_, _, rfl, X7.out.1, X7.out.2⟩) R7.out).mono ?_; rintro e w8 ⟨rfl, hb8⟩; have B8 : Hid (Below w.heap.size w w8) := chain B7.out hb8; clear hb8)
      | (go_at_call 21; have G6 := X6; refine (hT w6 ((HR.out.below B6.out).mono B6.out.size)).mono ?_; rintro e w7 ⟨rfl, hb7, hz7, hi7, _⟩; have B7 : Hid (Below w.heap.size w w7) := chain B6.out hb7; have X7 : Hid (w3.heap.size + 1 < w7.heap.size ∧ RowsAt w7 (w3.heap.size + 1) 0 rs) := ⟨Nat.lt_of_lt_of_le X6.out.1 hb7.size, X6.out.2.below hb7 X6.out.1⟩; have R7 : Hid (ReadsT w7.heap.size w7 (some ⟨w6.heap.size, 0, none⟩) rs) := .inr ⟨_, _, rfl, hz7, hi7⟩; clear hb7 hz7 hi7)
      | (go_at_call 26; refine (hE _).mono ?_; rintro e w6 ⟨rfl, hb6⟩; have B6 : Hid (Below w.heap.size w w6) := chain (chain B5.out (below_alloc _ _)) hb6; have X6 : Hid (w3.heap.size + 1 < w6.heap.size ∧ RowsAt w6 (w3.heap.size + 1) 0 rs) := later1 X5.out (chain (below_alloc _ _) hb6); clear hb6)
      | (go_at_call 25; refine (hI _ _ w4 (.inr ⟨_, _, rfl, X4.out.1, X4.out.2⟩)).mono ?_; rintro e w5 ⟨rfl, hb5⟩; have B5 : Hid (Below w.heap.size w w5) := chain B4.out hb5; have X5 : Hid (w3.heap.size + 1 < w5.heap.size ∧ RowsAt w5 (w3.heap.size + 1) 0 rs) := later1 X4.out hb5; obtain ⟨m0, m1, mlt⟩ := rateNew (chain Y4.out hb5); have mne : w3.heap.size ≠ w5.heap.size := (by omega); clear hb5)
      | (go_at_call 21; have G3 := B3; refine (hT _ ((HR.out.below (chain B3.out (below_alloc _ _))).mono (chain B3.out (below_alloc _ _)).size)).mono ?_; rintro e w4 ⟨rfl, hb4, hz4, hi4, _⟩; have B4 : Hid (Below w.heap.size w w4) := chain (chain B3.out (below_alloc _ _)) hb4; have Y4 : Hid (Below (w3.alloc (Obj.cells #[.int .i64 n, .int .i64 d] 45)).heap.size (w3.alloc (Obj.cells #[.int .i64 n, .int .i64 d] 45)) w4) := hb4; have X4 : Hid (w3.heap.size + 1 < w4.heap.size ∧ RowsAt w4 (w3.heap.size + 1) 0 rs) := sizeOne hz4 hi4; clear hb4 hz4 hi4))
    go_ret
    exact ⟨rfl, B8.out⟩

theorem walk (a : Option Addr) (len cap : Nat) (rs : List TR) (c : Int) (hc : (Lit.int .i64 c).wf = true) (s : ByteArray) (hs : s.size ≤ maxLen) (day : Int) (hd : (Lit.int .i64 day).wf = true) (w : World) (h : IsTaxRows w a len cap rs) :
    Calls Try.prog 6 #[.slice a len cap, .int .i64 c, .string s, .int .i64 day] w fun e w' => e = .returned (.bool true) ∧ Below w.heap.size w w' := by
  obtain ⟨rfl, h2, h3, h4, h5⟩ := h
  exact walk' a cap rs (Nat.le_trans h2 h3) h4 c hc s hs day w h5

theorem own : ownKnob Try.prog.godebug = none := by kernel_rfl
theorem laidOut : laidOutB Try.prog = true := by kernel_rfl

set_option maxRecDepth 100000 in
theorem lifted (os : Os) (started : os.Started) (H : Type) (enc : TypeId × Value → H) :
    ReturnsInHanded {} Try.checked os 6 .any (Rows.fnExactTaxAtSpec.pre6 enc Try.prog Try.f6 Rows.fnExactTaxAtRow.domain false) (Rows.fnExactTaxAtSpec.post enc Try.prog Try.f6 false true false false) := by
  refine returnsInHanded_of_change (C := Try.checked) own started (by kernel_rfl) Try.func6
    (ChangeSpec.witness6 (enc := enc) (C := Try.checked) false ⟨#[], #[.slice none 0 0, .int .i64 0, .string ByteArray.empty, .int .i64 0], []⟩ 8 (by kernel_rfl) (by kernel_rfl) (by kernel_rfl) (by kernel_rfl)) ?_
  intro W base args ds gs before hval0 hW hcnd _
  have hval : ∀ (j : Nat) t v, Try.f6.params[j]? = some t → args[j]? = some v → Value.okWide Try.prog W .any base t v := hval0
  have hW' := hW
  obtain ⟨p, q, hA0, hV, rfl, hfz, hnd⟩ := hW
  have hA : DataW.TrodAll enc Try.prog W 0 (fun _ => true) true Try.f6.params.toList args.toList ds p := hA0
  rw [Try.params6] at hA hval
  obtain ⟨v0, vs0, d0, ds0, p0, q0, hargs, rfl, rfl, h0, r0⟩ := trodAll_cons hA
  obtain ⟨v1, vs1, d1, ds1, p1, q1, rfl, rfl, rfl, h1, r1⟩ := trodAll_cons r0
  obtain ⟨v2, vs2, d2, ds2, p2, q2, rfl, rfl, rfl, h2, r2⟩ := trodAll_cons r1
  obtain ⟨v3, vs3, d3, ds3, p3, q3, rfl, rfl, rfl, h3, r3⟩ := trodAll_cons r2
  obtain ⟨rfl, rfl, rfl⟩ := trodAll_nil r3
  obtain rfl : args = #[v0, v1, v2, v3] := by cases args; simp_all
  obtain ⟨rfl, rfl⟩ := trodVars_none hV
  have k0 := h0
  have lt0 : ∀ x ∈ p0, x.block < W.heap.size := by obtain ⟨m, hm⟩ := k0; exact DataW.trod_lt m _ _ _ hm
  have k1 := h1
  have lt1 : ∀ x ∈ p1, x.block < W.heap.size := by obtain ⟨m, hm⟩ := k1; exact DataW.trod_lt m _ _ _ hm
  have k2 := h2
  have lt2 : ∀ x ∈ p2, x.block < W.heap.size := by obtain ⟨m, hm⟩ := k2; exact DataW.trod_lt m _ _ _ hm
  have k3 := h3
  have lt3 : ∀ x ∈ p3, x.block < W.heap.size := by obtain ⟨m, hm⟩ := k3; exact DataW.trod_lt m _ _ _ hm
  obtain ⟨a0, len0, cap0, rfl⟩ := okWide_slice Try.underlying37 (hval 0 37 v0 rfl rfl)
  obtain ⟨z0, w0⟩ : ∃ zs, IsTaxRows W a0 len0 cap0 zs := by
    obtain ⟨fuel, hf⟩ := h0
    exact openTaxRows (by simpa [Value.cells] using hf)
  obtain ⟨a1, rfl, rfl, rfl, w1⟩ := open_int Try.underlying3 (hval 1 3 v1 rfl rfl) h1
  obtain ⟨a2, rfl, rfl, rfl, w2⟩ := open_string Try.underlying9 (hval 2 9 v2 rfl rfl) h2
  obtain ⟨a3, rfl, rfl, rfl, w3⟩ := open_int Try.underlying3 (hval 3 3 v3 rfl rfl) h3
  clear hA0 hval0
  refine (walk a0 len0 cap0 z0 a1 w1 a2 w2 a3 w3 W w0).mono fun e W' ⟨he, bel⟩ => ?_
  subst he
  exact ⟨_, rfl, _, _, _, [], _, [], hW', trodAll_mk1 (shut_bool Try.underlying4 _), (trodAll_cons_mk (Below.trod laidOut (by kernel_rfl) (of_decide_eq_true (by kernel_rfl)) k0 bel lt0) (trodAll_cons_mk (Below.trod laidOut (by kernel_rfl) (of_decide_eq_true (by kernel_rfl)) k1 bel lt1) (trodAll_cons_mk (Below.trod laidOut (by kernel_rfl) (of_decide_eq_true (by kernel_rfl)) k2 bel lt2) (trodAll_cons_mk (Below.trod laidOut (by kernel_rfl) (of_decide_eq_true (by kernel_rfl)) k3 bel lt3) trodAll_mk0)))), rfl, bel.frame _, fun h => by cases h⟩

theorem over : Rows.fnExactTaxAtRow.holds Try.pinned (OpenSpec.ofChange Rows.fnExactTaxAtSpec) :=
  OpenClaim.holds_of_wide 6 Try.f6 rfl rfl rfl rfl rfl rfl rfl ⟨rfl, rfl, rfl, rfl, rfl⟩ rfl rfl rfl rfl rfl (by kernel_rfl) Try.func6 (by kernel_rfl)
    (of_decide_eq_true (by kernel_rfl)) (by unfold Func.isWrapper; first | (rw [if_pos (by decide +kernel)]; kernel_rfl) | (rw [if_neg (by decide +kernel)]; exact ⟨rfl, rfl⟩))
    (fun os started H enc _ => lifted os started H enc)
end TaxAtLaw

theorem fnExactTaxAt_holds : Rows.FnExactTaxAtSaid := TaxAtLaw.over
end Go.Proofs.Ytaledfdhiimhdaj

/-
  Contracts of the specification's l06Bounds and l06Least.
-/
import Derived.Test.YthkmgccmeoigpaaRuD
import Derived.Test.YthkmgccmeoigpaaRoC
import Derived.Test.YthkmgccmeoigpaaRow1
namespace Go.Proofs.Ythkmgccmeoigpaa
open Go.ChangeShapes Go.WideShapes Go.ChangeAt Go.RowKit Go.Deep
set_option linter.unusedVariables false

theorem step_ways (f : Int) (t : RTm) (l0 h0 l1 h1 : Int) (e1 : l1 = stepL f l0 t) (e2 : h1 = stepH f h0 t) : ((t.fd == f) = false ∧ l1 = l0 ∧ h1 = h0) ∨ (t.fd = f ∧ t.op = 2 ∧ l1 = l0 ∧ h1 = min h0 t.nu) ∨ (t.fd = f ∧ t.op = 1 ∧ l1 = max l0 t.nu ∧ h1 = h0) ∨ (t.fd = f ∧ (t.op == 2) = false ∧ (t.op == 1) = false ∧ l1 = max l0 t.nu ∧ h1 = min h0 t.nu) := by
  unfold stepL at e1
  unfold stepH at e2
  by_cases hf : t.fd = f
  · rcases (by omega : t.op = 2 ∨ t.op = 1 ∨ (t.op ≠ 2 ∧ t.op ≠ 1)) with h | h | ⟨h, h'⟩
    · rw [if_neg (by omega)] at e1; rw [if_pos (by omega)] at e2
      exact .inr (.inl ⟨hf, h, e1, e2⟩)
    · rw [if_pos (by omega)] at e1; rw [if_neg (by omega)] at e2
      exact .inr (.inr (.inl ⟨hf, h, e1, e2⟩))
    · rw [if_pos (by omega)] at e1; rw [if_pos (by omega)] at e2
      exact .inr (.inr (.inr ⟨hf, by simpa using h, by simpa using h', e1, e2⟩))
  · rw [if_neg (by omega)] at e1; rw [if_neg (by omega)] at e2
    exact .inl ⟨by simpa using hf, e1, e2⟩
theorem lowT_take (f : Int) (ts : List RTm) (k : Nat) (h : k < ts.length) : lowT f (ts.take (k + 1)) = stepL f (lowT f (ts.take k)) (ts.getD k zTm) := by
  have e : ts.getD k zTm = ts[k] := by simp [List.getD_eq_getElem?_getD, h]
  rw [List.take_succ_eq_append_getElem h, e, lowT_snoc]
theorem highT_take (f : Int) (ts : List RTm) (k : Nat) (h : k < ts.length) : highT f (ts.take (k + 1)) = stepH f (highT f (ts.take k)) (ts.getD k zTm) := by
  have e : ts.getD k zTm = ts[k] := by simp [List.getD_eq_getElem?_getD, h]
  rw [List.take_succ_eq_append_getElem h, e, highT_snoc]
set_option maxHeartbeats 8000000 in
theorem bounds_any (a : Option Addr) (cap : Nat) (ts : List RTm) (hl : ts.length ≤ 100000000) (m : Nat) (hm : 1 ≤ m) (hm' : m ≤ 5) (w : World) (hr : ReadsTm w.heap.size w a ts) :
    Calls Try.prog 72 #[.slice a ts.length cap, .int .i64 (m : Int)] w fun e w' => e = .returned (.tuple #[.int .i64 (lowT (m : Int) ts), .int .i64 (highT (m : Int) ts)]) ∧ Below w.heap.size w w' := by
  have HR : Hid (ReadsTm w.heap.size w a ts) := hr
  have hL := fun W => low_any m hm hm' W
  have hG := fun W => high_any m hm hm' W
  clear hr
  go_enter Try.func72, Try.ntmps72
  go_wp2_with (first | (go_at_call 75; refine (hL _).mono ?_; rintro e w1 ⟨rfl, hb1⟩) | (go_at_call 76; refine (hG _).mono ?_; rintro e w2 ⟨rfl, hb2⟩))
  have H0 : Hid (Below w.heap.size w w2) := chain hb1 hb2
  clear hb1 hb2 hL hG
  go_loopw [6, 7, 8, 9] (fun l h c _ wr => ∃ k : Nat, k ≤ ts.length ∧ c = .int .i64 (k : Int) ∧ l = .int .i64 (lowT (m : Int) (ts.take k)) ∧ h = .int .i64 (highT (m : Int) (ts.take k)) ∧ Below w.heap.size w wr) (fun _ _ c _ _ => ts.length - (intOf c).toNat)
  case atStart => exact ⟨0, Nat.zero_le _, rfl, rfl, rfl, H0.out⟩
  case round =>
    obtain ⟨k, hk, rfl, rfl, rfl, hb⟩ := hrel
    have HB : Hid (Below w.heap.size w wr) := hb
    clear hb H0
    by_cases hlt : k < ts.length
    · have hlt' : (k : Int) < (ts.length : Int) := by omega
      rcases HR.out with h0 | ⟨b0, o0, ha, hB0, ia⟩
      · rw [h0] at hlt; simp at hlt
      subst ha
      obtain ⟨c0, c1, c2⟩ := (ia.below HB.out hB0) k hlt
      have hw := step_ways (m : Int) (ts.getD k zTm) (lowT (m : Int) (ts.take k)) (highT (m : Int) (ts.take k)) _ _ (lowT_take (m : Int) ts k hlt) (highT_take (m : Int) ts k hlt)
      clear ia
      generalize hl1 : lowT (m : Int) (ts.take (k + 1)) = l1 at *
      generalize hh1 : highT (m : Int) (ts.take (k + 1)) = h1 at *
      generalize lowT (m : Int) (ts.take k) = l0 at *
      generalize highT (m : Int) (ts.take k) = h0 at *
      have HL1 : Hid (lowT (m : Int) (ts.take (k + 1)) = l1) := hl1
      have HH1 : Hid (highT (m : Int) (ts.take (k + 1)) = h1) := hh1
      clear hl1 hh1
      generalize ts.getD k zTm = r at *
      obtain ⟨f, o, n⟩ := r
      dsimp only at *
      rcases hw with ⟨q, rfl, rfl⟩ | ⟨rfl, rfl, rfl, hq⟩ | ⟨rfl, rfl, hq, rfl⟩ | ⟨rfl, q1, q2, hq, hq'⟩
      · go_wp2
        go_roundw
        case rel => exact ⟨k + 1, by omega, by go_num, by rw [HL1.out], by rw [HH1.out], chain HB.out (below_alloc _ _)⟩
        case measure => simp [intOf]; omega
      all_goals
        go_wp2
        all_goals
          go_roundw
          case rel => exact ⟨k + 1, by omega, by go_num, congrArg (Value.int .i64) (by have := HL1.out; omega), congrArg (Value.int .i64) (by have := HH1.out; omega), chain HB.out (below_alloc _ _)⟩
          case measure => simp [intOf]; omega
    · have hle : (ts.length : Int) ≤ (k : Int) := by omega
      obtain rfl : k = ts.length := by omega
      rw [List.take_length]
      go_wp2
      go_ret2
      exact ⟨rfl, HB.out⟩
end Go.Proofs.Ythkmgccmeoigpaa

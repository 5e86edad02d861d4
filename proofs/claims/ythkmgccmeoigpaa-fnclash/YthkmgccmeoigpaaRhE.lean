/-
  Contract of the specification's l06Covers.
-/
import Derived.Test.YthkmgccmeoigpaaRcB
import Derived.Test.YthkmgccmeoigpaaRhA
namespace Go.Proofs.Ythkmgccmeoigpaa
open Go.ChangeShapes Go.WideShapes Go.ChangeAt Go.RowKit Go.Deep
set_option linter.unusedVariables false

def covK (ts us : List RTm) (k : Nat) : Prop := ∀ i : Nat, 1 ≤ i → i < k → lowT (i : Int) ts ≤ lowT (i : Int) us ∧ highT (i : Int) us ≤ highT (i : Int) ts
theorem cov_six {ts us : List RTm} (h : covK ts us 6) : covL (rm ts) (rm us) = true := by
  have h1 := h 1 (by omega) (by omega)
  have h2 := h 2 (by omega) (by omega)
  have h3 := h 3 (by omega) (by omega)
  have h4 := h 4 (by omega) (by omega)
  have h5 := h 5 (by omega) (by omega)
  unfold covL
  rw [range6]
  simp only [Int.cast_ofNat_Int] at h1 h2 h3 h4 h5
  simp [rm]
  exact ⟨h1, h2, h3, h4, h5⟩
theorem cov_no {ts us : List RTm} {k : Nat} (h : 1 ≤ k) (h' : k ≤ 5) (hq : lowT (k : Int) us < lowT (k : Int) ts ∨ highT (k : Int) ts < highT (k : Int) us) : covL (rm ts) (rm us) = false := by
  refine covL_no (k := k) (by omega) ?_
  rcases (by omega : k = 1 ∨ k = 2 ∨ k = 3 ∨ k = 4 ∨ k = 5) with rfl | rfl | rfl | rfl | rfl <;> exact hq
set_option maxHeartbeats 800000 in
theorem covers_any (a b : CCl) (ha hb : Option Addr) (ca cb : Nat) (la : a.ts.length ≤ 100000000) (lb : b.ts.length ≤ 100000000) (w : World) (ra : ReadsTm w.heap.size w ha a.ts) (rb : ReadsTm w.heap.size w hb b.ts) :
    Calls Try.prog 45 #[.agg #[.string a.nm, .slice ha a.ts.length ca, .int .i64 a.ac, .int .i64 a.nu], .agg #[.string b.nm, .slice hb b.ts.length cb, .int .i64 b.ac, .int .i64 b.nu]] w fun e w' => e = .returned (.bool (covL (rm a.ts) (rm b.ts))) ∧ Below w.heap.size w w' := by
  obtain ⟨an, at', aa, au⟩ := a
  obtain ⟨bn, bt', ba, bu⟩ := b
  dsimp only at *
  have HBa : Hid (∀ k : Nat, 1 ≤ k → k ≤ 5 → ∀ W, Below w.heap.size w W → Calls Try.prog 72 #[.slice ha at'.length ca, .int .i64 (k : Int)] W fun e w' => e = .returned (.tuple #[.int .i64 (lowT (k : Int) at'), .int .i64 (highT (k : Int) at')]) ∧ Below W.heap.size W w') := fun k h1 h2 W h => bounds_any ha ca at' la k h1 h2 W (ra.later h)
  have HBb : Hid (∀ k : Nat, 1 ≤ k → k ≤ 5 → ∀ W, Below w.heap.size w W → Calls Try.prog 72 #[.slice hb bt'.length cb, .int .i64 (k : Int)] W fun e w' => e = .returned (.tuple #[.int .i64 (lowT (k : Int) bt'), .int .i64 (highT (k : Int) bt')]) ∧ Below W.heap.size W w') := fun k h1 h2 W h => bounds_any hb cb bt' lb k h1 h2 W (rb.later h)
  have HW : Hid (∀ W, Below ((w.alloc (Obj.cells #[.string an, .slice ha at'.length ca, .int .i64 aa, .int .i64 au] 25)).alloc (Obj.cells #[.string bn, .slice hb bt'.length cb, .int .i64 ba, .int .i64 bu] 25)).heap.size ((w.alloc (Obj.cells #[.string an, .slice ha at'.length ca, .int .i64 aa, .int .i64 au] 25)).alloc (Obj.cells #[.string bn, .slice hb bt'.length cb, .int .i64 ba, .int .i64 bu] 25)) W → Below w.heap.size w W ∧ W.cell? ⟨w.heap.size, 1, none⟩ = some (.slice ha at'.length ca) ∧ W.cell? ⟨w.heap.size + 1, 1, none⟩ = some (.slice hb bt'.length cb)) := fun W h =>
    ⟨chain (chain (below_alloc _ _) (below_alloc _ _)) h, (h.cell (p := ⟨w.heap.size, 1, none⟩) (by simp; omega)).trans ((cellOld _ _ (by simp)).trans (cellNew _ _ _ _ rfl rfl)), (h.cell (p := ⟨w.heap.size + 1, 1, none⟩) (by simp)).trans (cellNew _ _ _ _ (by simp) rfl)⟩
  generalize hcv : covL (rm at') (rm bt') = cv
  have HCV : Hid (covL (rm at') (rm bt') = cv) := hcv
  clear hcv ra rb la lb
  go_enter Try.func45, Try.ntmps45
  go_wp2
  generalize ((w.alloc (Obj.cells #[.string an, .slice ha at'.length ca, .int .i64 aa, .int .i64 au] 25)).alloc (Obj.cells #[.string bn, .slice hb bt'.length cb, .int .i64 ba, .int .i64 bu] 25)) = W0 at *
  go_loopw [5, 6, 7, 8, 9] (fun c _ _ _ _ wr => ∃ k : Nat, (1 ≤ k ∧ k ≤ 6) ∧ c = .int .i64 (k : Int) ∧ covK at' bt' k ∧ Below W0.heap.size W0 wr) (fun c _ _ _ _ _ => 6 - (intOf c).toNat)
  case atStart => exact ⟨1, by omega, rfl, fun i h1 h2 => by omega, Below.refl _ _⟩
  case round =>
    obtain ⟨k, hk, rfl, hf, hb⟩ := hrel
    have HF : Hid (covK at' bt' k) := hf
    have HB : Hid (Below W0.heap.size W0 wr) := hb
    obtain ⟨bw, y0, y1⟩ := HW.out wr hb
    have HBw : Hid (Below w.heap.size w wr) := bw
    clear hf hb bw
    by_cases hlt : k ≤ 5
    · have hlt' : (k : Int) ≤ 5 := by omega
      have HA2 : Hid _ := HBa.out k hk.1 hlt
      have HB2 : Hid _ := HBb.out k hk.1 hlt
      have HN : Hid (lowT (k : Int) at' ≤ lowT (k : Int) bt' → highT (k : Int) bt' ≤ highT (k : Int) at' → covK at' bt' (k + 1)) := fun h1 h2 i g1 g2 => by
        rcases (by omega : i < k ∨ i = k) with q | rfl
        · exact HF.out i g1 q
        · exact ⟨h1, h2⟩
      have HX : Hid (lowT (k : Int) bt' < lowT (k : Int) at' ∨ highT (k : Int) at' < highT (k : Int) bt' → cv = false) := fun h => HCV.out.symm.trans (cov_no hk.1 hlt h)
      generalize lowT (k : Int) at' = al at *
      generalize highT (k : Int) at' = ah at *
      generalize lowT (k : Int) bt' = bl at *
      generalize highT (k : Int) bt' = bh at *
      by_cases q1 : bl < al
      · have d1 : decide (bl < al) = true := decide_eq_true q1
        obtain rfl : cv = false := HX.out (.inl q1)
        go_wp2_with fail
        (first | go_at_call 72 | skip)
        refine (HA2.out _ HBw.out).mono ?_
        rintro e w2 ⟨rfl, hb2⟩
        obtain ⟨bw2, y0', y1'⟩ := HW.out _ (chain HB.out hb2)
        have HBw2 : Hid (Below w.heap.size w w2) := bw2
        clear bw2
        go_wp2_with fail
        (first | go_at_call 72 | skip)
        refine (HB2.out _ HBw2.out).mono ?_
        rintro e w3 ⟨rfl, hb3⟩
        go_wp2
        go_ret
        exact ⟨rfl, chain HBw2.out hb3⟩
      · have d1 : decide (bl < al) = false := decide_eq_false q1
        by_cases q2 : ah < bh
        · have d2 : decide (ah < bh) = true := decide_eq_true q2
          obtain rfl : cv = false := HX.out (.inr q2)
          go_wp2_with fail
          (first | go_at_call 72 | skip)
          refine (HA2.out _ HBw.out).mono ?_
          rintro e w2 ⟨rfl, hb2⟩
          obtain ⟨bw2, y0', y1'⟩ := HW.out _ (chain HB.out hb2)
          have HBw2 : Hid (Below w.heap.size w w2) := bw2
          clear bw2
          go_wp2_with fail
          (first | go_at_call 72 | skip)
          refine (HB2.out _ HBw2.out).mono ?_
          rintro e w3 ⟨rfl, hb3⟩
          go_wp2
          go_ret
          exact ⟨rfl, chain HBw2.out hb3⟩
        · have d2 : decide (ah < bh) = false := decide_eq_false q2
          have H1 : Hid _ := HN.out (by omega) (by omega)
          go_wp2_with fail
          (first | go_at_call 72 | skip)
          refine (HA2.out _ HBw.out).mono ?_
          rintro e w2 ⟨rfl, hb2⟩
          obtain ⟨bw2, y0', y1'⟩ := HW.out _ (chain HB.out hb2)
          have HBw2 : Hid (Below w.heap.size w w2) := bw2
          clear bw2
          go_wp2_with fail
          (first | go_at_call 72 | skip)
          refine (HB2.out _ HBw2.out).mono ?_
          rintro e w3 ⟨rfl, hb3⟩
          go_wp2
          go_roundw
          case rel => exact ⟨k + 1, by omega, by go_num, H1.out, chain (chain HB.out hb2) hb3⟩
          case measure => simp [intOf]; omega
    · obtain rfl : k = 6 := by omega
      obtain rfl : cv = true := HCV.out.symm.trans (cov_six HF.out)
      go_wp2
      go_ret
      exact ⟨rfl, HBw.out⟩
end Go.Proofs.Ythkmgccmeoigpaa

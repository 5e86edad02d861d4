/-
  With which facts terms hold; the program's room.has. Facts are a list of six numbers, a nought ahead.
-/
import Derived.Test.YtfofdeenpcbglaaRoC
namespace Go.Proofs.Ytfofdeenpcbglaa
open Go.ChangeShapes Go.WideShapes Go.ChangeAt Go.RowKit Go.Deep
set_option linter.unusedVariables false

def holdB (F : List Int) (t : RTm) : Bool := decide ((t.op = 1 → t.nu ≤ F.getD t.fd.toNat 0) ∧ (t.op = 2 → F.getD t.fd.toNat 0 ≤ t.nu) ∧ (t.op = 3 → F.getD t.fd.toNat 0 = t.nu))
def fireB (F : List Int) (ts : List RTm) : Bool := ts.all (holdB F)
theorem foldL_le_iff (f x : Int) : ∀ (ts : List RTm) (a : Int), ts.foldl (stepL f) a ≤ x ↔ a ≤ x ∧ ∀ t ∈ ts, t.fd = f → t.op ≠ 2 → t.nu ≤ x
  | [], a => by simp
  | t :: ts, a => by
    show ts.foldl (stepL f) (stepL f a t) ≤ x ↔ _
    rw [foldL_le_iff f x ts]
    unfold stepL
    simp only [List.mem_cons, forall_eq_or_imp]
    by_cases h : t.fd = f ∧ t.op ≠ 2
    · rw [if_pos h]
      constructor
      · rintro ⟨h1, h2⟩; exact ⟨by omega, fun _ _ => by omega, h2⟩
      · rintro ⟨h1, h2, h3⟩; have := h2 h.1 h.2; exact ⟨by omega, h3⟩
    · rw [if_neg h]
      constructor
      · rintro ⟨h1, h2⟩; exact ⟨h1, fun e1 e2 => absurd ⟨e1, e2⟩ h, h2⟩
      · rintro ⟨h1, h2, h3⟩; exact ⟨h1, h3⟩
theorem foldH_ge_iff (f x : Int) : ∀ (ts : List RTm) (a : Int), x ≤ ts.foldl (stepH f) a ↔ x ≤ a ∧ ∀ t ∈ ts, t.fd = f → t.op ≠ 1 → x ≤ t.nu
  | [], a => by simp
  | t :: ts, a => by
    show x ≤ ts.foldl (stepH f) (stepH f a t) ↔ _
    rw [foldH_ge_iff f x ts]
    unfold stepH
    simp only [List.mem_cons, forall_eq_or_imp]
    by_cases h : t.fd = f ∧ t.op ≠ 1
    · rw [if_pos h]
      constructor
      · rintro ⟨h1, h2⟩; exact ⟨by omega, fun _ _ => by omega, h2⟩
      · rintro ⟨h1, h2, h3⟩; have := h2 h.1 h.2; exact ⟨by omega, h3⟩
    · rw [if_neg h]
      constructor
      · rintro ⟨h1, h2⟩; exact ⟨h1, fun e1 e2 => absurd ⟨e1, e2⟩ h, h2⟩
      · rintro ⟨h1, h2, h3⟩; exact ⟨h1, h3⟩
theorem rm_low (ts : List RTm) (i : Nat) (h : 1 ≤ i) (h' : i ≤ 5) : (rm ts).getD (2 * i) 0 = lowT (i : Int) ts ∧ (rm ts).getD (2 * i + 1) 0 = highT (i : Int) ts := by
  rcases (by omega : i = 1 ∨ i = 2 ∨ i = 3 ∨ i = 4 ∨ i = 5) with rfl | rfl | rfl | rfl | rfl <;> exact ⟨rfl, rfl⟩
theorem hasL_iff (ts : List RTm) (F : List Int) (h0 : F.getD 0 0 = 0) : hasL (rm ts) F = true ↔ ∀ i : Nat, 1 ≤ i → i ≤ 5 → lowT (i : Int) ts ≤ F.getD i 0 ∧ F.getD i 0 ≤ highT (i : Int) ts := by
  unfold hasL
  rw [List.all_eq_true]
  constructor
  · intro h i h1 h2
    have := h i (by simp; omega)
    rw [(rm_low ts i h1 h2).1, (rm_low ts i h1 h2).2] at this
    exact of_decide_eq_true this
  · intro h i hi
    have hi' : i < 6 := by simpa using hi
    rcases (by omega : i = 0 ∨ 1 ≤ i) with rfl | h1
    · rw [h0]; rfl
    · rw [(rm_low ts i h1 (by omega)).1, (rm_low ts i h1 (by omega)).2]
      exact decide_eq_true (h i h1 (by omega))
/-- A room that facts are in: all its terms hold. -/
theorem has_fires (ts : List RTm) (F : List Int) (h0 : F.getD 0 0 = 0) (hok : ∀ t ∈ ts, tmB t = true) (hF : hasL (rm []) F = true) : hasL (rm ts) F = fireB F ts := by
  rw [Bool.eq_iff_iff, hasL_iff ts F h0]
  have hW := (hasL_iff [] F h0).mp hF
  unfold fireB
  rw [List.all_eq_true]
  constructor
  · intro h t ht
    have hq := tmB_iff.mp (hok t ht)
    obtain ⟨m, hm⟩ : ∃ m : Nat, t.fd = (m : Int) := ⟨t.fd.toNat, by omega⟩
    have hi := h m (by omega) (by omega)
    have h1 := ((foldL_le_iff (m : Int) (F.getD m 0) ts (loF (m : Int))).mp hi.1).2 t ht hm
    have h2 := ((foldH_ge_iff (m : Int) (F.getD m 0) ts (hiF (m : Int))).mp hi.2).2 t ht hm
    have em : t.fd.toNat = m := by omega
    unfold holdB
    rw [em]
    refine decide_eq_true ⟨fun e => h1 (by omega), fun e => h2 (by omega), fun e => ?_⟩
    have := h1 (by omega)
    have := h2 (by omega)
    omega
  · intro h i h1 h2
    have hw := hW i h1 h2
    have a1 : loF (i : Int) ≤ F.getD i 0 := hw.1
    have a2 : F.getD i 0 ≤ hiF (i : Int) := hw.2
    constructor
    · refine (foldL_le_iff (i : Int) (F.getD i 0) ts (loF (i : Int))).mpr ⟨a1, fun t ht e1 e2 => ?_⟩
      have hq := tmB_iff.mp (hok t ht)
      have hh := h t ht
      unfold holdB at hh
      have hh := of_decide_eq_true hh
      rw [show t.fd.toNat = i by omega] at hh
      rcases (by omega : t.op = 1 ∨ t.op = 3) with e | e
      · exact hh.1 e
      · have := hh.2.2 e; omega
    · refine (foldH_ge_iff (i : Int) (F.getD i 0) ts (hiF (i : Int))).mpr ⟨a2, fun t ht e1 e2 => ?_⟩
      have hq := tmB_iff.mp (hok t ht)
      have hh := h t ht
      unfold holdB at hh
      have hh := of_decide_eq_true hh
      rw [show t.fd.toNat = i by omega] at hh
      rcases (by omega : t.op = 2 ∨ t.op = 3) with e | e
      · exact hh.2.1 e
      · have := hh.2.2 e; omega

theorem run_index_six (x0 x1 x2 x3 x4 x5 : Int) (k : Nat) (hk : k < 6) (w : World) : (Instr.index 79 (.agg #[.int .i64 x0, .int .i64 x1, .int .i64 x2, .int .i64 x3, .int .i64 x4, .int .i64 x5]) (.int .i64 (k : Int))).run Try.prog w = .ok (.int .i64 ([x0, x1, x2, x3, x4, x5].getD k 0)) w := by
  rcases (by omega : k = 0 ∨ k = 1 ∨ k = 2 ∨ k = 3 ∨ k = 4 ∨ k = 5) with rfl | rfl | rfl | rfl | rfl | rfl <;> simp [go_sem, Instr.index]
def hasN (L F : List Int) (k : Nat) : Bool := (List.range k).all fun i => decide (L.getD (2 * i) 0 ≤ F.getD i 0 ∧ F.getD i 0 ≤ L.getD (2 * i + 1) 0)
theorem hasN_next {L F : List Int} {k : Nat} (h : hasN L F k = true) (hk : L.getD (2 * k) 0 ≤ F.getD k 0 ∧ F.getD k 0 ≤ L.getD (2 * k + 1) 0) : hasN L F (k + 1) = true := by
  unfold hasN at *
  rw [List.range_succ, List.all_append, h]
  simpa using hk
theorem hasL_no {L F : List Int} {k : Nat} (h : k < 6) (hk : ¬ (L.getD (2 * k) 0 ≤ F.getD k 0 ∧ F.getD k 0 ≤ L.getD (2 * k + 1) 0)) : hasL L F = false := by
  unfold hasL
  rw [List.all_eq_false]
  exact ⟨k, by simpa using h, by simpa using hk⟩
set_option maxHeartbeats 4000000 in
theorem roomHas_any (L : List Int) (hL : L.length = 12) (x1 x2 x3 x4 x5 : Int) (w : World) :
    Calls Try.prog 18 #[.agg (rowI L), .agg #[.int .i64 x1, .int .i64 x2, .int .i64 x3, .int .i64 x4, .int .i64 x5]] w fun e w' => e = .returned (.bool (hasL L [0, x1, x2, x3, x4, x5])) ∧ Below w.heap.size w w' := by
  have H0 : Hid (Below w.heap.size w ((w.alloc (.cells (rowI L) 48)).alloc (.cells #[.int .i64 x1, .int .i64 x2, .int .i64 x3, .int .i64 x4, .int .i64 x5] 28)) ∧ RoomAt ((w.alloc (.cells (rowI L) 48)).alloc (.cells #[.int .i64 x1, .int .i64 x2, .int .i64 x3, .int .i64 x4, .int .i64 x5] 28)) w.heap.size L) := ⟨chain (below_alloc _ _) (below_alloc _ _), (RoomAt.new w L).later (below_alloc _ _)⟩
  go_enter Try.func18, Try.ntmps18
  go_wp2
  go_loopw [5, 6, 18] (fun _ _ c wr => ∃ k : Nat, k ≤ 6 ∧ c = .int .i64 (k : Int) ∧ hasN L [0, x1, x2, x3, x4, x5] k = true ∧ Below w.heap.size w wr ∧ RoomAt wr w.heap.size L) (fun _ _ c _ => 6 - (intOf c).toNat)
  case atStart => exact ⟨0, Nat.zero_le _, rfl, rfl, H0.out.1, H0.out.2⟩
  case round =>
    obtain ⟨k, hk, rfl, hf, hb, hr⟩ := hrel
    have HF : Hid (hasN L [0, x1, x2, x3, x4, x5] k = true) := hf
    have HB : Hid (Below w.heap.size w wr) := hb
    have HR : Hid (RoomAt wr w.heap.size L) := hr
    clear hf hb hr H0
    by_cases hlt : k < 6
    · have hlt' : (k : Int) < 6 := by omega
      have hidx := fun w => run_index_six 0 x1 x2 x3 x4 x5 k hlt w
      have c0 := HR.out.cell (k * 2) (by omega)
      have c1 := HR.out.cell (k * 2 + 1) (by omega)
      have HY : Hid (¬ (L.getD (k * 2) 0 ≤ [0, x1, x2, x3, x4, x5].getD k 0 ∧ [0, x1, x2, x3, x4, x5].getD k 0 ≤ L.getD (k * 2 + 1) 0) → hasL L [0, x1, x2, x3, x4, x5] = false) := fun h => hasL_no hlt (by rw [Nat.mul_comm 2 k]; exact h)
      have HN : Hid ((L.getD (k * 2) 0 ≤ [0, x1, x2, x3, x4, x5].getD k 0 ∧ [0, x1, x2, x3, x4, x5].getD k 0 ≤ L.getD (k * 2 + 1) 0) → hasN L [0, x1, x2, x3, x4, x5] (k + 1) = true) := fun h => hasN_next HF.out (by rw [Nat.mul_comm 2 k]; exact h)
      generalize L.getD (k * 2) 0 = x at *
      generalize L.getD (k * 2 + 1) 0 = y at *
      generalize [0, x1, x2, x3, x4, x5].getD k 0 = f at *
      by_cases hq : x ≤ f ∧ f ≤ y
      · have hd : decide (x ≤ f ∧ f ≤ y) = true := decide_eq_true hq
        have H1 : Hid _ := HN.out hq
        clear HY HN hq
        go_wp2_with (go_at_call 38; refine (spanHas_any _ _ _ _).mono ?_; rintro e w2 ⟨rfl, hb2⟩)
        exact ⟨⟨k + 1, by omega, by go_num, H1.out, chain HB.out hb2, HR.out.later hb2⟩, by simp [intOf]; omega⟩
      · have hd : decide (x ≤ f ∧ f ≤ y) = false := decide_eq_false hq
        have H1 : Hid _ := HY.out hq
        clear HY HN hq
        go_wp2_with (go_at_call 38; refine (spanHas_any _ _ _ _).mono ?_; rintro e w2 ⟨rfl, hb2⟩)
        go_ret
        exact ⟨ret_bool H1.out.symm, chain HB.out hb2⟩
    · obtain rfl : k = 6 := by omega
      go_wp2
      go_ret
      exact ⟨ret_bool HF.out.symm, HB.out⟩
end Go.Proofs.Ytfofdeenpcbglaa

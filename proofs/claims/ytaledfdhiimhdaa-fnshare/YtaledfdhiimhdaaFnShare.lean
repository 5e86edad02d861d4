/-
  For every two lists of bytes the law FnShare answers true: the program's parts of a drawn amount add up to it, each is less than one from its share, a greater weight has no less, and of the amount below 0 they are the same below 0; with no condition.
-/
import Derived.Test.YtaledfdhiimhdaaDrawShare
import Derived.Test.YtaledfdhiimhdaaShareFacts
namespace Go.Proofs.Ytaledfdhiimhdaa
open Go.ChangeShapes Go.WideShapes Go.ChangeAt Go.RowKit Go.Joins
set_option linter.unusedVariables false

theorem sum_take_nonneg (L : List Int) (h : ∀ x ∈ L, 0 ≤ x ∧ x ≤ 1000000) (k : Nat) (hk : k ≤ L.length) : 0 ≤ (L.take k).sum ∧ (L.take k).sum ≤ (k : Int) * 1000000 := sum_range L h k

set_option maxHeartbeats 1000000 in
theorem sum_any (g : Option Addr) (cap : Nat) (L : List Int) (hl : L.length ≤ 100) (hb : ∀ x ∈ L, 0 ≤ x ∧ x ≤ 1000000) (w : World) (hr : Reads w.heap.size w g L) :
    Calls Try.prog 10 #[.slice g L.length cap] w fun e w' => e = .returned (.int .i64 L.sum) ∧ Below w.heap.size w w' := by
  have HR : Hid (Reads w.heap.size w g L) := hr
  have HBd : Hid (∀ x ∈ L, 0 ≤ x ∧ x ≤ 1000000) := hb
  clear hr hb
  go_enter Try.func10, Try.ntmps10
  go_wp2
  go_loopw [3, 4] (fun s c wr => ∃ k : Nat, k ≤ L.length ∧ c = .int .i64 (k : Int) ∧ s = .int .i64 (L.take k).sum ∧ Below w.heap.size w wr) (fun _ c _ => L.length - (intOf c).toNat)
  case atStart => exact ⟨0, Nat.zero_le _, rfl, by simp, Below.refl _ _⟩
  case round =>
    obtain ⟨k, hk, rfl, rfl, hb⟩ := hrel
    have HB : Hid (Below w.heap.size w wr) := hb
    clear hb
    obtain ⟨s1, s2⟩ := sum_range L HBd.out k
    by_cases hlt : k < L.length
    · have hlt' : (k : Int) < (L.length : Int) := by omega
      rcases HR.out with h | ⟨b0, o0, ha, hB0, ia⟩
      · rw [h] at hlt; simp at hlt
      have c0 := (ia.below HB.out hB0) k hlt
      have HN : Hid ((L.take (k + 1)).sum = (L.take k).sum + L.getD k 0) := sum_next L k hlt
      obtain ⟨x1, x2⟩ := getD_bound HBd.out k hlt
      rw [ha]
      clear ia
      generalize L.getD k 0 = x at *
      generalize (L.take k).sum = s at *
      go_wp2
      exact ⟨⟨k + 1, by omega, by go_num, by rw [HN.out], HB.out⟩, by simp [intOf]; omega⟩
    · have HE : Hid ((L.take k).sum = L.sum) := by show _ = _; rw [List.take_of_length_le (by omega)]
      go_wp2
      go_ret
      exact ⟨ret_int HE.out, HB.out⟩

theorem shCode_zero {n : Int} {ws : List Int} (h1 : -1000000000 ≤ n) (h2 : n ≤ 1000000000) (hl : 1 ≤ ws.length) (hl' : ws.length ≤ 60) (hb : ∀ x ∈ ws, 0 ≤ x ∧ x ≤ 1000000) (hs : 1 ≤ ws.sum) : shCode n ws = 0 := by
  unfold shCode
  rw [if_neg (by omega), if_pos ⟨(amtB_iff n).mpr ⟨h1, h2⟩, (wsOK_iff ws).mpr ⟨hb, hl, hl'⟩⟩, if_neg (by omega)]
/-- What the law asks of the two lists of parts. -/
theorem parts_facts {n : Int} {ws : List Int} (h0 : 0 ≤ n) (h2 : n ≤ 1000000000) (hl : 1 ≤ ws.length) (hl' : ws.length ≤ 60) (hb : ∀ x ∈ ws, 0 ≤ x ∧ x ≤ 1000000) (hs : 1 ≤ ws.sum) :
    (shList n ws).length = ws.length ∧ (shList (-n) ws).length = ws.length ∧ (shList n ws).sum = n ∧
    (∀ i, i < ws.length → (shList n ws).getD i 0 * ws.sum - n * ws.getD i 0 < ws.sum ∧ -((shList n ws).getD i 0 * ws.sum - n * ws.getD i 0) < ws.sum ∧ 0 ≤ (shList n ws).getD i 0 ∧ (shList (-n) ws).getD i 0 = -((shList n ws).getD i 0)) ∧
    ∀ i k, i < ws.length → k < ws.length → ws.getD k 0 < ws.getD i 0 → (shList n ws).getD k 0 ≤ (shList n ws).getD i 0 := by
  have c1 := shCode_zero (n := n) (by omega) h2 hl hl' hb hs
  have c2 := shCode_zero (n := -n) (by omega) (by omega) hl hl' hb hs
  obtain ⟨f1, f2, f3⟩ := share_facts n ws h0 (fun x hx => (hb x hx).1) hs
  have hL : shList n ws = shAbs n ws := by
    rw [shList_ok c1, decide_eq_false (show ¬ n < 0 by omega)]
    exact List.map_id _
  have hA : shAbs (-n) ws = shAbs n ws := by unfold shAbs; rw [Int.natAbs_neg]
  have hU : ∀ i, i < ws.length → (shList (-n) ws).getD i 0 = -((shAbs n ws).getD i 0) := fun i hi => by
    rw [shList_getD c2 i hi, hA]
    by_cases hz : n = 0
    · obtain ⟨g1, g2, g3⟩ := f2 i hi
      have : (shAbs n ws).getD i 0 = 0 := by
        have e0 : n * ws.getD i 0 = 0 := by rw [hz, Int.zero_mul]
        rcases Int.lt_or_le 0 ((shAbs n ws).getD i 0) with h | h
        · have : 1 * ws.sum ≤ (shAbs n ws).getD i 0 * ws.sum := Int.mul_le_mul_of_nonneg_right (by omega) (by omega)
          omega
        · omega
      rw [this]; unfold sgn; split <;> rfl
    · rw [decide_eq_true (show -n < 0 by omega)]; rfl
  rw [hL]
  refine ⟨shAbs_length n ws, by rw [shList_ok c2, List.length_map, shAbs_length], f1, fun i hi => ?_, f3⟩
  obtain ⟨g1, g2, g3⟩ := f2 i hi
  exact ⟨g1, g2, g3, hU i hi⟩

theorem le_sum (ws : List Int) (h : ∀ x ∈ ws, 0 ≤ x) (i : Nat) (hi : i < ws.length) : ws.getD i 0 ≤ ws.sum := by
  induction ws generalizing i with
  | nil => simp at hi
  | cons a ws ih =>
    have ha : 0 ≤ a := h a (by simp)
    have hs : 0 ≤ ws.sum := by
      have : ∀ l : List Int, (∀ x ∈ l, 0 ≤ x) → 0 ≤ l.sum := fun l => by
        induction l with
        | nil => intro _; simp
        | cons b l ih => intro h; rw [List.sum_cons]; have := h b (by simp); have := ih (fun x hx => h x (by simp [hx])); omega
      exact this ws (fun x hx => h x (by simp [hx]))
    cases i with
    | zero => simp; omega
    | succ i =>
      have := ih (fun x hx => h x (by simp [hx])) i (by simpa using hi)
      rw [List.getD_cons_succ, List.sum_cons]; omega
theorem part_le {m S : Int} {ws : List Int} (hm : 0 ≤ m) (hS : 1 ≤ S) {f : Nat → Int} (h : ∀ i, i < ws.length → f i * S - m * ws.getD i 0 < S) (hw : ∀ i, i < ws.length → ws.getD i 0 ≤ S) (X : List Int) (hX : X.length = ws.length) : ∀ i, i < ws.length → f i ≤ m := fun i hi => by
  have h1 := h i hi
  have h2 : m * ws.getD i 0 ≤ m * S := Int.mul_le_mul_of_nonneg_left (hw i hi) hm
  rcases Int.lt_or_le m (f i) with h3 | h3
  · have h4 : (m + 1) * S ≤ f i * S := Int.mul_le_mul_of_nonneg_right (by omega) (by omega)
    rw [Int.add_mul] at h4
    omega
  · exact h3

theorem share_own (a : Option Addr) (cap : Nat) (ws : List Int) (n : Int) (hl : ws.length ≤ 2000000) (w : World) (hr : Reads w.heap.size w a ws) (hc : shCode n ws = 0) :
    Calls Try.prog 9 #[.int .i64 n, .slice a ws.length cap] w fun e w' => ∃ g cp, e = .returned (.tuple #[.slice g (shList n ws).length cp, .int .i64 0]) ∧ Own2 w.heap.size w' g (shList n ws) ∧ Below w.heap.size w w' := by
  refine (implShare_any a cap ws n hl w hr).mono ?_
  rintro e w' ⟨g, cp, rfl, ho, hb⟩
  refine ⟨g, cp, by rw [hc], ?_, hb⟩
  rcases ho with h | ⟨b, hg, hB, hr⟩
  · exact .inl h
  · exact .inr ⟨b, hg, hB, hr.lt, fun i hi => by rw [Nat.zero_add]; exact hr.cell hi, fun i hi => by rw [Nat.zero_add]; exact hr.frozen i⟩

namespace FnShare
set_option maxHeartbeats 8000000 in
set_option maxRecDepth 8000 in
theorem walk (a0 : Option Addr) (len0 cap0 : Nat) (z0 : List Int) (a1 : Option Addr) (len1 cap1 : Nat) (z1 : List Int) (w : World) (r0 : RowB w.heap.size w a0 len0 z0) (r1 : RowB w.heap.size w a1 len1 z1) :
    Calls Try.prog 3 #[.slice a0 len0 cap0, .slice a1 len1 cap1] w fun e w' => e = .returned (.bool true) ∧ Below w.heap.size w w' := by
  have hl0 := r0.1
  have hl1 := r1.1
  unfold maxLen at hl0 hl1
  rcases (by omega : (1048576 : Int) < (len0 : Int) ∨ ((len0 : Int) ≤ 1048576 ∧ (1048576 : Int) < (len1 : Int)) ∨ ((len0 : Int) ≤ 1048576 ∧ (len1 : Int) ≤ 1048576)) with h | ⟨h, h'⟩ | ⟨h, h'⟩
  · go_enter Try.func3, Try.ntmps3
    go_wp2
    go_ret
    exact ⟨rfl, Below.refl _ _⟩
  · go_enter Try.func3, Try.ntmps3
    go_wp2
    go_ret
    exact ⟨rfl, Below.refl _ _⟩
  · have HR0 : Hid (RowB w.heap.size w a0 len0 z0) := r0
    have HR1 : Hid (RowB w.heap.size w a1 len1 z1) := r1
    clear r0 r1 hl0 hl1
    go_enter Try.func3, Try.ntmps3
    go_wp2_with (first
      | (go_at_call 7; refine (weightsOf_any a0 len0 cap0 z0 w HR0.out).mono ?_; rintro e w1 ⟨L, g, cp, rfl, hL1, hL2, hbd, hsum, ho1, hb1⟩; have HO1 : Hid (Own2 w.heap.size w1 (some ⟨g, 0, none⟩) L) := ho1; have B1 : Hid (Below w.heap.size w w1) := hb1; have HBd : Hid ((∀ x ∈ L, 0 ≤ x ∧ x ≤ 30) ∧ 1 ≤ L.sum) := ⟨hbd, hsum⟩; clear ho1 hb1 hbd hsum)
      | (go_at_call 8; refine (amountOf_any a1 len1 cap1 z1 w1 ((HR1.out.below B1.out).mono B1.out.size)).mono ?_; rintro e w2 ⟨n, N, D, rfl, hn1, hn2, _, _, _, _, hb2⟩; have HO2 : Hid (Own2 w.heap.size w2 (some ⟨g, 0, none⟩) L) := HO1.out.below hb2 (Nat.le_refl _); have B2 : Hid (Below w.heap.size w w2) := chain B1.out hb2; clear hb2))
    case' _ =>
      have hm0 : 0 ≤ -n := by omega
      have hm1 : -n ≤ 150000 := by omega
      clear hn1 hn2
      generalize -n = m at *
    rotate_left
    case' _ =>
      have hm0 : 0 ≤ n := by omega
      have hm1 : n ≤ 150000 := by omega
      clear hn1 hn2
      generalize n = m at *
    all_goals
      have hb6 : ∀ x ∈ L, 0 ≤ x ∧ x ≤ 1000000 := fun x hx => by have := HBd.out.1 x hx; omega
      have HB6 : Hid (∀ x ∈ L, 0 ≤ x ∧ x ≤ 1000000) := hb6
      have hc1 := shCode_zero (n := m) (ws := L) (by omega) (by omega) hL1 (by omega) hb6 HBd.out.2
      have hc2 := shCode_zero (n := -m) (ws := L) (by omega) (by omega) hL1 (by omega) hb6 HBd.out.2
      obtain ⟨p1, p2, p3, p4, p5⟩ := parts_facts hm0 (by omega) hL1 (by omega) hb6 HBd.out.2
      have hS1 : 1 ≤ L.sum := HBd.out.2
      have hS2 : L.sum ≤ 11000000 := by have := sum_range L hb6 L.length; rw [List.take_of_length_le (Nat.le_refl _)] at this; omega
      have hpl := part_le hm0 hS1 (fun i hi => (p4 i hi).1) (fun i hi => le_sum L (fun x hx => (hb6 x hx).1) i hi) (shList m L) p1
      have HPl : Hid (∀ x ∈ shList m L, 0 ≤ x ∧ x ≤ 1000000) := fun x hx => by
        obtain ⟨i, hi, rfl⟩ := List.getElem_of_mem hx
        have h1 := hpl i (by omega)
        have h2 := (p4 i (by omega)).2.2.1
        rw [getD_int hi] at h1 h2
        omega
      have HS1 : Hid (∀ w, Reads w.heap.size w (some ⟨g, 0, none⟩) L → Calls Try.prog 9 #[.int .i64 m, .slice (some ⟨g, 0, none⟩) L.length cp] w fun e w' => ∃ g' cp', e = .returned (.tuple #[.slice g' (shList m L).length cp', .int .i64 0]) ∧ Own2 w.heap.size w' g' (shList m L) ∧ Below w.heap.size w w') := fun w hr => share_own _ _ L m (by omega) w hr hc1
      have HS2 : Hid (∀ w, Reads w.heap.size w (some ⟨g, 0, none⟩) L → Calls Try.prog 9 #[.int .i64 (-m), .slice (some ⟨g, 0, none⟩) L.length cp] w fun e w' => ∃ g' cp', e = .returned (.tuple #[.slice g' (shList (-m) L).length cp', .int .i64 0]) ∧ Own2 w.heap.size w' g' (shList (-m) L) ∧ Below w.heap.size w w') := fun w hr => share_own _ _ L (-m) (by omega) w hr hc2
      rw [p1] at HS1
      rw [p2] at HS2
      have HP1 : Hid ((shList m L).length = L.length ∧ (shList (-m) L).length = L.length ∧ (shList m L).sum = m) := ⟨p1, p2, p3⟩
      have HP4 : Hid (∀ i, i < L.length → (shList m L).getD i 0 * L.sum - m * L.getD i 0 < L.sum ∧ -((shList m L).getD i 0 * L.sum - m * L.getD i 0) < L.sum ∧ 0 ≤ (shList m L).getD i 0 ∧ (shList (-m) L).getD i 0 = -((shList m L).getD i 0) ∧ (shList m L).getD i 0 ≤ 150000) := fun i hi => ⟨(p4 i hi).1, (p4 i hi).2.1, (p4 i hi).2.2.1, (p4 i hi).2.2.2, by have := hpl i hi; omega⟩
      have HP5 : Hid (∀ i k, i < L.length → k < L.length → L.getD k 0 < L.getD i 0 → (shList m L).getD k 0 ≤ (shList m L).getD i 0) := p5
      clear p1 p2 p3 p4 p5 hpl hc1 hc2 hb6
      generalize shList m L = X at *
      generalize shList (-m) L = U at *
      have HO2a : Hid (Own2 w.heap.size (w2.alloc (Obj.cells #[.int .i64 N, .int .i64 D] 26)) (some ⟨g, 0, none⟩) L) := HO2.out.below (below_alloc _ _) (Nat.le_refl _)
      refine (HS1.out _ HO2a.out.reads).mono ?_
      rintro e w3 ⟨gx, cx, rfl, ox, hb3⟩
      have HX3 : Hid (Own2 (w2.alloc (Obj.cells #[.int .i64 N, .int .i64 D] 26)).heap.size w3 gx X) := ox
      have HL3 : Hid (Own2 w.heap.size w3 (some ⟨g, 0, none⟩) L) := HO2a.out.below hb3 (Nat.le_refl _)
      have B3 : Hid (Below w.heap.size w w3) := chain (chain B2.out (below_alloc _ _)) hb3
      clear ox hb3 HO2a HO2 HO1
      have hsx := fun c w h => sum_any gx c X (by have := HP1.out.1; omega) HPl.out w h
      have hsl := fun c w h => sum_any (some ⟨g, 0, none⟩) c L (by omega) HB6.out w h
      rw [HP1.out.1, HP1.out.2.2] at hsx
      go_wp2_with (first
        | (go_at_call 10; have G := HX5; refine (hsl _ _ HL5.out.reads).mono ?_; rintro e w6 ⟨rfl, hb6⟩; have B6 : Hid (Below w.heap.size w w6) := chain B5.out hb6; have HX6 : Hid (Own2 (w2.alloc (Obj.cells #[.int .i64 N, .int .i64 D] 26)).heap.size w6 gx X) := HX5.out.below hb6 (Nat.le_refl _); have HU6 : Hid (Own2 w3.heap.size w6 gu U) := HU5.out.below hb6 (Nat.le_refl _); have HL6 : Hid (Own2 w.heap.size w6 (some ⟨g, 0, none⟩) L) := HL5.out.below hb6 (Nat.le_refl _); clear hb6)
        | (go_at_call 10; refine (hsx _ _ HX4.out.reads).mono ?_; rintro e w5 ⟨rfl, hb5⟩; have B5 : Hid (Below w.heap.size w w5) := chain B4.out hb5; have HX5 : Hid (Own2 (w2.alloc (Obj.cells #[.int .i64 N, .int .i64 D] 26)).heap.size w5 gx X) := HX4.out.below hb5 (Nat.le_refl _); have HU5 : Hid (Own2 w3.heap.size w5 gu U) := HU4.out.below hb5 (Nat.le_refl _); have HL5 : Hid (Own2 w.heap.size w5 (some ⟨g, 0, none⟩) L) := HL4.out.below hb5 (Nat.le_refl _); clear hb5)
        | (go_at_call 9; refine (HS2.out _ HL3.out.reads).mono ?_; rintro e w4 ⟨gu, cu, rfl, ou, hb4⟩; have HU4 : Hid (Own2 w3.heap.size w4 gu U) := ou; have HX4 : Hid (Own2 (w2.alloc (Obj.cells #[.int .i64 N, .int .i64 D] 26)).heap.size w4 gx X) := HX3.out.below hb4 (Nat.le_refl _); have HL4 : Hid (Own2 w.heap.size w4 (some ⟨g, 0, none⟩) L) := HL3.out.below hb4 (Nat.le_refl _); have B4 : Hid (Below w.heap.size w w4) := chain B3.out hb4; clear ou hb4))
      clear hsx hsl HS1 HS2 HX3 HX4 HX5 HU4 HU5 HL3 HL4 HL5 B2 B3 B4 B5 B1 HPl
      obtain ⟨bx, hgx, ltx, ix⟩ : ∃ bx, gx = some ⟨bx, 0, none⟩ ∧ bx < w6.heap.size ∧ IntsAt w6 bx 0 X := by
        rcases HX6.out with h | ⟨bx, hgx, _, ltx, ix, _⟩
        · have := HP1.out.1; rw [h] at this; simp at this; omega
        · exact ⟨bx, hgx, ltx, ix⟩
      obtain ⟨bu, hgu, ltu, iu⟩ : ∃ bu, gu = some ⟨bu, 0, none⟩ ∧ bu < w6.heap.size ∧ IntsAt w6 bu 0 U := by
        rcases HU6.out with h | ⟨bx, hgx, _, ltx, ix, _⟩
        · have := HP1.out.2.1; rw [h] at this; simp at this; omega
        · exact ⟨bx, hgx, ltx, ix⟩
      obtain ⟨ltl, il⟩ : g < w6.heap.size ∧ IntsAt w6 g 0 L := by
        rcases HL6.out with h | ⟨bx, hgx, _, ltx, ix, _⟩
        · rw [h] at hL1; simp at hL1
        · simp at hgx; subst hgx; exact ⟨ltx, ix⟩
      subst hgx hgu
      have HC : Hid (∀ wr, Below w6.heap.size w6 wr → ∀ i, i < L.length → wr.cell? ⟨bx, i, none⟩ = some (.int .i64 (X.getD i 0)) ∧ wr.cell? ⟨bu, i, none⟩ = some (.int .i64 (U.getD i 0)) ∧ wr.cell? ⟨g, i, none⟩ = some (.int .i64 (L.getD i 0))) := fun wr hb i hi => by
        have h1 := (ix.below hb ltx) i (by have := HP1.out; omega)
        have h2 := (iu.below hb ltu) i (by have := HP1.out; omega)
        have h3 := (il.below hb ltl) i hi
        rw [Nat.zero_add] at h1 h2 h3
        exact ⟨h1, h2, h3⟩
      clear ix iu il ltx ltu ltl HX6 HU6 HL6
      go_loopw [13, 14, 15] (fun c _ _ wr => ∃ k : Nat, k ≤ L.length ∧ c = .int .i64 (k : Int) ∧ Below w6.heap.size w6 wr) (fun c _ _ _ => L.length - (intOf c).toNat)
      case atStart => exact ⟨0, Nat.zero_le _, rfl, Below.refl _ _⟩
      case round =>
        obtain ⟨k, hk, rfl, hbk⟩ := hrel
        have HBk : Hid (Below w6.heap.size w6 wr) := hbk
        clear hbk
        by_cases hlt : k < L.length
        · have hlt' : (k : Int) < (L.length : Int) := by omega
          obtain ⟨cX, cU, cL⟩ := HC.out wr HBk.out k hlt
          obtain ⟨d1, d2, d3, d4, d5⟩ := HP4.out k hlt
          obtain ⟨y1, y2⟩ := getD_bound HBd.out.1 k hlt
          have HQ : Hid (∀ j, j < L.length → L.getD j 0 < L.getD k 0 → X.getD j 0 ≤ X.getD k 0) := fun j hj h => HP5.out k j hlt hj h
          rw [d4] at cU
          clear d4
          obtain ⟨x, hx⟩ : ∃ x, X.getD k 0 = x := ⟨_, rfl⟩
          obtain ⟨y, hy⟩ : ∃ y, L.getD k 0 = y := ⟨_, rfl⟩
          rw [hx] at cX cU d1 d2 d3 d5 HQ
          rw [hy] at cL d1 d2 y1 y2 HQ
          have HXx : Hid (X.getD k 0 = x) := hx
          have HYy : Hid (L.getD k 0 = y) := hy
          clear hx hy
          generalize hS : L.sum = S at *
          have HSS : Hid (L.sum = S) := hS
          clear hS
          have m1 : 0 ≤ x * S := Int.mul_nonneg d3 (by omega)
          have m2 : x * S ≤ 150000 * S := Int.mul_le_mul_of_nonneg_right d5 (by omega)
          have m3 : 0 ≤ m * y := Int.mul_nonneg hm0 y1
          have m4 : m * y ≤ 150000 * y := Int.mul_le_mul_of_nonneg_right hm1 y1
          have g1 : decide (S ≤ x * S - m * y) = false := decide_eq_false (by omega)
          have g2 : decide (S ≤ -(x * S - m * y)) = false := decide_eq_false (by omega)
          have g3 : (-x != -x) = false := by simp
          have g4 : decide (x < 0) = false := decide_eq_false (by omega)
          go_wp2
          go_quiet (fail)
          go_wp2
          go_quiet (fail)
          go_wp2
          go_loopw [15] (fun c wq => ∃ j : Nat, j ≤ L.length ∧ c = .int .i64 (j : Int) ∧ Below w6.heap.size w6 wq) (fun c _ => L.length - (intOf c).toNat)
          case atStart => exact ⟨0, Nat.zero_le _, rfl, below_drewN (below_drewN HBk.out _) _⟩
          case round =>
          clear cX cU cL
          obtain ⟨j, hj, rfl, hbj⟩ := hrel
          have HBj : Hid (Below w6.heap.size w6 wr) := hbj
          clear hbj
          by_cases hjl : j < L.length
          · have hjl' : (j : Int) < (L.length : Int) := by omega
            obtain ⟨cX, _, cL⟩ := HC.out wr HBj.out k hlt
            obtain ⟨cX', _, cL'⟩ := HC.out wr HBj.out j hjl
            have hq := HQ.out j hjl
            rw [HXx.out] at cX
            rw [HYy.out] at cL
            clear g1 g2 g3 g4 d1 d2 m1 m2 m3 m4
            generalize X.getD j 0 = x' at *
            generalize L.getD j 0 = y' at *
            by_cases hyy : y' < y
            · have hxx := hq hyy
              have g5 : decide (y' < y) = true := decide_eq_true hyy
              have g6 : decide (x < x') = false := decide_eq_false (by omega)
              clear hq
              go_wp2
              go_quiet (fail)
              go_wp2
              exact ⟨⟨j + 1, by omega, by go_num, below_drewN HBj.out _⟩, by simp [intOf]; omega⟩
            · have g5 : decide (y' < y) = false := decide_eq_false hyy
              clear hq
              go_wp2
              go_quiet (fail)
              go_wp2
              exact ⟨⟨j + 1, by omega, by go_num, below_drewN HBj.out _⟩, by simp [intOf]; omega⟩
          · have hle : (L.length : Int) ≤ (j : Int) := by omega
            go_wp2
            go_roundw
            case rel => exact ⟨k + 1, by omega, by go_num, HBj.out⟩
            case measure => simp [intOf]; omega
        · have hle : (L.length : Int) ≤ (k : Int) := by omega
          go_wp2
          go_ret
          exact ⟨rfl, chain B6.out HBk.out⟩

theorem own : ownKnob Try.prog.godebug = none := by kernel_rfl
theorem laidOut : laidOutB Try.prog = true := by kernel_rfl

set_option maxRecDepth 100000 in
theorem lifted (os : Os) (started : os.Started) (H : Type) (enc : TypeId × Value → H) :
    ReturnsInHanded {} Try.checked os 3 .any (Rows.fnShareSpec.pre6 enc Try.prog Try.f3 Rows.fnShareRow.domain false) (Rows.fnShareSpec.post enc Try.prog Try.f3 false true false false) := by
  refine returnsInHanded_of_change (C := Try.checked) own started (by kernel_rfl) Try.func3
    (ChangeSpec.witness6 (enc := enc) (C := Try.checked) false ⟨#[], #[.slice none 0 0, .slice none 0 0], []⟩ 8 (by kernel_rfl) (by kernel_rfl) (by kernel_rfl) (by kernel_rfl)) ?_
  intro W base args ds gs before hval0 hW hcnd _
  have hval : ∀ (j : Nat) t v, Try.f3.params[j]? = some t → args[j]? = some v → Value.okWide Try.prog W .any base t v := hval0
  have hW' := hW
  obtain ⟨p, q, hA0, hV, rfl, hfz, hnd⟩ := hW
  have hA : DataW.TrodAll enc Try.prog W 0 (fun _ => true) true Try.f3.params.toList args.toList ds p := hA0
  rw [Try.params3] at hA hval
  obtain ⟨v0, vs0, d0, ds0, p0, q0, hargs, rfl, rfl, h0, r0⟩ := trodAll_cons hA
  obtain ⟨v1, vs1, d1, ds1, p1, q1, rfl, rfl, rfl, h1, r1⟩ := trodAll_cons r0
  obtain ⟨rfl, rfl, rfl⟩ := trodAll_nil r1
  obtain rfl : args = #[v0, v1] := by cases args; simp_all
  obtain ⟨rfl, rfl⟩ := trodVars_none hV
  have k0 := h0
  have lt0 : ∀ x ∈ p0, x.block < W.heap.size := by obtain ⟨m, hm⟩ := k0; exact DataW.trod_lt m _ _ _ hm
  have k1 := h1
  have lt1 : ∀ x ∈ p1, x.block < W.heap.size := by obtain ⟨m, hm⟩ := k1; exact DataW.trod_lt m _ _ _ hm
  obtain ⟨a0, len0, cap0, rfl⟩ := okWide_slice Try.underlying22 (hval 0 22 v0 rfl rfl)
  obtain ⟨z0, w0⟩ : ∃ zs, IsRow .u8 W a0 len0 cap0 zs := by
    obtain ⟨fuel, hf⟩ := h0
    rcases open_ints Try.underlying22 Try.underlying5 (by kernel_rfl) hf with ⟨hcs, _⟩ | ⟨x, l, c, zs, hcs, _, hl, hm, hz, _, hcell, hwz⟩
    · simp [Value.cells] at hcs
      obtain ⟨rfl, rfl, rfl⟩ := hcs
      exact ⟨[], .inl ⟨rfl, rfl, rfl, rfl⟩⟩
    · simp [Value.cells] at hcs
      obtain ⟨rfl, rfl, rfl⟩ := hcs
      exact ⟨zs, .inr ⟨_, rfl, hl, hm, by simpa using hz, hcell, hwz⟩⟩
  obtain ⟨a1, len1, cap1, rfl⟩ := okWide_slice Try.underlying22 (hval 1 22 v1 rfl rfl)
  obtain ⟨z1, w1⟩ : ∃ zs, IsRow .u8 W a1 len1 cap1 zs := by
    obtain ⟨fuel, hf⟩ := h1
    rcases open_ints Try.underlying22 Try.underlying5 (by kernel_rfl) hf with ⟨hcs, _⟩ | ⟨x, l, c, zs, hcs, _, hl, hm, hz, _, hcell, hwz⟩
    · simp [Value.cells] at hcs
      obtain ⟨rfl, rfl, rfl⟩ := hcs
      exact ⟨[], .inl ⟨rfl, rfl, rfl, rfl⟩⟩
    · simp [Value.cells] at hcs
      obtain ⟨rfl, rfl, rfl⟩ := hcs
      exact ⟨zs, .inr ⟨_, rfl, hl, hm, by simpa using hz, hcell, hwz⟩⟩
  clear hA0 hval0
  refine (walk a0 len0 cap0 z0 a1 len1 cap1 z1 W (rowB_of _ _ _ _ _ w0) (rowB_of _ _ _ _ _ w1)).mono fun e W' ⟨he, bel⟩ => ?_
  subst he
  exact ⟨_, rfl, _, _, _, [], _, [], hW', trodAll_mk1 (shut_bool Try.underlying4 _), (trodAll_cons_mk (Below.trod laidOut (by kernel_rfl) (of_decide_eq_true (by kernel_rfl)) k0 bel lt0) (trodAll_cons_mk (Below.trod laidOut (by kernel_rfl) (of_decide_eq_true (by kernel_rfl)) k1 bel lt1) trodAll_mk0)), rfl, bel.frame _, fun h => by cases h⟩

theorem over : Rows.fnShareRow.holds Try.pinned (OpenSpec.ofChange Rows.fnShareSpec) :=
  OpenClaim.holds_of_wide 3 Try.f3 rfl rfl rfl rfl rfl rfl rfl ⟨rfl, rfl, rfl, rfl, rfl⟩ rfl rfl rfl rfl rfl (by kernel_rfl) Try.func3 (by kernel_rfl)
    (of_decide_eq_true (by kernel_rfl)) (by unfold Func.isWrapper; first | (rw [if_pos (by decide +kernel)]; kernel_rfl) | (rw [if_neg (by decide +kernel)]; exact ⟨rfl, rfl⟩))
    (fun os started H enc _ => lifted os started H enc)
end FnShare

theorem fnShare_holds : Rows.FnShareSaid := FnShare.over
end Go.Proofs.Ytaledfdhiimhdaa

/-
  The laws' own marks on lists of workers (markStringS, markWorkerS): they turn blocks of that list alone.
-/
import Derived.Test.YteigbmdhfeagfaaWkE
import Derived.Test.YteigbmdhfeagfaaMqQ
namespace Go.Proofs.Yteigbmdhfeagfaa
open Go.ChangeShapes Go.WideShapes Go.ChangeAt Go.RowKit Go.Deep
set_option linter.unusedVariables false

set_option maxHeartbeats 2000000 in
theorem markStrs2_any (b n cap : Nat) (hn : n ≤ 1048576) (k0 : Nat) (hk : k0 ≤ 90000000) (hk1 : 1 ≤ k0) (w : World) (hM : Mk b n w w) :
    Calls Try.prog 48 #[.slice (some ⟨b, 0, none⟩) n cap, .int .i64 (k0 : Int)] w fun e w' => e = .returned (.int .i64 ((k0 : Int) + (n : Int))) ∧ Mk b n w w' ∧ SomeK w w' := by
  have H0 : Hid (Mk b n w w) := hM
  clear hM
  go_enter Try.func48, Try.ntmps48
  go_wp2
  go_loopw [1, 5] (fun k i wr => ∃ j : Nat, j ≤ n ∧ i = .int .i64 (j : Int) ∧ k = .int .i64 ((k0 : Int) + (j : Int)) ∧ Mk b n w wr ∧ SomeK w wr) (fun _ i _ => n - (intOf i).toNat)
  case atStart => exact ⟨0, Nat.zero_le _, rfl, by simp, H0.out, SomeK.refl _⟩
  case round =>
    obtain ⟨j, hj, rfl, rfl, hm, hs⟩ := hrel
    have HS : Hid (SomeK w wr) := hs
    have HM : Hid (Mk b n w wr) := hm
    clear hm hs
    by_cases hlt : j < n
    · have hlt' : (j : Int) < (n : Int) := by omega
      have hkc : ((k0 + j : Nat) : Int) = (k0 : Int) + (j : Int) := by omega
      have t0 := fun w => markText_any (k0 + j) (by omega) (by omega) w
      rw [hkc] at t0
      clear hkc
      generalize mkS (k0 + j) = s0 at *
      have hbz := HM.out.1.1.size
      go_wp2_with fail
      (first | go_at_call 47 | skip)
      refine (t0 _).mono ?_
      rintro e w0' ⟨rfl, hb0⟩
      have HM0 : Hid (Mk b n w w0') := HM.out.later hb0
      have HS0 : Hid (SomeK w w0') := HS.out.later HM.out.1.1.size hb0
      obtain ⟨v0, hv0, hf0⟩ := HM0.out.at j (by omega)
      clear hb0 t0
      go_wp2
      exact ⟨⟨j + 1, by omega, by go_num, by go_num, HM0.out.set _ _, HS0.out.set _ _ _⟩, by simp [intOf]; omega⟩
    · obtain rfl : j = n := by omega
      go_wp2
      go_ret
      exact ⟨rfl, HM.out, HS.out⟩
def WkMk (lo hi : Nat) (w : World) (b n : Nat) (M : Nat → Nat) : Prop := (lo ≤ b ∧ b < hi ∧ hi ≤ w.heap.size) ∧ (∀ j, j < n * 5 → (w.cell? ⟨b, j, none⟩).isSome = true ∧ w.frozen? ⟨b, j, none⟩ = false) ∧
  ∀ i, i < n → ∃ c cp, w.cell? ⟨b, i * 5 + 4, none⟩ = some (.slice (some ⟨c, 0, none⟩) (M i) cp) ∧ (c ≠ b ∧ lo ≤ c ∧ c < hi) ∧ ∀ j, j < M i → (w.cell? ⟨c, j, none⟩).isSome = true ∧ w.frozen? ⟨c, j, none⟩ = false
theorem WkMk.some {lo hi : Nat} {w w' : World} {b n : Nat} {M : Nat → Nat} (h : WkMk lo hi w b n M) (hs : SomeK w w') (hz : w.heap.size ≤ w'.heap.size) (hb : ∀ i, i < n → w'.cell? ⟨b, i * 5 + 4, none⟩ = w.cell? ⟨b, i * 5 + 4, none⟩) : WkMk lo hi w' b n M := by
  obtain ⟨⟨h1, h2, h3⟩, h4, h5⟩ := h
  refine ⟨⟨h1, h2, by omega⟩, fun j hj => ?_, fun i hi => ?_⟩
  · obtain ⟨k1, k2⟩ := h4 j hj
    exact ⟨(hs b j (by omega)).1 k1, (hs b j (by omega)).2.trans k2⟩
  · obtain ⟨c, cp, k1, k2, k3⟩ := h5 i hi
    exact ⟨c, cp, (hb i hi).trans k1, k2, fun j hj => ⟨(hs c j (by omega)).1 (k3 j hj).1, (hs c j (by omega)).2.trans (k3 j hj).2⟩⟩
theorem WkMk.later {lo hi : Nat} {w w' : World} {b n : Nat} {M : Nat → Nat} (h : WkMk lo hi w b n M) (hb : Below w.heap.size w w') : WkMk lo hi w' b n M :=
  h.some ((SomeK.refl w).later (Nat.le_refl _) hb) hb.size (fun i hi => hb.cell (p := ⟨b, i * 5 + 4, none⟩) (show b < w.heap.size by have := h.1; omega))
theorem WkMk.set {lo hi : Nat} {w : World} {b n : Nat} {M : Nat → Nat} (h : WkMk lo hi w b n M) {o : Nat} (ho : o % 5 ≠ 4) (v : Value) : WkMk lo hi (w.setCell ⟨b, o, none⟩ v) b n M :=
  h.some ((SomeK.refl w).set _ _ _) (by rw [World.size_setCell]; exact Nat.le_refl _) (fun i hi => World.cell?_setCell_other _ _ _ _ (fun e => by cases e; omega))
theorem OwnWk.mk {lo : Nat} {w : World} {b : Nat} {cs : List CWk} (h : OwnWk lo w b cs) : WkMk lo w.heap.size w b cs.length (fun i => (cs.getD i zWk).sk.length) := by
  obtain ⟨h1, h2, h3, h4⟩ := h
  refine ⟨⟨h1, h2, Nat.le_refl _⟩, fun j hj => ⟨?_, h3 j hj⟩, fun i hi => ?_⟩
  · obtain ⟨g, _, ⟨m0, m1, m2, m3, m4⟩, _⟩ := h4 (j / 5) (by omega)
    rcases (show j % 5 = 0 ∨ j % 5 = 1 ∨ j % 5 = 2 ∨ j % 5 = 3 ∨ j % 5 = 4 by omega) with e | e | e | e | e
    · rw [show j = j / 5 * 5 by omega, m0]; rfl
    · rw [show j = j / 5 * 5 + 1 by omega, m1]; rfl
    · rw [show j = j / 5 * 5 + 2 by omega, m2]; rfl
    · rw [show j = j / 5 * 5 + 3 by omega, m3]; rfl
    · rw [show j = j / 5 * 5 + 4 by omega, m4]; rfl
  · obtain ⟨g, ⟨k1, k2, k3⟩, ⟨m0, m1, m2, m3, m4⟩, k5, k6⟩ := h4 i hi
    refine ⟨g, _, m4, ⟨k1, k2, k3⟩, fun j hj => ⟨?_, ?_⟩⟩
    · have := k5 j hj
      rw [Nat.zero_add] at this
      rw [this]; rfl
    · exact k6 j
def kAtW (k0 : Nat) (M : Nat → Nat) : Nat → Nat
  | 0 => k0
  | i + 1 => kAtW k0 M i + 4 + M i
theorem kAtW_le (k0 : Nat) (M : Nat → Nat) (i j : Nat) (h : i ≤ j) : kAtW k0 M i ≤ kAtW k0 M j := by
  induction j with
  | zero => obtain rfl : i = 0 := by omega
            exact Nat.le_refl _
  | succ j ih =>
    by_cases e : i = j + 1
    · subst e; exact Nat.le_refl _
    · have := ih (by omega)
      show _ ≤ kAtW k0 M j + 4 + M j
      omega
theorem kAtW_sum (k0 : Nat) (cs : List CWk) : ∀ n, n ≤ cs.length → kAtW k0 (fun i => (cs.getD i zWk).sk.length) n = k0 + n * 4 + totWk (cs.take n)
  | 0, _ => by simp [kAtW, totWk]
  | n + 1, h => by
    have e : cs.getD n zWk = cs[n] := by simp [List.getD_eq_getElem?_getD, show n < cs.length by omega]
    show kAtW k0 _ n + 4 + (cs.getD n zWk).sk.length = _
    rw [kAtW_sum k0 cs n (by omega)]
    unfold totWk
    rw [List.take_succ_eq_append_getElem (show n < cs.length by omega), List.map_append, List.sum_append, e]
    simp only [List.map_cons, List.map_nil, List.sum_cons, List.sum_nil, Nat.add_zero]
    omega
set_option maxHeartbeats 4000000 in
theorem markWks_any (lo hi b n cap : Nat) (M : Nat → Nat) (hn : n ≤ 1048576) (hMb : ∀ i, i < n → M i ≤ 1048576) (k0 : Nat) (hk1 : 1 ≤ k0) (hk : kAtW k0 M n ≤ 80000000) (w : World) (hM : WkMk lo hi w b n M) :
    Calls Try.prog 19 #[.slice (some ⟨b, 0, none⟩) n cap, .int .i64 (k0 : Int)] w fun e w' => e = .returned (.int .i64 (kAtW k0 M n : Int)) ∧ Span lo hi w w' := by
  have H0 : Hid (WkMk lo hi w b n M) := hM
  have HK : Hid (∀ j, j ≤ n → 1 ≤ kAtW k0 M j ∧ kAtW k0 M j ≤ 80000000) := fun j hj => ⟨Nat.le_trans hk1 (kAtW_le k0 M 0 j (Nat.zero_le _)), Nat.le_trans (kAtW_le _ _ j n hj) hk⟩
  clear hM
  go_enter Try.func19, Try.ntmps19
  go_wp2
  go_loopw [1, 5] (fun k i wr => ∃ j : Nat, j ≤ n ∧ i = .int .i64 (j : Int) ∧ k = .int .i64 (kAtW k0 M j : Int) ∧ Span lo hi w wr ∧ WkMk lo hi wr b n M) (fun _ i _ => n - (intOf i).toNat)
  case atStart => exact ⟨0, Nat.zero_le _, rfl, rfl, Span.refl _ _ _, H0.out⟩
  case round =>
    obtain ⟨j, hj, rfl, rfl, hs, hm⟩ := hrel
    have HS : Hid (Span lo hi w wr) := hs
    have HM : Hid (WkMk lo hi wr b n M) := hm
    clear hs hm
    by_cases hlt : j < n
    · have hlt' : (j : Int) < (n : Int) := by omega
      obtain ⟨hkj0, hkj⟩ := HK.out j hj
      have hkj1 : kAtW k0 M j + 4 + M j ≤ 80000000 := (HK.out (j + 1) hlt).2
      have hMj := hMb j hlt
      have HE : Hid ((kAtW k0 M (j + 1) : Int) = (kAtW k0 M j : Int) + 1 + 1 + 1 + 1 + (M j : Int)) := by
        show ((kAtW k0 M j + 4 + M j : Nat) : Int) = _
        omega
      have t0 := fun w => markText_any (kAtW k0 M j) hkj0 (by omega) w
      generalize mkS (kAtW k0 M j) = s0 at *
      have hlow : lo ≤ wr.heap.size := by have := HM.out.1; omega
      go_wp2_with fail
      (first | go_at_call 47 | skip)
      refine (t0 _).mono ?_
      rintro e w0' ⟨rfl, hb0⟩
      have HM0 : Hid (WkMk lo hi w0' b n M) := HM.out.later hb0
      have HS0 : Hid (Span lo hi w w0') := HS.out.later hlow hb0
      obtain ⟨i0, g0⟩ := HM0.out.2.1 (j * 5) (by omega)
      obtain ⟨v0, hv0⟩ := Option.isSome_iff_exists.mp i0
      obtain ⟨i1, g1⟩ := HM0.out.2.1 (j * 5 + 1) (by omega)
      obtain ⟨v1, hv1⟩ := Option.isSome_iff_exists.mp i1
      obtain ⟨i2, g2⟩ := HM0.out.2.1 (j * 5 + 2) (by omega)
      obtain ⟨v2, hv2⟩ := Option.isSome_iff_exists.mp i2
      obtain ⟨i3, g3⟩ := HM0.out.2.1 (j * 5 + 3) (by omega)
      obtain ⟨v3, hv3⟩ := Option.isSome_iff_exists.mp i3
      obtain ⟨c, cp, hc2, ⟨hcb, hcl, hch⟩, hcc⟩ := HM0.out.2.2 j hlt
      have HT : Hid (∀ W, W = ((((w0'.setCell ⟨b, j * 5, none⟩ (.string s0)).setCell ⟨b, j * 5 + 1, none⟩ (.int .i64 ((kAtW k0 M j : Int) + 1))).setCell ⟨b, j * 5 + 2, none⟩ (.int .i64 ((kAtW k0 M j : Int) + 1 + 1))).setCell ⟨b, j * 5 + 3, none⟩ (.int .i64 ((kAtW k0 M j : Int) + 1 + 1 + 1))) → Calls Try.prog 48 #[.slice (some ⟨c, 0, none⟩) (M j) cp, .int .i64 ((kAtW k0 M j : Int) + 1 + 1 + 1 + 1)] W fun e w' => e = .returned (.int .i64 ((kAtW k0 M j : Int) + 1 + 1 + 1 + 1 + (M j : Int))) ∧ Span lo hi w w' ∧ WkMk lo hi w' b n M) := fun W hW => by
        have d1 := (((HM0.out.set (o := j * 5) (by omega) (.string s0)).set (o := j * 5 + 1) (by omega) (.int .i64 ((kAtW k0 M j : Int) + 1))).set (o := j * 5 + 2) (by omega) (.int .i64 ((kAtW k0 M j : Int) + 1 + 1))).set (o := j * 5 + 3) (by omega) (.int .i64 ((kAtW k0 M j : Int) + 1 + 1 + 1))
        have s1 := (((HS0.out.set HM0.out.1.1 HM0.out.1.2.1 (j * 5) (.string s0)).set HM0.out.1.1 HM0.out.1.2.1 (j * 5 + 1) (.int .i64 ((kAtW k0 M j : Int) + 1))).set HM0.out.1.1 HM0.out.1.2.1 (j * 5 + 2) (.int .i64 ((kAtW k0 M j : Int) + 1 + 1))).set HM0.out.1.1 HM0.out.1.2.1 (j * 5 + 3) (.int .i64 ((kAtW k0 M j : Int) + 1 + 1 + 1))
        rw [← hW] at d1 s1
        have hcz : c < W.heap.size := by have := d1.1; omega
        have hmk : Mk c (M j) W W := by
          refine Mk.start hcz (fun q hq => ?_) (fun q hq => ?_)
          · rw [hW, World.cell?_setCell_far _ _ _ _ (Ne.symm hcb), World.cell?_setCell_far _ _ _ _ (Ne.symm hcb), World.cell?_setCell_far _ _ _ _ (Ne.symm hcb), World.cell?_setCell_far _ _ _ _ (Ne.symm hcb)]; exact (hcc q hq).1
          · rw [hW, World.frozen?_setCell, World.frozen?_setCell, World.frozen?_setCell, World.frozen?_setCell]; exact (hcc q hq).2
        have e2 : (kAtW k0 M j : Int) + 1 + 1 + 1 + 1 = ((kAtW k0 M j + 4 : Nat) : Int) := by omega
        rw [e2]
        refine (markStrs2_any c (M j) cp hMj (kAtW k0 M j + 4) (by omega) (by omega) _ hmk).mono ?_
        rintro e w' ⟨rfl, h1, h2⟩
        refine ⟨rfl, s1.trans (Span.ofMk h1 hcl hch), d1.some h2 h1.1.1.size (fun i hi => World.cell?_of_block (a := ⟨b, i * 5 + 4, none⟩) (h1.1.2.2 b (Ne.symm hcb) (by have := d1.1; omega)))⟩
      have hne : b ≠ c := Ne.symm hcb
      clear hb0 t0 i0 i1 i2 i3 hcc
      generalize kAtW k0 M j = K at *
      go_wp2_with fail
      (first | go_at_call 48 | skip)
      refine (HT.out _ rfl).mono ?_
      rintro e w2 ⟨rfl, hs2, hd2⟩
      have HS2 : Hid (Span lo hi w w2) := hs2
      have HD2 : Hid (WkMk lo hi w2 b n M) := hd2
      clear hs2 hd2 HT hv0 hv1 hv2 hv3 hc2 g0 g1 g2 g3
      generalize M j = m at *
      go_wp2
      exact ⟨⟨j + 1, by omega, by go_num, by rw [HE.out], HS2.out, HD2.out⟩, by simp [intOf]; omega⟩
    · obtain rfl : j = n := by omega
      go_wp2
      go_ret
      exact ⟨rfl, HS.out⟩
end Go.Proofs.Yteigbmdhfeagfaa

/-
  The laws' own marks on lists of facings (markIntS, markFacingS): they turn blocks of that list alone.
-/
import Derived.Test.YtphefbaogfknoaaFcE
import Derived.Test.YtphefbaogfknoaaMark0
import Derived.Test.YtphefbaogfknoaaMarkText
namespace Go.Proofs.Ytphefbaogfknoaa
open Go.ChangeShapes Go.WideShapes Go.ChangeAt Go.RowKit Go.Deep
set_option linter.unusedVariables false

def Span (lo hi : Nat) (w w' : World) : Prop := Below lo w w' ∧ ∀ c o, hi ≤ c → c < w.heap.size → w'.cell? ⟨c, o, none⟩ = w.cell? ⟨c, o, none⟩ ∧ w'.frozen? ⟨c, o, none⟩ = w.frozen? ⟨c, o, none⟩
theorem Span.refl (lo hi : Nat) (w : World) : Span lo hi w w := ⟨Below.refl _ _, fun _ _ _ _ => ⟨rfl, rfl⟩⟩
theorem Span.trans {lo hi : Nat} {w w' w'' : World} (h : Span lo hi w w') (k : Span lo hi w' w'') : Span lo hi w w'' := ⟨h.1.trans k.1, fun c o h1 h2 => ⟨(k.2 c o h1 (Nat.lt_of_lt_of_le h2 h.1.size)).1.trans (h.2 c o h1 h2).1, (k.2 c o h1 (Nat.lt_of_lt_of_le h2 h.1.size)).2.trans (h.2 c o h1 h2).2⟩⟩
theorem Span.later {lo hi : Nat} {w w' w'' : World} (h : Span lo hi w w') (hlo : lo ≤ w'.heap.size) (k : Below w'.heap.size w' w'') : Span lo hi w w'' := h.trans ⟨k.mono hlo, fun c o h1 h2 => ⟨k.cell (p := ⟨c, o, none⟩) h2, k.frozen (p := ⟨c, o, none⟩) h2⟩⟩
theorem Span.set {lo hi : Nat} {w w' : World} (h : Span lo hi w w') {c : Nat} (h1 : lo ≤ c) (h2 : c < hi) (o : Nat) (v : Value) : Span lo hi w (w'.setCell ⟨c, o, none⟩ v) := h.trans ⟨(Below.refl _ _).setCell h1 _, fun d q k1 k2 => ⟨World.cell?_setCell_far _ _ _ _ (show c ≠ d by omega), World.frozen?_setCell _ _ _ _⟩⟩
theorem Span.ofMk {lo hi b m : Nat} {w w' : World} (h : Mk b m w w') (h1 : lo ≤ b) (h2 : b < hi) : Span lo hi w w' := ⟨h.1.1.mono h1, fun c o k1 k2 => ⟨World.cell?_of_block (w := w) (a := ⟨c, o, none⟩) (h.1.2.2 c (by omega) k2), World.frozen?_of_block (w := w) (a := ⟨c, o, none⟩) (h.1.2.2 c (by omega) k2)⟩⟩
theorem Span.ofOthers {lo hi b : Nat} {w w' : World} (h : Others b w w') (h1 : lo ≤ b) (h2 : b < hi) : Span lo hi w w' := ⟨h.2.2.2 lo h1, fun c o k1 k2 => ⟨h.1 c o (by omega), h.2.1 c o⟩⟩
/-- What lies from hi on is as it was. -/
theorem Span.above {lo hi : Nat} {w w' : World} (h : Span lo hi w w') {b : Nat} (h1 : hi ≤ b) (h2 : b < w.heap.size) (o : Nat) : w'.cell? ⟨b, o, none⟩ = w.cell? ⟨b, o, none⟩ ∧ w'.frozen? ⟨b, o, none⟩ = w.frozen? ⟨b, o, none⟩ := h.2 b o h1 h2
/-- Every cell that was there is there, and none of them is frozen that was not. -/
def SomeK (w w' : World) : Prop := ∀ c o, c < w.heap.size → ((w.cell? ⟨c, o, none⟩).isSome = true → (w'.cell? ⟨c, o, none⟩).isSome = true) ∧ w'.frozen? ⟨c, o, none⟩ = w.frozen? ⟨c, o, none⟩
theorem SomeK.refl (w : World) : SomeK w w := fun _ _ _ => ⟨id, rfl⟩
theorem SomeK.later {w w1 w2 : World} (h : SomeK w w1) (hz : w.heap.size ≤ w1.heap.size) (hb : Below w1.heap.size w1 w2) : SomeK w w2 := fun c o hc => by
  obtain ⟨h1, h2⟩ := h c o hc
  exact ⟨fun q => by rw [hb.cell (p := ⟨c, o, none⟩) (show c < w1.heap.size by omega)]; exact h1 q, (hb.frozen (p := ⟨c, o, none⟩) (show c < w1.heap.size by omega)).trans h2⟩
theorem SomeK.set {w w1 : World} (h : SomeK w w1) (d q : Nat) (v : Value) : SomeK w (w1.setCell ⟨d, q, none⟩ v) := fun c o hc => by
  obtain ⟨h1, h2⟩ := h c o hc
  refine ⟨fun s => ?_, by rw [World.frozen?_setCell]; exact h2⟩
  obtain ⟨u, hu⟩ := Option.isSome_iff_exists.mp (h1 s)
  by_cases e : (⟨d, q, none⟩ : Addr) = ⟨c, o, none⟩
  · rw [← e] at hu ⊢
    rw [World.cell?_setCell_same _ _ _ hu]; rfl
  · rw [World.cell?_setCell_other _ _ _ _ e, hu]; rfl
set_option maxHeartbeats 2000000 in
theorem markInts2_any (b n cap : Nat) (hn : n ≤ 1048576) (k0 : Nat) (hk : k0 ≤ 100000000) (hk1 : 1 ≤ k0) (w : World) (hM : Mk b n w w) :
    Calls Try.prog 21 #[.slice (some ⟨b, 0, none⟩) n cap, .int .i64 (k0 : Int)] w fun e w' => e = .returned (.int .i64 ((k0 : Int) + (n : Int))) ∧ Mk b n w w' ∧ SomeK w w' := by
  have H0 : Hid (Mk b n w w) := hM
  clear hM
  go_enter Try.func21, Try.ntmps21
  go_wp2
  go_loopw [1, 5] (fun k i wr => ∃ j : Nat, j ≤ n ∧ i = .int .i64 (j : Int) ∧ k = .int .i64 ((k0 : Int) + (j : Int)) ∧ Mk b n w wr ∧ SomeK w wr) (fun _ i _ => n - (intOf i).toNat)
  case atStart => exact ⟨0, Nat.zero_le _, rfl, by simp, H0.out, SomeK.refl _⟩
  case round =>
    obtain ⟨j, hj, rfl, rfl, hm, hs⟩ := hrel
    have HS : Hid (SomeK w wr) := hs
    have HM : Hid (Mk b n w wr) := hm
    clear hm hs
    by_cases hlt : j < n
    · have hlt' : (j : Int) < (n : Int) := by omega
      obtain ⟨v0, hv0, hf0⟩ := HM.out.at j (by omega)
      go_wp2
      exact ⟨⟨j + 1, by omega, by go_num, by go_num, HM.out.set _ _, HS.out.set _ _ _⟩, by simp [intOf]; omega⟩
    · obtain rfl : j = n := by omega
      go_wp2
      go_ret
      exact ⟨rfl, HM.out, HS.out⟩
def FcMk (lo hi : Nat) (w : World) (b n : Nat) (M : Nat → Nat) : Prop := (lo ≤ b ∧ b < hi ∧ hi ≤ w.heap.size) ∧ (∀ j, j < n * 4 → (w.cell? ⟨b, j, none⟩).isSome = true ∧ w.frozen? ⟨b, j, none⟩ = false) ∧
  ∀ i, i < n → ∃ c cp, w.cell? ⟨b, i * 4 + 3, none⟩ = some (.slice (some ⟨c, 0, none⟩) (M i) cp) ∧ (c ≠ b ∧ lo ≤ c ∧ c < hi) ∧ ∀ j, j < M i → (w.cell? ⟨c, j, none⟩).isSome = true ∧ w.frozen? ⟨c, j, none⟩ = false
theorem FcMk.some {lo hi : Nat} {w w' : World} {b n : Nat} {M : Nat → Nat} (h : FcMk lo hi w b n M) (hs : SomeK w w') (hz : w.heap.size ≤ w'.heap.size) (hb : ∀ i, i < n → w'.cell? ⟨b, i * 4 + 3, none⟩ = w.cell? ⟨b, i * 4 + 3, none⟩) : FcMk lo hi w' b n M := by
  obtain ⟨⟨h1, h2, h3⟩, h4, h5⟩ := h
  refine ⟨⟨h1, h2, by omega⟩, fun j hj => ?_, fun i hi => ?_⟩
  · obtain ⟨k1, k2⟩ := h4 j hj
    exact ⟨(hs b j (by omega)).1 k1, (hs b j (by omega)).2.trans k2⟩
  · obtain ⟨c, cp, k1, k2, k3⟩ := h5 i hi
    exact ⟨c, cp, (hb i hi).trans k1, k2, fun j hj => ⟨(hs c j (by omega)).1 (k3 j hj).1, (hs c j (by omega)).2.trans (k3 j hj).2⟩⟩
theorem FcMk.later {lo hi : Nat} {w w' : World} {b n : Nat} {M : Nat → Nat} (h : FcMk lo hi w b n M) (hb : Below w.heap.size w w') : FcMk lo hi w' b n M :=
  h.some ((SomeK.refl w).later (Nat.le_refl _) hb) hb.size (fun i hi => hb.cell (p := ⟨b, i * 4 + 3, none⟩) (show b < w.heap.size by have := h.1; omega))
theorem FcMk.set {lo hi : Nat} {w : World} {b n : Nat} {M : Nat → Nat} (h : FcMk lo hi w b n M) {o : Nat} (ho : o % 4 ≠ 3) (v : Value) : FcMk lo hi (w.setCell ⟨b, o, none⟩ v) b n M :=
  h.some ((SomeK.refl w).set _ _ _) (by rw [World.size_setCell]; exact Nat.le_refl _) (fun i hi => World.cell?_setCell_other _ _ _ _ (fun e => by cases e; omega))
theorem OwnFc.mk {lo : Nat} {w : World} {b : Nat} {cs : List CFc} (h : OwnFc lo w b cs) : FcMk lo w.heap.size w b cs.length (fun i => (cs.getD i zFc).gs.length) := by
  obtain ⟨h1, h2, h3, h4⟩ := h
  refine ⟨⟨h1, h2, Nat.le_refl _⟩, fun j hj => ⟨?_, h3 j hj⟩, fun i hi => ?_⟩
  · obtain ⟨g, _, ⟨m0, m1, m2, m3⟩, _⟩ := h4 (j / 4) (by omega)
    rcases (show j % 4 = 0 ∨ j % 4 = 1 ∨ j % 4 = 2 ∨ j % 4 = 3 by omega) with e | e | e | e
    · rw [show j = j / 4 * 4 by omega, m0]; rfl
    · rw [show j = j / 4 * 4 + 1 by omega, m1]; rfl
    · rw [show j = j / 4 * 4 + 2 by omega, m2]; rfl
    · rw [show j = j / 4 * 4 + 3 by omega, m3]; rfl
  · obtain ⟨g, ⟨k1, k2, k3⟩, ⟨m0, m1, m2, m3⟩, k5, k6⟩ := h4 i hi
    refine ⟨g, _, m3, ⟨k1, k2, k3⟩, fun j hj => ⟨?_, ?_⟩⟩
    · have := k5 j hj
      rw [Nat.zero_add] at this
      rw [this]; rfl
    · have := k6 j hj
      rwa [Nat.zero_add] at this
def kAtF (k0 : Nat) (M : Nat → Nat) : Nat → Nat
  | 0 => k0
  | i + 1 => kAtF k0 M i + 3 + M i
theorem kAtF_le (k0 : Nat) (M : Nat → Nat) (i j : Nat) (h : i ≤ j) : kAtF k0 M i ≤ kAtF k0 M j := by
  induction j with
  | zero => obtain rfl : i = 0 := by omega
            exact Nat.le_refl _
  | succ j ih =>
    by_cases e : i = j + 1
    · subst e; exact Nat.le_refl _
    · have := ih (by omega)
      show _ ≤ kAtF k0 M j + 3 + M j
      omega
theorem kAtF_sum (k0 : Nat) (cs : List CFc) : ∀ n, n ≤ cs.length → kAtF k0 (fun i => (cs.getD i zFc).gs.length) n = k0 + n * 3 + totFc (cs.take n)
  | 0, _ => by simp [kAtF, totFc]
  | n + 1, h => by
    have e : cs.getD n zFc = cs[n] := by simp [List.getD_eq_getElem?_getD, show n < cs.length by omega]
    show kAtF k0 _ n + 3 + (cs.getD n zFc).gs.length = _
    rw [kAtF_sum k0 cs n (by omega)]
    unfold totFc
    rw [List.take_succ_eq_append_getElem (show n < cs.length by omega), List.map_append, List.sum_append, e]
    simp only [List.map_cons, List.map_nil, List.sum_cons, List.sum_nil, Nat.add_zero]
    omega
set_option maxHeartbeats 4000000 in
theorem markFcs_any (lo hi b n cap : Nat) (M : Nat → Nat) (hn : n ≤ 1048576) (hMb : ∀ i, i < n → M i ≤ 1048576) (k0 : Nat) (hk1 : 1 ≤ k0) (hk : kAtF k0 M n ≤ 100000000) (w : World) (hM : FcMk lo hi w b n M) :
    Calls Try.prog 20 #[.slice (some ⟨b, 0, none⟩) n cap, .int .i64 (k0 : Int)] w fun e w' => e = .returned (.int .i64 (kAtF k0 M n : Int)) ∧ Span lo hi w w' := by
  have H0 : Hid (FcMk lo hi w b n M) := hM
  have HK : Hid (∀ j, j ≤ n → 1 ≤ kAtF k0 M j ∧ kAtF k0 M j ≤ 100000000) := fun j hj => ⟨Nat.le_trans hk1 (kAtF_le k0 M 0 j (Nat.zero_le _)), Nat.le_trans (kAtF_le _ _ j n hj) hk⟩
  clear hM
  go_enter Try.func20, Try.ntmps20
  go_wp2
  go_loopw [1, 5] (fun k i wr => ∃ j : Nat, j ≤ n ∧ i = .int .i64 (j : Int) ∧ k = .int .i64 (kAtF k0 M j : Int) ∧ Span lo hi w wr ∧ FcMk lo hi wr b n M) (fun _ i _ => n - (intOf i).toNat)
  case atStart => exact ⟨0, Nat.zero_le _, rfl, rfl, Span.refl _ _ _, H0.out⟩
  case round =>
    obtain ⟨j, hj, rfl, rfl, hs, hm⟩ := hrel
    have HS : Hid (Span lo hi w wr) := hs
    have HM : Hid (FcMk lo hi wr b n M) := hm
    clear hs hm
    by_cases hlt : j < n
    · have hlt' : (j : Int) < (n : Int) := by omega
      obtain ⟨hkj0, hkj⟩ := HK.out j hj
      have hkj1 : kAtF k0 M j + 3 + M j ≤ 100000000 := (HK.out (j + 1) hlt).2
      have hMj := hMb j hlt
      have HE : Hid ((kAtF k0 M (j + 1) : Int) = (kAtF k0 M j : Int) + 1 + 1 + 1 + (M j : Int)) := by
        show ((kAtF k0 M j + 3 + M j : Nat) : Int) = _
        omega
      have t0 := fun w => markText_any (kAtF k0 M j) hkj0 (by omega) w
      generalize mkS (kAtF k0 M j) = s0 at *
      have hlow : lo ≤ wr.heap.size := by have := HM.out.1; omega
      go_wp2_with fail
      (first | go_at_call 46 | skip)
      refine (t0 _).mono ?_
      rintro e w0' ⟨rfl, hb0⟩
      have HM0 : Hid (FcMk lo hi w0' b n M) := HM.out.later hb0
      have HS0 : Hid (Span lo hi w w0') := HS.out.later hlow hb0
      obtain ⟨i0, g0⟩ := HM0.out.2.1 (j * 4) (by omega)
      obtain ⟨v0, hv0⟩ := Option.isSome_iff_exists.mp i0
      obtain ⟨i1, g1⟩ := HM0.out.2.1 (j * 4 + 1) (by omega)
      obtain ⟨v1, hv1⟩ := Option.isSome_iff_exists.mp i1
      obtain ⟨i2, g2⟩ := HM0.out.2.1 (j * 4 + 2) (by omega)
      obtain ⟨v2, hv2⟩ := Option.isSome_iff_exists.mp i2
      obtain ⟨c, cp, hc2, ⟨hcb, hcl, hch⟩, hcc⟩ := HM0.out.2.2 j hlt
      have HT : Hid (∀ W, W = (((w0'.setCell ⟨b, j * 4, none⟩ (.string s0)).setCell ⟨b, j * 4 + 1, none⟩ (.int .i64 ((kAtF k0 M j : Int) + 1))).setCell ⟨b, j * 4 + 2, none⟩ (.int .i64 ((kAtF k0 M j : Int) + 1 + 1))) → Calls Try.prog 21 #[.slice (some ⟨c, 0, none⟩) (M j) cp, .int .i64 ((kAtF k0 M j : Int) + 1 + 1 + 1)] W fun e w' => e = .returned (.int .i64 ((kAtF k0 M j : Int) + 1 + 1 + 1 + (M j : Int))) ∧ Span lo hi w w' ∧ FcMk lo hi w' b n M) := fun W hW => by
        have d1 := ((HM0.out.set (o := j * 4) (by omega) (.string s0)).set (o := j * 4 + 1) (by omega) (.int .i64 ((kAtF k0 M j : Int) + 1))).set (o := j * 4 + 2) (by omega) (.int .i64 ((kAtF k0 M j : Int) + 1 + 1))
        have s1 := ((HS0.out.set HM0.out.1.1 HM0.out.1.2.1 (j * 4) (.string s0)).set HM0.out.1.1 HM0.out.1.2.1 (j * 4 + 1) (.int .i64 ((kAtF k0 M j : Int) + 1))).set HM0.out.1.1 HM0.out.1.2.1 (j * 4 + 2) (.int .i64 ((kAtF k0 M j : Int) + 1 + 1))
        rw [← hW] at d1 s1
        have hcz : c < W.heap.size := by have := d1.1; omega
        have hmk : Mk c (M j) W W := by
          refine Mk.start hcz (fun q hq => ?_) (fun q hq => ?_)
          · rw [hW, World.cell?_setCell_far _ _ _ _ (Ne.symm hcb), World.cell?_setCell_far _ _ _ _ (Ne.symm hcb), World.cell?_setCell_far _ _ _ _ (Ne.symm hcb)]; exact (hcc q hq).1
          · rw [hW, World.frozen?_setCell, World.frozen?_setCell, World.frozen?_setCell]; exact (hcc q hq).2
        have e2 : (kAtF k0 M j : Int) + 1 + 1 + 1 = ((kAtF k0 M j + 3 : Nat) : Int) := by omega
        rw [e2]
        refine (markInts2_any c (M j) cp hMj (kAtF k0 M j + 3) (by omega) (by omega) _ hmk).mono ?_
        rintro e w' ⟨rfl, h1, h2⟩
        refine ⟨rfl, s1.trans (Span.ofMk h1 hcl hch), d1.some h2 h1.1.1.size (fun i hi => World.cell?_of_block (a := ⟨b, i * 4 + 3, none⟩) (h1.1.2.2 b (Ne.symm hcb) (by have := d1.1; omega)))⟩
      have hne : b ≠ c := Ne.symm hcb
      clear hb0 t0 i0 i1 i2 hcc
      generalize kAtF k0 M j = K at *
      go_wp2_with fail
      (first | go_at_call 21 | skip)
      refine (HT.out _ rfl).mono ?_
      rintro e w2 ⟨rfl, hs2, hd2⟩
      have HS2 : Hid (Span lo hi w w2) := hs2
      have HD2 : Hid (FcMk lo hi w2 b n M) := hd2
      clear hs2 hd2 HT hv0 hv1 hv2 hc2 g0 g1 g2
      generalize M j = m at *
      go_wp2
      exact ⟨⟨j + 1, by omega, by go_num, by rw [HE.out], HS2.out, HD2.out⟩, by simp [intOf]; omega⟩
    · obtain rfl : j = n := by omega
      go_wp2
      go_ret
      exact ⟨rfl, HS.out⟩
end Go.Proofs.Ytphefbaogfknoaa

/-
  The laws' own helpers eqPackS and markPackS.
-/
import Derived.Test.YtaledfdhiimhdajPackE
namespace Go.Proofs.Ytaledfdhiimhdaj
open Go.ChangeShapes Go.WideShapes Go.ChangeAt Go.RowKit
set_option linter.unusedVariables false

theorem eqPack_any (n o : ByteArray) (c : Int) (w : World) :
    Calls Try.prog 38 #[.agg #[.string n, .string o, .int .i64 c], .agg #[.string n, .string o, .int .i64 c]] w fun e w' => e = .returned (.bool true) ∧ Below w.heap.size w w' := by
  have l1 : ∀ n : Nat, n < n + 1 + 1 := fun n => by omega
  have l2 : ∀ n : Nat, n < n + 2 := fun n => by omega
  go_enter Try.func38, Try.ntmps38
  go_wp2
  go_ret
  exact ⟨rfl, chain (below_alloc _ _) (below_alloc _ _)⟩

theorem keepSix {W w1 : World} {b0 b1 p0 p1 p2 q0 q1 q2 : Nat} {c0 c1 c2 d0 d1 d2 : Value} (hb : Below W.heap.size W w1) (h : W.cell? ⟨b0, p0, none⟩ = some c0 ∧ W.cell? ⟨b0, p1, none⟩ = some c1 ∧ W.cell? ⟨b0, p2, none⟩ = some c2 ∧ W.cell? ⟨b1, q0, none⟩ = some d0 ∧ W.cell? ⟨b1, q1, none⟩ = some d1 ∧ W.cell? ⟨b1, q2, none⟩ = some d2 ∧ b0 < W.heap.size ∧ b1 < W.heap.size) :
    w1.cell? ⟨b0, p0, none⟩ = some c0 ∧ w1.cell? ⟨b0, p1, none⟩ = some c1 ∧ w1.cell? ⟨b0, p2, none⟩ = some c2 ∧ w1.cell? ⟨b1, q0, none⟩ = some d0 ∧ w1.cell? ⟨b1, q1, none⟩ = some d1 ∧ w1.cell? ⟨b1, q2, none⟩ = some d2 ∧ b0 < w1.heap.size ∧ b1 < w1.heap.size := by
  obtain ⟨h0, h1, h2, h3, h4, h5, h6, h7⟩ := h
  exact ⟨(hb.cell (p := ⟨b0, p0, none⟩) h6).trans h0, (hb.cell (p := ⟨b0, p1, none⟩) h6).trans h1, (hb.cell (p := ⟨b0, p2, none⟩) h6).trans h2, (hb.cell (p := ⟨b1, q0, none⟩) h7).trans h3, (hb.cell (p := ⟨b1, q1, none⟩) h7).trans h4, (hb.cell (p := ⟨b1, q2, none⟩) h7).trans h5, Nat.lt_of_lt_of_le h6 hb.size, Nat.lt_of_lt_of_le h7 hb.size⟩

set_option maxHeartbeats 2000000 in
theorem eqPacks_any (a b : Option Addr) (ca cb : Nat) (ps : List Pk) (hn : ps.length ≤ 1048576) (w : World) (ra : ReadsP w.heap.size w a ps) (rb : ReadsP w.heap.size w b ps) :
    Calls Try.prog 13 #[.slice a ps.length ca, .slice b ps.length cb] w fun e w' => e = .returned (.bool true) ∧ Below w.heap.size w w' := by
  have HA : Hid (ReadsP w.heap.size w a ps) := ra
  have HBb : Hid (ReadsP w.heap.size w b ps) := rb
  clear ra rb
  go_enter Try.func13, Try.ntmps13
  go_wp2
  go_loopw [5] (fun i wr => ∃ k : Nat, k ≤ ps.length ∧ i = .int .i64 (k : Int) ∧ Below w.heap.size w wr) (fun i _ => ps.length - (intOf i).toNat)
  case atStart => exact ⟨0, Nat.zero_le _, rfl, Below.refl _ _⟩
  case round =>
    obtain ⟨k, hk, rfl, hb⟩ := hrel
    have HB : Hid (Below w.heap.size w wr) := hb
    clear hb
    by_cases hlt : k < ps.length
    · have hlt' : (k : Int) < (ps.length : Int) := by omega
      rcases HA.out with h | ⟨b0, o0, ha, hB0, ia⟩
      · rw [h] at hlt; simp at hlt
      rcases HBb.out with h | ⟨b1, o1, hbb, hB1, ib⟩
      · rw [h] at hlt; simp at hlt
      obtain ⟨c0, c1, c2⟩ := (ia.below HB.out hB0) k hlt
      obtain ⟨d0, d1, d2⟩ := (ib.below HB.out hB1) k hlt
      have lt0 : b0 < wr.heap.size := Nat.lt_of_lt_of_le hB0 HB.out.size
      have lt1 : b1 < wr.heap.size := Nat.lt_of_lt_of_le hB1 HB.out.size
      rw [ha, hbb]
      clear ia ib
      generalize (ps.getD k pk0).name = nm at *
      generalize (ps.getD k pk0).of = ofn at *
      generalize (ps.getD k pk0).count = cnt at *
      go_wp2
      go_region_held3 (fun W => W.cell? ⟨b0, o0 + k * 3, none⟩ = some (.string nm) ∧ W.cell? ⟨b0, o0 + k * 3 + 1, none⟩ = some (.string ofn) ∧ W.cell? ⟨b0, o0 + k * 3 + 2, none⟩ = some (.int .i64 cnt) ∧ W.cell? ⟨b1, o1 + k * 3, none⟩ = some (.string nm) ∧ W.cell? ⟨b1, o1 + k * 3 + 1, none⟩ = some (.string ofn) ∧ W.cell? ⟨b1, o1 + k * 3 + 2, none⟩ = some (.int .i64 cnt) ∧ b0 < W.heap.size ∧ b1 < W.heap.size) (first | exact ⟨c0, c1, c2, d0, d1, d2, lt0, lt1⟩ | exact keepSix (by assumption) (by assumption)) (first | (go_at_call 38; refine (eqPack_any _ _ _ _).mono ?_; rintro e w2 ⟨rfl, hb2⟩))
      have HB2 : Hid (Below w.heap.size w w2) := chain HB.out.drew hb2
      go_wp2
      go_roundw
      case rel => exact ⟨k + 1, by omega, by go_num, HB2.out⟩
      case measure => simp [intOf]; omega
    · go_wp2
      go_ret
      exact ⟨rfl, HB.out⟩

/-- All blocks but D are as they were. -/
def Apart (D : Nat) (w w' : World) : Prop := w.heap.size ≤ w'.heap.size ∧ ∀ k, k ≠ D → k < w.heap.size → w'.heap[k]? = w.heap[k]?
theorem own2_apart {B D : Nat} {w w' : World} {g : Option Addr} {L : List Int} (h : Own2 B w g L) (ha : Apart D w w') (hne : ∀ c, g = some ⟨c, 0, none⟩ → c ≠ D ∨ L = []) : Own2 B w' g L := by
  rcases h with h | ⟨b, hg, hB, hl, hi, hf⟩
  · exact .inl h
  · rcases hne b hg with h | h
    · have e := ha.2 b h hl
      exact .inr ⟨b, hg, hB, Nat.lt_of_lt_of_le hl ha.1, fun i hk => (World.cell?_of_block (w := w) (a := ⟨b, 0 + i, none⟩) e).trans (hi i hk), fun i hk => (World.frozen?_of_block (w := w) (a := ⟨b, 0 + i, none⟩) e).trans (hf i hk)⟩
    · exact .inl h
/-- Block b has m cells that may be written; below it, and beside it, nothing has turned. -/
def Mk (b m : Nat) (w wr : World) : Prop := (Below b w wr ∧ Apart b w wr) ∧ b < wr.heap.size ∧ (∀ j, j < m → (wr.cell? ⟨b, j, none⟩).isSome = true) ∧ ∀ j, j < m → wr.frozen? ⟨b, j, none⟩ = false
theorem Mk.later {b m : Nat} {w wr w2 : World} (h : Mk b m w wr) (hb : Below wr.heap.size wr w2) : Mk b m w w2 := by
  obtain ⟨⟨h1, ha⟩, h2, h3, h4⟩ := h
  exact ⟨⟨h1.trans (hb.mono (Nat.le_of_lt h2)), Nat.le_trans ha.1 hb.size, fun k hk hl => (hb.block k (Nat.lt_of_lt_of_le hl ha.1)).trans (ha.2 k hk hl)⟩, Nat.lt_of_lt_of_le h2 hb.size, fun j hj => by rw [hb.cell (p := ⟨b, j, none⟩) h2]; exact h3 j hj, fun j hj => by rw [hb.frozen (p := ⟨b, j, none⟩) h2]; exact h4 j hj⟩
theorem Mk.set {b m : Nat} {w wr : World} (h : Mk b m w wr) (o : Nat) (v : Value) : Mk b m w (wr.setCell ⟨b, o, none⟩ v) := by
  obtain ⟨⟨h1, ha⟩, h2, h3, h4⟩ := h
  refine ⟨⟨h1.setCell (Nat.le_refl _) _, by rw [World.size_setCell]; exact ha.1, fun k hk hl => (Below.heap_setCell _ _ _ _ hk).trans (ha.2 k hk hl)⟩, by rw [World.size_setCell]; exact h2, fun j hj => ?_, fun j hj => by rw [World.frozen?_setCell]; exact h4 j hj⟩
  obtain ⟨u, hu⟩ := Option.isSome_iff_exists.mp (h3 j hj)
  by_cases e : j = o
  · subst e; rw [World.cell?_setCell_same _ _ _ hu]; rfl
  · rw [World.cell?_setCell_other _ _ _ _ (fun h => e (by first | (simp at h; omega) | (simp at h; done) | (cases h; rfl)))]; rw [hu]; rfl
theorem Mk.at {b m : Nat} {w wr : World} (h : Mk b m w wr) (j : Nat) (hj : j < m) : ∃ v, wr.cell? ⟨b, j, none⟩ = some v ∧ wr.frozen? ⟨b, j, none⟩ = false := by
  obtain ⟨u, hu⟩ := Option.isSome_iff_exists.mp (h.2.2.1 j hj)
  exact ⟨u, hu, h.2.2.2 j hj⟩
theorem Mk.start {b n : Nat} {w : World} (hc : b < w.heap.size) (h : ∀ j, j < n → (w.cell? ⟨b, j, none⟩).isSome = true) (hf : ∀ j, j < n → w.frozen? ⟨b, j, none⟩ = false) : Mk b n w w :=
  ⟨⟨Below.refl _ _, Nat.le_refl _, fun _ _ _ => rfl⟩, hc, h, hf⟩
theorem packs_some {w : World} {b : Nat} {ps : List Pk} (h : PacksAt w b 0 ps) : ∀ j, j < ps.length * 3 → (w.cell? ⟨b, j, none⟩).isSome = true := fun j hj => by
  obtain ⟨h0, h1, h2⟩ := h (j / 3) (by omega)
  rcases (show j % 3 = 0 ∨ j % 3 = 1 ∨ j % 3 = 2 by omega) with e | e | e
  · rw [show j = 0 + j / 3 * 3 by omega, h0]; rfl
  · rw [show j = 0 + j / 3 * 3 + 1 by omega, h1]; rfl
  · rw [show j = 0 + j / 3 * 3 + 2 by omega, h2]; rfl

set_option maxHeartbeats 2000000 in
theorem markPacks_any (b n cap : Nat) (hn : n ≤ 1048576) (w : World) (hM : Mk b (n * 3) w w) :
    Calls Try.prog 14 #[.slice (some ⟨b, 0, none⟩) n cap, .int .i64 1] w fun e w' => e = .returned (.int .i64 (1 + (n : Int) * 3)) ∧ Mk b (n * 3) w w' := by
  have H0 : Hid (Mk b (n * 3) w w) := hM
  clear hM
  go_enter Try.func14, Try.ntmps14
  go_wp2
  go_loopw [1, 5] (fun k i wr => ∃ j : Nat, j ≤ n ∧ i = .int .i64 (j : Int) ∧ k = .int .i64 (1 + (j : Int) * 3) ∧ Mk b (n * 3) w wr) (fun _ i _ => n - (intOf i).toNat)
  case atStart => exact ⟨0, Nat.zero_le _, rfl, by simp, H0.out⟩
  case round =>
    obtain ⟨j, hj, rfl, rfl, hm⟩ := hrel
    have HM : Hid (Mk b (n * 3) w wr) := hm
    clear hm
    by_cases hlt : j < n
    · have hlt' : (j : Int) < (n : Int) := by omega
      have t1 := fun w => markText_any (1 + j * 3) (by omega) (by omega) w
      have t2 := fun w => markText_any (1 + j * 3 + 1) (by omega) (by omega) w
      have e1 : ((1 + j * 3 : Nat) : Int) = 1 + (j : Int) * 3 := by omega
      have e2 : ((1 + j * 3 + 1 : Nat) : Int) = 1 + (j : Int) * 3 + 1 := by omega
      rw [e1] at t1
      rw [e2] at t2
      clear e1 e2
      generalize mkS (1 + j * 3) = s1 at *
      generalize mkS (1 + j * 3 + 1) = s2 at *
      go_wp2_with (first
        | (go_at_call 39; have G := HM2; refine (t2 _).mono ?_; rintro e w3 ⟨rfl, hb3⟩; have HM3 : Hid (Mk b (n * 3) w w3) := (HM2.out.set _ _).later hb3; have HM4 : Hid (Mk b (n * 3) w (w3.setCell ⟨b, j * 3 + 1, none⟩ (.string s2))) := HM3.out.set _ _; obtain ⟨v3, hv3, hf3⟩ := HM3.out.at (j * 3 + 1) (by omega); obtain ⟨v4, hv4, hf4⟩ := HM4.out.at (j * 3 + 2) (by omega); clear hb3)
        | (go_at_call 39; refine (t1 _).mono ?_; rintro e w2 ⟨rfl, hb2⟩; have HM2 : Hid (Mk b (n * 3) w w2) := HM.out.later hb2; obtain ⟨v2, hv2, hf2⟩ := HM2.out.at (j * 3) (by omega); clear hb2))
      exact ⟨⟨j + 1, by omega, by go_num, by go_num, HM4.out.set _ _⟩, by simp [intOf]; omega⟩
    · obtain rfl : j = n := by omega
      go_wp2
      go_ret
      exact ⟨rfl, HM.out⟩
end Go.Proofs.Ytaledfdhiimhdaj

/-
  The laws' own helpers on lists of PriceStep, held as one flat list of numbers.
-/
import Derived.Test.YtbkaikobjkkgkaaMark0
namespace Go.Proofs.Ytbkaikobjkkgkaa
open Go.ChangeShapes Go.WideShapes Go.ChangeAt Go.RowKit Go.Deep
set_option linter.unusedVariables false

namespace StH
theorem eq_any (x0 x1 : Int) (w : World) :
    Calls Try.prog 37 #[.agg #[.int .i64 x0, .int .i64 x1], .agg #[.int .i64 x0, .int .i64 x1]] w fun e w' => e = .returned (.bool true) ∧ Below w.heap.size w w' := by
  have l1 : ∀ n : Nat, n < n + 1 + 1 := fun n => by omega
  have l2 : ∀ n : Nat, n < n + 2 := fun n => by omega
  go_enter Try.func37, Try.ntmps37
  go_wp2
  go_ret
  exact ⟨rfl, chain (below_alloc _ _) (below_alloc _ _)⟩
theorem keep {W w1 : World} {b0 b1 p0 p1 q0 q1 : Nat} {c0 c1 d0 d1 : Value} (hb : Below W.heap.size W w1) (h : W.cell? ⟨b0, p0, none⟩ = some c0 ∧ W.cell? ⟨b0, p1, none⟩ = some c1 ∧ W.cell? ⟨b1, q0, none⟩ = some d0 ∧ W.cell? ⟨b1, q1, none⟩ = some d1 ∧ b0 < W.heap.size ∧ b1 < W.heap.size) :
    w1.cell? ⟨b0, p0, none⟩ = some c0 ∧ w1.cell? ⟨b0, p1, none⟩ = some c1 ∧ w1.cell? ⟨b1, q0, none⟩ = some d0 ∧ w1.cell? ⟨b1, q1, none⟩ = some d1 ∧ b0 < w1.heap.size ∧ b1 < w1.heap.size := by
  obtain ⟨h0, h1, k0, k1, l0, l1⟩ := h
  exact ⟨(hb.cell (p := ⟨b0, p0, none⟩) l0).trans h0, (hb.cell (p := ⟨b0, p1, none⟩) l0).trans h1, (hb.cell (p := ⟨b1, q0, none⟩) l1).trans k0, (hb.cell (p := ⟨b1, q1, none⟩) l1).trans k1, Nat.lt_of_lt_of_le l0 hb.size, Nat.lt_of_lt_of_le l1 hb.size⟩
theorem at_ {w : World} {b off : Nat} {L : List Int} {n k : Nat} (h : IntsAt w b off L) (hl : L.length = n * 2) (hk : k < n) : w.cell? ⟨b, off + k * 2, none⟩ = some (.int .i64 (L.getD (k * 2) 0)) ∧ w.cell? ⟨b, off + k * 2 + 1, none⟩ = some (.int .i64 (L.getD (k * 2 + 1) 0)) :=
  ⟨h (k * 2) (by omega), h (k * 2 + 1) (by omega)⟩

set_option maxHeartbeats 2000000 in
theorem eqs_any (a b : Option Addr) (ca cb : Nat) (L : List Int) (n : Nat) (hl : L.length = n * 2) (hn : n ≤ 1048576) (w : World) (ra : Reads w.heap.size w a L) (rb : Reads w.heap.size w b L) :
    Calls Try.prog 16 #[.slice a n ca, .slice b n cb] w fun e w' => e = .returned (.bool true) ∧ Below w.heap.size w w' := by
  have HA : Hid (Reads w.heap.size w a L) := ra
  have HBb : Hid (Reads w.heap.size w b L) := rb
  clear ra rb
  go_enter Try.func16, Try.ntmps16
  go_wp2
  go_loopw [5] (fun i wr => ∃ k : Nat, k ≤ n ∧ i = .int .i64 (k : Int) ∧ Below w.heap.size w wr) (fun i _ => n - (intOf i).toNat)
  case atStart => exact ⟨0, Nat.zero_le _, rfl, Below.refl _ _⟩
  case round =>
    obtain ⟨k, hk, rfl, hb⟩ := hrel
    have HB : Hid (Below w.heap.size w wr) := hb
    clear hb
    by_cases hlt : k < n
    · have hlt' : (k : Int) < (n : Int) := by omega
      rcases HA.out with h | ⟨b0, o0, ha, hB0, ia⟩
      · rw [h] at hl; simp at hl; omega
      rcases HBb.out with h | ⟨b1, o1, hbb, hB1, ib⟩
      · rw [h] at hl; simp at hl; omega
      obtain ⟨c0, c1⟩ := at_ (ia.below HB.out hB0) hl hlt
      obtain ⟨d0, d1⟩ := at_ (ib.below HB.out hB1) hl hlt
      have lt0 : b0 < wr.heap.size := Nat.lt_of_lt_of_le hB0 HB.out.size
      have lt1 : b1 < wr.heap.size := Nat.lt_of_lt_of_le hB1 HB.out.size
      rw [ha, hbb]
      clear ia ib
      generalize L.getD (k * 2) 0 = x0 at *
      generalize L.getD (k * 2 + 1) 0 = x1 at *
      go_wp2
      go_region_held3 (fun W => W.cell? ⟨b0, o0 + k * 2, none⟩ = some (.int .i64 x0) ∧ W.cell? ⟨b0, o0 + k * 2 + 1, none⟩ = some (.int .i64 x1) ∧ W.cell? ⟨b1, o1 + k * 2, none⟩ = some (.int .i64 x0) ∧ W.cell? ⟨b1, o1 + k * 2 + 1, none⟩ = some (.int .i64 x1) ∧ b0 < W.heap.size ∧ b1 < W.heap.size) (first | exact ⟨c0, c1, d0, d1, lt0, lt1⟩ | exact keep (by assumption) (by assumption)) (first | (go_at_call 37; refine (eq_any _ _ _).mono ?_; rintro e w2 ⟨rfl, hb2⟩))
      have HB2 : Hid (Below w.heap.size w w2) := chain HB.out.drew hb2
      go_wp2
      go_roundw
      case rel => exact ⟨k + 1, by omega, by go_num, HB2.out⟩
      case measure => simp [intOf]; omega
    · go_wp2
      go_ret
      exact ⟨rfl, HB.out⟩

/-- The first m cells of block b bear their marks. -/
def Marked (w : World) (b m : Nat) (k0 : Int) : Prop := ∀ i, i < m → w.cell? ⟨b, i, none⟩ = some (.int .i64 (k0 + (i : Int)))
theorem Marked.set {w : World} {b m : Nat} {k0 : Int} (h : Marked w b m k0) {v : Value} (hv : w.cell? ⟨b, m, none⟩ = some v) : Marked (w.setCell ⟨b, m, none⟩ (.int .i64 (k0 + (m : Int)))) b (m + 1) k0 := fun i hi => by
  by_cases e : i = m
  · rw [e]; exact World.cell?_setCell_same _ _ _ hv
  · rw [World.cell?_setCell_other _ _ _ _ (fun h => e (by first | (simp at h; omega) | (simp at h; done) | (cases h; rfl)))]; exact h i (by omega)
theorem isSome_set {w : World} {b n o : Nat} {v : Value} (h : ∀ i, i < n → (w.cell? ⟨b, i, none⟩).isSome = true) : ∀ i, i < n → ((w.setCell ⟨b, o, none⟩ v).cell? ⟨b, i, none⟩).isSome = true := fun i hi => by
  obtain ⟨u, hu⟩ := Option.isSome_iff_exists.mp (h i hi)
  by_cases e : i = o
  · subst e; rw [World.cell?_setCell_same _ _ _ hu]; rfl
  · rw [World.cell?_setCell_other _ _ _ _ (fun h => e (by first | (simp at h; omega) | (simp at h; done) | (cases h; rfl)))]; rw [hu]; rfl
theorem some_at {w : World} {b n : Nat} (h : ∀ i, i < n → (w.cell? ⟨b, i, none⟩).isSome = true) (i : Nat) (hi : i < n) : ∃ v, w.cell? ⟨b, i, none⟩ = some v := Option.isSome_iff_exists.mp (h i hi)
theorem mark_all {w wr : World} {b n j : Nat} {k0 : Int} (hj : j < n) (ho : Others b w wr) (hs : ∀ i, i < n * 2 → (wr.cell? ⟨b, i, none⟩).isSome = true) (hm : Marked wr b (j * 2) k0) :
    Others b w ((wr.setCell ⟨b, j * 2, none⟩ (.int .i64 (k0 + (j : Int) * 2))).setCell ⟨b, j * 2 + 1, none⟩ (.int .i64 (k0 + (j : Int) * 2 + 1))) ∧ (∀ i, i < n * 2 → (((wr.setCell ⟨b, j * 2, none⟩ (.int .i64 (k0 + (j : Int) * 2))).setCell ⟨b, j * 2 + 1, none⟩ (.int .i64 (k0 + (j : Int) * 2 + 1))).cell? ⟨b, i, none⟩).isSome = true) ∧ Marked ((wr.setCell ⟨b, j * 2, none⟩ (.int .i64 (k0 + (j : Int) * 2))).setCell ⟨b, j * 2 + 1, none⟩ (.int .i64 (k0 + (j : Int) * 2 + 1))) b ((j + 1) * 2) k0 := by
  refine ⟨(ho.set _ _).set _ _, isSome_set (isSome_set hs), ?_⟩
  have e0 : k0 + (j : Int) * 2 = k0 + ((j * 2 : Nat) : Int) := by omega
  have e1 : k0 + (j : Int) * 2 + 1 = k0 + ((j * 2 + 1 : Nat) : Int) := by omega
  rw [e1, e0, show (j + 1) * 2 = j * 2 + 1 + 1 by omega]
  have s0 := hs
  have m0 := hm
  obtain ⟨v0, hv0⟩ := some_at s0 (j * 2) (by omega)
  have m1 := m0.set hv0
  have s1 := isSome_set (o := j * 2) (v := .int .i64 (k0 + ((j * 2 : Nat) : Int))) s0
  obtain ⟨v1, hv1⟩ := some_at s1 (j * 2 + 1) (by omega)
  have m2 := m1.set hv1
  have s2 := isSome_set (o := j * 2 + 1) (v := .int .i64 (k0 + ((j * 2 + 1 : Nat) : Int))) s1
  exact m2

set_option maxHeartbeats 2000000 in
theorem marks_any (b n cap : Nat) (hn : n ≤ 1048576) (k0 : Int) (h0 : 0 ≤ k0) (h1 : k0 ≤ 100000000) (w : World) (hc : ∀ i, i < n * 2 → (w.cell? ⟨b, i, none⟩).isSome = true) (hf : ∀ i, i < n * 2 → w.frozen? ⟨b, i, none⟩ = false) :
    Calls Try.prog 18 #[.slice (some ⟨b, 0, none⟩) n cap, .int .i64 k0] w fun e w' => e = .returned (.int .i64 (k0 + (n : Int) * 2)) ∧ Others b w w' ∧ Marked w' b (n * 2) k0 := by
  have HC : Hid (∀ i, i < n * 2 → (w.cell? ⟨b, i, none⟩).isSome = true) := hc
  have HF : Hid (∀ i, i < n * 2 → w.frozen? ⟨b, i, none⟩ = false) := hf
  clear hc hf
  go_enter Try.func18, Try.ntmps18
  go_wp2
  go_loopw [1, 5] (fun k i wr => ∃ j : Nat, j ≤ n ∧ i = .int .i64 (j : Int) ∧ k = .int .i64 (k0 + (j : Int) * 2) ∧ Others b w wr ∧ (∀ i, i < n * 2 → (wr.cell? ⟨b, i, none⟩).isSome = true) ∧ Marked wr b (j * 2) k0) (fun _ i _ => n - (intOf i).toNat)
  case atStart => exact ⟨0, Nat.zero_le _, rfl, by simp, Others.refl _ _, HC.out, fun i hi => by omega⟩
  case round =>
    obtain ⟨j, hj, rfl, rfl, ho, hs, hm⟩ := hrel
    have HO : Hid (Others b w wr) := ho
    have HS : Hid (∀ i, i < n * 2 → (wr.cell? ⟨b, i, none⟩).isSome = true) := hs
    have HM : Hid (Marked wr b (j * 2) k0) := hm
    clear ho hs hm
    by_cases hlt : j < n
    · have hlt' : (j : Int) < (n : Int) := by omega
      obtain ⟨v0, hv0⟩ := some_at HS.out (j * 2) (by omega)
      have f0 : wr.frozen? ⟨b, j * 2, none⟩ = false := (HO.out.2.1 b _).trans (HF.out _ (by omega))
      obtain ⟨v1, hv1⟩ := some_at HS.out (j * 2 + 1) (by omega)
      have f1 : wr.frozen? ⟨b, j * 2 + 1, none⟩ = false := (HO.out.2.1 b _).trans (HF.out _ (by omega))
      obtain ⟨n1, n2, n3⟩ := mark_all hlt HO.out HS.out HM.out
      have N1 : Hid (_) := n1
      have N2 : Hid (∀ i, _) := n2
      have N3 : Hid (_) := n3
      clear n1 n2 n3
      go_wp2
      exact ⟨⟨j + 1, by omega, by go_num, by go_num, N1.out, N2.out, N3.out⟩, by simp [intOf]; omega⟩
    · obtain rfl : j = n := by omega
      go_wp2
      go_ret
      exact ⟨rfl, HO.out, HM.out⟩
theorem marks_none (a : Option Addr) (cap : Nat) (k0 : Int) (w : World) :
    Calls Try.prog 18 #[.slice a 0 cap, .int .i64 k0] w fun e w' => e = .returned (.int .i64 k0) ∧ w' = w := by
  go_enter Try.func18, Try.ntmps18
  go_wp2
  go_loop [1, 5] (fun k i => i = .int .i64 0 ∧ k = .int .i64 k0) (fun _ i => 0)
  case atStart => exact ⟨rfl, rfl⟩
  case round =>
    obtain ⟨rfl, rfl⟩ := hrel
    go_wp2
    go_ret
    exact ⟨rfl, rfl⟩
theorem helds_none (a : Option Addr) (cap : Nat) (k0 : Int) (w : World) :
    Calls Try.prog 19 #[.slice a 0 cap, .int .i64 k0] w fun e w' => e = .returned (.int .i64 k0) ∧ w' = w := by
  go_enter Try.func19, Try.ntmps19
  go_wp2
  go_loop [1, 5] (fun k i => i = .int .i64 0 ∧ k = .int .i64 k0) (fun _ i => 0)
  case atStart => exact ⟨rfl, rfl⟩
  case round =>
    obtain ⟨rfl, rfl⟩ := hrel
    go_wp2
    go_ret
    exact ⟨rfl, rfl⟩
set_option maxHeartbeats 2000000 in
theorem helds_any (b n cap : Nat) (hn : n ≤ 1048576) (k0 : Int) (h0 : 0 ≤ k0) (h1 : k0 ≤ 100000000) (w : World) (hm : Marked w b (n * 2) k0) :
    Calls Try.prog 19 #[.slice (some ⟨b, 0, none⟩) n cap, .int .i64 k0] w fun e w' => e = .returned (.int .i64 (k0 + (n : Int) * 2)) ∧ w' = w := by
  have HM : Hid (Marked w b (n * 2) k0) := hm
  clear hm
  go_enter Try.func19, Try.ntmps19
  go_wp2
  go_loop [1, 5] (fun k i => ∃ j : Nat, j ≤ n ∧ i = .int .i64 (j : Int) ∧ k = .int .i64 (k0 + (j : Int) * 2)) (fun _ i => n - (intOf i).toNat)
  case atStart => exact ⟨0, Nat.zero_le _, rfl, by simp⟩
  case round =>
    obtain ⟨j, hj, rfl, rfl⟩ := hrel
    by_cases hlt : j < n
    · have hlt' : (j : Int) < (n : Int) := by omega
      have c0 : w.cell? ⟨b, j * 2, none⟩ = some (.int .i64 (k0 + (j : Int) * 2)) := by rw [HM.out (j * 2) (by omega)]; congr 2 <;> omega
      have c1 : w.cell? ⟨b, j * 2 + 1, none⟩ = some (.int .i64 (k0 + (j : Int) * 2 + 1)) := by rw [HM.out (j * 2 + 1) (by omega)]; congr 2 <;> omega
      go_wp2
      go_round
      case rel => exact ⟨j + 1, by omega, by go_num, by go_num⟩
      case measure => simp [intOf]; omega
    · obtain rfl : j = n := by omega
      go_wp2
      go_ret
      exact ⟨rfl, rfl⟩
theorem ints_of_marked {w : World} {b n : Nat} {k0 : Int} (h : Marked w b n k0) : IntsAt w b 0 (marks k0 n) := fun i hi => by
  rw [marks_length] at hi
  rw [marks_getD k0 n i hi, Nat.zero_add]
  exact h i hi
end StH
theorem markSts_own (B : Nat) (g : Option Addr) (cap : Nat) (L : List Int) (n : Nat) (hl : L.length = n * 2) (hn : n ≤ 1048576) (k0 : Int) (h0 : 0 ≤ k0) (h1 : k0 ≤ 100000000) (w : World) (h : Own2 B w g L) :
    Calls Try.prog 18 #[.slice g n cap, .int .i64 k0] w fun e w' => e = .returned (.int .i64 (k0 + (n : Int) * 2)) ∧ Below B w w' ∧ w'.heap.size = w.heap.size ∧ Own2 B w' g (marks k0 (n * 2)) := by
  rcases h with h | ⟨b, hg, hB, hlt, hi, hf⟩
  · obtain rfl : n = 0 := by rw [h] at hl; simp at hl; omega
    refine (StH.marks_none g cap k0 w).mono ?_
    rintro e w' ⟨rfl, rfl⟩
    exact ⟨ret_int (by simp), Below.refl _ _, rfl, .inl rfl⟩
  · subst hg
    refine (StH.marks_any b n cap hn k0 h0 h1 w (fun i h => by have := hi i (by omega); rw [Nat.zero_add] at this; rw [this]; rfl) (fun i h => by have := hf i (by omega); rwa [Nat.zero_add] at this)).mono ?_
    rintro e w' ⟨rfl, ho, hm⟩
    exact ⟨rfl, ho.2.2.2 B hB, ho.2.2.1, .inr ⟨b, rfl, hB, by rw [ho.2.2.1]; exact hlt, StH.ints_of_marked hm, by rw [marks_length]; rw [hl] at hf; exact ho.free hf⟩⟩
theorem heldSts_own (B : Nat) (g : Option Addr) (cap n : Nat) (hn : n ≤ 1048576) (k0 : Int) (h0 : 0 ≤ k0) (h1 : k0 ≤ 100000000) (w : World) (h : Own2 B w g (marks k0 (n * 2))) :
    Calls Try.prog 19 #[.slice g n cap, .int .i64 k0] w fun e w' => e = .returned (.int .i64 (k0 + (n : Int) * 2)) ∧ w' = w := by
  rcases h with h | ⟨b, hg, hB, hlt, hi, hf⟩
  · have hz : n * 2 = 0 := by rw [← marks_length k0 (n * 2), h]; rfl
    obtain rfl : n = 0 := by omega
    refine (StH.helds_none g cap k0 w).mono ?_
    rintro e w' ⟨rfl, rfl⟩
    exact ⟨ret_int (by simp), rfl⟩
  · subst hg
    exact StH.helds_any b n cap hn k0 h0 h1 w (fun i hk => by
      have := hi i (by rw [marks_length]; exact hk)
      rwa [marks_getD k0 (n * 2) i hk, Nat.zero_add] at this)
end Go.Proofs.Ytbkaikobjkkgkaa

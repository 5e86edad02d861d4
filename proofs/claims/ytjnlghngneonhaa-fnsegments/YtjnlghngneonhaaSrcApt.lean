/-
  The specification's source of choices once more: a draw turns its own block alone.
-/
import Derived.Test.YtjnlghngneonhaaSrc
namespace Go.Proofs.Ytjnlghngneonhaa
open Go.ChangeShapes Go.WideShapes Go.ChangeAt Go.RowKit
set_option linter.unusedVariables false

/-- Of what was there block b alone may have turned. -/
def Apt (b : Nat) (w w' : World) : Prop := ∀ k, k ≠ b → w'.heap[k]? = w.heap[k]?
theorem Apt.refl (b : Nat) (w : World) : Apt b w w := fun _ _ => rfl
theorem Apt.set {b : Nat} {w w' : World} (h : Apt b w w') (o : Nat) (v : Value) : Apt b w (w'.setCell ⟨b, o, none⟩ v) := fun k hk => (Below.heap_setCell _ _ _ _ hk).trans (h k hk)
theorem Apt.trans {b : Nat} {w w' w'' : World} (h : Apt b w w') (k : Apt b w' w'') : Apt b w w'' := fun c hc => (k c hc).trans (h c hc)
theorem Apt.drewN {b : Nat} {w w' : World} (h : Apt b w w') (n : Nat) : Apt b w (w'.drewN n) := h
theorem Apt.drew {b : Nat} {w w' : World} (h : Apt b w w') : Apt b w w'.drew := h

set_option maxHeartbeats 800000 in
theorem byte_inA (B b b0 off len cap : Nat) (at' seed c : Int) (w : World) (hB : B ≤ b) (hs : Src w b (some ⟨b0, off, none⟩) len cap at' seed)
    (hb0 : b0 < B) (a1 : at' ≤ 1000000000000) (hin : at' < len) (hlen : len ≤ maxLen) (hc : w.cell? ⟨b0, off + at'.toNat, none⟩ = some (.int .u8 c)) (c0 : 0 ≤ c) (c1 : c ≤ 255) :
    Calls Try.prog 48 #[.pointer (some ⟨b, 0, none⟩)] w fun e w' => e = .returned (.int .i64 c) ∧ Src w' b (some ⟨b0, off, none⟩) len cap (at' + 1) ((seed * 31 + c + 7) % 2147483648) ∧ Below B w w' ∧ Apt b w w' := by
  unfold maxLen at hlen
  have HS : Hid (Src w b (some ⟨b0, off, none⟩) len cap at' seed) := hs
  obtain ⟨h0, h1, h2, f1, f2, hbs, a0, s0, s1⟩ := hs
  have hne : b ≠ b0 := by omega
  have wi1 : IntKind.i64.wrap (at' + 1 - 1) = at' := by rw [IntKind.wrap_i64]; omega
  have wi2 : IntKind.i64.wrap at' = at' := by rw [IntKind.wrap_i64]; omega
  have ws1 : IntKind.i64.wrap (seed * 31) = seed * 31 := by rw [IntKind.wrap_i64]; omega
  have ws2 : IntKind.i64.wrap (seed * 31 + c) = seed * 31 + c := by rw [IntKind.wrap_i64]; omega
  have ws3 : IntKind.i64.wrap (seed * 31 + c + 7) = seed * 31 + c + 7 := by rw [IntKind.wrap_i64]; omega
  have g0 : (w.setCell ⟨b, 1, none⟩ (.int .i64 (at' + 1))).cell? ⟨b, 0, none⟩ = some (.slice (some ⟨b0, off, none⟩) len cap) := by rw [World.cell?_setCell_other _ _ _ _ (by simp)]; exact h0
  have g1 : (w.setCell ⟨b, 1, none⟩ (.int .i64 (at' + 1))).cell? ⟨b, 1, none⟩ = some (.int .i64 (at' + 1)) := World.cell?_setCell_same _ _ _ h1
  have g2 : (w.setCell ⟨b, 1, none⟩ (.int .i64 (at' + 1))).cell? ⟨b, 2, none⟩ = some (.int .i64 seed) := by rw [World.cell?_setCell_other _ _ _ _ (by simp)]; exact h2
  have gc : (w.setCell ⟨b, 1, none⟩ (.int .i64 (at' + 1))).cell? ⟨b0, off + at'.toNat, none⟩ = some (.int .u8 c) := by rw [World.cell?_setCell_far _ _ _ _ hne]; exact hc
  go_enter Try.func48, Try.ntmps48
  go_wp2
  go_quiet (fail)
  go_wp2
  generalize hw1 : (w.setCell ⟨b, 1, none⟩ (.int .i64 (at' + 1))).drewN nq = w1
  have k0 : w1.cell? ⟨b, 0, none⟩ = some (.slice (some ⟨b0, off, none⟩) len cap) := by rw [← hw1]; exact g0
  have k1 : w1.cell? ⟨b, 1, none⟩ = some (.int .i64 (at' + 1)) := by rw [← hw1]; exact g1
  have k2 : w1.cell? ⟨b, 2, none⟩ = some (.int .i64 seed) := by rw [← hw1]; exact g2
  have kc : w1.cell? ⟨b0, off + at'.toNat, none⟩ = some (.int .u8 c) := by rw [← hw1]; exact gc
  have kf : w1.frozen? ⟨b, 2, none⟩ = false := by rw [← hw1]; simpa using f2
  have HW : Hid ((w.setCell ⟨b, 1, none⟩ (.int .i64 (at' + 1))).drewN nq = w1) := hw1
  clear hw1 g0 g1 g2 gc h0 h1 h2 hc f1 f2
  go_region
  go_wp2
  go_quiet (fail)
  go_wp2
  go_ret
  refine ⟨rfl, ?_⟩
  rw [← HW.out]
  exact ⟨(((((HS.out.set1 (at' + 1) (by omega)).drewN _).set2 _ (by omega)).drew).drewN _), below_drewN ((below_drewN ((Below.refl B w).setCell hB _) _).setCell hB _).drew _, ((((Apt.refl b w).set _ _).drewN _).set _ _).drew.drewN _⟩

set_option maxHeartbeats 800000 in
theorem byte_outA (B b : Nat) (a : Option Addr) (len cap : Nat) (at' seed : Int) (w : World) (hB : B ≤ b) (hs : Src w b a len cap at' seed)
    (a1 : at' ≤ 1000000000000) (hin : ¬ at' < len) (hlen : len ≤ maxLen) :
    Calls Try.prog 48 #[.pointer (some ⟨b, 0, none⟩)] w fun e w' => ∃ x s' : Int, e = .returned (.int .i64 x) ∧ 0 ≤ x ∧ x ≤ 255 ∧ Src w' b a len cap (at' + 1) s' ∧ Below B w w' ∧ Apt b w w' := by
  unfold maxLen at hlen
  have HS : Hid (Src w b a len cap at' seed) := hs
  obtain ⟨h0, h1, h2, f1, f2, hbs, a0, s0, s1⟩ := hs
  have hnin : decide (at' + 1 ≤ (len : Int)) = false := by simp; omega
  by_cases h3 : 3000 < at' + 1
  · go_enter Try.func48, Try.ntmps48
    go_wp2
    go_quiet (fail)
    go_wp2
    go_ret
    exact ⟨0, seed, rfl, by omega, by omega, (HS.out.set1 (at' + 1) (by omega)).drewN _, below_drewN ((Below.refl B w).setCell hB _) _, ((Apt.refl b w).set _ _).drewN _⟩
  · go_enter Try.func48, Try.ntmps48
    go_wp2
    go_quiet (fail)
    go_wp2
    go_ret
    exact ⟨_, _, rfl, by omega, by omega, ((HS.out.set1 (at' + 1) (by omega)).drewN _).set2 _ (by omega), (below_drewN ((Below.refl B w).setCell hB _) _).setCell hB _, (((Apt.refl b w).set _ _).drewN _).set _ _⟩

theorem byte_anyA (B b : Nat) (a : Option Addr) (len cap : Nat) (zs : List Int) (at' seed : Int) (w : World) (hB : B ≤ b) (hs : Src w b a len cap at' seed) (hr : RowB B w a len zs) (a1 : at' ≤ 1000000000000) :
    Calls Try.prog 48 #[.pointer (some ⟨b, 0, none⟩)] w fun e w' => ∃ x s' : Int, e = .returned (.int .i64 x) ∧ 0 ≤ x ∧ x ≤ 255 ∧ Src w' b a len cap (at' + 1) s' ∧ Below B w w' ∧ Apt b w w' := by
  obtain ⟨hl, hr'⟩ := hr
  by_cases hin : at' < len
  · have h0 := hs.2.2.2.2.2.2.1
    rcases hr' with h | ⟨b0, off, rfl, hlt, hc⟩
    · omega
    · obtain ⟨c1, c2, c3⟩ := hc at'.toNat (by omega)
      exact (byte_inA B b b0 off len cap at' seed _ w hB hs hlt a1 hin hl c1 c2 c3).mono fun e w' ⟨he, h1, h2, h3⟩ => ⟨_, _, he, c2, c3, h1, h2, h3⟩
  · exact byte_outA B b a len cap at' seed w hB hs a1 hin hl

set_option maxHeartbeats 400000 in
theorem next_anyA (B b : Nat) (a : Option Addr) (len cap : Nat) (zs : List Int) (n at' seed : Int) (w : World) (hB : B ≤ b) (hs : Src w b a len cap at' seed) (hr : RowB B w a len zs) (a1 : at' ≤ 999999999000) (hn : n ≤ 256) :
    Calls Try.prog 31 #[.pointer (some ⟨b, 0, none⟩), .int .i64 n] w fun e w' => ∃ x at2 s' : Int, e = .returned (.int .i64 x) ∧ Drawn x n ∧ at' ≤ at2 ∧ at2 ≤ at' + 3 ∧ Src w' b a len cap at2 s' ∧ Below B w w' ∧ Apt b w w' := by
  have h0 := hs.2.2.2.2.2.2.1
  rcases (by omega : n ≤ 1 ∨ (1 < n ∧ n ≤ 256) ∨ (1 < n ∧ 256 < n)) with h | ⟨h1, h2⟩ | ⟨h1, h2⟩
  · go_enter Try.func31, Try.ntmps31
    go_wp2
    go_ret
    exact ⟨0, at', seed, rfl, ⟨by omega, .inr rfl⟩, by omega, by omega, hs, Below.refl _ _, Apt.refl _ _⟩
  · have hbyte := byte_anyA B b a len cap zs at' seed w hB hs hr (by omega)
    go_enter Try.func31, Try.ntmps31
    go_wp2_with (go_at_call 48; refine hbyte.mono ?_; rintro e w1 ⟨x, s', rfl, hx0, hx1, hs1, hb1, hf1⟩)
    go_ret
    exact ⟨_, _, _, rfl, drawn_mod x n hx0 h1, by omega, by omega, hs1, hb1, hf1⟩
  · omega
end Go.Proofs.Ytjnlghngneonhaa

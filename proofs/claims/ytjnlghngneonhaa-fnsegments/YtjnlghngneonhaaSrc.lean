/-
  Contracts of the specification's source of choices (l00Source, byte, next): whatever the code, what is drawn lies within its bounds, and nothing that was there turns but the source's own cells.
-/
import Derived.Test.YtjnlghngneonhaaBase
import Derived.BigRegion
import Derived.BigQuiet
import Derived.Deep.QuietTactic
import Derived.Deep.RegionHeld3
import Derived.Deep.Light
import Derived.WalkLawsBesides
namespace Go.Proofs.Ytjnlghngneonhaa
open Go.ChangeShapes Go.WideShapes Go.ChangeAt Go.RowKit
set_option linter.unusedVariables false

/-- A row of bytes that lies below B: the elements of a slice that came in. -/
def RowB (B : Nat) (w : World) (a : Option Addr) (len : Nat) (zs : List Int) : Prop :=
  len ≤ maxLen ∧ (len = 0 ∨ ∃ b0 off, a = some ⟨b0, off, none⟩ ∧ b0 < B ∧ ∀ i, i < len → w.cell? ⟨b0, off + i, none⟩ = some (.int .u8 (zs.getD i 0)) ∧ 0 ≤ zs.getD i 0 ∧ zs.getD i 0 ≤ 255)

/-- The source's own block. -/
def Src (w : World) (b : Nat) (a : Option Addr) (len cap : Nat) (at' seed : Int) : Prop :=
  w.cell? ⟨b, 0, none⟩ = some (.slice a len cap) ∧ w.cell? ⟨b, 1, none⟩ = some (.int .i64 at') ∧ w.cell? ⟨b, 2, none⟩ = some (.int .i64 seed) ∧
  w.frozen? ⟨b, 1, none⟩ = false ∧ w.frozen? ⟨b, 2, none⟩ = false ∧ b < w.heap.size ∧ 0 ≤ at' ∧ 0 ≤ seed ∧ seed < 2147483648

theorem Src.set1 {w : World} {b : Nat} {a : Option Addr} {len cap : Nat} {x s : Int} (h : Src w b a len cap x s) (x' : Int) (hx : 0 ≤ x') : Src (w.setCell ⟨b, 1, none⟩ (.int .i64 x')) b a len cap x' s := by
  obtain ⟨h0, h1, h2, f1, f2, hb, _, s0, s1⟩ := h
  refine ⟨?_, World.cell?_setCell_same _ _ _ h1, ?_, ?_, ?_, ?_, hx, s0, s1⟩
  · rw [World.cell?_setCell_other _ _ _ _ (by simp)]; exact h0
  · rw [World.cell?_setCell_other _ _ _ _ (by simp)]; exact h2
  · simpa using f1
  · simpa using f2
  · have := ((Below.refl b w).setCell (p := ⟨b, 1, none⟩) (Nat.le_refl _) (.int .i64 x')).size; omega
theorem Src.set2 {w : World} {b : Nat} {a : Option Addr} {len cap : Nat} {x s : Int} (h : Src w b a len cap x s) (s' : Int) (h' : 0 ≤ s' ∧ s' < 2147483648) : Src (w.setCell ⟨b, 2, none⟩ (.int .i64 s')) b a len cap x s' := by
  obtain ⟨h0, h1, h2, f1, f2, hb, x0, _, _⟩ := h
  refine ⟨?_, ?_, World.cell?_setCell_same _ _ _ h2, ?_, ?_, ?_, x0, h'.1, h'.2⟩
  · rw [World.cell?_setCell_other _ _ _ _ (by simp)]; exact h0
  · rw [World.cell?_setCell_other _ _ _ _ (by simp)]; exact h1
  · simpa using f1
  · simpa using f2
  · have := ((Below.refl b w).setCell (p := ⟨b, 2, none⟩) (Nat.le_refl _) (.int .i64 s')).size; omega
theorem Src.drewN {w : World} {b : Nat} {a : Option Addr} {len cap : Nat} {x s : Int} (h : Src w b a len cap x s) (n : Nat) : Src (w.drewN n) b a len cap x s := h
theorem Src.drew {w : World} {b : Nat} {a : Option Addr} {len cap : Nat} {x s : Int} (h : Src w b a len cap x s) : Src w.drew b a len cap x s := h

set_option maxHeartbeats 800000 in
theorem byte_in (B b b0 off len cap : Nat) (at' seed c : Int) (w : World) (hB : B ≤ b) (hs : Src w b (some ⟨b0, off, none⟩) len cap at' seed)
    (hb0 : b0 < B) (a1 : at' ≤ 1000000000000) (hin : at' < len) (hlen : len ≤ maxLen) (hc : w.cell? ⟨b0, off + at'.toNat, none⟩ = some (.int .u8 c)) (c0 : 0 ≤ c) (c1 : c ≤ 255) :
    Calls Try.prog 48 #[.pointer (some ⟨b, 0, none⟩)] w fun e w' => e = .returned (.int .i64 c) ∧ Src w' b (some ⟨b0, off, none⟩) len cap (at' + 1) ((seed * 31 + c + 7) % 2147483648) ∧ Below B w w' := by
  unfold maxLen at hlen
  have HS : Hid (Src w b (some ⟨b0, off, none⟩) len cap at' seed) := hs
  obtain ⟨h0, h1, h2, f1, f2, hbs, a0, s0, s1⟩ := hs
  have hne : b ≠ b0 := by omega
  have wi1 : IntKind.i64.wrap (at' + 1 - 1) = at' := by rw [IntKind.wrap_i64]; omega
  have wi2 : IntKind.i64.wrap at' = at' := by rw [IntKind.wrap_i64]; omega
  have ws1 : IntKind.i64.wrap (seed * 31) = seed * 31 := by rw [IntKind.wrap_i64]; omega
  have ws2 : IntKind.i64.wrap (seed * 31 + c) = seed * 31 + c := by rw [IntKind.wrap_i64]; omega
  have ws3 : IntKind.i64.wrap (seed * 31 + c + 7) = seed * 31 + c + 7 := by rw [IntKind.wrap_i64]; omega
  have g0 : (w.setCell ⟨b, 1, none⟩ (.int .i64 (at' + 1))).cell? ⟨b, 0, none⟩ = some (.slice (some ⟨b0, off, none⟩) len cap) := by rw [World.cell?_setCell_other _ _ _ _ (by simp)]; exact h0
  have g1 : (w.setCell ⟨b, 1, none⟩ (.int .i64 (at' + 1))).cell? ⟨b, 1, none⟩ = some (.int .i64 (at' + 1)) := World.cell?_setCell_same _ _ _ h1
  have g2 : (w.setCell ⟨b, 1, none⟩ (.int .i64 (at' + 1))).cell? ⟨b, 2, none⟩ = some (.int .i64 seed) := by rw [World.cell?_setCell_other _ _ _ _ (by simp)]; exact h2
  have gc : (w.setCell ⟨b, 1, none⟩ (.int .i64 (at' + 1))).cell? ⟨b0, off + at'.toNat, none⟩ = some (.int .u8 c) := by rw [World.cell?_setCell_far _ _ _ _ hne]; exact hc
  go_enter Try.func48, Try.ntmps48
  go_wp2
  go_quiet (fail)
  go_wp2
  generalize hw1 : (w.setCell ⟨b, 1, none⟩ (.int .i64 (at' + 1))).drewN nq = w1
  have k0 : w1.cell? ⟨b, 0, none⟩ = some (.slice (some ⟨b0, off, none⟩) len cap) := by rw [← hw1]; exact g0
  have k1 : w1.cell? ⟨b, 1, none⟩ = some (.int .i64 (at' + 1)) := by rw [← hw1]; exact g1
  have k2 : w1.cell? ⟨b, 2, none⟩ = some (.int .i64 seed) := by rw [← hw1]; exact g2
  have kc : w1.cell? ⟨b0, off + at'.toNat, none⟩ = some (.int .u8 c) := by rw [← hw1]; exact gc
  have kf : w1.frozen? ⟨b, 2, none⟩ = false := by rw [← hw1]; simpa using f2
  have HW : Hid ((w.setCell ⟨b, 1, none⟩ (.int .i64 (at' + 1))).drewN nq = w1) := hw1
  clear hw1 g0 g1 g2 gc h0 h1 h2 hc f1 f2
  go_region
  go_wp2
  go_quiet (fail)
  go_wp2
  go_ret
  refine ⟨rfl, ?_⟩
  rw [← HW.out]
  exact ⟨(((((HS.out.set1 (at' + 1) (by omega)).drewN _).set2 _ (by omega)).drew).drewN _), below_drewN ((below_drewN ((Below.refl B w).setCell hB _) _).setCell hB _).drew _⟩

set_option maxHeartbeats 800000 in
theorem byte_out (B b : Nat) (a : Option Addr) (len cap : Nat) (at' seed : Int) (w : World) (hB : B ≤ b) (hs : Src w b a len cap at' seed)
    (a1 : at' ≤ 1000000000000) (hin : ¬ at' < len) (hlen : len ≤ maxLen) :
    Calls Try.prog 48 #[.pointer (some ⟨b, 0, none⟩)] w fun e w' => ∃ x s' : Int, e = .returned (.int .i64 x) ∧ 0 ≤ x ∧ x ≤ 255 ∧ Src w' b a len cap (at' + 1) s' ∧ Below B w w' := by
  unfold maxLen at hlen
  have HS : Hid (Src w b a len cap at' seed) := hs
  obtain ⟨h0, h1, h2, f1, f2, hbs, a0, s0, s1⟩ := hs
  have hnin : decide (at' + 1 ≤ (len : Int)) = false := by simp; omega
  by_cases h3 : 3000 < at' + 1
  · go_enter Try.func48, Try.ntmps48
    go_wp2
    go_quiet (fail)
    go_wp2
    go_ret
    exact ⟨0, seed, rfl, by omega, by omega, (HS.out.set1 (at' + 1) (by omega)).drewN _, below_drewN ((Below.refl B w).setCell hB _) _⟩
  · go_enter Try.func48, Try.ntmps48
    go_wp2
    go_quiet (fail)
    go_wp2
    go_ret
    exact ⟨_, _, rfl, by omega, by omega, ((HS.out.set1 (at' + 1) (by omega)).drewN _).set2 _ (by omega), (below_drewN ((Below.refl B w).setCell hB _) _).setCell hB _⟩

theorem RowB.below {B : Nat} {w w' : World} {a : Option Addr} {len : Nat} {zs : List Int} (h : RowB B w a len zs) (hb : Below B w w') : RowB B w' a len zs := by
  obtain ⟨hl, h⟩ := h
  refine ⟨hl, ?_⟩
  rcases h with h | ⟨b0, off, rfl, hlt, hc⟩
  · exact .inl h
  · exact .inr ⟨b0, off, rfl, hlt, fun i hi => ⟨(hb.cell (p := ⟨b0, off + i, none⟩) hlt).trans (hc i hi).1, (hc i hi).2⟩⟩

theorem RowB.mono {B B' : Nat} {w : World} {a : Option Addr} {len : Nat} {zs : List Int} (h : RowB B w a len zs) (hB : B ≤ B') : RowB B' w a len zs := by
  obtain ⟨hl, h⟩ := h
  refine ⟨hl, ?_⟩
  rcases h with h | ⟨b0, off, rfl, hlt, hc⟩
  · exact .inl h
  · exact .inr ⟨b0, off, rfl, by omega, hc⟩

theorem byte_any (B b : Nat) (a : Option Addr) (len cap : Nat) (zs : List Int) (at' seed : Int) (w : World) (hB : B ≤ b) (hs : Src w b a len cap at' seed) (hr : RowB B w a len zs) (a1 : at' ≤ 1000000000000) :
    Calls Try.prog 48 #[.pointer (some ⟨b, 0, none⟩)] w fun e w' => ∃ x s' : Int, e = .returned (.int .i64 x) ∧ 0 ≤ x ∧ x ≤ 255 ∧ Src w' b a len cap (at' + 1) s' ∧ Below B w w' := by
  obtain ⟨hl, hr'⟩ := hr
  by_cases hin : at' < len
  · have h0 := hs.2.2.2.2.2.2.1
    rcases hr' with h | ⟨b0, off, rfl, hlt, hc⟩
    · omega
    · obtain ⟨c1, c2, c3⟩ := hc at'.toNat (by omega)
      exact (byte_in B b b0 off len cap at' seed _ w hB hs hlt a1 hin hl c1 c2 c3).mono fun e w' ⟨he, h1, h2⟩ => ⟨_, _, he, c2, c3, h1, h2⟩
  · exact byte_out B b a len cap at' seed w hB hs a1 hin hl

/-- What is drawn out of n: 0 to n - 1, or 0. -/
def Drawn (x n : Int) : Prop := 0 ≤ x ∧ (x < n ∨ x = 0)

theorem drawn_mod (x n : Int) (hx : 0 ≤ x) (hn : 1 < n) : Drawn (x % n) n := ⟨Int.emod_nonneg x (by omega), .inl (Int.emod_lt_of_pos x (by omega))⟩

set_option maxHeartbeats 400000 in
theorem next_any (B b : Nat) (a : Option Addr) (len cap : Nat) (zs : List Int) (n at' seed : Int) (w : World) (hB : B ≤ b) (hs : Src w b a len cap at' seed) (hr : RowB B w a len zs) (a1 : at' ≤ 999999999000) (hn : n ≤ 1000000000000) :
    Calls Try.prog 31 #[.pointer (some ⟨b, 0, none⟩), .int .i64 n] w fun e w' => ∃ x at2 s' : Int, e = .returned (.int .i64 x) ∧ Drawn x n ∧ at' ≤ at2 ∧ at2 ≤ at' + 3 ∧ Src w' b a len cap at2 s' ∧ Below B w w' := by
  have h0 := hs.2.2.2.2.2.2.1
  rcases (by omega : n ≤ 1 ∨ (1 < n ∧ n ≤ 256) ∨ (1 < n ∧ 256 < n)) with h | ⟨h1, h2⟩ | ⟨h1, h2⟩
  · go_enter Try.func31, Try.ntmps31
    go_wp2
    go_ret
    exact ⟨0, at', seed, rfl, ⟨by omega, .inr rfl⟩, by omega, by omega, hs, Below.refl _ _⟩
  · have hbyte := byte_any B b a len cap zs at' seed w hB hs hr (by omega)
    go_enter Try.func31, Try.ntmps31
    go_wp2_with (go_at_call 48; refine hbyte.mono ?_; rintro e w1 ⟨x, s', rfl, hx0, hx1, hs1, hb1⟩)
    go_ret
    exact ⟨_, _, _, rfl, drawn_mod x n hx0 h1, by omega, by omega, hs1, hb1⟩
  · have hbyte := byte_any B b a len cap zs at' seed w hB hs hr (by omega)
    have hbyte2 := fun s' w1 (hs1 : Src w1 b a len cap (at' + 1) s') (hb1 : Below B w w1) => byte_any B b a len cap zs (at' + 1) s' w1 hB hs1 (hr.below hb1) (by omega)
    have hbyte3 := fun s' w1 (hs1 : Src w1 b a len cap (at' + 1 + 1) s') (hb1 : Below B w w1) => byte_any B b a len cap zs (at' + 1 + 1) s' w1 hB hs1 (hr.below hb1) (by omega)
    clear hr
    go_enter Try.func31, Try.ntmps31
    go_wp2_with (first | (go_at_call 48; refine hbyte.mono ?_; rintro e w1 ⟨x, s', rfl, hx0, hx1, hs1, hb1⟩) | (go_at_call 48; refine (hbyte2 _ _ hs1 hb1).mono ?_; rintro e w2 ⟨y, s2, rfl, hy0, hy1, hs2, hb2⟩; replace hb2 := hb1.trans hb2) | (go_at_call 48; refine (hbyte3 _ _ hs2 hb2).mono ?_; rintro e w3 ⟨z, s3, rfl, hz0, hz1, hs3, hb3⟩; replace hb3 := hb2.trans hb3))
    go_ret
    exact ⟨_, _, _, rfl, drawn_mod _ n (by omega) h1, by omega, by omega, hs3, hb3⟩

theorem source_any (a : Option Addr) (len cap : Nat) (w : World) (hl : len ≤ maxLen) :
    Calls Try.prog 17 #[.slice a len cap] w fun e w' => ∃ s' : Int, e = .returned (.pointer (some ⟨w.heap.size, 0, none⟩)) ∧ Src w' w.heap.size a len cap 0 s' ∧ Below w.heap.size w w' := by
  unfold maxLen at hl
  go_enter Try.func17, Try.ntmps17
  go_wp2
  go_ret
  exact ⟨(len : Int) % 1000, rfl, ⟨by simp [go_sem], by simp [go_sem], by simp [go_sem], by simp [go_sem], by simp [go_sem], by simp, by omega, by omega, by omega⟩, (Below.refl _ _).alloc (Nat.le_refl _) _⟩


theorem rowB_of (w : World) (a : Option Addr) (len cap : Nat) (zs : List Int) (h : IsRow .u8 w a len cap zs) : RowB w.heap.size w a len zs := by
  rcases h with ⟨rfl, rfl, rfl, rfl⟩ | ⟨x, rfl, hl, hm, hz, hcell, hwz⟩
  · exact ⟨by unfold maxLen; omega, .inl rfl⟩
  · refine ⟨by omega, ?_⟩
    by_cases h0 : len = 0
    · exact .inl h0
    · obtain ⟨b, off, rfl, hc⟩ := ints_at hcell (by omega)
      refine .inr ⟨b, off, rfl, World.block_lt_of_cell? _ _ (hc 0 (by omega)), fun i hi => ⟨hc i (by omega), ?_⟩⟩
      have := range_u8 hwz i
      simpa using this


end Go.Proofs.Ytjnlghngneonhaa

/-
  Texts of this claim laid together: SrcApt, SrcSize, Dec.
-/
import Derived.Test.YtabpkfhbnendjaaGreatM28
import Derived.Test.YtabpkfhbnendjaaGreatM1
import Derived.Lib.ItoaNum
import Derived.Deep.RegionHeld3
import Derived.Deep.RegionWith
import Derived.WalkLawsBesides
import Derived.Laws.IdiomStrings
/-
  The specification's source of choices once more: a draw turns its own block alone.
-/
namespace Go.Proofs.YtabpkfhbnendjaaGreat
open Go.ChangeShapes Go.WideShapes Go.ChangeAt Go.RowKit
set_option linter.unusedVariables false

/-- Of what was there block b alone may have turned. -/
def Apt (b : Nat) (w w' : World) : Prop := ∀ k, k ≠ b → w'.heap[k]? = w.heap[k]?
theorem Apt.refl (b : Nat) (w : World) : Apt b w w := fun _ _ => rfl
theorem Apt.set {b : Nat} {w w' : World} (h : Apt b w w') (o : Nat) (v : Value) : Apt b w (w'.setCell ⟨b, o, none⟩ v) := fun k hk => (Below.heap_setCell _ _ _ _ hk).trans (h k hk)
theorem Apt.trans {b : Nat} {w w' w'' : World} (h : Apt b w w') (k : Apt b w' w'') : Apt b w w'' := fun c hc => (k c hc).trans (h c hc)
theorem Apt.drewN {b : Nat} {w w' : World} (h : Apt b w w') (n : Nat) : Apt b w (w'.drewN n) := h
theorem Apt.drew {b : Nat} {w w' : World} (h : Apt b w w') : Apt b w w'.drew := h

set_option maxHeartbeats 800000 in
theorem byte_inA (B b b0 off len cap : Nat) (at' seed c : Int) (w : World) (hB : B ≤ b) (hs : Src w b (some ⟨b0, off, none⟩) len cap at' seed)
    (hb0 : b0 < B) (a1 : at' ≤ 1000000000000) (hin : at' < len) (hlen : len ≤ maxLen) (hc : w.cell? ⟨b0, off + at'.toNat, none⟩ = some (.int .u8 c)) (c0 : 0 ≤ c) (c1 : c ≤ 255) :
    Calls Tryz.prog 41 #[.pointer (some ⟨b, 0, none⟩)] w fun e w' => e = .returned (.int .i64 c) ∧ Src w' b (some ⟨b0, off, none⟩) len cap (at' + 1) ((seed * 31 + c + 7) % 2147483648) ∧ Below B w w' ∧ Apt b w w' := by
  unfold maxLen at hlen
  have HS : Hid (Src w b (some ⟨b0, off, none⟩) len cap at' seed) := hs
  obtain ⟨h0, h1, h2, f1, f2, hbs, a0, s0, s1⟩ := hs
  have hne : b ≠ b0 := by omega
  have wi1 : IntKind.i64.wrap (at' + 1 - 1) = at' := by rw [IntKind.wrap_i64]; omega
  have wi2 : IntKind.i64.wrap at' = at' := by rw [IntKind.wrap_i64]; omega
  have ws1 : IntKind.i64.wrap (seed * 31) = seed * 31 := by rw [IntKind.wrap_i64]; omega
  have ws2 : IntKind.i64.wrap (seed * 31 + c) = seed * 31 + c := by rw [IntKind.wrap_i64]; omega
  have ws3 : IntKind.i64.wrap (seed * 31 + c + 7) = seed * 31 + c + 7 := by rw [IntKind.wrap_i64]; omega
  have g0 : (w.setCell ⟨b, 1, none⟩ (.int .i64 (at' + 1))).cell? ⟨b, 0, none⟩ = some (.slice (some ⟨b0, off, none⟩) len cap) := by rw [World.cell?_setCell_other _ _ _ _ (by simp)]; exact h0
  have g1 : (w.setCell ⟨b, 1, none⟩ (.int .i64 (at' + 1))).cell? ⟨b, 1, none⟩ = some (.int .i64 (at' + 1)) := World.cell?_setCell_same _ _ _ h1
  have g2 : (w.setCell ⟨b, 1, none⟩ (.int .i64 (at' + 1))).cell? ⟨b, 2, none⟩ = some (.int .i64 seed) := by rw [World.cell?_setCell_other _ _ _ _ (by simp)]; exact h2
  have gc : (w.setCell ⟨b, 1, none⟩ (.int .i64 (at' + 1))).cell? ⟨b0, off + at'.toNat, none⟩ = some (.int .u8 c) := by rw [World.cell?_setCell_far _ _ _ _ hne]; exact hc
  go_enter Tryz.func41, Tryz.ntmps41
  go_wp2
  go_quiet (fail)
  go_wp2
  generalize hw1 : (w.setCell ⟨b, 1, none⟩ (.int .i64 (at' + 1))).drewN nq = w1
  have k0 : w1.cell? ⟨b, 0, none⟩ = some (.slice (some ⟨b0, off, none⟩) len cap) := by rw [← hw1]; exact g0
  have k1 : w1.cell? ⟨b, 1, none⟩ = some (.int .i64 (at' + 1)) := by rw [← hw1]; exact g1
  have k2 : w1.cell? ⟨b, 2, none⟩ = some (.int .i64 seed) := by rw [← hw1]; exact g2
  have kc : w1.cell? ⟨b0, off + at'.toNat, none⟩ = some (.int .u8 c) := by rw [← hw1]; exact gc
  have kf : w1.frozen? ⟨b, 2, none⟩ = false := by rw [← hw1]; simpa using f2
  have HW : Hid ((w.setCell ⟨b, 1, none⟩ (.int .i64 (at' + 1))).drewN nq = w1) := hw1
  clear hw1 g0 g1 g2 gc h0 h1 h2 hc f1 f2
  go_region
  go_wp2
  go_quiet (fail)
  go_wp2
  go_ret
  refine ⟨rfl, ?_⟩
  rw [← HW.out]
  exact ⟨(((((HS.out.set1 (at' + 1) (by omega)).drewN _).set2 _ (by omega)).drew).drewN _), below_drewN ((below_drewN ((Below.refl B w).setCell hB _) _).setCell hB _).drew _, ((((Apt.refl b w).set _ _).drewN _).set _ _).drew.drewN _⟩

set_option maxHeartbeats 800000 in
theorem byte_outA (B b : Nat) (a : Option Addr) (len cap : Nat) (at' seed : Int) (w : World) (hB : B ≤ b) (hs : Src w b a len cap at' seed)
    (a1 : at' ≤ 1000000000000) (hin : ¬ at' < len) (hlen : len ≤ maxLen) :
    Calls Tryz.prog 41 #[.pointer (some ⟨b, 0, none⟩)] w fun e w' => ∃ x s' : Int, e = .returned (.int .i64 x) ∧ 0 ≤ x ∧ x ≤ 255 ∧ Src w' b a len cap (at' + 1) s' ∧ Below B w w' ∧ Apt b w w' := by
  unfold maxLen at hlen
  have HS : Hid (Src w b a len cap at' seed) := hs
  obtain ⟨h0, h1, h2, f1, f2, hbs, a0, s0, s1⟩ := hs
  have hnin : decide (at' + 1 ≤ (len : Int)) = false := by simp; omega
  by_cases h3 : 3000 < at' + 1
  · go_enter Tryz.func41, Tryz.ntmps41
    go_wp2
    go_quiet (fail)
    go_wp2
    go_ret
    exact ⟨0, seed, rfl, by omega, by omega, (HS.out.set1 (at' + 1) (by omega)).drewN _, below_drewN ((Below.refl B w).setCell hB _) _, ((Apt.refl b w).set _ _).drewN _⟩
  · go_enter Tryz.func41, Tryz.ntmps41
    go_wp2
    go_quiet (fail)
    go_wp2
    go_ret
    exact ⟨_, _, rfl, by omega, by omega, ((HS.out.set1 (at' + 1) (by omega)).drewN _).set2 _ (by omega), (below_drewN ((Below.refl B w).setCell hB _) _).setCell hB _, (((Apt.refl b w).set _ _).drewN _).set _ _⟩

theorem byte_anyA (B b : Nat) (a : Option Addr) (len cap : Nat) (zs : List Int) (at' seed : Int) (w : World) (hB : B ≤ b) (hs : Src w b a len cap at' seed) (hr : RowB B w a len zs) (a1 : at' ≤ 1000000000000) :
    Calls Tryz.prog 41 #[.pointer (some ⟨b, 0, none⟩)] w fun e w' => ∃ x s' : Int, e = .returned (.int .i64 x) ∧ 0 ≤ x ∧ x ≤ 255 ∧ Src w' b a len cap (at' + 1) s' ∧ Below B w w' ∧ Apt b w w' := by
  obtain ⟨hl, hr'⟩ := hr
  by_cases hin : at' < len
  · have h0 := hs.2.2.2.2.2.2.1
    rcases hr' with h | ⟨b0, off, rfl, hlt, hc⟩
    · omega
    · obtain ⟨c1, c2, c3⟩ := hc at'.toNat (by omega)
      exact (byte_inA B b b0 off len cap at' seed _ w hB hs hlt a1 hin hl c1 c2 c3).mono fun e w' ⟨he, h1, h2, h3⟩ => ⟨_, _, he, c2, c3, h1, h2, h3⟩
  · exact byte_outA B b a len cap at' seed w hB hs a1 hin hl

set_option maxHeartbeats 400000 in
theorem next_anyA (B b : Nat) (a : Option Addr) (len cap : Nat) (zs : List Int) (n at' seed : Int) (w : World) (hB : B ≤ b) (hs : Src w b a len cap at' seed) (hr : RowB B w a len zs) (a1 : at' ≤ 999999999000) (hn : n ≤ 256) :
    Calls Tryz.prog 19 #[.pointer (some ⟨b, 0, none⟩), .int .i64 n] w fun e w' => ∃ x at2 s' : Int, e = .returned (.int .i64 x) ∧ Drawn x n ∧ at' ≤ at2 ∧ at2 ≤ at' + 3 ∧ Src w' b a len cap at2 s' ∧ Below B w w' ∧ Apt b w w' := by
  have h0 := hs.2.2.2.2.2.2.1
  rcases (by omega : n ≤ 1 ∨ (1 < n ∧ n ≤ 256) ∨ (1 < n ∧ 256 < n)) with h | ⟨h1, h2⟩ | ⟨h1, h2⟩
  · go_enter Tryz.func19, Tryz.ntmps19
    go_wp2
    go_ret
    exact ⟨0, at', seed, rfl, ⟨by omega, .inr rfl⟩, by omega, by omega, hs, Below.refl _ _, Apt.refl _ _⟩
  · have hbyte := byte_anyA B b a len cap zs at' seed w hB hs hr (by omega)
    go_enter Tryz.func19, Tryz.ntmps19
    go_wp2_with (go_at_call 41; refine hbyte.mono ?_; rintro e w1 ⟨x, s', rfl, hx0, hx1, hs1, hb1, hf1⟩)
    go_ret
    exact ⟨_, _, _, rfl, drawn_mod x n hx0 h1, by omega, by omega, hs1, hb1, hf1⟩
  · omega
end Go.Proofs.YtabpkfhbnendjaaGreat

/-
  Contracts of the source's size and chance.
-/
namespace Go.Proofs.YtabpkfhbnendjaaGreat
open Go.ChangeShapes Go.WideShapes Go.ChangeAt Go.RowKit
set_option linter.unusedVariables false


theorem size_src (b : Nat) (a : Option Addr) (len cap : Nat) (m at' seed : Int) (w : World) (hs : Src w b a len cap at' seed) (hl : len ≤ maxLen) (hm : 1 ≤ m) (hm' : m ≤ 1000) :
    Calls Tryz.prog 20 #[.pointer (some ⟨b, 0, none⟩), .int .i64 m] w fun e w' => (∃ x : Int, e = .returned (.int .i64 x) ∧ 1 ≤ x ∧ x ≤ m) ∧ w' = w := by
  obtain ⟨h0, h1, h2, f1, f2, hb, x0, s0, s1⟩ := hs
  unfold maxLen at hl
  have htd : ((len : Int)).tdiv 12 = (len : Int) / 12 := Int.tdiv_eq_ediv_of_nonneg (by omega)
  go_enter Tryz.func20, Tryz.ntmps20
  go_wp2
  all_goals
    go_ret
    exact ⟨⟨_, rfl, by omega, by omega⟩, rfl⟩

end Go.Proofs.YtabpkfhbnendjaaGreat

/-
  Contract of the specification's l00Digits: of a number that is not below 0 it tells the decimal digits.
-/
namespace Go.Proofs.YtabpkfhbnendjaaGreat
open Go.ChangeShapes Go.WideShapes Go.ChangeAt Go.RowKit
set_option linter.unusedVariables false

theorem one_byte (v : Nat) (hv : v < 256) (w : World) (b : Nat) (h : w.cell? ⟨b, 0, none⟩ = some (.int .u8 (v : Int))) :
    (convert 22 9 (.slice (some ⟨b, 0, none⟩) 1 1)).run Tryz.prog w = .ok (.string ⟨#[UInt8.ofNat v]⟩) w := by
  have e : (UInt8.ofNat v).toNat = v := by simp; omega
  exact run_convert_bytes_back (P := Tryz.prog) w 22 9 5 ⟨b, 0, none⟩ 1 [UInt8.ofNat v] Tryz.underlying22 Tryz.underlying5 Tryz.underlying9 (by
    intro j hj
    have hj0 : j = 0 := by simp at hj; exact hj
    subst hj0
    show w.cell? _ = some (.int .u8 ((UInt8.ofNat v).toNat : Int))
    rw [e]; simpa [Addr.add] using h)

def decS (u : Nat) : ByteArray := ⟨(Lib.decDigits u).toArray⟩

theorem decS_size (u : Nat) : (decS u).size ≤ u + 1 := by
  have : (Lib.decDigits u).length ≤ u + 1 := by
    induction u using Nat.strongRecOn with
    | _ u ih =>
      rw [Lib.decDigits]
      split
      · simp
      · have := ih (u / 10) (by omega)
        simp; omega
  show (Lib.decDigits u).toArray.size ≤ u + 1
  simpa using this

theorem decS_step (u : Nat) (h : 10 ≤ u) : decS (u / 10) ++ ⟨#[48 + UInt8.ofNat (u % 10)]⟩ = decS u := by
  have e : Lib.decDigits u = Lib.decDigits (u / 10) ++ [UInt8.ofNat (48 + u % 10)] := by
    rw [Lib.decDigits, dif_neg (by omega)]
  unfold decS
  rw [e]
  apply ByteArray.ext
  simp [UInt8.ofNat_add]


theorem digits_one (u : Nat) (hu : u < 10) (w : World) :
    Calls Tryz.prog 21 #[.int .i64 (u : Int)] w fun e w' => e = .returned (.string (decS u)) ∧ Below w.heap.size w w' := by
  have h1 : ((u : Int) == -9223372036854775808) = false := by
    rw [beq_eq_false_iff_ne]; omega
  have h2 : (u : Int) < 10 := by omega
  have e48 : (48 : Int) + (u : Int) = ((48 + u : Nat) : Int) := by omega
  have hcv : ∀ W b, W.cell? ⟨b, 0, none⟩ = some (.int .u8 (48 + (u : Int))) → (convert 22 9 (.slice (some ⟨b, 0, none⟩) 1 1)).run Tryz.prog W = .ok (.string (decS u)) W := fun W b h => by
    rw [e48] at h
    rw [one_byte (48 + u) (by omega) W b h]
    unfold decS
    rw [Lib.decDigits_one hu]
  clear e48
  go_enter Tryz.func21, Tryz.ntmps21
  go_wp2
  go_ret
  exact ⟨rfl, below_alloc _ _⟩

set_option maxHeartbeats 2000000 in
theorem digits_more (u : Nat) (hu : 10 ≤ u) (hu' : u < 1000000000000000000) (ih : ∀ w, Calls Tryz.prog 21 #[.int .i64 ((u / 10 : Nat) : Int)] w fun e w' => e = .returned (.string (decS (u / 10))) ∧ Below w.heap.size w w') (w : World) :
    Calls Tryz.prog 21 #[.int .i64 (u : Int)] w fun e w' => e = .returned (.string (decS u)) ∧ Below w.heap.size w w' := by
  have h1 : ((u : Int) == -9223372036854775808) = false := by
    rw [beq_eq_false_iff_ne]; omega
  have h2 : (10 : Int) ≤ (u : Int) := by omega
  have e48 : (48 : Int) + (u : Int) % 10 = ((48 + u % 10 : Nat) : Int) := by omega
  have hcv : ∀ W b, W.cell? ⟨b, 0, none⟩ = some (.int .u8 (48 + (u : Int) % 10)) → (convert 22 9 (.slice (some ⟨b, 0, none⟩) 1 1)).run Tryz.prog W = .ok (.string ⟨#[UInt8.ofNat (48 + u % 10)]⟩) W := fun W b h => by
    rw [e48] at h
    exact one_byte (48 + u % 10) (by omega) W b h
  have e10 : ((u / 10 : Nat) : Int) = (u : Int) / 10 := by omega
  rw [e10] at ih
  clear e48 e10
  have tm : (u : Int).tmod 10 = (u : Int) % 10 := Int.tmod_eq_emod_of_nonneg (by omega)
  have wq : IntKind.i64.wrap ((u : Int) / 10) = (u : Int) / 10 := wrap_id _ (by omega) (by omega)
  have wr : IntKind.i64.wrap ((u : Int) % 10) = (u : Int) % 10 := wrap_id _ (by omega) (by omega)
  have ws : IntKind.i64.wrap (48 + (u : Int) % 10) = 48 + (u : Int) % 10 := wrap_id _ (by omega) (by omega)
  have wb : IntKind.u8.wrap (48 + (u : Int) % 10) = 48 + (u : Int) % 10 := by simp [IntKind.wrap, IntKind.signed, IntKind.bits]; omega
  go_enter Tryz.func21, Tryz.ntmps21
  go_wp2
  have hsz : (decS (u / 10)).size ≤ 1000000000000000000 := by have := decS_size (u / 10); omega
  go_region_with (go_at_call 21; refine (ih _).mono ?_; rintro e w1 ⟨rfl, hb1⟩; obtain ⟨hc1, hf1, hz1⟩ := bfacts hb1)
  all_goals
    go_wp2
    go_ret
    rw [decS_step u hu]
    exact ⟨rfl, by repeat (first | exact Below.refl _ _ | refine chain ?_ (by assumption) | refine chain ?_ (below_alloc _ _) | refine chain ?_ (below_drew _))⟩

theorem digits_any : ∀ (u : Nat), u < 1000000000000000000 → ∀ w, Calls Tryz.prog 21 #[.int .i64 (u : Int)] w fun e w' => e = .returned (.string (decS u)) ∧ Below w.heap.size w w' := by
  intro u
  induction u using Nat.strongRecOn with
  | _ u ih =>
    intro hu w
    by_cases h : u < 10
    · exact digits_one u h w
    · exact digits_more u (by omega) hu (fun w => ih (u / 10) (by omega) (by omega) w) w

end Go.Proofs.YtabpkfhbnendjaaGreat

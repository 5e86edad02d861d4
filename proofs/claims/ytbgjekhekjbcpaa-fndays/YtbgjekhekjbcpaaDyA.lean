/-
  Contracts of the program's calendar: rises, right, inWeek, noHoliday, nextOpen.
-/
import Derived.Test.YtbgjekhekjbcpaaDyM
import Derived.Test.YtbgjekhekjbcpaaBlA
import Derived.Deep.DeepCutAuto
namespace Go.Proofs.Ytbgjekhekjbcpaa
open Go.ChangeShapes Go.WideShapes Go.ChangeAt Go.RowKit Go.Joins Go.Deep
set_option linter.unusedVariables false

set_option maxHeartbeats 1000000 in
theorem rises_any (a : Option Addr) (cap : Nat) (L : List Int) (hl : L.length ≤ 100000000) (w : World) (hr : Reads w.heap.size w a L) :
    Calls Try.prog 62 #[.slice a L.length cap] w fun e w' => e = .returned (.bool (rsN L L.length)) ∧ Below w.heap.size w w' := by
  have HR : Hid (Reads w.heap.size w a L) := hr
  clear hr
  go_enter Try.func62, Try.ntmps62
  go_wp2
  go_loopw [3] (fun c wr => ∃ k : Nat, 1 ≤ k ∧ (k ≤ L.length ∨ k = 1) ∧ c = .int .i64 (k : Int) ∧ rsN L k = true ∧ Below w.heap.size w wr) (fun c _ => L.length - (intOf c).toNat)
  case atStart => exact ⟨1, Nat.le_refl _, .inr rfl, rfl, rfl, Below.refl _ _⟩
  case round =>
    obtain ⟨k, hk1, hk2, rfl, hrs, hb⟩ := hrel
    have HB : Hid (Below w.heap.size w wr) := hb
    have HS : Hid (rsN L k = true) := hrs
    have HK2 : Hid (k ≤ L.length ∨ k = 1) := hk2
    clear hb hrs hk2
    by_cases hlt : k < L.length
    · have hlt' : (k : Int) < (L.length : Int) := by omega
      rcases HR.out with h | ⟨b0, o0, ha, hB0, ia⟩
      · rw [h] at hlt; simp at hlt
      have c0 := (ia.below HB.out hB0) k hlt
      have c1 := (ia.below HB.out hB0) (k - 1) (by omega)
      have HF : Hid (¬ L.getD (k - 1) 0 < L.getD k 0 → rsN L L.length = false) := fun h => rsN_fail hk1 hlt h
      have HN : Hid (L.getD (k - 1) 0 < L.getD k 0 → rsN L (k + 1) = true) := fun h => rsN_next HS.out (.inr h)
      rw [ha]
      clear ia
      have hwk : IntKind.i64.wrap ((k : Int) - 1) = ((k - 1 : Nat) : Int) := by rw [show (k : Int) - 1 = ((k - 1 : Nat) : Int) by omega]; exact wrap_id _ (by omega) (by omega)
      have hk3 : ((k - 1 : Nat) : Int) < (L.length : Int) := by omega
      generalize L.getD (k - 1) 0 = p at *
      generalize L.getD k 0 = q at *
      generalize hj : k - 1 = j at *
      have HJ : Hid (k - 1 = j) := hj
      clear hj
      by_cases hpq : p < q
      · have l1 : decide (q ≤ p) = false := decide_eq_false (by omega)
        have l2 : ¬ q ≤ p := by omega
        have HE : Hid (rsN L (k + 1) = true) := HN.out hpq
        clear HF HN
        go_wp2
        go_quiet (fail)
        go_wp2
        exact ⟨⟨k + 1, by omega, .inl (by omega), by go_num, HE.out, below_drewN HB.out _⟩, by simp [intOf]; omega⟩
      · have l1 : decide (q ≤ p) = true := decide_eq_true (by omega)
        have l2 : q ≤ p := by omega
        have HE : Hid (rsN L L.length = false) := HF.out hpq
        clear HF HN
        go_wp2
        go_quiet (fail)
        go_wp2
        go_ret
        exact ⟨ret_bool HE.out.symm, below_drewN HB.out _⟩
    · have hle : ¬ (k : Int) < (L.length : Int) := by omega
      have HE : Hid (rsN L L.length = true) := by
        show rsN L L.length = true
        rcases HK2.out with h | h
        · rw [show L.length = k by omega]; exact HS.out
        · by_cases h0 : L.length = 0
          · rw [h0]; rfl
          · rw [show L.length = k by omega]; exact HS.out
      go_wp2
      go_ret
      exact ⟨ret_bool HE.out.symm, HB.out⟩
/-- A place is told: it is not below 0. -/
def IxP (x : Int) (b : Bool) : Prop := decide (0 ≤ x) = b
set_option maxHeartbeats 1000000 in
theorem dyIndex_any (a : Option Addr) (cap : Nat) (L : List Int) (d : Int) (hl : L.length ≤ 100000000) (w : World) (hr : Reads w.heap.size w a L) :
    Calls Try.prog 64 #[.slice a L.length cap, .int .i64 d] w fun e w' => (∃ x : Int, e = .returned (.int .i64 x) ∧ IxP x (hasI L d)) ∧ w = w' := by
  have HR : Hid (Reads w.heap.size w a L) := hr
  clear hr
  go_enter Try.func64, Try.ntmps64
  go_wp2
  go_loopw [5, 8] (fun _ c wr => ∃ k : Nat, k ≤ L.length ∧ c = .int .i64 (k : Int) ∧ hasI (L.take k) d = false ∧ w = wr) (fun _ c _ => L.length - (intOf c).toNat)
  case atStart => exact ⟨0, Nat.zero_le _, rfl, rfl, rfl⟩
  case round =>
    obtain ⟨k, hk, rfl, hf, hw⟩ := hrel
    subst hw
    have HF : Hid (hasI (L.take k) d = false) := hf
    clear hf
    by_cases hlt : k < L.length
    · have hlt' : (k : Int) < (L.length : Int) := by omega
      rcases HR.out with h | ⟨b0, o0, ha, hB0, ia⟩
      · rw [h] at hlt; simp at hlt
      have c0 := ia k hlt
      have HX : Hid (L.getD k 0 = d → hasI L d = true) := fun h => contains_at hlt h
      have HN : Hid (L.getD k 0 ≠ d → hasI (L.take (k + 1)) d = false) := fun h => contains_take hlt h HF.out
      rw [ha]
      clear ia
      generalize L.getD k 0 = q at *
      by_cases hq : q = d
      · have HE : Hid (hasI L d = true) := HX.out hq
        have l1 : (d == q) = true := by simp [hq]
        clear HX HN hq
        go_wp2
        go_ret
        exact ⟨⟨(k : Int), rfl, by unfold IxP; rw [HE.out]; exact decide_eq_true (by omega)⟩, rfl⟩
      · have HE : Hid (hasI (L.take (k + 1)) d = false) := HN.out hq
        have l1 : (d == q) = false := by simp; omega
        have l2 : ¬ d = q := by omega
        clear HX HN hq
        go_wp2
        exact ⟨⟨k + 1, by omega, by go_num, HE.out, by first | rfl | trivial⟩, by simp [intOf]; omega⟩
    · have hle : ¬ (k : Int) < (L.length : Int) := by omega
      have HE : Hid (hasI L d = false) := by have := HF.out; rwa [List.take_of_length_le (by omega)] at this
      go_wp2
      go_ret
      exact ⟨⟨-1, rfl, by unfold IxP; rw [HE.out]; rfl⟩, rfl⟩
theorem dyContains_any (a : Option Addr) (cap : Nat) (L : List Int) (d : Int) (hl : L.length ≤ 100000000) (w : World) (hr : Reads w.heap.size w a L) :
    Calls Try.prog 63 #[.slice a L.length cap, .int .i64 d] w fun e w' => e = .returned (.bool (hasI L d)) ∧ w = w' := by
  have hi := dyIndex_any a cap L d hl w hr
  clear hr
  go_enter Try.func63, Try.ntmps63
  go_wp2_with (go_at_call 64; refine hi.mono ?_; rintro e w2 ⟨⟨x, rfl, hx⟩, rfl⟩; have HX : Hid (IxP x (hasI L d)) := hx; clear hx)
  go_ret
  exact ⟨ret_bool HX.out, rfl⟩
theorem noHoliday_any (wa ha : Option Addr) (wc hc : Nat) (wk : List Bool) (hs : List Int) (d : Int) (hl : hs.length ≤ 100000000) (w : World) (hr : Reads w.heap.size w ha hs) :
    Calls Try.prog 58 #[.agg #[.slice wa wk.length wc, .slice ha hs.length hc], .int .i64 d] w fun e w' => e = .returned (.bool (!hasI hs d)) ∧ Below w.heap.size w w' := by
  have HC : Hid (∀ W, Below w.heap.size w W → Calls Try.prog 63 #[.slice ha hs.length hc, .int .i64 d] W fun e w' => e = .returned (.bool (hasI hs d)) ∧ W = w') := fun W hW => dyContains_any ha hc hs d hl W (readsL hr hW)
  clear hr
  generalize hasI hs d = b at *
  go_enter Try.func58, Try.ntmps58
  go_wp2_with (go_at_call 63; refine (HC.out _ (below_alloc _ _)).mono ?_; rintro e w2 ⟨rfl, rfl⟩)
  go_ret
  exact ⟨rfl, below_alloc _ _⟩
theorem inWeek_any (wa ha : Option Addr) (wc hc : Nat) (wk : List Bool) (hs : List Int) (d : Int) (h7 : wk.length = 7) (hd : 0 ≤ d) (w : World) (hr : ReadsBl w.heap.size w wa wk) :
    Calls Try.prog 57 #[.agg #[.slice wa wk.length wc, .slice ha hs.length hc], .int .i64 d] w fun e w' => e = .returned (.bool (wk.getD (d % 7).toNat false)) ∧ Below w.heap.size w w' := by
  obtain ⟨m, hm⟩ : ∃ m : Nat, d % 7 = (m : Int) := ⟨(d % 7).toNat, by omega⟩
  have hm7 : m < 7 := by omega
  have htm : Int.tmod d 7 = (m : Int) := by rw [Int.tmod_eq_emod_of_nonneg hd]; exact hm
  rw [hm, Int.toNat_natCast]
  rcases hr with h | ⟨b0, o0, ha', hB0, ia⟩
  · rw [h] at h7; simp at h7
  have c0 : ∀ W, Below w.heap.size w W → W.cell? ⟨b0, o0 + m, none⟩ = some (.bool (wk.getD m false)) := fun W hW => (ia.below hW hB0) m (by omega)
  have HC0 : Hid (∀ W, Below w.heap.size w W → W.cell? ⟨b0, o0 + m, none⟩ = some (.bool (wk.getD m false))) := c0
  subst ha'
  have hmw : (m : Int) < (wk.length : Int) := by omega
  have hw1 : IntKind.i64.wrap (m : Int) = (m : Int) := wrap_id _ (by omega) (by omega)
  generalize wk.getD m false = b at *
  clear ia c0
  generalize hn : wk.length = n at *
  clear h7
  have c1 := HC0.out (w.alloc (Obj.cells #[.slice (some ⟨b0, o0, none⟩) n wc, .slice ha hs.length hc] 71)) (below_alloc _ _)
  have hm2 : d % 7 = (m : Int) := hm
  clear HC0 hm
  go_enter Try.func57, Try.ntmps57
  go_wp2
  go_ret
  exact ⟨rfl, below_alloc _ _⟩
end Go.Proofs.Ytbgjekhekjbcpaa

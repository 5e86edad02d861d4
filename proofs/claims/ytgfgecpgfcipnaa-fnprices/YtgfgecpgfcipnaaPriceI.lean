/-
  The program's countingRows: what it makes.
-/
import Derived.Test.YtgfgecpgfcipnaaPriceH
namespace Go.Proofs.Ytgfgecpgfcipnaa
open Go.ChangeShapes Go.WideShapes Go.ChangeAt Go.RowKit
set_option linter.unusedVariables false


theorem orderBy1_make (w : World) :
    Calls Try.prog 39 #[.func (.func 40) #[] #[]] w fun e w' => e = .returned (.func (.func 49) #[] #[.pointer (some ⟨w.heap.size, 0, none⟩)]) ∧ w'.cell? ⟨w.heap.size, 0, none⟩ = some (.func (.func 40) #[] #[]) ∧ w.heap.size < w'.heap.size ∧ Below w.heap.size w w' := by
  go_enter Try.func39, Try.ntmps39
  go_wp2
  go_ret
  exact ⟨rfl, by simp, by simp, below_alloc _ _⟩

theorem orderBy2_make (w : World) :
    Calls Try.prog 39 #[.func (.func 41) #[] #[]] w fun e w' => e = .returned (.func (.func 49) #[] #[.pointer (some ⟨w.heap.size, 0, none⟩)]) ∧ w'.cell? ⟨w.heap.size, 0, none⟩ = some (.func (.func 41) #[] #[]) ∧ w.heap.size < w'.heap.size ∧ Below w.heap.size w w' := by
  go_enter Try.func39, Try.ntmps39
  go_wp2
  go_ret
  exact ⟨rfl, by simp, by simp, below_alloc _ _⟩

theorem orderBy3_make (w : World) :
    Calls Try.prog 39 #[.func (.func 42) #[] #[]] w fun e w' => e = .returned (.func (.func 49) #[] #[.pointer (some ⟨w.heap.size, 0, none⟩)]) ∧ w'.cell? ⟨w.heap.size, 0, none⟩ = some (.func (.func 42) #[] #[]) ∧ w.heap.size < w'.heap.size ∧ Below w.heap.size w w' := by
  go_enter Try.func39, Try.ntmps39
  go_wp2
  go_ret
  exact ⟨rfl, by simp, by simp, below_alloc _ _⟩

theorem inTurn_make (t n c : Nat) (w : World) :
    Calls Try.prog 38 #[.slice (some ⟨t, 0, none⟩) n c] w fun e w' => e = .returned (.func (.func 48) #[] #[.pointer (some ⟨w.heap.size, 0, none⟩)]) ∧ w'.cell? ⟨w.heap.size, 0, none⟩ = some (.slice (some ⟨t, 0, none⟩) n c) ∧ w.heap.size < w'.heap.size ∧ Below w.heap.size w w' := by
  go_enter Try.func38, Try.ntmps38
  go_wp2
  go_ret
  exact ⟨rfl, by simp, by simp, below_alloc _ _⟩
theorem holding_make (art zn : ByteArray) (w : World) :
    Calls Try.prog 26 #[.string art, .string zn] w fun e w' => e = .returned (.func (.func 37) #[] #[.pointer (some ⟨w.heap.size, 0, none⟩), .pointer (some ⟨w.heap.size + 1, 0, none⟩)]) ∧ (w'.cell? ⟨w.heap.size, 0, none⟩ = some (.string art) ∧ w'.cell? ⟨w.heap.size + 1, 0, none⟩ = some (.string zn)) ∧ w.heap.size + 1 < w'.heap.size ∧ Below w.heap.size w w' := by
  go_enter Try.func26, Try.ntmps26
  go_wp2
  go_ret
  exact ⟨rfl, ⟨by simp, by simp⟩, by simp, chain (below_alloc _ _) (below_alloc _ _)⟩

set_option maxHeartbeats 1000000 in
theorem counting_make (w : World) :
    Calls Try.prog 27 #[] w fun e w' => ∃ s, e = .returned (.func (.func 48) #[] #[.pointer (some ⟨s, 0, none⟩)]) ∧ OrdEnv w' s ∧ Below w.heap.size w w' := by
  go_enter Try.func27, Try.ntmps27
  go_wp2_with fail
  (first | go_at_call 39 | skip)
  refine (orderBy1_make w).mono ?_
  rintro e w1 ⟨rfl, c1, l1, hb1⟩
  go_wp2_with fail
  (first | go_at_call 39 | skip)
  refine (orderBy2_make w1).mono ?_
  rintro e w2 ⟨rfl, c2, l2, hb2⟩
  go_wp2_with fail
  (first | go_at_call 39 | skip)
  refine (orderBy3_make w2).mono ?_
  rintro e w3 ⟨rfl, c3, l3, hb3⟩
  have HB3 : Hid (Below w.heap.size w w3) := chain (chain hb1 hb2) hb3
  have HC : Hid (w3.cell? ⟨w.heap.size, 0, none⟩ = some (.func (.func 40) #[] #[]) ∧ w3.cell? ⟨w1.heap.size, 0, none⟩ = some (.func (.func 41) #[] #[]) ∧ w3.cell? ⟨w2.heap.size, 0, none⟩ = some (.func (.func 42) #[] #[]) ∧ w.heap.size < w3.heap.size ∧ w1.heap.size < w3.heap.size ∧ w2.heap.size < w3.heap.size) :=
    ⟨((chain hb2 hb3).cell (p := ⟨w.heap.size, 0, none⟩) l1).trans c1, (hb3.cell (p := ⟨w1.heap.size, 0, none⟩) l2).trans c2, c3, by omega, by omega, l3⟩
  clear hb1 hb2 hb3 c1 c2 c3
  go_wp2_with fail
  (first | go_at_call 38 | skip)
  refine (inTurn_make _ _ _ _).mono ?_
  rintro e w4 ⟨rfl, c4, l4, hb4⟩
  have HT : Hid (∀ o : Obj, Below (w3.alloc o).heap.size (w3.alloc o) w4 → ∀ p off v, p < w3.heap.size → w3.cell? ⟨p, off, none⟩ = some v → w4.cell? ⟨p, off, none⟩ = some v ∧ p < w4.heap.size) := fun o h p off v hp hv => by
    have hc := chain (below_alloc w3 o) h
    exact ⟨(hc.cell (p := ⟨p, off, none⟩) hp).trans hv, Nat.lt_of_lt_of_le hp hc.size⟩
  obtain ⟨k1, k2, k3, m1, m2, m3⟩ := HC.out
  obtain ⟨x1, y1⟩ := HT.out _ hb4 _ _ _ m1 k1
  obtain ⟨x2, y2⟩ := HT.out _ hb4 _ _ _ m2 k2
  obtain ⟨x3, y3⟩ := HT.out _ hb4 _ _ _ m3 k3
  have HE : Hid (OrdEnv w4 (w3.heap.size + 1)) := by
    refine ⟨w3.heap.size, w.heap.size, w1.heap.size, w2.heap.size, ⟨by simpa using c4, ?_, ?_, ?_, x1, x2, x3⟩, by simpa using l4, Nat.lt_of_lt_of_le (by simp) hb4.size, y1, y2, y3⟩
    · exact (hb4.cell (p := ⟨w3.heap.size, 0, none⟩) (by simp)).trans (by simp)
    · exact (hb4.cell (p := ⟨w3.heap.size, 1, none⟩) (by simp)).trans (by simp)
    · exact (hb4.cell (p := ⟨w3.heap.size, 2, none⟩) (by simp)).trans (by simp)
  have HB4 : Hid (Below w.heap.size w w4) := chain HB3.out (chain (below_alloc _ _) hb4)
  clear x1 x2 x3 k1 k2 k3 c4 hb4 HT HC HB3
  go_wp2
  go_ret
  exact ⟨w3.heap.size + 1, rfl, HE.out, HB4.out⟩

theorem storeFn (w : World) (a : Addr) (f : Fn) (x y : Array Value) (m : Mode) : (store a (.func f x y) m).run Try.prog w = stored Try.prog w a (.func f x y) m := run_store _ w a _ m rfl
/-- What the closure of countingRows is handed. -/
def CtEnv (w : World) (a : Option Addr) (n cap : Nat) (art zn : ByteArray) (p1 p2 p3 : Nat) : Prop :=
  ∃ bA bZ s : Nat, (w.cell? ⟨p1, 0, none⟩ = some (.slice a n cap) ∧ w.cell? ⟨p2, 0, none⟩ = some (.func (.func 37) #[] #[.pointer (some ⟨bA, 0, none⟩), .pointer (some ⟨bZ, 0, none⟩)]) ∧ w.cell? ⟨p3, 0, none⟩ = some (.func (.func 48) #[] #[.pointer (some ⟨s, 0, none⟩)]) ∧ w.cell? ⟨bA, 0, none⟩ = some (.string art) ∧ w.cell? ⟨bZ, 0, none⟩ = some (.string zn)) ∧
    (p1 < w.heap.size ∧ p2 < w.heap.size ∧ p3 < w.heap.size ∧ bA < w.heap.size ∧ bZ < w.heap.size) ∧ OrdEnv w s
theorem CtEnv.below {w w' : World} {a : Option Addr} {n cap : Nat} {art zn : ByteArray} {p1 p2 p3 : Nat} (h : CtEnv w a n cap art zn p1 p2 p3) (hb : Below w.heap.size w w') : CtEnv w' a n cap art zn p1 p2 p3 := by
  obtain ⟨bA, bZ, s, ⟨h1, h2, h3, h4, h5⟩, ⟨l1, l2, l3, l4, l5⟩, ho⟩ := h
  obtain ⟨hc, _, hz⟩ := bfacts hb
  exact ⟨bA, bZ, s, ⟨(hc _ _ l1).trans h1, (hc _ _ l2).trans h2, (hc _ _ l3).trans h3, (hc _ _ l4).trans h4, (hc _ _ l5).trans h5⟩, ⟨hz _ l1, hz _ l2, hz _ l3, hz _ l4, hz _ l5⟩, ho.below hb⟩

set_option maxHeartbeats 1000000 in
theorem countingRows_make (a : Option Addr) (n cap : Nat) (art zn : ByteArray) (w : World) :
    Calls Try.prog 13 #[.slice a n cap, .string art, .string zn] w fun e w' => ∃ p1 p2 p3, e = .returned (.func (.func 28) #[] #[.pointer (some ⟨p1, 0, none⟩), .pointer (some ⟨p2, 0, none⟩), .pointer (some ⟨p3, 0, none⟩)]) ∧ CtEnv w' a n cap art zn p1 p2 p3 ∧ Below w.heap.size w w' := by
  go_enter Try.func13, Try.ntmps13
  go_wp2_with fail
  (first | go_at_call 26 | skip)
  refine (holding_make _ _ _).mono ?_
  rintro e w1 ⟨rfl, ⟨c1, c2⟩, l1, hb1⟩
  have k0 : w1.cell? ⟨w.heap.size, 0, none⟩ = some (.slice a n cap) := (hb1.cell (p := ⟨w.heap.size, 0, none⟩) (by simp)).trans (by simp)
  have m0 : w.heap.size < w1.heap.size := Nat.lt_of_lt_of_le (by simp) hb1.size
  have HB1 : Hid (Below w.heap.size w w1) := chain (below_alloc _ _) hb1
  have e1 : (w.alloc (Obj.cells #[.slice a n cap] 23)).heap.size = w.heap.size + 1 := by simp
  rw [e1] at c1 c2 l1
  clear hb1
  go_wp2_with fail
  (first | go_at_call 27 | skip)
  refine (counting_make w1).mono ?_
  rintro e w2 ⟨s, rfl, ho, hb2⟩
  have HO : Hid (OrdEnv w2 s) := ho
  have HK : Hid ((w2.cell? ⟨w.heap.size, 0, none⟩ = some (.slice a n cap) ∧ w2.cell? ⟨w.heap.size + 1, 0, none⟩ = some (.string art) ∧ w2.cell? ⟨w.heap.size + 1 + 1, 0, none⟩ = some (.string zn)) ∧ w.heap.size < w2.heap.size ∧ w.heap.size + 1 < w2.heap.size ∧ w.heap.size + 1 + 1 < w2.heap.size) := by
    obtain ⟨hc, _, hz⟩ := bfacts hb2
    exact ⟨⟨(hc _ _ m0).trans k0, (hc _ _ (by omega)).trans c1, (hc _ _ l1).trans c2⟩, hz _ m0, hz _ (by omega), hz _ l1⟩
  have HB2 : Hid (Below w.heap.size w w2) := chain HB1.out hb2
  clear k0 c1 c2 hb2 ho HB1
  have hst := storeFn
  have n1 : ∀ n : Nat, n < n + 1 + 1 := fun n => by omega
  have n2 : ∀ n : Nat, n < n + 2 := fun n => by omega
  have n3 : ∀ n : Nat, n + 1 < n + 1 + 1 := fun n => by omega
  have n4 : ∀ n : Nat, n + 1 < n + 2 := fun n => by omega
  go_wp2
  have HF : Hid (∀ W : World, Below w2.heap.size w2 W → w2.heap.size + 1 < W.heap.size → W.cell? ⟨w2.heap.size, 0, none⟩ = some (.func (.func 37) #[] #[.pointer (some ⟨w.heap.size + 1, 0, none⟩), .pointer (some ⟨w.heap.size + 1 + 1, 0, none⟩)]) → W.cell? ⟨w2.heap.size + 1, 0, none⟩ = some (.func (.func 48) #[] #[.pointer (some ⟨s, 0, none⟩)]) → CtEnv W a n cap art zn w.heap.size w2.heap.size (w2.heap.size + 1) ∧ Below w.heap.size w W) := fun W hW hl h1 h2 => by
    obtain ⟨⟨k0, k1, k2⟩, z0, z1, z2⟩ := HK.out
    obtain ⟨hc, _, hz⟩ := bfacts hW
    exact ⟨⟨_, _, s, ⟨(hc _ _ z0).trans k0, h1, h2, (hc _ _ z1).trans k1, (hc _ _ z2).trans k2⟩, ⟨hz _ z0, by omega, hl, hz _ z1, hz _ z2⟩, HO.out.below hW⟩, chain HB2.out hW⟩
  go_ret
  refine ⟨w.heap.size, w2.heap.size, w2.heap.size + 1, rfl, HF.out _ ?_ ?_ ?_ ?_⟩
  · first
    | exact chain (below_alloc _ _) (below_alloc _ _)
    | exact ((chain (below_alloc _ _) (below_alloc _ _)).setCell (by simp) _).setCell (by simp) _
  · simp
  · simp
  · simp
end Go.Proofs.Ytgfgecpgfcipnaa

/-
  A slice of numbers that owns its memory, and the laws' marks on it (no program's function but the laws' own helpers).
-/
import Derived.Test.YthmhpgbkapjjkaaLists
namespace Go.Proofs.Ythmhpgbkapjjkaa
open Go.ChangeShapes Go.WideShapes Go.ChangeAt Go.RowKit
set_option linter.unusedVariables false

theorem mark_own (B : Nat) (g : Option Addr) (cap : Nat) (L : List Int) (hn : L.length ≤ 100000000) (k0 : Int) (h0 : 0 ≤ k0) (h1 : k0 ≤ 100000000) (w : World) (h : Own2 B w g L) :
    Calls Try.prog 20 #[.slice g L.length cap, .int .i64 k0] w fun e w' => e = .returned (.int .i64 (k0 + (L.length : Int))) ∧ Below B w w' ∧ w'.heap.size = w.heap.size ∧ Own2 B w' g (marks k0 L.length) := by
  rcases h with h | ⟨b, hg, hB, hlt, hi, hf⟩
  · subst h
    refine (mark_none g cap k0 w).mono ?_
    rintro e w' ⟨rfl, rfl⟩
    exact ⟨ret_int (by simp), Below.refl _ _, rfl, .inl rfl⟩
  · subst hg
    refine (mark_any b 0 L.length cap hn k0 h0 h1 w (fun i h => by rw [hi i h]; rfl) hf).mono ?_
    rintro e w' ⟨rfl, ho, hm⟩
    exact ⟨rfl, ho.2.2.2 B hB, ho.2.2.1, .inr ⟨b, rfl, hB, by rw [ho.2.2.1]; exact hlt, hm, by rw [marks_length]; exact ho.free hf⟩⟩

theorem held_own (B : Nat) (g : Option Addr) (cap n : Nat) (hn : n ≤ 100000000) (k0 : Int) (h0 : 0 ≤ k0) (h1 : k0 ≤ 100000000) (w : World) (h : Own2 B w g (marks k0 n)) :
    Calls Try.prog 21 #[.slice g n cap, .int .i64 k0] w fun e w' => e = .returned (.int .i64 (k0 + (n : Int))) ∧ w' = w := by
  rcases h with h | ⟨b, hg, hB, hlt, hi, hf⟩
  · have hz : n = 0 := by rw [← marks_length k0 n, h]; rfl
    subst hz
    refine (held_none g cap k0 w).mono ?_
    rintro e w' ⟨rfl, rfl⟩
    exact ⟨ret_int (by simp), rfl⟩
  · subst hg
    exact held_any b 0 n cap hn k0 h0 h1 w hi

end Go.Proofs.Ythmhpgbkapjjkaa

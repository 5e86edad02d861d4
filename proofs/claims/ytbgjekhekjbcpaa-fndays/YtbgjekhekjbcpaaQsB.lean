/-
  Levels smoothed, as mathematics; contracts of the program's levelBehind, levelsOf, Smooth and of the specification's Smooth, for all arguments.
-/
import Derived.Test.YtbgjekhekjbcpaaQsA
import Derived.Test.YtbgjekhekjbcpaaRound
import Derived.Test.YtbgjekhekjbcpaaRow1
import Derived.Test.YtbgjekhekjbcpaaRowG
namespace Go.Proofs.Ytbgjekhekjbcpaa
open Go.ChangeShapes Go.WideShapes Go.ChangeAt Go.RowKit Go.Joins
set_option linter.unusedVariables false

/-- The level behind one that was p, where x is now. -/
def lvS (num den p x : Int) : Int := p + (x - p) * num / den
/-- The level behind the k-th number. -/
def lvN (num den : Int) (xs : List Int) : Nat → Int
  | 0 => 64 * xs.getD 0 0
  | k + 1 => lvS num den (lvN num den xs k) (64 * xs.getD (k + 1) 0)
def lvL (num den : Int) (xs : List Int) (n : Nat) : List Int := (List.range n).map (lvN num den xs)
def lvP (num den : Int) (xs : List Int) (k : Nat) : Int := lvN num den xs (k - 1)
theorem lvL_length (num den : Int) (xs : List Int) (n : Nat) : (lvL num den xs n).length = n := by simp [lvL]
theorem lvL_next (num den : Int) (xs : List Int) (n : Nat) : lvL num den xs (n + 1) = lvL num den xs n ++ [lvN num den xs n] := by simp [lvL, List.range_succ]
theorem lvL_at (num den : Int) (xs : List Int) {n k : Nat} (h : k < n) : (lvL num den xs n).getD k 0 = lvN num den xs k := by simp [lvL, List.getD_eq_getElem?_getD, h]
theorem lv_q {num den d : Int} (h1 : 1 ≤ den) (h2 : 0 ≤ num) (h3 : num ≤ den) : (0 ≤ d → 0 ≤ d * num / den ∧ d * num / den ≤ d) ∧ (d ≤ 0 → d ≤ d * num / den ∧ d * num / den ≤ 0) := by
  constructor
  · intro h
    have a1 : 0 ≤ d * num := Int.mul_nonneg h h2
    have a2 : d * num ≤ d * den := Int.mul_le_mul_of_nonneg_left h3 h
    exact ⟨Int.ediv_nonneg a1 (by omega), Int.ediv_le_of_le_mul (by omega) a2⟩
  · intro h
    have a1 : d * den ≤ d * num := Int.mul_le_mul_of_nonpos_left h h3
    have a2 : d * num ≤ 0 * den := by rw [Int.zero_mul]; exact Int.mul_nonpos_of_nonpos_of_nonneg h h2
    exact ⟨Int.le_ediv_of_mul_le (by omega) a1, Int.ediv_le_of_le_mul (by omega) a2⟩
/-- A level lies between the one ahead and what is now. -/
theorem lv_between {num den p x : Int} (h1 : 1 ≤ den) (h2 : 0 ≤ num) (h3 : num ≤ den) : (p ≤ x → p ≤ lvS num den p x ∧ lvS num den p x ≤ x) ∧ (x ≤ p → x ≤ lvS num den p x ∧ lvS num den p x ≤ p) := by
  obtain ⟨a, b⟩ := lv_q (d := x - p) h1 h2 h3
  unfold lvS
  generalize (x - p) * num / den = q at *
  exact ⟨fun h => by have := a (by omega); omega, fun h => by have := b (by omega); omega⟩
theorem lv_small {num den p x : Int} (h1 : 1 ≤ den) (hd : den ≤ 1000) (h2 : 0 ≤ num) (h3 : num ≤ den) (p1 : 0 ≤ p) (p2 : p ≤ 6400000) (x1 : 0 ≤ x) (x2 : x ≤ 6400000) :
    (0 ≤ lvS num den p x ∧ lvS num den p x ≤ 6400000) ∧ (-6400000000 ≤ (x - p) * num ∧ (x - p) * num ≤ 6400000000) ∧ (-6400000 ≤ (x - p) * num / den ∧ (x - p) * num / den ≤ 6400000) := by
  obtain ⟨a, b⟩ := lv_between (p := p) (x := x) h1 h2 h3
  obtain ⟨c, d⟩ := lv_q (d := x - p) h1 h2 h3
  refine ⟨?_, ?_, ?_⟩
  · rcases (by omega : p ≤ x ∨ x ≤ p) with h | h
    · have := a h; omega
    · have := b h; omega
  · have m1 : (x - p) * num ≤ 6400000 * num := Int.mul_le_mul_of_nonneg_right (by omega) h2
    have m2 : (-6400000) * num ≤ (x - p) * num := Int.mul_le_mul_of_nonneg_right (by omega) h2
    omega
  · rcases (by omega : 0 ≤ x - p ∨ x - p ≤ 0) with h | h
    · have := c h; omega
    · have := d h; omega
theorem lvN_bound {num den : Int} {xs : List Int} (h1 : 1 ≤ den) (hd : den ≤ 1000) (h2 : 0 ≤ num) (h3 : num ≤ den) (hx : ∀ k, 0 ≤ xs.getD k 0 ∧ xs.getD k 0 ≤ 100000) : ∀ k, 0 ≤ lvN num den xs k ∧ lvN num den xs k ≤ 6400000
  | 0 => by have := hx 0; show 0 ≤ 64 * xs.getD 0 0 ∧ 64 * xs.getD 0 0 ≤ 6400000; omega
  | k + 1 => by
    have i := lvN_bound h1 hd h2 h3 hx k
    have := hx (k + 1)
    exact (lv_small h1 hd h2 h3 i.1 i.2 (by omega) (by omega)).1
def smB (xs : List Int) (num den : Int) : Bool := alB 0 100000 xs && ptB 0 num den
def smC (xs : List Int) (num den : Int) : Int := if 4096 < xs.length then 2 else if smB xs num den = true then 0 else 1
def smL (xs : List Int) (num den : Int) : List Int := if smC xs num den = 0 then lvL num den xs xs.length else []
theorem sm_ways (xs : List Int) (num den : Int) : (4096 < xs.length ∧ smC xs num den = 2 ∧ smL xs num den = []) ∨ (¬ 4096 < xs.length ∧ smB xs num den = false ∧ smC xs num den = 1 ∧ smL xs num den = []) ∨
    (¬ 4096 < xs.length ∧ smB xs num den = true ∧ smC xs num den = 0 ∧ smL xs num den = lvL num den xs xs.length) := by
  unfold smL smC
  by_cases h : 4096 < xs.length
  · exact .inl ⟨h, by rw [if_pos h], by rw [if_pos h]; rfl⟩
  · cases hb : smB xs num den
    · exact .inr (.inl ⟨h, rfl, by rw [if_neg h]; rfl, by rw [if_neg h]; rfl⟩)
    · exact .inr (.inr ⟨h, rfl, by rw [if_neg h]; rfl, by rw [if_neg h]; rfl⟩)
theorem sm_le (xs : List Int) (num den : Int) : (smL xs num den).length ≤ xs.length := by
  rcases sm_ways xs num den with ⟨_, _, h⟩ | ⟨_, _, _, h⟩ | ⟨_, _, _, h⟩ <;> rw [h]
  · simp
  · simp
  · rw [lvL_length]; exact Nat.le_refl _

theorem row_capG {w : World} {B : Nat} {e : TypeId} {k n c : Nat} {g : Option Addr} {xs : List Value} (h : w.ownsRow B e k (.slice g n c) n xs) : n ≤ c := by
  rcases h.2 with ⟨q, q2⟩ | ⟨g', cap, cur, q, _, _, hc, _⟩
  · omega
  · simp only [Value.slice.injEq] at q
    omega
theorem own2_mono {B B' : Nat} {w : World} {g : Option Addr} {L : List Int} (h : Own2 B w g L) (hb : B' ≤ B) : Own2 B' w g L := by
  rcases h with h | ⟨b, hg, hB, r⟩
  · exact .inl h
  · exact .inr ⟨b, hg, Nat.le_trans hb hB, r⟩
/-- What Smooth answers, of whatever is handed in. -/
def AnsL (w : World) (L : List Int) (c : Int) (e : Ending) (w' : World) : Prop := ∃ g cp, e = .returned (.tuple #[.slice g L.length cp, .int .i64 c]) ∧ Own2 w.heap.size w' g L ∧ Below w.heap.size w w'
/-- .. and there is room for what is answered. -/
def AnsLC (w : World) (L : List Int) (c : Int) (e : Ending) (w' : World) : Prop := ∃ g cp, e = .returned (.tuple #[.slice g L.length cp, .int .i64 c]) ∧ Own2 w.heap.size w' g L ∧ Below w.heap.size w w' ∧ L.length ≤ cp
theorem AnsLC.weak {w : World} {L : List Int} {c : Int} {e : Ending} {w' : World} (h : AnsLC w L c e w') : AnsL w L c e w' := by
  obtain ⟨g, cp, h1, h2, h3, _⟩ := h
  exact ⟨g, cp, h1, h2, h3⟩
theorem AnsLC.nil {w w' : World} {c : Int} (g : Option Addr) (cp : Nat) (hb : Below w.heap.size w w') : AnsLC w [] c (.returned (.tuple #[.slice g 0 cp, .int .i64 c])) w' := ⟨g, cp, rfl, .inl rfl, hb, Nat.zero_le _⟩
theorem AnsL.nil {w w' : World} {c : Int} (g : Option Addr) (cp : Nat) (hb : Below w.heap.size w w') : AnsL w [] c (.returned (.tuple #[.slice g 0 cp, .int .i64 c])) w' := ⟨g, cp, rfl, .inl rfl, hb⟩
end Go.Proofs.Ytbgjekhekjbcpaa

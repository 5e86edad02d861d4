/-
  Which price row counts, as a function of the rows; the specification's l04Ahead.
-/
import Derived.Test.YtgfgecpgfcipnaaPrA
import Derived.Deep.RegionHeld3
namespace Go.Proofs.Ytgfgecpgfcipnaa
open Go.ChangeShapes Go.WideShapes Go.ChangeAt Go.RowKit
set_option linter.unusedVariables false

/-- Does a row hold? -/
def prHolds (art zn : ByteArray) (m : Int) (r : RPr) : Bool := (r.art.toList == art.toList) && ((r.zn.toList == zn.toList) || r.zn.toList.isEmpty) && decide (r.fr ≤ m) && decide (m < r.to)
/-- Does a row count ahead of another one? -/
def prAhead (a b : RPr) : Bool := if a.lv = b.lv then (if (a.zn.toList.isEmpty != b.zn.toList.isEmpty) = true then b.zn.toList.isEmpty else decide (b.fr < a.fr)) else decide (b.lv < a.lv)
/-- The row that counts, of the first k. -/
def atN (rs : List RPr) (art zn : ByteArray) (m : Int) : Nat → Int
  | 0 => -1
  | k + 1 => if (prHolds art zn m (rs.getD k zPr) && (decide (atN rs art zn m k < 0) || prAhead (rs.getD k zPr) (rs.getD (atN rs art zn m k).toNat zPr))) = true then (k : Int) else atN rs art zn m k
def atAll (rs : List RPr) (art zn : ByteArray) (m : Int) : Int := atN rs art zn m rs.length
theorem atN_ways (rs : List RPr) (art zn : ByteArray) (m : Int) : ∀ k, atN rs art zn m k = -1 ∨ ∃ j : Nat, j < k ∧ atN rs art zn m k = (j : Int)
  | 0 => .inl rfl
  | k + 1 => by
    unfold atN
    split
    · exact .inr ⟨k, by omega, rfl⟩
    · rcases atN_ways rs art zn m k with h | ⟨j, hj, h⟩
      · exact .inl h
      · exact .inr ⟨j, by omega, h⟩
theorem atN_no {rs : List RPr} {art zn : ByteArray} {m : Int} {k : Nat} (h : prHolds art zn m (rs.getD k zPr) = false) : atN rs art zn m (k + 1) = atN rs art zn m k := by
  rw [atN, h]; rfl
theorem atN_new {rs : List RPr} {art zn : ByteArray} {m : Int} {k : Nat} (h : prHolds art zn m (rs.getD k zPr) = true) (h' : atN rs art zn m k = -1) : atN rs art zn m (k + 1) = (k : Int) := by
  rw [atN, h, h']; rfl
theorem atN_old {rs : List RPr} {art zn : ByteArray} {m : Int} {k j : Nat} (h : prHolds art zn m (rs.getD k zPr) = true) (h' : atN rs art zn m k = (j : Int)) : atN rs art zn m (k + 1) = if prAhead (rs.getD k zPr) (rs.getD j zPr) = true then (k : Int) else (j : Int) := by
  rw [atN, h, h', decide_eq_false (by omega), Int.toNat_natCast]; simp

/-- The ways through the test whether a row holds. -/
theorem holds_ways (art zn a z : ByteArray) (l f t q m : Int) : ((a.toList == art.toList) = false ∧ prHolds art zn m ⟨a, z, l, f, t, q⟩ = false) ∨ ((a.toList == art.toList) = true ∧ (z.toList == zn.toList) = false ∧ z.toList.isEmpty = false ∧ prHolds art zn m ⟨a, z, l, f, t, q⟩ = false) ∨
    ((a.toList == art.toList) = true ∧ (((z.toList == zn.toList) = false ∧ z.toList.isEmpty = true) ∨ ((z.toList == zn.toList) = true ∧ z.toList.isEmpty = true) ∨ ((z.toList == zn.toList) = true ∧ z.toList.isEmpty = false)) ∧
      ((m < f ∧ prHolds art zn m ⟨a, z, l, f, t, q⟩ = false) ∨ (f ≤ m ∧ t ≤ m ∧ prHolds art zn m ⟨a, z, l, f, t, q⟩ = false) ∨ (f ≤ m ∧ m < t ∧ prHolds art zn m ⟨a, z, l, f, t, q⟩ = true))) := by
  have e : prHolds art zn m ⟨a, z, l, f, t, q⟩ = ((a.toList == art.toList) && ((z.toList == zn.toList) || z.toList.isEmpty) && decide (f ≤ m) && decide (m < t)) := rfl
  rw [e]
  generalize (a.toList == art.toList) = x
  generalize (z.toList == zn.toList) = y
  generalize z.toList.isEmpty = u
  have hm : m < f ∨ (f ≤ m ∧ t ≤ m) ∨ (f ≤ m ∧ m < t) := by omega
  cases x
  · exact .inl ⟨rfl, rfl⟩
  · cases y <;> cases u
    · exact .inr (.inl ⟨rfl, rfl, rfl, rfl⟩)
    all_goals
      refine .inr (.inr ⟨rfl, by simp, ?_⟩)
      rcases hm with h | ⟨h, h'⟩ | ⟨h, h'⟩
      · exact .inl ⟨h, by rw [decide_eq_false (show ¬ f ≤ m by omega)]; rfl⟩
      · exact .inr (.inl ⟨h, h', by rw [decide_eq_true h, decide_eq_false (show ¬ m < t by omega)]; rfl⟩)
      · exact .inr (.inr ⟨h, h', by rw [decide_eq_true h, decide_eq_true h']; rfl⟩)

set_option maxHeartbeats 1000000 in
theorem specAhead_any (a0 a1 : ByteArray) (a2 a3 a4 a5 : Int) (b0 b1 : ByteArray) (b2 b3 b4 b5 : Int) (w : World) :
    Calls Try.prog 34 #[.agg #[.string a0, .string a1, .int .i64 a2, .int .i64 a3, .int .i64 a4, .int .i64 a5], .agg #[.string b0, .string b1, .int .i64 b2, .int .i64 b3, .int .i64 b4, .int .i64 b5]] w fun e w' => e = .returned (.bool (prAhead ⟨a0, a1, a2, a3, a4, a5⟩ ⟨b0, b1, b2, b3, b4, b5⟩)) ∧ Below w.heap.size w w' := by
  have l1 : ∀ n : Nat, n < n + 1 + 1 := fun n => by omega
  have l2 : ∀ n : Nat, n < n + 2 := fun n => by omega
  have e : prAhead ⟨a0, a1, a2, a3, a4, a5⟩ ⟨b0, b1, b2, b3, b4, b5⟩ = (if a2 = b2 then (if (a1.toList.isEmpty != b1.toList.isEmpty) = true then b1.toList.isEmpty else decide (b3 < a3)) else decide (b2 < a2)) := rfl
  rw [e]
  by_cases h : a2 = b2
  · subst h
    rw [if_pos rfl]
    cases h1 : a1.toList.isEmpty <;> cases h2 : b1.toList.isEmpty
    all_goals
      go_enter Try.func34, Try.ntmps34
      go_wp2
      go_ret
      exact ⟨rfl, chain (below_alloc _ _) (below_alloc _ _)⟩
  · have h' : (a2 == b2) = false := by simp [h]
    have h'' : (a2 != b2) = true := by simp [h]
    rw [if_neg h]
    go_enter Try.func34, Try.ntmps34
    go_wp2
    go_ret
    exact ⟨rfl, chain (below_alloc _ _) (below_alloc _ _)⟩

end Go.Proofs.Ytgfgecpgfcipnaa

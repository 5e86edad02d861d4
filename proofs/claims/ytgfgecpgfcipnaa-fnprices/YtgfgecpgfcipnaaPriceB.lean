/-
  Which price rows are right, as a function of them; the program's PricesOK, for every list of rows.
-/
import Derived.Test.YtgfgecpgfcipnaaNameAny
import Derived.Test.YtgfgecpgfcipnaaRate
import Derived.Test.YtgfgecpgfcipnaaPrA
namespace Go.Proofs.Ytgfgecpgfcipnaa
open Go.ChangeShapes Go.WideShapes Go.ChangeAt Go.RowKit
set_option linter.unusedVariables false

/-- Is one row right? -/
def prOne (r : RPr) : Bool := nameB r.art && (r.zn.toList.isEmpty || nameB r.zn) && inB r.lv 1 5 && decide (0 ≤ r.fr ∧ r.fr < r.to ∧ r.to ≤ 10000000) && inB r.am 0 1000000000
/-- Are the rows right? -/
def prAll (rs : List RPr) : Bool := if 80 < rs.length then false else rs.all prOne

/-- The ways through the test of one row. -/
theorem prOne_ways (a z : ByteArray) (l f t m : Int) : (nameB a = false ∧ prOne ⟨a, z, l, f, t, m⟩ = false) ∨ (nameB a = true ∧ z.toList.isEmpty = false ∧ nameB z = false ∧ prOne ⟨a, z, l, f, t, m⟩ = false) ∨
    (nameB a = true ∧ (z.toList.isEmpty = true ∨ (z.toList.isEmpty = false ∧ nameB z = true)) ∧
      ((l < 1 ∧ inB l 1 5 = false ∧ prOne ⟨a, z, l, f, t, m⟩ = false) ∨ (1 ≤ l ∧ 5 < l ∧ inB l 1 5 = false ∧ prOne ⟨a, z, l, f, t, m⟩ = false) ∨ (1 ≤ l ∧ l ≤ 5 ∧ inB l 1 5 = true ∧
        ((f < 0 ∧ prOne ⟨a, z, l, f, t, m⟩ = false) ∨ (0 ≤ f ∧ t ≤ f ∧ prOne ⟨a, z, l, f, t, m⟩ = false) ∨ (0 ≤ f ∧ f < t ∧ 10000000 < t ∧ prOne ⟨a, z, l, f, t, m⟩ = false) ∨ (0 ≤ f ∧ f < t ∧ t ≤ 10000000 ∧
          ((m < 0 ∧ inB m 0 1000000000 = false ∧ prOne ⟨a, z, l, f, t, m⟩ = false) ∨ (0 ≤ m ∧ 1000000000 < m ∧ inB m 0 1000000000 = false ∧ prOne ⟨a, z, l, f, t, m⟩ = false) ∨ (0 ≤ m ∧ m ≤ 1000000000 ∧ inB m 0 1000000000 = true ∧ prOne ⟨a, z, l, f, t, m⟩ = true))))))) := by
  have e : prOne ⟨a, z, l, f, t, m⟩ = (nameB a && (z.toList.isEmpty || nameB z) && inB l 1 5 && decide (0 ≤ f ∧ f < t ∧ t ≤ 10000000) && inB m 0 1000000000) := rfl
  rw [e]
  cases h1 : nameB a
  · exact .inl ⟨rfl, by simp⟩
  · by_cases h2 : z.toList.isEmpty = false ∧ nameB z = false
    · exact .inr (.inl ⟨rfl, h2.1, h2.2, by rw [h2.1, h2.2]; simp⟩)
    · have hz : z.toList.isEmpty = true ∨ (z.toList.isEmpty = false ∧ nameB z = true) := by
        cases q : z.toList.isEmpty
        · cases q' : nameB z
          · exact absurd ⟨q, q'⟩ h2
          · exact .inr ⟨rfl, rfl⟩
        · exact .inl rfl
      refine .inr (.inr ⟨rfl, hz, ?_⟩)
      have hzz : (z.toList.isEmpty || nameB z) = true := by rcases hz with h | ⟨_, h⟩ <;> simp [h]
      rw [hzz]
      have i1 : ∀ x lo hi : Int, ¬ (lo ≤ x ∧ x ≤ hi) → inB x lo hi = false := fun x lo hi h => decide_eq_false h
      have i2 : ∀ x lo hi : Int, lo ≤ x → x ≤ hi → inB x lo hi = true := fun x lo hi h h' => decide_eq_true ⟨h, h'⟩
      rcases (by omega : l < 1 ∨ (1 ≤ l ∧ 5 < l) ∨ (1 ≤ l ∧ l ≤ 5)) with h | ⟨h, h'⟩ | ⟨h, h'⟩
      · have := i1 l 1 5 (by omega); exact .inl ⟨h, this, by rw [this]; simp⟩
      · have := i1 l 1 5 (by omega); exact .inr (.inl ⟨h, h', this, by rw [this]; simp⟩)
      · have hl := i2 l 1 5 h h'
        refine .inr (.inr ⟨h, h', hl, ?_⟩)
        rw [hl]
        rcases (by omega : f < 0 ∨ (0 ≤ f ∧ t ≤ f) ∨ (0 ≤ f ∧ f < t ∧ 10000000 < t) ∨ (0 ≤ f ∧ f < t ∧ t ≤ 10000000)) with g | ⟨g, g'⟩ | ⟨g, g', g''⟩ | ⟨g, g', g''⟩
        · exact .inl ⟨g, by rw [decide_eq_false (by omega)]; simp⟩
        · exact .inr (.inl ⟨g, g', by rw [decide_eq_false (by omega)]; simp⟩)
        · exact .inr (.inr (.inl ⟨g, g', g'', by rw [decide_eq_false (by omega)]; simp⟩))
        · refine .inr (.inr (.inr ⟨g, g', g'', ?_⟩))
          rw [decide_eq_true (show 0 ≤ f ∧ f < t ∧ t ≤ 10000000 from ⟨g, g', g''⟩)]
          rcases (by omega : m < 0 ∨ (0 ≤ m ∧ 1000000000 < m) ∨ (0 ≤ m ∧ m ≤ 1000000000)) with k | ⟨k, k'⟩ | ⟨k, k'⟩
          · have := i1 m 0 1000000000 (by omega); exact .inl ⟨k, this, by rw [this]; simp⟩
          · have := i1 m 0 1000000000 (by omega); exact .inr (.inl ⟨k, k', this, by rw [this]; simp⟩)
          · have := i2 m 0 1000000000 k k'; exact .inr (.inr ⟨k, k', this, by rw [this]; simp⟩)

set_option maxHeartbeats 4000000 in
set_option maxRecDepth 4000 in
theorem prRowOK_any (a z : ByteArray) (l f t m : Int) (ha : a.size ≤ 2000000) (hz : z.size ≤ 2000000) (w : World) :
    Calls Try.prog 18 #[.agg #[.string a, .string z, .int .i64 l, .int .i64 f, .int .i64 t, .int .i64 m]] w fun e w' => e = .returned (.bool (prOne ⟨a, z, l, f, t, m⟩)) ∧ Below w.heap.size w w' := by
  have HN : Hid (∀ b, nameB a = b → ∀ w, Calls Try.prog 31 #[.string a] w fun e w' => e = .returned (.bool b) ∧ Below w.heap.size w w') := fun b h w => h ▸ implName_any a (by unfold maxLen; omega) w
  have HZ : Hid (∀ b, nameB z = b → ∀ w, Calls Try.prog 31 #[.string z] w fun e w' => e = .returned (.bool b) ∧ Below w.heap.size w w') := fun b h w => h ▸ implName_any z (by unfold maxLen; omega) w
  rcases prOne_ways a z l f t m with ⟨h1, hE⟩ | ⟨h1, h2, h3, hE⟩ | ⟨h1, (h2 | ⟨h2, h3⟩), (⟨h4, _, hE⟩ | ⟨h4, h5, _, hE⟩ | ⟨h4, h5, _, (⟨h6, hE⟩ | ⟨h6, h7, hE⟩ | ⟨h6, h7, h8, hE⟩ | ⟨h6, h7, h8, (⟨h9, _, hE⟩ | ⟨h9, h10, _, hE⟩ | ⟨h9, h10, _, hE⟩)⟩)⟩)⟩
  all_goals
    rw [hE]
    clear hE
    have H1 : Hid _ := HN.out _ h1
    clear h1
    try (have H3 : Hid _ := HZ.out _ h3; clear h3)
    have HB0 : Hid (Below w.heap.size w (w.alloc (Obj.cells #[.string a, .string z, .int .i64 l, .int .i64 f, .int .i64 t, .int .i64 m] 36))) := below_alloc _ _
    have HP0 : Hid (PrAt (w.alloc (Obj.cells #[.string a, .string z, .int .i64 l, .int .i64 f, .int .i64 t, .int .i64 m] 36)) w.heap.size 0 ⟨a, z, l, f, t, m⟩) := prNew w a z l f t m
    go_enter Try.func18, Try.ntmps18
    go_wp2_with fail
    (first | go_at_call 31 | skip)
    refine (H1.out _).mono ?_
    rintro e w1 ⟨rfl, hb1⟩
    have HB1 : Hid (Below w.heap.size w w1) := chain HB0.out hb1
    have hl1 : w.heap.size < w1.heap.size := Nat.lt_of_lt_of_le (by simp) hb1.size
    have HP1 : Hid (PrAt w1 w.heap.size 0 ⟨a, z, l, f, t, m⟩) := HP0.out.below hb1 (by simp)
    obtain ⟨c0, c1, c2, c3, c4, c5⟩ := HP1.out
    dsimp only at c0 c1 c2 c3 c4 c5
    clear hb1 HB0 HP0 H1
    generalize w.heap.size = b at c0 c1 c2 c3 c4 c5 hl1 HP1 ⊢
    go_wp2_with (first
      | (go_at_call 31; refine (H3.out _).mono ?_; rintro e w2 ⟨rfl, hb2⟩; have HB2 : Hid (Below w.heap.size w w2) := chain HB1.out hb2; have HP2 : Hid (PrAt w2 b 0 ⟨a, z, l, f, t, m⟩) := HP1.out.below hb2 hl1; clear c0 c1 c2 c3 c4 c5; obtain ⟨c0, c1, c2, c3, c4, c5⟩ := HP2.out; dsimp only at c0 c1 c2 c3 c4 c5; clear hb2))
    go_ret
    first
    | exact ⟨ret_bool (by first | rfl | exact decide_eq_false (by omega) | exact decide_eq_true (by omega)), HB2.out⟩
    | exact ⟨ret_bool (by first | rfl | exact decide_eq_false (by omega) | exact decide_eq_true (by omega)), HB1.out⟩
end Go.Proofs.Ytgfgecpgfcipnaa

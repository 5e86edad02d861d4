/-
  How far it is between two spots of a hall: contracts of Between, the program's and the specification's, for all arguments.
-/
import Derived.Test.YthmhpgbkapjjkaaQsA
import Derived.Test.YthmhpgbkapjjkaaPtA
import Derived.Test.YthmhpgbkapjjkaaCellNo
namespace Go.Proofs.Ythmhpgbkapjjkaa
open Go.ChangeShapes Go.WideShapes Go.ChangeAt Go.RowKit Go.Joins Go.Deep
set_option linter.unusedVariables false

/-- A right hall: aisles, places, gap. -/
def hlB (a p g : Int) : Bool := inB a 1 20 && (inB p 1 100 && inB g 1 100)
/-- A spot of it. -/
def spB (a p : Int) (r : RPt) : Bool := inB r.ai 0 (a - 1) && inB r.pl 0 (p + 1)
def apN (a b : Int) : Int := max (a - b) (b - a)
/-- How far it is. -/
def farN (p g : Int) (r s : RPt) : Int := if r.ai = s.ai then apN r.pl s.pl else g * apN r.ai s.ai + min (r.pl + s.pl) (2 * (p + 1) - (r.pl + s.pl))
theorem hl_facts {a p g : Int} (h : hlB a p g = true) : (1 ≤ a ∧ a ≤ 20) ∧ (1 ≤ p ∧ p ≤ 100) ∧ 1 ≤ g ∧ g ≤ 100 := by
  unfold hlB inB at h
  simp only [Bool.and_eq_true, decide_eq_true_eq] at h
  exact h
theorem sp_facts {a p : Int} {r : RPt} (h : spB a p r = true) : (0 ≤ r.ai ∧ r.ai ≤ a - 1) ∧ 0 ≤ r.pl ∧ r.pl ≤ p + 1 := by
  unfold spB inB at h
  simp only [Bool.and_eq_true, decide_eq_true_eq] at h
  exact h
theorem mul_bd {g x : Int} (h : 1 ≤ g ∧ g ≤ 100) (hx : 0 ≤ x ∧ x ≤ 20) : 0 ≤ g * x ∧ g * x ≤ 2000 := by
  have h1 : 0 ≤ g * x := Int.mul_nonneg (by omega) hx.1
  have h2 : g * x ≤ 100 * 20 := Int.mul_le_mul h.2 hx.2 hx.1 (by omega)
  omega
theorem apN_bd (a b : Int) : 0 ≤ apN a b ∧ (∀ l h, l ≤ a → a ≤ h → l ≤ b → b ≤ h → apN a b ≤ h - l) := by
  unfold apN
  refine ⟨by omega, fun l h _ _ _ _ => by omega⟩
theorem farN_bd {a p g : Int} {r s : RPt} (hh : hlB a p g = true) (hr : spB a p r = true) (hs : spB a p s = true) : 0 ≤ farN p g r s ∧ farN p g r s ≤ 2300 := by
  obtain ⟨h1, h2, h3⟩ := hl_facts hh
  obtain ⟨r1, r2⟩ := sp_facts hr
  obtain ⟨s1, s2⟩ := sp_facts hs
  have e1 := apN_bd r.pl s.pl
  have e2 := apN_bd r.ai s.ai
  have e3 := e2.2 0 19 (by omega) (by omega) (by omega) (by omega)
  have e4 := e1.2 0 101 (by omega) (by omega) (by omega) (by omega)
  have e5 := mul_bd h3 ⟨e2.1, (by omega : apN r.ai s.ai ≤ 20)⟩
  unfold farN
  split <;> omega
theorem impBack_any (a p g : Int) (hp : p ≤ 1000 ∧ -1000 ≤ p) (w : World) :
    Calls Try.prog 60 #[.agg #[.int .i64 a, .int .i64 p, .int .i64 g]] w fun e w' => e = .returned (.int .i64 (p + 1)) ∧ Below w.heap.size w w' := by
  have hw : IntKind.i64.wrap (p + 1) = p + 1 := wrap_id _ (by omega) (by omega)
  go_enter Try.func60, Try.ntmps60
  go_wp2
  go_ret
  exact ⟨by first | rfl | (rw [hw]) | (simp [hw]), below_alloc _ _⟩
theorem impApart_any (a b : Int) (ha : -1000000 ≤ a ∧ a ≤ 1000000) (hb : -1000000 ≤ b ∧ b ≤ 1000000) (w : World) :
    Calls Try.prog 59 #[.int .i64 a, .int .i64 b] w fun e w' => e = .returned (.int .i64 (apN a b)) ∧ Below w.heap.size w w' := by
  have h1 : IntKind.i64.wrap (a - b) = a - b := wrap_id _ (by omega) (by omega)
  have h2 : IntKind.i64.wrap (b - a) = b - a := wrap_id _ (by omega) (by omega)
  have h3 : (if a - b < b - a then b - a else a - b) = apN a b := by unfold apN; split <;> omega
  generalize apN a b = m at *
  go_enter Try.func59, Try.ntmps59
  go_wp2
  go_ret
  exact ⟨by first | rfl | simp, Below.refl _ _⟩
theorem impRight_any (a p g : Int) (w : World) :
    Calls Try.prog 63 #[.agg #[.int .i64 a, .int .i64 p, .int .i64 g]] w fun e w' => e = .returned (.bool (hlB a p g)) ∧ Below w.heap.size w w' := by
  have H1 : Hid (∀ W, Calls Try.prog 77 #[.agg #[.int .i64 1, .int .i64 20], .int .i64 a] W fun e w' => e = .returned (.bool (inB a 1 20)) ∧ Below W.heap.size W w') := fun W => qSpan_any 1 20 a W
  have H2 : Hid (∀ W, Calls Try.prog 77 #[.agg #[.int .i64 1, .int .i64 100], .int .i64 p] W fun e w' => e = .returned (.bool (inB p 1 100)) ∧ Below W.heap.size W w') := fun W => qSpan_any 1 100 p W
  have H3 : Hid (∀ W, Calls Try.prog 77 #[.agg #[.int .i64 1, .int .i64 100], .int .i64 g] W fun e w' => e = .returned (.bool (inB g 1 100)) ∧ Below W.heap.size W w') := fun W => qSpan_any 1 100 g W
  unfold hlB
  generalize inB a 1 20 = b1 at *
  generalize inB p 1 100 = b2 at *
  generalize inB g 1 100 = b3 at *
  cases b1
  · go_enter Try.func63, Try.ntmps63
    go_wp2_with fail
    (first | go_at_call 77 | skip)
    refine (H1.out _).mono ?_
    rintro e w2 ⟨rfl, hb2⟩
    have hb3 : Below w.heap.size w w2 := chain (chain (chain (below_alloc _ _) (below_alloc _ _)) (below_alloc _ _)) hb2
    go_wp2
    go_ret
    exact ⟨rfl, hb3⟩
  obtain ⟨W1, hW1⟩ : ∃ W1, W1 = ((w.alloc (Obj.cells #[.int .i64 a, .int .i64 p, .int .i64 g] 24)).alloc (Obj.cells #[.int .i64 1, .int .i64 20] 119)).alloc (Obj.cells #[.int .i64 1, .int .i64 100] 119) := ⟨_, rfl⟩
  have HW : Hid (∀ W, Below W1.heap.size W1 W → W.cell? ⟨w.heap.size, 1, none⟩ = some (.int .i64 p) ∧ W.cell? ⟨w.heap.size, 2, none⟩ = some (.int .i64 g) ∧ W.cell? ⟨w.heap.size + 1 + 1, 0, none⟩ = some (.int .i64 1) ∧ W.cell? ⟨w.heap.size + 1 + 1, 1, none⟩ = some (.int .i64 100) ∧ Below w.heap.size w W) := fun W hb => by
    rw [hW1] at hb
    refine ⟨(hb.cell (p := ⟨w.heap.size, 1, none⟩) (by simp only [World.size_alloc]; omega)).trans ((cellOld _ _ (by simp only [World.size_alloc]; omega)).trans ((cellOld _ _ (by simp only [World.size_alloc]; omega)).trans (cellNew _ _ _ _ rfl rfl))), (hb.cell (p := ⟨w.heap.size, 2, none⟩) (by simp only [World.size_alloc]; omega)).trans ((cellOld _ _ (by simp only [World.size_alloc]; omega)).trans ((cellOld _ _ (by simp only [World.size_alloc]; omega)).trans (cellNew _ _ _ _ rfl rfl))), (hb.cell (p := ⟨w.heap.size + 1 + 1, 0, none⟩) (by simp only [World.size_alloc]; omega)).trans (cellNew _ _ _ _ (by simp only [World.size_alloc]) rfl), (hb.cell (p := ⟨w.heap.size + 1 + 1, 1, none⟩) (by simp only [World.size_alloc]; omega)).trans (cellNew _ _ _ _ (by simp only [World.size_alloc]) rfl), chain (chain (chain (below_alloc _ _) (below_alloc _ _)) (below_alloc _ _)) hb⟩
  have HE : Hid (W1 = ((w.alloc (Obj.cells #[.int .i64 a, .int .i64 p, .int .i64 g] 24)).alloc (Obj.cells #[.int .i64 1, .int .i64 20] 119)).alloc (Obj.cells #[.int .i64 1, .int .i64 100] 119)) := hW1
  clear hW1
  go_enter Try.func63, Try.ntmps63
  go_wp2_with fail
  (first | go_at_call 77 | skip)
  rw [← HE.out]
  refine (H1.out _).mono ?_
  rintro e w2 ⟨rfl, hb2⟩
  obtain ⟨x1, x2, x3, x4, x5⟩ := HW.out w2 hb2
  go_wp2_with fail
  (first | go_at_call 77 | skip)
  refine (H2.out _).mono ?_
  rintro e w3 ⟨rfl, hb3⟩
  clear x1 x2 x3 x4 x5
  obtain ⟨x1, x2, x3, x4, x5⟩ := HW.out w3 (chain hb2 hb3)
  cases b2
  · go_wp2
    go_ret
    exact ⟨rfl, x5⟩
  go_wp2_with fail
  (first | go_at_call 77 | skip)
  refine (H3.out _).mono ?_
  rintro e w4 ⟨rfl, hb4⟩
  have x6 : Below w.heap.size w w4 := (HW.out w4 (chain (chain hb2 hb3) hb4)).2.2.2.2
  cases b3
  all_goals
    go_wp2
    go_ret
    exact ⟨rfl, x6⟩
end Go.Proofs.Ythmhpgbkapjjkaa

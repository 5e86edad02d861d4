/-
  Contracts of Split (the specification's and the program's): for every gross amount and rate both answer the same three numbers and the same code.
-/
import Derived.Test.YtoaimjocphfcaaaTold
namespace Go.Proofs.Ytoaimjocphfcaaa
open Go.ChangeShapes Go.WideShapes Go.ChangeAt Go.RowKit
set_option linter.unusedVariables false

/-- The tax that is in a gross amount. -/
def spT (g n d : Int) : Int := rq (g * n / (d + n)) (g * n % (d + n)) (d + n) 3
def spOK (g n d : Int) : Bool := amtB g && rateB n d
def spV (g n d : Int) : Value := if spOK g n d = true then .agg #[.int .i64 g, .int .i64 (g - spT g n d), .int .i64 (spT g n d)] else .agg #[.int .i64 0, .int .i64 0, .int .i64 0]
def spC (g n d : Int) : Int := if spOK g n d = true then 0 else 1

theorem spT_bound (g n d : Int) (hA : amtB g = true) (hR : rateB n d = true) : -1000000000000000001 ≤ spT g n d ∧ spT g n d ≤ 1000000000000000001 := by
  obtain ⟨a1, a2⟩ := (amtB_iff g).mp hA
  obtain ⟨⟨n1, n2⟩, d1, d2⟩ := (rateB_iff n d).mp hR
  obtain ⟨b1, b2⟩ := mul_bound g n 1000000000 10000 a1 a2 n1 n2 (by omega)
  obtain ⟨e1, e2⟩ := ediv_bound (g * n) (d + n) (by omega) 1000000000000000000 (by omega) (by omega)
  unfold spT rq
  split <;> omega

/-- The cells of an answer that lies in memory, behind calls that turned nothing of it. -/
theorem taxedCells {w w' : World} {n d : Int} (hb : Below ((w.alloc (Obj.cells #[.int .i64 n, .int .i64 d] 36)).alloc (Obj.cells #[.int .i64 0, .int .i64 0, .int .i64 0] 78)).heap.size ((w.alloc (Obj.cells #[.int .i64 n, .int .i64 d] 36)).alloc (Obj.cells #[.int .i64 0, .int .i64 0, .int .i64 0] 78)) w') :
    (w'.cell? ⟨w.heap.size + 1, 0, none⟩ = some (.int .i64 0) ∧ w'.cell? ⟨w.heap.size + 1, 1, none⟩ = some (.int .i64 0) ∧ w'.cell? ⟨w.heap.size + 1, 2, none⟩ = some (.int .i64 0)) ∧ (w'.frozen? ⟨w.heap.size + 1, 0, none⟩ = false ∧ w'.frozen? ⟨w.heap.size + 1, 1, none⟩ = false ∧ w'.frozen? ⟨w.heap.size + 1, 2, none⟩ = false) ∧ ∀ a b c : Int, Below w.heap.size w (((w'.setCell ⟨w.heap.size + 1, 0, none⟩ (.int .i64 a)).setCell ⟨w.heap.size + 1, 1, none⟩ (.int .i64 b)).setCell ⟨w.heap.size + 1, 2, none⟩ (.int .i64 c)) := by
  have hlt : w.heap.size + 1 < ((w.alloc (Obj.cells #[.int .i64 n, .int .i64 d] 36)).alloc (Obj.cells #[.int .i64 0, .int .i64 0, .int .i64 0] 78)).heap.size := by simp
  refine ⟨⟨(hb.cell (p := ⟨w.heap.size + 1, 0, none⟩) hlt).trans (by simp), (hb.cell (p := ⟨w.heap.size + 1, 1, none⟩) hlt).trans (by simp), (hb.cell (p := ⟨w.heap.size + 1, 2, none⟩) hlt).trans (by simp)⟩, ⟨(hb.frozen (p := ⟨w.heap.size + 1, 0, none⟩) hlt).trans (by simp), (hb.frozen (p := ⟨w.heap.size + 1, 1, none⟩) hlt).trans (by simp), (hb.frozen (p := ⟨w.heap.size + 1, 2, none⟩) hlt).trans (by simp)⟩, fun a b c => ?_⟩
  exact (((chain (chain (below_alloc _ _) (below_alloc _ _)) hb).setCell (by simp) _).setCell (by simp) _).setCell (by simp) _




theorem implSplit_ok (g n d : Int) (w : World) (hA : amtB g = true) (hR : rateB n d = true) :
    Calls Try.prog 36 #[.int .i64 g, .agg #[.int .i64 n, .int .i64 d]] w fun e w' => e = .returned (.tuple #[.agg #[.int .i64 g, .int .i64 (g - spT g n d), .int .i64 (spT g n d)], .int .i64 0]) ∧ Below w.heap.size w w' := by
  obtain ⟨a1, a2⟩ := (amtB_iff g).mp hA
  obtain ⟨⟨n1, n2⟩, d1, d2⟩ := (rateB_iff n d).mp hR
  obtain ⟨b1, b2⟩ := mul_bound g n 1000000000 10000 a1 a2 n1 n2 (by omega)
  obtain ⟨t1, t2⟩ := spT_bound g n d hA hR
  have hdv := fun w => divide_any (g * n) (d + n) w (by omega) (by omega) (by omega) (by omega)
  have hem := Int.emod_nonneg (g * n) (b := d + n) (by omega)
  have hem' := Int.emod_lt_of_pos (g * n) (b := d + n) (by omega)
  obtain ⟨e1, e2⟩ := ediv_bound (g * n) (d + n) (by omega) 1000000000000000000 (by omega) (by omega)
  have hrn : ∀ w, Calls Try.prog 49 #[.agg #[.int .i64 (g * n / (d + n)), .int .i64 (g * n % (d + n)), .int .i64 (d + n)], .agg #[.func (.func 68) #[] #[]]] w fun e w' => e = .returned (.int .i64 (spT g n d)) ∧ Below w.heap.size w w' := fun w =>
    rounded_fn3 _ _ _ _ w e1 e2 (fun w => mode3_any _ _ _ w hem hem' (by omega))
  have hix : ∀ w, (Instr.index 98 (.agg #[.nilFunc, .func (.func 66) #[] #[], .func (.func 67) #[] #[], .func (.func 68) #[] #[], .func (.func 70) #[] #[]]) (.int .i64 3)).run Try.prog w = .ok (.agg #[.func (.func 68) #[] #[]]) w := fun _ => by kernel_rfl
  clear hem hem' e1 e2
  generalize spT g n d = t at *
  generalize g * n / (d + n) = q at *
  generalize g * n % (d + n) = r at *
  have l1 : ∀ n : Nat, n < n + 1 + 1 := fun n => by omega
  have l2 : ∀ n : Nat, n < n + 2 := fun n => by omega
  have l3 : ∀ n : Nat, n + 1 < n + 1 + 1 := fun n => by omega
  have l4 : ∀ n : Nat, n + 1 < n + 2 := fun n => by omega
  go_enter Try.func36, Try.ntmps36
  go_wp2_with (first | (go_at_call 31; refine (implMoney_any _ _).mono ?_; rintro e w' ⟨rfl, rfl⟩) | (go_at_call 42; refine (implRate_any _ _ _).mono ?_; rintro e w1 ⟨rfl, hb1⟩; obtain ⟨hc1, hf1, hz1⟩ := bfacts hb1) | (go_at_call 48; refine (hdv _).mono ?_; rintro e w2 ⟨rfl, hb2⟩; obtain ⟨hc2, hf2, hz2⟩ := bfacts hb2) | (go_at_call 50; refine (roundings_any _).mono ?_; rintro e w3 ⟨rfl, hb3⟩; obtain ⟨hc3, hf3, hz3⟩ := bfacts hb3) | (go_at_call 49; refine (hrn _).mono ?_; rintro e w4 ⟨rfl, hb4⟩; clear hc1 hf1 hz1 hc2 hf2 hz2 hc3 hf3 hz3; obtain ⟨⟨k0, k1, k2⟩, ⟨f0, f1, f2⟩, hq⟩ := taxedCells (w := w) (n := n) (d := d) (chain (chain (chain hb1 hb2) hb3) hb4); have HQ : Hid _ := hq; clear hq))
  refine bodyPost_ret (v := .tuple #[.agg #[.int .i64 (g), .int .i64 (g - t), .int .i64 (t)], .int .i64 0]) (by simp [results, Try.results36, go_sem, k0, k1, k2]) rfl ⟨rfl, HQ.out _ _ _⟩

theorem implSplit_any (g n d : Int) (w : World) :
    Calls Try.prog 36 #[.int .i64 g, .agg #[.int .i64 n, .int .i64 d]] w fun e w' => e = .returned (.tuple #[spV g n d, .int .i64 (spC g n d)]) ∧ Below w.heap.size w w' := by
  unfold spV spC spOK
  cases hA : amtB g
  · go_enter Try.func36, Try.ntmps36
    go_wp2_with (first | (go_at_call 31; refine (implMoney_any _ _).mono ?_; rintro e w' ⟨rfl, rfl⟩))
    refine bodyPost_ret (v := .tuple #[.agg #[.int .i64 0, .int .i64 0, .int .i64 0], .int .i64 1]) (by simp [results, Try.results36, go_sem]) rfl ⟨rfl, chain (below_alloc _ _) (below_alloc _ _)⟩
  · cases hR : rateB n d
    · go_enter Try.func36, Try.ntmps36
      go_wp2_with (first | (go_at_call 31; refine (implMoney_any _ _).mono ?_; rintro e w' ⟨rfl, rfl⟩) | (go_at_call 42; refine (implRate_any _ _ _).mono ?_; rintro e w1 ⟨rfl, hb1⟩; obtain ⟨⟨k0, k1, k2⟩, ⟨f0, f1, f2⟩, hq⟩ := taxedCells (w := w) (n := n) (d := d) (hb1); have HQ : Hid _ := hq; clear hq))
      refine bodyPost_ret (v := .tuple #[.agg #[.int .i64 (0), .int .i64 (0), .int .i64 (0)], .int .i64 1]) (by simp [results, Try.results36, go_sem, k0, k1, k2]) rfl ⟨rfl, HQ.out _ _ _⟩
    · exact implSplit_ok g n d w hA hR

end Go.Proofs.Ytoaimjocphfcaaa

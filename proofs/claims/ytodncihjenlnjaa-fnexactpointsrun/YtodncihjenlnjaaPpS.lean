/-
  The specification's l01In and l07Left.
-/
import Derived.Test.YtodncihjenlnjaaPpG
namespace Go.Proofs.Ytodncihjenlnjaa
open Go.ChangeShapes Go.WideShapes Go.ChangeAt Go.RowKit Go.Deep
set_option linter.unusedVariables false

theorem ret_boolS {a b : Bool} (h : a = b) : Ending.returned (.bool a) = .returned (.bool b) := by rw [h]
theorem inS_any (n a b : Int) (w : World) :
    Calls Try.prog 26 #[.int .i64 n, .int .i64 a, .int .i64 b] w fun e w' => e = .returned (.bool (decide (a ≤ n ∧ n ≤ b))) ∧ w' = w := by
  rcases (by omega : n < a ∨ (a ≤ n ∧ b < n) ∨ (a ≤ n ∧ n ≤ b)) with h1 | ⟨h1, h2⟩ | ⟨h1, h2⟩
  all_goals
    go_enter Try.func26, Try.ntmps26
    go_wp2
    go_ret
    refine ⟨ret_boolS ?_, rfl⟩
    rw [Bool.eq_iff_iff]
    simp <;> omega
set_option maxHeartbeats 2000000 in
theorem leftS_any (day sp ex : Int) (a : Option Addr) (cap : Nat) (L : List RLo) (hl : L.length ≤ 100000000) (hN : ∀ r ∈ L, LoN r) (w : World) (hr : ReadsLo w.heap.size w a L) :
    Calls Try.prog 17 #[.agg #[.int .i64 day, .int .i64 sp, .int .i64 ex, .slice a L.length cap]] w fun e w' => e = .returned (.int .i64 (sumP L)) ∧ Below w.heap.size w w' := by
  obtain ⟨W1, hW1⟩ : ∃ W1, W1 = w.alloc (Obj.cells #[.int .i64 day, .int .i64 sp, .int .i64 ex, .slice a L.length cap] 27) := ⟨_, rfl⟩
  have HW : Hid (Below w.heap.size w W1) := by rw [hW1]; exact below_alloc _ _
  have HR : Hid (ReadsLo w.heap.size W1 a L) := hr.below HW.out
  have a3 : W1.cell? ⟨w.heap.size, 3, none⟩ = some (.slice a L.length cap) := by rw [hW1]; exact blkCell (heapNew _ _) 3 _ rfl
  have HB : Hid (∀ k, k ≤ L.length → 0 ≤ sumP (L.take k) ∧ sumP (L.take k) ≤ 1000000 * (k : Int)) := fun k hk => sumP_take hN k hk
  have HN : Hid (∀ r ∈ L, LoN r) := hN
  clear hr hN
  go_enter Try.func17, Try.ntmps17
  go_wp2_with fail
  rw [← hW1]
  clear hW1
  go_loopw [3, 4] (fun n x wr => ∃ k : Nat, k ≤ L.length ∧ x = .int .i64 (k : Int) ∧ n = .int .i64 (sumP (L.take k)) ∧ wr = W1) (fun _ x _ => L.length - (intOf x).toNat)
  case atStart => exact ⟨0, Nat.zero_le _, rfl, rfl, rfl⟩
  case round =>
    obtain ⟨k, hk, rfl, rfl, rfl⟩ := hrel
    by_cases hlt : k < L.length
    · have hlt' : (k : Int) < (L.length : Int) := by omega
      have hzb := HB.out k hk
      rcases HR.out with h | ⟨b0, o0, ha, hB0, ia⟩
      · rw [h] at hlt; simp at hlt
      subst ha
      obtain ⟨q0, q1⟩ := ia k hlt
      have HS : Hid (sumP (L.take (k + 1)) = sumP (L.take k) + (L.getD k zLo).nu) := sumP_next L k hlt
      have hn := getLo' HN.out hlt
      clear ia
      generalize L.getD k zLo = r at *
      obtain ⟨rn, ru⟩ := r
      unfold LoN at hn
      dsimp only at q0 q1 hn HS
      generalize sumP (L.take k) = z at *
      go_wp2
      exact ⟨⟨k + 1, by omega, by go_num, by rw [HS.out], by trivial⟩, by simp [intOf]; omega⟩
    · obtain rfl : k = L.length := by omega
      rw [List.take_length]
      go_wp2
      go_ret
      exact ⟨rfl, HW.out⟩
end Go.Proofs.Ytodncihjenlnjaa

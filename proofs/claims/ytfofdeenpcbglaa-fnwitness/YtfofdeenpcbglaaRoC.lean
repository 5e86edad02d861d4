/-
  Contracts of the program's room.both, room.empty, room.leastFacts.
-/
import Derived.Test.YtfofdeenpcbglaaRoB
namespace Go.Proofs.Ytfofdeenpcbglaa
open Go.ChangeShapes Go.WideShapes Go.ChangeAt Go.RowKit Go.Deep
set_option linter.unusedVariables false

def bv (L M : List Int) (i : Nat) : Int := if i % 2 = 0 then max (L.getD i 0) (M.getD i 0) else min (L.getD i 0) (M.getD i 0)
def mixL (L M : List Int) (k : Nat) : List Int := (List.range 12).map fun i => if i < 2 * k then bv L M i else L.getD i 0
theorem mixL_length (L M : List Int) (k : Nat) : (mixL L M k).length = 12 := by simp [mixL]
theorem mixL_zero (L M : List Int) (h : L.length = 12) : mixL L M 0 = L := by
  refine List.ext_getElem (by simp [mixL, h]) fun i h1 h2 => ?_
  simp [mixL, List.getD_eq_getElem?_getD, h2]
theorem mixL_six (L M : List Int) : mixL L M 6 = bothL L M := by
  refine List.ext_getElem (by simp [mixL, bothL]) fun i h1 h2 => ?_
  have : i < 12 := by simpa [mixL] using h1
  simp [mixL, bothL, bv, this]
theorem mixL_at (L M : List Int) (k i : Nat) (hi : i < 12) : (mixL L M k).getD i 0 = if i < 2 * k then bv L M i else L.getD i 0 := by
  simp [mixL, List.getD_eq_getElem?_getD, hi]
theorem mixL_step (L M : List Int) (k : Nat) (hk : k < 6) : ((mixL L M k).set (k * 2) (max (L.getD (k * 2) 0) (M.getD (k * 2) 0))).set (k * 2 + 1) (min (L.getD (k * 2 + 1) 0) (M.getD (k * 2 + 1) 0)) = mixL L M (k + 1) := by
  refine List.ext_getElem (by simp [mixL]) fun i h1 h2 => ?_
  rw [List.getElem_set, List.getElem_set]
  have hi : i < 12 := by simpa [mixL] using h2
  by_cases e1 : k * 2 + 1 = i
  · rw [if_pos e1]
    subst e1
    simp only [mixL, List.getElem_map, List.getElem_range]
    rw [if_pos (by omega)]
    unfold bv
    rw [if_neg (by omega)]
  · rw [if_neg e1]
    by_cases e0 : k * 2 = i
    · rw [if_pos e0]
      subst e0
      simp only [mixL, List.getElem_map, List.getElem_range]
      rw [if_pos (by omega)]
      unfold bv
      rw [if_pos (by omega)]
    · rw [if_neg e0]
      simp only [mixL, List.getElem_map, List.getElem_range]
      by_cases h : i < 2 * k
      · rw [if_pos h, if_pos (by omega)]
      · rw [if_neg h, if_neg (by omega)]

def BoInv (w : World) (L M : List Int) (k : Nat) (wr : World) : Prop := RoomAt wr w.heap.size (mixL L M k) ∧ RoomAt wr (w.heap.size + 1) M ∧ RoomAt wr (w.heap.size + 1 + 1) zr ∧ Below w.heap.size w wr


def emptyN (L : List Int) (k : Nat) : Bool := (List.range k).any fun i => decide (L.getD (2 * i + 1) 0 < L.getD (2 * i) 0)
theorem emptyN_next {L : List Int} {k : Nat} (h : emptyN L k = false) (hk : ¬ L.getD (2 * k + 1) 0 < L.getD (2 * k) 0) : emptyN L (k + 1) = false := by
  unfold emptyN at *
  rw [List.range_succ, List.any_append, h]
  simpa using Int.not_lt.mp hk
theorem emptyL_yes {L : List Int} {k : Nat} (h : k < 6) (hk : L.getD (2 * k + 1) 0 < L.getD (2 * k) 0) : emptyL L = true := by
  unfold emptyL
  exact List.any_eq_true.mpr ⟨k, by simpa using h, by simpa using hk⟩
theorem emptyFn_any (a b : Int) (w : World) :
    Calls Try.prog 30 #[.agg #[.int .i64 a, .int .i64 b]] w fun e w' => e = .returned (.bool (decide (b < a))) ∧ Below w.heap.size w w' := by
  go_enter Try.func30, Try.ntmps30
  go_wp2
  go_ret
  exact ⟨rfl, below_alloc _ _⟩
set_option maxHeartbeats 2000000 in
theorem spIndex_any (b : Nat) (L : List Int) (hL : L.length = 12) (w : World) (hr : RoomAt w b L) :
    Calls Try.prog 50 #[.slice (some ⟨b, 0, none⟩) 6 6, .func (.func 30) #[] #[]] w fun e w' => (∃ x : Int, e = .returned (.int .i64 x) ∧ decide (0 ≤ x) = emptyL L) ∧ Below w.heap.size w w' := by
  have HR : Hid (RoomAt w b L) := hr
  clear hr
  go_enter Try.func50, Try.ntmps50
  go_wp2
  go_loopw [5, 8] (fun _ c wr => ∃ k : Nat, k ≤ 6 ∧ c = .int .i64 (k : Int) ∧ emptyN L k = false ∧ Below w.heap.size w wr) (fun _ c _ => 6 - (intOf c).toNat)
  case atStart => exact ⟨0, Nat.zero_le _, rfl, rfl, Below.refl _ _⟩
  case round =>
    obtain ⟨k, hk, rfl, hf, hb⟩ := hrel
    have HF : Hid (emptyN L k = false) := hf
    have HB : Hid (Below w.heap.size w wr) := hb
    clear hf hb
    by_cases hlt : k < 6
    · have hlt' : (k : Int) < 6 := by omega
      have c0 := (HR.out.later HB.out).cell (k * 2) (by omega)
      have c1 := (HR.out.later HB.out).cell (k * 2 + 1) (by omega)
      have HY : Hid (L.getD (k * 2 + 1) 0 < L.getD (k * 2) 0 → emptyL L = true) := fun h => emptyL_yes hlt (by rw [Nat.mul_comm 2 k]; exact h)
      have HN : Hid (¬ L.getD (k * 2 + 1) 0 < L.getD (k * 2) 0 → emptyN L (k + 1) = false) := fun h => emptyN_next HF.out (by rw [Nat.mul_comm 2 k]; exact h)
      generalize L.getD (k * 2) 0 = x at *
      generalize L.getD (k * 2 + 1) 0 = y at *
      by_cases hq : y < x
      · have hd : decide (y < x) = true := decide_eq_true hq
        have H1 : Hid _ := HY.out hq
        go_wp2_with (go_at_call 30; refine (emptyFn_any _ _ _).mono ?_; rintro e w2 ⟨rfl, hb2⟩)
        go_ret
        exact ⟨⟨(k : Int), rfl, by rw [H1.out]; exact decide_eq_true (by omega)⟩, chain HB.out hb2⟩
      · have hd : decide (y < x) = false := decide_eq_false hq
        have H1 : Hid _ := HN.out hq
        go_wp2_with (go_at_call 30; refine (emptyFn_any _ _ _).mono ?_; rintro e w2 ⟨rfl, hb2⟩)
        exact ⟨⟨k + 1, by omega, by go_num, H1.out, chain HB.out hb2⟩, by simp [intOf]; omega⟩
    · obtain rfl : k = 6 := by omega
      go_wp2
      go_ret
      exact ⟨⟨-1, rfl, HF.out.symm⟩, HB.out⟩
theorem spContains_any (b : Nat) (L : List Int) (hL : L.length = 12) (w : World) (hr : RoomAt w b L) :
    Calls Try.prog 29 #[.slice (some ⟨b, 0, none⟩) 6 6, .func (.func 30) #[] #[]] w fun e w' => e = .returned (.bool (emptyL L)) ∧ Below w.heap.size w w' := by
  have hi := spIndex_any b L hL w hr
  clear hr
  go_enter Try.func29, Try.ntmps29
  go_wp2_with (go_at_call 50; refine hi.mono ?_; rintro e w2 ⟨⟨x, rfl, hx⟩, hb2⟩; have HX : Hid (decide (0 ≤ x) = emptyL L) := hx; clear hx)
  go_ret
  exact ⟨ret_bool HX.out, hb2⟩
theorem roomEmpty_any (L : List Int) (hL : L.length = 12) (w : World) :
    Calls Try.prog 13 #[.agg (rowI L)] w fun e w' => e = .returned (.bool (emptyL L)) ∧ Below w.heap.size w w' := by
  have hC := spContains_any w.heap.size L hL (w.alloc (.cells (rowI L) 48)) (RoomAt.new w L)
  generalize emptyL L = b at *
  go_enter Try.func13, Try.ntmps13
  go_wp2_with (go_at_call 29; refine hC.mono ?_; rintro e w2 ⟨rfl, hb2⟩)
  go_ret
  exact ⟨rfl, chain (below_alloc _ _) hb2⟩
/-- The least facts of a room. -/
def factsV (L : List Int) : Array Value := #[.int .i64 (L.getD 2 0), .int .i64 (L.getD 4 0), .int .i64 (L.getD 6 0), .int .i64 (L.getD 8 0), .int .i64 (L.getD 10 0)]

set_option maxHeartbeats 2000000 in
theorem leastFacts_any (L : List Int) (hL : L.length = 12) (w : World) :
    Calls Try.prog 15 #[.agg (rowI L)] w fun e w' => e = .returned (.agg (factsV L)) ∧ Below w.heap.size w w' := by
  have hc : ∀ j, j < 12 → ((w.alloc (Obj.cells (rowI L) 48)).alloc (Obj.cells #[.int .i64 0, .int .i64 0, .int .i64 0, .int .i64 0, .int .i64 0] 28)).cell? ⟨w.heap.size, j, none⟩ = some (.int .i64 (L.getD j 0)) := fun j hj => ((RoomAt.new w L).later (below_alloc _ _)).cell j (by omega)
  have c2 := hc 2 (by omega)
  have c4 := hc 4 (by omega)
  have c6 := hc 6 (by omega)
  have c8 := hc 8 (by omega)
  have c10 := hc 10 (by omega)
  clear hc
  unfold factsV
  generalize L.getD 2 0 = x2 at *
  generalize L.getD 4 0 = x4 at *
  generalize L.getD 6 0 = x6 at *
  generalize L.getD 8 0 = x8 at *
  generalize L.getD 10 0 = x10 at *
  go_enter Try.func15, Try.ntmps15
  go_wp2
  refine bodyPost_ret (by simp [results, Try.results15, go_sem]) rfl ⟨rfl, ?_⟩
  repeat (first | exact Below.refl _ _ | refine chain ?_ (below_alloc _ _) | refine Below.setCell ?_ (by dsimp only; omega) _)

end Go.Proofs.Ytfofdeenpcbglaa

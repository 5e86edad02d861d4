/-
  Texts of this claim laid together: ItB, ItC.
-/
import Derived.Test.YtabpkfhbnendjaaGreatM11
import Derived.Test.YtabpkfhbnendjaaGreatM1
/-
  One item: the program's itemCodeOK and itemOK, the specification's l08Item: both answer the same.
-/
namespace Go.Proofs.YtabpkfhbnendjaaGreat
open Go.ChangeShapes Go.WideShapes Go.ChangeAt Go.RowKit
set_option linter.unusedVariables false

theorem itSpan_any (a b n : Int) (w : World) :
    Calls Tryz.prog 37 #[.agg #[.int .i64 a, .int .i64 b], .int .i64 n] w fun e w' => e = .returned (.bool (inB n a b)) ∧ Below w.heap.size w w' := by
  unfold inB
  rcases (by omega : n < a ∨ (a ≤ n ∧ b < n) ∨ (a ≤ n ∧ n ≤ b)) with h1 | ⟨h1, h2⟩ | ⟨h1, h2⟩
  all_goals
    go_enter Tryz.func37, Tryz.ntmps37
    go_wp2
    go_ret
    refine ⟨ret_bool ?_, below_alloc _ _⟩
    rw [Bool.eq_iff_iff]
    simp <;> omega
theorem itClass_any (n : Int) (w : World) :
    Calls Tryz.prog 38 #[.int .i64 n] w fun e w' => e = .returned (.bool (inB n 1 9)) ∧ w' = w := by
  rcases in_ways n 1 9 with h | ⟨h1, h2⟩ | ⟨h1, h2⟩
  all_goals
    go_enter Tryz.func38, Tryz.ntmps38
    go_wp2
    go_ret
    exact ⟨ret_bool (by first | exact (decide_eq_false (by omega)).symm | exact (decide_eq_true (by omega)).symm | exact decide_eq_decide.mpr (by omega) | (simp [inB]; omega)), rfl⟩
set_option maxHeartbeats 2000000 in
theorem code_of (s : ByteArray) (k : Int) (a : ByteArray) (v c : Int) (b : Bool) (hb : b = (decide (c = 0) && decide (k = 1))) (hf : five s = false) (hR : ∀ w, Calls Tryz.prog 54 #[.string s] w fun e w' => e = scanV k a v c ∧ Below w.heap.size w w') (w : World) :
    Calls Tryz.prog 36 #[.string s] w fun e w' => e = .returned (.bool b) ∧ Below w.heap.size w w' := by
  have hV := fun w => valuedArt_any s w
  rw [hf] at hV
  unfold scanV at hR
  rcases (by omega : ¬ c = 0 ∨ (c = 0 ∧ ¬ k = 1) ∨ (c = 0 ∧ k = 1)) with h | ⟨rfl, h⟩ | ⟨rfl, rfl⟩
  · have e : b = false := by rw [hb, decide_eq_false h]; rfl
    have h' : (c == 0) = false := by simpa using h
    rw [e]
    clear hb e
    go_enter Tryz.func36, Tryz.ntmps36
    go_wp2_with (first | (go_at_call 53; refine (hV _).mono ?_; rintro e w1 ⟨rfl, hb1⟩; clear hV) | (go_at_call 54; refine (hR _).mono ?_; rintro e w2 ⟨rfl, hb2⟩; clear hR))
    go_ret
    exact ⟨rfl, chain (chain hb1 hb2) (below_alloc _ _)⟩
  · have e : b = false := by rw [hb, decide_eq_false h, Bool.and_false]
    have h' : (k == 1) = false := by simpa using h
    rw [e]
    clear hb e
    go_enter Tryz.func36, Tryz.ntmps36
    go_wp2_with (first | (go_at_call 53; refine (hV _).mono ?_; rintro e w1 ⟨rfl, hb1⟩; clear hV) | (go_at_call 54; refine (hR _).mono ?_; rintro e w2 ⟨rfl, hb2⟩; clear hR))
    go_ret
    exact ⟨rfl, chain (chain hb1 hb2) (below_alloc _ _)⟩
  · have e : b = true := hb
    rw [e]
    clear hb e
    go_enter Tryz.func36, Tryz.ntmps36
    go_wp2_with (first | (go_at_call 53; refine (hV _).mono ?_; rintro e w1 ⟨rfl, hb1⟩; clear hV) | (go_at_call 54; refine (hR _).mono ?_; rintro e w2 ⟨rfl, hb2⟩; clear hR))
    go_ret
    exact ⟨rfl, chain (chain hb1 hb2) (below_alloc _ _)⟩
/-- What the program says of a code, and how the specification comes to the same. -/
def CodeWay (s : ByteArray) (b : Bool) : Prop := ((s.size : Int) = 5 ∧ b = allD s.data.toList) ∨ (((s.size : Int) == 5) = false ∧ ∃ k a v c, b = (decide (c = 0) && decide (k = 1)) ∧ ∀ w, Calls Tryz.prog 51 #[.string s] w fun e w' => e = scanV k a v c ∧ Below w.heap.size w w')
theorem code_same (s : ByteArray) : ∃ b : Bool, (∀ w, Calls Tryz.prog 36 #[.string s] w fun e w' => e = .returned (.bool b) ∧ Below w.heap.size w w') ∧ CodeWay s b := by
  by_cases h5 : (s.size : Int) = 5
  · cases hd : allD s.data.toList with
    | true =>
      have hf : five s = true := by unfold five; rw [decide_eq_true h5, hd]; rfl
      refine ⟨true, fun w => ?_, .inl ⟨h5, hd.symm⟩⟩
      have hV := fun w => valuedArt_any s w
      rw [hf] at hV
      go_enter Tryz.func36, Tryz.ntmps36
      go_wp2_with (go_at_call 53; refine (hV _).mono ?_; rintro e w1 ⟨rfl, hb1⟩; clear hV)
      go_ret
      exact ⟨rfl, hb1⟩
    | false =>
      have hf : five s = false := by unfold five; rw [hd, Bool.and_false]
      have n8 : ((s.size : Int) != 8) = true := by rw [bne_iff_ne]; omega
      have n13 : ((s.size : Int) != 13) = true := by rw [bne_iff_ne]; omega
      exact ⟨false, code_of s 0 ⟨#[]⟩ 0 4 false rfl hf (rsOther s (by omega) n8 n13), .inl ⟨h5, hd.symm⟩⟩
  · have hf : five s = false := by unfold five; rw [decide_eq_false h5, Bool.false_and]
    obtain ⟨k, a, v, c, hI, hS⟩ := same_any s
    exact ⟨_, code_of s k a v c _ rfl hf hI, .inr ⟨by simpa using h5, k, a, v, c, rfl, hS⟩⟩
theorem and_ways (b0 b1 b2 b3 b4 : Bool) : (b0 = false ∧ (b0 && b1 && b2 && b3 && b4) = false) ∨ (b0 = true ∧ b1 = false ∧ (b0 && b1 && b2 && b3 && b4) = false) ∨ (b0 = true ∧ b1 = true ∧ b2 = false ∧ (b0 && b1 && b2 && b3 && b4) = false) ∨ (b0 = true ∧ b1 = true ∧ b2 = true ∧ b3 = false ∧ (b0 && b1 && b2 && b3 && b4) = false) ∨ (b0 = true ∧ b1 = true ∧ b2 = true ∧ b3 = true ∧ (b0 && b1 && b2 && b3 && b4) = b4) := by
  cases b0 <;> cases b1 <;> cases b2 <;> cases b3 <;> cases b4 <;> simp
def ItemWay (x : ByteArray) (p d c g : Int) (b : Bool) : Prop := ∃ b0, b = (b0 && inB p 0 1000000 && inB d 0 1000000 && inB c 1 9 && inB g 0 120) ∧ CodeWay x b0
set_option maxHeartbeats 8000000 in
theorem implItem_of (x : ByteArray) (p d c g : Int) (b0 : Bool) (hC : ∀ w, Calls Tryz.prog 36 #[.string x] w fun e w' => e = .returned (.bool b0) ∧ Below w.heap.size w w') (w : World) : Calls Tryz.prog 17 #[.agg #[.string x, .int .i64 p, .int .i64 d, .int .i64 c, .int .i64 g]] w fun e w' => e = .returned (.bool (b0 && inB p 0 1000000 && inB d 0 1000000 && inB c 1 9 && inB g 0 120)) ∧ Below w.heap.size w w' := by
  have h1 := fun w => itSpan_any 0 1000000 p w
  have h2 := fun w => itSpan_any 0 1000000 d w
  have h3 := fun w => itClass_any c w
  have h4 := fun w => itSpan_any 0 120 g w
  have hw := and_ways b0 (inB p 0 1000000) (inB d 0 1000000) (inB c 1 9) (inB g 0 120)
  generalize inB p 0 1000000 = b1 at *
  generalize inB d 0 1000000 = b2 at *
  generalize inB c 1 9 = b3 at *
  generalize inB g 0 120 = b4 at *
  have l1 : ∀ n : Nat, n < n + 1 + 1 := fun n => by omega
  have l2 : ∀ n : Nat, n < n + 1 + 1 + 1 := fun n => by omega
  have l3 : ∀ n : Nat, n + 1 < n + 1 + 1 + 1 := fun n => by omega
  obtain ⟨W3, hW3⟩ : ∃ W3, W3 = ((w.alloc (Obj.cells #[.string x, .int .i64 p, .int .i64 d, .int .i64 c, .int .i64 g] 60)).alloc (Obj.cells #[.int .i64 0, .int .i64 1000000] 87)).alloc (Obj.cells #[.int .i64 0, .int .i64 120] 87) := ⟨_, rfl⟩
  have B3 : Hid (Below w.heap.size w W3) := by rw [hW3]; exact chain (chain (below_alloc _ _) (below_alloc _ _)) (below_alloc _ _)
  have HC3 : Hid (∀ W, Below W3.heap.size W3 W → (W.cell? ⟨w.heap.size, 0, none⟩ = some (.string x) ∧ W.cell? ⟨w.heap.size, 1, none⟩ = some (.int .i64 p) ∧ W.cell? ⟨w.heap.size, 2, none⟩ = some (.int .i64 d) ∧ W.cell? ⟨w.heap.size, 3, none⟩ = some (.int .i64 c) ∧ W.cell? ⟨w.heap.size, 4, none⟩ = some (.int .i64 g)) ∧ (W.cell? ⟨w.heap.size + 1, 0, none⟩ = some (.int .i64 0) ∧ W.cell? ⟨w.heap.size + 1, 1, none⟩ = some (.int .i64 1000000)) ∧ (W.cell? ⟨w.heap.size + 1 + 1, 0, none⟩ = some (.int .i64 0) ∧ W.cell? ⟨w.heap.size + 1 + 1, 1, none⟩ = some (.int .i64 120))) := fun W hW => by
    have hs : W3.heap.size = w.heap.size + 1 + 1 + 1 := by rw [hW3]; simp
    have q : ∀ (b j : Nat) v, b < w.heap.size + 3 → W3.cell? ⟨b, j, none⟩ = some v → W.cell? ⟨b, j, none⟩ = some v := fun b j v hb h => (hW.cell (p := ⟨b, j, none⟩) (by dsimp only; omega)).trans h
    have q0 : ∀ j v, #[Value.string x, .int .i64 p, .int .i64 d, .int .i64 c, .int .i64 g][j]? = some v → W.cell? ⟨w.heap.size, j, none⟩ = some v := fun j v hv => q _ _ _ (by omega) (by rw [hW3]; exact (cellOld _ _ (by simp; omega)).trans ((cellOld _ _ (by simp)).trans (cellNew _ _ _ _ rfl hv)))
    have q1 : ∀ j v, #[Value.int .i64 0, .int .i64 1000000][j]? = some v → W.cell? ⟨w.heap.size + 1, j, none⟩ = some v := fun j v hv => q _ _ _ (by omega) (by rw [hW3]; exact (cellOld _ _ (by simp)).trans (cellNew _ _ _ _ (by simp) hv))
    have q2 : ∀ j v, #[Value.int .i64 0, .int .i64 120][j]? = some v → W.cell? ⟨w.heap.size + 1 + 1, j, none⟩ = some v := fun j v hv => q _ _ _ (by omega) (by rw [hW3]; exact cellNew _ _ _ _ (by simp) hv)
    exact ⟨⟨q0 _ _ rfl, q0 _ _ rfl, q0 _ _ rfl, q0 _ _ rfl, q0 _ _ rfl⟩, ⟨q1 _ _ rfl, q1 _ _ rfl⟩, ⟨q2 _ _ rfl, q2 _ _ rfl⟩⟩
  rcases hw with ⟨rfl, hw⟩ | ⟨rfl, rfl, hw⟩ | ⟨rfl, rfl, rfl, hw⟩ | ⟨rfl, rfl, rfl, rfl, hw⟩ | ⟨rfl, rfl, rfl, rfl, hw⟩
  all_goals
    rw [hw]
    clear hw
    go_enter Tryz.func17, Tryz.ntmps17
    go_wp2_with fail
    (first | go_at_call 36 | skip)
    refine (hC _).mono ?_
    rintro e w4 ⟨rfl, hb4⟩
    rw [← hW3] at hb4
    obtain ⟨⟨c0, c1, c2, c3, c4⟩, ⟨d0, d1⟩, ⟨e0, e1⟩⟩ := HC3.out w4 hb4
    have B4 : Hid (Below W3.heap.size W3 w4) := hb4
    clear hb4 hC
  · go_wp2
    go_ret
    exact ⟨rfl, chain B3.out B4.out⟩
  all_goals
    clear c0
    go_wp2_with fail
    (first | go_at_call 37 | skip)
    refine (h1 _).mono ?_
    rintro e w5 ⟨rfl, hb5⟩
    have B5 : Hid (Below W3.heap.size W3 w5) := chain B4.out hb5
    clear c1 c2 c3 c4 d0 d1 e0 e1 hb5 B4 h1
    obtain ⟨⟨c0, c1, c2, c3, c4⟩, ⟨d0, d1⟩, ⟨e0, e1⟩⟩ := HC3.out w5 B5.out
  · go_wp2
    go_ret
    exact ⟨rfl, chain B3.out B5.out⟩
  all_goals
    go_wp2_with fail
    (first | go_at_call 37 | skip)
    refine (h2 _).mono ?_
    rintro e w6 ⟨rfl, hb6⟩
    have B6 : Hid (Below W3.heap.size W3 w6) := chain B5.out hb6
    clear c0 c1 c2 c3 c4 d0 d1 e0 e1 hb6 B5 h2
    obtain ⟨⟨c0, c1, c2, c3, c4⟩, ⟨d0, d1⟩, ⟨e0, e1⟩⟩ := HC3.out w6 B6.out
  · go_wp2
    go_ret
    exact ⟨rfl, chain B3.out B6.out⟩
  all_goals
    go_wp2_with fail
    (first | go_at_call 38 | skip)
    refine (h3 _).mono ?_
    rintro e w7 ⟨rfl, rfl⟩
    clear h3
  · go_wp2
    go_ret
    exact ⟨rfl, chain B3.out B6.out⟩
  · go_wp2_with fail
    (first | go_at_call 37 | skip)
    refine (h4 _).mono ?_
    rintro e w8 ⟨rfl, hb8⟩
    go_wp2
    go_ret
    exact ⟨rfl, chain B3.out (chain B6.out hb8)⟩
theorem implItem_any (x : ByteArray) (p d c g : Int) : ∃ b : Bool, (∀ w, Calls Tryz.prog 17 #[.agg #[.string x, .int .i64 p, .int .i64 d, .int .i64 c, .int .i64 g]] w fun e w' => e = .returned (.bool b) ∧ Below w.heap.size w w') ∧ ItemWay x p d c g b := by
  obtain ⟨b0, hC, hW⟩ := code_same x
  exact ⟨_, fun w => implItem_of x p d c g b0 hC w, b0, rfl, hW⟩
set_option maxHeartbeats 8000000 in
theorem specItem_any (x : ByteArray) (hx : x.size ≤ maxLen) (p d c g : Int) (b : Bool) (hw : ItemWay x p d c g b) (w : World) : Calls Tryz.prog 31 #[.agg #[.string x, .int .i64 p, .int .i64 d, .int .i64 c, .int .i64 g]] w fun e w' => e = .returned (.bool b) ∧ Below w.heap.size w w' := by
  obtain ⟨b0, hb, hC⟩ := hw
  rw [hb]
  clear hb b
  have h1 := fun w => in_any p 0 1000000 w
  have h2 := fun w => in_any d 0 1000000 w
  have h3 := fun w => in_any c 1 9 w
  have h4 := fun w => in_any g 0 120 w
  have hw := and_ways b0 (inB p 0 1000000) (inB d 0 1000000) (inB c 1 9) (inB g 0 120)
  generalize inB p 0 1000000 = b1 at *
  generalize inB d 0 1000000 = b2 at *
  generalize inB c 1 9 = b3 at *
  generalize inB g 0 120 = b4 at *
  have HK : Hid (∀ W, Below (w.alloc (Obj.cells #[.string x, .int .i64 p, .int .i64 d, .int .i64 c, .int .i64 g] 60)).heap.size (w.alloc (Obj.cells #[.string x, .int .i64 p, .int .i64 d, .int .i64 c, .int .i64 g] 60)) W → (W.cell? ⟨w.heap.size, 0, none⟩ = some (.string x) ∧ W.cell? ⟨w.heap.size, 1, none⟩ = some (.int .i64 p) ∧ W.cell? ⟨w.heap.size, 2, none⟩ = some (.int .i64 d) ∧ W.cell? ⟨w.heap.size, 3, none⟩ = some (.int .i64 c) ∧ W.cell? ⟨w.heap.size, 4, none⟩ = some (.int .i64 g))) := fun W hW => by
    have q : ∀ j v, (w.alloc (Obj.cells #[.string x, .int .i64 p, .int .i64 d, .int .i64 c, .int .i64 g] 60)).cell? ⟨w.heap.size, j, none⟩ = some v → W.cell? ⟨w.heap.size, j, none⟩ = some v := fun j v h => (hW.cell (p := ⟨w.heap.size, j, none⟩) (by simp)).trans h
    exact ⟨q _ _ (by simp), q _ _ (by simp), q _ _ (by simp), q _ _ (by simp), q _ _ (by simp)⟩
  have HT : Hid (b0 = true → ∀ W, Below (w.alloc (Obj.cells #[.string x, .int .i64 p, .int .i64 d, .int .i64 c, .int .i64 g] 60)).heap.size (w.alloc (Obj.cells #[.string x, .int .i64 p, .int .i64 d, .int .i64 c, .int .i64 g] 60)) W → True) := fun _ _ _ => trivial
  rcases hC with ⟨h5, hC⟩ | ⟨h5, k, a, v, cc, hC, hR⟩
  · have hA := fun w => l02All_any x hx w
    rw [← hC] at hA
    clear hC
    rcases hw with ⟨rfl, hw⟩ | ⟨rfl, rfl, hw⟩ | ⟨rfl, rfl, rfl, hw⟩ | ⟨rfl, rfl, rfl, rfl, hw⟩ | ⟨rfl, rfl, rfl, rfl, hw⟩
    all_goals
      rw [hw]
      clear hw
      go_enter Tryz.func31, Tryz.ntmps31
      go_wp2_with fail
      (first | go_at_call 50 | skip)
      refine (hA _).mono ?_
      rintro e w4 ⟨rfl, rfl⟩
      clear hA
    · go_wp2
      go_ret
      exact ⟨rfl, below_alloc _ _⟩
    all_goals
      go_wp2_with fail
      (first | go_at_call 33 | skip)
      refine (h1 _).mono ?_
      rintro e w5 ⟨rfl, rfl⟩
      clear h1
    · go_wp2
      go_ret
      exact ⟨rfl, below_alloc _ _⟩
    all_goals
      go_wp2_with fail
      (first | go_at_call 33 | skip)
      refine (h2 _).mono ?_
      rintro e w5 ⟨rfl, rfl⟩
      clear h2
    · go_wp2
      go_ret
      exact ⟨rfl, below_alloc _ _⟩
    all_goals
      go_wp2_with fail
      (first | go_at_call 33 | skip)
      refine (h3 _).mono ?_
      rintro e w5 ⟨rfl, rfl⟩
      clear h3
    · go_wp2
      go_ret
      exact ⟨rfl, below_alloc _ _⟩
    · go_wp2_with fail
      (first | go_at_call 33 | skip)
      refine (h4 _).mono ?_
      rintro e w5 ⟨rfl, rfl⟩
      go_wp2
      go_ret
      exact ⟨rfl, below_alloc _ _⟩
  · unfold scanV at hR
    have hcw : (b0 = false ∧ (((cc != 0) = true) ∨ (cc = 0 ∧ (k != 1) = true))) ∨ (b0 = true ∧ cc = 0 ∧ k = 1) := by
      rcases (by omega : ¬ cc = 0 ∨ (cc = 0 ∧ ¬ k = 1) ∨ (cc = 0 ∧ k = 1)) with h | ⟨rfl, h⟩ | ⟨rfl, rfl⟩
      · exact .inl ⟨by rw [hC, decide_eq_false h]; rfl, .inl (by simpa using h)⟩
      · exact .inl ⟨by rw [hC, decide_eq_false h, Bool.and_false], .inr ⟨rfl, by simpa using h⟩⟩
      · exact .inr ⟨hC, rfl, rfl⟩
    clear hC
    rcases hw with ⟨hb0, hw⟩ | ⟨hb0, rfl, hw⟩ | ⟨hb0, rfl, rfl, hw⟩ | ⟨hb0, rfl, rfl, rfl, hw⟩ | ⟨hb0, rfl, rfl, rfl, hw⟩
    · rw [hw]
      clear hw
      rcases hcw with ⟨_, hcw⟩ | ⟨q, _⟩
      · rcases hcw with hq | ⟨rfl, hq⟩
        all_goals
          go_enter Tryz.func31, Tryz.ntmps31
          go_wp2_with fail
          (first | go_at_call 51 | skip)
          refine (hR _).mono ?_
          rintro e w4 ⟨rfl, hb4⟩
          clear hR
          go_wp2
          go_ret
          exact ⟨rfl, chain (below_alloc _ _) (chain hb4 (below_alloc _ _))⟩
      · rw [hb0] at q; cases q
    all_goals
      rcases hcw with ⟨q, _⟩ | ⟨_, rfl, rfl⟩
      · rw [hb0] at q; cases q
      rw [hw]
      clear hw hb0
      go_enter Tryz.func31, Tryz.ntmps31
      go_wp2_with fail
      (first | go_at_call 51 | skip)
      refine (hR _).mono ?_
      rintro e w4 ⟨rfl, hb4⟩
      obtain ⟨c0, c1, c2, c3, c4⟩ := HK.out _ (chain hb4 (below_alloc w4 (Obj.cells #[.int .i64 1, .string a, .int .i64 v] 108)))
      have B4 : Hid (Below w.heap.size w (w4.alloc (Obj.cells #[.int .i64 1, .string a, .int .i64 v] 108))) := chain (below_alloc _ _) (chain hb4 (below_alloc _ _))
      clear hb4 hR
      go_wp2_with fail
      (first | go_at_call 33 | skip)
      refine (h1 _).mono ?_
      rintro e w5 ⟨rfl, rfl⟩
      clear h1
    · go_wp2
      go_ret
      exact ⟨rfl, B4.out⟩
    all_goals
      go_wp2_with fail
      (first | go_at_call 33 | skip)
      refine (h2 _).mono ?_
      rintro e w5 ⟨rfl, rfl⟩
      clear h2
    · go_wp2
      go_ret
      exact ⟨rfl, B4.out⟩
    all_goals
      go_wp2_with fail
      (first | go_at_call 33 | skip)
      refine (h3 _).mono ?_
      rintro e w5 ⟨rfl, rfl⟩
      clear h3
    · go_wp2
      go_ret
      exact ⟨rfl, B4.out⟩
    · go_wp2_with fail
      (first | go_at_call 33 | skip)
      refine (h4 _).mono ?_
      rintro e w5 ⟨rfl, rfl⟩
      go_wp2
      go_ret
      exact ⟨rfl, B4.out⟩
end Go.Proofs.YtabpkfhbnendjaaGreat

/-
  The number of the first item with a code: the specification's l08Find, the program's itemCoded.
-/
namespace Go.Proofs.YtabpkfhbnendjaaGreat
open Go.ChangeShapes Go.WideShapes Go.ChangeAt Go.RowKit Go.Deep
set_option linter.unusedVariables false

def itEq (c : ByteArray) (r : RIt) : Bool := r.cd.toList == c.toList
/-- The number of the first item whose code is c, -1 if there is none. -/
def itIx (c : ByteArray) : List RIt → Int
  | [] => -1
  | r :: rs => if itEq c r = true then 0 else if itIx c rs < 0 then -1 else itIx c rs + 1
theorem itIx_at (c : ByteArray) : ∀ (rs : List RIt) (k : Nat), k < rs.length → (rs.take k).all (fun r => !itEq c r) = true → itEq c (rs.getD k zIt) = true → itIx c rs = (k : Int)
  | [], k, h, _, _ => by simp at h
  | r :: rs, 0, _, _, h => by
    have : itEq c r = true := by simpa using h
    unfold itIx; rw [if_pos this]; rfl
  | r :: rs, k + 1, h, h1, h2 => by
    have hc : itEq c r = false := by simp at h1; exact h1.1
    have ih := itIx_at c rs k (by simpa using h) (by simp at h1; simpa using h1.2) (by simpa using h2)
    unfold itIx
    rw [if_neg (by rw [hc]; simp), ih, if_neg (by omega)]
    omega
theorem itIx_none (c : ByteArray) : ∀ (rs : List RIt), rs.all (fun r => !itEq c r) = true → itIx c rs = -1
  | [], _ => rfl
  | r :: rs, h => by
    have hc : itEq c r = false := by simp at h; exact h.1
    have ih := itIx_none c rs (by simp at h; simpa using h.2)
    unfold itIx
    rw [if_neg (by rw [hc]; simp), ih, if_pos (by omega)]
theorem its_take (p : RIt → Bool) (rs : List RIt) (k : Nat) (h : k < rs.length) : (rs.take (k + 1)).all p = ((rs.take k).all p && p (rs.getD k zIt)) := by
  rw [List.take_succ_eq_append_getElem h, List.all_append]
  simp [List.getD_eq_getElem?_getD, h]
theorem itIx_range (c : ByteArray) : ∀ rs : List RIt, -1 ≤ itIx c rs ∧ itIx c rs < (rs.length : Int)
  | [] => by unfold itIx; simp
  | r :: rs => by
    have ih := itIx_range c rs
    unfold itIx
    rw [List.length_cons]
    split
    · omega
    · split <;> omega
set_option maxHeartbeats 2000000 in
theorem find8_any (a : Option Addr) (cap : Nat) (rs : List RIt) (hl : rs.length ≤ 100000000) (c : ByteArray) (w : World) (hr : ReadsIt w.heap.size w a rs) :
    Calls Tryz.prog 23 #[.slice a rs.length cap, .string c] w fun e w' => e = .returned (.int .i64 (itIx c rs)) ∧ w' = w := by
  have HR : Hid (ReadsIt w.heap.size w a rs) := hr
  clear hr
  generalize hfx : itIx c rs = fx
  have HFX : Hid (itIx c rs = fx) := hfx
  clear hfx
  go_enter Tryz.func23, Tryz.ntmps23
  go_wp2
  go_loop [5] (fun i => ∃ k : Nat, k ≤ rs.length ∧ i = .int .i64 (k : Int) ∧ (rs.take k).all (fun r => !itEq c r) = true) (fun i => rs.length - (intOf i).toNat)
  case atStart => exact ⟨0, Nat.zero_le _, rfl, rfl⟩
  case round =>
    obtain ⟨k, hk, rfl, hf⟩ := hrel
    have HF : Hid ((rs.take k).all (fun r => !itEq c r) = true) := hf
    clear hf
    by_cases hlt : k < rs.length
    · have hlt' : (k : Int) < (rs.length : Int) := by omega
      rcases HR.out with h | ⟨b0, o0, ha, hB0, ia⟩
      · rw [h] at hlt; simp at hlt
      obtain ⟨c0, _⟩ := ia k hlt
      have HX : Hid (((rs.getD k zIt).cd.toList == c.toList) = true → fx = (k : Int)) := fun h => HFX.out.symm.trans (itIx_at _ rs k hlt HF.out h)
      have HN : Hid (((rs.getD k zIt).cd.toList == c.toList) = false → (rs.take (k + 1)).all (fun r => !itEq c r) = true) := fun h => by
        have h' : itEq c (rs.getD k zIt) = false := h
        rw [its_take _ rs k hlt, HF.out, h']; rfl
      rw [ha]
      clear ia
      generalize (rs.getD k zIt).cd = s at *
      cases hq : (s.toList == c.toList)
      · have H1 : Hid _ := HN.out hq
        go_wp2
        go_round
        case rel => exact ⟨k + 1, by omega, by go_num, H1.out⟩
        case measure => simp [intOf]; omega
      · have H1 : Hid _ := HX.out hq
        go_wp2
        go_ret
        exact ⟨ret_int H1.out.symm, rfl⟩
    · have hle : (rs.length : Int) ≤ (k : Int) := by omega
      have HE : Hid (fx = -1) := HFX.out.symm.trans <| itIx_none _ rs (by have := HF.out; rwa [List.take_of_length_le (by omega)] at this)
      go_wp2
      go_ret
      exact ⟨ret_int HE.out.symm, rfl⟩
theorem codedFn_any (x : ByteArray) (p d cl g : Int) (fb : Nat) (c : ByteArray) (w : World) (hf : w.cell? ⟨fb, 0, none⟩ = some (.string c)) :
    Calls Tryz.prog 40 #[.agg #[.string x, .int .i64 p, .int .i64 d, .int .i64 cl, .int .i64 g], .pointer (some ⟨fb, 0, none⟩)] w fun e w' => e = .returned (.bool (x.toList == c.toList)) ∧ Below w.heap.size w w' := by
  have hlt : fb < w.heap.size := World.block_lt_of_cell? _ _ hf
  have hf' : (w.alloc (Obj.cells #[.string x, .int .i64 p, .int .i64 d, .int .i64 cl, .int .i64 g] 60)).cell? ⟨fb, 0, none⟩ = some (.string c) := (cellOld _ _ hlt).trans hf
  go_enter Tryz.func40, Tryz.ntmps40
  go_wp2
  go_ret
  exact ⟨rfl, below_alloc _ _⟩
set_option maxHeartbeats 4000000 in
theorem itIndex_any (a : Option Addr) (cap : Nat) (rs : List RIt) (hl : rs.length ≤ 100000000) (fb : Nat) (c : ByteArray) (w : World) (hr : ReadsIt w.heap.size w a rs) (hf : w.cell? ⟨fb, 0, none⟩ = some (.string c)) :
    Calls Tryz.prog 39 #[.slice a rs.length cap, .func (.func 40) #[] #[.pointer (some ⟨fb, 0, none⟩)]] w fun e w' => e = .returned (.int .i64 (itIx c rs)) ∧ Below w.heap.size w w' := by
  have HR : Hid (ReadsIt w.heap.size w a rs) := hr
  have hfl : fb < w.heap.size := World.block_lt_of_cell? _ _ hf
  have HFc : Hid (w.cell? ⟨fb, 0, none⟩ = some (.string c)) := hf
  clear hr hf
  generalize hfx : itIx c rs = fx
  have HFX : Hid (itIx c rs = fx) := hfx
  clear hfx
  go_enter Tryz.func39, Tryz.ntmps39
  go_wp2
  go_loopw [5, 8] (fun _ i wr => ∃ k : Nat, k ≤ rs.length ∧ i = .int .i64 (k : Int) ∧ (rs.take k).all (fun r => !itEq c r) = true ∧ Below w.heap.size w wr) (fun _ i _ => rs.length - (intOf i).toNat)
  case atStart => exact ⟨0, Nat.zero_le _, rfl, rfl, Below.refl _ _⟩
  case round =>
    obtain ⟨k, hk, rfl, hf, hb⟩ := hrel
    have HF : Hid ((rs.take k).all (fun r => !itEq c r) = true) := hf
    have HB : Hid (Below w.heap.size w wr) := hb
    clear hf hb
    by_cases hlt : k < rs.length
    · have hlt' : (k : Int) < (rs.length : Int) := by omega
      rcases HR.out with h | ⟨b0, o0, ha, hB0, ia⟩
      · rw [h] at hlt; simp at hlt
      obtain ⟨c0, c1, c2, c3, c4⟩ := (ia.below HB.out hB0) k hlt
      have HX : Hid (((rs.getD k zIt).cd.toList == c.toList) = true → fx = (k : Int)) := fun h => HFX.out.symm.trans (itIx_at _ rs k hlt HF.out h)
      have HN : Hid (((rs.getD k zIt).cd.toList == c.toList) = false → (rs.take (k + 1)).all (fun r => !itEq c r) = true) := fun h => by
        have h' : itEq c (rs.getD k zIt) = false := h
        rw [its_take _ rs k hlt, HF.out, h']; rfl
      rw [ha]
      clear ia
      generalize rs.getD k zIt = q at *
      obtain ⟨x, p, d, cl, g⟩ := q
      dsimp only at c0 c1 c2 c3 c4 HX HN
      have hm := codedFn_any x p d cl g fb c wr ((HB.out.cell (p := ⟨fb, 0, none⟩) hfl).trans HFc.out)
      cases hq : (x.toList == c.toList)
      · have H1 : Hid _ := HN.out hq
        rw [hq] at hm
        go_wp2_with (go_at_call 40; refine hm.mono ?_; rintro e w2 ⟨rfl, hb2⟩)
        exact ⟨⟨k + 1, by omega, by go_num, H1.out, chain HB.out hb2⟩, by simp [intOf]; omega⟩
      · have H1 : Hid (fx = (k : Int)) := HX.out hq
        rw [hq] at hm
        go_wp2_with (go_at_call 40; refine hm.mono ?_; rintro e w2 ⟨rfl, hb2⟩)
        go_ret
        exact ⟨ret_int H1.out.symm, chain HB.out hb2⟩
    · have hle : (rs.length : Int) ≤ (k : Int) := by omega
      have HE : Hid (fx = -1) := HFX.out.symm.trans <| itIx_none _ rs (by have := HF.out; rwa [List.take_of_length_le (by omega)] at this)
      go_wp2
      go_ret
      exact ⟨ret_int HE.out.symm, HB.out⟩
theorem itemCoded_any (a : Option Addr) (cap : Nat) (rs : List RIt) (hl : rs.length ≤ 100000000) (c : ByteArray) (w : World) (hr : ReadsIt w.heap.size w a rs) :
    Calls Tryz.prog 18 #[.slice a rs.length cap, .string c] w fun e w' => e = .returned (.int .i64 (itIx c rs)) ∧ Below w.heap.size w w' := by
  have hi := itIndex_any a cap rs hl w.heap.size c (w.alloc (Obj.cells #[.string c] 9)) ((hr.below (below_alloc _ _)).mono (below_alloc w (Obj.cells #[.string c] 9)).size) (cellNew _ _ _ _ rfl rfl)
  clear hr
  go_enter Tryz.func18, Tryz.ntmps18
  go_wp2_with (go_at_call 39; refine hi.mono ?_; rintro e w2 ⟨rfl, hb2⟩)
  go_ret
  exact ⟨rfl, chain (below_alloc _ _) hb2⟩
end Go.Proofs.YtabpkfhbnendjaaGreat

/-
  One item: the program's itemCodeOK and itemOK, the specification's l08Item: both answer the same.
-/
import Derived.Test.YtnjciehnlemmlaaScanSame
import Derived.Test.YtnjciehnlemmlaaValued
import Derived.Test.YtnjciehnlemmlaaRate
import Derived.Test.YtnjciehnlemmlaaItA
import Derived.Test.YtnjciehnlemmlaaCellNo
namespace Go.Proofs.Ytnjciehnlemmlaa
open Go.ChangeShapes Go.WideShapes Go.ChangeAt Go.RowKit
set_option linter.unusedVariables false

theorem itSpan_any (a b n : Int) (w : World) :
    Calls Try.prog 20 #[.agg #[.int .i64 a, .int .i64 b], .int .i64 n] w fun e w' => e = .returned (.bool (inB n a b)) ∧ Below w.heap.size w w' := by
  unfold inB
  rcases (by omega : n < a ∨ (a ≤ n ∧ b < n) ∨ (a ≤ n ∧ n ≤ b)) with h1 | ⟨h1, h2⟩ | ⟨h1, h2⟩
  all_goals
    go_enter Try.func20, Try.ntmps20
    go_wp2
    go_ret
    refine ⟨ret_bool ?_, below_alloc _ _⟩
    rw [Bool.eq_iff_iff]
    simp <;> omega
theorem itClass_any (n : Int) (w : World) :
    Calls Try.prog 21 #[.int .i64 n] w fun e w' => e = .returned (.bool (inB n 1 9)) ∧ w' = w := by
  rcases in_ways n 1 9 with h | ⟨h1, h2⟩ | ⟨h1, h2⟩
  all_goals
    go_enter Try.func21, Try.ntmps21
    go_wp2
    go_ret
    exact ⟨ret_bool (by first | exact (decide_eq_false (by omega)).symm | exact (decide_eq_true (by omega)).symm | exact decide_eq_decide.mpr (by omega) | (simp [inB]; omega)), rfl⟩
set_option maxHeartbeats 2000000 in
theorem code_of (s : ByteArray) (k : Int) (a : ByteArray) (v c : Int) (b : Bool) (hb : b = (decide (c = 0) && decide (k = 1))) (hf : five s = false) (hR : ∀ w, Calls Try.prog 26 #[.string s] w fun e w' => e = scanV k a v c ∧ Below w.heap.size w w') (w : World) :
    Calls Try.prog 19 #[.string s] w fun e w' => e = .returned (.bool b) ∧ Below w.heap.size w w' := by
  have hV := fun w => valuedArt_any s w
  rw [hf] at hV
  unfold scanV at hR
  rcases (by omega : ¬ c = 0 ∨ (c = 0 ∧ ¬ k = 1) ∨ (c = 0 ∧ k = 1)) with h | ⟨rfl, h⟩ | ⟨rfl, rfl⟩
  · have e : b = false := by rw [hb, decide_eq_false h]; rfl
    have h' : (c == 0) = false := by simpa using h
    rw [e]
    clear hb e
    go_enter Try.func19, Try.ntmps19
    go_wp2_with (first | (go_at_call 25; refine (hV _).mono ?_; rintro e w1 ⟨rfl, hb1⟩; clear hV) | (go_at_call 26; refine (hR _).mono ?_; rintro e w2 ⟨rfl, hb2⟩; clear hR))
    go_ret
    exact ⟨rfl, chain (chain hb1 hb2) (below_alloc _ _)⟩
  · have e : b = false := by rw [hb, decide_eq_false h, Bool.and_false]
    have h' : (k == 1) = false := by simpa using h
    rw [e]
    clear hb e
    go_enter Try.func19, Try.ntmps19
    go_wp2_with (first | (go_at_call 25; refine (hV _).mono ?_; rintro e w1 ⟨rfl, hb1⟩; clear hV) | (go_at_call 26; refine (hR _).mono ?_; rintro e w2 ⟨rfl, hb2⟩; clear hR))
    go_ret
    exact ⟨rfl, chain (chain hb1 hb2) (below_alloc _ _)⟩
  · have e : b = true := hb
    rw [e]
    clear hb e
    go_enter Try.func19, Try.ntmps19
    go_wp2_with (first | (go_at_call 25; refine (hV _).mono ?_; rintro e w1 ⟨rfl, hb1⟩; clear hV) | (go_at_call 26; refine (hR _).mono ?_; rintro e w2 ⟨rfl, hb2⟩; clear hR))
    go_ret
    exact ⟨rfl, chain (chain hb1 hb2) (below_alloc _ _)⟩
/-- What the program says of a code, and how the specification comes to the same. -/
def CodeWay (s : ByteArray) (b : Bool) : Prop := ((s.size : Int) = 5 ∧ b = allD s.data.toList) ∨ (((s.size : Int) == 5) = false ∧ ∃ k a v c, b = (decide (c = 0) && decide (k = 1)) ∧ ∀ w, Calls Try.prog 17 #[.string s] w fun e w' => e = scanV k a v c ∧ Below w.heap.size w w')
theorem code_same (s : ByteArray) : ∃ b : Bool, (∀ w, Calls Try.prog 19 #[.string s] w fun e w' => e = .returned (.bool b) ∧ Below w.heap.size w w') ∧ CodeWay s b := by
  by_cases h5 : (s.size : Int) = 5
  · cases hd : allD s.data.toList with
    | true =>
      have hf : five s = true := by unfold five; rw [decide_eq_true h5, hd]; rfl
      refine ⟨true, fun w => ?_, .inl ⟨h5, hd.symm⟩⟩
      have hV := fun w => valuedArt_any s w
      rw [hf] at hV
      go_enter Try.func19, Try.ntmps19
      go_wp2_with (go_at_call 25; refine (hV _).mono ?_; rintro e w1 ⟨rfl, hb1⟩; clear hV)
      go_ret
      exact ⟨rfl, hb1⟩
    | false =>
      have hf : five s = false := by unfold five; rw [hd, Bool.and_false]
      have n8 : ((s.size : Int) != 8) = true := by rw [bne_iff_ne]; omega
      have n13 : ((s.size : Int) != 13) = true := by rw [bne_iff_ne]; omega
      exact ⟨false, code_of s 0 ⟨#[]⟩ 0 4 false rfl hf (rsOther s (by omega) n8 n13), .inl ⟨h5, hd.symm⟩⟩
  · have hf : five s = false := by unfold five; rw [decide_eq_false h5, Bool.false_and]
    obtain ⟨k, a, v, c, hI, hS⟩ := same_any s
    exact ⟨_, code_of s k a v c _ rfl hf hI, .inr ⟨by simpa using h5, k, a, v, c, rfl, hS⟩⟩
theorem and_ways (b0 b1 b2 b3 b4 : Bool) : (b0 = false ∧ (b0 && b1 && b2 && b3 && b4) = false) ∨ (b0 = true ∧ b1 = false ∧ (b0 && b1 && b2 && b3 && b4) = false) ∨ (b0 = true ∧ b1 = true ∧ b2 = false ∧ (b0 && b1 && b2 && b3 && b4) = false) ∨ (b0 = true ∧ b1 = true ∧ b2 = true ∧ b3 = false ∧ (b0 && b1 && b2 && b3 && b4) = false) ∨ (b0 = true ∧ b1 = true ∧ b2 = true ∧ b3 = true ∧ (b0 && b1 && b2 && b3 && b4) = b4) := by
  cases b0 <;> cases b1 <;> cases b2 <;> cases b3 <;> cases b4 <;> simp
def ItemWay (x : ByteArray) (p d c g : Int) (b : Bool) : Prop := ∃ b0, b = (b0 && inB p 0 1000000 && inB d 0 1000000 && inB c 1 9 && inB g 0 120) ∧ CodeWay x b0
set_option maxHeartbeats 8000000 in
theorem implItem_any (x : ByteArray) (p d c g : Int) : ∃ b : Bool, (∀ w, Calls Try.prog 13 #[.agg #[.string x, .int .i64 p, .int .i64 d, .int .i64 c, .int .i64 g]] w fun e w' => e = .returned (.bool b) ∧ Below w.heap.size w w') ∧ ItemWay x p d c g b := by
  obtain ⟨b0, hC, hW⟩ := code_same x
  refine ⟨_, fun w => ?_, b0, rfl, hW⟩
  clear hW
  have h1 := fun w => itSpan_any 0 1000000 p w
  have h2 := fun w => itSpan_any 0 1000000 d w
  have h3 := fun w => itClass_any c w
  have h4 := fun w => itSpan_any 0 120 g w
  have hw := and_ways b0 (inB p 0 1000000) (inB d 0 1000000) (inB c 1 9) (inB g 0 120)
  generalize inB p 0 1000000 = b1 at *
  generalize inB d 0 1000000 = b2 at *
  generalize inB c 1 9 = b3 at *
  generalize inB g 0 120 = b4 at *
  have l1 : ∀ n : Nat, n < n + 1 + 1 := fun n => by omega
  have l2 : ∀ n : Nat, n < n + 1 + 1 + 1 := fun n => by omega
  have l3 : ∀ n : Nat, n + 1 < n + 1 + 1 + 1 := fun n => by omega
  obtain ⟨W3, hW3⟩ : ∃ W3, W3 = ((w.alloc (Obj.cells #[.string x, .int .i64 p, .int .i64 d, .int .i64 c, .int .i64 g] 33)).alloc (Obj.cells #[.int .i64 0, .int .i64 1000000] 44)).alloc (Obj.cells #[.int .i64 0, .int .i64 120] 44) := ⟨_, rfl⟩
  have B3 : Hid (Below w.heap.size w W3) := by rw [hW3]; exact chain (chain (below_alloc _ _) (below_alloc _ _)) (below_alloc _ _)
  have HC3 : Hid (∀ W, Below W3.heap.size W3 W → (W.cell? ⟨w.heap.size, 0, none⟩ = some (.string x) ∧ W.cell? ⟨w.heap.size, 1, none⟩ = some (.int .i64 p) ∧ W.cell? ⟨w.heap.size, 2, none⟩ = some (.int .i64 d) ∧ W.cell? ⟨w.heap.size, 3, none⟩ = some (.int .i64 c) ∧ W.cell? ⟨w.heap.size, 4, none⟩ = some (.int .i64 g)) ∧ (W.cell? ⟨w.heap.size + 1, 0, none⟩ = some (.int .i64 0) ∧ W.cell? ⟨w.heap.size + 1, 1, none⟩ = some (.int .i64 1000000)) ∧ (W.cell? ⟨w.heap.size + 1 + 1, 0, none⟩ = some (.int .i64 0) ∧ W.cell? ⟨w.heap.size + 1 + 1, 1, none⟩ = some (.int .i64 120))) := fun W hW => by
    have hs : W3.heap.size = w.heap.size + 1 + 1 + 1 := by rw [hW3]; simp
    have q : ∀ (b j : Nat) v, b < w.heap.size + 3 → W3.cell? ⟨b, j, none⟩ = some v → W.cell? ⟨b, j, none⟩ = some v := fun b j v hb h => (hW.cell (p := ⟨b, j, none⟩) (by dsimp only; omega)).trans h
    have q0 : ∀ j v, #[Value.string x, .int .i64 p, .int .i64 d, .int .i64 c, .int .i64 g][j]? = some v → W.cell? ⟨w.heap.size, j, none⟩ = some v := fun j v hv => q _ _ _ (by omega) (by rw [hW3]; exact (cellOld _ _ (by simp; omega)).trans ((cellOld _ _ (by simp)).trans (cellNew _ _ _ _ rfl hv)))
    have q1 : ∀ j v, #[Value.int .i64 0, .int .i64 1000000][j]? = some v → W.cell? ⟨w.heap.size + 1, j, none⟩ = some v := fun j v hv => q _ _ _ (by omega) (by rw [hW3]; exact (cellOld _ _ (by simp)).trans (cellNew _ _ _ _ (by simp) hv))
    have q2 : ∀ j v, #[Value.int .i64 0, .int .i64 120][j]? = some v → W.cell? ⟨w.heap.size + 1 + 1, j, none⟩ = some v := fun j v hv => q _ _ _ (by omega) (by rw [hW3]; exact cellNew _ _ _ _ (by simp) hv)
    exact ⟨⟨q0 _ _ rfl, q0 _ _ rfl, q0 _ _ rfl, q0 _ _ rfl, q0 _ _ rfl⟩, ⟨q1 _ _ rfl, q1 _ _ rfl⟩, ⟨q2 _ _ rfl, q2 _ _ rfl⟩⟩
  rcases hw with ⟨rfl, hw⟩ | ⟨rfl, rfl, hw⟩ | ⟨rfl, rfl, rfl, hw⟩ | ⟨rfl, rfl, rfl, rfl, hw⟩ | ⟨rfl, rfl, rfl, rfl, hw⟩
  all_goals
    rw [hw]
    clear hw
    go_enter Try.func13, Try.ntmps13
    go_wp2_with fail
    (first | go_at_call 19 | skip)
    refine (hC _).mono ?_
    rintro e w4 ⟨rfl, hb4⟩
    rw [← hW3] at hb4
    obtain ⟨⟨c0, c1, c2, c3, c4⟩, ⟨d0, d1⟩, ⟨e0, e1⟩⟩ := HC3.out w4 hb4
    have B4 : Hid (Below W3.heap.size W3 w4) := hb4
    clear hb4 hC
  · go_wp2
    go_ret
    exact ⟨rfl, chain B3.out B4.out⟩
  all_goals
    clear c0
    go_wp2_with fail
    (first | go_at_call 20 | skip)
    refine (h1 _).mono ?_
    rintro e w5 ⟨rfl, hb5⟩
    have B5 : Hid (Below W3.heap.size W3 w5) := chain B4.out hb5
    clear c1 c2 c3 c4 d0 d1 e0 e1 hb5 B4 h1
    obtain ⟨⟨c0, c1, c2, c3, c4⟩, ⟨d0, d1⟩, ⟨e0, e1⟩⟩ := HC3.out w5 B5.out
  · go_wp2
    go_ret
    exact ⟨rfl, chain B3.out B5.out⟩
  all_goals
    go_wp2_with fail
    (first | go_at_call 20 | skip)
    refine (h2 _).mono ?_
    rintro e w6 ⟨rfl, hb6⟩
    have B6 : Hid (Below W3.heap.size W3 w6) := chain B5.out hb6
    clear c0 c1 c2 c3 c4 d0 d1 e0 e1 hb6 B5 h2
    obtain ⟨⟨c0, c1, c2, c3, c4⟩, ⟨d0, d1⟩, ⟨e0, e1⟩⟩ := HC3.out w6 B6.out
  · go_wp2
    go_ret
    exact ⟨rfl, chain B3.out B6.out⟩
  all_goals
    go_wp2_with fail
    (first | go_at_call 21 | skip)
    refine (h3 _).mono ?_
    rintro e w7 ⟨rfl, rfl⟩
    clear h3
  · go_wp2
    go_ret
    exact ⟨rfl, chain B3.out B6.out⟩
  · go_wp2_with fail
    (first | go_at_call 20 | skip)
    refine (h4 _).mono ?_
    rintro e w8 ⟨rfl, hb8⟩
    go_wp2
    go_ret
    exact ⟨rfl, chain B3.out (chain B6.out hb8)⟩
set_option maxHeartbeats 8000000 in
theorem specItem_any (x : ByteArray) (hx : x.size ≤ maxLen) (p d c g : Int) (b : Bool) (hw : ItemWay x p d c g b) (w : World) : Calls Try.prog 10 #[.agg #[.string x, .int .i64 p, .int .i64 d, .int .i64 c, .int .i64 g]] w fun e w' => e = .returned (.bool b) ∧ Below w.heap.size w w' := by
  obtain ⟨b0, hb, hC⟩ := hw
  rw [hb]
  clear hb b
  have h1 := fun w => in_any p 0 1000000 w
  have h2 := fun w => in_any d 0 1000000 w
  have h3 := fun w => in_any c 1 9 w
  have h4 := fun w => in_any g 0 120 w
  have hw := and_ways b0 (inB p 0 1000000) (inB d 0 1000000) (inB c 1 9) (inB g 0 120)
  generalize inB p 0 1000000 = b1 at *
  generalize inB d 0 1000000 = b2 at *
  generalize inB c 1 9 = b3 at *
  generalize inB g 0 120 = b4 at *
  have HK : Hid (∀ W, Below (w.alloc (Obj.cells #[.string x, .int .i64 p, .int .i64 d, .int .i64 c, .int .i64 g] 33)).heap.size (w.alloc (Obj.cells #[.string x, .int .i64 p, .int .i64 d, .int .i64 c, .int .i64 g] 33)) W → (W.cell? ⟨w.heap.size, 0, none⟩ = some (.string x) ∧ W.cell? ⟨w.heap.size, 1, none⟩ = some (.int .i64 p) ∧ W.cell? ⟨w.heap.size, 2, none⟩ = some (.int .i64 d) ∧ W.cell? ⟨w.heap.size, 3, none⟩ = some (.int .i64 c) ∧ W.cell? ⟨w.heap.size, 4, none⟩ = some (.int .i64 g))) := fun W hW => by
    have q : ∀ j v, (w.alloc (Obj.cells #[.string x, .int .i64 p, .int .i64 d, .int .i64 c, .int .i64 g] 33)).cell? ⟨w.heap.size, j, none⟩ = some v → W.cell? ⟨w.heap.size, j, none⟩ = some v := fun j v h => (hW.cell (p := ⟨w.heap.size, j, none⟩) (by simp)).trans h
    exact ⟨q _ _ (by simp), q _ _ (by simp), q _ _ (by simp), q _ _ (by simp), q _ _ (by simp)⟩
  have HT : Hid (b0 = true → ∀ W, Below (w.alloc (Obj.cells #[.string x, .int .i64 p, .int .i64 d, .int .i64 c, .int .i64 g] 33)).heap.size (w.alloc (Obj.cells #[.string x, .int .i64 p, .int .i64 d, .int .i64 c, .int .i64 g] 33)) W → True) := fun _ _ _ => trivial
  rcases hC with ⟨h5, hC⟩ | ⟨h5, k, a, v, cc, hC, hR⟩
  · have hA := fun w => l02All_any x hx w
    rw [← hC] at hA
    clear hC
    rcases hw with ⟨rfl, hw⟩ | ⟨rfl, rfl, hw⟩ | ⟨rfl, rfl, rfl, hw⟩ | ⟨rfl, rfl, rfl, rfl, hw⟩ | ⟨rfl, rfl, rfl, rfl, hw⟩
    all_goals
      rw [hw]
      clear hw
      go_enter Try.func10, Try.ntmps10
      go_wp2_with fail
      (first | go_at_call 16 | skip)
      refine (hA _).mono ?_
      rintro e w4 ⟨rfl, rfl⟩
      clear hA
    · go_wp2
      go_ret
      exact ⟨rfl, below_alloc _ _⟩
    all_goals
      go_wp2_with fail
      (first | go_at_call 18 | skip)
      refine (h1 _).mono ?_
      rintro e w5 ⟨rfl, rfl⟩
      clear h1
    · go_wp2
      go_ret
      exact ⟨rfl, below_alloc _ _⟩
    all_goals
      go_wp2_with fail
      (first | go_at_call 18 | skip)
      refine (h2 _).mono ?_
      rintro e w5 ⟨rfl, rfl⟩
      clear h2
    · go_wp2
      go_ret
      exact ⟨rfl, below_alloc _ _⟩
    all_goals
      go_wp2_with fail
      (first | go_at_call 18 | skip)
      refine (h3 _).mono ?_
      rintro e w5 ⟨rfl, rfl⟩
      clear h3
    · go_wp2
      go_ret
      exact ⟨rfl, below_alloc _ _⟩
    · go_wp2_with fail
      (first | go_at_call 18 | skip)
      refine (h4 _).mono ?_
      rintro e w5 ⟨rfl, rfl⟩
      go_wp2
      go_ret
      exact ⟨rfl, below_alloc _ _⟩
  · unfold scanV at hR
    have hcw : (b0 = false ∧ (((cc != 0) = true) ∨ (cc = 0 ∧ (k != 1) = true))) ∨ (b0 = true ∧ cc = 0 ∧ k = 1) := by
      rcases (by omega : ¬ cc = 0 ∨ (cc = 0 ∧ ¬ k = 1) ∨ (cc = 0 ∧ k = 1)) with h | ⟨rfl, h⟩ | ⟨rfl, rfl⟩
      · exact .inl ⟨by rw [hC, decide_eq_false h]; rfl, .inl (by simpa using h)⟩
      · exact .inl ⟨by rw [hC, decide_eq_false h, Bool.and_false], .inr ⟨rfl, by simpa using h⟩⟩
      · exact .inr ⟨hC, rfl, rfl⟩
    clear hC
    rcases hw with ⟨hb0, hw⟩ | ⟨hb0, rfl, hw⟩ | ⟨hb0, rfl, rfl, hw⟩ | ⟨hb0, rfl, rfl, rfl, hw⟩ | ⟨hb0, rfl, rfl, rfl, hw⟩
    · rw [hw]
      clear hw
      rcases hcw with ⟨_, hcw⟩ | ⟨q, _⟩
      · rcases hcw with hq | ⟨rfl, hq⟩
        all_goals
          go_enter Try.func10, Try.ntmps10
          go_wp2_with fail
          (first | go_at_call 17 | skip)
          refine (hR _).mono ?_
          rintro e w4 ⟨rfl, hb4⟩
          clear hR
          go_wp2
          go_ret
          exact ⟨rfl, chain (below_alloc _ _) (chain hb4 (below_alloc _ _))⟩
      · rw [hb0] at q; cases q
    all_goals
      rcases hcw with ⟨q, _⟩ | ⟨_, rfl, rfl⟩
      · rw [hb0] at q; cases q
      rw [hw]
      clear hw hb0
      go_enter Try.func10, Try.ntmps10
      go_wp2_with fail
      (first | go_at_call 17 | skip)
      refine (hR _).mono ?_
      rintro e w4 ⟨rfl, hb4⟩
      obtain ⟨c0, c1, c2, c3, c4⟩ := HK.out _ (chain hb4 (below_alloc w4 (Obj.cells #[.int .i64 1, .string a, .int .i64 v] 39)))
      have B4 : Hid (Below w.heap.size w (w4.alloc (Obj.cells #[.int .i64 1, .string a, .int .i64 v] 39))) := chain (below_alloc _ _) (chain hb4 (below_alloc _ _))
      clear hb4 hR
      go_wp2_with fail
      (first | go_at_call 18 | skip)
      refine (h1 _).mono ?_
      rintro e w5 ⟨rfl, rfl⟩
      clear h1
    · go_wp2
      go_ret
      exact ⟨rfl, B4.out⟩
    all_goals
      go_wp2_with fail
      (first | go_at_call 18 | skip)
      refine (h2 _).mono ?_
      rintro e w5 ⟨rfl, rfl⟩
      clear h2
    · go_wp2
      go_ret
      exact ⟨rfl, B4.out⟩
    all_goals
      go_wp2_with fail
      (first | go_at_call 18 | skip)
      refine (h3 _).mono ?_
      rintro e w5 ⟨rfl, rfl⟩
      clear h3
    · go_wp2
      go_ret
      exact ⟨rfl, B4.out⟩
    · go_wp2_with fail
      (first | go_at_call 18 | skip)
      refine (h4 _).mono ?_
      rintro e w5 ⟨rfl, rfl⟩
      go_wp2
      go_ret
      exact ⟨rfl, B4.out⟩
end Go.Proofs.Ytnjciehnlemmlaa

/-
  Contracts of the program's Load.right, takesMore, loadsFault, together.
-/
import Derived.Test.YtbgjekhekjbcpaaTkA
import Derived.Test.YtbgjekhekjbcpaaOrA
namespace Go.Proofs.Ytbgjekhekjbcpaa
open Go.ChangeShapes Go.WideShapes Go.ChangeAt Go.RowKit Go.Joins Go.Deep
set_option linter.unusedVariables false

theorem reads2 (w : World) (a b : Int) (t : TypeId) : Reads (w.alloc (Obj.cells #[.int .i64 a, .int .i64 b] t)).heap.size (w.alloc (Obj.cells #[.int .i64 a, .int .i64 b] t)) (some ⟨w.heap.size, 0, none⟩) [a, b] := by
  refine .inr ⟨_, _, rfl, by simp, fun i hi => ?_⟩
  simp only [List.length_cons, List.length_nil] at hi
  match i, hi with
  | 0, _ => simp
  | 1, _ => simp
theorem right_any (a b : Int) (w : World) :
    Calls Try.prog 54 #[.agg #[.int .i64 a, .int .i64 b]] w fun e' w' => e' = .returned (.bool (inB a 0 1000 && inB b 0 1000)) ∧ Below w.heap.size w w' := by
  have HC : Hid (∀ X, X = ((w.alloc (Obj.cells #[.int .i64 a, .int .i64 b] 37)).alloc (Obj.cells #[.int .i64 a, .int .i64 b] 3)) → Calls Try.prog 36 #[.agg #[.int .i64 0, .int .i64 1000], .slice (some ⟨w.heap.size + 1, 0, none⟩) 2 2] X fun e' w' => e' = .returned (.bool (inB a 0 1000 && inB b 0 1000)) ∧ Below w.heap.size w w') := fun X hX => by
    subst hX
    have h0 := reads2 (w.alloc (Obj.cells #[.int .i64 a, .int .i64 b] 37)) a b 3
    have hz : (w.alloc (Obj.cells #[.int .i64 a, .int .i64 b] 37)).heap.size = w.heap.size + 1 := by simp
    rw [hz] at h0
    have := hasAll_any 0 1000 (some ⟨w.heap.size + 1, 0, none⟩) 2 [a, b] (by simp) _ h0
    refine this.mono ?_
    rintro e' w' ⟨h1, h2⟩
    exact ⟨by rw [h1]; unfold alB; simp, chain (chain (below_alloc _ _) (below_alloc _ _)) h2⟩
  generalize (inB a 0 1000 && inB b 0 1000) = b1 at *
  go_enter Try.func54, Try.ntmps54
  go_wp2_with (go_at_call 36; refine (HC.out _ rfl).mono ?_; rintro e' w2 ⟨rfl, hb2⟩)
  go_ret
  exact ⟨rfl, hb2⟩
theorem notRight_any (a b : Int) (w : World) :
    Calls Try.prog 53 #[.agg #[.int .i64 a, .int .i64 b]] w fun e' w' => e' = .returned (.bool (!(inB a 0 1000 && inB b 0 1000))) ∧ Below w.heap.size w w' := by
  have HC : Hid (∀ X, Calls Try.prog 54 #[.agg #[.int .i64 a, .int .i64 b]] X fun e' w' => e' = .returned (.bool (inB a 0 1000 && inB b 0 1000)) ∧ Below X.heap.size X w') := fun X => right_any a b X
  generalize (inB a 0 1000 && inB b 0 1000) = b1 at *
  go_enter Try.func53, Try.ntmps53
  go_wp2_with (go_at_call 54; refine (HC.out _).mono ?_; rintro e' w2 ⟨rfl, hb2⟩)
  go_ret
  exact ⟨rfl, chain (below_alloc _ _) hb2⟩
theorem takesMore_any (a b p : Int) (ha : 0 ≤ a ∧ a ≤ 1000) (hb : 0 ≤ b ∧ b ≤ 1000) (w : World) :
    Calls Try.prog 61 #[.agg #[.int .i64 a, .int .i64 b], .int .i64 p] w fun e' w' => e' = .returned (.bool (decide (p < a + b))) ∧ Below w.heap.size w w' := by
  obtain ⟨a1, a2⟩ := ha
  obtain ⟨b1, b2⟩ := hb
  go_enter Try.func61, Try.ntmps61
  go_wp2
  go_ret
  exact ⟨rfl, below_alloc _ _⟩
set_option maxHeartbeats 2000000 in
theorem ldIndex_any (a : Option Addr) (cap : Nat) (rs : List RLd) (hl : rs.length ≤ 100000000) (w : World) (hr : ReadsLd w.heap.size w a rs) :
    Calls Try.prog 60 #[.slice a rs.length cap, .func (.func 53) #[] #[]] w fun e w' => (∃ x : Int, e = .returned (.int .i64 x) ∧ decide (0 ≤ x) = !ldsB rs) ∧ Below w.heap.size w w' := by
  have HR : Hid (ReadsLd w.heap.size w a rs) := hr
  clear hr
  go_enter Try.func60, Try.ntmps60
  go_wp2
  go_loopw [5, 8] (fun _ c wr => ∃ k : Nat, k ≤ rs.length ∧ c = .int .i64 (k : Int) ∧ ldsB (rs.take k) = true ∧ Below w.heap.size w wr) (fun _ c _ => rs.length - (intOf c).toNat)
  case atStart => exact ⟨0, Nat.zero_le _, rfl, rfl, Below.refl _ _⟩
  case round =>
    obtain ⟨k, hk, rfl, hf, hb⟩ := hrel
    have HF : Hid (ldsB (rs.take k) = true) := hf
    have HB : Hid (Below w.heap.size w wr) := hb
    clear hf hb
    by_cases hlt : k < rs.length
    · have hlt' : (k : Int) < (rs.length : Int) := by omega
      rcases HR.out with h | ⟨b0, o0, ha, hB0, ia⟩
      · rw [h] at hlt; simp at hlt
      obtain ⟨c0, c1⟩ := (ia.below HB.out hB0) k hlt
      have HX : Hid (ldB (rs.getD k zLd) = false → ldsB rs = false) := fun h => lds_fail hlt h
      have HN : Hid (ldsB (rs.take (k + 1)) = (ldsB (rs.take k) && ldB (rs.getD k zLd))) := lds_take rs k hlt
      have hm : Hid (∀ W, Calls Try.prog 53 #[.agg #[.int .i64 (rs.getD k zLd).pl, .int .i64 (rs.getD k zLd).ex]] W fun e' w' => e' = .returned (.bool (!ldB (rs.getD k zLd))) ∧ Below W.heap.size W w') := fun W => notRight_any _ _ W
      rw [ha]
      clear ia
      generalize ldB (rs.getD k zLd) = mb at *
      generalize (rs.getD k zLd).pl = p at *
      generalize (rs.getD k zLd).ex = q at *
      cases mb
      · go_wp2_with (go_at_call 53; refine (hm.out _).mono ?_; rintro e w2 ⟨rfl, hb2⟩)
        go_ret
        exact ⟨⟨(k : Int), rfl, by rw [HX.out trivial]; exact decide_eq_true (by omega)⟩, chain HB.out hb2⟩
      · go_wp2_with (go_at_call 53; refine (hm.out _).mono ?_; rintro e w2 ⟨rfl, hb2⟩)
        exact ⟨⟨k + 1, by omega, by go_num, by rw [HN.out, HF.out]; rfl, chain HB.out hb2⟩, by simp [intOf]; omega⟩
    · have hle : (rs.length : Int) ≤ (k : Int) := by omega
      have HE : Hid (ldsB rs = true) := by have := HF.out; rwa [List.take_of_length_le (by omega)] at this
      go_wp2
      go_ret
      exact ⟨⟨-1, rfl, by rw [HE.out]; rfl⟩, HB.out⟩
theorem ldContains_any (a : Option Addr) (cap : Nat) (rs : List RLd) (hl : rs.length ≤ 100000000) (w : World) (hr : ReadsLd w.heap.size w a rs) :
    Calls Try.prog 52 #[.slice a rs.length cap, .func (.func 53) #[] #[]] w fun e w' => e = .returned (.bool (!ldsB rs)) ∧ Below w.heap.size w w' := by
  have hi := ldIndex_any a cap rs hl w hr
  clear hr
  go_enter Try.func52, Try.ntmps52
  go_wp2_with (go_at_call 60; refine hi.mono ?_; rintro e w2 ⟨⟨x, rfl, hx⟩, hb2⟩; have HX : Hid (decide (0 ≤ x) = !ldsB rs) := hx; clear hx)
  go_ret
  exact ⟨ret_bool HX.out, hb2⟩
set_option maxHeartbeats 1000000 in
theorem loadsFault_any (a : Option Addr) (cap : Nat) (rs : List RLd) (tr : Int) (hl : rs.length ≤ 100000000) (w : World) (hr : ReadsLd w.heap.size w a rs) :
    Calls Try.prog 38 #[.slice a rs.length cap, .int .i64 tr] w fun e w' => e = .returned (.int .i64 (tkC rs tr)) ∧ Below w.heap.size w w' := by
  have HS : Hid (∀ W, Calls Try.prog 51 #[.agg #[.int .i64 1, .int .i64 100], .int .i64 tr] W fun e w' => e = .returned (.bool (inB tr 1 100)) ∧ Below W.heap.size W w') := fun W => qSpan_any 1 100 tr W
  have HC : Hid (∀ W, Below w.heap.size w W → Calls Try.prog 52 #[.slice a rs.length cap, .func (.func 53) #[] #[]] W fun e w' => e = .returned (.bool (!ldsB rs)) ∧ Below W.heap.size W w') := fun W hW => ldContains_any a cap rs hl W ((hr.below hW).mono hW.size)
  clear hr
  rcases tk_ways rs tr with ⟨h1, h2, _⟩ | ⟨h1, h0, h2, _⟩ | ⟨h1, h0, h2, _⟩ | ⟨h1, h0, h3, h2, _⟩ | ⟨h1, h0, h3, h2, _⟩ <;> rw [h2] <;> clear h2
  · have l1 : (4096 : Int) < (rs.length : Int) := by omega
    go_enter Try.func38, Try.ntmps38
    go_wp2
    go_ret
    exact ⟨rfl, Below.refl _ _⟩
  · have l1 : ¬ (4096 : Int) < (rs.length : Int) := by omega
    have l2 : (40 : Int) < (rs.length : Int) := by omega
    go_enter Try.func38, Try.ntmps38
    go_wp2
    go_ret
    exact ⟨rfl, Below.refl _ _⟩
  · have l1 : ¬ (4096 : Int) < (rs.length : Int) := by omega
    have l2 : ¬ (40 : Int) < (rs.length : Int) := by omega
    rw [h0] at HS
    clear h0 h1
    go_enter Try.func38, Try.ntmps38
    go_wp2_with (go_at_call 51; refine (HS.out _).mono ?_; rintro e w2 ⟨rfl, hb2⟩)
    go_ret
    exact ⟨rfl, chain (below_alloc _ _) hb2⟩
  · have l1 : ¬ (4096 : Int) < (rs.length : Int) := by omega
    have l2 : ¬ (40 : Int) < (rs.length : Int) := by omega
    rw [h0] at HS
    rw [h3] at HC
    clear h0 h1 h3
    go_enter Try.func38, Try.ntmps38
    go_wp2_with (first | (go_at_call 51; refine (HS.out _).mono ?_; rintro e w2 ⟨rfl, hb2⟩) | (go_at_call 52; refine (HC.out _ (chain (below_alloc _ _) hb2)).mono ?_; rintro e w3 ⟨rfl, hb3⟩))
    go_ret
    exact ⟨rfl, chain (chain (below_alloc _ _) hb2) hb3⟩
  · have l1 : ¬ (4096 : Int) < (rs.length : Int) := by omega
    have l2 : ¬ (40 : Int) < (rs.length : Int) := by omega
    rw [h0] at HS
    rw [h3] at HC
    clear h0 h1 h3
    go_enter Try.func38, Try.ntmps38
    go_wp2_with (first | (go_at_call 51; refine (HS.out _).mono ?_; rintro e w2 ⟨rfl, hb2⟩) | (go_at_call 52; refine (HC.out _ (chain (below_alloc _ _) hb2)).mono ?_; rintro e w3 ⟨rfl, hb3⟩))
    go_ret
    exact ⟨rfl, chain (chain (below_alloc _ _) hb2) hb3⟩
theorem togetherT_any (g : Option Addr) (cap : Nat) (L : List Int) (hl : L.length ≤ 40) (hs : ∀ k, k ≤ L.length → 0 ≤ pS L k ∧ pS L k ≤ 1000000) (w : World) (hr : Reads w.heap.size w g L) :
    Calls Try.prog 39 #[.slice g L.length cap] w fun e w' => e = .returned (.int .i64 (pS L L.length)) ∧ w = w' := by
  have HR : Hid (Reads w.heap.size w g L) := hr
  have HS : Hid (∀ k, k ≤ L.length → 0 ≤ pS L k ∧ pS L k ≤ 1000000) := hs
  clear hr hs
  go_enter Try.func39, Try.ntmps39
  go_wp2
  go_loopw [3, 5, 8] (fun s _ c wr => ∃ k : Nat, k ≤ L.length ∧ c = .int .i64 (k : Int) ∧ s = .int .i64 (pS L k) ∧ w = wr) (fun _ _ c _ => L.length - (intOf c).toNat)
  case atStart => exact ⟨0, Nat.zero_le _, rfl, rfl, rfl⟩
  case round =>
    obtain ⟨k, hk, rfl, rfl, hw⟩ := hrel
    subst hw
    by_cases hlt : k < L.length
    · have hlt' : (k : Int) < (L.length : Int) := by omega
      rcases HR.out with h | ⟨b0, o0, ha, hB0, ia⟩
      · rw [h] at hlt; simp at hlt
      have c0 := ia k hlt
      have HN : Hid (pS L (k + 1) = pS L k + L.getD k 0) := rfl
      obtain ⟨s1, s2⟩ := HS.out (k + 1) hlt
      rw [HN.out] at s1 s2
      have hw1 : IntKind.i64.wrap (pS L k + L.getD k 0) = pS L k + L.getD k 0 := wrap_id _ (by omega) (by omega)
      rw [ha]
      clear ia
      generalize L.getD k 0 = x at *
      generalize pS L k = s at *
      go_wp2
      exact ⟨⟨k + 1, by omega, by go_num, by rw [HN.out], by first | rfl | trivial⟩, by simp [intOf]; omega⟩
    · obtain rfl : k = L.length := by omega
      go_wp2
      go_ret
      exact ⟨rfl, rfl⟩
end Go.Proofs.Ytbgjekhekjbcpaa

/-
  Numbers that all lie between two bounds, and a share num / den that is right; contracts of the program's span.has, span.hasAll (with its closure, and the library's slices.IndexFunc, ContainsFunc at it), salesOK, partsOK and of the specification's l16Sales.
-/
import Derived.Test.YthmhpgbkapjjkaaLists0
import Derived.Test.YthmhpgbkapjjkaaRate
namespace Go.Proofs.Ythmhpgbkapjjkaa
open Go.ChangeShapes Go.WideShapes Go.ChangeAt Go.RowKit Go.Joins
set_option linter.unusedVariables false

def alB (lo hi : Int) (xs : List Int) : Bool := xs.all (fun x => inB x lo hi)
theorem al_take (lo hi : Int) (r : List Int) (k : Nat) (h : k < r.length) : alB lo hi (r.take (k + 1)) = (alB lo hi (r.take k) && inB (r.getD k 0) lo hi) := by
  unfold alB
  rw [List.take_succ_eq_append_getElem h, List.all_append]
  have e : r.getD k 0 = r[k] := by simp [List.getD_eq_getElem?_getD, h]
  rw [e]; simp
theorem al_fail {lo hi : Int} {r : List Int} {k : Nat} (h : k < r.length) (hp : inB (r.getD k 0) lo hi = false) : alB lo hi r = false := by
  have e : r.getD k 0 = r[k] := by simp [List.getD_eq_getElem?_getD, h]
  rw [e] at hp
  unfold alB
  rw [List.all_eq_false]
  exact ⟨r[k], List.getElem_mem _, by simp [hp]⟩
theorem al_mem {lo hi : Int} {r : List Int} (h : alB lo hi r = true) : ∀ x ∈ r, lo ≤ x ∧ x ≤ hi := fun x hx => by
  unfold alB at h
  rw [List.all_eq_true] at h
  have := h x hx
  unfold inB at this
  simpa using this
theorem al_of {lo hi : Int} {r : List Int} (h : ∀ x ∈ r, lo ≤ x ∧ x ≤ hi) : alB lo hi r = true := by
  unfold alB
  rw [List.all_eq_true]
  intro x hx
  exact decide_eq_true (h x hx)
theorem al_getD {lo hi : Int} {r : List Int} (h : alB lo hi r = true) (h0 : lo ≤ 0 ∧ 0 ≤ hi) (k : Nat) : lo ≤ r.getD k 0 ∧ r.getD k 0 ≤ hi := by
  by_cases hk : k < r.length
  · exact getD_bound (al_mem h) k hk
  · rw [List.getD_eq_getElem?_getD, List.getElem?_eq_none (by omega)]; exact h0
theorem qSpan_any (a b n : Int) (w : World) :
    Calls Try.prog 77 #[.agg #[.int .i64 a, .int .i64 b], .int .i64 n] w fun e w' => e = .returned (.bool (inB n a b)) ∧ Below w.heap.size w w' := by
  unfold inB
  rcases (by omega : n < a ∨ (a ≤ n ∧ b < n) ∨ (a ≤ n ∧ n ≤ b)) with h1 | ⟨h1, h2⟩ | ⟨h1, h2⟩
  all_goals
    go_enter Try.func77, Try.ntmps77
    go_wp2
    go_ret
    refine ⟨ret_bool ?_, below_alloc _ _⟩
    rw [Bool.eq_iff_iff]
    simp <;> omega
theorem qNot_any (lo hi x : Int) (sb : Nat) (w : World) (h0 : w.cell? ⟨sb, 0, none⟩ = some (.int .i64 lo)) (h1 : w.cell? ⟨sb, 1, none⟩ = some (.int .i64 hi)) :
    Calls Try.prog 81 #[.int .i64 x, .pointer (some ⟨sb, 0, none⟩)] w fun e w' => e = .returned (.bool (!inB x lo hi)) ∧ Below w.heap.size w w' := by
  have HS : Hid (∀ W, Calls Try.prog 77 #[.agg #[.int .i64 lo, .int .i64 hi], .int .i64 x] W fun e w' => e = .returned (.bool (inB x lo hi)) ∧ Below W.heap.size W w') := fun W => qSpan_any lo hi x W
  generalize inB x lo hi = b at *
  go_enter Try.func81, Try.ntmps81
  go_wp2_with (go_at_call 77; refine (HS.out _).mono ?_; rintro e w2 ⟨rfl, hb2⟩)
  go_ret
  exact ⟨rfl, hb2⟩
set_option maxHeartbeats 2000000 in
theorem qIndex_any (lo hi : Int) (a : Option Addr) (cap : Nat) (gs : List Int) (hl : gs.length ≤ 100000000) (sb : Nat) (w : World) (hr : Reads w.heap.size w a gs) (hs : sb < w.heap.size) (h0 : w.cell? ⟨sb, 0, none⟩ = some (.int .i64 lo)) (h1 : w.cell? ⟨sb, 1, none⟩ = some (.int .i64 hi)) :
    Calls Try.prog 85 #[.slice a gs.length cap, .func (.func 81) #[] #[.pointer (some ⟨sb, 0, none⟩)]] w fun e w' => (∃ x : Int, e = .returned (.int .i64 x) ∧ decide (0 ≤ x) = !alB lo hi gs) ∧ Below w.heap.size w w' := by
  have HR : Hid (Reads w.heap.size w a gs) := hr
  have HC : Hid (∀ x W, Below w.heap.size w W → Calls Try.prog 81 #[.int .i64 x, .pointer (some ⟨sb, 0, none⟩)] W fun e w' => e = .returned (.bool (!inB x lo hi)) ∧ Below W.heap.size W w') := fun x W hb => qNot_any lo hi x sb W ((hb.cell (p := ⟨sb, 0, none⟩) hs).trans h0) ((hb.cell (p := ⟨sb, 1, none⟩) hs).trans h1)
  clear hr h0 h1 hs
  go_enter Try.func85, Try.ntmps85
  go_wp2
  go_loopw [5, 8] (fun _ c wr => ∃ k : Nat, k ≤ gs.length ∧ c = .int .i64 (k : Int) ∧ alB lo hi (gs.take k) = true ∧ Below w.heap.size w wr) (fun _ c _ => gs.length - (intOf c).toNat)
  case atStart => exact ⟨0, Nat.zero_le _, rfl, rfl, Below.refl _ _⟩
  case round =>
    obtain ⟨k, hk, rfl, hf, hb⟩ := hrel
    have HF : Hid (alB lo hi (gs.take k) = true) := hf
    have HB : Hid (Below w.heap.size w wr) := hb
    clear hf hb
    by_cases hlt : k < gs.length
    · have hlt' : (k : Int) < (gs.length : Int) := by omega
      rcases HR.out with h | ⟨b0, o0, ha, hB0, ia⟩
      · rw [h] at hlt; simp at hlt
      have c0 := (ia.below HB.out hB0) k hlt
      have HX : Hid (inB (gs.getD k 0) lo hi = false → alB lo hi gs = false) := fun h => al_fail hlt h
      have HN : Hid (alB lo hi (gs.take (k + 1)) = (alB lo hi (gs.take k) && inB (gs.getD k 0) lo hi)) := al_take lo hi gs k hlt
      have hm := HC.out (gs.getD k 0) wr HB.out
      rw [ha]
      clear ia
      generalize gs.getD k 0 = q at *
      generalize inB q lo hi = mb at *
      cases mb
      · go_wp2_with (go_at_call 81; refine hm.mono ?_; rintro e w2 ⟨rfl, hb2⟩)
        go_ret
        exact ⟨⟨(k : Int), rfl, by rw [HX.out trivial]; exact decide_eq_true (by omega)⟩, chain HB.out hb2⟩
      · go_wp2_with (go_at_call 81; refine hm.mono ?_; rintro e w2 ⟨rfl, hb2⟩)
        exact ⟨⟨k + 1, by omega, by go_num, by rw [HN.out, HF.out]; rfl, chain HB.out hb2⟩, by simp [intOf]; omega⟩
    · have hle : (gs.length : Int) ≤ (k : Int) := by omega
      have HE : Hid (alB lo hi gs = true) := by have := HF.out; rwa [List.take_of_length_le (by omega)] at this
      go_wp2
      go_ret
      exact ⟨⟨-1, rfl, by rw [HE.out]; rfl⟩, HB.out⟩
theorem qContains_any (lo hi : Int) (a : Option Addr) (cap : Nat) (gs : List Int) (hl : gs.length ≤ 100000000) (sb : Nat) (w : World) (hr : Reads w.heap.size w a gs) (hs : sb < w.heap.size) (h0 : w.cell? ⟨sb, 0, none⟩ = some (.int .i64 lo)) (h1 : w.cell? ⟨sb, 1, none⟩ = some (.int .i64 hi)) :
    Calls Try.prog 80 #[.slice a gs.length cap, .func (.func 81) #[] #[.pointer (some ⟨sb, 0, none⟩)]] w fun e w' => e = .returned (.bool (!alB lo hi gs)) ∧ Below w.heap.size w w' := by
  have hi := qIndex_any lo hi a cap gs hl sb w hr hs h0 h1
  clear hr h0 h1
  go_enter Try.func80, Try.ntmps80
  go_wp2_with (go_at_call 85; refine hi.mono ?_; rintro e w2 ⟨⟨x, rfl, hx⟩, hb2⟩; have HX : Hid (decide (0 ≤ x) = !alB lo _ gs) := hx; clear hx)
  go_ret
  exact ⟨ret_bool HX.out, hb2⟩
theorem hasAll_any (lo hi : Int) (a : Option Addr) (cap : Nat) (gs : List Int) (hl : gs.length ≤ 100000000) (w : World) (hr : Reads w.heap.size w a gs) :
    Calls Try.prog 70 #[.agg #[.int .i64 lo, .int .i64 hi], .slice a gs.length cap] w fun e w' => e = .returned (.bool (alB lo hi gs)) ∧ Below w.heap.size w w' := by
  have HC : Hid (∀ sb W, Below w.heap.size w W → sb < W.heap.size → W.cell? ⟨sb, 0, none⟩ = some (.int .i64 lo) → W.cell? ⟨sb, 1, none⟩ = some (.int .i64 hi) → Calls Try.prog 80 #[.slice a gs.length cap, .func (.func 81) #[] #[.pointer (some ⟨sb, 0, none⟩)]] W fun e w' => e = .returned (.bool (!alB lo hi gs)) ∧ Below W.heap.size W w') := fun sb W hb h1 h2 h3 => qContains_any lo hi a cap gs hl sb W ((hr.below hb).mono hb.size) h1 h2 h3
  generalize alB lo hi gs = b at *
  clear hr
  go_enter Try.func70, Try.ntmps70
  go_wp2_with (go_at_call 80; refine (HC.out _ _ (below_alloc _ _) (by simp) (by simp) (by simp)).mono ?_; rintro e w2 ⟨rfl, hb2⟩)
  go_ret
  exact ⟨ret_bool (by simp), chain (below_alloc _ _) hb2⟩
def ptB (l n d : Int) : Bool := inB d 1 1000 && inB n l d
theorem pt_facts {l n d : Int} (h : ptB l n d = true) : (1 ≤ d ∧ d ≤ 1000) ∧ l ≤ n ∧ n ≤ d := by
  unfold ptB inB at h
  simp only [Bool.and_eq_true, decide_eq_true_eq] at h
  exact ⟨h.1, h.2⟩
theorem pt_of {l n d : Int} (h : (1 ≤ d ∧ d ≤ 1000) ∧ l ≤ n ∧ n ≤ d) : ptB l n d = true := by
  unfold ptB inB
  simp only [Bool.and_eq_true, decide_eq_true_eq]
  exact ⟨h.1, h.2⟩
end Go.Proofs.Ythmhpgbkapjjkaa

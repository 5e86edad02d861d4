/-
  A region that draws its order, by what holds behind any of its operations: a condition on what has come up, the frame and the world, kept by each operation that may come up. Nothing of the program is in it.
-/
import Derived.Test.YtlfcaijhlgldnaaBase
import Derived.Deep.RegionHeld
namespace Go.Proofs.Ytlfcaijhlgldnaa
open Go.ChangeShapes Go.WideShapes Go.ChangeAt Go.RowKit Go.Deep
set_option linter.unusedVariables false

theorem count_up : ∀ (l : List Bool) (i : Nat), l[i]? = some false → (l.set i true).count false + 1 = l.count false
  | [], i, h => by simp at h
  | x :: l, 0, h => by
    obtain rfl : x = false := by simpa using h
    simp
  | x :: l, i + 1, h => by
    have := count_up l i (by simpa using h)
    simp only [List.set_cons_succ, List.count_cons]
    omega
section
variable {P : Program} {ops : Array Oper} {Q : Exit → Act → World → Prop} {md : Region.Mode} {I : Array Bool → Act → World → Prop}

theorem ready_count {l : Array Bool} {i : Nat} (h : i ∈ Region.ready md ops l) : (l.setIfInBounds i true).toList.count false + 1 = l.toList.count false := by
  have h1 := (mem_ready.1 h).1
  have h2 : l.toList[i]? = some false := by
    rcases Nat.lt_or_ge i l.size with q | q
    · simp [q] at h1 ⊢; exact h1
    · simp [Array.getElem?_eq_none q] at h1
  rw [Array.toList_setIfInBounds]
  exact count_up _ _ h2
theorem wpAny_inv (hd : ∀ l a w, I l a w → Region.ready md ops l = [] → Q .normal a w) (hs : ∀ l a w, I l a w → ∀ i ∈ Region.ready md ops l, wpOp P ops Q i (I (l.setIfInBounds i true)) a w) :
    ∀ (fuel : Nat) (l : Array Bool) (a : Act) (w : World), l.toList.count false ≤ fuel → I l a w → wpAny P md ops Q fuel l a w
  | 0, l, a, w, hc, h => by
    have h0 : Region.ready md ops l = [] := List.eq_nil_iff_forall_not_mem.2 fun i hi => by have := ready_count hi; omega
    exact ⟨h0, hd l a w h h0⟩
  | fuel + 1, l, a, w, hc, h => ⟨hd l a w h, fun i hi => wpOp_mono (fun a' w' h' => wpAny_inv hd hs fuel _ a' w' (by have := ready_count hi; omega) h') (hs l a w h i hi)⟩
theorem wp_region_inv (I : Array Bool → Act → World → Prop) {id : Nat} {a : Act} {w : World} (hm : P.follows .mixedOrders = true) (h0 : I (Array.replicate ops.size false) a w.drew)
    (hd : ∀ l a w, I l a w → Region.ready .any ops l = [] → Q .normal a w)
    (hs : ∀ l a w, I l a w → ∀ i, l.getD i true = false → ∀ o, ops[i]? = some o → (∀ e ∈ o.after, Region.binds .any e = true → l.getD e.on false = true) → ∀ K' : Act → World → Prop, Shut (∀ a w, I (l.setIfInBounds i true) a w → K' a w) → if Region.wanted o (yielded ops a.tmps) = true then Oper.wp P o a w K' Q else K' (a.put o.dst undef) w) :
    (Code.region id ops true).wp P Q a w :=
  wp_region_any hm (wpAny_inv (md := .any) hd (fun l a w h i hi => by
    obtain ⟨h1, o, ho, h2⟩ := mem_ready.1 hi
    exact wpOp_step ho (hs l a w h i h1 o ho h2)) _ _ _ _ (by simp) h0)
def backB (ops : Array Oper) : Bool := (List.range ops.size).all fun i => match ops[i]? with
  | some o => o.after.all fun e => decide (e.on < i)
  | none => true
/-- Where each operation waits for earlier ones only, all have come up once none may come up. -/
theorem all_listed (hb : backB ops = true) {l : Array Bool} (hl : l.size = ops.size) (h : Region.ready md ops l = []) (i : Nat) : i < ops.size → l.getD i false = true := by
  induction i using Nat.strongRecOn with
  | ind i ih =>
    intro hi
    refine Decidable.byContradiction fun hc => ?_
    have hu : l.getD i true = false := by
      have hi' : i < l.size := by omega
      simp [hi'] at hc ⊢
      exact hc
    have : i ∈ Region.ready md ops l := by
      refine mem_ready.2 ⟨hu, ops[i], Array.getElem?_eq_getElem hi, fun e he _ => ?_⟩
      have h1 := List.all_eq_true.1 hb i (List.mem_range.2 hi)
      rw [Array.getElem?_eq_getElem hi] at h1
      have h2 : e.on < i := by simpa using Array.all_eq_true_iff_forall_mem.1 h1 e he
      exact ih e.on h2 (by omega)
    rw [h] at this
    cases this
end
end Go.Proofs.Ytlfcaijhlgldnaa

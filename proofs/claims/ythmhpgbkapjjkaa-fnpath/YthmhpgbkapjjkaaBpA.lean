/-
  The search for the shortest way in memory: its block, the best way so far, the order of a way in a row of numbers; the library's slices.Contains and slices.Clone at such a row.
-/
import Derived.Test.YthmhpgbkapjjkaaBpM
import Derived.Test.YthmhpgbkapjjkaaPlC
import Derived.Test.YthmhpgbkapjjkaaBpV
namespace Go.Proofs.Ythmhpgbkapjjkaa
open Go.ChangeShapes Go.WideShapes Go.ChangeAt Go.RowKit Go.Joins Go.Deep
set_option linter.unusedVariables false

/-- The best way so far: none, or its order and its length behind a pointer; ob is the block of its order. -/
def BsI (B : Nat) (b : Option (List Int × Int)) (ob : Option Nat) (bp : Value) (W : World) : Prop :=
  (b = none ∧ bp = .pointer none ∧ ob = none) ∨ ∃ (O : List Int) (l : Int) (bb : Nat) (go : Option Addr) (co : Nat), b = some (O, l) ∧ bp = .pointer (some ⟨bb, 0, none⟩) ∧ W.heap[bb]? = some (.cells #[.slice go O.length co, .int .i64 0, .int .i64 0, .int .i64 l] 77 (0, 0)) ∧ W.ownsRow B 3 1 (.slice go O.length co) O.length (inV O) ∧ ob = Value.ownBlock (.slice go O.length co)
/-- The search in block sb. -/
def PsI (B sb : Nat) (a p g : Int) (ad : Option Addr) (cap : Nat) (rs : List RPt) (b : Option (List Int × Int)) (ob : Option Nat) (W : World) : Prop :=
  ∃ bp, W.heap[sb]? = some (.cells #[.int .i64 a, .int .i64 p, .int .i64 g, .slice ad rs.length cap, bp] 73 (0, 0)) ∧ BsI B b ob bp W
section
variable {B sb : Nat} {a p g : Int} {ad : Option Addr} {cap : Nat} {rs : List RPt} {b : Option (List Int × Int)} {ob : Option Nat} {bp : Value} {W W' : World}
theorem BsI.other (h : BsI B b ob bp W) (hk : ∀ k V t, W.heap[k]? = some (.cells V t (0, 0)) → (t ≠ 3 ∨ ob = some k) → t ≠ 73 → W'.heap[k]? = W.heap[k]?) : BsI B b ob bp W' := by
  rcases h with h | ⟨O, l, bb, go, co, h1, h2, h3, h4, h5⟩
  · exact .inl h
  · refine .inr ⟨O, l, bb, go, co, h1, h2, (hk bb _ _ h3 (.inl (by decide)) (by decide)).trans h3, row_of h4 (fun q hq => ?_), h5⟩
    obtain ⟨cur, hc⟩ := row_type h4 hq
    exact hk q _ _ hc (.inr (by rw [h5, hq])) (by decide)
theorem PsI.other (h : PsI B sb a p g ad cap rs b ob W) (hk : ∀ k V t, W.heap[k]? = some (.cells V t (0, 0)) → (t ≠ 3 ∨ ob = some k) → W'.heap[k]? = W.heap[k]?) : PsI B sb a p g ad cap rs b ob W' := by
  obtain ⟨bp, h1, h2⟩ := h
  exact ⟨bp, (hk sb _ _ h1 (.inl (by decide))).trans h1, h2.other (fun k V t e q _ => hk k V t e q)⟩
theorem PsI.later (h : PsI B sb a p g ad cap rs b ob W) (hb : Below W.heap.size W W') : PsI B sb a p g ad cap rs b ob W' := h.other (fun k V t e _ => hb.block k (blkLt e))
/-- A row of numbers is written that is not the best way's. -/
theorem PsI.row (h : PsI B sb a p g ad cap rs b ob W) {o : Option Nat} (hg : W.grownBy W' o) (ho : ∀ q, o = some q → (∃ cur, W.heap[q]? = some (.cells cur 3 (0, 0))) ∧ ob ≠ some q) : PsI B sb a p g ad cap rs b ob W' := h.other (fun k V t e q => hg.block k (blkLt e) (fun e2 => by
  obtain ⟨⟨cur, hc⟩, hn⟩ := ho k e2.symm
  rcases q with q | q
  · rw [e] at hc; simp at hc; exact q hc.2
  · exact hn q))
theorem PsI.cells (h : PsI B sb a p g ad cap rs b ob W) : W.cell? ⟨sb, 0, none⟩ = some (.int .i64 a) ∧ W.cell? ⟨sb, 1, none⟩ = some (.int .i64 p) ∧ W.cell? ⟨sb, 2, none⟩ = some (.int .i64 g) ∧ W.cell? ⟨sb, 3, none⟩ = some (.slice ad rs.length cap) := by
  obtain ⟨bp, h1, _⟩ := h
  exact ⟨blkCell h1 0 _ rfl, blkCell h1 1 _ rfl, blkCell h1 2 _ rfl, blkCell h1 3 _ rfl⟩
theorem PsI.lt (h : PsI B sb a p g ad cap rs b ob W) : sb < W.heap.size := by obtain ⟨bp, h1, _⟩ := h; exact blkLt h1
/-- The best way is another one: its block bb is new. -/
theorem PsI.put {O : List Int} {l : Int} {bb : Nat} {go : Option Addr} {co : Nat} (h : PsI B sb a p g ad cap rs b ob W) (hbb : W.heap[bb]? = some (.cells #[.slice go O.length co, .int .i64 0, .int .i64 0, .int .i64 l] 77 (0, 0))) (hr : W.ownsRow B 3 1 (.slice go O.length co) O.length (inV O)) : PsI B sb a p g ad cap rs (some (O, l)) (Value.ownBlock (.slice go O.length co)) (W.setCell ⟨sb, 4, none⟩ (.pointer (some ⟨bb, 0, none⟩))) := by
  obtain ⟨bp, h1, _⟩ := h
  have e1 := heap_setCell_same W sb 4 _ _ (.pointer (some ⟨bb, 0, none⟩)) h1
  have hne : ∀ {d : Nat} {V : Array Value} {t : TypeId}, W.heap[d]? = some (.cells V t (0, 0)) → t ≠ 73 → (W.setCell ⟨sb, 4, none⟩ (.pointer (some ⟨bb, 0, none⟩))).heap[d]? = W.heap[d]? := fun {d V t} hd ht => heap_setCell_other _ _ _ _ (fun e => by
    have e : d = sb := e
    rw [e, h1] at hd
    simp at hd
    exact ht hd.2.symm)
  refine ⟨.pointer (some ⟨bb, 0, none⟩), by rw [e1]; simp only [List.setIfInBounds_toArray, List.set_cons_zero, List.set_cons_succ], .inr ⟨O, l, bb, go, co, rfl, rfl, (hne hbb (by decide)).trans hbb, row_of hr (fun q hq => ?_), rfl⟩⟩
  obtain ⟨cur, hc⟩ := row_type hr hq
  exact hne hc (by decide)
end
/-- The places that a way has not been to. -/
def lfL (L : List Int) (n : Nat) : List Nat := unL (fun i => hasI L (i : Int)) n
theorem lf_snoc (L : List Int) (n i : Nat) : lfL (L ++ [(i : Int)]) n = (lfL L n).erase i := unL_erase (fun j => hasI_snoc L i j)
theorem len_filter (p : Nat → Bool) : ∀ l : List Nat, (l.filter p).length + (l.filter fun i => !p i).length = l.length
  | [] => rfl
  | x :: l => by
    have := len_filter p l
    cases h : p x <;> simp [h] <;> omega
theorem lf_len {L : List Int} {n : Nat} (hn : L.Nodup) (hi : ∀ x ∈ L, 0 ≤ x ∧ x < (n : Int)) : (lfL L n).length + L.length = n := by
  have h1 : ((List.range n).filter fun i : Nat => hasI L (i : Int)).length = L.length := by
    have hnd : (((List.range n).filter fun i : Nat => hasI L (i : Int)).map (fun i : Nat => (i : Int))).Nodup := by
      rw [List.Nodup, List.pairwise_map]
      exact (List.Pairwise.filter _ (List.nodup_range (n := n))).imp (fun h e => h (by omega))
    have hp := (List.perm_ext_iff_of_nodup hnd hn).2 (fun x => by
      constructor
      · intro hx
        obtain ⟨i, hi2, rfl⟩ := List.mem_map.1 hx
        exact (hasI_mem _ _).1 (List.mem_filter.1 hi2).2
      · intro hx
        obtain ⟨k1, k2⟩ := hi x hx
        exact List.mem_map.2 ⟨x.toNat, List.mem_filter.2 ⟨List.mem_range.2 (by omega), (hasI_mem _ _).2 (by rw [show ((x.toNat : Nat) : Int) = x by omega]; exact hx)⟩, by omega⟩)
    have := hp.length_eq
    rwa [List.length_map] at this
  have h2 := len_filter (fun i : Nat => hasI L (i : Int)) (List.range n)
  rw [List.length_range] at h2
  have e3 : (lfL L n).length = ((List.range n).filter fun i : Nat => !hasI L (i : Int)).length := rfl
  omega
end Go.Proofs.Ythmhpgbkapjjkaa

/-
  Which rules are hidden, as numbers; two rows that grow side by side.
-/
import Derived.Test.YthkmgccmeoigpaaRhC
import Derived.Test.YthkmgccmeoigpaaRfA
namespace Go.Proofs.Ythkmgccmeoigpaa
open Go.ChangeShapes Go.WideShapes Go.ChangeAt Go.RowKit Go.Deep
set_option linter.unusedVariables false

def aheadL (rs : List CCl) (k : Nat) : List (List Int) := (rs.take k).map fun c => rm c.ts
theorem aheadL_len (rs : List CCl) (k : Nat) (h : k ≤ rs.length) : (aheadL rs k).length = k := by simp [aheadL]; omega
theorem aheadL_12 (rs : List CCl) (k : Nat) : ∀ L ∈ aheadL rs k, L.length = 12 := fun L hL => by
  obtain ⟨c, _, rfl⟩ := List.mem_map.mp hL
  rfl
theorem aheadL_next (rs : List CCl) (k : Nat) (h : k < rs.length) : aheadL rs k ++ [rm (rs.getD k zCl).ts] = aheadL rs (k + 1) := by
  have e : rs.getD k zCl = rs[k] := by simp [List.getD_eq_getElem?_getD, h]
  unfold aheadL
  rw [List.take_succ_eq_append_getElem h, List.map_append, e]
  rfl
/-- Is rule k hidden? -/
def hidB (rs : List CCl) (k : Nat) : Bool := emptyL (rm (rs.getD k zCl).ts) || covAny (aheadL rs k) (rm (rs.getD k zCl).ts)
def hidN (rs : List CCl) : Nat → List Int
  | 0 => []
  | k + 1 => if hidB rs k = true then hidN rs k ++ [(k : Int)] else hidN rs k
theorem hidN_len (rs : List CCl) : ∀ k, (hidN rs k).length ≤ k
  | 0 => Nat.le_refl _
  | k + 1 => by
    have := hidN_len rs k
    unfold hidN
    split
    · rw [List.length_append]; simp; omega
    · omega
theorem hidN_yes {rs : List CCl} {k : Nat} (h : hidB rs k = true) : hidN rs (k + 1) = hidN rs k ++ [(k : Int)] := by
  show (if hidB rs k = true then _ else _) = _
  rw [if_pos h]
theorem hidN_no {rs : List CCl} {k : Nat} (h : hidB rs k = false) : hidN rs (k + 1) = hidN rs k := by
  show (if hidB rs k = true then _ else _) = _
  rw [if_neg (by rw [h]; simp)]
/-- What Hidden answers. -/
def hidL (rs : List CCl) : List Int := if fltC rs = 0 then hidN rs rs.length else []
theorem hidL_len (rs : List CCl) : (hidL rs).length ≤ rs.length := by
  unfold hidL
  split
  · exact hidN_len rs _
  · exact Nat.zero_le _

theorem row_by_block {w w' : World} {B : Nat} {e : TypeId} {k : Nat} {v : Value} {n : Nat} {xs : List Value} (h : w.ownsRow B e k v n xs) (hb : ∀ q, v.ownBlock = some q → w'.heap[q]? = w.heap[q]?) : w'.ownsRow B e k v n xs := by
  obtain ⟨h1, h2⟩ := h
  refine ⟨h1, ?_⟩
  rcases h2 with h2 | ⟨g, cap, cur, rfl, hB, hg, r⟩
  · exact .inl h2
  · exact .inr ⟨g, cap, cur, rfl, hB, (hb g rfl).trans hg, r⟩
theorem row_value {w : World} {B : Nat} {e : TypeId} {k : Nat} {v : Value} {n : Nat} {xs : List Value} (h : w.ownsRow B e k v n xs) : ∃ g cp, v = .slice g n cp := by
  rcases h.2 with ⟨rfl, rfl⟩ | ⟨g, cap, cur, rfl, _⟩
  · exact ⟨_, _, rfl⟩
  · exact ⟨_, _, rfl⟩
/-- A row of numbers and a row of rooms, each in a block of its own. -/
def Two (w : World) (hv : Value) (L : List Int) (av : Value) (Ls : List (List Int)) (wr : World) : Prop := One w w.heap.size hv L wr ∧ OneR w w.heap.size av Ls wr ∧ ∀ q, hv.ownBlock = some q → av.ownBlock ≠ some q
theorem Two.start (w w1 : World) (h : Below w.heap.size w w1) : Two w (.slice none 0 0) [] (.slice none 0 0) [] w1 :=
  ⟨⟨World.ownsRow_nil _ _ _ _, h.size, h⟩, ⟨World.ownsRow_nil _ _ _ _, h.size, h⟩, fun q hq => by cases hq⟩
theorem Two.below {w : World} {hv av : Value} {L : List Int} {Ls : List (List Int)} {wr : World} (h : Two w hv L av Ls wr) : Below w.heap.size w wr := h.1.2.2
theorem Two.later {w : World} {hv av : Value} {L : List Int} {Ls : List (List Int)} {wr w' : World} (h : Two w hv L av Ls wr) (hb : Below wr.heap.size wr w') : Two w hv L av Ls w' := ⟨h.1.later hb, h.2.1.later hb, h.2.2⟩
theorem Two.pushH {w : World} {hv av : Value} {L : List Int} {Ls : List (List Int)} {wr w' : World} {g cp : Nat} {x : Int} (h : Two w hv L av Ls wr)
    (ho : w'.ownsRow w.heap.size 3 1 (.slice (some ⟨g, 0, none⟩) (L.length + 1) cp) (L.length + 1) (L.map (Value.int .i64) ++ [.int .i64 x])) (hg : wr.grownBy w' hv.ownBlock) (hat : hv.ownBlock = some g ∨ g = wr.heap.size) :
    Two w (.slice (some ⟨g, 0, none⟩) (L.length + 1) cp) (L ++ [x]) av Ls w' := by
  obtain ⟨h1, h2, h3⟩ := h
  refine ⟨h1.push ho hg, ⟨row_by_block h2.1 (fun q hq => hg.block q (h2.1.lt q hq).2 (fun e => h3 q e.symm hq)), Nat.le_trans h2.2.1 hg.size, (h1.push ho hg).2.2⟩, fun q hq => ?_⟩
  cases hq
  intro e
  rcases hat with k | k
  · exact h3 g k e
  · have := (h2.1.lt g e).2
    omega
theorem Two.pushA {w : World} {hv av : Value} {L : List Int} {Ls : List (List Int)} {wr w' : World} {g cp : Nat} {M : List Int} (h : Two w hv L av Ls wr)
    (ho : w'.ownsRow w.heap.size 64 12 (.slice (some ⟨g, 0, none⟩) (Ls.length + 1) cp) (Ls.length + 1) (cellsR Ls ++ M.map (Value.int .i64))) (hg : wr.grownBy w' av.ownBlock) (hat : av.ownBlock = some g ∨ g = wr.heap.size) :
    Two w hv L (.slice (some ⟨g, 0, none⟩) (Ls.length + 1) cp) (Ls ++ [M]) w' := by
  obtain ⟨h1, h2, h3⟩ := h
  refine ⟨⟨row_by_block h1.1 (fun q hq => hg.block q (h1.1.lt q hq).2 (fun e => h3 q hq e.symm)), Nat.le_trans h1.2.1 hg.size, (h2.push ho hg).2.2⟩, h2.push ho hg, fun q hq => ?_⟩
  intro e
  cases e
  rcases hat with k | k
  · exact h3 g hq k
  · have := (h1.1.lt g hq).2
    omega
end Go.Proofs.Ythkmgccmeoigpaa

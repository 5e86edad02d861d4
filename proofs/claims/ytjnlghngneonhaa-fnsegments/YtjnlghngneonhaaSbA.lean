/-
  Rows of bytes that grow; the texts of segments as mathematics.
-/
import Derived.Test.YtjnlghngneonhaaSgF
import Derived.Test.YtjnlghngneonhaaRow1
import Derived.Lib.AppendStr
import Derived.Laws.BytesString
import Derived.Laws.BytesArg
namespace Go.Proofs.Ytjnlghngneonhaa
open Go.ChangeShapes Go.WideShapes Go.ChangeAt Go.RowKit Go.Joins Go.Deep
set_option linter.unusedVariables false

/-- The bytes of a text, as numbers. -/
def byL (s : ByteArray) : List Int := s.data.toList.map fun b => (b.toNat : Int)
theorem byL_len (s : ByteArray) : (byL s).length = s.size := by
  unfold byL; rw [List.length_map, Array.length_toList]; rfl
theorem byL_cells (s : ByteArray) : Lib.strCells s = (byL s).map (Value.int .u8) := by
  unfold Lib.strCells byL; rw [List.map_map]; rfl
theorem byL_at (s : ByteArray) (i : Nat) (h : i < s.size) : (byL s).getD i 0 = (s[i].toNat : Int) := by
  have h' : i < s.data.size := h
  unfold byL
  simp only [List.getD_eq_getElem?_getD, List.getElem?_map]
  rw [Array.getElem?_toList, Array.getElem?_eq_getElem h']
  rfl
theorem byL_range (s : ByteArray) (i : Nat) : 0 ≤ (byL s).getD i 0 ∧ (byL s).getD i 0 ≤ 255 := by
  by_cases h : i < s.size
  · rw [byL_at s i h]; have := s[i].toNat_lt; omega
  · rw [List.getD_eq_getElem?_getD, List.getElem?_eq_none (by rw [byL_len]; omega)]; simp
theorem idx_any (s : ByteArray) (i : Nat) (h : i < s.size) (w : World) : (Instr.index 9 (.string s) (.int .i64 (i : Int))).run Try.prog w = .ok (.int .u8 ((byL s).getD i 0)) w := by
  rw [byL_at s i h]; simp [go_sem, h]
/-- The text that bytes make. -/
def txL (L : List Int) : ByteArray := L.foldl (fun r n => r.push (UInt8.ofNat n.toNat)) ByteArray.empty
/-- v is a row of bytes of its own, from block B on; they are L. -/
def One8 (w : World) (B : Nat) (v : Value) (L : List Int) (wr : World) : Prop :=
  wr.ownsRow B 5 1 v L.length (L.map (Value.int .u8)) ∧ B ≤ wr.heap.size ∧ Below B w wr
theorem One8.nil (w : World) (B : Nat) (hB : w.heap.size = B) : One8 w B (.slice none 0 0) [] w := by
  subst hB
  exact ⟨⟨rfl, .inl ⟨rfl, rfl⟩⟩, Nat.le_refl _, Below.refl _ _⟩
theorem One8.start (w : World) (B : Nat) (hB : w.heap.size = B) : One8 w B (.slice (some ⟨B, 0, none⟩) 0 0) [] (w.alloc (Obj.cells #[] 5)) := by
  subst hB
  refine ⟨⟨rfl, .inr ⟨w.heap.size, 0, #[], rfl, Nat.le_refl _, heapNew w _, Nat.le_refl _, by unfold maxLen; omega, rfl, rfl⟩⟩, by simp, below_alloc w _⟩
theorem One8.alloc {w : World} {B : Nat} {v : Value} {L : List Int} {wr : World} (h : One8 w B v L wr) (o : Obj) : One8 w B v L (wr.alloc o) :=
  ⟨h.1.alloc _, by have := h.2.1; simp; omega, h.2.2.alloc h.2.1 _⟩
theorem One8.later {w : World} {B : Nat} {v : Value} {L : List Int} {wr w' : World} (h : One8 w B v L wr) (hb : Below wr.heap.size wr w') : One8 w B v L w' := by
  obtain ⟨⟨h1, h2⟩, h3, h4⟩ := h
  refine ⟨⟨h1, ?_⟩, Nat.le_trans h3 hb.size, h4.trans (hb.mono h3)⟩
  rcases h2 with h2 | ⟨g, cap, cur, e, hB, hg, r⟩
  · exact .inl h2
  · refine .inr ⟨g, cap, cur, e, hB, ?_, r⟩
    obtain ⟨hlt, _⟩ := Array.getElem?_eq_some_iff.1 hg
    exact (hb.block g hlt).trans hg
/-- The same row, seen from an older world. -/
theorem One8.from {w W : World} {B : Nat} {v : Value} {L : List Int} {wr : World} (h : One8 W B v L wr) (hb : Below B w W) : One8 w B v L wr := ⟨h.1, h.2.1, hb.trans h.2.2⟩
theorem One8.push {w : World} {B : Nat} {v : Value} {L : List Int} {wr w' : World} {g cp : Nat} {x : Int} (h : One8 w B v L wr)
    (ho : w'.ownsRow B 5 1 (.slice (some ⟨g, 0, none⟩) (L.length + 1) cp) (L.length + 1) (L.map (Value.int .u8) ++ [.int .u8 x])) (hg : wr.grownBy w' v.ownBlock) : One8 w B (.slice (some ⟨g, 0, none⟩) (L.length + 1) cp) (L ++ [x]) w' := by
  obtain ⟨h1, h4, h5⟩ := h
  refine ⟨?_, Nat.le_trans h4 hg.size, h5.grown hg h4 (fun q hq => (h1.lt q hq).1)⟩
  rw [List.length_append, List.map_append]; exact ho
theorem One8.pushS {w : World} {B : Nat} {v v' : Value} {L : List Int} {wr w' : World} {s : ByteArray} (h : One8 w B v L wr)
    (ho : w'.ownsRow B 5 1 v' (L.length + s.size) (L.map (Value.int .u8) ++ Lib.strCells s)) (hg : wr.grownBy w' v.ownBlock) : One8 w B v' (L ++ byL s) w' := by
  obtain ⟨h1, h4, h5⟩ := h
  refine ⟨?_, Nat.le_trans h4 hg.size, h5.grown hg h4 (fun q hq => (h1.lt q hq).1)⟩
  rw [List.length_append, List.map_append, byL_len, ← byL_cells]; exact ho
/-- What such a slice looks like. -/
theorem One8.form {w : World} {B : Nat} {v : Value} {L : List Int} {wr : World} (h : One8 w B v L wr) : ∃ a cp, v = .slice a L.length cp := by
  rcases h.1.2 with ⟨h1, h2⟩ | ⟨g, cap, cur, e, _⟩
  · have : L = [] := by simpa using h2
    subst this
    exact ⟨none, 0, h1⟩
  · exact ⟨_, _, e⟩
theorem str_of {w : World} {B : Nat} {a : Option Addr} {n cp : Nat} {L : List Int} {wr : World} (h : One8 w B (.slice a n cp) L wr) (hn : n = L.length) :
    (convert 22 9 (.slice a n cp)).run Try.prog wr = .ok (.string (txL L)) wr := by
  subst hn
  rw [run_convert_bytes_string wr 22 9 5 a L.length cp Try.underlying22 Try.underlying5 Try.underlying9]
  by_cases h0 : L.length = 0
  · have hL : L = [] := List.eq_nil_of_length_eq_zero h0
    subst hL
    rcases h.1.2 with ⟨h1, _⟩ | ⟨g, cap, cur, e, _, hg, _⟩
    · simp at h1
      obtain ⟨rfl, _⟩ := h1
      rfl
    · simp at e
      obtain ⟨rfl, _⟩ := e
      exact run_bytesToString (P := Try.prog) wr ⟨g, 0, none⟩ 0 cp [] (by simp [loadCells, loadCellsFrom])
  · obtain ⟨g, cap, he, hB, hlt⟩ := h.1.form (by omega)
    simp at he
    obtain ⟨rfl, rfl⟩ := he
    refine run_bytesToString (P := Try.prog) wr ⟨g, 0, none⟩ L.length cp L ?_
    have := run_loadCells_list (P := Try.prog) wr ⟨g, 0, none⟩ (L.map (Value.int .u8)) (fun j v hj => h.1.cells (g := g) rfl j v hj)
    rwa [List.length_map] at this
/-- Does a byte want a mark ahead of it? -/
def mkB (c : Int) : Bool := decide (c = 43 ∨ c = 63 ∨ c = 39)
def escC (c : Int) : List Int := if mkB c = true then [63, c] else [c]
def escL (L : List Int) : List Int := (L.map escC).flatten
theorem escL_take (L : List Int) (k : Nat) (h : k < L.length) : escL (L.take (k + 1)) = escL (L.take k) ++ escC (L.getD k 0) := by
  unfold escL
  have e : L.getD k 0 = L[k] := by simp [List.getD_eq_getElem?_getD, h]
  rw [List.take_succ_eq_append_getElem h, List.map_append, List.flatten_append, e]; simp
def partL (s : ByteArray) : List Int := 43 :: escL (byL s)
def psL (ss : List ByteArray) : List Int := (ss.map partL).flatten
theorem psL_take (ss : List ByteArray) (k : Nat) (h : k < ss.length) : psL (ss.take (k + 1)) = psL (ss.take k) ++ 43 :: escL (byL (ss.getD k ByteArray.empty)) := by
  unfold psL
  have e : ss.getD k ByteArray.empty = ss[k] := by simp [List.getD_eq_getElem?_getD, h]
  rw [List.take_succ_eq_append_getElem h, List.map_append, List.flatten_append, e]; simp [partL]
def sgL (c : CSg) : List Int := byL c.nm ++ psL c.ps ++ [39]
def sgsL (cs : List CSg) : List Int := (cs.map sgL).flatten
theorem sgsL_take (cs : List CSg) (k : Nat) (h : k < cs.length) : sgsL (cs.take (k + 1)) = sgsL (cs.take k) ++ sgL (cs.getD k zSg) := by
  unfold sgsL
  have e : cs.getD k zSg = cs[k] := by simp [List.getD_eq_getElem?_getD, h]
  rw [List.take_succ_eq_append_getElem h, List.map_append, List.flatten_append, e]; simp
theorem escC_len (c : Int) : (escC c).length ≤ 2 := by unfold escC; split <;> simp
theorem escL_len (L : List Int) : (escL L).length ≤ 2 * L.length := by
  induction L with
  | nil => simp [escL]
  | cons c L ih =>
    have := escC_len c
    unfold escL at ih ⊢
    simp only [List.map_cons, List.flatten_cons, List.length_append, List.length_cons]; omega
/-- Are segments right? -/
def tagB (s : ByteArray) : Bool := decide (s.size = 3) && (decide (65 ≤ (byL s).getD 0 0 ∧ (byL s).getD 0 0 ≤ 90) && decide (65 ≤ (byL s).getD 1 0 ∧ (byL s).getD 1 0 ≤ 90) && decide (65 ≤ (byL s).getD 2 0 ∧ (byL s).getD 2 0 ≤ 90))
def letB (c : Int) : Bool := decide (65 ≤ c ∧ c ≤ 90)
def prsB (ss : List ByteArray) : Bool := ss.all fun s => decide (s.size ≤ 80)
def sgB (c : CSg) : Bool := decide (c.ps.length ≤ 20) && (tagB c.nm && prsB c.ps)
def sgsB (cs : List CSg) : Bool := decide (cs.length ≤ 200) && cs.all sgB
end Go.Proofs.Ytjnlghngneonhaa

/-
  Steps in memory, held as one flat list of numbers; what PriceSteps answers.
-/
import Derived.Test.YtgfgecpgfcipnaaStepB
namespace Go.Proofs.Ytgfgecpgfcipnaa
open Go.ChangeShapes Go.WideShapes Go.ChangeAt Go.RowKit
set_option linter.unusedVariables false

def stCode (rs : List RPr) (art zn : ByteArray) (fr to : Int) : Int := if pfCode rs art zn = 0 then (if rgB fr to = true then 0 else 5) else pfCode rs art zn
def stList (rs : List RPr) (art zn : ByteArray) (fr to : Int) : List Int := if stCode rs art zn fr to = 0 then stepsL rs art zn fr to else []
/-- What PriceSteps answers: steps of their own, and a code. -/
def AnsS (rs : List RPr) (art zn : ByteArray) (fr to : Int) (w : World) (e : Ending) (w' : World) : Prop :=
  ∃ g c, e = .returned (.tuple #[.slice g ((stList rs art zn fr to).length / 2) c, .int .i64 (stCode rs art zn fr to)]) ∧ Own2 w.heap.size w' g (stList rs art zn fr to) ∧ Below w.heap.size w w'
theorem st_ways (rs : List RPr) (art zn : ByteArray) (fr to : Int) :
    (pfCode rs art zn ≠ 0 ∧ stCode rs art zn fr to = pfCode rs art zn ∧ stList rs art zn fr to = []) ∨ (pfCode rs art zn = 0 ∧ rgB fr to = false ∧ stCode rs art zn fr to = 5 ∧ stList rs art zn fr to = []) ∨
    (pfCode rs art zn = 0 ∧ rgB fr to = true ∧ stCode rs art zn fr to = 0 ∧ stList rs art zn fr to = stepsL rs art zn fr to) := by
  unfold stList stCode
  by_cases h : pfCode rs art zn = 0
  · cases h' : rgB fr to
    · exact .inr (.inl ⟨h, rfl, by rw [if_pos h]; rfl, by rw [if_pos h]; rfl⟩)
    · exact .inr (.inr ⟨h, rfl, by rw [if_pos h]; rfl, by rw [if_pos h]; rfl⟩)
  · exact .inl ⟨h, by rw [if_neg h], by rw [if_neg h, if_neg h]⟩

/-- v is a row of n steps of its own, from block B on: L, two numbers a step. -/
def StpT (w : World) (B : Nat) (v : Value) (n : Nat) (L : List Int) (wr : World) : Prop :=
  wr.ownsRow B 32 2 v n (L.map (Value.int .i64)) ∧ B ≤ wr.heap.size ∧ Below B w wr
theorem StpT.alloc {w : World} {B n : Nat} {v : Value} {L : List Int} {wr : World} (h : StpT w B v n L wr) (o : Obj) : StpT w B v n L (wr.alloc o) :=
  ⟨h.1.alloc _, by have := h.2.1; simp; omega, h.2.2.alloc h.2.1 _⟩
theorem StpT.later {w : World} {B n : Nat} {v : Value} {L : List Int} {wr w' : World} (h : StpT w B v n L wr) (hb : Below wr.heap.size wr w') : StpT w B v n L w' := by
  obtain ⟨⟨h1, h2⟩, h3, h4⟩ := h
  refine ⟨⟨h1, ?_⟩, Nat.le_trans h3 hb.size, h4.trans (hb.mono h3)⟩
  rcases h2 with h2 | ⟨g, cap, cur, e, hB, hg, r⟩
  · exact .inl h2
  · refine .inr ⟨g, cap, cur, e, hB, ?_, r⟩
    obtain ⟨hlt, _⟩ := Array.getElem?_eq_some_iff.1 hg
    exact (hb.block g hlt).trans hg
theorem StpT.push {w : World} {B n : Nat} {v : Value} {L : List Int} {wr w' : World} {g cp : Nat} {x y : Int} (h : StpT w B v n L wr)
    (ho : w'.ownsRow B 32 2 (.slice (some ⟨g, 0, none⟩) (n + 1) cp) (n + 1) (L.map (Value.int .i64) ++ [.int .i64 x, .int .i64 y])) (hg : wr.grownBy w' v.ownBlock) : StpT w B (.slice (some ⟨g, 0, none⟩) (n + 1) cp) (n + 1) (L ++ [x, y]) w' := by
  obtain ⟨h1, h4, h5⟩ := h
  refine ⟨?_, Nat.le_trans h4 hg.size, h5.grown hg h4 (fun q hq => (h1.lt q hq).1)⟩
  rw [List.map_append]; exact ho
theorem StpT.len {w : World} {B n : Nat} {v : Value} {L : List Int} {wr : World} (h : StpT w B v n L wr) : L.length = n * 2 := by
  have := h.1.1; simpa using this
theorem StpT.fresh (w : World) (x y : Int) : StpT w w.heap.size (.slice (some ⟨w.heap.size, 0, none⟩) 1 1) 1 [x, y] (w.alloc (Obj.cells #[.int .i64 x, .int .i64 y] 32)) := by
  refine ⟨⟨rfl, .inr ⟨w.heap.size, 1, #[.int .i64 x, .int .i64 y], rfl, Nat.le_refl _, heapNew w _, Nat.le_refl _, by unfold maxLen; omega, rfl, rfl⟩⟩, by simp, below_alloc w _⟩
theorem StpT.cell {w : World} {B n g cp : Nat} {L : List Int} {wr : World} (h : StpT w B (.slice (some ⟨g, 0, none⟩) n cp) n L wr) (i : Nat) (hi : i < n * 2) : wr.cell? ⟨g, i, none⟩ = some (.int .i64 (L.getD i 0)) := by
  have hl := h.len
  rw [h.1.cellAt i hi]
  simp [List.getD_eq_getElem?_getD, show i < L.length by omega]
theorem StpT.own2 {w : World} {B B' n g cp : Nat} {L : List Int} {wr : World} (h : StpT w B (.slice (some ⟨g, 0, none⟩) n cp) n L wr) (hB : B' ≤ B) : Own2 B' wr (some ⟨g, 0, none⟩) L := by
  have hl := h.len
  by_cases h0 : n = 0
  · exact .inl (List.eq_nil_of_length_eq_zero (by omega))
  · obtain ⟨g', cap, he, hB', hlt⟩ := h.1.form (by omega)
    simp at he
    obtain ⟨rfl, rfl⟩ := he
    refine .inr ⟨g, rfl, by omega, hlt, fun i hi => ?_, fun i hi => ?_⟩
    · rw [Nat.zero_add]; exact h.cell i (by omega)
    · rw [Nat.zero_add]; exact h.1.frozenAt i
theorem stepInfo : (Try.prog.info? 32).map (fun i => (i.zero, i.size, i.bytes)) = some (some (.agg #[.int .i64 0, .int .i64 0]), 2, 16) := by kernel_rfl
theorem oneTwo (x y : Int) : ∀ u ∈ [Value.int .i64 x, .int .i64 y], u.oneCell' = true := fun u hu => by
  simp at hu; rcases hu with rfl | rfl <;> rfl
/-- A row of numbers in a block that the steps do not lie in stays as it is. -/
theorem ints_grown {wr w' : World} {q : Option Nat} {gT : Nat} {T : List Int} (h : IntsAt wr gT 0 T) (hlt : gT < wr.heap.size) (hg : wr.grownBy w' q) (hne : q ≠ some gT) : IntsAt w' gT 0 T := fun i hi =>
  (World.cell?_of_block (w := wr) (a := ⟨gT, 0 + i, none⟩) (hg.block gT hlt (fun e => hne e.symm))).trans (h i hi)
theorem getD_drop (T : List Int) (k : Nat) (h : k < T.length) : T.drop k = T.getD k 0 :: T.drop (k + 1) := by
  rw [List.drop_eq_getElem_cons h]
  simp [List.getD_eq_getElem?_getD, h]
end Go.Proofs.Ytgfgecpgfcipnaa

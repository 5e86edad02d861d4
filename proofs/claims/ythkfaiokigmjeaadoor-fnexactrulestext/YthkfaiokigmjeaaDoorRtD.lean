/-
  Contracts of RulesText, the program's and the specification's.
-/
import Derived.Test.YthkfaiokigmjeaaDoorRtC
import Derived.Test.YthkfaiokigmjeaaDoorRfA
import Derived.Test.YthkfaiokigmjeaaDoorRuE
import Derived.Test.YthkfaiokigmjeaaDoorShelf
namespace Go.Proofs.YthkfaiokigmjeaaDoor
open Go.ChangeShapes Go.WideShapes Go.ChangeAt Go.RowKit Go.Deep
set_option linter.unusedVariables false

theorem n166_of {P : Program} {ρ : Go.Shelf.Ren} (L : Lays.n156 P ρ) : Lays.n166 P ρ where
  mixed := L.mixed
  f166 := L.f166
  f240 := L.f240
  f276 := L.f276
  t0 := L.t0
  a0 := L.a0
  z0 := L.z0
  v0 := L.v0
  t3 := L.t3
  a3 := L.a3
  z3 := L.z3
  v3 := L.v3
  t4 := L.t4
  a4 := L.a4
  z4 := L.z4
  v4 := L.v4
  t9 := L.t9
  a9 := L.a9
  z9 := L.z9
  v9 := L.v9
  t20 := L.t20
  a20 := L.a20
  z20 := L.z20
  v20 := L.v20
  t37 := L.t37
  a37 := L.a37
  z37 := L.z37
  v37 := L.v37
  t70 := L.t70
  a70 := L.a70
  z70 := L.z70
  v70 := L.v70
  t72 := L.t72
  a72 := L.a72
  z72 := L.z72
  v72 := L.v72
  t75 := L.t75
  a75 := L.a75
  z75 := L.z75
  v75 := L.v75
  t164 := L.t164
  a164 := L.a164
  z164 := L.z164
  v164 := L.v164
theorem write_any (B b : Nat) (l : List UInt8) (s : ByteArray) (w : World) (h : Lib.IsBuilder 44 5 B b (Lib.byteCells l) w) (hlen : l.length + s.size ≤ 140737488355328) (hBw : B ≤ w.heap.size) :
    Calls Tryd.prog 14 #[.pointer (some ⟨b, 0, none⟩), .string s] w fun e w' => (∃ v, e = .returned v) ∧ Lib.IsBuilder 44 5 B b (Lib.byteCells (l ++ bl s)) w' ∧ Below B w w' := by
  refine (Any.Builder_WriteString (n166_of Tryd.lays156) Tryd.Builder_Extra_156 B b (Lib.byteCells l) s w h (by rw [Lib.byteCells_length]; exact hlen) hBw).mono ?_
  rintro e w' ⟨rfl, h1, h2⟩
  refine ⟨⟨_, rfl⟩, .inr ?_, h2⟩
  rw [Lib.byteCells_append]
  exact h1
/-- The program's line of a rule: the words with blanks between them. -/
theorem line_join (c : CCl) : Lib.join ((toB (rlW c)).map (·.data.toList)) [32] ++ [10] = lineL c := by
  unfold lineL
  congr 2
  unfold toB
  rw [List.map_map]
  exact List.map_id' _
theorem builder_later {T e : TypeId} {B b : Nat} {bs : List Value} {w w' : World} (h : Lib.IsBuilder T e B b bs w) (hb : Below w.heap.size w w') : Lib.IsBuilder T e B b bs w' := by
  have key : ∀ p, Lib.BuilderAt T e B b p bs w → Lib.BuilderAt T e B b p bs w' := fun p ⟨h1, v, h2, h3, h4⟩ => by
    have hl : b < w.heap.size := (Array.getElem?_eq_some_iff.1 h2).1
    refine ⟨h1, v, (hb.block b hl).trans h2, ⟨h3.1, ?_⟩, h4⟩
    rcases h3.2 with q | ⟨g, cap, cur, q1, q2, q3, r⟩
    · exact .inl q
    · exact .inr ⟨g, cap, cur, q1, q2, (hb.block g (Array.getElem?_eq_some_iff.1 q3).1).trans q3, r⟩
  rcases h with h | h
  · exact .inl (key _ h)
  · exact .inr (key _ h)
theorem rtS_bad {rs : List CCl} (h : clAll rs = false) : rtS rs = [] := by unfold rtS; rw [if_neg (by rw [h]; simp)]
theorem rtS_ok {rs : List CCl} (h : clAll rs = true) : rtS rs = textL rs rs.length := if_pos h
end Go.Proofs.YthkfaiokigmjeaaDoor

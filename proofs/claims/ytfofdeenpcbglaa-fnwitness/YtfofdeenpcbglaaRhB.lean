/-
  Rows of rooms: a row of its own that grows by append, twelve numbers a room.
-/
import Derived.Test.YtfofdeenpcbglaaRhA
namespace Go.Proofs.Ytfofdeenpcbglaa
open Go.ChangeShapes Go.WideShapes Go.ChangeAt Go.RowKit Go.Deep
set_option linter.unusedVariables false

def cellsR (Ls : List (List Int)) : List Value := Ls.flatMap fun L => L.map (Value.int .i64)
theorem flat12 : ∀ (Ls : List (List Int)), (∀ L ∈ Ls, L.length = 12) → ∀ (i c : Nat), i < Ls.length → c < 12 → (cellsR Ls)[i * 12 + c]? = some (.int .i64 ((Ls.getD i []).getD c 0))
  | [], _, i, c, h, _ => by simp at h
  | L :: r, hL, 0, c, _, hc => by
    have h12 : L.length = 12 := hL L List.mem_cons_self
    unfold cellsR
    rw [List.flatMap_cons, Nat.zero_mul, Nat.zero_add, List.getElem?_append_left (by rw [List.length_map, h12]; exact hc)]
    simp [List.getD_eq_getElem?_getD, show c < L.length by omega]
  | L :: r, hL, i + 1, c, h, hc => by
    have h12 : L.length = 12 := hL L List.mem_cons_self
    have := flat12 r (fun M hM => hL M (List.mem_cons_of_mem _ hM)) i c (by simpa using h) hc
    unfold cellsR at *
    rw [List.flatMap_cons, List.getElem?_append_right (by rw [List.length_map, h12]; omega), List.length_map, h12, show (i + 1) * 12 + c - 12 = i * 12 + c by omega, this]
    rfl
/-- The rooms Ls lie in block b from off on. -/
def RmsAt (w : World) (b off : Nat) (Ls : List (List Int)) : Prop := ∀ i, i < Ls.length → ∀ c, c < 12 → w.cell? ⟨b, off + i * 12 + c, none⟩ = some (.int .i64 ((Ls.getD i []).getD c 0))
def ReadsRm (B : Nat) (w : World) (a : Option Addr) (Ls : List (List Int)) : Prop := Ls = [] ∨ ∃ b off, a = some ⟨b, off, none⟩ ∧ b < B ∧ RmsAt w b off Ls
theorem ReadsRm.later {w w' : World} {a : Option Addr} {Ls : List (List Int)} (h : ReadsRm w.heap.size w a Ls) (hb : Below w.heap.size w w') : ReadsRm w'.heap.size w' a Ls := by
  rcases h with h | ⟨b, off, ha, hB, hi⟩
  · exact .inl h
  · exact .inr ⟨b, off, ha, Nat.lt_of_lt_of_le hB hb.size, fun i hk c hc => (hb.cell (p := ⟨b, off + i * 12 + c, none⟩) hB).trans (hi i hk c hc)⟩
/-- v is a row of rooms of its own, from block B on. -/
def OneR (w : World) (B : Nat) (v : Value) (Ls : List (List Int)) (wr : World) : Prop :=
  wr.ownsRow B 48 12 v Ls.length (cellsR Ls) ∧ B ≤ wr.heap.size ∧ Below B w wr
theorem OneR.later {w : World} {B : Nat} {v : Value} {L : List (List Int)} {wr w' : World} (h : OneR w B v L wr) (hb : Below wr.heap.size wr w') : OneR w B v L w' := by
  obtain ⟨⟨h1, h2⟩, h3, h4⟩ := h
  refine ⟨⟨h1, ?_⟩, Nat.le_trans h3 hb.size, h4.trans (hb.mono h3)⟩
  rcases h2 with h2 | ⟨g, cap, cur, e, hB, hg, r⟩
  · exact .inl h2
  · refine .inr ⟨g, cap, cur, e, hB, ?_, r⟩
    obtain ⟨hlt, _⟩ := Array.getElem?_eq_some_iff.1 hg
    exact (hb.block g hlt).trans hg
theorem OneR.reads {w : World} {B : Nat} {a : Option Addr} {n cp : Nat} {Ls : List (List Int)} {wr : World} (h : OneR w B (.slice a n cp) Ls wr) (hn : n = Ls.length) (hL : ∀ L ∈ Ls, L.length = 12) : ReadsRm wr.heap.size wr a Ls := by
  subst hn
  by_cases h0 : Ls.length = 0
  · exact .inl (List.eq_nil_of_length_eq_zero h0)
  · obtain ⟨g, cap, he, hB, hlt⟩ := h.1.form (by omega)
    simp at he
    obtain ⟨rfl, rfl⟩ := he
    refine .inr ⟨g, 0, rfl, hlt, fun i hi c hc => ?_⟩
    rw [Nat.zero_add, h.1.cellAt (i * 12 + c) (by omega)]
    exact flat12 Ls hL i c hi hc
theorem OneR.push {w : World} {B : Nat} {v : Value} {Ls : List (List Int)} {wr w' : World} {g cp : Nat} {L : List Int} (h : OneR w B v Ls wr)
    (ho : w'.ownsRow B 48 12 (.slice (some ⟨g, 0, none⟩) (Ls.length + 1) cp) (Ls.length + 1) (cellsR Ls ++ L.map (Value.int .i64))) (hg : wr.grownBy w' v.ownBlock) : OneR w B (.slice (some ⟨g, 0, none⟩) (Ls.length + 1) cp) (Ls ++ [L]) w' := by
  obtain ⟨h1, h4, h5⟩ := h
  refine ⟨?_, Nat.le_trans h4 hg.size, h5.grown hg h4 (fun q hq => (h1.lt q hq).1)⟩
  rw [List.length_append]
  unfold cellsR at *
  rw [List.flatMap_append]
  simpa using ho
theorem rmInfo12 : (Try.prog.info? 48).map (fun i => (i.zero, i.size, i.bytes)) = some (some (.agg (rowI zr)), 12, 96) := by kernel_rfl
/-- The first of the rooms that covers M. -/
def covAny (Ls : List (List Int)) (M : List Int) : Bool := Ls.any fun L => covL L M
theorem covAny_take (Ls : List (List Int)) (M : List Int) (k : Nat) (h : k < Ls.length) : covAny (Ls.take (k + 1)) M = (covAny (Ls.take k) M || covL (Ls.getD k []) M) := by
  have e : Ls.getD k [] = Ls[k] := by simp [List.getD_eq_getElem?_getD, h]
  unfold covAny
  rw [List.take_succ_eq_append_getElem h, List.any_append, e]
  simp
theorem covAny_hit {Ls : List (List Int)} {M : List Int} {k : Nat} (h : k < Ls.length) (hk : covL (Ls.getD k []) M = true) : covAny Ls M = true := by
  have e : Ls.getD k [] = Ls[k] := by simp [List.getD_eq_getElem?_getD, h]
  exact List.any_eq_true.mpr ⟨_, List.getElem_mem h, e ▸ hk⟩
theorem room_at {Ls : List (List Int)} (h : ∀ L ∈ Ls, L.length = 12) {k : Nat} (hk : k < Ls.length) : (Ls.getD k []).length = 12 := by
  have e : Ls.getD k [] = Ls[k] := by simp [List.getD_eq_getElem?_getD, hk]
  rw [e]; exact h _ (List.getElem_mem _)
theorem room_cells {w : World} {b : Nat} {a0 a1 a2 a3 a4 a5 a6 a7 a8 a9 a10 a11 : Int} (h : RoomAt w b [a0, a1, a2, a3, a4, a5, a6, a7, a8, a9, a10, a11]) : w.cell? ⟨b, 0, none⟩ = some (.int .i64 a0) ∧ w.cell? ⟨b, 1, none⟩ = some (.int .i64 a1) ∧ w.cell? ⟨b, 2, none⟩ = some (.int .i64 a2) ∧ w.cell? ⟨b, 3, none⟩ = some (.int .i64 a3) ∧ w.cell? ⟨b, 4, none⟩ = some (.int .i64 a4) ∧ w.cell? ⟨b, 5, none⟩ = some (.int .i64 a5) ∧ w.cell? ⟨b, 6, none⟩ = some (.int .i64 a6) ∧ w.cell? ⟨b, 7, none⟩ = some (.int .i64 a7) ∧ w.cell? ⟨b, 8, none⟩ = some (.int .i64 a8) ∧ w.cell? ⟨b, 9, none⟩ = some (.int .i64 a9) ∧ w.cell? ⟨b, 10, none⟩ = some (.int .i64 a10) ∧ w.cell? ⟨b, 11, none⟩ = some (.int .i64 a11) :=
  ⟨h.cell 0 (by simp), h.cell 1 (by simp), h.cell 2 (by simp), h.cell 3 (by simp), h.cell 4 (by simp), h.cell 5 (by simp), h.cell 6 (by simp), h.cell 7 (by simp), h.cell 8 (by simp), h.cell 9 (by simp), h.cell 10 (by simp), h.cell 11 (by simp)⟩
theorem roomB {w : World} {b : Nat} {V : Array Value} {t : TypeId} (h : w.heap[b]? = some (.cells V t (0, 0))) : b < w.heap.size := by
  rcases Nat.lt_or_ge b w.heap.size with h1 | h1
  · exact h1
  · rw [Array.getElem?_eq_none h1] at h; cases h
theorem rowI12 (a0 a1 a2 a3 a4 a5 a6 a7 a8 a9 a10 a11 : Int) : rowI [a0, a1, a2, a3, a4, a5, a6, a7, a8, a9, a10, a11] = #[.int .i64 a0, .int .i64 a1, .int .i64 a2, .int .i64 a3, .int .i64 a4, .int .i64 a5, .int .i64 a6, .int .i64 a7, .int .i64 a8, .int .i64 a9, .int .i64 a10, .int .i64 a11] := rfl
end Go.Proofs.Ytfofdeenpcbglaa

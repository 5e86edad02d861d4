/-
  The specification's search for the route that is back first: its record in memory, the order that is tried, what a try leaves.
-/
import Derived.Test.YtoogphkojofkfaaRwM
import Derived.Test.YtoogphkojofkfaaRvF
namespace Go.Proofs.Ytoogphkojofkfaa
open Go.ChangeShapes Go.WideShapes Go.ChangeAt Go.RowKit Go.Joins Go.Deep
set_option linter.unusedVariables false

def tsA (rs : List RHp) (b : Int) : Option (List Int) → List Int | none => [] | some o => (trp rs b o).A
def tsW (rs : List RHp) (b : Int) : Option (List Int) → Int | none => 0 | some o => (trp rs b o).wt
def tsE (rs : List RHp) (b : Int) : Option (List Int) → Int | none => 0 | some o => enR rs b o
/-- The search's record in block xb. -/
structure TsI (xb : Nat) (ad : Option Addr) (cap : Nat) (rs : List RHp) (b : Int) (B : Option (List Int)) (w0 W : World) : Prop where
  low : Below w0.heap.size w0 W
  lo : w0.heap.size ≤ xb
  se : ∃ q cq s cs, W.heap[xb]? = some (.cells #[.slice ad rs.length cap, .int .i64 b, .slice q (B.getD []).length cq, .slice s (tsA rs b B).length cs, .int .i64 (tsW rs b B), .int .i64 (tsE rs b B), .bool B.isSome] 67 (0, 0)) ∧ RowI (xb + 1) W.heap.size W q (B.getD []) ∧ RowI (xb + 1) W.heap.size W s (tsA rs b B)
/-- The order that is tried lies in no block of the search. -/
def OrdI (xb : Nat) (W : World) (ao : Option Addr) (L : List Int) : Prop := L = [] ∨ ∃ b1 o1, ao = some ⟨b1, o1, none⟩ ∧ (b1 < W.heap.size ∧ b1 ≠ xb) ∧ IntsAt W b1 o1 L
section
variable {xb : Nat} {ad : Option Addr} {cap : Nat} {rs : List RHp} {b : Int} {B : Option (List Int)} {w0 W W' : World} {ao : Option Addr} {L : List Int}
theorem OrdI.fr (h : OrdI xb W ao L) (hf : Fr (fun x => x = xb) W W') : OrdI xb W' ao L := by
  rcases h with h | ⟨b1, o1, h1, ⟨h2, h3⟩, h4⟩
  · exact .inl h
  · refine .inr ⟨b1, o1, h1, ⟨Nat.lt_of_lt_of_le h2 hf.size, h3⟩, fun i hi => ?_⟩
    have e := hf.block b1 h2 h3
    have := h4 i hi
    unfold World.cell? at this ⊢
    rw [e]
    exact this
theorem OrdI.reads (h : OrdI xb W ao L) : Reads W.heap.size W ao L := by
  rcases h with h | ⟨b1, o1, h1, ⟨h2, h3⟩, h4⟩
  · exact .inl h
  · exact .inr ⟨b1, o1, h1, h2, h4⟩
theorem TsI.later (h : TsI xb ad cap rs b B w0 W) (hb : Below W.heap.size W W') : TsI xb ad cap rs b B w0 W' := by
  obtain ⟨q, cq, s, cs, h1, h2, h3⟩ := h.se
  exact ⟨chain h.low hb, h.lo, q, cq, s, cs, (hb.block xb (blkLt h1)).trans h1, (h2.later hb).wide (Nat.le_refl _) hb.size (Nat.le_refl _), (h3.later hb).wide (Nat.le_refl _) hb.size (Nat.le_refl _)⟩
theorem TsI.sc (h : TsI xb ad cap rs b B w0 W) : W.cell? ⟨xb, 0, none⟩ = some (.slice ad rs.length cap) ∧ W.cell? ⟨xb, 1, none⟩ = some (.int .i64 b) ∧ W.cell? ⟨xb, 5, none⟩ = some (.int .i64 (tsE rs b B)) ∧ W.cell? ⟨xb, 6, none⟩ = some (.bool B.isSome) := by
  obtain ⟨q, cq, s, cs, h1, h2, h3⟩ := h.se
  exact ⟨blkCell h1 0 _ rfl, blkCell h1 1 _ rfl, blkCell h1 5 _ rfl, blkCell h1 6 _ rfl⟩
theorem TsI.wc (h : TsI xb ad cap rs b B w0 W) : ((∃ z, W.cell? ⟨xb, 2, none⟩ = some z) ∧ (∃ z, W.cell? ⟨xb, 3, none⟩ = some z) ∧ (∃ z, W.cell? ⟨xb, 4, none⟩ = some z) ∧ (∃ z, W.cell? ⟨xb, 5, none⟩ = some z) ∧ (∃ z, W.cell? ⟨xb, 6, none⟩ = some z)) ∧ W.frozen? ⟨xb, 2, none⟩ = false ∧ W.frozen? ⟨xb, 3, none⟩ = false ∧ W.frozen? ⟨xb, 4, none⟩ = false ∧ W.frozen? ⟨xb, 5, none⟩ = false ∧ W.frozen? ⟨xb, 6, none⟩ = false := by
  obtain ⟨q, cq, s, cs, h1, h2, h3⟩ := h.se
  exact ⟨⟨⟨_, blkCell h1 2 _ rfl⟩, ⟨_, blkCell h1 3 _ rfl⟩, ⟨_, blkCell h1 4 _ rfl⟩, ⟨_, blkCell h1 5 _ rfl⟩, ⟨_, blkCell h1 6 _ rfl⟩⟩, blkFree h1 2, blkFree h1 3, blkFree h1 4, blkFree h1 5, blkFree h1 6⟩
/-- A better one is kept. -/
theorem TsI.put (h : TsI xb ad cap rs b B w0 W) {q s : Option Addr} {o : List Int} (cq cs : Nat) (hq : RowI (xb + 1) W.heap.size W q o) (hs : RowI (xb + 1) W.heap.size W s (trp rs b o).A) : TsI xb ad cap rs b (some o) w0 (((((W.setCell ⟨xb, 2, none⟩ (.slice q o.length cq)).setCell ⟨xb, 3, none⟩ (.slice s (trp rs b o).A.length cs)).setCell ⟨xb, 4, none⟩ (.int .i64 (trp rs b o).wt)).setCell ⟨xb, 5, none⟩ (.int .i64 (enR rs b o))).setCell ⟨xb, 6, none⟩ (.bool true)) := by
  obtain ⟨q0, cq0, s0, cs0, h1, h2, h3⟩ := h.se
  have h4 := heap_setCell_same _ _ 6 _ _ (.bool true) (heap_setCell_same _ _ 5 _ _ (.int .i64 (enR rs b o)) (heap_setCell_same _ _ 4 _ _ (.int .i64 (trp rs b o).wt) (heap_setCell_same _ _ 3 _ _ (.slice s (trp rs b o).A.length cs) (heap_setCell_same _ _ 2 _ _ (.slice q o.length cq) h1))))
  simp only [List.setIfInBounds_toArray, List.set_cons_zero, List.set_cons_succ] at h4
  refine ⟨((((h.low.setCell h.lo _).setCell h.lo _).setCell h.lo _).setCell h.lo _).setCell h.lo _, h.lo, q, cq, s, cs, h4, ?_, ?_⟩
  · simp only [World.size_setCell]
    exact ((((hq.set (Nat.lt_succ_self _) _ _).set (Nat.lt_succ_self _) _ _).set (Nat.lt_succ_self _) _ _).set (Nat.lt_succ_self _) _ _).set (Nat.lt_succ_self _) _ _
  · simp only [World.size_setCell]
    exact ((((hs.set (Nat.lt_succ_self _) _ _).set (Nat.lt_succ_self _) _ _).set (Nat.lt_succ_self _) _ _).set (Nat.lt_succ_self _) _ _).set (Nat.lt_succ_self _) _ _
end
/-- What a try leaves. -/
def TyQ (xb : Nat) (ad : Option Addr) (cap : Nat) (rs : List RHp) (b : Int) (B : Option (List Int)) (w0 W : World) (e : Ending) (w' : World) : Prop :=
  e = .returned (.tuple #[]) ∧ TsI xb ad cap rs b B w0 w' ∧ Fr (fun x => x = xb) W w'
/-- What l20Route answers, in one form. -/
theorem LrQ.one {rs : List RHp} {b : Int} {L : List Int} {W V : World} {e : Ending} {w' : World} (h : LrQ rs b L V e w') (hV : W.heap.size ≤ V.heap.size) : ∃ q nq cq s ns cs wt en, e = .returned (.tuple #[.agg #[.slice q nq cq, .slice s ns cs, .int .i64 wt, .int .i64 en], .bool (trp rs b L).ok]) ∧ ((trp rs b L).ok = true → (nq = L.length ∧ ns = (trp rs b L).A.length ∧ wt = (trp rs b L).wt ∧ en = enR rs b L) ∧ RowI W.heap.size w'.heap.size w' q L ∧ RowI W.heap.size w'.heap.size w' s (trp rs b L).A) := by
  obtain ⟨hb, h⟩ := h
  rcases h with ⟨hok, q, cq, s, cs, rfl, r1, r2⟩ | ⟨hok, rfl⟩
  · exact ⟨q, _, cq, s, _, cs, _, _, by rw [hok]; rfl, fun _ => ⟨⟨rfl, rfl, rfl, rfl⟩, r1.wide hV (Nat.le_refl _) (Nat.le_refl _), r2.wide hV (Nat.le_refl _) (Nat.le_refl _)⟩⟩
  · exact ⟨none, 0, 0, none, 0, 0, 0, 0, by rw [hok], fun h => by rw [hok] at h; cases h⟩
/-- Behind l20Route: the route in block nb. -/
def TrE (rs : List RHp) (b : Int) (L : List Int) (W : World) (nb : Nat) (q : Option Addr) (nq cq : Nat) (s : Option Addr) (ns cs : Nat) (wt en : Int) (wx : World) : Prop :=
  (Below W.heap.size W wx ∧ W.heap.size ≤ nb ∧ wx.heap[nb]? = some (.cells #[.slice q nq cq, .slice s ns cs, .int .i64 wt, .int .i64 en] 28 (0, 0))) ∧ ((trp rs b L).ok = true → (nq = L.length ∧ ns = (trp rs b L).A.length ∧ wt = (trp rs b L).wt ∧ en = enR rs b L) ∧ RowI W.heap.size wx.heap.size wx q L ∧ RowI W.heap.size wx.heap.size wx s (trp rs b L).A)
end Go.Proofs.Ytoogphkojofkfaa

/-
  Lists of numbers in memory: where they lie, what stays of them; nothing of the program is in it.
-/
import Derived.Test.YtjnlghngneonhaaBase
import Derived.LoopTactic
import Derived.Deep.OwnRows
import Derived.Deep.Light
import Derived.BigQuiet
import Derived.Deep.QuietTactic
import Derived.WalkLawsBesides
import Derived.WalkSmall
import Derived.Deep.RegionHeld3
namespace Go.Proofs.Ytjnlghngneonhaa
open Go.ChangeShapes Go.WideShapes Go.ChangeAt Go.RowKit
set_option linter.unusedVariables false

theorem heapNew (w : World) (o : Obj) : (w.alloc o).heap[w.heap.size]? = some o := by
  show (w.heap.push o)[w.heap.size]? = _
  simp
/-- The numbers xs lie in block b from off on. -/
def IntsAt (w : World) (b off : Nat) (xs : List Int) : Prop := ∀ i, i < xs.length → w.cell? ⟨b, off + i, none⟩ = some (.int .i64 (xs.getD i 0))
def FreeAt (w : World) (b off n : Nat) : Prop := ∀ i, i < n → w.frozen? ⟨b, off + i, none⟩ = false
/-- A slice that can be read: its numbers are xs; its block lies below B. -/
def Reads (B : Nat) (w : World) (a : Option Addr) (xs : List Int) : Prop := xs = [] ∨ ∃ b off, a = some ⟨b, off, none⟩ ∧ b < B ∧ IntsAt w b off xs

theorem IntsAt.below {B : Nat} {w w' : World} {b off : Nat} {xs : List Int} (h : IntsAt w b off xs) (hb : Below B w w') (hB : b < B) : IntsAt w' b off xs := fun i hi => (hb.cell (p := ⟨b, off + i, none⟩) hB).trans (h i hi)
theorem FreeAt.below {B : Nat} {w w' : World} {b off n : Nat} (h : FreeAt w b off n) (hb : Below B w w') (hB : b < B) : FreeAt w' b off n := fun i hi => (hb.frozen (p := ⟨b, off + i, none⟩) hB).trans (h i hi)
theorem Reads.below {B : Nat} {w w' : World} {a : Option Addr} {xs : List Int} (h : Reads B w a xs) (hb : Below B w w') : Reads B w' a xs := by
  rcases h with h | ⟨b, off, ha, hB, hi⟩
  · exact .inl h
  · exact .inr ⟨b, off, ha, hB, hi.below hb hB⟩
theorem Reads.mono {B B' : Nat} {w : World} {a : Option Addr} {xs : List Int} (h : Reads B w a xs) (hb : B ≤ B') : Reads B' w a xs := by
  rcases h with h | ⟨b, off, ha, hB, hi⟩
  · exact .inl h
  · exact .inr ⟨b, off, ha, by omega, hi⟩

theorem intInfo : (Try.prog.info? 3).map (fun i => (i.zero, i.size, i.bytes)) = some (some (.int .i64 0), 1, 8) := by kernel_rfl

theorem take_next {xs ys : List Int} {k : Nat} (hx : k < xs.length) (hy : k < ys.length) (h : xs.take k = ys.take k) (he : xs.getD k 0 = ys.getD k 0) : xs.take (k + 1) = ys.take (k + 1) := by
  rw [List.take_succ_eq_append_getElem hx, List.take_succ_eq_append_getElem hy, h]
  have e1 : xs.getD k 0 = xs[k] := by simp [List.getD_eq_getElem?_getD, hx]
  have e2 : ys.getD k 0 = ys[k] := by simp [List.getD_eq_getElem?_getD, hy]
  rw [← e1, ← e2, he]

theorem getD_bound {L : List Int} {lo hi : Int} (h : ∀ x ∈ L, lo ≤ x ∧ x ≤ hi) (i : Nat) (hi' : i < L.length) : lo ≤ L.getD i 0 ∧ L.getD i 0 ≤ hi := by
  have e : L.getD i 0 = L[i] := by simp [List.getD_eq_getElem?_getD, hi']
  rw [e]; exact h _ (List.getElem_mem _)
/-- Of what was there block b alone may have turned, and no mark. -/
def Others (b : Nat) (w w' : World) : Prop := (∀ c o, c ≠ b → w'.cell? ⟨c, o, none⟩ = w.cell? ⟨c, o, none⟩) ∧ (∀ c o, w'.frozen? ⟨c, o, none⟩ = w.frozen? ⟨c, o, none⟩) ∧ w'.heap.size = w.heap.size ∧ ∀ B, B ≤ b → Below B w w'
theorem Others.refl (b : Nat) (w : World) : Others b w w := ⟨fun _ _ _ => rfl, fun _ _ => rfl, rfl, fun _ _ => Below.refl _ _⟩
theorem Others.set {b : Nat} {w wr : World} (h : Others b w wr) (o : Nat) (v : Value) : Others b w (wr.setCell ⟨b, o, none⟩ v) := by
  obtain ⟨h1, h2, h3, h4⟩ := h
  refine ⟨fun c o' hc => ?_, fun c o' => ?_, ?_, fun B hB => (h4 B hB).setCell hB _⟩
  · rw [World.cell?_setCell_far _ _ _ _ (Ne.symm hc)]; exact h1 c o' hc
  · rw [World.frozen?_setCell]; exact h2 c o'
  · rw [World.size_setCell]; exact h3
theorem Others.ints {b c : Nat} {w w' : World} (h : Others b w w') (hc : c ≠ b) {off : Nat} {xs : List Int} (hi : IntsAt w c off xs) : IntsAt w' c off xs := fun i hk => (h.1 c (off + i) hc).trans (hi i hk)
theorem Others.free {b c : Nat} {w w' : World} (h : Others b w w') {off n : Nat} (hi : FreeAt w c off n) : FreeAt w' c off n := fun i hk => (h.2.1 c (off + i)).trans (hi i hk)

/-- k, k + 1, .. -/
def marks (k : Int) (n : Nat) : List Int := (List.range n).map fun (i : Nat) => k + (i : Int)
theorem marks_length (k : Int) (n : Nat) : (marks k n).length = n := by simp [marks]
theorem marks_getD (k : Int) (n i : Nat) (h : i < n) : (marks k n).getD i 0 = k + (i : Int) := by simp [marks, List.getD_eq_getElem?_getD, h]

/-- The numbers L lie at the head of a block of their own, not below B. -/
def Own2 (B : Nat) (w : World) (g : Option Addr) (L : List Int) : Prop := L = [] ∨ ∃ b, g = some ⟨b, 0, none⟩ ∧ B ≤ b ∧ b < w.heap.size ∧ IntsAt w b 0 L ∧ FreeAt w b 0 L.length

theorem Own2.reads {B : Nat} {w : World} {g : Option Addr} {L : List Int} (h : Own2 B w g L) : Reads w.heap.size w g L := by
  rcases h with h | ⟨b, hg, _, hlt, hi, _⟩
  · exact .inl h
  · exact .inr ⟨b, 0, hg, hlt, hi⟩
theorem Own2.below {B D : Nat} {w w' : World} {g : Option Addr} {L : List Int} (h : Own2 B w g L) (hb : Below D w w') (hD : w.heap.size ≤ D) : Own2 B w' g L := by
  rcases h with h | ⟨b, hg, hB, hlt, hi, hf⟩
  · exact .inl h
  · exact .inr ⟨b, hg, hB, Nat.lt_of_lt_of_le hlt hb.size, hi.below hb (Nat.lt_of_lt_of_le hlt hD), hf.below hb (Nat.lt_of_lt_of_le hlt hD)⟩
/-- Only one block was written: not this one. -/
theorem Own2.others {B b : Nat} {w w' : World} {g : Option Addr} {L : List Int} (h : Own2 B w g L) (ho : Others b w w') (hne : ∀ c, g = some ⟨c, 0, none⟩ → c ≠ b ∨ L = []) : Own2 B w' g L := by
  rcases h with h | ⟨c, hg, hB, hlt, hi, hf⟩
  · exact .inl h
  · rcases hne c hg with h | h
    · exact .inr ⟨c, hg, hB, by rw [ho.2.2.1]; exact hlt, ho.ints h hi, ho.free hf⟩
    · exact .inl h

theorem reads_of_row {w : World} {a : Option Addr} {len cap : Nat} {zs : List Int} (h : IsRow .i64 w a len cap zs) : (zs.take len).length = len ∧ len ≤ cap ∧ cap ≤ maxLen ∧ Reads w.heap.size w a (zs.take len) := by
  rcases h with ⟨rfl, rfl, rfl, rfl⟩ | ⟨x, rfl, hl, hm, hz, hc, _⟩
  · exact ⟨rfl, Nat.le_refl _, by unfold maxLen; omega, .inl rfl⟩
  · have hlen : (zs.take len).length = len := by rw [List.length_take]; omega
    refine ⟨hlen, hl, hm, ?_⟩
    by_cases h0 : len = 0
    · exact .inl (by rw [h0]; rfl)
    · obtain ⟨b, off, rfl, hc'⟩ := ints_at hc (by omega)
      refine .inr ⟨b, off, rfl, World.block_lt_of_cell? _ _ (hc' 0 (by omega)), fun i hi => ?_⟩
      have hi' : i < len := by omega
      rw [hc' i (by omega)]
      congr 2
      simp [List.getD_eq_getElem?_getD, hi']
end Go.Proofs.Ytjnlghngneonhaa

/-
  Texts of this claim laid together: Base, Lists0, LiA, CellNo.
-/
import Derived.Test.YtabpkfhbnendjaaGreatRows
import Derived.WalkKit
import Derived.ProofKit
import Derived.OpenShut
import Derived.ShutString
import Derived.ChangeOld
import Derived.Below
import Derived.Lib.SmallJoins
import Derived.LoopTactic
import Derived.Deep.OwnRows
import Derived.Deep.Light
import Derived.BigQuiet
import Derived.Deep.QuietTactic
import Derived.WalkLawsBesides
import Derived.WalkSmall
import Derived.Deep.RegionHeld3
import Derived.Deep.Slices
/-
  Small lemmas on worlds, rows and endings that the other texts lean on; nothing of the program is in them.
-/
namespace Go.Proofs.YtabpkfhbnendjaaGreat
open Go.ChangeShapes Go.WideShapes Go.ChangeAt Go.RowKit
set_option linter.unusedVariables false

def inB (n lo hi : Int) : Bool := decide (lo ≤ n ∧ n ≤ hi)
def rateB (n d : Int) : Bool := decide ((0 ≤ n ∧ n ≤ 10000) ∧ 1 ≤ d ∧ d ≤ 10000)

theorem ret_bool {a b : Bool} (h : a = b) : Ending.returned (.bool a) = .returned (.bool b) := by rw [h]

theorem bfacts {W w1 : World} (hb : Below W.heap.size W w1) : (∀ b o, b < W.heap.size → w1.cell? ⟨b, o, none⟩ = W.cell? ⟨b, o, none⟩) ∧ (∀ b o, b < W.heap.size → w1.frozen? ⟨b, o, none⟩ = W.frozen? ⟨b, o, none⟩) ∧ (∀ k, k < W.heap.size → k < w1.heap.size) :=
  ⟨fun b o h => hb.cell (p := ⟨b, o, none⟩) h, fun b o h => hb.frozen (p := ⟨b, o, none⟩) h, fun k h => Nat.lt_of_lt_of_le h hb.size⟩

theorem chain {w a b : World} (h : Below w.heap.size w a) (k : Below a.heap.size a b) : Below w.heap.size w b := h.trans (k.mono h.size)
theorem below_alloc (w : World) (o : Obj) : Below w.heap.size w (w.alloc o) := (Below.refl _ _).alloc (Nat.le_refl _) _
theorem below_drew (w : World) : Below w.heap.size w w.drew := (Below.refl _ _).drew

/-- What a walk is told of a slice of integers that came in: it is nil, or it leads to a row of 'cap' cells, the numbers 'zs'. -/
def IsRow (k : IntKind) (w : World) (a : Option Addr) (len cap : Nat) (zs : List Int) : Prop :=
  (a = none ∧ len = 0 ∧ cap = 0 ∧ zs = []) ∨
  ∃ x, a = some x ∧ len ≤ cap ∧ cap ≤ maxLen ∧ zs.length = cap ∧ (∀ i, i < zs.length → w.cell? (x.add i) = some (.int k (zs.getD i 0))) ∧ ∀ n ∈ zs, (Lit.int k n).wf = true

theorem in_ways (n lo hi : Int) : n < lo ∨ (lo ≤ n ∧ hi < n) ∨ (lo ≤ n ∧ n ≤ hi) := by omega
theorem rate_ways (n d : Int) : n < 0 ∨ (0 ≤ n ∧ 10000 < n) ∨ (0 ≤ n ∧ n ≤ 10000 ∧ d < 1) ∨ (0 ≤ n ∧ n ≤ 10000 ∧ 1 ≤ d ∧ 10000 < d) ∨ (0 ≤ n ∧ n ≤ 10000 ∧ 1 ≤ d ∧ d ≤ 10000) := by omega

theorem ret_int {k : IntKind} {a b : Int} (h : a = b) : Ending.returned (.int k a) = .returned (.int k b) := by rw [h]
theorem ret_two {a b c d : Int} (h : a = b) (k : c = d) : Ending.returned (.tuple #[.int .i64 a, .int .i64 c]) = .returned (.tuple #[.int .i64 b, .int .i64 d]) := by rw [h, k]
theorem wrap_id (x : Int) (h : -9223372036854775808 ≤ x) (h' : x ≤ 9223372036854775807) : IntKind.i64.wrap x = x := by
  rw [IntKind.wrap_i64]; omega
end Go.Proofs.YtabpkfhbnendjaaGreat

/-
  Lists of numbers in memory: where they lie, what stays of them; nothing of the program is in it.
-/
namespace Go.Proofs.YtabpkfhbnendjaaGreat
open Go.ChangeShapes Go.WideShapes Go.ChangeAt Go.RowKit
set_option linter.unusedVariables false

theorem heapNew (w : World) (o : Obj) : (w.alloc o).heap[w.heap.size]? = some o := by
  show (w.heap.push o)[w.heap.size]? = _
  simp
/-- The numbers xs lie in block b from off on. -/
def IntsAt (w : World) (b off : Nat) (xs : List Int) : Prop := ∀ i, i < xs.length → w.cell? ⟨b, off + i, none⟩ = some (.int .i64 (xs.getD i 0))
def FreeAt (w : World) (b off n : Nat) : Prop := ∀ i, i < n → w.frozen? ⟨b, off + i, none⟩ = false
/-- A slice that can be read: its numbers are xs; its block lies below B. -/
def Reads (B : Nat) (w : World) (a : Option Addr) (xs : List Int) : Prop := xs = [] ∨ ∃ b off, a = some ⟨b, off, none⟩ ∧ b < B ∧ IntsAt w b off xs

theorem IntsAt.below {B : Nat} {w w' : World} {b off : Nat} {xs : List Int} (h : IntsAt w b off xs) (hb : Below B w w') (hB : b < B) : IntsAt w' b off xs := fun i hi => (hb.cell (p := ⟨b, off + i, none⟩) hB).trans (h i hi)
theorem FreeAt.below {B : Nat} {w w' : World} {b off n : Nat} (h : FreeAt w b off n) (hb : Below B w w') (hB : b < B) : FreeAt w' b off n := fun i hi => (hb.frozen (p := ⟨b, off + i, none⟩) hB).trans (h i hi)
theorem Reads.below {B : Nat} {w w' : World} {a : Option Addr} {xs : List Int} (h : Reads B w a xs) (hb : Below B w w') : Reads B w' a xs := by
  rcases h with h | ⟨b, off, ha, hB, hi⟩
  · exact .inl h
  · exact .inr ⟨b, off, ha, hB, hi.below hb hB⟩
theorem Reads.mono {B B' : Nat} {w : World} {a : Option Addr} {xs : List Int} (h : Reads B w a xs) (hb : B ≤ B') : Reads B' w a xs := by
  rcases h with h | ⟨b, off, ha, hB, hi⟩
  · exact .inl h
  · exact .inr ⟨b, off, ha, by omega, hi⟩

theorem intInfo : (Tryz.prog.info? 3).map (fun i => (i.zero, i.size, i.bytes)) = some (some (.int .i64 0), 1, 8) := by kernel_rfl

theorem take_next {xs ys : List Int} {k : Nat} (hx : k < xs.length) (hy : k < ys.length) (h : xs.take k = ys.take k) (he : xs.getD k 0 = ys.getD k 0) : xs.take (k + 1) = ys.take (k + 1) := by
  rw [List.take_succ_eq_append_getElem hx, List.take_succ_eq_append_getElem hy, h]
  have e1 : xs.getD k 0 = xs[k] := by simp [List.getD_eq_getElem?_getD, hx]
  have e2 : ys.getD k 0 = ys[k] := by simp [List.getD_eq_getElem?_getD, hy]
  rw [← e1, ← e2, he]

theorem getD_bound {L : List Int} {lo hi : Int} (h : ∀ x ∈ L, lo ≤ x ∧ x ≤ hi) (i : Nat) (hi' : i < L.length) : lo ≤ L.getD i 0 ∧ L.getD i 0 ≤ hi := by
  have e : L.getD i 0 = L[i] := by simp [List.getD_eq_getElem?_getD, hi']
  rw [e]; exact h _ (List.getElem_mem _)
/-- Of what was there block b alone may have turned, and no mark. -/
def Others (b : Nat) (w w' : World) : Prop := (∀ c o, c ≠ b → w'.cell? ⟨c, o, none⟩ = w.cell? ⟨c, o, none⟩) ∧ (∀ c o, w'.frozen? ⟨c, o, none⟩ = w.frozen? ⟨c, o, none⟩) ∧ w'.heap.size = w.heap.size ∧ ∀ B, B ≤ b → Below B w w'
theorem Others.refl (b : Nat) (w : World) : Others b w w := ⟨fun _ _ _ => rfl, fun _ _ => rfl, rfl, fun _ _ => Below.refl _ _⟩
theorem Others.set {b : Nat} {w wr : World} (h : Others b w wr) (o : Nat) (v : Value) : Others b w (wr.setCell ⟨b, o, none⟩ v) := by
  obtain ⟨h1, h2, h3, h4⟩ := h
  refine ⟨fun c o' hc => ?_, fun c o' => ?_, ?_, fun B hB => (h4 B hB).setCell hB _⟩
  · rw [World.cell?_setCell_far _ _ _ _ (Ne.symm hc)]; exact h1 c o' hc
  · rw [World.frozen?_setCell]; exact h2 c o'
  · rw [World.size_setCell]; exact h3
theorem Others.ints {b c : Nat} {w w' : World} (h : Others b w w') (hc : c ≠ b) {off : Nat} {xs : List Int} (hi : IntsAt w c off xs) : IntsAt w' c off xs := fun i hk => (h.1 c (off + i) hc).trans (hi i hk)
theorem Others.free {b c : Nat} {w w' : World} (h : Others b w w') {off n : Nat} (hi : FreeAt w c off n) : FreeAt w' c off n := fun i hk => (h.2.1 c (off + i)).trans (hi i hk)

/-- k, k + 1, .. -/
def marks (k : Int) (n : Nat) : List Int := (List.range n).map fun (i : Nat) => k + (i : Int)
theorem marks_length (k : Int) (n : Nat) : (marks k n).length = n := by simp [marks]
theorem marks_getD (k : Int) (n i : Nat) (h : i < n) : (marks k n).getD i 0 = k + (i : Int) := by simp [marks, List.getD_eq_getElem?_getD, h]

/-- The numbers L lie at the head of a block of their own, not below B. -/
def Own2 (B : Nat) (w : World) (g : Option Addr) (L : List Int) : Prop := L = [] ∨ ∃ b, g = some ⟨b, 0, none⟩ ∧ B ≤ b ∧ b < w.heap.size ∧ IntsAt w b 0 L ∧ FreeAt w b 0 L.length

theorem Own2.reads {B : Nat} {w : World} {g : Option Addr} {L : List Int} (h : Own2 B w g L) : Reads w.heap.size w g L := by
  rcases h with h | ⟨b, hg, _, hlt, hi, _⟩
  · exact .inl h
  · exact .inr ⟨b, 0, hg, hlt, hi⟩
theorem Own2.below {B D : Nat} {w w' : World} {g : Option Addr} {L : List Int} (h : Own2 B w g L) (hb : Below D w w') (hD : w.heap.size ≤ D) : Own2 B w' g L := by
  rcases h with h | ⟨b, hg, hB, hlt, hi, hf⟩
  · exact .inl h
  · exact .inr ⟨b, hg, hB, Nat.lt_of_lt_of_le hlt hb.size, hi.below hb (Nat.lt_of_lt_of_le hlt hD), hf.below hb (Nat.lt_of_lt_of_le hlt hD)⟩
/-- Only one block was written: not this one. -/
theorem Own2.others {B b : Nat} {w w' : World} {g : Option Addr} {L : List Int} (h : Own2 B w g L) (ho : Others b w w') (hne : ∀ c, g = some ⟨c, 0, none⟩ → c ≠ b ∨ L = []) : Own2 B w' g L := by
  rcases h with h | ⟨c, hg, hB, hlt, hi, hf⟩
  · exact .inl h
  · rcases hne c hg with h | h
    · exact .inr ⟨c, hg, hB, by rw [ho.2.2.1]; exact hlt, ho.ints h hi, ho.free hf⟩
    · exact .inl h

theorem reads_of_row {w : World} {a : Option Addr} {len cap : Nat} {zs : List Int} (h : IsRow .i64 w a len cap zs) : (zs.take len).length = len ∧ len ≤ cap ∧ cap ≤ maxLen ∧ Reads w.heap.size w a (zs.take len) := by
  rcases h with ⟨rfl, rfl, rfl, rfl⟩ | ⟨x, rfl, hl, hm, hz, hc, _⟩
  · exact ⟨rfl, Nat.le_refl _, by unfold maxLen; omega, .inl rfl⟩
  · have hlen : (zs.take len).length = len := by rw [List.length_take]; omega
    refine ⟨hlen, hl, hm, ?_⟩
    by_cases h0 : len = 0
    · exact .inl (by rw [h0]; rfl)
    · obtain ⟨b, off, rfl, hc'⟩ := ints_at hc (by omega)
      refine .inr ⟨b, off, rfl, World.block_lt_of_cell? _ _ (hc' 0 (by omega)), fun i hi => ?_⟩
      have hi' : i < len := by omega
      rw [hc' i (by omega)]
      congr 2
      simp [List.getD_eq_getElem?_getD, hi']
end Go.Proofs.YtabpkfhbnendjaaGreat

/-
  Lists of Line in memory.
-/
namespace Go.Proofs.YtabpkfhbnendjaaGreat
open Go.ChangeShapes Go.WideShapes Go.ChangeAt Go.RowKit Go.Deep
set_option linter.unusedVariables false

structure RLi where
  it : Int
  ct : Int
  am : Int
  dp : Int
def zLi : RLi := ⟨0, 0, 0, 0⟩
/-- One lies in block b from off on, 4 cells. -/
def LiAt (w : World) (b off : Nat) (r : RLi) : Prop :=
  w.cell? ⟨b, off, none⟩ = some (.int .i64 r.it) ∧ w.cell? ⟨b, off + 1, none⟩ = some (.int .i64 r.ct) ∧ w.cell? ⟨b, off + 2, none⟩ = some (.int .i64 r.am) ∧ w.cell? ⟨b, off + 3, none⟩ = some (.int .i64 r.dp)
def LisAt (w : World) (b off : Nat) (rs : List RLi) : Prop := ∀ i, i < rs.length → LiAt w b (off + i * 4) (rs.getD i zLi)
def ReadsLi (B : Nat) (w : World) (a : Option Addr) (rs : List RLi) : Prop := rs = [] ∨ ∃ b off, a = some ⟨b, off, none⟩ ∧ b < B ∧ LisAt w b off rs
theorem LiAt.below {B : Nat} {w w' : World} {b off : Nat} {r : RLi} (h : LiAt w b off r) (hb : Below B w w') (hB : b < B) : LiAt w' b off r := by
  obtain ⟨h0, h1, h2, h3⟩ := h
  exact ⟨(hb.cell (p := ⟨b, off, none⟩) hB).trans h0, (hb.cell (p := ⟨b, off + 1, none⟩) hB).trans h1, (hb.cell (p := ⟨b, off + 2, none⟩) hB).trans h2, (hb.cell (p := ⟨b, off + 3, none⟩) hB).trans h3⟩
theorem LisAt.below {B : Nat} {w w' : World} {b off : Nat} {rs : List RLi} (h : LisAt w b off rs) (hb : Below B w w') (hB : b < B) : LisAt w' b off rs := fun i hi => (h i hi).below hb hB
theorem ReadsLi.below {B : Nat} {w w' : World} {a : Option Addr} {rs : List RLi} (h : ReadsLi B w a rs) (hb : Below B w w') : ReadsLi B w' a rs := by
  rcases h with h | ⟨b, off, ha, hB, hi⟩
  · exact .inl h
  · exact .inr ⟨b, off, ha, hB, hi.below hb hB⟩
theorem ReadsLi.mono {B B' : Nat} {w : World} {a : Option Addr} {rs : List RLi} (h : ReadsLi B w a rs) (hb : B ≤ B') : ReadsLi B' w a rs := by
  rcases h with h | ⟨b, off, ha, hB, hi⟩
  · exact .inl h
  · exact .inr ⟨b, off, ha, by omega, hi⟩
theorem getLi {p : RLi → Prop} {rs : List RLi} (h : ∀ r ∈ rs, p r) {k : Nat} (hk : k < rs.length) : p (rs.getD k zLi) := by
  have e : rs.getD k zLi = rs[k] := by simp [List.getD_eq_getElem?_getD, hk]
  rw [e]; exact h _ (List.getElem_mem _)
theorem liNew (w : World) (r0 : Int) (r1 : Int) (r2 : Int) (r3 : Int) : LiAt (w.alloc (Obj.cells #[.int .i64 r0, .int .i64 r1, .int .i64 r2, .int .i64 r3] 82)) w.heap.size 0 ⟨r0, r1, r2, r3⟩ :=
  ⟨by simp, by simp, by simp, by simp⟩
def LiOK (r : RLi) : Prop := True
def LiWide (r : RLi) : Prop := (Lit.int .i64 r.it).wf = true ∧ (Lit.int .i64 r.ct).wf = true ∧ (Lit.int .i64 r.am).wf = true ∧ (Lit.int .i64 r.dp).wf = true
end Go.Proofs.YtabpkfhbnendjaaGreat

/-
  Cells of blocks that were there and of new ones.
-/
namespace Go.Proofs.YtabpkfhbnendjaaGreat
open Go.ChangeShapes Go.WideShapes Go.ChangeAt Go.RowKit Go.Deep
set_option linter.unusedVariables false

theorem cellOld (w : World) (o : Obj) {b j : Nat} (h : b < w.heap.size) : (w.alloc o).cell? ⟨b, j, none⟩ = w.cell? ⟨b, j, none⟩ := (below_alloc w o).cell (p := ⟨b, j, none⟩) h
theorem cellNew (w : World) (vs : Array Value) (t : TypeId) {b j : Nat} (v : Value) (hb : b = w.heap.size) (hj : vs[j]? = some v) : (w.alloc (.cells vs t)).cell? ⟨b, j, none⟩ = some v := by
  subst hb; unfold World.cell?; rw [heapNew]; simpa using hj
theorem frozenNew (w : World) (vs : Array Value) (t : TypeId) {b j : Nat} (hb : b = w.heap.size) : (w.alloc (.cells vs t)).frozen? ⟨b, j, none⟩ = false := by
  subst hb; unfold World.frozen?; rw [heapNew]; simp
end Go.Proofs.YtabpkfhbnendjaaGreat

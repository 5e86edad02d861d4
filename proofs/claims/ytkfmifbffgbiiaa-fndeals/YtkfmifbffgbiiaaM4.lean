/-
  Texts of this claim laid together: UnE, Lists, StrA, DlA, DlE.
-/
import Derived.Test.YtkfmifbffgbiiaaM3
import Derived.Test.YtkfmifbffgbiiaaM2
import Derived.Deep.Slices
/-
  The laws' own helpers on lists of Unit: sz.., to...
-/
namespace Go.Proofs.Ytkfmifbffgbiiaa
open Go.ChangeShapes Go.WideShapes Go.ChangeAt Go.RowKit Go.Deep
set_option linter.unusedVariables false

def SzUn (rs : List RUn) (w : World) (e : Ending) (w' : World) : Prop := ∃ x : Int, e = .returned (.int .i64 x) ∧ (x < 0 ∨ (0 ≤ x ∧ x ≤ 1048576 ∧ rs.length ≤ 1048576 ∧ ∀ r ∈ rs, UnOK r)) ∧ Below w.heap.size w w'
theorem take_nextUn {p : RUn → Prop} {rs : List RUn} {k : Nat} (h : k < rs.length) (ha : ∀ r ∈ rs.take k, p r) (hk : p (rs.getD k zUn)) : ∀ r ∈ rs.take (k + 1), p r := fun r hr => by
  rw [List.take_succ_eq_append_getElem h] at hr
  rcases List.mem_append.mp hr with h' | h'
  · exact ha r h'
  · simp at h'
    have e : rs.getD k zUn = rs[k] := by simp [List.getD_eq_getElem?_getD, h]
    rw [h', ← e]; exact hk

def unCell (r : RUn) (j : Nat) : Value := if j = 0 then .string r.art else .int .i64 r.pr
theorem unInfo : (Try.prog.info? 41).map (fun i => (i.zero, i.size, i.bytes)) = some (some (.agg #[.string ⟨#[]⟩, .int .i64 0]), 2, 24) := by kernel_rfl
theorem makeUns (n : Nat) (hn : n ≤ 100000000) (w : World) :
    (Instr.makeSlice 23 (.int .i64 (n : Int)) (.int .i64 (n : Int))).run Try.prog w = .ok (.slice (some ⟨w.heap.size, 0, none⟩) n n) (w.alloc (.cells (madeCells #[.string ⟨#[]⟩, .int .i64 0] (n * 2)) 41)) := by
  obtain ⟨i, hi, hzz⟩ := Option.map_eq_some_iff.1 unInfo
  simp only [Prod.mk.injEq] at hzz
  obtain ⟨hz, hs, hb⟩ := hzz
  have hr := run_make (P := Try.prog) w 23 41 i _ Try.underlying23 hi hz .i64 .i64 (n : Int) (n : Int) (by omega) (Int.le_refl _) (by rw [hb]; omega) (by omega)
  simp only [Int.toNat_natCast, hs] at hr
  exact hr
theorem uns_made (w : World) (n : Nat) : (w.alloc (.cells (madeCells #[.string ⟨#[]⟩, .int .i64 0] (n * 2)) 41)).rowIs w.heap.size 41 (n * 2) (fun j => unCell zUn (j % 2)) := by
  refine ⟨_, heapNew _ _, size_madeCells _ _, fun i hi => ?_⟩
  have h6 : i % 2 = 0 ∨ i % 2 = 1 := by omega
  unfold unCell zUn
  rcases h6 with h | h <;> simp [madeCells, hi, h] <;> rfl
def unFill (rs : List RUn) (k j : Nat) : Value := unCell (if j / 2 < k then rs.getD (j / 2) zUn else zUn) (j % 2)
theorem unFill_set {w : World} {b : Nat} {rs : List RUn} {n k : Nat} (h : w.rowIs b 41 (n * 2) (unFill rs k)) :
    ((w.setCell ⟨b, k * 2, none⟩ (.string (rs.getD k zUn).art)).setCell ⟨b, k * 2 + 1, none⟩ (.int .i64 (rs.getD k zUn).pr)).rowIs b 41 (n * 2) (unFill rs (k + 1)) := by
  refine ((h.set (k * 2) _).set (k * 2 + 1) _).congr fun j hj => ?_
  unfold unFill
  by_cases e1 : j = k * 2 + 1
  · rw [if_pos e1, if_pos (by omega), show j / 2 = k by omega, show j % 2 = 1 by omega]; rfl
  rw [if_neg e1]
  by_cases e0 : j = k * 2
  · rw [if_pos e0, if_pos (by omega), show j / 2 = k by omega, show j % 2 = 0 by omega]; rfl
  rw [if_neg e0]
  by_cases h : j / 2 < k
  · rw [if_pos h, if_pos (by omega)]
  · rw [if_neg h, if_neg (by omega)]
def FreeUn (w : World) (b n : Nat) : Prop := ∀ j, j < n * 2 → w.frozen? ⟨b, j, none⟩ = false
theorem FreeUn.below {B : Nat} {w w' : World} {b n : Nat} (h : FreeUn w b n) (hb : Below B w w') (hB : b < B) : FreeUn w' b n := fun j hj => (hb.frozen (p := ⟨b, j, none⟩) hB).trans (h j hj)
theorem unsAt_of {w : World} {b : Nat} {rs : List RUn} (h : w.rowIs b 41 (rs.length * 2) (unFill rs rs.length)) : UnsAt w b 0 rs := fun i hi => by
  refine ⟨?_, ?_⟩
  · rw [h.cell (i := 0 + i * 2) (by omega)]; unfold unFill; rw [if_pos (by omega), show (0 + i * 2) / 2 = i by omega, show (0 + i * 2) % 2 = 0 by omega]; rfl
  · rw [h.cell (i := 0 + i * 2 + 1) (by omega)]; unfold unFill; rw [if_pos (by omega), show (0 + i * 2 + 1) / 2 = i by omega, show (0 + i * 2 + 1) % 2 = 1 by omega]; rfl

end Go.Proofs.Ytkfmifbffgbiiaa

/-
  Contracts of the laws' own helpers on lists of numbers (toIntS, eqIntS, markIntS, heldIntS).
-/
namespace Go.Proofs.Ytkfmifbffgbiiaa
open Go.ChangeShapes Go.WideShapes Go.ChangeAt Go.RowKit
set_option linter.unusedVariables false

end Go.Proofs.Ytkfmifbffgbiiaa

/-
  Lists of texts in memory; the laws' own helpers on them (szStringS, toStringS, eqStringS).
-/
namespace Go.Proofs.Ytkfmifbffgbiiaa
open Go.ChangeShapes Go.WideShapes Go.ChangeAt Go.RowKit Go.Deep
set_option linter.unusedVariables false

/-- The texts ss lie in block b from off on. -/
def StrsAt (w : World) (b off : Nat) (ss : List ByteArray) : Prop := ∀ i, i < ss.length → w.cell? ⟨b, off + i, none⟩ = some (.string (ss.getD i ByteArray.empty))
def ReadsS (B : Nat) (w : World) (a : Option Addr) (ss : List ByteArray) : Prop := ss = [] ∨ ∃ b off, a = some ⟨b, off, none⟩ ∧ b < B ∧ StrsAt w b off ss
theorem StrsAt.below {B : Nat} {w w' : World} {b off : Nat} {ss : List ByteArray} (h : StrsAt w b off ss) (hb : Below B w w') (hB : b < B) : StrsAt w' b off ss := fun i hi => (hb.cell (p := ⟨b, off + i, none⟩) hB).trans (h i hi)
theorem ReadsS.below {B : Nat} {w w' : World} {a : Option Addr} {ss : List ByteArray} (h : ReadsS B w a ss) (hb : Below B w w') : ReadsS B w' a ss := by
  rcases h with h | ⟨b, off, ha, hB, hi⟩
  · exact .inl h
  · exact .inr ⟨b, off, ha, hB, hi.below hb hB⟩
theorem ReadsS.mono {B B' : Nat} {w : World} {a : Option Addr} {ss : List ByteArray} (h : ReadsS B w a ss) (hb : B ≤ B') : ReadsS B' w a ss := by
  rcases h with h | ⟨b, off, ha, hB, hi⟩
  · exact .inl h
  · exact .inr ⟨b, off, ha, by omega, hi⟩
theorem ReadsS.later {w w' : World} {a : Option Addr} {ss : List ByteArray} (h : ReadsS w.heap.size w a ss) (hb : Below w.heap.size w w') : ReadsS w'.heap.size w' a ss := (h.below hb).mono hb.size
theorem strs_getD_take (ss : List ByteArray) (k i : Nat) (h : i < k) : (ss.take k).getD i ByteArray.empty = ss.getD i ByteArray.empty := by simp [List.getD_eq_getElem?_getD, h]
theorem ReadsS.take {B : Nat} {w : World} {a : Option Addr} {ss : List ByteArray} (h : ReadsS B w a ss) (k : Nat) : ReadsS B w a (ss.take k) := by
  rcases h with h | ⟨b, off, ha, hB, hi⟩
  · exact .inl (by rw [h]; simp)
  · refine .inr ⟨b, off, ha, hB, fun i hi' => ?_⟩
    rw [List.length_take] at hi'
    rw [strs_getD_take ss k i (by omega)]; exact hi i (by omega)
theorem getS {p : ByteArray → Prop} {ss : List ByteArray} (h : ∀ s ∈ ss, p s) {k : Nat} (hk : k < ss.length) : p (ss.getD k ByteArray.empty) := by
  have e : ss.getD k ByteArray.empty = ss[k] := by simp [List.getD_eq_getElem?_getD, hk]
  rw [e]; exact h _ (List.getElem_mem _)
theorem take_nextS {p : ByteArray → Prop} {ss : List ByteArray} {k : Nat} (h : k < ss.length) (ha : ∀ s ∈ ss.take k, p s) (hk : p (ss.getD k ByteArray.empty)) : ∀ s ∈ ss.take (k + 1), p s := fun r hr => by
  rw [List.take_succ_eq_append_getElem h] at hr
  rcases List.mem_append.mp hr with h' | h'
  · exact ha r h'
  · simp at h'
    have e : ss.getD k ByteArray.empty = ss[k] := by simp [List.getD_eq_getElem?_getD, h]
    rw [h', ← e]; exact hk



theorem strInfo : (Try.prog.info? 9).map (fun i => (i.zero, i.size, i.bytes)) = some (some (.string ⟨#[]⟩), 1, 16) := by kernel_rfl
theorem makeStrs (m n : Nat) (hm : m ≤ n) (hn : n ≤ 100000000) (w : World) :
    (Instr.makeSlice 37 (.int .i64 (m : Int)) (.int .i64 (n : Int))).run Try.prog w = .ok (.slice (some ⟨w.heap.size, 0, none⟩) m n) (w.alloc (.cells (madeCells #[.string ⟨#[]⟩] n) 9)) := by
  obtain ⟨i, hi, hzz⟩ := Option.map_eq_some_iff.1 strInfo
  simp only [Prod.mk.injEq] at hzz
  obtain ⟨hz, hs, hb⟩ := hzz
  have hr := run_make (P := Try.prog) w 37 9 i _ Try.underlying37 hi hz .i64 .i64 (m : Int) (n : Int) (by omega) (by omega) (by rw [hb]; omega) (by omega)
  simp only [Int.toNat_natCast, hs, Nat.mul_one] at hr
  exact hr
theorem strs_made (w : World) (n : Nat) : (w.alloc (.cells (madeCells #[.string ⟨#[]⟩] n) 9)).rowIs w.heap.size 9 n (fun _ => .string ⟨#[]⟩) := by
  refine ⟨_, heapNew _ _, size_madeCells _ _, fun i hi => ?_⟩
  have h1 : i % 1 = 0 := Nat.mod_one i
  simp [madeCells, hi, h1]

def strFill (ss : List ByteArray) (k j : Nat) : Value := if j < k then .string (ss.getD j ByteArray.empty) else .string ⟨#[]⟩
theorem strsAt_of {w : World} {b : Nat} {ss : List ByteArray} (h : w.rowIs b 9 ss.length (strFill ss ss.length)) : StrsAt w b 0 ss := fun i hi => by
  rw [h.cell (i := 0 + i) (by omega)]; unfold strFill; rw [if_pos (by omega), Nat.zero_add]




end Go.Proofs.Ytkfmifbffgbiiaa

/-
  Lists of deals in memory, each with its list of articles; the laws' own szDealS.
-/
namespace Go.Proofs.Ytkfmifbffgbiiaa
open Go.ChangeShapes Go.WideShapes Go.ChangeAt Go.RowKit Go.Deep
set_option linter.unusedVariables false

structure CDl where
  nm : ByteArray
  kd : Int
  arts : List ByteArray
  nd : Int
  vl : Int
  on : Bool
def zDl : CDl := ⟨ByteArray.empty, 0, [], 0, 0, false⟩
/-- One lies in block b from off on, six cells; h and cp are where its list of articles is. -/
def DlAt (w : World) (b off : Nat) (h : Option Addr) (cp : Nat) (c : CDl) : Prop :=
  w.cell? ⟨b, off, none⟩ = some (.string c.nm) ∧ w.cell? ⟨b, off + 1, none⟩ = some (.int .i64 c.kd) ∧ w.cell? ⟨b, off + 2, none⟩ = some (.slice h c.arts.length cp) ∧ w.cell? ⟨b, off + 3, none⟩ = some (.int .i64 c.nd) ∧ w.cell? ⟨b, off + 4, none⟩ = some (.int .i64 c.vl) ∧ w.cell? ⟨b, off + 5, none⟩ = some (.bool c.on)
theorem DlAt.below {B : Nat} {w w' : World} {b off : Nat} {h : Option Addr} {cp : Nat} {c : CDl} (k : DlAt w b off h cp c) (hb : Below B w w') (hB : b < B) : DlAt w' b off h cp c := by
  obtain ⟨h0, h1, h2, h3, h4, h5⟩ := k
  exact ⟨(hb.cell (p := ⟨b, off, none⟩) hB).trans h0, (hb.cell (p := ⟨b, off + 1, none⟩) hB).trans h1, (hb.cell (p := ⟨b, off + 2, none⟩) hB).trans h2, (hb.cell (p := ⟨b, off + 3, none⟩) hB).trans h3, (hb.cell (p := ⟨b, off + 4, none⟩) hB).trans h4, (hb.cell (p := ⟨b, off + 5, none⟩) hB).trans h5⟩
def DlsAt (B : Nat) (w : World) (b off : Nat) (cs : List CDl) : Prop := ∀ i, i < cs.length → ∃ h cp, DlAt w b (off + i * 6) h cp (cs.getD i zDl) ∧ (cs.getD i zDl).arts.length ≤ cp ∧ ReadsS B w h (cs.getD i zDl).arts
def ReadsDl (B : Nat) (w : World) (a : Option Addr) (cs : List CDl) : Prop := cs = [] ∨ ∃ b off, a = some ⟨b, off, none⟩ ∧ b < B ∧ DlsAt B w b off cs
theorem DlsAt.below {B D : Nat} {w w' : World} {b off : Nat} {cs : List CDl} (h : DlsAt B w b off cs) (hb : Below D w w') (hB : b < D) (hD : B ≤ D) : DlsAt B w' b off cs := fun i hi => by
  obtain ⟨h', cp, k, k', k''⟩ := h i hi
  exact ⟨h', cp, k.below hb hB, k', k''.below (hb.mono hD)⟩
theorem DlsAt.mono {B B' : Nat} {w : World} {b off : Nat} {cs : List CDl} (h : DlsAt B w b off cs) (hb : B ≤ B') : DlsAt B' w b off cs := fun i hi => by
  obtain ⟨h', cp, k, k', k''⟩ := h i hi
  exact ⟨h', cp, k, k', k''.mono hb⟩
theorem ReadsDl.below {B : Nat} {w w' : World} {a : Option Addr} {cs : List CDl} (h : ReadsDl B w a cs) (hb : Below B w w') : ReadsDl B w' a cs := by
  rcases h with h | ⟨b, off, ha, hB, hi⟩
  · exact .inl h
  · exact .inr ⟨b, off, ha, hB, hi.below hb hB (Nat.le_refl _)⟩
theorem ReadsDl.mono {B B' : Nat} {w : World} {a : Option Addr} {cs : List CDl} (h : ReadsDl B w a cs) (hb : B ≤ B') : ReadsDl B' w a cs := by
  rcases h with h | ⟨b, off, ha, hB, hi⟩
  · exact .inl h
  · exact .inr ⟨b, off, ha, by omega, hi.mono hb⟩
theorem ReadsDl.later {w w' : World} {a : Option Addr} {cs : List CDl} (h : ReadsDl w.heap.size w a cs) (hb : Below w.heap.size w w') : ReadsDl w'.heap.size w' a cs := (h.below hb).mono hb.size
theorem getDl {p : CDl → Prop} {cs : List CDl} (h : ∀ r ∈ cs, p r) {k : Nat} (hk : k < cs.length) : p (cs.getD k zDl) := by
  have e : cs.getD k zDl = cs[k] := by simp [List.getD_eq_getElem?_getD, hk]
  rw [e]; exact h _ (List.getElem_mem _)
theorem take_nextDl {p : CDl → Prop} {rs : List CDl} {k : Nat} (h : k < rs.length) (ha : ∀ r ∈ rs.take k, p r) (hk : p (rs.getD k zDl)) : ∀ r ∈ rs.take (k + 1), p r := fun r hr => by
  rw [List.take_succ_eq_append_getElem h] at hr
  rcases List.mem_append.mp hr with h' | h'
  · exact ha r h'
  · simp at h'
    have e : rs.getD k zDl = rs[k] := by simp [List.getD_eq_getElem?_getD, h]
    rw [h', ← e]; exact hk
def DlOK (c : CDl) : Prop := c.nm.size ≤ 2000000 ∧ c.arts.length ≤ 1048576 ∧ ∀ s ∈ c.arts, s.size ≤ 2000000
def DlWide (c : CDl) : Prop := c.nm.size ≤ maxLen ∧ c.arts.length ≤ maxLen ∧ ∀ s ∈ c.arts, s.size ≤ maxLen

def totD (cs : List CDl) : Nat := (cs.map (fun r => r.arts.length)).sum

end Go.Proofs.Ytkfmifbffgbiiaa

/-
  The laws' own toDealS: a list of deals copied, with all its lists of articles, into blocks of their own.
-/
namespace Go.Proofs.Ytkfmifbffgbiiaa
open Go.ChangeShapes Go.WideShapes Go.ChangeAt Go.RowKit Go.Deep
set_option linter.unusedVariables false

/-- A list of deals in blocks of its own, none below lo. -/
def OwnDl (lo : Nat) (w : World) (b : Nat) (cs : List CDl) : Prop := lo ≤ b ∧ b < w.heap.size ∧ (∀ j, j < cs.length * 6 → w.frozen? ⟨b, j, none⟩ = false) ∧
  ∀ i, i < cs.length → ∃ g, (g ≠ b ∧ lo ≤ g ∧ g < w.heap.size) ∧ DlAt w b (i * 6) (some ⟨g, 0, none⟩) (cs.getD i zDl).arts.length (cs.getD i zDl) ∧ StrsAt w g 0 (cs.getD i zDl).arts ∧ ∀ j, w.frozen? ⟨g, j, none⟩ = false
theorem OwnDl.below {lo : Nat} {w w' : World} {b : Nat} {cs : List CDl} (h : OwnDl lo w b cs) {D : Nat} (hb : Below D w w') (hD : w.heap.size ≤ D) : OwnDl lo w' b cs := by
  obtain ⟨h1, h2, h3, h4⟩ := h
  refine ⟨h1, Nat.lt_of_lt_of_le h2 hb.size, fun j hj => (hb.frozen (p := ⟨b, j, none⟩) (Nat.lt_of_lt_of_le h2 hD)).trans (h3 j hj), fun i hi => ?_⟩
  obtain ⟨g, ⟨k1, k2, k3⟩, k4, k5, k6⟩ := h4 i hi
  exact ⟨g, ⟨k1, k2, Nat.lt_of_lt_of_le k3 hb.size⟩, k4.below hb (Nat.lt_of_lt_of_le h2 hD), k5.below hb (Nat.lt_of_lt_of_le k3 hD), fun j => (hb.frozen (p := ⟨g, j, none⟩) (Nat.lt_of_lt_of_le k3 hD)).trans (k6 j)⟩
theorem OwnDl.reads {lo : Nat} {w : World} {b : Nat} {cs : List CDl} (h : OwnDl lo w b cs) : ReadsDl w.heap.size w (some ⟨b, 0, none⟩) cs := by
  obtain ⟨h1, h2, h3, h4⟩ := h
  refine .inr ⟨b, 0, rfl, h2, fun i hi => ?_⟩
  obtain ⟨g, ⟨k1, k2, k3⟩, k4, k5, k6⟩ := h4 i hi
  rw [Nat.zero_add]
  exact ⟨_, _, k4, Nat.le_refl _, .inr ⟨g, 0, rfl, k3, k5⟩⟩

theorem cellOld (w : World) (o : Obj) {b j : Nat} (h : b < w.heap.size) : (w.alloc o).cell? ⟨b, j, none⟩ = w.cell? ⟨b, j, none⟩ := (below_alloc w o).cell (p := ⟨b, j, none⟩) h
theorem cellNew (w : World) (vs : Array Value) (t : TypeId) {b j : Nat} (v : Value) (hb : b = w.heap.size) (hj : vs[j]? = some v) : (w.alloc (.cells vs t)).cell? ⟨b, j, none⟩ = some v := by
  subst hb; unfold World.cell?; rw [heapNew]; simpa using hj
theorem frozenNew (w : World) (vs : Array Value) (t : TypeId) {b j : Nat} (hb : b = w.heap.size) : (w.alloc (.cells vs t)).frozen? ⟨b, j, none⟩ = false := by
  subst hb; unfold World.frozen?; rw [heapNew]; simp

theorem StrsAt.set {w : World} {g off : Nat} {ss : List ByteArray} (h : StrsAt w g off ss) {c : Nat} (hne : c ≠ g) (o : Nat) (v : Value) : StrsAt (w.setCell ⟨c, o, none⟩ v) g off ss := fun i hi => by
  rw [World.cell?_setCell_far _ _ _ _ hne]; exact h i hi
theorem frozen_set {w : World} {g : Nat} (h : ∀ j, w.frozen? ⟨g, j, none⟩ = false) (p : Addr) (v : Value) : ∀ j, (w.setCell p v).frozen? ⟨g, j, none⟩ = false := fun j => by rw [World.frozen?_setCell]; exact h j


end Go.Proofs.Ytkfmifbffgbiiaa

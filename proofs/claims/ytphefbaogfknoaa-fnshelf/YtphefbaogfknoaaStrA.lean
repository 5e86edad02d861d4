/-
  Lists of texts in memory; the laws' own helpers on them (szStringS, toStringS, eqStringS).
-/
import Derived.Test.YtphefbaogfknoaaLists0
import Derived.Deep.Slices
namespace Go.Proofs.Ytphefbaogfknoaa
open Go.ChangeShapes Go.WideShapes Go.ChangeAt Go.RowKit Go.Deep
set_option linter.unusedVariables false

/-- The texts ss lie in block b from off on. -/
def StrsAt (w : World) (b off : Nat) (ss : List ByteArray) : Prop := ∀ i, i < ss.length → w.cell? ⟨b, off + i, none⟩ = some (.string (ss.getD i ByteArray.empty))
def ReadsS (B : Nat) (w : World) (a : Option Addr) (ss : List ByteArray) : Prop := ss = [] ∨ ∃ b off, a = some ⟨b, off, none⟩ ∧ b < B ∧ StrsAt w b off ss
theorem StrsAt.below {B : Nat} {w w' : World} {b off : Nat} {ss : List ByteArray} (h : StrsAt w b off ss) (hb : Below B w w') (hB : b < B) : StrsAt w' b off ss := fun i hi => (hb.cell (p := ⟨b, off + i, none⟩) hB).trans (h i hi)
theorem ReadsS.below {B : Nat} {w w' : World} {a : Option Addr} {ss : List ByteArray} (h : ReadsS B w a ss) (hb : Below B w w') : ReadsS B w' a ss := by
  rcases h with h | ⟨b, off, ha, hB, hi⟩
  · exact .inl h
  · exact .inr ⟨b, off, ha, hB, hi.below hb hB⟩
theorem ReadsS.mono {B B' : Nat} {w : World} {a : Option Addr} {ss : List ByteArray} (h : ReadsS B w a ss) (hb : B ≤ B') : ReadsS B' w a ss := by
  rcases h with h | ⟨b, off, ha, hB, hi⟩
  · exact .inl h
  · exact .inr ⟨b, off, ha, by omega, hi⟩
theorem ReadsS.later {w w' : World} {a : Option Addr} {ss : List ByteArray} (h : ReadsS w.heap.size w a ss) (hb : Below w.heap.size w w') : ReadsS w'.heap.size w' a ss := (h.below hb).mono hb.size
theorem strs_getD_take (ss : List ByteArray) (k i : Nat) (h : i < k) : (ss.take k).getD i ByteArray.empty = ss.getD i ByteArray.empty := by simp [List.getD_eq_getElem?_getD, h]
theorem ReadsS.take {B : Nat} {w : World} {a : Option Addr} {ss : List ByteArray} (h : ReadsS B w a ss) (k : Nat) : ReadsS B w a (ss.take k) := by
  rcases h with h | ⟨b, off, ha, hB, hi⟩
  · exact .inl (by rw [h]; simp)
  · refine .inr ⟨b, off, ha, hB, fun i hi' => ?_⟩
    rw [List.length_take] at hi'
    rw [strs_getD_take ss k i (by omega)]; exact hi i (by omega)
theorem getS {p : ByteArray → Prop} {ss : List ByteArray} (h : ∀ s ∈ ss, p s) {k : Nat} (hk : k < ss.length) : p (ss.getD k ByteArray.empty) := by
  have e : ss.getD k ByteArray.empty = ss[k] := by simp [List.getD_eq_getElem?_getD, hk]
  rw [e]; exact h _ (List.getElem_mem _)
theorem take_nextS {p : ByteArray → Prop} {ss : List ByteArray} {k : Nat} (h : k < ss.length) (ha : ∀ s ∈ ss.take k, p s) (hk : p (ss.getD k ByteArray.empty)) : ∀ s ∈ ss.take (k + 1), p s := fun r hr => by
  rw [List.take_succ_eq_append_getElem h] at hr
  rcases List.mem_append.mp hr with h' | h'
  · exact ha r h'
  · simp at h'
    have e : ss.getD k ByteArray.empty = ss[k] := by simp [List.getD_eq_getElem?_getD, h]
    rw [h', ← e]; exact hk



theorem strInfo : (Try.prog.info? 9).map (fun i => (i.zero, i.size, i.bytes)) = some (some (.string ⟨#[]⟩), 1, 16) := by kernel_rfl
theorem makeStrs (m n : Nat) (hm : m ≤ n) (hn : n ≤ 100000000) (w : World) :
    (Instr.makeSlice 60 (.int .i64 (m : Int)) (.int .i64 (n : Int))).run Try.prog w = .ok (.slice (some ⟨w.heap.size, 0, none⟩) m n) (w.alloc (.cells (madeCells #[.string ⟨#[]⟩] n) 9)) := by
  obtain ⟨i, hi, hzz⟩ := Option.map_eq_some_iff.1 strInfo
  simp only [Prod.mk.injEq] at hzz
  obtain ⟨hz, hs, hb⟩ := hzz
  have hr := run_make (P := Try.prog) w 60 9 i _ Try.underlying60 hi hz .i64 .i64 (m : Int) (n : Int) (by omega) (by omega) (by rw [hb]; omega) (by omega)
  simp only [Int.toNat_natCast, hs, Nat.mul_one] at hr
  exact hr
theorem strs_made (w : World) (n : Nat) : (w.alloc (.cells (madeCells #[.string ⟨#[]⟩] n) 9)).rowIs w.heap.size 9 n (fun _ => .string ⟨#[]⟩) := by
  refine ⟨_, heapNew _ _, size_madeCells _ _, fun i hi => ?_⟩
  have h1 : i % 1 = 0 := Nat.mod_one i
  simp [madeCells, hi, h1]

def strFill (ss : List ByteArray) (k j : Nat) : Value := if j < k then .string (ss.getD j ByteArray.empty) else .string ⟨#[]⟩
theorem strsAt_of {w : World} {b : Nat} {ss : List ByteArray} (h : w.rowIs b 9 ss.length (strFill ss ss.length)) : StrsAt w b 0 ss := fun i hi => by
  rw [h.cell (i := 0 + i) (by omega)]; unfold strFill; rw [if_pos (by omega), Nat.zero_add]




end Go.Proofs.Ytphefbaogfknoaa

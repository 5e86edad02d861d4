/-
  The laws' own helpers on lists of Card: sz.., to...
-/
import Derived.Test.YtabghjlmmpckdaaCdA
namespace Go.Proofs.Ytabghjlmmpckdaa
open Go.ChangeShapes Go.WideShapes Go.ChangeAt Go.RowKit Go.Deep
set_option linter.unusedVariables false

def SzCd (rs : List RCd) (w : World) (e : Ending) (w' : World) : Prop := ∃ x : Int, e = .returned (.int .i64 x) ∧ (x < 0 ∨ (0 ≤ x ∧ x ≤ 1048576 ∧ rs.length ≤ 1048576 ∧ ∀ r ∈ rs, CdOK r)) ∧ Below w.heap.size w w'
theorem take_nextCd {p : RCd → Prop} {rs : List RCd} {k : Nat} (h : k < rs.length) (ha : ∀ r ∈ rs.take k, p r) (hk : p (rs.getD k zCd)) : ∀ r ∈ rs.take (k + 1), p r := fun r hr => by
  rw [List.take_succ_eq_append_getElem h] at hr
  rcases List.mem_append.mp hr with h' | h'
  · exact ha r h'
  · simp at h'
    have e : rs.getD k zCd = rs[k] := by simp [List.getD_eq_getElem?_getD, h]
    rw [h', ← e]; exact hk

def cdCell (r : RCd) (j : Nat) : Value := if j = 0 then .string r.nm else if j = 1 then .int .i64 r.lf else if j = 2 then .int .i64 r.ld else .int .i64 r.sp
theorem cdInfo : (Try.prog.info? 39).map (fun i => (i.zero, i.size, i.bytes)) = some (some (.agg #[.string ⟨#[]⟩, .int .i64 0, .int .i64 0, .int .i64 0]), 4, 40) := by kernel_rfl
theorem makeCds (n : Nat) (hn : n ≤ 100000000) (w : World) :
    (Instr.makeSlice 27 (.int .i64 (n : Int)) (.int .i64 (n : Int))).run Try.prog w = .ok (.slice (some ⟨w.heap.size, 0, none⟩) n n) (w.alloc (.cells (madeCells #[.string ⟨#[]⟩, .int .i64 0, .int .i64 0, .int .i64 0] (n * 4)) 39)) := by
  obtain ⟨i, hi, hzz⟩ := Option.map_eq_some_iff.1 cdInfo
  simp only [Prod.mk.injEq] at hzz
  obtain ⟨hz, hs, hb⟩ := hzz
  have hr := run_make (P := Try.prog) w 27 39 i _ Try.underlying27 hi hz .i64 .i64 (n : Int) (n : Int) (by omega) (Int.le_refl _) (by rw [hb]; omega) (by omega)
  simp only [Int.toNat_natCast, hs] at hr
  exact hr
theorem cds_made (w : World) (n : Nat) : (w.alloc (.cells (madeCells #[.string ⟨#[]⟩, .int .i64 0, .int .i64 0, .int .i64 0] (n * 4)) 39)).rowIs w.heap.size 39 (n * 4) (fun j => cdCell zCd (j % 4)) := by
  refine ⟨_, heapNew _ _, size_madeCells _ _, fun i hi => ?_⟩
  have h6 : i % 4 = 0 ∨ i % 4 = 1 ∨ i % 4 = 2 ∨ i % 4 = 3 := by omega
  unfold cdCell zCd
  rcases h6 with h | h | h | h <;> simp [madeCells, hi, h] <;> rfl
def cdFill (rs : List RCd) (k j : Nat) : Value := cdCell (if j / 4 < k then rs.getD (j / 4) zCd else zCd) (j % 4)
theorem cdFill_set {w : World} {b : Nat} {rs : List RCd} {n k : Nat} (h : w.rowIs b 39 (n * 4) (cdFill rs k)) :
    ((((w.setCell ⟨b, k * 4, none⟩ (.string (rs.getD k zCd).nm)).setCell ⟨b, k * 4 + 1, none⟩ (.int .i64 (rs.getD k zCd).lf)).setCell ⟨b, k * 4 + 2, none⟩ (.int .i64 (rs.getD k zCd).ld)).setCell ⟨b, k * 4 + 3, none⟩ (.int .i64 (rs.getD k zCd).sp)).rowIs b 39 (n * 4) (cdFill rs (k + 1)) := by
  refine ((((h.set (k * 4) _).set (k * 4 + 1) _).set (k * 4 + 2) _).set (k * 4 + 3) _).congr fun j hj => ?_
  unfold cdFill
  by_cases e3 : j = k * 4 + 3
  · rw [if_pos e3, if_pos (by omega), show j / 4 = k by omega, show j % 4 = 3 by omega]; rfl
  rw [if_neg e3]
  by_cases e2 : j = k * 4 + 2
  · rw [if_pos e2, if_pos (by omega), show j / 4 = k by omega, show j % 4 = 2 by omega]; rfl
  rw [if_neg e2]
  by_cases e1 : j = k * 4 + 1
  · rw [if_pos e1, if_pos (by omega), show j / 4 = k by omega, show j % 4 = 1 by omega]; rfl
  rw [if_neg e1]
  by_cases e0 : j = k * 4
  · rw [if_pos e0, if_pos (by omega), show j / 4 = k by omega, show j % 4 = 0 by omega]; rfl
  rw [if_neg e0]
  by_cases h : j / 4 < k
  · rw [if_pos h, if_pos (by omega)]
  · rw [if_neg h, if_neg (by omega)]
def FreeCd (w : World) (b n : Nat) : Prop := ∀ j, j < n * 4 → w.frozen? ⟨b, j, none⟩ = false
theorem FreeCd.below {B : Nat} {w w' : World} {b n : Nat} (h : FreeCd w b n) (hb : Below B w w') (hB : b < B) : FreeCd w' b n := fun j hj => (hb.frozen (p := ⟨b, j, none⟩) hB).trans (h j hj)
theorem cdsAt_of {w : World} {b : Nat} {rs : List RCd} (h : w.rowIs b 39 (rs.length * 4) (cdFill rs rs.length)) : CdsAt w b 0 rs := fun i hi => by
  refine ⟨?_, ?_, ?_, ?_⟩
  · rw [h.cell (i := 0 + i * 4) (by omega)]; unfold cdFill; rw [if_pos (by omega), show (0 + i * 4) / 4 = i by omega, show (0 + i * 4) % 4 = 0 by omega]; rfl
  · rw [h.cell (i := 0 + i * 4 + 1) (by omega)]; unfold cdFill; rw [if_pos (by omega), show (0 + i * 4 + 1) / 4 = i by omega, show (0 + i * 4 + 1) % 4 = 1 by omega]; rfl
  · rw [h.cell (i := 0 + i * 4 + 2) (by omega)]; unfold cdFill; rw [if_pos (by omega), show (0 + i * 4 + 2) / 4 = i by omega, show (0 + i * 4 + 2) % 4 = 2 by omega]; rfl
  · rw [h.cell (i := 0 + i * 4 + 3) (by omega)]; unfold cdFill; rw [if_pos (by omega), show (0 + i * 4 + 3) / 4 = i by omega, show (0 + i * 4 + 3) % 4 = 3 by omega]; rfl

end Go.Proofs.Ytabghjlmmpckdaa

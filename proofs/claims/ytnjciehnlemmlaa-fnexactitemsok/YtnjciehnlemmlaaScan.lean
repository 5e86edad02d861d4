/-
  Contracts of the program's arrays of digits (withCheckDigit, head, text), for every array of digits.
-/
import Derived.Test.YtnjciehnlemmlaaCheck
import Derived.Deep.WholeRow
import Derived.Laws.Tables
import Derived.Laws.IdiomStrings
namespace Go.Proofs.Ytnjciehnlemmlaa
open Go.ChangeShapes Go.WideShapes Go.ChangeAt Go.RowKit
set_option linter.unusedVariables false

/-- Bytes as cells. -/
def rowL (l : List UInt8) : List Value := l.map fun c => Value.int .u8 (c.toNat : Int)
def row (l : List UInt8) : Array Value := (l.map fun c => Value.int .u8 (c.toNat : Int)).toArray
theorem row_list (l : List UInt8) : row l = (rowL l).toArray := rfl
theorem rowL_length (l : List UInt8) : (rowL l).length = l.length := by simp [rowL]
theorem row_size (l : List UInt8) : (row l).size = l.length := by simp [row]
theorem row_at (l : List UInt8) (j : Nat) (h : j < l.length) : (row l)[j]? = some (.int .u8 (l[j].toNat : Int)) := by simp [row, h]
theorem row_one (l : List UInt8) : (row l).all (·.oneCell') = true := by
  simp only [row, List.all_toArray, List.all_map, List.all_eq_true]; intro x _; rfl
theorem row_set (l : List UInt8) (j : Nat) (c : UInt8) : (row l).setIfInBounds j (.int .u8 (c.toNat : Int)) = row (l.set j c) := by
  simp [row, List.map_set]

theorem info13 : (Try.prog.info? 49).map (·.size) = some 13 := by kernel_rfl
theorem info2 : (Try.prog.info? 53).map (·.size) = some 2 := by kernel_rfl

theorem cells_new (w : World) (V Z : Array Value) (t t' : TypeId) (j : Nat) (v : Value) (h : V[j]? = some v) : ((w.alloc (.cells V t)).alloc (.cells Z t')).cell? ((⟨w.heap.size, 0, none⟩ : Addr).add j) = some v := by
  have hadd : (⟨w.heap.size, 0, none⟩ : Addr).add j = ⟨w.heap.size, j, none⟩ := by unfold Addr.add; split <;> simp_all
  rw [hadd, cell_of_row _ w.heap.size j V t (0, 0) (heap_alloc2_old w _ _)]
  exact h

def chk (l : List UInt8) : List UInt8 := l.set 12 (UInt8.ofNat (48 + (cd (l.take 12)).toNat))

theorem cd_range (l : List UInt8) : 0 ≤ cd l ∧ cd l ≤ 9 := by unfold cd; omega
theorem u8_toNat (n : Nat) (h : n < 256) : (UInt8.ofNat n).toNat = n := by simp [UInt8.toNat_ofNat']; omega
theorem u8_ext {a b : UInt8} (h : a.toNat = b.toNat) : a = b := UInt8.toNat_inj.mp h

theorem below_row {B g : Nat} {w0 w : World} (hb : Below B w0 w) (hBg : B ≤ g) (cs : Array Value) : Below B w0 (w.setRow g cs) :=
  hb.trans ⟨rfl, rfl, rfl, by simp [World.setRow], fun k hk => setRow_other _ _ _ _ (by omega)⟩

theorem run_arrayAt (t e : TypeId) (n : Nat) (a : Addr) (len cap : Nat) (hu : Try.prog.underlying t = some (.array n e)) (h : n ≤ len) (w : World) : (Instr.arrayAt t (.slice (some a) len cap)).run Try.prog w = .ok (.pointer (some a)) w := by
  simp [Instr.arrayAt, run_underlying hu, Nat.not_lt.mpr h]

theorem withCheck_any (l : List UInt8) (h13 : l.length = 13) (hd : allD (l.take 12) = true) (w : World) :
    Calls Try.prog 29 #[.agg (row l)] w fun e w' => e = .returned (.agg (row (chk l))) ∧ Below w.heap.size w w' := by
  have hconv : ∀ Z, (convert 60 9 (.slice (some ⟨w.heap.size, 0, none⟩) 12 13)).run Try.prog ((w.alloc (.cells (row l) 49)).alloc (.cells Z 49)) = .ok (.string ⟨(l.take 12).toArray⟩) ((w.alloc (.cells (row l) 49)).alloc (.cells Z 49)) := fun Z => by
    have := run_convert_bytes_back (P := Try.prog) ((w.alloc (.cells (row l) 49)).alloc (.cells Z 49)) 60 9 5 ⟨w.heap.size, 0, none⟩ 13 (l.take 12) Try.underlying60 Try.underlying5 Try.underlying9
      (fun j hj => cells_new w _ Z _ _ j _ (by rw [row_at l j (by simp at hj; omega)]; simp))
    have e : (l.take 12).length = 12 := by simp [h13]
    rw [e] at this
    exact this
  have hM := fun w => missingDigit_any ⟨(l.take 12).toArray⟩ (by simp [ByteArray.size]; omega) (by simpa using hd) w
  generalize hV : row l = V at *
  go_enter Try.func29, Try.ntmps29
  go_wp2_with fail
  go_at_call 37
  refine (hM _).mono ?_
  rintro e w1 ⟨rfl, hw1⟩
  have g0 : w1.heap[w.heap.size]? = some (.cells V 49 (0, 0)) := by rw [hw1]; exact heap_alloc2_old w _ _
  obtain ⟨Z, g1, z13⟩ : ∃ Z : Array Value, w1.heap[w.heap.size + 1]? = some (.cells Z 49 (0, 0)) ∧ Z.size = 13 := ⟨_, by rw [hw1]; exact heap_alloc2_new w _ _, rfl⟩
  have bel : Below w.heap.size w w1 := by rw [hw1]; exact ((Below.refl _ _).alloc (Nat.le_refl _) _).alloc (by simp) _
  obtain ⟨v12, hc12⟩ : ∃ v, w1.cell? ⟨w.heap.size, 12, none⟩ = some v := ⟨_, by rw [cell_of_row _ _ 12 V _ _ g0, ← hV, row_at l 12 (by omega)]⟩
  have hf12 : w1.frozen? ⟨w.heap.size, 12, none⟩ = false := frozen_of_row _ _ _ _ _ g0
  have hx := cd_range (l.take 12)
  have HC : Hid (chk l = l.set 12 (UInt8.ofNat (48 + (cd (l.take 12)).toNat))) := rfl
  have HI1 : ∀ v, (Try.prog.info? 49).map (·.size) = some (V.setIfInBounds 12 v).size := fun v => by rw [Array.size_setIfInBounds, ← hV, row_size, h13]; exact info13
  have HS1 : ∀ v, Z.size = (V.setIfInBounds 12 v).size := fun v => by rw [Array.size_setIfInBounds, ← hV, row_size, h13]; exact z13
  have HR : Hid (∀ c : UInt8, V.setIfInBounds 12 (.int .u8 (c.toNat : Int)) = row (l.set 12 c)) := fun c => by rw [← hV]; exact row_set l 12 c
  have HL : Hid (l.length = 13) := h13
  clear hw1 hconv hM hV h13 hd
  generalize cd (l.take 12) = x at *
  obtain ⟨hx1, hx2⟩ := hx
  obtain ⟨c, hc⟩ : ∃ c : UInt8, (c.toNat : Int) = 48 + x := ⟨UInt8.ofNat (48 + x.toNat), by rw [u8_toNat _ (by omega)]; omega⟩
  have HCC : Hid (UInt8.ofNat (48 + x.toNat) = c) := u8_ext (by rw [u8_toNat _ (by omega)]; omega)
  have hw : IntKind.u8.wrap (48 + x) = (c.toNat : Int) := by rw [hc, IntKind.wrap_u8]; omega
  go_wp2_with (first | (refine wpList_load_row rfl 49 (.tmp 1) rfl w.heap.size rfl 49 _ (0, 0) _ (heap_setCell_same _ _ 12 V _ _ g0) Try.underlying49 rfl (HI1 _) ?_) | (refine wpList_store_row rfl 49 (.tmp 2) (.tmp 9) rfl (w.heap.size + 1) _ rfl rfl 49 Z ((heap_setCell_other _ _ _ _ (by simp)).trans g1) (HI1 _) (HS1 _) ?_ ?_))
  · rw [← hc, HR.out c]; exact row_one _
  · have e1 : V.setIfInBounds 12 (.int .u8 (48 + x)) = row (chk l) := by rw [← hc, HR.out c, HC.out, HCC.out]
    refine bodyPost_ret (results_cell_row rfl _ _ (w.heap.size + 1) 49 _ (0, 0) _ rfl (setRow_heap _ _ Z _ _ _ ((heap_setCell_other _ _ _ _ (by simp)).trans g1)) Try.underlying49 rfl (HI1 _)) rfl ?_
    exact ⟨by rw [e1], below_row (bel.setCell (Nat.le_refl _) _) (by omega) _⟩

theorem run_loadVar_part (w : World) (a : Addr) (ty : TypeId) (cs : List Value) (d : TypeDesc) (hc : ∀ j v, cs[j]? = some v → w.cell? (a.add j) = some v)
    (hu : Try.prog.underlying ty = some d) (hd : (match d with | .struct _ | .array _ _ => true | _ => false) = true) (hi : (Try.prog.info? ty).map (·.size) = some cs.length) :
    (loadVar ty a).run Try.prog w = .ok (.agg cs.toArray) w := by
  have hl : (loadCells a cs.length).run Try.prog w = .ok cs.toArray w := run_loadCells_list (P := Try.prog) w a cs hc
  cases hq : Try.prog.info? ty with
  | none => simp [hq] at hi
  | some i =>
    have hs : i.size = cs.length := by simpa [hq] using hi
    have hagg : (isAgg ty).run Try.prog w = .ok true w := by
      unfold isAgg
      rw [Sem.run_bind, run_underlying hu w]
      cases d <;> simp_all
    simp [loadVar, Sem.run_bind, hagg, sizeOf, typeInfo, hq, hs, hl]
theorem wpList_load_part {ops : Array Oper} {rest : List Oper} {o : Oper} {a : Act} {w : World} {Q : Exit → Act → World → Prop} (hgd : o.guard = none) (ty : TypeId) (x : Operand) (ho : o.op = .load ty x)
    (ad : Addr) (hx : a.eval x = .pointer (some ad)) (cs : List Value) (d : TypeDesc) (hc : ∀ j v, cs[j]? = some v → w.cell? (ad.add j) = some v)
    (hu : Try.prog.underlying ty = some d) (hd : (match d with | .struct _ | .array _ _ => true | _ => false) = true) (hi : (Try.prog.info? ty).map (·.size) = some cs.length)
    (h : wpList Try.prog ops Q rest (a.put o.dst (.agg cs.toArray)) w) : wpList Try.prog ops Q (o :: rest) a w :=
  wpList_plain hgd fun _ hK => by
    unfold Oper.wp execOp
    simp only [ho, hx, Instr.loadAt, Instr.sureAddr, Sem.run_bind, Sem.run_pure, Result.andThen_ok, run_loadVar_part w ad ty cs d hc hu hd hi]
    exact hK _ _ h

set_option maxRecDepth 20000 in
theorem head_any (l : List UInt8) (c0 c1 : UInt8) (h13 : l.length = 13) (h0 : l[0]? = some c0) (h1 : l[1]? = some c1) (w : World) :
    Calls Try.prog 30 #[.agg (row l)] w fun e w' => e = .returned (.agg (row [c0, c1])) ∧ Below w.heap.size w w' := by
  have hc : ∀ Z t, ∀ j v, (row [c0, c1]).toList[j]? = some v → ((w.alloc (.cells (row l) 49)).alloc (.cells Z t)).cell? ((⟨w.heap.size, 0, none⟩ : Addr).add j) = some v := fun Z t j v hj => by
    refine cells_new w _ Z _ _ j _ ?_
    match j, hj with
    | 0, hj => simp [row] at hj; subst hj; simp [row, h0]
    | 1, hj => simp [row] at hj; subst hj; simp [row, h1]
    | j + 2, hj => simp [row] at hj
  have hi : (Try.prog.info? 53).map (·.size) = some (row [c0, c1]).toList.length := info2
  have hi' : (Try.prog.info? 53).map (·.size) = some (row [c0, c1]).toList.toArray.size := info2
  have ho : (row [c0, c1]).toList.toArray.all (·.oneCell') = true := row_one _
  have HE : Hid ((row [c0, c1]).toList.toArray = row [c0, c1]) := by show _ = _; simp
  have HS : Hid ((row [c0, c1]).toList.toArray.size = 2) := rfl
  have hat := fun w a => run_arrayAt 53 _ 2 a 13 13 Try.underlying53 (by omega) w
  generalize row [c0, c1] = R at *
  generalize R.toList = r at *
  generalize row l = V at *
  go_enter Try.func30, Try.ntmps30
  go_wp2_with (first | (refine wpList_load_part rfl 53 (.tmp 5) rfl ⟨w.heap.size, 0, none⟩ rfl r _ (hc _ _) Try.underlying53 rfl hi ?_) | (refine wpList_store_row rfl 53 (.tmp 2) (.tmp 6) rfl (w.heap.size + 1) _ rfl rfl 53 _ (heap_alloc2_new w _ _) hi' HS.out.symm ho ?_))
  refine bodyPost_ret (results_cell_row rfl _ _ (w.heap.size + 1) 53 _ (0, 0) _ rfl (setRow_heap _ _ _ _ _ _ (heap_alloc2_new w _ _)) Try.underlying53 rfl hi') rfl ?_
  exact ⟨by rw [HE.out], below_row (((Below.refl _ _).alloc (Nat.le_refl _) _).alloc (by simp) _) (by omega) _⟩
end Go.Proofs.Ytnjciehnlemmlaa

/-
  Texts of this claim laid together: Scan, Shelf.
-/
import Derived.Test.YtabpkfhbnendjaaGreatM4
import Derived.Deep.WholeRow
import Derived.Laws.Tables
import Derived.Laws.IdiomStrings
import Derived.Shelf.Strings.Builder1
import Derived.Shelf.Strings.Builder2
import Derived.Shelf.Strings.BuilderF
import Derived.Shelf.Strings.BuilderK
import Derived.Shelf.Strings.Builder2Cap
import Derived.Shelf.Strings.Prefix
import Derived.Shelf.Bits.Mul64
import Derived.Shelf.Strings.Repeat
import Derived.Shelf.Strings.BuilderCap
import Derived.Ground.Names2Prog
import Derived.Shelf.Slices.Clone
import Derived.Test.YtabpkfhbnendjaaGreatProg
/-
  Contracts of the program's arrays of digits (withCheckDigit, head, text), for every array of digits.
-/
namespace Go.Proofs.YtabpkfhbnendjaaGreat
open Go.ChangeShapes Go.WideShapes Go.ChangeAt Go.RowKit
set_option linter.unusedVariables false

/-- Bytes as cells. -/
def rowL (l : List UInt8) : List Value := l.map fun c => Value.int .u8 (c.toNat : Int)
def row (l : List UInt8) : Array Value := (l.map fun c => Value.int .u8 (c.toNat : Int)).toArray
theorem row_list (l : List UInt8) : row l = (rowL l).toArray := rfl
theorem rowL_length (l : List UInt8) : (rowL l).length = l.length := by simp [rowL]
theorem row_size (l : List UInt8) : (row l).size = l.length := by simp [row]
theorem row_at (l : List UInt8) (j : Nat) (h : j < l.length) : (row l)[j]? = some (.int .u8 (l[j].toNat : Int)) := by simp [row, h]
theorem row_one (l : List UInt8) : (row l).all (·.oneCell') = true := by
  simp only [row, List.all_toArray, List.all_map, List.all_eq_true]; intro x _; rfl
theorem row_set (l : List UInt8) (j : Nat) (c : UInt8) : (row l).setIfInBounds j (.int .u8 (c.toNat : Int)) = row (l.set j c) := by
  simp [row, List.map_set]

theorem info13 : (Tryz.prog.info? 117).map (·.size) = some 13 := by kernel_rfl
theorem info2 : (Tryz.prog.info? 121).map (·.size) = some 2 := by kernel_rfl

theorem cells_new (w : World) (V Z : Array Value) (t t' : TypeId) (j : Nat) (v : Value) (h : V[j]? = some v) : ((w.alloc (.cells V t)).alloc (.cells Z t')).cell? ((⟨w.heap.size, 0, none⟩ : Addr).add j) = some v := by
  have hadd : (⟨w.heap.size, 0, none⟩ : Addr).add j = ⟨w.heap.size, j, none⟩ := by unfold Addr.add; split <;> simp_all
  rw [hadd, cell_of_row _ w.heap.size j V t (0, 0) (heap_alloc2_old w _ _)]
  exact h

def chk (l : List UInt8) : List UInt8 := l.set 12 (UInt8.ofNat (48 + (cd (l.take 12)).toNat))

theorem cd_range (l : List UInt8) : 0 ≤ cd l ∧ cd l ≤ 9 := by unfold cd; omega
theorem u8_toNat (n : Nat) (h : n < 256) : (UInt8.ofNat n).toNat = n := by simp [UInt8.toNat_ofNat']; omega
theorem u8_ext {a b : UInt8} (h : a.toNat = b.toNat) : a = b := UInt8.toNat_inj.mp h

theorem below_row {B g : Nat} {w0 w : World} (hb : Below B w0 w) (hBg : B ≤ g) (cs : Array Value) : Below B w0 (w.setRow g cs) :=
  hb.trans ⟨rfl, rfl, rfl, by simp [World.setRow], fun k hk => setRow_other _ _ _ _ (by omega)⟩

theorem run_arrayAt (t e : TypeId) (n : Nat) (a : Addr) (len cap : Nat) (hu : Tryz.prog.underlying t = some (.array n e)) (h : n ≤ len) (w : World) : (Instr.arrayAt t (.slice (some a) len cap)).run Tryz.prog w = .ok (.pointer (some a)) w := by
  simp [Instr.arrayAt, run_underlying hu, Nat.not_lt.mpr h]

theorem withCheck_any (l : List UInt8) (h13 : l.length = 13) (hd : allD (l.take 12) = true) (w : World) :
    Calls Tryz.prog 62 #[.agg (row l)] w fun e w' => e = .returned (.agg (row (chk l))) ∧ Below w.heap.size w w' := by
  have hconv : ∀ Z, (convert 22 9 (.slice (some ⟨w.heap.size, 0, none⟩) 12 13)).run Tryz.prog ((w.alloc (.cells (row l) 117)).alloc (.cells Z 117)) = .ok (.string ⟨(l.take 12).toArray⟩) ((w.alloc (.cells (row l) 117)).alloc (.cells Z 117)) := fun Z => by
    have := run_convert_bytes_back (P := Tryz.prog) ((w.alloc (.cells (row l) 117)).alloc (.cells Z 117)) 22 9 5 ⟨w.heap.size, 0, none⟩ 13 (l.take 12) Tryz.underlying22 Tryz.underlying5 Tryz.underlying9
      (fun j hj => cells_new w _ Z _ _ j _ (by rw [row_at l j (by simp at hj; omega)]; simp))
    have e : (l.take 12).length = 12 := by simp [h13]
    rw [e] at this
    exact this
  have hM := fun w => missingDigit_any ⟨(l.take 12).toArray⟩ (by simp [ByteArray.size]; omega) (by simpa using hd) w
  generalize hV : row l = V at *
  go_enter Tryz.func62, Tryz.ntmps62
  go_wp2_with fail
  go_at_call 72
  refine (hM _).mono ?_
  rintro e w1 ⟨rfl, hw1⟩
  have g0 : w1.heap[w.heap.size]? = some (.cells V 117 (0, 0)) := by rw [hw1]; exact heap_alloc2_old w _ _
  obtain ⟨Z, g1, z13⟩ : ∃ Z : Array Value, w1.heap[w.heap.size + 1]? = some (.cells Z 117 (0, 0)) ∧ Z.size = 13 := ⟨_, by rw [hw1]; exact heap_alloc2_new w _ _, rfl⟩
  have bel : Below w.heap.size w w1 := by rw [hw1]; exact ((Below.refl _ _).alloc (Nat.le_refl _) _).alloc (by simp) _
  obtain ⟨v12, hc12⟩ : ∃ v, w1.cell? ⟨w.heap.size, 12, none⟩ = some v := ⟨_, by rw [cell_of_row _ _ 12 V _ _ g0, ← hV, row_at l 12 (by omega)]⟩
  have hf12 : w1.frozen? ⟨w.heap.size, 12, none⟩ = false := frozen_of_row _ _ _ _ _ g0
  have hx := cd_range (l.take 12)
  have HC : Hid (chk l = l.set 12 (UInt8.ofNat (48 + (cd (l.take 12)).toNat))) := rfl
  have HI1 : ∀ v, (Tryz.prog.info? 117).map (·.size) = some (V.setIfInBounds 12 v).size := fun v => by rw [Array.size_setIfInBounds, ← hV, row_size, h13]; exact info13
  have HS1 : ∀ v, Z.size = (V.setIfInBounds 12 v).size := fun v => by rw [Array.size_setIfInBounds, ← hV, row_size, h13]; exact z13
  have HR : Hid (∀ c : UInt8, V.setIfInBounds 12 (.int .u8 (c.toNat : Int)) = row (l.set 12 c)) := fun c => by rw [← hV]; exact row_set l 12 c
  have HL : Hid (l.length = 13) := h13
  clear hw1 hconv hM hV h13 hd
  generalize cd (l.take 12) = x at *
  obtain ⟨hx1, hx2⟩ := hx
  obtain ⟨c, hc⟩ : ∃ c : UInt8, (c.toNat : Int) = 48 + x := ⟨UInt8.ofNat (48 + x.toNat), by rw [u8_toNat _ (by omega)]; omega⟩
  have HCC : Hid (UInt8.ofNat (48 + x.toNat) = c) := u8_ext (by rw [u8_toNat _ (by omega)]; omega)
  have hw : IntKind.u8.wrap (48 + x) = (c.toNat : Int) := by rw [hc, IntKind.wrap_u8]; omega
  go_wp2_with (first | (refine wpList_load_row rfl 117 (.tmp 1) rfl w.heap.size rfl 117 _ (0, 0) _ (heap_setCell_same _ _ 12 V _ _ g0) Tryz.underlying117 rfl (HI1 _) ?_) | (refine wpList_store_row rfl 117 (.tmp 2) (.tmp 9) rfl (w.heap.size + 1) _ rfl rfl 117 Z ((heap_setCell_other _ _ _ _ (by simp)).trans g1) (HI1 _) (HS1 _) ?_ ?_))
  · rw [← hc, HR.out c]; exact row_one _
  · have e1 : V.setIfInBounds 12 (.int .u8 (48 + x)) = row (chk l) := by rw [← hc, HR.out c, HC.out, HCC.out]
    refine bodyPost_ret (results_cell_row rfl _ _ (w.heap.size + 1) 117 _ (0, 0) _ rfl (setRow_heap _ _ Z _ _ _ ((heap_setCell_other _ _ _ _ (by simp)).trans g1)) Tryz.underlying117 rfl (HI1 _)) rfl ?_
    exact ⟨by rw [e1], below_row (bel.setCell (Nat.le_refl _) _) (by omega) _⟩

theorem run_loadVar_part (w : World) (a : Addr) (ty : TypeId) (cs : List Value) (d : TypeDesc) (hc : ∀ j v, cs[j]? = some v → w.cell? (a.add j) = some v)
    (hu : Tryz.prog.underlying ty = some d) (hd : (match d with | .struct _ | .array _ _ => true | _ => false) = true) (hi : (Tryz.prog.info? ty).map (·.size) = some cs.length) :
    (loadVar ty a).run Tryz.prog w = .ok (.agg cs.toArray) w := by
  have hl : (loadCells a cs.length).run Tryz.prog w = .ok cs.toArray w := run_loadCells_list (P := Tryz.prog) w a cs hc
  cases hq : Tryz.prog.info? ty with
  | none => simp [hq] at hi
  | some i =>
    have hs : i.size = cs.length := by simpa [hq] using hi
    have hagg : (isAgg ty).run Tryz.prog w = .ok true w := by
      unfold isAgg
      rw [Sem.run_bind, run_underlying hu w]
      cases d <;> simp_all
    simp [loadVar, Sem.run_bind, hagg, sizeOf, typeInfo, hq, hs, hl]
theorem wpList_load_part {ops : Array Oper} {rest : List Oper} {o : Oper} {a : Act} {w : World} {Q : Exit → Act → World → Prop} (hgd : o.guard = none) (ty : TypeId) (x : Operand) (ho : o.op = .load ty x)
    (ad : Addr) (hx : a.eval x = .pointer (some ad)) (cs : List Value) (d : TypeDesc) (hc : ∀ j v, cs[j]? = some v → w.cell? (ad.add j) = some v)
    (hu : Tryz.prog.underlying ty = some d) (hd : (match d with | .struct _ | .array _ _ => true | _ => false) = true) (hi : (Tryz.prog.info? ty).map (·.size) = some cs.length)
    (h : wpList Tryz.prog ops Q rest (a.put o.dst (.agg cs.toArray)) w) : wpList Tryz.prog ops Q (o :: rest) a w :=
  wpList_plain hgd fun _ hK => by
    unfold Oper.wp execOp
    simp only [ho, hx, Instr.loadAt, Instr.sureAddr, Sem.run_bind, Sem.run_pure, Result.andThen_ok, run_loadVar_part w ad ty cs d hc hu hd hi]
    exact hK _ _ h

set_option maxRecDepth 20000 in
theorem head_any (l : List UInt8) (c0 c1 : UInt8) (h13 : l.length = 13) (h0 : l[0]? = some c0) (h1 : l[1]? = some c1) (w : World) :
    Calls Tryz.prog 63 #[.agg (row l)] w fun e w' => e = .returned (.agg (row [c0, c1])) ∧ Below w.heap.size w w' := by
  have hc : ∀ Z t, ∀ j v, (row [c0, c1]).toList[j]? = some v → ((w.alloc (.cells (row l) 117)).alloc (.cells Z t)).cell? ((⟨w.heap.size, 0, none⟩ : Addr).add j) = some v := fun Z t j v hj => by
    refine cells_new w _ Z _ _ j _ ?_
    match j, hj with
    | 0, hj => simp [row] at hj; subst hj; simp [row, h0]
    | 1, hj => simp [row] at hj; subst hj; simp [row, h1]
    | j + 2, hj => simp [row] at hj
  have hi : (Tryz.prog.info? 121).map (·.size) = some (row [c0, c1]).toList.length := info2
  have hi' : (Tryz.prog.info? 121).map (·.size) = some (row [c0, c1]).toList.toArray.size := info2
  have ho : (row [c0, c1]).toList.toArray.all (·.oneCell') = true := row_one _
  have HE : Hid ((row [c0, c1]).toList.toArray = row [c0, c1]) := by show _ = _; simp
  have HS : Hid ((row [c0, c1]).toList.toArray.size = 2) := rfl
  have hat := fun w a => run_arrayAt 121 _ 2 a 13 13 Tryz.underlying121 (by omega) w
  generalize row [c0, c1] = R at *
  generalize R.toList = r at *
  generalize row l = V at *
  go_enter Tryz.func63, Tryz.ntmps63
  go_wp2_with (first | (refine wpList_load_part rfl 121 (.tmp 5) rfl ⟨w.heap.size, 0, none⟩ rfl r _ (hc _ _) Tryz.underlying121 rfl hi ?_) | (refine wpList_store_row rfl 121 (.tmp 2) (.tmp 6) rfl (w.heap.size + 1) _ rfl rfl 121 _ (heap_alloc2_new w _ _) hi' HS.out.symm ho ?_))
  refine bodyPost_ret (results_cell_row rfl _ _ (w.heap.size + 1) 121 _ (0, 0) _ rfl (setRow_heap _ _ _ _ _ _ (heap_alloc2_new w _ _)) Tryz.underlying121 rfl hi') rfl ?_
  exact ⟨by rw [HE.out], below_row (((Below.refl _ _).alloc (Nat.le_refl _) _).alloc (by simp) _) (by omega) _⟩
end Go.Proofs.YtabpkfhbnendjaaGreat

/-
  Contracts of library functions at this seat's program, laid plain by wip/shelf.sh with the kit's own tool; each is one application of a theorem of the library.
-/
namespace Go.Proofs.YtabpkfhbnendjaaGreat
open Go.Shelf
def Tryz.lays206_ren : Go.Shelf.Ren := ⟨fun | 206 => 92 | n => n, fun | 9 => 9 | 4 => 4 | 3 => 3 | n => n, fun | n => n⟩
theorem Tryz.lays206 : Go.Proofs.Lays.n206 Tryz.prog Tryz.lays206_ren := {
  mixed := by kernel_rfl
  f206 := Tryz.func92.trans (congrArg some (by kernel_rfl))
  t3 := Tryz.underlying3
  a3 := Tryz.isAgg3
  z3 := Tryz.sizeOf3
  v3 := Tryz.zeroValue3
  t4 := Tryz.underlying4
  a4 := Tryz.isAgg4
  z4 := Tryz.sizeOf4
  v4 := Tryz.zeroValue4
  t9 := Tryz.underlying9
  a9 := Tryz.isAgg9
  z9 := Tryz.sizeOf9
  v9 := Tryz.zeroValue9 }
open Go.RowKit Go.Lib in
theorem Tryz.stringslite_HasPrefix (s p : ByteArray) (w : World) :
    Calls Tryz.prog 92 #[.string s, .string p] w fun e w' => e = .returned (.bool (Lib.hasPrefix s.data.toList p.data.toList)) ∧ w' = w := Any.stringslite_HasPrefix Tryz.lays206 s p w
def Tryz.lays99_ren : Go.Shelf.Ren := ⟨fun | 99 => 80 | 206 => 92 | n => n, fun | 9 => 9 | 4 => 4 | 3 => 3 | n => n, fun | n => n⟩
theorem Tryz.lays99 : Go.Proofs.Lays.n99 Tryz.prog Tryz.lays99_ren := {
  mixed := by kernel_rfl
  f99 := Tryz.func80.trans (congrArg some (by kernel_rfl))
  f206 := Tryz.func92.trans (congrArg some (by kernel_rfl))
  t3 := Tryz.underlying3
  a3 := Tryz.isAgg3
  z3 := Tryz.sizeOf3
  v3 := Tryz.zeroValue3
  t4 := Tryz.underlying4
  a4 := Tryz.isAgg4
  z4 := Tryz.sizeOf4
  v4 := Tryz.zeroValue4
  t9 := Tryz.underlying9
  a9 := Tryz.isAgg9
  z9 := Tryz.sizeOf9
  v9 := Tryz.zeroValue9 }
open Go.RowKit Go.Lib in
theorem Tryz.strings_HasPrefix (s p : ByteArray) (w : World) :
    Calls Tryz.prog 80 #[.string s, .string p] w fun e w' => e = .returned (.bool (Lib.hasPrefix s.data.toList p.data.toList)) ∧ w' = w := Any.strings_HasPrefix Tryz.lays99 s p w
def Tryz.lays212_ren : Go.Shelf.Ren := ⟨fun | 212 => 79 | 263 => 90 | 264 => 91 | n => n, fun | 46 => 139 | 51 => 152 | 146 => 153 | 53 => 155 | 148 => 156 | n => n, fun | n => n⟩
theorem Tryz.lays212 : Go.Proofs.Lays.n212 Tryz.prog Tryz.lays212_ren := {
  mixed := by kernel_rfl
  f212 := Tryz.func79.trans (congrArg some (by kernel_rfl))
  f263 := Tryz.func90.trans (congrArg some (by kernel_rfl))
  f264 := Tryz.func91.trans (congrArg some (by kernel_rfl))
  t46 := Tryz.underlying139
  a46 := Tryz.isAgg139
  z46 := Tryz.sizeOf139
  v46 := Tryz.zeroValue139
  t51 := Tryz.underlying152
  a51 := Tryz.isAgg152
  z51 := Tryz.sizeOf152
  v51 := Tryz.zeroValue152
  t53 := Tryz.underlying155
  a53 := Tryz.isAgg155
  z53 := Tryz.sizeOf155
  v53 := Tryz.zeroValue155
  t146 := Tryz.underlying153
  a146 := Tryz.isAgg153
  z146 := Tryz.sizeOf153
  v146 := Tryz.zeroValue153
  t148 := Tryz.underlying156
  a148 := Tryz.isAgg156
  z148 := Tryz.sizeOf156
  v148 := Tryz.zeroValue156 }
open Go.RowKit Go.Lib in
theorem Tryz.bits_Mul (x y : Nat) (hx : x < 18446744073709551616) (hy : y < 18446744073709551616) (w : World) :
    Calls Tryz.prog 79 #[.int .u64 x, .int .u64 y] w fun e w' => e = .returned (.tuple #[.int .u64 ((x * y / 18446744073709551616 : Nat) : Int), .int .u64 ((x * y % 18446744073709551616 : Nat) : Int)]) ∧ w' = w := Any.bits_Mul Tryz.lays212 x y hx hy w
def Tryz.lays105_ren : Go.Shelf.Ren := ⟨fun | 105 => 71 | 212 => 79 | 99 => 80 | 165 => 81 | 166 => 82 | 170 => 83 | 169 => 84 | 263 => 90 | 264 => 91 | 206 => 92 | 240 => 93 | 241 => 94 | 276 => 95 | 277 => 96 | n => n, fun | 9 => 9 | 3 => 3 | 4 => 4 | 20 => 20 | 0 => 0 | 46 => 139 | 109 => 140 | 5 => 5 | 72 => 145 | 76 => 149 | 51 => 152 | 146 => 153 | 53 => 155 | 148 => 156 | 70 => 143 | 37 => 22 | 75 => 148 | 127 => 158 | 164 => 159 | 80 => 69 | n => n, fun | n => n⟩
theorem Tryz.lays105 : Go.Proofs.Lays.n105 Tryz.prog Tryz.lays105_ren := {
  mixed := by kernel_rfl
  f99 := Tryz.func80.trans (congrArg some (by kernel_rfl))
  f105 := Tryz.func71.trans (congrArg some (by kernel_rfl))
  f165 := Tryz.func81.trans (congrArg some (by kernel_rfl))
  f166 := Tryz.func82.trans (congrArg some (by kernel_rfl))
  f169 := Tryz.func84.trans (congrArg some (by kernel_rfl))
  f170 := Tryz.func83.trans (congrArg some (by kernel_rfl))
  f206 := Tryz.func92.trans (congrArg some (by kernel_rfl))
  f212 := Tryz.func79.trans (congrArg some (by kernel_rfl))
  f240 := Tryz.func93.trans (congrArg some (by kernel_rfl))
  f241 := Tryz.func94.trans (congrArg some (by kernel_rfl))
  f263 := Tryz.func90.trans (congrArg some (by kernel_rfl))
  f264 := Tryz.func91.trans (congrArg some (by kernel_rfl))
  f276 := Tryz.func95.trans (congrArg some (by kernel_rfl))
  f277 := Tryz.func96.trans (congrArg some (by kernel_rfl))
  t0 := Tryz.underlying0
  a0 := Tryz.isAgg0
  z0 := Tryz.sizeOf0
  v0 := Tryz.zeroValue0
  t3 := Tryz.underlying3
  a3 := Tryz.isAgg3
  z3 := Tryz.sizeOf3
  v3 := Tryz.zeroValue3
  t4 := Tryz.underlying4
  a4 := Tryz.isAgg4
  z4 := Tryz.sizeOf4
  v4 := Tryz.zeroValue4
  t5 := Tryz.underlying5
  a5 := Tryz.isAgg5
  z5 := Tryz.sizeOf5
  v5 := Tryz.zeroValue5
  t9 := Tryz.underlying9
  a9 := Tryz.isAgg9
  z9 := Tryz.sizeOf9
  v9 := Tryz.zeroValue9
  t20 := Tryz.underlying20
  a20 := Tryz.isAgg20
  z20 := Tryz.sizeOf20
  v20 := Tryz.zeroValue20
  t37 := Tryz.underlying22
  a37 := Tryz.isAgg22
  z37 := Tryz.sizeOf22
  v37 := Tryz.zeroValue22
  t46 := Tryz.underlying139
  a46 := Tryz.isAgg139
  z46 := Tryz.sizeOf139
  v46 := Tryz.zeroValue139
  t51 := Tryz.underlying152
  a51 := Tryz.isAgg152
  z51 := Tryz.sizeOf152
  v51 := Tryz.zeroValue152
  t53 := Tryz.underlying155
  a53 := Tryz.isAgg155
  z53 := Tryz.sizeOf155
  v53 := Tryz.zeroValue155
  t70 := Tryz.underlying143
  a70 := Tryz.isAgg143
  z70 := Tryz.sizeOf143
  v70 := Tryz.zeroValue143
  t72 := Tryz.underlying145
  a72 := Tryz.isAgg145
  z72 := Tryz.sizeOf145
  v72 := Tryz.zeroValue145
  t75 := Tryz.underlying148
  a75 := Tryz.isAgg148
  z75 := Tryz.sizeOf148
  v75 := Tryz.zeroValue148
  t76 := Tryz.underlying149
  a76 := Tryz.isAgg149
  z76 := Tryz.sizeOf149
  v76 := Tryz.zeroValue149
  t109 := Tryz.underlying140
  a109 := Tryz.isAgg140
  z109 := Tryz.sizeOf140
  v109 := Tryz.zeroValue140
  t127 := Tryz.underlying158
  a127 := Tryz.isAgg158
  z127 := Tryz.sizeOf158
  v127 := Tryz.zeroValue158
  t146 := Tryz.underlying153
  a146 := Tryz.isAgg153
  z146 := Tryz.sizeOf153
  v146 := Tryz.zeroValue153
  t148 := Tryz.underlying156
  a148 := Tryz.isAgg156
  z148 := Tryz.sizeOf156
  v148 := Tryz.zeroValue156
  t164 := Tryz.underlying159
  a164 := Tryz.isAgg159
  z164 := Tryz.sizeOf159
  v164 := Tryz.zeroValue159 }
open Go.RowKit Go.Lib in
theorem Tryz.strings_Repeat_zero (s : ByteArray) (w : World) :
    Calls Tryz.prog 71 #[.string s, .int .i64 0] w fun e w' => e = .returned (.string ⟨#[]⟩) ∧ w' = w := Any.strings_Repeat_zero Tryz.lays105 s w
def Tryz.laysNm215_ren : Go.Shelf.Ren := ⟨fun | 15 => 30 | n => n, fun | 22 => 32 | 3 => 3 | 4 => 4 | n => n, fun | n => n⟩
theorem Tryz.laysNm215 : Go.Proofs.Lays2.n15 Tryz.prog Tryz.laysNm215_ren := {
  mixed := by kernel_rfl
  f15 := Tryz.func30.trans (congrArg some (by kernel_rfl))
  t3 := Tryz.underlying3
  a3 := Tryz.isAgg3
  z3 := Tryz.sizeOf3
  v3 := Tryz.zeroValue3
  t4 := Tryz.underlying4
  a4 := Tryz.isAgg4
  z4 := Tryz.sizeOf4
  v4 := Tryz.zeroValue4
  t22 := Tryz.underlying32
  a22 := Tryz.isAgg32
  z22 := Tryz.sizeOf32
  v22 := Tryz.zeroValue32
  i3 := by kernel_rfl }
open Go.RowKit Go.Lib in
theorem Tryz.slices_Clone_int (b off n c : Nat) (zs : List Int) (w : World) (hz : n ≤ zs.length) (hbig : n * 8 ≤ 140737488355328) (hc : ∀ j, j < zs.length → w.cell? ⟨b, off + j, none⟩ = some (.int .i64 (zs.getD j 0))) :
    Calls Tryz.prog 30 #[.slice (some ⟨b, off, none⟩) n c] w fun e w' => ∃ v', e = .returned v' ∧ w'.ownsRow w.heap.size 3 1 v' n ((zs.take n).map (Value.int .i64)) ∧ v' ≠ .slice none 0 0 ∧ Below w.heap.size w w' := Any.slices_Clone_int Tryz.laysNm215 b off n c zs w hz hbig hc
end Go.Proofs.YtabpkfhbnendjaaGreat

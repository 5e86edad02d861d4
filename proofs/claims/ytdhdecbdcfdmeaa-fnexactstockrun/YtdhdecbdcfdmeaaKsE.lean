/-
  The specification's l14Act.
-/
import Derived.Test.YtdhdecbdcfdmeaaKsD
namespace Go.Proofs.Ytdhdecbdcfdmeaa
open Go.ChangeShapes Go.WideShapes Go.ChangeAt Go.RowKit Go.Deep
set_option linter.unusedVariables false

theorem StkP.trans {B : Nat} {av lv lv' : Value} {w W w1 : World} {σ σ' : StS} (h : StkP B av w σ lv W) (k : StkP B lv W σ' lv' w1) : StkP B av w σ' lv' w1 := by
  have hn : ∀ q, lv.ownBlock = some q → av.ownBlock = some q ∨ w.heap.size ≤ q := h.new
  have hz := h.fr.size
  refine ⟨k.row, ⟨k.fr.os.trans h.fr.os, k.fr.tape.trans h.fr.tape, k.fr.output.trans h.fr.output, Nat.le_trans h.fr.size k.fr.size, fun q hq hx => (k.fr.block q (Nat.lt_of_lt_of_le hq hz) (fun e => ?_)).trans (h.fr.block q hq hx)⟩, fun q hq => ?_⟩
  · rcases hn q e with z | z
    · exact hx z
    · omega
  · rcases k.new q hq with z | z
    · exact hn q z
    · exact .inr (by omega)
/-- The boxes of what is told. -/
structure Rx (B : Nat) (av : Value) (w : World) (σ : StS) (lv : Value) (W : World) : Prop where
  st : StkP B av w σ lv W
  r2 : W.heap[w.heap.size + 2]? = some (.cells #[.int .i64 0, .int .i64 0, .int .i64 0, .int .i64 0, .int .i64 0, .slice none 0 0] 29 (0, 0))
  r3 : W.heap[w.heap.size + 3]? = some (.cells #[.int .i64 0, .int .i64 0] 36 (0, 0))
theorem Bx.pass {B : Nat} {av : Value} {w : World} {σ σ' : StS} {lv lv' : Value} {kd : Int} {ar : ByteArray} {lt nu un : Int} {W w1 : World} (h : Bx B av w σ lv kd ar lt nu un W) (k : StkP B lv W σ' lv' w1) : Rx B av w σ' lv' w1 :=
  ⟨h.st.trans k, (k.fr.block _ (blkLt h.r2) (h.st.ne h.r2 (by decide))).trans h.r2, (k.fr.block _ (blkLt h.r3) (h.st.ne h.r3 (by decide))).trans h.r3⟩
theorem Rx.later {B : Nat} {av : Value} {w : World} {σ : StS} {lv : Value} {W W' : World} (h : Rx B av w σ lv W) (hb : Below W.heap.size W W') : Rx B av w σ lv W' :=
  ⟨h.st.later hb, (hb.block _ (blkLt h.r2)).trans h.r2, (hb.block _ (blkLt h.r3)).trans h.r3⟩
theorem Rx.ret {B : Nat} {av : Value} {w : World} {σ : StS} {lv : Value} {W F : World} (h : Rx B av w σ lv W) (hf : Fr (fun q => q = w.heap.size + 2 ∨ q = w.heap.size + 3) W F) : StkP B av w σ lv F := by
  refine ⟨row_of h.st.row (fun q hq => hf.block q (row_lt h.st.row q hq).2 ?_), ?_, h.st.new⟩
  · rintro (e | e)
    · exact h.st.ne h.r2 (by decide) (by rw [hq, e])
    · exact h.st.ne h.r3 (by decide) (by rw [hq, e])
  · have k := h.st.fr
    exact ⟨hf.os.trans k.os, hf.tape.trans k.tape, hf.output.trans k.output, Nat.le_trans k.size hf.size, fun q hq hx => (hf.block q (Nat.lt_of_lt_of_le hq k.size) (by omega)).trans (k.block q hq hx)⟩
theorem Rx.retA {B : Nat} {av : Value} {w : World} {σ : StS} {lv : Value} {W : World} (h : Rx B av w σ lv W) (x0 x1 x2 x3 x4 x5 c n : Value) :
    StkP B av w σ lv ((((((((W.setCell ⟨w.heap.size + 2, 0, none⟩ (x0)).setCell ⟨w.heap.size + 2, 1, none⟩ (x1)).setCell ⟨w.heap.size + 2, 2, none⟩ (x2)).setCell ⟨w.heap.size + 2, 3, none⟩ (x3)).setCell ⟨w.heap.size + 2, 4, none⟩ (x4)).setCell ⟨w.heap.size + 2, 5, none⟩ (x5)).setCell ⟨w.heap.size + 3, 0, none⟩ (c)).setCell ⟨w.heap.size + 3, 1, none⟩ (n)) ∧ ((((((((W.setCell ⟨w.heap.size + 2, 0, none⟩ (x0)).setCell ⟨w.heap.size + 2, 1, none⟩ (x1)).setCell ⟨w.heap.size + 2, 2, none⟩ (x2)).setCell ⟨w.heap.size + 2, 3, none⟩ (x3)).setCell ⟨w.heap.size + 2, 4, none⟩ (x4)).setCell ⟨w.heap.size + 2, 5, none⟩ (x5)).setCell ⟨w.heap.size + 3, 0, none⟩ (c)).setCell ⟨w.heap.size + 3, 1, none⟩ (n)).heap[w.heap.size + 2]? = some (.cells #[x0, x1, x2, x3, x4, x5] 29 (0, 0)) ∧ ((((((((W.setCell ⟨w.heap.size + 2, 0, none⟩ (x0)).setCell ⟨w.heap.size + 2, 1, none⟩ (x1)).setCell ⟨w.heap.size + 2, 2, none⟩ (x2)).setCell ⟨w.heap.size + 2, 3, none⟩ (x3)).setCell ⟨w.heap.size + 2, 4, none⟩ (x4)).setCell ⟨w.heap.size + 2, 5, none⟩ (x5)).setCell ⟨w.heap.size + 3, 0, none⟩ (c)).setCell ⟨w.heap.size + 3, 1, none⟩ (n)).heap[w.heap.size + 3]? = some (.cells #[c, n] 36 (0, 0)) := by
  obtain ⟨a1, a2⟩ := six h.r2 x0 x1 x2 x3 x4 x5
  have a3 := (a2.block _ (blkLt h.r3) (by omega)).trans h.r3
  obtain ⟨b1, b2⟩ := two a3 c n
  exact ⟨h.ret ((a2.mono (fun q hq => .inl hq)).trans (b2.mono (fun q hq => .inr hq))), (b2.block _ (blkLt a1) (by omega)).trans a1, b1⟩
set_option maxHeartbeats 16000000 in
set_option maxRecDepth 8000 in
theorem sAct1 {B : Nat} (σ : StS) (a : Option Addr) (c : Nat) (ix : Nat) (hix : ix ≤ 1000) (hok : StOK ix σ) (ar : ByteArray) (lt nu un : Int) (har : ar.size ≤ 2000000) (w : World) (hB : B ≤ w.heap.size) (hr : w.ownsRow B 38 5 (.slice a σ.L.length c) σ.L.length (slCells σ.L)) :
    Calls Try.prog 27 #[.agg (stkV σ (.slice a σ.L.length c)), .agg #[.int .i64 1, .string ar, .int .i64 lt, .int .i64 nu, .int .i64 un]] w (ActP B (.slice a σ.L.length c) w (rcvC σ ⟨1, ar, lt, nu, un⟩) (rcvN σ ⟨1, ar, lt, nu, un⟩) (rcvS σ ⟨1, ar, lt, nu, un⟩)) := by
  obtain ⟨W4, hW4⟩ : ∃ W4, W4 = ((((w.alloc (Obj.cells #[.int .i64 σ.day, .int .i64 σ.rc, .int .i64 σ.sd, .int .i64 σ.wa, .int .i64 σ.sh, .slice a σ.L.length c] 29)).alloc (Obj.cells #[.int .i64 1, .string ar, .int .i64 lt, .int .i64 nu, .int .i64 un] 34)).alloc (Obj.cells #[.int .i64 0, .int .i64 0, .int .i64 0, .int .i64 0, .int .i64 0, .slice none 0 0] 29)).alloc (Obj.cells #[.int .i64 0, .int .i64 0] 36)) := ⟨_, rfl⟩
  have HB : Hid (Bx B (.slice a σ.L.length c) w σ (.slice a σ.L.length c) 1 ar lt nu un W4) := by rw [hW4]; exact bxStart hr 1 ar lt nu un
  have hst : Value.agg (stkV σ (.slice a σ.L.length c)) = .agg #[.int .i64 σ.day, .int .i64 σ.rc, .int .i64 σ.sd, .int .i64 σ.wa, .int .i64 σ.sh, .slice a σ.L.length c] := rfl
  rw [hst]
  have hsz : B ≤ W4.heap.size := Nat.le_trans hB HB.out.st.fr.size
  have x0 := blkCell HB.out.x 0 _ rfl
  have HCl := sReceive_any σ a c ix hix hok 1 ar lt nu un har W4 hsz HB.out.st.row
  rw [hst] at HCl
  generalize rcvC σ ⟨1, ar, lt, nu, un⟩ = rc at *
  generalize rcvN σ ⟨1, ar, lt, nu, un⟩ = rn at *
  generalize rcvS σ ⟨1, ar, lt, nu, un⟩ = rs at *

  clear hok hr hst
  go_enter Try.func27, Try.ntmps27
  go_upto_region 1 with fail
  rw [← hW4]
  clear hW4

  have b0 := blkCell HB.out.s 0 _ rfl
  have b1 := blkCell HB.out.s 1 _ rfl
  have b2 := blkCell HB.out.s 2 _ rfl
  have b3 := blkCell HB.out.s 3 _ rfl
  have b4 := blkCell HB.out.s 4 _ rfl
  have b5 := blkCell HB.out.s 5 _ rfl

  have x1 := blkCell HB.out.x 1 _ rfl
  have x2 := blkCell HB.out.x 2 _ rfl
  have x3 := blkCell HB.out.x 3 _ rfl
  have x4 := blkCell HB.out.x 4 _ rfl
  go_wp2_with fail
  (first | go_at_call 42 | skip)
  refine HCl.mono ?_
  rintro e w1 ⟨va, vc, rfl, hk⟩
  have HR : Hid (Rx B (.slice a σ.L.length c) w rs (.slice va rs.L.length vc) w1) := HB.out.pass hk
  clear hk HCl HB b0 b1 b2 b3 b4 b5 x0 x1 x2 x3 x4
  unfold stkV
  have r0 := blkCell HR.out.r2 0 _ rfl
  have r1 := blkCell HR.out.r2 1 _ rfl
  have r2 := blkCell HR.out.r2 2 _ rfl
  have r3 := blkCell HR.out.r2 3 _ rfl
  have r4 := blkCell HR.out.r2 4 _ rfl
  have r5 := blkCell HR.out.r2 5 _ rfl
  have gg0 := blkFree HR.out.r2 0
  have gg1 := blkFree HR.out.r2 1
  have gg2 := blkFree HR.out.r2 2
  have gg3 := blkFree HR.out.r2 3
  have gg4 := blkFree HR.out.r2 4
  have gg5 := blkFree HR.out.r2 5
  have hmid : ((((((w1.setCell ⟨w.heap.size + 2, 0, none⟩ (.int .i64 rs.day)).setCell ⟨w.heap.size + 2, 1, none⟩ (.int .i64 rs.rc)).setCell ⟨w.heap.size + 2, 2, none⟩ (.int .i64 rs.sd)).setCell ⟨w.heap.size + 2, 3, none⟩ (.int .i64 rs.wa)).setCell ⟨w.heap.size + 2, 4, none⟩ (.int .i64 rs.sh)).setCell ⟨w.heap.size + 2, 5, none⟩ (.slice va rs.L.length vc)).heap[w.heap.size + 3]? = some (.cells #[.int .i64 0, .int .i64 0] 36 (0, 0)) := ((six HR.out.r2 (.int .i64 rs.day) (.int .i64 rs.rc) (.int .i64 rs.sd) (.int .i64 rs.wa) (.int .i64 rs.sh) (.slice va rs.L.length vc)).2.block _ (blkLt HR.out.r3) (by omega)).trans HR.out.r3
  have y0 := blkCell hmid 0 _ rfl
  have y1 := blkCell hmid 1 _ rfl
  have z0 := blkFree hmid 0
  have z1 := blkFree hmid 1
  have HZ := HR.out.retA (.int .i64 rs.day) (.int .i64 rs.rc) (.int .i64 rs.sd) (.int .i64 rs.wa) (.int .i64 rs.sh) (.slice va rs.L.length vc) (.int .i64 rc) (.int .i64 rn)
  clear hmid
  go_wp2
  obtain ⟨k1, k2, k3⟩ := HZ
  generalize ((((((((w1.setCell ⟨w.heap.size + 2, 0, none⟩ (.int .i64 rs.day)).setCell ⟨w.heap.size + 2, 1, none⟩ (.int .i64 rs.rc)).setCell ⟨w.heap.size + 2, 2, none⟩ (.int .i64 rs.sd)).setCell ⟨w.heap.size + 2, 3, none⟩ (.int .i64 rs.wa)).setCell ⟨w.heap.size + 2, 4, none⟩ (.int .i64 rs.sh)).setCell ⟨w.heap.size + 2, 5, none⟩ (.slice va rs.L.length vc)).setCell ⟨w.heap.size + 3, 0, none⟩ (.int .i64 rc)).setCell ⟨w.heap.size + 3, 1, none⟩ (.int .i64 rn)) = W9 at *
  have p0 := blkCell k2 0 _ rfl
  have p1 := blkCell k2 1 _ rfl
  have p2 := blkCell k2 2 _ rfl
  have p3 := blkCell k2 3 _ rfl
  have p4 := blkCell k2 4 _ rfl
  have p5 := blkCell k2 5 _ rfl
  have o0 := blkCell k3 0 _ rfl
  have o1 := blkCell k3 1 _ rfl
  refine bodyPost_ret (v := .tuple #[.agg #[.int .i64 rs.day, .int .i64 rs.rc, .int .i64 rs.sd, .int .i64 rs.wa, .int .i64 rs.sh, .slice va rs.L.length vc], .agg #[.int .i64 rc, .int .i64 rn]]) (by simp [results, Try.results27, go_sem, p0, p1, p2, p3, p4, p5, o0, o1]) rfl ?_
  exact ⟨va, vc, rfl, k1⟩
set_option maxHeartbeats 16000000 in
set_option maxRecDepth 8000 in
theorem sAct0 {B : Nat} (σ : StS) (a : Option Addr) (c : Nat) (ix : Nat) (hix : ix ≤ 1000) (hok : StOK ix σ) (kd : Int) (h1 : ¬ kd = 1) (h2 : ¬ kd = 2) (h3 : ¬ kd = 3) (h4 : ¬ (4 ≤ kd ∧ kd ≤ 7)) (ar : ByteArray) (lt nu un : Int) (har : ar.size ≤ 2000000) (w : World) (hB : B ≤ w.heap.size) (hr : w.ownsRow B 38 5 (.slice a σ.L.length c) σ.L.length (slCells σ.L)) :
    Calls Try.prog 27 #[.agg (stkV σ (.slice a σ.L.length c)), .agg #[.int .i64 kd, .string ar, .int .i64 lt, .int .i64 nu, .int .i64 un]] w (ActP B (.slice a σ.L.length c) w (13) (0) (σ)) := by
  obtain ⟨W4, hW4⟩ : ∃ W4, W4 = ((((w.alloc (Obj.cells #[.int .i64 σ.day, .int .i64 σ.rc, .int .i64 σ.sd, .int .i64 σ.wa, .int .i64 σ.sh, .slice a σ.L.length c] 29)).alloc (Obj.cells #[.int .i64 kd, .string ar, .int .i64 lt, .int .i64 nu, .int .i64 un] 34)).alloc (Obj.cells #[.int .i64 0, .int .i64 0, .int .i64 0, .int .i64 0, .int .i64 0, .slice none 0 0] 29)).alloc (Obj.cells #[.int .i64 0, .int .i64 0] 36)) := ⟨_, rfl⟩
  have HB : Hid (Bx B (.slice a σ.L.length c) w σ (.slice a σ.L.length c) kd ar lt nu un W4) := by rw [hW4]; exact bxStart hr kd ar lt nu un
  have hst : Value.agg (stkV σ (.slice a σ.L.length c)) = .agg #[.int .i64 σ.day, .int .i64 σ.rc, .int .i64 σ.sd, .int .i64 σ.wa, .int .i64 σ.sh, .slice a σ.L.length c] := rfl
  rw [hst]
  have hsz : B ≤ W4.heap.size := Nat.le_trans hB HB.out.st.fr.size
  have x0 := blkCell HB.out.x 0 _ rfl
  have e1 : (kd == 1) = false := by rw [beq_eq_false_iff_ne]; omega
  have e2 : (kd == 2) = false := by rw [beq_eq_false_iff_ne]; omega
  have e3 : (kd == 3) = false := by rw [beq_eq_false_iff_ne]; omega
  have e4 : (kd == 4) = false := by rw [beq_eq_false_iff_ne]; omega
  have e5 : (kd == 5) = false := by rw [beq_eq_false_iff_ne]; omega
  have e6 : (kd == 6) = false := by rw [beq_eq_false_iff_ne]; omega
  have e7 : (kd == 7) = false := by rw [beq_eq_false_iff_ne]; omega
  clear hok hr hst h1 h2 h3 h4
  go_enter Try.func27, Try.ntmps27
  go_upto_region 1 with fail
  rw [← hW4]
  clear hW4

  have b0 := blkCell HB.out.s 0 _ rfl
  have b1 := blkCell HB.out.s 1 _ rfl
  have b2 := blkCell HB.out.s 2 _ rfl
  have b3 := blkCell HB.out.s 3 _ rfl
  have b4 := blkCell HB.out.s 4 _ rfl
  have b5 := blkCell HB.out.s 5 _ rfl
  have r0 := blkCell HB.out.r2 0 _ rfl
  have r1 := blkCell HB.out.r2 1 _ rfl
  have r2 := blkCell HB.out.r2 2 _ rfl
  have r3 := blkCell HB.out.r2 3 _ rfl
  have r4 := blkCell HB.out.r2 4 _ rfl
  have r5 := blkCell HB.out.r2 5 _ rfl
  have g0 := blkFree HB.out.r2 0
  have g1 := blkFree HB.out.r2 1
  have g2 := blkFree HB.out.r2 2
  have g3 := blkFree HB.out.r2 3
  have g4 := blkFree HB.out.r2 4
  have g5 := blkFree HB.out.r2 5
  have hmid : ((((((W4.setCell ⟨w.heap.size + 2, 0, none⟩ (.int .i64 σ.day)).setCell ⟨w.heap.size + 2, 1, none⟩ (.int .i64 σ.rc)).setCell ⟨w.heap.size + 2, 2, none⟩ (.int .i64 σ.sd)).setCell ⟨w.heap.size + 2, 3, none⟩ (.int .i64 σ.wa)).setCell ⟨w.heap.size + 2, 4, none⟩ (.int .i64 σ.sh)).setCell ⟨w.heap.size + 2, 5, none⟩ (.slice a σ.L.length c)).heap[w.heap.size + 3]? = some (.cells #[.int .i64 0, .int .i64 0] 36 (0, 0)) := ((six HB.out.r2 (.int .i64 σ.day) (.int .i64 σ.rc) (.int .i64 σ.sd) (.int .i64 σ.wa) (.int .i64 σ.sh) (.slice a σ.L.length c)).2.block _ (blkLt HB.out.r3) (by omega)).trans HB.out.r3
  have y0 := blkCell hmid 0 _ rfl
  have y1 := blkCell hmid 1 _ rfl
  have z0 := blkFree hmid 0
  have z1 := blkFree hmid 1
  have HZ := HB.out.retA (.int .i64 σ.day) (.int .i64 σ.rc) (.int .i64 σ.sd) (.int .i64 σ.wa) (.int .i64 σ.sh) (.slice a σ.L.length c) (.int .i64 13) (.int .i64 0)
  clear hmid
  go_wp2
  obtain ⟨k1, k2, k3⟩ := HZ
  generalize ((((((((W4.setCell ⟨w.heap.size + 2, 0, none⟩ (.int .i64 σ.day)).setCell ⟨w.heap.size + 2, 1, none⟩ (.int .i64 σ.rc)).setCell ⟨w.heap.size + 2, 2, none⟩ (.int .i64 σ.sd)).setCell ⟨w.heap.size + 2, 3, none⟩ (.int .i64 σ.wa)).setCell ⟨w.heap.size + 2, 4, none⟩ (.int .i64 σ.sh)).setCell ⟨w.heap.size + 2, 5, none⟩ (.slice a σ.L.length c)).setCell ⟨w.heap.size + 3, 0, none⟩ (.int .i64 13)).setCell ⟨w.heap.size + 3, 1, none⟩ (.int .i64 0)) = W9 at *
  have p0 := blkCell k2 0 _ rfl
  have p1 := blkCell k2 1 _ rfl
  have p2 := blkCell k2 2 _ rfl
  have p3 := blkCell k2 3 _ rfl
  have p4 := blkCell k2 4 _ rfl
  have p5 := blkCell k2 5 _ rfl
  have o0 := blkCell k3 0 _ rfl
  have o1 := blkCell k3 1 _ rfl
  refine bodyPost_ret (v := .tuple #[.agg #[.int .i64 σ.day, .int .i64 σ.rc, .int .i64 σ.sd, .int .i64 σ.wa, .int .i64 σ.sh, .slice a σ.L.length c], .agg #[.int .i64 13, .int .i64 0]]) (by simp [results, Try.results27, go_sem, p0, p1, p2, p3, p4, p5, o0, o1]) rfl ?_
  exact ⟨a, c, rfl, k1⟩
set_option maxHeartbeats 16000000 in
set_option maxRecDepth 8000 in
theorem sAct3 {B : Nat} (σ : StS) (a : Option Addr) (c : Nat) (ix : Nat) (hix : ix ≤ 1000) (hok : StOK ix σ) (ar : ByteArray) (lt nu un : Int) (har : ar.size ≤ 2000000) (w : World) (hB : B ≤ w.heap.size) (hr : w.ownsRow B 38 5 (.slice a σ.L.length c) σ.L.length (slCells σ.L)) :
    Calls Try.prog 27 #[.agg (stkV σ (.slice a σ.L.length c)), .agg #[.int .i64 3, .string ar, .int .i64 lt, .int .i64 nu, .int .i64 un]] w (ActP B (.slice a σ.L.length c) w (dayE σ nu) (dayN σ nu) (dayS σ nu)) := by
  obtain ⟨W4, hW4⟩ : ∃ W4, W4 = ((((w.alloc (Obj.cells #[.int .i64 σ.day, .int .i64 σ.rc, .int .i64 σ.sd, .int .i64 σ.wa, .int .i64 σ.sh, .slice a σ.L.length c] 29)).alloc (Obj.cells #[.int .i64 3, .string ar, .int .i64 lt, .int .i64 nu, .int .i64 un] 34)).alloc (Obj.cells #[.int .i64 0, .int .i64 0, .int .i64 0, .int .i64 0, .int .i64 0, .slice none 0 0] 29)).alloc (Obj.cells #[.int .i64 0, .int .i64 0] 36)) := ⟨_, rfl⟩
  have HB : Hid (Bx B (.slice a σ.L.length c) w σ (.slice a σ.L.length c) 3 ar lt nu un W4) := by rw [hW4]; exact bxStart hr 3 ar lt nu un
  have hst : Value.agg (stkV σ (.slice a σ.L.length c)) = .agg #[.int .i64 σ.day, .int .i64 σ.rc, .int .i64 σ.sd, .int .i64 σ.wa, .int .i64 σ.sh, .slice a σ.L.length c] := rfl
  rw [hst]
  have hsz : B ≤ W4.heap.size := Nat.le_trans hB HB.out.st.fr.size
  have x0 := blkCell HB.out.x 0 _ rfl
  have HIn := fun n lo hi w => in_any n lo hi w
  have x3 := blkCell HB.out.x 3 _ rfl
  have s0 := blkCell HB.out.s 0 _ rfl
  have s1 := blkFree HB.out.s 0
  clear hok hr hst
  by_cases hin : σ.day ≤ nu ∧ nu ≤ 100000
  · have hq : inB nu σ.day 100000 = true := decide_eq_true hin
    have E1 : dayE σ nu = 0 := if_pos hin
    have E2 : dayN σ nu = nu := by unfold dayN; rw [E1, if_pos rfl]
    have E3 : dayS σ nu = { σ with day := nu } := by unfold dayS; rw [E1, if_pos rfl]
    rw [E1, E2, E3]
    clear E1 E2 E3 hin
    go_enter Try.func27, Try.ntmps27
    go_upto_region 1 with fail
    rw [← hW4]
    clear hW4
    go_wp2_with fail
    (first | go_at_call 45 | skip)
    refine (HIn _ _ _ _).mono ?_
    rintro e w1 ⟨rfl, hw1⟩
    rw [hw1]
    clear hw1 w1
    go_wp2_with fail
    have HBe0 : Hid (Bx B (.slice a σ.L.length c) w { σ with day := nu } (.slice a σ.L.length c) 3 ar lt nu un (W4.setCell ⟨w.heap.size, 0, none⟩ (.int .i64 nu))) := HB.out.setDay nu
    clear HB x0 x3 s0 s1 HIn hsz
    obtain ⟨We, hWe⟩ : ∃ We, We = W4.setCell ⟨w.heap.size, 0, none⟩ (.int .i64 nu) := ⟨_, rfl⟩
    have HBe : Hid (Bx B (.slice a σ.L.length c) w { σ with day := nu } (.slice a σ.L.length c) 3 ar lt nu un We) := by rw [hWe]; exact HBe0.out
    rw [← hWe]
    clear hWe HBe0
    have HBd : Hid (Bx B (.slice a σ.L.length c) w { σ with day := nu } (.slice a σ.L.length c) 3 ar lt nu un We.drew) := HBe.out.later (below_drew _)
    have HQd : Hid (∀ W', Fr (fun q => q = w.heap.size + 2 ∨ q = w.heap.size + 3) We.drew W' → W'.heap[w.heap.size]? = some (.cells #[.int .i64 nu, .int .i64 σ.rc, .int .i64 σ.sd, .int .i64 σ.wa, .int .i64 σ.sh, .slice a σ.L.length c] 29 (0, 0)) ∧ W'.heap[w.heap.size + 1]? = some (.cells #[.int .i64 3, .string ar, .int .i64 lt, .int .i64 nu, .int .i64 un] 34 (0, 0))) := fun W' hW' => ⟨(hW'.block _ (blkLt HBd.out.s) (by omega)).trans HBd.out.s, (hW'.block _ (blkLt HBd.out.x) (by omega)).trans HBd.out.x⟩
    refine wp_region_held_drew (S := fun W' => Fr (fun q => q = w.heap.size + 2 ∨ q = w.heap.size + 3) We.drew W') (by kernel_rfl) (Fr.refl _ _) (fun hH => ?_)
    generalize We.drew = Wd at *
    refine wpAnyH_take (i := 0) (v := .agg #[.int .i64 nu, .int .i64 σ.rc, .int .i64 σ.sd, .int .i64 σ.wa, .int .i64 σ.sh, .slice a σ.L.length c]) rfl (by kernel_rfl) (by kernel_rfl) (by kernel_rfl) (fun _ _ _ h => h) (Or.inl ⟨by rfl, fun w hSw => by have f0 := blkCell (HQd.out w hSw).1 0 _ rfl; have f1 := blkCell (HQd.out w hSw).1 1 _ rfl; have f2 := blkCell (HQd.out w hSw).1 2 _ rfl; have f3 := blkCell (HQd.out w hSw).1 3 _ rfl; have f4 := blkCell (HQd.out w hSw).1 4 _ rfl; have f5 := blkCell (HQd.out w hSw).1 5 _ rfl; go_simp⟩) hH ?_
    refine wpAnyH_take (i := 1) (v := .pointer (some ⟨w.heap.size + 1, 3, none⟩)) rfl (by kernel_rfl) (by kernel_rfl) (by kernel_rfl) (fun _ _ _ h => h) (Or.inl ⟨by rfl, fun w hSw => by go_simp⟩) hH ?_
    try simp only [Act.put, List.setIfInBounds_toArray, List.set_cons_zero, List.set_cons_succ, List.getElem_toArray, List.getElem_cons_succ, List.getElem_cons_zero]
    refine wpAnyH_take (i := 2) (v := .int .i64 nu) rfl (by kernel_rfl) (by kernel_rfl) (by kernel_rfl) (fun _ _ _ h => h) (Or.inl ⟨by rfl, fun w hSw => by have f0 := blkCell (HQd.out w hSw).2 3 _ rfl; go_simp⟩) hH ?_
    try simp only [Act.put, List.setIfInBounds_toArray, List.set_cons_zero, List.set_cons_succ, List.getElem_toArray, List.getElem_cons_succ, List.getElem_cons_zero]
    refine wpAnyH_take (i := 3) (v := .agg #[.int .i64 0, .int .i64 nu]) rfl (by kernel_rfl) (by kernel_rfl) (by kernel_rfl) (fun _ _ _ h => h) (Or.inl ⟨by rfl, fun w hSw => by go_simp⟩) hH ?_
    try simp only [Act.put, List.setIfInBounds_toArray, List.set_cons_zero, List.set_cons_succ, List.getElem_toArray, List.getElem_cons_succ, List.getElem_cons_zero]
    have HZA := HBd.out.retA (.int .i64 nu) (.int .i64 σ.rc) (.int .i64 σ.sd) (.int .i64 σ.wa) (.int .i64 σ.sh) (.slice a σ.L.length c) (.int .i64 0) (.int .i64 nu)
    have HZB := HBd.out.retB (.int .i64 nu) (.int .i64 σ.rc) (.int .i64 σ.sd) (.int .i64 σ.wa) (.int .i64 σ.sh) (.slice a σ.L.length c) (.int .i64 0) (.int .i64 nu)
    have h6 := six HBd.out.r2 (.int .i64 nu) (.int .i64 σ.rc) (.int .i64 σ.sd) (.int .i64 σ.wa) (.int .i64 σ.sh) (.slice a σ.L.length c)
    have h2 := two HBd.out.r3 (.int .i64 0) (.int .i64 nu)
    have hA1 : Fr (fun q => q = w.heap.size + 2 ∨ q = w.heap.size + 3) Wd ((((((Wd.setCell ⟨w.heap.size + 2, 0, none⟩ (.int .i64 nu)).setCell ⟨w.heap.size + 2, 1, none⟩ (.int .i64 σ.rc)).setCell ⟨w.heap.size + 2, 2, none⟩ (.int .i64 σ.sd)).setCell ⟨w.heap.size + 2, 3, none⟩ (.int .i64 σ.wa)).setCell ⟨w.heap.size + 2, 4, none⟩ (.int .i64 σ.sh)).setCell ⟨w.heap.size + 2, 5, none⟩ (.slice a σ.L.length c)) := h6.2.mono (fun q hq => .inl hq)
    have hB1 : Fr (fun q => q = w.heap.size + 2 ∨ q = w.heap.size + 3) Wd ((Wd.setCell ⟨w.heap.size + 3, 0, none⟩ (.int .i64 0)).setCell ⟨w.heap.size + 3, 1, none⟩ (.int .i64 nu)) := h2.2.mono (fun q hq => .inr hq)
    have hA2 : ((((((Wd.setCell ⟨w.heap.size + 2, 0, none⟩ (.int .i64 nu)).setCell ⟨w.heap.size + 2, 1, none⟩ (.int .i64 σ.rc)).setCell ⟨w.heap.size + 2, 2, none⟩ (.int .i64 σ.sd)).setCell ⟨w.heap.size + 2, 3, none⟩ (.int .i64 σ.wa)).setCell ⟨w.heap.size + 2, 4, none⟩ (.int .i64 σ.sh)).setCell ⟨w.heap.size + 2, 5, none⟩ (.slice a σ.L.length c)).heap[w.heap.size + 3]? = some (.cells #[.int .i64 0, .int .i64 0] 36 (0, 0)) := (h6.2.block _ (blkLt HBd.out.r3) (by omega)).trans HBd.out.r3
    have hB2 : ((Wd.setCell ⟨w.heap.size + 3, 0, none⟩ (.int .i64 0)).setCell ⟨w.heap.size + 3, 1, none⟩ (.int .i64 nu)).heap[w.heap.size + 2]? = some (.cells #[.int .i64 0, .int .i64 0, .int .i64 0, .int .i64 0, .int .i64 0, .slice none 0 0] 29 (0, 0)) := (h2.2.block _ (blkLt HBd.out.r2) (by omega)).trans HBd.out.r2
    have hA3 : Fr (fun q => q = w.heap.size + 2 ∨ q = w.heap.size + 3) Wd ((((((((Wd.setCell ⟨w.heap.size + 2, 0, none⟩ (.int .i64 nu)).setCell ⟨w.heap.size + 2, 1, none⟩ (.int .i64 σ.rc)).setCell ⟨w.heap.size + 2, 2, none⟩ (.int .i64 σ.sd)).setCell ⟨w.heap.size + 2, 3, none⟩ (.int .i64 σ.wa)).setCell ⟨w.heap.size + 2, 4, none⟩ (.int .i64 σ.sh)).setCell ⟨w.heap.size + 2, 5, none⟩ (.slice a σ.L.length c)).setCell ⟨w.heap.size + 3, 0, none⟩ (.int .i64 0)).setCell ⟨w.heap.size + 3, 1, none⟩ (.int .i64 nu)) := hA1.trans ((two hA2 (.int .i64 0) (.int .i64 nu)).2.mono (fun q hq => .inr hq))
    have hB3 : Fr (fun q => q = w.heap.size + 2 ∨ q = w.heap.size + 3) Wd ((((((((Wd.setCell ⟨w.heap.size + 3, 0, none⟩ (.int .i64 0)).setCell ⟨w.heap.size + 3, 1, none⟩ (.int .i64 nu)).setCell ⟨w.heap.size + 2, 0, none⟩ (.int .i64 nu)).setCell ⟨w.heap.size + 2, 1, none⟩ (.int .i64 σ.rc)).setCell ⟨w.heap.size + 2, 2, none⟩ (.int .i64 σ.sd)).setCell ⟨w.heap.size + 2, 3, none⟩ (.int .i64 σ.wa)).setCell ⟨w.heap.size + 2, 4, none⟩ (.int .i64 σ.sh)).setCell ⟨w.heap.size + 2, 5, none⟩ (.slice a σ.L.length c)) := hB1.trans ((six hB2 (.int .i64 nu) (.int .i64 σ.rc) (.int .i64 σ.sd) (.int .i64 σ.wa) (.int .i64 σ.sh) (.slice a σ.L.length c)).2.mono (fun q hq => .inl hq))
    clear h6 h2 HQd
    clear HZB hB1 hB2 hB3
    refine wpAnyH_ready (rs := [4]) (by kernel_rfl) (by simp) ?_
    refine AllReadyH.cons rfl (fun K hK => ?_) AllReadyH.nil
    have r0 := blkCell HBd.out.r2 0 _ rfl
    have r1 := blkCell HBd.out.r2 1 _ rfl
    have r2 := blkCell HBd.out.r2 2 _ rfl
    have r3 := blkCell HBd.out.r2 3 _ rfl
    have r4 := blkCell HBd.out.r2 4 _ rfl
    have r5 := blkCell HBd.out.r2 5 _ rfl
    have g0 := blkFree HBd.out.r2 0
    have g1 := blkFree HBd.out.r2 1
    have g2 := blkFree HBd.out.r2 2
    have g3 := blkFree HBd.out.r2 3
    have g4 := blkFree HBd.out.r2 4
    have g5 := blkFree HBd.out.r2 5
    go_simp
    refine hK.out _ _ hA1 (fun _ => ?_)
    clear hK K
    try simp only [Act.put, List.setIfInBounds_toArray, List.set_cons_zero, List.set_cons_succ, List.getElem_toArray, List.getElem_cons_succ, List.getElem_cons_zero]
    clear r0 r1 r2 r3 r4 r5 g0 g1 g2 g3 g4 g5
    have y0 := blkCell hA2 0 _ rfl
    have y1 := blkCell hA2 1 _ rfl
    have z0 := blkFree hA2 0
    have z1 := blkFree hA2 1
    refine wpAnyH_ready (rs := [5]) (by kernel_rfl) (by simp) ?_
    refine AllReadyH.cons rfl (fun K hK => ?_) AllReadyH.nil
    go_simp
    refine hK.out _ _ hA3 (fun _ => ?_)
    clear hK K
    try simp only [Act.put, List.setIfInBounds_toArray, List.set_cons_zero, List.set_cons_succ, List.getElem_toArray, List.getElem_cons_succ, List.getElem_cons_zero]
    refine wpAnyH_done (by kernel_rfl) ?_ _
    clear y0 y1 z0 z1 hA1 hA2 hA3 hH
    obtain ⟨k1, k2, k3⟩ := HZA
    generalize ((((((((Wd.setCell ⟨w.heap.size + 2, 0, none⟩ (.int .i64 nu)).setCell ⟨w.heap.size + 2, 1, none⟩ (.int .i64 σ.rc)).setCell ⟨w.heap.size + 2, 2, none⟩ (.int .i64 σ.sd)).setCell ⟨w.heap.size + 2, 3, none⟩ (.int .i64 σ.wa)).setCell ⟨w.heap.size + 2, 4, none⟩ (.int .i64 σ.sh)).setCell ⟨w.heap.size + 2, 5, none⟩ (.slice a σ.L.length c)).setCell ⟨w.heap.size + 3, 0, none⟩ (.int .i64 0)).setCell ⟨w.heap.size + 3, 1, none⟩ (.int .i64 nu)) = W9 at *
    go_wp2
    have p0 := blkCell k2 0 _ rfl
    have p1 := blkCell k2 1 _ rfl
    have p2 := blkCell k2 2 _ rfl
    have p3 := blkCell k2 3 _ rfl
    have p4 := blkCell k2 4 _ rfl
    have p5 := blkCell k2 5 _ rfl
    have o0 := blkCell k3 0 _ rfl
    have o1 := blkCell k3 1 _ rfl
    refine bodyPost_ret (v := .tuple #[.agg #[.int .i64 nu, .int .i64 σ.rc, .int .i64 σ.sd, .int .i64 σ.wa, .int .i64 σ.sh, .slice a σ.L.length c], .agg #[.int .i64 0, .int .i64 nu]]) (by simp [results, Try.results27, go_sem, p0, p1, p2, p3, p4, p5, o0, o1]) rfl ?_
    exact ⟨a, c, rfl, k1⟩
  · have hq : inB nu σ.day 100000 = false := decide_eq_false hin
    have E1 : dayE σ nu = 5 := if_neg hin
    have E2 : dayN σ nu = 0 := by unfold dayN; rw [E1]; rfl
    have E3 : dayS σ nu = σ := by unfold dayS; rw [E1]; rfl
    rw [E1, E2, E3]
    clear E1 E2 E3 hin
    go_enter Try.func27, Try.ntmps27
    go_upto_region 1 with fail
    rw [← hW4]
    clear hW4
    go_wp2_with fail
    (first | go_at_call 45 | skip)
    refine (HIn _ _ _ _).mono ?_
    rintro e w1 ⟨rfl, hw1⟩
    rw [hw1]
    clear hw1 w1 HIn
    have b0 := blkCell HB.out.s 0 _ rfl
    have b1 := blkCell HB.out.s 1 _ rfl
    have b2 := blkCell HB.out.s 2 _ rfl
    have b3 := blkCell HB.out.s 3 _ rfl
    have b4 := blkCell HB.out.s 4 _ rfl
    have b5 := blkCell HB.out.s 5 _ rfl
    have r0 := blkCell HB.out.r2 0 _ rfl
    have r1 := blkCell HB.out.r2 1 _ rfl
    have r2 := blkCell HB.out.r2 2 _ rfl
    have r3 := blkCell HB.out.r2 3 _ rfl
    have r4 := blkCell HB.out.r2 4 _ rfl
    have r5 := blkCell HB.out.r2 5 _ rfl
    have g0 := blkFree HB.out.r2 0
    have g1 := blkFree HB.out.r2 1
    have g2 := blkFree HB.out.r2 2
    have g3 := blkFree HB.out.r2 3
    have g4 := blkFree HB.out.r2 4
    have g5 := blkFree HB.out.r2 5
    have hmid : ((((((W4.setCell ⟨w.heap.size + 2, 0, none⟩ (.int .i64 σ.day)).setCell ⟨w.heap.size + 2, 1, none⟩ (.int .i64 σ.rc)).setCell ⟨w.heap.size + 2, 2, none⟩ (.int .i64 σ.sd)).setCell ⟨w.heap.size + 2, 3, none⟩ (.int .i64 σ.wa)).setCell ⟨w.heap.size + 2, 4, none⟩ (.int .i64 σ.sh)).setCell ⟨w.heap.size + 2, 5, none⟩ (.slice a σ.L.length c)).heap[w.heap.size + 3]? = some (.cells #[.int .i64 0, .int .i64 0] 36 (0, 0)) := ((six HB.out.r2 (.int .i64 σ.day) (.int .i64 σ.rc) (.int .i64 σ.sd) (.int .i64 σ.wa) (.int .i64 σ.sh) (.slice a σ.L.length c)).2.block _ (blkLt HB.out.r3) (by omega)).trans HB.out.r3
    have y0 := blkCell hmid 0 _ rfl
    have y1 := blkCell hmid 1 _ rfl
    have z0 := blkFree hmid 0
    have z1 := blkFree hmid 1
    have HZ := HB.out.retA (.int .i64 σ.day) (.int .i64 σ.rc) (.int .i64 σ.sd) (.int .i64 σ.wa) (.int .i64 σ.sh) (.slice a σ.L.length c) (.int .i64 5) (.int .i64 0)
    clear hmid
    go_wp2
    obtain ⟨k1, k2, k3⟩ := HZ
    generalize ((((((((W4.setCell ⟨w.heap.size + 2, 0, none⟩ (.int .i64 σ.day)).setCell ⟨w.heap.size + 2, 1, none⟩ (.int .i64 σ.rc)).setCell ⟨w.heap.size + 2, 2, none⟩ (.int .i64 σ.sd)).setCell ⟨w.heap.size + 2, 3, none⟩ (.int .i64 σ.wa)).setCell ⟨w.heap.size + 2, 4, none⟩ (.int .i64 σ.sh)).setCell ⟨w.heap.size + 2, 5, none⟩ (.slice a σ.L.length c)).setCell ⟨w.heap.size + 3, 0, none⟩ (.int .i64 5)).setCell ⟨w.heap.size + 3, 1, none⟩ (.int .i64 0)) = W9 at *
    have p0 := blkCell k2 0 _ rfl
    have p1 := blkCell k2 1 _ rfl
    have p2 := blkCell k2 2 _ rfl
    have p3 := blkCell k2 3 _ rfl
    have p4 := blkCell k2 4 _ rfl
    have p5 := blkCell k2 5 _ rfl
    have o0 := blkCell k3 0 _ rfl
    have o1 := blkCell k3 1 _ rfl
    refine bodyPost_ret (v := .tuple #[.agg #[.int .i64 σ.day, .int .i64 σ.rc, .int .i64 σ.sd, .int .i64 σ.wa, .int .i64 σ.sh, .slice a σ.L.length c], .agg #[.int .i64 5, .int .i64 0]]) (by simp [results, Try.results27, go_sem, p0, p1, p2, p3, p4, p5, o0, o1]) rfl ?_
    exact ⟨a, c, rfl, k1⟩
set_option maxHeartbeats 16000000 in
set_option maxRecDepth 8000 in
theorem sAct4 {B : Nat} (σ : StS) (a : Option Addr) (c : Nat) (ix : Nat) (hix : ix ≤ 1000) (hok : StOK ix σ) (kd : Int) (hkd : 4 ≤ kd ∧ kd ≤ 7) (ar : ByteArray) (lt nu un : Int) (har : ar.size ≤ 2000000) (w : World) (hB : B ≤ w.heap.size) (hr : w.ownsRow B 38 5 (.slice a σ.L.length c) σ.L.length (slCells σ.L)) :
    Calls Try.prog 27 #[.agg (stkV σ (.slice a σ.L.length c)), .agg #[.int .i64 kd, .string ar, .int .i64 lt, .int .i64 nu, .int .i64 un]] w (ActP B (.slice a σ.L.length c) w (toE σ ⟨kd, ar, lt, nu, un⟩) (toN σ ⟨kd, ar, lt, nu, un⟩) (toS σ ⟨kd, ar, lt, nu, un⟩)) := by
  obtain ⟨W4, hW4⟩ : ∃ W4, W4 = ((((w.alloc (Obj.cells #[.int .i64 σ.day, .int .i64 σ.rc, .int .i64 σ.sd, .int .i64 σ.wa, .int .i64 σ.sh, .slice a σ.L.length c] 29)).alloc (Obj.cells #[.int .i64 kd, .string ar, .int .i64 lt, .int .i64 nu, .int .i64 un] 34)).alloc (Obj.cells #[.int .i64 0, .int .i64 0, .int .i64 0, .int .i64 0, .int .i64 0, .slice none 0 0] 29)).alloc (Obj.cells #[.int .i64 0, .int .i64 0] 36)) := ⟨_, rfl⟩
  have HB : Hid (Bx B (.slice a σ.L.length c) w σ (.slice a σ.L.length c) kd ar lt nu un W4) := by rw [hW4]; exact bxStart hr kd ar lt nu un
  have hst : Value.agg (stkV σ (.slice a σ.L.length c)) = .agg #[.int .i64 σ.day, .int .i64 σ.rc, .int .i64 σ.sd, .int .i64 σ.wa, .int .i64 σ.sh, .slice a σ.L.length c] := rfl
  rw [hst]
  have hsz : B ≤ W4.heap.size := Nat.le_trans hB HB.out.st.fr.size
  have x0 := blkCell HB.out.x 0 _ rfl
  have HF := sFind_any a c σ.L (by have := hok.len; omega) ar lt W4 HB.out.st.row
  have x1 := blkCell HB.out.x 1 _ rfl
  have x2 := blkCell HB.out.x 2 _ rfl
  have x3 := blkCell HB.out.x 3 _ rfl
  have x4 := blkCell HB.out.x 4 _ rfl
  have s5 := blkCell HB.out.s 5 _ rfl
  rcases (by omega : kd = 4 ∨ kd = 5 ∨ kd = 6 ∨ kd = 7) with rfl | rfl | rfl | rfl
  · skip
    cases hf : fdI σ.L ar lt with
    | none =>
      have hfv : fdV (fdI σ.L ar lt) = -1 := by rw [hf]; rfl
      have E1 : toE σ ⟨4, ar, lt, nu, un⟩ = 8 := by show (match fdI σ.L ar lt with | none => _ | some i => _) = _; rw [hf]
      have E2 : toN σ ⟨4, ar, lt, nu, un⟩ = 0 := by show (match fdI σ.L ar lt with | none => _ | some i => _) = _; rw [hf]
      have E3 : toS σ ⟨4, ar, lt, nu, un⟩ = σ := by show (match fdI σ.L ar lt with | none => _ | some i => _) = _; rw [hf]
      rw [E1, E2, E3]
      clear E1 E2 E3 hok hr hst
      rw [hfv] at HF
      clear hfv hf
      go_enter Try.func27, Try.ntmps27
      go_upto_region 1 with fail
      rw [← hW4]
      clear hW4
      go_wp2_with fail
      (first | go_at_call 46 | skip)
      refine HF.mono ?_
      rintro e w1 ⟨rfl, hw1⟩
      rw [← hw1]
      clear hw1 w1 HF
      have b0 := blkCell HB.out.s 0 _ rfl
      have b1 := blkCell HB.out.s 1 _ rfl
      have b2 := blkCell HB.out.s 2 _ rfl
      have b3 := blkCell HB.out.s 3 _ rfl
      have b4 := blkCell HB.out.s 4 _ rfl
      have b5 := blkCell HB.out.s 5 _ rfl
      have r0 := blkCell HB.out.r2 0 _ rfl
      have r1 := blkCell HB.out.r2 1 _ rfl
      have r2 := blkCell HB.out.r2 2 _ rfl
      have r3 := blkCell HB.out.r2 3 _ rfl
      have r4 := blkCell HB.out.r2 4 _ rfl
      have r5 := blkCell HB.out.r2 5 _ rfl
      have g0 := blkFree HB.out.r2 0
      have g1 := blkFree HB.out.r2 1
      have g2 := blkFree HB.out.r2 2
      have g3 := blkFree HB.out.r2 3
      have g4 := blkFree HB.out.r2 4
      have g5 := blkFree HB.out.r2 5
      have hmid : ((((((W4.setCell ⟨w.heap.size + 2, 0, none⟩ (.int .i64 σ.day)).setCell ⟨w.heap.size + 2, 1, none⟩ (.int .i64 σ.rc)).setCell ⟨w.heap.size + 2, 2, none⟩ (.int .i64 σ.sd)).setCell ⟨w.heap.size + 2, 3, none⟩ (.int .i64 σ.wa)).setCell ⟨w.heap.size + 2, 4, none⟩ (.int .i64 σ.sh)).setCell ⟨w.heap.size + 2, 5, none⟩ (.slice a σ.L.length c)).heap[w.heap.size + 3]? = some (.cells #[.int .i64 0, .int .i64 0] 36 (0, 0)) := ((six HB.out.r2 (.int .i64 σ.day) (.int .i64 σ.rc) (.int .i64 σ.sd) (.int .i64 σ.wa) (.int .i64 σ.sh) (.slice a σ.L.length c)).2.block _ (blkLt HB.out.r3) (by omega)).trans HB.out.r3
      have y0 := blkCell hmid 0 _ rfl
      have y1 := blkCell hmid 1 _ rfl
      have z0 := blkFree hmid 0
      have z1 := blkFree hmid 1
      have HZ := HB.out.retA (.int .i64 σ.day) (.int .i64 σ.rc) (.int .i64 σ.sd) (.int .i64 σ.wa) (.int .i64 σ.sh) (.slice a σ.L.length c) (.int .i64 8) (.int .i64 0)
      clear hmid
      go_wp2
      obtain ⟨k1, k2, k3⟩ := HZ
      generalize ((((((((W4.setCell ⟨w.heap.size + 2, 0, none⟩ (.int .i64 σ.day)).setCell ⟨w.heap.size + 2, 1, none⟩ (.int .i64 σ.rc)).setCell ⟨w.heap.size + 2, 2, none⟩ (.int .i64 σ.sd)).setCell ⟨w.heap.size + 2, 3, none⟩ (.int .i64 σ.wa)).setCell ⟨w.heap.size + 2, 4, none⟩ (.int .i64 σ.sh)).setCell ⟨w.heap.size + 2, 5, none⟩ (.slice a σ.L.length c)).setCell ⟨w.heap.size + 3, 0, none⟩ (.int .i64 8)).setCell ⟨w.heap.size + 3, 1, none⟩ (.int .i64 0)) = W9 at *
      have p0 := blkCell k2 0 _ rfl
      have p1 := blkCell k2 1 _ rfl
      have p2 := blkCell k2 2 _ rfl
      have p3 := blkCell k2 3 _ rfl
      have p4 := blkCell k2 4 _ rfl
      have p5 := blkCell k2 5 _ rfl
      have o0 := blkCell k3 0 _ rfl
      have o1 := blkCell k3 1 _ rfl
      refine bodyPost_ret (v := .tuple #[.agg #[.int .i64 σ.day, .int .i64 σ.rc, .int .i64 σ.sd, .int .i64 σ.wa, .int .i64 σ.sh, .slice a σ.L.length c], .agg #[.int .i64 8, .int .i64 0]]) (by simp [results, Try.results27, go_sem, p0, p1, p2, p3, p4, p5, o0, o1]) rfl ?_
      exact ⟨a, c, rfl, k1⟩
    | some i =>
      have hfv : fdV (fdI σ.L ar lt) = (i : Int) := by rw [hf]; rfl
      have E1 : toE σ ⟨4, ar, lt, nu, un⟩ = lotE σ 4 nu i := by show (match fdI σ.L ar lt with | none => _ | some i => _) = _; rw [hf]
      have E2 : toN σ ⟨4, ar, lt, nu, un⟩ = lotN σ 4 nu i := by show (match fdI σ.L ar lt with | none => _ | some i => _) = _; rw [hf]
      have E3 : toS σ ⟨4, ar, lt, nu, un⟩ = lotS σ 4 nu i := by show (match fdI σ.L ar lt with | none => _ | some i => _) = _; rw [hf]
      rw [E1, E2, E3]
      have hi := (fd_some hf).1
      have HCl := sLot_any σ a c ix hix hok 4 (by omega) ar lt nu un hi W4 hsz HB.out.st.row
      rw [hst] at HCl
      have hi0 : ¬ (i : Int) < 0 := by omega
      have hi1 : decide ((i : Int) < 0) = false := by simp
      generalize lotE σ 4 nu i = rc at *
      generalize lotN σ 4 nu i = rn at *
      generalize lotS σ 4 nu i = rs at *
      clear E1 E2 E3 hok hr hst
      rw [hfv] at HF
      clear hfv hf hi
      go_enter Try.func27, Try.ntmps27
      go_upto_region 1 with fail
      rw [← hW4]
      clear hW4
      go_wp2_with fail
      (first | go_at_call 46 | skip)
      refine HF.mono ?_
      rintro e w1 ⟨rfl, hw1⟩
      rw [← hw1]
      clear hw1 w1 HF
      have b0 := blkCell HB.out.s 0 _ rfl
      have b1 := blkCell HB.out.s 1 _ rfl
      have b2 := blkCell HB.out.s 2 _ rfl
      have b3 := blkCell HB.out.s 3 _ rfl
      have b4 := blkCell HB.out.s 4 _ rfl
      have b5 := blkCell HB.out.s 5 _ rfl
      go_wp2_with fail
      (first | go_at_call 47 | skip)
      refine HCl.mono ?_
      rintro e w1 ⟨va, vc, rfl, hk⟩
      have HR : Hid (Rx B (.slice a σ.L.length c) w rs (.slice va rs.L.length vc) w1) := HB.out.pass hk
      clear hk HCl HB b0 b1 b2 b3 b4 b5 x0 x1 x2 x3 x4 s5
      unfold stkV
      have r0 := blkCell HR.out.r2 0 _ rfl
      have r1 := blkCell HR.out.r2 1 _ rfl
      have r2 := blkCell HR.out.r2 2 _ rfl
      have r3 := blkCell HR.out.r2 3 _ rfl
      have r4 := blkCell HR.out.r2 4 _ rfl
      have r5 := blkCell HR.out.r2 5 _ rfl
      have gg0 := blkFree HR.out.r2 0
      have gg1 := blkFree HR.out.r2 1
      have gg2 := blkFree HR.out.r2 2
      have gg3 := blkFree HR.out.r2 3
      have gg4 := blkFree HR.out.r2 4
      have gg5 := blkFree HR.out.r2 5
      have hmid : ((((((w1.setCell ⟨w.heap.size + 2, 0, none⟩ (.int .i64 rs.day)).setCell ⟨w.heap.size + 2, 1, none⟩ (.int .i64 rs.rc)).setCell ⟨w.heap.size + 2, 2, none⟩ (.int .i64 rs.sd)).setCell ⟨w.heap.size + 2, 3, none⟩ (.int .i64 rs.wa)).setCell ⟨w.heap.size + 2, 4, none⟩ (.int .i64 rs.sh)).setCell ⟨w.heap.size + 2, 5, none⟩ (.slice va rs.L.length vc)).heap[w.heap.size + 3]? = some (.cells #[.int .i64 0, .int .i64 0] 36 (0, 0)) := ((six HR.out.r2 (.int .i64 rs.day) (.int .i64 rs.rc) (.int .i64 rs.sd) (.int .i64 rs.wa) (.int .i64 rs.sh) (.slice va rs.L.length vc)).2.block _ (blkLt HR.out.r3) (by omega)).trans HR.out.r3
      have y0 := blkCell hmid 0 _ rfl
      have y1 := blkCell hmid 1 _ rfl
      have z0 := blkFree hmid 0
      have z1 := blkFree hmid 1
      have HZ := HR.out.retA (.int .i64 rs.day) (.int .i64 rs.rc) (.int .i64 rs.sd) (.int .i64 rs.wa) (.int .i64 rs.sh) (.slice va rs.L.length vc) (.int .i64 rc) (.int .i64 rn)
      clear hmid
      go_wp2
      obtain ⟨k1, k2, k3⟩ := HZ
      generalize ((((((((w1.setCell ⟨w.heap.size + 2, 0, none⟩ (.int .i64 rs.day)).setCell ⟨w.heap.size + 2, 1, none⟩ (.int .i64 rs.rc)).setCell ⟨w.heap.size + 2, 2, none⟩ (.int .i64 rs.sd)).setCell ⟨w.heap.size + 2, 3, none⟩ (.int .i64 rs.wa)).setCell ⟨w.heap.size + 2, 4, none⟩ (.int .i64 rs.sh)).setCell ⟨w.heap.size + 2, 5, none⟩ (.slice va rs.L.length vc)).setCell ⟨w.heap.size + 3, 0, none⟩ (.int .i64 rc)).setCell ⟨w.heap.size + 3, 1, none⟩ (.int .i64 rn)) = W9 at *
      have p0 := blkCell k2 0 _ rfl
      have p1 := blkCell k2 1 _ rfl
      have p2 := blkCell k2 2 _ rfl
      have p3 := blkCell k2 3 _ rfl
      have p4 := blkCell k2 4 _ rfl
      have p5 := blkCell k2 5 _ rfl
      have o0 := blkCell k3 0 _ rfl
      have o1 := blkCell k3 1 _ rfl
      refine bodyPost_ret (v := .tuple #[.agg #[.int .i64 rs.day, .int .i64 rs.rc, .int .i64 rs.sd, .int .i64 rs.wa, .int .i64 rs.sh, .slice va rs.L.length vc], .agg #[.int .i64 rc, .int .i64 rn]]) (by simp [results, Try.results27, go_sem, p0, p1, p2, p3, p4, p5, o0, o1]) rfl ?_
      exact ⟨va, vc, rfl, k1⟩
  · skip
    cases hf : fdI σ.L ar lt with
    | none =>
      have hfv : fdV (fdI σ.L ar lt) = -1 := by rw [hf]; rfl
      have E1 : toE σ ⟨5, ar, lt, nu, un⟩ = 8 := by show (match fdI σ.L ar lt with | none => _ | some i => _) = _; rw [hf]
      have E2 : toN σ ⟨5, ar, lt, nu, un⟩ = 0 := by show (match fdI σ.L ar lt with | none => _ | some i => _) = _; rw [hf]
      have E3 : toS σ ⟨5, ar, lt, nu, un⟩ = σ := by show (match fdI σ.L ar lt with | none => _ | some i => _) = _; rw [hf]
      rw [E1, E2, E3]
      clear E1 E2 E3 hok hr hst
      rw [hfv] at HF
      clear hfv hf
      go_enter Try.func27, Try.ntmps27
      go_upto_region 1 with fail
      rw [← hW4]
      clear hW4
      go_wp2_with fail
      (first | go_at_call 46 | skip)
      refine HF.mono ?_
      rintro e w1 ⟨rfl, hw1⟩
      rw [← hw1]
      clear hw1 w1 HF
      have b0 := blkCell HB.out.s 0 _ rfl
      have b1 := blkCell HB.out.s 1 _ rfl
      have b2 := blkCell HB.out.s 2 _ rfl
      have b3 := blkCell HB.out.s 3 _ rfl
      have b4 := blkCell HB.out.s 4 _ rfl
      have b5 := blkCell HB.out.s 5 _ rfl
      have r0 := blkCell HB.out.r2 0 _ rfl
      have r1 := blkCell HB.out.r2 1 _ rfl
      have r2 := blkCell HB.out.r2 2 _ rfl
      have r3 := blkCell HB.out.r2 3 _ rfl
      have r4 := blkCell HB.out.r2 4 _ rfl
      have r5 := blkCell HB.out.r2 5 _ rfl
      have g0 := blkFree HB.out.r2 0
      have g1 := blkFree HB.out.r2 1
      have g2 := blkFree HB.out.r2 2
      have g3 := blkFree HB.out.r2 3
      have g4 := blkFree HB.out.r2 4
      have g5 := blkFree HB.out.r2 5
      have hmid : ((((((W4.setCell ⟨w.heap.size + 2, 0, none⟩ (.int .i64 σ.day)).setCell ⟨w.heap.size + 2, 1, none⟩ (.int .i64 σ.rc)).setCell ⟨w.heap.size + 2, 2, none⟩ (.int .i64 σ.sd)).setCell ⟨w.heap.size + 2, 3, none⟩ (.int .i64 σ.wa)).setCell ⟨w.heap.size + 2, 4, none⟩ (.int .i64 σ.sh)).setCell ⟨w.heap.size + 2, 5, none⟩ (.slice a σ.L.length c)).heap[w.heap.size + 3]? = some (.cells #[.int .i64 0, .int .i64 0] 36 (0, 0)) := ((six HB.out.r2 (.int .i64 σ.day) (.int .i64 σ.rc) (.int .i64 σ.sd) (.int .i64 σ.wa) (.int .i64 σ.sh) (.slice a σ.L.length c)).2.block _ (blkLt HB.out.r3) (by omega)).trans HB.out.r3
      have y0 := blkCell hmid 0 _ rfl
      have y1 := blkCell hmid 1 _ rfl
      have z0 := blkFree hmid 0
      have z1 := blkFree hmid 1
      have HZ := HB.out.retA (.int .i64 σ.day) (.int .i64 σ.rc) (.int .i64 σ.sd) (.int .i64 σ.wa) (.int .i64 σ.sh) (.slice a σ.L.length c) (.int .i64 8) (.int .i64 0)
      clear hmid
      go_wp2
      obtain ⟨k1, k2, k3⟩ := HZ
      generalize ((((((((W4.setCell ⟨w.heap.size + 2, 0, none⟩ (.int .i64 σ.day)).setCell ⟨w.heap.size + 2, 1, none⟩ (.int .i64 σ.rc)).setCell ⟨w.heap.size + 2, 2, none⟩ (.int .i64 σ.sd)).setCell ⟨w.heap.size + 2, 3, none⟩ (.int .i64 σ.wa)).setCell ⟨w.heap.size + 2, 4, none⟩ (.int .i64 σ.sh)).setCell ⟨w.heap.size + 2, 5, none⟩ (.slice a σ.L.length c)).setCell ⟨w.heap.size + 3, 0, none⟩ (.int .i64 8)).setCell ⟨w.heap.size + 3, 1, none⟩ (.int .i64 0)) = W9 at *
      have p0 := blkCell k2 0 _ rfl
      have p1 := blkCell k2 1 _ rfl
      have p2 := blkCell k2 2 _ rfl
      have p3 := blkCell k2 3 _ rfl
      have p4 := blkCell k2 4 _ rfl
      have p5 := blkCell k2 5 _ rfl
      have o0 := blkCell k3 0 _ rfl
      have o1 := blkCell k3 1 _ rfl
      refine bodyPost_ret (v := .tuple #[.agg #[.int .i64 σ.day, .int .i64 σ.rc, .int .i64 σ.sd, .int .i64 σ.wa, .int .i64 σ.sh, .slice a σ.L.length c], .agg #[.int .i64 8, .int .i64 0]]) (by simp [results, Try.results27, go_sem, p0, p1, p2, p3, p4, p5, o0, o1]) rfl ?_
      exact ⟨a, c, rfl, k1⟩
    | some i =>
      have hfv : fdV (fdI σ.L ar lt) = (i : Int) := by rw [hf]; rfl
      have E1 : toE σ ⟨5, ar, lt, nu, un⟩ = lotE σ 5 nu i := by show (match fdI σ.L ar lt with | none => _ | some i => _) = _; rw [hf]
      have E2 : toN σ ⟨5, ar, lt, nu, un⟩ = lotN σ 5 nu i := by show (match fdI σ.L ar lt with | none => _ | some i => _) = _; rw [hf]
      have E3 : toS σ ⟨5, ar, lt, nu, un⟩ = lotS σ 5 nu i := by show (match fdI σ.L ar lt with | none => _ | some i => _) = _; rw [hf]
      rw [E1, E2, E3]
      have hi := (fd_some hf).1
      have HCl := sLot_any σ a c ix hix hok 5 (by omega) ar lt nu un hi W4 hsz HB.out.st.row
      rw [hst] at HCl
      have hi0 : ¬ (i : Int) < 0 := by omega
      have hi1 : decide ((i : Int) < 0) = false := by simp
      generalize lotE σ 5 nu i = rc at *
      generalize lotN σ 5 nu i = rn at *
      generalize lotS σ 5 nu i = rs at *
      clear E1 E2 E3 hok hr hst
      rw [hfv] at HF
      clear hfv hf hi
      go_enter Try.func27, Try.ntmps27
      go_upto_region 1 with fail
      rw [← hW4]
      clear hW4
      go_wp2_with fail
      (first | go_at_call 46 | skip)
      refine HF.mono ?_
      rintro e w1 ⟨rfl, hw1⟩
      rw [← hw1]
      clear hw1 w1 HF
      have b0 := blkCell HB.out.s 0 _ rfl
      have b1 := blkCell HB.out.s 1 _ rfl
      have b2 := blkCell HB.out.s 2 _ rfl
      have b3 := blkCell HB.out.s 3 _ rfl
      have b4 := blkCell HB.out.s 4 _ rfl
      have b5 := blkCell HB.out.s 5 _ rfl
      go_wp2_with fail
      (first | go_at_call 47 | skip)
      refine HCl.mono ?_
      rintro e w1 ⟨va, vc, rfl, hk⟩
      have HR : Hid (Rx B (.slice a σ.L.length c) w rs (.slice va rs.L.length vc) w1) := HB.out.pass hk
      clear hk HCl HB b0 b1 b2 b3 b4 b5 x0 x1 x2 x3 x4 s5
      unfold stkV
      have r0 := blkCell HR.out.r2 0 _ rfl
      have r1 := blkCell HR.out.r2 1 _ rfl
      have r2 := blkCell HR.out.r2 2 _ rfl
      have r3 := blkCell HR.out.r2 3 _ rfl
      have r4 := blkCell HR.out.r2 4 _ rfl
      have r5 := blkCell HR.out.r2 5 _ rfl
      have gg0 := blkFree HR.out.r2 0
      have gg1 := blkFree HR.out.r2 1
      have gg2 := blkFree HR.out.r2 2
      have gg3 := blkFree HR.out.r2 3
      have gg4 := blkFree HR.out.r2 4
      have gg5 := blkFree HR.out.r2 5
      have hmid : ((((((w1.setCell ⟨w.heap.size + 2, 0, none⟩ (.int .i64 rs.day)).setCell ⟨w.heap.size + 2, 1, none⟩ (.int .i64 rs.rc)).setCell ⟨w.heap.size + 2, 2, none⟩ (.int .i64 rs.sd)).setCell ⟨w.heap.size + 2, 3, none⟩ (.int .i64 rs.wa)).setCell ⟨w.heap.size + 2, 4, none⟩ (.int .i64 rs.sh)).setCell ⟨w.heap.size + 2, 5, none⟩ (.slice va rs.L.length vc)).heap[w.heap.size + 3]? = some (.cells #[.int .i64 0, .int .i64 0] 36 (0, 0)) := ((six HR.out.r2 (.int .i64 rs.day) (.int .i64 rs.rc) (.int .i64 rs.sd) (.int .i64 rs.wa) (.int .i64 rs.sh) (.slice va rs.L.length vc)).2.block _ (blkLt HR.out.r3) (by omega)).trans HR.out.r3
      have y0 := blkCell hmid 0 _ rfl
      have y1 := blkCell hmid 1 _ rfl
      have z0 := blkFree hmid 0
      have z1 := blkFree hmid 1
      have HZ := HR.out.retA (.int .i64 rs.day) (.int .i64 rs.rc) (.int .i64 rs.sd) (.int .i64 rs.wa) (.int .i64 rs.sh) (.slice va rs.L.length vc) (.int .i64 rc) (.int .i64 rn)
      clear hmid
      go_wp2
      obtain ⟨k1, k2, k3⟩ := HZ
      generalize ((((((((w1.setCell ⟨w.heap.size + 2, 0, none⟩ (.int .i64 rs.day)).setCell ⟨w.heap.size + 2, 1, none⟩ (.int .i64 rs.rc)).setCell ⟨w.heap.size + 2, 2, none⟩ (.int .i64 rs.sd)).setCell ⟨w.heap.size + 2, 3, none⟩ (.int .i64 rs.wa)).setCell ⟨w.heap.size + 2, 4, none⟩ (.int .i64 rs.sh)).setCell ⟨w.heap.size + 2, 5, none⟩ (.slice va rs.L.length vc)).setCell ⟨w.heap.size + 3, 0, none⟩ (.int .i64 rc)).setCell ⟨w.heap.size + 3, 1, none⟩ (.int .i64 rn)) = W9 at *
      have p0 := blkCell k2 0 _ rfl
      have p1 := blkCell k2 1 _ rfl
      have p2 := blkCell k2 2 _ rfl
      have p3 := blkCell k2 3 _ rfl
      have p4 := blkCell k2 4 _ rfl
      have p5 := blkCell k2 5 _ rfl
      have o0 := blkCell k3 0 _ rfl
      have o1 := blkCell k3 1 _ rfl
      refine bodyPost_ret (v := .tuple #[.agg #[.int .i64 rs.day, .int .i64 rs.rc, .int .i64 rs.sd, .int .i64 rs.wa, .int .i64 rs.sh, .slice va rs.L.length vc], .agg #[.int .i64 rc, .int .i64 rn]]) (by simp [results, Try.results27, go_sem, p0, p1, p2, p3, p4, p5, o0, o1]) rfl ?_
      exact ⟨va, vc, rfl, k1⟩
  · skip
    cases hf : fdI σ.L ar lt with
    | none =>
      have hfv : fdV (fdI σ.L ar lt) = -1 := by rw [hf]; rfl
      have E1 : toE σ ⟨6, ar, lt, nu, un⟩ = 8 := by show (match fdI σ.L ar lt with | none => _ | some i => _) = _; rw [hf]
      have E2 : toN σ ⟨6, ar, lt, nu, un⟩ = 0 := by show (match fdI σ.L ar lt with | none => _ | some i => _) = _; rw [hf]
      have E3 : toS σ ⟨6, ar, lt, nu, un⟩ = σ := by show (match fdI σ.L ar lt with | none => _ | some i => _) = _; rw [hf]
      rw [E1, E2, E3]
      clear E1 E2 E3 hok hr hst
      rw [hfv] at HF
      clear hfv hf
      go_enter Try.func27, Try.ntmps27
      go_upto_region 1 with fail
      rw [← hW4]
      clear hW4
      go_wp2_with fail
      (first | go_at_call 46 | skip)
      refine HF.mono ?_
      rintro e w1 ⟨rfl, hw1⟩
      rw [← hw1]
      clear hw1 w1 HF
      have b0 := blkCell HB.out.s 0 _ rfl
      have b1 := blkCell HB.out.s 1 _ rfl
      have b2 := blkCell HB.out.s 2 _ rfl
      have b3 := blkCell HB.out.s 3 _ rfl
      have b4 := blkCell HB.out.s 4 _ rfl
      have b5 := blkCell HB.out.s 5 _ rfl
      have r0 := blkCell HB.out.r2 0 _ rfl
      have r1 := blkCell HB.out.r2 1 _ rfl
      have r2 := blkCell HB.out.r2 2 _ rfl
      have r3 := blkCell HB.out.r2 3 _ rfl
      have r4 := blkCell HB.out.r2 4 _ rfl
      have r5 := blkCell HB.out.r2 5 _ rfl
      have g0 := blkFree HB.out.r2 0
      have g1 := blkFree HB.out.r2 1
      have g2 := blkFree HB.out.r2 2
      have g3 := blkFree HB.out.r2 3
      have g4 := blkFree HB.out.r2 4
      have g5 := blkFree HB.out.r2 5
      have hmid : ((((((W4.setCell ⟨w.heap.size + 2, 0, none⟩ (.int .i64 σ.day)).setCell ⟨w.heap.size + 2, 1, none⟩ (.int .i64 σ.rc)).setCell ⟨w.heap.size + 2, 2, none⟩ (.int .i64 σ.sd)).setCell ⟨w.heap.size + 2, 3, none⟩ (.int .i64 σ.wa)).setCell ⟨w.heap.size + 2, 4, none⟩ (.int .i64 σ.sh)).setCell ⟨w.heap.size + 2, 5, none⟩ (.slice a σ.L.length c)).heap[w.heap.size + 3]? = some (.cells #[.int .i64 0, .int .i64 0] 36 (0, 0)) := ((six HB.out.r2 (.int .i64 σ.day) (.int .i64 σ.rc) (.int .i64 σ.sd) (.int .i64 σ.wa) (.int .i64 σ.sh) (.slice a σ.L.length c)).2.block _ (blkLt HB.out.r3) (by omega)).trans HB.out.r3
      have y0 := blkCell hmid 0 _ rfl
      have y1 := blkCell hmid 1 _ rfl
      have z0 := blkFree hmid 0
      have z1 := blkFree hmid 1
      have HZ := HB.out.retA (.int .i64 σ.day) (.int .i64 σ.rc) (.int .i64 σ.sd) (.int .i64 σ.wa) (.int .i64 σ.sh) (.slice a σ.L.length c) (.int .i64 8) (.int .i64 0)
      clear hmid
      go_wp2
      obtain ⟨k1, k2, k3⟩ := HZ
      generalize ((((((((W4.setCell ⟨w.heap.size + 2, 0, none⟩ (.int .i64 σ.day)).setCell ⟨w.heap.size + 2, 1, none⟩ (.int .i64 σ.rc)).setCell ⟨w.heap.size + 2, 2, none⟩ (.int .i64 σ.sd)).setCell ⟨w.heap.size + 2, 3, none⟩ (.int .i64 σ.wa)).setCell ⟨w.heap.size + 2, 4, none⟩ (.int .i64 σ.sh)).setCell ⟨w.heap.size + 2, 5, none⟩ (.slice a σ.L.length c)).setCell ⟨w.heap.size + 3, 0, none⟩ (.int .i64 8)).setCell ⟨w.heap.size + 3, 1, none⟩ (.int .i64 0)) = W9 at *
      have p0 := blkCell k2 0 _ rfl
      have p1 := blkCell k2 1 _ rfl
      have p2 := blkCell k2 2 _ rfl
      have p3 := blkCell k2 3 _ rfl
      have p4 := blkCell k2 4 _ rfl
      have p5 := blkCell k2 5 _ rfl
      have o0 := blkCell k3 0 _ rfl
      have o1 := blkCell k3 1 _ rfl
      refine bodyPost_ret (v := .tuple #[.agg #[.int .i64 σ.day, .int .i64 σ.rc, .int .i64 σ.sd, .int .i64 σ.wa, .int .i64 σ.sh, .slice a σ.L.length c], .agg #[.int .i64 8, .int .i64 0]]) (by simp [results, Try.results27, go_sem, p0, p1, p2, p3, p4, p5, o0, o1]) rfl ?_
      exact ⟨a, c, rfl, k1⟩
    | some i =>
      have hfv : fdV (fdI σ.L ar lt) = (i : Int) := by rw [hf]; rfl
      have E1 : toE σ ⟨6, ar, lt, nu, un⟩ = lotE σ 6 nu i := by show (match fdI σ.L ar lt with | none => _ | some i => _) = _; rw [hf]
      have E2 : toN σ ⟨6, ar, lt, nu, un⟩ = lotN σ 6 nu i := by show (match fdI σ.L ar lt with | none => _ | some i => _) = _; rw [hf]
      have E3 : toS σ ⟨6, ar, lt, nu, un⟩ = lotS σ 6 nu i := by show (match fdI σ.L ar lt with | none => _ | some i => _) = _; rw [hf]
      rw [E1, E2, E3]
      have hi := (fd_some hf).1
      have HCl := sLot_any σ a c ix hix hok 6 (by omega) ar lt nu un hi W4 hsz HB.out.st.row
      rw [hst] at HCl
      have hi0 : ¬ (i : Int) < 0 := by omega
      have hi1 : decide ((i : Int) < 0) = false := by simp
      generalize lotE σ 6 nu i = rc at *
      generalize lotN σ 6 nu i = rn at *
      generalize lotS σ 6 nu i = rs at *
      clear E1 E2 E3 hok hr hst
      rw [hfv] at HF
      clear hfv hf hi
      go_enter Try.func27, Try.ntmps27
      go_upto_region 1 with fail
      rw [← hW4]
      clear hW4
      go_wp2_with fail
      (first | go_at_call 46 | skip)
      refine HF.mono ?_
      rintro e w1 ⟨rfl, hw1⟩
      rw [← hw1]
      clear hw1 w1 HF
      have b0 := blkCell HB.out.s 0 _ rfl
      have b1 := blkCell HB.out.s 1 _ rfl
      have b2 := blkCell HB.out.s 2 _ rfl
      have b3 := blkCell HB.out.s 3 _ rfl
      have b4 := blkCell HB.out.s 4 _ rfl
      have b5 := blkCell HB.out.s 5 _ rfl
      go_wp2_with fail
      (first | go_at_call 47 | skip)
      refine HCl.mono ?_
      rintro e w1 ⟨va, vc, rfl, hk⟩
      have HR : Hid (Rx B (.slice a σ.L.length c) w rs (.slice va rs.L.length vc) w1) := HB.out.pass hk
      clear hk HCl HB b0 b1 b2 b3 b4 b5 x0 x1 x2 x3 x4 s5
      unfold stkV
      have r0 := blkCell HR.out.r2 0 _ rfl
      have r1 := blkCell HR.out.r2 1 _ rfl
      have r2 := blkCell HR.out.r2 2 _ rfl
      have r3 := blkCell HR.out.r2 3 _ rfl
      have r4 := blkCell HR.out.r2 4 _ rfl
      have r5 := blkCell HR.out.r2 5 _ rfl
      have gg0 := blkFree HR.out.r2 0
      have gg1 := blkFree HR.out.r2 1
      have gg2 := blkFree HR.out.r2 2
      have gg3 := blkFree HR.out.r2 3
      have gg4 := blkFree HR.out.r2 4
      have gg5 := blkFree HR.out.r2 5
      have hmid : ((((((w1.setCell ⟨w.heap.size + 2, 0, none⟩ (.int .i64 rs.day)).setCell ⟨w.heap.size + 2, 1, none⟩ (.int .i64 rs.rc)).setCell ⟨w.heap.size + 2, 2, none⟩ (.int .i64 rs.sd)).setCell ⟨w.heap.size + 2, 3, none⟩ (.int .i64 rs.wa)).setCell ⟨w.heap.size + 2, 4, none⟩ (.int .i64 rs.sh)).setCell ⟨w.heap.size + 2, 5, none⟩ (.slice va rs.L.length vc)).heap[w.heap.size + 3]? = some (.cells #[.int .i64 0, .int .i64 0] 36 (0, 0)) := ((six HR.out.r2 (.int .i64 rs.day) (.int .i64 rs.rc) (.int .i64 rs.sd) (.int .i64 rs.wa) (.int .i64 rs.sh) (.slice va rs.L.length vc)).2.block _ (blkLt HR.out.r3) (by omega)).trans HR.out.r3
      have y0 := blkCell hmid 0 _ rfl
      have y1 := blkCell hmid 1 _ rfl
      have z0 := blkFree hmid 0
      have z1 := blkFree hmid 1
      have HZ := HR.out.retA (.int .i64 rs.day) (.int .i64 rs.rc) (.int .i64 rs.sd) (.int .i64 rs.wa) (.int .i64 rs.sh) (.slice va rs.L.length vc) (.int .i64 rc) (.int .i64 rn)
      clear hmid
      go_wp2
      obtain ⟨k1, k2, k3⟩ := HZ
      generalize ((((((((w1.setCell ⟨w.heap.size + 2, 0, none⟩ (.int .i64 rs.day)).setCell ⟨w.heap.size + 2, 1, none⟩ (.int .i64 rs.rc)).setCell ⟨w.heap.size + 2, 2, none⟩ (.int .i64 rs.sd)).setCell ⟨w.heap.size + 2, 3, none⟩ (.int .i64 rs.wa)).setCell ⟨w.heap.size + 2, 4, none⟩ (.int .i64 rs.sh)).setCell ⟨w.heap.size + 2, 5, none⟩ (.slice va rs.L.length vc)).setCell ⟨w.heap.size + 3, 0, none⟩ (.int .i64 rc)).setCell ⟨w.heap.size + 3, 1, none⟩ (.int .i64 rn)) = W9 at *
      have p0 := blkCell k2 0 _ rfl
      have p1 := blkCell k2 1 _ rfl
      have p2 := blkCell k2 2 _ rfl
      have p3 := blkCell k2 3 _ rfl
      have p4 := blkCell k2 4 _ rfl
      have p5 := blkCell k2 5 _ rfl
      have o0 := blkCell k3 0 _ rfl
      have o1 := blkCell k3 1 _ rfl
      refine bodyPost_ret (v := .tuple #[.agg #[.int .i64 rs.day, .int .i64 rs.rc, .int .i64 rs.sd, .int .i64 rs.wa, .int .i64 rs.sh, .slice va rs.L.length vc], .agg #[.int .i64 rc, .int .i64 rn]]) (by simp [results, Try.results27, go_sem, p0, p1, p2, p3, p4, p5, o0, o1]) rfl ?_
      exact ⟨va, vc, rfl, k1⟩
  · skip
    cases hf : fdI σ.L ar lt with
    | none =>
      have hfv : fdV (fdI σ.L ar lt) = -1 := by rw [hf]; rfl
      have E1 : toE σ ⟨7, ar, lt, nu, un⟩ = 8 := by show (match fdI σ.L ar lt with | none => _ | some i => _) = _; rw [hf]
      have E2 : toN σ ⟨7, ar, lt, nu, un⟩ = 0 := by show (match fdI σ.L ar lt with | none => _ | some i => _) = _; rw [hf]
      have E3 : toS σ ⟨7, ar, lt, nu, un⟩ = σ := by show (match fdI σ.L ar lt with | none => _ | some i => _) = _; rw [hf]
      rw [E1, E2, E3]
      clear E1 E2 E3 hok hr hst
      rw [hfv] at HF
      clear hfv hf
      go_enter Try.func27, Try.ntmps27
      go_upto_region 1 with fail
      rw [← hW4]
      clear hW4
      go_wp2_with fail
      (first | go_at_call 46 | skip)
      refine HF.mono ?_
      rintro e w1 ⟨rfl, hw1⟩
      rw [← hw1]
      clear hw1 w1 HF
      have b0 := blkCell HB.out.s 0 _ rfl
      have b1 := blkCell HB.out.s 1 _ rfl
      have b2 := blkCell HB.out.s 2 _ rfl
      have b3 := blkCell HB.out.s 3 _ rfl
      have b4 := blkCell HB.out.s 4 _ rfl
      have b5 := blkCell HB.out.s 5 _ rfl
      have r0 := blkCell HB.out.r2 0 _ rfl
      have r1 := blkCell HB.out.r2 1 _ rfl
      have r2 := blkCell HB.out.r2 2 _ rfl
      have r3 := blkCell HB.out.r2 3 _ rfl
      have r4 := blkCell HB.out.r2 4 _ rfl
      have r5 := blkCell HB.out.r2 5 _ rfl
      have g0 := blkFree HB.out.r2 0
      have g1 := blkFree HB.out.r2 1
      have g2 := blkFree HB.out.r2 2
      have g3 := blkFree HB.out.r2 3
      have g4 := blkFree HB.out.r2 4
      have g5 := blkFree HB.out.r2 5
      have hmid : ((((((W4.setCell ⟨w.heap.size + 2, 0, none⟩ (.int .i64 σ.day)).setCell ⟨w.heap.size + 2, 1, none⟩ (.int .i64 σ.rc)).setCell ⟨w.heap.size + 2, 2, none⟩ (.int .i64 σ.sd)).setCell ⟨w.heap.size + 2, 3, none⟩ (.int .i64 σ.wa)).setCell ⟨w.heap.size + 2, 4, none⟩ (.int .i64 σ.sh)).setCell ⟨w.heap.size + 2, 5, none⟩ (.slice a σ.L.length c)).heap[w.heap.size + 3]? = some (.cells #[.int .i64 0, .int .i64 0] 36 (0, 0)) := ((six HB.out.r2 (.int .i64 σ.day) (.int .i64 σ.rc) (.int .i64 σ.sd) (.int .i64 σ.wa) (.int .i64 σ.sh) (.slice a σ.L.length c)).2.block _ (blkLt HB.out.r3) (by omega)).trans HB.out.r3
      have y0 := blkCell hmid 0 _ rfl
      have y1 := blkCell hmid 1 _ rfl
      have z0 := blkFree hmid 0
      have z1 := blkFree hmid 1
      have HZ := HB.out.retA (.int .i64 σ.day) (.int .i64 σ.rc) (.int .i64 σ.sd) (.int .i64 σ.wa) (.int .i64 σ.sh) (.slice a σ.L.length c) (.int .i64 8) (.int .i64 0)
      clear hmid
      go_wp2
      obtain ⟨k1, k2, k3⟩ := HZ
      generalize ((((((((W4.setCell ⟨w.heap.size + 2, 0, none⟩ (.int .i64 σ.day)).setCell ⟨w.heap.size + 2, 1, none⟩ (.int .i64 σ.rc)).setCell ⟨w.heap.size + 2, 2, none⟩ (.int .i64 σ.sd)).setCell ⟨w.heap.size + 2, 3, none⟩ (.int .i64 σ.wa)).setCell ⟨w.heap.size + 2, 4, none⟩ (.int .i64 σ.sh)).setCell ⟨w.heap.size + 2, 5, none⟩ (.slice a σ.L.length c)).setCell ⟨w.heap.size + 3, 0, none⟩ (.int .i64 8)).setCell ⟨w.heap.size + 3, 1, none⟩ (.int .i64 0)) = W9 at *
      have p0 := blkCell k2 0 _ rfl
      have p1 := blkCell k2 1 _ rfl
      have p2 := blkCell k2 2 _ rfl
      have p3 := blkCell k2 3 _ rfl
      have p4 := blkCell k2 4 _ rfl
      have p5 := blkCell k2 5 _ rfl
      have o0 := blkCell k3 0 _ rfl
      have o1 := blkCell k3 1 _ rfl
      refine bodyPost_ret (v := .tuple #[.agg #[.int .i64 σ.day, .int .i64 σ.rc, .int .i64 σ.sd, .int .i64 σ.wa, .int .i64 σ.sh, .slice a σ.L.length c], .agg #[.int .i64 8, .int .i64 0]]) (by simp [results, Try.results27, go_sem, p0, p1, p2, p3, p4, p5, o0, o1]) rfl ?_
      exact ⟨a, c, rfl, k1⟩
    | some i =>
      have hfv : fdV (fdI σ.L ar lt) = (i : Int) := by rw [hf]; rfl
      have E1 : toE σ ⟨7, ar, lt, nu, un⟩ = lotE σ 7 nu i := by show (match fdI σ.L ar lt with | none => _ | some i => _) = _; rw [hf]
      have E2 : toN σ ⟨7, ar, lt, nu, un⟩ = lotN σ 7 nu i := by show (match fdI σ.L ar lt with | none => _ | some i => _) = _; rw [hf]
      have E3 : toS σ ⟨7, ar, lt, nu, un⟩ = lotS σ 7 nu i := by show (match fdI σ.L ar lt with | none => _ | some i => _) = _; rw [hf]
      rw [E1, E2, E3]
      have hi := (fd_some hf).1
      have HCl := sLot_any σ a c ix hix hok 7 (by omega) ar lt nu un hi W4 hsz HB.out.st.row
      rw [hst] at HCl
      have hi0 : ¬ (i : Int) < 0 := by omega
      have hi1 : decide ((i : Int) < 0) = false := by simp
      generalize lotE σ 7 nu i = rc at *
      generalize lotN σ 7 nu i = rn at *
      generalize lotS σ 7 nu i = rs at *
      clear E1 E2 E3 hok hr hst
      rw [hfv] at HF
      clear hfv hf hi
      go_enter Try.func27, Try.ntmps27
      go_upto_region 1 with fail
      rw [← hW4]
      clear hW4
      go_wp2_with fail
      (first | go_at_call 46 | skip)
      refine HF.mono ?_
      rintro e w1 ⟨rfl, hw1⟩
      rw [← hw1]
      clear hw1 w1 HF
      have b0 := blkCell HB.out.s 0 _ rfl
      have b1 := blkCell HB.out.s 1 _ rfl
      have b2 := blkCell HB.out.s 2 _ rfl
      have b3 := blkCell HB.out.s 3 _ rfl
      have b4 := blkCell HB.out.s 4 _ rfl
      have b5 := blkCell HB.out.s 5 _ rfl
      go_wp2_with fail
      (first | go_at_call 47 | skip)
      refine HCl.mono ?_
      rintro e w1 ⟨va, vc, rfl, hk⟩
      have HR : Hid (Rx B (.slice a σ.L.length c) w rs (.slice va rs.L.length vc) w1) := HB.out.pass hk
      clear hk HCl HB b0 b1 b2 b3 b4 b5 x0 x1 x2 x3 x4 s5
      unfold stkV
      have r0 := blkCell HR.out.r2 0 _ rfl
      have r1 := blkCell HR.out.r2 1 _ rfl
      have r2 := blkCell HR.out.r2 2 _ rfl
      have r3 := blkCell HR.out.r2 3 _ rfl
      have r4 := blkCell HR.out.r2 4 _ rfl
      have r5 := blkCell HR.out.r2 5 _ rfl
      have gg0 := blkFree HR.out.r2 0
      have gg1 := blkFree HR.out.r2 1
      have gg2 := blkFree HR.out.r2 2
      have gg3 := blkFree HR.out.r2 3
      have gg4 := blkFree HR.out.r2 4
      have gg5 := blkFree HR.out.r2 5
      have hmid : ((((((w1.setCell ⟨w.heap.size + 2, 0, none⟩ (.int .i64 rs.day)).setCell ⟨w.heap.size + 2, 1, none⟩ (.int .i64 rs.rc)).setCell ⟨w.heap.size + 2, 2, none⟩ (.int .i64 rs.sd)).setCell ⟨w.heap.size + 2, 3, none⟩ (.int .i64 rs.wa)).setCell ⟨w.heap.size + 2, 4, none⟩ (.int .i64 rs.sh)).setCell ⟨w.heap.size + 2, 5, none⟩ (.slice va rs.L.length vc)).heap[w.heap.size + 3]? = some (.cells #[.int .i64 0, .int .i64 0] 36 (0, 0)) := ((six HR.out.r2 (.int .i64 rs.day) (.int .i64 rs.rc) (.int .i64 rs.sd) (.int .i64 rs.wa) (.int .i64 rs.sh) (.slice va rs.L.length vc)).2.block _ (blkLt HR.out.r3) (by omega)).trans HR.out.r3
      have y0 := blkCell hmid 0 _ rfl
      have y1 := blkCell hmid 1 _ rfl
      have z0 := blkFree hmid 0
      have z1 := blkFree hmid 1
      have HZ := HR.out.retA (.int .i64 rs.day) (.int .i64 rs.rc) (.int .i64 rs.sd) (.int .i64 rs.wa) (.int .i64 rs.sh) (.slice va rs.L.length vc) (.int .i64 rc) (.int .i64 rn)
      clear hmid
      go_wp2
      obtain ⟨k1, k2, k3⟩ := HZ
      generalize ((((((((w1.setCell ⟨w.heap.size + 2, 0, none⟩ (.int .i64 rs.day)).setCell ⟨w.heap.size + 2, 1, none⟩ (.int .i64 rs.rc)).setCell ⟨w.heap.size + 2, 2, none⟩ (.int .i64 rs.sd)).setCell ⟨w.heap.size + 2, 3, none⟩ (.int .i64 rs.wa)).setCell ⟨w.heap.size + 2, 4, none⟩ (.int .i64 rs.sh)).setCell ⟨w.heap.size + 2, 5, none⟩ (.slice va rs.L.length vc)).setCell ⟨w.heap.size + 3, 0, none⟩ (.int .i64 rc)).setCell ⟨w.heap.size + 3, 1, none⟩ (.int .i64 rn)) = W9 at *
      have p0 := blkCell k2 0 _ rfl
      have p1 := blkCell k2 1 _ rfl
      have p2 := blkCell k2 2 _ rfl
      have p3 := blkCell k2 3 _ rfl
      have p4 := blkCell k2 4 _ rfl
      have p5 := blkCell k2 5 _ rfl
      have o0 := blkCell k3 0 _ rfl
      have o1 := blkCell k3 1 _ rfl
      refine bodyPost_ret (v := .tuple #[.agg #[.int .i64 rs.day, .int .i64 rs.rc, .int .i64 rs.sd, .int .i64 rs.wa, .int .i64 rs.sh, .slice va rs.L.length vc], .agg #[.int .i64 rc, .int .i64 rn]]) (by simp [results, Try.results27, go_sem, p0, p1, p2, p3, p4, p5, o0, o1]) rfl ?_
      exact ⟨va, vc, rfl, k1⟩
set_option maxHeartbeats 16000000 in
set_option maxRecDepth 8000 in
theorem sAct2 {B : Nat} (σ : StS) (a : Option Addr) (c : Nat) (ix : Nat) (hix : ix ≤ 1000) (hok : StOK ix σ) (ar : ByteArray) (lt nu un : Int) (har : ar.size ≤ 2000000) (w : World) (hB : B ≤ w.heap.size) (hr : w.ownsRow B 38 5 (.slice a σ.L.length c) σ.L.length (slCells σ.L)) :
    Calls Try.prog 27 #[.agg (stkV σ (.slice a σ.L.length c)), .agg #[.int .i64 2, .string ar, .int .i64 lt, .int .i64 nu, .int .i64 un]] w (ActP B (.slice a σ.L.length c) w (selE σ ar nu) (selN σ ar nu) (selS σ ar nu)) := by
  obtain ⟨W4, hW4⟩ : ∃ W4, W4 = ((((w.alloc (Obj.cells #[.int .i64 σ.day, .int .i64 σ.rc, .int .i64 σ.sd, .int .i64 σ.wa, .int .i64 σ.sh, .slice a σ.L.length c] 29)).alloc (Obj.cells #[.int .i64 2, .string ar, .int .i64 lt, .int .i64 nu, .int .i64 un] 34)).alloc (Obj.cells #[.int .i64 0, .int .i64 0, .int .i64 0, .int .i64 0, .int .i64 0, .slice none 0 0] 29)).alloc (Obj.cells #[.int .i64 0, .int .i64 0] 36)) := ⟨_, rfl⟩
  have HB : Hid (Bx B (.slice a σ.L.length c) w σ (.slice a σ.L.length c) 2 ar lt nu un W4) := by rw [hW4]; exact bxStart hr 2 ar lt nu un
  have hst : Value.agg (stkV σ (.slice a σ.L.length c)) = .agg #[.int .i64 σ.day, .int .i64 σ.rc, .int .i64 σ.sd, .int .i64 σ.wa, .int .i64 σ.sh, .slice a σ.L.length c] := rfl
  rw [hst]
  have hsz : B ≤ W4.heap.size := Nat.le_trans hB HB.out.st.fr.size
  have x0 := blkCell HB.out.x 0 _ rfl
  have x3 := blkCell HB.out.x 3 _ rfl
  by_cases h1 : nu < 1
  · have E1 : selE σ ar nu = 5 := if_pos h1
    have E2 : selN σ ar nu = 0 := by unfold selN; rw [E1]; rfl
    have E3 : selS σ ar nu = σ := by unfold selS; rw [E1]; rfl
    rw [E1, E2, E3]
    clear E1 E2 E3 hok hr hst
    go_enter Try.func27, Try.ntmps27
    go_upto_region 1 with fail
    rw [← hW4]
    clear hW4
    have b0 := blkCell HB.out.s 0 _ rfl
    have b1 := blkCell HB.out.s 1 _ rfl
    have b2 := blkCell HB.out.s 2 _ rfl
    have b3 := blkCell HB.out.s 3 _ rfl
    have b4 := blkCell HB.out.s 4 _ rfl
    have b5 := blkCell HB.out.s 5 _ rfl
    have r0 := blkCell HB.out.r2 0 _ rfl
    have r1 := blkCell HB.out.r2 1 _ rfl
    have r2 := blkCell HB.out.r2 2 _ rfl
    have r3 := blkCell HB.out.r2 3 _ rfl
    have r4 := blkCell HB.out.r2 4 _ rfl
    have r5 := blkCell HB.out.r2 5 _ rfl
    have g0 := blkFree HB.out.r2 0
    have g1 := blkFree HB.out.r2 1
    have g2 := blkFree HB.out.r2 2
    have g3 := blkFree HB.out.r2 3
    have g4 := blkFree HB.out.r2 4
    have g5 := blkFree HB.out.r2 5
    have hmid : ((((((W4.setCell ⟨w.heap.size + 2, 0, none⟩ (.int .i64 σ.day)).setCell ⟨w.heap.size + 2, 1, none⟩ (.int .i64 σ.rc)).setCell ⟨w.heap.size + 2, 2, none⟩ (.int .i64 σ.sd)).setCell ⟨w.heap.size + 2, 3, none⟩ (.int .i64 σ.wa)).setCell ⟨w.heap.size + 2, 4, none⟩ (.int .i64 σ.sh)).setCell ⟨w.heap.size + 2, 5, none⟩ (.slice a σ.L.length c)).heap[w.heap.size + 3]? = some (.cells #[.int .i64 0, .int .i64 0] 36 (0, 0)) := ((six HB.out.r2 (.int .i64 σ.day) (.int .i64 σ.rc) (.int .i64 σ.sd) (.int .i64 σ.wa) (.int .i64 σ.sh) (.slice a σ.L.length c)).2.block _ (blkLt HB.out.r3) (by omega)).trans HB.out.r3
    have y0 := blkCell hmid 0 _ rfl
    have y1 := blkCell hmid 1 _ rfl
    have z0 := blkFree hmid 0
    have z1 := blkFree hmid 1
    have HZ := HB.out.retA (.int .i64 σ.day) (.int .i64 σ.rc) (.int .i64 σ.sd) (.int .i64 σ.wa) (.int .i64 σ.sh) (.slice a σ.L.length c) (.int .i64 5) (.int .i64 0)
    clear hmid
    go_wp2
    obtain ⟨k1, k2, k3⟩ := HZ
    generalize ((((((((W4.setCell ⟨w.heap.size + 2, 0, none⟩ (.int .i64 σ.day)).setCell ⟨w.heap.size + 2, 1, none⟩ (.int .i64 σ.rc)).setCell ⟨w.heap.size + 2, 2, none⟩ (.int .i64 σ.sd)).setCell ⟨w.heap.size + 2, 3, none⟩ (.int .i64 σ.wa)).setCell ⟨w.heap.size + 2, 4, none⟩ (.int .i64 σ.sh)).setCell ⟨w.heap.size + 2, 5, none⟩ (.slice a σ.L.length c)).setCell ⟨w.heap.size + 3, 0, none⟩ (.int .i64 5)).setCell ⟨w.heap.size + 3, 1, none⟩ (.int .i64 0)) = W9 at *
    have p0 := blkCell k2 0 _ rfl
    have p1 := blkCell k2 1 _ rfl
    have p2 := blkCell k2 2 _ rfl
    have p3 := blkCell k2 3 _ rfl
    have p4 := blkCell k2 4 _ rfl
    have p5 := blkCell k2 5 _ rfl
    have o0 := blkCell k3 0 _ rfl
    have o1 := blkCell k3 1 _ rfl
    refine bodyPost_ret (v := .tuple #[.agg #[.int .i64 σ.day, .int .i64 σ.rc, .int .i64 σ.sd, .int .i64 σ.wa, .int .i64 σ.sh, .slice a σ.L.length c], .agg #[.int .i64 5, .int .i64 0]]) (by simp [results, Try.results27, go_sem, p0, p1, p2, p3, p4, p5, o0, o1]) rfl ?_
    exact ⟨a, c, rfl, k1⟩
  have h1d : decide (nu < 1) = false := decide_eq_false h1
  have E0 : selE σ ar nu = selC σ ar nu := if_neg h1
  have HU0 : Hid (∀ W, W.ownsRow B 38 5 (.slice a σ.L.length c) σ.L.length (slCells σ.L) → Calls Try.prog 43 #[.agg #[.int .i64 σ.day, .int .i64 σ.rc, .int .i64 σ.sd, .int .i64 σ.wa, .int .i64 σ.sh, .slice a σ.L.length c], .string ar, .int .i64 0] W fun e w' => e = .returned (.int .i64 (uN (pS ar σ.day) σ.L)) ∧ Below W.heap.size W w') := fun W h => sUnits0_any σ a c hok.len hok.good ar W h
  have HU1 : Hid (∀ W, W.ownsRow B 38 5 (.slice a σ.L.length c) σ.L.length (slCells σ.L) → Calls Try.prog 43 #[.agg #[.int .i64 σ.day, .int .i64 σ.rc, .int .i64 σ.sd, .int .i64 σ.wa, .int .i64 σ.sh, .slice a σ.L.length c], .string ar, .int .i64 1] W fun e w' => e = .returned (.int .i64 (uN (pD ar σ.day) σ.L)) ∧ Below W.heap.size W w') := fun W h => sUnits1_any σ a c hok.len hok.good ar W h
  have HU2 : Hid (∀ W, W.ownsRow B 38 5 (.slice a σ.L.length c) σ.L.length (slCells σ.L) → Calls Try.prog 43 #[.agg #[.int .i64 σ.day, .int .i64 σ.rc, .int .i64 σ.sd, .int .i64 σ.wa, .int .i64 σ.sh, .slice a σ.L.length c], .string ar, .int .i64 2] W fun e w' => e = .returned (.int .i64 (uN (pA ar) σ.L)) ∧ Below W.heap.size W w') := fun W h => sUnits2_any σ a c hok.len hok.good ar W h
  by_cases k0 : nu ≤ uN (pS ar σ.day) σ.L
  · have HS : Hid (∀ W, B ≤ W.heap.size → W.ownsRow B 38 5 (.slice a σ.L.length c) σ.L.length (slCells σ.L) → Calls Try.prog 44 #[.agg #[.int .i64 σ.day, .int .i64 σ.rc, .int .i64 σ.sd, .int .i64 σ.wa, .int .i64 σ.sh, .slice a σ.L.length c], .string ar, .int .i64 nu] W (SellP B (.slice a σ.L.length c) W { σ with L := slL (pS ar σ.day) nu σ.L, sd := σ.sd + nu } (slK (pS ar σ.day) nu σ.L))) := fun W hb h => sSell_any σ a c ix hix hok ar nu (by omega) k0 W hb h
    have E1 : selE σ ar nu = 0 := by rw [E0]; exact if_pos k0
    have E2 : selN σ ar nu = (slK (pS ar σ.day) nu σ.L : Int) := by unfold selN; rw [E1, if_pos rfl]
    have E3 : selS σ ar nu = { σ with L := slL (pS ar σ.day) nu σ.L, sd := σ.sd + nu } := by unfold selS; rw [E1, if_pos rfl]
    rw [E1, E2, E3]
    generalize ({ σ with L := slL (pS ar σ.day) nu σ.L, sd := σ.sd + nu } : StS) = rs at *
    generalize slK (pS ar σ.day) nu σ.L = rk at *
    generalize uN (pS ar σ.day) σ.L = u0 at *
    have k0d : decide (u0 < nu) = false := decide_eq_false (by omega)
    clear E0 E1 E2 E3 hok hr hst HU1 HU2
    go_enter Try.func27, Try.ntmps27
    go_upto_region 1 with fail
    rw [← hW4]
    clear hW4
    go_wp2_with fail
    clear x0 x3
    have HBd : Hid (∀ W', Below W4.heap.size W4 W' → Bx B (.slice a σ.L.length c) w σ (.slice a σ.L.length c) 2 ar lt nu un W') := fun W' hW' => HB.out.later hW'
    refine wp_region_held_drew (S := fun W' => Below W4.heap.size W4 W') (by kernel_rfl) (below_drew _) (fun hH => ?_)
    generalize W4.drew = Wd at *
    refine wpAnyH_take (i := 0) (v := .pointer (some ⟨w.heap.size + 1, 3, none⟩)) rfl (by kernel_rfl) (by kernel_rfl) (by kernel_rfl) (fun _ _ _ h => h) (Or.inl ⟨by rfl, fun w hSw => by go_simp⟩) hH ?_
    refine wpAnyH_take (i := 1) (v := .int .i64 nu) rfl (by kernel_rfl) (by kernel_rfl) (by kernel_rfl) (fun _ _ _ h => h) (Or.inl ⟨by rfl, fun w hSw => by have f0 := blkCell (HBd.out w hSw).x 3 _ rfl; go_simp⟩) hH ?_
    try simp only [Act.put, List.setIfInBounds_toArray, List.set_cons_zero, List.set_cons_succ, List.getElem_toArray, List.getElem_cons_succ, List.getElem_cons_zero]
    refine wpAnyH_take (i := 2) (v := .agg #[.int .i64 σ.day, .int .i64 σ.rc, .int .i64 σ.sd, .int .i64 σ.wa, .int .i64 σ.sh, .slice a σ.L.length c]) rfl (by kernel_rfl) (by kernel_rfl) (by kernel_rfl) (fun _ _ _ h => h) (Or.inl ⟨by rfl, fun w hSw => by have f0 := blkCell (HBd.out w hSw).s 0 _ rfl; have f1 := blkCell (HBd.out w hSw).s 1 _ rfl; have f2 := blkCell (HBd.out w hSw).s 2 _ rfl; have f3 := blkCell (HBd.out w hSw).s 3 _ rfl; have f4 := blkCell (HBd.out w hSw).s 4 _ rfl; have f5 := blkCell (HBd.out w hSw).s 5 _ rfl; go_simp⟩) hH ?_
    try simp only [Act.put, List.setIfInBounds_toArray, List.set_cons_zero, List.set_cons_succ, List.getElem_toArray, List.getElem_cons_succ, List.getElem_cons_zero]
    refine wpAnyH_take (i := 3) (v := .pointer (some ⟨w.heap.size + 1, 1, none⟩)) rfl (by kernel_rfl) (by kernel_rfl) (by kernel_rfl) (fun _ _ _ h => h) (Or.inl ⟨by rfl, fun w hSw => by go_simp⟩) hH ?_
    try simp only [Act.put, List.setIfInBounds_toArray, List.set_cons_zero, List.set_cons_succ, List.getElem_toArray, List.getElem_cons_succ, List.getElem_cons_zero]
    refine wpAnyH_take (i := 4) (v := .string ar) rfl (by kernel_rfl) (by kernel_rfl) (by kernel_rfl) (fun _ _ _ h => h) (Or.inl ⟨by rfl, fun w hSw => by have f0 := blkCell (HBd.out w hSw).x 1 _ rfl; go_simp⟩) hH ?_
    try simp only [Act.put, List.setIfInBounds_toArray, List.set_cons_zero, List.set_cons_succ, List.getElem_toArray, List.getElem_cons_succ, List.getElem_cons_zero]
    refine wpAnyH_ready (rs := [5]) (by kernel_rfl) (by simp) ?_
    refine AllReadyH.cons rfl (fun K hK => ?_) AllReadyH.nil
    go_simp
    go_at_call 43
    refine (HU0.out _ (HBd.out _ hH).st.row).mono ?_
    rintro e w07 ⟨rfl, hb0⟩
    have hw0 : Below W4.heap.size W4 w07 := chain hH hb0
    clear hb0
    refine hK.out _ _ hw0 (fun _ => ?_)
    clear hK K
    try simp only [Act.put, List.setIfInBounds_toArray, List.set_cons_zero, List.set_cons_succ, List.getElem_toArray, List.getElem_cons_succ, List.getElem_cons_zero]
    refine wpAnyH_take (i := 6) (v := .bool false) rfl (by kernel_rfl) (by kernel_rfl) (by kernel_rfl) (fun _ _ _ h => h) (Or.inl ⟨by rfl, fun w hSw => by go_simp⟩) hw0 ?_
    try simp only [Act.put, List.setIfInBounds_toArray, List.set_cons_zero, List.set_cons_succ, List.getElem_toArray, List.getElem_cons_succ, List.getElem_cons_zero]
    refine wpAnyH_done (by kernel_rfl) ?_ _
    replace HB : Hid (Bx B (.slice a σ.L.length c) w σ (.slice a σ.L.length c) 2 ar lt nu un w07) := HBd.out _ hw0
    clear hw0 hH HBd HU0 Wd
    have hsz7 : B ≤ w07.heap.size := Nat.le_trans hB HB.out.st.fr.size
    have HC7 := HS.out w07 hsz7 HB.out.st.row
    have x1 := blkCell HB.out.x 1 _ rfl
    have x3 := blkCell HB.out.x 3 _ rfl
    have b0 := blkCell HB.out.s 0 _ rfl
    have b1 := blkCell HB.out.s 1 _ rfl
    have b2 := blkCell HB.out.s 2 _ rfl
    have b3 := blkCell HB.out.s 3 _ rfl
    have b4 := blkCell HB.out.s 4 _ rfl
    have b5 := blkCell HB.out.s 5 _ rfl
    go_wp2_with fail
    (first | go_at_call 44 | skip)
    refine HC7.mono ?_
    rintro e w8 ⟨va, vc, rfl, hk⟩
    have HR0 : Hid (Rx B (.slice a σ.L.length c) w rs (.slice va rs.L.length vc) w8) := HB.out.pass hk
    clear hk HC7 HB HS b0 b1 b2 b3 b4 b5 x1 x3
    unfold stkV
    obtain ⟨w1, hw1⟩ : ∃ w1, w1 = w8.alloc (Obj.cells #[.int .i64 rs.day, .int .i64 rs.rc, .int .i64 rs.sd, .int .i64 rs.wa, .int .i64 rs.sh, .slice va rs.L.length vc] 29) := ⟨_, rfl⟩
    have HR : Hid (Rx B (.slice a σ.L.length c) w rs (.slice va rs.L.length vc) w1) := by rw [hw1]; exact HR0.out.later (below_alloc _ _)
    have HT : Hid (w1.heap[w8.heap.size]? = some (.cells #[.int .i64 rs.day, .int .i64 rs.rc, .int .i64 rs.sd, .int .i64 rs.wa, .int .i64 rs.sh, .slice va rs.L.length vc] 29 (0, 0))) := by rw [hw1]; exact heapNew _ _
    clear HR0
    go_upto_region 15 with fail
    rw [← hw1]
    clear hw1
    have t0 := blkCell HT.out 0 _ rfl
    have t1 := blkCell HT.out 1 _ rfl
    have t2 := blkCell HT.out 2 _ rfl
    have t3 := blkCell HT.out 3 _ rfl
    have t4 := blkCell HT.out 4 _ rfl
    have t5 := blkCell HT.out 5 _ rfl
    have r0 := blkCell HR.out.r2 0 _ rfl
    have r1 := blkCell HR.out.r2 1 _ rfl
    have r2 := blkCell HR.out.r2 2 _ rfl
    have r3 := blkCell HR.out.r2 3 _ rfl
    have r4 := blkCell HR.out.r2 4 _ rfl
    have r5 := blkCell HR.out.r2 5 _ rfl
    have gg0 := blkFree HR.out.r2 0
    have gg1 := blkFree HR.out.r2 1
    have gg2 := blkFree HR.out.r2 2
    have gg3 := blkFree HR.out.r2 3
    have gg4 := blkFree HR.out.r2 4
    have gg5 := blkFree HR.out.r2 5
    have hmid : ((((((w1.setCell ⟨w.heap.size + 2, 0, none⟩ (.int .i64 rs.day)).setCell ⟨w.heap.size + 2, 1, none⟩ (.int .i64 rs.rc)).setCell ⟨w.heap.size + 2, 2, none⟩ (.int .i64 rs.sd)).setCell ⟨w.heap.size + 2, 3, none⟩ (.int .i64 rs.wa)).setCell ⟨w.heap.size + 2, 4, none⟩ (.int .i64 rs.sh)).setCell ⟨w.heap.size + 2, 5, none⟩ (.slice va rs.L.length vc)).heap[w.heap.size + 3]? = some (.cells #[.int .i64 0, .int .i64 0] 36 (0, 0)) := ((six HR.out.r2 (.int .i64 rs.day) (.int .i64 rs.rc) (.int .i64 rs.sd) (.int .i64 rs.wa) (.int .i64 rs.sh) (.slice va rs.L.length vc)).2.block _ (blkLt HR.out.r3) (by omega)).trans HR.out.r3
    have y0 := blkCell hmid 0 _ rfl
    have y1 := blkCell hmid 1 _ rfl
    have z0 := blkFree hmid 0
    have z1 := blkFree hmid 1
    have HZ := HR.out.retA (.int .i64 rs.day) (.int .i64 rs.rc) (.int .i64 rs.sd) (.int .i64 rs.wa) (.int .i64 rs.sh) (.slice va rs.L.length vc) (.int .i64 0) (.int .i64 (rk : Int))
    clear hmid
    go_wp2
    obtain ⟨k1, k2, k3⟩ := HZ
    generalize ((((((((w1.setCell ⟨w.heap.size + 2, 0, none⟩ (.int .i64 rs.day)).setCell ⟨w.heap.size + 2, 1, none⟩ (.int .i64 rs.rc)).setCell ⟨w.heap.size + 2, 2, none⟩ (.int .i64 rs.sd)).setCell ⟨w.heap.size + 2, 3, none⟩ (.int .i64 rs.wa)).setCell ⟨w.heap.size + 2, 4, none⟩ (.int .i64 rs.sh)).setCell ⟨w.heap.size + 2, 5, none⟩ (.slice va rs.L.length vc)).setCell ⟨w.heap.size + 3, 0, none⟩ (.int .i64 0)).setCell ⟨w.heap.size + 3, 1, none⟩ (.int .i64 (rk : Int))) = W9 at *
    have p0 := blkCell k2 0 _ rfl
    have p1 := blkCell k2 1 _ rfl
    have p2 := blkCell k2 2 _ rfl
    have p3 := blkCell k2 3 _ rfl
    have p4 := blkCell k2 4 _ rfl
    have p5 := blkCell k2 5 _ rfl
    have o0 := blkCell k3 0 _ rfl
    have o1 := blkCell k3 1 _ rfl
    refine bodyPost_ret (v := .tuple #[.agg #[.int .i64 rs.day, .int .i64 rs.rc, .int .i64 rs.sd, .int .i64 rs.wa, .int .i64 rs.sh, .slice va rs.L.length vc], .agg #[.int .i64 0, .int .i64 (rk : Int)]]) (by simp [results, Try.results27, go_sem, p0, p1, p2, p3, p4, p5, o0, o1]) rfl ?_
    exact ⟨va, vc, rfl, k1⟩
  have E1 : selE σ ar nu = (if nu ≤ uN (pD ar σ.day) σ.L then 18 else if nu ≤ uN (pA ar) σ.L then 17 else 19) := by rw [E0]; exact if_neg k0
  have E2 : selN σ ar nu = 0 := by unfold selN; rw [E1]; split; rfl; split <;> rfl
  have E3 : selS σ ar nu = σ := by unfold selS; rw [E1]; split; rfl; split <;> rfl
  rw [E1, E2, E3]
  generalize uN (pS ar σ.day) σ.L = u0 at *
  generalize uN (pD ar σ.day) σ.L = u1 at *
  generalize uN (pA ar) σ.L = u2 at *
  have k0d : u0 < nu := by omega
  clear E0 E1 E2 E3 hok hr hst k0
  by_cases k1 : nu ≤ u1
  · rw [if_pos k1]
    go_enter Try.func27, Try.ntmps27
    go_upto_region 1 with fail
    rw [← hW4]
    clear hW4
    go_wp2_with fail
    clear x0 x3
    have HBd : Hid (∀ W', Below W4.heap.size W4 W' → Bx B (.slice a σ.L.length c) w σ (.slice a σ.L.length c) 2 ar lt nu un W') := fun W' hW' => HB.out.later hW'
    refine wp_region_held_drew (S := fun W' => Below W4.heap.size W4 W') (by kernel_rfl) (below_drew _) (fun hH => ?_)
    generalize W4.drew = Wd at *
    refine wpAnyH_take (i := 0) (v := .pointer (some ⟨w.heap.size + 1, 3, none⟩)) rfl (by kernel_rfl) (by kernel_rfl) (by kernel_rfl) (fun _ _ _ h => h) (Or.inl ⟨by rfl, fun w hSw => by go_simp⟩) hH ?_
    refine wpAnyH_take (i := 1) (v := .int .i64 nu) rfl (by kernel_rfl) (by kernel_rfl) (by kernel_rfl) (fun _ _ _ h => h) (Or.inl ⟨by rfl, fun w hSw => by have f0 := blkCell (HBd.out w hSw).x 3 _ rfl; go_simp⟩) hH ?_
    try simp only [Act.put, List.setIfInBounds_toArray, List.set_cons_zero, List.set_cons_succ, List.getElem_toArray, List.getElem_cons_succ, List.getElem_cons_zero]
    refine wpAnyH_take (i := 2) (v := .agg #[.int .i64 σ.day, .int .i64 σ.rc, .int .i64 σ.sd, .int .i64 σ.wa, .int .i64 σ.sh, .slice a σ.L.length c]) rfl (by kernel_rfl) (by kernel_rfl) (by kernel_rfl) (fun _ _ _ h => h) (Or.inl ⟨by rfl, fun w hSw => by have f0 := blkCell (HBd.out w hSw).s 0 _ rfl; have f1 := blkCell (HBd.out w hSw).s 1 _ rfl; have f2 := blkCell (HBd.out w hSw).s 2 _ rfl; have f3 := blkCell (HBd.out w hSw).s 3 _ rfl; have f4 := blkCell (HBd.out w hSw).s 4 _ rfl; have f5 := blkCell (HBd.out w hSw).s 5 _ rfl; go_simp⟩) hH ?_
    try simp only [Act.put, List.setIfInBounds_toArray, List.set_cons_zero, List.set_cons_succ, List.getElem_toArray, List.getElem_cons_succ, List.getElem_cons_zero]
    refine wpAnyH_take (i := 3) (v := .pointer (some ⟨w.heap.size + 1, 1, none⟩)) rfl (by kernel_rfl) (by kernel_rfl) (by kernel_rfl) (fun _ _ _ h => h) (Or.inl ⟨by rfl, fun w hSw => by go_simp⟩) hH ?_
    try simp only [Act.put, List.setIfInBounds_toArray, List.set_cons_zero, List.set_cons_succ, List.getElem_toArray, List.getElem_cons_succ, List.getElem_cons_zero]
    refine wpAnyH_take (i := 4) (v := .string ar) rfl (by kernel_rfl) (by kernel_rfl) (by kernel_rfl) (fun _ _ _ h => h) (Or.inl ⟨by rfl, fun w hSw => by have f0 := blkCell (HBd.out w hSw).x 1 _ rfl; go_simp⟩) hH ?_
    try simp only [Act.put, List.setIfInBounds_toArray, List.set_cons_zero, List.set_cons_succ, List.getElem_toArray, List.getElem_cons_succ, List.getElem_cons_zero]
    refine wpAnyH_ready (rs := [5]) (by kernel_rfl) (by simp) ?_
    refine AllReadyH.cons rfl (fun K hK => ?_) AllReadyH.nil
    go_simp
    go_at_call 43
    refine (HU0.out _ (HBd.out _ hH).st.row).mono ?_
    rintro e w07 ⟨rfl, hb0⟩
    have hw0 : Below W4.heap.size W4 w07 := chain hH hb0
    clear hb0
    refine hK.out _ _ hw0 (fun _ => ?_)
    clear hK K
    try simp only [Act.put, List.setIfInBounds_toArray, List.set_cons_zero, List.set_cons_succ, List.getElem_toArray, List.getElem_cons_succ, List.getElem_cons_zero]
    refine wpAnyH_take (i := 6) (v := .bool true) rfl (by kernel_rfl) (by kernel_rfl) (by kernel_rfl) (fun _ _ _ h => h) (Or.inl ⟨by rfl, fun w hSw => by go_simp⟩) hw0 ?_
    try simp only [Act.put, List.setIfInBounds_toArray, List.set_cons_zero, List.set_cons_succ, List.getElem_toArray, List.getElem_cons_succ, List.getElem_cons_zero]
    refine wpAnyH_done (by kernel_rfl) ?_ _
    replace HB : Hid (Bx B (.slice a σ.L.length c) w σ (.slice a σ.L.length c) 2 ar lt nu un w07) := HBd.out _ hw0
    clear hw0 hH HBd HU0 Wd
    go_wp2_with fail
    have HBd : Hid (∀ W', Below w07.heap.size w07 W' → Bx B (.slice a σ.L.length c) w σ (.slice a σ.L.length c) 2 ar lt nu un W') := fun W' hW' => HB.out.later hW'
    refine wp_region_held_drew (S := fun W' => Below w07.heap.size w07 W') (by kernel_rfl) (below_drew _) (fun hH => ?_)
    generalize w07.drew = Wd at *
    refine wpAnyH_take (i := 0) (v := .pointer (some ⟨w.heap.size + 1, 3, none⟩)) rfl (by kernel_rfl) (by kernel_rfl) (by kernel_rfl) (fun _ _ _ h => h) (Or.inl ⟨by rfl, fun w hSw => by go_simp⟩) hH ?_
    refine wpAnyH_take (i := 1) (v := .int .i64 nu) rfl (by kernel_rfl) (by kernel_rfl) (by kernel_rfl) (fun _ _ _ h => h) (Or.inl ⟨by rfl, fun w hSw => by have f0 := blkCell (HBd.out w hSw).x 3 _ rfl; go_simp⟩) hH ?_
    try simp only [Act.put, List.setIfInBounds_toArray, List.set_cons_zero, List.set_cons_succ, List.getElem_toArray, List.getElem_cons_succ, List.getElem_cons_zero]
    refine wpAnyH_take (i := 2) (v := .agg #[.int .i64 σ.day, .int .i64 σ.rc, .int .i64 σ.sd, .int .i64 σ.wa, .int .i64 σ.sh, .slice a σ.L.length c]) rfl (by kernel_rfl) (by kernel_rfl) (by kernel_rfl) (fun _ _ _ h => h) (Or.inl ⟨by rfl, fun w hSw => by have f0 := blkCell (HBd.out w hSw).s 0 _ rfl; have f1 := blkCell (HBd.out w hSw).s 1 _ rfl; have f2 := blkCell (HBd.out w hSw).s 2 _ rfl; have f3 := blkCell (HBd.out w hSw).s 3 _ rfl; have f4 := blkCell (HBd.out w hSw).s 4 _ rfl; have f5 := blkCell (HBd.out w hSw).s 5 _ rfl; go_simp⟩) hH ?_
    try simp only [Act.put, List.setIfInBounds_toArray, List.set_cons_zero, List.set_cons_succ, List.getElem_toArray, List.getElem_cons_succ, List.getElem_cons_zero]
    refine wpAnyH_take (i := 3) (v := .pointer (some ⟨w.heap.size + 1, 1, none⟩)) rfl (by kernel_rfl) (by kernel_rfl) (by kernel_rfl) (fun _ _ _ h => h) (Or.inl ⟨by rfl, fun w hSw => by go_simp⟩) hH ?_
    try simp only [Act.put, List.setIfInBounds_toArray, List.set_cons_zero, List.set_cons_succ, List.getElem_toArray, List.getElem_cons_succ, List.getElem_cons_zero]
    refine wpAnyH_take (i := 4) (v := .string ar) rfl (by kernel_rfl) (by kernel_rfl) (by kernel_rfl) (fun _ _ _ h => h) (Or.inl ⟨by rfl, fun w hSw => by have f0 := blkCell (HBd.out w hSw).x 1 _ rfl; go_simp⟩) hH ?_
    try simp only [Act.put, List.setIfInBounds_toArray, List.set_cons_zero, List.set_cons_succ, List.getElem_toArray, List.getElem_cons_succ, List.getElem_cons_zero]
    refine wpAnyH_ready (rs := [5]) (by kernel_rfl) (by simp) ?_
    refine AllReadyH.cons rfl (fun K hK => ?_) AllReadyH.nil
    go_simp
    go_at_call 43
    refine (HU1.out _ (HBd.out _ hH).st.row).mono ?_
    rintro e w17 ⟨rfl, hb1⟩
    have hw1 : Below w07.heap.size w07 w17 := chain hH hb1
    clear hb1
    refine hK.out _ _ hw1 (fun _ => ?_)
    clear hK K
    try simp only [Act.put, List.setIfInBounds_toArray, List.set_cons_zero, List.set_cons_succ, List.getElem_toArray, List.getElem_cons_succ, List.getElem_cons_zero]
    refine wpAnyH_take (i := 6) (v := .bool true) rfl (by kernel_rfl) (by kernel_rfl) (by kernel_rfl) (fun _ _ _ h => h) (Or.inl ⟨by rfl, fun w hSw => by go_simp⟩) hw1 ?_
    try simp only [Act.put, List.setIfInBounds_toArray, List.set_cons_zero, List.set_cons_succ, List.getElem_toArray, List.getElem_cons_succ, List.getElem_cons_zero]
    refine wpAnyH_done (by kernel_rfl) ?_ _
    replace HB : Hid (Bx B (.slice a σ.L.length c) w σ (.slice a σ.L.length c) 2 ar lt nu un w17) := HBd.out _ hw1
    clear hw1 hH HBd HU1 Wd
    have b0 := blkCell HB.out.s 0 _ rfl
    have b1 := blkCell HB.out.s 1 _ rfl
    have b2 := blkCell HB.out.s 2 _ rfl
    have b3 := blkCell HB.out.s 3 _ rfl
    have b4 := blkCell HB.out.s 4 _ rfl
    have b5 := blkCell HB.out.s 5 _ rfl
    have r0 := blkCell HB.out.r2 0 _ rfl
    have r1 := blkCell HB.out.r2 1 _ rfl
    have r2 := blkCell HB.out.r2 2 _ rfl
    have r3 := blkCell HB.out.r2 3 _ rfl
    have r4 := blkCell HB.out.r2 4 _ rfl
    have r5 := blkCell HB.out.r2 5 _ rfl
    have g0 := blkFree HB.out.r2 0
    have g1 := blkFree HB.out.r2 1
    have g2 := blkFree HB.out.r2 2
    have g3 := blkFree HB.out.r2 3
    have g4 := blkFree HB.out.r2 4
    have g5 := blkFree HB.out.r2 5
    have hmid : ((((((w17.setCell ⟨w.heap.size + 2, 0, none⟩ (.int .i64 σ.day)).setCell ⟨w.heap.size + 2, 1, none⟩ (.int .i64 σ.rc)).setCell ⟨w.heap.size + 2, 2, none⟩ (.int .i64 σ.sd)).setCell ⟨w.heap.size + 2, 3, none⟩ (.int .i64 σ.wa)).setCell ⟨w.heap.size + 2, 4, none⟩ (.int .i64 σ.sh)).setCell ⟨w.heap.size + 2, 5, none⟩ (.slice a σ.L.length c)).heap[w.heap.size + 3]? = some (.cells #[.int .i64 0, .int .i64 0] 36 (0, 0)) := ((six HB.out.r2 (.int .i64 σ.day) (.int .i64 σ.rc) (.int .i64 σ.sd) (.int .i64 σ.wa) (.int .i64 σ.sh) (.slice a σ.L.length c)).2.block _ (blkLt HB.out.r3) (by omega)).trans HB.out.r3
    have y0 := blkCell hmid 0 _ rfl
    have y1 := blkCell hmid 1 _ rfl
    have z0 := blkFree hmid 0
    have z1 := blkFree hmid 1
    have HZ := HB.out.retA (.int .i64 σ.day) (.int .i64 σ.rc) (.int .i64 σ.sd) (.int .i64 σ.wa) (.int .i64 σ.sh) (.slice a σ.L.length c) (.int .i64 18) (.int .i64 0)
    clear hmid
    go_wp2
    obtain ⟨k1, k2, k3⟩ := HZ
    generalize ((((((((w17.setCell ⟨w.heap.size + 2, 0, none⟩ (.int .i64 σ.day)).setCell ⟨w.heap.size + 2, 1, none⟩ (.int .i64 σ.rc)).setCell ⟨w.heap.size + 2, 2, none⟩ (.int .i64 σ.sd)).setCell ⟨w.heap.size + 2, 3, none⟩ (.int .i64 σ.wa)).setCell ⟨w.heap.size + 2, 4, none⟩ (.int .i64 σ.sh)).setCell ⟨w.heap.size + 2, 5, none⟩ (.slice a σ.L.length c)).setCell ⟨w.heap.size + 3, 0, none⟩ (.int .i64 18)).setCell ⟨w.heap.size + 3, 1, none⟩ (.int .i64 0)) = W9 at *
    have p0 := blkCell k2 0 _ rfl
    have p1 := blkCell k2 1 _ rfl
    have p2 := blkCell k2 2 _ rfl
    have p3 := blkCell k2 3 _ rfl
    have p4 := blkCell k2 4 _ rfl
    have p5 := blkCell k2 5 _ rfl
    have o0 := blkCell k3 0 _ rfl
    have o1 := blkCell k3 1 _ rfl
    refine bodyPost_ret (v := .tuple #[.agg #[.int .i64 σ.day, .int .i64 σ.rc, .int .i64 σ.sd, .int .i64 σ.wa, .int .i64 σ.sh, .slice a σ.L.length c], .agg #[.int .i64 18, .int .i64 0]]) (by simp [results, Try.results27, go_sem, p0, p1, p2, p3, p4, p5, o0, o1]) rfl ?_
    exact ⟨a, c, rfl, k1⟩
  have k1d : decide (nu ≤ u1) = false := decide_eq_false k1
  rw [if_neg k1]
  clear k1
  by_cases k2 : nu ≤ u2
  · rw [if_pos k2]
    go_enter Try.func27, Try.ntmps27
    go_upto_region 1 with fail
    rw [← hW4]
    clear hW4
    go_wp2_with fail
    clear x0 x3
    have HBd : Hid (∀ W', Below W4.heap.size W4 W' → Bx B (.slice a σ.L.length c) w σ (.slice a σ.L.length c) 2 ar lt nu un W') := fun W' hW' => HB.out.later hW'
    refine wp_region_held_drew (S := fun W' => Below W4.heap.size W4 W') (by kernel_rfl) (below_drew _) (fun hH => ?_)
    generalize W4.drew = Wd at *
    refine wpAnyH_take (i := 0) (v := .pointer (some ⟨w.heap.size + 1, 3, none⟩)) rfl (by kernel_rfl) (by kernel_rfl) (by kernel_rfl) (fun _ _ _ h => h) (Or.inl ⟨by rfl, fun w hSw => by go_simp⟩) hH ?_
    refine wpAnyH_take (i := 1) (v := .int .i64 nu) rfl (by kernel_rfl) (by kernel_rfl) (by kernel_rfl) (fun _ _ _ h => h) (Or.inl ⟨by rfl, fun w hSw => by have f0 := blkCell (HBd.out w hSw).x 3 _ rfl; go_simp⟩) hH ?_
    try simp only [Act.put, List.setIfInBounds_toArray, List.set_cons_zero, List.set_cons_succ, List.getElem_toArray, List.getElem_cons_succ, List.getElem_cons_zero]
    refine wpAnyH_take (i := 2) (v := .agg #[.int .i64 σ.day, .int .i64 σ.rc, .int .i64 σ.sd, .int .i64 σ.wa, .int .i64 σ.sh, .slice a σ.L.length c]) rfl (by kernel_rfl) (by kernel_rfl) (by kernel_rfl) (fun _ _ _ h => h) (Or.inl ⟨by rfl, fun w hSw => by have f0 := blkCell (HBd.out w hSw).s 0 _ rfl; have f1 := blkCell (HBd.out w hSw).s 1 _ rfl; have f2 := blkCell (HBd.out w hSw).s 2 _ rfl; have f3 := blkCell (HBd.out w hSw).s 3 _ rfl; have f4 := blkCell (HBd.out w hSw).s 4 _ rfl; have f5 := blkCell (HBd.out w hSw).s 5 _ rfl; go_simp⟩) hH ?_
    try simp only [Act.put, List.setIfInBounds_toArray, List.set_cons_zero, List.set_cons_succ, List.getElem_toArray, List.getElem_cons_succ, List.getElem_cons_zero]
    refine wpAnyH_take (i := 3) (v := .pointer (some ⟨w.heap.size + 1, 1, none⟩)) rfl (by kernel_rfl) (by kernel_rfl) (by kernel_rfl) (fun _ _ _ h => h) (Or.inl ⟨by rfl, fun w hSw => by go_simp⟩) hH ?_
    try simp only [Act.put, List.setIfInBounds_toArray, List.set_cons_zero, List.set_cons_succ, List.getElem_toArray, List.getElem_cons_succ, List.getElem_cons_zero]
    refine wpAnyH_take (i := 4) (v := .string ar) rfl (by kernel_rfl) (by kernel_rfl) (by kernel_rfl) (fun _ _ _ h => h) (Or.inl ⟨by rfl, fun w hSw => by have f0 := blkCell (HBd.out w hSw).x 1 _ rfl; go_simp⟩) hH ?_
    try simp only [Act.put, List.setIfInBounds_toArray, List.set_cons_zero, List.set_cons_succ, List.getElem_toArray, List.getElem_cons_succ, List.getElem_cons_zero]
    refine wpAnyH_ready (rs := [5]) (by kernel_rfl) (by simp) ?_
    refine AllReadyH.cons rfl (fun K hK => ?_) AllReadyH.nil
    go_simp
    go_at_call 43
    refine (HU0.out _ (HBd.out _ hH).st.row).mono ?_
    rintro e w07 ⟨rfl, hb0⟩
    have hw0 : Below W4.heap.size W4 w07 := chain hH hb0
    clear hb0
    refine hK.out _ _ hw0 (fun _ => ?_)
    clear hK K
    try simp only [Act.put, List.setIfInBounds_toArray, List.set_cons_zero, List.set_cons_succ, List.getElem_toArray, List.getElem_cons_succ, List.getElem_cons_zero]
    refine wpAnyH_take (i := 6) (v := .bool true) rfl (by kernel_rfl) (by kernel_rfl) (by kernel_rfl) (fun _ _ _ h => h) (Or.inl ⟨by rfl, fun w hSw => by go_simp⟩) hw0 ?_
    try simp only [Act.put, List.setIfInBounds_toArray, List.set_cons_zero, List.set_cons_succ, List.getElem_toArray, List.getElem_cons_succ, List.getElem_cons_zero]
    refine wpAnyH_done (by kernel_rfl) ?_ _
    replace HB : Hid (Bx B (.slice a σ.L.length c) w σ (.slice a σ.L.length c) 2 ar lt nu un w07) := HBd.out _ hw0
    clear hw0 hH HBd HU0 Wd
    go_wp2_with fail
    have HBd : Hid (∀ W', Below w07.heap.size w07 W' → Bx B (.slice a σ.L.length c) w σ (.slice a σ.L.length c) 2 ar lt nu un W') := fun W' hW' => HB.out.later hW'
    refine wp_region_held_drew (S := fun W' => Below w07.heap.size w07 W') (by kernel_rfl) (below_drew _) (fun hH => ?_)
    generalize w07.drew = Wd at *
    refine wpAnyH_take (i := 0) (v := .pointer (some ⟨w.heap.size + 1, 3, none⟩)) rfl (by kernel_rfl) (by kernel_rfl) (by kernel_rfl) (fun _ _ _ h => h) (Or.inl ⟨by rfl, fun w hSw => by go_simp⟩) hH ?_
    refine wpAnyH_take (i := 1) (v := .int .i64 nu) rfl (by kernel_rfl) (by kernel_rfl) (by kernel_rfl) (fun _ _ _ h => h) (Or.inl ⟨by rfl, fun w hSw => by have f0 := blkCell (HBd.out w hSw).x 3 _ rfl; go_simp⟩) hH ?_
    try simp only [Act.put, List.setIfInBounds_toArray, List.set_cons_zero, List.set_cons_succ, List.getElem_toArray, List.getElem_cons_succ, List.getElem_cons_zero]
    refine wpAnyH_take (i := 2) (v := .agg #[.int .i64 σ.day, .int .i64 σ.rc, .int .i64 σ.sd, .int .i64 σ.wa, .int .i64 σ.sh, .slice a σ.L.length c]) rfl (by kernel_rfl) (by kernel_rfl) (by kernel_rfl) (fun _ _ _ h => h) (Or.inl ⟨by rfl, fun w hSw => by have f0 := blkCell (HBd.out w hSw).s 0 _ rfl; have f1 := blkCell (HBd.out w hSw).s 1 _ rfl; have f2 := blkCell (HBd.out w hSw).s 2 _ rfl; have f3 := blkCell (HBd.out w hSw).s 3 _ rfl; have f4 := blkCell (HBd.out w hSw).s 4 _ rfl; have f5 := blkCell (HBd.out w hSw).s 5 _ rfl; go_simp⟩) hH ?_
    try simp only [Act.put, List.setIfInBounds_toArray, List.set_cons_zero, List.set_cons_succ, List.getElem_toArray, List.getElem_cons_succ, List.getElem_cons_zero]
    refine wpAnyH_take (i := 3) (v := .pointer (some ⟨w.heap.size + 1, 1, none⟩)) rfl (by kernel_rfl) (by kernel_rfl) (by kernel_rfl) (fun _ _ _ h => h) (Or.inl ⟨by rfl, fun w hSw => by go_simp⟩) hH ?_
    try simp only [Act.put, List.setIfInBounds_toArray, List.set_cons_zero, List.set_cons_succ, List.getElem_toArray, List.getElem_cons_succ, List.getElem_cons_zero]
    refine wpAnyH_take (i := 4) (v := .string ar) rfl (by kernel_rfl) (by kernel_rfl) (by kernel_rfl) (fun _ _ _ h => h) (Or.inl ⟨by rfl, fun w hSw => by have f0 := blkCell (HBd.out w hSw).x 1 _ rfl; go_simp⟩) hH ?_
    try simp only [Act.put, List.setIfInBounds_toArray, List.set_cons_zero, List.set_cons_succ, List.getElem_toArray, List.getElem_cons_succ, List.getElem_cons_zero]
    refine wpAnyH_ready (rs := [5]) (by kernel_rfl) (by simp) ?_
    refine AllReadyH.cons rfl (fun K hK => ?_) AllReadyH.nil
    go_simp
    go_at_call 43
    refine (HU1.out _ (HBd.out _ hH).st.row).mono ?_
    rintro e w17 ⟨rfl, hb1⟩
    have hw1 : Below w07.heap.size w07 w17 := chain hH hb1
    clear hb1
    refine hK.out _ _ hw1 (fun _ => ?_)
    clear hK K
    try simp only [Act.put, List.setIfInBounds_toArray, List.set_cons_zero, List.set_cons_succ, List.getElem_toArray, List.getElem_cons_succ, List.getElem_cons_zero]
    refine wpAnyH_take (i := 6) (v := .bool false) rfl (by kernel_rfl) (by kernel_rfl) (by kernel_rfl) (fun _ _ _ h => h) (Or.inl ⟨by rfl, fun w hSw => by go_simp⟩) hw1 ?_
    try simp only [Act.put, List.setIfInBounds_toArray, List.set_cons_zero, List.set_cons_succ, List.getElem_toArray, List.getElem_cons_succ, List.getElem_cons_zero]
    refine wpAnyH_done (by kernel_rfl) ?_ _
    replace HB : Hid (Bx B (.slice a σ.L.length c) w σ (.slice a σ.L.length c) 2 ar lt nu un w17) := HBd.out _ hw1
    clear hw1 hH HBd HU1 Wd
    go_wp2_with fail
    have HBd : Hid (∀ W', Below w17.heap.size w17 W' → Bx B (.slice a σ.L.length c) w σ (.slice a σ.L.length c) 2 ar lt nu un W') := fun W' hW' => HB.out.later hW'
    refine wp_region_held_drew (S := fun W' => Below w17.heap.size w17 W') (by kernel_rfl) (below_drew _) (fun hH => ?_)
    generalize w17.drew = Wd at *
    refine wpAnyH_take (i := 0) (v := .pointer (some ⟨w.heap.size + 1, 3, none⟩)) rfl (by kernel_rfl) (by kernel_rfl) (by kernel_rfl) (fun _ _ _ h => h) (Or.inl ⟨by rfl, fun w hSw => by go_simp⟩) hH ?_
    refine wpAnyH_take (i := 1) (v := .int .i64 nu) rfl (by kernel_rfl) (by kernel_rfl) (by kernel_rfl) (fun _ _ _ h => h) (Or.inl ⟨by rfl, fun w hSw => by have f0 := blkCell (HBd.out w hSw).x 3 _ rfl; go_simp⟩) hH ?_
    try simp only [Act.put, List.setIfInBounds_toArray, List.set_cons_zero, List.set_cons_succ, List.getElem_toArray, List.getElem_cons_succ, List.getElem_cons_zero]
    refine wpAnyH_take (i := 2) (v := .agg #[.int .i64 σ.day, .int .i64 σ.rc, .int .i64 σ.sd, .int .i64 σ.wa, .int .i64 σ.sh, .slice a σ.L.length c]) rfl (by kernel_rfl) (by kernel_rfl) (by kernel_rfl) (fun _ _ _ h => h) (Or.inl ⟨by rfl, fun w hSw => by have f0 := blkCell (HBd.out w hSw).s 0 _ rfl; have f1 := blkCell (HBd.out w hSw).s 1 _ rfl; have f2 := blkCell (HBd.out w hSw).s 2 _ rfl; have f3 := blkCell (HBd.out w hSw).s 3 _ rfl; have f4 := blkCell (HBd.out w hSw).s 4 _ rfl; have f5 := blkCell (HBd.out w hSw).s 5 _ rfl; go_simp⟩) hH ?_
    try simp only [Act.put, List.setIfInBounds_toArray, List.set_cons_zero, List.set_cons_succ, List.getElem_toArray, List.getElem_cons_succ, List.getElem_cons_zero]
    refine wpAnyH_take (i := 3) (v := .pointer (some ⟨w.heap.size + 1, 1, none⟩)) rfl (by kernel_rfl) (by kernel_rfl) (by kernel_rfl) (fun _ _ _ h => h) (Or.inl ⟨by rfl, fun w hSw => by go_simp⟩) hH ?_
    try simp only [Act.put, List.setIfInBounds_toArray, List.set_cons_zero, List.set_cons_succ, List.getElem_toArray, List.getElem_cons_succ, List.getElem_cons_zero]
    refine wpAnyH_take (i := 4) (v := .string ar) rfl (by kernel_rfl) (by kernel_rfl) (by kernel_rfl) (fun _ _ _ h => h) (Or.inl ⟨by rfl, fun w hSw => by have f0 := blkCell (HBd.out w hSw).x 1 _ rfl; go_simp⟩) hH ?_
    try simp only [Act.put, List.setIfInBounds_toArray, List.set_cons_zero, List.set_cons_succ, List.getElem_toArray, List.getElem_cons_succ, List.getElem_cons_zero]
    refine wpAnyH_ready (rs := [5]) (by kernel_rfl) (by simp) ?_
    refine AllReadyH.cons rfl (fun K hK => ?_) AllReadyH.nil
    go_simp
    go_at_call 43
    refine (HU2.out _ (HBd.out _ hH).st.row).mono ?_
    rintro e w27 ⟨rfl, hb2⟩
    have hw2 : Below w17.heap.size w17 w27 := chain hH hb2
    clear hb2
    refine hK.out _ _ hw2 (fun _ => ?_)
    clear hK K
    try simp only [Act.put, List.setIfInBounds_toArray, List.set_cons_zero, List.set_cons_succ, List.getElem_toArray, List.getElem_cons_succ, List.getElem_cons_zero]
    refine wpAnyH_take (i := 6) (v := .bool true) rfl (by kernel_rfl) (by kernel_rfl) (by kernel_rfl) (fun _ _ _ h => h) (Or.inl ⟨by rfl, fun w hSw => by go_simp⟩) hw2 ?_
    try simp only [Act.put, List.setIfInBounds_toArray, List.set_cons_zero, List.set_cons_succ, List.getElem_toArray, List.getElem_cons_succ, List.getElem_cons_zero]
    refine wpAnyH_done (by kernel_rfl) ?_ _
    replace HB : Hid (Bx B (.slice a σ.L.length c) w σ (.slice a σ.L.length c) 2 ar lt nu un w27) := HBd.out _ hw2
    clear hw2 hH HBd HU2 Wd
    have b0 := blkCell HB.out.s 0 _ rfl
    have b1 := blkCell HB.out.s 1 _ rfl
    have b2 := blkCell HB.out.s 2 _ rfl
    have b3 := blkCell HB.out.s 3 _ rfl
    have b4 := blkCell HB.out.s 4 _ rfl
    have b5 := blkCell HB.out.s 5 _ rfl
    have r0 := blkCell HB.out.r2 0 _ rfl
    have r1 := blkCell HB.out.r2 1 _ rfl
    have r2 := blkCell HB.out.r2 2 _ rfl
    have r3 := blkCell HB.out.r2 3 _ rfl
    have r4 := blkCell HB.out.r2 4 _ rfl
    have r5 := blkCell HB.out.r2 5 _ rfl
    have g0 := blkFree HB.out.r2 0
    have g1 := blkFree HB.out.r2 1
    have g2 := blkFree HB.out.r2 2
    have g3 := blkFree HB.out.r2 3
    have g4 := blkFree HB.out.r2 4
    have g5 := blkFree HB.out.r2 5
    have hmid : ((((((w27.setCell ⟨w.heap.size + 2, 0, none⟩ (.int .i64 σ.day)).setCell ⟨w.heap.size + 2, 1, none⟩ (.int .i64 σ.rc)).setCell ⟨w.heap.size + 2, 2, none⟩ (.int .i64 σ.sd)).setCell ⟨w.heap.size + 2, 3, none⟩ (.int .i64 σ.wa)).setCell ⟨w.heap.size + 2, 4, none⟩ (.int .i64 σ.sh)).setCell ⟨w.heap.size + 2, 5, none⟩ (.slice a σ.L.length c)).heap[w.heap.size + 3]? = some (.cells #[.int .i64 0, .int .i64 0] 36 (0, 0)) := ((six HB.out.r2 (.int .i64 σ.day) (.int .i64 σ.rc) (.int .i64 σ.sd) (.int .i64 σ.wa) (.int .i64 σ.sh) (.slice a σ.L.length c)).2.block _ (blkLt HB.out.r3) (by omega)).trans HB.out.r3
    have y0 := blkCell hmid 0 _ rfl
    have y1 := blkCell hmid 1 _ rfl
    have z0 := blkFree hmid 0
    have z1 := blkFree hmid 1
    have HZ := HB.out.retA (.int .i64 σ.day) (.int .i64 σ.rc) (.int .i64 σ.sd) (.int .i64 σ.wa) (.int .i64 σ.sh) (.slice a σ.L.length c) (.int .i64 17) (.int .i64 0)
    clear hmid
    go_wp2
    obtain ⟨k1, k2, k3⟩ := HZ
    generalize ((((((((w27.setCell ⟨w.heap.size + 2, 0, none⟩ (.int .i64 σ.day)).setCell ⟨w.heap.size + 2, 1, none⟩ (.int .i64 σ.rc)).setCell ⟨w.heap.size + 2, 2, none⟩ (.int .i64 σ.sd)).setCell ⟨w.heap.size + 2, 3, none⟩ (.int .i64 σ.wa)).setCell ⟨w.heap.size + 2, 4, none⟩ (.int .i64 σ.sh)).setCell ⟨w.heap.size + 2, 5, none⟩ (.slice a σ.L.length c)).setCell ⟨w.heap.size + 3, 0, none⟩ (.int .i64 17)).setCell ⟨w.heap.size + 3, 1, none⟩ (.int .i64 0)) = W9 at *
    have p0 := blkCell k2 0 _ rfl
    have p1 := blkCell k2 1 _ rfl
    have p2 := blkCell k2 2 _ rfl
    have p3 := blkCell k2 3 _ rfl
    have p4 := blkCell k2 4 _ rfl
    have p5 := blkCell k2 5 _ rfl
    have o0 := blkCell k3 0 _ rfl
    have o1 := blkCell k3 1 _ rfl
    refine bodyPost_ret (v := .tuple #[.agg #[.int .i64 σ.day, .int .i64 σ.rc, .int .i64 σ.sd, .int .i64 σ.wa, .int .i64 σ.sh, .slice a σ.L.length c], .agg #[.int .i64 17, .int .i64 0]]) (by simp [results, Try.results27, go_sem, p0, p1, p2, p3, p4, p5, o0, o1]) rfl ?_
    exact ⟨a, c, rfl, k1⟩
  · have k2d : decide (nu ≤ u2) = false := decide_eq_false k2
    rw [if_neg k2]
    clear k2
    go_enter Try.func27, Try.ntmps27
    go_upto_region 1 with fail
    rw [← hW4]
    clear hW4
    go_wp2_with fail
    clear x0 x3
    have HBd : Hid (∀ W', Below W4.heap.size W4 W' → Bx B (.slice a σ.L.length c) w σ (.slice a σ.L.length c) 2 ar lt nu un W') := fun W' hW' => HB.out.later hW'
    refine wp_region_held_drew (S := fun W' => Below W4.heap.size W4 W') (by kernel_rfl) (below_drew _) (fun hH => ?_)
    generalize W4.drew = Wd at *
    refine wpAnyH_take (i := 0) (v := .pointer (some ⟨w.heap.size + 1, 3, none⟩)) rfl (by kernel_rfl) (by kernel_rfl) (by kernel_rfl) (fun _ _ _ h => h) (Or.inl ⟨by rfl, fun w hSw => by go_simp⟩) hH ?_
    refine wpAnyH_take (i := 1) (v := .int .i64 nu) rfl (by kernel_rfl) (by kernel_rfl) (by kernel_rfl) (fun _ _ _ h => h) (Or.inl ⟨by rfl, fun w hSw => by have f0 := blkCell (HBd.out w hSw).x 3 _ rfl; go_simp⟩) hH ?_
    try simp only [Act.put, List.setIfInBounds_toArray, List.set_cons_zero, List.set_cons_succ, List.getElem_toArray, List.getElem_cons_succ, List.getElem_cons_zero]
    refine wpAnyH_take (i := 2) (v := .agg #[.int .i64 σ.day, .int .i64 σ.rc, .int .i64 σ.sd, .int .i64 σ.wa, .int .i64 σ.sh, .slice a σ.L.length c]) rfl (by kernel_rfl) (by kernel_rfl) (by kernel_rfl) (fun _ _ _ h => h) (Or.inl ⟨by rfl, fun w hSw => by have f0 := blkCell (HBd.out w hSw).s 0 _ rfl; have f1 := blkCell (HBd.out w hSw).s 1 _ rfl; have f2 := blkCell (HBd.out w hSw).s 2 _ rfl; have f3 := blkCell (HBd.out w hSw).s 3 _ rfl; have f4 := blkCell (HBd.out w hSw).s 4 _ rfl; have f5 := blkCell (HBd.out w hSw).s 5 _ rfl; go_simp⟩) hH ?_
    try simp only [Act.put, List.setIfInBounds_toArray, List.set_cons_zero, List.set_cons_succ, List.getElem_toArray, List.getElem_cons_succ, List.getElem_cons_zero]
    refine wpAnyH_take (i := 3) (v := .pointer (some ⟨w.heap.size + 1, 1, none⟩)) rfl (by kernel_rfl) (by kernel_rfl) (by kernel_rfl) (fun _ _ _ h => h) (Or.inl ⟨by rfl, fun w hSw => by go_simp⟩) hH ?_
    try simp only [Act.put, List.setIfInBounds_toArray, List.set_cons_zero, List.set_cons_succ, List.getElem_toArray, List.getElem_cons_succ, List.getElem_cons_zero]
    refine wpAnyH_take (i := 4) (v := .string ar) rfl (by kernel_rfl) (by kernel_rfl) (by kernel_rfl) (fun _ _ _ h => h) (Or.inl ⟨by rfl, fun w hSw => by have f0 := blkCell (HBd.out w hSw).x 1 _ rfl; go_simp⟩) hH ?_
    try simp only [Act.put, List.setIfInBounds_toArray, List.set_cons_zero, List.set_cons_succ, List.getElem_toArray, List.getElem_cons_succ, List.getElem_cons_zero]
    refine wpAnyH_ready (rs := [5]) (by kernel_rfl) (by simp) ?_
    refine AllReadyH.cons rfl (fun K hK => ?_) AllReadyH.nil
    go_simp
    go_at_call 43
    refine (HU0.out _ (HBd.out _ hH).st.row).mono ?_
    rintro e w07 ⟨rfl, hb0⟩
    have hw0 : Below W4.heap.size W4 w07 := chain hH hb0
    clear hb0
    refine hK.out _ _ hw0 (fun _ => ?_)
    clear hK K
    try simp only [Act.put, List.setIfInBounds_toArray, List.set_cons_zero, List.set_cons_succ, List.getElem_toArray, List.getElem_cons_succ, List.getElem_cons_zero]
    refine wpAnyH_take (i := 6) (v := .bool true) rfl (by kernel_rfl) (by kernel_rfl) (by kernel_rfl) (fun _ _ _ h => h) (Or.inl ⟨by rfl, fun w hSw => by go_simp⟩) hw0 ?_
    try simp only [Act.put, List.setIfInBounds_toArray, List.set_cons_zero, List.set_cons_succ, List.getElem_toArray, List.getElem_cons_succ, List.getElem_cons_zero]
    refine wpAnyH_done (by kernel_rfl) ?_ _
    replace HB : Hid (Bx B (.slice a σ.L.length c) w σ (.slice a σ.L.length c) 2 ar lt nu un w07) := HBd.out _ hw0
    clear hw0 hH HBd HU0 Wd
    go_wp2_with fail
    have HBd : Hid (∀ W', Below w07.heap.size w07 W' → Bx B (.slice a σ.L.length c) w σ (.slice a σ.L.length c) 2 ar lt nu un W') := fun W' hW' => HB.out.later hW'
    refine wp_region_held_drew (S := fun W' => Below w07.heap.size w07 W') (by kernel_rfl) (below_drew _) (fun hH => ?_)
    generalize w07.drew = Wd at *
    refine wpAnyH_take (i := 0) (v := .pointer (some ⟨w.heap.size + 1, 3, none⟩)) rfl (by kernel_rfl) (by kernel_rfl) (by kernel_rfl) (fun _ _ _ h => h) (Or.inl ⟨by rfl, fun w hSw => by go_simp⟩) hH ?_
    refine wpAnyH_take (i := 1) (v := .int .i64 nu) rfl (by kernel_rfl) (by kernel_rfl) (by kernel_rfl) (fun _ _ _ h => h) (Or.inl ⟨by rfl, fun w hSw => by have f0 := blkCell (HBd.out w hSw).x 3 _ rfl; go_simp⟩) hH ?_
    try simp only [Act.put, List.setIfInBounds_toArray, List.set_cons_zero, List.set_cons_succ, List.getElem_toArray, List.getElem_cons_succ, List.getElem_cons_zero]
    refine wpAnyH_take (i := 2) (v := .agg #[.int .i64 σ.day, .int .i64 σ.rc, .int .i64 σ.sd, .int .i64 σ.wa, .int .i64 σ.sh, .slice a σ.L.length c]) rfl (by kernel_rfl) (by kernel_rfl) (by kernel_rfl) (fun _ _ _ h => h) (Or.inl ⟨by rfl, fun w hSw => by have f0 := blkCell (HBd.out w hSw).s 0 _ rfl; have f1 := blkCell (HBd.out w hSw).s 1 _ rfl; have f2 := blkCell (HBd.out w hSw).s 2 _ rfl; have f3 := blkCell (HBd.out w hSw).s 3 _ rfl; have f4 := blkCell (HBd.out w hSw).s 4 _ rfl; have f5 := blkCell (HBd.out w hSw).s 5 _ rfl; go_simp⟩) hH ?_
    try simp only [Act.put, List.setIfInBounds_toArray, List.set_cons_zero, List.set_cons_succ, List.getElem_toArray, List.getElem_cons_succ, List.getElem_cons_zero]
    refine wpAnyH_take (i := 3) (v := .pointer (some ⟨w.heap.size + 1, 1, none⟩)) rfl (by kernel_rfl) (by kernel_rfl) (by kernel_rfl) (fun _ _ _ h => h) (Or.inl ⟨by rfl, fun w hSw => by go_simp⟩) hH ?_
    try simp only [Act.put, List.setIfInBounds_toArray, List.set_cons_zero, List.set_cons_succ, List.getElem_toArray, List.getElem_cons_succ, List.getElem_cons_zero]
    refine wpAnyH_take (i := 4) (v := .string ar) rfl (by kernel_rfl) (by kernel_rfl) (by kernel_rfl) (fun _ _ _ h => h) (Or.inl ⟨by rfl, fun w hSw => by have f0 := blkCell (HBd.out w hSw).x 1 _ rfl; go_simp⟩) hH ?_
    try simp only [Act.put, List.setIfInBounds_toArray, List.set_cons_zero, List.set_cons_succ, List.getElem_toArray, List.getElem_cons_succ, List.getElem_cons_zero]
    refine wpAnyH_ready (rs := [5]) (by kernel_rfl) (by simp) ?_
    refine AllReadyH.cons rfl (fun K hK => ?_) AllReadyH.nil
    go_simp
    go_at_call 43
    refine (HU1.out _ (HBd.out _ hH).st.row).mono ?_
    rintro e w17 ⟨rfl, hb1⟩
    have hw1 : Below w07.heap.size w07 w17 := chain hH hb1
    clear hb1
    refine hK.out _ _ hw1 (fun _ => ?_)
    clear hK K
    try simp only [Act.put, List.setIfInBounds_toArray, List.set_cons_zero, List.set_cons_succ, List.getElem_toArray, List.getElem_cons_succ, List.getElem_cons_zero]
    refine wpAnyH_take (i := 6) (v := .bool false) rfl (by kernel_rfl) (by kernel_rfl) (by kernel_rfl) (fun _ _ _ h => h) (Or.inl ⟨by rfl, fun w hSw => by go_simp⟩) hw1 ?_
    try simp only [Act.put, List.setIfInBounds_toArray, List.set_cons_zero, List.set_cons_succ, List.getElem_toArray, List.getElem_cons_succ, List.getElem_cons_zero]
    refine wpAnyH_done (by kernel_rfl) ?_ _
    replace HB : Hid (Bx B (.slice a σ.L.length c) w σ (.slice a σ.L.length c) 2 ar lt nu un w17) := HBd.out _ hw1
    clear hw1 hH HBd HU1 Wd
    go_wp2_with fail
    have HBd : Hid (∀ W', Below w17.heap.size w17 W' → Bx B (.slice a σ.L.length c) w σ (.slice a σ.L.length c) 2 ar lt nu un W') := fun W' hW' => HB.out.later hW'
    refine wp_region_held_drew (S := fun W' => Below w17.heap.size w17 W') (by kernel_rfl) (below_drew _) (fun hH => ?_)
    generalize w17.drew = Wd at *
    refine wpAnyH_take (i := 0) (v := .pointer (some ⟨w.heap.size + 1, 3, none⟩)) rfl (by kernel_rfl) (by kernel_rfl) (by kernel_rfl) (fun _ _ _ h => h) (Or.inl ⟨by rfl, fun w hSw => by go_simp⟩) hH ?_
    refine wpAnyH_take (i := 1) (v := .int .i64 nu) rfl (by kernel_rfl) (by kernel_rfl) (by kernel_rfl) (fun _ _ _ h => h) (Or.inl ⟨by rfl, fun w hSw => by have f0 := blkCell (HBd.out w hSw).x 3 _ rfl; go_simp⟩) hH ?_
    try simp only [Act.put, List.setIfInBounds_toArray, List.set_cons_zero, List.set_cons_succ, List.getElem_toArray, List.getElem_cons_succ, List.getElem_cons_zero]
    refine wpAnyH_take (i := 2) (v := .agg #[.int .i64 σ.day, .int .i64 σ.rc, .int .i64 σ.sd, .int .i64 σ.wa, .int .i64 σ.sh, .slice a σ.L.length c]) rfl (by kernel_rfl) (by kernel_rfl) (by kernel_rfl) (fun _ _ _ h => h) (Or.inl ⟨by rfl, fun w hSw => by have f0 := blkCell (HBd.out w hSw).s 0 _ rfl; have f1 := blkCell (HBd.out w hSw).s 1 _ rfl; have f2 := blkCell (HBd.out w hSw).s 2 _ rfl; have f3 := blkCell (HBd.out w hSw).s 3 _ rfl; have f4 := blkCell (HBd.out w hSw).s 4 _ rfl; have f5 := blkCell (HBd.out w hSw).s 5 _ rfl; go_simp⟩) hH ?_
    try simp only [Act.put, List.setIfInBounds_toArray, List.set_cons_zero, List.set_cons_succ, List.getElem_toArray, List.getElem_cons_succ, List.getElem_cons_zero]
    refine wpAnyH_take (i := 3) (v := .pointer (some ⟨w.heap.size + 1, 1, none⟩)) rfl (by kernel_rfl) (by kernel_rfl) (by kernel_rfl) (fun _ _ _ h => h) (Or.inl ⟨by rfl, fun w hSw => by go_simp⟩) hH ?_
    try simp only [Act.put, List.setIfInBounds_toArray, List.set_cons_zero, List.set_cons_succ, List.getElem_toArray, List.getElem_cons_succ, List.getElem_cons_zero]
    refine wpAnyH_take (i := 4) (v := .string ar) rfl (by kernel_rfl) (by kernel_rfl) (by kernel_rfl) (fun _ _ _ h => h) (Or.inl ⟨by rfl, fun w hSw => by have f0 := blkCell (HBd.out w hSw).x 1 _ rfl; go_simp⟩) hH ?_
    try simp only [Act.put, List.setIfInBounds_toArray, List.set_cons_zero, List.set_cons_succ, List.getElem_toArray, List.getElem_cons_succ, List.getElem_cons_zero]
    refine wpAnyH_ready (rs := [5]) (by kernel_rfl) (by simp) ?_
    refine AllReadyH.cons rfl (fun K hK => ?_) AllReadyH.nil
    go_simp
    go_at_call 43
    refine (HU2.out _ (HBd.out _ hH).st.row).mono ?_
    rintro e w27 ⟨rfl, hb2⟩
    have hw2 : Below w17.heap.size w17 w27 := chain hH hb2
    clear hb2
    refine hK.out _ _ hw2 (fun _ => ?_)
    clear hK K
    try simp only [Act.put, List.setIfInBounds_toArray, List.set_cons_zero, List.set_cons_succ, List.getElem_toArray, List.getElem_cons_succ, List.getElem_cons_zero]
    refine wpAnyH_take (i := 6) (v := .bool false) rfl (by kernel_rfl) (by kernel_rfl) (by kernel_rfl) (fun _ _ _ h => h) (Or.inl ⟨by rfl, fun w hSw => by go_simp⟩) hw2 ?_
    try simp only [Act.put, List.setIfInBounds_toArray, List.set_cons_zero, List.set_cons_succ, List.getElem_toArray, List.getElem_cons_succ, List.getElem_cons_zero]
    refine wpAnyH_done (by kernel_rfl) ?_ _
    replace HB : Hid (Bx B (.slice a σ.L.length c) w σ (.slice a σ.L.length c) 2 ar lt nu un w27) := HBd.out _ hw2
    clear hw2 hH HBd HU2 Wd
    have b0 := blkCell HB.out.s 0 _ rfl
    have b1 := blkCell HB.out.s 1 _ rfl
    have b2 := blkCell HB.out.s 2 _ rfl
    have b3 := blkCell HB.out.s 3 _ rfl
    have b4 := blkCell HB.out.s 4 _ rfl
    have b5 := blkCell HB.out.s 5 _ rfl
    have r0 := blkCell HB.out.r2 0 _ rfl
    have r1 := blkCell HB.out.r2 1 _ rfl
    have r2 := blkCell HB.out.r2 2 _ rfl
    have r3 := blkCell HB.out.r2 3 _ rfl
    have r4 := blkCell HB.out.r2 4 _ rfl
    have r5 := blkCell HB.out.r2 5 _ rfl
    have g0 := blkFree HB.out.r2 0
    have g1 := blkFree HB.out.r2 1
    have g2 := blkFree HB.out.r2 2
    have g3 := blkFree HB.out.r2 3
    have g4 := blkFree HB.out.r2 4
    have g5 := blkFree HB.out.r2 5
    have hmid : ((((((w27.setCell ⟨w.heap.size + 2, 0, none⟩ (.int .i64 σ.day)).setCell ⟨w.heap.size + 2, 1, none⟩ (.int .i64 σ.rc)).setCell ⟨w.heap.size + 2, 2, none⟩ (.int .i64 σ.sd)).setCell ⟨w.heap.size + 2, 3, none⟩ (.int .i64 σ.wa)).setCell ⟨w.heap.size + 2, 4, none⟩ (.int .i64 σ.sh)).setCell ⟨w.heap.size + 2, 5, none⟩ (.slice a σ.L.length c)).heap[w.heap.size + 3]? = some (.cells #[.int .i64 0, .int .i64 0] 36 (0, 0)) := ((six HB.out.r2 (.int .i64 σ.day) (.int .i64 σ.rc) (.int .i64 σ.sd) (.int .i64 σ.wa) (.int .i64 σ.sh) (.slice a σ.L.length c)).2.block _ (blkLt HB.out.r3) (by omega)).trans HB.out.r3
    have y0 := blkCell hmid 0 _ rfl
    have y1 := blkCell hmid 1 _ rfl
    have z0 := blkFree hmid 0
    have z1 := blkFree hmid 1
    have HZ := HB.out.retA (.int .i64 σ.day) (.int .i64 σ.rc) (.int .i64 σ.sd) (.int .i64 σ.wa) (.int .i64 σ.sh) (.slice a σ.L.length c) (.int .i64 19) (.int .i64 0)
    clear hmid
    go_wp2
    obtain ⟨k1, k2, k3⟩ := HZ
    generalize ((((((((w27.setCell ⟨w.heap.size + 2, 0, none⟩ (.int .i64 σ.day)).setCell ⟨w.heap.size + 2, 1, none⟩ (.int .i64 σ.rc)).setCell ⟨w.heap.size + 2, 2, none⟩ (.int .i64 σ.sd)).setCell ⟨w.heap.size + 2, 3, none⟩ (.int .i64 σ.wa)).setCell ⟨w.heap.size + 2, 4, none⟩ (.int .i64 σ.sh)).setCell ⟨w.heap.size + 2, 5, none⟩ (.slice a σ.L.length c)).setCell ⟨w.heap.size + 3, 0, none⟩ (.int .i64 19)).setCell ⟨w.heap.size + 3, 1, none⟩ (.int .i64 0)) = W9 at *
    have p0 := blkCell k2 0 _ rfl
    have p1 := blkCell k2 1 _ rfl
    have p2 := blkCell k2 2 _ rfl
    have p3 := blkCell k2 3 _ rfl
    have p4 := blkCell k2 4 _ rfl
    have p5 := blkCell k2 5 _ rfl
    have o0 := blkCell k3 0 _ rfl
    have o1 := blkCell k3 1 _ rfl
    refine bodyPost_ret (v := .tuple #[.agg #[.int .i64 σ.day, .int .i64 σ.rc, .int .i64 σ.sd, .int .i64 σ.wa, .int .i64 σ.sh, .slice a σ.L.length c], .agg #[.int .i64 19, .int .i64 0]]) (by simp [results, Try.results27, go_sem, p0, p1, p2, p3, p4, p5, o0, o1]) rfl ?_
    exact ⟨a, c, rfl, k1⟩
theorem sAct_any {B : Nat} (σ : StS) (a : Option Addr) (c : Nat) (ix : Nat) (hix : ix ≤ 1000) (hok : StOK ix σ) (x : RSk) (har : x.ar.size ≤ 2000000) (w : World) (hB : B ≤ w.heap.size) (hr : w.ownsRow B 38 5 (.slice a σ.L.length c) σ.L.length (slCells σ.L)) :
    Calls Try.prog 27 #[.agg (stkV σ (.slice a σ.L.length c)), .agg #[.int .i64 x.kd, .string x.ar, .int .i64 x.lt, .int .i64 x.nu, .int .i64 x.un]] w (ActP B (.slice a σ.L.length c) w (actE σ x) (actN σ x) (actS σ x)) := by
  obtain ⟨kd, ar, lt, nu, un⟩ := x
  unfold actE actN actS
  dsimp only
  by_cases h1 : kd = 1
  · subst h1; simp only; exact sAct1 σ a c ix hix hok ar lt nu un har w hB hr
  simp only [if_neg h1]
  by_cases h2 : kd = 2
  · subst h2; simp only; exact sAct2 σ a c ix hix hok ar lt nu un har w hB hr
  simp only [if_neg h2]
  by_cases h3 : kd = 3
  · subst h3; simp only; exact sAct3 σ a c ix hix hok ar lt nu un har w hB hr
  simp only [if_neg h3]
  by_cases h4 : 4 ≤ kd ∧ kd ≤ 7
  · simp only [if_pos h4]; exact sAct4 σ a c ix hix hok kd h4 ar lt nu un har w hB hr
  · simp only [if_neg h4]; exact sAct0 σ a c ix hix hok kd h1 h2 h3 h4 ar lt nu un har w hB hr
end Go.Proofs.Ytdhdecbdcfdmeaa

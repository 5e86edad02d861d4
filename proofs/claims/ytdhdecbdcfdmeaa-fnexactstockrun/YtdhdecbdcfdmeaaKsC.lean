/-
  The specification's l14Receive.
-/
import Derived.Test.YtdhdecbdcfdmeaaKsB
import Derived.Test.YtdhdecbdcfdmeaaRate
namespace Go.Proofs.Ytdhdecbdcfdmeaa
open Go.ChangeShapes Go.WideShapes Go.ChangeAt Go.RowKit Go.Deep
set_option linter.unusedVariables false

theorem two {W : World} {b : Nat} {t : TypeId} {u0 u1 : Value} (hb : W.heap[b]? = some (.cells #[u0, u1] t (0, 0))) (x y : Value) : ((W.setCell ⟨b, 0, none⟩ x).setCell ⟨b, 1, none⟩ y).heap[b]? = some (.cells #[x, y] t (0, 0)) ∧ Fr (fun k => k = b) W ((W.setCell ⟨b, 0, none⟩ x).setCell ⟨b, 1, none⟩ y) := by
  refine ⟨?_, ((Fr.refl (fun k => k = b) W).set (b := b) rfl _ _).set (b := b) rfl _ _⟩
  have e1 := heap_setCell_same _ _ 0 _ _ x hb
  simp only [List.setIfInBounds_toArray, List.set_cons_zero] at e1
  have e2 := heap_setCell_same _ _ 1 _ _ y e1
  simp only [List.setIfInBounds_toArray, List.set_cons_zero, List.set_cons_succ] at e2
  exact e2
/-- The boxes of a function that answers (Stock, StockObs). -/
structure Bx (B : Nat) (av : Value) (w : World) (σ : StS) (lv : Value) (kd : Int) (ar : ByteArray) (lt nu un : Int) (W : World) : Prop where
  st : StkP B av w σ lv W
  s : W.heap[w.heap.size]? = some (.cells #[.int .i64 σ.day, .int .i64 σ.rc, .int .i64 σ.sd, .int .i64 σ.wa, .int .i64 σ.sh, lv] 29 (0, 0))
  x : W.heap[w.heap.size + 1]? = some (.cells #[.int .i64 kd, .string ar, .int .i64 lt, .int .i64 nu, .int .i64 un] 34 (0, 0))
  r2 : W.heap[w.heap.size + 2]? = some (.cells #[.int .i64 0, .int .i64 0, .int .i64 0, .int .i64 0, .int .i64 0, .slice none 0 0] 29 (0, 0))
  r3 : W.heap[w.heap.size + 3]? = some (.cells #[.int .i64 0, .int .i64 0] 36 (0, 0))
theorem Bx.later {B : Nat} {av : Value} {w : World} {σ : StS} {lv : Value} {kd : Int} {ar : ByteArray} {lt nu un : Int} {W W' : World} (h : Bx B av w σ lv kd ar lt nu un W) (hb : Below W.heap.size W W') : Bx B av w σ lv kd ar lt nu un W' :=
  ⟨h.st.later hb, (hb.block _ (blkLt h.s)).trans h.s, (hb.block _ (blkLt h.x)).trans h.x, (hb.block _ (blkLt h.r2)).trans h.r2, (hb.block _ (blkLt h.r3)).trans h.r3⟩
theorem Bx.ret {B : Nat} {av : Value} {w : World} {σ : StS} {lv : Value} {kd : Int} {ar : ByteArray} {lt nu un : Int} {W F : World} (h : Bx B av w σ lv kd ar lt nu un W) (hf : Fr (fun q => q = w.heap.size + 2 ∨ q = w.heap.size + 3) W F) : StkP B av w σ lv F := by
  refine ⟨row_of h.st.row (fun q hq => hf.block q (row_lt h.st.row q hq).2 ?_), ?_, h.st.new⟩
  · rintro (e | e)
    · exact h.st.ne h.r2 (by decide) (by rw [hq, e])
    · exact h.st.ne h.r3 (by decide) (by rw [hq, e])
  · have k := h.st.fr
    exact ⟨hf.os.trans k.os, hf.tape.trans k.tape, hf.output.trans k.output, Nat.le_trans k.size hf.size, fun q hq hx => (hf.block q (Nat.lt_of_lt_of_le hq k.size) (by omega)).trans (k.block q hq hx)⟩
theorem Bx.retA {B : Nat} {av : Value} {w : World} {σ : StS} {lv : Value} {kd : Int} {ar : ByteArray} {lt nu un : Int} {W : World} (h : Bx B av w σ lv kd ar lt nu un W) (x0 x1 x2 x3 x4 x5 c n : Value) :
    StkP B av w σ lv ((((((((W.setCell ⟨w.heap.size + 2, 0, none⟩ (x0)).setCell ⟨w.heap.size + 2, 1, none⟩ (x1)).setCell ⟨w.heap.size + 2, 2, none⟩ (x2)).setCell ⟨w.heap.size + 2, 3, none⟩ (x3)).setCell ⟨w.heap.size + 2, 4, none⟩ (x4)).setCell ⟨w.heap.size + 2, 5, none⟩ (x5)).setCell ⟨w.heap.size + 3, 0, none⟩ (c)).setCell ⟨w.heap.size + 3, 1, none⟩ (n)) ∧ ((((((((W.setCell ⟨w.heap.size + 2, 0, none⟩ (x0)).setCell ⟨w.heap.size + 2, 1, none⟩ (x1)).setCell ⟨w.heap.size + 2, 2, none⟩ (x2)).setCell ⟨w.heap.size + 2, 3, none⟩ (x3)).setCell ⟨w.heap.size + 2, 4, none⟩ (x4)).setCell ⟨w.heap.size + 2, 5, none⟩ (x5)).setCell ⟨w.heap.size + 3, 0, none⟩ (c)).setCell ⟨w.heap.size + 3, 1, none⟩ (n)).heap[w.heap.size + 2]? = some (.cells #[x0, x1, x2, x3, x4, x5] 29 (0, 0)) ∧ ((((((((W.setCell ⟨w.heap.size + 2, 0, none⟩ (x0)).setCell ⟨w.heap.size + 2, 1, none⟩ (x1)).setCell ⟨w.heap.size + 2, 2, none⟩ (x2)).setCell ⟨w.heap.size + 2, 3, none⟩ (x3)).setCell ⟨w.heap.size + 2, 4, none⟩ (x4)).setCell ⟨w.heap.size + 2, 5, none⟩ (x5)).setCell ⟨w.heap.size + 3, 0, none⟩ (c)).setCell ⟨w.heap.size + 3, 1, none⟩ (n)).heap[w.heap.size + 3]? = some (.cells #[c, n] 36 (0, 0)) := by
  obtain ⟨a1, a2⟩ := six h.r2 x0 x1 x2 x3 x4 x5
  have a3 := (a2.block _ (blkLt h.r3) (by omega)).trans h.r3
  obtain ⟨b1, b2⟩ := two a3 c n
  exact ⟨h.ret ((a2.mono (fun q hq => .inl hq)).trans (b2.mono (fun q hq => .inr hq))), (b2.block _ (blkLt a1) (by omega)).trans a1, b1⟩
theorem Bx.retB {B : Nat} {av : Value} {w : World} {σ : StS} {lv : Value} {kd : Int} {ar : ByteArray} {lt nu un : Int} {W : World} (h : Bx B av w σ lv kd ar lt nu un W) (x0 x1 x2 x3 x4 x5 c n : Value) :
    StkP B av w σ lv ((((((((W.setCell ⟨w.heap.size + 3, 0, none⟩ (c)).setCell ⟨w.heap.size + 3, 1, none⟩ (n)).setCell ⟨w.heap.size + 2, 0, none⟩ (x0)).setCell ⟨w.heap.size + 2, 1, none⟩ (x1)).setCell ⟨w.heap.size + 2, 2, none⟩ (x2)).setCell ⟨w.heap.size + 2, 3, none⟩ (x3)).setCell ⟨w.heap.size + 2, 4, none⟩ (x4)).setCell ⟨w.heap.size + 2, 5, none⟩ (x5)) ∧ ((((((((W.setCell ⟨w.heap.size + 3, 0, none⟩ (c)).setCell ⟨w.heap.size + 3, 1, none⟩ (n)).setCell ⟨w.heap.size + 2, 0, none⟩ (x0)).setCell ⟨w.heap.size + 2, 1, none⟩ (x1)).setCell ⟨w.heap.size + 2, 2, none⟩ (x2)).setCell ⟨w.heap.size + 2, 3, none⟩ (x3)).setCell ⟨w.heap.size + 2, 4, none⟩ (x4)).setCell ⟨w.heap.size + 2, 5, none⟩ (x5)).heap[w.heap.size + 2]? = some (.cells #[x0, x1, x2, x3, x4, x5] 29 (0, 0)) ∧ ((((((((W.setCell ⟨w.heap.size + 3, 0, none⟩ (c)).setCell ⟨w.heap.size + 3, 1, none⟩ (n)).setCell ⟨w.heap.size + 2, 0, none⟩ (x0)).setCell ⟨w.heap.size + 2, 1, none⟩ (x1)).setCell ⟨w.heap.size + 2, 2, none⟩ (x2)).setCell ⟨w.heap.size + 2, 3, none⟩ (x3)).setCell ⟨w.heap.size + 2, 4, none⟩ (x4)).setCell ⟨w.heap.size + 2, 5, none⟩ (x5)).heap[w.heap.size + 3]? = some (.cells #[c, n] 36 (0, 0)) := by
  obtain ⟨b1, b2⟩ := two h.r3 c n
  have a3 := (b2.block _ (blkLt h.r2) (by omega)).trans h.r2
  obtain ⟨a1, a2⟩ := six a3 x0 x1 x2 x3 x4 x5
  exact ⟨h.ret ((b2.mono (fun q hq => .inr hq)).trans (a2.mono (fun q hq => .inl hq))), a1, (a2.block _ (blkLt b1) (by omega)).trans b1⟩
theorem Bx.own {B : Nat} {av : Value} {w : World} {σ σ' : StS} {lv lv' : Value} {kd : Int} {ar : ByteArray} {lt nu un : Int} {W W' : World} (h : Bx B av w σ lv kd ar lt nu un W) (hf : Fr (fun k => k = w.heap.size) W W') (hL : σ'.L = σ.L) (hlv : lv' = lv) (hs : W'.heap[w.heap.size]? = some (.cells #[.int .i64 σ'.day, .int .i64 σ'.rc, .int .i64 σ'.sd, .int .i64 σ'.wa, .int .i64 σ'.sh, lv'] 29 (0, 0))) : Bx B av w σ' lv' kd ar lt nu un W' := by
  subst hlv
  have k := h.st.aside h.s (by decide) hf (Nat.le_refl _)
  refine ⟨⟨by rw [hL]; exact k.row, k.fr, k.new⟩, hs, (hf.block _ (blkLt h.x) (by omega)).trans h.x, (hf.block _ (blkLt h.r2) (by omega)).trans h.r2, (hf.block _ (blkLt h.r3) (by omega)).trans h.r3⟩
theorem Bx.setDay {B : Nat} {av : Value} {w : World} {σ : StS} {lv : Value} {kd : Int} {ar : ByteArray} {lt nu un : Int} {W : World} (h : Bx B av w σ lv kd ar lt nu un W) (x : Int) : Bx B av w { σ with day := x } lv kd ar lt nu un (W.setCell ⟨w.heap.size, 0, none⟩ (.int .i64 x)) :=
  h.own (frSet _ _ _ _) rfl rfl (heap_setCell_same _ _ _ _ _ _ h.s)
theorem Bx.setRc {B : Nat} {av : Value} {w : World} {σ : StS} {lv : Value} {kd : Int} {ar : ByteArray} {lt nu un : Int} {W : World} (h : Bx B av w σ lv kd ar lt nu un W) (x : Int) : Bx B av w { σ with rc := x } lv kd ar lt nu un (W.setCell ⟨w.heap.size, 1, none⟩ (.int .i64 x)) :=
  h.own (frSet _ _ _ _) rfl rfl (heap_setCell_same _ _ _ _ _ _ h.s)
theorem Bx.setWa {B : Nat} {av : Value} {w : World} {σ : StS} {lv : Value} {kd : Int} {ar : ByteArray} {lt nu un : Int} {W : World} (h : Bx B av w σ lv kd ar lt nu un W) (x : Int) : Bx B av w { σ with wa := x } lv kd ar lt nu un (W.setCell ⟨w.heap.size, 3, none⟩ (.int .i64 x)) :=
  h.own (frSet _ _ _ _) rfl rfl (heap_setCell_same _ _ _ _ _ _ h.s)
theorem Bx.setSh {B : Nat} {av : Value} {w : World} {σ : StS} {lv : Value} {kd : Int} {ar : ByteArray} {lt nu un : Int} {W : World} (h : Bx B av w σ lv kd ar lt nu un W) (x : Int) : Bx B av w { σ with sh := x } lv kd ar lt nu un (W.setCell ⟨w.heap.size, 4, none⟩ (.int .i64 x)) :=
  h.own (frSet _ _ _ _) rfl rfl (heap_setCell_same _ _ _ _ _ _ h.s)
/-- The lots are another row, and the box of the stock has it. -/
theorem Bx.turn {B : Nat} {av : Value} {w : World} {σ : StS} {lv : Value} {kd : Int} {ar : ByteArray} {lt nu un : Int} {W w9 : World} {L2 : List RSl} {lv2 : Value} (h : Bx B av w σ lv kd ar lt nu un W) (ho : w9.ownsRow B 38 5 lv2 L2.length (slCells L2)) (hf : Fr (fun q => lv.ownBlock = some q) W w9) (hat : ∀ q, lv2.ownBlock = some q → lv.ownBlock = some q ∨ W.heap.size ≤ q) :
    Bx B av w { σ with L := L2 } lv2 kd ar lt nu un (w9.setCell ⟨w.heap.size, 5, none⟩ lv2) ∧ w9.cell? ⟨w.heap.size, 5, none⟩ = some lv ∧ w9.frozen? ⟨w.heap.size, 5, none⟩ = false := by
  have hs := (hf.block _ (blkLt h.s) (h.st.ne h.s (by decide))).trans h.s
  have hx := (hf.block _ (blkLt h.x) (h.st.ne h.x (by decide))).trans h.x
  have h2 := (hf.block _ (blkLt h.r2) (h.st.ne h.r2 (by decide))).trans h.r2
  have h3 := (hf.block _ (blkLt h.r3) (h.st.ne h.r3 (by decide))).trans h.r3
  have e5 := heap_setCell_same _ _ 5 _ _ lv2 hs
  simp only [List.setIfInBounds_toArray, List.set_cons_zero, List.set_cons_succ] at e5
  have hk : ∀ q, q ≠ w.heap.size → (w9.setCell ⟨w.heap.size, 5, none⟩ lv2).heap[q]? = w9.heap[q]? := fun q hq => Below.heap_setCell _ _ _ _ hq
  have hfr : Fr (fun q => av.ownBlock = some q) w w9 := by
    have k := h.st.fr
    refine ⟨hf.os.trans k.os, hf.tape.trans k.tape, hf.output.trans k.output, Nat.le_trans k.size hf.size, fun q hq hx => (hf.block q (Nat.lt_of_lt_of_le hq k.size) (fun e => ?_)).trans (k.block q hq hx)⟩
    rcases h.st.new q e with z | z
    · exact hx z
    · omega
  refine ⟨⟨⟨row_of ho (fun q hq => hk q (fun e => ?_)), hfr.setNew (Nat.le_refl _) _ _, fun q hq => ?_⟩, e5, (hk _ (by omega)).trans hx, (hk _ (by omega)).trans h2, (hk _ (by omega)).trans h3⟩, blkCell hs 5 _ rfl, blkFree hs 5⟩
  · obtain ⟨cur, hc⟩ := row_type ho hq
    rw [e, hs] at hc
    simp at hc
  · rcases hat q hq with z | z
    · exact h.st.new q z
    · have := h.st.fr.size
      exact .inr (by omega)
theorem sRcv {B : Nat} {w : World} {σ : StS} {a : Option Addr} {c : Nat} {kd : Int} {ar : ByteArray} {lt nu un : Int} {W w9 : World} {g1 cp1 : Nat} (h : Bx B (.slice a σ.L.length c) w σ (.slice a σ.L.length c) kd ar lt nu un W)
    (ho : w9.ownsRow B 38 5 (.slice (some ⟨g1, 0, none⟩) (σ.L.length + 1) cp1) (σ.L.length + 1) (slCells σ.L ++ [.string ar, .int .i64 lt, .int .i64 nu, .int .i64 un, .bool false])) (hg : W.grownBy w9 (Value.ownBlock (.slice a σ.L.length c))) (hat : Value.ownBlock (.slice a σ.L.length c) = some g1 ∨ g1 = W.heap.size) :
    Bx B (.slice a σ.L.length c) w { σ with L := σ.L ++ [⟨ar, lt, nu, un, false⟩] } (.slice (some ⟨g1, 0, none⟩) (σ.L.length + 1) cp1) kd ar lt nu un (w9.setCell ⟨w.heap.size, 5, none⟩ (.slice (some ⟨g1, 0, none⟩) (σ.L.length + 1) cp1)) ∧ w9.cell? ⟨w.heap.size, 5, none⟩ = some (.slice a σ.L.length c) ∧ w9.frozen? ⟨w.heap.size, 5, none⟩ = false := by
  refine h.turn (L2 := σ.L ++ [⟨ar, lt, nu, un, false⟩]) ?_ (fr_grown hg) (fun q hq => ?_)
  · rw [List.length_append, slCells_append]; exact ho
  · have hq2 : g1 = q := by simpa [Value.ownBlock] using hq
    rw [← hq2]
    exact hat.imp id (fun r => by omega)
/-- What an act of the specification answers. -/
def ActP (B : Nat) (av : Value) (w : World) (c n : Int) (σ' : StS) (e : Ending) (w' : World) : Prop := ∃ va vc, e = .returned (.tuple #[.agg (stkV σ' (.slice va σ'.L.length vc)), .agg #[.int .i64 c, .int .i64 n]]) ∧ StkP B av w σ' (.slice va σ'.L.length vc) w'
theorem bxStart {B : Nat} {w : World} {σ : StS} {lv : Value} (hr : w.ownsRow B 38 5 lv σ.L.length (slCells σ.L)) (kd : Int) (ar : ByteArray) (lt nu un : Int) : Bx B lv w σ lv kd ar lt nu un ((((w.alloc (Obj.cells #[.int .i64 σ.day, .int .i64 σ.rc, .int .i64 σ.sd, .int .i64 σ.wa, .int .i64 σ.sh, lv] 29)).alloc (Obj.cells #[.int .i64 kd, .string ar, .int .i64 lt, .int .i64 nu, .int .i64 un] 34)).alloc (Obj.cells #[.int .i64 0, .int .i64 0, .int .i64 0, .int .i64 0, .int .i64 0, .slice none 0 0] 29)).alloc (Obj.cells #[.int .i64 0, .int .i64 0] 36)) := by
  obtain ⟨k1, k2, k3⟩ := heapThree w (Obj.cells #[.int .i64 σ.day, .int .i64 σ.rc, .int .i64 σ.sd, .int .i64 σ.wa, .int .i64 σ.sh, lv] 29) (Obj.cells #[.int .i64 kd, .string ar, .int .i64 lt, .int .i64 nu, .int .i64 un] 34) (Obj.cells #[.int .i64 0, .int .i64 0, .int .i64 0, .int .i64 0, .int .i64 0, .slice none 0 0] 29)
  have hb : Below w.heap.size w ((((w.alloc (Obj.cells #[.int .i64 σ.day, .int .i64 σ.rc, .int .i64 σ.sd, .int .i64 σ.wa, .int .i64 σ.sh, lv] 29)).alloc (Obj.cells #[.int .i64 kd, .string ar, .int .i64 lt, .int .i64 nu, .int .i64 un] 34)).alloc (Obj.cells #[.int .i64 0, .int .i64 0, .int .i64 0, .int .i64 0, .int .i64 0, .slice none 0 0] 29)).alloc (Obj.cells #[.int .i64 0, .int .i64 0] 36)) := chain (chain (chain (below_alloc _ _) (below_alloc _ _)) (below_alloc _ _)) (below_alloc _ _)
  refine ⟨⟨row_of hr (fun q hq => hb.block q (row_lt hr q hq).2), Fr.of hb, fun q hq => .inl hq⟩, (Below.heap_alloc _ _ _ (by simp; omega)).trans k1, (Below.heap_alloc _ _ _ (by simp)).trans k2, (Below.heap_alloc _ _ _ (by simp)).trans k3, ?_⟩
  have := heapNew (((w.alloc (Obj.cells #[.int .i64 σ.day, .int .i64 σ.rc, .int .i64 σ.sd, .int .i64 σ.wa, .int .i64 σ.sh, lv] 29)).alloc (Obj.cells #[.int .i64 kd, .string ar, .int .i64 lt, .int .i64 nu, .int .i64 un] 34)).alloc (Obj.cells #[.int .i64 0, .int .i64 0, .int .i64 0, .int .i64 0, .int .i64 0, .slice none 0 0] 29)) (Obj.cells #[.int .i64 0, .int .i64 0] 36)
  simpa using this
set_option maxHeartbeats 16000000 in
set_option maxRecDepth 8000 in
theorem sReceive_any {B : Nat} (σ : StS) (a : Option Addr) (c : Nat) (ix : Nat) (hix : ix ≤ 1000) (hok : StOK ix σ) (kd : Int) (ar : ByteArray) (lt nu un : Int) (har : ar.size ≤ 2000000) (w : World) (hB : B ≤ w.heap.size) (hr : w.ownsRow B 38 5 (.slice a σ.L.length c) σ.L.length (slCells σ.L)) :
    Calls Try.prog 42 #[.agg (stkV σ (.slice a σ.L.length c)), .agg #[.int .i64 kd, .string ar, .int .i64 lt, .int .i64 nu, .int .i64 un]] w (ActP B (.slice a σ.L.length c) w (rcvC σ ⟨kd, ar, lt, nu, un⟩) (rcvN σ ⟨kd, ar, lt, nu, un⟩) (rcvS σ ⟨kd, ar, lt, nu, un⟩)) := by
  obtain ⟨W4, hW4⟩ : ∃ W4, W4 = ((((w.alloc (Obj.cells #[.int .i64 σ.day, .int .i64 σ.rc, .int .i64 σ.sd, .int .i64 σ.wa, .int .i64 σ.sh, .slice a σ.L.length c] 29)).alloc (Obj.cells #[.int .i64 kd, .string ar, .int .i64 lt, .int .i64 nu, .int .i64 un] 34)).alloc (Obj.cells #[.int .i64 0, .int .i64 0, .int .i64 0, .int .i64 0, .int .i64 0, .slice none 0 0] 29)).alloc (Obj.cells #[.int .i64 0, .int .i64 0] 36)) := ⟨_, rfl⟩
  have HB : Hid (Bx B (.slice a σ.L.length c) w σ (.slice a σ.L.length c) kd ar lt nu un W4) := by rw [hW4]; exact bxStart hr kd ar lt nu un
  have HNm := fun w => specName_any ar (by unfold maxLen; omega) w
  have HDj : Hid (rcvS σ ⟨kd, ar, lt, nu, un⟩ = if rcvC σ ⟨kd, ar, lt, nu, un⟩ = 0 then { σ with L := σ.L ++ [⟨ar, lt, nu, un, false⟩], rc := σ.rc + nu } else σ) := rfl
  have HDn : Hid (rcvN σ ⟨kd, ar, lt, nu, un⟩ = if rcvC σ ⟨kd, ar, lt, nu, un⟩ = 0 then nu else 0) := rfl
  have HC : Hid (rcvC σ ⟨kd, ar, lt, nu, un⟩ = if nameB ar = false then 6 else if rcvOK σ ⟨kd, ar, lt, nu, un⟩ = false then 5 else if (fdI σ.L ar lt).isSome = true then 7 else if σ.L.length = 60 then 14 else 0) := rfl
  rw [rcvOK_is] at HC
  dsimp only at HC
  have HSt : Hid (StOK ix σ) := hok
  generalize rcvC σ ⟨kd, ar, lt, nu, un⟩ = rc at *
  generalize rcvN σ ⟨kd, ar, lt, nu, un⟩ = rn at *
  generalize rcvS σ ⟨kd, ar, lt, nu, un⟩ = rs at *
  have hst : Value.agg (stkV σ (.slice a σ.L.length c)) = .agg #[.int .i64 σ.day, .int .i64 σ.rc, .int .i64 σ.sd, .int .i64 σ.wa, .int .i64 σ.sh, .slice a σ.L.length c] := rfl
  rw [hst]
  have x1 := blkCell HB.out.x 1 _ rfl
  rw [hW4] at x1
  clear hok hr hst
  go_enter Try.func42, Try.ntmps42
  go_wp2_with fail
  (first | go_at_call 60 | skip)
  rw [← hW4]
  clear hW4 x1
  refine (HNm _).mono ?_
  rintro e w1 ⟨rfl, hw1⟩
  rw [hw1]
  clear hw1 HNm w1
  have x2 := blkCell HB.out.x 2 _ rfl
  have x3 := blkCell HB.out.x 3 _ rfl
  have x4 := blkCell HB.out.x 4 _ rfl
  have s0 := blkCell HB.out.s 0 _ rfl
  cases hnm : nameB ar with
  | false =>
    rw [if_pos hnm] at HC
    have e1 := HC.out
    rw [e1, if_neg (by omega)] at HDj HDn
    subst e1
    clear HC
    have b0 := blkCell HB.out.s 0 _ rfl
    have b1 := blkCell HB.out.s 1 _ rfl
    have b2 := blkCell HB.out.s 2 _ rfl
    have b3 := blkCell HB.out.s 3 _ rfl
    have b4 := blkCell HB.out.s 4 _ rfl
    have b5 := blkCell HB.out.s 5 _ rfl
    have r0 := blkCell HB.out.r2 0 _ rfl
    have r1 := blkCell HB.out.r2 1 _ rfl
    have r2 := blkCell HB.out.r2 2 _ rfl
    have r3 := blkCell HB.out.r2 3 _ rfl
    have r4 := blkCell HB.out.r2 4 _ rfl
    have r5 := blkCell HB.out.r2 5 _ rfl
    have g0 := blkFree HB.out.r2 0
    have g1 := blkFree HB.out.r2 1
    have g2 := blkFree HB.out.r2 2
    have g3 := blkFree HB.out.r2 3
    have g4 := blkFree HB.out.r2 4
    have g5 := blkFree HB.out.r2 5
    have hmid : ((((((W4.setCell ⟨w.heap.size + 2, 0, none⟩ (.int .i64 σ.day)).setCell ⟨w.heap.size + 2, 1, none⟩ (.int .i64 σ.rc)).setCell ⟨w.heap.size + 2, 2, none⟩ (.int .i64 σ.sd)).setCell ⟨w.heap.size + 2, 3, none⟩ (.int .i64 σ.wa)).setCell ⟨w.heap.size + 2, 4, none⟩ (.int .i64 σ.sh)).setCell ⟨w.heap.size + 2, 5, none⟩ (.slice a σ.L.length c)).heap[w.heap.size + 3]? = some (.cells #[.int .i64 0, .int .i64 0] 36 (0, 0)) := ((six HB.out.r2 (.int .i64 σ.day) (.int .i64 σ.rc) (.int .i64 σ.sd) (.int .i64 σ.wa) (.int .i64 σ.sh) (.slice a σ.L.length c)).2.block _ (blkLt HB.out.r3) (by omega)).trans HB.out.r3
    have y0 := blkCell hmid 0 _ rfl
    have y1 := blkCell hmid 1 _ rfl
    have z0 := blkFree hmid 0
    have z1 := blkFree hmid 1
    have HZ := HB.out.retA (.int .i64 σ.day) (.int .i64 σ.rc) (.int .i64 σ.sd) (.int .i64 σ.wa) (.int .i64 σ.sh) (.slice a σ.L.length c) (.int .i64 6) (.int .i64 0)
    clear hmid
    go_wp2
    obtain ⟨k1, k2, k3⟩ := HZ
    generalize ((((((((W4.setCell ⟨w.heap.size + 2, 0, none⟩ (.int .i64 σ.day)).setCell ⟨w.heap.size + 2, 1, none⟩ (.int .i64 σ.rc)).setCell ⟨w.heap.size + 2, 2, none⟩ (.int .i64 σ.sd)).setCell ⟨w.heap.size + 2, 3, none⟩ (.int .i64 σ.wa)).setCell ⟨w.heap.size + 2, 4, none⟩ (.int .i64 σ.sh)).setCell ⟨w.heap.size + 2, 5, none⟩ (.slice a σ.L.length c)).setCell ⟨w.heap.size + 3, 0, none⟩ (.int .i64 6)).setCell ⟨w.heap.size + 3, 1, none⟩ (.int .i64 0)) = W9 at *
    have p0 := blkCell k2 0 _ rfl
    have p1 := blkCell k2 1 _ rfl
    have p2 := blkCell k2 2 _ rfl
    have p3 := blkCell k2 3 _ rfl
    have p4 := blkCell k2 4 _ rfl
    have p5 := blkCell k2 5 _ rfl
    have o0 := blkCell k3 0 _ rfl
    have o1 := blkCell k3 1 _ rfl
    refine bodyPost_ret (v := .tuple #[.agg #[.int .i64 σ.day, .int .i64 σ.rc, .int .i64 σ.sd, .int .i64 σ.wa, .int .i64 σ.sh, .slice a σ.L.length c], .agg #[.int .i64 6, .int .i64 0]]) (by simp [results, Try.results42, go_sem, p0, p1, p2, p3, p4, p5, o0, o1]) rfl ?_
    rw [HDn.out, HDj.out]
    exact ⟨a, c, rfl, k1⟩
  | true =>
    rw [if_neg (by rw [hnm]; simp)] at HC
    have HIn := fun n lo hi w => in_any n lo hi w
    cases hA : inB lt 1 1000000 with
    | false =>
      rw [hA] at HC
      go_wp2_with fail
      (first | go_at_call 45 | skip)
      refine (HIn _ _ _ _).mono ?_
      rintro e w1 ⟨rfl, rfl⟩
      have HC5 : Hid (rc = 5) := by show _ = _; rw [HC.out]; simp
      clear HC
      have HC : Hid (rc = 5) := HC5.out
      clear HC5
      have e1 := HC.out
      rw [e1, if_neg (by omega)] at HDj HDn
      subst e1
      clear HC
      have b0 := blkCell HB.out.s 0 _ rfl
      have b1 := blkCell HB.out.s 1 _ rfl
      have b2 := blkCell HB.out.s 2 _ rfl
      have b3 := blkCell HB.out.s 3 _ rfl
      have b4 := blkCell HB.out.s 4 _ rfl
      have b5 := blkCell HB.out.s 5 _ rfl
      have r0 := blkCell HB.out.r2 0 _ rfl
      have r1 := blkCell HB.out.r2 1 _ rfl
      have r2 := blkCell HB.out.r2 2 _ rfl
      have r3 := blkCell HB.out.r2 3 _ rfl
      have r4 := blkCell HB.out.r2 4 _ rfl
      have r5 := blkCell HB.out.r2 5 _ rfl
      have g0 := blkFree HB.out.r2 0
      have g1 := blkFree HB.out.r2 1
      have g2 := blkFree HB.out.r2 2
      have g3 := blkFree HB.out.r2 3
      have g4 := blkFree HB.out.r2 4
      have g5 := blkFree HB.out.r2 5
      have hmid : ((((((w1.setCell ⟨w.heap.size + 2, 0, none⟩ (.int .i64 σ.day)).setCell ⟨w.heap.size + 2, 1, none⟩ (.int .i64 σ.rc)).setCell ⟨w.heap.size + 2, 2, none⟩ (.int .i64 σ.sd)).setCell ⟨w.heap.size + 2, 3, none⟩ (.int .i64 σ.wa)).setCell ⟨w.heap.size + 2, 4, none⟩ (.int .i64 σ.sh)).setCell ⟨w.heap.size + 2, 5, none⟩ (.slice a σ.L.length c)).heap[w.heap.size + 3]? = some (.cells #[.int .i64 0, .int .i64 0] 36 (0, 0)) := ((six HB.out.r2 (.int .i64 σ.day) (.int .i64 σ.rc) (.int .i64 σ.sd) (.int .i64 σ.wa) (.int .i64 σ.sh) (.slice a σ.L.length c)).2.block _ (blkLt HB.out.r3) (by omega)).trans HB.out.r3
      have y0 := blkCell hmid 0 _ rfl
      have y1 := blkCell hmid 1 _ rfl
      have z0 := blkFree hmid 0
      have z1 := blkFree hmid 1
      have HZ := HB.out.retA (.int .i64 σ.day) (.int .i64 σ.rc) (.int .i64 σ.sd) (.int .i64 σ.wa) (.int .i64 σ.sh) (.slice a σ.L.length c) (.int .i64 5) (.int .i64 0)
      clear hmid
      go_wp2
      obtain ⟨k1, k2, k3⟩ := HZ
      generalize ((((((((w1.setCell ⟨w.heap.size + 2, 0, none⟩ (.int .i64 σ.day)).setCell ⟨w.heap.size + 2, 1, none⟩ (.int .i64 σ.rc)).setCell ⟨w.heap.size + 2, 2, none⟩ (.int .i64 σ.sd)).setCell ⟨w.heap.size + 2, 3, none⟩ (.int .i64 σ.wa)).setCell ⟨w.heap.size + 2, 4, none⟩ (.int .i64 σ.sh)).setCell ⟨w.heap.size + 2, 5, none⟩ (.slice a σ.L.length c)).setCell ⟨w.heap.size + 3, 0, none⟩ (.int .i64 5)).setCell ⟨w.heap.size + 3, 1, none⟩ (.int .i64 0)) = W9 at *
      have p0 := blkCell k2 0 _ rfl
      have p1 := blkCell k2 1 _ rfl
      have p2 := blkCell k2 2 _ rfl
      have p3 := blkCell k2 3 _ rfl
      have p4 := blkCell k2 4 _ rfl
      have p5 := blkCell k2 5 _ rfl
      have o0 := blkCell k3 0 _ rfl
      have o1 := blkCell k3 1 _ rfl
      refine bodyPost_ret (v := .tuple #[.agg #[.int .i64 σ.day, .int .i64 σ.rc, .int .i64 σ.sd, .int .i64 σ.wa, .int .i64 σ.sh, .slice a σ.L.length c], .agg #[.int .i64 5, .int .i64 0]]) (by simp [results, Try.results42, go_sem, p0, p1, p2, p3, p4, p5, o0, o1]) rfl ?_
      rw [HDn.out, HDj.out]
      exact ⟨a, c, rfl, k1⟩
    | true =>
      rw [hA] at HC
      go_wp2_with fail
      (first | go_at_call 45 | skip)
      refine (HIn _ _ _ _).mono ?_
      rintro e w1 ⟨rfl, rfl⟩
      cases hA2 : inB nu 1 100000 with
      | false =>
        rw [hA2] at HC
        go_wp2_with fail
        (first | go_at_call 45 | skip)
        refine (HIn _ _ _ _).mono ?_
        rintro e w1 ⟨rfl, rfl⟩
        have HC5 : Hid (rc = 5) := by show _ = _; rw [HC.out]; simp
        clear HC
        have HC : Hid (rc = 5) := HC5.out
        clear HC5
        have e1 := HC.out
        rw [e1, if_neg (by omega)] at HDj HDn
        subst e1
        clear HC
        have b0 := blkCell HB.out.s 0 _ rfl
        have b1 := blkCell HB.out.s 1 _ rfl
        have b2 := blkCell HB.out.s 2 _ rfl
        have b3 := blkCell HB.out.s 3 _ rfl
        have b4 := blkCell HB.out.s 4 _ rfl
        have b5 := blkCell HB.out.s 5 _ rfl
        have r0 := blkCell HB.out.r2 0 _ rfl
        have r1 := blkCell HB.out.r2 1 _ rfl
        have r2 := blkCell HB.out.r2 2 _ rfl
        have r3 := blkCell HB.out.r2 3 _ rfl
        have r4 := blkCell HB.out.r2 4 _ rfl
        have r5 := blkCell HB.out.r2 5 _ rfl
        have g0 := blkFree HB.out.r2 0
        have g1 := blkFree HB.out.r2 1
        have g2 := blkFree HB.out.r2 2
        have g3 := blkFree HB.out.r2 3
        have g4 := blkFree HB.out.r2 4
        have g5 := blkFree HB.out.r2 5
        have hmid : ((((((w1.setCell ⟨w.heap.size + 2, 0, none⟩ (.int .i64 σ.day)).setCell ⟨w.heap.size + 2, 1, none⟩ (.int .i64 σ.rc)).setCell ⟨w.heap.size + 2, 2, none⟩ (.int .i64 σ.sd)).setCell ⟨w.heap.size + 2, 3, none⟩ (.int .i64 σ.wa)).setCell ⟨w.heap.size + 2, 4, none⟩ (.int .i64 σ.sh)).setCell ⟨w.heap.size + 2, 5, none⟩ (.slice a σ.L.length c)).heap[w.heap.size + 3]? = some (.cells #[.int .i64 0, .int .i64 0] 36 (0, 0)) := ((six HB.out.r2 (.int .i64 σ.day) (.int .i64 σ.rc) (.int .i64 σ.sd) (.int .i64 σ.wa) (.int .i64 σ.sh) (.slice a σ.L.length c)).2.block _ (blkLt HB.out.r3) (by omega)).trans HB.out.r3
        have y0 := blkCell hmid 0 _ rfl
        have y1 := blkCell hmid 1 _ rfl
        have z0 := blkFree hmid 0
        have z1 := blkFree hmid 1
        have HZ := HB.out.retA (.int .i64 σ.day) (.int .i64 σ.rc) (.int .i64 σ.sd) (.int .i64 σ.wa) (.int .i64 σ.sh) (.slice a σ.L.length c) (.int .i64 5) (.int .i64 0)
        clear hmid
        go_wp2
        obtain ⟨k1, k2, k3⟩ := HZ
        generalize ((((((((w1.setCell ⟨w.heap.size + 2, 0, none⟩ (.int .i64 σ.day)).setCell ⟨w.heap.size + 2, 1, none⟩ (.int .i64 σ.rc)).setCell ⟨w.heap.size + 2, 2, none⟩ (.int .i64 σ.sd)).setCell ⟨w.heap.size + 2, 3, none⟩ (.int .i64 σ.wa)).setCell ⟨w.heap.size + 2, 4, none⟩ (.int .i64 σ.sh)).setCell ⟨w.heap.size + 2, 5, none⟩ (.slice a σ.L.length c)).setCell ⟨w.heap.size + 3, 0, none⟩ (.int .i64 5)).setCell ⟨w.heap.size + 3, 1, none⟩ (.int .i64 0)) = W9 at *
        have p0 := blkCell k2 0 _ rfl
        have p1 := blkCell k2 1 _ rfl
        have p2 := blkCell k2 2 _ rfl
        have p3 := blkCell k2 3 _ rfl
        have p4 := blkCell k2 4 _ rfl
        have p5 := blkCell k2 5 _ rfl
        have o0 := blkCell k3 0 _ rfl
        have o1 := blkCell k3 1 _ rfl
        refine bodyPost_ret (v := .tuple #[.agg #[.int .i64 σ.day, .int .i64 σ.rc, .int .i64 σ.sd, .int .i64 σ.wa, .int .i64 σ.sh, .slice a σ.L.length c], .agg #[.int .i64 5, .int .i64 0]]) (by simp [results, Try.results42, go_sem, p0, p1, p2, p3, p4, p5, o0, o1]) rfl ?_
        rw [HDn.out, HDj.out]
        exact ⟨a, c, rfl, k1⟩
      | true =>
        rw [hA2] at HC
        go_wp2_with fail
        (first | go_at_call 45 | skip)
        refine (HIn _ _ _ _).mono ?_
        rintro e w1 ⟨rfl, rfl⟩
        cases hA3 : inB un σ.day 100000 with
        | false =>
          rw [hA3] at HC
          go_wp2_with fail
          (first | go_at_call 45 | skip)
          refine (HIn _ _ _ _).mono ?_
          rintro e w1 ⟨rfl, rfl⟩
          have HC5 : Hid (rc = 5) := by show _ = _; rw [HC.out]; simp
          clear HC
          have HC : Hid (rc = 5) := HC5.out
          clear HC5
          have e1 := HC.out
          rw [e1, if_neg (by omega)] at HDj HDn
          subst e1
          clear HC
          have b0 := blkCell HB.out.s 0 _ rfl
          have b1 := blkCell HB.out.s 1 _ rfl
          have b2 := blkCell HB.out.s 2 _ rfl
          have b3 := blkCell HB.out.s 3 _ rfl
          have b4 := blkCell HB.out.s 4 _ rfl
          have b5 := blkCell HB.out.s 5 _ rfl
          have r0 := blkCell HB.out.r2 0 _ rfl
          have r1 := blkCell HB.out.r2 1 _ rfl
          have r2 := blkCell HB.out.r2 2 _ rfl
          have r3 := blkCell HB.out.r2 3 _ rfl
          have r4 := blkCell HB.out.r2 4 _ rfl
          have r5 := blkCell HB.out.r2 5 _ rfl
          have g0 := blkFree HB.out.r2 0
          have g1 := blkFree HB.out.r2 1
          have g2 := blkFree HB.out.r2 2
          have g3 := blkFree HB.out.r2 3
          have g4 := blkFree HB.out.r2 4
          have g5 := blkFree HB.out.r2 5
          have hmid : ((((((w1.setCell ⟨w.heap.size + 2, 0, none⟩ (.int .i64 σ.day)).setCell ⟨w.heap.size + 2, 1, none⟩ (.int .i64 σ.rc)).setCell ⟨w.heap.size + 2, 2, none⟩ (.int .i64 σ.sd)).setCell ⟨w.heap.size + 2, 3, none⟩ (.int .i64 σ.wa)).setCell ⟨w.heap.size + 2, 4, none⟩ (.int .i64 σ.sh)).setCell ⟨w.heap.size + 2, 5, none⟩ (.slice a σ.L.length c)).heap[w.heap.size + 3]? = some (.cells #[.int .i64 0, .int .i64 0] 36 (0, 0)) := ((six HB.out.r2 (.int .i64 σ.day) (.int .i64 σ.rc) (.int .i64 σ.sd) (.int .i64 σ.wa) (.int .i64 σ.sh) (.slice a σ.L.length c)).2.block _ (blkLt HB.out.r3) (by omega)).trans HB.out.r3
          have y0 := blkCell hmid 0 _ rfl
          have y1 := blkCell hmid 1 _ rfl
          have z0 := blkFree hmid 0
          have z1 := blkFree hmid 1
          have HZ := HB.out.retA (.int .i64 σ.day) (.int .i64 σ.rc) (.int .i64 σ.sd) (.int .i64 σ.wa) (.int .i64 σ.sh) (.slice a σ.L.length c) (.int .i64 5) (.int .i64 0)
          clear hmid
          go_wp2
          obtain ⟨k1, k2, k3⟩ := HZ
          generalize ((((((((w1.setCell ⟨w.heap.size + 2, 0, none⟩ (.int .i64 σ.day)).setCell ⟨w.heap.size + 2, 1, none⟩ (.int .i64 σ.rc)).setCell ⟨w.heap.size + 2, 2, none⟩ (.int .i64 σ.sd)).setCell ⟨w.heap.size + 2, 3, none⟩ (.int .i64 σ.wa)).setCell ⟨w.heap.size + 2, 4, none⟩ (.int .i64 σ.sh)).setCell ⟨w.heap.size + 2, 5, none⟩ (.slice a σ.L.length c)).setCell ⟨w.heap.size + 3, 0, none⟩ (.int .i64 5)).setCell ⟨w.heap.size + 3, 1, none⟩ (.int .i64 0)) = W9 at *
          have p0 := blkCell k2 0 _ rfl
          have p1 := blkCell k2 1 _ rfl
          have p2 := blkCell k2 2 _ rfl
          have p3 := blkCell k2 3 _ rfl
          have p4 := blkCell k2 4 _ rfl
          have p5 := blkCell k2 5 _ rfl
          have o0 := blkCell k3 0 _ rfl
          have o1 := blkCell k3 1 _ rfl
          refine bodyPost_ret (v := .tuple #[.agg #[.int .i64 σ.day, .int .i64 σ.rc, .int .i64 σ.sd, .int .i64 σ.wa, .int .i64 σ.sh, .slice a σ.L.length c], .agg #[.int .i64 5, .int .i64 0]]) (by simp [results, Try.results42, go_sem, p0, p1, p2, p3, p4, p5, o0, o1]) rfl ?_
          rw [HDn.out, HDj.out]
          exact ⟨a, c, rfl, k1⟩
        | true =>
          rw [hA3] at HC
          rw [if_neg (by simp)] at HC
          go_wp2_with fail
          (first | go_at_call 45 | skip)
          refine (HIn _ _ _ _).mono ?_
          rintro e w1 ⟨rfl, rfl⟩
          have hnr : 1 ≤ nu ∧ nu ≤ 100000 := by unfold inB at hA2; rwa [decide_eq_true_iff] at hA2
          obtain ⟨hn1, hn2⟩ := hnr
          have s5 := blkCell HB.out.s 5 _ rfl
          have x1 := blkCell HB.out.x 1 _ rfl
          have HFd := sFind_any (B := B) a c σ.L (by have := HSt.out.len; omega) ar lt w1 HB.out.st.row
          go_wp2_with fail
          (first | go_at_call 46 | skip)
          refine HFd.mono ?_
          rintro e w2 ⟨rfl, rfl⟩
          clear HFd
          cases hf : fdI σ.L ar lt with
          | some i =>
            rw [hf, if_pos (by rfl)] at HC
            have hfv : fdV (some i) = (i : Int) := rfl
            rw [hfv]
            have hge : ¬ ((i : Int) < 0) := by omega
            have hge2 : (0 : Int) ≤ (i : Int) := by omega
            clear hfv
            have e1 := HC.out
            rw [e1, if_neg (by omega)] at HDj HDn
            subst e1
            clear HC
            have b0 := blkCell HB.out.s 0 _ rfl
            have b1 := blkCell HB.out.s 1 _ rfl
            have b2 := blkCell HB.out.s 2 _ rfl
            have b3 := blkCell HB.out.s 3 _ rfl
            have b4 := blkCell HB.out.s 4 _ rfl
            have b5 := blkCell HB.out.s 5 _ rfl
            have r0 := blkCell HB.out.r2 0 _ rfl
            have r1 := blkCell HB.out.r2 1 _ rfl
            have r2 := blkCell HB.out.r2 2 _ rfl
            have r3 := blkCell HB.out.r2 3 _ rfl
            have r4 := blkCell HB.out.r2 4 _ rfl
            have r5 := blkCell HB.out.r2 5 _ rfl
            have g0 := blkFree HB.out.r2 0
            have g1 := blkFree HB.out.r2 1
            have g2 := blkFree HB.out.r2 2
            have g3 := blkFree HB.out.r2 3
            have g4 := blkFree HB.out.r2 4
            have g5 := blkFree HB.out.r2 5
            have hmid : ((((((w1.setCell ⟨w.heap.size + 2, 0, none⟩ (.int .i64 σ.day)).setCell ⟨w.heap.size + 2, 1, none⟩ (.int .i64 σ.rc)).setCell ⟨w.heap.size + 2, 2, none⟩ (.int .i64 σ.sd)).setCell ⟨w.heap.size + 2, 3, none⟩ (.int .i64 σ.wa)).setCell ⟨w.heap.size + 2, 4, none⟩ (.int .i64 σ.sh)).setCell ⟨w.heap.size + 2, 5, none⟩ (.slice a σ.L.length c)).heap[w.heap.size + 3]? = some (.cells #[.int .i64 0, .int .i64 0] 36 (0, 0)) := ((six HB.out.r2 (.int .i64 σ.day) (.int .i64 σ.rc) (.int .i64 σ.sd) (.int .i64 σ.wa) (.int .i64 σ.sh) (.slice a σ.L.length c)).2.block _ (blkLt HB.out.r3) (by omega)).trans HB.out.r3
            have y0 := blkCell hmid 0 _ rfl
            have y1 := blkCell hmid 1 _ rfl
            have z0 := blkFree hmid 0
            have z1 := blkFree hmid 1
            have HZ := HB.out.retA (.int .i64 σ.day) (.int .i64 σ.rc) (.int .i64 σ.sd) (.int .i64 σ.wa) (.int .i64 σ.sh) (.slice a σ.L.length c) (.int .i64 7) (.int .i64 0)
            clear hmid
            go_wp2
            obtain ⟨k1, k2, k3⟩ := HZ
            generalize ((((((((w1.setCell ⟨w.heap.size + 2, 0, none⟩ (.int .i64 σ.day)).setCell ⟨w.heap.size + 2, 1, none⟩ (.int .i64 σ.rc)).setCell ⟨w.heap.size + 2, 2, none⟩ (.int .i64 σ.sd)).setCell ⟨w.heap.size + 2, 3, none⟩ (.int .i64 σ.wa)).setCell ⟨w.heap.size + 2, 4, none⟩ (.int .i64 σ.sh)).setCell ⟨w.heap.size + 2, 5, none⟩ (.slice a σ.L.length c)).setCell ⟨w.heap.size + 3, 0, none⟩ (.int .i64 7)).setCell ⟨w.heap.size + 3, 1, none⟩ (.int .i64 0)) = W9 at *
            have p0 := blkCell k2 0 _ rfl
            have p1 := blkCell k2 1 _ rfl
            have p2 := blkCell k2 2 _ rfl
            have p3 := blkCell k2 3 _ rfl
            have p4 := blkCell k2 4 _ rfl
            have p5 := blkCell k2 5 _ rfl
            have o0 := blkCell k3 0 _ rfl
            have o1 := blkCell k3 1 _ rfl
            refine bodyPost_ret (v := .tuple #[.agg #[.int .i64 σ.day, .int .i64 σ.rc, .int .i64 σ.sd, .int .i64 σ.wa, .int .i64 σ.sh, .slice a σ.L.length c], .agg #[.int .i64 7, .int .i64 0]]) (by simp [results, Try.results42, go_sem, p0, p1, p2, p3, p4, p5, o0, o1]) rfl ?_
            rw [HDn.out, HDj.out]
            exact ⟨a, c, rfl, k1⟩
          | none =>
            rw [hf, if_neg (by simp)] at HC
            have hfv : fdV (none : Option Nat) = -1 := rfl
            rw [hfv]
            clear hfv
            by_cases hF : σ.L.length = 60
            · rw [if_pos hF] at HC
              have hFb : ((σ.L.length : Int) == 60) = true := by rw [beq_iff_eq]; omega
              clear hF
              have e1 := HC.out
              rw [e1, if_neg (by omega)] at HDj HDn
              subst e1
              clear HC
              have b0 := blkCell HB.out.s 0 _ rfl
              have b1 := blkCell HB.out.s 1 _ rfl
              have b2 := blkCell HB.out.s 2 _ rfl
              have b3 := blkCell HB.out.s 3 _ rfl
              have b4 := blkCell HB.out.s 4 _ rfl
              have b5 := blkCell HB.out.s 5 _ rfl
              have r0 := blkCell HB.out.r2 0 _ rfl
              have r1 := blkCell HB.out.r2 1 _ rfl
              have r2 := blkCell HB.out.r2 2 _ rfl
              have r3 := blkCell HB.out.r2 3 _ rfl
              have r4 := blkCell HB.out.r2 4 _ rfl
              have r5 := blkCell HB.out.r2 5 _ rfl
              have g0 := blkFree HB.out.r2 0
              have g1 := blkFree HB.out.r2 1
              have g2 := blkFree HB.out.r2 2
              have g3 := blkFree HB.out.r2 3
              have g4 := blkFree HB.out.r2 4
              have g5 := blkFree HB.out.r2 5
              have hmid : ((((((w1.setCell ⟨w.heap.size + 2, 0, none⟩ (.int .i64 σ.day)).setCell ⟨w.heap.size + 2, 1, none⟩ (.int .i64 σ.rc)).setCell ⟨w.heap.size + 2, 2, none⟩ (.int .i64 σ.sd)).setCell ⟨w.heap.size + 2, 3, none⟩ (.int .i64 σ.wa)).setCell ⟨w.heap.size + 2, 4, none⟩ (.int .i64 σ.sh)).setCell ⟨w.heap.size + 2, 5, none⟩ (.slice a σ.L.length c)).heap[w.heap.size + 3]? = some (.cells #[.int .i64 0, .int .i64 0] 36 (0, 0)) := ((six HB.out.r2 (.int .i64 σ.day) (.int .i64 σ.rc) (.int .i64 σ.sd) (.int .i64 σ.wa) (.int .i64 σ.sh) (.slice a σ.L.length c)).2.block _ (blkLt HB.out.r3) (by omega)).trans HB.out.r3
              have y0 := blkCell hmid 0 _ rfl
              have y1 := blkCell hmid 1 _ rfl
              have z0 := blkFree hmid 0
              have z1 := blkFree hmid 1
              have HZ := HB.out.retA (.int .i64 σ.day) (.int .i64 σ.rc) (.int .i64 σ.sd) (.int .i64 σ.wa) (.int .i64 σ.sh) (.slice a σ.L.length c) (.int .i64 14) (.int .i64 0)
              clear hmid
              go_wp2
              obtain ⟨k1, k2, k3⟩ := HZ
              generalize ((((((((w1.setCell ⟨w.heap.size + 2, 0, none⟩ (.int .i64 σ.day)).setCell ⟨w.heap.size + 2, 1, none⟩ (.int .i64 σ.rc)).setCell ⟨w.heap.size + 2, 2, none⟩ (.int .i64 σ.sd)).setCell ⟨w.heap.size + 2, 3, none⟩ (.int .i64 σ.wa)).setCell ⟨w.heap.size + 2, 4, none⟩ (.int .i64 σ.sh)).setCell ⟨w.heap.size + 2, 5, none⟩ (.slice a σ.L.length c)).setCell ⟨w.heap.size + 3, 0, none⟩ (.int .i64 14)).setCell ⟨w.heap.size + 3, 1, none⟩ (.int .i64 0)) = W9 at *
              have p0 := blkCell k2 0 _ rfl
              have p1 := blkCell k2 1 _ rfl
              have p2 := blkCell k2 2 _ rfl
              have p3 := blkCell k2 3 _ rfl
              have p4 := blkCell k2 4 _ rfl
              have p5 := blkCell k2 5 _ rfl
              have o0 := blkCell k3 0 _ rfl
              have o1 := blkCell k3 1 _ rfl
              refine bodyPost_ret (v := .tuple #[.agg #[.int .i64 σ.day, .int .i64 σ.rc, .int .i64 σ.sd, .int .i64 σ.wa, .int .i64 σ.sh, .slice a σ.L.length c], .agg #[.int .i64 14, .int .i64 0]]) (by simp [results, Try.results42, go_sem, p0, p1, p2, p3, p4, p5, o0, o1]) rfl ?_
              rw [HDn.out, HDj.out]
              exact ⟨a, c, rfl, k1⟩
            · rw [if_neg hF] at HC
              have hFb : ((σ.L.length : Int) == 60) = false := by rw [beq_eq_false_iff_ne]; omega
              have hLl := HSt.out.len
              clear hF
              have e1 := HC.out
              rw [e1, if_pos rfl] at HDj HDn
              subst e1
              clear HC
              obtain ⟨i0, hi, hzz⟩ := Option.map_eq_some_iff.1 slInfo
              simp only [Prod.mk.injEq] at hzz
              obtain ⟨hi0, hi1, hi2⟩ := hzz
              have HA1 : Hid (Bx B (.slice a σ.L.length c) w σ (.slice a σ.L.length c) kd ar lt nu un (w1.alloc (Obj.cells #[.string ar, .int .i64 lt, .int .i64 nu, .int .i64 un, .bool false] 38)) ∧ (w1.alloc (Obj.cells #[.string ar, .int .i64 lt, .int .i64 nu, .int .i64 un, .bool false] 38)).heap[w1.heap.size]? = some (.cells #[.string ar, .int .i64 lt, .int .i64 nu, .int .i64 un, .bool false] 38 (0, 0))) := ⟨HB.out.later (below_alloc _ _), heapNew _ _⟩
              have hsz : B ≤ (w1.alloc (Obj.cells #[.string ar, .int .i64 lt, .int .i64 nu, .int .i64 un, .bool false] 38)).heap.size := by have := HB.out.st.fr.size; simp; omega
              have hrc := HSt.out.top
              have hrc0 := HSt.out.rc0.2
              have hws : IntKind.i64.wrap (σ.rc + nu) = σ.rc + nu := wrap_id _ (by omega) (by omega)
              clear HIn
              go_wp2_with (at_builtin; refine wpList_append_lies _ rfl _ _ 27 rfl B 38 i0 (.agg #[.string ⟨#[]⟩, .int .i64 0, .int .i64 0, .int .i64 0, .bool false]) 5 48 Try.underlying27 hi hi0 hi1 hi2 rfl (by decide) _ _ _ rfl HA1.out.1.st.row ⟨w1.heap.size, 0, none⟩ 1 1 [.string ar, .int .i64 lt, .int .i64 nu, .int .i64 un, .bool false] rfl rfl (World.news_of_block HA1.out.2) (by simp [Value.oneCell']) (by omega) (by unfold maxLen; omega) (by omega) hsz _ rfl ?_; intro g1 cp1 w9 hown1 hgrow1 hat1 hglt1; obtain ⟨hP, y5, y6⟩ := sRcv HA1.out.1 hown1 hgrow1 hat1; have y7 := blkCell hP.s 1 _ rfl; have y8 := blkFree hP.s 1; have y9 := blkCell hP.x 3 _ rfl; have HP : Hid (Bx B (.slice a σ.L.length c) w { σ with L := σ.L ++ [⟨ar, lt, nu, un, false⟩] } (.slice (some ⟨g1, 0, none⟩) (σ.L.length + 1) cp1) kd ar lt nu un (w9.setCell ⟨w.heap.size, 5, none⟩ (.slice (some ⟨g1, 0, none⟩) (σ.L.length + 1) cp1))) := hP; clear hP hown1 hgrow1 hat1 hglt1 HA1 x1 x2 x3 x4 s0 s5)
              have HBe : Hid (Bx B (.slice a σ.L.length c) w { σ with L := σ.L ++ [⟨ar, lt, nu, un, false⟩], rc := σ.rc + nu } (.slice (some ⟨g1, 0, none⟩) (σ.L.length + 1) cp1) kd ar lt nu un ((w9.setCell ⟨w.heap.size, 5, none⟩ (.slice (some ⟨g1, 0, none⟩) (σ.L.length + 1) cp1)).setCell ⟨w.heap.size, 1, none⟩ (.int .i64 (σ.rc + nu)))) := HP.out.setRc (σ.rc + nu)
              clear y5 y6 y7 y8 y9 HP HB
              generalize (w9.setCell ⟨w.heap.size, 5, none⟩ (.slice (some ⟨g1, 0, none⟩) (σ.L.length + 1) cp1)).setCell ⟨w.heap.size, 1, none⟩ (.int .i64 (σ.rc + nu)) = We at *
              have HBd : Hid (Bx B (.slice a σ.L.length c) w { σ with L := σ.L ++ [⟨ar, lt, nu, un, false⟩], rc := σ.rc + nu } (.slice (some ⟨g1, 0, none⟩) (σ.L.length + 1) cp1) kd ar lt nu un We.drew) := HBe.out.later (below_drew _)
              have HQd : Hid (∀ W', Fr (fun q => q = w.heap.size + 2 ∨ q = w.heap.size + 3) We.drew W' → W'.heap[w.heap.size]? = some (.cells #[.int .i64 σ.day, .int .i64 (σ.rc + nu), .int .i64 σ.sd, .int .i64 σ.wa, .int .i64 σ.sh, .slice (some ⟨g1, 0, none⟩) (σ.L.length + 1) cp1] 29 (0, 0)) ∧ W'.heap[w.heap.size + 1]? = some (.cells #[.int .i64 kd, .string ar, .int .i64 lt, .int .i64 nu, .int .i64 un] 34 (0, 0))) := fun W' hW' => ⟨(hW'.block _ (blkLt HBd.out.s) (by omega)).trans HBd.out.s, (hW'.block _ (blkLt HBd.out.x) (by omega)).trans HBd.out.x⟩
              refine wp_region_held_drew (S := fun W' => Fr (fun q => q = w.heap.size + 2 ∨ q = w.heap.size + 3) We.drew W') (by kernel_rfl) (Fr.refl _ _) (fun hH => ?_)
              generalize We.drew = Wd at *
              refine wpAnyH_take (i := 0) (v := .agg #[.int .i64 σ.day, .int .i64 (σ.rc + nu), .int .i64 σ.sd, .int .i64 σ.wa, .int .i64 σ.sh, .slice (some ⟨g1, 0, none⟩) (σ.L.length + 1) cp1]) rfl (by kernel_rfl) (by kernel_rfl) (by kernel_rfl) (fun _ _ _ h => h) (Or.inl ⟨by rfl, fun w hSw => by have f0 := blkCell (HQd.out w hSw).1 0 _ rfl; have f1 := blkCell (HQd.out w hSw).1 1 _ rfl; have f2 := blkCell (HQd.out w hSw).1 2 _ rfl; have f3 := blkCell (HQd.out w hSw).1 3 _ rfl; have f4 := blkCell (HQd.out w hSw).1 4 _ rfl; have f5 := blkCell (HQd.out w hSw).1 5 _ rfl; go_simp⟩) hH ?_
              refine wpAnyH_take (i := 1) (v := .pointer (some ⟨w.heap.size + 1, 3, none⟩)) rfl (by kernel_rfl) (by kernel_rfl) (by kernel_rfl) (fun _ _ _ h => h) (Or.inl ⟨by rfl, fun w hSw => by go_simp⟩) hH ?_
              try simp only [Act.put, List.setIfInBounds_toArray, List.set_cons_zero, List.set_cons_succ, List.getElem_toArray, List.getElem_cons_succ, List.getElem_cons_zero]
              refine wpAnyH_take (i := 2) (v := .int .i64 nu) rfl (by kernel_rfl) (by kernel_rfl) (by kernel_rfl) (fun _ _ _ h => h) (Or.inl ⟨by rfl, fun w hSw => by have f0 := blkCell (HQd.out w hSw).2 3 _ rfl; go_simp⟩) hH ?_
              try simp only [Act.put, List.setIfInBounds_toArray, List.set_cons_zero, List.set_cons_succ, List.getElem_toArray, List.getElem_cons_succ, List.getElem_cons_zero]
              refine wpAnyH_take (i := 3) (v := .agg #[.int .i64 0, .int .i64 nu]) rfl (by kernel_rfl) (by kernel_rfl) (by kernel_rfl) (fun _ _ _ h => h) (Or.inl ⟨by rfl, fun w hSw => by go_simp⟩) hH ?_
              try simp only [Act.put, List.setIfInBounds_toArray, List.set_cons_zero, List.set_cons_succ, List.getElem_toArray, List.getElem_cons_succ, List.getElem_cons_zero]
              have HZA := HBd.out.retA (.int .i64 σ.day) (.int .i64 (σ.rc + nu)) (.int .i64 σ.sd) (.int .i64 σ.wa) (.int .i64 σ.sh) (.slice (some ⟨g1, 0, none⟩) (σ.L.length + 1) cp1) (.int .i64 0) (.int .i64 nu)
              have HZB := HBd.out.retB (.int .i64 σ.day) (.int .i64 (σ.rc + nu)) (.int .i64 σ.sd) (.int .i64 σ.wa) (.int .i64 σ.sh) (.slice (some ⟨g1, 0, none⟩) (σ.L.length + 1) cp1) (.int .i64 0) (.int .i64 nu)
              have h6 := six HBd.out.r2 (.int .i64 σ.day) (.int .i64 (σ.rc + nu)) (.int .i64 σ.sd) (.int .i64 σ.wa) (.int .i64 σ.sh) (.slice (some ⟨g1, 0, none⟩) (σ.L.length + 1) cp1)
              have h2 := two HBd.out.r3 (.int .i64 0) (.int .i64 nu)
              have hA1 : Fr (fun q => q = w.heap.size + 2 ∨ q = w.heap.size + 3) Wd ((((((Wd.setCell ⟨w.heap.size + 2, 0, none⟩ (.int .i64 σ.day)).setCell ⟨w.heap.size + 2, 1, none⟩ (.int .i64 (σ.rc + nu))).setCell ⟨w.heap.size + 2, 2, none⟩ (.int .i64 σ.sd)).setCell ⟨w.heap.size + 2, 3, none⟩ (.int .i64 σ.wa)).setCell ⟨w.heap.size + 2, 4, none⟩ (.int .i64 σ.sh)).setCell ⟨w.heap.size + 2, 5, none⟩ (.slice (some ⟨g1, 0, none⟩) (σ.L.length + 1) cp1)) := h6.2.mono (fun q hq => .inl hq)
              have hB1 : Fr (fun q => q = w.heap.size + 2 ∨ q = w.heap.size + 3) Wd ((Wd.setCell ⟨w.heap.size + 3, 0, none⟩ (.int .i64 0)).setCell ⟨w.heap.size + 3, 1, none⟩ (.int .i64 nu)) := h2.2.mono (fun q hq => .inr hq)
              have hA2 : ((((((Wd.setCell ⟨w.heap.size + 2, 0, none⟩ (.int .i64 σ.day)).setCell ⟨w.heap.size + 2, 1, none⟩ (.int .i64 (σ.rc + nu))).setCell ⟨w.heap.size + 2, 2, none⟩ (.int .i64 σ.sd)).setCell ⟨w.heap.size + 2, 3, none⟩ (.int .i64 σ.wa)).setCell ⟨w.heap.size + 2, 4, none⟩ (.int .i64 σ.sh)).setCell ⟨w.heap.size + 2, 5, none⟩ (.slice (some ⟨g1, 0, none⟩) (σ.L.length + 1) cp1)).heap[w.heap.size + 3]? = some (.cells #[.int .i64 0, .int .i64 0] 36 (0, 0)) := (h6.2.block _ (blkLt HBd.out.r3) (by omega)).trans HBd.out.r3
              have hB2 : ((Wd.setCell ⟨w.heap.size + 3, 0, none⟩ (.int .i64 0)).setCell ⟨w.heap.size + 3, 1, none⟩ (.int .i64 nu)).heap[w.heap.size + 2]? = some (.cells #[.int .i64 0, .int .i64 0, .int .i64 0, .int .i64 0, .int .i64 0, .slice none 0 0] 29 (0, 0)) := (h2.2.block _ (blkLt HBd.out.r2) (by omega)).trans HBd.out.r2
              have hA3 : Fr (fun q => q = w.heap.size + 2 ∨ q = w.heap.size + 3) Wd ((((((((Wd.setCell ⟨w.heap.size + 2, 0, none⟩ (.int .i64 σ.day)).setCell ⟨w.heap.size + 2, 1, none⟩ (.int .i64 (σ.rc + nu))).setCell ⟨w.heap.size + 2, 2, none⟩ (.int .i64 σ.sd)).setCell ⟨w.heap.size + 2, 3, none⟩ (.int .i64 σ.wa)).setCell ⟨w.heap.size + 2, 4, none⟩ (.int .i64 σ.sh)).setCell ⟨w.heap.size + 2, 5, none⟩ (.slice (some ⟨g1, 0, none⟩) (σ.L.length + 1) cp1)).setCell ⟨w.heap.size + 3, 0, none⟩ (.int .i64 0)).setCell ⟨w.heap.size + 3, 1, none⟩ (.int .i64 nu)) := hA1.trans ((two hA2 (.int .i64 0) (.int .i64 nu)).2.mono (fun q hq => .inr hq))
              have hB3 : Fr (fun q => q = w.heap.size + 2 ∨ q = w.heap.size + 3) Wd ((((((((Wd.setCell ⟨w.heap.size + 3, 0, none⟩ (.int .i64 0)).setCell ⟨w.heap.size + 3, 1, none⟩ (.int .i64 nu)).setCell ⟨w.heap.size + 2, 0, none⟩ (.int .i64 σ.day)).setCell ⟨w.heap.size + 2, 1, none⟩ (.int .i64 (σ.rc + nu))).setCell ⟨w.heap.size + 2, 2, none⟩ (.int .i64 σ.sd)).setCell ⟨w.heap.size + 2, 3, none⟩ (.int .i64 σ.wa)).setCell ⟨w.heap.size + 2, 4, none⟩ (.int .i64 σ.sh)).setCell ⟨w.heap.size + 2, 5, none⟩ (.slice (some ⟨g1, 0, none⟩) (σ.L.length + 1) cp1)) := hB1.trans ((six hB2 (.int .i64 σ.day) (.int .i64 (σ.rc + nu)) (.int .i64 σ.sd) (.int .i64 σ.wa) (.int .i64 σ.sh) (.slice (some ⟨g1, 0, none⟩) (σ.L.length + 1) cp1)).2.mono (fun q hq => .inl hq))
              clear h6 h2 HQd
              clear HZB hB1 hB2 hB3
              refine wpAnyH_ready (rs := [4]) (by kernel_rfl) (by simp) ?_
              refine AllReadyH.cons rfl (fun K hK => ?_) AllReadyH.nil
              have r0 := blkCell HBd.out.r2 0 _ rfl
              have r1 := blkCell HBd.out.r2 1 _ rfl
              have r2 := blkCell HBd.out.r2 2 _ rfl
              have r3 := blkCell HBd.out.r2 3 _ rfl
              have r4 := blkCell HBd.out.r2 4 _ rfl
              have r5 := blkCell HBd.out.r2 5 _ rfl
              have g0 := blkFree HBd.out.r2 0
              have g1 := blkFree HBd.out.r2 1
              have g2 := blkFree HBd.out.r2 2
              have g3 := blkFree HBd.out.r2 3
              have g4 := blkFree HBd.out.r2 4
              have g5 := blkFree HBd.out.r2 5
              go_simp
              refine hK.out _ _ hA1 (fun _ => ?_)
              clear hK K
              try simp only [Act.put, List.setIfInBounds_toArray, List.set_cons_zero, List.set_cons_succ, List.getElem_toArray, List.getElem_cons_succ, List.getElem_cons_zero]
              clear r0 r1 r2 r3 r4 r5 g0 g1 g2 g3 g4 g5
              have y0 := blkCell hA2 0 _ rfl
              have y1 := blkCell hA2 1 _ rfl
              have z0 := blkFree hA2 0
              have z1 := blkFree hA2 1
              refine wpAnyH_ready (rs := [5]) (by kernel_rfl) (by simp) ?_
              refine AllReadyH.cons rfl (fun K hK => ?_) AllReadyH.nil
              go_simp
              refine hK.out _ _ hA3 (fun _ => ?_)
              clear hK K
              try simp only [Act.put, List.setIfInBounds_toArray, List.set_cons_zero, List.set_cons_succ, List.getElem_toArray, List.getElem_cons_succ, List.getElem_cons_zero]
              refine wpAnyH_done (by kernel_rfl) ?_ _
              clear y0 y1 z0 z1 hA1 hA2 hA3 hH
              obtain ⟨k1, k2, k3⟩ := HZA
              generalize ((((((((Wd.setCell ⟨w.heap.size + 2, 0, none⟩ (.int .i64 σ.day)).setCell ⟨w.heap.size + 2, 1, none⟩ (.int .i64 (σ.rc + nu))).setCell ⟨w.heap.size + 2, 2, none⟩ (.int .i64 σ.sd)).setCell ⟨w.heap.size + 2, 3, none⟩ (.int .i64 σ.wa)).setCell ⟨w.heap.size + 2, 4, none⟩ (.int .i64 σ.sh)).setCell ⟨w.heap.size + 2, 5, none⟩ (.slice (some ⟨g1, 0, none⟩) (σ.L.length + 1) cp1)).setCell ⟨w.heap.size + 3, 0, none⟩ (.int .i64 0)).setCell ⟨w.heap.size + 3, 1, none⟩ (.int .i64 nu)) = W9 at *
              go_wp2
              have p0 := blkCell k2 0 _ rfl
              have p1 := blkCell k2 1 _ rfl
              have p2 := blkCell k2 2 _ rfl
              have p3 := blkCell k2 3 _ rfl
              have p4 := blkCell k2 4 _ rfl
              have p5 := blkCell k2 5 _ rfl
              have o0 := blkCell k3 0 _ rfl
              have o1 := blkCell k3 1 _ rfl
              refine bodyPost_ret (v := .tuple #[.agg #[.int .i64 σ.day, .int .i64 (σ.rc + nu), .int .i64 σ.sd, .int .i64 σ.wa, .int .i64 σ.sh, .slice (some ⟨g1, 0, none⟩) (σ.L.length + 1) cp1], .agg #[.int .i64 0, .int .i64 nu]]) (by simp [results, Try.results42, go_sem, p0, p1, p2, p3, p4, p5, o0, o1]) rfl ?_
              rw [HDn.out, HDj.out]
              exact ⟨some ⟨g1, 0, none⟩, cp1, by show _ = Ending.returned (.tuple #[.agg #[.int .i64 σ.day, .int .i64 (σ.rc + nu), .int .i64 σ.sd, .int .i64 σ.wa, .int .i64 σ.sh, .slice (some ⟨g1, 0, none⟩) (σ.L ++ [RSl.mk ar lt nu un false]).length cp1], .agg #[.int .i64 0, .int .i64 nu]]); rw [List.length_append]; rfl, by dsimp only; rw [List.length_append]; exact k1⟩
end Go.Proofs.Ytdhdecbdcfdmeaa

/-
  The program's daysAhead, goOn and againstReceipt.
-/
import Derived.Test.YtlfcaijhlgldnaaKmE
import Derived.Test.YtlfcaijhlgldnaaRegZ
namespace Go.Proofs.Ytlfcaijhlgldnaa
open Go.ChangeShapes Go.WideShapes Go.ChangeAt Go.RowKit Go.Deep
set_option linter.unusedVariables false

theorem heapTwo (w : World) (o o2 : Obj) : ((w.alloc o).alloc o2).heap[w.heap.size]? = some o ∧ ((w.alloc o).alloc o2).heap[w.heap.size + 1]? = some o2 := by
  refine ⟨(Below.heap_alloc _ _ _ (by simp)).trans (heapNew _ _), ?_⟩
  have := heapNew (w.alloc o) o2
  simpa using this
theorem heapThree (w : World) (o o2 o3 : Obj) : (((w.alloc o).alloc o2).alloc o3).heap[w.heap.size]? = some o ∧ (((w.alloc o).alloc o2).alloc o3).heap[w.heap.size + 1]? = some o2 ∧ (((w.alloc o).alloc o2).alloc o3).heap[w.heap.size + 2]? = some o3 := by
  obtain ⟨h1, h2⟩ := heapTwo w o o2
  refine ⟨(Below.heap_alloc _ _ _ (by simp; omega)).trans h1, (Below.heap_alloc _ _ _ (by simp)).trans h2, ?_⟩
  have := heapNew ((w.alloc o).alloc o2) o3
  simpa using this
theorem Rn.notX {B rb mb ub : Nat} {σ : StS} {ov : Value} {W : World} (h : Rn B rb mb ub σ ov W) {b : Nat} {V : Array Value} {t : TypeId} (hb : W.heap[b]? = some (.cells V t (0, 0))) (h1 : t ≠ 58) (h2 : t ≠ 82) : ¬ RnX rb mb ub ov b := by
  obtain ⟨n, g, hg⟩ := h.uni
  obtain ⟨es, ck, hm⟩ := h.map.is
  obtain ⟨es2, ck2, hu⟩ := hg.is
  rintro (e | e | e | e)
  · rw [e, h.blk] at hb
    simp at hb
    exact h1 hb.2.symm
  · rw [e, hm] at hb; cases hb
  · rw [e, hu] at hb; cases hb
  · obtain ⟨cur, hc⟩ := row_type h.ord e
    rw [hc] at hb
    simp at hb
    exact h2 hb.2.symm
/-- What is told is written into a block of its own. -/
theorem obsEnd {B rb mb ub : Nat} {σ : StS} {ov : Value} {W : World} (h : Rn B rb mb ub σ ov W) {b : Nat} {u0 u1 : Value} (hb : W.heap[b]? = some (.cells #[u0, u1] 36 (0, 0))) (x y : Value) :
    Rn B rb mb ub σ ov ((W.setCell ⟨b, 0, none⟩ x).setCell ⟨b, 1, none⟩ y) ∧ ((W.setCell ⟨b, 0, none⟩ x).setCell ⟨b, 1, none⟩ y).heap[b]? = some (.cells #[x, y] 36 (0, 0)) ∧ Fr (fun k => k = b) W ((W.setCell ⟨b, 0, none⟩ x).setCell ⟨b, 1, none⟩ y) := by
  have hx := h.notX hb (by decide) (by decide)
  refine ⟨h.same (fun k hk => ?_), ?_, ((Fr.refl (fun k => k = b) W).set (b := b) rfl _ _).set (b := b) rfl _ _⟩
  · have hne : k ≠ b := fun e => hx (e ▸ hk)
    exact (Below.heap_setCell _ _ _ _ hne).trans (Below.heap_setCell _ _ _ _ hne)
  · have e1 := heap_setCell_same _ _ 0 _ _ x hb
    simp only [List.setIfInBounds_toArray, List.set_cons_zero] at e1
    have e2 := heap_setCell_same _ _ 1 _ _ y e1
    simp only [List.setIfInBounds_toArray, List.set_cons_zero, List.set_cons_succ] at e2
    exact e2
theorem Fr.far2 {X : Nat → Prop} {w W W' : World} {b : Nat} (hx : Fr X w W) (h : Fr (fun k => k = b) W W') (hb : w.heap.size ≤ b) : Fr X w W' :=
  ⟨h.os.trans hx.os, h.tape.trans hx.tape, h.output.trans hx.output, Nat.le_trans hx.size h.size, fun k hk hX => (h.block k (Nat.lt_of_lt_of_le hk hx.size) (by omega)).trans (hx.block k hk hX)⟩
theorem daysAhead_any {B rb mb ub : Nat} {σ : StS} {ov : Value} {w : World} (h : Rn B rb mb ub σ ov w) :
    Calls Try.prog 54 #[.pointer (some ⟨rb, 0, none⟩)] w fun e w' => e = .returned (.agg #[.int .i64 σ.day, .int .i64 100000]) ∧ Below w.heap.size w w' := by
  have c0 := (h.later (below_alloc w (Obj.cells #[.int .i64 0, .int .i64 0] 100))).at.c0
  have HB : Hid (∀ V : Array Value, Below w.heap.size w (w.alloc (Obj.cells V 100))) := fun V => below_alloc _ _
  clear h
  generalize σ.day = d at *
  go_enter Try.func54, Try.ntmps54
  go_wp2
  refine bodyPost_ret (v := .agg #[.int .i64 d, .int .i64 100000]) (by simp [results, Try.results54, go_sem]) rfl ⟨rfl, HB.out _⟩
/-- What an act tells, and leaves. -/
def ObP (B rb mb ub : Nat) (ov : Value) (w : World) (c n : Int) (σ' : StS) (e : Ending) (w' : World) : Prop :=
  e = .returned (.agg #[.int .i64 c, .int .i64 n]) ∧ Fr (RnX rb mb ub ov) w w' ∧ ∃ ov', Rn B rb mb ub σ' ov' w' ∧ ∀ q, ov'.ownBlock = some q → ov.ownBlock = some q ∨ w.heap.size ≤ q
theorem ObP.mk' {B rb mb ub : Nat} {ov : Value} {w : World} {c n : Int} {σ' : StS} {w' : World} (hf : Fr (RnX rb mb ub ov) w w') (h : Rn B rb mb ub σ' ov w') {v : Value} (hv : v = .agg #[.int .i64 c, .int .i64 n]) : ObP B rb mb ub ov w c n σ' (.returned v) w' := ⟨by rw [hv], hf, ov, h, fun q hq => .inl hq⟩
set_option maxHeartbeats 4000000 in
theorem goOn_any {B rb mb ub : Nat} {σ : StS} {ov : Value} {w : World} (h : Rn B rb mb ub σ ov w) (d : Int) :
    Calls Try.prog 40 #[.pointer (some ⟨rb, 0, none⟩), .int .i64 d] w (ObP B rb mb ub ov w (dayE σ d) (dayN σ d) (dayS σ d)) := by
  obtain ⟨W1, hW1⟩ : ∃ W1, W1 = w.alloc (Obj.cells #[.int .i64 0, .int .i64 0] 36) := ⟨_, rfl⟩
  have HW1 : Hid (Below w.heap.size w W1 ∧ W1.heap[w.heap.size]? = some (.cells #[.int .i64 0, .int .i64 0] 36 (0, 0))) := by rw [hW1]; exact ⟨below_alloc _ _, heapNew _ _⟩
  have HR : Hid (∀ W, Below W1.heap.size W1 W → Rn B rb mb ub σ ov W ∧ Below w.heap.size w W ∧ W.heap[w.heap.size]? = some (.cells #[.int .i64 0, .int .i64 0] 36 (0, 0))) := fun W hW => ⟨h.later (chain HW1.out.1 hW), chain HW1.out.1 hW, (hW.block _ (blkLt HW1.out.2)).trans HW1.out.2⟩
  clear h
  by_cases hd : σ.day ≤ d ∧ d ≤ 100000
  · have hq : inB d σ.day 100000 = true := decide_eq_true hd
    have e1 : dayE σ d = 0 := if_pos hd
    have e2 : dayN σ d = d := by unfold dayN; rw [e1, if_pos rfl]
    have e3 : dayS σ d = { σ with day := d } := by unfold dayS; rw [e1, if_pos rfl]
    rw [e1, e2, e3]
    clear e1 e2 e3 hd
    go_enter Try.func40, Try.ntmps40
    go_wp2_with fail
    (first | go_at_call 54 | skip)
    rw [← hW1]
    clear hW1
    refine (daysAhead_any (HR.out W1 (Below.refl _ _)).1).mono ?_
    rintro e w3 ⟨rfl, hb3⟩
    have HB3 : Hid (Below W1.heap.size W1 w3) := hb3
    clear hb3
    go_wp2_with fail
    (first | go_at_call 55 | skip)
    refine (spanHas_any σ.day 100000 d _).mono ?_
    rintro e w4 ⟨rfl, hb4⟩
    have HB4 : Hid (Below W1.heap.size W1 w4) := chain HB3.out hb4
    clear hb4 HB3
    have c0 := (HR.out w4 HB4.out).1.at.c0
    have cf := (HR.out w4 HB4.out).1.free 0
    have hne : w.heap.size ≠ rb := fun e => ((HR.out w4 HB4.out).1.notX (HR.out w4 HB4.out).2.2 (by decide) (by decide)) (.inl e)
    have HD : Hid (Rn B rb mb ub { σ with day := d } ov (w4.setCell ⟨rb, 0, none⟩ (.int .i64 d)) ∧ (w4.setCell ⟨rb, 0, none⟩ (.int .i64 d)).heap[w.heap.size]? = some (.cells #[.int .i64 0, .int .i64 0] 36 (0, 0)) ∧ Fr (RnX rb mb ub ov) w (w4.setCell ⟨rb, 0, none⟩ (.int .i64 d))) := by
      obtain ⟨k1, k2, k3⟩ := HR.out w4 HB4.out
      exact ⟨k1.setDay d, (Below.heap_setCell _ _ _ _ hne).trans k3, (Fr.of k2).set (b := rb) (.inl rfl) _ _⟩
    have y0 := blkCell HD.out.2.1 0 _ rfl
    have y1 := blkCell HD.out.2.1 1 _ rfl
    have z0 := blkFree HD.out.2.1 0
    have z1 := blkFree HD.out.2.1 1
    clear HR HW1 HB4
    go_wp2
    obtain ⟨k1, k2, k3⟩ := obsEnd HD.out.1 HD.out.2.1 (.int .i64 0) (.int .i64 d)
    have kf := HD.out.2.2.far2 k3 (Nat.le_refl _)
    generalize ((w4.setCell ⟨rb, 0, none⟩ (.int .i64 d)).setCell ⟨w.heap.size, 0, none⟩ (.int .i64 0)).setCell ⟨w.heap.size, 1, none⟩ (.int .i64 d) = W9 at *
    have p0 := blkCell k2 0 _ rfl
    have p1 := blkCell k2 1 _ rfl
    exact bodyPost_ret (v := .agg #[.int .i64 0, .int .i64 d]) (by simp [results, Try.results40, go_sem, p0, p1]) rfl (ObP.mk' kf k1 rfl)
  · have hq : inB d σ.day 100000 = false := decide_eq_false hd
    have e1 : dayE σ d = 5 := if_neg hd
    have e2 : dayN σ d = 0 := by unfold dayN; rw [e1, if_neg (by omega)]
    have e3 : dayS σ d = σ := by unfold dayS; rw [e1, if_neg (by omega)]
    rw [e1, e2, e3]
    clear e1 e2 e3 hd
    go_enter Try.func40, Try.ntmps40
    go_wp2_with fail
    (first | go_at_call 54 | skip)
    rw [← hW1]
    clear hW1
    refine (daysAhead_any (HR.out W1 (Below.refl _ _)).1).mono ?_
    rintro e w3 ⟨rfl, hb3⟩
    have HB3 : Hid (Below W1.heap.size W1 w3) := hb3
    clear hb3
    go_wp2_with fail
    (first | go_at_call 55 | skip)
    refine (spanHas_any σ.day 100000 d _).mono ?_
    rintro e w4 ⟨rfl, hb4⟩
    have HD : Hid (Rn B rb mb ub σ ov w4 ∧ w4.heap[w.heap.size]? = some (.cells #[.int .i64 0, .int .i64 0] 36 (0, 0)) ∧ Fr (RnX rb mb ub ov) w w4) := by
      obtain ⟨k1, k2, k3⟩ := HR.out w4 (chain HB3.out hb4)
      exact ⟨k1, k3, Fr.of k2⟩
    have y0 := blkCell HD.out.2.1 0 _ rfl
    have y1 := blkCell HD.out.2.1 1 _ rfl
    have z0 := blkFree HD.out.2.1 0
    have z1 := blkFree HD.out.2.1 1
    clear HR HW1 HB3 hb4
    go_wp2
    obtain ⟨k1, k2, k3⟩ := obsEnd HD.out.1 HD.out.2.1 (.int .i64 5) (.int .i64 0)
    have kf := HD.out.2.2.far2 k3 (Nat.le_refl _)
    generalize (w4.setCell ⟨w.heap.size, 0, none⟩ (.int .i64 5)).setCell ⟨w.heap.size, 1, none⟩ (.int .i64 0) = W9 at *
    have p0 := blkCell k2 0 _ rfl
    have p1 := blkCell k2 1 _ rfl
    exact bodyPost_ret (v := .agg #[.int .i64 5, .int .i64 0]) (by simp [results, Try.results40, go_sem, p0, p1]) rfl (ObP.mk' kf k1 rfl)
end Go.Proofs.Ytlfcaijhlgldnaa

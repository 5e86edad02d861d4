/-
  Texts of this claim laid together: TlE.
-/
import Derived.Test.YtabpkfhbnendjaaGreatM15
/-
  The program's scanOf.
-/
namespace Go.Proofs.YtabpkfhbnendjaaGreat
open Go.ChangeShapes Go.WideShapes Go.ChangeAt Go.RowKit Go.Deep
set_option linter.unusedVariables false

theorem fin5 {W : World} {b : Nat} {u0 u1 u2 u3 u4 : Value} {t : TypeId} (h : W.heap[b]? = some (.cells #[u0, u1, u2, u3, u4] t (0, 0))) (v0 v1 v2 v3 v4 : Value) : (((((W.setCell ⟨b, 0, none⟩ v0).setCell ⟨b, 1, none⟩ v1).setCell ⟨b, 2, none⟩ v2).setCell ⟨b, 3, none⟩ v3).setCell ⟨b, 4, none⟩ v4).heap[b]? = some (.cells #[v0, v1, v2, v3, v4] t (0, 0)) :=
  heap_setCell_same _ _ 4 _ _ _ (heap_setCell_same _ _ 3 _ _ _ (heap_setCell_same _ _ 2 _ _ _ (heap_setCell_same _ _ 1 _ _ _ (heap_setCell_same _ _ 0 _ _ _ h))))
theorem below5 {B : Nat} {w W : World} (h : Below B w W) {b : Nat} (hb : B ≤ b) (v0 v1 v2 v3 v4 : Value) : Below B w (((((W.setCell ⟨b, 0, none⟩ v0).setCell ⟨b, 1, none⟩ v1).setCell ⟨b, 2, none⟩ v2).setCell ⟨b, 3, none⟩ v3).setCell ⟨b, 4, none⟩ v4) :=
  ((((h.setCell hb _).setCell hb _).setCell hb _).setCell hb _).setCell hb _
theorem fin4 {W : World} {b : Nat} {u0 u1 u2 u3 : Value} {t : TypeId} (h : W.heap[b]? = some (.cells #[u0, u1, u2, u3] t (0, 0))) (v0 v1 v2 v3 : Value) : ((((W.setCell ⟨b, 0, none⟩ v0).setCell ⟨b, 1, none⟩ v1).setCell ⟨b, 2, none⟩ v2).setCell ⟨b, 3, none⟩ v3).heap[b]? = some (.cells #[v0, v1, v2, v3] t (0, 0)) :=
  heap_setCell_same _ _ 3 _ _ _ (heap_setCell_same _ _ 2 _ _ _ (heap_setCell_same _ _ 1 _ _ _ (heap_setCell_same _ _ 0 _ _ _ h)))
theorem below4 {B : Nat} {w W : World} (h : Below B w W) {b : Nat} (hb : B ≤ b) (v0 v1 v2 v3 : Value) : Below B w ((((W.setCell ⟨b, 0, none⟩ v0).setCell ⟨b, 1, none⟩ v1).setCell ⟨b, 2, none⟩ v2).setCell ⟨b, 3, none⟩ v3) :=
  (((h.setCell hb _).setCell hb _).setCell hb _).setCell hb _
def ItN (r : RIt) : Prop := (0 ≤ r.pr ∧ r.pr ≤ 1000000) ∧ (0 ≤ r.dp ∧ r.dp ≤ 1000000) ∧ (1 ≤ r.cl ∧ r.cl ≤ 9) ∧ (0 ≤ r.ag ∧ r.ag ≤ 120)
set_option maxHeartbeats 8000000 in
set_option maxRecDepth 4000 in
theorem scanOf_any (R : ByteArray → Int × ByteArray × Int × Int) (hR : RsI R) (ia : Option Addr) (ic : Nat) (its : List RIt) (hok : ∀ r ∈ its, ItN r) (hl : its.length ≤ 40) (tx : ByteArray) (ct : Int) (w : World) (hr : ReadsIt w.heap.size w ia its) :
    Calls Tryz.prog 43 #[.slice ia its.length ic, .string tx, .int .i64 ct] w fun e w' => e = .returned (.tuple #[.agg #[.int .i64 (scanL R its tx ct).it, .int .i64 (scanL R its tx ct).ct, .int .i64 (scanL R its tx ct).am, .int .i64 (scanL R its tx ct).dp, .int .i64 (scanG R its tx ct)], .int .i64 (scanE R its tx ct)]) ∧ Below w.heap.size w w' := by
  have HR : Hid (ReadsIt w.heap.size w ia its) := hr
  have HOK : Hid (∀ r ∈ its, ItN r) := hok
  have hS := hR tx
  have hwy := scan_ways R its tx ct
  have HX : Hid (∀ W, Below w.heap.size w W → Calls Tryz.prog 18 #[.slice ia its.length ic, .string (R tx).2.1] W fun e w' => e = .returned (.int .i64 (itIx (R tx).2.1 its)) ∧ Below W.heap.size W w') := fun W hW => itemCoded_any ia ic its (by omega) _ W (readsIt_later HR.out hW)
  have hrg := itIx_range (R tx).2.1 its
  have HSI : Hid (scanIt R its tx = its.getD (itIx (R tx).2.1 its).toNat zIt) := rfl
  unfold scanV at hS
  clear hr hok hR
  generalize scanE R its tx ct = ce at *
  generalize scanL R its tx ct = ln at *
  generalize scanG R its tx ct = ag at *
  generalize scanIt R its tx = si at *
  generalize (R tx).1 = k at *
  generalize (R tx).2.1 = a at *
  generalize (R tx).2.2.1 = v at *
  generalize (R tx).2.2.2 = c at *
  generalize hix : itIx a its = ix at *
  have HZ : Hid (∀ W, Below (w.alloc (Obj.cells #[.int .i64 0, .int .i64 0, .int .i64 0, .int .i64 0, .int .i64 0] 91)).heap.size (w.alloc (Obj.cells #[.int .i64 0, .int .i64 0, .int .i64 0, .int .i64 0, .int .i64 0] 91)) W → W.heap[w.heap.size]? = some (.cells #[.int .i64 0, .int .i64 0, .int .i64 0, .int .i64 0, .int .i64 0] 91 (0, 0))) := fun W hW => (hW.block w.heap.size (by simp)).trans (heapNew _ _)
  rcases hwy with ⟨h1, rfl, rfl, rfl⟩ | ⟨h1, h2, rfl, rfl, rfl⟩ | ⟨h1, h2, h3, rfl, rfl, rfl⟩ | ⟨h1, h2, h3, rfl, rfl, rfl⟩
  · have h1' : (ce != 0) = true := by simpa using h1
    go_enter Tryz.func43, Tryz.ntmps43
    go_wp2_with fail
    (first | go_at_call 54 | skip)
    refine (hS _).mono ?_
    rintro e w1 ⟨rfl, hb1⟩
    have HZ1 : Hid (w1.heap[w.heap.size]? = some (.cells #[.int .i64 0, .int .i64 0, .int .i64 0, .int .i64 0, .int .i64 0] 91 (0, 0))) := HZ.out _ hb1
    have HB1 : Hid (Below w.heap.size w w1) := chain (below_alloc _ _) hb1
    have z0 := blkFree HZ1.out 0
    have z1 := blkFree HZ1.out 1
    have z2 := blkFree HZ1.out 2
    have z3 := blkFree HZ1.out 3
    have z4 := blkFree HZ1.out 4
    have y0 := blkCell HZ1.out 0 _ rfl
    have y1 := blkCell HZ1.out 1 _ rfl
    have y2 := blkCell HZ1.out 2 _ rfl
    have y3 := blkCell HZ1.out 3 _ rfl
    have y4 := blkCell HZ1.out 4 _ rfl
    have hlt := blkLt HZ1.out
    clear hb1
    go_wp2
    have hf := fin5 HZ1.out (.int .i64 0) (.int .i64 0) (.int .i64 0) (.int .i64 0) (.int .i64 0)
    have hB := below5 HB1.out (Nat.le_refl _) (.int .i64 0) (.int .i64 0) (.int .i64 0) (.int .i64 0) (.int .i64 0)
    generalize (((((w1.setCell ⟨w.heap.size, 0, none⟩ (.int .i64 0)).setCell ⟨w.heap.size, 1, none⟩ (.int .i64 0)).setCell ⟨w.heap.size, 2, none⟩ (.int .i64 0)).setCell ⟨w.heap.size, 3, none⟩ (.int .i64 0)).setCell ⟨w.heap.size, 4, none⟩ (.int .i64 0)) = Wz at *
    have hg : (Wz.alloc (Obj.cells #[.int .i64 k, .string a, .int .i64 v] 108)).heap[w.heap.size]? = some (.cells #[.int .i64 0, .int .i64 0, .int .i64 0, .int .i64 0, .int .i64 0] 91 (0, 0)) := (Below.heap_alloc _ _ _ (blkLt hf)).trans hf
    have hC : Below w.heap.size w (Wz.alloc (Obj.cells #[.int .i64 k, .string a, .int .i64 v] 108)) := chain hB (below_alloc _ _)
    generalize (Wz.alloc (Obj.cells #[.int .i64 k, .string a, .int .i64 v] 108)) = Wy at *
    have q0 := blkCell hg 0 _ rfl
    have q1 := blkCell hg 1 _ rfl
    have q2 := blkCell hg 2 _ rfl
    have q3 := blkCell hg 3 _ rfl
    have q4 := blkCell hg 4 _ rfl
    exact bodyPost_ret (v := .tuple #[.agg #[.int .i64 0, .int .i64 0, .int .i64 0, .int .i64 0, .int .i64 0], .int .i64 ce]) (by simp [results, Tryz.results43, go_sem, q0, q1, q2, q3, q4]) rfl ⟨rfl, hC⟩
  · subst h1
    go_enter Tryz.func43, Tryz.ntmps43
    go_wp2_with fail
    (first | go_at_call 54 | skip)
    refine (hS _).mono ?_
    rintro e w1 ⟨rfl, hb1⟩
    have HZ2 : Hid (∀ W, Below (w1.alloc (Obj.cells #[.int .i64 k, .string a, .int .i64 v] 108)).heap.size (w1.alloc (Obj.cells #[.int .i64 k, .string a, .int .i64 v] 108)) W → W.heap[w.heap.size]? = some (.cells #[.int .i64 0, .int .i64 0, .int .i64 0, .int .i64 0, .int .i64 0] 91 (0, 0)) ∧ W.heap[w1.heap.size]? = some (.cells #[.int .i64 k, .string a, .int .i64 v] 108 (0, 0)) ∧ Below w.heap.size w W) := fun W hW => ⟨HZ.out W (chain hb1 (chain (below_alloc _ _) hW)), (hW.block w1.heap.size (by simp)).trans (heapNew _ _), chain (below_alloc _ _) (chain hb1 (chain (below_alloc _ _) hW))⟩
    clear hb1
    go_wp2_with fail
    (first | go_at_call 18 | skip)
    refine (HX.out _ (HZ2.out _ (Below.refl _ _)).2.2).mono ?_
    rintro e w2 ⟨rfl, hb2⟩
    have HZ1 : Hid (w2.heap[w.heap.size]? = some (.cells #[.int .i64 0, .int .i64 0, .int .i64 0, .int .i64 0, .int .i64 0] 91 (0, 0))) := (HZ2.out w2 hb2).1
    have HB1 : Hid (Below w.heap.size w w2) := (HZ2.out w2 hb2).2.2
    have u0 := blkCell (HZ2.out w2 hb2).2.1 0 _ rfl
    have u1 := blkCell (HZ2.out w2 hb2).2.1 1 _ rfl
    have u2 := blkCell (HZ2.out w2 hb2).2.1 2 _ rfl
    have hlu := blkLt (HZ2.out w2 hb2).2.1
    have z0 := blkFree HZ1.out 0
    have z1 := blkFree HZ1.out 1
    have z2 := blkFree HZ1.out 2
    have z3 := blkFree HZ1.out 3
    have z4 := blkFree HZ1.out 4
    have y0 := blkCell HZ1.out 0 _ rfl
    have y1 := blkCell HZ1.out 1 _ rfl
    have y2 := blkCell HZ1.out 2 _ rfl
    have y3 := blkCell HZ1.out 3 _ rfl
    have y4 := blkCell HZ1.out 4 _ rfl
    have hlt := blkLt HZ1.out
    clear hb2
    go_wp2
    have hf := fin5 HZ1.out (.int .i64 0) (.int .i64 0) (.int .i64 0) (.int .i64 0) (.int .i64 0)
    have hB := below5 HB1.out (Nat.le_refl _) (.int .i64 0) (.int .i64 0) (.int .i64 0) (.int .i64 0) (.int .i64 0)
    generalize (((((w2.setCell ⟨w.heap.size, 0, none⟩ (.int .i64 0)).setCell ⟨w.heap.size, 1, none⟩ (.int .i64 0)).setCell ⟨w.heap.size, 2, none⟩ (.int .i64 0)).setCell ⟨w.heap.size, 3, none⟩ (.int .i64 0)).setCell ⟨w.heap.size, 4, none⟩ (.int .i64 0)) = Wz at *
    have q0 := blkCell hf 0 _ rfl
    have q1 := blkCell hf 1 _ rfl
    have q2 := blkCell hf 2 _ rfl
    have q3 := blkCell hf 3 _ rfl
    have q4 := blkCell hf 4 _ rfl
    exact bodyPost_ret (v := .tuple #[.agg #[.int .i64 0, .int .i64 0, .int .i64 0, .int .i64 0, .int .i64 0], .int .i64 6]) (by simp [results, Tryz.results43, go_sem, q0, q1, q2, q3, q4]) rfl ⟨rfl, hB⟩
  · subst h1
    have hx0 : ¬ ix < 0 := by omega
    rcases h3 with h3 | h3 | ⟨h3, h4⟩
    · skip
      go_enter Tryz.func43, Tryz.ntmps43
      go_wp2_with fail
      (first | go_at_call 54 | skip)
      refine (hS _).mono ?_
      rintro e w1 ⟨rfl, hb1⟩
      have HZ2 : Hid (∀ W, Below (w1.alloc (Obj.cells #[.int .i64 k, .string a, .int .i64 v] 108)).heap.size (w1.alloc (Obj.cells #[.int .i64 k, .string a, .int .i64 v] 108)) W → W.heap[w.heap.size]? = some (.cells #[.int .i64 0, .int .i64 0, .int .i64 0, .int .i64 0, .int .i64 0] 91 (0, 0)) ∧ W.heap[w1.heap.size]? = some (.cells #[.int .i64 k, .string a, .int .i64 v] 108 (0, 0)) ∧ Below w.heap.size w W) := fun W hW => ⟨HZ.out W (chain hb1 (chain (below_alloc _ _) hW)), (hW.block w1.heap.size (by simp)).trans (heapNew _ _), chain (below_alloc _ _) (chain hb1 (chain (below_alloc _ _) hW))⟩
      clear hb1
      go_wp2_with fail
      (first | go_at_call 18 | skip)
      refine (HX.out _ (HZ2.out _ (Below.refl _ _)).2.2).mono ?_
      rintro e w2 ⟨rfl, hb2⟩
      have HZ1 : Hid (w2.heap[w.heap.size]? = some (.cells #[.int .i64 0, .int .i64 0, .int .i64 0, .int .i64 0, .int .i64 0] 91 (0, 0))) := (HZ2.out w2 hb2).1
      have HB1 : Hid (Below w.heap.size w w2) := (HZ2.out w2 hb2).2.2
      have u0 := blkCell (HZ2.out w2 hb2).2.1 0 _ rfl
      have u1 := blkCell (HZ2.out w2 hb2).2.1 1 _ rfl
      have u2 := blkCell (HZ2.out w2 hb2).2.1 2 _ rfl
      have hlu := blkLt (HZ2.out w2 hb2).2.1
      have z0 := blkFree HZ1.out 0
      have z1 := blkFree HZ1.out 1
      have z2 := blkFree HZ1.out 2
      have z3 := blkFree HZ1.out 3
      have z4 := blkFree HZ1.out 4
      have y0 := blkCell HZ1.out 0 _ rfl
      have y1 := blkCell HZ1.out 1 _ rfl
      have y2 := blkCell HZ1.out 2 _ rfl
      have y3 := blkCell HZ1.out 3 _ rfl
      have y4 := blkCell HZ1.out 4 _ rfl
      have hlt := blkLt HZ1.out
      clear hb2
      go_wp2
      have hf := fin5 HZ1.out (.int .i64 0) (.int .i64 0) (.int .i64 0) (.int .i64 0) (.int .i64 0)
      have hB := below5 HB1.out (Nat.le_refl _) (.int .i64 0) (.int .i64 0) (.int .i64 0) (.int .i64 0) (.int .i64 0)
      generalize (((((w2.setCell ⟨w.heap.size, 0, none⟩ (.int .i64 0)).setCell ⟨w.heap.size, 1, none⟩ (.int .i64 0)).setCell ⟨w.heap.size, 2, none⟩ (.int .i64 0)).setCell ⟨w.heap.size, 3, none⟩ (.int .i64 0)).setCell ⟨w.heap.size, 4, none⟩ (.int .i64 0)) = Wz at *
      have q0 := blkCell hf 0 _ rfl
      have q1 := blkCell hf 1 _ rfl
      have q2 := blkCell hf 2 _ rfl
      have q3 := blkCell hf 3 _ rfl
      have q4 := blkCell hf 4 _ rfl
      exact bodyPost_ret (v := .tuple #[.agg #[.int .i64 0, .int .i64 0, .int .i64 0, .int .i64 0, .int .i64 0], .int .i64 5]) (by simp [results, Tryz.results43, go_sem, q0, q1, q2, q3, q4]) rfl ⟨rfl, hB⟩
    · have h3' : ¬ ct < 1 := by omega
      go_enter Tryz.func43, Tryz.ntmps43
      go_wp2_with fail
      (first | go_at_call 54 | skip)
      refine (hS _).mono ?_
      rintro e w1 ⟨rfl, hb1⟩
      have HZ2 : Hid (∀ W, Below (w1.alloc (Obj.cells #[.int .i64 k, .string a, .int .i64 v] 108)).heap.size (w1.alloc (Obj.cells #[.int .i64 k, .string a, .int .i64 v] 108)) W → W.heap[w.heap.size]? = some (.cells #[.int .i64 0, .int .i64 0, .int .i64 0, .int .i64 0, .int .i64 0] 91 (0, 0)) ∧ W.heap[w1.heap.size]? = some (.cells #[.int .i64 k, .string a, .int .i64 v] 108 (0, 0)) ∧ Below w.heap.size w W) := fun W hW => ⟨HZ.out W (chain hb1 (chain (below_alloc _ _) hW)), (hW.block w1.heap.size (by simp)).trans (heapNew _ _), chain (below_alloc _ _) (chain hb1 (chain (below_alloc _ _) hW))⟩
      clear hb1
      go_wp2_with fail
      (first | go_at_call 18 | skip)
      refine (HX.out _ (HZ2.out _ (Below.refl _ _)).2.2).mono ?_
      rintro e w2 ⟨rfl, hb2⟩
      have HZ1 : Hid (w2.heap[w.heap.size]? = some (.cells #[.int .i64 0, .int .i64 0, .int .i64 0, .int .i64 0, .int .i64 0] 91 (0, 0))) := (HZ2.out w2 hb2).1
      have HB1 : Hid (Below w.heap.size w w2) := (HZ2.out w2 hb2).2.2
      have u0 := blkCell (HZ2.out w2 hb2).2.1 0 _ rfl
      have u1 := blkCell (HZ2.out w2 hb2).2.1 1 _ rfl
      have u2 := blkCell (HZ2.out w2 hb2).2.1 2 _ rfl
      have hlu := blkLt (HZ2.out w2 hb2).2.1
      have z0 := blkFree HZ1.out 0
      have z1 := blkFree HZ1.out 1
      have z2 := blkFree HZ1.out 2
      have z3 := blkFree HZ1.out 3
      have z4 := blkFree HZ1.out 4
      have y0 := blkCell HZ1.out 0 _ rfl
      have y1 := blkCell HZ1.out 1 _ rfl
      have y2 := blkCell HZ1.out 2 _ rfl
      have y3 := blkCell HZ1.out 3 _ rfl
      have y4 := blkCell HZ1.out 4 _ rfl
      have hlt := blkLt HZ1.out
      clear hb2
      go_wp2
      have hf := fin5 HZ1.out (.int .i64 0) (.int .i64 0) (.int .i64 0) (.int .i64 0) (.int .i64 0)
      have hB := below5 HB1.out (Nat.le_refl _) (.int .i64 0) (.int .i64 0) (.int .i64 0) (.int .i64 0) (.int .i64 0)
      generalize (((((w2.setCell ⟨w.heap.size, 0, none⟩ (.int .i64 0)).setCell ⟨w.heap.size, 1, none⟩ (.int .i64 0)).setCell ⟨w.heap.size, 2, none⟩ (.int .i64 0)).setCell ⟨w.heap.size, 3, none⟩ (.int .i64 0)).setCell ⟨w.heap.size, 4, none⟩ (.int .i64 0)) = Wz at *
      have q0 := blkCell hf 0 _ rfl
      have q1 := blkCell hf 1 _ rfl
      have q2 := blkCell hf 2 _ rfl
      have q3 := blkCell hf 3 _ rfl
      have q4 := blkCell hf 4 _ rfl
      exact bodyPost_ret (v := .tuple #[.agg #[.int .i64 0, .int .i64 0, .int .i64 0, .int .i64 0, .int .i64 0], .int .i64 5]) (by simp [results, Tryz.results43, go_sem, q0, q1, q2, q3, q4]) rfl ⟨rfl, hB⟩
    · by_cases h5 : 99 < ct
      · have h3' : ¬ ct < 1 := by omega
        go_enter Tryz.func43, Tryz.ntmps43
        go_wp2_with fail
        (first | go_at_call 54 | skip)
        refine (hS _).mono ?_
        rintro e w1 ⟨rfl, hb1⟩
        have HZ2 : Hid (∀ W, Below (w1.alloc (Obj.cells #[.int .i64 k, .string a, .int .i64 v] 108)).heap.size (w1.alloc (Obj.cells #[.int .i64 k, .string a, .int .i64 v] 108)) W → W.heap[w.heap.size]? = some (.cells #[.int .i64 0, .int .i64 0, .int .i64 0, .int .i64 0, .int .i64 0] 91 (0, 0)) ∧ W.heap[w1.heap.size]? = some (.cells #[.int .i64 k, .string a, .int .i64 v] 108 (0, 0)) ∧ Below w.heap.size w W) := fun W hW => ⟨HZ.out W (chain hb1 (chain (below_alloc _ _) hW)), (hW.block w1.heap.size (by simp)).trans (heapNew _ _), chain (below_alloc _ _) (chain hb1 (chain (below_alloc _ _) hW))⟩
        clear hb1
        go_wp2_with fail
        (first | go_at_call 18 | skip)
        refine (HX.out _ (HZ2.out _ (Below.refl _ _)).2.2).mono ?_
        rintro e w2 ⟨rfl, hb2⟩
        have HZ1 : Hid (w2.heap[w.heap.size]? = some (.cells #[.int .i64 0, .int .i64 0, .int .i64 0, .int .i64 0, .int .i64 0] 91 (0, 0))) := (HZ2.out w2 hb2).1
        have HB1 : Hid (Below w.heap.size w w2) := (HZ2.out w2 hb2).2.2
        have u0 := blkCell (HZ2.out w2 hb2).2.1 0 _ rfl
        have u1 := blkCell (HZ2.out w2 hb2).2.1 1 _ rfl
        have u2 := blkCell (HZ2.out w2 hb2).2.1 2 _ rfl
        have hlu := blkLt (HZ2.out w2 hb2).2.1
        have z0 := blkFree HZ1.out 0
        have z1 := blkFree HZ1.out 1
        have z2 := blkFree HZ1.out 2
        have z3 := blkFree HZ1.out 3
        have z4 := blkFree HZ1.out 4
        have y0 := blkCell HZ1.out 0 _ rfl
        have y1 := blkCell HZ1.out 1 _ rfl
        have y2 := blkCell HZ1.out 2 _ rfl
        have y3 := blkCell HZ1.out 3 _ rfl
        have y4 := blkCell HZ1.out 4 _ rfl
        have hlt := blkLt HZ1.out
        clear hb2
        go_wp2
        have hf := fin5 HZ1.out (.int .i64 0) (.int .i64 0) (.int .i64 0) (.int .i64 0) (.int .i64 0)
        have hB := below5 HB1.out (Nat.le_refl _) (.int .i64 0) (.int .i64 0) (.int .i64 0) (.int .i64 0) (.int .i64 0)
        generalize (((((w2.setCell ⟨w.heap.size, 0, none⟩ (.int .i64 0)).setCell ⟨w.heap.size, 1, none⟩ (.int .i64 0)).setCell ⟨w.heap.size, 2, none⟩ (.int .i64 0)).setCell ⟨w.heap.size, 3, none⟩ (.int .i64 0)).setCell ⟨w.heap.size, 4, none⟩ (.int .i64 0)) = Wz at *
        have q0 := blkCell hf 0 _ rfl
        have q1 := blkCell hf 1 _ rfl
        have q2 := blkCell hf 2 _ rfl
        have q3 := blkCell hf 3 _ rfl
        have q4 := blkCell hf 4 _ rfl
        exact bodyPost_ret (v := .tuple #[.agg #[.int .i64 0, .int .i64 0, .int .i64 0, .int .i64 0, .int .i64 0], .int .i64 5]) (by simp [results, Tryz.results43, go_sem, q0, q1, q2, q3, q4]) rfl ⟨rfl, hB⟩
      · have h3' : ¬ ct < 1 := by omega
        have h4' : (k != 1) = true := by simpa using h4
        go_enter Tryz.func43, Tryz.ntmps43
        go_wp2_with fail
        (first | go_at_call 54 | skip)
        refine (hS _).mono ?_
        rintro e w1 ⟨rfl, hb1⟩
        have HZ2 : Hid (∀ W, Below (w1.alloc (Obj.cells #[.int .i64 k, .string a, .int .i64 v] 108)).heap.size (w1.alloc (Obj.cells #[.int .i64 k, .string a, .int .i64 v] 108)) W → W.heap[w.heap.size]? = some (.cells #[.int .i64 0, .int .i64 0, .int .i64 0, .int .i64 0, .int .i64 0] 91 (0, 0)) ∧ W.heap[w1.heap.size]? = some (.cells #[.int .i64 k, .string a, .int .i64 v] 108 (0, 0)) ∧ Below w.heap.size w W) := fun W hW => ⟨HZ.out W (chain hb1 (chain (below_alloc _ _) hW)), (hW.block w1.heap.size (by simp)).trans (heapNew _ _), chain (below_alloc _ _) (chain hb1 (chain (below_alloc _ _) hW))⟩
        clear hb1
        go_wp2_with fail
        (first | go_at_call 18 | skip)
        refine (HX.out _ (HZ2.out _ (Below.refl _ _)).2.2).mono ?_
        rintro e w2 ⟨rfl, hb2⟩
        have HZ1 : Hid (w2.heap[w.heap.size]? = some (.cells #[.int .i64 0, .int .i64 0, .int .i64 0, .int .i64 0, .int .i64 0] 91 (0, 0))) := (HZ2.out w2 hb2).1
        have HB1 : Hid (Below w.heap.size w w2) := (HZ2.out w2 hb2).2.2
        have u0 := blkCell (HZ2.out w2 hb2).2.1 0 _ rfl
        have u1 := blkCell (HZ2.out w2 hb2).2.1 1 _ rfl
        have u2 := blkCell (HZ2.out w2 hb2).2.1 2 _ rfl
        have hlu := blkLt (HZ2.out w2 hb2).2.1
        have z0 := blkFree HZ1.out 0
        have z1 := blkFree HZ1.out 1
        have z2 := blkFree HZ1.out 2
        have z3 := blkFree HZ1.out 3
        have z4 := blkFree HZ1.out 4
        have y0 := blkCell HZ1.out 0 _ rfl
        have y1 := blkCell HZ1.out 1 _ rfl
        have y2 := blkCell HZ1.out 2 _ rfl
        have y3 := blkCell HZ1.out 3 _ rfl
        have y4 := blkCell HZ1.out 4 _ rfl
        have hlt := blkLt HZ1.out
        clear hb2
        go_wp2
        have hf := fin5 HZ1.out (.int .i64 0) (.int .i64 0) (.int .i64 0) (.int .i64 0) (.int .i64 0)
        have hB := below5 HB1.out (Nat.le_refl _) (.int .i64 0) (.int .i64 0) (.int .i64 0) (.int .i64 0) (.int .i64 0)
        generalize (((((w2.setCell ⟨w.heap.size, 0, none⟩ (.int .i64 0)).setCell ⟨w.heap.size, 1, none⟩ (.int .i64 0)).setCell ⟨w.heap.size, 2, none⟩ (.int .i64 0)).setCell ⟨w.heap.size, 3, none⟩ (.int .i64 0)).setCell ⟨w.heap.size, 4, none⟩ (.int .i64 0)) = Wz at *
        have q0 := blkCell hf 0 _ rfl
        have q1 := blkCell hf 1 _ rfl
        have q2 := blkCell hf 2 _ rfl
        have q3 := blkCell hf 3 _ rfl
        have q4 := blkCell hf 4 _ rfl
        exact bodyPost_ret (v := .tuple #[.agg #[.int .i64 0, .int .i64 0, .int .i64 0, .int .i64 0, .int .i64 0], .int .i64 5]) (by simp [results, Tryz.results43, go_sem, q0, q1, q2, q3, q4]) rfl ⟨rfl, hB⟩
  · subst h1
    have hx0 : ¬ ix < 0 := by omega
    obtain ⟨m, rfl⟩ : ∃ m : Nat, ix = (m : Int) := ⟨ix.toNat, by omega⟩
    have hm : m < its.length := by omega
    have hm' : (m : Int) < (its.length : Int) := by omega
    have hsi : its.getD m zIt = si := by have := HSI.out; rw [Int.toNat_natCast] at this; exact this.symm
    have hN : ItN si := by rw [← hsi]; exact getIt HOK.out hm
    rcases HR.out with h | ⟨b0, o0, hia0, hB0, hia⟩
    · rw [h] at hm; simp at hm
    subst hia0
    clear hrg HSI hix
    obtain ⟨x, pr, dp, cl, ag⟩ := si
    obtain ⟨⟨n1, n2⟩, ⟨n3, n4⟩, _, _⟩ := hN
    dsimp only at n1 n2 n3 n4 ⊢
    obtain ⟨g1, g2, g3⟩ := h3
    have hA := fun w => amountOf_any x pr dp cl ag k a v ct ⟨n1, n2⟩ ⟨g1, g2⟩ w
    generalize amtM k v pr ct = am at *
    have hd1 : 0 ≤ dp * ct := Int.mul_nonneg n3 (by omega)
    have hd2 : dp * ct ≤ 1000000 * 99 := Int.mul_le_mul n4 g2 (by omega) (by omega)
    have hwd : IntKind.i64.wrap (dp * ct) = dp * ct := wrap_id _ (by omega) (by omega)
    clear hd1 hd2
    have q1 : ¬ ct < 1 := by omega
    have q2 : ¬ 99 < ct := by omega
    rcases (by omega : ¬ 1 < ct ∨ (1 < ct ∧ k = 1)) with h4 | ⟨h4, h5⟩
    · clear g3
      go_enter Tryz.func43, Tryz.ntmps43
      go_wp2_with fail
      (first | go_at_call 54 | skip)
      refine (hS _).mono ?_
      rintro e w1 ⟨rfl, hb1⟩
      have HZ2 : Hid (∀ W, Below (w1.alloc (Obj.cells #[.int .i64 k, .string a, .int .i64 v] 108)).heap.size (w1.alloc (Obj.cells #[.int .i64 k, .string a, .int .i64 v] 108)) W → W.heap[w.heap.size]? = some (.cells #[.int .i64 0, .int .i64 0, .int .i64 0, .int .i64 0, .int .i64 0] 91 (0, 0)) ∧ W.heap[w1.heap.size]? = some (.cells #[.int .i64 k, .string a, .int .i64 v] 108 (0, 0)) ∧ Below w.heap.size w W) := fun W hW => ⟨HZ.out W (chain hb1 (chain (below_alloc _ _) hW)), (hW.block w1.heap.size (by simp)).trans (heapNew _ _), chain (below_alloc _ _) (chain hb1 (chain (below_alloc _ _) hW))⟩
      clear hb1
      go_wp2_with fail
      (first | go_at_call 18 | skip)
      refine (HX.out _ (HZ2.out _ (Below.refl _ _)).2.2).mono ?_
      rintro e w2 ⟨rfl, hb2⟩
      have HZ1 : Hid (w2.heap[w.heap.size]? = some (.cells #[.int .i64 0, .int .i64 0, .int .i64 0, .int .i64 0, .int .i64 0] 91 (0, 0))) := (HZ2.out w2 hb2).1
      have HB1 : Hid (Below w.heap.size w w2) := (HZ2.out w2 hb2).2.2
      have u0 := blkCell (HZ2.out w2 hb2).2.1 0 _ rfl
      have u1 := blkCell (HZ2.out w2 hb2).2.1 1 _ rfl
      have u2 := blkCell (HZ2.out w2 hb2).2.1 2 _ rfl
      have hlu := blkLt (HZ2.out w2 hb2).2.1
      have HZ3 : Hid (∀ W, Below w2.heap.size w2 W → W.heap[w.heap.size]? = some (.cells #[.int .i64 0, .int .i64 0, .int .i64 0, .int .i64 0, .int .i64 0] 91 (0, 0)) ∧ W.heap[w1.heap.size]? = some (.cells #[.int .i64 k, .string a, .int .i64 v] 108 (0, 0)) ∧ Below w.heap.size w W) := fun W hW => HZ2.out W (chain hb2 hW)
      obtain ⟨c0, c1, c2, c3, c4⟩ := (hia.below (HZ2.out w2 hb2).2.2 hB0) m hm
      rw [hsi] at c0 c1 c2 c3 c4
      dsimp only at c0 c1 c2 c3 c4
      clear hb2 HZ1 HB1 HZ2
      go_wp2_with fail
      clear c0 c1 c2 c3 c4 u0 u1 u2 hlu
      generalize hW3 : (w2.alloc (Obj.cells #[.string x, .int .i64 pr, .int .i64 dp, .int .i64 cl, .int .i64 ag] 60)) = W3 at *
      have HW3 : Hid (∀ W, Below W3.heap.size W3 W → W.heap[w.heap.size]? = some (.cells #[.int .i64 0, .int .i64 0, .int .i64 0, .int .i64 0, .int .i64 0] 91 (0, 0)) ∧ W.heap[w1.heap.size]? = some (.cells #[.int .i64 k, .string a, .int .i64 v] 108 (0, 0)) ∧ W.heap[w2.heap.size]? = some (.cells #[.string x, .int .i64 pr, .int .i64 dp, .int .i64 cl, .int .i64 ag] 60 (0, 0)) ∧ Below w.heap.size w W) := fun W hW => by
        subst hW3
        obtain ⟨g1, g2, g3⟩ := HZ3.out _ (chain (below_alloc _ _) hW)
        exact ⟨g1, g2, (hW.block w2.heap.size (by simp)).trans (heapNew _ _), g3⟩
      have hs3 : w2.heap.size < W3.heap.size := by rw [← hW3]; simp
      clear hW3
      refine wp_region_held_drew (S := fun W => Below W3.heap.size W3 W) (by kernel_rfl) (below_drew _) (fun hH => ?_)
      refine wpAnyH_take (i := 0) (v := .int .i64 (m : Int)) rfl (by kernel_rfl) (by kernel_rfl) (by kernel_rfl) (fun _ _ _ h => h) (Or.inl ⟨by rfl, fun w hSw => by go_simp⟩) hH ?_
      refine wpAnyH_take (i := 1) (v := .int .i64 ct) rfl (by kernel_rfl) (by kernel_rfl) (by kernel_rfl) (fun _ _ _ h => h) (Or.inl ⟨by rfl, fun w hSw => by go_simp⟩) hH ?_
      try simp only [Act.put, List.setIfInBounds_toArray, List.set_cons_zero, List.set_cons_succ, List.getElem_toArray, List.getElem_cons_succ, List.getElem_cons_zero]
      refine wpAnyH_take (i := 2) (v := .agg #[.string x, .int .i64 pr, .int .i64 dp, .int .i64 cl, .int .i64 ag]) rfl (by kernel_rfl) (by kernel_rfl) (by kernel_rfl) (fun _ _ _ h => h) (Or.inl ⟨by rfl, fun w hSw => by obtain ⟨g1, g2, g3, g4⟩ := HW3.out w hSw; have f0 := blkCell g3 0 _ rfl; have f1 := blkCell g3 1 _ rfl; have f2 := blkCell g3 2 _ rfl; have f3 := blkCell g3 3 _ rfl; have f4 := blkCell g3 4 _ rfl; clear g1 g2 g3 g4; go_simp⟩) hH ?_
      try simp only [Act.put, List.setIfInBounds_toArray, List.set_cons_zero, List.set_cons_succ, List.getElem_toArray, List.getElem_cons_succ, List.getElem_cons_zero]
      refine wpAnyH_take (i := 3) (v := .agg #[.int .i64 k, .string a, .int .i64 v]) rfl (by kernel_rfl) (by kernel_rfl) (by kernel_rfl) (fun _ _ _ h => h) (Or.inl ⟨by rfl, fun w hSw => by obtain ⟨g1, g2, g3, g4⟩ := HW3.out w hSw; have f0 := blkCell g2 0 _ rfl; have f1 := blkCell g2 1 _ rfl; have f2 := blkCell g2 2 _ rfl; clear g1 g2 g3 g4; go_simp⟩) hH ?_
      try simp only [Act.put, List.setIfInBounds_toArray, List.set_cons_zero, List.set_cons_succ, List.getElem_toArray, List.getElem_cons_succ, List.getElem_cons_zero]
      refine wpAnyH_take (i := 4) (v := .int .i64 ct) rfl (by kernel_rfl) (by kernel_rfl) (by kernel_rfl) (fun _ _ _ h => h) (Or.inl ⟨by rfl, fun w hSw => by go_simp⟩) hH ?_
      try simp only [Act.put, List.setIfInBounds_toArray, List.set_cons_zero, List.set_cons_succ, List.getElem_toArray, List.getElem_cons_succ, List.getElem_cons_zero]
      refine wpAnyH_take (i := 6) (v := .pointer (some ⟨w2.heap.size, 2, none⟩)) rfl (by kernel_rfl) (by kernel_rfl) (by kernel_rfl) (fun _ _ _ h => h) (Or.inl ⟨by rfl, fun w hSw => by go_simp⟩) hH ?_
      try simp only [Act.put, List.setIfInBounds_toArray, List.set_cons_zero, List.set_cons_succ, List.getElem_toArray, List.getElem_cons_succ, List.getElem_cons_zero]
      refine wpAnyH_take (i := 7) (v := .int .i64 dp) rfl (by kernel_rfl) (by kernel_rfl) (by kernel_rfl) (fun _ _ _ h => h) (Or.inl ⟨by rfl, fun w hSw => by obtain ⟨g1, g2, g3, g4⟩ := HW3.out w hSw; have f2 := blkCell g3 2 _ rfl; clear g1 g2 g3 g4; go_simp⟩) hH ?_
      try simp only [Act.put, List.setIfInBounds_toArray, List.set_cons_zero, List.set_cons_succ, List.getElem_toArray, List.getElem_cons_succ, List.getElem_cons_zero]
      refine wpAnyH_take (i := 8) (v := .int .i64 ct) rfl (by kernel_rfl) (by kernel_rfl) (by kernel_rfl) (fun _ _ _ h => h) (Or.inl ⟨by rfl, fun w hSw => by go_simp⟩) hH ?_
      try simp only [Act.put, List.setIfInBounds_toArray, List.set_cons_zero, List.set_cons_succ, List.getElem_toArray, List.getElem_cons_succ, List.getElem_cons_zero]
      refine wpAnyH_take (i := 9) (v := .int .i64 (dp * ct)) rfl (by kernel_rfl) (by kernel_rfl) (by kernel_rfl) (fun _ _ _ h => h) (Or.inl ⟨by rfl, fun w hSw => by go_simp⟩) hH ?_
      try simp only [Act.put, List.setIfInBounds_toArray, List.set_cons_zero, List.set_cons_succ, List.getElem_toArray, List.getElem_cons_succ, List.getElem_cons_zero]
      refine wpAnyH_ready (rs := [5, 11]) (by kernel_rfl) (by simp) ?_
      refine AllReadyH.cons rfl (fun K hK => ?_) (AllReadyH.cons rfl (fun K hK => ?_) AllReadyH.nil)
      · skip
        go_simp
        go_at_call 55
        refine (hA _).mono ?_
        rintro e w5 ⟨rfl, hb5⟩
        have hw5 := chain hH hb5
        refine hK.out _ _ hw5 (fun _ => ?_)
        clear hK K
        try simp only [Act.put, List.setIfInBounds_toArray, List.set_cons_zero, List.set_cons_succ, List.getElem_toArray, List.getElem_cons_succ, List.getElem_cons_zero]
        refine wpAnyH_take (i := 10) (v := .agg #[.int .i64 (m : Int), .int .i64 ct, .int .i64 am, .int .i64 (dp * ct)]) rfl (by kernel_rfl) (by kernel_rfl) (by kernel_rfl) (fun _ _ _ h => h) (Or.inl ⟨by rfl, fun w hSw => by go_simp⟩) hw5 ?_
        try simp only [Act.put, List.setIfInBounds_toArray, List.set_cons_zero, List.set_cons_succ, List.getElem_toArray, List.getElem_cons_succ, List.getElem_cons_zero]
        refine wpAnyH_ready (rs := [11]) (by kernel_rfl) (by simp) ?_
        refine AllReadyH.cons rfl (fun K hK => ?_) AllReadyH.nil
        go_simp
        have hw6 : Below W3.heap.size W3 (w5.alloc (Obj.cells #[.int .i64 0, .int .i64 0, .int .i64 0, .int .i64 0] 82)) := chain hw5 (below_alloc _ _)
        have HL6 : Hid ((w5.alloc (Obj.cells #[.int .i64 0, .int .i64 0, .int .i64 0, .int .i64 0] 82)).heap[w5.heap.size]? = some (.cells #[.int .i64 0, .int .i64 0, .int .i64 0, .int .i64 0] 82 (0, 0))) := heapNew _ _
        have hbl : W3.heap.size ≤ w5.heap.size := hw5.size
        generalize (w5.alloc (Obj.cells #[.int .i64 0, .int .i64 0, .int .i64 0, .int .i64 0] 82)) = W6 at *
        refine hK.out _ _ hw6 (fun _ => ?_)
        clear hK K
        try simp only [Act.put, List.setIfInBounds_toArray, List.set_cons_zero, List.set_cons_succ, List.getElem_toArray, List.getElem_cons_succ, List.getElem_cons_zero]
        generalize w5.heap.size = bl at *
        refine wpAnyH_ready (rs := [12]) (by kernel_rfl) (by simp) ?_
        refine AllReadyH.cons rfl (fun K hK => ?_) AllReadyH.nil
        have s0 := blkFree HL6.out 0
        have s1 := blkFree HL6.out 1
        have s2 := blkFree HL6.out 2
        have s3 := blkFree HL6.out 3
        have r0 := blkCell HL6.out 0 _ rfl
        have r1 := blkCell HL6.out 1 _ rfl
        have r2 := blkCell HL6.out 2 _ rfl
        have r3 := blkCell HL6.out 3 _ rfl
        have hltl := blkLt HL6.out
        go_simp
        have HL7 : Hid (((((W6.setCell ⟨bl, 0, none⟩ (.int .i64 (m : Int))).setCell ⟨bl, 1, none⟩ (.int .i64 ct)).setCell ⟨bl, 2, none⟩ (.int .i64 am)).setCell ⟨bl, 3, none⟩ (.int .i64 (dp * ct))).heap[bl]? = some (.cells #[.int .i64 (m : Int), .int .i64 ct, .int .i64 am, .int .i64 (dp * ct)] 82 (0, 0))) := fin4 HL6.out _ _ _ _
        have hw7 : Below W3.heap.size W3 ((((W6.setCell ⟨bl, 0, none⟩ (.int .i64 (m : Int))).setCell ⟨bl, 1, none⟩ (.int .i64 ct)).setCell ⟨bl, 2, none⟩ (.int .i64 am)).setCell ⟨bl, 3, none⟩ (.int .i64 (dp * ct))) := below4 hw6 hbl _ _ _ _
        clear s0 r0 s1 r1 s2 r2 s3 r3 hltl
        generalize ((((W6.setCell ⟨bl, 0, none⟩ (.int .i64 (m : Int))).setCell ⟨bl, 1, none⟩ (.int .i64 ct)).setCell ⟨bl, 2, none⟩ (.int .i64 am)).setCell ⟨bl, 3, none⟩ (.int .i64 (dp * ct))) = W7 at *
        refine hK.out _ _ hw7 (fun _ => ?_)
        clear hK K
        try simp only [Act.put, List.setIfInBounds_toArray, List.set_cons_zero, List.set_cons_succ, List.getElem_toArray, List.getElem_cons_succ, List.getElem_cons_zero]
        refine wpAnyH_done (by kernel_rfl) ?_ _
        try simp
        obtain ⟨k1, k2, k3, k4⟩ := HW3.out W7 hw7
        have HZ1 : Hid (W7.heap[w.heap.size]? = some (.cells #[.int .i64 0, .int .i64 0, .int .i64 0, .int .i64 0, .int .i64 0] 91 (0, 0))) := k1
        have HB1 : Hid (Below w.heap.size w W7) := k4
        have r0 := blkCell HL7.out 0 _ rfl
        have r1 := blkCell HL7.out 1 _ rfl
        have r2 := blkCell HL7.out 2 _ rfl
        have r3 := blkCell HL7.out 3 _ rfl
        have r5 := blkCell k3 4 _ rfl
        have z0 := blkFree HZ1.out 0
        have z1 := blkFree HZ1.out 1
        have z2 := blkFree HZ1.out 2
        have z3 := blkFree HZ1.out 3
        have z4 := blkFree HZ1.out 4
        have y0 := blkCell HZ1.out 0 _ rfl
        have y1 := blkCell HZ1.out 1 _ rfl
        have y2 := blkCell HZ1.out 2 _ rfl
        have y3 := blkCell HZ1.out 3 _ rfl
        have y4 := blkCell HZ1.out 4 _ rfl
        have hlt := blkLt HZ1.out
        clear k1 k2 k3 k4
        go_wp2
        have hf := fin5 HZ1.out (.int .i64 (m : Int)) (.int .i64 ct) (.int .i64 am) (.int .i64 (dp * ct)) (.int .i64 ag)
        have hB := below5 HB1.out (Nat.le_refl _) (.int .i64 (m : Int)) (.int .i64 ct) (.int .i64 am) (.int .i64 (dp * ct)) (.int .i64 ag)
        generalize (((((W7.setCell ⟨w.heap.size, 0, none⟩ (.int .i64 (m : Int))).setCell ⟨w.heap.size, 1, none⟩ (.int .i64 ct)).setCell ⟨w.heap.size, 2, none⟩ (.int .i64 am)).setCell ⟨w.heap.size, 3, none⟩ (.int .i64 (dp * ct))).setCell ⟨w.heap.size, 4, none⟩ (.int .i64 ag)) = Wz at *
        have q0 := blkCell hf 0 _ rfl
        have q1 := blkCell hf 1 _ rfl
        have q2 := blkCell hf 2 _ rfl
        have q3 := blkCell hf 3 _ rfl
        have q4 := blkCell hf 4 _ rfl
        exact bodyPost_ret (v := .tuple #[.agg #[.int .i64 (m : Int), .int .i64 ct, .int .i64 am, .int .i64 (dp * ct), .int .i64 ag], .int .i64 0]) (by simp [results, Tryz.results43, go_sem, q0, q1, q2, q3, q4]) rfl ⟨rfl, hB⟩
      · skip
        go_simp
        have hw4 : Below W3.heap.size W3 (W3.alloc (Obj.cells #[.int .i64 0, .int .i64 0, .int .i64 0, .int .i64 0] 82)).drew := chain (below_alloc _ _) (below_drew _)
        have HL4 : Hid ((W3.alloc (Obj.cells #[.int .i64 0, .int .i64 0, .int .i64 0, .int .i64 0] 82)).drew.heap[W3.heap.size]? = some (.cells #[.int .i64 0, .int .i64 0, .int .i64 0, .int .i64 0] 82 (0, 0))) := heapNew W3 _
        generalize (W3.alloc (Obj.cells #[.int .i64 0, .int .i64 0, .int .i64 0, .int .i64 0] 82)).drew = W4 at *
        refine hK.out _ _ hw4 (fun _ => ?_)
        clear hK K
        try simp only [Act.put, List.setIfInBounds_toArray, List.set_cons_zero, List.set_cons_succ, List.getElem_toArray, List.getElem_cons_succ, List.getElem_cons_zero]
        refine wpAnyH_ready (rs := [5]) (by kernel_rfl) (by simp) ?_
        refine AllReadyH.cons rfl (fun K hK => ?_) AllReadyH.nil
        go_simp
        go_at_call 55
        refine (hA _).mono ?_
        rintro e W6 ⟨rfl, hb5⟩
        have hw6 := chain hw4 hb5
        have HL6 : Hid (W6.heap[W3.heap.size]? = some (.cells #[.int .i64 0, .int .i64 0, .int .i64 0, .int .i64 0] 82 (0, 0))) := (hb5.block _ (blkLt HL4.out)).trans HL4.out
        have hbl : W3.heap.size ≤ W3.heap.size := Nat.le_refl _
        refine hK.out _ _ hw6 (fun _ => ?_)
        clear hK K
        try simp only [Act.put, List.setIfInBounds_toArray, List.set_cons_zero, List.set_cons_succ, List.getElem_toArray, List.getElem_cons_succ, List.getElem_cons_zero]
        refine wpAnyH_take (i := 10) (v := .agg #[.int .i64 (m : Int), .int .i64 ct, .int .i64 am, .int .i64 (dp * ct)]) rfl (by kernel_rfl) (by kernel_rfl) (by kernel_rfl) (fun _ _ _ h => h) (Or.inl ⟨by rfl, fun w hSw => by go_simp⟩) hw6 ?_
        try simp only [Act.put, List.setIfInBounds_toArray, List.set_cons_zero, List.set_cons_succ, List.getElem_toArray, List.getElem_cons_succ, List.getElem_cons_zero]
        refine wpAnyH_ready (rs := [12]) (by kernel_rfl) (by simp) ?_
        refine AllReadyH.cons rfl (fun K hK => ?_) AllReadyH.nil
        have s0 := blkFree HL6.out 0
        have s1 := blkFree HL6.out 1
        have s2 := blkFree HL6.out 2
        have s3 := blkFree HL6.out 3
        have r0 := blkCell HL6.out 0 _ rfl
        have r1 := blkCell HL6.out 1 _ rfl
        have r2 := blkCell HL6.out 2 _ rfl
        have r3 := blkCell HL6.out 3 _ rfl
        have hltl := blkLt HL6.out
        go_simp
        have HL7 : Hid (((((W6.setCell ⟨W3.heap.size, 0, none⟩ (.int .i64 (m : Int))).setCell ⟨W3.heap.size, 1, none⟩ (.int .i64 ct)).setCell ⟨W3.heap.size, 2, none⟩ (.int .i64 am)).setCell ⟨W3.heap.size, 3, none⟩ (.int .i64 (dp * ct))).heap[W3.heap.size]? = some (.cells #[.int .i64 (m : Int), .int .i64 ct, .int .i64 am, .int .i64 (dp * ct)] 82 (0, 0))) := fin4 HL6.out _ _ _ _
        have hw7 : Below W3.heap.size W3 ((((W6.setCell ⟨W3.heap.size, 0, none⟩ (.int .i64 (m : Int))).setCell ⟨W3.heap.size, 1, none⟩ (.int .i64 ct)).setCell ⟨W3.heap.size, 2, none⟩ (.int .i64 am)).setCell ⟨W3.heap.size, 3, none⟩ (.int .i64 (dp * ct))) := below4 hw6 hbl _ _ _ _
        clear s0 r0 s1 r1 s2 r2 s3 r3 hltl
        generalize ((((W6.setCell ⟨W3.heap.size, 0, none⟩ (.int .i64 (m : Int))).setCell ⟨W3.heap.size, 1, none⟩ (.int .i64 ct)).setCell ⟨W3.heap.size, 2, none⟩ (.int .i64 am)).setCell ⟨W3.heap.size, 3, none⟩ (.int .i64 (dp * ct))) = W7 at *
        refine hK.out _ _ hw7 (fun _ => ?_)
        clear hK K
        try simp only [Act.put, List.setIfInBounds_toArray, List.set_cons_zero, List.set_cons_succ, List.getElem_toArray, List.getElem_cons_succ, List.getElem_cons_zero]
        refine wpAnyH_done (by kernel_rfl) ?_ _
        try simp
        obtain ⟨k1, k2, k3, k4⟩ := HW3.out W7 hw7
        have HZ1 : Hid (W7.heap[w.heap.size]? = some (.cells #[.int .i64 0, .int .i64 0, .int .i64 0, .int .i64 0, .int .i64 0] 91 (0, 0))) := k1
        have HB1 : Hid (Below w.heap.size w W7) := k4
        have r0 := blkCell HL7.out 0 _ rfl
        have r1 := blkCell HL7.out 1 _ rfl
        have r2 := blkCell HL7.out 2 _ rfl
        have r3 := blkCell HL7.out 3 _ rfl
        have r5 := blkCell k3 4 _ rfl
        have z0 := blkFree HZ1.out 0
        have z1 := blkFree HZ1.out 1
        have z2 := blkFree HZ1.out 2
        have z3 := blkFree HZ1.out 3
        have z4 := blkFree HZ1.out 4
        have y0 := blkCell HZ1.out 0 _ rfl
        have y1 := blkCell HZ1.out 1 _ rfl
        have y2 := blkCell HZ1.out 2 _ rfl
        have y3 := blkCell HZ1.out 3 _ rfl
        have y4 := blkCell HZ1.out 4 _ rfl
        have hlt := blkLt HZ1.out
        clear k1 k2 k3 k4
        go_wp2
        have hf := fin5 HZ1.out (.int .i64 (m : Int)) (.int .i64 ct) (.int .i64 am) (.int .i64 (dp * ct)) (.int .i64 ag)
        have hB := below5 HB1.out (Nat.le_refl _) (.int .i64 (m : Int)) (.int .i64 ct) (.int .i64 am) (.int .i64 (dp * ct)) (.int .i64 ag)
        generalize (((((W7.setCell ⟨w.heap.size, 0, none⟩ (.int .i64 (m : Int))).setCell ⟨w.heap.size, 1, none⟩ (.int .i64 ct)).setCell ⟨w.heap.size, 2, none⟩ (.int .i64 am)).setCell ⟨w.heap.size, 3, none⟩ (.int .i64 (dp * ct))).setCell ⟨w.heap.size, 4, none⟩ (.int .i64 ag)) = Wz at *
        have q0 := blkCell hf 0 _ rfl
        have q1 := blkCell hf 1 _ rfl
        have q2 := blkCell hf 2 _ rfl
        have q3 := blkCell hf 3 _ rfl
        have q4 := blkCell hf 4 _ rfl
        exact bodyPost_ret (v := .tuple #[.agg #[.int .i64 (m : Int), .int .i64 ct, .int .i64 am, .int .i64 (dp * ct), .int .i64 ag], .int .i64 0]) (by simp [results, Tryz.results43, go_sem, q0, q1, q2, q3, q4]) rfl ⟨rfl, hB⟩
    · clear g3
      have h5' : (k != 1) = false := by simp [h5]
      clear h5
      go_enter Tryz.func43, Tryz.ntmps43
      go_wp2_with fail
      (first | go_at_call 54 | skip)
      refine (hS _).mono ?_
      rintro e w1 ⟨rfl, hb1⟩
      have HZ2 : Hid (∀ W, Below (w1.alloc (Obj.cells #[.int .i64 k, .string a, .int .i64 v] 108)).heap.size (w1.alloc (Obj.cells #[.int .i64 k, .string a, .int .i64 v] 108)) W → W.heap[w.heap.size]? = some (.cells #[.int .i64 0, .int .i64 0, .int .i64 0, .int .i64 0, .int .i64 0] 91 (0, 0)) ∧ W.heap[w1.heap.size]? = some (.cells #[.int .i64 k, .string a, .int .i64 v] 108 (0, 0)) ∧ Below w.heap.size w W) := fun W hW => ⟨HZ.out W (chain hb1 (chain (below_alloc _ _) hW)), (hW.block w1.heap.size (by simp)).trans (heapNew _ _), chain (below_alloc _ _) (chain hb1 (chain (below_alloc _ _) hW))⟩
      clear hb1
      go_wp2_with fail
      (first | go_at_call 18 | skip)
      refine (HX.out _ (HZ2.out _ (Below.refl _ _)).2.2).mono ?_
      rintro e w2 ⟨rfl, hb2⟩
      have HZ1 : Hid (w2.heap[w.heap.size]? = some (.cells #[.int .i64 0, .int .i64 0, .int .i64 0, .int .i64 0, .int .i64 0] 91 (0, 0))) := (HZ2.out w2 hb2).1
      have HB1 : Hid (Below w.heap.size w w2) := (HZ2.out w2 hb2).2.2
      have u0 := blkCell (HZ2.out w2 hb2).2.1 0 _ rfl
      have u1 := blkCell (HZ2.out w2 hb2).2.1 1 _ rfl
      have u2 := blkCell (HZ2.out w2 hb2).2.1 2 _ rfl
      have hlu := blkLt (HZ2.out w2 hb2).2.1
      have HZ3 : Hid (∀ W, Below w2.heap.size w2 W → W.heap[w.heap.size]? = some (.cells #[.int .i64 0, .int .i64 0, .int .i64 0, .int .i64 0, .int .i64 0] 91 (0, 0)) ∧ W.heap[w1.heap.size]? = some (.cells #[.int .i64 k, .string a, .int .i64 v] 108 (0, 0)) ∧ Below w.heap.size w W) := fun W hW => HZ2.out W (chain hb2 hW)
      obtain ⟨c0, c1, c2, c3, c4⟩ := (hia.below (HZ2.out w2 hb2).2.2 hB0) m hm
      rw [hsi] at c0 c1 c2 c3 c4
      dsimp only at c0 c1 c2 c3 c4
      clear hb2 HZ1 HB1 HZ2
      go_wp2_with fail
      clear c0 c1 c2 c3 c4 u0 u1 u2 hlu
      generalize hW3 : (w2.alloc (Obj.cells #[.string x, .int .i64 pr, .int .i64 dp, .int .i64 cl, .int .i64 ag] 60)) = W3 at *
      have HW3 : Hid (∀ W, Below W3.heap.size W3 W → W.heap[w.heap.size]? = some (.cells #[.int .i64 0, .int .i64 0, .int .i64 0, .int .i64 0, .int .i64 0] 91 (0, 0)) ∧ W.heap[w1.heap.size]? = some (.cells #[.int .i64 k, .string a, .int .i64 v] 108 (0, 0)) ∧ W.heap[w2.heap.size]? = some (.cells #[.string x, .int .i64 pr, .int .i64 dp, .int .i64 cl, .int .i64 ag] 60 (0, 0)) ∧ Below w.heap.size w W) := fun W hW => by
        subst hW3
        obtain ⟨g1, g2, g3⟩ := HZ3.out _ (chain (below_alloc _ _) hW)
        exact ⟨g1, g2, (hW.block w2.heap.size (by simp)).trans (heapNew _ _), g3⟩
      have hs3 : w2.heap.size < W3.heap.size := by rw [← hW3]; simp
      clear hW3
      refine wp_region_held_drew (S := fun W => Below W3.heap.size W3 W) (by kernel_rfl) (below_drew _) (fun hH => ?_)
      refine wpAnyH_take (i := 0) (v := .int .i64 (m : Int)) rfl (by kernel_rfl) (by kernel_rfl) (by kernel_rfl) (fun _ _ _ h => h) (Or.inl ⟨by rfl, fun w hSw => by go_simp⟩) hH ?_
      refine wpAnyH_take (i := 1) (v := .int .i64 ct) rfl (by kernel_rfl) (by kernel_rfl) (by kernel_rfl) (fun _ _ _ h => h) (Or.inl ⟨by rfl, fun w hSw => by go_simp⟩) hH ?_
      try simp only [Act.put, List.setIfInBounds_toArray, List.set_cons_zero, List.set_cons_succ, List.getElem_toArray, List.getElem_cons_succ, List.getElem_cons_zero]
      refine wpAnyH_take (i := 2) (v := .agg #[.string x, .int .i64 pr, .int .i64 dp, .int .i64 cl, .int .i64 ag]) rfl (by kernel_rfl) (by kernel_rfl) (by kernel_rfl) (fun _ _ _ h => h) (Or.inl ⟨by rfl, fun w hSw => by obtain ⟨g1, g2, g3, g4⟩ := HW3.out w hSw; have f0 := blkCell g3 0 _ rfl; have f1 := blkCell g3 1 _ rfl; have f2 := blkCell g3 2 _ rfl; have f3 := blkCell g3 3 _ rfl; have f4 := blkCell g3 4 _ rfl; clear g1 g2 g3 g4; go_simp⟩) hH ?_
      try simp only [Act.put, List.setIfInBounds_toArray, List.set_cons_zero, List.set_cons_succ, List.getElem_toArray, List.getElem_cons_succ, List.getElem_cons_zero]
      refine wpAnyH_take (i := 3) (v := .agg #[.int .i64 k, .string a, .int .i64 v]) rfl (by kernel_rfl) (by kernel_rfl) (by kernel_rfl) (fun _ _ _ h => h) (Or.inl ⟨by rfl, fun w hSw => by obtain ⟨g1, g2, g3, g4⟩ := HW3.out w hSw; have f0 := blkCell g2 0 _ rfl; have f1 := blkCell g2 1 _ rfl; have f2 := blkCell g2 2 _ rfl; clear g1 g2 g3 g4; go_simp⟩) hH ?_
      try simp only [Act.put, List.setIfInBounds_toArray, List.set_cons_zero, List.set_cons_succ, List.getElem_toArray, List.getElem_cons_succ, List.getElem_cons_zero]
      refine wpAnyH_take (i := 4) (v := .int .i64 ct) rfl (by kernel_rfl) (by kernel_rfl) (by kernel_rfl) (fun _ _ _ h => h) (Or.inl ⟨by rfl, fun w hSw => by go_simp⟩) hH ?_
      try simp only [Act.put, List.setIfInBounds_toArray, List.set_cons_zero, List.set_cons_succ, List.getElem_toArray, List.getElem_cons_succ, List.getElem_cons_zero]
      refine wpAnyH_take (i := 6) (v := .pointer (some ⟨w2.heap.size, 2, none⟩)) rfl (by kernel_rfl) (by kernel_rfl) (by kernel_rfl) (fun _ _ _ h => h) (Or.inl ⟨by rfl, fun w hSw => by go_simp⟩) hH ?_
      try simp only [Act.put, List.setIfInBounds_toArray, List.set_cons_zero, List.set_cons_succ, List.getElem_toArray, List.getElem_cons_succ, List.getElem_cons_zero]
      refine wpAnyH_take (i := 7) (v := .int .i64 dp) rfl (by kernel_rfl) (by kernel_rfl) (by kernel_rfl) (fun _ _ _ h => h) (Or.inl ⟨by rfl, fun w hSw => by obtain ⟨g1, g2, g3, g4⟩ := HW3.out w hSw; have f2 := blkCell g3 2 _ rfl; clear g1 g2 g3 g4; go_simp⟩) hH ?_
      try simp only [Act.put, List.setIfInBounds_toArray, List.set_cons_zero, List.set_cons_succ, List.getElem_toArray, List.getElem_cons_succ, List.getElem_cons_zero]
      refine wpAnyH_take (i := 8) (v := .int .i64 ct) rfl (by kernel_rfl) (by kernel_rfl) (by kernel_rfl) (fun _ _ _ h => h) (Or.inl ⟨by rfl, fun w hSw => by go_simp⟩) hH ?_
      try simp only [Act.put, List.setIfInBounds_toArray, List.set_cons_zero, List.set_cons_succ, List.getElem_toArray, List.getElem_cons_succ, List.getElem_cons_zero]
      refine wpAnyH_take (i := 9) (v := .int .i64 (dp * ct)) rfl (by kernel_rfl) (by kernel_rfl) (by kernel_rfl) (fun _ _ _ h => h) (Or.inl ⟨by rfl, fun w hSw => by go_simp⟩) hH ?_
      try simp only [Act.put, List.setIfInBounds_toArray, List.set_cons_zero, List.set_cons_succ, List.getElem_toArray, List.getElem_cons_succ, List.getElem_cons_zero]
      refine wpAnyH_ready (rs := [5, 11]) (by kernel_rfl) (by simp) ?_
      refine AllReadyH.cons rfl (fun K hK => ?_) (AllReadyH.cons rfl (fun K hK => ?_) AllReadyH.nil)
      · skip
        go_simp
        go_at_call 55
        refine (hA _).mono ?_
        rintro e w5 ⟨rfl, hb5⟩
        have hw5 := chain hH hb5
        refine hK.out _ _ hw5 (fun _ => ?_)
        clear hK K
        try simp only [Act.put, List.setIfInBounds_toArray, List.set_cons_zero, List.set_cons_succ, List.getElem_toArray, List.getElem_cons_succ, List.getElem_cons_zero]
        refine wpAnyH_take (i := 10) (v := .agg #[.int .i64 (m : Int), .int .i64 ct, .int .i64 am, .int .i64 (dp * ct)]) rfl (by kernel_rfl) (by kernel_rfl) (by kernel_rfl) (fun _ _ _ h => h) (Or.inl ⟨by rfl, fun w hSw => by go_simp⟩) hw5 ?_
        try simp only [Act.put, List.setIfInBounds_toArray, List.set_cons_zero, List.set_cons_succ, List.getElem_toArray, List.getElem_cons_succ, List.getElem_cons_zero]
        refine wpAnyH_ready (rs := [11]) (by kernel_rfl) (by simp) ?_
        refine AllReadyH.cons rfl (fun K hK => ?_) AllReadyH.nil
        go_simp
        have hw6 : Below W3.heap.size W3 (w5.alloc (Obj.cells #[.int .i64 0, .int .i64 0, .int .i64 0, .int .i64 0] 82)) := chain hw5 (below_alloc _ _)
        have HL6 : Hid ((w5.alloc (Obj.cells #[.int .i64 0, .int .i64 0, .int .i64 0, .int .i64 0] 82)).heap[w5.heap.size]? = some (.cells #[.int .i64 0, .int .i64 0, .int .i64 0, .int .i64 0] 82 (0, 0))) := heapNew _ _
        have hbl : W3.heap.size ≤ w5.heap.size := hw5.size
        generalize (w5.alloc (Obj.cells #[.int .i64 0, .int .i64 0, .int .i64 0, .int .i64 0] 82)) = W6 at *
        refine hK.out _ _ hw6 (fun _ => ?_)
        clear hK K
        try simp only [Act.put, List.setIfInBounds_toArray, List.set_cons_zero, List.set_cons_succ, List.getElem_toArray, List.getElem_cons_succ, List.getElem_cons_zero]
        generalize w5.heap.size = bl at *
        refine wpAnyH_ready (rs := [12]) (by kernel_rfl) (by simp) ?_
        refine AllReadyH.cons rfl (fun K hK => ?_) AllReadyH.nil
        have s0 := blkFree HL6.out 0
        have s1 := blkFree HL6.out 1
        have s2 := blkFree HL6.out 2
        have s3 := blkFree HL6.out 3
        have r0 := blkCell HL6.out 0 _ rfl
        have r1 := blkCell HL6.out 1 _ rfl
        have r2 := blkCell HL6.out 2 _ rfl
        have r3 := blkCell HL6.out 3 _ rfl
        have hltl := blkLt HL6.out
        go_simp
        have HL7 : Hid (((((W6.setCell ⟨bl, 0, none⟩ (.int .i64 (m : Int))).setCell ⟨bl, 1, none⟩ (.int .i64 ct)).setCell ⟨bl, 2, none⟩ (.int .i64 am)).setCell ⟨bl, 3, none⟩ (.int .i64 (dp * ct))).heap[bl]? = some (.cells #[.int .i64 (m : Int), .int .i64 ct, .int .i64 am, .int .i64 (dp * ct)] 82 (0, 0))) := fin4 HL6.out _ _ _ _
        have hw7 : Below W3.heap.size W3 ((((W6.setCell ⟨bl, 0, none⟩ (.int .i64 (m : Int))).setCell ⟨bl, 1, none⟩ (.int .i64 ct)).setCell ⟨bl, 2, none⟩ (.int .i64 am)).setCell ⟨bl, 3, none⟩ (.int .i64 (dp * ct))) := below4 hw6 hbl _ _ _ _
        clear s0 r0 s1 r1 s2 r2 s3 r3 hltl
        generalize ((((W6.setCell ⟨bl, 0, none⟩ (.int .i64 (m : Int))).setCell ⟨bl, 1, none⟩ (.int .i64 ct)).setCell ⟨bl, 2, none⟩ (.int .i64 am)).setCell ⟨bl, 3, none⟩ (.int .i64 (dp * ct))) = W7 at *
        refine hK.out _ _ hw7 (fun _ => ?_)
        clear hK K
        try simp only [Act.put, List.setIfInBounds_toArray, List.set_cons_zero, List.set_cons_succ, List.getElem_toArray, List.getElem_cons_succ, List.getElem_cons_zero]
        refine wpAnyH_done (by kernel_rfl) ?_ _
        try simp
        obtain ⟨k1, k2, k3, k4⟩ := HW3.out W7 hw7
        have HZ1 : Hid (W7.heap[w.heap.size]? = some (.cells #[.int .i64 0, .int .i64 0, .int .i64 0, .int .i64 0, .int .i64 0] 91 (0, 0))) := k1
        have HB1 : Hid (Below w.heap.size w W7) := k4
        have r0 := blkCell HL7.out 0 _ rfl
        have r1 := blkCell HL7.out 1 _ rfl
        have r2 := blkCell HL7.out 2 _ rfl
        have r3 := blkCell HL7.out 3 _ rfl
        have r5 := blkCell k3 4 _ rfl
        have z0 := blkFree HZ1.out 0
        have z1 := blkFree HZ1.out 1
        have z2 := blkFree HZ1.out 2
        have z3 := blkFree HZ1.out 3
        have z4 := blkFree HZ1.out 4
        have y0 := blkCell HZ1.out 0 _ rfl
        have y1 := blkCell HZ1.out 1 _ rfl
        have y2 := blkCell HZ1.out 2 _ rfl
        have y3 := blkCell HZ1.out 3 _ rfl
        have y4 := blkCell HZ1.out 4 _ rfl
        have hlt := blkLt HZ1.out
        clear k1 k2 k3 k4
        go_wp2
        have hf := fin5 HZ1.out (.int .i64 (m : Int)) (.int .i64 ct) (.int .i64 am) (.int .i64 (dp * ct)) (.int .i64 ag)
        have hB := below5 HB1.out (Nat.le_refl _) (.int .i64 (m : Int)) (.int .i64 ct) (.int .i64 am) (.int .i64 (dp * ct)) (.int .i64 ag)
        generalize (((((W7.setCell ⟨w.heap.size, 0, none⟩ (.int .i64 (m : Int))).setCell ⟨w.heap.size, 1, none⟩ (.int .i64 ct)).setCell ⟨w.heap.size, 2, none⟩ (.int .i64 am)).setCell ⟨w.heap.size, 3, none⟩ (.int .i64 (dp * ct))).setCell ⟨w.heap.size, 4, none⟩ (.int .i64 ag)) = Wz at *
        have q0 := blkCell hf 0 _ rfl
        have q1 := blkCell hf 1 _ rfl
        have q2 := blkCell hf 2 _ rfl
        have q3 := blkCell hf 3 _ rfl
        have q4 := blkCell hf 4 _ rfl
        exact bodyPost_ret (v := .tuple #[.agg #[.int .i64 (m : Int), .int .i64 ct, .int .i64 am, .int .i64 (dp * ct), .int .i64 ag], .int .i64 0]) (by simp [results, Tryz.results43, go_sem, q0, q1, q2, q3, q4]) rfl ⟨rfl, hB⟩
      · skip
        go_simp
        have hw4 : Below W3.heap.size W3 (W3.alloc (Obj.cells #[.int .i64 0, .int .i64 0, .int .i64 0, .int .i64 0] 82)).drew := chain (below_alloc _ _) (below_drew _)
        have HL4 : Hid ((W3.alloc (Obj.cells #[.int .i64 0, .int .i64 0, .int .i64 0, .int .i64 0] 82)).drew.heap[W3.heap.size]? = some (.cells #[.int .i64 0, .int .i64 0, .int .i64 0, .int .i64 0] 82 (0, 0))) := heapNew W3 _
        generalize (W3.alloc (Obj.cells #[.int .i64 0, .int .i64 0, .int .i64 0, .int .i64 0] 82)).drew = W4 at *
        refine hK.out _ _ hw4 (fun _ => ?_)
        clear hK K
        try simp only [Act.put, List.setIfInBounds_toArray, List.set_cons_zero, List.set_cons_succ, List.getElem_toArray, List.getElem_cons_succ, List.getElem_cons_zero]
        refine wpAnyH_ready (rs := [5]) (by kernel_rfl) (by simp) ?_
        refine AllReadyH.cons rfl (fun K hK => ?_) AllReadyH.nil
        go_simp
        go_at_call 55
        refine (hA _).mono ?_
        rintro e W6 ⟨rfl, hb5⟩
        have hw6 := chain hw4 hb5
        have HL6 : Hid (W6.heap[W3.heap.size]? = some (.cells #[.int .i64 0, .int .i64 0, .int .i64 0, .int .i64 0] 82 (0, 0))) := (hb5.block _ (blkLt HL4.out)).trans HL4.out
        have hbl : W3.heap.size ≤ W3.heap.size := Nat.le_refl _
        refine hK.out _ _ hw6 (fun _ => ?_)
        clear hK K
        try simp only [Act.put, List.setIfInBounds_toArray, List.set_cons_zero, List.set_cons_succ, List.getElem_toArray, List.getElem_cons_succ, List.getElem_cons_zero]
        refine wpAnyH_take (i := 10) (v := .agg #[.int .i64 (m : Int), .int .i64 ct, .int .i64 am, .int .i64 (dp * ct)]) rfl (by kernel_rfl) (by kernel_rfl) (by kernel_rfl) (fun _ _ _ h => h) (Or.inl ⟨by rfl, fun w hSw => by go_simp⟩) hw6 ?_
        try simp only [Act.put, List.setIfInBounds_toArray, List.set_cons_zero, List.set_cons_succ, List.getElem_toArray, List.getElem_cons_succ, List.getElem_cons_zero]
        refine wpAnyH_ready (rs := [12]) (by kernel_rfl) (by simp) ?_
        refine AllReadyH.cons rfl (fun K hK => ?_) AllReadyH.nil
        have s0 := blkFree HL6.out 0
        have s1 := blkFree HL6.out 1
        have s2 := blkFree HL6.out 2
        have s3 := blkFree HL6.out 3
        have r0 := blkCell HL6.out 0 _ rfl
        have r1 := blkCell HL6.out 1 _ rfl
        have r2 := blkCell HL6.out 2 _ rfl
        have r3 := blkCell HL6.out 3 _ rfl
        have hltl := blkLt HL6.out
        go_simp
        have HL7 : Hid (((((W6.setCell ⟨W3.heap.size, 0, none⟩ (.int .i64 (m : Int))).setCell ⟨W3.heap.size, 1, none⟩ (.int .i64 ct)).setCell ⟨W3.heap.size, 2, none⟩ (.int .i64 am)).setCell ⟨W3.heap.size, 3, none⟩ (.int .i64 (dp * ct))).heap[W3.heap.size]? = some (.cells #[.int .i64 (m : Int), .int .i64 ct, .int .i64 am, .int .i64 (dp * ct)] 82 (0, 0))) := fin4 HL6.out _ _ _ _
        have hw7 : Below W3.heap.size W3 ((((W6.setCell ⟨W3.heap.size, 0, none⟩ (.int .i64 (m : Int))).setCell ⟨W3.heap.size, 1, none⟩ (.int .i64 ct)).setCell ⟨W3.heap.size, 2, none⟩ (.int .i64 am)).setCell ⟨W3.heap.size, 3, none⟩ (.int .i64 (dp * ct))) := below4 hw6 hbl _ _ _ _
        clear s0 r0 s1 r1 s2 r2 s3 r3 hltl
        generalize ((((W6.setCell ⟨W3.heap.size, 0, none⟩ (.int .i64 (m : Int))).setCell ⟨W3.heap.size, 1, none⟩ (.int .i64 ct)).setCell ⟨W3.heap.size, 2, none⟩ (.int .i64 am)).setCell ⟨W3.heap.size, 3, none⟩ (.int .i64 (dp * ct))) = W7 at *
        refine hK.out _ _ hw7 (fun _ => ?_)
        clear hK K
        try simp only [Act.put, List.setIfInBounds_toArray, List.set_cons_zero, List.set_cons_succ, List.getElem_toArray, List.getElem_cons_succ, List.getElem_cons_zero]
        refine wpAnyH_done (by kernel_rfl) ?_ _
        try simp
        obtain ⟨k1, k2, k3, k4⟩ := HW3.out W7 hw7
        have HZ1 : Hid (W7.heap[w.heap.size]? = some (.cells #[.int .i64 0, .int .i64 0, .int .i64 0, .int .i64 0, .int .i64 0] 91 (0, 0))) := k1
        have HB1 : Hid (Below w.heap.size w W7) := k4
        have r0 := blkCell HL7.out 0 _ rfl
        have r1 := blkCell HL7.out 1 _ rfl
        have r2 := blkCell HL7.out 2 _ rfl
        have r3 := blkCell HL7.out 3 _ rfl
        have r5 := blkCell k3 4 _ rfl
        have z0 := blkFree HZ1.out 0
        have z1 := blkFree HZ1.out 1
        have z2 := blkFree HZ1.out 2
        have z3 := blkFree HZ1.out 3
        have z4 := blkFree HZ1.out 4
        have y0 := blkCell HZ1.out 0 _ rfl
        have y1 := blkCell HZ1.out 1 _ rfl
        have y2 := blkCell HZ1.out 2 _ rfl
        have y3 := blkCell HZ1.out 3 _ rfl
        have y4 := blkCell HZ1.out 4 _ rfl
        have hlt := blkLt HZ1.out
        clear k1 k2 k3 k4
        go_wp2
        have hf := fin5 HZ1.out (.int .i64 (m : Int)) (.int .i64 ct) (.int .i64 am) (.int .i64 (dp * ct)) (.int .i64 ag)
        have hB := below5 HB1.out (Nat.le_refl _) (.int .i64 (m : Int)) (.int .i64 ct) (.int .i64 am) (.int .i64 (dp * ct)) (.int .i64 ag)
        generalize (((((W7.setCell ⟨w.heap.size, 0, none⟩ (.int .i64 (m : Int))).setCell ⟨w.heap.size, 1, none⟩ (.int .i64 ct)).setCell ⟨w.heap.size, 2, none⟩ (.int .i64 am)).setCell ⟨w.heap.size, 3, none⟩ (.int .i64 (dp * ct))).setCell ⟨w.heap.size, 4, none⟩ (.int .i64 ag)) = Wz at *
        have q0 := blkCell hf 0 _ rfl
        have q1 := blkCell hf 1 _ rfl
        have q2 := blkCell hf 2 _ rfl
        have q3 := blkCell hf 3 _ rfl
        have q4 := blkCell hf 4 _ rfl
        exact bodyPost_ret (v := .tuple #[.agg #[.int .i64 (m : Int), .int .i64 ct, .int .i64 am, .int .i64 (dp * ct), .int .i64 ag], .int .i64 0]) (by simp [results, Tryz.results43, go_sem, q0, q1, q2, q3, q4]) rfl ⟨rfl, hB⟩
end Go.Proofs.YtabpkfhbnendjaaGreat

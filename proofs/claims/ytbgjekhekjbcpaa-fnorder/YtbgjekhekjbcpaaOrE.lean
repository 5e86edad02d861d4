/-
  A drawn need is right: the contract of the specification's NeedOf.
-/
import Derived.Test.YtbgjekhekjbcpaaOrA
import Derived.Test.YtbgjekhekjbcpaaRowG
import Derived.Test.YtbgjekhekjbcpaaSrc
import Derived.Test.YtbgjekhekjbcpaaSrcApt
import Derived.Test.YtbgjekhekjbcpaaSrcSize
namespace Go.Proofs.Ytbgjekhekjbcpaa
open Go.ChangeShapes Go.WideShapes Go.ChangeAt Go.RowKit Go.Joins Go.Deep
set_option linter.unusedVariables false

def DrN (a b c d e f : Int) : Prop := (0 ≤ a ∧ a < 90) ∧ (0 ≤ b ∧ b < 40) ∧ (0 ≤ c ∧ c < 20) ∧ (1 ≤ d ∧ d ≤ 12) ∧ (0 ≤ e ∧ e < 15) ∧ 10 ≤ f ∧ f < 100
def PostNd (w : World) (e' : Ending) (w' : World) : Prop := ∃ a b c d e f : Int, e' = .returned (.agg #[.int .i64 a, .int .i64 b, .int .i64 c, .int .i64 d, .int .i64 e, .int .i64 f]) ∧ DrN a b c d e f ∧ Below w.heap.size w w'
theorem below_set6 {B : Nat} {w w' : World} (h : Below B w w') {b : Nat} (hb : B ≤ b) (v0 v1 v2 v3 v4 v5 : Value) : Below B w ((((((w'.setCell ⟨b, 0, none⟩ v0).setCell ⟨b, 1, none⟩ v1).setCell ⟨b, 2, none⟩ v2).setCell ⟨b, 3, none⟩ v3).setCell ⟨b, 4, none⟩ v4).setCell ⟨b, 5, none⟩ v5) := (((((h.setCell hb _).setCell hb _).setCell hb _).setCell hb _).setCell hb _).setCell hb _
theorem set6_at {w : World} {b : Nat} {o0 o1 o2 o3 o4 o5 : Value} (h0 : w.cell? ⟨b, 0, none⟩ = some o0) (h1 : w.cell? ⟨b, 1, none⟩ = some o1) (h2 : w.cell? ⟨b, 2, none⟩ = some o2) (h3 : w.cell? ⟨b, 3, none⟩ = some o3) (h4 : w.cell? ⟨b, 4, none⟩ = some o4) (h5 : w.cell? ⟨b, 5, none⟩ = some o5) (v0 v1 v2 v3 v4 v5 : Int) :
    NdAt ((((((w.setCell ⟨b, 0, none⟩ (.int .i64 v0)).setCell ⟨b, 1, none⟩ (.int .i64 v1)).setCell ⟨b, 2, none⟩ (.int .i64 v2)).setCell ⟨b, 3, none⟩ (.int .i64 v3)).setCell ⟨b, 4, none⟩ (.int .i64 v4)).setCell ⟨b, 5, none⟩ (.int .i64 v5)) b v0 v1 v2 v3 v4 v5 := by
  have lt : b < w.heap.size := World.block_lt_of_cell? _ _ h0
  have far : ∀ (W : World) (i j : Nat) (v : Value), i ≠ j → (W.setCell ⟨b, j, none⟩ v).cell? ⟨b, i, none⟩ = W.cell? ⟨b, i, none⟩ := fun W i j v h => World.cell?_setCell_other _ _ _ _ (fun e => h (by first | (simp at e; omega) | (simp at e; done) | (cases e; rfl)))
  refine ⟨?_, ?_, ?_, ?_, ?_, ?_, by simp only [World.size_setCell]; exact lt⟩
  · rw [far _ _ _ _ (by decide), far _ _ _ _ (by decide), far _ _ _ _ (by decide), far _ _ _ _ (by decide), far _ _ _ _ (by decide)]
    exact World.cell?_setCell_same _ _ _ h0
  · rw [far _ _ _ _ (by decide), far _ _ _ _ (by decide), far _ _ _ _ (by decide), far _ _ _ _ (by decide)]
    exact World.cell?_setCell_same _ _ _ (by rw [far _ _ _ _ (by decide)]; exact h1)
  · rw [far _ _ _ _ (by decide), far _ _ _ _ (by decide), far _ _ _ _ (by decide)]
    exact World.cell?_setCell_same _ _ _ (by rw [far _ _ _ _ (by decide), far _ _ _ _ (by decide)]; exact h2)
  · rw [far _ _ _ _ (by decide), far _ _ _ _ (by decide)]
    exact World.cell?_setCell_same _ _ _ (by rw [far _ _ _ _ (by decide), far _ _ _ _ (by decide), far _ _ _ _ (by decide)]; exact h3)
  · rw [far _ _ _ _ (by decide)]
    exact World.cell?_setCell_same _ _ _ (by rw [far _ _ _ _ (by decide), far _ _ _ _ (by decide), far _ _ _ _ (by decide), far _ _ _ _ (by decide)]; exact h4)
  · exact World.cell?_setCell_same _ _ _ (by rw [far _ _ _ _ (by decide), far _ _ _ _ (by decide), far _ _ _ _ (by decide), far _ _ _ _ (by decide), far _ _ _ _ (by decide)]; exact h5)
set_option maxHeartbeats 2000000 in
set_option maxRecDepth 4000 in
theorem needOf_any (ax : Option Addr) (len cap : Nat) (zs : List Int) (w : World) (hr : RowB w.heap.size w ax len zs) :
    Calls Try.prog 9 #[.slice ax len cap] w (PostNd w) := by
  have hlen := hr.1
  have HB0 : Hid (Below w.heap.size w (w.alloc (Obj.cells #[.int .i64 0, .int .i64 0, .int .i64 0, .int .i64 0, .int .i64 0, .int .i64 0] 24))) := below_alloc _ _
  have HZ0 : Hid ((w.alloc (Obj.cells #[.int .i64 0, .int .i64 0, .int .i64 0, .int .i64 0, .int .i64 0, .int .i64 0] 24)).heap.size = w.heap.size + 1) := by show _ = _; simp
  have HN0 : Hid (NdAt (w.alloc (Obj.cells #[.int .i64 0, .int .i64 0, .int .i64 0, .int .i64 0, .int .i64 0, .int .i64 0] 24)) w.heap.size 0 0 0 0 0 0) := ndNew w 0 0 0 0 0 0 _
  have HF0 : Hid ((∀ j, (w.alloc (Obj.cells #[.int .i64 0, .int .i64 0, .int .i64 0, .int .i64 0, .int .i64 0, .int .i64 0] 24)).frozen? ⟨w.heap.size, j, none⟩ = false) ∧ ∃ V, (w.alloc (Obj.cells #[.int .i64 0, .int .i64 0, .int .i64 0, .int .i64 0, .int .i64 0, .int .i64 0] 24)).heap[w.heap.size]? = some (.cells V 24 (0, 0))) := ⟨fun j => blkFree (heapNew w _) j, _, heapNew w _⟩
  have hsrc := source_any ax len cap (w.alloc (Obj.cells #[.int .i64 0, .int .i64 0, .int .i64 0, .int .i64 0, .int .i64 0, .int .i64 0] 24)) hlen
  have HR : Hid (RowB (w.heap.size + 1) (w.alloc (Obj.cells #[.int .i64 0, .int .i64 0, .int .i64 0, .int .i64 0, .int .i64 0, .int .i64 0] 24)) ax len zs) := by
    have h := hr.below (below_alloc w (Obj.cells #[.int .i64 0, .int .i64 0, .int .i64 0, .int .i64 0, .int .i64 0, .int .i64 0] 24))
    exact ⟨h.1, h.2.imp id (fun ⟨b0, off, e, hb, hc⟩ => ⟨b0, off, e, by omega, hc⟩)⟩
  clear hr
  go_enter Try.func9, Try.ntmps9
  go_upto_region 1 with fail
  generalize (w.alloc (Obj.cells #[.int .i64 0, .int .i64 0, .int .i64 0, .int .i64 0, .int .i64 0, .int .i64 0] 24)) = W0 at *
  rw [HZ0.out] at hsrc
  generalize hbk : w.heap.size = bk at *
  have HBK : Hid (w.heap.size = bk) := hbk
  clear hbk
  go_wp2_with fail
  (first | go_at_call 31 | skip)
  refine hsrc.mono ?_
  rintro e w1 ⟨s1, rfl, hs1, hb1⟩
  have HS1 : Hid (Src w1 (bk + 1) ax len cap 0 s1) := hs1
  have HK1 : Hid (Below (bk + 1) W0 w1) := hb1
  have HNx : Hid (∀ (n at' sd : Int) (W : World), n ≤ 256 → at' ≤ 1000 → Src W (bk + 1) ax len cap at' sd → Below (bk + 1) W0 W → Calls Try.prog 32 #[.pointer (some ⟨bk + 1, 0, none⟩), .int .i64 n] W fun e w' => ∃ x at2 s' : Int, e = .returned (.int .i64 x) ∧ Drawn x n ∧ at' ≤ at2 ∧ at2 ≤ at' + 3 ∧ Src w' (bk + 1) ax len cap at2 s' ∧ Below (bk + 1) W0 w') := fun n at' sd W hn ha hS hB => (next_anyA (bk + 1) (bk + 1) ax len cap zs n at' sd W (Nat.le_refl _) hS (HR.out.below hB) (by omega) hn).mono (fun e w' ⟨x, at2, s', h1, h2, h3, h4, h5, h6, _⟩ => ⟨x, at2, s', h1, h2, h3, h4, h5, hB.trans h6⟩)
  clear hs1 hb1 hsrc HR
  go_wp2_with fail
  (first | go_at_call 32 | skip)
  refine (HNx.out 90 0 s1 w1 (by omega) (by omega) HS1.out HK1.out).mono ?_
  rintro e w2 ⟨x2, at2, s2, rfl, hx, q2, r2, hs, hb⟩
  have HS2 : Hid (Src w2 (bk + 1) ax len cap at2 s2) := hs
  have HK2 : Hid (Below (bk + 1) W0 w2) := hb
  have hx2 : 0 ≤ x2 ∧ x2 < 90 := by obtain ⟨u1, u2⟩ := hx; omega
  clear hs hb hx HS1 HK1
  go_wp2_with fail
  (first | go_at_call 32 | skip)
  refine (HNx.out 40 at2 s2 w2 (by omega) (by omega) HS2.out HK2.out).mono ?_
  rintro e w3 ⟨x3, at3, s3, rfl, hx, q3, r3, hs, hb⟩
  have HS3 : Hid (Src w3 (bk + 1) ax len cap at3 s3) := hs
  have HK3 : Hid (Below (bk + 1) W0 w3) := hb
  have hx3 : 0 ≤ x3 ∧ x3 < 40 := by obtain ⟨u1, u2⟩ := hx; omega
  clear hs hb hx HS2 HK2
  go_wp2_with fail
  (first | go_at_call 32 | skip)
  refine (HNx.out 20 at3 s3 w3 (by omega) (by omega) HS3.out HK3.out).mono ?_
  rintro e w4 ⟨x4, at4, s4, rfl, hx, q4, r4, hs, hb⟩
  have HS4 : Hid (Src w4 (bk + 1) ax len cap at4 s4) := hs
  have HK4 : Hid (Below (bk + 1) W0 w4) := hb
  have hx4 : 0 ≤ x4 ∧ x4 < 20 := by obtain ⟨u1, u2⟩ := hx; omega
  clear hs hb hx HS3 HK3
  go_wp2_with fail
  (first | go_at_call 32 | skip)
  refine (HNx.out 12 at4 s4 w4 (by omega) (by omega) HS4.out HK4.out).mono ?_
  rintro e w5 ⟨x5, at5, s5, rfl, hx, q5, r5, hs, hb⟩
  have HS5 : Hid (Src w5 (bk + 1) ax len cap at5 s5) := hs
  have HK5 : Hid (Below (bk + 1) W0 w5) := hb
  have hx5 : 0 ≤ x5 ∧ x5 < 12 := by obtain ⟨u1, u2⟩ := hx; omega
  clear hs hb hx HS4 HK4
  go_wp2_with fail
  (first | go_at_call 32 | skip)
  refine (HNx.out 15 at5 s5 w5 (by omega) (by omega) HS5.out HK5.out).mono ?_
  rintro e w6 ⟨x6, at6, s6, rfl, hx, q6, r6, hs, hb⟩
  have HS6 : Hid (Src w6 (bk + 1) ax len cap at6 s6) := hs
  have HK6 : Hid (Below (bk + 1) W0 w6) := hb
  have hx6 : 0 ≤ x6 ∧ x6 < 15 := by obtain ⟨u1, u2⟩ := hx; omega
  clear hs hb hx HS5 HK5
  go_wp2_with fail
  (first | go_at_call 32 | skip)
  refine (HNx.out 90 at6 s6 w6 (by omega) (by omega) HS6.out HK6.out).mono ?_
  rintro e w7 ⟨x7, at7, s7, rfl, hx, q7, r7, hs, hb⟩
  have HS7 : Hid (Src w7 (bk + 1) ax len cap at7 s7) := hs
  have HK7 : Hid (Below (bk + 1) W0 w7) := hb
  have hx7 : 0 ≤ x7 ∧ x7 < 90 := by obtain ⟨u1, u2⟩ := hx; omega
  clear hs hb hx HS6 HK6
  have wd : IntKind.i64.wrap (1 + x5) = 1 + x5 := wrap_id _ (by omega) (by omega)
  have wf : IntKind.i64.wrap (10 + x7) = 10 + x7 := wrap_id _ (by omega) (by omega)
  obtain ⟨c0, c1, c2, c3, c4, c5, lt⟩ := HN0.out
  have D0 : w7.cell? ⟨bk, 0, none⟩ = some (.int .i64 0) := (HK7.out.cell (p := ⟨bk, 0, none⟩) (Nat.lt_succ_self _)).trans c0
  have D1 : w7.cell? ⟨bk, 1, none⟩ = some (.int .i64 0) := (HK7.out.cell (p := ⟨bk, 1, none⟩) (Nat.lt_succ_self _)).trans c1
  have D2 : w7.cell? ⟨bk, 2, none⟩ = some (.int .i64 0) := (HK7.out.cell (p := ⟨bk, 2, none⟩) (Nat.lt_succ_self _)).trans c2
  have D3 : w7.cell? ⟨bk, 3, none⟩ = some (.int .i64 0) := (HK7.out.cell (p := ⟨bk, 3, none⟩) (Nat.lt_succ_self _)).trans c3
  have D4 : w7.cell? ⟨bk, 4, none⟩ = some (.int .i64 0) := (HK7.out.cell (p := ⟨bk, 4, none⟩) (Nat.lt_succ_self _)).trans c4
  have D5 : w7.cell? ⟨bk, 5, none⟩ = some (.int .i64 0) := (HK7.out.cell (p := ⟨bk, 5, none⟩) (Nat.lt_succ_self _)).trans c5
  have F0 : w7.frozen? ⟨bk, 0, none⟩ = false := (HK7.out.frozen (p := ⟨bk, 0, none⟩) (Nat.lt_succ_self _)).trans (HF0.out.1 0)
  have F1 : w7.frozen? ⟨bk, 1, none⟩ = false := (HK7.out.frozen (p := ⟨bk, 1, none⟩) (Nat.lt_succ_self _)).trans (HF0.out.1 1)
  have F2 : w7.frozen? ⟨bk, 2, none⟩ = false := (HK7.out.frozen (p := ⟨bk, 2, none⟩) (Nat.lt_succ_self _)).trans (HF0.out.1 2)
  have F3 : w7.frozen? ⟨bk, 3, none⟩ = false := (HK7.out.frozen (p := ⟨bk, 3, none⟩) (Nat.lt_succ_self _)).trans (HF0.out.1 3)
  have F4 : w7.frozen? ⟨bk, 4, none⟩ = false := (HK7.out.frozen (p := ⟨bk, 4, none⟩) (Nat.lt_succ_self _)).trans (HF0.out.1 4)
  have F5 : w7.frozen? ⟨bk, 5, none⟩ = false := (HK7.out.frozen (p := ⟨bk, 5, none⟩) (Nat.lt_succ_self _)).trans (HF0.out.1 5)
  have HB7 : Hid (Below bk w w7) := HB0.out.trans (HK7.out.mono (Nat.le_succ _))
  clear c0 c1 c2 c3 c4 c5 lt HN0 HF0 HNx HS7
  have HC9 : Hid (NdAt ((((((w7.setCell ⟨bk, 0, none⟩ (.int .i64 x2)).setCell ⟨bk, 1, none⟩ (.int .i64 x3)).setCell ⟨bk, 2, none⟩ (.int .i64 x4)).setCell ⟨bk, 3, none⟩ (.int .i64 (1 + x5))).setCell ⟨bk, 4, none⟩ (.int .i64 x6)).setCell ⟨bk, 5, none⟩ (.int .i64 (10 + x7))) bk x2 x3 x4 (1 + x5) x6 (10 + x7)) := set6_at D0 D1 D2 D3 D4 D5 _ _ _ _ _ _
  have HB9 : Hid (Below bk w ((((((w7.setCell ⟨bk, 0, none⟩ (.int .i64 x2)).setCell ⟨bk, 1, none⟩ (.int .i64 x3)).setCell ⟨bk, 2, none⟩ (.int .i64 x4)).setCell ⟨bk, 3, none⟩ (.int .i64 (1 + x5))).setCell ⟨bk, 4, none⟩ (.int .i64 x6)).setCell ⟨bk, 5, none⟩ (.int .i64 (10 + x7)))) := below_set6 HB7.out (Nat.le_refl _) _ _ _ _ _ _
  go_wp2_with fail
  generalize ((((((w7.setCell ⟨bk, 0, none⟩ (.int .i64 x2)).setCell ⟨bk, 1, none⟩ (.int .i64 x3)).setCell ⟨bk, 2, none⟩ (.int .i64 x4)).setCell ⟨bk, 3, none⟩ (.int .i64 (1 + x5))).setCell ⟨bk, 4, none⟩ (.int .i64 x6)).setCell ⟨bk, 5, none⟩ (.int .i64 (10 + x7))) = W9 at *
  obtain ⟨E0, E1, E2, E3, E4, E5, lt9⟩ := HC9.out
  refine bodyPost_ret (v := .agg #[.int .i64 x2, .int .i64 x3, .int .i64 x4, .int .i64 (1 + x5), .int .i64 x6, .int .i64 (10 + x7)]) (by simp [results, Try.results9, go_sem, E0, E1, E2, E3, E4, E5]) rfl ⟨x2, x3, x4, (1 + x5), x6, (10 + x7), rfl, ⟨hx2, hx3, hx4, by omega, hx6, by omega⟩, by rw [HBK.out]; exact HB9.out⟩
end Go.Proofs.Ytbgjekhekjbcpaa

/-
  The specification's ClausesOf: right rules and facts within their bounds.
-/
import Derived.Test.YtfofdeenpcbglaaDrawCl6
namespace Go.Proofs.Ytfofdeenpcbglaa
open Go.ChangeShapes Go.WideShapes Go.ChangeAt Go.RowKit Go.Deep
set_option linter.unusedVariables false

def zFc5 : Obj := .cells #[.int .i64 0, .int .i64 0, .int .i64 0, .int .i64 0, .int .i64 0] 28 (0, 0)
set_option maxHeartbeats 8000000 in
set_option maxRecDepth 8000 in
theorem clausesOf_any (a : Option Addr) (len cap : Nat) (zs : List Int) (w : World) (hr : RowB w.heap.size w a len zs) :
    Calls Try.prog 8 #[.slice a len cap] w fun e w' => ∃ (E : List EC) (g cp : Nat) (x1 x2 x3 x4 x5 : Int), e = .returned (.tuple #[.slice (some ⟨g, 0, none⟩) E.length cp, .agg #[.int .i64 x1, .int .i64 x2, .int .i64 x3, .int .i64 x4, .int .i64 x5]]) ∧ E.length ≤ cp ∧ E.length ≤ 7 ∧ (∀ e ∈ E, clOne e.1 = true) ∧ E.map (fun e => e.1.nm) = (List.range E.length).map rName ∧ ReadsCl w'.heap.size w' (some ⟨g, 0, none⟩) (E.map (·.1)) ∧ ((1 ≤ x1 ∧ x1 ≤ 40) ∧ (0 ≤ x2 ∧ x2 ≤ 59) ∧ (0 ≤ x3 ∧ x3 ≤ 23) ∧ (1 ≤ x4 ∧ x4 ≤ 7) ∧ (0 ≤ x5 ∧ x5 ≤ 59)) ∧ Below w.heap.size w w' := by
  have HR : Hid (RowB w.heap.size w a len zs) := hr
  have hlen : len ≤ maxLen := hr.1
  clear hr
  go_enter Try.func8, Try.ntmps8
  go_wp2_with fail
  (first | go_at_call 9 | skip)
  refine (source_any a len cap _ hlen).mono ?_
  rintro e w1 ⟨sd1, rfl, hs1, hb1⟩
  have HZ : w1.heap[w.heap.size]? = some zFc5 := (hb1.block w.heap.size (by simp)).trans (heapNew w _)
  have hbw : Below w.heap.size w w1 := ((Below.refl _ _).alloc (Nat.le_refl _) _).trans (hb1.mono (by simp))
  have G1 : Hid (Going (w.heap.size + 1) a len cap zs w.heap.size 0 0 w1 w1) := by
    refine ⟨⟨0, Int.le_refl _, Int.le_refl _, ⟨sd1, by simpa using hs1⟩, HR.out.below hbw⟩, Below.refl _ _, Apart.refl2 _ _⟩
  have HB : Hid (Below w.heap.size w w1) := hbw
  have hlt : w.heap.size < w1.heap.size := blk_lt HZ
  clear hs1 hb1 hbw
  go_wp2_with fail
  (first | go_at_call 21 | skip)
  have hsz : (w.alloc (Obj.cells #[.int .i64 0, .int .i64 0, .int .i64 0, .int .i64 0, .int .i64 0] 28)).heap.size = w.heap.size + 1 := by simp
  refine (clauses_any (w.heap.size + 1) a len cap zs w.heap.size (by omega) 0 0 (by omega) w1 G1.out).mono ?_
  rintro e w2 ⟨E, g, cp, rfl, hEl, hst⟩
  have ST : Hid (ClsSt (w.heap.size + 1) a len cap zs w.heap.size 0 1500 w1 (.slice (some ⟨g, 0, none⟩) E.length cp) E w2) := hst
  clear hst
  go_wp2_with fail
  refine (next_going (w.heap.size + 1) a len cap zs w.heap.size (by omega) 0 1500 40 _ _ (by omega) (by omega) ST.out.go.self).mono ?_
  rintro e w3 ⟨y1, rfl, hy1, g3⟩
  obtain ⟨m1, n1⟩ := drawn5 hy1 (by omega)
  have ST3 : Hid (ClsSt (w.heap.size + 1) a len cap zs w.heap.size 0 1503 w1 (.slice (some ⟨g, 0, none⟩) E.length cp) E w3) := ST.out.draw g3
  clear hy1 g3 ST
  go_wp2_with fail
  (first | go_at_call 22 | skip)
  refine (next_going (w.heap.size + 1) a len cap zs w.heap.size (by omega) 0 1503 60 _ _ (by omega) (by omega) ST3.out.go.self).mono ?_
  rintro e w4 ⟨y2, rfl, hy2, g4⟩
  obtain ⟨m2, n2⟩ := drawn5 hy2 (by omega)
  have ST4 : Hid (ClsSt (w.heap.size + 1) a len cap zs w.heap.size 0 1506 w1 (.slice (some ⟨g, 0, none⟩) E.length cp) E w4) := ST3.out.draw g4
  clear hy2 g4 ST3
  go_wp2_with fail
  (first | go_at_call 22 | skip)
  refine (next_going (w.heap.size + 1) a len cap zs w.heap.size (by omega) 0 1506 24 _ _ (by omega) (by omega) ST4.out.go.self).mono ?_
  rintro e w5 ⟨y3, rfl, hy3, g5⟩
  obtain ⟨m3, n3⟩ := drawn5 hy3 (by omega)
  have ST5 : Hid (ClsSt (w.heap.size + 1) a len cap zs w.heap.size 0 1509 w1 (.slice (some ⟨g, 0, none⟩) E.length cp) E w5) := ST4.out.draw g5
  clear hy3 g5 ST4
  go_wp2_with fail
  (first | go_at_call 22 | skip)
  refine (next_going (w.heap.size + 1) a len cap zs w.heap.size (by omega) 0 1509 7 _ _ (by omega) (by omega) ST5.out.go.self).mono ?_
  rintro e w6 ⟨y4, rfl, hy4, g6⟩
  obtain ⟨m4, n4⟩ := drawn5 hy4 (by omega)
  have ST6 : Hid (ClsSt (w.heap.size + 1) a len cap zs w.heap.size 0 1512 w1 (.slice (some ⟨g, 0, none⟩) E.length cp) E w6) := ST5.out.draw g6
  clear hy4 g6 ST5
  go_wp2_with fail
  (first | go_at_call 22 | skip)
  refine (next_going (w.heap.size + 1) a len cap zs w.heap.size (by omega) 0 1512 60 _ _ (by omega) (by omega) ST6.out.go.self).mono ?_
  rintro e w7 ⟨y5, rfl, hy5, g7⟩
  obtain ⟨m5, n5⟩ := drawn5 hy5 (by omega)
  have ST7 : Hid (ClsSt (w.heap.size + 1) a len cap zs w.heap.size 0 1515 w1 (.slice (some ⟨g, 0, none⟩) E.length cp) E w7) := ST6.out.draw g7
  clear hy5 g7 ST6
  have hw1 := ST7.out.go.2.2.1
  have HZ2 : w7.heap[w.heap.size]? = some zFc5 := (ST7.out.go.2.2.2 w.heap.size (by omega) hlt).trans HZ
  obtain ⟨⟨r0, r1, r2, r3, r4⟩, ⟨q0, q1, q2, q3, q4⟩⟩ : (w7.cell? ⟨w.heap.size, 0, none⟩ = some (.int .i64 0) ∧ w7.cell? ⟨w.heap.size, 1, none⟩ = some (.int .i64 0) ∧ w7.cell? ⟨w.heap.size, 2, none⟩ = some (.int .i64 0) ∧ w7.cell? ⟨w.heap.size, 3, none⟩ = some (.int .i64 0) ∧ w7.cell? ⟨w.heap.size, 4, none⟩ = some (.int .i64 0)) ∧ (w7.frozen? ⟨w.heap.size, 0, none⟩ = false ∧ w7.frozen? ⟨w.heap.size, 1, none⟩ = false ∧ w7.frozen? ⟨w.heap.size, 2, none⟩ = false ∧ w7.frozen? ⟨w.heap.size, 3, none⟩ = false ∧ w7.frozen? ⟨w.heap.size, 4, none⟩ = false) := by
    refine ⟨⟨?_, ?_, ?_, ?_, ?_⟩, ⟨?_, ?_, ?_, ?_, ?_⟩⟩
    iterate 5 (unfold World.cell?; rw [HZ2]; rfl)
    iterate 5 (unfold World.frozen?; rw [HZ2]; rfl)
  have HF : Hid (∀ v0 v1 v2 v3 v4 : Value, ReadsCl (((((w7.setCell ⟨w.heap.size, 0, none⟩ v0).setCell ⟨w.heap.size, 1, none⟩ v1).setCell ⟨w.heap.size, 2, none⟩ v2).setCell ⟨w.heap.size, 3, none⟩ v3).setCell ⟨w.heap.size, 4, none⟩ v4).heap.size (((((w7.setCell ⟨w.heap.size, 0, none⟩ v0).setCell ⟨w.heap.size, 1, none⟩ v1).setCell ⟨w.heap.size, 2, none⟩ v2).setCell ⟨w.heap.size, 3, none⟩ v3).setCell ⟨w.heap.size, 4, none⟩ v4) (some ⟨g, 0, none⟩) (E.map (·.1)) ∧ Below w.heap.size w (((((w7.setCell ⟨w.heap.size, 0, none⟩ v0).setCell ⟨w.heap.size, 1, none⟩ v1).setCell ⟨w.heap.size, 2, none⟩ v2).setCell ⟨w.heap.size, 3, none⟩ v3).setCell ⟨w.heap.size, 4, none⟩ v4)) := fun v0 v1 v2 v3 v4 => by
    have hs : ∀ (W : World) (k o : Nat) (v : Value), k ≠ w.heap.size → (W.setCell ⟨w.heap.size, o, none⟩ v).heap[k]? = W.heap[k]? := fun W k o v hk => Below.heap_setCell _ _ _ _ hk
    have hg : Going (w.heap.size + 1) a len cap zs w.heap.size 0 1515 w1 w7 := ST7.out.go
    have keep : ∀ q, w1.heap.size ≤ q → (((((w7.setCell ⟨w.heap.size, 0, none⟩ v0).setCell ⟨w.heap.size, 1, none⟩ v1).setCell ⟨w.heap.size, 2, none⟩ v2).setCell ⟨w.heap.size, 3, none⟩ v3).setCell ⟨w.heap.size, 4, none⟩ v4).heap[q]? = w7.heap[q]? := fun q hq => by
      have hq' : q ≠ w.heap.size := by omega
      rw [hs _ _ _ _ hq', hs _ _ _ _ hq', hs _ _ _ _ hq', hs _ _ _ _ hq', hs _ _ _ _ hq']
    refine ⟨cls_reads (row_at ST7.out.row (fun q hq => keep q (ST7.out.row.lt q hq).1)) (fun e he => row_at (ST7.out.ins e he) (fun q hq => keep q ((ST7.out.ins e he).lt q hq).1)), ?_⟩
    exact (((((HB.out.trans hg.2.1).setCell (Nat.le_refl _) _).setCell (Nat.le_refl _) _).setCell (Nat.le_refl _) _).setCell (Nat.le_refl _) _).setCell (Nat.le_refl _) _
  have HC : Hid (E.length ≤ cp) := by
    rcases ST7.out.row.2 with ⟨q, _⟩ | ⟨g', cap', cur, q, _, hg, hc, _⟩
    · simp at q
    · simp at q
      obtain ⟨_, rfl⟩ := q
      exact hc
  have HE : Hid ((∀ e ∈ E, clOne e.1 = true) ∧ E.map (fun e => e.1.nm) = (List.range E.length).map rName) := ⟨ST7.out.all, ST7.out.nms⟩
  clear HZ2 HZ ST7
  go_wp2
  exact bodyPost_ret (v := .tuple #[.slice (some ⟨g, 0, none⟩) E.length cp, .agg #[.int .i64 (1 + y1), .int .i64 y2, .int .i64 y3, .int .i64 (1 + y4), .int .i64 y5]]) (by simp [results, Try.results8, go_sem, r0, r1, r2, r3, r4]) rfl ⟨E, g, cp, 1 + y1, y2, y3, 1 + y4, y5, rfl, HC.out, hEl, HE.out.1, HE.out.2, (HF.out _ _ _ _ _).1, by omega, (HF.out _ _ _ _ _).2⟩
end Go.Proofs.Ytfofdeenpcbglaa

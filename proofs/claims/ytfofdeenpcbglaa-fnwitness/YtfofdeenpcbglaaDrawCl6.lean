/-
  A drawn rule and drawn rules, read; the specification's ClauseOf.
-/
import Derived.Test.YtfofdeenpcbglaaDrawCl5
namespace Go.Proofs.Ytfofdeenpcbglaa
open Go.ChangeShapes Go.WideShapes Go.ChangeAt Go.RowKit Go.Deep
set_option linter.unusedVariables false

theorem rowTm_reads {w : World} {B : Nat} {g : Option Addr} {cp : Nat} {ts : List RTm} (h : w.ownsRow B 37 3 (.slice g ts.length cp) ts.length (tmCells ts)) : ts.length ≤ cp ∧ ReadsTm w.heap.size w g ts := by
  have h' := h
  rcases h.2 with ⟨e1, e2⟩ | ⟨g', cap, cur, e1, hB, hg, hl, r⟩
  · have e0 : ts.length = 0 := by simpa using e2
    exact ⟨by omega, .inl (List.length_eq_zero_iff.1 e0)⟩
  · simp only [Value.slice.injEq] at e1
    obtain ⟨rfl, _, rfl⟩ := e1
    exact ⟨hl, ownReadsTm h'⟩
theorem flatC4 : ∀ (E : List EC) (i c : Nat), i < E.length → c < 4 → (E.flatMap cellsC)[i * 4 + c]? = (cellsC (E.getD i (zCl, none, 0)))[c]?
  | [], i, c, h, _ => by simp at h
  | e :: r, 0, c, _, hc => by
    rw [List.flatMap_cons, Nat.zero_mul, Nat.zero_add, List.getElem?_append_left (by show c < 4; exact hc)]; rfl
  | e :: r, i + 1, c, h, hc => by
    rw [List.flatMap_cons, List.getElem?_append_right (by show 4 ≤ _; omega)]
    have := flatC4 r i c (by simpa using h) hc
    have e4 : (cellsC e).length = 4 := rfl
    rw [e4, show (i + 1) * 4 + c - 4 = i * 4 + c by omega, this]; rfl
theorem flatC_len : ∀ E : List EC, (E.flatMap cellsC).length = E.length * 4
  | [] => rfl
  | e :: r => by rw [List.flatMap_cons, List.length_append, flatC_len r, List.length_cons]; show 4 + _ = _; omega
theorem cls_reads {W : World} {B C : Nat} {g cp : Nat} {E : List EC} (hr : W.ownsRow B 25 4 (.slice (some ⟨g, 0, none⟩) E.length cp) E.length (E.flatMap cellsC)) (hin : ∀ e ∈ E, W.ownsRow C 37 3 (rowC e) e.1.ts.length (tmCells e.1.ts)) : ReadsCl W.heap.size W (some ⟨g, 0, none⟩) (E.map (·.1)) := by
  refine .inr ⟨g, 0, rfl, (hr.lt g rfl).2, fun i hi => ?_⟩
  rw [List.length_map] at hi
  have eg : (E.map (·.1)).getD i zCl = (E.getD i (zCl, none, 0)).1 := by simp [List.getD_eq_getElem?_getD, hi]
  have hm : E.getD i (zCl, none, 0) ∈ E := by
    have e : E.getD i (zCl, none, 0) = E[i] := by simp [List.getD_eq_getElem?_getD, hi]
    rw [e]; exact List.getElem_mem hi
  have q := fun c hc => flatC4 E i c hi hc
  have hl := flatC_len E
  obtain ⟨k1, k2⟩ := rowTm_reads (hin _ hm)
  rw [eg]
  refine ⟨(E.getD i (zCl, none, 0)).2.1, (E.getD i (zCl, none, 0)).2.2, ⟨?_, ?_, ?_, ?_⟩, k1, k2⟩
  · rw [hr.cellAt (0 + i * 4) (by omega), show 0 + i * 4 = i * 4 + 0 by omega, q 0 (by omega)]; rfl
  · rw [hr.cellAt (0 + i * 4 + 1) (by omega), show 0 + i * 4 + 1 = i * 4 + 1 by omega, q 1 (by omega)]; rfl
  · rw [hr.cellAt (0 + i * 4 + 2) (by omega), show 0 + i * 4 + 2 = i * 4 + 2 by omega, q 2 (by omega)]; rfl
  · rw [hr.cellAt (0 + i * 4 + 3) (by omega), show 0 + i * 4 + 3 = i * 4 + 3 by omega, q 3 (by omega)]; rfl
set_option maxHeartbeats 8000000 in
set_option maxRecDepth 8000 in
theorem clauseOf_any (a : Option Addr) (len cap : Nat) (zs : List Int) (w : World) (hr : RowB w.heap.size w a len zs) :
    Calls Try.prog 4 #[.slice a len cap] w fun e w' => ∃ (ts : List RTm) (ac nu : Int) (g : Option Addr) (cp : Nat), e = .returned (.agg #[.string (rName 0), .slice g ts.length cp, .int .i64 ac, .int .i64 nu]) ∧ clOne ⟨rName 0, ts, ac, nu⟩ = true ∧ ts.length ≤ cp ∧ ReadsTm w'.heap.size w' g ts ∧ Below w.heap.size w w' := by
  have HR : Hid (RowB w.heap.size w a len zs) := hr
  have hlen : len ≤ maxLen := hr.1
  clear hr
  go_enter Try.func4, Try.ntmps4
  go_wp2_with fail
  (first | go_at_call 9 | skip)
  refine (source_any a len cap _ hlen).mono ?_
  rintro e w1 ⟨sd1, rfl, hs1, hb1⟩
  have HZ : w1.heap[w.heap.size]? = some zCl4 := (hb1.block w.heap.size (by simp)).trans (heapNew w _)
  have hbw : Below w.heap.size w w1 := ((Below.refl _ _).alloc (Nat.le_refl _) _).trans (hb1.mono (by simp))
  have G1 : Hid (Going (w.heap.size + 1) a len cap zs w.heap.size 0 0 w1 w1) := by
    refine ⟨⟨0, Int.le_refl _, Int.le_refl _, ⟨sd1, by simpa using hs1⟩, HR.out.below hbw⟩, Below.refl _ _, Apart.refl2 _ _⟩
  have HB : Hid (Below w.heap.size w w1) := hbw
  have hlt : w.heap.size < w1.heap.size := blk_lt HZ
  clear hs1 hb1 hbw
  go_wp2_with fail
  (first | go_at_call 10 | skip)
  have hsz : (w.alloc (Obj.cells #[.string ⟨#[]⟩, .slice none 0 0, .int .i64 0, .int .i64 0] 25)).heap.size = w.heap.size + 1 := by simp
  refine (clause_any (w.heap.size + 1) a len cap zs w.heap.size (by omega) 0 0 (by omega) 0 (by omega) w1 w1 G1.out).mono ?_
  rintro e w2 ⟨ts, ac, nu, g, cp, rfl, hone, gg, hrow, hob⟩
  have HZ2 : w2.heap[w.heap.size]? = some zCl4 := (gg.2.2.2 w.heap.size (by omega) hlt).trans HZ
  obtain ⟨⟨r0, r1, r2, r3⟩, ⟨q0, q1, q2, q3⟩⟩ : (w2.cell? ⟨w.heap.size, 0, none⟩ = some (.string ⟨#[]⟩) ∧ w2.cell? ⟨w.heap.size, 1, none⟩ = some (.slice none 0 0) ∧ w2.cell? ⟨w.heap.size, 2, none⟩ = some (.int .i64 0) ∧ w2.cell? ⟨w.heap.size, 3, none⟩ = some (.int .i64 0)) ∧ (w2.frozen? ⟨w.heap.size, 0, none⟩ = false ∧ w2.frozen? ⟨w.heap.size, 1, none⟩ = false ∧ w2.frozen? ⟨w.heap.size, 2, none⟩ = false ∧ w2.frozen? ⟨w.heap.size, 3, none⟩ = false) := by
    refine ⟨⟨?_, ?_, ?_, ?_⟩, ⟨?_, ?_, ?_, ?_⟩⟩
    iterate 4 (unfold World.cell?; rw [HZ2]; rfl)
    iterate 4 (unfold World.frozen?; rw [HZ2]; rfl)
  have HE : Hid (clOne ⟨rName 0, ts, ac, nu⟩ = true) := hone
  have hlt2 : w.heap.size < w2.heap.size := blk_lt HZ2
  have HF : Hid (∀ v0 v1 v2 v3 : Value, ts.length ≤ cp ∧ ReadsTm ((((w2.setCell ⟨w.heap.size, 0, none⟩ v0).setCell ⟨w.heap.size, 1, none⟩ v1).setCell ⟨w.heap.size, 2, none⟩ v2).setCell ⟨w.heap.size, 3, none⟩ v3).heap.size ((((w2.setCell ⟨w.heap.size, 0, none⟩ v0).setCell ⟨w.heap.size, 1, none⟩ v1).setCell ⟨w.heap.size, 2, none⟩ v2).setCell ⟨w.heap.size, 3, none⟩ v3) g ts ∧ Below w.heap.size w ((((w2.setCell ⟨w.heap.size, 0, none⟩ v0).setCell ⟨w.heap.size, 1, none⟩ v1).setCell ⟨w.heap.size, 2, none⟩ v2).setCell ⟨w.heap.size, 3, none⟩ v3)) := fun v0 v1 v2 v3 => by
    have hs : ∀ (W : World) (k o : Nat) (v : Value), k ≠ w.heap.size → (W.setCell ⟨w.heap.size, o, none⟩ v).heap[k]? = W.heap[k]? := fun W k o v hk => Below.heap_setCell _ _ _ _ hk
    obtain ⟨k1, k2⟩ := rowTm_reads (row_at hrow (w' := (((w2.setCell ⟨w.heap.size, 0, none⟩ v0).setCell ⟨w.heap.size, 1, none⟩ v1).setCell ⟨w.heap.size, 2, none⟩ v2).setCell ⟨w.heap.size, 3, none⟩ v3) (fun q hq => by
      have hq' : q ≠ w.heap.size := by have := (hrow.lt q hq).1; omega
      rw [hs _ _ _ _ hq', hs _ _ _ _ hq', hs _ _ _ _ hq', hs _ _ _ _ hq']))
    exact ⟨k1, k2, ((((HB.out.trans gg.2.1).setCell (Nat.le_refl _) _).setCell (Nat.le_refl _) _).setCell (Nat.le_refl _) _).setCell (Nat.le_refl _) _⟩
  clear hone gg hrow hob HZ2 HZ
  have hnm : (⟨#[114]⟩ ++ decS 0 : ByteArray) = rName 0 := rfl
  rw [hnm]
  generalize hnz : rName 0 = nm at *
  have HM : Hid (rName 0 = nm) := hnz
  clear hnz hnm
  go_wp2
  exact bodyPost_ret (v := .agg #[.string nm, .slice g ts.length cp, .int .i64 ac, .int .i64 nu]) (by simp [results, Try.results4, go_sem, r0, r1, r2, r3]) rfl ⟨ts, ac, nu, g, cp, by rw [HM.out], by rw [HM.out]; exact HE.out, HF.out _ _ _ _⟩
end Go.Proofs.Ytfofdeenpcbglaa

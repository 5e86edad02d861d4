/-
  Contract of the specification's BestRoute, for all arguments.
-/
import Derived.Test.YtoogphkojofkfaaRwU
namespace Go.Proofs.Ytoogphkojofkfaa
open Go.ChangeShapes Go.WideShapes Go.ChangeAt Go.RowKit Go.Joins Go.Deep
set_option linter.unusedVariables false

set_option maxHeartbeats 8000000 in
set_option maxRecDepth 4000 in
theorem specBestRoute_any (ad : Option Addr) (cap : Nat) (rs : List RHp) (b : Int) (hl : rs.length ≤ 100000000) (w : World) (hr : ReadsHp w.heap.size w ad rs) :
    Calls Try.prog 9 #[.slice ad rs.length cap, .int .i64 b] w (AnsW (brC rs b) (brL rs b) (brA rs b) (brW rs b) (brE rs b) w) := by
  have hn0 : ∀ (c : Int) (w' : World), brC rs b = c → c ≠ 0 → Below w.heap.size w w' → AnsW (brC rs b) (brL rs b) (brA rs b) (brW rs b) (brE rs b) w (.returned (.tuple #[.agg #[.slice none 0 0, .slice none 0 0, .int .i64 0, .int .i64 0], .int .i64 c])) w' := fun c w' h1 h2 h3 => by
    obtain ⟨e1, e2, e3, e4⟩ := br_no h1 h2
    rw [e1, e2, e3, e4, h1]
    exact ansW_none h3
  obtain ⟨R, hR⟩ : ∃ R, R = w.heap.size := ⟨_, rfl⟩
  obtain ⟨W0, hW0⟩ : ∃ W0, W0 = w.alloc (Obj.cells #[.slice none 0 0, .slice none 0 0, .int .i64 0, .int .i64 0] 28) := ⟨_, rfl⟩
  have HW0 : Hid (W0 = w.alloc (Obj.cells #[.slice none 0 0, .slice none 0 0, .int .i64 0, .int .i64 0] 28) ∧ R = w.heap.size) := ⟨hW0, hR⟩
  have HB0 : Hid (Below w.heap.size w W0) := by show Below _ _ _; rw [hW0]; exact below_alloc _ _
  have HRx : Hid (W0.heap[R]? = some (.cells #[.slice none 0 0, .slice none 0 0, .int .i64 0, .int .i64 0] 28 (0, 0))) := by show _ = _; rw [hW0, hR]; exact heapNew _ _
  have hRw : w.heap.size ≤ R := by rw [hR]; exact Nat.le_refl _
  have HF : Hid (∀ W, Below w.heap.size w W → Calls Try.prog 34 #[.slice ad rs.length cap, .int .i64 b] W fun e w' => e = .returned (.int .i64 (rfC rs b)) ∧ Below W.heap.size W w') := fun W hb => specBegin_any ad cap rs b hl W ((hr.below hb).mono hb.size)
  clear hW0 hR
  by_cases h2 : rfC rs b = 0
  · obtain ⟨h7, hs, hb⟩ := rf_zero h2
    have HTry : Hid (∀ (xb : Nat) (ao : Option Addr) W, TsI xb ad cap rs b none w W → Calls Try.prog 35 #[.pointer (some ⟨xb, 0, none⟩), .slice ao 0 0] W (TyQ xb ad cap rs b (brB rs b) w W)) := fun xb ao W hI => try_any xb ad cap rs b h7 hs hb w hr rs.length [] none ao 0 W (by simp) (fun j hj => by simp at hj) (.inl rfl) hI
    have HNo8 : Hid (brB rs b = none → ∀ w', Below w.heap.size w w' → AnsW (brC rs b) (brL rs b) (brA rs b) (brW rs b) (brE rs b) w (.returned (.tuple #[.agg #[.slice none 0 0, .slice none 0 0, .int .i64 0, .int .i64 0], .int .i64 8])) w') := fun h w' hb => hn0 8 w' (br_none h2 h) (by omega) hb
    have HYes : Hid (∀ o, brB rs b = some o → brC rs b = 0 ∧ brL rs b = o ∧ brA rs b = (trp rs b o).A ∧ brW rs b = (trp rs b o).wt ∧ brE rs b = enR rs b o) := fun o ho => br_yes h2 ho
    rw [h2] at HF
    clear hn0 h2 hs hb hr h7
    go_enter Try.func9, Try.ntmps9
    go_upto_region 1 with fail
    rw [← HW0.out.1, ← HW0.out.2]
    clear HW0
    go_wp2_with fail
    (first | go_at_call 34 | skip)
    refine (HF.out W0 HB0.out).mono ?_
    rintro e w1 ⟨rfl, hb1⟩
    have HB1 : Hid (Below W0.heap.size W0 w1) := hb1
    clear hb1 HF
    have HL1 : Hid (Below w.heap.size w w1 ∧ w1.heap[R]? = some (.cells #[.slice none 0 0, .slice none 0 0, .int .i64 0, .int .i64 0] 28 (0, 0)) ∧ R < w1.heap.size) := ⟨chain HB0.out HB1.out, (HB1.out.block R (blkLt HRx.out)).trans HRx.out, by have := blkLt HRx.out; have := HB1.out.size; omega⟩
    clear HB0 HRx HB1
    go_upto_region 5 with fail
    obtain ⟨xb, hxb⟩ : ∃ xb, xb = w1.heap.size := ⟨_, rfl⟩
    obtain ⟨W2, hW2⟩ : ∃ W2, W2 = w1.alloc (Obj.cells #[.slice ad rs.length cap, .int .i64 b, .slice none 0 0, .slice none 0 0, .int .i64 0, .int .i64 0, .bool false] 67) := ⟨_, rfl⟩
    rw [← hW2, ← hxb]
    have hw1 := HL1.out.1.size
    have hR1 := HL1.out.2.2
    have HX2 : Hid (TsI xb ad cap rs b none w W2) := ⟨by rw [hW2]; exact chain HL1.out.1 (below_alloc _ _), by omega, none, 0, none, 0, by rw [hW2, hxb]; exact heapNew _ _, .inl rfl, .inl rfl⟩
    have HR2 : Hid (W2.heap[R]? = some (.cells #[.slice none 0 0, .slice none 0 0, .int .i64 0, .int .i64 0] 28 (0, 0))) := by show _ = _; rw [hW2]; exact ((below_alloc _ _).block R hR1).trans HL1.out.2.1
    have HRl : Hid (R < xb ∧ w.heap.size ≤ xb) := ⟨by omega, by omega⟩
    clear HL1 hW2 hxb hw1 hR1
    go_wp2_with fail
    (first | go_at_call 35 | skip)
    refine (HTry.out _ _ _ (HX2.out.later (below_alloc _ _))).mono ?_
    rintro e w4 ⟨rfl, hT, hf⟩
    have HX4 : Hid (TsI xb ad cap rs b (brB rs b) w w4) := hT
    have HR4 : Hid (w4.heap[R]? = some (.cells #[.slice none 0 0, .slice none 0 0, .int .i64 0, .int .i64 0] 28 (0, 0))) := (hf.block R (by have := blkLt HR2.out; simp; omega) (by have := HRl.out; omega)).trans (((below_alloc _ _).block R (blkLt HR2.out)).trans HR2.out)
    clear hT hf HX2 HR2 HTry
    obtain ⟨c0, c1, c2, c3⟩ := HX4.out.sc
    obtain ⟨hRx1, hRx2⟩ := HRl.out
    cases hB : brB rs b with
    | none =>
      have HNo := HNo8.out hB
      have HNo : Hid (∀ w', Below w.heap.size w w' → AnsW (brC rs b) (brL rs b) (brA rs b) (brW rs b) (brE rs b) w (.returned (.tuple #[.agg #[.slice none 0 0, .slice none 0 0, .int .i64 0, .int .i64 0], .int .i64 8])) w') := HNo
      rw [hB] at c2 c3
      clear HNo8 HYes
      generalize AnsW (brC rs b) (brL rs b) (brA rs b) (brW rs b) (brE rs b) w = Post at *
      have hrx := HR4.out
      have z0 := blkCell hrx 0 _ rfl
      have y0 := blkFree hrx 0
      have z1 := blkCell hrx 1 _ rfl
      have y1 := blkFree hrx 1
      have z2 := blkCell hrx 2 _ rfl
      have y2 := blkFree hrx 2
      have z3 := blkCell hrx 3 _ rfl
      have y3 := blkFree hrx 3
      simp only [List.getElem_toArray, List.getElem_cons_zero, List.getElem_cons_succ] at z0 z1 z2 z3
      clear hrx
      go_wp2_with fail
      refine bodyPost_ret (v := .tuple #[.agg #[.slice none 0 0, .slice none 0 0, .int .i64 0, .int .i64 0], .int .i64 8]) (by simp [results, Try.results9, go_sem, z0, z1, z2, z3]) rfl ?_
      refine HNo.out _ ?_
      repeat refine Below.setCell ?_ (by dsimp only; omega) _
      exact HX4.out.low
    | some o =>
      have hyes := HYes.out o hB
      rw [hB] at HX4
      obtain ⟨q, cq, s, cs, h1, h2, h3⟩ := HX4.out.se
      have HRr : Hid (RowI (xb + 1) w4.heap.size w4 q o ∧ RowI (xb + 1) w4.heap.size w4 s (trp rs b o).A) := ⟨h2, h3⟩
      have x2 := blkCell h1 2 _ rfl
      have x3 := blkCell h1 3 _ rfl
      have x4 := blkCell h1 4 _ rfl
      have x5 := blkCell h1 5 _ rfl
      have x6 := blkCell h1 6 _ rfl
      have HYs : Hid (brC rs b = 0 ∧ brL rs b = o ∧ brA rs b = (trp rs b o).A ∧ brW rs b = (trp rs b o).wt ∧ brE rs b = enR rs b o) := hyes
      have HLow : Hid (Below w.heap.size w w4) := HX4.out.low
      simp only [List.getElem_toArray, List.getElem_cons_zero, List.getElem_cons_succ, Option.getD_some, tsA, tsW, tsE, Option.isSome_some] at x2 x3 x4 x5 x6
      clear hyes h1 h2 h3 HYes HNo8 hB c0 c1 c2 c3 HX4
      have hrx := HR4.out
      have z0 := blkCell hrx 0 _ rfl
      have y0 := blkFree hrx 0
      have z1 := blkCell hrx 1 _ rfl
      have y1 := blkFree hrx 1
      have z2 := blkCell hrx 2 _ rfl
      have y2 := blkFree hrx 2
      have z3 := blkCell hrx 3 _ rfl
      have y3 := blkFree hrx 3
      simp only [List.getElem_toArray, List.getElem_cons_zero, List.getElem_cons_succ] at z0 z1 z2 z3
      clear hrx
      go_wp2_with fail
      refine bodyPost_ret (v := .tuple #[.agg #[.slice q o.length cq, .slice s (trp rs b o).A.length cs, .int .i64 (trp rs b o).wt, .int .i64 (enR rs b o)], .int .i64 0]) (by simp [results, Try.results9, go_sem, z0, z1, z2, z3]) rfl ?_
      obtain ⟨e1, e2, e3, e4, e5⟩ := HYs.out
      obtain ⟨r1, r2⟩ := HRr.out
      rw [e1, e2, e3, e4, e5]
      have k3 : R < xb + 1 := by omega
      refine ⟨q, cq, s, cs, rfl, ?_, ?_, ?_⟩
      · simp only [World.size_setCell]
        refine RowI.wide (lo := xb + 1) (hi := w4.heap.size) ?_ (by omega) (Nat.le_refl _) (by simp only [World.size_setCell]; exact Nat.le_refl _)
        exact (((r1.set k3 _ _).set k3 _ _).set k3 _ _).set k3 _ _
      · simp only [World.size_setCell]
        refine RowI.wide (lo := xb + 1) (hi := w4.heap.size) ?_ (by omega) (Nat.le_refl _) (by simp only [World.size_setCell]; exact Nat.le_refl _)
        exact (((r2.set k3 _ _).set k3 _ _).set k3 _ _).set k3 _ _
      · repeat refine Below.setCell ?_ (by dsimp only; omega) _
        exact HLow.out
  · have hfb : (rfC rs b != 0) = true := by simpa using h2
    have HNo : Hid (∀ w', Below w.heap.size w w' → AnsW (brC rs b) (brL rs b) (brA rs b) (brW rs b) (brE rs b) w (.returned (.tuple #[.agg #[.slice none 0 0, .slice none 0 0, .int .i64 0, .int .i64 0], .int .i64 (rfC rs b)])) w') := fun w' hb => hn0 (rfC rs b) w' (br_fault h2) h2 hb
    clear hn0 h2 hr
    generalize AnsW (brC rs b) (brL rs b) (brA rs b) (brW rs b) (brE rs b) w = Post at *
    generalize rfC rs b = fv at *
    go_enter Try.func9, Try.ntmps9
    go_upto_region 1 with fail
    rw [← HW0.out.1, ← HW0.out.2]
    clear HW0
    go_wp2_with fail
    (first | go_at_call 34 | skip)
    refine (HF.out W0 HB0.out).mono ?_
    rintro e w1 ⟨rfl, hb1⟩
    have HB1 : Hid (Below W0.heap.size W0 w1) := hb1
    clear hb1 HF
    have hrx := (HB1.out.block R (blkLt HRx.out)).trans HRx.out
    have z0 := blkCell hrx 0 _ rfl
    have y0 := blkFree hrx 0
    have z1 := blkCell hrx 1 _ rfl
    have y1 := blkFree hrx 1
    have z2 := blkCell hrx 2 _ rfl
    have y2 := blkFree hrx 2
    have z3 := blkCell hrx 3 _ rfl
    have y3 := blkFree hrx 3
    simp only [List.getElem_toArray, List.getElem_cons_zero, List.getElem_cons_succ] at z0 z1 z2 z3
    clear hrx
    go_wp2_with fail
    refine bodyPost_ret (v := .tuple #[.agg #[.slice none 0 0, .slice none 0 0, .int .i64 0, .int .i64 0], .int .i64 fv]) (by simp [results, Try.results9, go_sem, z0, z1, z2, z3]) rfl ?_
    refine HNo.out _ ?_
    repeat refine Below.setCell ?_ (by dsimp only; omega) _
    exact (chain HB0.out HB1.out)
end Go.Proofs.Ytoogphkojofkfaa

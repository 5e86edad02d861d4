/-
  The contract of the program's takes: one event is taken into a ledger.
-/
import Derived.Test.YtabghjlmmpckdaaLgB
namespace Go.Proofs.Ytabghjlmmpckdaa
open Go.ChangeShapes Go.WideShapes Go.ChangeAt Go.RowKit Go.Deep
set_option linter.unusedVariables false

theorem cells_eq {xs : List Value} {cs : List RCd} (hl : xs.length = cs.length * 4) (h : ∀ i j, i < cs.length → j < 4 → xs[i * 4 + j]? = (cdC (cs.getD i zCd))[j]?) : xs = cdCells cs := by
  apply List.ext_getElem?
  intro q
  by_cases hq : q < cs.length * 4
  · have h1 := h (q / 4) (q % 4) (by omega) (by omega)
    have h2 := cdCells_get cs (q / 4) (q % 4) (by omega) (by omega)
    rw [show q / 4 * 4 + q % 4 = q by omega] at h1 h2
    rw [h1, h2]
  · rw [List.getElem?_eq_none (by omega), List.getElem?_eq_none (by rw [cdCells_len]; omega)]
theorem getD_set_same (cs : List RCd) (p : Nat) (c : RCd) (hp : p < cs.length) : (cs.set p c).getD p zCd = c := by simp [List.getD_eq_getElem?_getD, hp]
theorem getD_set_other (cs : List RCd) (p i : Nat) (c : RCd) (hp : p ≠ i) : (cs.set p c).getD i zCd = cs.getD i zCd := by
  simp only [List.getD_eq_getElem?_getD]; rw [List.getElem?_set, if_neg hp]
theorem cells_ld (cs : List RCd) (p : Nat) (hp : p < cs.length) (am : Int) : ((cdCells cs).set (p * 4 + 2) (.int .i64 ((cs.getD p zCd).ld + am))).set (p * 4 + 1) (.int .i64 ((cs.getD p zCd).lf + am)) = cdCells (cs.set p (ldC (cs.getD p zCd) am)) := by
  refine cells_eq (by rw [List.length_set, List.length_set, List.length_set, cdCells_len]) (fun i j hi hj => ?_)
  rw [List.length_set] at hi
  rw [List.getElem?_set, List.getElem?_set]
  simp only [List.length_set, cdCells_len]
  by_cases e : p = i
  · subst e
    rw [getD_set_same _ _ _ hp]
    have h0 := cdCells_get cs p j hp hj
    rcases (by omega : j = 0 ∨ j = 1 ∨ j = 2 ∨ j = 3) with rfl | rfl | rfl | rfl
    · rw [if_neg (by omega), if_neg (by omega), h0]; rfl
    · rw [if_pos (by omega), if_pos (by omega)]; rfl
    · rw [if_neg (by omega), if_pos (by omega), if_pos (by omega)]; rfl
    · rw [if_neg (by omega), if_neg (by omega), h0]; rfl
  · rw [getD_set_other _ _ _ _ e, if_neg (by omega), if_neg (by omega)]
    exact cdCells_get cs i j hi hj
theorem cells_sp (cs : List RCd) (p : Nat) (hp : p < cs.length) (am : Int) : ((cdCells cs).set (p * 4 + 3) (.int .i64 ((cs.getD p zCd).sp + am))).set (p * 4 + 1) (.int .i64 ((cs.getD p zCd).lf - am)) = cdCells (cs.set p (spC (cs.getD p zCd) am)) := by
  refine cells_eq (by rw [List.length_set, List.length_set, List.length_set, cdCells_len]) (fun i j hi hj => ?_)
  rw [List.length_set] at hi
  rw [List.getElem?_set, List.getElem?_set]
  simp only [List.length_set, cdCells_len]
  by_cases e : p = i
  · subst e
    rw [getD_set_same _ _ _ hp]
    have h0 := cdCells_get cs p j hp hj
    rcases (by omega : j = 0 ∨ j = 1 ∨ j = 2 ∨ j = 3) with rfl | rfl | rfl | rfl
    · rw [if_neg (by omega), if_neg (by omega), h0]; rfl
    · rw [if_pos (by omega), if_pos (by omega)]; rfl
    · rw [if_neg (by omega), if_neg (by omega), h0]; rfl
    · rw [if_neg (by omega), if_pos (by omega), if_pos (by omega)]; rfl
  · rw [getD_set_other _ _ _ _ e, if_neg (by omega), if_neg (by omega)]
    exact cdCells_get cs i j hi hj
theorem cells_lf (cs : List RCd) (p : Nat) (hp : p < cs.length) : (cdCells cs).set (p * 4 + 1) (.int .i64 (cs.getD p zCd).lf) = cdCells cs := by
  refine cells_eq (by rw [List.length_set, cdCells_len]) (fun i j hi hj => ?_)
  rw [List.getElem?_set]
  simp only [cdCells_len]
  by_cases e : p * 4 + 1 = i * 4 + j
  · obtain rfl : p = i := by omega
    obtain rfl : j = 1 := by omega
    rw [if_pos rfl, if_pos (by omega)]; rfl
  · rw [if_neg e]
    exact cdCells_get cs i j hi hj
/-- The ledger with cards turned is a ledger again. -/
theorem LgX.done {B lb : Nat} {cs cs' : List RCd} {xs : List Value} {g : Lg} {cg cc : Nat} {uv fv : Value} {W : World} (h : LgX B lb cs xs g cg cc uv fv W) (hx : xs = cdCells cs') (hl : cs.length = cs'.length) : LgM B lb ⟨cs', g.us, g.fs⟩ (.slice (some ⟨cg, 0, none⟩) cs.length cc) uv fv W :=
  ⟨h.box, by have := h.crow; rw [hx] at this; show W.ownsRow B _ 4 (.slice (some ⟨cg, 0, none⟩) cs.length cc) cs'.length (cdCells cs'); rw [← hl]; exact this, h.urow, h.frow⟩
def TkP (lb : Nat) (fv : Value) (t : Bool × Lg) (wa : World) (e : Ending) (w' : World) : Prop := ∃ cv' uv' : Value, e = .returned (.bool t.1) ∧ LgM lb lb t.2 cv' uv' fv w' ∧ Below lb wa w'
theorem LgX.cell {B lb : Nat} {cs : List RCd} {xs : List Value} {g : Lg} {cg cc : Nat} {uv fv : Value} {W : World} (h : LgX B lb cs xs g cg cc uv fv W) (q : Nat) (hq : q < cs.length * 4) (v : Value) (hv : xs[q]? = some v) : W.cell? ⟨cg, q, none⟩ = some v ∧ W.frozen? ⟨cg, q, none⟩ = false := by
  obtain ⟨c, hc⟩ := row_type h.crow (q := cg) rfl
  exact ⟨by rw [h.crow.cellAt q hq, hv], blkFree hc q⟩
theorem LgX.box5 {B lb bb : Nat} {cs : List RCd} {xs : List Value} {g : Lg} {cg cc : Nat} {uv fv : Value} {W : World} {cur : Array Value} (h : LgX B lb cs xs g cg cc uv fv W) (hb : W.heap[bb]? = some (.cells cur 35 (0, 0))) (q : Nat) (u : Value) : (W.setCell ⟨cg, q, none⟩ u).heap[bb]? = some (.cells cur 35 (0, 0)) :=
  (Below.heap_setCell _ _ _ _ (fun e => row_ne h.crow hb (by decide) (q := cg) rfl e.symm)).trans hb
set_option maxHeartbeats 8000000 in
set_option maxRecDepth 4000 in
theorem lgTakes_any (lb : Nat) (g : Lg) (sh sq tm kd : Int) (nm : ByteArray) (am : Int) (k : Nat) (hk : k ≤ 120) (hok : LgOK k g) (hkd : kd = 3 ∨ ((kd = 1 ∨ kd = 2) ∧ 1 ≤ am ∧ am ≤ 1000000)) (hnm : nm.size ≤ 2000000) (cv uv fv : Value) (wa : World) (hM : LgM lb lb g cv uv fv wa) :
    Calls Try.prog 26 #[.pointer (some ⟨lb, 0, none⟩), .agg #[.int .i64 sh, .int .i64 sq, .int .i64 tm, .int .i64 kd, .string nm, .int .i64 am]] wa (TkP lb fv (lgTake g kd nm am) wa) := by
  have hlb : lb < wa.heap.size := blkLt hM.box
  obtain ⟨W1, hW1⟩ : ∃ W1, W1 = wa.alloc (Obj.cells #[.int .i64 sh, .int .i64 sq, .int .i64 tm, .int .i64 kd, .string nm, .int .i64 am] 35) := ⟨_, rfl⟩
  have hb1 : Below wa.heap.size wa W1 := by rw [hW1]; exact below_alloc _ _
  have hn1 : W1.heap[wa.heap.size]? = some (.cells #[.int .i64 sh, .int .i64 sq, .int .i64 tm, .int .i64 kd, .string nm, .int .i64 am] 35 (0, 0)) := by rw [hW1]; exact heapNew _ _
  have HM1 : Hid (LgM lb lb g cv uv fv W1) := hM.later hb1
  have HB1 : Hid (Below lb wa W1) := hb1.mono (by omega)
  have hcl := hok.cl
  have hul := hok.ul
  rcases hkd with hk3 | ⟨hk12, ha1, ha2⟩
  · have HT : Hid (lgTake g kd nm am = if hasB g.us nm = true then (false, g) else (true, ⟨g.cs, g.us ++ [nm], g.fs⟩)) := by
      show _ = _
      unfold lgTake
      rw [if_pos hk3]
    have hU := lgUses_any lb g nm hnm cv uv fv (by omega) W1 HM1.out
    have hkb : (kd == 3) = true := by rw [hk3]; rfl
    generalize lgTake g kd nm am = t at *
    clear hM hb1 hn1 HM1 hok hcl hul hk3
    go_enter Try.func26, Try.ntmps26
    go_wp2_with fail
    go_at_call 50
    rw [← hW1]
    refine hU.mono ?_
    rintro e w2 ⟨uv', rfl, hM2, hB2⟩
    have HM2 : Hid (LgM lb lb ⟨g.cs, if hasB g.us nm = true then g.us else g.us ++ [nm], g.fs⟩ cv uv' fv w2) := hM2
    have HB2 : Hid (Below lb wa w2) := HB1.out.trans hB2
    clear hM2 hB2 hU hW1 HB1
    generalize hasB g.us nm = hb at *
    cases hb
    · have HT2 : Hid (t = (true, ⟨g.cs, g.us ++ [nm], g.fs⟩)) := by have h := HT.out; rw [if_neg (by decide)] at h; exact h
      have HM3 : Hid (LgM lb lb ⟨g.cs, g.us ++ [nm], g.fs⟩ cv uv' fv w2) := by have h := HM2.out; rw [if_neg (by decide)] at h; exact h
      clear HT HM2
      go_wp2
      go_ret
      exact ⟨_, _, by rw [HT2.out]; rfl, by rw [HT2.out]; exact HM3.out, HB2.out⟩
    · have HT2 : Hid (t = (false, g)) := by have h := HT.out; rw [if_pos rfl] at h; exact h
      have HM3 : Hid (LgM lb lb ⟨g.cs, g.us, g.fs⟩ cv uv' fv w2) := by have h := HM2.out; rw [if_pos rfl] at h; exact h
      clear HT HM2
      go_wp2
      go_ret
      exact ⟨_, _, by rw [HT2.out]; rfl, by rw [HT2.out]; exact HM3.out, HB2.out⟩
  · have hPl := lgPlace_any lb g nm hnm cv uv fv (by omega) W1 HM1.out
    have hkb3 : (kd == 3) = false := by rcases hk12 with h | h <;> rw [h] <;> rfl
    have hn3 : ¬ kd = 3 := by omega
    have hbase := hok.base nm (cdIx g.cs nm)
    have hlen := lgCs_len g.cs nm (cdIx g.cs nm)
    have hp := lgPl_lt g.cs nm
    have HT : Hid (lgTake g kd nm am = if kd = 1 then (true, ⟨(lgCs g.cs nm (cdIx g.cs nm)).set (lgPl g.cs (cdIx g.cs nm)) (ldC ((lgCs g.cs nm (cdIx g.cs nm)).getD (lgPl g.cs (cdIx g.cs nm)) zCd) am), g.us, g.fs⟩) else if ((lgCs g.cs nm (cdIx g.cs nm)).getD (lgPl g.cs (cdIx g.cs nm)) zCd).lf < am then (false, ⟨lgCs g.cs nm (cdIx g.cs nm), g.us, g.fs⟩) else (true, ⟨(lgCs g.cs nm (cdIx g.cs nm)).set (lgPl g.cs (cdIx g.cs nm)) (spC ((lgCs g.cs nm (cdIx g.cs nm)).getD (lgPl g.cs (cdIx g.cs nm)) zCd) am), g.us, g.fs⟩)) := by
      show _ = _
      unfold lgTake
      rw [if_neg hn3]
    have hcr := hM.crow
    unfold PlP at hPl
    generalize lgTake g kd nm am = t at *
    generalize lgCs g.cs nm (cdIx g.cs nm) = cs at *
    generalize lgPl g.cs (cdIx g.cs nm) = p at *
    have hc0 := getCd' hbase hp
    obtain ⟨c0, hc0e⟩ : ∃ c0, c0 = cs.getD p zCd := ⟨_, rfl⟩
    rw [← hc0e] at hc0 HT
    have HC0 : Hid (c0 = cs.getD p zCd) := hc0e
    obtain ⟨z1, z2, z3, z4, z5, z6, z7⟩ := hc0
    have hbne : cv.ownBlock ≠ some wa.heap.size := fun e => by have := (row_lt hcr _ e).2; omega
    clear hM hb1 hbase hc0e hcr
    go_enter Try.func26, Try.ntmps26
    go_wp2_with fail
    go_at_call 51
    rw [← hW1]
    refine hPl.mono ?_
    rintro e w2 ⟨cv', rfl, hM2, hB2, hF2⟩
    obtain ⟨cg, cc, rfl⟩ := row_some hM2.crow (Nat.lt_of_le_of_lt (Nat.zero_le _) hp)
    have hx2 : LgX lb lb cs (cdCells cs) g cg cc uv fv w2 := ⟨hM2.box, hM2.crow, hM2.urow, hM2.frow⟩
    have hbx : w2.heap[wa.heap.size]? = some (.cells #[.int .i64 sh, .int .i64 sq, .int .i64 tm, .int .i64 kd, .string nm, .int .i64 am] 35 (0, 0)) := (hF2.block wa.heap.size (blkLt hn1) (fun e => by rcases e with e | e; exact absurd e (by omega); exact hbne e)).trans hn1
    have HX2 : Hid (LgX lb lb cs (cdCells cs) g cg cc uv fv w2) := hx2
    have HBX2 : Hid (w2.heap[wa.heap.size]? = some (.cells #[.int .i64 sh, .int .i64 sq, .int .i64 tm, .int .i64 kd, .string nm, .int .i64 am] 35 (0, 0))) := hbx
    have HB2 : Hid (Below lb wa w2) := HB1.out.trans hB2
    have x0 : w2.cell? ⟨lb, 0, none⟩ = some (.slice (some ⟨cg, 0, none⟩) cs.length cc) := blkCell hM2.box 0 _ rfl
    have x3 : w2.cell? ⟨wa.heap.size, 3, none⟩ = some (.int .i64 kd) := blkCell hbx 3 _ rfl
    have x4 : w2.cell? ⟨wa.heap.size, 4, none⟩ = some (.string nm) := blkCell hbx 4 _ rfl
    have x5 : w2.cell? ⟨wa.heap.size, 5, none⟩ = some (.int .i64 am) := blkCell hbx 5 _ rfl
    have l2 : wa.heap.size < w2.heap.size := blkLt hbx
    have l3 : lb < w2.heap.size := blkLt hM2.box
    have hpi : (p : Int) < (cs.length : Int) := by omega
    have HG : Hid (∀ j, j < 4 → (cdCells cs)[p * 4 + j]? = (cdC c0)[j]?) := fun j hj => by rw [HC0.out]; exact cdCells_get cs p j hp hj
    clear hM2 hB2 hF2 hx2 hbx hn1 hPl hW1 HB1 HM1 hbne
    have hwl : wrap64 (c0.ld + am) = c0.ld + am := by unfold wrap64; omega
    have hwl' : IntKind.i64.wrap (c0.ld + am) = c0.ld + am := wrap_id _ (by omega) (by omega)
    have hwf' : IntKind.i64.wrap (c0.lf + am) = c0.lf + am := wrap_id _ (by omega) (by omega)
    have hws' : IntKind.i64.wrap (c0.sp + am) = c0.sp + am := wrap_id _ (by omega) (by omega)
    have hwm' : IntKind.i64.wrap (c0.lf - am) = c0.lf - am := wrap_id _ (by omega) (by omega)
    clear hwl z7
    by_cases hk1 : kd = 1
    · have HT2 : Hid (t = (true, ⟨cs.set p (ldC c0 am), g.us, g.fs⟩)) := by have h := HT.out; rw [if_pos hk1] at h; exact h
      have hkb : (kd == 1) = true := by rw [hk1]; rfl
      clear HT hk1 hk12 hn3
      go_wp2_with fail
      have HC2 : Hid (w2.drew.cell? ⟨cg, p * 4 + 2, none⟩ = some (.int .i64 c0.ld) ∧ w2.drew.cell? ⟨wa.heap.size, 5, none⟩ = some (.int .i64 am) ∧ w2.drew.frozen? ⟨cg, p * 4 + 2, none⟩ = false) := by
        have h := (HX2.out.drew (below_drew _)).cell (p * 4 + 2) (by omega) _ (HG.out 2 (by omega))
        exact ⟨h.1, blkCell HBX2.out 5 _ rfl, h.2⟩
      have HN2 : Hid (∀ Wd, Wd = w2.drew → LgX lb lb cs ((cdCells cs).set (p * 4 + 2) (.int .i64 (c0.ld + am))) g cg cc uv fv (Wd.setCell ⟨cg, p * 4 + 2, none⟩ (.int .i64 (c0.ld + am))) ∧ (Wd.setCell ⟨cg, p * 4 + 2, none⟩ (.int .i64 (c0.ld + am))).heap[wa.heap.size]? = some (.cells #[.int .i64 sh, .int .i64 sq, .int .i64 tm, .int .i64 kd, .string nm, .int .i64 am] 35 (0, 0)) ∧ Below lb wa (Wd.setCell ⟨cg, p * 4 + 2, none⟩ (.int .i64 (c0.ld + am)))) := fun Wd e => by
        subst e
        have h := HX2.out.drew (below_drew _)
        exact ⟨h.put _ (by omega) _, h.box5 HBX2.out _ _, (HB2.out.trans ((below_drew _).mono (Nat.le_of_lt (blkLt HX2.out.box)))).setCell (row_lt h.crow cg rfl).1 _⟩
      refine wp_region_z (S := fun W => W = w2.drew) 9 (by kernel_rfl) rfl (fun hH => ?_)
      generalize w2.drew = Wd at *
      refine wpAnyZ_take (i := 0) (v := .pointer (some ⟨cg, p * 4, none⟩)) rfl (by kernel_rfl) (by kernel_rfl) (by kernel_rfl) (by kernel_rfl) (fun _ _ _ h => h) (Or.inl ⟨by rfl, fun w hSw => by go_simp⟩) hH ?_
      refine wpAnyZ_take (i := 1) (v := .pointer (some ⟨cg, p * 4, none⟩)) rfl (by kernel_rfl) (by kernel_rfl) (by kernel_rfl) (by kernel_rfl) (fun _ _ _ h => h) (Or.inl ⟨by rfl, fun w hSw => by go_simp⟩) hH ?_
      try simp only [Act.put, List.setIfInBounds_toArray, List.set_cons_zero, List.set_cons_succ, List.getElem_toArray, List.getElem_cons_succ, List.getElem_cons_zero]
      refine wpAnyZ_take (i := 2) (v := .pointer (some ⟨cg, p * 4 + 2, none⟩)) rfl (by kernel_rfl) (by kernel_rfl) (by kernel_rfl) (by kernel_rfl) (fun _ _ _ h => h) (Or.inl ⟨by rfl, fun w hSw => by go_simp⟩) hH ?_
      try simp only [Act.put, List.setIfInBounds_toArray, List.set_cons_zero, List.set_cons_succ, List.getElem_toArray, List.getElem_cons_succ, List.getElem_cons_zero]
      refine wpAnyZ_take (i := 3) (v := .int .i64 c0.ld) rfl (by kernel_rfl) (by kernel_rfl) (by kernel_rfl) (by kernel_rfl) (fun _ _ _ h => h) (Or.inl ⟨by rfl, fun w hSw => by have f0 := HC2.out.1; subst hSw; go_simp⟩) hH ?_
      try simp only [Act.put, List.setIfInBounds_toArray, List.set_cons_zero, List.set_cons_succ, List.getElem_toArray, List.getElem_cons_succ, List.getElem_cons_zero]
      refine wpAnyZ_take (i := 4) (v := .pointer (some ⟨wa.heap.size, 5, none⟩)) rfl (by kernel_rfl) (by kernel_rfl) (by kernel_rfl) (by kernel_rfl) (fun _ _ _ h => h) (Or.inl ⟨by rfl, fun w hSw => by go_simp⟩) hH ?_
      try simp only [Act.put, List.setIfInBounds_toArray, List.set_cons_zero, List.set_cons_succ, List.getElem_toArray, List.getElem_cons_succ, List.getElem_cons_zero]
      refine wpAnyZ_take (i := 5) (v := .int .i64 am) rfl (by kernel_rfl) (by kernel_rfl) (by kernel_rfl) (by kernel_rfl) (fun _ _ _ h => h) (Or.inl ⟨by rfl, fun w hSw => by have f0 := HC2.out.2.1; subst hSw; go_simp⟩) hH ?_
      try simp only [Act.put, List.setIfInBounds_toArray, List.set_cons_zero, List.set_cons_succ, List.getElem_toArray, List.getElem_cons_succ, List.getElem_cons_zero]
      refine wpAnyZ_take (i := 6) (v := .int .i64 (c0.ld + am)) rfl (by kernel_rfl) (by kernel_rfl) (by kernel_rfl) (by kernel_rfl) (fun _ _ _ h => h) (Or.inl ⟨by rfl, fun w hSw => by have f0 := hwl'; go_simp⟩) hH ?_
      try simp only [Act.put, List.setIfInBounds_toArray, List.set_cons_zero, List.set_cons_succ, List.getElem_toArray, List.getElem_cons_succ, List.getElem_cons_zero]
      refine wpAnyZ_take (i := 7) (v := .pointer (some ⟨cg, p * 4, none⟩)) rfl (by kernel_rfl) (by kernel_rfl) (by kernel_rfl) (by kernel_rfl) (fun _ _ _ h => h) (Or.inl ⟨by rfl, fun w hSw => by go_simp⟩) hH ?_
      try simp only [Act.put, List.setIfInBounds_toArray, List.set_cons_zero, List.set_cons_succ, List.getElem_toArray, List.getElem_cons_succ, List.getElem_cons_zero]
      refine wpAnyZ_take (i := 8) (v := .pointer (some ⟨cg, p * 4 + 2, none⟩)) rfl (by kernel_rfl) (by kernel_rfl) (by kernel_rfl) (by kernel_rfl) (fun _ _ _ h => h) (Or.inl ⟨by rfl, fun w hSw => by go_simp⟩) hH ?_
      try simp only [Act.put, List.setIfInBounds_toArray, List.set_cons_zero, List.set_cons_succ, List.getElem_toArray, List.getElem_cons_succ, List.getElem_cons_zero]
      refine wpAnyZ_ready (rs := [9]) (by kernel_rfl) (by simp) ?_
      refine AllReadyZ.cons rfl (fun K hK => ?_) AllReadyZ.nil
      obtain ⟨y0, y1, y2⟩ := HC2.out
      go_simp
      refine hK.out _ _ (Or.inl rfl) (fun _ => ?_)
      clear hK K
      try simp only [Act.put, List.setIfInBounds_toArray, List.set_cons_zero, List.set_cons_succ, List.getElem_toArray, List.getElem_cons_succ, List.getElem_cons_zero]
      refine wpAnyZ_done (by kernel_rfl) ?_ _
      clear y0 y1 y2 HC2 hH
      obtain ⟨hx3, hbx3, hB3⟩ := HN2.out _ rfl
      generalize Wd.setCell ⟨cg, p * 4 + 2, none⟩ (.int .i64 (c0.ld + am)) = w3 at *
      have HX3 : Hid (LgX lb lb cs ((cdCells cs).set (p * 4 + 2) (.int .i64 (c0.ld + am))) g cg cc uv fv w3) := hx3
      have HBX3 : Hid (w3.heap[wa.heap.size]? = some (.cells #[.int .i64 sh, .int .i64 sq, .int .i64 tm, .int .i64 kd, .string nm, .int .i64 am] 35 (0, 0))) := hbx3
      have HB3 : Hid (Below lb wa w3) := hB3
      clear hx3 hbx3 hB3 HN2 HX2 HBX2 HB2
      go_wp2_with fail
      have HC3 : Hid (w3.drew.cell? ⟨cg, p * 4 + 1, none⟩ = some (.int .i64 c0.lf) ∧ w3.drew.cell? ⟨wa.heap.size, 5, none⟩ = some (.int .i64 am) ∧ w3.drew.frozen? ⟨cg, p * 4 + 1, none⟩ = false) := by
        have h := (HX3.out.drew (below_drew _)).cell (p * 4 + 1) (by omega) _ (by rw [List.getElem?_set, if_neg (by omega)]; exact HG.out 1 (by omega))
        exact ⟨h.1, blkCell HBX3.out 5 _ rfl, h.2⟩
      have HN3 : Hid (∀ Wd, Wd = w3.drew → LgX lb lb cs (((cdCells cs).set (p * 4 + 2) (.int .i64 (c0.ld + am))).set (p * 4 + 1) (.int .i64 (c0.lf + am))) g cg cc uv fv (Wd.setCell ⟨cg, p * 4 + 1, none⟩ (.int .i64 (c0.lf + am))) ∧ (Wd.setCell ⟨cg, p * 4 + 1, none⟩ (.int .i64 (c0.lf + am))).heap[wa.heap.size]? = some (.cells #[.int .i64 sh, .int .i64 sq, .int .i64 tm, .int .i64 kd, .string nm, .int .i64 am] 35 (0, 0)) ∧ Below lb wa (Wd.setCell ⟨cg, p * 4 + 1, none⟩ (.int .i64 (c0.lf + am)))) := fun Wd e => by
        subst e
        have h := HX3.out.drew (below_drew _)
        exact ⟨h.put _ (by omega) _, h.box5 HBX3.out _ _, (HB3.out.trans ((below_drew _).mono (Nat.le_of_lt (blkLt HX3.out.box)))).setCell (row_lt h.crow cg rfl).1 _⟩
      refine wp_region_z (S := fun W => W = w3.drew) 9 (by kernel_rfl) rfl (fun hH => ?_)
      generalize w3.drew = Wd at *
      refine wpAnyZ_take (i := 0) (v := .pointer (some ⟨cg, p * 4, none⟩)) rfl (by kernel_rfl) (by kernel_rfl) (by kernel_rfl) (by kernel_rfl) (fun _ _ _ h => h) (Or.inl ⟨by rfl, fun w hSw => by go_simp⟩) hH ?_
      refine wpAnyZ_take (i := 1) (v := .pointer (some ⟨cg, p * 4, none⟩)) rfl (by kernel_rfl) (by kernel_rfl) (by kernel_rfl) (by kernel_rfl) (fun _ _ _ h => h) (Or.inl ⟨by rfl, fun w hSw => by go_simp⟩) hH ?_
      try simp only [Act.put, List.setIfInBounds_toArray, List.set_cons_zero, List.set_cons_succ, List.getElem_toArray, List.getElem_cons_succ, List.getElem_cons_zero]
      refine wpAnyZ_take (i := 2) (v := .pointer (some ⟨cg, p * 4 + 1, none⟩)) rfl (by kernel_rfl) (by kernel_rfl) (by kernel_rfl) (by kernel_rfl) (fun _ _ _ h => h) (Or.inl ⟨by rfl, fun w hSw => by go_simp⟩) hH ?_
      try simp only [Act.put, List.setIfInBounds_toArray, List.set_cons_zero, List.set_cons_succ, List.getElem_toArray, List.getElem_cons_succ, List.getElem_cons_zero]
      refine wpAnyZ_take (i := 3) (v := .int .i64 c0.lf) rfl (by kernel_rfl) (by kernel_rfl) (by kernel_rfl) (by kernel_rfl) (fun _ _ _ h => h) (Or.inl ⟨by rfl, fun w hSw => by have f0 := HC3.out.1; subst hSw; go_simp⟩) hH ?_
      try simp only [Act.put, List.setIfInBounds_toArray, List.set_cons_zero, List.set_cons_succ, List.getElem_toArray, List.getElem_cons_succ, List.getElem_cons_zero]
      refine wpAnyZ_take (i := 4) (v := .pointer (some ⟨wa.heap.size, 5, none⟩)) rfl (by kernel_rfl) (by kernel_rfl) (by kernel_rfl) (by kernel_rfl) (fun _ _ _ h => h) (Or.inl ⟨by rfl, fun w hSw => by go_simp⟩) hH ?_
      try simp only [Act.put, List.setIfInBounds_toArray, List.set_cons_zero, List.set_cons_succ, List.getElem_toArray, List.getElem_cons_succ, List.getElem_cons_zero]
      refine wpAnyZ_take (i := 5) (v := .int .i64 am) rfl (by kernel_rfl) (by kernel_rfl) (by kernel_rfl) (by kernel_rfl) (fun _ _ _ h => h) (Or.inl ⟨by rfl, fun w hSw => by have f0 := HC3.out.2.1; subst hSw; go_simp⟩) hH ?_
      try simp only [Act.put, List.setIfInBounds_toArray, List.set_cons_zero, List.set_cons_succ, List.getElem_toArray, List.getElem_cons_succ, List.getElem_cons_zero]
      refine wpAnyZ_take (i := 6) (v := .int .i64 (c0.lf + am)) rfl (by kernel_rfl) (by kernel_rfl) (by kernel_rfl) (by kernel_rfl) (fun _ _ _ h => h) (Or.inl ⟨by rfl, fun w hSw => by have f0 := hwf'; go_simp⟩) hH ?_
      try simp only [Act.put, List.setIfInBounds_toArray, List.set_cons_zero, List.set_cons_succ, List.getElem_toArray, List.getElem_cons_succ, List.getElem_cons_zero]
      refine wpAnyZ_take (i := 7) (v := .pointer (some ⟨cg, p * 4, none⟩)) rfl (by kernel_rfl) (by kernel_rfl) (by kernel_rfl) (by kernel_rfl) (fun _ _ _ h => h) (Or.inl ⟨by rfl, fun w hSw => by go_simp⟩) hH ?_
      try simp only [Act.put, List.setIfInBounds_toArray, List.set_cons_zero, List.set_cons_succ, List.getElem_toArray, List.getElem_cons_succ, List.getElem_cons_zero]
      refine wpAnyZ_take (i := 8) (v := .pointer (some ⟨cg, p * 4 + 1, none⟩)) rfl (by kernel_rfl) (by kernel_rfl) (by kernel_rfl) (by kernel_rfl) (fun _ _ _ h => h) (Or.inl ⟨by rfl, fun w hSw => by go_simp⟩) hH ?_
      try simp only [Act.put, List.setIfInBounds_toArray, List.set_cons_zero, List.set_cons_succ, List.getElem_toArray, List.getElem_cons_succ, List.getElem_cons_zero]
      refine wpAnyZ_ready (rs := [9]) (by kernel_rfl) (by simp) ?_
      refine AllReadyZ.cons rfl (fun K hK => ?_) AllReadyZ.nil
      obtain ⟨y0, y1, y2⟩ := HC3.out
      go_simp
      refine hK.out _ _ (Or.inl rfl) (fun _ => ?_)
      clear hK K
      try simp only [Act.put, List.setIfInBounds_toArray, List.set_cons_zero, List.set_cons_succ, List.getElem_toArray, List.getElem_cons_succ, List.getElem_cons_zero]
      refine wpAnyZ_done (by kernel_rfl) ?_ _
      clear y0 y1 y2 HC3 hH
      obtain ⟨hx4, hbx4, hB4⟩ := HN3.out _ rfl
      generalize Wd.setCell ⟨cg, p * 4 + 1, none⟩ (.int .i64 (c0.lf + am)) = w4 at *
      have HX4 : Hid (LgX lb lb cs (((cdCells cs).set (p * 4 + 2) (.int .i64 (c0.ld + am))).set (p * 4 + 1) (.int .i64 (c0.lf + am))) g cg cc uv fv w4) := hx4
      have HBX4 : Hid (w4.heap[wa.heap.size]? = some (.cells #[.int .i64 sh, .int .i64 sq, .int .i64 tm, .int .i64 kd, .string nm, .int .i64 am] 35 (0, 0))) := hbx4
      have HB4 : Hid (Below lb wa w4) := hB4
      clear hx4 hbx4 hB4 HN3 HX3 HBX3 HB3
      have HE : Hid (LgM lb lb ⟨cs.set p (ldC c0 am), g.us, g.fs⟩ (.slice (some ⟨cg, 0, none⟩) cs.length cc) uv fv w4) := HX4.out.done (by rw [HC0.out]; exact cells_ld cs p hp am) (by rw [List.length_set])
      clear HX4 HBX4
      go_wp2
      go_ret
      exact ⟨_, _, by rw [HT2.out]; rfl, by rw [HT2.out]; exact HE.out, HB4.out⟩
    · have hkb : (kd == 1) = false := by simpa using hk1
      have HT2 : Hid (t = if c0.lf < am then (false, ⟨cs, g.us, g.fs⟩) else (true, ⟨cs.set p (spC c0 am), g.us, g.fs⟩)) := by have h := HT.out; rw [if_neg hk1] at h; exact h
      have HRd : Hid (∀ W, Below w2.heap.size w2 W → W.cell? ⟨cg, p * 4 + 1, none⟩ = some (.int .i64 c0.lf) ∧ W.cell? ⟨wa.heap.size, 5, none⟩ = some (.int .i64 am)) := fun W h => by
        exact ⟨((HX2.out.drew h).cell (p * 4 + 1) (by omega) _ (HG.out 1 (by omega))).1, blkCell ((h.block _ (blkLt HBX2.out)).trans HBX2.out) 5 _ rfl⟩
      clear HT hk1 hk12 hn3
      go_wp2_with fail
      refine wp_region_held_drew (S := fun W => Below w2.heap.size w2 W) (by kernel_rfl) (below_drew _) (fun hH => ?_)
      refine wpAnyH_take (i := 0) (v := .pointer (some ⟨wa.heap.size, 5, none⟩)) rfl (by kernel_rfl) (by kernel_rfl) (by kernel_rfl) (fun _ _ _ h => h) (Or.inl ⟨by rfl, fun w hSw => by go_simp⟩) hH ?_
      refine wpAnyH_take (i := 1) (v := .int .i64 am) rfl (by kernel_rfl) (by kernel_rfl) (by kernel_rfl) (fun _ _ _ h => h) (Or.inl ⟨by rfl, fun w hSw => by have f0 := (HRd.out w hSw).2; go_simp⟩) hH ?_
      try simp only [Act.put, List.setIfInBounds_toArray, List.set_cons_zero, List.set_cons_succ, List.getElem_toArray, List.getElem_cons_succ, List.getElem_cons_zero]
      refine wpAnyH_take (i := 2) (v := .pointer (some ⟨cg, p * 4, none⟩)) rfl (by kernel_rfl) (by kernel_rfl) (by kernel_rfl) (fun _ _ _ h => h) (Or.inl ⟨by rfl, fun w hSw => by go_simp⟩) hH ?_
      try simp only [Act.put, List.setIfInBounds_toArray, List.set_cons_zero, List.set_cons_succ, List.getElem_toArray, List.getElem_cons_succ, List.getElem_cons_zero]
      refine wpAnyH_take (i := 3) (v := .pointer (some ⟨cg, p * 4, none⟩)) rfl (by kernel_rfl) (by kernel_rfl) (by kernel_rfl) (fun _ _ _ h => h) (Or.inl ⟨by rfl, fun w hSw => by go_simp⟩) hH ?_
      try simp only [Act.put, List.setIfInBounds_toArray, List.set_cons_zero, List.set_cons_succ, List.getElem_toArray, List.getElem_cons_succ, List.getElem_cons_zero]
      refine wpAnyH_take (i := 4) (v := .pointer (some ⟨cg, p * 4 + 1, none⟩)) rfl (by kernel_rfl) (by kernel_rfl) (by kernel_rfl) (fun _ _ _ h => h) (Or.inl ⟨by rfl, fun w hSw => by go_simp⟩) hH ?_
      try simp only [Act.put, List.setIfInBounds_toArray, List.set_cons_zero, List.set_cons_succ, List.getElem_toArray, List.getElem_cons_succ, List.getElem_cons_zero]
      refine wpAnyH_take (i := 5) (v := .int .i64 c0.lf) rfl (by kernel_rfl) (by kernel_rfl) (by kernel_rfl) (fun _ _ _ h => h) (Or.inl ⟨by rfl, fun w hSw => by have f0 := (HRd.out w hSw).1; go_simp⟩) hH ?_
      try simp only [Act.put, List.setIfInBounds_toArray, List.set_cons_zero, List.set_cons_succ, List.getElem_toArray, List.getElem_cons_succ, List.getElem_cons_zero]
      refine wpAnyH_take (i := 6) (v := .bool (decide (c0.lf < am))) rfl (by kernel_rfl) (by kernel_rfl) (by kernel_rfl) (fun _ _ _ h => h) (Or.inl ⟨by rfl, fun w hSw => by go_simp⟩) hH ?_
      try simp only [Act.put, List.setIfInBounds_toArray, List.set_cons_zero, List.set_cons_succ, List.getElem_toArray, List.getElem_cons_succ, List.getElem_cons_zero]
      refine wpAnyH_done (by kernel_rfl) ?_ _
      have HX5 : Hid (LgX lb lb cs (cdCells cs) g cg cc uv fv w2.drew) := HX2.out.drew (below_drew _)
      have HBX5 : Hid (w2.drew.heap[wa.heap.size]? = some (.cells #[.int .i64 sh, .int .i64 sq, .int .i64 tm, .int .i64 kd, .string nm, .int .i64 am] 35 (0, 0))) := HBX2.out
      have HB5 : Hid (Below lb wa w2.drew) := HB2.out.trans ((below_drew _).mono (by omega))
      clear HX2 HBX2 HB2 HRd hH x0 x3 x4 x5 l2 l3
      generalize w2.drew = w5 at *
      by_cases hlf : c0.lf < am
      · have hd : decide (c0.lf < am) = true := decide_eq_true hlf
        have HT3 : Hid (t = (false, ⟨cs, g.us, g.fs⟩)) := by have h := HT2.out; rw [if_pos hlf] at h; exact h
        have HE : Hid (LgM lb lb ⟨cs, g.us, g.fs⟩ (.slice (some ⟨cg, 0, none⟩) cs.length cc) uv fv w5) := HX5.out.done rfl rfl
        clear HT2 HX5 HBX5
        go_wp2
        go_ret
        exact ⟨_, _, by rw [HT3.out]; rfl, by rw [HT3.out]; exact HE.out, HB5.out⟩
      · have hd : decide (c0.lf < am) = false := decide_eq_false hlf
        have HT3 : Hid (t = (true, ⟨cs.set p (spC c0 am), g.us, g.fs⟩)) := by have h := HT2.out; rw [if_neg hlf] at h; exact h
        clear HT2
        go_wp2_with fail
        have HC5 : Hid (w5.drew.cell? ⟨cg, p * 4 + 3, none⟩ = some (.int .i64 c0.sp) ∧ w5.drew.cell? ⟨wa.heap.size, 5, none⟩ = some (.int .i64 am) ∧ w5.drew.frozen? ⟨cg, p * 4 + 3, none⟩ = false) := by
          have h := (HX5.out.drew (below_drew _)).cell (p * 4 + 3) (by omega) _ (HG.out 3 (by omega))
          exact ⟨h.1, blkCell HBX5.out 5 _ rfl, h.2⟩
        have HN5 : Hid (∀ Wd, Wd = w5.drew → LgX lb lb cs ((cdCells cs).set (p * 4 + 3) (.int .i64 (c0.sp + am))) g cg cc uv fv (Wd.setCell ⟨cg, p * 4 + 3, none⟩ (.int .i64 (c0.sp + am))) ∧ (Wd.setCell ⟨cg, p * 4 + 3, none⟩ (.int .i64 (c0.sp + am))).heap[wa.heap.size]? = some (.cells #[.int .i64 sh, .int .i64 sq, .int .i64 tm, .int .i64 kd, .string nm, .int .i64 am] 35 (0, 0)) ∧ Below lb wa (Wd.setCell ⟨cg, p * 4 + 3, none⟩ (.int .i64 (c0.sp + am)))) := fun Wd e => by
          subst e
          have h := HX5.out.drew (below_drew _)
          exact ⟨h.put _ (by omega) _, h.box5 HBX5.out _ _, (HB5.out.trans ((below_drew _).mono (Nat.le_of_lt (blkLt HX5.out.box)))).setCell (row_lt h.crow cg rfl).1 _⟩
        refine wp_region_z (S := fun W => W = w5.drew) 9 (by kernel_rfl) rfl (fun hH => ?_)
        generalize w5.drew = Wd at *
        refine wpAnyZ_take (i := 0) (v := .pointer (some ⟨cg, p * 4, none⟩)) rfl (by kernel_rfl) (by kernel_rfl) (by kernel_rfl) (by kernel_rfl) (fun _ _ _ h => h) (Or.inl ⟨by rfl, fun w hSw => by go_simp⟩) hH ?_
        refine wpAnyZ_take (i := 1) (v := .pointer (some ⟨cg, p * 4, none⟩)) rfl (by kernel_rfl) (by kernel_rfl) (by kernel_rfl) (by kernel_rfl) (fun _ _ _ h => h) (Or.inl ⟨by rfl, fun w hSw => by go_simp⟩) hH ?_
        try simp only [Act.put, List.setIfInBounds_toArray, List.set_cons_zero, List.set_cons_succ, List.getElem_toArray, List.getElem_cons_succ, List.getElem_cons_zero]
        refine wpAnyZ_take (i := 2) (v := .pointer (some ⟨cg, p * 4 + 3, none⟩)) rfl (by kernel_rfl) (by kernel_rfl) (by kernel_rfl) (by kernel_rfl) (fun _ _ _ h => h) (Or.inl ⟨by rfl, fun w hSw => by go_simp⟩) hH ?_
        try simp only [Act.put, List.setIfInBounds_toArray, List.set_cons_zero, List.set_cons_succ, List.getElem_toArray, List.getElem_cons_succ, List.getElem_cons_zero]
        refine wpAnyZ_take (i := 3) (v := .int .i64 c0.sp) rfl (by kernel_rfl) (by kernel_rfl) (by kernel_rfl) (by kernel_rfl) (fun _ _ _ h => h) (Or.inl ⟨by rfl, fun w hSw => by have f0 := HC5.out.1; subst hSw; go_simp⟩) hH ?_
        try simp only [Act.put, List.setIfInBounds_toArray, List.set_cons_zero, List.set_cons_succ, List.getElem_toArray, List.getElem_cons_succ, List.getElem_cons_zero]
        refine wpAnyZ_take (i := 4) (v := .pointer (some ⟨wa.heap.size, 5, none⟩)) rfl (by kernel_rfl) (by kernel_rfl) (by kernel_rfl) (by kernel_rfl) (fun _ _ _ h => h) (Or.inl ⟨by rfl, fun w hSw => by go_simp⟩) hH ?_
        try simp only [Act.put, List.setIfInBounds_toArray, List.set_cons_zero, List.set_cons_succ, List.getElem_toArray, List.getElem_cons_succ, List.getElem_cons_zero]
        refine wpAnyZ_take (i := 5) (v := .int .i64 am) rfl (by kernel_rfl) (by kernel_rfl) (by kernel_rfl) (by kernel_rfl) (fun _ _ _ h => h) (Or.inl ⟨by rfl, fun w hSw => by have f0 := HC5.out.2.1; subst hSw; go_simp⟩) hH ?_
        try simp only [Act.put, List.setIfInBounds_toArray, List.set_cons_zero, List.set_cons_succ, List.getElem_toArray, List.getElem_cons_succ, List.getElem_cons_zero]
        refine wpAnyZ_take (i := 6) (v := .int .i64 (c0.sp + am)) rfl (by kernel_rfl) (by kernel_rfl) (by kernel_rfl) (by kernel_rfl) (fun _ _ _ h => h) (Or.inl ⟨by rfl, fun w hSw => by have f0 := hws'; go_simp⟩) hH ?_
        try simp only [Act.put, List.setIfInBounds_toArray, List.set_cons_zero, List.set_cons_succ, List.getElem_toArray, List.getElem_cons_succ, List.getElem_cons_zero]
        refine wpAnyZ_take (i := 7) (v := .pointer (some ⟨cg, p * 4, none⟩)) rfl (by kernel_rfl) (by kernel_rfl) (by kernel_rfl) (by kernel_rfl) (fun _ _ _ h => h) (Or.inl ⟨by rfl, fun w hSw => by go_simp⟩) hH ?_
        try simp only [Act.put, List.setIfInBounds_toArray, List.set_cons_zero, List.set_cons_succ, List.getElem_toArray, List.getElem_cons_succ, List.getElem_cons_zero]
        refine wpAnyZ_take (i := 8) (v := .pointer (some ⟨cg, p * 4 + 3, none⟩)) rfl (by kernel_rfl) (by kernel_rfl) (by kernel_rfl) (by kernel_rfl) (fun _ _ _ h => h) (Or.inl ⟨by rfl, fun w hSw => by go_simp⟩) hH ?_
        try simp only [Act.put, List.setIfInBounds_toArray, List.set_cons_zero, List.set_cons_succ, List.getElem_toArray, List.getElem_cons_succ, List.getElem_cons_zero]
        refine wpAnyZ_ready (rs := [9]) (by kernel_rfl) (by simp) ?_
        refine AllReadyZ.cons rfl (fun K hK => ?_) AllReadyZ.nil
        obtain ⟨y0, y1, y2⟩ := HC5.out
        go_simp
        refine hK.out _ _ (Or.inl rfl) (fun _ => ?_)
        clear hK K
        try simp only [Act.put, List.setIfInBounds_toArray, List.set_cons_zero, List.set_cons_succ, List.getElem_toArray, List.getElem_cons_succ, List.getElem_cons_zero]
        refine wpAnyZ_done (by kernel_rfl) ?_ _
        clear y0 y1 y2 HC5 hH
        obtain ⟨hx6, hbx6, hB6⟩ := HN5.out _ rfl
        generalize Wd.setCell ⟨cg, p * 4 + 3, none⟩ (.int .i64 (c0.sp + am)) = w6 at *
        have HX6 : Hid (LgX lb lb cs ((cdCells cs).set (p * 4 + 3) (.int .i64 (c0.sp + am))) g cg cc uv fv w6) := hx6
        have HBX6 : Hid (w6.heap[wa.heap.size]? = some (.cells #[.int .i64 sh, .int .i64 sq, .int .i64 tm, .int .i64 kd, .string nm, .int .i64 am] 35 (0, 0))) := hbx6
        have HB6 : Hid (Below lb wa w6) := hB6
        clear hx6 hbx6 hB6 HN5 HX5 HBX5 HB5
        go_wp2_with fail
        have HC6 : Hid (w6.drew.cell? ⟨cg, p * 4 + 1, none⟩ = some (.int .i64 c0.lf) ∧ w6.drew.cell? ⟨wa.heap.size, 5, none⟩ = some (.int .i64 am) ∧ w6.drew.frozen? ⟨cg, p * 4 + 1, none⟩ = false) := by
          have h := (HX6.out.drew (below_drew _)).cell (p * 4 + 1) (by omega) _ (by rw [List.getElem?_set, if_neg (by omega)]; exact HG.out 1 (by omega))
          exact ⟨h.1, blkCell HBX6.out 5 _ rfl, h.2⟩
        have HN6 : Hid (∀ Wd, Wd = w6.drew → LgX lb lb cs (((cdCells cs).set (p * 4 + 3) (.int .i64 (c0.sp + am))).set (p * 4 + 1) (.int .i64 (c0.lf - am))) g cg cc uv fv (Wd.setCell ⟨cg, p * 4 + 1, none⟩ (.int .i64 (c0.lf - am))) ∧ (Wd.setCell ⟨cg, p * 4 + 1, none⟩ (.int .i64 (c0.lf - am))).heap[wa.heap.size]? = some (.cells #[.int .i64 sh, .int .i64 sq, .int .i64 tm, .int .i64 kd, .string nm, .int .i64 am] 35 (0, 0)) ∧ Below lb wa (Wd.setCell ⟨cg, p * 4 + 1, none⟩ (.int .i64 (c0.lf - am)))) := fun Wd e => by
          subst e
          have h := HX6.out.drew (below_drew _)
          exact ⟨h.put _ (by omega) _, h.box5 HBX6.out _ _, (HB6.out.trans ((below_drew _).mono (Nat.le_of_lt (blkLt HX6.out.box)))).setCell (row_lt h.crow cg rfl).1 _⟩
        refine wp_region_z (S := fun W => W = w6.drew) 9 (by kernel_rfl) rfl (fun hH => ?_)
        generalize w6.drew = Wd at *
        refine wpAnyZ_take (i := 0) (v := .pointer (some ⟨cg, p * 4, none⟩)) rfl (by kernel_rfl) (by kernel_rfl) (by kernel_rfl) (by kernel_rfl) (fun _ _ _ h => h) (Or.inl ⟨by rfl, fun w hSw => by go_simp⟩) hH ?_
        refine wpAnyZ_take (i := 1) (v := .pointer (some ⟨cg, p * 4, none⟩)) rfl (by kernel_rfl) (by kernel_rfl) (by kernel_rfl) (by kernel_rfl) (fun _ _ _ h => h) (Or.inl ⟨by rfl, fun w hSw => by go_simp⟩) hH ?_
        try simp only [Act.put, List.setIfInBounds_toArray, List.set_cons_zero, List.set_cons_succ, List.getElem_toArray, List.getElem_cons_succ, List.getElem_cons_zero]
        refine wpAnyZ_take (i := 2) (v := .pointer (some ⟨cg, p * 4 + 1, none⟩)) rfl (by kernel_rfl) (by kernel_rfl) (by kernel_rfl) (by kernel_rfl) (fun _ _ _ h => h) (Or.inl ⟨by rfl, fun w hSw => by go_simp⟩) hH ?_
        try simp only [Act.put, List.setIfInBounds_toArray, List.set_cons_zero, List.set_cons_succ, List.getElem_toArray, List.getElem_cons_succ, List.getElem_cons_zero]
        refine wpAnyZ_take (i := 3) (v := .int .i64 c0.lf) rfl (by kernel_rfl) (by kernel_rfl) (by kernel_rfl) (by kernel_rfl) (fun _ _ _ h => h) (Or.inl ⟨by rfl, fun w hSw => by have f0 := HC6.out.1; subst hSw; go_simp⟩) hH ?_
        try simp only [Act.put, List.setIfInBounds_toArray, List.set_cons_zero, List.set_cons_succ, List.getElem_toArray, List.getElem_cons_succ, List.getElem_cons_zero]
        refine wpAnyZ_take (i := 4) (v := .pointer (some ⟨wa.heap.size, 5, none⟩)) rfl (by kernel_rfl) (by kernel_rfl) (by kernel_rfl) (by kernel_rfl) (fun _ _ _ h => h) (Or.inl ⟨by rfl, fun w hSw => by go_simp⟩) hH ?_
        try simp only [Act.put, List.setIfInBounds_toArray, List.set_cons_zero, List.set_cons_succ, List.getElem_toArray, List.getElem_cons_succ, List.getElem_cons_zero]
        refine wpAnyZ_take (i := 5) (v := .int .i64 am) rfl (by kernel_rfl) (by kernel_rfl) (by kernel_rfl) (by kernel_rfl) (fun _ _ _ h => h) (Or.inl ⟨by rfl, fun w hSw => by have f0 := HC6.out.2.1; subst hSw; go_simp⟩) hH ?_
        try simp only [Act.put, List.setIfInBounds_toArray, List.set_cons_zero, List.set_cons_succ, List.getElem_toArray, List.getElem_cons_succ, List.getElem_cons_zero]
        refine wpAnyZ_take (i := 6) (v := .int .i64 (c0.lf - am)) rfl (by kernel_rfl) (by kernel_rfl) (by kernel_rfl) (by kernel_rfl) (fun _ _ _ h => h) (Or.inl ⟨by rfl, fun w hSw => by have f0 := hwm'; go_simp⟩) hH ?_
        try simp only [Act.put, List.setIfInBounds_toArray, List.set_cons_zero, List.set_cons_succ, List.getElem_toArray, List.getElem_cons_succ, List.getElem_cons_zero]
        refine wpAnyZ_take (i := 7) (v := .pointer (some ⟨cg, p * 4, none⟩)) rfl (by kernel_rfl) (by kernel_rfl) (by kernel_rfl) (by kernel_rfl) (fun _ _ _ h => h) (Or.inl ⟨by rfl, fun w hSw => by go_simp⟩) hH ?_
        try simp only [Act.put, List.setIfInBounds_toArray, List.set_cons_zero, List.set_cons_succ, List.getElem_toArray, List.getElem_cons_succ, List.getElem_cons_zero]
        refine wpAnyZ_take (i := 8) (v := .pointer (some ⟨cg, p * 4 + 1, none⟩)) rfl (by kernel_rfl) (by kernel_rfl) (by kernel_rfl) (by kernel_rfl) (fun _ _ _ h => h) (Or.inl ⟨by rfl, fun w hSw => by go_simp⟩) hH ?_
        try simp only [Act.put, List.setIfInBounds_toArray, List.set_cons_zero, List.set_cons_succ, List.getElem_toArray, List.getElem_cons_succ, List.getElem_cons_zero]
        refine wpAnyZ_ready (rs := [9]) (by kernel_rfl) (by simp) ?_
        refine AllReadyZ.cons rfl (fun K hK => ?_) AllReadyZ.nil
        obtain ⟨y0, y1, y2⟩ := HC6.out
        go_simp
        refine hK.out _ _ (Or.inl rfl) (fun _ => ?_)
        clear hK K
        try simp only [Act.put, List.setIfInBounds_toArray, List.set_cons_zero, List.set_cons_succ, List.getElem_toArray, List.getElem_cons_succ, List.getElem_cons_zero]
        refine wpAnyZ_done (by kernel_rfl) ?_ _
        clear y0 y1 y2 HC6 hH
        obtain ⟨hx7, hbx7, hB7⟩ := HN6.out _ rfl
        generalize Wd.setCell ⟨cg, p * 4 + 1, none⟩ (.int .i64 (c0.lf - am)) = w7 at *
        have HX7 : Hid (LgX lb lb cs (((cdCells cs).set (p * 4 + 3) (.int .i64 (c0.sp + am))).set (p * 4 + 1) (.int .i64 (c0.lf - am))) g cg cc uv fv w7) := hx7
        have HBX7 : Hid (w7.heap[wa.heap.size]? = some (.cells #[.int .i64 sh, .int .i64 sq, .int .i64 tm, .int .i64 kd, .string nm, .int .i64 am] 35 (0, 0))) := hbx7
        have HB7 : Hid (Below lb wa w7) := hB7
        clear hx7 hbx7 hB7 HN6 HX6 HBX6 HB6
        have HE : Hid (LgM lb lb ⟨cs.set p (spC c0 am), g.us, g.fs⟩ (.slice (some ⟨cg, 0, none⟩) cs.length cc) uv fv w7) := HX7.out.done (by rw [HC0.out]; exact cells_sp cs p hp am) (by rw [List.length_set])
        clear HX7 HBX7
        go_wp2
        go_ret
        exact ⟨_, _, by rw [HT3.out]; rfl, by rw [HT3.out]; exact HE.out, HB7.out⟩
end Go.Proofs.Ytabghjlmmpckdaa

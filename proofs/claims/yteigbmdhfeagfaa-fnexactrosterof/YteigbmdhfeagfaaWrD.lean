/-
  Contracts of what the program's RosterOf is made of: Shift.minutes, Worker.against.
-/
import Derived.Test.YteigbmdhfeagfaaWrM
namespace Go.Proofs.Yteigbmdhfeagfaa
open Go.ChangeShapes Go.WideShapes Go.ChangeAt Go.RowKit Go.Deep
set_option linter.unusedVariables false

theorem impMin_any (f t : Int) (s : ByteArray) (hb : -100000 ≤ t - f ∧ t - f ≤ 100000) (w : World) : Calls Try.prog 67 #[.agg #[.int .i64 f, .int .i64 t, .string s]] w fun e w' => e = .returned (.int .i64 (t - f)) ∧ Below w.heap.size w w' := by
  have hw : IntKind.i64.wrap (t - f) = t - f := wrap_id _ (by omega) (by omega)
  go_enter Try.func67, Try.ntmps67
  go_wp2
  go_ret
  exact ⟨rfl, below_alloc _ _⟩
theorem agC_kind {c : CWk} {s : RSf} (h : hasB c.sk s.sk = false) (mn : Int) (l : Bool) : agC c s mn l = 13 := by unfold agC; rw [h]; rfl
theorem agC_late {c : CWk} {s : RSf} (h : hasB c.sk s.sk = true) (mn : Int) : agC c s mn true = 12 := by unfold agC; rw [h]; rfl
theorem agC_over {c : CWk} {s : RSf} (h : hasB c.sk s.sk = true) {mn : Int} (h2 : c.ms < mn + duB s) : agC c s mn false = 11 := by unfold agC; rw [h, if_pos h2]; rfl
theorem agC_ok {c : CWk} {s : RSf} (h : hasB c.sk s.sk = true) {mn : Int} (h2 : ¬ c.ms < mn + duB s) : agC c s mn false = 0 := by unfold agC; rw [h, if_neg h2]; rfl
set_option maxHeartbeats 4000000 in
theorem against_any (c : CWk) (h : Option Addr) (cp : Nat) (s : RSf) (mn rd : Int) (hn : c.sk.length ≤ 100000000) (hm : 0 ≤ mn ∧ mn ≤ 1000000) (hd : -100000 ≤ duB s ∧ duB s ≤ 100000) (w : World) (hr : ReadsS w.heap.size w h c.sk) :
    Calls Try.prog 66 #[.agg #[.string c.nm, .int .i64 c.ms, .int .i64 c.rt, .int .i64 c.co, .slice h c.sk.length cp], .agg #[.int .i64 s.fr, .int .i64 s.to, .string s.sk], .agg #[.int .i64 mn, .int .i64 rd]] w fun e w' => e = .returned (.int .i64 (agC c s mn (decide (s.fr < rd)))) ∧ Below w.heap.size w w' := by
  have HC : Hid (∀ W, Below w.heap.size w W → Calls Try.prog 60 #[.slice h c.sk.length cp, .string s.sk] W fun e w' => e = .returned (.bool (hasB c.sk s.sk)) ∧ Below W.heap.size W w') := fun W hb => strContains_any h cp c.sk hn s.sk W (hr.later hb)
  have HM : Hid (∀ W, Calls Try.prog 67 #[.agg #[.int .i64 s.fr, .int .i64 s.to, .string s.sk]] W fun e w' => e = .returned (.int .i64 (duB s)) ∧ Below W.heap.size W w') := fun W => impMin_any s.fr s.to s.sk hd W
  have hwr : IntKind.i64.wrap (mn + duB s) = mn + duB s := wrap_id _ (by omega) (by omega)
  have H1 : Hid (hasB c.sk s.sk = false → agC c s mn (decide (s.fr < rd)) = 13) := fun h => agC_kind h _ _
  have H2 : Hid (hasB c.sk s.sk = true → s.fr < rd → agC c s mn (decide (s.fr < rd)) = 12) := fun h h2 => by rw [decide_eq_true h2]; exact agC_late h _
  have H3 : Hid (hasB c.sk s.sk = true → ¬ s.fr < rd → c.ms < mn + duB s → agC c s mn (decide (s.fr < rd)) = 11) := fun h h2 h3 => by rw [decide_eq_false h2]; exact agC_over h h3
  have H4 : Hid (hasB c.sk s.sk = true → ¬ s.fr < rd → ¬ c.ms < mn + duB s → agC c s mn (decide (s.fr < rd)) = 0) := fun h h2 h3 => by rw [decide_eq_false h2]; exact agC_ok h h3
  generalize agC c s mn (decide (s.fr < rd)) = code at *
  generalize hasB c.sk s.sk = hb at *
  generalize duB s = du at *
  clear hr hn hm hd
  obtain ⟨nm, ms, rt, co, sk⟩ := c
  obtain ⟨f, t, sn⟩ := s
  dsimp only at *
  generalize sk.length = n at *
  obtain ⟨W0, hW0⟩ : ∃ W0, W0 = ((w.alloc (Obj.cells #[.string nm, .int .i64 ms, .int .i64 rt, .int .i64 co, .slice h n cp] 56)).alloc (Obj.cells #[.int .i64 f, .int .i64 t, .string sn] 54)).alloc (Obj.cells #[.int .i64 mn, .int .i64 rd] 80) := ⟨_, rfl⟩
  have HE : Hid (W0 = ((w.alloc (Obj.cells #[.string nm, .int .i64 ms, .int .i64 rt, .int .i64 co, .slice h n cp] 56)).alloc (Obj.cells #[.int .i64 f, .int .i64 t, .string sn] 54)).alloc (Obj.cells #[.int .i64 mn, .int .i64 rd] 80)) := hW0
  have HL : Hid (Below w.heap.size w W0) := by show Below _ _ _; rw [hW0]; exact chain (chain (below_alloc _ _) (below_alloc _ _)) (below_alloc _ _)
  have HB : Hid (∀ W, Below W0.heap.size W0 W → (W.cell? ⟨w.heap.size, 1, none⟩ = some (.int .i64 ms) ∧ W.cell? ⟨w.heap.size, 4, none⟩ = some (.slice h n cp)) ∧ (W.cell? ⟨w.heap.size + 1, 0, none⟩ = some (.int .i64 f) ∧ W.cell? ⟨w.heap.size + 1, 1, none⟩ = some (.int .i64 t) ∧ W.cell? ⟨w.heap.size + 1, 2, none⟩ = some (.string sn)) ∧ W.cell? ⟨w.heap.size + 1 + 1, 0, none⟩ = some (.int .i64 mn) ∧ W.cell? ⟨w.heap.size + 1 + 1, 1, none⟩ = some (.int .i64 rd)) := fun W hb => by
    have hz : W0.heap.size = w.heap.size + 3 := by rw [hW0]; simp
    have hc : ∀ k o, k < w.heap.size + 3 → W.cell? ⟨k, o, none⟩ = W0.cell? ⟨k, o, none⟩ := fun k o hk => hb.cell (p := ⟨k, o, none⟩) (by show k < _; omega)
    have g1 : W0.heap[w.heap.size]? = some (.cells #[.string nm, .int .i64 ms, .int .i64 rt, .int .i64 co, .slice h n cp] 56 (0, 0)) := by rw [hW0, Below.heap_alloc _ _ _ (by simp; omega), Below.heap_alloc _ _ _ (by simp)]; exact heapNew _ _
    have g2 : W0.heap[w.heap.size + 1]? = some (.cells #[.int .i64 f, .int .i64 t, .string sn] 54 (0, 0)) := by
      rw [hW0, Below.heap_alloc _ _ _ (by simp)]
      have := heapNew (w.alloc (Obj.cells #[.string nm, .int .i64 ms, .int .i64 rt, .int .i64 co, .slice h n cp] 56)) (Obj.cells #[.int .i64 f, .int .i64 t, .string sn] 54)
      simpa using this
    have g3 : W0.heap[w.heap.size + 1 + 1]? = some (.cells #[.int .i64 mn, .int .i64 rd] 80 (0, 0)) := by
      rw [hW0]
      have := heapNew ((w.alloc (Obj.cells #[.string nm, .int .i64 ms, .int .i64 rt, .int .i64 co, .slice h n cp] 56)).alloc (Obj.cells #[.int .i64 f, .int .i64 t, .string sn] 54)) (Obj.cells #[.int .i64 mn, .int .i64 rd] 80)
      simpa using this
    refine ⟨⟨?_, ?_⟩, ⟨?_, ?_, ?_⟩, ?_, ?_⟩
    · rw [hc _ _ (by omega)]; exact blkCell g1 1 _ rfl
    · rw [hc _ _ (by omega)]; exact blkCell g1 4 _ rfl
    · rw [hc _ _ (by omega)]; exact blkCell g2 0 _ rfl
    · rw [hc _ _ (by omega)]; exact blkCell g2 1 _ rfl
    · rw [hc _ _ (by omega)]; exact blkCell g2 2 _ rfl
    · rw [hc _ _ (by omega)]; exact blkCell g3 0 _ rfl
    · rw [hc _ _ (by omega)]; exact blkCell g3 1 _ rfl
  clear hW0
  go_enter Try.func66, Try.ntmps66
  go_upto_region 1 with fail
  rw [← HE.out]
  clear HE
  obtain ⟨⟨k1, k4⟩, ⟨m0, m1, m2⟩, _⟩ := HB.out W0 (Below.refl _ _)
  go_wp2_with fail
  (first | go_at_call 60 | skip)
  refine (HC.out _ HL.out).mono ?_
  rintro e w1 ⟨rfl, hb1⟩
  have B1 : Hid (Below W0.heap.size W0 w1) := hb1
  clear hb1 k1 k4 m0 m1 m2 HC
  cases hb
  · have HE1 : Hid (code = 13) := H1.out rfl
    clear H1 H2 H3 H4
    go_wp2
    go_ret
    exact ⟨congrArg (fun c => Ending.returned (.int .i64 c)) HE1.out.symm, chain HL.out B1.out⟩
  obtain ⟨_, ⟨m0, m1, m2⟩, d0, d1⟩ := HB.out w1 B1.out
  by_cases hl : f < rd
  · have HE1 : Hid (code = 12) := H2.out (by first | rfl | trivial) hl
    clear H1 H2 H3 H4
    go_wp2
    go_ret
    exact ⟨congrArg (fun c => Ending.returned (.int .i64 c)) HE1.out.symm, chain HL.out B1.out⟩
  have H5 : Hid (ms < mn + du → code = 11) := H3.out (by first | rfl | trivial) (by omega)
  have H6 : Hid (¬ ms < mn + du → code = 0) := fun q => H4.out (by first | rfl | trivial) (by omega) (by omega)
  clear H1 H2 H3 H4
  go_upto_region 5 with fail
  clear m0 m1 m2 d0 d1
  refine wp_region_held_drew (S := fun W => Below W0.heap.size W0 W) (by kernel_rfl) (chain B1.out (below_drew _)) (fun hH => ?_)
  generalize w1.drew = V0 at *
  refine wpAnyH_take (i := 0) (v := .pointer (some ⟨w.heap.size + 1 + 1, 0, none⟩)) rfl (by kernel_rfl) (by kernel_rfl) (by kernel_rfl) (fun _ _ _ h => h) (Or.inl ⟨by rfl, fun w hSw => by clear hSw; go_simp⟩) hH ?_
  refine wpAnyH_take (i := 1) (v := .int .i64 mn) rfl (by kernel_rfl) (by kernel_rfl) (by kernel_rfl) (fun _ _ _ h => h) (Or.inl ⟨by rfl, fun w hSw => by obtain ⟨_, _, d0, d1⟩ := HB.out w hSw; clear hSw; go_simp⟩) hH ?_
  try simp only [Act.put, List.setIfInBounds_toArray, List.set_cons_zero, List.set_cons_succ, List.getElem_toArray, List.getElem_cons_succ, List.getElem_cons_zero]
  refine wpAnyH_take (i := 2) (v := .agg #[.int .i64 f, .int .i64 t, .string sn]) rfl (by kernel_rfl) (by kernel_rfl) (by kernel_rfl) (fun _ _ _ h => h) (Or.inl ⟨by rfl, fun w hSw => by obtain ⟨_, ⟨m0, m1, m2⟩, _⟩ := HB.out w hSw; clear hSw; go_simp⟩) hH ?_
  try simp only [Act.put, List.setIfInBounds_toArray, List.set_cons_zero, List.set_cons_succ, List.getElem_toArray, List.getElem_cons_succ, List.getElem_cons_zero]
  refine wpAnyH_take (i := 5) (v := .pointer (some ⟨w.heap.size, 1, none⟩)) rfl (by kernel_rfl) (by kernel_rfl) (by kernel_rfl) (fun _ _ _ h => h) (Or.inl ⟨by rfl, fun w hSw => by clear hSw; go_simp⟩) hH ?_
  try simp only [Act.put, List.setIfInBounds_toArray, List.set_cons_zero, List.set_cons_succ, List.getElem_toArray, List.getElem_cons_succ, List.getElem_cons_zero]
  refine wpAnyH_take (i := 6) (v := .int .i64 ms) rfl (by kernel_rfl) (by kernel_rfl) (by kernel_rfl) (fun _ _ _ h => h) (Or.inl ⟨by rfl, fun w hSw => by obtain ⟨⟨k1, k4⟩, _⟩ := HB.out w hSw; clear hSw; go_simp⟩) hH ?_
  try simp only [Act.put, List.setIfInBounds_toArray, List.set_cons_zero, List.set_cons_succ, List.getElem_toArray, List.getElem_cons_succ, List.getElem_cons_zero]
  have BV : Hid (Below W0.heap.size W0 V0) := hH
  refine wpAnyH_ready (rs := [3]) (by kernel_rfl) (by simp) ?_
  refine AllReadyH.cons rfl (fun K hK => ?_) AllReadyH.nil
  go_simp
  go_at_call 67
  refine (HM.out _).mono ?_
  rintro e w2 ⟨rfl, hb2⟩
  have B2 : Hid (Below W0.heap.size W0 w2) := chain BV.out hb2
  clear hb2
  refine hK.out _ _ B2.out (fun _ => ?_)
  clear hK K
  try simp only [Act.put, List.setIfInBounds_toArray, List.set_cons_zero, List.set_cons_succ, List.getElem_toArray, List.getElem_cons_succ, List.getElem_cons_zero]
  refine wpAnyH_take (i := 4) (v := .int .i64 (mn + du)) rfl (by kernel_rfl) (by kernel_rfl) (by kernel_rfl) (fun _ _ _ h => h) (Or.inl ⟨by rfl, fun w hSw => by clear hSw; go_simp⟩) B2.out ?_
  try simp only [Act.put, List.setIfInBounds_toArray, List.set_cons_zero, List.set_cons_succ, List.getElem_toArray, List.getElem_cons_succ, List.getElem_cons_zero]
  refine wpAnyH_take (i := 7) (v := .bool (decide (ms < mn + du))) rfl (by kernel_rfl) (by kernel_rfl) (by kernel_rfl) (fun _ _ _ h => h) (Or.inl ⟨by rfl, fun w hSw => by clear hSw; go_simp⟩) B2.out ?_
  try simp only [Act.put, List.setIfInBounds_toArray, List.set_cons_zero, List.set_cons_succ, List.getElem_toArray, List.getElem_cons_succ, List.getElem_cons_zero]
  refine wpAnyH_take (i := 8) (v := .bool (decide (ms < mn + du))) rfl (by kernel_rfl) (by kernel_rfl) (by kernel_rfl) (fun _ _ _ h => h) (Or.inl ⟨by rfl, fun w hSw => by clear hSw; go_simp⟩) B2.out ?_
  try simp only [Act.put, List.setIfInBounds_toArray, List.set_cons_zero, List.set_cons_succ, List.getElem_toArray, List.getElem_cons_succ, List.getElem_cons_zero]
  refine wpAnyH_done (by kernel_rfl) ?_ _
  clear hH
  by_cases ho : ms < mn + du
  · have HE1 : Hid (code = 11) := H5.out (by omega)
    clear H5 H6
    go_wp2
    go_ret
    exact ⟨congrArg (fun c => Ending.returned (.int .i64 c)) HE1.out.symm, chain HL.out B2.out⟩
  · have HE1 : Hid (code = 0) := H6.out (by omega)
    clear H5 H6
    go_wp2
    go_ret
    exact ⟨congrArg (fun c => Ending.returned (.int .i64 c)) HE1.out.symm, chain HL.out B2.out⟩
/-- In the midst of given: the rota in block rb, the answer's block qb. -/
structure GvI (w : World) (cb rb qb : Nat) (CB : Array Value) (R : Nat → Int) (W : World) : Prop where
  low : Below w.heap.size w W
  cr : W.heap[cb]? = some (.cells CB 75 (0, 0))
  rt : RtAt R rb W
  rs : RtAt rtZ qb W
  lo : w.heap.size ≤ rb ∧ w.heap.size ≤ qb ∧ rb ≠ qb
theorem rota_size : (Try.prog.info? 83).map (·.size) = some 20 := by kernel_rfl
end Go.Proofs.Yteigbmdhfeagfaa

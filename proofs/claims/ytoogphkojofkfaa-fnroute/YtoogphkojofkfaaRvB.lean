/-
  How far it is from stop to stop, one step of a trip (the program's visit), when it would be back; the specification's l20Far.
-/
import Derived.Test.YtoogphkojofkfaaRvA
import Derived.Test.YtoogphkojofkfaaBpV
import Derived.Test.YtoogphkojofkfaaPkA
namespace Go.Proofs.Ytoogphkojofkfaa
open Go.ChangeShapes Go.WideShapes Go.ChangeAt Go.RowKit Go.Joins Go.Deep
set_option linter.unusedVariables false

/-- How far it is from one stop to another. -/
def farH (a b : RHp) : Int := apN a.x b.x + apN a.y b.y
/-- A place that is no farther out than a stop may be. -/
def hpIn (r : RHp) : Prop := (-1000 ≤ r.x ∧ r.x ≤ 1000) ∧ -1000 ≤ r.y ∧ r.y ≤ 1000
theorem hp_in {r : RHp} (h : hpB r = true) : hpIn r := ⟨(hp_facts h).1, (hp_facts h).2.1⟩
theorem hp_in_z : hpIn zHp := by unfold hpIn zHp; dsimp only; omega
theorem farH_bd {a b : RHp} (ha : hpIn a) (hb : hpIn b) : 0 ≤ farH a b ∧ farH a b ≤ 4000 := by
  unfold hpIn at ha hb
  unfold farH apN
  omega
theorem impTo_any (r s : RHp) (hr : hpIn r) (hs : hpIn s) (w : World) :
    Calls Try.prog 51 #[.agg #[.int .i64 r.x, .int .i64 r.y, .int .i64 r.fr, .int .i64 r.to, .int .i64 r.sy], .int .i64 s.x, .int .i64 s.y] w fun e w' => e = .returned (.int .i64 (farH r s)) ∧ Below w.heap.size w w' := by
  have hbd := farH_bd hr hs
  have H1 : Hid (∀ W, Calls Try.prog 62 #[.int .i64 r.x, .int .i64 s.x] W fun e w' => e = .returned (.int .i64 (apN r.x s.x)) ∧ Below W.heap.size W w') := fun W => impApart_any r.x s.x (by unfold hpIn at hr; omega) (by unfold hpIn at hs; omega) W
  have H2 : Hid (∀ W, Calls Try.prog 62 #[.int .i64 r.y, .int .i64 s.y] W fun e w' => e = .returned (.int .i64 (apN r.y s.y)) ∧ Below W.heap.size W w') := fun W => impApart_any r.y s.y (by unfold hpIn at hr; omega) (by unfold hpIn at hs; omega) W
  obtain ⟨res, hres⟩ : ∃ res, farH r s = res := ⟨_, rfl⟩
  have hwr : IntKind.i64.wrap (apN r.x s.x + apN r.y s.y) = res := by rw [wrap_id _ (by unfold farH at hbd; omega) (by unfold farH at hbd; omega)]; exact hres
  rw [hres]
  clear hres hbd hr hs
  generalize apN r.x s.x = d1 at *
  generalize apN r.y s.y = d2 at *
  obtain ⟨W1, hW1⟩ : ∃ W1, W1 = w.alloc (Obj.cells #[.int .i64 r.x, .int .i64 r.y, .int .i64 r.fr, .int .i64 r.to, .int .i64 r.sy] 37) := ⟨_, rfl⟩
  have HE : Hid (W1 = w.alloc (Obj.cells #[.int .i64 r.x, .int .i64 r.y, .int .i64 r.fr, .int .i64 r.to, .int .i64 r.sy] 37)) := hW1
  have HC : Hid (∀ W, Below W1.heap.size W1 W → W.cell? ⟨w.heap.size, 0, none⟩ = some (.int .i64 r.x) ∧ W.cell? ⟨w.heap.size, 1, none⟩ = some (.int .i64 r.y)) := fun W hb => by
    rw [hW1] at hb
    exact ⟨(hb.cell (p := ⟨w.heap.size, 0, none⟩) (by simp only [World.size_alloc]; omega)).trans (cellNew _ _ _ _ rfl rfl), (hb.cell (p := ⟨w.heap.size, 1, none⟩) (by simp only [World.size_alloc]; omega)).trans (cellNew _ _ _ _ rfl rfl)⟩
  have HL : Hid (Below w.heap.size w W1) := by rw [hW1]; exact below_alloc _ _
  clear hW1
  go_enter Try.func51, Try.ntmps51
  go_upto_region 1 with fail
  rw [← HE.out]
  refine wp_region_held_drew (S := fun W' => Below W1.heap.size W1 W') (by kernel_rfl) (below_drew _) (fun hH => ?_)
  refine wpAnyH_take (i := 0) (v := .pointer (some ⟨w.heap.size, 0, none⟩)) rfl (by kernel_rfl) (by kernel_rfl) (by kernel_rfl) (fun _ _ _ h => h) (Or.inl ⟨by rfl, fun w hSw => by clear hSw; go_simp⟩) hH ?_
  refine wpAnyH_take (i := 1) (v := .int .i64 r.x) rfl (by kernel_rfl) (by kernel_rfl) (by kernel_rfl) (fun _ _ _ h => h) (Or.inl ⟨by rfl, fun w hSw => by obtain ⟨f0, f1⟩ := HC.out w hSw; clear hSw; go_simp⟩) hH ?_
  try simp only [Act.put, List.setIfInBounds_toArray, List.set_cons_zero, List.set_cons_succ, List.getElem_toArray, List.getElem_cons_succ, List.getElem_cons_zero]
  refine wpAnyH_take (i := 2) (v := .int .i64 s.x) rfl (by kernel_rfl) (by kernel_rfl) (by kernel_rfl) (fun _ _ _ h => h) (Or.inl ⟨by rfl, fun w hSw => by clear hSw; go_simp⟩) hH ?_
  try simp only [Act.put, List.setIfInBounds_toArray, List.set_cons_zero, List.set_cons_succ, List.getElem_toArray, List.getElem_cons_succ, List.getElem_cons_zero]
  refine wpAnyH_take (i := 4) (v := .pointer (some ⟨w.heap.size, 1, none⟩)) rfl (by kernel_rfl) (by kernel_rfl) (by kernel_rfl) (fun _ _ _ h => h) (Or.inl ⟨by rfl, fun w hSw => by clear hSw; go_simp⟩) hH ?_
  try simp only [Act.put, List.setIfInBounds_toArray, List.set_cons_zero, List.set_cons_succ, List.getElem_toArray, List.getElem_cons_succ, List.getElem_cons_zero]
  refine wpAnyH_take (i := 5) (v := .int .i64 r.y) rfl (by kernel_rfl) (by kernel_rfl) (by kernel_rfl) (fun _ _ _ h => h) (Or.inl ⟨by rfl, fun w hSw => by obtain ⟨f0, f1⟩ := HC.out w hSw; clear hSw; go_simp⟩) hH ?_
  try simp only [Act.put, List.setIfInBounds_toArray, List.set_cons_zero, List.set_cons_succ, List.getElem_toArray, List.getElem_cons_succ, List.getElem_cons_zero]
  refine wpAnyH_take (i := 6) (v := .int .i64 s.y) rfl (by kernel_rfl) (by kernel_rfl) (by kernel_rfl) (fun _ _ _ h => h) (Or.inl ⟨by rfl, fun w hSw => by clear hSw; go_simp⟩) hH ?_
  try simp only [Act.put, List.setIfInBounds_toArray, List.set_cons_zero, List.set_cons_succ, List.getElem_toArray, List.getElem_cons_succ, List.getElem_cons_zero]
  refine wpAnyH_ready (rs := [3]) (by kernel_rfl) (by simp) ?_
  refine AllReadyH.cons rfl (fun K hK => ?_) AllReadyH.nil
  go_simp
  go_at_call 62
  refine (H1.out _).mono ?_
  rintro e w2 ⟨rfl, hb2⟩
  have B2 : Hid (Below W1.heap.size W1 w2) := chain (below_drew _) hb2
  clear hb2
  refine hK.out _ _ B2.out (fun _ => ?_)
  clear hK K
  try simp only [Act.put, List.setIfInBounds_toArray, List.set_cons_zero, List.set_cons_succ, List.getElem_toArray, List.getElem_cons_succ, List.getElem_cons_zero]
  refine wpAnyH_ready (rs := [7]) (by kernel_rfl) (by simp) ?_
  refine AllReadyH.cons rfl (fun K hK => ?_) AllReadyH.nil
  go_simp
  go_at_call 62
  refine (H2.out _).mono ?_
  rintro e w3 ⟨rfl, hb3⟩
  have B3 : Hid (Below W1.heap.size W1 w3) := chain B2.out hb3
  clear hb3
  refine hK.out _ _ B3.out (fun _ => ?_)
  clear hK K
  try simp only [Act.put, List.setIfInBounds_toArray, List.set_cons_zero, List.set_cons_succ, List.getElem_toArray, List.getElem_cons_succ, List.getElem_cons_zero]
  refine wpAnyH_take (i := 8) (v := .int .i64 res) rfl (by kernel_rfl) (by kernel_rfl) (by kernel_rfl) (fun _ _ _ h => h) (Or.inl ⟨by rfl, fun w hSw => by clear hSw; go_simp⟩) B3.out ?_
  try simp only [Act.put, List.setIfInBounds_toArray, List.set_cons_zero, List.set_cons_succ, List.getElem_toArray, List.getElem_cons_succ, List.getElem_cons_zero]
  refine wpAnyH_take (i := 9) (v := .int .i64 res) rfl (by kernel_rfl) (by kernel_rfl) (by kernel_rfl) (fun _ _ _ h => h) (Or.inl ⟨by rfl, fun w hSw => by clear hSw; go_simp⟩) B3.out ?_
  try simp only [Act.put, List.setIfInBounds_toArray, List.set_cons_zero, List.set_cons_succ, List.getElem_toArray, List.getElem_cons_succ, List.getElem_cons_zero]
  refine wpAnyH_done (by kernel_rfl) ?_ _
  clear hH
  go_wp2
  go_ret
  exact ⟨rfl, chain HL.out B3.out⟩
theorem impBackS_any (r : RHp) (hr : hpIn r) (w : World) :
    Calls Try.prog 44 #[.agg #[.int .i64 r.x, .int .i64 r.y, .int .i64 r.fr, .int .i64 r.to, .int .i64 r.sy]] w fun e w' => e = .returned (.int .i64 (farH r zHp)) ∧ Below w.heap.size w w' := by
  have H1 : Hid (∀ W, Calls Try.prog 51 #[.agg #[.int .i64 r.x, .int .i64 r.y, .int .i64 r.fr, .int .i64 r.to, .int .i64 r.sy], .int .i64 0, .int .i64 0] W fun e w' => e = .returned (.int .i64 (farH r zHp)) ∧ Below W.heap.size W w') := fun W => impTo_any r zHp hr hp_in_z W
  generalize farH r zHp = res at *
  go_enter Try.func44, Try.ntmps44
  go_wp2_with (go_at_call 51; refine (H1.out _).mono ?_; rintro e w2 ⟨rfl, hb2⟩)
  go_ret
  exact ⟨rfl, chain (below_alloc _ _) hb2⟩
/-- When a trip would be back if it went back at once. -/
theorem impBackT_any (ov av : Value) (wt lv : Int) (r : RHp) (hr : hpIn r) (hl : 0 ≤ lv ∧ lv ≤ 1000000000) (w : World) :
    Calls Try.prog 43 #[.agg #[ov, av, .int .i64 wt, .int .i64 lv, .int .i64 r.x, .int .i64 r.y, .int .i64 r.fr, .int .i64 r.to, .int .i64 r.sy]] w fun e w' => e = .returned (.int .i64 (lv + farH r zHp)) ∧ Below w.heap.size w w' := by
  have hbd := farH_bd hr hp_in_z
  have H1 : Hid (∀ W, Calls Try.prog 44 #[.agg #[.int .i64 r.x, .int .i64 r.y, .int .i64 r.fr, .int .i64 r.to, .int .i64 r.sy]] W fun e w' => e = .returned (.int .i64 (farH r zHp)) ∧ Below W.heap.size W w') := fun W => impBackS_any r hr W
  obtain ⟨res, hres⟩ : ∃ res, lv + farH r zHp = res := ⟨_, rfl⟩
  have hwr : IntKind.i64.wrap (lv + farH r zHp) = res := by rw [wrap_id _ (by omega) (by omega)]; exact hres
  rw [hres]
  clear hres hbd hr
  generalize farH r zHp = d1 at *
  obtain ⟨W1, hW1⟩ : ∃ W1, W1 = w.alloc (Obj.cells #[ov, av, .int .i64 wt, .int .i64 lv, .int .i64 r.x, .int .i64 r.y, .int .i64 r.fr, .int .i64 r.to, .int .i64 r.sy] 57) := ⟨_, rfl⟩
  have HE : Hid (W1 = w.alloc (Obj.cells #[ov, av, .int .i64 wt, .int .i64 lv, .int .i64 r.x, .int .i64 r.y, .int .i64 r.fr, .int .i64 r.to, .int .i64 r.sy] 57)) := hW1
  have HB : Hid (∀ W, Below W1.heap.size W1 W → W.heap[w.heap.size]? = some (.cells #[ov, av, .int .i64 wt, .int .i64 lv, .int .i64 r.x, .int .i64 r.y, .int .i64 r.fr, .int .i64 r.to, .int .i64 r.sy] 57 (0, 0))) := fun W hb => by
    rw [hW1] at hb
    exact (hb.block _ (by simp)).trans (heapNew _ _)
  have HC : Hid (∀ W, Below W1.heap.size W1 W → W.cell? ⟨w.heap.size, 3, none⟩ = some (.int .i64 lv) ∧ W.cell? ⟨w.heap.size, 4, none⟩ = some (.int .i64 r.x) ∧ W.cell? ⟨w.heap.size, 5, none⟩ = some (.int .i64 r.y) ∧ W.cell? ⟨w.heap.size, 6, none⟩ = some (.int .i64 r.fr) ∧ W.cell? ⟨w.heap.size, 7, none⟩ = some (.int .i64 r.to) ∧ W.cell? ⟨w.heap.size, 8, none⟩ = some (.int .i64 r.sy)) := fun W hb => ⟨blkCell (HB.out W hb) 3 _ rfl, blkCell (HB.out W hb) 4 _ rfl, blkCell (HB.out W hb) 5 _ rfl, blkCell (HB.out W hb) 6 _ rfl, blkCell (HB.out W hb) 7 _ rfl, blkCell (HB.out W hb) 8 _ rfl⟩
  have HL : Hid (Below w.heap.size w W1) := by rw [hW1]; exact below_alloc _ _
  clear hW1 HB
  go_enter Try.func43, Try.ntmps43
  go_upto_region 1 with fail
  rw [← HE.out]
  refine wp_region_held_drew (S := fun W' => Below W1.heap.size W1 W') (by kernel_rfl) (below_drew _) (fun hH => ?_)
  refine wpAnyH_take (i := 0) (v := .pointer (some ⟨w.heap.size, 3, none⟩)) rfl (by kernel_rfl) (by kernel_rfl) (by kernel_rfl) (fun _ _ _ h => h) (Or.inl ⟨by rfl, fun w hSw => by clear hSw; go_simp⟩) hH ?_
  refine wpAnyH_take (i := 1) (v := .int .i64 lv) rfl (by kernel_rfl) (by kernel_rfl) (by kernel_rfl) (fun _ _ _ h => h) (Or.inl ⟨by rfl, fun w hSw => by obtain ⟨f0, f1, f2, f3, f4, f5⟩ := HC.out w hSw; clear hSw; go_simp⟩) hH ?_
  try simp only [Act.put, List.setIfInBounds_toArray, List.set_cons_zero, List.set_cons_succ, List.getElem_toArray, List.getElem_cons_succ, List.getElem_cons_zero]
  refine wpAnyH_take (i := 2) (v := .pointer (some ⟨w.heap.size, 4, none⟩)) rfl (by kernel_rfl) (by kernel_rfl) (by kernel_rfl) (fun _ _ _ h => h) (Or.inl ⟨by rfl, fun w hSw => by clear hSw; go_simp⟩) hH ?_
  try simp only [Act.put, List.setIfInBounds_toArray, List.set_cons_zero, List.set_cons_succ, List.getElem_toArray, List.getElem_cons_succ, List.getElem_cons_zero]
  refine wpAnyH_take (i := 3) (v := .agg #[.int .i64 r.x, .int .i64 r.y, .int .i64 r.fr, .int .i64 r.to, .int .i64 r.sy]) rfl (by kernel_rfl) (by kernel_rfl) (by kernel_rfl) (fun _ _ _ h => h) (Or.inl ⟨by rfl, fun w hSw => by obtain ⟨f0, f1, f2, f3, f4, f5⟩ := HC.out w hSw; clear hSw; go_simp⟩) hH ?_
  try simp only [Act.put, List.setIfInBounds_toArray, List.set_cons_zero, List.set_cons_succ, List.getElem_toArray, List.getElem_cons_succ, List.getElem_cons_zero]
  refine wpAnyH_ready (rs := [4]) (by kernel_rfl) (by simp) ?_
  refine AllReadyH.cons rfl (fun K hK => ?_) AllReadyH.nil
  go_simp
  go_at_call 44
  refine (H1.out _).mono ?_
  rintro e w2 ⟨rfl, hb2⟩
  have B2 : Hid (Below W1.heap.size W1 w2) := chain (below_drew _) hb2
  clear hb2
  refine hK.out _ _ B2.out (fun _ => ?_)
  clear hK K
  try simp only [Act.put, List.setIfInBounds_toArray, List.set_cons_zero, List.set_cons_succ, List.getElem_toArray, List.getElem_cons_succ, List.getElem_cons_zero]
  refine wpAnyH_take (i := 5) (v := .int .i64 res) rfl (by kernel_rfl) (by kernel_rfl) (by kernel_rfl) (fun _ _ _ h => h) (Or.inl ⟨by rfl, fun w hSw => by clear hSw; go_simp⟩) B2.out ?_
  try simp only [Act.put, List.setIfInBounds_toArray, List.set_cons_zero, List.set_cons_succ, List.getElem_toArray, List.getElem_cons_succ, List.getElem_cons_zero]
  refine wpAnyH_take (i := 6) (v := .int .i64 res) rfl (by kernel_rfl) (by kernel_rfl) (by kernel_rfl) (fun _ _ _ h => h) (Or.inl ⟨by rfl, fun w hSw => by clear hSw; go_simp⟩) B2.out ?_
  try simp only [Act.put, List.setIfInBounds_toArray, List.set_cons_zero, List.set_cons_succ, List.getElem_toArray, List.getElem_cons_succ, List.getElem_cons_zero]
  refine wpAnyH_done (by kernel_rfl) ?_ _
  clear hH
  go_wp2
  go_ret
  exact ⟨rfl, chain HL.out B2.out⟩
set_option maxHeartbeats 2000000 in
theorem specFarH_any (r s : RHp) (hr : hpIn r) (hs : hpIn s) (w : World) :
    Calls Try.prog 65 #[.agg #[.int .i64 r.x, .int .i64 r.y, .int .i64 r.fr, .int .i64 r.to, .int .i64 r.sy], .agg #[.int .i64 s.x, .int .i64 s.y, .int .i64 s.fr, .int .i64 s.to, .int .i64 s.sy]] w fun e w' => e = .returned (.int .i64 (farH r s)) ∧ Below w.heap.size w w' := by
  have hbd := farH_bd hr hs
  unfold hpIn at hr hs
  have h1 : IntKind.i64.wrap (r.x - s.x) = r.x - s.x := wrap_id _ (by omega) (by omega)
  have h2 : IntKind.i64.wrap (s.x - r.x) = s.x - r.x := wrap_id _ (by omega) (by omega)
  have h3 : IntKind.i64.wrap (r.y - s.y) = r.y - s.y := wrap_id _ (by omega) (by omega)
  have h4 : IntKind.i64.wrap (s.y - r.y) = s.y - r.y := wrap_id _ (by omega) (by omega)
  have h5 : (if r.x - s.x < s.x - r.x then s.x - r.x else r.x - s.x) = apN r.x s.x := by unfold apN; split <;> omega
  have h6 : (if r.y - s.y < s.y - r.y then s.y - r.y else r.y - s.y) = apN r.y s.y := by unfold apN; split <;> omega
  obtain ⟨res, hres⟩ : ∃ res, farH r s = res := ⟨_, rfl⟩
  have hwr : IntKind.i64.wrap (apN r.x s.x + apN r.y s.y) = res := by rw [wrap_id _ (by unfold farH at hbd; omega) (by unfold farH at hbd; omega)]; exact hres
  rw [hres]
  clear hres hbd hr hs
  generalize apN r.x s.x = d1 at *
  generalize apN r.y s.y = d2 at *
  have l1 : ∀ n : Nat, n < n + 1 + 1 := fun n => by omega
  have l2 : ∀ n : Nat, n < n + 2 := fun n => by omega
  go_enter Try.func65, Try.ntmps65
  go_wp2
  go_ret
  refine ⟨ret_int ?_, chain (below_alloc _ _) (below_alloc _ _)⟩
  have e1 : max (r.x - s.x) (s.x - r.x) = d1 := by rw [← h5]; split <;> omega
  have e2 : max (r.y - s.y) (s.y - r.y) = d2 := by rw [← h6]; split <;> omega
  rw [e1, e2]
  exact (Go.IntWalk.i64_left _).symm.trans hwr
/-- In the midst of a trip's step: what has been made so far. -/
structure VtI (B tb sb rb : Nat) (TB SB : Array Value) (ga : Option Addr) (gc : Nat) (L : List Int) (ha : Option Addr) (hc : Nat) (M : List Int) (p q : Int) (W0 : World) (o3 o8 : Option Nat) (r4 r9 : Option (Nat × Nat)) (bx : Option Nat) (wr : World) : Prop where
  low : B ≤ W0.heap.size
  ltL : ∀ x, Value.ownBlock (.slice ga L.length gc) = some x → x < W0.heap.size
  ltM : ∀ x, Value.ownBlock (.slice ha M.length hc) = some x → x < W0.heap.size
  sep : ∀ x, Value.ownBlock (.slice ga L.length gc) = some x → Value.ownBlock (.slice ha M.length hc) ≠ some x
  fr : Fr (fun x => Value.ownBlock (.slice ga L.length gc) = some x ∨ Value.ownBlock (.slice ha M.length hc) = some x) W0 wr
  t : wr.heap[tb]? = some (.cells TB 57 (0, 0))
  s : wr.heap[sb]? = some (.cells SB 37 (0, 0))
  r : wr.heap[rb]? = some (.cells #[.slice none 0 0, .slice none 0 0, .int .i64 0, .int .i64 0, .int .i64 0, .int .i64 0, .int .i64 0, .int .i64 0, .int .i64 0] 57 (0, 0))
  rowL : wr.ownsRow B 3 1 (.slice ga L.length gc) L.length (inV L)
  rowM : wr.ownsRow B 3 1 (.slice ha M.length hc) M.length (inV M)
  a3 : ∀ b, o3 = some b → W0.heap.size ≤ b ∧ wr.heap[b]? = some (.cells #[.int .i64 p] 3 (0, 0))
  a8 : ∀ b, o8 = some b → W0.heap.size ≤ b ∧ wr.heap[b]? = some (.cells #[.int .i64 q] 3 (0, 0))
  a4 : ∀ g c, r4 = some (g, c) → wr.ownsRow B 3 1 (.slice (some ⟨g, 0, none⟩) (L.length + 1) c) (L.length + 1) (inV (L ++ [p])) ∧ ((ga = some ⟨g, 0, none⟩ ∧ c = gc) ∨ W0.heap.size ≤ g) ∧ Value.ownBlock (.slice ha M.length hc) ≠ some g
  a9 : ∀ g c, r9 = some (g, c) → wr.ownsRow B 3 1 (.slice (some ⟨g, 0, none⟩) (M.length + 1) c) (M.length + 1) (inV (M ++ [q])) ∧ ((ha = some ⟨g, 0, none⟩ ∧ c = hc) ∨ W0.heap.size ≤ g) ∧ ∀ g4 c4, r4 = some (g4, c4) → g4 ≠ g
  a22 : ∀ b, bx = some b → W0.heap.size ≤ b ∧ (wr.heap[b]? = some (.cells #[.slice none 0 0, .slice none 0 0, .int .i64 0, .int .i64 0, .int .i64 0, .int .i64 0, .int .i64 0, .int .i64 0, .int .i64 0] 57 (0, 0))) ∧ b ≠ rb
section
variable {B tb sb rb : Nat} {TB SB : Array Value} {ga : Option Addr} {gc : Nat} {L : List Int} {ha : Option Addr} {hc : Nat} {M : List Int} {p q : Int} {W0 : World} {o3 o8 : Option Nat} {r4 r9 : Option (Nat × Nat)} {bx : Option Nat} {wr w' : World}
/-- What none of the blocks that are spoken of is touched by. -/
theorem VtI.later (h : VtI B tb sb rb TB SB ga gc L ha hc M p q W0 o3 o8 r4 r9 bx wr) (hb : Below wr.heap.size wr w') : VtI B tb sb rb TB SB ga gc L ha hc M p q W0 o3 o8 r4 r9 bx w' where
  low := h.low
  ltL := h.ltL
  ltM := h.ltM
  sep := h.sep
  fr := h.fr.trans (Fr.of hb)
  t := (hb.block _ (blkLt h.t)).trans h.t
  s := (hb.block _ (blkLt h.s)).trans h.s
  r := (hb.block _ (blkLt h.r)).trans h.r
  rowL := row_of h.rowL (fun x hx => hb.block x (row_lt h.rowL x hx).2)
  rowM := row_of h.rowM (fun x hx => hb.block x (row_lt h.rowM x hx).2)
  a3 := fun b e => ⟨(h.a3 b e).1, (hb.block _ (blkLt (h.a3 b e).2)).trans (h.a3 b e).2⟩
  a8 := fun b e => ⟨(h.a8 b e).1, (hb.block _ (blkLt (h.a8 b e).2)).trans (h.a8 b e).2⟩
  a4 := fun g c e => ⟨row_of (h.a4 g c e).1 (fun x hx => hb.block x (row_lt (h.a4 g c e).1 x hx).2), (h.a4 g c e).2⟩
  a9 := fun g c e => ⟨row_of (h.a9 g c e).1 (fun x hx => hb.block x (row_lt (h.a9 g c e).1 x hx).2), (h.a9 g c e).2⟩
  a22 := fun b e => ⟨(h.a22 b e).1, (hb.block _ (blkLt (h.a22 b e).2.1)).trans (h.a22 b e).2.1, (h.a22 b e).2.2⟩
theorem VtI.mk3 (h : VtI B tb sb rb TB SB ga gc L ha hc M p q W0 none o8 r4 r9 bx wr) : VtI B tb sb rb TB SB ga gc L ha hc M p q W0 (some wr.heap.size) o8 r4 r9 bx (wr.alloc (Obj.cells #[.int .i64 p] 3)) :=
  { h.later (below_alloc _ _) with a3 := fun b e => by obtain rfl := Option.some.inj e; exact ⟨h.fr.size, heapNew _ _⟩ }
theorem VtI.mk8 (h : VtI B tb sb rb TB SB ga gc L ha hc M p q W0 o3 none r4 r9 bx wr) : VtI B tb sb rb TB SB ga gc L ha hc M p q W0 o3 (some wr.heap.size) r4 r9 bx (wr.alloc (Obj.cells #[.int .i64 q] 3)) :=
  { h.later (below_alloc _ _) with a8 := fun b e => by obtain rfl := Option.some.inj e; exact ⟨h.fr.size, heapNew _ _⟩ }
theorem VtI.mk22 (h : VtI B tb sb rb TB SB ga gc L ha hc M p q W0 o3 o8 r4 r9 none wr) : VtI B tb sb rb TB SB ga gc L ha hc M p q W0 o3 o8 r4 r9 (some wr.heap.size) (wr.alloc (Obj.cells #[.slice none 0 0, .slice none 0 0, .int .i64 0, .int .i64 0, .int .i64 0, .int .i64 0, .int .i64 0, .int .i64 0, .int .i64 0] 57)) :=
  { h.later (below_alloc _ _) with a22 := fun b e => by obtain rfl := Option.some.inj e; exact ⟨h.fr.size, heapNew _ _, fun e2 => by have := blkLt h.r; omega⟩ }
theorem type_ne {w : World} {b c : Nat} {V U : Array Value} {t u : TypeId} (hb : w.heap[b]? = some (.cells V t (0, 0))) (hc : w.heap[c]? = some (.cells U u (0, 0))) (hn : t ≠ u) : b ≠ c := fun e => by
  subst e
  rw [hb] at hc
  simp at hc
  exact hn hc.2
/-- The order has grown. -/
theorem VtI.ap4 {g1 c1 : Nat} (h : VtI B tb sb rb TB SB ga gc L ha hc M p q W0 o3 o8 none none bx wr) (hrow : w'.ownsRow B 3 1 (.slice (some ⟨g1, 0, none⟩) (L.length + 1) c1) (L.length + 1) (inV (L ++ [p]))) (hold : w'.ownsRow B 3 1 (.slice ga L.length gc) L.length (inV L)) (hg : wr.grownBy w' (Value.ownBlock (.slice ga L.length gc))) (hw : (ga = some ⟨g1, 0, none⟩ ∧ c1 = gc) ∨ wr.heap.size ≤ g1) : VtI B tb sb rb TB SB ga gc L ha hc M p q W0 o3 o8 (some (g1, c1)) none bx w' := by
  have hk : ∀ k, k < wr.heap.size → Value.ownBlock (.slice ga L.length gc) ≠ some k → w'.heap[k]? = wr.heap[k]? := fun k h1 h2 => hg.block k h1 (fun e => h2 e.symm)
  have hkt : ∀ {k : Nat} {V : Array Value} {t : TypeId}, wr.heap[k]? = some (.cells V t (0, 0)) → t ≠ 3 → w'.heap[k]? = wr.heap[k]? := fun {k V t} h1 h2 => hk k (blkLt h1) (fun e => by
    obtain ⟨cur, hc⟩ := row_type h.rowL e
    exact type_ne h1 hc h2 rfl)
  have hkn : ∀ {k : Nat}, W0.heap.size ≤ k → k < wr.heap.size → w'.heap[k]? = wr.heap[k]? := fun {k} h1 h2 => hk k h2 (fun e => by have := h.ltL k e; omega)
  refine { low := h.low, ltL := h.ltL, ltM := h.ltM, sep := h.sep, fr := h.fr.trans ((fr_grown hg).mono (fun k e => .inl e)), t := (hkt h.t (by decide)).trans h.t, s := (hkt h.s (by decide)).trans h.s, r := (hkt h.r (by decide)).trans h.r, rowL := hold, rowM := row_of h.rowM (fun x hx => hk x (row_lt h.rowM x hx).2 (fun e => h.sep x e hx)), a3 := fun b e => ⟨(h.a3 b e).1, (hkn (h.a3 b e).1 (blkLt (h.a3 b e).2)).trans (h.a3 b e).2⟩, a8 := fun b e => ⟨(h.a8 b e).1, (hkn (h.a8 b e).1 (blkLt (h.a8 b e).2)).trans (h.a8 b e).2⟩, a4 := ?_, a9 := fun g c e => (by cases e), a22 := fun b e => ⟨(h.a22 b e).1, (hkn (h.a22 b e).1 (blkLt (h.a22 b e).2.1)).trans (h.a22 b e).2.1, (h.a22 b e).2.2⟩ }
  intro g c e
  simp only [Option.some.injEq, Prod.mk.injEq] at e
  obtain ⟨rfl, rfl⟩ := e
  refine ⟨hrow, hw.imp id (fun k => Nat.le_trans h.fr.size k), fun e => ?_⟩
  rcases hw with ⟨e1, _⟩ | e1
  · exact h.sep g1 (by rw [e1]; rfl) e
  · have := h.ltM g1 e
    have := h.fr.size
    omega
/-- The minutes have grown. -/
theorem VtI.ap9 {g1 c1 : Nat} (h : VtI B tb sb rb TB SB ga gc L ha hc M p q W0 o3 o8 r4 none bx wr) (hrow : w'.ownsRow B 3 1 (.slice (some ⟨g1, 0, none⟩) (M.length + 1) c1) (M.length + 1) (inV (M ++ [q]))) (hold : w'.ownsRow B 3 1 (.slice ha M.length hc) M.length (inV M)) (hg : wr.grownBy w' (Value.ownBlock (.slice ha M.length hc))) (hw : (ha = some ⟨g1, 0, none⟩ ∧ c1 = hc) ∨ wr.heap.size ≤ g1) : VtI B tb sb rb TB SB ga gc L ha hc M p q W0 o3 o8 r4 (some (g1, c1)) bx w' := by
  have hk : ∀ k, k < wr.heap.size → Value.ownBlock (.slice ha M.length hc) ≠ some k → w'.heap[k]? = wr.heap[k]? := fun k h1 h2 => hg.block k h1 (fun e => h2 e.symm)
  have hkt : ∀ {k : Nat} {V : Array Value} {t : TypeId}, wr.heap[k]? = some (.cells V t (0, 0)) → t ≠ 3 → w'.heap[k]? = wr.heap[k]? := fun {k V t} h1 h2 => hk k (blkLt h1) (fun e => by
    obtain ⟨cur, hc⟩ := row_type h.rowM e
    exact type_ne h1 hc h2 rfl)
  have hkn : ∀ {k : Nat}, W0.heap.size ≤ k → k < wr.heap.size → w'.heap[k]? = wr.heap[k]? := fun {k} h1 h2 => hk k h2 (fun e => by have := h.ltM k e; omega)
  refine { low := h.low, ltL := h.ltL, ltM := h.ltM, sep := h.sep, fr := h.fr.trans ((fr_grown hg).mono (fun k e => .inr e)), t := (hkt h.t (by decide)).trans h.t, s := (hkt h.s (by decide)).trans h.s, r := (hkt h.r (by decide)).trans h.r, rowM := hold, rowL := row_of h.rowL (fun x hx => hk x (row_lt h.rowL x hx).2 (fun e => h.sep x hx e)), a3 := fun b e => ⟨(h.a3 b e).1, (hkn (h.a3 b e).1 (blkLt (h.a3 b e).2)).trans (h.a3 b e).2⟩, a8 := fun b e => ⟨(h.a8 b e).1, (hkn (h.a8 b e).1 (blkLt (h.a8 b e).2)).trans (h.a8 b e).2⟩, a4 := fun g c e => ⟨row_of (h.a4 g c e).1 (fun x hx => ?_), (h.a4 g c e).2⟩, a9 := ?_, a22 := fun b e => ⟨(h.a22 b e).1, (hkn (h.a22 b e).1 (blkLt (h.a22 b e).2.1)).trans (h.a22 b e).2.1, (h.a22 b e).2.2⟩ }
  · have hx' : g = x := by simpa [Value.ownBlock] using hx
    subst hx'
    exact hk g (row_lt (h.a4 g c e).1 g rfl).2 (h.a4 g c e).2.2
  · intro g c e
    simp only [Option.some.injEq, Prod.mk.injEq] at e
    obtain ⟨rfl, rfl⟩ := e
    refine ⟨hrow, hw.imp id (fun k => Nat.le_trans h.fr.size k), fun g4 c4 e4 e5 => ?_⟩
    subst e5
    obtain ⟨k1, k2, k3⟩ := h.a4 _ _ e4
    rcases hw with ⟨e1, _⟩ | e1
    · exact k3 (by rw [e1]; rfl)
    · have := (row_lt k1 g4 rfl).2
      omega
theorem VtI.tc (h : VtI B tb sb rb TB SB ga gc L ha hc M p q W0 o3 o8 r4 r9 bx wr) (j : Nat) (v : Value) (hv : TB[j]? = some v) : wr.cell? ⟨tb, j, none⟩ = some v := blkCell h.t j v hv
theorem VtI.sc (h : VtI B tb sb rb TB SB ga gc L ha hc M p q W0 o3 o8 r4 r9 bx wr) (j : Nat) (v : Value) (hv : SB[j]? = some v) : wr.cell? ⟨sb, j, none⟩ = some v := blkCell h.s j v hv
end
theorem set_nine {W : World} {b : Nat} {u0 u1 u2 u3 u4 u5 u6 u7 u8 : Value} {t : TypeId} (h : W.heap[b]? = some (.cells #[u0, u1, u2, u3, u4, u5, u6, u7, u8] t (0, 0))) (x0 x1 x2 x3 x4 x5 x6 x7 x8 : Value) :
    (((((((((W.setCell ⟨b, 0, none⟩ x0).setCell ⟨b, 1, none⟩ x1).setCell ⟨b, 2, none⟩ x2).setCell ⟨b, 3, none⟩ x3).setCell ⟨b, 4, none⟩ x4).setCell ⟨b, 5, none⟩ x5).setCell ⟨b, 6, none⟩ x6).setCell ⟨b, 7, none⟩ x7).setCell ⟨b, 8, none⟩ x8).heap[b]? = some (.cells #[x0, x1, x2, x3, x4, x5, x6, x7, x8] t (0, 0)) ∧
    (∀ d, d ≠ b → (((((((((W.setCell ⟨b, 0, none⟩ x0).setCell ⟨b, 1, none⟩ x1).setCell ⟨b, 2, none⟩ x2).setCell ⟨b, 3, none⟩ x3).setCell ⟨b, 4, none⟩ x4).setCell ⟨b, 5, none⟩ x5).setCell ⟨b, 6, none⟩ x6).setCell ⟨b, 7, none⟩ x7).setCell ⟨b, 8, none⟩ x8).heap[d]? = W.heap[d]?) := by
  have h0 := heap_setCell_same W b 0 _ t x0 h
  have h1 := heap_setCell_same _ b 1 _ t x1 h0
  have h2 := heap_setCell_same _ b 2 _ t x2 h1
  have h3 := heap_setCell_same _ b 3 _ t x3 h2
  have h4 := heap_setCell_same _ b 4 _ t x4 h3
  have h5 := heap_setCell_same _ b 5 _ t x5 h4
  have h6 := heap_setCell_same _ b 6 _ t x6 h5
  have h7 := heap_setCell_same _ b 7 _ t x7 h6
  have h8 := heap_setCell_same _ b 8 _ t x8 h7
  refine ⟨by rw [h8]; simp only [List.setIfInBounds_toArray, List.set_cons_zero, List.set_cons_succ], fun d hd => ?_⟩
  rw [heap_setCell_other _ _ _ _ hd, heap_setCell_other _ _ _ _ hd, heap_setCell_other _ _ _ _ hd, heap_setCell_other _ _ _ _ hd, heap_setCell_other _ _ _ _ hd, heap_setCell_other _ _ _ _ hd, heap_setCell_other _ _ _ _ hd, heap_setCell_other _ _ _ _ hd, heap_setCell_other _ _ _ _ hd]
end Go.Proofs.Ytoogphkojofkfaa

/-
  Contracts of the program's between and of the specification's l19Far, of Between on both sides.
-/
import Derived.Test.YthmhpgbkapjjkaaPkC
namespace Go.Proofs.Ythmhpgbkapjjkaa
open Go.ChangeShapes Go.WideShapes Go.ChangeAt Go.RowKit Go.Joins Go.Deep
set_option linter.unusedVariables false

/-- The boxes of a hall and two spots, one behind the other from block b on. -/
structure Box3 (W : World) (b : Nat) (a p g x y u v : Int) : Prop where
  h0 : W.cell? ⟨b, 0, none⟩ = some (.int .i64 a)
  h1 : W.cell? ⟨b, 1, none⟩ = some (.int .i64 p)
  h2 : W.cell? ⟨b, 2, none⟩ = some (.int .i64 g)
  s0 : W.cell? ⟨b + 1, 0, none⟩ = some (.int .i64 x)
  s1 : W.cell? ⟨b + 1, 1, none⟩ = some (.int .i64 y)
  t0 : W.cell? ⟨b + 2, 0, none⟩ = some (.int .i64 u)
  t1 : W.cell? ⟨b + 2, 1, none⟩ = some (.int .i64 v)
theorem Box3.new (w : World) (a p g x y u v : Int) : Box3 (((w.alloc (Obj.cells #[.int .i64 a, .int .i64 p, .int .i64 g] 24)).alloc (Obj.cells #[.int .i64 x, .int .i64 y] 35)).alloc (Obj.cells #[.int .i64 u, .int .i64 v] 35)) w.heap.size a p g x y u v := by
  refine ⟨?_, ?_, ?_, ?_, ?_, ?_, ?_⟩
  · exact (cellOld _ _ (by simp only [World.size_alloc]; omega)).trans ((cellOld _ _ (by simp only [World.size_alloc]; omega)).trans (cellNew _ _ _ _ rfl rfl))
  · exact (cellOld _ _ (by simp only [World.size_alloc]; omega)).trans ((cellOld _ _ (by simp only [World.size_alloc]; omega)).trans (cellNew _ _ _ _ rfl rfl))
  · exact (cellOld _ _ (by simp only [World.size_alloc]; omega)).trans ((cellOld _ _ (by simp only [World.size_alloc]; omega)).trans (cellNew _ _ _ _ rfl rfl))
  · exact (cellOld _ _ (by simp only [World.size_alloc]; omega)).trans (cellNew _ _ _ _ (by simp only [World.size_alloc]) rfl)
  · exact (cellOld _ _ (by simp only [World.size_alloc]; omega)).trans (cellNew _ _ _ _ (by simp only [World.size_alloc]) rfl)
  · exact cellNew _ _ _ _ (by simp only [World.size_alloc]) rfl
  · exact cellNew _ _ _ _ (by simp only [World.size_alloc]) rfl
theorem Box3.below {B : Nat} {W W' : World} {b : Nat} {a p g x y u v : Int} (h : Box3 W b a p g x y u v) (hb : Below B W W') (hB : b + 2 < B) : Box3 W' b a p g x y u v := by
  obtain ⟨h0, h1, h2, h3, h4, h5, h6⟩ := h
  exact ⟨(hb.cell (p := ⟨b, 0, none⟩) (by show b < B; omega)).trans h0, (hb.cell (p := ⟨b, 1, none⟩) (by show b < B; omega)).trans h1, (hb.cell (p := ⟨b, 2, none⟩) (by show b < B; omega)).trans h2, (hb.cell (p := ⟨b + 1, 0, none⟩) (by show b + 1 < B; omega)).trans h3, (hb.cell (p := ⟨b + 1, 1, none⟩) (by show b + 1 < B; omega)).trans h4, (hb.cell (p := ⟨b + 2, 0, none⟩) (by show b + 2 < B; omega)).trans h5, (hb.cell (p := ⟨b + 2, 1, none⟩) (by show b + 2 < B; omega)).trans h6⟩
set_option maxHeartbeats 4000000 in
theorem impFar_any (a p g x y u v : Int) (hh : hlB a p g = true) (hr : spB a p ⟨x, y⟩ = true) (hs : spB a p ⟨u, v⟩ = true) (w : World) :
    Calls Try.prog 40 #[.agg #[.int .i64 a, .int .i64 p, .int .i64 g], .agg #[.int .i64 x, .int .i64 y], .agg #[.int .i64 u, .int .i64 v]] w fun e w' => e = .returned (.int .i64 (farN p g ⟨x, y⟩ ⟨u, v⟩)) ∧ Below w.heap.size w w' := by
  obtain ⟨h1, h2, h3⟩ := hl_facts hh
  obtain ⟨r1, r2⟩ := sp_facts hr
  obtain ⟨s1, s2⟩ := sp_facts hs
  dsimp only at r1 r2 s1 s2
  have HP : Hid (∀ W, Calls Try.prog 59 #[.int .i64 y, .int .i64 v] W fun e w' => e = .returned (.int .i64 (apN y v)) ∧ Below W.heap.size W w') := fun W => impApart_any y v (by omega) (by omega) W
  have HX : Hid (∀ W, Calls Try.prog 59 #[.int .i64 x, .int .i64 u] W fun e w' => e = .returned (.int .i64 (apN x u)) ∧ Below W.heap.size W w') := fun W => impApart_any x u (by omega) (by omega) W
  have HB : Hid (∀ W, Calls Try.prog 60 #[.agg #[.int .i64 a, .int .i64 p, .int .i64 g]] W fun e w' => e = .returned (.int .i64 (p + 1)) ∧ Below W.heap.size W w') := fun W => impBack_any a p g (by omega) W
  obtain ⟨W1, hW1⟩ : ∃ W1, W1 = ((w.alloc (Obj.cells #[.int .i64 a, .int .i64 p, .int .i64 g] 24)).alloc (Obj.cells #[.int .i64 x, .int .i64 y] 35)).alloc (Obj.cells #[.int .i64 u, .int .i64 v] 35) := ⟨_, rfl⟩
  have HE : Hid (W1 = ((w.alloc (Obj.cells #[.int .i64 a, .int .i64 p, .int .i64 g] 24)).alloc (Obj.cells #[.int .i64 x, .int .i64 y] 35)).alloc (Obj.cells #[.int .i64 u, .int .i64 v] 35)) := hW1
  have HL : Hid (Below w.heap.size w W1) := by rw [hW1]; exact chain (chain (below_alloc _ _) (below_alloc _ _)) (below_alloc _ _)
  have HQ : Hid (∀ W, Below W1.heap.size W1 W → Box3 W w.heap.size a p g x y u v) := fun W hb => by
    have hn := Box3.new w a p g x y u v
    rw [← hW1] at hn
    exact hn.below hb (by rw [hW1]; simp only [World.size_alloc]; omega)
  clear hW1
  by_cases hxu : x = u
  · have e0 : farN p g ⟨x, y⟩ ⟨u, v⟩ = apN y v := by unfold farN; rw [if_pos hxu]
    rw [e0]
    have hb0 : (x == u) = true := by simpa using hxu
    clear hxu e0 HX HB hh hr hs h1 h2 h3 r1 r2 s1 s2
    generalize apN y v = m at *
    go_enter Try.func40, Try.ntmps40
    go_wp2_with fail
    (first | go_at_call 59 | skip)
    rw [← HE.out]
    refine (HP.out _).mono ?_
    rintro e w2 ⟨rfl, hb2⟩
    go_wp2
    go_ret
    exact ⟨rfl, chain HL.out hb2⟩
  · have e0 : farN p g ⟨x, y⟩ ⟨u, v⟩ = g * apN x u + min (y + v) (2 * (p + 1) - (y + v)) := by unfold farN; rw [if_neg hxu]
    rw [e0]
    have hb0 : (x == u) = false := by simpa using hxu
    have f1 := apN_bd x u
    have f2 := f1.2 0 19 (by omega) (by omega) (by omega) (by omega)
    have f3 := mul_bd h3 ⟨f1.1, (by omega : apN x u ≤ 20)⟩
    have k1 : IntKind.i64.wrap (y + v) = y + v := wrap_id _ (by omega) (by omega)
    have k2 : IntKind.i64.wrap (2 * (p + 1)) = 2 * (p + 1) := wrap_id _ (by omega) (by omega)
    obtain ⟨bk, hbk⟩ : ∃ bk, 2 * (p + 1) - (y + v) = bk := ⟨_, rfl⟩
    have k3 : IntKind.i64.wrap (2 * (p + 1) - (y + v)) = bk := by rw [wrap_id _ (by omega) (by omega)]; exact hbk
    rw [hbk]
    obtain ⟨fr, hfr⟩ : ∃ fr, y + v = fr := ⟨_, rfl⟩
    rw [hfr] at k1 k3 ⊢
    have k4 : (if bk < fr then bk else fr) = min fr bk := by split <;> omega
    obtain ⟨mn, hmn⟩ : ∃ mn, min fr bk = mn := ⟨_, rfl⟩
    rw [hmn] at k4 ⊢
    have hmb : 0 ≤ mn ∧ mn ≤ 202 := by omega
    clear hmn
    generalize apN x u = m at *
    obtain ⟨gm, hgm⟩ : ∃ gm, g * m = gm := ⟨_, rfl⟩
    have k5 : IntKind.i64.wrap (g * m) = gm := by rw [hgm]; exact wrap_id _ (by omega) (by omega)
    rw [hgm] at f3 ⊢
    have k6 : IntKind.i64.wrap (gm + mn) = gm + mn := wrap_id _ (by omega) (by omega)
    have k1' : IntKind.i64.wrap (y + v) = fr := by rw [hfr]; exact k1
    clear hxu e0 HP hh hr hs h1 h2 h3 r1 r2 s1 s2 hbk hfr hgm f1 f2 f3 hmb k1
    go_enter Try.func40, Try.ntmps40
    go_wp2_with fail
    (first | go_at_call 60 | skip)
    rw [← HE.out]
    refine (HB.out _).mono ?_
    rintro e w2 ⟨rfl, hb2⟩
    have HB2 : Hid (Below W1.heap.size W1 w2) := hb2
    clear hb2
    go_upto_region 5 with fail
    refine wp_region_held_drew (S := fun W' => Below W1.heap.size W1 W') (by kernel_rfl) (chain HB2.out (below_drew _)) (fun hH => ?_)
    refine wpAnyH_take (i := 0) (v := .pointer (some ⟨w.heap.size, 2, none⟩)) rfl (by kernel_rfl) (by kernel_rfl) (by kernel_rfl) (fun _ _ _ h => h) (Or.inl ⟨by rfl, fun w hSw => by clear hSw; go_simp⟩) hH ?_
    refine wpAnyH_take (i := 1) (v := .int .i64 g) rfl (by kernel_rfl) (by kernel_rfl) (by kernel_rfl) (fun _ _ _ h => h) (Or.inl ⟨by rfl, fun w hSw => by obtain ⟨f0, f1, f2, f3, f4, f5, f6⟩ := HQ.out w hSw; clear hSw; go_simp⟩) hH ?_
    try simp only [Act.put, List.setIfInBounds_toArray, List.set_cons_zero, List.set_cons_succ, List.getElem_toArray, List.getElem_cons_succ, List.getElem_cons_zero]
    refine wpAnyH_take (i := 2) (v := .pointer (some ⟨w.heap.size + 1, 0, none⟩)) rfl (by kernel_rfl) (by kernel_rfl) (by kernel_rfl) (fun _ _ _ h => h) (Or.inl ⟨by rfl, fun w hSw => by clear hSw; go_simp⟩) hH ?_
    try simp only [Act.put, List.setIfInBounds_toArray, List.set_cons_zero, List.set_cons_succ, List.getElem_toArray, List.getElem_cons_succ, List.getElem_cons_zero]
    refine wpAnyH_take (i := 3) (v := .int .i64 x) rfl (by kernel_rfl) (by kernel_rfl) (by kernel_rfl) (fun _ _ _ h => h) (Or.inl ⟨by rfl, fun w hSw => by obtain ⟨f0, f1, f2, f3, f4, f5, f6⟩ := HQ.out w hSw; clear hSw; go_simp⟩) hH ?_
    try simp only [Act.put, List.setIfInBounds_toArray, List.set_cons_zero, List.set_cons_succ, List.getElem_toArray, List.getElem_cons_succ, List.getElem_cons_zero]
    refine wpAnyH_take (i := 4) (v := .pointer (some ⟨w.heap.size + 2, 0, none⟩)) rfl (by kernel_rfl) (by kernel_rfl) (by kernel_rfl) (fun _ _ _ h => h) (Or.inl ⟨by rfl, fun w hSw => by clear hSw; go_simp⟩) hH ?_
    try simp only [Act.put, List.setIfInBounds_toArray, List.set_cons_zero, List.set_cons_succ, List.getElem_toArray, List.getElem_cons_succ, List.getElem_cons_zero]
    refine wpAnyH_take (i := 5) (v := .int .i64 u) rfl (by kernel_rfl) (by kernel_rfl) (by kernel_rfl) (fun _ _ _ h => h) (Or.inl ⟨by rfl, fun w hSw => by obtain ⟨f0, f1, f2, f3, f4, f5, f6⟩ := HQ.out w hSw; clear hSw; go_simp⟩) hH ?_
    try simp only [Act.put, List.setIfInBounds_toArray, List.set_cons_zero, List.set_cons_succ, List.getElem_toArray, List.getElem_cons_succ, List.getElem_cons_zero]
    refine wpAnyH_take (i := 8) (v := .int .i64 fr) rfl (by kernel_rfl) (by kernel_rfl) (by kernel_rfl) (fun _ _ _ h => h) (Or.inl ⟨by rfl, fun w hSw => by clear hSw; go_simp⟩) hH ?_
    try simp only [Act.put, List.setIfInBounds_toArray, List.set_cons_zero, List.set_cons_succ, List.getElem_toArray, List.getElem_cons_succ, List.getElem_cons_zero]
    refine wpAnyH_take (i := 9) (v := .int .i64 bk) rfl (by kernel_rfl) (by kernel_rfl) (by kernel_rfl) (fun _ _ _ h => h) (Or.inl ⟨by rfl, fun w hSw => by clear hSw; go_simp⟩) hH ?_
    try simp only [Act.put, List.setIfInBounds_toArray, List.set_cons_zero, List.set_cons_succ, List.getElem_toArray, List.getElem_cons_succ, List.getElem_cons_zero]
    refine wpAnyH_take (i := 10) (v := .int .i64 mn) rfl (by kernel_rfl) (by kernel_rfl) (by kernel_rfl) (fun _ _ _ h => h) (Or.inl ⟨by rfl, fun w hSw => by clear hSw; go_simp⟩) hH ?_
    try simp only [Act.put, List.setIfInBounds_toArray, List.set_cons_zero, List.set_cons_succ, List.getElem_toArray, List.getElem_cons_succ, List.getElem_cons_zero]
    refine wpAnyH_ready (rs := [6]) (by kernel_rfl) (by simp) ?_
    refine AllReadyH.cons rfl (fun K hK => ?_) AllReadyH.nil
    go_simp
    go_at_call 59
    refine (HX.out _).mono ?_
    rintro e w3 ⟨rfl, hb3⟩
    have HB3 : Hid (Below W1.heap.size W1 w3) := chain (chain HB2.out (below_drew _)) hb3
    clear hb3
    refine hK.out _ _ HB3.out (fun _ => ?_)
    clear hK K
    try simp only [Act.put, List.setIfInBounds_toArray, List.set_cons_zero, List.set_cons_succ, List.getElem_toArray, List.getElem_cons_succ, List.getElem_cons_zero]
    refine wpAnyH_take (i := 7) (v := .int .i64 gm) rfl (by kernel_rfl) (by kernel_rfl) (by kernel_rfl) (fun _ _ _ h => h) (Or.inl ⟨by rfl, fun w hSw => by clear hSw; go_simp⟩) HB3.out ?_
    try simp only [Act.put, List.setIfInBounds_toArray, List.set_cons_zero, List.set_cons_succ, List.getElem_toArray, List.getElem_cons_succ, List.getElem_cons_zero]
    refine wpAnyH_take (i := 11) (v := .int .i64 (gm + mn)) rfl (by kernel_rfl) (by kernel_rfl) (by kernel_rfl) (fun _ _ _ h => h) (Or.inl ⟨by rfl, fun w hSw => by clear hSw; go_simp⟩) HB3.out ?_
    try simp only [Act.put, List.setIfInBounds_toArray, List.set_cons_zero, List.set_cons_succ, List.getElem_toArray, List.getElem_cons_succ, List.getElem_cons_zero]
    refine wpAnyH_take (i := 12) (v := .int .i64 (gm + mn)) rfl (by kernel_rfl) (by kernel_rfl) (by kernel_rfl) (fun _ _ _ h => h) (Or.inl ⟨by rfl, fun w hSw => by clear hSw; go_simp⟩) HB3.out ?_
    try simp only [Act.put, List.setIfInBounds_toArray, List.set_cons_zero, List.set_cons_succ, List.getElem_toArray, List.getElem_cons_succ, List.getElem_cons_zero]
    refine wpAnyH_done (by kernel_rfl) ?_ _
    clear hH
    go_wp2
    go_ret
    exact ⟨rfl, chain HL.out HB3.out⟩
end Go.Proofs.Ythmhpgbkapjjkaa

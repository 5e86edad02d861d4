/-
  Contracts of the specification's l19Far, of Between on both sides.
-/
import Derived.Test.YthmhpgbkapjjkaaPkD
namespace Go.Proofs.Ythmhpgbkapjjkaa
open Go.ChangeShapes Go.WideShapes Go.ChangeAt Go.RowKit Go.Joins Go.Deep
set_option linter.unusedVariables false

set_option maxHeartbeats 4000000 in
theorem specFar_any (a p g x y u v : Int) (hh : hlB a p g = true) (hr : spB a p ⟨x, y⟩ = true) (hs : spB a p ⟨u, v⟩ = true) (w : World) :
    Calls Try.prog 42 #[.agg #[.int .i64 a, .int .i64 p, .int .i64 g], .agg #[.int .i64 x, .int .i64 y], .agg #[.int .i64 u, .int .i64 v]] w fun e w' => e = .returned (.int .i64 (farN p g ⟨x, y⟩ ⟨u, v⟩)) ∧ Below w.heap.size w w' := by
  obtain ⟨h1, h2, h3⟩ := hl_facts hh
  obtain ⟨r1, r2⟩ := sp_facts hr
  obtain ⟨s1, s2⟩ := sp_facts hs
  dsimp only at r1 r2 s1 s2
  by_cases hxu : x = u
  · have e0 : farN p g ⟨x, y⟩ ⟨u, v⟩ = apN y v := by unfold farN; rw [if_pos hxu]
    rw [e0]
    have hb0 : (x == u) = true := by simpa using hxu
    have k1 : IntKind.i64.wrap (y - v) = y - v := wrap_id _ (by omega) (by omega)
    have k2 : IntKind.i64.wrap (v - y) = v - y := wrap_id _ (by omega) (by omega)
    have k3 : (if y - v < v - y then v - y else y - v) = apN y v := by unfold apN; split <;> omega
    clear hxu e0 hh hr hs h1 h2 h3 r1 r2 s1 s2
    generalize apN y v = m at *
    go_enter Try.func42, Try.ntmps42
    go_wp2
    go_ret
    exact ⟨rfl, chain (chain (below_alloc _ _) (below_alloc _ _)) (below_alloc _ _)⟩
  · have e0 : farN p g ⟨x, y⟩ ⟨u, v⟩ = g * apN x u + min (y + v) (2 * (p + 1) - (y + v)) := by unfold farN; rw [if_neg hxu]
    rw [e0]
    have hb0 : (x == u) = false := by simpa using hxu
    have f1 := apN_bd x u
    have f2 := f1.2 0 19 (by omega) (by omega) (by omega) (by omega)
    have f3 := mul_bd h3 ⟨f1.1, (by omega : apN x u ≤ 20)⟩
    have k1 : IntKind.i64.wrap (y + v) = y + v := wrap_id _ (by omega) (by omega)
    have k0 : IntKind.i64.wrap (p + 1) = p + 1 := wrap_id _ (by omega) (by omega)
    have k2 : IntKind.i64.wrap (2 * (p + 1)) = 2 * (p + 1) := wrap_id _ (by omega) (by omega)
    have k7 : IntKind.i64.wrap (x - u) = x - u := wrap_id _ (by omega) (by omega)
    have k8 : IntKind.i64.wrap (u - x) = u - x := wrap_id _ (by omega) (by omega)
    have k9 : (if x - u < u - x then u - x else x - u) = apN x u := by unfold apN; split <;> omega
    obtain ⟨bk, hbk⟩ : ∃ bk, 2 * (p + 1) - (y + v) = bk := ⟨_, rfl⟩
    have k3 : IntKind.i64.wrap (2 * (p + 1) - (y + v)) = bk := by rw [wrap_id _ (by omega) (by omega)]; exact hbk
    rw [hbk]
    obtain ⟨fr, hfr⟩ : ∃ fr, y + v = fr := ⟨_, rfl⟩
    rw [hfr] at k1 k3 ⊢
    have k4 : (if bk < fr then bk else fr) = min fr bk := by split <;> omega
    obtain ⟨mn, hmn⟩ : ∃ mn, min fr bk = mn := ⟨_, rfl⟩
    rw [hmn] at k4 ⊢
    have hmb : 0 ≤ mn ∧ mn ≤ 202 := by omega
    clear hmn
    generalize apN x u = m at *
    obtain ⟨gm, hgm⟩ : ∃ gm, g * m = gm := ⟨_, rfl⟩
    have k5 : IntKind.i64.wrap (g * m) = gm := by rw [hgm]; exact wrap_id _ (by omega) (by omega)
    rw [hgm] at f3 ⊢
    have k6 : IntKind.i64.wrap (gm + mn) = gm + mn := wrap_id _ (by omega) (by omega)
    have k1' : IntKind.i64.wrap (y + v) = fr := by rw [hfr]; exact k1
    clear hxu e0 hh hr hs h1 h2 h3 r1 r2 s1 s2 hbk hfr hgm f1 f2 f3 hmb k1
    go_enter Try.func42, Try.ntmps42
    go_wp2
    go_ret
    exact ⟨rfl, chain (chain (below_alloc _ _) (below_alloc _ _)) (below_alloc _ _)⟩
def btC (a p g x y u v : Int) : Int := if (hlB a p g && spB a p ⟨x, y⟩ && spB a p ⟨u, v⟩) = true then 0 else 1
def btV (a p g x y u v : Int) : Int := if (hlB a p g && spB a p ⟨x, y⟩ && spB a p ⟨u, v⟩) = true then farN p g ⟨x, y⟩ ⟨u, v⟩ else 0
theorem bt_ways (a p g x y u v : Int) : (hlB a p g = true ∧ spB a p ⟨x, y⟩ = true ∧ spB a p ⟨u, v⟩ = true ∧ btC a p g x y u v = 0 ∧ btV a p g x y u v = farN p g ⟨x, y⟩ ⟨u, v⟩) ∨ ((hlB a p g && spB a p ⟨x, y⟩ && spB a p ⟨u, v⟩) = false ∧ btC a p g x y u v = 1 ∧ btV a p g x y u v = 0) := by
  cases h : (hlB a p g && spB a p ⟨x, y⟩ && spB a p ⟨u, v⟩)
  · exact .inr ⟨rfl, by unfold btC; rw [h]; rfl, by unfold btV; rw [h]; rfl⟩
  · have h' := h
    simp only [Bool.and_eq_true] at h'
    exact .inl ⟨h'.1.1, h'.1.2, h'.2, by unfold btC; rw [h]; rfl, by unfold btV; rw [h]; rfl⟩
set_option maxHeartbeats 4000000 in
theorem impBetween_any (a p g x y u v : Int) (w : World) :
    Calls Try.prog 11 #[.agg #[.int .i64 a, .int .i64 p, .int .i64 g], .agg #[.int .i64 x, .int .i64 y], .agg #[.int .i64 u, .int .i64 v]] w fun e w' => e = .returned (.tuple #[.int .i64 (btV a p g x y u v), .int .i64 (btC a p g x y u v)]) ∧ Below w.heap.size w w' := by
  obtain ⟨W1, hW1⟩ : ∃ W1, W1 = ((w.alloc (Obj.cells #[.int .i64 a, .int .i64 p, .int .i64 g] 24)).alloc (Obj.cells #[.int .i64 x, .int .i64 y] 35)).alloc (Obj.cells #[.int .i64 u, .int .i64 v] 35) := ⟨_, rfl⟩
  have HE : Hid (W1 = ((w.alloc (Obj.cells #[.int .i64 a, .int .i64 p, .int .i64 g] 24)).alloc (Obj.cells #[.int .i64 x, .int .i64 y] 35)).alloc (Obj.cells #[.int .i64 u, .int .i64 v] 35)) := hW1
  have HL : Hid (Below w.heap.size w W1) := by rw [hW1]; exact chain (chain (below_alloc _ _) (below_alloc _ _)) (below_alloc _ _)
  have hz1 : W1.heap.size = w.heap.size + 3 := by rw [hW1]; simp only [World.size_alloc]
  have HZ : Hid (W1.heap.size = w.heap.size + 3) := hz1
  have HQ : Hid (∀ W, Below W1.heap.size W1 W → Box3 W w.heap.size a p g x y u v) := fun W hb => by
    have hn := Box3.new w a p g x y u v
    rw [← hW1] at hn
    exact hn.below hb (by omega)
  have HW : Hid (∀ W, W = W1.alloc (Obj.cells #[.int .i64 x, .int .i64 y, .int .i64 u, .int .i64 v] 35) → Calls Try.prog 44 #[.agg #[.int .i64 a, .int .i64 p, .int .i64 g], .slice (some ⟨w.heap.size + 3, 0, none⟩) 2 2] W fun e w' => e = .returned (.bool (hlB a p g && spB a p ⟨x, y⟩ && spB a p ⟨u, v⟩)) ∧ Below W1.heap.size W1 w') := fun W hW => by
    have hr : ReadsPt W.heap.size W (some ⟨w.heap.size + 3, 0, none⟩) [⟨x, y⟩, ⟨u, v⟩] := by
      refine .inr ⟨w.heap.size + 3, 0, rfl, by rw [hW]; simp only [World.size_alloc]; omega, fun i hi => ?_⟩
      subst hW
      match i, hi with
      | 0, _ => exact ⟨cellNew _ _ _ _ hz1.symm rfl, cellNew _ _ _ _ hz1.symm rfl⟩
      | 1, _ => exact ⟨cellNew _ _ _ _ hz1.symm rfl, cellNew _ _ _ _ hz1.symm rfl⟩
    refine (impWith_any a p g (some ⟨w.heap.size + 3, 0, none⟩) 2 [⟨x, y⟩, ⟨u, v⟩] (by simp) W hr).mono ?_
    rintro e w' ⟨rfl, hb⟩
    refine ⟨ret_bool (by simp [spsB, Bool.and_assoc]), ?_⟩
    rw [hW] at hb
    exact chain (below_alloc _ _) hb
  clear hW1 hz1
  rcases bt_ways a p g x y u v with ⟨t1, t2, t3, e1, e2⟩ | ⟨t1, e1, e2⟩
  · rw [e1, e2]
    have HF : Hid (∀ W, Calls Try.prog 40 #[.agg #[.int .i64 a, .int .i64 p, .int .i64 g], .agg #[.int .i64 x, .int .i64 y], .agg #[.int .i64 u, .int .i64 v]] W fun e w' => e = .returned (.int .i64 (farN p g ⟨x, y⟩ ⟨u, v⟩)) ∧ Below W.heap.size W w') := fun W => impFar_any a p g x y u v t1 t2 t3 W
    have hb1 : (hlB a p g && spB a p ⟨x, y⟩ && spB a p ⟨u, v⟩) = true := by rw [t1, t2, t3]; rfl
    clear e1 e2 t1 t2 t3
    generalize farN p g ⟨x, y⟩ ⟨u, v⟩ = fa at *
    have HW2 : Hid (∀ W, W = W1.alloc (Obj.cells #[.int .i64 x, .int .i64 y, .int .i64 u, .int .i64 v] 35) → Calls Try.prog 44 #[.agg #[.int .i64 a, .int .i64 p, .int .i64 g], .slice (some ⟨w.heap.size + 3, 0, none⟩) 2 2] W fun e w' => e = .returned (.bool true) ∧ Below W1.heap.size W1 w') := fun W hW => by
      have := HW.out W hW
      rwa [hb1] at this
    clear HW hb1
    go_enter Try.func11, Try.ntmps11
    go_wp2_with fail
    (first | go_at_call 44 | skip)
    rw [← HE.out]
    refine (HW2.out _ rfl).mono ?_
    rintro e w2 ⟨rfl, hb2⟩
    obtain ⟨q0, q1, q2, q3, q4, q5, q6⟩ := HQ.out w2 hb2
    go_wp2_with fail
    (first | go_at_call 40 | skip)
    refine (HF.out _).mono ?_
    rintro e w3 ⟨rfl, hb3⟩
    go_wp2
    go_ret2
    exact ⟨rfl, chain HL.out (chain hb2 hb3)⟩
  · rw [e1, e2]
    have HW2 : Hid (∀ W, W = W1.alloc (Obj.cells #[.int .i64 x, .int .i64 y, .int .i64 u, .int .i64 v] 35) → Calls Try.prog 44 #[.agg #[.int .i64 a, .int .i64 p, .int .i64 g], .slice (some ⟨w.heap.size + 3, 0, none⟩) 2 2] W fun e w' => e = .returned (.bool false) ∧ Below W1.heap.size W1 w') := fun W hW => by
      have := HW.out W hW
      rwa [t1] at this
    clear e1 e2 t1 HW
    go_enter Try.func11, Try.ntmps11
    go_wp2_with fail
    (first | go_at_call 44 | skip)
    rw [← HE.out]
    refine (HW2.out _ rfl).mono ?_
    rintro e w2 ⟨rfl, hb2⟩
    go_wp2
    go_ret2
    exact ⟨rfl, chain HL.out hb2⟩
end Go.Proofs.Ythmhpgbkapjjkaa

/-
  Contract of the specification's Seasons, for all arguments.
-/
import Derived.Test.YtjdjopikljdigaaQnE
import Derived.Test.YtjdjopikljdigaaQoB
namespace Go.Proofs.Ytjdjopikljdigaa
open Go.ChangeShapes Go.WideShapes Go.ChangeAt Go.RowKit Go.Joins Go.Deep
set_option linter.unusedVariables false

/-- Two rows of n numbers, in blocks of their own, since w. -/
structure SqS (w : World) (B1 B2 n : Nat) (f g : Nat → Int) (W : World) : Prop where
  r1 : RwQ W B1 n f
  r2 : RwQ W B2 n g
  bel : Below w.heap.size w W
  b1 : w.heap.size ≤ B1
  b2 : w.heap.size ≤ B2
  ne : B1 ≠ B2
theorem SqS.later {w W W' : World} {B1 B2 n : Nat} {f g : Nat → Int} (h : SqS w B1 B2 n f g W) (hb : Below W.heap.size W W') : SqS w B1 B2 n f g W' := ⟨World.rowIs.of_block h.r1 (hb.block B1 h.r1.lt), World.rowIs.of_block h.r2 (hb.block B2 h.r2.lt), chain h.bel hb, h.b1, h.b2, h.ne⟩
theorem rwq_put {W : World} {b n : Nat} {f f' : Nat → Int} (h : RwQ W b n f) (i : Nat) (x : Int) (e : ∀ j, j < n → (if j = i then x else f j) = f' j) : RwQ (W.setCell ⟨b, i, none⟩ (.int .i64 x)) b n f' := by
  refine World.rowIs.congr (World.rowIs.set h i (.int .i64 x)) (fun j hj => ?_)
  rw [← e j hj]
  split <;> rfl
theorem SqS.put1 {w W : World} {B1 B2 n : Nat} {f g f' : Nat → Int} (h : SqS w B1 B2 n f g W) (i : Nat) (x : Int) (e : ∀ j, j < n → (if j = i then x else f j) = f' j) : SqS w B1 B2 n f' g (W.setCell ⟨B1, i, none⟩ (.int .i64 x)) :=
  ⟨rwq_put h.r1 i x e, World.rowIs.of_block h.r2 (Below.heap_setCell _ _ _ _ (Ne.symm h.ne)), h.bel.setCell h.b1 _, h.b1, h.b2, h.ne⟩
theorem SqS.put2 {w W : World} {B1 B2 n : Nat} {f g g' : Nat → Int} (h : SqS w B1 B2 n f g W) (i : Nat) (x : Int) (e : ∀ j, j < n → (if j = i then x else g j) = g' j) : SqS w B1 B2 n f g' (W.setCell ⟨B2, i, none⟩ (.int .i64 x)) :=
  ⟨World.rowIs.of_block h.r1 (Below.heap_setCell _ _ _ _ h.ne), rwq_put h.r2 i x e, h.bel.setCell h.b2 _, h.b1, h.b2, h.ne⟩
theorem SqS.made (w : World) (n : Nat) : SqS w w.heap.size (w.heap.size + 1) n (fun _ => 0) (fun _ => 0) ((w.alloc (Obj.cells (madeCells #[.int .i64 0] n) 3)).alloc (Obj.cells (madeCells #[.int .i64 0] n) 3)) := by
  refine ⟨World.rowIs.of_block (World.rowIs_made w (.int .i64 0) n 3) (Below.heap_alloc _ _ _ (by simp)), ?_, chain (below_alloc _ _) (below_alloc _ _), Nat.le_refl _, Nat.le_succ _, by omega⟩
  have := World.rowIs_made (w.alloc (Obj.cells (madeCells #[.int .i64 0] n) 3)) (.int .i64 0) n 3
  rwa [World.size_alloc] at this
theorem AnsR.empty {w W : World} {c : Int} (hb : Below w.heap.size w W) : AnsR w [] c (.returned (.tuple #[.slice (some ⟨W.heap.size, 0, none⟩) 0 0, .int .i64 c])) (W.alloc (Obj.cells #[] 36)) :=
  ⟨some ⟨W.heap.size, 0, none⟩, 0, rfl, ⟨rfl, .inr ⟨W.heap.size, 0, #[], rfl, hb.size, heapNew _ _, Nat.le_refl _, by unfold maxLen; omega, rfl, rfl⟩⟩, chain hb (below_alloc _ _)⟩
theorem specSeasons_bad (a : Option Addr) (cap : Nat) (xs : List Int) (n : Int) (hl : xs.length ≤ 100000000) (w : World) (hr : Reads w.heap.size w a xs) (h : 4096 < xs.length ∨ seB xs n = false ∨ (xs.length : Int) < n) :
    Calls Try.prog 24 #[.slice a xs.length cap, .int .i64 n] w (AnsR w [] (seC xs n)) := by
  have HS : Hid (Calls Try.prog 44 #[.slice a xs.length cap] w fun e w' => e = .returned (.bool (alB 0 100000 xs)) ∧ w = w') := l16Sales_any a cap xs hl w hr
  have HP : Hid (∀ W, Calls Try.prog 45 #[.int .i64 n, .int .i64 1, .int .i64 60] W fun e w' => e = .returned (.bool (inB n 1 60)) ∧ W = w') := fun W => (in_any _ _ _ W).mono (fun e w' h => ⟨h.1, h.2.symm⟩)
  have HE : Hid (seC xs n = if 4096 < xs.length then 2 else if (alB 0 100000 xs && inB n 1 60) = true then (if (xs.length : Int) < n then 19 else if smP xs 1 0 xs.length = 0 then 10 else 0) else 1) := rfl
  have HH : Hid (4096 < xs.length ∨ (alB 0 100000 xs && inB n 1 60) = false ∨ (xs.length : Int) < n) := h
  clear hr h
  generalize seC xs n = c at *
  by_cases h1 : 4096 < xs.length
  · rw [if_pos h1] at HE
    obtain rfl : c = 2 := HE.out
    have h1' : (4096 : Int) < (xs.length : Int) := by omega
    clear HE HH
    go_enter Try.func24, Try.ntmps24
    go_wp2
    go_ret2
    exact AnsR.empty (Below.refl _ _)
  have h1' : ¬ (4096 : Int) < (xs.length : Int) := by omega
  rw [if_neg h1] at HE
  generalize alB 0 100000 xs = b1 at *
  generalize inB n 1 60 = b2 at *
  cases b1
  · obtain rfl : c = 1 := HE.out
    clear HE HH
    go_enter Try.func24, Try.ntmps24
    go_wp2_with (go_at_call 44; refine HS.out.mono ?_; rintro e w1 ⟨rfl, rfl⟩)
    go_ret2
    exact AnsR.empty (Below.refl _ _)
  · rw [Bool.true_and] at HE HH
    cases b2
    · obtain rfl : c = 1 := HE.out
      clear HE HH
      go_enter Try.func24, Try.ntmps24
      go_wp2_with (first | (go_at_call 44; refine HS.out.mono ?_; rintro e w1 ⟨rfl, rfl⟩) | (go_at_call 45; refine (HP.out _).mono ?_; rintro e w2 ⟨rfl, rfl⟩))
      go_ret2
      exact AnsR.empty (Below.refl _ _)
    · have hs : (xs.length : Int) < n := by
        rcases HH.out with h | h | h
        · exact absurd h h1
        · cases h
        · exact h
      rw [if_pos rfl, if_pos hs] at HE
      obtain rfl : c = 19 := HE.out
      clear HE HH
      go_enter Try.func24, Try.ntmps24
      go_wp2_with (first | (go_at_call 44; refine HS.out.mono ?_; rintro e w1 ⟨rfl, rfl⟩) | (go_at_call 45; refine (HP.out _).mono ?_; rintro e w2 ⟨rfl, rfl⟩))
      go_ret2
      exact AnsR.empty (Below.refl _ _)
set_option maxHeartbeats 16000000 in
set_option maxRecDepth 8000 in
theorem specSeasons_right (a : Option Addr) (cap : Nat) (xs : List Int) (n : Nat) (hl : xs.length ≤ 4096) (hb : seB xs (n : Int) = true) (hnl : n ≤ xs.length) (L : List (Int × Int)) (c : Int) (hz : smP xs 1 0 xs.length = 0 → L = [] ∧ c = 10) (hnz : smP xs 1 0 xs.length ≠ 0 → L = seRs xs n n ∧ c = 0) (w : World) (hr : Reads w.heap.size w a xs) :
    Calls Try.prog 24 #[.slice a xs.length cap, .int .i64 (n : Int)] w (AnsR w L c) := by
  have HZ : Hid (smP xs 1 0 xs.length = 0 → L = [] ∧ c = 10) := hz
  have HNZ : Hid (smP xs 1 0 xs.length ≠ 0 → L = seRs xs n n ∧ c = 0) := hnz
  obtain ⟨hal, hn1, hn2⟩ := se_right hb
  have hx : ∀ i, 0 ≤ xs.getD i 0 ∧ xs.getD i 0 ≤ 100000 := fun i => al_getD hal (by omega) i
  have HX : Hid (∀ i, 0 ≤ xs.getD i 0 ∧ xs.getD i 0 ≤ 100000) := hx
  have HS : Hid (Calls Try.prog 44 #[.slice a xs.length cap] w fun e w' => e = .returned (.bool (alB 0 100000 xs)) ∧ w = w') := l16Sales_any a cap xs (by omega) w hr
  have HP : Hid (∀ W, Calls Try.prog 45 #[.int .i64 (n : Int), .int .i64 1, .int .i64 60] W fun e w' => e = .returned (.bool (inB (n : Int) 1 60)) ∧ W = w') := fun W => (in_any _ _ _ W).mono (fun e w' h => ⟨h.1, h.2.symm⟩)
  rw [hal] at HS
  rw [show inB (n : Int) 1 60 = true from decide_eq_true ⟨hn1, hn2⟩] at HP
  rcases hr with h | ⟨b, off, rfl, hbw, hi⟩
  · rw [h] at hnl; simp at hnl; omega
  have HC : Hid (∀ W, Below w.heap.size w W → ∀ j, j < xs.length → W.cell? ⟨b, off + j, none⟩ = some (.int .i64 (xs.getD j 0))) := fun W hW j hj => (hW.cell (p := ⟨b, off + j, none⟩) hbw).trans (hi j hj)
  have hl' : ¬ (4096 : Int) < (xs.length : Int) := by omega
  have hnl' : ¬ (xs.length : Int) < (n : Int) := by omega
  have hmk := fun w => run_make_row' (P := Try.prog) 23 3 (.int .i64 0) 8 Try.underlying23 intInfo rfl .i64 .i64 n (by omega) (by omega) w
  have HBd : Hid (∀ k j, j ≤ xs.length → (0 ≤ smP xs n k j ∧ smP xs n k j ≤ 409600000) ∧ (0 ≤ ctP n k j ∧ ctP n k j ≤ 4096)) := fun k j hj => by
    have a1 := smP_bound (n := n) (k := k) hx j
    have a2 := ctP_bound (n := n) (k := k) j
    exact ⟨⟨a1.1, by omega⟩, a2.1, by omega⟩
  have HBa : Hid (∀ j, j ≤ xs.length → 0 ≤ smP xs 1 0 j ∧ smP xs 1 0 j ≤ 409600000) := fun j hj => by
    have a1 := smP_bound (n := 1) (k := 0) hx j
    exact ⟨a1.1, by omega⟩
  have H0 : Hid (SqS w w.heap.size (w.heap.size + 1) n (fun k => smP xs n k 0) (fun k => ctP n k 0) ((w.alloc (Obj.cells (madeCells #[.int .i64 0] n) 3)).alloc (Obj.cells (madeCells #[.int .i64 0] n) 3))) := SqS.made w n
  clear hi hal hb hz hnz hx
  obtain ⟨B, hB⟩ : ∃ B, B = w.heap.size := ⟨_, rfl⟩
  have HBB : Hid (B = w.heap.size) := hB
  clear hB
  go_enter Try.func24, Try.ntmps24
  go_wp2_with (go_at_call 44; refine HS.out.mono ?_; rintro e w1 ⟨rfl, rfl⟩)
  (first | go_at_call 45 | skip)
  refine (HP.out _).mono ?_
  rintro e w2 ⟨rfl, rfl⟩
  clear HS HP
  go_upto_region 11 with fail
  rw [← HBB.out] at H0 ⊢
  clear hmk
  generalize ((w.alloc (Obj.cells (madeCells #[.int .i64 0] n) 3)).alloc (Obj.cells (madeCells #[.int .i64 0] n) 3)) = W1 at *
  go_loopw [6, 9] (fun s i wr => ∃ j : Nat, j ≤ xs.length ∧ i = .int .i64 (j : Int) ∧ s = .int .i64 (smP xs 1 0 j) ∧ SqS w B (B + 1) n (fun k => smP xs n k j) (fun k => ctP n k j) wr) (fun _ i _ => xs.length - (intOf i).toNat)
  case atStart => exact ⟨0, Nat.zero_le _, rfl, rfl, H0.out⟩
  case round =>
    clear H0
    obtain ⟨j, hj, rfl, rfl, hst⟩ := hrel
    obtain ⟨wj, hwj⟩ : ∃ wj, wj = wr := ⟨_, rfl⟩
    rw [← hwj] at hst ⊢
    clear hwj
    have HS : Hid (SqS w B (B + 1) n (fun k => smP xs n k j) (fun k => ctP n k j) wj) := hst
    clear hst
    by_cases hlt : j < xs.length
    · have hlt' : (j : Int) < (xs.length : Int) := by omega
      have hx := HX.out j
      have hba := HBa.out j hj
      have c0 := HC.out wj HS.out.bel j hlt
      have HN1 : Hid (smP xs 1 0 (j + 1) = smP xs 1 0 j + xs.getD j 0) := smP_one xs j
      have e1 : IntKind.i64.wrap (smP xs 1 0 j + xs.getD j 0) = smP xs 1 0 j + xs.getD j 0 := wrap_id _ (by omega) (by omega)
      have hm := tmod_nat j n
      have hml : j % n < n := Nat.mod_lt _ (by omega)
      have hbd := HBd.out (j % n) j hj
      have HPut : Hid (∀ W, Below wj.heap.size wj W → (W.cell? ⟨B, j % n, none⟩ = some (.int .i64 (smP xs n (j % n) j)) ∧ W.frozen? ⟨B, j % n, none⟩ = false) ∧ W.cell? ⟨b, off + j, none⟩ = some (.int .i64 (xs.getD j 0)) ∧ SqS w B (B + 1) n (fun k => smP xs n k (j + 1)) (fun k => ctP n k j) (W.setCell ⟨B, j % n, none⟩ (.int .i64 (smP xs n (j % n) j + xs.getD j 0)))) := fun W hW => by
        have h1 := HS.out.later hW
        refine ⟨⟨h1.r1.cell (i := j % n) hml, h1.r1.frozen _⟩, HC.out W h1.bel j hlt, h1.put1 _ _ (fun k hk => ?_)⟩
        by_cases e : k = j % n
        · rw [if_pos e, smP, if_pos e.symm, e]
        · rw [if_neg e, smP, if_neg (fun q => e q.symm)]; omega
      have HPut2 : Hid (∀ W, SqS w B (B + 1) n (fun k => smP xs n k (j + 1)) (fun k => ctP n k j) W → (W.cell? ⟨B + 1, j % n, none⟩ = some (.int .i64 (ctP n (j % n) j)) ∧ W.frozen? ⟨B + 1, j % n, none⟩ = false) ∧ SqS w B (B + 1) n (fun k => smP xs n k (j + 1)) (fun k => ctP n k (j + 1)) (W.setCell ⟨B + 1, j % n, none⟩ (.int .i64 (ctP n (j % n) j + 1)))) := fun W h1 => by
        refine ⟨⟨h1.r2.cell (i := j % n) hml, h1.r2.frozen _⟩, h1.put2 _ _ (fun k hk => ?_)⟩
        by_cases e : k = j % n
        · rw [if_pos e, ctP, if_pos e.symm, e]
        · rw [if_neg e, ctP, if_neg (fun q => e q.symm)]; omega
      clear HS
      generalize smP xs n (j % n) j = sm at *
      generalize ctP n (j % n) j = ct at *
      generalize smP xs 1 0 j = sa at *
      generalize xs.getD j 0 = x at *
      generalize j % n = m at *
      have hml' : (m : Int) < (n : Int) := by omega
      have hn0 : ¬ n = 0 := by omega
      have hn0' : ¬ (n : Int) = 0 := by omega
      have hn3 : ((n : Int) == 0) = false := by simp; omega
      have ew : IntKind.i64.wrap (m : Int) = (m : Int) := wrap_id _ (by omega) (by omega)
      have e2 : IntKind.i64.wrap (sm + x) = sm + x := wrap_id _ (by omega) (by omega)
      have e3 : IntKind.i64.wrap (ct + 1) = ct + 1 := wrap_id _ (by omega) (by omega)
      go_upto_region 14 with fail
      clear c0 e1
      refine wp_region_z (S := fun W' => Below wj.heap.size wj W') 12 (by kernel_rfl) (below_drew _) (fun hH => ?_)
      refine wpAnyZ_take (i := 0) (v := .slice (some ⟨B, 0, none⟩) n n) rfl (by kernel_rfl) (by kernel_rfl) (by kernel_rfl) (by kernel_rfl) (fun _ _ _ h => h) (Or.inl ⟨by rfl, fun w hSw => by clear hSw; go_simp⟩) hH ?_
      refine wpAnyZ_take (i := 1) (v := .int .i64 (j : Int)) rfl (by kernel_rfl) (by kernel_rfl) (by kernel_rfl) (by kernel_rfl) (fun _ _ _ h => h) (Or.inl ⟨by rfl, fun w hSw => by clear hSw; go_simp⟩) hH ?_
      try simp only [Act.put, List.setIfInBounds_toArray, List.set_cons_zero, List.set_cons_succ, List.getElem_toArray, List.getElem_cons_succ, List.getElem_cons_zero]
      refine wpAnyZ_take (i := 2) (v := .int .i64 (n : Int)) rfl (by kernel_rfl) (by kernel_rfl) (by kernel_rfl) (by kernel_rfl) (fun _ _ _ h => h) (Or.inl ⟨by rfl, fun w hSw => by clear hSw; go_simp⟩) hH ?_
      try simp only [Act.put, List.setIfInBounds_toArray, List.set_cons_zero, List.set_cons_succ, List.getElem_toArray, List.getElem_cons_succ, List.getElem_cons_zero]
      refine wpAnyZ_take (i := 3) (v := .int .i64 (m : Int)) rfl (by kernel_rfl) (by kernel_rfl) (by kernel_rfl) (by kernel_rfl) (fun _ _ _ h => h) (Or.inl ⟨by rfl, fun w hSw => by clear hSw; go_simp⟩) hH ?_
      try simp only [Act.put, List.setIfInBounds_toArray, List.set_cons_zero, List.set_cons_succ, List.getElem_toArray, List.getElem_cons_succ, List.getElem_cons_zero]
      refine wpAnyZ_take (i := 4) (v := .pointer (some ⟨B, m, none⟩)) rfl (by kernel_rfl) (by kernel_rfl) (by kernel_rfl) (by kernel_rfl) (fun _ _ _ h => h) (Or.inl ⟨by rfl, fun w hSw => by clear hSw; go_simp⟩) hH ?_
      try simp only [Act.put, List.setIfInBounds_toArray, List.set_cons_zero, List.set_cons_succ, List.getElem_toArray, List.getElem_cons_succ, List.getElem_cons_zero]
      refine wpAnyZ_take (i := 5) (v := .int .i64 sm) rfl (by kernel_rfl) (by kernel_rfl) (by kernel_rfl) (by kernel_rfl) (fun _ _ _ h => h) (Or.inl ⟨by rfl, fun w hSw => by have f0 := (HPut.out w hSw).1.1; clear hSw; go_simp⟩) hH ?_
      try simp only [Act.put, List.setIfInBounds_toArray, List.set_cons_zero, List.set_cons_succ, List.getElem_toArray, List.getElem_cons_succ, List.getElem_cons_zero]
      refine wpAnyZ_take (i := 6) (v := .slice (some ⟨b, off, none⟩) xs.length cap) rfl (by kernel_rfl) (by kernel_rfl) (by kernel_rfl) (by kernel_rfl) (fun _ _ _ h => h) (Or.inl ⟨by rfl, fun w hSw => by clear hSw; go_simp⟩) hH ?_
      try simp only [Act.put, List.setIfInBounds_toArray, List.set_cons_zero, List.set_cons_succ, List.getElem_toArray, List.getElem_cons_succ, List.getElem_cons_zero]
      refine wpAnyZ_take (i := 7) (v := .int .i64 (j : Int)) rfl (by kernel_rfl) (by kernel_rfl) (by kernel_rfl) (by kernel_rfl) (fun _ _ _ h => h) (Or.inl ⟨by rfl, fun w hSw => by clear hSw; go_simp⟩) hH ?_
      try simp only [Act.put, List.setIfInBounds_toArray, List.set_cons_zero, List.set_cons_succ, List.getElem_toArray, List.getElem_cons_succ, List.getElem_cons_zero]
      refine wpAnyZ_take (i := 8) (v := .pointer (some ⟨b, off + j, none⟩)) rfl (by kernel_rfl) (by kernel_rfl) (by kernel_rfl) (by kernel_rfl) (fun _ _ _ h => h) (Or.inl ⟨by rfl, fun w hSw => by clear hSw; go_simp⟩) hH ?_
      try simp only [Act.put, List.setIfInBounds_toArray, List.set_cons_zero, List.set_cons_succ, List.getElem_toArray, List.getElem_cons_succ, List.getElem_cons_zero]
      refine wpAnyZ_take (i := 9) (v := .int .i64 x) rfl (by kernel_rfl) (by kernel_rfl) (by kernel_rfl) (by kernel_rfl) (fun _ _ _ h => h) (Or.inl ⟨by rfl, fun w hSw => by have f0 := (HPut.out w hSw).2.1; clear hSw; go_simp⟩) hH ?_
      try simp only [Act.put, List.setIfInBounds_toArray, List.set_cons_zero, List.set_cons_succ, List.getElem_toArray, List.getElem_cons_succ, List.getElem_cons_zero]
      refine wpAnyZ_take (i := 10) (v := .int .i64 (sm + x)) rfl (by kernel_rfl) (by kernel_rfl) (by kernel_rfl) (by kernel_rfl) (fun _ _ _ h => h) (Or.inl ⟨by rfl, fun w hSw => by clear hSw; go_simp⟩) hH ?_
      try simp only [Act.put, List.setIfInBounds_toArray, List.set_cons_zero, List.set_cons_succ, List.getElem_toArray, List.getElem_cons_succ, List.getElem_cons_zero]
      refine wpAnyZ_take (i := 11) (v := .pointer (some ⟨B, m, none⟩)) rfl (by kernel_rfl) (by kernel_rfl) (by kernel_rfl) (by kernel_rfl) (fun _ _ _ h => h) (Or.inl ⟨by rfl, fun w hSw => by clear hSw; go_simp⟩) hH ?_
      try simp only [Act.put, List.setIfInBounds_toArray, List.set_cons_zero, List.set_cons_succ, List.getElem_toArray, List.getElem_cons_succ, List.getElem_cons_zero]
      refine wpAnyZ_ready (rs := [12]) (by kernel_rfl) (by simp) ?_
      refine AllReadyZ.cons rfl (fun K hK => ?_) AllReadyZ.nil
      have y0 := (HPut.out _ hH).1.1
      have y1 := (HPut.out _ hH).1.2
      have HS2 : Hid (SqS w B (B + 1) n (fun k => smP xs n k (j + 1)) (fun k => ctP n k j) (wj.drew.setCell ⟨B, m, none⟩ (.int .i64 (sm + x)))) := (HPut.out _ hH).2.2
      clear HPut hH
      go_simp
      refine hK.out _ _ (Or.inl rfl) (fun _ => ?_)
      clear hK K
      try simp only [Act.put, List.setIfInBounds_toArray, List.set_cons_zero, List.set_cons_succ, List.getElem_toArray, List.getElem_cons_succ, List.getElem_cons_zero]
      refine wpAnyZ_done (by kernel_rfl) ?_ _
      clear y0 y1
      rw [show wj.drew.setCell ⟨B, m, none⟩ (.int .i64 (sm + x)) = (wj.setCell ⟨B, m, none⟩ (.int .i64 (sm + x))).drew from by first | rfl | simp] at HS2
      generalize (wj.setCell ⟨B, m, none⟩ (.int .i64 (sm + x))).drew = wz at *
      obtain ⟨⟨y0, y1⟩, hz2⟩ := HPut2.out wz HS2.out
      have HS3 : Hid (SqS w B (B + 1) n (fun k => smP xs n k (j + 1)) (fun k => ctP n k (j + 1)) (wz.setCell ⟨B + 1, m, none⟩ (.int .i64 (ct + 1)))) := hz2
      clear hz2 HPut2 HS2
      go_wp2_with fail
      clear y0 y1
      generalize wz.setCell ⟨B + 1, m, none⟩ (.int .i64 (ct + 1)) = wy at *
      go_roundw
      case rel => exact ⟨j + 1, by omega, by go_num, by rw [HN1.out], HS3.out⟩
      case measure => simp [intOf]; omega
    · have hlt' : ¬ (j : Int) < (xs.length : Int) := by omega
      obtain rfl : j = xs.length := by omega
      have hba := HBa.out xs.length (Nat.le_refl _)
      by_cases hz : smP xs 1 0 xs.length = 0
      · obtain ⟨rfl, rfl⟩ := HZ.out hz
        rw [hz]
        have hb := HS.out.bel
        clear HS HBd HBa HZ HNZ hba hz
        go_wp2
        go_ret2
        exact AnsR.empty hb
      have HLL : Hid (L = seRs xs n n ∧ c = 0) := HNZ.out hz
      have hz' : (smP xs 1 0 xs.length == 0) = false := by simp [hz]
      have HSR : Hid (∀ k, k < n → ∃ x y g q1 q2 : Nat, x ≤ 1000000000000000 ∧ y ≤ 1000000000000000 ∧ (0 < g ∧ g = Nat.gcd x y) ∧ smP xs n k xs.length * (xs.length : Int) = (x : Int) ∧ ctP n k xs.length * smP xs 1 0 xs.length = (y : Int) ∧ ((x : Int).tdiv (g : Int) = (q1 : Int) ∧ (y : Int).tdiv (g : Int) = (q2 : Int)) ∧ (q1 ≤ x ∧ q2 ≤ y) ∧ seR xs n k = ((q1 : Int), (q2 : Int))) := fun k hk => by
        obtain ⟨⟨a1, a2⟩, a3, a4⟩ := HBd.out k xs.length (Nat.le_refl _)
        have a5 := ctP_pos hk hnl
        have m1 : 0 ≤ smP xs n k xs.length * (xs.length : Int) := Int.mul_nonneg a1 (by omega)
        have m2 : smP xs n k xs.length * (xs.length : Int) ≤ smP xs n k xs.length * 4096 := Int.mul_le_mul_of_nonneg_left (by omega) a1
        have m3 : 1 * smP xs 1 0 xs.length ≤ ctP n k xs.length * smP xs 1 0 xs.length := Int.mul_le_mul_of_nonneg_right a5 hba.1
        have m4 : ctP n k xs.length * smP xs 1 0 xs.length ≤ 4096 * smP xs 1 0 xs.length := Int.mul_le_mul_of_nonneg_right a4 hba.1
        refine ⟨(smP xs n k xs.length * (xs.length : Int)).toNat, (ctP n k xs.length * smP xs 1 0 xs.length).toNat, _, _, _, by omega, by omega, ⟨Nat.gcd_pos_of_pos_right _ (by omega), rfl⟩, by omega, by omega, ⟨tdiv_nat _ _, tdiv_nat _ _⟩, ⟨Nat.div_le_self _ _, Nat.div_le_self _ _⟩, rfl⟩
      have HRow : Hid (∀ W, Below wj.heap.size wj W → ∀ k, k < n → W.cell? ⟨B, k, none⟩ = some (.int .i64 (smP xs n k xs.length)) ∧ W.cell? ⟨B + 1, k, none⟩ = some (.int .i64 (ctP n k xs.length))) := fun W hW k hk => ⟨(HS.out.later hW).r1.cell (i := k) hk, (HS.out.later hW).r2.cell (i := k) hk⟩
      have HBl : Hid (Below w.heap.size w wj) := HS.out.bel
      have H1 : Hid ((wj.alloc (Obj.cells #[] 36)).ownsRow wj.heap.size 36 2 (.slice (some ⟨wj.heap.size, 0, none⟩) 0 0) 0 (raCells (seRs xs n 0)) ∧ Below wj.heap.size wj (wj.alloc (Obj.cells #[] 36))) := ⟨⟨rfl, .inr ⟨wj.heap.size, 0, #[], rfl, Nat.le_refl _, heapNew _ _, Nat.le_refl _, by unfold maxLen; omega, rfl, rfl⟩⟩, below_alloc _ _⟩
      obtain ⟨i0, hi0, hzz⟩ := Option.map_eq_some_iff.1 raInfo
      simp only [Prod.mk.injEq] at hzz
      obtain ⟨i1, i2, i3⟩ := hzz
      clear HS HBd HBa HZ HNZ hz
      obtain ⟨s, hs⟩ : ∃ s, s = smP xs 1 0 xs.length := ⟨_, rfl⟩
      rw [← hs] at hba hz' HSR ⊢
      clear hs
      go_upto_region 20 with fail
      obtain ⟨V, hV⟩ : ∃ V, V = wj.heap.size := ⟨_, rfl⟩
      have HV : Hid (V = wj.heap.size) := hV
      rw [← hV] at H1 ⊢
      clear hV
      generalize wj.alloc (Obj.cells #[] 36) = W2 at *
      go_loopw [10, 11, 12, 13, 14] (fun v i _ _ _ wr => ∃ (k : Nat) (g : Option Addr) (cp : Nat), k ≤ n ∧ i = .int .i64 (k : Int) ∧ v = .slice g k cp ∧ wr.ownsRow V 36 2 (.slice g k cp) k (raCells (seRs xs n k)) ∧ Below V wj wr) (fun _ i _ _ _ _ => n - (intOf i).toNat)
      case atStart => exact ⟨0, _, _, Nat.zero_le _, rfl, rfl, H1.out.1, H1.out.2⟩
      case round =>
        clear H1
        obtain ⟨k, g, cp, hk, rfl, rfl, hrow, hbl⟩ := hrel
        obtain ⟨wk, hwk⟩ : ∃ wk, wk = wr := ⟨_, rfl⟩
        rw [← hwk] at hrow hbl ⊢
        clear hwk
        have HRw : Hid (wk.ownsRow V 36 2 (.slice g k cp) k (raCells (seRs xs n k)) ∧ Below V wj wk) := ⟨hrow, hbl⟩
        clear hrow hbl
        by_cases hkn : k < n
        · have hkn' : (k : Int) < (n : Int) := by omega
          obtain ⟨d1, d2⟩ := HRow.out wk (by rw [← HV.out]; exact HRw.out.2) k hkn
          obtain ⟨x, y, gc, q1, q2, hx1, hy1, ⟨hg0, hgc⟩, ex, ey, ⟨t1, t2⟩, ⟨l1, l2⟩, hR⟩ := HSR.out k hkn
          have HNx : Hid (raCells (seRs xs n (k + 1)) = raCells (seRs xs n k) ++ [.int .i64 (q1 : Int), .int .i64 (q2 : Int)]) := by show _ = _; rw [seRs_next, raCells_append, hR]; rfl
          have HCm : Hid (∀ W, Calls Try.prog 47 #[.int .i64 (x : Int), .int .i64 (y : Int)] W fun e w' => e = .returned (.int .i64 (gc : Int)) ∧ W = w') := fun W => by rw [hgc]; exact common_any 0 x y hx1 hy1 W
          have e1 : IntKind.i64.wrap (smP xs n k xs.length * (xs.length : Int)) = (x : Int) := by rw [ex]; exact wrap_id _ (by omega) (by omega)
          have e2 : IntKind.i64.wrap (ctP n k xs.length * s) = (y : Int) := by rw [ey]; exact wrap_id _ (by omega) (by omega)
          clear hR hgc ex ey
          generalize smP xs n k xs.length = sm at *
          generalize ctP n k xs.length = ct at *
          generalize raCells (seRs xs n k) = cs at *
          have w1 : IntKind.i64.wrap (q1 : Int) = (q1 : Int) := wrap_id _ (by omega) (by omega)
          have w2 : IntKind.i64.wrap (q2 : Int) = (q2 : Int) := wrap_id _ (by omega) (by omega)
          have hgn : ¬ gc = 0 := by omega
          have hgi : ¬ (gc : Int) = 0 := by omega
          have hgb : ((gc : Int) == 0) = false := by simp; omega
          go_wp2_with (go_at_call 47; refine (HCm.out _).mono ?_; rintro e w4 ⟨rfl, rfl⟩)
          clear d1 d2 e1 e2 HCm
          refine wp_region_held_drew (S := fun W' => True) (by kernel_rfl) trivial (fun hH => ?_)
          refine wpAnyH_take (i := 0) (v := .slice g k cp) rfl (by kernel_rfl) (by kernel_rfl) (by kernel_rfl) (fun _ _ _ h => h) (Or.inl ⟨by rfl, fun w hSw => by go_simp⟩) hH ?_
          refine wpAnyH_take (i := 1) (v := .int .i64 (x : Int)) rfl (by kernel_rfl) (by kernel_rfl) (by kernel_rfl) (fun _ _ _ h => h) (Or.inl ⟨by rfl, fun w hSw => by go_simp⟩) hH ?_
          try simp only [Act.put, List.setIfInBounds_toArray, List.set_cons_zero, List.set_cons_succ, List.getElem_toArray, List.getElem_cons_succ, List.getElem_cons_zero]
          refine wpAnyH_take (i := 2) (v := .int .i64 (gc : Int)) rfl (by kernel_rfl) (by kernel_rfl) (by kernel_rfl) (fun _ _ _ h => h) (Or.inl ⟨by rfl, fun w hSw => by go_simp⟩) hH ?_
          try simp only [Act.put, List.setIfInBounds_toArray, List.set_cons_zero, List.set_cons_succ, List.getElem_toArray, List.getElem_cons_succ, List.getElem_cons_zero]
          refine wpAnyH_take (i := 3) (v := .int .i64 (q1 : Int)) rfl (by kernel_rfl) (by kernel_rfl) (by kernel_rfl) (fun _ _ _ h => h) (Or.inl ⟨by rfl, fun w hSw => by go_simp⟩) hH ?_
          try simp only [Act.put, List.setIfInBounds_toArray, List.set_cons_zero, List.set_cons_succ, List.getElem_toArray, List.getElem_cons_succ, List.getElem_cons_zero]
          refine wpAnyH_take (i := 4) (v := .int .i64 (y : Int)) rfl (by kernel_rfl) (by kernel_rfl) (by kernel_rfl) (fun _ _ _ h => h) (Or.inl ⟨by rfl, fun w hSw => by go_simp⟩) hH ?_
          try simp only [Act.put, List.setIfInBounds_toArray, List.set_cons_zero, List.set_cons_succ, List.getElem_toArray, List.getElem_cons_succ, List.getElem_cons_zero]
          refine wpAnyH_take (i := 5) (v := .int .i64 (gc : Int)) rfl (by kernel_rfl) (by kernel_rfl) (by kernel_rfl) (fun _ _ _ h => h) (Or.inl ⟨by rfl, fun w hSw => by go_simp⟩) hH ?_
          try simp only [Act.put, List.setIfInBounds_toArray, List.set_cons_zero, List.set_cons_succ, List.getElem_toArray, List.getElem_cons_succ, List.getElem_cons_zero]
          refine wpAnyH_take (i := 6) (v := .int .i64 (q2 : Int)) rfl (by kernel_rfl) (by kernel_rfl) (by kernel_rfl) (fun _ _ _ h => h) (Or.inl ⟨by rfl, fun w hSw => by go_simp⟩) hH ?_
          try simp only [Act.put, List.setIfInBounds_toArray, List.set_cons_zero, List.set_cons_succ, List.getElem_toArray, List.getElem_cons_succ, List.getElem_cons_zero]
          refine wpAnyH_take (i := 7) (v := .agg #[.int .i64 (q1 : Int), .int .i64 (q2 : Int)]) rfl (by kernel_rfl) (by kernel_rfl) (by kernel_rfl) (fun _ _ _ h => h) (Or.inl ⟨by rfl, fun w hSw => by go_simp⟩) hH ?_
          try simp only [Act.put, List.setIfInBounds_toArray, List.set_cons_zero, List.set_cons_succ, List.getElem_toArray, List.getElem_cons_succ, List.getElem_cons_zero]
          refine wpAnyH_ready (rs := [8]) (by kernel_rfl) (by simp) ?_
          refine AllReadyH.cons rfl (fun K hK => ?_) AllReadyH.nil
          go_simp
          refine hK.out _ _ trivial (fun _ => ?_)
          clear hK K
          try simp only [Act.put, List.setIfInBounds_toArray, List.set_cons_zero, List.set_cons_succ, List.getElem_toArray, List.getElem_cons_succ, List.getElem_cons_zero]
          have hbk : (wk.alloc (Obj.cells #[.int .i64 (q1 : Int), .int .i64 (q2 : Int)] 36)).drew.heap[wk.heap.size]? = some (.cells #[.int .i64 (q1 : Int), .int .i64 (q2 : Int)] 36 (0, 0)) := heapNew _ _
          have hnews : ∀ j u, [Value.int .i64 (q1 : Int), Value.int .i64 (q2 : Int)][j]? = some u → (wk.alloc (Obj.cells #[.int .i64 (q1 : Int), .int .i64 (q2 : Int)] 36)).drew.cell? ((⟨wk.heap.size, 0, none⟩ : Addr).add j) = some u := World.news_of_block hbk
          have hb8 : Below wk.heap.size wk (wk.alloc (Obj.cells #[.int .i64 (q1 : Int), .int .i64 (q2 : Int)] 36)).drew := (below_alloc _ _).drew
          obtain ⟨w8, hw8⟩ : ∃ w8, w8 = (wk.alloc (Obj.cells #[.int .i64 (q1 : Int), .int .i64 (q2 : Int)] 36)).drew := ⟨_, rfl⟩
          rw [← hw8] at hnews hb8 ⊢
          clear hw8 hbk
          have hrow8 : w8.ownsRow V 36 2 (.slice g k cp) k cs := row_of HRw.out.1 (fun q hq => hb8.block q (row_lt HRw.out.1 q hq).2)
          have hVk : V ≤ wk.heap.size := by have := HRw.out.2.size; have := HV.out; omega
          have hV8 : V ≤ w8.heap.size := Nat.le_trans hVk hb8.size
          have hbj8 : Below V wj w8 := HRw.out.2.trans (hb8.mono hVk)
          refine wpAnyH_ready (rs := [9]) (by kernel_rfl) (by simp) ?_
          refine AllReadyH.cons rfl (fun K hK => ?_) AllReadyH.nil
          refine step_append_lies w8 (by rfl) _ _ 31 (by rfl) V 36 i0 (.agg #[.int .i64 0, .int .i64 0]) 2 16 Try.underlying31 hi0 i1 i2 i3 rfl (by decide) (.slice g k cp) k cs (by rfl) hrow8 ⟨wk.heap.size, 0, none⟩ 1 1 [.int .i64 (q1 : Int), .int .i64 (q2 : Int)] (by rfl) (by rfl) hnews (by intro u hu; simp at hu; rcases hu with rfl | rfl <;> rfl) (by omega) (by unfold maxLen; omega) (by omega) hV8 _ rfl ?_
          intro g1 cp1 w9 hown9 hgrow9 hat9 hlt9
          have HEnd : Hid (w9.ownsRow V 36 2 (.slice (some ⟨g1, 0, none⟩) (k + 1) cp1) (k + 1) (raCells (seRs xs n (k + 1))) ∧ Below V wj w9) := ⟨by rw [HNx.out]; exact hown9, hbj8.grown hgrow9 hV8 (fun q hq => (row_lt hrow8 q hq).1)⟩
          clear hown9 hgrow9 hat9 hlt9 hrow8 hbj8 hnews hb8 HRw HNx
          refine hK.out _ _ trivial (fun _ => ?_)
          clear hK K
          try simp only [Act.put, List.setIfInBounds_toArray, List.set_cons_zero, List.set_cons_succ, List.getElem_toArray, List.getElem_cons_succ, List.getElem_cons_zero]
          refine wpAnyH_take (i := 10) (v := .slice (some ⟨g1, 0, none⟩) (k + 1) cp1) rfl (by kernel_rfl) (by kernel_rfl) (by kernel_rfl) (fun _ _ _ h => h) (Or.inl ⟨by rfl, fun w hSw => by go_simp⟩) hH ?_
          try simp only [Act.put, List.setIfInBounds_toArray, List.set_cons_zero, List.set_cons_succ, List.getElem_toArray, List.getElem_cons_succ, List.getElem_cons_zero]
          refine wpAnyH_done (by kernel_rfl) ?_ _
          go_wp2_with fail
          exact ⟨⟨k + 1, some ⟨g1, 0, none⟩, cp1, by omega, by go_num, rfl, HEnd.out.1, HEnd.out.2⟩, by simp [intOf]; omega⟩
        · have hkn' : ¬ (k : Int) < (n : Int) := by omega
          obtain rfl : k = n := by omega
          have HF : Hid (AnsR w L c (.returned (.tuple #[.slice g k cp, .int .i64 0])) wk) := by
            obtain ⟨e1, e2⟩ := HLL.out
            have hb5 : Below wj.heap.size wj wk := by rw [← HV.out]; exact HRw.out.2
            have hle := HBl.out.size
            refine ⟨g, cp, by rw [e1, e2, seRs_length], ?_, chain HBl.out hb5⟩
            rw [e1, seRs_length]
            rcases HRw.out.1 with ⟨r1, r2⟩
            refine ⟨r1, ?_⟩
            rcases r2 with r2 | ⟨g', cap', cur, r3, r4, r5⟩
            · exact .inl r2
            · exact .inr ⟨g', cap', cur, r3, by have := HV.out; omega, r5⟩
          go_wp2_with fail
          go_ret2
          exact HF.out
theorem specSeasons_any (a : Option Addr) (cap : Nat) (xs : List Int) (n : Int) (hl : xs.length ≤ 100000000) (w : World) (hr : Reads w.heap.size w a xs) :
    Calls Try.prog 24 #[.slice a xs.length cap, .int .i64 n] w (AnsR w (seL xs n) (seC xs n)) := by
  rcases se_ways xs n with ⟨h1, h2, h3⟩ | ⟨h1, h0, h2, h3⟩ | ⟨h1, h0, h4, h2, h3⟩ | ⟨h1, h0, h4, h5, h2, h3⟩ | ⟨h1, h0, h4, h5, h2, h3⟩
  · rw [h3]; exact specSeasons_bad a cap xs n hl w hr (.inl h1)
  · rw [h3]; exact specSeasons_bad a cap xs n hl w hr (.inr (.inl h0))
  · rw [h3]; exact specSeasons_bad a cap xs n hl w hr (.inr (.inr h4))
  · rw [h3, h2]
    obtain ⟨_, hn1, hn2⟩ := se_right h0
    obtain ⟨m, rfl⟩ : ∃ m : Nat, n = (m : Int) := ⟨n.toNat, by omega⟩
    exact specSeasons_right a cap xs m (by omega) h0 (by omega) [] 10 (fun _ => ⟨rfl, rfl⟩) (fun q => absurd h5 q) w hr
  · rw [h3, h2]
    obtain ⟨_, hn1, hn2⟩ := se_right h0
    obtain ⟨m, rfl⟩ : ∃ m : Nat, n = (m : Int) := ⟨n.toNat, by omega⟩
    rw [Int.toNat_natCast]
    exact specSeasons_right a cap xs m (by omega) h0 (by omega) (seRs xs m m) 0 (fun q => absurd q h5) (fun _ => ⟨rfl, rfl⟩) w hr
end Go.Proofs.Ytjdjopikljdigaa

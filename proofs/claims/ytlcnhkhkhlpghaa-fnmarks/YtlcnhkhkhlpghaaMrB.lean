/-
  Contracts of the program's ladder.behind, and of memo.of and markSearch.best over that of markSearch.choose.
-/
import Derived.Test.YtlcnhkhkhlpghaaMrA
import Derived.Test.YtlcnhkhkhlpghaaRegZ
namespace Go.Proofs.Ytlcnhkhkhlpghaa
open Go.ChangeShapes Go.WideShapes Go.ChangeAt Go.RowKit Go.Deep
set_option linter.unusedVariables false

set_option maxHeartbeats 2000000 in
theorem behind_any (pa : Option Addr) (pn pc : Nat) (da : Option Addr) (dc : Nat) (cs : LL) (hc : cs.length ≤ 7) (N : Nat) (hN : N ≤ 5) (d s : Nat) (hd : d < cs.length) (hcr : (cs.getD d []).length = N) (hs : s < N) (s0 l : Int) (hl : 0 ≤ l ∧ l ≤ 200) (hso : 0 ≤ soA cs d s l ∧ soA cs d s l ≤ l) (w : World) (hr : ReadsDm w.heap.size w da cs) :
    Calls Try.prog 56 #[.agg #[.slice pa pn pc, .slice da cs.length dc], .agg #[.int .i64 (d : Int), .int .i64 s0, .int .i64 l], .int .i64 (s : Int)] w fun e w' => e = .returned (.agg #[.int .i64 ((d + 1 : Nat) : Int), .int .i64 (s : Int), .int .i64 (l - soA cs d s l)]) ∧ Below w.heap.size w w' := by
  have HSo : Hid (∀ W, Below w.heap.size w W → Calls Try.prog 53 #[.agg #[.slice pa pn pc, .slice da cs.length dc], .int .i64 (d : Int), .int .i64 (s : Int), .int .i64 l] W fun e w' => e = .returned (.int .i64 (soA cs d s l)) ∧ Below W.heap.size W w') := fun W hb => lsold_any pa pn pc da dc cs hc d s hd (by omega) (by omega) l W (hr.later hb)
  have hw1 : IntKind.i64.wrap ((d : Int) + 1) = ((d + 1 : Nat) : Int) := by rw [wrap_id _ (by omega) (by omega)]; omega
  have hw2 : IntKind.i64.wrap (l - soA cs d s l) = l - soA cs d s l := wrap_id _ (by omega) (by omega)
  clear hr hcr
  generalize soA cs d s l = so at *
  generalize cs.length = m at *
  obtain ⟨W0, hW0⟩ : ∃ W0, W0 = ((w.alloc (Obj.cells #[.slice pa pn pc, .slice da m dc] 55)).alloc (Obj.cells #[.int .i64 (d : Int), .int .i64 s0, .int .i64 l] 79)).alloc (Obj.cells #[.int .i64 0, .int .i64 0, .int .i64 0] 79) := ⟨_, rfl⟩
  obtain ⟨D, hD⟩ : ∃ D, D = w.heap.size := ⟨_, rfl⟩
  have HW0 : Hid (W0 = ((w.alloc (Obj.cells #[.slice pa pn pc, .slice da m dc] 55)).alloc (Obj.cells #[.int .i64 (d : Int), .int .i64 s0, .int .i64 l] 79)).alloc (Obj.cells #[.int .i64 0, .int .i64 0, .int .i64 0] 79) ∧ D = w.heap.size) := ⟨hW0, hD⟩
  have HB0 : Hid (Below w.heap.size w W0) := by show Below _ _ _; rw [hW0]; exact chain (chain (below_alloc _ _) (below_alloc _ _)) (below_alloc _ _)
  have HQ : Hid (∀ W, Below W0.heap.size W0 W → (W.cell? ⟨D, 0, none⟩ = some (.slice pa pn pc) ∧ W.cell? ⟨D, 1, none⟩ = some (.slice da m dc)) ∧ (W.cell? ⟨D + 1, 0, none⟩ = some (.int .i64 (d : Int)) ∧ W.cell? ⟨D + 1, 2, none⟩ = some (.int .i64 l)) ∧ W.heap[D + 1 + 1]? = some (.cells #[.int .i64 0, .int .i64 0, .int .i64 0] 79 (0, 0))) := fun W hb => by
    have hz : W0.heap.size = w.heap.size + 3 := by rw [hW0]; simp
    obtain ⟨f1, f2, f3⟩ := three_alloc w (Obj.cells #[.slice pa pn pc, .slice da m dc] 55) (Obj.cells #[.int .i64 (d : Int), .int .i64 s0, .int .i64 l] 79) (Obj.cells #[.int .i64 0, .int .i64 0, .int .i64 0] 79)
    rw [← hW0, ← hD] at f1 f2 f3
    have g1 := (hb.block _ (blkLt f1)).trans f1
    have g2 := (hb.block _ (blkLt f2)).trans f2
    exact ⟨⟨blkCell g1 0 _ rfl, blkCell g1 1 _ rfl⟩, ⟨blkCell g2 0 _ rfl, blkCell g2 2 _ rfl⟩, (hb.block _ (blkLt f3)).trans f3⟩
  have hDw : w.heap.size ≤ D := by rw [hD]; exact Nat.le_refl _
  clear hW0 hD
  go_enter Try.func56, Try.ntmps56
  go_upto_region 1 with fail
  rw [← HW0.out.1, ← HW0.out.2]
  clear HW0
  refine wp_region_z (S := fun W => Below W0.heap.size W0 W) 15 (by kernel_rfl) (below_drew _) (fun hH => ?_)
  refine wpAnyZ_take (i := 0) (v := .pointer (some ⟨D + 1, 0, none⟩)) rfl (by kernel_rfl) (by kernel_rfl) (by kernel_rfl) (by kernel_rfl) (fun _ _ _ h => h) (Or.inl ⟨by rfl, fun w hSw => by clear hSw; go_simp⟩) hH ?_
  refine wpAnyZ_take (i := 1) (v := .int .i64 (d : Int)) rfl (by kernel_rfl) (by kernel_rfl) (by kernel_rfl) (by kernel_rfl) (fun _ _ _ h => h) (Or.inl ⟨by rfl, fun w hSw => by have f := (HQ.out w hSw).2.1.1; clear hSw; go_simp⟩) hH ?_
  try simp only [Act.put, List.setIfInBounds_toArray, List.set_cons_zero, List.set_cons_succ, List.getElem_toArray, List.getElem_cons_succ, List.getElem_cons_zero]
  refine wpAnyZ_take (i := 2) (v := .int .i64 ((d + 1 : Nat) : Int)) rfl (by kernel_rfl) (by kernel_rfl) (by kernel_rfl) (by kernel_rfl) (fun _ _ _ h => h) (Or.inl ⟨by rfl, fun w hSw => by have f0 := hw1; clear hSw; go_simp⟩) hH ?_
  try simp only [Act.put, List.setIfInBounds_toArray, List.set_cons_zero, List.set_cons_succ, List.getElem_toArray, List.getElem_cons_succ, List.getElem_cons_zero]
  refine wpAnyZ_take (i := 3) (v := .int .i64 (s : Int)) rfl (by kernel_rfl) (by kernel_rfl) (by kernel_rfl) (by kernel_rfl) (fun _ _ _ h => h) (Or.inl ⟨by rfl, fun w hSw => by clear hSw; go_simp⟩) hH ?_
  try simp only [Act.put, List.setIfInBounds_toArray, List.set_cons_zero, List.set_cons_succ, List.getElem_toArray, List.getElem_cons_succ, List.getElem_cons_zero]
  refine wpAnyZ_take (i := 4) (v := .pointer (some ⟨D + 1, 2, none⟩)) rfl (by kernel_rfl) (by kernel_rfl) (by kernel_rfl) (by kernel_rfl) (fun _ _ _ h => h) (Or.inl ⟨by rfl, fun w hSw => by clear hSw; go_simp⟩) hH ?_
  try simp only [Act.put, List.setIfInBounds_toArray, List.set_cons_zero, List.set_cons_succ, List.getElem_toArray, List.getElem_cons_succ, List.getElem_cons_zero]
  refine wpAnyZ_take (i := 5) (v := .int .i64 l) rfl (by kernel_rfl) (by kernel_rfl) (by kernel_rfl) (by kernel_rfl) (fun _ _ _ h => h) (Or.inl ⟨by rfl, fun w hSw => by have f := (HQ.out w hSw).2.1.2; clear hSw; go_simp⟩) hH ?_
  try simp only [Act.put, List.setIfInBounds_toArray, List.set_cons_zero, List.set_cons_succ, List.getElem_toArray, List.getElem_cons_succ, List.getElem_cons_zero]
  refine wpAnyZ_take (i := 6) (v := .agg #[.slice pa pn pc, .slice da m dc]) rfl (by kernel_rfl) (by kernel_rfl) (by kernel_rfl) (by kernel_rfl) (fun _ _ _ h => h) (Or.inl ⟨by rfl, fun w hSw => by obtain ⟨⟨f0, f1⟩, _⟩ := HQ.out w hSw; clear hSw; go_simp⟩) hH ?_
  try simp only [Act.put, List.setIfInBounds_toArray, List.set_cons_zero, List.set_cons_succ, List.getElem_toArray, List.getElem_cons_succ, List.getElem_cons_zero]
  refine wpAnyZ_take (i := 7) (v := .pointer (some ⟨D + 1, 0, none⟩)) rfl (by kernel_rfl) (by kernel_rfl) (by kernel_rfl) (by kernel_rfl) (fun _ _ _ h => h) (Or.inl ⟨by rfl, fun w hSw => by clear hSw; go_simp⟩) hH ?_
  try simp only [Act.put, List.setIfInBounds_toArray, List.set_cons_zero, List.set_cons_succ, List.getElem_toArray, List.getElem_cons_succ, List.getElem_cons_zero]
  refine wpAnyZ_take (i := 8) (v := .int .i64 (d : Int)) rfl (by kernel_rfl) (by kernel_rfl) (by kernel_rfl) (by kernel_rfl) (fun _ _ _ h => h) (Or.inl ⟨by rfl, fun w hSw => by have f := (HQ.out w hSw).2.1.1; clear hSw; go_simp⟩) hH ?_
  try simp only [Act.put, List.setIfInBounds_toArray, List.set_cons_zero, List.set_cons_succ, List.getElem_toArray, List.getElem_cons_succ, List.getElem_cons_zero]
  refine wpAnyZ_take (i := 9) (v := .int .i64 (s : Int)) rfl (by kernel_rfl) (by kernel_rfl) (by kernel_rfl) (by kernel_rfl) (fun _ _ _ h => h) (Or.inl ⟨by rfl, fun w hSw => by clear hSw; go_simp⟩) hH ?_
  try simp only [Act.put, List.setIfInBounds_toArray, List.set_cons_zero, List.set_cons_succ, List.getElem_toArray, List.getElem_cons_succ, List.getElem_cons_zero]
  refine wpAnyZ_take (i := 10) (v := .pointer (some ⟨D + 1, 2, none⟩)) rfl (by kernel_rfl) (by kernel_rfl) (by kernel_rfl) (by kernel_rfl) (fun _ _ _ h => h) (Or.inl ⟨by rfl, fun w hSw => by clear hSw; go_simp⟩) hH ?_
  try simp only [Act.put, List.setIfInBounds_toArray, List.set_cons_zero, List.set_cons_succ, List.getElem_toArray, List.getElem_cons_succ, List.getElem_cons_zero]
  refine wpAnyZ_take (i := 11) (v := .int .i64 l) rfl (by kernel_rfl) (by kernel_rfl) (by kernel_rfl) (by kernel_rfl) (fun _ _ _ h => h) (Or.inl ⟨by rfl, fun w hSw => by have f := (HQ.out w hSw).2.1.2; clear hSw; go_simp⟩) hH ?_
  try simp only [Act.put, List.setIfInBounds_toArray, List.set_cons_zero, List.set_cons_succ, List.getElem_toArray, List.getElem_cons_succ, List.getElem_cons_zero]
  refine wpAnyZ_ready (rs := [12]) (by kernel_rfl) (by simp) ?_
  refine AllReadyZ.cons rfl (fun K hK => ?_) AllReadyZ.nil
  go_simp
  go_at_call 53
  refine (HSo.out _ (chain HB0.out hH)).mono ?_
  rintro e w6 ⟨rfl, hb6⟩
  have h6 : Below W0.heap.size W0 w6 := chain hH hb6
  clear hb6
  refine hK.out _ _ (Or.inr h6) (fun _ => ?_)
  clear hK K
  try simp only [Act.put, List.setIfInBounds_toArray, List.set_cons_zero, List.set_cons_succ, List.getElem_toArray, List.getElem_cons_succ, List.getElem_cons_zero]
  refine wpAnyZ_take (i := 13) (v := .int .i64 (l - so)) rfl (by kernel_rfl) (by kernel_rfl) (by kernel_rfl) (by kernel_rfl) (fun _ _ _ h => h) (Or.inl ⟨by rfl, fun w hSw => by have f0 := hw2; clear hSw; go_simp⟩) h6 ?_
  try simp only [Act.put, List.setIfInBounds_toArray, List.set_cons_zero, List.set_cons_succ, List.getElem_toArray, List.getElem_cons_succ, List.getElem_cons_zero]
  refine wpAnyZ_take (i := 14) (v := .agg #[.int .i64 ((d + 1 : Nat) : Int), .int .i64 (s : Int), .int .i64 (l - so)]) rfl (by kernel_rfl) (by kernel_rfl) (by kernel_rfl) (by kernel_rfl) (fun _ _ _ h => h) (Or.inl ⟨by rfl, fun w hSw => by clear hSw; go_simp⟩) h6 ?_
  try simp only [Act.put, List.setIfInBounds_toArray, List.set_cons_zero, List.set_cons_succ, List.getElem_toArray, List.getElem_cons_succ, List.getElem_cons_zero]
  refine wpAnyZ_ready (rs := [15]) (by kernel_rfl) (by simp) ?_
  refine AllReadyZ.cons rfl (fun K hK => ?_) AllReadyZ.nil
  have hx := (HQ.out w6 h6).2.2
  have z0 := blkCell hx 0 _ rfl
  have z1 := blkCell hx 1 _ rfl
  have z2 := blkCell hx 2 _ rfl
  have y0 := blkFree hx 0
  have y1 := blkFree hx 1
  have y2 := blkFree hx 2
  simp only [List.getElem_toArray, List.getElem_cons_zero, List.getElem_cons_succ] at z0 z1 z2
  have HB6 : Hid (Below w.heap.size w w6) := chain HB0.out h6
  clear hx h6 hH HQ HSo
  go_simp
  refine hK.out _ _ (Or.inl rfl) (fun _ => ?_)
  clear hK K
  try simp only [Act.put, List.setIfInBounds_toArray, List.set_cons_zero, List.set_cons_succ, List.getElem_toArray, List.getElem_cons_succ, List.getElem_cons_zero]
  refine wpAnyZ_done (by kernel_rfl) ?_ _
  go_wp2_with fail
  refine bodyPost_ret (v := .agg #[.int .i64 ((d + 1 : Nat) : Int), .int .i64 (s : Int), .int .i64 (l - so)]) (by simp [results, Try.results56, go_sem, z0, z1, z2]) rfl ⟨rfl, ?_⟩
  repeat refine Below.setCell ?_ (by dsimp only; omega) _
  exact HB6.out
/-- Where the search's ladder and memo lie. -/
structure Mx where
  prs : List Int
  cs : LL
  N : Nat
  pb : Nat
  pc : Nat
  da : Option Addr
  dc : Nat
  kb : Nat
structure Env (C : Mx) (n : Nat) (W : World) : Prop where
  rp : Reads C.kb W (some ⟨C.pb, 0, none⟩) C.prs
  rd : ReadsDm C.kb W C.da C.cs
  mm : Memo C.prs C.cs C.N W C.kb n
def Mx.sv (C : Mx) : Value := .agg #[.slice (some ⟨C.pb, 0, none⟩) C.N C.pc, .slice C.da C.cs.length C.dc, .map (some C.kb)]
theorem fr_low {C : Mx} {W W' : World} (h : Fr (fun q => q = C.kb) W W') (hk : C.kb < W.heap.size) : Below C.kb W W' := h.below (Below.refl _ _) (Nat.le_of_lt hk) (fun q e => by rw [e]; exact Nat.le_refl _)
theorem Env.fr {C : Mx} {n n' : Nat} {W W' : World} (h : Env C n W) (hf : Fr (fun q => q = C.kb) W W') (hm : Memo C.prs C.cs C.N W' C.kb n') : Env C n' W' :=
  ⟨h.rp.below (fr_low hf h.mm.lt), h.rd.below (fr_low hf h.mm.lt), hm⟩
theorem Env.later {C : Mx} {n : Nat} {W W' : World} (h : Env C n W) (hb : Below W.heap.size W W') : Env C n W' := h.fr (Fr.of hb) (h.mm.fr (hb.block _ h.mm.lt))
theorem Env.but {C : Mx} {n : Nat} {W : World} (h : Env C n W) {b : Nat} (hb : C.kb < b) (o : Nat) (v : Value) : Env C n (W.setCell ⟨b, o, none⟩ v) :=
  ⟨h.rp.below ((Below.refl _ _).setCell (by show C.kb ≤ b; omega) _), h.rd.below ((Below.refl _ _).setCell (by show C.kb ≤ b; omega) _), h.mm.fr (Below.heap_setCell _ _ _ _ (by show C.kb ≠ b; omega))⟩
/-- How many entries a search with k days left makes at most. -/
def cB : Nat → Nat
  | 0 => 1
  | k + 1 => 5 * cB k + 1
theorem cB_pos : ∀ k, 1 ≤ cB k
  | 0 => Nat.le_refl _
  | k + 1 => by show 1 ≤ 5 * cB k + 1; omega
def ChP (C : Mx) (k : Nat) : Prop := ∀ (d s : Nat) (l : Int) (n : Nat) (W : World), d + k = C.cs.length → s < C.N → 0 ≤ l → l ≤ 200 → Env C n W → n + cB k ≤ 9000000 →
  Calls Try.prog 62 #[C.sv, .agg #[.int .i64 (d : Int), .int .i64 (s : Int), .int .i64 l]] W fun e w' => e = .returned (chV (chz C.prs C.cs C.N k s l)) ∧ ∃ n', n' + 1 ≤ n + cB k ∧ Env C n' w' ∧ Fr (fun q => q = C.kb) W w'
def BsP (C : Mx) (k : Nat) : Prop := ∀ (d s : Nat) (l : Int) (n : Nat) (W : World), d + k = C.cs.length → s < C.N → 0 ≤ l → l ≤ 200 → Env C n W → n + cB k ≤ 9000000 →
  Calls Try.prog 55 #[C.sv, .agg #[.int .i64 (d : Int), .int .i64 (s : Int), .int .i64 l]] W fun e w' => e = .returned (chV (chz C.prs C.cs C.N k s l)) ∧ ∃ n', n' ≤ n + cB k ∧ Env C n' w' ∧ Fr (fun q => q = C.kb) W w'
def OfP (C : Mx) (k : Nat) : Prop := ∀ (d s : Nat) (l : Int) (n : Nat) (W : World), d + k = C.cs.length → s < C.N → 0 ≤ l → l ≤ 200 → Env C n W → n + cB k ≤ 9000000 →
  Calls Try.prog 61 #[.agg #[.map (some C.kb)], .agg #[.int .i64 (d : Int), .int .i64 (s : Int), .int .i64 l], .func (.func 62) #[C.sv] #[]] W fun e w' => e = .returned (chV (chz C.prs C.cs C.N k s l)) ∧ ∃ n', n' ≤ n + cB k ∧ Env C n' w' ∧ Fr (fun q => q = C.kb) W w'
theorem zeroCh (w : World) : (zeroValue 81).run Try.prog w = .ok zCh w := by kernel_rfl
theorem two_set {W : World} {b : Nat} {v0 v1 : Value} {t : TypeId} (h : W.heap[b]? = some (.cells #[v0, v1] t (0, 0))) (x0 x1 : Value) : ((W.setCell ⟨b, 0, none⟩ x0).setCell ⟨b, 1, none⟩ x1).heap[b]? = some (.cells #[x0, x1] t (0, 0)) := by
  have e := heap_setCell_same _ _ 1 _ _ x1 (heap_setCell_same _ _ 0 _ _ x0 h)
  simp only [List.setIfInBounds_toArray, List.set_cons_zero, List.set_cons_succ] at e
  exact e
set_option maxHeartbeats 4000000 in
theorem of_any (C : Mx) (k : Nat) (hN : C.N ≤ 5) (hm7 : C.cs.length ≤ 7) (hCh : ChP C k) : OfP C k := fun d s l n W hd hs hl hl' hE hn => by
  have hk : KdOK (d : Int) (s : Int) l := ⟨wfN_of (by omega) (by omega), wfN_of (by omega) (by omega), wfN_of hl (by omega)⟩
  have hdk : C.cs.length - d = k := by omega
  have HCh : Hid (∀ n W, Env C n W → n + cB k ≤ 9000000 → Calls Try.prog 62 #[C.sv, .agg #[.int .i64 (d : Int), .int .i64 (s : Int), .int .i64 l]] W fun e w' => e = .returned (chV (chz C.prs C.cs C.N k s l)) ∧ ∃ n', n' + 1 ≤ n + cB k ∧ Env C n' w' ∧ Fr (fun q => q = C.kb) W w') := fun n W => hCh d s l n W hd hs hl hl'
  have HK : Hid (KdOK (d : Int) (s : Int) l) := hk
  have HDk : Hid (C.cs.length - d = k) := hdk
  have HP : Hid (∀ n W, Memo C.prs C.cs C.N W C.kb n → n < maxLen → ∃ w', (Instr.mapUpdate 74 (.map (some C.kb)) (.agg #[.int .i64 (d : Int), .int .i64 (s : Int), .int .i64 l]) (chV (chz C.prs C.cs C.N k s l))).run Try.prog W = .ok () w' ∧ Memo C.prs C.cs C.N w' C.kb (n + 1) ∧ Fr (fun q => q = C.kb) W w') := fun n W h hn => by
    have := h.put Try.underlying74 hn HK.out
    rw [HDk.out] at this
    exact this
  obtain ⟨W0, hW0⟩ : ∃ W0, W0 = ((W.alloc (Obj.cells #[.map (some C.kb)] 76)).alloc (Obj.cells #[.int .i64 (d : Int), .int .i64 (s : Int), .int .i64 l] 79)).alloc (Obj.cells #[.int .i64 0, .int .i64 0] 81) := ⟨_, rfl⟩
  obtain ⟨D, hD⟩ : ∃ D, D = W.heap.size := ⟨_, rfl⟩
  have HW0 : Hid (W0 = ((W.alloc (Obj.cells #[.map (some C.kb)] 76)).alloc (Obj.cells #[.int .i64 (d : Int), .int .i64 (s : Int), .int .i64 l] 79)).alloc (Obj.cells #[.int .i64 0, .int .i64 0] 81) ∧ D = W.heap.size) := ⟨hW0, hD⟩
  have HB0 : Hid (Below W.heap.size W W0) := by show Below _ _ _; rw [hW0]; exact chain (chain (below_alloc _ _) (below_alloc _ _)) (below_alloc _ _)
  have hz0 : W0.heap.size = D + 3 := by rw [hW0, hD]; simp
  have HQ : Hid (∀ X, Fr (fun q => q = C.kb) W0 X → X.cell? ⟨D, 0, none⟩ = some (.map (some C.kb)) ∧ (X.cell? ⟨D + 1, 0, none⟩ = some (.int .i64 (d : Int)) ∧ X.cell? ⟨D + 1, 1, none⟩ = some (.int .i64 (s : Int)) ∧ X.cell? ⟨D + 1, 2, none⟩ = some (.int .i64 l)) ∧ X.heap[D + 1 + 1]? = some (.cells #[.int .i64 0, .int .i64 0] 81 (0, 0))) := fun X hf => by
    have hkb := hE.mm.lt
    obtain ⟨f1, f2, f3⟩ := three_alloc W (Obj.cells #[.map (some C.kb)] 76) (Obj.cells #[.int .i64 (d : Int), .int .i64 (s : Int), .int .i64 l] 79) (Obj.cells #[.int .i64 0, .int .i64 0] 81)
    rw [← hW0, ← hD] at f1 f2 f3
    have g1 := (hf.block _ (blkLt f1) (by omega)).trans f1
    have g2 := (hf.block _ (blkLt f2) (by omega)).trans f2
    exact ⟨blkCell g1 0 _ rfl, ⟨blkCell g2 0 _ rfl, blkCell g2 1 _ rfl, blkCell g2 2 _ rfl⟩, (hf.block _ (blkLt f3) (by omega)).trans f3⟩
  have HE0 : Hid (Env C n W0) := hE.later HB0.out
  have hkD : C.kb < D := by rw [hD]; exact hE.mm.lt
  have hlk := HE0.out.mm.look Try.underlying74 (zeroCh W0) HK.out
  rw [HDk.out] at hlk
  clear hW0 hk hdk hCh hE HK HDk
  unfold keyD zCh at hlk
  have HDw : Hid (D = W.heap.size) := hD
  clear hD
  unfold chV at hlk HCh HP ⊢
  generalize hcz : chz C.prs C.cs C.N k s l = c at *
  obtain ⟨c1, c2⟩ := c
  dsimp only at *
  clear hcz
  rcases hlk with hlk | hlk
  · go_enter Try.func61, Try.ntmps61
    go_upto_region 1 with fail
    rw [← HW0.out.1, ← HW0.out.2]
    clear HW0
    obtain ⟨x0, ⟨x1, x2, x3⟩, _⟩ := HQ.out W0 (Fr.refl _ _)
    go_upto_region 4 with fail
    clear x0 x1 x2 x3 hlk
    obtain ⟨W1, hW1⟩ : ∃ W1, W1 = W0.alloc (Obj.cells #[.int .i64 0, .int .i64 0] 81) := ⟨_, rfl⟩
    rw [← hW1]
    have HB1 : Hid (Below W0.heap.size W0 W1) := by show Below _ _ _; rw [hW1]; exact below_alloc _ _
    clear hW1
    obtain ⟨x0, ⟨x1, x2, x3⟩, _⟩ := HQ.out W1 (Fr.of HB1.out)
    go_wp2_with fail
    (first | go_at_call 62 | skip)
    refine (HCh.out n W1 (HE0.out.later HB1.out) hn).mono ?_
    rintro e w2 ⟨rfl, n2, hn2, hE2, hf2⟩
    have HE2 : Hid (Env C n2 w2) := hE2
    have HF2 : Hid (Fr (fun q => q = C.kb) W0 w2) := (Fr.of HB1.out).trans hf2
    clear hE2 hf2 x0 x1 x2 x3 HB1
    obtain ⟨W3, hW3⟩ : ∃ W3, W3 = w2.alloc (Obj.cells #[.int .i64 (c1 : Int), .int .i64 c2] 81) := ⟨_, rfl⟩
    obtain ⟨V, hV⟩ : ∃ V, V = w2.heap.size := ⟨_, rfl⟩
    have HW3 : Hid (W3 = w2.alloc (Obj.cells #[.int .i64 (c1 : Int), .int .i64 c2] 81) ∧ V = w2.heap.size) := ⟨hW3, hV⟩
    have hb3 : Below w2.heap.size w2 W3 := by rw [hW3]; exact below_alloc _ _
    have HE3 : Hid (Env C n2 W3) := HE2.out.later hb3
    have HF3 : Hid (Fr (fun q => q = C.kb) W0 W3) := HF2.out.trans (Fr.of hb3)
    have HVx : Hid (W3.heap[V]? = some (.cells #[.int .i64 (c1 : Int), .int .i64 c2] 81 (0, 0))) := by show _ = _; rw [hW3, hV]; exact heapNew _ _
    have hVk : C.kb < V := by rw [hV]; exact HE2.out.mm.lt
    have hVz : W0.heap.size ≤ V := by rw [hV]; exact HF2.out.size
    clear hW3 hV hb3 HE2 HF2
    go_upto_region 5 with fail
    rw [← HW3.out.1, ← HW3.out.2]
    clear HW3
    obtain ⟨x0, ⟨x1, x2, x3⟩, _⟩ := HQ.out W3 HF3.out
    have v0 := blkCell HVx.out 0 _ rfl
    have v1 := blkCell HVx.out 1 _ rfl
    simp only [List.getElem_toArray, List.getElem_cons_zero, List.getElem_cons_succ] at v0 v1
    obtain ⟨w4, hrun, hm4, hf4⟩ := HP.out n2 W3 HE3.out.mm (by unfold maxLen; omega)
    have HE4 : Hid (Env C (n2 + 1) w4) := HE3.out.fr hf4 hm4
    have HF4 : Hid (Fr (fun q => q = C.kb) W0 w4) := HF3.out.trans hf4
    have hvx := (hf4.block V (blkLt HVx.out) (by omega)).trans HVx.out
    have u0 := blkCell hvx 0 _ rfl
    have u1 := blkCell hvx 1 _ rfl
    simp only [List.getElem_toArray, List.getElem_cons_zero, List.getElem_cons_succ] at u0 u1
    have hrx := (HQ.out w4 HF4.out).2.2
    have z0 := blkCell hrx 0 _ rfl
    have z1 := blkCell hrx 1 _ rfl
    have y0 := blkFree hrx 0
    have y1 := blkFree hrx 1
    simp only [List.getElem_toArray, List.getElem_cons_zero, List.getElem_cons_succ] at z0 z1
    have hVD : D + 1 + 1 ≠ V := by omega
    clear hvx hrx hm4 hf4
    go_wp2_with fail
    refine bodyPost_ret (v := .agg #[.int .i64 (c1 : Int), .int .i64 c2]) (by simp [results, Try.results61, go_sem, z0, z1]) rfl ⟨rfl, n2 + 1, by omega, ?_, ?_⟩
    · exact (HE4.out.but (by omega) _ _).but (by omega) _ _
    · exact ((((Fr.of HB0.out).trans HF4.out).setNew (by have := HDw.out; omega) _ _).setNew (by have := HDw.out; omega) _ _)
  · go_enter Try.func61, Try.ntmps61
    go_upto_region 1 with fail
    rw [← HW0.out.1, ← HW0.out.2]
    clear HW0
    obtain ⟨x0, ⟨x1, x2, x3⟩, x4⟩ := HQ.out W0 (Fr.refl _ _)
    go_upto_region 3 with fail
    obtain ⟨W1, hW1⟩ : ∃ W1, W1 = W0.alloc (Obj.cells #[.int .i64 (c1 : Int), .int .i64 c2] 81) := ⟨_, rfl⟩
    rw [← hW1]
    have HB1 : Hid (Below W0.heap.size W0 W1) := by show Below _ _ _; rw [hW1]; exact below_alloc _ _
    have v0 : W1.cell? ⟨W0.heap.size, 0, none⟩ = some (.int .i64 (c1 : Int)) := by rw [hW1]; exact cellNew _ _ _ _ rfl rfl
    have v1 : W1.cell? ⟨W0.heap.size, 1, none⟩ = some (.int .i64 c2) := by rw [hW1]; exact cellNew _ _ _ _ rfl rfl
    rw [hz0] at v0 v1
    clear hW1 x0 x1 x2 x3 x4 hlk
    have hrx := (HQ.out W1 (Fr.of HB1.out)).2.2
    have z0 := blkCell hrx 0 _ rfl
    have z1 := blkCell hrx 1 _ rfl
    have y0 := blkFree hrx 0
    have y1 := blkFree hrx 1
    simp only [List.getElem_toArray, List.getElem_cons_zero, List.getElem_cons_succ] at z0 z1
    have HE1 : Hid (Env C n W1) := HE0.out.later HB1.out
    have hVD : D + 1 + 1 ≠ D + 3 := by omega
    clear hrx
    go_wp2_with fail
    refine bodyPost_ret (v := .agg #[.int .i64 (c1 : Int), .int .i64 c2]) (by simp [results, Try.results61, go_sem, z0, z1]) rfl ⟨rfl, n, by omega, ?_, ?_⟩
    · exact (HE1.out.but (by omega) _ _).but (by omega) _ _
    · exact (((Fr.of (chain HB0.out HB1.out)).setNew (by have := HDw.out; omega) _ _).setNew (by have := HDw.out; omega) _ _)
set_option maxHeartbeats 2000000 in
theorem best_of (C : Mx) (k : Nat) (hO : OfP C k) : BsP C k := fun d s l n W hd hs hl hl' hE hn => by
  have HO : Hid (∀ W, Env C n W → Calls Try.prog 61 #[.agg #[.map (some C.kb)], .agg #[.int .i64 (d : Int), .int .i64 (s : Int), .int .i64 l], .func (.func 62) #[C.sv] #[]] W fun e w' => e = .returned (chV (chz C.prs C.cs C.N k s l)) ∧ ∃ n', n' ≤ n + cB k ∧ Env C n' w' ∧ Fr (fun q => q = C.kb) W w') := fun W h => hO d s l n W hd hs hl hl' h hn
  have HE : Hid (Env C n W) := hE
  have hkb := hE.mm.lt
  clear hO hE
  unfold chV at HO ⊢
  unfold Mx.sv at HO ⊢
  generalize chz C.prs C.cs C.N k s l = c at *
  obtain ⟨c1, c2⟩ := c
  dsimp only at *
  generalize C.cs.length = m at *
  obtain ⟨W0, hW0⟩ : ∃ W0, W0 = ((W.alloc (Obj.cells #[.slice (some ⟨C.pb, 0, none⟩) C.N C.pc, .slice C.da m C.dc, .map (some C.kb)] 83)).alloc (Obj.cells #[.int .i64 (d : Int), .int .i64 (s : Int), .int .i64 l] 79)).alloc (Obj.cells #[.int .i64 0, .int .i64 0] 81) := ⟨_, rfl⟩
  obtain ⟨D, hD⟩ : ∃ D, D = W.heap.size := ⟨_, rfl⟩
  have HW0 : Hid (W0 = ((W.alloc (Obj.cells #[.slice (some ⟨C.pb, 0, none⟩) C.N C.pc, .slice C.da m C.dc, .map (some C.kb)] 83)).alloc (Obj.cells #[.int .i64 (d : Int), .int .i64 (s : Int), .int .i64 l] 79)).alloc (Obj.cells #[.int .i64 0, .int .i64 0] 81) ∧ D = W.heap.size) := ⟨hW0, hD⟩
  have HB0 : Hid (Below W.heap.size W W0) := by show Below _ _ _; rw [hW0]; exact chain (chain (below_alloc _ _) (below_alloc _ _)) (below_alloc _ _)
  have f := three_alloc W (Obj.cells #[.slice (some ⟨C.pb, 0, none⟩) C.N C.pc, .slice C.da m C.dc, .map (some C.kb)] 83) (Obj.cells #[.int .i64 (d : Int), .int .i64 (s : Int), .int .i64 l] 79) (Obj.cells #[.int .i64 0, .int .i64 0] 81)
  rw [← hW0, ← hD] at f
  obtain ⟨f1, f2, f3⟩ := f
  have HF3 : Hid (W0.heap[D + 1 + 1]? = some (.cells #[.int .i64 0, .int .i64 0] 81 (0, 0))) := f3
  have x0 := blkCell f1 0 _ rfl
  have x1 := blkCell f1 1 _ rfl
  have x2 := blkCell f1 2 _ rfl
  have k0 := blkCell f2 0 _ rfl
  have k1 := blkCell f2 1 _ rfl
  have k2 := blkCell f2 2 _ rfl
  simp only [List.getElem_toArray, List.getElem_cons_zero, List.getElem_cons_succ] at x0 x1 x2 k0 k1 k2
  have hDw : W.heap.size ≤ D := by rw [hD]; exact Nat.le_refl _
  have hkD : C.kb < D := by rw [hD]; exact hkb
  clear hW0 hD f1 f2 f3
  go_enter Try.func55, Try.ntmps55
  go_upto_region 1 with fail
  rw [← HW0.out.1, ← HW0.out.2]
  clear HW0
  go_wp2_with fail
  (first | go_at_call 61 | skip)
  refine (HO.out W0 (HE.out.later HB0.out)).mono ?_
  rintro e w2 ⟨rfl, n2, hn2, hE2, hf2⟩
  have hrx := (hf2.block (D + 1 + 1) (blkLt HF3.out) (by omega)).trans HF3.out
  have HE2 : Hid (Env C n2 w2) := hE2
  have HF2 : Hid (Fr (fun q => q = C.kb) W w2) := (Fr.of HB0.out).trans hf2
  have z0 := blkCell hrx 0 _ rfl
  have z1 := blkCell hrx 1 _ rfl
  have y0 := blkFree hrx 0
  have y1 := blkFree hrx 1
  simp only [List.getElem_toArray, List.getElem_cons_zero, List.getElem_cons_succ] at z0 z1
  clear hrx hE2 hf2 x0 x1 x2 k0 k1 k2
  go_wp2_with fail
  refine bodyPost_ret (v := .agg #[.int .i64 (c1 : Int), .int .i64 c2]) (by simp [results, Try.results55, go_sem, z0, z1]) rfl ⟨rfl, n2, hn2, ?_, ?_⟩
  · exact (HE2.out.but (by omega) _ _).but (by omega) _ _
  · exact ((HF2.out.setNew (by omega) _ _).setNew (by omega) _ _)
end Go.Proofs.Ytlcnhkhkhlpghaa

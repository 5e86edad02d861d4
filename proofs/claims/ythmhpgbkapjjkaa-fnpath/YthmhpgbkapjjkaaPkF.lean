/-
  The specification's drawn spots are right: the contract of spot.
-/
import Derived.Test.YthmhpgbkapjjkaaFqM
import Derived.Test.YthmhpgbkapjjkaaOdrA
import Derived.Test.YthmhpgbkapjjkaaRegZ
namespace Go.Proofs.Ythmhpgbkapjjkaa
open Go.ChangeShapes Go.WideShapes Go.ChangeAt Go.RowKit Go.Deep
set_option linter.unusedVariables false

def PostSp (b : Nat) (a : Option Addr) (len cap : Nat) (A P at0 : Int) (w : World) (e : Ending) (w' : World) : Prop := ∃ x y at2 s' : Int, e = .returned (.agg #[.int .i64 x, .int .i64 y]) ∧ (0 ≤ x ∧ x < A) ∧ (0 ≤ y ∧ y < P + 2) ∧ at2 ≤ at0 + 6 ∧ Src w' b a len cap at2 s' ∧ Below b w w' ∧ Apart b w w'
set_option maxHeartbeats 4000000 in
set_option maxRecDepth 4000 in
theorem spot_any (b : Nat) (a : Option Addr) (len cap : Nat) (zs : List Int) (A P G : Int) (hA : 1 ≤ A ∧ A ≤ 6) (hP : 1 ≤ P ∧ P ≤ 12) (at0 sd0 : Int) (w : World) (hs : Src w b a len cap at0 sd0) (hr : RowB b w a len zs) (ha0 : at0 ≤ 1000) :
    Calls Try.prog 34 #[.pointer (some ⟨b, 0, none⟩), .agg #[.int .i64 A, .int .i64 P, .int .i64 G]] w (PostSp b a len cap A P at0 w) := by
  have HR : Hid (RowB b w a len zs) := hr
  have HNx : Hid (∀ (n at' sd : Int) (W : World), n ≤ 256 → at' ≤ 2000 → Src W b a len cap at' sd → Below b w W → Calls Try.prog 32 #[.pointer (some ⟨b, 0, none⟩), .int .i64 n] W fun e w' => ∃ x at2 s' : Int, e = .returned (.int .i64 x) ∧ Drawn x n ∧ at' ≤ at2 ∧ at2 ≤ at' + 3 ∧ Src w' b a len cap at2 s' ∧ Below b W w' ∧ Apt b W w') := fun n at' sd W hn ha hS hB => next_anyA b b a len cap zs n at' sd W (Nat.le_refl _) hS (HR.out.below hB) (by omega) hn
  obtain ⟨W1, hW1⟩ : ∃ W1, W1 = (w.alloc (Obj.cells #[.int .i64 A, .int .i64 P, .int .i64 G] 24)).alloc (Obj.cells #[.int .i64 0, .int .i64 0] 35) := ⟨_, rfl⟩
  have HE : Hid (W1 = (w.alloc (Obj.cells #[.int .i64 A, .int .i64 P, .int .i64 G] 24)).alloc (Obj.cells #[.int .i64 0, .int .i64 0] 35)) := hW1
  have hbs := src_ltW hs
  have HL1 : Hid (Below w.heap.size w W1) := by show Below _ _ _; rw [hW1]; exact chain (below_alloc _ _) (below_alloc _ _)
  have HS1 : Hid (Src W1 b a len cap at0 sd0) := by show Src _ _ _ _ _ _ _; rw [hW1]; exact (hs.allocT _).allocT _
  have HC1 : Hid (W1.cell? ⟨w.heap.size, 0, none⟩ = some (.int .i64 A) ∧ W1.cell? ⟨w.heap.size, 1, none⟩ = some (.int .i64 P) ∧ W1.heap[w.heap.size + 1]? = some (.cells #[.int .i64 0, .int .i64 0] 35 (0, 0)) ∧ w.heap.size + 1 < W1.heap.size) := by
    show _ ∧ _ ∧ _ ∧ _
    have k := heapNew (w.alloc (Obj.cells #[.int .i64 A, .int .i64 P, .int .i64 G] 24)) (Obj.cells #[.int .i64 0, .int .i64 0] 35)
    rw [World.size_alloc] at k
    rw [hW1]
    exact ⟨by simp [go_sem], by simp [go_sem], k, by simp⟩
  have HL1b : Hid (Below b w W1) := HL1.out.mono (by omega)
  have hwp : IntKind.i64.wrap (P + 2) = P + 2 := wrap_id _ (by omega) (by omega)
  have hm1 : max 1 A = A := by omega
  have hm2 : max 1 (P + 2) = P + 2 := by omega
  have hm3 : max A 1 = A := by omega
  have hm4 : max (P + 2) 1 = P + 2 := by omega
  clear hW1 hs hr HR
  go_enter Try.func34, Try.ntmps34
  go_upto_region 1 with fail
  rw [← HE.out]
  clear HE
  refine wp_region_z (S := fun W => W.cell? ⟨w.heap.size, 0, none⟩ = some (.int .i64 A) ∧ W.cell? ⟨w.heap.size, 1, none⟩ = some (.int .i64 P)) 12 (by kernel_rfl) ⟨HC1.out.1, HC1.out.2.1⟩ (fun hH => ?_)
  refine wpAnyZ_take (i := 0) (v := .pointer (some ⟨b, 0, none⟩)) rfl (by kernel_rfl) (by kernel_rfl) (by kernel_rfl) (by kernel_rfl) (fun _ _ _ h => h) (Or.inl ⟨by rfl, fun w hSw => by clear hSw; go_simp⟩) hH ?_
  refine wpAnyZ_take (i := 1) (v := .pointer (some ⟨w.heap.size, 0, none⟩)) rfl (by kernel_rfl) (by kernel_rfl) (by kernel_rfl) (by kernel_rfl) (fun _ _ _ h => h) (Or.inl ⟨by rfl, fun w hSw => by clear hSw; go_simp⟩) hH ?_
  try simp only [Act.put, List.setIfInBounds_toArray, List.set_cons_zero, List.set_cons_succ, List.getElem_toArray, List.getElem_cons_succ, List.getElem_cons_zero]
  refine wpAnyZ_take (i := 2) (v := .int .i64 A) rfl (by kernel_rfl) (by kernel_rfl) (by kernel_rfl) (by kernel_rfl) (fun _ _ _ h => h) (Or.inl ⟨by rfl, fun w hSw => by obtain ⟨f0, f1⟩ := hSw; go_simp⟩) hH ?_
  try simp only [Act.put, List.setIfInBounds_toArray, List.set_cons_zero, List.set_cons_succ, List.getElem_toArray, List.getElem_cons_succ, List.getElem_cons_zero]
  refine wpAnyZ_take (i := 3) (v := .int .i64 A) rfl (by kernel_rfl) (by kernel_rfl) (by kernel_rfl) (by kernel_rfl) (fun _ _ _ h => h) (Or.inl ⟨by rfl, fun w hSw => by clear hSw; go_simp⟩) hH ?_
  try simp only [Act.put, List.setIfInBounds_toArray, List.set_cons_zero, List.set_cons_succ, List.getElem_toArray, List.getElem_cons_succ, List.getElem_cons_zero]
  refine wpAnyZ_take (i := 5) (v := .pointer (some ⟨b, 0, none⟩)) rfl (by kernel_rfl) (by kernel_rfl) (by kernel_rfl) (by kernel_rfl) (fun _ _ _ h => h) (Or.inl ⟨by rfl, fun w hSw => by clear hSw; go_simp⟩) hH ?_
  try simp only [Act.put, List.setIfInBounds_toArray, List.set_cons_zero, List.set_cons_succ, List.getElem_toArray, List.getElem_cons_succ, List.getElem_cons_zero]
  refine wpAnyZ_take (i := 6) (v := .pointer (some ⟨w.heap.size, 1, none⟩)) rfl (by kernel_rfl) (by kernel_rfl) (by kernel_rfl) (by kernel_rfl) (fun _ _ _ h => h) (Or.inl ⟨by rfl, fun w hSw => by clear hSw; go_simp⟩) hH ?_
  try simp only [Act.put, List.setIfInBounds_toArray, List.set_cons_zero, List.set_cons_succ, List.getElem_toArray, List.getElem_cons_succ, List.getElem_cons_zero]
  refine wpAnyZ_take (i := 7) (v := .int .i64 P) rfl (by kernel_rfl) (by kernel_rfl) (by kernel_rfl) (by kernel_rfl) (fun _ _ _ h => h) (Or.inl ⟨by rfl, fun w hSw => by obtain ⟨f0, f1⟩ := hSw; go_simp⟩) hH ?_
  try simp only [Act.put, List.setIfInBounds_toArray, List.set_cons_zero, List.set_cons_succ, List.getElem_toArray, List.getElem_cons_succ, List.getElem_cons_zero]
  refine wpAnyZ_take (i := 8) (v := .int .i64 (P + 2)) rfl (by kernel_rfl) (by kernel_rfl) (by kernel_rfl) (by kernel_rfl) (fun _ _ _ h => h) (Or.inl ⟨by rfl, fun w hSw => by clear hSw; go_simp⟩) hH ?_
  try simp only [Act.put, List.setIfInBounds_toArray, List.set_cons_zero, List.set_cons_succ, List.getElem_toArray, List.getElem_cons_succ, List.getElem_cons_zero]
  refine wpAnyZ_take (i := 9) (v := .int .i64 (P + 2)) rfl (by kernel_rfl) (by kernel_rfl) (by kernel_rfl) (by kernel_rfl) (fun _ _ _ h => h) (Or.inl ⟨by rfl, fun w hSw => by clear hSw; go_simp⟩) hH ?_
  try simp only [Act.put, List.setIfInBounds_toArray, List.set_cons_zero, List.set_cons_succ, List.getElem_toArray, List.getElem_cons_succ, List.getElem_cons_zero]
  refine wpAnyZ_ready (rs := [4]) (by kernel_rfl) (by simp) ?_
  refine AllReadyZ.cons rfl (fun K hK => ?_) AllReadyZ.nil
  go_simp
  go_at_call 32
  refine (HNx.out A at0 sd0 _ (by omega) (by omega) HS1.out.drew HL1b.out.drew).mono ?_
  rintro e w2 ⟨x, at2, s2, rfl, hx, q1, q2, hs2, hb2, ha2⟩
  have hx2 : 0 ≤ x ∧ x < A := by obtain ⟨u1, u2⟩ := hx; omega
  have hk2 : ∀ k, k ≠ b → w2.heap[k]? = W1.heap[k]? := fun k hk => ha2 k hk
  have HS2 : Hid (Src w2 b a len cap at2 s2 ∧ Below b W1 w2 ∧ Apt b W1 w2) := ⟨hs2, (Below.refl b W1).drew.trans hb2, hk2⟩
  have hne : w.heap.size ≠ b := by omega
  have hH2 : w2.cell? ⟨w.heap.size, 0, none⟩ = some (.int .i64 A) ∧ w2.cell? ⟨w.heap.size, 1, none⟩ = some (.int .i64 P) := ⟨(World.cell?_of_block (w := W1) (a := ⟨w.heap.size, 0, none⟩) (hk2 _ hne)).trans HC1.out.1, (World.cell?_of_block (w := W1) (a := ⟨w.heap.size, 1, none⟩) (hk2 _ hne)).trans HC1.out.2.1⟩
  clear hs2 hb2 ha2 hx hk2 hne
  refine hK.out _ _ (Or.inr hH2) (fun _ => ?_)
  clear hK K
  try simp only [Act.put, List.setIfInBounds_toArray, List.set_cons_zero, List.set_cons_succ, List.getElem_toArray, List.getElem_cons_succ, List.getElem_cons_zero]
  refine wpAnyZ_ready (rs := [10]) (by kernel_rfl) (by simp) ?_
  refine AllReadyZ.cons rfl (fun K hK => ?_) AllReadyZ.nil
  go_simp
  go_at_call 32
  refine (HNx.out (P + 2) at2 s2 _ (by omega) (by omega) HS2.out.1 (HL1b.out.trans HS2.out.2.1)).mono ?_
  rintro e w3 ⟨y, at3, s3, rfl, hy, q3, q4, hs3, hb3, ha3⟩
  have hy2 : 0 ≤ y ∧ y < P + 2 := by obtain ⟨u1, u2⟩ := hy; omega
  have hne1 : w.heap.size ≠ b := by omega
  have hne2 : w.heap.size + 1 ≠ b := by omega
  have hH3 : w3.cell? ⟨w.heap.size, 0, none⟩ = some (.int .i64 A) ∧ w3.cell? ⟨w.heap.size, 1, none⟩ = some (.int .i64 P) := ⟨(World.cell?_of_block (w := w2) (a := ⟨w.heap.size, 0, none⟩) (ha3 _ hne1)).trans hH2.1, (World.cell?_of_block (w := w2) (a := ⟨w.heap.size, 1, none⟩) (ha3 _ hne1)).trans hH2.2⟩
  have hB3 : w3.heap[w.heap.size + 1]? = some (.cells #[.int .i64 0, .int .i64 0] 35 (0, 0)) := (ha3 _ hne2).trans ((HS2.out.2.2 _ hne2).trans HC1.out.2.2.1)
  have HF3 : Hid (Src w3 b a len cap at3 s3 ∧ Below b w w3 ∧ Apart b w w3) := by
    refine ⟨hs3, ?_, ?_⟩
    · exact ((HL1.out.mono (by omega)).trans HS2.out.2.1).trans hb3
    · refine ⟨?_, fun k h1 h2 => ?_⟩
      · have := HL1.out.size; have := HS2.out.2.1.size; have := hb3.size; omega
      · have hkb : k ≠ b := by omega
        exact (ha3 k hkb).trans ((HS2.out.2.2 k hkb).trans (HL1.out.block k h2))
  clear hs3 hb3 ha3 hy hne1 hne2 HS2 hH2
  refine hK.out _ _ (Or.inr hH3) (fun _ => ?_)
  clear hK K
  try simp only [Act.put, List.setIfInBounds_toArray, List.set_cons_zero, List.set_cons_succ, List.getElem_toArray, List.getElem_cons_succ, List.getElem_cons_zero]
  refine wpAnyZ_take (i := 11) (v := .agg #[.int .i64 x, .int .i64 y]) rfl (by kernel_rfl) (by kernel_rfl) (by kernel_rfl) (by kernel_rfl) (fun _ _ _ h => h) (Or.inl ⟨by rfl, fun w hSw => by clear hSw; go_simp⟩) hH3 ?_
  try simp only [Act.put, List.setIfInBounds_toArray, List.set_cons_zero, List.set_cons_succ, List.getElem_toArray, List.getElem_cons_succ, List.getElem_cons_zero]
  have d0 := blkCell hB3 0 _ rfl
  have d1 := blkCell hB3 1 _ rfl
  have e0 := blkFree hB3 0
  have e1 := blkFree hB3 1
  simp only [List.getElem_toArray, List.getElem_cons_zero, List.getElem_cons_succ] at d0 d1
  refine wpAnyZ_ready (rs := [12]) (by kernel_rfl) (by simp) ?_
  refine AllReadyZ.cons rfl (fun K hK => ?_) AllReadyZ.nil
  go_simp
  refine hK.out _ _ (Or.inl rfl) (fun _ => ?_)
  clear hK K
  try simp only [Act.put, List.setIfInBounds_toArray, List.set_cons_zero, List.set_cons_succ, List.getElem_toArray, List.getElem_cons_succ, List.getElem_cons_zero]
  refine wpAnyZ_done (by kernel_rfl) ?_ _
  have g0 := heap_setCell_same w3 (w.heap.size + 1) 0 _ _ (.int .i64 x) hB3
  have g1 := heap_setCell_same _ (w.heap.size + 1) 1 _ _ (.int .i64 y) g0
  have hk4 : ∀ k, k ≠ w.heap.size + 1 → ((w3.setCell ⟨w.heap.size + 1, 0, none⟩ (.int .i64 x)).setCell ⟨w.heap.size + 1, 1, none⟩ (.int .i64 y)).heap[k]? = w3.heap[k]? := fun k hk => (Below.heap_setCell _ ⟨w.heap.size + 1, 1, none⟩ _ k hk).trans (Below.heap_setCell _ ⟨w.heap.size + 1, 0, none⟩ _ k hk)
  have hbl4 : Below (w.heap.size + 1) w3 ((w3.setCell ⟨w.heap.size + 1, 0, none⟩ (.int .i64 x)).setCell ⟨w.heap.size + 1, 1, none⟩ (.int .i64 y)) := ((Below.refl _ _).setCell (p := ⟨w.heap.size + 1, 0, none⟩) (Nat.le_refl _) _).setCell (p := ⟨w.heap.size + 1, 1, none⟩) (Nat.le_refl _) _
  obtain ⟨w4, hw4⟩ : ∃ w4, w4 = (w3.setCell ⟨w.heap.size + 1, 0, none⟩ (.int .i64 x)).setCell ⟨w.heap.size + 1, 1, none⟩ (.int .i64 y) := ⟨_, rfl⟩
  rw [← hw4] at g1 hk4 hbl4 ⊢
  clear hw4 g0 d0 d1 e0 e1
  have c0 := blkCell g1 0 (.int .i64 x) rfl
  have c1 := blkCell g1 1 (.int .i64 y) rfl
  have HFin : Hid (Src w4 b a len cap at3 s3 ∧ Below b w w4 ∧ Apart b w w4) := by
    obtain ⟨k1, k2, k3⟩ := HF3.out
    refine ⟨src_sameW k1 (hk4 b (by omega)) hbl4.size, k2.trans (hbl4.mono (by omega)), Nat.le_trans k3.1 hbl4.size, fun k h1 h2 => (hk4 k (by omega)).trans (k3.2 k h1 h2)⟩
  clear hk4 hbl4 g1 HF3 HS1 HC1 HL1 HL1b
  go_wp2_with fail
  refine bodyPost_ret (v := .agg #[.int .i64 x, .int .i64 y]) (by simp [results, Try.results34, go_sem, c0, c1]) rfl ⟨x, y, at3, s3, rfl, hx2, hy2, by omega, HFin.out⟩
end Go.Proofs.Ythmhpgbkapjjkaa

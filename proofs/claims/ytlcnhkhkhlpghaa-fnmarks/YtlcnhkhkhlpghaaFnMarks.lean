/-
  For every code the law FnMarks answers true, with no condition: drawn arguments are right; drawn steps bring no more than the best ones, whose units are those there were; the best steps bring what is told of them; more stock never brings less.
-/
import Derived.Test.YtlcnhkhkhlpghaaMsD
import Derived.Test.YtlcnhkhkhlpghaaRegZ
namespace Go.Proofs.Ytlcnhkhkhlpghaa
open Go.ChangeShapes Go.WideShapes Go.ChangeAt Go.RowKit Go.Deep
set_option linter.unusedVariables false

namespace FnMarks
set_option maxHeartbeats 16000000 in
set_option maxRecDepth 8000 in
theorem walk (a0 : Option Addr) (len0 cap0 : Nat) (z0 : List Int) (w : World) (r0 : RowB w.heap.size w a0 len0 z0) :
    Calls Try.prog 3 #[.slice a0 len0 cap0] w fun e w' => e = .returned (.bool true) ∧ Below w.heap.size w w' := by
  by_cases hbig : (1048576 : Int) < (len0 : Int)
  · clear r0
    go_enter Try.func3, Try.ntmps3
    go_wp2
    go_ret
    exact ⟨rfl, Below.refl _ _⟩
  have hT := marksOf_any a0 len0 cap0 z0 w r0
  clear r0
  go_enter Try.func3, Try.ntmps3
  go_wp2_with fail
  (first | go_at_call 7 | skip)
  refine hT.mono ?_
  rintro e w1 ⟨price, stock, ps, cs, ss, gp, cp, gd, cd, gs, cg, rfl, hD, r1, r2, r3, hb1⟩
  clear hT hbig
  obtain ⟨⟨hf, hf3, hc0, hsl⟩, hrv, hmo, hsm⟩ := mks_facts hD
  have hok := mkF_zero hf
  have hst := hD.st
  have hm7 := hok.cl
  have hp5 := hok.pl.2
  have hdm : ∀ r ∈ cs, DmOK r := fun r hr => by have := (hD.cr r hr).1; unfold DmOK; omega
  have hT2 := bmT_ok hf
  have HA : Hid (Reads w1.heap.size w1 (some ⟨gp, 0, none⟩) ps) := r1
  have HD : Hid (ReadsDm w1.heap.size w1 (some ⟨gd, 0, none⟩) cs) := r2
  have HS : Hid (Reads w1.heap.size w1 (some ⟨gs, 0, none⟩) ss) := r3
  have B1 : Hid (Below w.heap.size w w1) := hb1
  obtain ⟨f1, f2, f3⟩ := hsm ss hD.ss
  obtain ⟨g1, g2, g3⟩ := hsm (bmT price stock ps cs) hT2
  have hlT := bmT_len price stock ps cs
  have hl1 := slN_len cs ss stock cs.length
  have hl2 := slN_len cs (bmT price stock ps cs) stock cs.length
  obtain ⟨S1, hS1⟩ : ∃ S1, S1 = slN cs ss stock cs.length := ⟨_, rfl⟩
  obtain ⟨S2, hS2⟩ : ∃ S2, S2 = slN cs (bmT price stock ps cs) stock cs.length := ⟨_, rfl⟩
  obtain ⟨TT, hTT⟩ : ∃ TT, TT = bmT price stock ps cs := ⟨_, rfl⟩
  obtain ⟨v1, hv1⟩ : ∃ v1, v1 = rvN (prL price ps) cs ss stock cs.length := ⟨_, rfl⟩
  obtain ⟨v2, hv2⟩ : ∃ v2, v2 = rvN (prL price ps) cs (bmT price stock ps cs) stock cs.length := ⟨_, rfl⟩
  obtain ⟨v4, hv4⟩ : ∃ v4, v4 = rvN (prL price ps) cs (bmT price (stock + 3) ps cs) (stock + 3) cs.length := ⟨_, rfl⟩
  obtain ⟨l1, hl1e⟩ : ∃ l1, l1 = lfN cs ss stock cs.length := ⟨_, rfl⟩
  obtain ⟨l2, hl2e⟩ : ∃ l2, l2 = lfN cs (bmT price stock ps cs) stock cs.length := ⟨_, rfl⟩
  have HMk : Hid (∀ W, Reads W.heap.size W (some ⟨gp, 0, none⟩) ps → ReadsDm W.heap.size W (some ⟨gd, 0, none⟩) cs → Reads W.heap.size W (some ⟨gs, 0, none⟩) ss → Calls Try.prog 8 #[.int .i64 price, .int .i64 stock, .slice (some ⟨gp, 0, none⟩) ps.length cp, .slice (some ⟨gd, 0, none⟩) cs.length cd, .slice (some ⟨gs, 0, none⟩) ss.length cg] W fun e w' => ∃ q d n s x, e = .returned (.tuple #[.agg #[.slice q n d, .slice s S1.length x, .int .i64 v1, .int .i64 l1], .int .i64 0]) ∧ Reads w'.heap.size w' s S1 ∧ Below W.heap.size W w') := fun W k1 k2 k3 => by
    refine (implMarks_any price stock (some ⟨gp, 0, none⟩) cp ps (by omega) (some ⟨gd, 0, none⟩) cd cs (by omega) hdm gs 0 cg ss (by omega) W k1 k2 k3).mono ?_
    rintro e w' ⟨q, d, s, x, mid, he, _, _, q2, q3⟩
    unfold mkS' mkV mkE at he
    unfold mkS' at q2
    rw [if_pos hc0, if_pos hc0, if_pos hc0, hc0, hsl, ← hS1, ← hv1, ← hl1e] at he
    rw [if_pos hc0, hsl, ← hS1] at q2
    exact ⟨q, d, _, s, x, he, q2.reads, q3⟩
  have HBs : Hid (∀ W, Reads W.heap.size W (some ⟨gp, 0, none⟩) ps → ReadsDm W.heap.size W (some ⟨gd, 0, none⟩) cs → Calls Try.prog 9 #[.int .i64 price, .int .i64 stock, .slice (some ⟨gp, 0, none⟩) ps.length cp, .slice (some ⟨gd, 0, none⟩) cs.length cd] W fun e w' => ∃ gq d s x, e = .returned (.tuple #[.agg #[.slice (some ⟨gq, 0, none⟩) TT.length d, .slice s S2.length x, .int .i64 v2, .int .i64 l2], .int .i64 0]) ∧ Reads w'.heap.size w' (some ⟨gq, 0, none⟩) TT ∧ Reads w'.heap.size w' s S2 ∧ Below W.heap.size W w') := fun W k1 k2 => by
    refine (implBestMarks_any price stock (some ⟨gp, 0, none⟩) cp ps (by omega) (some ⟨gd, 0, none⟩) cd cs (by omega) hdm W k1 k2).mono ?_
    rintro e w' ⟨q, d, s, x, mid, he, _, q1, q2, q3⟩
    unfold bmL bmS bmV bmE at he
    unfold bmL at q1
    unfold bmS at q2
    rw [if_pos hf, if_pos hf, if_pos hf, if_pos hf, hf, ← hS2, ← hv2, ← hl2e, ← hTT] at he
    rw [if_pos hf, ← hTT] at q1
    rw [if_pos hf, ← hS2] at q2
    have hr1 := q1.reads
    rcases q1 with q1 | ⟨b', e', _⟩
    · exfalso
      have : TT.length = 0 := by rw [q1]; rfl
      rw [hTT, hlT] at this
      omega
    · rw [e'] at he hr1
      exact ⟨b', d, s, x, he, hr1, q2.reads, q3⟩
  have HMb : Hid (∀ gq d W, Reads W.heap.size W (some ⟨gp, 0, none⟩) ps → ReadsDm W.heap.size W (some ⟨gd, 0, none⟩) cs → Reads W.heap.size W (some ⟨gq, 0, none⟩) TT → Calls Try.prog 8 #[.int .i64 price, .int .i64 stock, .slice (some ⟨gp, 0, none⟩) ps.length cp, .slice (some ⟨gd, 0, none⟩) cs.length cd, .slice (some ⟨gq, 0, none⟩) TT.length d] W fun e w' => ∃ q d n s x k l, e = .returned (.tuple #[.agg #[.slice q n d, .slice s k x, .int .i64 v2, .int .i64 l], .int .i64 0]) ∧ Below W.heap.size W w') := fun gq d W k1 k2 k3 => by
    have hcb := mk_best hf
    refine (implMarks_any price stock (some ⟨gp, 0, none⟩) cp ps (by omega) (some ⟨gd, 0, none⟩) cd cs (by omega) hdm gq 0 d TT (by rw [hTT, hlT]; omega) W k1 k2 k3).mono ?_
    rintro e w' ⟨q, d, s, x, mid, he, _, _, _, q3⟩
    unfold mkV at he
    rw [hTT, if_pos hcb, hcb, hlT, ← hv2] at he
    exact ⟨q, d, _, s, x, _, _, he, q3⟩
  have HBx : Hid (∀ W, Reads W.heap.size W (some ⟨gp, 0, none⟩) ps → ReadsDm W.heap.size W (some ⟨gd, 0, none⟩) cs → Calls Try.prog 9 #[.int .i64 price, .int .i64 (stock + 3), .slice (some ⟨gp, 0, none⟩) ps.length cp, .slice (some ⟨gd, 0, none⟩) cs.length cd] W fun e w' => ∃ q d n s x k l, e = .returned (.tuple #[.agg #[.slice q n d, .slice s k x, .int .i64 v4, .int .i64 l], .int .i64 0]) ∧ Below W.heap.size W w') := fun W k1 k2 => by
    refine (implBestMarks_any price (stock + 3) (some ⟨gp, 0, none⟩) cp ps (by omega) (some ⟨gd, 0, none⟩) cd cs (by omega) hdm W k1 k2).mono ?_
    rintro e w' ⟨q, d, s, x, mid, he, _, _, _, q3⟩
    unfold bmV at he
    rw [if_pos hf3, hf3, ← hv4] at he
    exact ⟨q, d, _, s, x, _, _, he, q3⟩
  rw [← hS1] at f1 f2
  rw [← hS2] at g1 g2
  rw [← hl1e] at f2 f3
  rw [← hl2e] at g2 g3
  rw [← hv1, ← hv2] at hrv
  rw [← hv2, ← hv4] at hmo
  have hn1 : S1.length ≤ 100 := by rw [hS1, slN_len]; omega
  have hn2 : S2.length ≤ 100 := by rw [hS2, slN_len]; omega
  have HSm : Hid (∀ s x W, Reads W.heap.size W s S1 → Calls Try.prog 10 #[.slice s S1.length x] W fun e w' => e = .returned (.int .i64 (psum S1 S1.length)) ∧ w' = W) := fun s x W k => sumMs_any s x S1 hn1 f1 W k
  have HSn : Hid (∀ s x W, Reads W.heap.size W s S2 → Calls Try.prog 10 #[.slice s S2.length x] W fun e w' => e = .returned (.int .i64 (psum S2 S2.length)) ∧ w' = W) := fun s x W k => sumMs_any s x S2 hn2 g1 W k
  have f4 := (f1 S1.length (Nat.le_refl _))
  have g4 := (g1 S2.length (Nat.le_refl _))
  clear hS1 hS2 hTT hv1 hv2 hv4 hl1e hl2e hf hf3 hc0 hsl hsm hok hD hdm hT2 r1 r2 r3 hb1 f1 g1 hlT hl1 hl2
  obtain ⟨sm1, hsm1⟩ : ∃ sm1, sm1 = psum S1 S1.length := ⟨_, rfl⟩
  obtain ⟨sm2, hsm2⟩ : ∃ sm2, sm2 = psum S2 S2.length := ⟨_, rfl⟩
  rw [← hsm1] at HSm f2 f4
  rw [← hsm2] at HSn g2 g4
  clear hsm1 hsm2
  have hws : IntKind.i64.wrap (stock + 3) = stock + 3 := wrap_id _ (by omega) (by omega)
  have hw1 : IntKind.i64.wrap (sm1 + l1) = stock := by rw [wrap_id _ (by omega) (by omega)]; exact f2
  have hw2 : IntKind.i64.wrap (sm2 + l2) = stock := by rw [wrap_id _ (by omega) (by omega)]; exact g2
  go_wp2_with fail
  (first | go_at_call 8 | skip)
  refine (HMk.out w1 HA.out HD.out HS.out).mono ?_
  rintro e w2 ⟨q1, d1, n1, s1, x1, rfl, hr1, hb⟩
  have A2 : Hid (Reads w2.heap.size w2 (some ⟨gp, 0, none⟩) ps) := HA.out.later hb
  have D2 : Hid (ReadsDm w2.heap.size w2 (some ⟨gd, 0, none⟩) cs) := HD.out.later hb
  have B2 : Hid (Below w.heap.size w w2) := chain B1.out hb
  have R2 : Hid (Reads w2.heap.size w2 s1 S1) := hr1
  clear hb hr1 HA HD HS B1 HMk
  obtain ⟨w3, hw3⟩ : ∃ w3, w3 = w2.alloc (Obj.cells #[.slice q1 n1 d1, .slice s1 S1.length x1, .int .i64 v1, .int .i64 l1] 28) := ⟨_, rfl⟩
  obtain ⟨b8, hb8⟩ : ∃ b8, b8 = w2.heap.size := ⟨_, rfl⟩
  have HW3 : Hid (w3 = w2.alloc (Obj.cells #[.slice q1 n1 d1, .slice s1 S1.length x1, .int .i64 v1, .int .i64 l1] 28) ∧ b8 = w2.heap.size) := ⟨hw3, hb8⟩
  have hb : Below w2.heap.size w2 w3 := by rw [hw3]; exact below_alloc _ _
  have P3 : Hid (w3.heap[b8]? = some (.cells #[.slice q1 n1 d1, .slice s1 S1.length x1, .int .i64 v1, .int .i64 l1] 28 (0, 0))) := by show _ = _; rw [hw3, hb8]; exact heapNew _ _
  have A3 : Hid (Reads w3.heap.size w3 (some ⟨gp, 0, none⟩) ps) := A2.out.later hb
  have D3 : Hid (ReadsDm w3.heap.size w3 (some ⟨gd, 0, none⟩) cs) := D2.out.later hb
  have B3 : Hid (Below w.heap.size w w3) := chain B2.out hb
  have R3 : Hid (Reads w3.heap.size w3 s1 S1) := R2.out.later hb
  clear hw3 hb8 hb A2 D2 B2 R2
  go_upto_region 5 with fail
  rw [← HW3.out.1, ← HW3.out.2]
  clear HW3
  go_wp2_with fail
  (first | go_at_call 9 | skip)
  refine (HBs.out w3 A3.out D3.out).mono ?_
  rintro e w4 ⟨gq, d2, s2, x2, rfl, hr1, hr2, hb⟩
  have A4 : Hid (Reads w4.heap.size w4 (some ⟨gp, 0, none⟩) ps) := A3.out.later hb
  have D4 : Hid (ReadsDm w4.heap.size w4 (some ⟨gd, 0, none⟩) cs) := D3.out.later hb
  have B4 : Hid (Below w.heap.size w w4) := chain B3.out hb
  have R4 : Hid (Reads w4.heap.size w4 s1 S1) := R3.out.later hb
  have P4 : Hid (w4.heap[b8]? = some (.cells #[.slice q1 n1 d1, .slice s1 S1.length x1, .int .i64 v1, .int .i64 l1] 28 (0, 0))) := (hb.block b8 (blkLt P3.out)).trans P3.out
  have T4 : Hid (Reads w4.heap.size w4 (some ⟨gq, 0, none⟩) TT) := hr1
  have U4 : Hid (Reads w4.heap.size w4 s2 S2) := hr2
  clear hb hr1 hr2 A3 D3 B3 R3 P3 HBs
  obtain ⟨w5, hw5⟩ : ∃ w5, w5 = w4.alloc (Obj.cells #[.slice (some ⟨gq, 0, none⟩) TT.length d2, .slice s2 S2.length x2, .int .i64 v2, .int .i64 l2] 28) := ⟨_, rfl⟩
  obtain ⟨b10, hb10⟩ : ∃ b10, b10 = w4.heap.size := ⟨_, rfl⟩
  have HW5 : Hid (w5 = w4.alloc (Obj.cells #[.slice (some ⟨gq, 0, none⟩) TT.length d2, .slice s2 S2.length x2, .int .i64 v2, .int .i64 l2] 28) ∧ b10 = w4.heap.size) := ⟨hw5, hb10⟩
  have hb : Below w4.heap.size w4 w5 := by rw [hw5]; exact below_alloc _ _
  have Q5 : Hid (w5.heap[b10]? = some (.cells #[.slice (some ⟨gq, 0, none⟩) TT.length d2, .slice s2 S2.length x2, .int .i64 v2, .int .i64 l2] 28 (0, 0))) := by show _ = _; rw [hw5, hb10]; exact heapNew _ _
  have P5 : Hid (w5.heap[b8]? = some (.cells #[.slice q1 n1 d1, .slice s1 S1.length x1, .int .i64 v1, .int .i64 l1] 28 (0, 0))) := (hb.block b8 (blkLt P4.out)).trans P4.out
  have A5 : Hid (Reads w5.heap.size w5 (some ⟨gp, 0, none⟩) ps) := A4.out.later hb
  have D5 : Hid (ReadsDm w5.heap.size w5 (some ⟨gd, 0, none⟩) cs) := D4.out.later hb
  have B5 : Hid (Below w.heap.size w w5) := chain B4.out hb
  have R5 : Hid (Reads w5.heap.size w5 s1 S1) := R4.out.later hb
  have T5 : Hid (Reads w5.heap.size w5 (some ⟨gq, 0, none⟩) TT) := T4.out.later hb
  have U5 : Hid (Reads w5.heap.size w5 s2 S2) := U4.out.later hb
  clear hw5 hb10 hb A4 D4 B4 R4 T4 U4 P4
  go_upto_region 6 with fail
  rw [← HW5.out.1, ← HW5.out.2]
  clear HW5
  have y1 := blkCell P5.out 1 _ rfl
  have y2 := blkCell P5.out 2 _ rfl
  have y3 := blkCell P5.out 3 _ rfl
  have z1 := blkCell Q5.out 1 _ rfl
  have z2 := blkCell Q5.out 2 _ rfl
  have z3 := blkCell Q5.out 3 _ rfl
  simp only [List.getElem_toArray, List.getElem_cons_zero, List.getElem_cons_succ] at y1 y2 y3 z1 z2 z3
  have k1 : decide (v2 < v1) = false := decide_eq_false (by omega)
  have k1b : ¬ v2 < v1 := by omega
  have k2 : (stock != stock) = false := by simp
  have k3 : ¬ l2 < 0 := by omega
  have HSm5 : Hid (∀ X, Below w5.heap.size w5 X → Calls Try.prog 10 #[.slice s1 S1.length x1] X fun e w' => e = .returned (.int .i64 sm1) ∧ w' = X) := fun X hb => HSm.out s1 x1 _ (R5.out.later hb)
  have HSn5 : Hid (∀ X, Below w5.heap.size w5 X → Calls Try.prog 10 #[.slice s2 S2.length x2] X fun e w' => e = .returned (.int .i64 sm2) ∧ w' = X) := fun X hb => HSn.out s2 x2 _ (U5.out.later hb)
  have HY : Hid (∀ X, Below w5.heap.size w5 X → (X.cell? ⟨b8, 1, none⟩ = some (.slice s1 S1.length x1) ∧ X.cell? ⟨b8, 2, none⟩ = some (.int .i64 v1) ∧ X.cell? ⟨b8, 3, none⟩ = some (.int .i64 l1)) ∧ X.cell? ⟨b10, 1, none⟩ = some (.slice s2 S2.length x2) ∧ X.cell? ⟨b10, 2, none⟩ = some (.int .i64 v2) ∧ X.cell? ⟨b10, 3, none⟩ = some (.int .i64 l2)) := fun X hb => by
    have p := (hb.block b8 (blkLt P5.out)).trans P5.out
    have q := (hb.block b10 (blkLt Q5.out)).trans Q5.out
    exact ⟨⟨blkCell p 1 _ rfl, blkCell p 2 _ rfl, blkCell p 3 _ rfl⟩, blkCell q 1 _ rfl, blkCell q 2 _ rfl, blkCell q 3 _ rfl⟩
  clear f2 f4 g2 g4 hn1 hn2 HSm HSn y1 y2 y3 z1 z2 z3
  as_aux_lemma =>
    refine wp_region_z (S := fun X => Below w5.heap.size w5 X) 37 (by kernel_rfl) (below_drew _) (fun hH => ?_)
    refine wpAnyZ_take (i := 0) (v := .int .i64 0) rfl (by kernel_rfl) (by kernel_rfl) (by kernel_rfl) (by kernel_rfl) (fun _ _ _ h => h) (Or.inl ⟨by rfl, fun w hSw => by clear hSw; go_simp⟩) hH ?_
    refine wpAnyZ_take (i := 1) (v := .bool false) rfl (by kernel_rfl) (by kernel_rfl) (by kernel_rfl) (by kernel_rfl) (fun _ _ _ h => h) (Or.inl ⟨by rfl, fun w hSw => by clear hSw; go_simp⟩) hH ?_
    try simp only [Act.put, List.setIfInBounds_toArray, List.set_cons_zero, List.set_cons_succ, List.getElem_toArray, List.getElem_cons_succ, List.getElem_cons_zero]
    refine wpAnyZ_take (i := 2) (v := .bool false) rfl (by kernel_rfl) (by kernel_rfl) (by kernel_rfl) (by kernel_rfl) (fun _ _ _ h => h) (Or.inl ⟨by rfl, fun w hSw => by clear hSw; go_simp⟩) hH ?_
    try simp only [Act.put, List.setIfInBounds_toArray, List.set_cons_zero, List.set_cons_succ, List.getElem_toArray, List.getElem_cons_succ, List.getElem_cons_zero]
    refine wpAnyZ_take (i := 3) (v := .int .i64 0) rfl (by kernel_rfl) (by kernel_rfl) (by kernel_rfl) (by kernel_rfl) (fun _ _ _ h => h) (Or.inl ⟨by rfl, fun w hSw => by clear hSw; go_simp⟩) hH ?_
    try simp only [Act.put, List.setIfInBounds_toArray, List.set_cons_zero, List.set_cons_succ, List.getElem_toArray, List.getElem_cons_succ, List.getElem_cons_zero]
    refine wpAnyZ_take (i := 4) (v := .bool false) rfl (by kernel_rfl) (by kernel_rfl) (by kernel_rfl) (by kernel_rfl) (fun _ _ _ h => h) (Or.inl ⟨by rfl, fun w hSw => by clear hSw; go_simp⟩) hH ?_
    try simp only [Act.put, List.setIfInBounds_toArray, List.set_cons_zero, List.set_cons_succ, List.getElem_toArray, List.getElem_cons_succ, List.getElem_cons_zero]
    refine wpAnyZ_take (i := 5) (v := .bool false) rfl (by kernel_rfl) (by kernel_rfl) (by kernel_rfl) (by kernel_rfl) (fun _ _ _ h => h) (Or.inl ⟨by rfl, fun w hSw => by clear hSw; go_simp⟩) hH ?_
    try simp only [Act.put, List.setIfInBounds_toArray, List.set_cons_zero, List.set_cons_succ, List.getElem_toArray, List.getElem_cons_succ, List.getElem_cons_zero]
    refine wpAnyZ_take (i := 6) (v := .bool false) rfl (by kernel_rfl) (by kernel_rfl) (by kernel_rfl) (by kernel_rfl) (fun _ _ _ h => h) (Or.inl ⟨by rfl, fun w hSw => by clear hSw; go_simp⟩) hH ?_
    try simp only [Act.put, List.setIfInBounds_toArray, List.set_cons_zero, List.set_cons_succ, List.getElem_toArray, List.getElem_cons_succ, List.getElem_cons_zero]
    as_aux_lemma =>
      refine wpAnyZ_take (i := 7) (v := .pointer (some ⟨b8, 2, none⟩)) rfl (by kernel_rfl) (by kernel_rfl) (by kernel_rfl) (by kernel_rfl) (fun _ _ _ h => h) (Or.inl ⟨by rfl, fun w hSw => by clear hSw; go_simp⟩) hH ?_
      try simp only [Act.put, List.setIfInBounds_toArray, List.set_cons_zero, List.set_cons_succ, List.getElem_toArray, List.getElem_cons_succ, List.getElem_cons_zero]
      refine wpAnyZ_take (i := 8) (v := .int .i64 v1) rfl (by kernel_rfl) (by kernel_rfl) (by kernel_rfl) (by kernel_rfl) (fun _ _ _ h => h) (Or.inl ⟨by rfl, fun w hSw => by have f := (HY.out w hSw).1.2.1; clear hSw; go_simp⟩) hH ?_
      try simp only [Act.put, List.setIfInBounds_toArray, List.set_cons_zero, List.set_cons_succ, List.getElem_toArray, List.getElem_cons_succ, List.getElem_cons_zero]
      refine wpAnyZ_take (i := 9) (v := .pointer (some ⟨b10, 2, none⟩)) rfl (by kernel_rfl) (by kernel_rfl) (by kernel_rfl) (by kernel_rfl) (fun _ _ _ h => h) (Or.inl ⟨by rfl, fun w hSw => by clear hSw; go_simp⟩) hH ?_
      try simp only [Act.put, List.setIfInBounds_toArray, List.set_cons_zero, List.set_cons_succ, List.getElem_toArray, List.getElem_cons_succ, List.getElem_cons_zero]
      refine wpAnyZ_take (i := 10) (v := .int .i64 v2) rfl (by kernel_rfl) (by kernel_rfl) (by kernel_rfl) (by kernel_rfl) (fun _ _ _ h => h) (Or.inl ⟨by rfl, fun w hSw => by have f := (HY.out w hSw).2.2.1; clear hSw; go_simp⟩) hH ?_
      try simp only [Act.put, List.setIfInBounds_toArray, List.set_cons_zero, List.set_cons_succ, List.getElem_toArray, List.getElem_cons_succ, List.getElem_cons_zero]
      refine wpAnyZ_take (i := 11) (v := .bool false) rfl (by kernel_rfl) (by kernel_rfl) (by kernel_rfl) (by kernel_rfl) (fun _ _ _ h => h) (Or.inl ⟨by rfl, fun w hSw => by clear hSw; go_simp⟩) hH ?_
      try simp only [Act.put, List.setIfInBounds_toArray, List.set_cons_zero, List.set_cons_succ, List.getElem_toArray, List.getElem_cons_succ, List.getElem_cons_zero]
      refine wpAnyZ_take (i := 12) (v := .bool false) rfl (by kernel_rfl) (by kernel_rfl) (by kernel_rfl) (by kernel_rfl) (fun _ _ _ h => h) (Or.inl ⟨by rfl, fun w hSw => by clear hSw; go_simp⟩) hH ?_
      try simp only [Act.put, List.setIfInBounds_toArray, List.set_cons_zero, List.set_cons_succ, List.getElem_toArray, List.getElem_cons_succ, List.getElem_cons_zero]
      refine wpAnyZ_take (i := 13) (v := .bool false) rfl (by kernel_rfl) (by kernel_rfl) (by kernel_rfl) (by kernel_rfl) (fun _ _ _ h => h) (Or.inl ⟨by rfl, fun w hSw => by clear hSw; go_simp⟩) hH ?_
      try simp only [Act.put, List.setIfInBounds_toArray, List.set_cons_zero, List.set_cons_succ, List.getElem_toArray, List.getElem_cons_succ, List.getElem_cons_zero]
      as_aux_lemma =>
        refine wpAnyZ_take (i := 14) (v := .pointer (some ⟨b10, 1, none⟩)) rfl (by kernel_rfl) (by kernel_rfl) (by kernel_rfl) (by kernel_rfl) (fun _ _ _ h => h) (Or.inl ⟨by rfl, fun w hSw => by clear hSw; go_simp⟩) hH ?_
        try simp only [Act.put, List.setIfInBounds_toArray, List.set_cons_zero, List.set_cons_succ, List.getElem_toArray, List.getElem_cons_succ, List.getElem_cons_zero]
        refine wpAnyZ_take (i := 15) (v := .slice s2 S2.length x2) rfl (by kernel_rfl) (by kernel_rfl) (by kernel_rfl) (by kernel_rfl) (fun _ _ _ h => h) (Or.inl ⟨by rfl, fun w hSw => by have f := (HY.out w hSw).2.1; clear hSw; go_simp⟩) hH ?_
        try simp only [Act.put, List.setIfInBounds_toArray, List.set_cons_zero, List.set_cons_succ, List.getElem_toArray, List.getElem_cons_succ, List.getElem_cons_zero]
        refine wpAnyZ_take (i := 17) (v := .pointer (some ⟨b10, 3, none⟩)) rfl (by kernel_rfl) (by kernel_rfl) (by kernel_rfl) (by kernel_rfl) (fun _ _ _ h => h) (Or.inl ⟨by rfl, fun w hSw => by clear hSw; go_simp⟩) hH ?_
        try simp only [Act.put, List.setIfInBounds_toArray, List.set_cons_zero, List.set_cons_succ, List.getElem_toArray, List.getElem_cons_succ, List.getElem_cons_zero]
        refine wpAnyZ_take (i := 18) (v := .int .i64 l2) rfl (by kernel_rfl) (by kernel_rfl) (by kernel_rfl) (by kernel_rfl) (fun _ _ _ h => h) (Or.inl ⟨by rfl, fun w hSw => by have f := (HY.out w hSw).2.2.2; clear hSw; go_simp⟩) hH ?_
        try simp only [Act.put, List.setIfInBounds_toArray, List.set_cons_zero, List.set_cons_succ, List.getElem_toArray, List.getElem_cons_succ, List.getElem_cons_zero]
        refine wpAnyZ_take (i := 20) (v := .int .i64 stock) rfl (by kernel_rfl) (by kernel_rfl) (by kernel_rfl) (by kernel_rfl) (fun _ _ _ h => h) (Or.inl ⟨by rfl, fun w hSw => by clear hSw; go_simp⟩) hH ?_
        try simp only [Act.put, List.setIfInBounds_toArray, List.set_cons_zero, List.set_cons_succ, List.getElem_toArray, List.getElem_cons_succ, List.getElem_cons_zero]
        refine wpAnyZ_ready (rs := [16]) (by kernel_rfl) (by simp) ?_
        refine AllReadyZ.cons rfl (fun K hK => ?_) AllReadyZ.nil
        go_simp
        go_at_call 10
        refine (HSn5.out _ hH).mono ?_
        rintro e w6 ⟨rfl, h6⟩
        rw [h6]
        clear h6
        refine hK.out _ _ (Or.inr hH) (fun _ => ?_)
        clear hK K
        try simp only [Act.put, List.setIfInBounds_toArray, List.set_cons_zero, List.set_cons_succ, List.getElem_toArray, List.getElem_cons_succ, List.getElem_cons_zero]
        as_aux_lemma =>
          refine wpAnyZ_take (i := 19) (v := .int .i64 stock) rfl (by kernel_rfl) (by kernel_rfl) (by kernel_rfl) (by kernel_rfl) (fun _ _ _ h => h) (Or.inl ⟨by rfl, fun w hSw => by have f0 := hw2; clear hSw; go_simp⟩) hH ?_
          try simp only [Act.put, List.setIfInBounds_toArray, List.set_cons_zero, List.set_cons_succ, List.getElem_toArray, List.getElem_cons_succ, List.getElem_cons_zero]
          refine wpAnyZ_take (i := 21) (v := .bool false) rfl (by kernel_rfl) (by kernel_rfl) (by kernel_rfl) (by kernel_rfl) (fun _ _ _ h => h) (Or.inl ⟨by rfl, fun w hSw => by clear hSw; go_simp⟩) hH ?_
          try simp only [Act.put, List.setIfInBounds_toArray, List.set_cons_zero, List.set_cons_succ, List.getElem_toArray, List.getElem_cons_succ, List.getElem_cons_zero]
          refine wpAnyZ_take (i := 22) (v := .bool false) rfl (by kernel_rfl) (by kernel_rfl) (by kernel_rfl) (by kernel_rfl) (fun _ _ _ h => h) (Or.inl ⟨by rfl, fun w hSw => by clear hSw; go_simp⟩) hH ?_
          try simp only [Act.put, List.setIfInBounds_toArray, List.set_cons_zero, List.set_cons_succ, List.getElem_toArray, List.getElem_cons_succ, List.getElem_cons_zero]
          refine wpAnyZ_take (i := 23) (v := .bool false) rfl (by kernel_rfl) (by kernel_rfl) (by kernel_rfl) (by kernel_rfl) (fun _ _ _ h => h) (Or.inl ⟨by rfl, fun w hSw => by clear hSw; go_simp⟩) hH ?_
          try simp only [Act.put, List.setIfInBounds_toArray, List.set_cons_zero, List.set_cons_succ, List.getElem_toArray, List.getElem_cons_succ, List.getElem_cons_zero]
          as_aux_lemma =>
            refine wpAnyZ_take (i := 24) (v := .pointer (some ⟨b8, 1, none⟩)) rfl (by kernel_rfl) (by kernel_rfl) (by kernel_rfl) (by kernel_rfl) (fun _ _ _ h => h) (Or.inl ⟨by rfl, fun w hSw => by clear hSw; go_simp⟩) hH ?_
            try simp only [Act.put, List.setIfInBounds_toArray, List.set_cons_zero, List.set_cons_succ, List.getElem_toArray, List.getElem_cons_succ, List.getElem_cons_zero]
            refine wpAnyZ_take (i := 25) (v := .slice s1 S1.length x1) rfl (by kernel_rfl) (by kernel_rfl) (by kernel_rfl) (by kernel_rfl) (fun _ _ _ h => h) (Or.inl ⟨by rfl, fun w hSw => by have f := (HY.out w hSw).1.1; clear hSw; go_simp⟩) hH ?_
            try simp only [Act.put, List.setIfInBounds_toArray, List.set_cons_zero, List.set_cons_succ, List.getElem_toArray, List.getElem_cons_succ, List.getElem_cons_zero]
            refine wpAnyZ_take (i := 27) (v := .pointer (some ⟨b8, 3, none⟩)) rfl (by kernel_rfl) (by kernel_rfl) (by kernel_rfl) (by kernel_rfl) (fun _ _ _ h => h) (Or.inl ⟨by rfl, fun w hSw => by clear hSw; go_simp⟩) hH ?_
            try simp only [Act.put, List.setIfInBounds_toArray, List.set_cons_zero, List.set_cons_succ, List.getElem_toArray, List.getElem_cons_succ, List.getElem_cons_zero]
            refine wpAnyZ_take (i := 28) (v := .int .i64 l1) rfl (by kernel_rfl) (by kernel_rfl) (by kernel_rfl) (by kernel_rfl) (fun _ _ _ h => h) (Or.inl ⟨by rfl, fun w hSw => by have f := (HY.out w hSw).1.2.2; clear hSw; go_simp⟩) hH ?_
            try simp only [Act.put, List.setIfInBounds_toArray, List.set_cons_zero, List.set_cons_succ, List.getElem_toArray, List.getElem_cons_succ, List.getElem_cons_zero]
            refine wpAnyZ_take (i := 30) (v := .int .i64 stock) rfl (by kernel_rfl) (by kernel_rfl) (by kernel_rfl) (by kernel_rfl) (fun _ _ _ h => h) (Or.inl ⟨by rfl, fun w hSw => by clear hSw; go_simp⟩) hH ?_
            try simp only [Act.put, List.setIfInBounds_toArray, List.set_cons_zero, List.set_cons_succ, List.getElem_toArray, List.getElem_cons_succ, List.getElem_cons_zero]
            refine wpAnyZ_ready (rs := [26]) (by kernel_rfl) (by simp) ?_
            refine AllReadyZ.cons rfl (fun K hK => ?_) AllReadyZ.nil
            go_simp
            go_at_call 10
            refine (HSm5.out _ hH).mono ?_
            rintro e w6 ⟨rfl, h6⟩
            rw [h6]
            clear h6
            refine hK.out _ _ (Or.inr hH) (fun _ => ?_)
            clear hK K
            try simp only [Act.put, List.setIfInBounds_toArray, List.set_cons_zero, List.set_cons_succ, List.getElem_toArray, List.getElem_cons_succ, List.getElem_cons_zero]
            as_aux_lemma =>
              refine wpAnyZ_take (i := 29) (v := .int .i64 stock) rfl (by kernel_rfl) (by kernel_rfl) (by kernel_rfl) (by kernel_rfl) (fun _ _ _ h => h) (Or.inl ⟨by rfl, fun w hSw => by have f0 := hw1; clear hSw; go_simp⟩) hH ?_
              try simp only [Act.put, List.setIfInBounds_toArray, List.set_cons_zero, List.set_cons_succ, List.getElem_toArray, List.getElem_cons_succ, List.getElem_cons_zero]
              refine wpAnyZ_take (i := 31) (v := .bool false) rfl (by kernel_rfl) (by kernel_rfl) (by kernel_rfl) (by kernel_rfl) (fun _ _ _ h => h) (Or.inl ⟨by rfl, fun w hSw => by clear hSw; go_simp⟩) hH ?_
              try simp only [Act.put, List.setIfInBounds_toArray, List.set_cons_zero, List.set_cons_succ, List.getElem_toArray, List.getElem_cons_succ, List.getElem_cons_zero]
              refine wpAnyZ_take (i := 32) (v := .bool false) rfl (by kernel_rfl) (by kernel_rfl) (by kernel_rfl) (by kernel_rfl) (fun _ _ _ h => h) (Or.inl ⟨by rfl, fun w hSw => by clear hSw; go_simp⟩) hH ?_
              try simp only [Act.put, List.setIfInBounds_toArray, List.set_cons_zero, List.set_cons_succ, List.getElem_toArray, List.getElem_cons_succ, List.getElem_cons_zero]
              refine wpAnyZ_take (i := 33) (v := .bool false) rfl (by kernel_rfl) (by kernel_rfl) (by kernel_rfl) (by kernel_rfl) (fun _ _ _ h => h) (Or.inl ⟨by rfl, fun w hSw => by clear hSw; go_simp⟩) hH ?_
              try simp only [Act.put, List.setIfInBounds_toArray, List.set_cons_zero, List.set_cons_succ, List.getElem_toArray, List.getElem_cons_succ, List.getElem_cons_zero]
              refine wpAnyZ_take (i := 34) (v := .pointer (some ⟨b10, 3, none⟩)) rfl (by kernel_rfl) (by kernel_rfl) (by kernel_rfl) (by kernel_rfl) (fun _ _ _ h => h) (Or.inl ⟨by rfl, fun w hSw => by clear hSw; go_simp⟩) hH ?_
              try simp only [Act.put, List.setIfInBounds_toArray, List.set_cons_zero, List.set_cons_succ, List.getElem_toArray, List.getElem_cons_succ, List.getElem_cons_zero]
              refine wpAnyZ_take (i := 35) (v := .int .i64 l2) rfl (by kernel_rfl) (by kernel_rfl) (by kernel_rfl) (by kernel_rfl) (fun _ _ _ h => h) (Or.inl ⟨by rfl, fun w hSw => by have f := (HY.out w hSw).2.2.2; clear hSw; go_simp⟩) hH ?_
              try simp only [Act.put, List.setIfInBounds_toArray, List.set_cons_zero, List.set_cons_succ, List.getElem_toArray, List.getElem_cons_succ, List.getElem_cons_zero]
              refine wpAnyZ_take (i := 36) (v := .bool false) rfl (by kernel_rfl) (by kernel_rfl) (by kernel_rfl) (by kernel_rfl) (fun _ _ _ h => h) (Or.inl ⟨by rfl, fun w hSw => by clear hSw; go_simp⟩) hH ?_
              try simp only [Act.put, List.setIfInBounds_toArray, List.set_cons_zero, List.set_cons_succ, List.getElem_toArray, List.getElem_cons_succ, List.getElem_cons_zero]
              refine wpAnyZ_ready (rs := [37]) (by kernel_rfl) (by simp) ?_
              refine AllReadyZ.cons rfl (fun K hK => ?_) AllReadyZ.nil
              go_simp
              refine hK.out _ _ (Or.inl rfl) (fun _ => ?_)
              clear hK K
              try simp only [Act.put, List.setIfInBounds_toArray, List.set_cons_zero, List.set_cons_succ, List.getElem_toArray, List.getElem_cons_succ, List.getElem_cons_zero]
              refine wpAnyZ_done (by kernel_rfl) ?_ _
              as_aux_lemma =>
                obtain ⟨w6, hw6⟩ : ∃ w6, w6 = w5.drew := ⟨_, rfl⟩
                rw [← hw6]
                have hb : Below w5.heap.size w5 w6 := by rw [hw6]; exact below_drew _
                have A6 : Hid (Reads w6.heap.size w6 (some ⟨gp, 0, none⟩) ps) := A5.out.later hb
                have D6 : Hid (ReadsDm w6.heap.size w6 (some ⟨gd, 0, none⟩) cs) := D5.out.later hb
                have B6 : Hid (Below w.heap.size w w6) := chain B5.out hb
                have T6 : Hid (Reads w6.heap.size w6 (some ⟨gq, 0, none⟩) TT) := T5.out.later hb
                have Q6 : Hid (w6.heap[b10]? = some (.cells #[.slice (some ⟨gq, 0, none⟩) TT.length d2, .slice s2 S2.length x2, .int .i64 v2, .int .i64 l2] 28 (0, 0))) := (hb.block b10 (blkLt Q5.out)).trans Q5.out
                clear hw6 hb hH HY HSm5 HSn5 A5 D5 B5 T5 Q5 P5 R5 U5
                have z0 := blkCell Q6.out 0 _ rfl
                simp only [List.getElem_toArray, List.getElem_cons_zero] at z0
                go_wp2_with fail
                (first | go_at_call 8 | skip)
                refine (HMb.out gq d2 w6 A6.out D6.out T6.out).mono ?_
                rintro e w7 ⟨q7, d7, n7, s7, x7, k7, l7, rfl, hb⟩
                have A7 : Hid (Reads w7.heap.size w7 (some ⟨gp, 0, none⟩) ps) := A6.out.later hb
                have D7 : Hid (ReadsDm w7.heap.size w7 (some ⟨gd, 0, none⟩) cs) := D6.out.later hb
                have B7 : Hid (Below w.heap.size w w7) := chain B6.out hb
                have Q7 : Hid (w7.heap[b10]? = some (.cells #[.slice (some ⟨gq, 0, none⟩) TT.length d2, .slice s2 S2.length x2, .int .i64 v2, .int .i64 l2] 28 (0, 0))) := (hb.block b10 (blkLt Q6.out)).trans Q6.out
                clear hb A6 D6 B6 T6 Q6 HMb z0
                as_aux_lemma =>
                  obtain ⟨w8, hw8⟩ : ∃ w8, w8 = w7.alloc (Obj.cells #[.slice q7 n7 d7, .slice s7 k7 x7, .int .i64 v2, .int .i64 l7] 28) := ⟨_, rfl⟩
                  obtain ⟨b12, hb12⟩ : ∃ b12, b12 = w7.heap.size := ⟨_, rfl⟩
                  have HW8 : Hid (w8 = w7.alloc (Obj.cells #[.slice q7 n7 d7, .slice s7 k7 x7, .int .i64 v2, .int .i64 l7] 28) ∧ b12 = w7.heap.size) := ⟨hw8, hb12⟩
                  have hb : Below w7.heap.size w7 w8 := by rw [hw8]; exact below_alloc _ _
                  have X8 : Hid (w8.heap[b12]? = some (.cells #[.slice q7 n7 d7, .slice s7 k7 x7, .int .i64 v2, .int .i64 l7] 28 (0, 0))) := by show _ = _; rw [hw8, hb12]; exact heapNew _ _
                  have Q8 : Hid (w8.heap[b10]? = some (.cells #[.slice (some ⟨gq, 0, none⟩) TT.length d2, .slice s2 S2.length x2, .int .i64 v2, .int .i64 l2] 28 (0, 0))) := (hb.block b10 (blkLt Q7.out)).trans Q7.out
                  have A8 : Hid (Reads w8.heap.size w8 (some ⟨gp, 0, none⟩) ps) := A7.out.later hb
                  have D8 : Hid (ReadsDm w8.heap.size w8 (some ⟨gd, 0, none⟩) cs) := D7.out.later hb
                  have B8 : Hid (Below w.heap.size w w8) := chain B7.out hb
                  clear hw8 hb12 hb A7 D7 B7 Q7
                  go_upto_region 9 with fail
                  rw [← HW8.out.1, ← HW8.out.2]
                  clear HW8
                  go_wp2_with fail
                  (first | go_at_call 9 | skip)
                  refine (HBx.out w8 A8.out D8.out).mono ?_
                  rintro e w9 ⟨q9, d9, n9, s9, x9, k9, l9, rfl, hb⟩
                  have B9 : Hid (Below w.heap.size w w9) := chain B8.out hb
                  have Q9 : Hid (w9.heap[b10]? = some (.cells #[.slice (some ⟨gq, 0, none⟩) TT.length d2, .slice s2 S2.length x2, .int .i64 v2, .int .i64 l2] 28 (0, 0))) := (hb.block b10 (blkLt Q8.out)).trans Q8.out
                  have X9 : Hid (w9.heap[b12]? = some (.cells #[.slice q7 n7 d7, .slice s7 k7 x7, .int .i64 v2, .int .i64 l7] 28 (0, 0))) := (hb.block b12 (blkLt X8.out)).trans X8.out
                  clear hb A8 D8 B8 Q8 X8 HBx
                  as_aux_lemma =>
                    obtain ⟨w10, hw10⟩ : ∃ w10, w10 = w9.alloc (Obj.cells #[.slice q9 n9 d9, .slice s9 k9 x9, .int .i64 v4, .int .i64 l9] 28) := ⟨_, rfl⟩
                    obtain ⟨b14, hb14⟩ : ∃ b14, b14 = w9.heap.size := ⟨_, rfl⟩
                    have HW10 : Hid (w10 = w9.alloc (Obj.cells #[.slice q9 n9 d9, .slice s9 k9 x9, .int .i64 v4, .int .i64 l9] 28) ∧ b14 = w9.heap.size) := ⟨hw10, hb14⟩
                    have hb : Below w9.heap.size w9 w10 := by rw [hw10]; exact below_alloc _ _
                    have hx : w10.heap[b14]? = some (.cells #[.slice q9 n9 d9, .slice s9 k9 x9, .int .i64 v4, .int .i64 l9] 28 (0, 0)) := by rw [hw10, hb14]; exact heapNew _ _
                    have hq := (hb.block b10 (blkLt Q9.out)).trans Q9.out
                    have hy := (hb.block b12 (blkLt X9.out)).trans X9.out
                    have B10 : Hid (Below w.heap.size w w10) := chain B9.out hb
                    have z2 := blkCell hx 2 _ rfl
                    have y2 := blkCell hq 2 _ rfl
                    have t2 := blkCell hy 2 _ rfl
                    simp only [List.getElem_toArray, List.getElem_cons_zero, List.getElem_cons_succ] at z2 y2 t2
                    clear hw10 hb14 hb hx hq hy B9 Q9 X9
                    go_upto_region 10 with fail
                    rw [← HW10.out.1, ← HW10.out.2]
                    clear HW10
                    go_wp2
                    go_ret
                    exact ⟨rfl, B10.out⟩

theorem own : ownKnob Try.prog.godebug = none := by kernel_rfl
theorem laidOut : laidOutB Try.prog = true := by kernel_rfl

set_option maxRecDepth 100000 in
theorem lifted (os : Os) (started : os.Started) (H : Type) (enc : TypeId × Value → H) :
    ReturnsInHanded {} Try.checked os 3 .any (Rows.fnMarksSpec.pre6 enc Try.prog Try.f3 Rows.fnMarksRow.domain false) (Rows.fnMarksSpec.post enc Try.prog Try.f3 false true false false) := by
  refine returnsInHanded_of_change (C := Try.checked) own started (by kernel_rfl) Try.func3
    (ChangeSpec.witness6 (enc := enc) (C := Try.checked) false ⟨#[], #[.slice none 0 0], []⟩ 8 (by kernel_rfl) (by kernel_rfl) (by kernel_rfl) (by kernel_rfl)) ?_
  intro W base args ds gs before hval0 hW hcnd _
  have hval : ∀ (j : Nat) t v, Try.f3.params[j]? = some t → args[j]? = some v → Value.okWide Try.prog W .any base t v := hval0
  have hW' := hW
  obtain ⟨p, q, hA0, hV, rfl, hfz, hnd⟩ := hW
  have hA : DataW.TrodAll enc Try.prog W 0 (fun _ => true) true Try.f3.params.toList args.toList ds p := hA0
  rw [Try.params3] at hA hval
  obtain ⟨v0, vs0, d0, ds0, p0, q0, hargs, rfl, rfl, h0, r0⟩ := trodAll_cons hA
  obtain ⟨rfl, rfl, rfl⟩ := trodAll_nil r0
  obtain rfl : args = #[v0] := by cases args; simp_all
  obtain ⟨rfl, rfl⟩ := trodVars_none hV
  have k0 := h0
  have lt0 : ∀ x ∈ p0, x.block < W.heap.size := by obtain ⟨m, hm⟩ := k0; exact DataW.trod_lt m _ _ _ hm
  obtain ⟨a0, len0, cap0, rfl⟩ := okWide_slice Try.underlying22 (hval 0 22 v0 rfl rfl)
  obtain ⟨z0, w0⟩ : ∃ zs, IsRow .u8 W a0 len0 cap0 zs := by
    obtain ⟨fuel, hf⟩ := h0
    rcases open_ints Try.underlying22 Try.underlying5 (by kernel_rfl) hf with ⟨hcs, _⟩ | ⟨x, l, c, zs, hcs, _, hl, hm, hz, _, hcell, hwz⟩
    · simp [Value.cells] at hcs
      obtain ⟨rfl, rfl, rfl⟩ := hcs
      exact ⟨[], .inl ⟨rfl, rfl, rfl, rfl⟩⟩
    · simp [Value.cells] at hcs
      obtain ⟨rfl, rfl, rfl⟩ := hcs
      exact ⟨zs, .inr ⟨_, rfl, hl, hm, by simpa using hz, hcell, hwz⟩⟩
  clear hA0 hval0
  refine (walk a0 len0 cap0 z0 W (rowB_of _ _ _ _ _ w0)).mono fun e W' ⟨he, bel⟩ => ?_
  subst he
  exact ⟨_, rfl, _, _, _, [], _, [], hW', trodAll_mk1 (shut_bool Try.underlying4 _), (trodAll_cons_mk (Below.trod laidOut (by kernel_rfl) (of_decide_eq_true (by kernel_rfl)) k0 bel lt0) trodAll_mk0), rfl, bel.frame _, fun h => by cases h⟩

theorem over : Rows.fnMarksRow.holds Try.pinned (OpenSpec.ofChange Rows.fnMarksSpec) :=
  OpenClaim.holds_of_wide 3 Try.f3 rfl rfl rfl rfl rfl rfl rfl ⟨rfl, rfl, rfl, rfl, rfl⟩ rfl rfl rfl rfl rfl (by kernel_rfl) Try.func3 (by kernel_rfl)
    (of_decide_eq_true (by kernel_rfl)) (by unfold Func.isWrapper; first | (rw [if_pos (by decide +kernel)]; kernel_rfl) | (rw [if_neg (by decide +kernel)]; exact ⟨rfl, rfl⟩))
    (fun os started H enc _ => lifted os started H enc)
end FnMarks

theorem fnMarks_holds : Rows.FnMarksSaid := FnMarks.over
end Go.Proofs.Ytlcnhkhkhlpghaa

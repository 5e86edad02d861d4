/-
  For every two rules the law FnExactClash answers true: the program's Clash answers as the specification's, every field, and writes into no argument; with no condition.
-/
import Derived.Test.YtpldllmbblomfaaRcD
import Derived.Test.YtpldllmbblomfaaRdB
import Derived.Test.YtpldllmbblomfaaAgg5
import Derived.Test.YtpldllmbblomfaaClF
import Derived.Test.YtpldllmbblomfaaClO
namespace Go.Proofs.Ytpldllmbblomfaa
open Go.ChangeShapes Go.WideShapes Go.ChangeAt Go.RowKit Go.Joins Go.Deep
set_option linter.unusedVariables false

theorem ClAt.lt {w : World} {b off : Nat} {h : Option Addr} {cp : Nat} {c : CCl} (k : ClAt w b off h cp c) : b < w.heap.size := World.block_lt_of_cell? _ _ k.1
theorem ClAt.later {w w' : World} {b off : Nat} {h : Option Addr} {cp : Nat} {c : CCl} (k : ClAt w b off h cp c) (hb : Below w.heap.size w w') : ClAt w' b off h cp c := k.below hb k.lt
namespace ClashLaw
set_option maxHeartbeats 16000000 in
set_option maxRecDepth 8000 in
theorem walk (a : CCl) (ha : Option Addr) (ca : Nat) (b : CCl) (hb : Option Addr) (cb : Nat) (w : World) (wa : ClWide a) (hca : a.ts.length ≤ ca) (ra : ReadsTm w.heap.size w ha a.ts) (wb : ClWide b) (hcb : b.ts.length ≤ cb) (rb : ReadsTm w.heap.size w hb b.ts) :
    Calls Try.prog 6 #[.agg #[.string a.nm, .slice ha a.ts.length ca, .int .i64 a.ac, .int .i64 a.nu], .agg #[.string b.nm, .slice hb b.ts.length cb, .int .i64 b.ac, .int .i64 b.nu]] w fun e w' => e = .returned (.bool true) ∧ Below w.heap.size w w' := by
  have HRa : Hid (ReadsTm w.heap.size w ha a.ts) := ra
  have HRb : Hid (ReadsTm w.heap.size w hb b.ts) := rb
  have HZa : Hid (∀ W, Calls Try.prog 16 #[.agg #[.string a.nm, .slice ha a.ts.length ca, .int .i64 a.ac, .int .i64 a.nu], .int .i64 1048576] W fun e w' => (∃ x : Int, e = .returned (.int .i64 x) ∧ SzCl a 1048576 x) ∧ Below W.heap.size W w') := fun W => szCl_any a ha ca wa 1048576 (by omega) (by omega) W
  have HZb : Hid (∀ l W, 0 ≤ l → l ≤ 1048576 → Calls Try.prog 16 #[.agg #[.string b.nm, .slice hb b.ts.length cb, .int .i64 b.ac, .int .i64 b.nu], .int .i64 l] W fun e w' => (∃ x : Int, e = .returned (.int .i64 x) ∧ SzCl b l x) ∧ Below W.heap.size W w') := fun l W h1 h2 => szCl_any b hb cb wb l h1 h2 W
  have LA0 : Hid (ClAt ((w.alloc (Obj.cells #[.string a.nm, .slice ha a.ts.length ca, .int .i64 a.ac, .int .i64 a.nu] 38)).alloc (Obj.cells #[.string b.nm, .slice hb b.ts.length cb, .int .i64 b.ac, .int .i64 b.nu] 38)) w.heap.size 0 ha ca a) := ⟨(cellOld _ _ (by simp)).trans (cellNew _ _ _ _ rfl rfl), (cellOld _ _ (by simp)).trans (cellNew _ _ _ _ rfl rfl), (cellOld _ _ (by simp)).trans (cellNew _ _ _ _ rfl rfl), (cellOld _ _ (by simp)).trans (cellNew _ _ _ _ rfl rfl)⟩
  have LB0 : Hid (ClAt ((w.alloc (Obj.cells #[.string a.nm, .slice ha a.ts.length ca, .int .i64 a.ac, .int .i64 a.nu] 38)).alloc (Obj.cells #[.string b.nm, .slice hb b.ts.length cb, .int .i64 b.ac, .int .i64 b.nu] 38)) (w.heap.size + 1) 0 hb cb b) := ⟨cellNew _ _ _ _ (by simp) rfl, cellNew _ _ _ _ (by simp) rfl, cellNew _ _ _ _ (by simp) rfl, cellNew _ _ _ _ (by simp) rfl⟩
  obtain ⟨k1, k2, k3, k4, k5, hk5⟩ : ∃ k1 k2 k3 k4 k5 : Int, ckV a b = #[.int .i64 k1, .int .i64 k2, .int .i64 k3, .int .i64 k4, .int .i64 k5] := by
    unfold ckV leastV factsV
    split
    · split
      · exact ⟨_, _, _, _, _, rfl⟩
      · exact ⟨_, _, _, _, _, rfl⟩
    · exact ⟨_, _, _, _, _, rfl⟩
  have hS0 : ClOK a → ClOK b → ∀ e1 e2 W, ReadsTm W.heap.size W (some ⟨e1, 0, none⟩) a.ts → ReadsTm W.heap.size W (some ⟨e2, 0, none⟩) b.ts → Calls Try.prog 26 #[.agg #[.string a.nm, .slice (some ⟨e1, 0, none⟩) a.ts.length a.ts.length, .int .i64 a.ac, .int .i64 a.nu], .agg #[.string b.nm, .slice (some ⟨e2, 0, none⟩) b.ts.length b.ts.length, .int .i64 b.ac, .int .i64 b.nu]] W fun e w' => e = .returned (.tuple #[.agg #[.int .i64 k1, .int .i64 k2, .int .i64 k3, .int .i64 k4, .int .i64 k5], .bool (ckT a b), .int .i64 (ckC a b)]) ∧ Below W.heap.size W w' := fun h1 h2 e1 e2 W q1 q2 => by
    have := specClash_any a b e1 e2 a.ts.length b.ts.length h1 h2 W q1 q2
    rwa [hk5] at this
  have hI0 : ClOK a → ClOK b → ∀ e1 e2 W, ReadsTm W.heap.size W (some ⟨e1, 0, none⟩) a.ts → ReadsTm W.heap.size W (some ⟨e2, 0, none⟩) b.ts → Calls Try.prog 27 #[.agg #[.string a.nm, .slice (some ⟨e1, 0, none⟩) a.ts.length a.ts.length, .int .i64 a.ac, .int .i64 a.nu], .agg #[.string b.nm, .slice (some ⟨e2, 0, none⟩) b.ts.length b.ts.length, .int .i64 b.ac, .int .i64 b.nu]] W fun e w' => e = .returned (.tuple #[.agg #[.int .i64 k1, .int .i64 k2, .int .i64 k3, .int .i64 k4, .int .i64 k5], .bool (ckT a b), .int .i64 (ckC a b)]) ∧ Below W.heap.size W w' := fun h1 h2 e1 e2 W q1 q2 => by
    have := implClash_any a b (some ⟨e1, 0, none⟩) (some ⟨e2, 0, none⟩) a.ts.length b.ts.length h1 h2 W q1 q2
    rwa [hk5] at this
  have HS0 : Hid _ := hS0
  have HI0 : Hid _ := hI0
  clear ra rb hS0 hI0 hk5 wa wb
  generalize ckT a b = kt at *
  generalize ckC a b = kc at *
  have e1 : (kt != kt) = false := by simp
  have e2 : (kc != kc) = false := by simp
  go_enter Try.func6, Try.ntmps6
  go_wp2_with fail
  (first | go_at_call 16 | skip)
  refine (HZa.out _).mono ?_
  rintro e w1 ⟨⟨x, rfl, hx⟩, hb1⟩
  have HX : Hid (SzCl a 1048576 x) := hx
  have B1 : Hid (Below w.heap.size w w1) := chain (chain (below_alloc _ _) (below_alloc _ _)) hb1
  have LA1 : Hid (ClAt w1 w.heap.size 0 ha ca a) := LA0.out.later hb1
  have LB1 : Hid (ClAt w1 (w.heap.size + 1) 0 hb cb b) := LB0.out.later hb1
  clear hx hb1 LA0 LB0
  by_cases hx0 : x < 0
  · go_wp2
    go_ret
    exact ⟨rfl, B1.out⟩
  obtain ⟨_, hx1, oka⟩ := (HX.out.resolve_left hx0)
  have OKa : Hid (ClOK a) := oka
  have hx2 : x ≤ 1048576 := by omega
  clear oka hx1
  obtain ⟨b0, b1, b2, b3⟩ := LB1.out
  simp only [Nat.zero_add] at b0 b1 b2 b3
  go_wp2_with fail
  (first | go_at_call 16 | skip)
  refine (HZb.out x _ (by omega) hx2).mono ?_
  rintro e w2 ⟨⟨y, rfl, hy⟩, hb2⟩
  have HY : Hid (SzCl b x y) := hy
  have B2 : Hid (Below w.heap.size w w2) := chain B1.out hb2
  have LA : Hid (ClAt w2 w.heap.size 0 ha ca a) := LA1.out.later hb2
  have LB : Hid (ClAt w2 (w.heap.size + 1) 0 hb cb b) := LB1.out.later hb2
  clear hy hb2 LA1 LB1 b0 b1 b2 b3
  by_cases hy0 : y < 0
  · go_wp2
    go_ret
    exact ⟨rfl, B2.out⟩
  obtain ⟨_, hy1, okb⟩ := (HY.out.resolve_left hy0)
  have OKb : Hid (ClOK b) := okb
  clear okb hy1
  have hS : Hid (∀ e1 e2 W, ReadsTm W.heap.size W (some ⟨e1, 0, none⟩) a.ts → ReadsTm W.heap.size W (some ⟨e2, 0, none⟩) b.ts → Calls Try.prog 26 #[.agg #[.string a.nm, .slice (some ⟨e1, 0, none⟩) a.ts.length a.ts.length, .int .i64 a.ac, .int .i64 a.nu], .agg #[.string b.nm, .slice (some ⟨e2, 0, none⟩) b.ts.length b.ts.length, .int .i64 b.ac, .int .i64 b.nu]] W fun e w' => e = .returned (.tuple #[.agg #[.int .i64 k1, .int .i64 k2, .int .i64 k3, .int .i64 k4, .int .i64 k5], .bool kt, .int .i64 kc]) ∧ Below W.heap.size W w') := HS0.out OKa.out OKb.out
  have hI : Hid (∀ e1 e2 W, ReadsTm W.heap.size W (some ⟨e1, 0, none⟩) a.ts → ReadsTm W.heap.size W (some ⟨e2, 0, none⟩) b.ts → Calls Try.prog 27 #[.agg #[.string a.nm, .slice (some ⟨e1, 0, none⟩) a.ts.length a.ts.length, .int .i64 a.ac, .int .i64 a.nu], .agg #[.string b.nm, .slice (some ⟨e2, 0, none⟩) b.ts.length b.ts.length, .int .i64 b.ac, .int .i64 b.nu]] W fun e w' => e = .returned (.tuple #[.agg #[.int .i64 k1, .int .i64 k2, .int .i64 k3, .int .i64 k4, .int .i64 k5], .bool kt, .int .i64 kc]) ∧ Below W.heap.size W w') := HI0.out OKa.out OKb.out
  have hTa : Hid (∀ W, Below w.heap.size w W → Calls Try.prog 18 #[.agg #[.string a.nm, .slice ha a.ts.length ca, .int .i64 a.ac, .int .i64 a.nu]] W fun e w' => ∃ g, e = .returned (.agg #[.string a.nm, .slice (some ⟨g, 0, none⟩) a.ts.length a.ts.length, .int .i64 a.ac, .int .i64 a.nu]) ∧ (W.heap.size ≤ g ∧ g < w'.heap.size) ∧ TmsAt w' g 0 a.ts ∧ FreeTm w' g a.ts.length ∧ Below W.heap.size W w') := fun W h => toCl_any a ha ca OKa.out.2 W (HRa.out.later h)
  have hTb : Hid (∀ W, Below w.heap.size w W → Calls Try.prog 18 #[.agg #[.string b.nm, .slice hb b.ts.length cb, .int .i64 b.ac, .int .i64 b.nu]] W fun e w' => ∃ g, e = .returned (.agg #[.string b.nm, .slice (some ⟨g, 0, none⟩) b.ts.length b.ts.length, .int .i64 b.ac, .int .i64 b.nu]) ∧ (W.heap.size ≤ g ∧ g < w'.heap.size) ∧ TmsAt w' g 0 b.ts ∧ FreeTm w' g b.ts.length ∧ Below W.heap.size W w') := fun W h => toCl_any b hb cb OKb.out.2 W (HRb.out.later h)
  clear HS0 HI0 HZa HZb HX HY B1
  go_wp2
  refine wp_region_held_drew (S := fun W => Below w2.heap.size w2 W) (by kernel_rfl) (below_drew _) (fun hH => ?_)
  generalize w2.drew = v0 at *
  refine wpAnyH_take (i := 0) (v := .agg #[.string a.nm, .slice ha a.ts.length ca, .int .i64 a.ac, .int .i64 a.nu]) rfl (by kernel_rfl) (by kernel_rfl) (by kernel_rfl) (fun _ _ _ h => h) (Or.inl ⟨by rfl, fun w hSw => by obtain ⟨s0, s1, s2, s3⟩ := LA.out.later hSw; simp only [Nat.zero_add] at s0 s1 s2 s3; go_simp⟩) hH ?_
  refine wpAnyH_take (i := 2) (v := .agg #[.string b.nm, .slice hb b.ts.length cb, .int .i64 b.ac, .int .i64 b.nu]) rfl (by kernel_rfl) (by kernel_rfl) (by kernel_rfl) (fun _ _ _ h => h) (Or.inl ⟨by rfl, fun w hSw => by obtain ⟨s0, s1, s2, s3⟩ := LB.out.later hSw; simp only [Nat.zero_add] at s0 s1 s2 s3; go_simp⟩) hH ?_
  try simp only [Act.put, List.setIfInBounds_toArray, List.set_cons_zero, List.set_cons_succ, List.getElem_toArray, List.getElem_cons_succ, List.getElem_cons_zero]
  refine wpAnyH_ready (rs := [1, 9]) (by kernel_rfl) (by simp) ?_
  refine AllReadyH.cons rfl (fun K hK => ?_) (AllReadyH.cons rfl (fun K hK => ?_) AllReadyH.nil)
  · skip
    go_simp
    go_at_call 18
    refine (hTa.out _ (chain B2.out hH)).mono ?_
    rintro e u1 ⟨e1, rfl, ⟨_, hl1⟩, hq1, _, hu1⟩
    have hs1 := chain hH hu1
    have RA : ReadsTm u1.heap.size u1 (some ⟨e1, 0, none⟩) a.ts := .inr ⟨e1, 0, rfl, hl1, hq1⟩
    refine hK.out _ _ hs1 (fun _ => ?_)
    clear hK K
    try simp only [Act.put, List.setIfInBounds_toArray, List.set_cons_zero, List.set_cons_succ, List.getElem_toArray, List.getElem_cons_succ, List.getElem_cons_zero]
    refine wpAnyH_ready (rs := [3, 9]) (by kernel_rfl) (by simp) ?_
    refine AllReadyH.cons rfl (fun K hK => ?_) (AllReadyH.cons rfl (fun K hK => ?_) AllReadyH.nil)
    · skip
      go_simp
      go_at_call 18
      refine (hTb.out _ (chain B2.out hs1)).mono ?_
      rintro e u2 ⟨e2, rfl, ⟨_, hl2⟩, hq2, _, hu2⟩
      have hs2 := chain hs1 hu2
      have RA := RA.later hu2
      have RB : ReadsTm u2.heap.size u2 (some ⟨e2, 0, none⟩) b.ts := .inr ⟨e2, 0, rfl, hl2, hq2⟩
      refine hK.out _ _ hs2 (fun _ => ?_)
      clear hK K
      try simp only [Act.put, List.setIfInBounds_toArray, List.set_cons_zero, List.set_cons_succ, List.getElem_toArray, List.getElem_cons_succ, List.getElem_cons_zero]
      refine wpAnyH_ready (rs := [4, 9]) (by kernel_rfl) (by simp) ?_
      refine AllReadyH.cons rfl (fun K hK => ?_) (AllReadyH.cons rfl (fun K hK => ?_) AllReadyH.nil)
      · skip
        go_simp
        go_at_call 26
        refine (hS.out e1 e2 _ RA RB).mono ?_
        rintro e u3 ⟨rfl, hu3⟩
        have hs3 := chain hs2 hu3
        clear RA RB
        refine hK.out _ _ hs3 (fun _ => ?_)
        clear hK K
        try simp only [Act.put, List.setIfInBounds_toArray, List.set_cons_zero, List.set_cons_succ, List.getElem_toArray, List.getElem_cons_succ, List.getElem_cons_zero]
        refine wpAnyH_take (i := 5) (v := .tuple #[.agg #[.int .i64 k1, .int .i64 k2, .int .i64 k3, .int .i64 k4, .int .i64 k5], .bool kt, .int .i64 kc]) rfl (by kernel_rfl) (by kernel_rfl) (by kernel_rfl) (fun _ _ _ h => h) (Or.inl ⟨by rfl, fun w hSw => by go_simp⟩) hs3 ?_
        try simp only [Act.put, List.setIfInBounds_toArray, List.set_cons_zero, List.set_cons_succ, List.getElem_toArray, List.getElem_cons_succ, List.getElem_cons_zero]
        refine wpAnyH_take (i := 6) (v := .agg #[.int .i64 k1, .int .i64 k2, .int .i64 k3, .int .i64 k4, .int .i64 k5]) rfl (by kernel_rfl) (by kernel_rfl) (by kernel_rfl) (fun _ _ _ h => h) (Or.inl ⟨by rfl, fun w hSw => by go_simp⟩) hs3 ?_
        try simp only [Act.put, List.setIfInBounds_toArray, List.set_cons_zero, List.set_cons_succ, List.getElem_toArray, List.getElem_cons_succ, List.getElem_cons_zero]
        refine wpAnyH_take (i := 7) (v := .bool kt) rfl (by kernel_rfl) (by kernel_rfl) (by kernel_rfl) (fun _ _ _ h => h) (Or.inl ⟨by rfl, fun w hSw => by go_simp⟩) hs3 ?_
        try simp only [Act.put, List.setIfInBounds_toArray, List.set_cons_zero, List.set_cons_succ, List.getElem_toArray, List.getElem_cons_succ, List.getElem_cons_zero]
        refine wpAnyH_take (i := 8) (v := .int .i64 kc) rfl (by kernel_rfl) (by kernel_rfl) (by kernel_rfl) (fun _ _ _ h => h) (Or.inl ⟨by rfl, fun w hSw => by go_simp⟩) hs3 ?_
        try simp only [Act.put, List.setIfInBounds_toArray, List.set_cons_zero, List.set_cons_succ, List.getElem_toArray, List.getElem_cons_succ, List.getElem_cons_zero]
        refine wpAnyH_ready (rs := [9]) (by kernel_rfl) (by simp) ?_
        refine AllReadyH.cons rfl (fun K hK => ?_) AllReadyH.nil
        go_simp
        have hz := chain hs3 (below_alloc _ (Obj.cells #[.int .i64 0, .int .i64 0, .int .i64 0, .int .i64 0, .int .i64 0] 33))
        refine hK.out _ _ hz (fun _ => ?_)
        clear hK K
        try simp only [Act.put, List.setIfInBounds_toArray, List.set_cons_zero, List.set_cons_succ, List.getElem_toArray, List.getElem_cons_succ, List.getElem_cons_zero]
        refine wpAnyH_ready (rs := [10]) (by kernel_rfl) (by simp) ?_
        refine AllReadyH.cons rfl (fun K hK => ?_) AllReadyH.nil
        go_simp
        obtain ⟨Wf, hWf⟩ : ∃ Wf, Wf = u3.alloc (Obj.cells #[.int .i64 k1, .int .i64 k2, .int .i64 k3, .int .i64 k4, .int .i64 k5] 33) := ⟨_, rfl⟩
        have hSf : Below w2.heap.size w2 Wf := by rw [hWf]; exact chain hs3 (below_alloc _ _)
        have r0 : Wf.cell? ⟨u3.heap.size, 0, none⟩ = some (.int .i64 k1) := by rw [hWf]; exact cellNew _ _ _ _ rfl rfl
        have r1 : Wf.cell? ⟨u3.heap.size, 1, none⟩ = some (.int .i64 k2) := by rw [hWf]; exact cellNew _ _ _ _ rfl rfl
        have r2 : Wf.cell? ⟨u3.heap.size, 2, none⟩ = some (.int .i64 k3) := by rw [hWf]; exact cellNew _ _ _ _ rfl rfl
        have r3 : Wf.cell? ⟨u3.heap.size, 3, none⟩ = some (.int .i64 k4) := by rw [hWf]; exact cellNew _ _ _ _ rfl rfl
        have r4 : Wf.cell? ⟨u3.heap.size, 4, none⟩ = some (.int .i64 k5) := by rw [hWf]; exact cellNew _ _ _ _ rfl rfl
        rw [← hWf]
        refine hK.out _ _ hSf (fun _ => ?_)
        clear hK K
        try simp only [Act.put]
        refine wpAnyH_take (i := 11) (v := .bool kt) rfl (by kernel_rfl) (by kernel_rfl) (by kernel_rfl) (fun _ _ _ h => h) (Or.inl ⟨by rfl, fun w hSw => by go_simp⟩) hSf ?_
        try simp only [Act.put, List.setIfInBounds_toArray, List.set_cons_zero, List.set_cons_succ, List.getElem_toArray, List.getElem_cons_succ, List.getElem_cons_zero]
        refine wpAnyH_take (i := 12) (v := .int .i64 kc) rfl (by kernel_rfl) (by kernel_rfl) (by kernel_rfl) (fun _ _ _ h => h) (Or.inl ⟨by rfl, fun w hSw => by go_simp⟩) hSf ?_
        try simp only [Act.put, List.setIfInBounds_toArray, List.set_cons_zero, List.set_cons_succ, List.getElem_toArray, List.getElem_cons_succ, List.getElem_cons_zero]
        refine wpAnyH_done (by kernel_rfl) ?_ _
        try simp
        generalize hblk : u3.heap.size = nbk at *
        clear hWf hblk
        have BF : Hid (Below w.heap.size w Wf) := chain B2.out hSf
        have LAf : Hid (ClAt Wf w.heap.size 0 ha ca a) := LA.out.later hSf
        have LBf : Hid (ClAt Wf (w.heap.size + 1) 0 hb cb b) := LB.out.later hSf
        have FK : Hid (FcAt Wf nbk k1 k2 k3 k4 k5) := ⟨r0, r1, r2, r3, r4⟩
        clear hSf r0 r1 r2 r3 r4 LA LB
        obtain ⟨a0, a1, a2, a3⟩ := LAf.out
        simp only [Nat.zero_add] at a0 a1 a2 a3
        obtain ⟨b0, b1, b2, b3⟩ := LBf.out
        simp only [Nat.zero_add] at b0 b1 b2 b3
        go_wp2_with fail
        (first | go_at_call 18 | skip)
        refine (hTa.out Wf BF.out).mono ?_
        rintro e w3 ⟨g3, rfl, ⟨hg3, hl3⟩, hs3, hf3, hb3⟩
        have B3 : Hid (Below w.heap.size w w3) := chain BF.out hb3
        have LA3 : Hid (ClAt w3 w.heap.size 0 ha ca a) := LAf.out.later hb3
        have LB3 : Hid (ClAt w3 (w.heap.size + 1) 0 hb cb b) := LBf.out.later hb3
        have FK3 : Hid (FcAt w3 nbk k1 k2 k3 k4 k5) := FK.out.later hb3
        have RA3 : Hid (ReadsTm w3.heap.size w3 (some ⟨g3, 0, none⟩) a.ts) := .inr ⟨g3, 0, rfl, hl3, hs3⟩
        clear hb3 hs3 hf3 hg3 hl3 a0 a1 a2 a3 b0 b1 b2 b3 LAf LBf FK
        have X3 : Hid (ClAt (w3.alloc (Obj.cells #[.string a.nm, .slice (some ⟨g3, 0, none⟩) a.ts.length a.ts.length, .int .i64 a.ac, .int .i64 a.nu] 45)) w3.heap.size 0 (some ⟨g3, 0, none⟩) a.ts.length a) := ⟨cellNew _ _ _ _ rfl rfl, cellNew _ _ _ _ rfl rfl, cellNew _ _ _ _ rfl rfl, cellNew _ _ _ _ rfl rfl⟩
        have HA3 : Hid (Below w3.heap.size w3 (w3.alloc (Obj.cells #[.string a.nm, .slice (some ⟨g3, 0, none⟩) a.ts.length a.ts.length, .int .i64 a.ac, .int .i64 a.nu] 45))) := below_alloc _ _
        obtain ⟨b0, b1, b2, b3⟩ := LB3.out.later HA3.out
        simp only [Nat.zero_add] at b0 b1 b2 b3
        go_wp2_with fail
        (first | go_at_call 18 | skip)
        refine (hTb.out _ (chain B3.out HA3.out)).mono ?_
        rintro e w4 ⟨g4, rfl, ⟨hg4, hl4⟩, hs4, hf4, hb4⟩
        have hb34 := chain HA3.out hb4
        have B4 : Hid (Below w.heap.size w w4) := chain B3.out hb34
        have LA4 : Hid (ClAt w4 w.heap.size 0 ha ca a) := LA3.out.later hb34
        have LB4 : Hid (ClAt w4 (w.heap.size + 1) 0 hb cb b) := LB3.out.later hb34
        have FK4 : Hid (FcAt w4 nbk k1 k2 k3 k4 k5) := FK3.out.later hb34
        have RA4 : Hid (ReadsTm w4.heap.size w4 (some ⟨g3, 0, none⟩) a.ts) := RA3.out.later hb34
        have RB4 : Hid (ReadsTm w4.heap.size w4 (some ⟨g4, 0, none⟩) b.ts) := .inr ⟨g4, 0, rfl, hl4, hs4⟩
        have X4 : Hid (ClAt w4 w3.heap.size 0 (some ⟨g3, 0, none⟩) a.ts.length a) := X3.out.later hb4
        clear hb4 hb34 hs4 hf4 hg4 hl4 b0 b1 b2 b3 LA3 LB3 FK3 RA3 X3 HA3 B3
        generalize w3.heap.size = x0 at *
        have Y4 : Hid (ClAt (w4.alloc (Obj.cells #[.string b.nm, .slice (some ⟨g4, 0, none⟩) b.ts.length b.ts.length, .int .i64 b.ac, .int .i64 b.nu] 45)) w4.heap.size 0 (some ⟨g4, 0, none⟩) b.ts.length b) := ⟨cellNew _ _ _ _ rfl rfl, cellNew _ _ _ _ rfl rfl, cellNew _ _ _ _ rfl rfl, cellNew _ _ _ _ rfl rfl⟩
        have HA4 : Hid (Below w4.heap.size w4 (w4.alloc (Obj.cells #[.string b.nm, .slice (some ⟨g4, 0, none⟩) b.ts.length b.ts.length, .int .i64 b.ac, .int .i64 b.nu] 45))) := below_alloc _ _
        obtain ⟨p0, p1, p2, p3⟩ := (X4.out.later HA4.out)
        simp only [Nat.zero_add] at p0 p1 p2 p3
        obtain ⟨q0, q1, q2, q3⟩ := Y4.out
        simp only [Nat.zero_add] at q0 q1 q2 q3
        go_wp2_with fail
        (first | go_at_call 27 | skip)
        refine (hI.out g3 g4 _ (RA4.out.later HA4.out) (RB4.out.later HA4.out)).mono ?_
        rintro e w5 ⟨rfl, hb5⟩
        have hb45 := chain HA4.out hb5
        have B5 : Hid (Below w.heap.size w w5) := chain B4.out hb45
        have LA5 : Hid (ClAt w5 w.heap.size 0 ha ca a) := LA4.out.later hb45
        have LB5 : Hid (ClAt w5 (w.heap.size + 1) 0 hb cb b) := LB4.out.later hb45
        have FK5 : Hid (FcAt w5 nbk k1 k2 k3 k4 k5) := FK4.out.later hb45
        have RA5 : Hid (ReadsTm w5.heap.size w5 (some ⟨g3, 0, none⟩) a.ts) := RA4.out.later hb45
        have RB5 : Hid (ReadsTm w5.heap.size w5 (some ⟨g4, 0, none⟩) b.ts) := RB4.out.later hb45
        have X5 : Hid (ClAt w5 x0 0 (some ⟨g3, 0, none⟩) a.ts.length a) := X4.out.later hb45
        have Y5 : Hid (ClAt w5 w4.heap.size 0 (some ⟨g4, 0, none⟩) b.ts.length b) := Y4.out.later hb5
        clear hb5 hb45 p0 p1 p2 p3 q0 q1 q2 q3 LA4 LB4 FK4 RA4 RB4 X4 Y4 HA4 B4
        generalize w4.heap.size = y0 at *
        have HA5 : Hid (Below w5.heap.size w5 (w5.alloc (Obj.cells #[.int .i64 k1, .int .i64 k2, .int .i64 k3, .int .i64 k4, .int .i64 k5] 33))) := below_alloc _ _
        obtain ⟨f0, f1, f2, f3, f4⟩ := FK5.out.later HA5.out
        go_wp2_with fail
        (first | go_at_call 20 | skip)
        refine (eqFacts_any k1 k2 k3 k4 k5 _).mono ?_
        rintro e w6 ⟨rfl, hb6⟩
        have hb56 := chain HA5.out hb6
        have B6 : Hid (Below w.heap.size w w6) := chain B5.out hb56
        have LA6 : Hid (ClAt w6 w.heap.size 0 ha ca a) := LA5.out.later hb56
        have LB6 : Hid (ClAt w6 (w.heap.size + 1) 0 hb cb b) := LB5.out.later hb56
        have RA6 : Hid (ReadsTm w6.heap.size w6 (some ⟨g3, 0, none⟩) a.ts) := RA5.out.later hb56
        have RB6 : Hid (ReadsTm w6.heap.size w6 (some ⟨g4, 0, none⟩) b.ts) := RB5.out.later hb56
        have X6 : Hid (ClAt w6 x0 0 (some ⟨g3, 0, none⟩) a.ts.length a) := X5.out.later hb56
        have Y6 : Hid (ClAt w6 y0 0 (some ⟨g4, 0, none⟩) b.ts.length b) := Y5.out.later hb56
        clear hb6 hb56 f0 f1 f2 f3 f4 LA5 LB5 FK5 RA5 RB5 X5 Y5 HA5 B5
        go_wp2
        refine wp_region_held_drew (S := fun W => Below w6.heap.size w6 W) (by kernel_rfl) (below_drew _) (fun hH => ?_)
        refine wpAnyH_take (i := 0) (v := .agg #[.string a.nm, .slice (some ⟨g3, 0, none⟩) a.ts.length a.ts.length, .int .i64 a.ac, .int .i64 a.nu]) rfl (by kernel_rfl) (by kernel_rfl) (by kernel_rfl) (fun _ _ _ h => h) (Or.inl ⟨by rfl, fun w hSw => by obtain ⟨s0, s1, s2, s3⟩ := X6.out.later hSw; simp only [Nat.zero_add] at s0 s1 s2 s3; go_simp⟩) hH ?_
        refine wpAnyH_take (i := 1) (v := .agg #[.string a.nm, .slice ha a.ts.length ca, .int .i64 a.ac, .int .i64 a.nu]) rfl (by kernel_rfl) (by kernel_rfl) (by kernel_rfl) (fun _ _ _ h => h) (Or.inl ⟨by rfl, fun w hSw => by obtain ⟨s0, s1, s2, s3⟩ := LA6.out.later hSw; simp only [Nat.zero_add] at s0 s1 s2 s3; go_simp⟩) hH ?_
        try simp only [Act.put, List.setIfInBounds_toArray, List.set_cons_zero, List.set_cons_succ, List.getElem_toArray, List.getElem_cons_succ, List.getElem_cons_zero]
        refine wpAnyH_ready (rs := [2]) (by kernel_rfl) (by simp) ?_
        refine AllReadyH.cons rfl (fun K hK => ?_) AllReadyH.nil
        go_simp
        go_at_call 18
        refine (hTa.out _ (chain B6.out hH)).mono ?_
        rintro e w7 ⟨g7, rfl, ⟨hg7, hl7⟩, hs7, hf7, hb7⟩
        have hw7 := chain hH hb7
        refine hK.out _ _ hw7 (fun _ => ?_)
        clear hK K
        try simp only [Act.put, List.setIfInBounds_toArray, List.set_cons_zero, List.set_cons_succ, List.getElem_toArray, List.getElem_cons_succ, List.getElem_cons_zero]
        refine wpAnyH_ready (rs := [3]) (by kernel_rfl) (by simp) ?_
        refine AllReadyH.cons rfl (fun K hK => ?_) AllReadyH.nil
        go_simp
        go_at_call 22
        refine (eqCl_any a (some ⟨g3, 0, none⟩) (some ⟨g7, 0, none⟩) _ _ OKa.out.2 w7 (RA6.out.later hw7) (.inr ⟨g7, 0, rfl, hl7, hs7⟩)).mono ?_
        rintro e w8 ⟨rfl, hb8⟩
        have hw8 := chain hw7 hb8
        refine hK.out _ _ hw8 (fun _ => ?_)
        clear hK K
        try simp only [Act.put, List.setIfInBounds_toArray, List.set_cons_zero, List.set_cons_succ, List.getElem_toArray, List.getElem_cons_succ, List.getElem_cons_zero]
        refine wpAnyH_take (i := 4) (v := .bool false) rfl (by kernel_rfl) (by kernel_rfl) (by kernel_rfl) (fun _ _ _ h => h) (Or.inl ⟨by rfl, fun w hSw => by go_simp⟩) hw8 ?_
        try simp only [Act.put, List.setIfInBounds_toArray, List.set_cons_zero, List.set_cons_succ, List.getElem_toArray, List.getElem_cons_succ, List.getElem_cons_zero]
        refine wpAnyH_done (by kernel_rfl) ?_ _
        try simp
        have B8 : Hid (Below w.heap.size w w8) := chain B6.out hw8
        have LB8 : Hid (ClAt w8 (w.heap.size + 1) 0 hb cb b) := LB6.out.later hw8
        have RB8 : Hid (ReadsTm w8.heap.size w8 (some ⟨g4, 0, none⟩) b.ts) := RB6.out.later hw8
        have Y8 : Hid (ClAt w8 y0 0 (some ⟨g4, 0, none⟩) b.ts.length b) := Y6.out.later hw8
        clear hH hw7 hw8 hb7 hb8 hs7 hf7 hg7 hl7 LA6 LB6 RA6 RB6 X6 Y6 B6
        go_wp2
        refine wp_region_held_drew (S := fun W => Below w8.heap.size w8 W) (by kernel_rfl) (below_drew _) (fun hH => ?_)
        refine wpAnyH_take (i := 0) (v := .agg #[.string b.nm, .slice (some ⟨g4, 0, none⟩) b.ts.length b.ts.length, .int .i64 b.ac, .int .i64 b.nu]) rfl (by kernel_rfl) (by kernel_rfl) (by kernel_rfl) (fun _ _ _ h => h) (Or.inl ⟨by rfl, fun w hSw => by obtain ⟨s0, s1, s2, s3⟩ := Y8.out.later hSw; simp only [Nat.zero_add] at s0 s1 s2 s3; go_simp⟩) hH ?_
        refine wpAnyH_take (i := 1) (v := .agg #[.string b.nm, .slice hb b.ts.length cb, .int .i64 b.ac, .int .i64 b.nu]) rfl (by kernel_rfl) (by kernel_rfl) (by kernel_rfl) (fun _ _ _ h => h) (Or.inl ⟨by rfl, fun w hSw => by obtain ⟨s0, s1, s2, s3⟩ := LB8.out.later hSw; simp only [Nat.zero_add] at s0 s1 s2 s3; go_simp⟩) hH ?_
        try simp only [Act.put, List.setIfInBounds_toArray, List.set_cons_zero, List.set_cons_succ, List.getElem_toArray, List.getElem_cons_succ, List.getElem_cons_zero]
        refine wpAnyH_ready (rs := [2]) (by kernel_rfl) (by simp) ?_
        refine AllReadyH.cons rfl (fun K hK => ?_) AllReadyH.nil
        go_simp
        go_at_call 18
        refine (hTb.out _ (chain B8.out hH)).mono ?_
        rintro e w9 ⟨g9, rfl, ⟨hg9, hl9⟩, hs9, hf9, hb9⟩
        have hw9 := chain hH hb9
        refine hK.out _ _ hw9 (fun _ => ?_)
        clear hK K
        try simp only [Act.put, List.setIfInBounds_toArray, List.set_cons_zero, List.set_cons_succ, List.getElem_toArray, List.getElem_cons_succ, List.getElem_cons_zero]
        refine wpAnyH_ready (rs := [3]) (by kernel_rfl) (by simp) ?_
        refine AllReadyH.cons rfl (fun K hK => ?_) AllReadyH.nil
        go_simp
        go_at_call 22
        refine (eqCl_any b (some ⟨g4, 0, none⟩) (some ⟨g9, 0, none⟩) _ _ OKb.out.2 w9 (RB8.out.later hw9) (.inr ⟨g9, 0, rfl, hl9, hs9⟩)).mono ?_
        rintro e wz ⟨rfl, hbz⟩
        have hwz := chain hw9 hbz
        refine hK.out _ _ hwz (fun _ => ?_)
        clear hK K
        try simp only [Act.put, List.setIfInBounds_toArray, List.set_cons_zero, List.set_cons_succ, List.getElem_toArray, List.getElem_cons_succ, List.getElem_cons_zero]
        refine wpAnyH_take (i := 4) (v := .bool false) rfl (by kernel_rfl) (by kernel_rfl) (by kernel_rfl) (fun _ _ _ h => h) (Or.inl ⟨by rfl, fun w hSw => by go_simp⟩) hwz ?_
        try simp only [Act.put, List.setIfInBounds_toArray, List.set_cons_zero, List.set_cons_succ, List.getElem_toArray, List.getElem_cons_succ, List.getElem_cons_zero]
        refine wpAnyH_done (by kernel_rfl) ?_ _
        try simp
        go_wp2
        go_ret
        exact ⟨rfl, chain B8.out hwz⟩
      · skip
        go_simp
        have hz := chain hs2 (below_alloc _ (Obj.cells #[.int .i64 0, .int .i64 0, .int .i64 0, .int .i64 0, .int .i64 0] 33))
        refine hK.out _ _ hz (fun _ => ?_)
        clear hK K
        try simp only [Act.put, List.setIfInBounds_toArray, List.set_cons_zero, List.set_cons_succ, List.getElem_toArray, List.getElem_cons_succ, List.getElem_cons_zero]
        have Rz : (u2.alloc (Obj.cells #[.int .i64 0, .int .i64 0, .int .i64 0, .int .i64 0, .int .i64 0] 33)).heap[u2.heap.size]? = some (.cells #[.int .i64 0, .int .i64 0, .int .i64 0, .int .i64 0, .int .i64 0] 33 (0, 0)) := heapNew _ _
        have hzl : w2.heap.size ≤ u2.heap.size := hs2.size
        have RA := RA.later (below_alloc _ (Obj.cells #[.int .i64 0, .int .i64 0, .int .i64 0, .int .i64 0, .int .i64 0] 33))
        have RB := RB.later (below_alloc _ (Obj.cells #[.int .i64 0, .int .i64 0, .int .i64 0, .int .i64 0, .int .i64 0] 33))
        refine wpAnyH_ready (rs := [4]) (by kernel_rfl) (by simp) ?_
        refine AllReadyH.cons rfl (fun K hK => ?_) AllReadyH.nil
        go_simp
        go_at_call 26
        refine (hS.out e1 e2 _ RA RB).mono ?_
        rintro e u3 ⟨rfl, hu3⟩
        have hs3 := chain hz hu3
        have Rz := (hu3.block _ (RoomLt Rz)).trans Rz
        clear RA RB
        refine hK.out _ _ hs3 (fun _ => ?_)
        clear hK K
        try simp only [Act.put, List.setIfInBounds_toArray, List.set_cons_zero, List.set_cons_succ, List.getElem_toArray, List.getElem_cons_succ, List.getElem_cons_zero]
        refine wpAnyH_take (i := 5) (v := .tuple #[.agg #[.int .i64 k1, .int .i64 k2, .int .i64 k3, .int .i64 k4, .int .i64 k5], .bool kt, .int .i64 kc]) rfl (by kernel_rfl) (by kernel_rfl) (by kernel_rfl) (fun _ _ _ h => h) (Or.inl ⟨by rfl, fun w hSw => by go_simp⟩) hs3 ?_
        try simp only [Act.put, List.setIfInBounds_toArray, List.set_cons_zero, List.set_cons_succ, List.getElem_toArray, List.getElem_cons_succ, List.getElem_cons_zero]
        refine wpAnyH_take (i := 6) (v := .agg #[.int .i64 k1, .int .i64 k2, .int .i64 k3, .int .i64 k4, .int .i64 k5]) rfl (by kernel_rfl) (by kernel_rfl) (by kernel_rfl) (fun _ _ _ h => h) (Or.inl ⟨by rfl, fun w hSw => by go_simp⟩) hs3 ?_
        try simp only [Act.put, List.setIfInBounds_toArray, List.set_cons_zero, List.set_cons_succ, List.getElem_toArray, List.getElem_cons_succ, List.getElem_cons_zero]
        refine wpAnyH_take (i := 7) (v := .bool kt) rfl (by kernel_rfl) (by kernel_rfl) (by kernel_rfl) (fun _ _ _ h => h) (Or.inl ⟨by rfl, fun w hSw => by go_simp⟩) hs3 ?_
        try simp only [Act.put, List.setIfInBounds_toArray, List.set_cons_zero, List.set_cons_succ, List.getElem_toArray, List.getElem_cons_succ, List.getElem_cons_zero]
        refine wpAnyH_take (i := 8) (v := .int .i64 kc) rfl (by kernel_rfl) (by kernel_rfl) (by kernel_rfl) (fun _ _ _ h => h) (Or.inl ⟨by rfl, fun w hSw => by go_simp⟩) hs3 ?_
        try simp only [Act.put, List.setIfInBounds_toArray, List.set_cons_zero, List.set_cons_succ, List.getElem_toArray, List.getElem_cons_succ, List.getElem_cons_zero]
        refine wpAnyH_ready (rs := [10]) (by kernel_rfl) (by simp) ?_
        refine AllReadyH.cons rfl (fun K hK => ?_) AllReadyH.nil
        have q0 : u3.cell? ⟨u2.heap.size, 0, none⟩ = some (.int .i64 0) := by rw [cell_of_row _ _ _ _ _ _ Rz]; rfl
        have q1 : u3.cell? ⟨u2.heap.size, 1, none⟩ = some (.int .i64 0) := by rw [cell_of_row _ _ _ _ _ _ Rz]; rfl
        have q2 : u3.cell? ⟨u2.heap.size, 2, none⟩ = some (.int .i64 0) := by rw [cell_of_row _ _ _ _ _ _ Rz]; rfl
        have q3 : u3.cell? ⟨u2.heap.size, 3, none⟩ = some (.int .i64 0) := by rw [cell_of_row _ _ _ _ _ _ Rz]; rfl
        have q4 : u3.cell? ⟨u2.heap.size, 4, none⟩ = some (.int .i64 0) := by rw [cell_of_row _ _ _ _ _ _ Rz]; rfl
        have y0 : u3.frozen? ⟨u2.heap.size, 0, none⟩ = false := frozen_of_row _ _ _ _ _ Rz
        have y1 : u3.frozen? ⟨u2.heap.size, 1, none⟩ = false := frozen_of_row _ _ _ _ _ Rz
        have y2 : u3.frozen? ⟨u2.heap.size, 2, none⟩ = false := frozen_of_row _ _ _ _ _ Rz
        have y3 : u3.frozen? ⟨u2.heap.size, 3, none⟩ = false := frozen_of_row _ _ _ _ _ Rz
        have y4 : u3.frozen? ⟨u2.heap.size, 4, none⟩ = false := frozen_of_row _ _ _ _ _ Rz
        go_simp
        obtain ⟨Wf, hWf⟩ : ∃ Wf, Wf = (((((u3.setCell ⟨u2.heap.size, 0, none⟩ (.int .i64 k1)).setCell ⟨u2.heap.size, 1, none⟩ (.int .i64 k2)).setCell ⟨u2.heap.size, 2, none⟩ (.int .i64 k3)).setCell ⟨u2.heap.size, 3, none⟩ (.int .i64 k4)).setCell ⟨u2.heap.size, 4, none⟩ (.int .i64 k5)) := ⟨_, rfl⟩
        have hSf : Below w2.heap.size w2 Wf := by rw [hWf]; exact ((((hs3.setCell hzl _).setCell hzl _).setCell hzl _).setCell hzl _).setCell hzl _
        have r0 : Wf.cell? ⟨u2.heap.size, 0, none⟩ = some (.int .i64 k1) := by rw [hWf]; simp [go_sem, q0]
        have r1 : Wf.cell? ⟨u2.heap.size, 1, none⟩ = some (.int .i64 k2) := by rw [hWf]; simp [go_sem, q1]
        have r2 : Wf.cell? ⟨u2.heap.size, 2, none⟩ = some (.int .i64 k3) := by rw [hWf]; simp [go_sem, q2]
        have r3 : Wf.cell? ⟨u2.heap.size, 3, none⟩ = some (.int .i64 k4) := by rw [hWf]; simp [go_sem, q3]
        have r4 : Wf.cell? ⟨u2.heap.size, 4, none⟩ = some (.int .i64 k5) := by rw [hWf]; simp [go_sem, q4]
        clear q0 q1 q2 q3 q4 y0 y1 y2 y3 y4
        rw [← hWf]
        refine hK.out _ _ hSf (fun _ => ?_)
        clear hK K
        try simp only [Act.put]
        refine wpAnyH_take (i := 11) (v := .bool kt) rfl (by kernel_rfl) (by kernel_rfl) (by kernel_rfl) (fun _ _ _ h => h) (Or.inl ⟨by rfl, fun w hSw => by go_simp⟩) hSf ?_
        try simp only [Act.put, List.setIfInBounds_toArray, List.set_cons_zero, List.set_cons_succ, List.getElem_toArray, List.getElem_cons_succ, List.getElem_cons_zero]
        refine wpAnyH_take (i := 12) (v := .int .i64 kc) rfl (by kernel_rfl) (by kernel_rfl) (by kernel_rfl) (fun _ _ _ h => h) (Or.inl ⟨by rfl, fun w hSw => by go_simp⟩) hSf ?_
        try simp only [Act.put, List.setIfInBounds_toArray, List.set_cons_zero, List.set_cons_succ, List.getElem_toArray, List.getElem_cons_succ, List.getElem_cons_zero]
        refine wpAnyH_done (by kernel_rfl) ?_ _
        try simp
        generalize hblk : u2.heap.size = nbk at *
        clear hWf hblk Rz hzl
        have BF : Hid (Below w.heap.size w Wf) := chain B2.out hSf
        have LAf : Hid (ClAt Wf w.heap.size 0 ha ca a) := LA.out.later hSf
        have LBf : Hid (ClAt Wf (w.heap.size + 1) 0 hb cb b) := LB.out.later hSf
        have FK : Hid (FcAt Wf nbk k1 k2 k3 k4 k5) := ⟨r0, r1, r2, r3, r4⟩
        clear hSf r0 r1 r2 r3 r4 LA LB
        obtain ⟨a0, a1, a2, a3⟩ := LAf.out
        simp only [Nat.zero_add] at a0 a1 a2 a3
        obtain ⟨b0, b1, b2, b3⟩ := LBf.out
        simp only [Nat.zero_add] at b0 b1 b2 b3
        go_wp2_with fail
        (first | go_at_call 18 | skip)
        refine (hTa.out Wf BF.out).mono ?_
        rintro e w3 ⟨g3, rfl, ⟨hg3, hl3⟩, hs3, hf3, hb3⟩
        have B3 : Hid (Below w.heap.size w w3) := chain BF.out hb3
        have LA3 : Hid (ClAt w3 w.heap.size 0 ha ca a) := LAf.out.later hb3
        have LB3 : Hid (ClAt w3 (w.heap.size + 1) 0 hb cb b) := LBf.out.later hb3
        have FK3 : Hid (FcAt w3 nbk k1 k2 k3 k4 k5) := FK.out.later hb3
        have RA3 : Hid (ReadsTm w3.heap.size w3 (some ⟨g3, 0, none⟩) a.ts) := .inr ⟨g3, 0, rfl, hl3, hs3⟩
        clear hb3 hs3 hf3 hg3 hl3 a0 a1 a2 a3 b0 b1 b2 b3 LAf LBf FK
        have X3 : Hid (ClAt (w3.alloc (Obj.cells #[.string a.nm, .slice (some ⟨g3, 0, none⟩) a.ts.length a.ts.length, .int .i64 a.ac, .int .i64 a.nu] 45)) w3.heap.size 0 (some ⟨g3, 0, none⟩) a.ts.length a) := ⟨cellNew _ _ _ _ rfl rfl, cellNew _ _ _ _ rfl rfl, cellNew _ _ _ _ rfl rfl, cellNew _ _ _ _ rfl rfl⟩
        have HA3 : Hid (Below w3.heap.size w3 (w3.alloc (Obj.cells #[.string a.nm, .slice (some ⟨g3, 0, none⟩) a.ts.length a.ts.length, .int .i64 a.ac, .int .i64 a.nu] 45))) := below_alloc _ _
        obtain ⟨b0, b1, b2, b3⟩ := LB3.out.later HA3.out
        simp only [Nat.zero_add] at b0 b1 b2 b3
        go_wp2_with fail
        (first | go_at_call 18 | skip)
        refine (hTb.out _ (chain B3.out HA3.out)).mono ?_
        rintro e w4 ⟨g4, rfl, ⟨hg4, hl4⟩, hs4, hf4, hb4⟩
        have hb34 := chain HA3.out hb4
        have B4 : Hid (Below w.heap.size w w4) := chain B3.out hb34
        have LA4 : Hid (ClAt w4 w.heap.size 0 ha ca a) := LA3.out.later hb34
        have LB4 : Hid (ClAt w4 (w.heap.size + 1) 0 hb cb b) := LB3.out.later hb34
        have FK4 : Hid (FcAt w4 nbk k1 k2 k3 k4 k5) := FK3.out.later hb34
        have RA4 : Hid (ReadsTm w4.heap.size w4 (some ⟨g3, 0, none⟩) a.ts) := RA3.out.later hb34
        have RB4 : Hid (ReadsTm w4.heap.size w4 (some ⟨g4, 0, none⟩) b.ts) := .inr ⟨g4, 0, rfl, hl4, hs4⟩
        have X4 : Hid (ClAt w4 w3.heap.size 0 (some ⟨g3, 0, none⟩) a.ts.length a) := X3.out.later hb4
        clear hb4 hb34 hs4 hf4 hg4 hl4 b0 b1 b2 b3 LA3 LB3 FK3 RA3 X3 HA3 B3
        generalize w3.heap.size = x0 at *
        have Y4 : Hid (ClAt (w4.alloc (Obj.cells #[.string b.nm, .slice (some ⟨g4, 0, none⟩) b.ts.length b.ts.length, .int .i64 b.ac, .int .i64 b.nu] 45)) w4.heap.size 0 (some ⟨g4, 0, none⟩) b.ts.length b) := ⟨cellNew _ _ _ _ rfl rfl, cellNew _ _ _ _ rfl rfl, cellNew _ _ _ _ rfl rfl, cellNew _ _ _ _ rfl rfl⟩
        have HA4 : Hid (Below w4.heap.size w4 (w4.alloc (Obj.cells #[.string b.nm, .slice (some ⟨g4, 0, none⟩) b.ts.length b.ts.length, .int .i64 b.ac, .int .i64 b.nu] 45))) := below_alloc _ _
        obtain ⟨p0, p1, p2, p3⟩ := (X4.out.later HA4.out)
        simp only [Nat.zero_add] at p0 p1 p2 p3
        obtain ⟨q0, q1, q2, q3⟩ := Y4.out
        simp only [Nat.zero_add] at q0 q1 q2 q3
        go_wp2_with fail
        (first | go_at_call 27 | skip)
        refine (hI.out g3 g4 _ (RA4.out.later HA4.out) (RB4.out.later HA4.out)).mono ?_
        rintro e w5 ⟨rfl, hb5⟩
        have hb45 := chain HA4.out hb5
        have B5 : Hid (Below w.heap.size w w5) := chain B4.out hb45
        have LA5 : Hid (ClAt w5 w.heap.size 0 ha ca a) := LA4.out.later hb45
        have LB5 : Hid (ClAt w5 (w.heap.size + 1) 0 hb cb b) := LB4.out.later hb45
        have FK5 : Hid (FcAt w5 nbk k1 k2 k3 k4 k5) := FK4.out.later hb45
        have RA5 : Hid (ReadsTm w5.heap.size w5 (some ⟨g3, 0, none⟩) a.ts) := RA4.out.later hb45
        have RB5 : Hid (ReadsTm w5.heap.size w5 (some ⟨g4, 0, none⟩) b.ts) := RB4.out.later hb45
        have X5 : Hid (ClAt w5 x0 0 (some ⟨g3, 0, none⟩) a.ts.length a) := X4.out.later hb45
        have Y5 : Hid (ClAt w5 w4.heap.size 0 (some ⟨g4, 0, none⟩) b.ts.length b) := Y4.out.later hb5
        clear hb5 hb45 p0 p1 p2 p3 q0 q1 q2 q3 LA4 LB4 FK4 RA4 RB4 X4 Y4 HA4 B4
        generalize w4.heap.size = y0 at *
        have HA5 : Hid (Below w5.heap.size w5 (w5.alloc (Obj.cells #[.int .i64 k1, .int .i64 k2, .int .i64 k3, .int .i64 k4, .int .i64 k5] 33))) := below_alloc _ _
        obtain ⟨f0, f1, f2, f3, f4⟩ := FK5.out.later HA5.out
        go_wp2_with fail
        (first | go_at_call 20 | skip)
        refine (eqFacts_any k1 k2 k3 k4 k5 _).mono ?_
        rintro e w6 ⟨rfl, hb6⟩
        have hb56 := chain HA5.out hb6
        have B6 : Hid (Below w.heap.size w w6) := chain B5.out hb56
        have LA6 : Hid (ClAt w6 w.heap.size 0 ha ca a) := LA5.out.later hb56
        have LB6 : Hid (ClAt w6 (w.heap.size + 1) 0 hb cb b) := LB5.out.later hb56
        have RA6 : Hid (ReadsTm w6.heap.size w6 (some ⟨g3, 0, none⟩) a.ts) := RA5.out.later hb56
        have RB6 : Hid (ReadsTm w6.heap.size w6 (some ⟨g4, 0, none⟩) b.ts) := RB5.out.later hb56
        have X6 : Hid (ClAt w6 x0 0 (some ⟨g3, 0, none⟩) a.ts.length a) := X5.out.later hb56
        have Y6 : Hid (ClAt w6 y0 0 (some ⟨g4, 0, none⟩) b.ts.length b) := Y5.out.later hb56
        clear hb6 hb56 f0 f1 f2 f3 f4 LA5 LB5 FK5 RA5 RB5 X5 Y5 HA5 B5
        go_wp2
        refine wp_region_held_drew (S := fun W => Below w6.heap.size w6 W) (by kernel_rfl) (below_drew _) (fun hH => ?_)
        refine wpAnyH_take (i := 0) (v := .agg #[.string a.nm, .slice (some ⟨g3, 0, none⟩) a.ts.length a.ts.length, .int .i64 a.ac, .int .i64 a.nu]) rfl (by kernel_rfl) (by kernel_rfl) (by kernel_rfl) (fun _ _ _ h => h) (Or.inl ⟨by rfl, fun w hSw => by obtain ⟨s0, s1, s2, s3⟩ := X6.out.later hSw; simp only [Nat.zero_add] at s0 s1 s2 s3; go_simp⟩) hH ?_
        refine wpAnyH_take (i := 1) (v := .agg #[.string a.nm, .slice ha a.ts.length ca, .int .i64 a.ac, .int .i64 a.nu]) rfl (by kernel_rfl) (by kernel_rfl) (by kernel_rfl) (fun _ _ _ h => h) (Or.inl ⟨by rfl, fun w hSw => by obtain ⟨s0, s1, s2, s3⟩ := LA6.out.later hSw; simp only [Nat.zero_add] at s0 s1 s2 s3; go_simp⟩) hH ?_
        try simp only [Act.put, List.setIfInBounds_toArray, List.set_cons_zero, List.set_cons_succ, List.getElem_toArray, List.getElem_cons_succ, List.getElem_cons_zero]
        refine wpAnyH_ready (rs := [2]) (by kernel_rfl) (by simp) ?_
        refine AllReadyH.cons rfl (fun K hK => ?_) AllReadyH.nil
        go_simp
        go_at_call 18
        refine (hTa.out _ (chain B6.out hH)).mono ?_
        rintro e w7 ⟨g7, rfl, ⟨hg7, hl7⟩, hs7, hf7, hb7⟩
        have hw7 := chain hH hb7
        refine hK.out _ _ hw7 (fun _ => ?_)
        clear hK K
        try simp only [Act.put, List.setIfInBounds_toArray, List.set_cons_zero, List.set_cons_succ, List.getElem_toArray, List.getElem_cons_succ, List.getElem_cons_zero]
        refine wpAnyH_ready (rs := [3]) (by kernel_rfl) (by simp) ?_
        refine AllReadyH.cons rfl (fun K hK => ?_) AllReadyH.nil
        go_simp
        go_at_call 22
        refine (eqCl_any a (some ⟨g3, 0, none⟩) (some ⟨g7, 0, none⟩) _ _ OKa.out.2 w7 (RA6.out.later hw7) (.inr ⟨g7, 0, rfl, hl7, hs7⟩)).mono ?_
        rintro e w8 ⟨rfl, hb8⟩
        have hw8 := chain hw7 hb8
        refine hK.out _ _ hw8 (fun _ => ?_)
        clear hK K
        try simp only [Act.put, List.setIfInBounds_toArray, List.set_cons_zero, List.set_cons_succ, List.getElem_toArray, List.getElem_cons_succ, List.getElem_cons_zero]
        refine wpAnyH_take (i := 4) (v := .bool false) rfl (by kernel_rfl) (by kernel_rfl) (by kernel_rfl) (fun _ _ _ h => h) (Or.inl ⟨by rfl, fun w hSw => by go_simp⟩) hw8 ?_
        try simp only [Act.put, List.setIfInBounds_toArray, List.set_cons_zero, List.set_cons_succ, List.getElem_toArray, List.getElem_cons_succ, List.getElem_cons_zero]
        refine wpAnyH_done (by kernel_rfl) ?_ _
        try simp
        have B8 : Hid (Below w.heap.size w w8) := chain B6.out hw8
        have LB8 : Hid (ClAt w8 (w.heap.size + 1) 0 hb cb b) := LB6.out.later hw8
        have RB8 : Hid (ReadsTm w8.heap.size w8 (some ⟨g4, 0, none⟩) b.ts) := RB6.out.later hw8
        have Y8 : Hid (ClAt w8 y0 0 (some ⟨g4, 0, none⟩) b.ts.length b) := Y6.out.later hw8
        clear hH hw7 hw8 hb7 hb8 hs7 hf7 hg7 hl7 LA6 LB6 RA6 RB6 X6 Y6 B6
        go_wp2
        refine wp_region_held_drew (S := fun W => Below w8.heap.size w8 W) (by kernel_rfl) (below_drew _) (fun hH => ?_)
        refine wpAnyH_take (i := 0) (v := .agg #[.string b.nm, .slice (some ⟨g4, 0, none⟩) b.ts.length b.ts.length, .int .i64 b.ac, .int .i64 b.nu]) rfl (by kernel_rfl) (by kernel_rfl) (by kernel_rfl) (fun _ _ _ h => h) (Or.inl ⟨by rfl, fun w hSw => by obtain ⟨s0, s1, s2, s3⟩ := Y8.out.later hSw; simp only [Nat.zero_add] at s0 s1 s2 s3; go_simp⟩) hH ?_
        refine wpAnyH_take (i := 1) (v := .agg #[.string b.nm, .slice hb b.ts.length cb, .int .i64 b.ac, .int .i64 b.nu]) rfl (by kernel_rfl) (by kernel_rfl) (by kernel_rfl) (fun _ _ _ h => h) (Or.inl ⟨by rfl, fun w hSw => by obtain ⟨s0, s1, s2, s3⟩ := LB8.out.later hSw; simp only [Nat.zero_add] at s0 s1 s2 s3; go_simp⟩) hH ?_
        try simp only [Act.put, List.setIfInBounds_toArray, List.set_cons_zero, List.set_cons_succ, List.getElem_toArray, List.getElem_cons_succ, List.getElem_cons_zero]
        refine wpAnyH_ready (rs := [2]) (by kernel_rfl) (by simp) ?_
        refine AllReadyH.cons rfl (fun K hK => ?_) AllReadyH.nil
        go_simp
        go_at_call 18
        refine (hTb.out _ (chain B8.out hH)).mono ?_
        rintro e w9 ⟨g9, rfl, ⟨hg9, hl9⟩, hs9, hf9, hb9⟩
        have hw9 := chain hH hb9
        refine hK.out _ _ hw9 (fun _ => ?_)
        clear hK K
        try simp only [Act.put, List.setIfInBounds_toArray, List.set_cons_zero, List.set_cons_succ, List.getElem_toArray, List.getElem_cons_succ, List.getElem_cons_zero]
        refine wpAnyH_ready (rs := [3]) (by kernel_rfl) (by simp) ?_
        refine AllReadyH.cons rfl (fun K hK => ?_) AllReadyH.nil
        go_simp
        go_at_call 22
        refine (eqCl_any b (some ⟨g4, 0, none⟩) (some ⟨g9, 0, none⟩) _ _ OKb.out.2 w9 (RB8.out.later hw9) (.inr ⟨g9, 0, rfl, hl9, hs9⟩)).mono ?_
        rintro e wz ⟨rfl, hbz⟩
        have hwz := chain hw9 hbz
        refine hK.out _ _ hwz (fun _ => ?_)
        clear hK K
        try simp only [Act.put, List.setIfInBounds_toArray, List.set_cons_zero, List.set_cons_succ, List.getElem_toArray, List.getElem_cons_succ, List.getElem_cons_zero]
        refine wpAnyH_take (i := 4) (v := .bool false) rfl (by kernel_rfl) (by kernel_rfl) (by kernel_rfl) (fun _ _ _ h => h) (Or.inl ⟨by rfl, fun w hSw => by go_simp⟩) hwz ?_
        try simp only [Act.put, List.setIfInBounds_toArray, List.set_cons_zero, List.set_cons_succ, List.getElem_toArray, List.getElem_cons_succ, List.getElem_cons_zero]
        refine wpAnyH_done (by kernel_rfl) ?_ _
        try simp
        go_wp2
        go_ret
        exact ⟨rfl, chain B8.out hwz⟩
    · skip
      go_simp
      have hz := chain hs1 (below_alloc _ (Obj.cells #[.int .i64 0, .int .i64 0, .int .i64 0, .int .i64 0, .int .i64 0] 33))
      refine hK.out _ _ hz (fun _ => ?_)
      clear hK K
      try simp only [Act.put, List.setIfInBounds_toArray, List.set_cons_zero, List.set_cons_succ, List.getElem_toArray, List.getElem_cons_succ, List.getElem_cons_zero]
      have Rz : (u1.alloc (Obj.cells #[.int .i64 0, .int .i64 0, .int .i64 0, .int .i64 0, .int .i64 0] 33)).heap[u1.heap.size]? = some (.cells #[.int .i64 0, .int .i64 0, .int .i64 0, .int .i64 0, .int .i64 0] 33 (0, 0)) := heapNew _ _
      have hzl : w2.heap.size ≤ u1.heap.size := hs1.size
      have RA := RA.later (below_alloc _ (Obj.cells #[.int .i64 0, .int .i64 0, .int .i64 0, .int .i64 0, .int .i64 0] 33))
      refine wpAnyH_ready (rs := [3]) (by kernel_rfl) (by simp) ?_
      refine AllReadyH.cons rfl (fun K hK => ?_) AllReadyH.nil
      go_simp
      go_at_call 18
      refine (hTb.out _ (chain B2.out hz)).mono ?_
      rintro e u2 ⟨e2, rfl, ⟨_, hl2⟩, hq2, _, hu2⟩
      have hs2 := chain hz hu2
      have RA := RA.later hu2
      have RB : ReadsTm u2.heap.size u2 (some ⟨e2, 0, none⟩) b.ts := .inr ⟨e2, 0, rfl, hl2, hq2⟩
      have Rz := (hu2.block _ (RoomLt Rz)).trans Rz
      refine hK.out _ _ hs2 (fun _ => ?_)
      clear hK K
      try simp only [Act.put, List.setIfInBounds_toArray, List.set_cons_zero, List.set_cons_succ, List.getElem_toArray, List.getElem_cons_succ, List.getElem_cons_zero]
      refine wpAnyH_ready (rs := [4]) (by kernel_rfl) (by simp) ?_
      refine AllReadyH.cons rfl (fun K hK => ?_) AllReadyH.nil
      go_simp
      go_at_call 26
      refine (hS.out e1 e2 _ RA RB).mono ?_
      rintro e u3 ⟨rfl, hu3⟩
      have hs3 := chain hs2 hu3
      have Rz := (hu3.block _ (RoomLt Rz)).trans Rz
      clear RA RB
      refine hK.out _ _ hs3 (fun _ => ?_)
      clear hK K
      try simp only [Act.put, List.setIfInBounds_toArray, List.set_cons_zero, List.set_cons_succ, List.getElem_toArray, List.getElem_cons_succ, List.getElem_cons_zero]
      refine wpAnyH_take (i := 5) (v := .tuple #[.agg #[.int .i64 k1, .int .i64 k2, .int .i64 k3, .int .i64 k4, .int .i64 k5], .bool kt, .int .i64 kc]) rfl (by kernel_rfl) (by kernel_rfl) (by kernel_rfl) (fun _ _ _ h => h) (Or.inl ⟨by rfl, fun w hSw => by go_simp⟩) hs3 ?_
      try simp only [Act.put, List.setIfInBounds_toArray, List.set_cons_zero, List.set_cons_succ, List.getElem_toArray, List.getElem_cons_succ, List.getElem_cons_zero]
      refine wpAnyH_take (i := 6) (v := .agg #[.int .i64 k1, .int .i64 k2, .int .i64 k3, .int .i64 k4, .int .i64 k5]) rfl (by kernel_rfl) (by kernel_rfl) (by kernel_rfl) (fun _ _ _ h => h) (Or.inl ⟨by rfl, fun w hSw => by go_simp⟩) hs3 ?_
      try simp only [Act.put, List.setIfInBounds_toArray, List.set_cons_zero, List.set_cons_succ, List.getElem_toArray, List.getElem_cons_succ, List.getElem_cons_zero]
      refine wpAnyH_take (i := 7) (v := .bool kt) rfl (by kernel_rfl) (by kernel_rfl) (by kernel_rfl) (fun _ _ _ h => h) (Or.inl ⟨by rfl, fun w hSw => by go_simp⟩) hs3 ?_
      try simp only [Act.put, List.setIfInBounds_toArray, List.set_cons_zero, List.set_cons_succ, List.getElem_toArray, List.getElem_cons_succ, List.getElem_cons_zero]
      refine wpAnyH_take (i := 8) (v := .int .i64 kc) rfl (by kernel_rfl) (by kernel_rfl) (by kernel_rfl) (fun _ _ _ h => h) (Or.inl ⟨by rfl, fun w hSw => by go_simp⟩) hs3 ?_
      try simp only [Act.put, List.setIfInBounds_toArray, List.set_cons_zero, List.set_cons_succ, List.getElem_toArray, List.getElem_cons_succ, List.getElem_cons_zero]
      refine wpAnyH_ready (rs := [10]) (by kernel_rfl) (by simp) ?_
      refine AllReadyH.cons rfl (fun K hK => ?_) AllReadyH.nil
      have q0 : u3.cell? ⟨u1.heap.size, 0, none⟩ = some (.int .i64 0) := by rw [cell_of_row _ _ _ _ _ _ Rz]; rfl
      have q1 : u3.cell? ⟨u1.heap.size, 1, none⟩ = some (.int .i64 0) := by rw [cell_of_row _ _ _ _ _ _ Rz]; rfl
      have q2 : u3.cell? ⟨u1.heap.size, 2, none⟩ = some (.int .i64 0) := by rw [cell_of_row _ _ _ _ _ _ Rz]; rfl
      have q3 : u3.cell? ⟨u1.heap.size, 3, none⟩ = some (.int .i64 0) := by rw [cell_of_row _ _ _ _ _ _ Rz]; rfl
      have q4 : u3.cell? ⟨u1.heap.size, 4, none⟩ = some (.int .i64 0) := by rw [cell_of_row _ _ _ _ _ _ Rz]; rfl
      have y0 : u3.frozen? ⟨u1.heap.size, 0, none⟩ = false := frozen_of_row _ _ _ _ _ Rz
      have y1 : u3.frozen? ⟨u1.heap.size, 1, none⟩ = false := frozen_of_row _ _ _ _ _ Rz
      have y2 : u3.frozen? ⟨u1.heap.size, 2, none⟩ = false := frozen_of_row _ _ _ _ _ Rz
      have y3 : u3.frozen? ⟨u1.heap.size, 3, none⟩ = false := frozen_of_row _ _ _ _ _ Rz
      have y4 : u3.frozen? ⟨u1.heap.size, 4, none⟩ = false := frozen_of_row _ _ _ _ _ Rz
      go_simp
      obtain ⟨Wf, hWf⟩ : ∃ Wf, Wf = (((((u3.setCell ⟨u1.heap.size, 0, none⟩ (.int .i64 k1)).setCell ⟨u1.heap.size, 1, none⟩ (.int .i64 k2)).setCell ⟨u1.heap.size, 2, none⟩ (.int .i64 k3)).setCell ⟨u1.heap.size, 3, none⟩ (.int .i64 k4)).setCell ⟨u1.heap.size, 4, none⟩ (.int .i64 k5)) := ⟨_, rfl⟩
      have hSf : Below w2.heap.size w2 Wf := by rw [hWf]; exact ((((hs3.setCell hzl _).setCell hzl _).setCell hzl _).setCell hzl _).setCell hzl _
      have r0 : Wf.cell? ⟨u1.heap.size, 0, none⟩ = some (.int .i64 k1) := by rw [hWf]; simp [go_sem, q0]
      have r1 : Wf.cell? ⟨u1.heap.size, 1, none⟩ = some (.int .i64 k2) := by rw [hWf]; simp [go_sem, q1]
      have r2 : Wf.cell? ⟨u1.heap.size, 2, none⟩ = some (.int .i64 k3) := by rw [hWf]; simp [go_sem, q2]
      have r3 : Wf.cell? ⟨u1.heap.size, 3, none⟩ = some (.int .i64 k4) := by rw [hWf]; simp [go_sem, q3]
      have r4 : Wf.cell? ⟨u1.heap.size, 4, none⟩ = some (.int .i64 k5) := by rw [hWf]; simp [go_sem, q4]
      clear q0 q1 q2 q3 q4 y0 y1 y2 y3 y4
      rw [← hWf]
      refine hK.out _ _ hSf (fun _ => ?_)
      clear hK K
      try simp only [Act.put]
      refine wpAnyH_take (i := 11) (v := .bool kt) rfl (by kernel_rfl) (by kernel_rfl) (by kernel_rfl) (fun _ _ _ h => h) (Or.inl ⟨by rfl, fun w hSw => by go_simp⟩) hSf ?_
      try simp only [Act.put, List.setIfInBounds_toArray, List.set_cons_zero, List.set_cons_succ, List.getElem_toArray, List.getElem_cons_succ, List.getElem_cons_zero]
      refine wpAnyH_take (i := 12) (v := .int .i64 kc) rfl (by kernel_rfl) (by kernel_rfl) (by kernel_rfl) (fun _ _ _ h => h) (Or.inl ⟨by rfl, fun w hSw => by go_simp⟩) hSf ?_
      try simp only [Act.put, List.setIfInBounds_toArray, List.set_cons_zero, List.set_cons_succ, List.getElem_toArray, List.getElem_cons_succ, List.getElem_cons_zero]
      refine wpAnyH_done (by kernel_rfl) ?_ _
      try simp
      generalize hblk : u1.heap.size = nbk at *
      clear hWf hblk Rz hzl
      have BF : Hid (Below w.heap.size w Wf) := chain B2.out hSf
      have LAf : Hid (ClAt Wf w.heap.size 0 ha ca a) := LA.out.later hSf
      have LBf : Hid (ClAt Wf (w.heap.size + 1) 0 hb cb b) := LB.out.later hSf
      have FK : Hid (FcAt Wf nbk k1 k2 k3 k4 k5) := ⟨r0, r1, r2, r3, r4⟩
      clear hSf r0 r1 r2 r3 r4 LA LB
      obtain ⟨a0, a1, a2, a3⟩ := LAf.out
      simp only [Nat.zero_add] at a0 a1 a2 a3
      obtain ⟨b0, b1, b2, b3⟩ := LBf.out
      simp only [Nat.zero_add] at b0 b1 b2 b3
      go_wp2_with fail
      (first | go_at_call 18 | skip)
      refine (hTa.out Wf BF.out).mono ?_
      rintro e w3 ⟨g3, rfl, ⟨hg3, hl3⟩, hs3, hf3, hb3⟩
      have B3 : Hid (Below w.heap.size w w3) := chain BF.out hb3
      have LA3 : Hid (ClAt w3 w.heap.size 0 ha ca a) := LAf.out.later hb3
      have LB3 : Hid (ClAt w3 (w.heap.size + 1) 0 hb cb b) := LBf.out.later hb3
      have FK3 : Hid (FcAt w3 nbk k1 k2 k3 k4 k5) := FK.out.later hb3
      have RA3 : Hid (ReadsTm w3.heap.size w3 (some ⟨g3, 0, none⟩) a.ts) := .inr ⟨g3, 0, rfl, hl3, hs3⟩
      clear hb3 hs3 hf3 hg3 hl3 a0 a1 a2 a3 b0 b1 b2 b3 LAf LBf FK
      have X3 : Hid (ClAt (w3.alloc (Obj.cells #[.string a.nm, .slice (some ⟨g3, 0, none⟩) a.ts.length a.ts.length, .int .i64 a.ac, .int .i64 a.nu] 45)) w3.heap.size 0 (some ⟨g3, 0, none⟩) a.ts.length a) := ⟨cellNew _ _ _ _ rfl rfl, cellNew _ _ _ _ rfl rfl, cellNew _ _ _ _ rfl rfl, cellNew _ _ _ _ rfl rfl⟩
      have HA3 : Hid (Below w3.heap.size w3 (w3.alloc (Obj.cells #[.string a.nm, .slice (some ⟨g3, 0, none⟩) a.ts.length a.ts.length, .int .i64 a.ac, .int .i64 a.nu] 45))) := below_alloc _ _
      obtain ⟨b0, b1, b2, b3⟩ := LB3.out.later HA3.out
      simp only [Nat.zero_add] at b0 b1 b2 b3
      go_wp2_with fail
      (first | go_at_call 18 | skip)
      refine (hTb.out _ (chain B3.out HA3.out)).mono ?_
      rintro e w4 ⟨g4, rfl, ⟨hg4, hl4⟩, hs4, hf4, hb4⟩
      have hb34 := chain HA3.out hb4
      have B4 : Hid (Below w.heap.size w w4) := chain B3.out hb34
      have LA4 : Hid (ClAt w4 w.heap.size 0 ha ca a) := LA3.out.later hb34
      have LB4 : Hid (ClAt w4 (w.heap.size + 1) 0 hb cb b) := LB3.out.later hb34
      have FK4 : Hid (FcAt w4 nbk k1 k2 k3 k4 k5) := FK3.out.later hb34
      have RA4 : Hid (ReadsTm w4.heap.size w4 (some ⟨g3, 0, none⟩) a.ts) := RA3.out.later hb34
      have RB4 : Hid (ReadsTm w4.heap.size w4 (some ⟨g4, 0, none⟩) b.ts) := .inr ⟨g4, 0, rfl, hl4, hs4⟩
      have X4 : Hid (ClAt w4 w3.heap.size 0 (some ⟨g3, 0, none⟩) a.ts.length a) := X3.out.later hb4
      clear hb4 hb34 hs4 hf4 hg4 hl4 b0 b1 b2 b3 LA3 LB3 FK3 RA3 X3 HA3 B3
      generalize w3.heap.size = x0 at *
      have Y4 : Hid (ClAt (w4.alloc (Obj.cells #[.string b.nm, .slice (some ⟨g4, 0, none⟩) b.ts.length b.ts.length, .int .i64 b.ac, .int .i64 b.nu] 45)) w4.heap.size 0 (some ⟨g4, 0, none⟩) b.ts.length b) := ⟨cellNew _ _ _ _ rfl rfl, cellNew _ _ _ _ rfl rfl, cellNew _ _ _ _ rfl rfl, cellNew _ _ _ _ rfl rfl⟩
      have HA4 : Hid (Below w4.heap.size w4 (w4.alloc (Obj.cells #[.string b.nm, .slice (some ⟨g4, 0, none⟩) b.ts.length b.ts.length, .int .i64 b.ac, .int .i64 b.nu] 45))) := below_alloc _ _
      obtain ⟨p0, p1, p2, p3⟩ := (X4.out.later HA4.out)
      simp only [Nat.zero_add] at p0 p1 p2 p3
      obtain ⟨q0, q1, q2, q3⟩ := Y4.out
      simp only [Nat.zero_add] at q0 q1 q2 q3
      go_wp2_with fail
      (first | go_at_call 27 | skip)
      refine (hI.out g3 g4 _ (RA4.out.later HA4.out) (RB4.out.later HA4.out)).mono ?_
      rintro e w5 ⟨rfl, hb5⟩
      have hb45 := chain HA4.out hb5
      have B5 : Hid (Below w.heap.size w w5) := chain B4.out hb45
      have LA5 : Hid (ClAt w5 w.heap.size 0 ha ca a) := LA4.out.later hb45
      have LB5 : Hid (ClAt w5 (w.heap.size + 1) 0 hb cb b) := LB4.out.later hb45
      have FK5 : Hid (FcAt w5 nbk k1 k2 k3 k4 k5) := FK4.out.later hb45
      have RA5 : Hid (ReadsTm w5.heap.size w5 (some ⟨g3, 0, none⟩) a.ts) := RA4.out.later hb45
      have RB5 : Hid (ReadsTm w5.heap.size w5 (some ⟨g4, 0, none⟩) b.ts) := RB4.out.later hb45
      have X5 : Hid (ClAt w5 x0 0 (some ⟨g3, 0, none⟩) a.ts.length a) := X4.out.later hb45
      have Y5 : Hid (ClAt w5 w4.heap.size 0 (some ⟨g4, 0, none⟩) b.ts.length b) := Y4.out.later hb5
      clear hb5 hb45 p0 p1 p2 p3 q0 q1 q2 q3 LA4 LB4 FK4 RA4 RB4 X4 Y4 HA4 B4
      generalize w4.heap.size = y0 at *
      have HA5 : Hid (Below w5.heap.size w5 (w5.alloc (Obj.cells #[.int .i64 k1, .int .i64 k2, .int .i64 k3, .int .i64 k4, .int .i64 k5] 33))) := below_alloc _ _
      obtain ⟨f0, f1, f2, f3, f4⟩ := FK5.out.later HA5.out
      go_wp2_with fail
      (first | go_at_call 20 | skip)
      refine (eqFacts_any k1 k2 k3 k4 k5 _).mono ?_
      rintro e w6 ⟨rfl, hb6⟩
      have hb56 := chain HA5.out hb6
      have B6 : Hid (Below w.heap.size w w6) := chain B5.out hb56
      have LA6 : Hid (ClAt w6 w.heap.size 0 ha ca a) := LA5.out.later hb56
      have LB6 : Hid (ClAt w6 (w.heap.size + 1) 0 hb cb b) := LB5.out.later hb56
      have RA6 : Hid (ReadsTm w6.heap.size w6 (some ⟨g3, 0, none⟩) a.ts) := RA5.out.later hb56
      have RB6 : Hid (ReadsTm w6.heap.size w6 (some ⟨g4, 0, none⟩) b.ts) := RB5.out.later hb56
      have X6 : Hid (ClAt w6 x0 0 (some ⟨g3, 0, none⟩) a.ts.length a) := X5.out.later hb56
      have Y6 : Hid (ClAt w6 y0 0 (some ⟨g4, 0, none⟩) b.ts.length b) := Y5.out.later hb56
      clear hb6 hb56 f0 f1 f2 f3 f4 LA5 LB5 FK5 RA5 RB5 X5 Y5 HA5 B5
      go_wp2
      refine wp_region_held_drew (S := fun W => Below w6.heap.size w6 W) (by kernel_rfl) (below_drew _) (fun hH => ?_)
      refine wpAnyH_take (i := 0) (v := .agg #[.string a.nm, .slice (some ⟨g3, 0, none⟩) a.ts.length a.ts.length, .int .i64 a.ac, .int .i64 a.nu]) rfl (by kernel_rfl) (by kernel_rfl) (by kernel_rfl) (fun _ _ _ h => h) (Or.inl ⟨by rfl, fun w hSw => by obtain ⟨s0, s1, s2, s3⟩ := X6.out.later hSw; simp only [Nat.zero_add] at s0 s1 s2 s3; go_simp⟩) hH ?_
      refine wpAnyH_take (i := 1) (v := .agg #[.string a.nm, .slice ha a.ts.length ca, .int .i64 a.ac, .int .i64 a.nu]) rfl (by kernel_rfl) (by kernel_rfl) (by kernel_rfl) (fun _ _ _ h => h) (Or.inl ⟨by rfl, fun w hSw => by obtain ⟨s0, s1, s2, s3⟩ := LA6.out.later hSw; simp only [Nat.zero_add] at s0 s1 s2 s3; go_simp⟩) hH ?_
      try simp only [Act.put, List.setIfInBounds_toArray, List.set_cons_zero, List.set_cons_succ, List.getElem_toArray, List.getElem_cons_succ, List.getElem_cons_zero]
      refine wpAnyH_ready (rs := [2]) (by kernel_rfl) (by simp) ?_
      refine AllReadyH.cons rfl (fun K hK => ?_) AllReadyH.nil
      go_simp
      go_at_call 18
      refine (hTa.out _ (chain B6.out hH)).mono ?_
      rintro e w7 ⟨g7, rfl, ⟨hg7, hl7⟩, hs7, hf7, hb7⟩
      have hw7 := chain hH hb7
      refine hK.out _ _ hw7 (fun _ => ?_)
      clear hK K
      try simp only [Act.put, List.setIfInBounds_toArray, List.set_cons_zero, List.set_cons_succ, List.getElem_toArray, List.getElem_cons_succ, List.getElem_cons_zero]
      refine wpAnyH_ready (rs := [3]) (by kernel_rfl) (by simp) ?_
      refine AllReadyH.cons rfl (fun K hK => ?_) AllReadyH.nil
      go_simp
      go_at_call 22
      refine (eqCl_any a (some ⟨g3, 0, none⟩) (some ⟨g7, 0, none⟩) _ _ OKa.out.2 w7 (RA6.out.later hw7) (.inr ⟨g7, 0, rfl, hl7, hs7⟩)).mono ?_
      rintro e w8 ⟨rfl, hb8⟩
      have hw8 := chain hw7 hb8
      refine hK.out _ _ hw8 (fun _ => ?_)
      clear hK K
      try simp only [Act.put, List.setIfInBounds_toArray, List.set_cons_zero, List.set_cons_succ, List.getElem_toArray, List.getElem_cons_succ, List.getElem_cons_zero]
      refine wpAnyH_take (i := 4) (v := .bool false) rfl (by kernel_rfl) (by kernel_rfl) (by kernel_rfl) (fun _ _ _ h => h) (Or.inl ⟨by rfl, fun w hSw => by go_simp⟩) hw8 ?_
      try simp only [Act.put, List.setIfInBounds_toArray, List.set_cons_zero, List.set_cons_succ, List.getElem_toArray, List.getElem_cons_succ, List.getElem_cons_zero]
      refine wpAnyH_done (by kernel_rfl) ?_ _
      try simp
      have B8 : Hid (Below w.heap.size w w8) := chain B6.out hw8
      have LB8 : Hid (ClAt w8 (w.heap.size + 1) 0 hb cb b) := LB6.out.later hw8
      have RB8 : Hid (ReadsTm w8.heap.size w8 (some ⟨g4, 0, none⟩) b.ts) := RB6.out.later hw8
      have Y8 : Hid (ClAt w8 y0 0 (some ⟨g4, 0, none⟩) b.ts.length b) := Y6.out.later hw8
      clear hH hw7 hw8 hb7 hb8 hs7 hf7 hg7 hl7 LA6 LB6 RA6 RB6 X6 Y6 B6
      go_wp2
      refine wp_region_held_drew (S := fun W => Below w8.heap.size w8 W) (by kernel_rfl) (below_drew _) (fun hH => ?_)
      refine wpAnyH_take (i := 0) (v := .agg #[.string b.nm, .slice (some ⟨g4, 0, none⟩) b.ts.length b.ts.length, .int .i64 b.ac, .int .i64 b.nu]) rfl (by kernel_rfl) (by kernel_rfl) (by kernel_rfl) (fun _ _ _ h => h) (Or.inl ⟨by rfl, fun w hSw => by obtain ⟨s0, s1, s2, s3⟩ := Y8.out.later hSw; simp only [Nat.zero_add] at s0 s1 s2 s3; go_simp⟩) hH ?_
      refine wpAnyH_take (i := 1) (v := .agg #[.string b.nm, .slice hb b.ts.length cb, .int .i64 b.ac, .int .i64 b.nu]) rfl (by kernel_rfl) (by kernel_rfl) (by kernel_rfl) (fun _ _ _ h => h) (Or.inl ⟨by rfl, fun w hSw => by obtain ⟨s0, s1, s2, s3⟩ := LB8.out.later hSw; simp only [Nat.zero_add] at s0 s1 s2 s3; go_simp⟩) hH ?_
      try simp only [Act.put, List.setIfInBounds_toArray, List.set_cons_zero, List.set_cons_succ, List.getElem_toArray, List.getElem_cons_succ, List.getElem_cons_zero]
      refine wpAnyH_ready (rs := [2]) (by kernel_rfl) (by simp) ?_
      refine AllReadyH.cons rfl (fun K hK => ?_) AllReadyH.nil
      go_simp
      go_at_call 18
      refine (hTb.out _ (chain B8.out hH)).mono ?_
      rintro e w9 ⟨g9, rfl, ⟨hg9, hl9⟩, hs9, hf9, hb9⟩
      have hw9 := chain hH hb9
      refine hK.out _ _ hw9 (fun _ => ?_)
      clear hK K
      try simp only [Act.put, List.setIfInBounds_toArray, List.set_cons_zero, List.set_cons_succ, List.getElem_toArray, List.getElem_cons_succ, List.getElem_cons_zero]
      refine wpAnyH_ready (rs := [3]) (by kernel_rfl) (by simp) ?_
      refine AllReadyH.cons rfl (fun K hK => ?_) AllReadyH.nil
      go_simp
      go_at_call 22
      refine (eqCl_any b (some ⟨g4, 0, none⟩) (some ⟨g9, 0, none⟩) _ _ OKb.out.2 w9 (RB8.out.later hw9) (.inr ⟨g9, 0, rfl, hl9, hs9⟩)).mono ?_
      rintro e wz ⟨rfl, hbz⟩
      have hwz := chain hw9 hbz
      refine hK.out _ _ hwz (fun _ => ?_)
      clear hK K
      try simp only [Act.put, List.setIfInBounds_toArray, List.set_cons_zero, List.set_cons_succ, List.getElem_toArray, List.getElem_cons_succ, List.getElem_cons_zero]
      refine wpAnyH_take (i := 4) (v := .bool false) rfl (by kernel_rfl) (by kernel_rfl) (by kernel_rfl) (fun _ _ _ h => h) (Or.inl ⟨by rfl, fun w hSw => by go_simp⟩) hwz ?_
      try simp only [Act.put, List.setIfInBounds_toArray, List.set_cons_zero, List.set_cons_succ, List.getElem_toArray, List.getElem_cons_succ, List.getElem_cons_zero]
      refine wpAnyH_done (by kernel_rfl) ?_ _
      try simp
      go_wp2
      go_ret
      exact ⟨rfl, chain B8.out hwz⟩
  · skip
    go_simp
    have hz := chain hH (below_alloc _ (Obj.cells #[.int .i64 0, .int .i64 0, .int .i64 0, .int .i64 0, .int .i64 0] 33))
    refine hK.out _ _ hz (fun _ => ?_)
    clear hK K
    try simp only [Act.put, List.setIfInBounds_toArray, List.set_cons_zero, List.set_cons_succ, List.getElem_toArray, List.getElem_cons_succ, List.getElem_cons_zero]
    have Rz : (v0.alloc (Obj.cells #[.int .i64 0, .int .i64 0, .int .i64 0, .int .i64 0, .int .i64 0] 33)).heap[v0.heap.size]? = some (.cells #[.int .i64 0, .int .i64 0, .int .i64 0, .int .i64 0, .int .i64 0] 33 (0, 0)) := heapNew _ _
    have hzl : w2.heap.size ≤ v0.heap.size := hH.size
    refine wpAnyH_ready (rs := [1]) (by kernel_rfl) (by simp) ?_
    refine AllReadyH.cons rfl (fun K hK => ?_) AllReadyH.nil
    go_simp
    go_at_call 18
    refine (hTa.out _ (chain B2.out hz)).mono ?_
    rintro e u1 ⟨e1, rfl, ⟨_, hl1⟩, hq1, _, hu1⟩
    have hs1 := chain hz hu1
    have RA : ReadsTm u1.heap.size u1 (some ⟨e1, 0, none⟩) a.ts := .inr ⟨e1, 0, rfl, hl1, hq1⟩
    have Rz := (hu1.block _ (RoomLt Rz)).trans Rz
    refine hK.out _ _ hs1 (fun _ => ?_)
    clear hK K
    try simp only [Act.put, List.setIfInBounds_toArray, List.set_cons_zero, List.set_cons_succ, List.getElem_toArray, List.getElem_cons_succ, List.getElem_cons_zero]
    refine wpAnyH_ready (rs := [3]) (by kernel_rfl) (by simp) ?_
    refine AllReadyH.cons rfl (fun K hK => ?_) AllReadyH.nil
    go_simp
    go_at_call 18
    refine (hTb.out _ (chain B2.out hs1)).mono ?_
    rintro e u2 ⟨e2, rfl, ⟨_, hl2⟩, hq2, _, hu2⟩
    have hs2 := chain hs1 hu2
    have RA := RA.later hu2
    have RB : ReadsTm u2.heap.size u2 (some ⟨e2, 0, none⟩) b.ts := .inr ⟨e2, 0, rfl, hl2, hq2⟩
    have Rz := (hu2.block _ (RoomLt Rz)).trans Rz
    refine hK.out _ _ hs2 (fun _ => ?_)
    clear hK K
    try simp only [Act.put, List.setIfInBounds_toArray, List.set_cons_zero, List.set_cons_succ, List.getElem_toArray, List.getElem_cons_succ, List.getElem_cons_zero]
    refine wpAnyH_ready (rs := [4]) (by kernel_rfl) (by simp) ?_
    refine AllReadyH.cons rfl (fun K hK => ?_) AllReadyH.nil
    go_simp
    go_at_call 26
    refine (hS.out e1 e2 _ RA RB).mono ?_
    rintro e u3 ⟨rfl, hu3⟩
    have hs3 := chain hs2 hu3
    have Rz := (hu3.block _ (RoomLt Rz)).trans Rz
    clear RA RB
    refine hK.out _ _ hs3 (fun _ => ?_)
    clear hK K
    try simp only [Act.put, List.setIfInBounds_toArray, List.set_cons_zero, List.set_cons_succ, List.getElem_toArray, List.getElem_cons_succ, List.getElem_cons_zero]
    refine wpAnyH_take (i := 5) (v := .tuple #[.agg #[.int .i64 k1, .int .i64 k2, .int .i64 k3, .int .i64 k4, .int .i64 k5], .bool kt, .int .i64 kc]) rfl (by kernel_rfl) (by kernel_rfl) (by kernel_rfl) (fun _ _ _ h => h) (Or.inl ⟨by rfl, fun w hSw => by go_simp⟩) hs3 ?_
    try simp only [Act.put, List.setIfInBounds_toArray, List.set_cons_zero, List.set_cons_succ, List.getElem_toArray, List.getElem_cons_succ, List.getElem_cons_zero]
    refine wpAnyH_take (i := 6) (v := .agg #[.int .i64 k1, .int .i64 k2, .int .i64 k3, .int .i64 k4, .int .i64 k5]) rfl (by kernel_rfl) (by kernel_rfl) (by kernel_rfl) (fun _ _ _ h => h) (Or.inl ⟨by rfl, fun w hSw => by go_simp⟩) hs3 ?_
    try simp only [Act.put, List.setIfInBounds_toArray, List.set_cons_zero, List.set_cons_succ, List.getElem_toArray, List.getElem_cons_succ, List.getElem_cons_zero]
    refine wpAnyH_take (i := 7) (v := .bool kt) rfl (by kernel_rfl) (by kernel_rfl) (by kernel_rfl) (fun _ _ _ h => h) (Or.inl ⟨by rfl, fun w hSw => by go_simp⟩) hs3 ?_
    try simp only [Act.put, List.setIfInBounds_toArray, List.set_cons_zero, List.set_cons_succ, List.getElem_toArray, List.getElem_cons_succ, List.getElem_cons_zero]
    refine wpAnyH_take (i := 8) (v := .int .i64 kc) rfl (by kernel_rfl) (by kernel_rfl) (by kernel_rfl) (fun _ _ _ h => h) (Or.inl ⟨by rfl, fun w hSw => by go_simp⟩) hs3 ?_
    try simp only [Act.put, List.setIfInBounds_toArray, List.set_cons_zero, List.set_cons_succ, List.getElem_toArray, List.getElem_cons_succ, List.getElem_cons_zero]
    refine wpAnyH_ready (rs := [10]) (by kernel_rfl) (by simp) ?_
    refine AllReadyH.cons rfl (fun K hK => ?_) AllReadyH.nil
    have q0 : u3.cell? ⟨v0.heap.size, 0, none⟩ = some (.int .i64 0) := by rw [cell_of_row _ _ _ _ _ _ Rz]; rfl
    have q1 : u3.cell? ⟨v0.heap.size, 1, none⟩ = some (.int .i64 0) := by rw [cell_of_row _ _ _ _ _ _ Rz]; rfl
    have q2 : u3.cell? ⟨v0.heap.size, 2, none⟩ = some (.int .i64 0) := by rw [cell_of_row _ _ _ _ _ _ Rz]; rfl
    have q3 : u3.cell? ⟨v0.heap.size, 3, none⟩ = some (.int .i64 0) := by rw [cell_of_row _ _ _ _ _ _ Rz]; rfl
    have q4 : u3.cell? ⟨v0.heap.size, 4, none⟩ = some (.int .i64 0) := by rw [cell_of_row _ _ _ _ _ _ Rz]; rfl
    have y0 : u3.frozen? ⟨v0.heap.size, 0, none⟩ = false := frozen_of_row _ _ _ _ _ Rz
    have y1 : u3.frozen? ⟨v0.heap.size, 1, none⟩ = false := frozen_of_row _ _ _ _ _ Rz
    have y2 : u3.frozen? ⟨v0.heap.size, 2, none⟩ = false := frozen_of_row _ _ _ _ _ Rz
    have y3 : u3.frozen? ⟨v0.heap.size, 3, none⟩ = false := frozen_of_row _ _ _ _ _ Rz
    have y4 : u3.frozen? ⟨v0.heap.size, 4, none⟩ = false := frozen_of_row _ _ _ _ _ Rz
    go_simp
    obtain ⟨Wf, hWf⟩ : ∃ Wf, Wf = (((((u3.setCell ⟨v0.heap.size, 0, none⟩ (.int .i64 k1)).setCell ⟨v0.heap.size, 1, none⟩ (.int .i64 k2)).setCell ⟨v0.heap.size, 2, none⟩ (.int .i64 k3)).setCell ⟨v0.heap.size, 3, none⟩ (.int .i64 k4)).setCell ⟨v0.heap.size, 4, none⟩ (.int .i64 k5)) := ⟨_, rfl⟩
    have hSf : Below w2.heap.size w2 Wf := by rw [hWf]; exact ((((hs3.setCell hzl _).setCell hzl _).setCell hzl _).setCell hzl _).setCell hzl _
    have r0 : Wf.cell? ⟨v0.heap.size, 0, none⟩ = some (.int .i64 k1) := by rw [hWf]; simp [go_sem, q0]
    have r1 : Wf.cell? ⟨v0.heap.size, 1, none⟩ = some (.int .i64 k2) := by rw [hWf]; simp [go_sem, q1]
    have r2 : Wf.cell? ⟨v0.heap.size, 2, none⟩ = some (.int .i64 k3) := by rw [hWf]; simp [go_sem, q2]
    have r3 : Wf.cell? ⟨v0.heap.size, 3, none⟩ = some (.int .i64 k4) := by rw [hWf]; simp [go_sem, q3]
    have r4 : Wf.cell? ⟨v0.heap.size, 4, none⟩ = some (.int .i64 k5) := by rw [hWf]; simp [go_sem, q4]
    clear q0 q1 q2 q3 q4 y0 y1 y2 y3 y4
    rw [← hWf]
    refine hK.out _ _ hSf (fun _ => ?_)
    clear hK K
    try simp only [Act.put]
    refine wpAnyH_take (i := 11) (v := .bool kt) rfl (by kernel_rfl) (by kernel_rfl) (by kernel_rfl) (fun _ _ _ h => h) (Or.inl ⟨by rfl, fun w hSw => by go_simp⟩) hSf ?_
    try simp only [Act.put, List.setIfInBounds_toArray, List.set_cons_zero, List.set_cons_succ, List.getElem_toArray, List.getElem_cons_succ, List.getElem_cons_zero]
    refine wpAnyH_take (i := 12) (v := .int .i64 kc) rfl (by kernel_rfl) (by kernel_rfl) (by kernel_rfl) (fun _ _ _ h => h) (Or.inl ⟨by rfl, fun w hSw => by go_simp⟩) hSf ?_
    try simp only [Act.put, List.setIfInBounds_toArray, List.set_cons_zero, List.set_cons_succ, List.getElem_toArray, List.getElem_cons_succ, List.getElem_cons_zero]
    refine wpAnyH_done (by kernel_rfl) ?_ _
    try simp
    generalize hblk : v0.heap.size = nbk at *
    clear hWf hblk Rz hzl
    have BF : Hid (Below w.heap.size w Wf) := chain B2.out hSf
    have LAf : Hid (ClAt Wf w.heap.size 0 ha ca a) := LA.out.later hSf
    have LBf : Hid (ClAt Wf (w.heap.size + 1) 0 hb cb b) := LB.out.later hSf
    have FK : Hid (FcAt Wf nbk k1 k2 k3 k4 k5) := ⟨r0, r1, r2, r3, r4⟩
    clear hSf r0 r1 r2 r3 r4 LA LB
    obtain ⟨a0, a1, a2, a3⟩ := LAf.out
    simp only [Nat.zero_add] at a0 a1 a2 a3
    obtain ⟨b0, b1, b2, b3⟩ := LBf.out
    simp only [Nat.zero_add] at b0 b1 b2 b3
    go_wp2_with fail
    (first | go_at_call 18 | skip)
    refine (hTa.out Wf BF.out).mono ?_
    rintro e w3 ⟨g3, rfl, ⟨hg3, hl3⟩, hs3, hf3, hb3⟩
    have B3 : Hid (Below w.heap.size w w3) := chain BF.out hb3
    have LA3 : Hid (ClAt w3 w.heap.size 0 ha ca a) := LAf.out.later hb3
    have LB3 : Hid (ClAt w3 (w.heap.size + 1) 0 hb cb b) := LBf.out.later hb3
    have FK3 : Hid (FcAt w3 nbk k1 k2 k3 k4 k5) := FK.out.later hb3
    have RA3 : Hid (ReadsTm w3.heap.size w3 (some ⟨g3, 0, none⟩) a.ts) := .inr ⟨g3, 0, rfl, hl3, hs3⟩
    clear hb3 hs3 hf3 hg3 hl3 a0 a1 a2 a3 b0 b1 b2 b3 LAf LBf FK
    have X3 : Hid (ClAt (w3.alloc (Obj.cells #[.string a.nm, .slice (some ⟨g3, 0, none⟩) a.ts.length a.ts.length, .int .i64 a.ac, .int .i64 a.nu] 45)) w3.heap.size 0 (some ⟨g3, 0, none⟩) a.ts.length a) := ⟨cellNew _ _ _ _ rfl rfl, cellNew _ _ _ _ rfl rfl, cellNew _ _ _ _ rfl rfl, cellNew _ _ _ _ rfl rfl⟩
    have HA3 : Hid (Below w3.heap.size w3 (w3.alloc (Obj.cells #[.string a.nm, .slice (some ⟨g3, 0, none⟩) a.ts.length a.ts.length, .int .i64 a.ac, .int .i64 a.nu] 45))) := below_alloc _ _
    obtain ⟨b0, b1, b2, b3⟩ := LB3.out.later HA3.out
    simp only [Nat.zero_add] at b0 b1 b2 b3
    go_wp2_with fail
    (first | go_at_call 18 | skip)
    refine (hTb.out _ (chain B3.out HA3.out)).mono ?_
    rintro e w4 ⟨g4, rfl, ⟨hg4, hl4⟩, hs4, hf4, hb4⟩
    have hb34 := chain HA3.out hb4
    have B4 : Hid (Below w.heap.size w w4) := chain B3.out hb34
    have LA4 : Hid (ClAt w4 w.heap.size 0 ha ca a) := LA3.out.later hb34
    have LB4 : Hid (ClAt w4 (w.heap.size + 1) 0 hb cb b) := LB3.out.later hb34
    have FK4 : Hid (FcAt w4 nbk k1 k2 k3 k4 k5) := FK3.out.later hb34
    have RA4 : Hid (ReadsTm w4.heap.size w4 (some ⟨g3, 0, none⟩) a.ts) := RA3.out.later hb34
    have RB4 : Hid (ReadsTm w4.heap.size w4 (some ⟨g4, 0, none⟩) b.ts) := .inr ⟨g4, 0, rfl, hl4, hs4⟩
    have X4 : Hid (ClAt w4 w3.heap.size 0 (some ⟨g3, 0, none⟩) a.ts.length a) := X3.out.later hb4
    clear hb4 hb34 hs4 hf4 hg4 hl4 b0 b1 b2 b3 LA3 LB3 FK3 RA3 X3 HA3 B3
    generalize w3.heap.size = x0 at *
    have Y4 : Hid (ClAt (w4.alloc (Obj.cells #[.string b.nm, .slice (some ⟨g4, 0, none⟩) b.ts.length b.ts.length, .int .i64 b.ac, .int .i64 b.nu] 45)) w4.heap.size 0 (some ⟨g4, 0, none⟩) b.ts.length b) := ⟨cellNew _ _ _ _ rfl rfl, cellNew _ _ _ _ rfl rfl, cellNew _ _ _ _ rfl rfl, cellNew _ _ _ _ rfl rfl⟩
    have HA4 : Hid (Below w4.heap.size w4 (w4.alloc (Obj.cells #[.string b.nm, .slice (some ⟨g4, 0, none⟩) b.ts.length b.ts.length, .int .i64 b.ac, .int .i64 b.nu] 45))) := below_alloc _ _
    obtain ⟨p0, p1, p2, p3⟩ := (X4.out.later HA4.out)
    simp only [Nat.zero_add] at p0 p1 p2 p3
    obtain ⟨q0, q1, q2, q3⟩ := Y4.out
    simp only [Nat.zero_add] at q0 q1 q2 q3
    go_wp2_with fail
    (first | go_at_call 27 | skip)
    refine (hI.out g3 g4 _ (RA4.out.later HA4.out) (RB4.out.later HA4.out)).mono ?_
    rintro e w5 ⟨rfl, hb5⟩
    have hb45 := chain HA4.out hb5
    have B5 : Hid (Below w.heap.size w w5) := chain B4.out hb45
    have LA5 : Hid (ClAt w5 w.heap.size 0 ha ca a) := LA4.out.later hb45
    have LB5 : Hid (ClAt w5 (w.heap.size + 1) 0 hb cb b) := LB4.out.later hb45
    have FK5 : Hid (FcAt w5 nbk k1 k2 k3 k4 k5) := FK4.out.later hb45
    have RA5 : Hid (ReadsTm w5.heap.size w5 (some ⟨g3, 0, none⟩) a.ts) := RA4.out.later hb45
    have RB5 : Hid (ReadsTm w5.heap.size w5 (some ⟨g4, 0, none⟩) b.ts) := RB4.out.later hb45
    have X5 : Hid (ClAt w5 x0 0 (some ⟨g3, 0, none⟩) a.ts.length a) := X4.out.later hb45
    have Y5 : Hid (ClAt w5 w4.heap.size 0 (some ⟨g4, 0, none⟩) b.ts.length b) := Y4.out.later hb5
    clear hb5 hb45 p0 p1 p2 p3 q0 q1 q2 q3 LA4 LB4 FK4 RA4 RB4 X4 Y4 HA4 B4
    generalize w4.heap.size = y0 at *
    have HA5 : Hid (Below w5.heap.size w5 (w5.alloc (Obj.cells #[.int .i64 k1, .int .i64 k2, .int .i64 k3, .int .i64 k4, .int .i64 k5] 33))) := below_alloc _ _
    obtain ⟨f0, f1, f2, f3, f4⟩ := FK5.out.later HA5.out
    go_wp2_with fail
    (first | go_at_call 20 | skip)
    refine (eqFacts_any k1 k2 k3 k4 k5 _).mono ?_
    rintro e w6 ⟨rfl, hb6⟩
    have hb56 := chain HA5.out hb6
    have B6 : Hid (Below w.heap.size w w6) := chain B5.out hb56
    have LA6 : Hid (ClAt w6 w.heap.size 0 ha ca a) := LA5.out.later hb56
    have LB6 : Hid (ClAt w6 (w.heap.size + 1) 0 hb cb b) := LB5.out.later hb56
    have RA6 : Hid (ReadsTm w6.heap.size w6 (some ⟨g3, 0, none⟩) a.ts) := RA5.out.later hb56
    have RB6 : Hid (ReadsTm w6.heap.size w6 (some ⟨g4, 0, none⟩) b.ts) := RB5.out.later hb56
    have X6 : Hid (ClAt w6 x0 0 (some ⟨g3, 0, none⟩) a.ts.length a) := X5.out.later hb56
    have Y6 : Hid (ClAt w6 y0 0 (some ⟨g4, 0, none⟩) b.ts.length b) := Y5.out.later hb56
    clear hb6 hb56 f0 f1 f2 f3 f4 LA5 LB5 FK5 RA5 RB5 X5 Y5 HA5 B5
    go_wp2
    refine wp_region_held_drew (S := fun W => Below w6.heap.size w6 W) (by kernel_rfl) (below_drew _) (fun hH => ?_)
    refine wpAnyH_take (i := 0) (v := .agg #[.string a.nm, .slice (some ⟨g3, 0, none⟩) a.ts.length a.ts.length, .int .i64 a.ac, .int .i64 a.nu]) rfl (by kernel_rfl) (by kernel_rfl) (by kernel_rfl) (fun _ _ _ h => h) (Or.inl ⟨by rfl, fun w hSw => by obtain ⟨s0, s1, s2, s3⟩ := X6.out.later hSw; simp only [Nat.zero_add] at s0 s1 s2 s3; go_simp⟩) hH ?_
    refine wpAnyH_take (i := 1) (v := .agg #[.string a.nm, .slice ha a.ts.length ca, .int .i64 a.ac, .int .i64 a.nu]) rfl (by kernel_rfl) (by kernel_rfl) (by kernel_rfl) (fun _ _ _ h => h) (Or.inl ⟨by rfl, fun w hSw => by obtain ⟨s0, s1, s2, s3⟩ := LA6.out.later hSw; simp only [Nat.zero_add] at s0 s1 s2 s3; go_simp⟩) hH ?_
    try simp only [Act.put, List.setIfInBounds_toArray, List.set_cons_zero, List.set_cons_succ, List.getElem_toArray, List.getElem_cons_succ, List.getElem_cons_zero]
    refine wpAnyH_ready (rs := [2]) (by kernel_rfl) (by simp) ?_
    refine AllReadyH.cons rfl (fun K hK => ?_) AllReadyH.nil
    go_simp
    go_at_call 18
    refine (hTa.out _ (chain B6.out hH)).mono ?_
    rintro e w7 ⟨g7, rfl, ⟨hg7, hl7⟩, hs7, hf7, hb7⟩
    have hw7 := chain hH hb7
    refine hK.out _ _ hw7 (fun _ => ?_)
    clear hK K
    try simp only [Act.put, List.setIfInBounds_toArray, List.set_cons_zero, List.set_cons_succ, List.getElem_toArray, List.getElem_cons_succ, List.getElem_cons_zero]
    refine wpAnyH_ready (rs := [3]) (by kernel_rfl) (by simp) ?_
    refine AllReadyH.cons rfl (fun K hK => ?_) AllReadyH.nil
    go_simp
    go_at_call 22
    refine (eqCl_any a (some ⟨g3, 0, none⟩) (some ⟨g7, 0, none⟩) _ _ OKa.out.2 w7 (RA6.out.later hw7) (.inr ⟨g7, 0, rfl, hl7, hs7⟩)).mono ?_
    rintro e w8 ⟨rfl, hb8⟩
    have hw8 := chain hw7 hb8
    refine hK.out _ _ hw8 (fun _ => ?_)
    clear hK K
    try simp only [Act.put, List.setIfInBounds_toArray, List.set_cons_zero, List.set_cons_succ, List.getElem_toArray, List.getElem_cons_succ, List.getElem_cons_zero]
    refine wpAnyH_take (i := 4) (v := .bool false) rfl (by kernel_rfl) (by kernel_rfl) (by kernel_rfl) (fun _ _ _ h => h) (Or.inl ⟨by rfl, fun w hSw => by go_simp⟩) hw8 ?_
    try simp only [Act.put, List.setIfInBounds_toArray, List.set_cons_zero, List.set_cons_succ, List.getElem_toArray, List.getElem_cons_succ, List.getElem_cons_zero]
    refine wpAnyH_done (by kernel_rfl) ?_ _
    try simp
    have B8 : Hid (Below w.heap.size w w8) := chain B6.out hw8
    have LB8 : Hid (ClAt w8 (w.heap.size + 1) 0 hb cb b) := LB6.out.later hw8
    have RB8 : Hid (ReadsTm w8.heap.size w8 (some ⟨g4, 0, none⟩) b.ts) := RB6.out.later hw8
    have Y8 : Hid (ClAt w8 y0 0 (some ⟨g4, 0, none⟩) b.ts.length b) := Y6.out.later hw8
    clear hH hw7 hw8 hb7 hb8 hs7 hf7 hg7 hl7 LA6 LB6 RA6 RB6 X6 Y6 B6
    go_wp2
    refine wp_region_held_drew (S := fun W => Below w8.heap.size w8 W) (by kernel_rfl) (below_drew _) (fun hH => ?_)
    refine wpAnyH_take (i := 0) (v := .agg #[.string b.nm, .slice (some ⟨g4, 0, none⟩) b.ts.length b.ts.length, .int .i64 b.ac, .int .i64 b.nu]) rfl (by kernel_rfl) (by kernel_rfl) (by kernel_rfl) (fun _ _ _ h => h) (Or.inl ⟨by rfl, fun w hSw => by obtain ⟨s0, s1, s2, s3⟩ := Y8.out.later hSw; simp only [Nat.zero_add] at s0 s1 s2 s3; go_simp⟩) hH ?_
    refine wpAnyH_take (i := 1) (v := .agg #[.string b.nm, .slice hb b.ts.length cb, .int .i64 b.ac, .int .i64 b.nu]) rfl (by kernel_rfl) (by kernel_rfl) (by kernel_rfl) (fun _ _ _ h => h) (Or.inl ⟨by rfl, fun w hSw => by obtain ⟨s0, s1, s2, s3⟩ := LB8.out.later hSw; simp only [Nat.zero_add] at s0 s1 s2 s3; go_simp⟩) hH ?_
    try simp only [Act.put, List.setIfInBounds_toArray, List.set_cons_zero, List.set_cons_succ, List.getElem_toArray, List.getElem_cons_succ, List.getElem_cons_zero]
    refine wpAnyH_ready (rs := [2]) (by kernel_rfl) (by simp) ?_
    refine AllReadyH.cons rfl (fun K hK => ?_) AllReadyH.nil
    go_simp
    go_at_call 18
    refine (hTb.out _ (chain B8.out hH)).mono ?_
    rintro e w9 ⟨g9, rfl, ⟨hg9, hl9⟩, hs9, hf9, hb9⟩
    have hw9 := chain hH hb9
    refine hK.out _ _ hw9 (fun _ => ?_)
    clear hK K
    try simp only [Act.put, List.setIfInBounds_toArray, List.set_cons_zero, List.set_cons_succ, List.getElem_toArray, List.getElem_cons_succ, List.getElem_cons_zero]
    refine wpAnyH_ready (rs := [3]) (by kernel_rfl) (by simp) ?_
    refine AllReadyH.cons rfl (fun K hK => ?_) AllReadyH.nil
    go_simp
    go_at_call 22
    refine (eqCl_any b (some ⟨g4, 0, none⟩) (some ⟨g9, 0, none⟩) _ _ OKb.out.2 w9 (RB8.out.later hw9) (.inr ⟨g9, 0, rfl, hl9, hs9⟩)).mono ?_
    rintro e wz ⟨rfl, hbz⟩
    have hwz := chain hw9 hbz
    refine hK.out _ _ hwz (fun _ => ?_)
    clear hK K
    try simp only [Act.put, List.setIfInBounds_toArray, List.set_cons_zero, List.set_cons_succ, List.getElem_toArray, List.getElem_cons_succ, List.getElem_cons_zero]
    refine wpAnyH_take (i := 4) (v := .bool false) rfl (by kernel_rfl) (by kernel_rfl) (by kernel_rfl) (fun _ _ _ h => h) (Or.inl ⟨by rfl, fun w hSw => by go_simp⟩) hwz ?_
    try simp only [Act.put, List.setIfInBounds_toArray, List.set_cons_zero, List.set_cons_succ, List.getElem_toArray, List.getElem_cons_succ, List.getElem_cons_zero]
    refine wpAnyH_done (by kernel_rfl) ?_ _
    try simp
    go_wp2
    go_ret
    exact ⟨rfl, chain B8.out hwz⟩

theorem own : ownKnob Try.prog.godebug = none := by kernel_rfl
theorem laidOut : laidOutB Try.prog = true := by kernel_rfl

set_option maxRecDepth 100000 in
theorem lifted (os : Os) (started : os.Started) (H : Type) (enc : TypeId × Value → H) :
    ReturnsInHanded {} Try.checked os 6 .any (Rows.fnExactClashSpec.pre6 enc Try.prog Try.f6 Rows.fnExactClashRow.domain false) (Rows.fnExactClashSpec.post enc Try.prog Try.f6 false true false false) := by
  refine returnsInHanded_of_change (C := Try.checked) own started (by kernel_rfl) Try.func6
    (ChangeSpec.witness6 (enc := enc) (C := Try.checked) false ⟨#[], #[.agg #[.string ByteArray.empty, .slice none 0 0, .int .i64 0, .int .i64 0], .agg #[.string ByteArray.empty, .slice none 0 0, .int .i64 0, .int .i64 0]], []⟩ 8 (by kernel_rfl) (by kernel_rfl) (by kernel_rfl) (by kernel_rfl)) ?_
  intro W base args ds gs before hval0 hW hcnd _
  have hval : ∀ (j : Nat) t v, Try.f6.params[j]? = some t → args[j]? = some v → Value.okWide Try.prog W .any base t v := hval0
  have hW' := hW
  obtain ⟨p, q, hA0, hV, rfl, hfz, hnd⟩ := hW
  have hA : DataW.TrodAll enc Try.prog W 0 (fun _ => true) true Try.f6.params.toList args.toList ds p := hA0
  rw [Try.params6] at hA hval
  obtain ⟨v0, vs0, d0, ds0, p0, q0, hargs, rfl, rfl, h0, r0⟩ := trodAll_cons hA
  obtain ⟨v1, vs1, d1, ds1, p1, q1, rfl, rfl, rfl, h1, r1⟩ := trodAll_cons r0
  obtain ⟨rfl, rfl, rfl⟩ := trodAll_nil r1
  obtain rfl : args = #[v0, v1] := by cases args; simp_all
  obtain ⟨rfl, rfl⟩ := trodVars_none hV
  have k0 := h0
  have lt0 : ∀ x ∈ p0, x.block < W.heap.size := by obtain ⟨m, hm⟩ := k0; exact DataW.trod_lt m _ _ _ hm
  have k1 := h1
  have lt1 : ∀ x ∈ p1, x.block < W.heap.size := by obtain ⟨m, hm⟩ := k1; exact DataW.trod_lt m _ _ _ hm
  obtain ⟨r0_, a0, cp0, rfl, w0, wc0, wr0⟩ := openClV (hval 0 38 v0 rfl rfl) h0
  obtain ⟨r1_, a1, cp1, rfl, w1, wc1, wr1⟩ := openClV (hval 1 38 v1 rfl rfl) h1
  clear hA0 hval0
  refine (walk r0_ a0 cp0 r1_ a1 cp1 W w0 wc0.1 wr0 w1 wc1.1 wr1).mono fun e W' ⟨he, bel⟩ => ?_
  subst he
  exact ⟨_, rfl, _, _, _, [], _, [], hW', trodAll_mk1 (shut_bool Try.underlying4 _), (trodAll_cons_mk (Below.trod laidOut (by kernel_rfl) (of_decide_eq_true (by kernel_rfl)) k0 bel lt0) (trodAll_cons_mk (Below.trod laidOut (by kernel_rfl) (of_decide_eq_true (by kernel_rfl)) k1 bel lt1) trodAll_mk0)), rfl, bel.frame _, fun h => by cases h⟩

theorem over : Rows.fnExactClashRow.holds Try.pinned (OpenSpec.ofChange Rows.fnExactClashSpec) :=
  OpenClaim.holds_of_wide 6 Try.f6 rfl rfl rfl rfl rfl rfl rfl ⟨rfl, rfl, rfl, rfl, rfl⟩ rfl rfl rfl rfl rfl (by kernel_rfl) Try.func6 (by kernel_rfl)
    (of_decide_eq_true (by kernel_rfl)) (by unfold Func.isWrapper; first | (rw [if_pos (by decide +kernel)]; kernel_rfl) | (rw [if_neg (by decide +kernel)]; exact ⟨rfl, rfl⟩))
    (fun os started H enc _ => lifted os started H enc)
end ClashLaw

theorem fnExactClash_holds : Rows.FnExactClashSaid := ClashLaw.over
end Go.Proofs.Ytpldllmbblomfaa

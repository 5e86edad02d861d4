/-
  Contracts of the specification's l19Picks, l19Order, l19Length, PathLength, for all arguments.
-/
import Derived.Test.YthmhpgbkapjjkaaPlC
import Derived.Deep.OwnRows
namespace Go.Proofs.Ythmhpgbkapjjkaa
open Go.ChangeShapes Go.WideShapes Go.ChangeAt Go.RowKit Go.Joins Go.Deep
set_option linter.unusedVariables false

def skC (a p g : Int) (rs : List RPt) : Int := if 4096 < rs.length then 2 else pkC a p g rs
set_option maxHeartbeats 4000000 in
theorem specPicks_any (a p g : Int) (ad : Option Addr) (cap : Nat) (rs : List RPt) (hl : rs.length ≤ 100000000) (w : World) (hr : ReadsPt w.heap.size w ad rs) :
    Calls Try.prog 41 #[.agg #[.int .i64 a, .int .i64 p, .int .i64 g], .slice ad rs.length cap] w fun e w' => e = .returned (.int .i64 (skC a p g rs)) ∧ Below w.heap.size w w' := by
  by_cases h1 : 4096 < rs.length
  · have e0 : skC a p g rs = 2 := by unfold skC; rw [if_pos h1]
    rw [e0]
    have h1' : (4096 : Int) < (rs.length : Int) := by omega
    clear e0 h1 hr
    go_enter Try.func41, Try.ntmps41
    go_wp2
    go_ret
    exact ⟨rfl, below_alloc _ _⟩
  have h1' : ¬ (4096 : Int) < (rs.length : Int) := by omega
  by_cases h2 : 9 < rs.length
  · have e0 : skC a p g rs = 9 := by unfold skC pkC; rw [if_neg h1, if_pos h2]
    rw [e0]
    have h2' : (9 : Int) < (rs.length : Int) := by omega
    clear e0 h1 h2 hr
    go_enter Try.func41, Try.ntmps41
    go_wp2
    go_ret
    exact ⟨rfl, below_alloc _ _⟩
  have h2' : ¬ (9 : Int) < (rs.length : Int) := by omega
  have e0 : skC a p g rs = if (hlB a p g && spsB a p rs) = true then 0 else 1 := by unfold skC pkC; rw [if_neg h1, if_neg h2]
  rw [e0]
  have H1 : Hid (∀ W, Calls Try.prog 61 #[.agg #[.int .i64 a, .int .i64 p, .int .i64 g]] W fun e w' => e = .returned (.bool (hlB a p g)) ∧ Below W.heap.size W w') := fun W => specHall_any a p g W
  have H2 : Hid (hlB a p g = true → ∀ (r : RPt) W, Calls Try.prog 62 #[.agg #[.int .i64 a, .int .i64 p, .int .i64 g], .agg #[.int .i64 r.ai, .int .i64 r.pl]] W fun e w' => e = .returned (.bool (spB a p r)) ∧ Below W.heap.size W w') := fun hh r W => specSpot_any a p g r.ai r.pl hh W
  have HR : Hid (ReadsPt w.heap.size w ad rs) := hr
  have HN := hlNew w a p g
  have HN0 : Hid (HlAt (w.alloc (Obj.cells #[.int .i64 a, .int .i64 p, .int .i64 g] 24)) w.heap.size a p g) := HN
  clear HN hr e0 h1 h2
  cases hb : hlB a p g
  · rw [hb] at H1
    clear H2 HR HN0
    rw [Bool.false_and]
    go_enter Try.func41, Try.ntmps41
    go_wp2_with fail
    (first | go_at_call 61 | skip)
    refine (H1.out _).mono ?_
    rintro e w2 ⟨rfl, hb2⟩
    go_wp2
    go_ret
    exact ⟨rfl, chain (below_alloc _ _) hb2⟩
  rw [hb] at H1
  have H3 : Hid (∀ (r : RPt) W, Calls Try.prog 62 #[.agg #[.int .i64 a, .int .i64 p, .int .i64 g], .agg #[.int .i64 r.ai, .int .i64 r.pl]] W fun e w' => e = .returned (.bool (spB a p r)) ∧ Below W.heap.size W w') := H2.out hb
  clear H2 hb
  rw [Bool.true_and]
  obtain ⟨res, hres⟩ : ∃ res : Int, (if spsB a p rs = true then 0 else 1) = res := ⟨_, rfl⟩
  have HE : Hid ((if spsB a p rs = true then (0 : Int) else 1) = res) := hres
  rw [hres]
  clear hres
  go_enter Try.func41, Try.ntmps41
  go_wp2_with fail
  (first | go_at_call 61 | skip)
  refine (H1.out _).mono ?_
  rintro e w2 ⟨rfl, hb2⟩
  have HB2 : Hid (Below w.heap.size w w2) := chain (below_alloc _ _) hb2
  have HH2 : Hid (HlAt w2 w.heap.size a p g ∧ w.heap.size < w2.heap.size) := ⟨HN0.out.below hb2 (by simp), Nat.lt_of_lt_of_le (by simp) hb2.size⟩
  clear hb2 HN0 H1
  go_wp2
  go_loopw [5] (fun c wr => ∃ k : Nat, k ≤ rs.length ∧ c = .int .i64 (k : Int) ∧ spsB a p (rs.take k) = true ∧ Below w2.heap.size w2 wr) (fun c _ => rs.length - (intOf c).toNat)
  case atStart => exact ⟨0, Nat.zero_le _, rfl, rfl, Below.refl _ _⟩
  case round =>
    obtain ⟨k, hk, rfl, hf, hbl⟩ := hrel
    have HF : Hid (spsB a p (rs.take k) = true) := hf
    have HB : Hid (Below w2.heap.size w2 wr) := hbl
    clear hf hbl
    by_cases hlt : k < rs.length
    · have hlt' : (k : Int) < (rs.length : Int) := by omega
      rcases HR.out with h | ⟨b0, o0, ha, hB0, ia⟩
      · rw [h] at hlt; simp at hlt
      subst ha
      have HC : Hid (∀ W, Below wr.heap.size wr W → PtAt W b0 (o0 + k * 2) (rs.getD k zPt) ∧ HlAt W w.heap.size a p g) := fun W hW => ⟨(ia k hlt).below (chain (chain HB2.out HB.out) hW) hB0, (HH2.out.1.below HB.out HH2.out.2).below hW (Nat.lt_of_lt_of_le HH2.out.2 HB.out.size)⟩
      have HX : Hid (spB a p (rs.getD k zPt) = false → res = 1) := fun h => by rw [← HE.out, sps_fail hlt h]; rfl
      have HN : Hid (spsB a p (rs.take (k + 1)) = (spsB a p (rs.take k) && spB a p (rs.getD k zPt))) := sps_take a p rs k hlt
      have hm := H3.out (rs.getD k zPt)
      clear ia
      generalize rs.getD k zPt = q at *
      have HM : Hid (∀ W, Calls Try.prog 62 #[.agg #[.int .i64 a, .int .i64 p, .int .i64 g], .agg #[.int .i64 q.ai, .int .i64 q.pl]] W fun e w' => e = .returned (.bool (spB a p q)) ∧ Below W.heap.size W w') := hm
      clear hm
      generalize spB a p q = mb at *
      go_upto_region 10 with fail
      refine wp_region_held_drew (S := fun W' => Below wr.heap.size wr W') (by kernel_rfl) (below_drew _) (fun hH => ?_)
      refine wpAnyH_take (i := 0) (v := .agg #[.int .i64 a, .int .i64 p, .int .i64 g]) rfl (by kernel_rfl) (by kernel_rfl) (by kernel_rfl) (fun _ _ _ h => h) (Or.inl ⟨by rfl, fun w hSw => by obtain ⟨f0, f1, f2⟩ := (HC.out w hSw).2; clear hSw; go_simp⟩) hH ?_
      refine wpAnyH_take (i := 1) (v := .slice (some ⟨b0, o0, none⟩) rs.length cap) rfl (by kernel_rfl) (by kernel_rfl) (by kernel_rfl) (fun _ _ _ h => h) (Or.inl ⟨by rfl, fun w hSw => by clear hSw; go_simp⟩) hH ?_
      try simp only [Act.put, List.setIfInBounds_toArray, List.set_cons_zero, List.set_cons_succ, List.getElem_toArray, List.getElem_cons_succ, List.getElem_cons_zero]
      refine wpAnyH_take (i := 2) (v := .int .i64 (k : Int)) rfl (by kernel_rfl) (by kernel_rfl) (by kernel_rfl) (fun _ _ _ h => h) (Or.inl ⟨by rfl, fun w hSw => by clear hSw; go_simp⟩) hH ?_
      try simp only [Act.put, List.setIfInBounds_toArray, List.set_cons_zero, List.set_cons_succ, List.getElem_toArray, List.getElem_cons_succ, List.getElem_cons_zero]
      refine wpAnyH_take (i := 3) (v := .pointer (some ⟨b0, o0 + k * 2, none⟩)) rfl (by kernel_rfl) (by kernel_rfl) (by kernel_rfl) (fun _ _ _ h => h) (Or.inl ⟨by rfl, fun w hSw => by clear hSw; go_simp⟩) hH ?_
      try simp only [Act.put, List.setIfInBounds_toArray, List.set_cons_zero, List.set_cons_succ, List.getElem_toArray, List.getElem_cons_succ, List.getElem_cons_zero]
      refine wpAnyH_take (i := 4) (v := .agg #[.int .i64 q.ai, .int .i64 q.pl]) rfl (by kernel_rfl) (by kernel_rfl) (by kernel_rfl) (fun _ _ _ h => h) (Or.inl ⟨by rfl, fun w hSw => by obtain ⟨f0, f1⟩ := (HC.out w hSw).1; clear hSw; go_simp⟩) hH ?_
      try simp only [Act.put, List.setIfInBounds_toArray, List.set_cons_zero, List.set_cons_succ, List.getElem_toArray, List.getElem_cons_succ, List.getElem_cons_zero]
      refine wpAnyH_ready (rs := [5]) (by kernel_rfl) (by simp) ?_
      refine AllReadyH.cons rfl (fun K hK => ?_) AllReadyH.nil
      go_simp
      go_at_call 62
      refine (HM.out _).mono ?_
      rintro e w9 ⟨rfl, hb9⟩
      have HB9 : Hid (Below wr.heap.size wr w9) := chain (below_drew _) hb9
      clear hb9
      refine hK.out _ _ HB9.out (fun _ => ?_)
      clear hK K
      try simp only [Act.put, List.setIfInBounds_toArray, List.set_cons_zero, List.set_cons_succ, List.getElem_toArray, List.getElem_cons_succ, List.getElem_cons_zero]
      refine wpAnyH_take (i := 6) (v := .bool (!mb)) rfl (by kernel_rfl) (by kernel_rfl) (by kernel_rfl) (fun _ _ _ h => h) (Or.inl ⟨by rfl, fun w hSw => by clear hSw; go_simp⟩) HB9.out ?_
      try simp only [Act.put, List.setIfInBounds_toArray, List.set_cons_zero, List.set_cons_succ, List.getElem_toArray, List.getElem_cons_succ, List.getElem_cons_zero]
      refine wpAnyH_done (by kernel_rfl) ?_ _
      clear hH
      cases mb
      · have hres : res = 1 := HX.out (by trivial)
        clear HX HN HM HC
        have HR1 : Hid (res = 1) := hres
        clear hres
        go_wp2
        go_ret
        exact ⟨ret_int HR1.out.symm, chain (chain HB2.out HB.out) HB9.out⟩
      · clear HX HM HC
        go_wp2
        exact ⟨⟨k + 1, by omega, by go_num, by rw [HN.out, HF.out]; rfl, chain HB.out HB9.out⟩, by simp [intOf]; omega⟩
    · have hle : (rs.length : Int) ≤ (k : Int) := by omega
      have HR0 : Hid (res = 0) := by
        have := HF.out
        rw [List.take_of_length_le (by omega)] at this
        show res = 0
        rw [← HE.out, this]; rfl
      go_wp2
      go_ret
      exact ⟨ret_int HR0.out.symm, chain HB2.out HB.out⟩
end Go.Proofs.Ythmhpgbkapjjkaa

/-
  Contracts of the specification's l06Fact, l06Fires, Decide.
-/
import Derived.Test.YtpldllmbblomfaaRdB
namespace Go.Proofs.Ytpldllmbblomfaa
open Go.ChangeShapes Go.WideShapes Go.ChangeAt Go.RowKit Go.Deep
set_option linter.unusedVariables false

theorem fact_any (x1 x2 x3 x4 x5 : Int) (k : Nat) (h : 1 ≤ k) (h' : k ≤ 5) (w : World) :
    Calls Try.prog 38 #[.agg #[.int .i64 x1, .int .i64 x2, .int .i64 x3, .int .i64 x4, .int .i64 x5], .int .i64 (k : Int)] w fun e w' => e = .returned (.int .i64 ([0, x1, x2, x3, x4, x5].getD k 0)) ∧ Below w.heap.size w w' := by
  rcases (by omega : k = 1 ∨ k = 2 ∨ k = 3 ∨ k = 4 ∨ k = 5) with rfl | rfl | rfl | rfl | rfl
  all_goals
    go_enter Try.func38, Try.ntmps38
    go_wp2
    go_ret
    exact ⟨rfl, by repeat (first | exact Below.refl _ _ | refine chain ?_ (below_alloc _ _))⟩
theorem hold_ways (F : List Int) (t : RTm) (m : Nat) (hm : t.fd = (m : Int)) (ho : 1 ≤ t.op ∧ t.op ≤ 3) : (t.op = 1 ∧ F.getD m 0 < t.nu ∧ holdB F t = false) ∨ (t.op = 1 ∧ ¬ F.getD m 0 < t.nu ∧ holdB F t = true) ∨ (t.op = 2 ∧ t.nu < F.getD m 0 ∧ holdB F t = false) ∨ (t.op = 2 ∧ ¬ t.nu < F.getD m 0 ∧ holdB F t = true) ∨ (t.op = 3 ∧ (F.getD m 0 == t.nu) = false ∧ holdB F t = false) ∨ (t.op = 3 ∧ F.getD m 0 = t.nu ∧ holdB F t = true) := by
  have e : t.fd.toNat = m := by omega
  unfold holdB
  rw [e]
  generalize F.getD m 0 = x
  rcases (by omega : t.op = 1 ∨ t.op = 2 ∨ t.op = 3) with h | h | h
  · by_cases hx : x < t.nu
    · exact .inl ⟨h, hx, decide_eq_false (fun q => by have := q.1 h; omega)⟩
    · exact .inr (.inl ⟨h, hx, decide_eq_true ⟨fun _ => by omega, fun q => by omega, fun q => by omega⟩⟩)
  · by_cases hx : t.nu < x
    · exact .inr (.inr (.inl ⟨h, hx, decide_eq_false (fun q => by have := q.2.1 h; omega)⟩))
    · exact .inr (.inr (.inr (.inl ⟨h, hx, decide_eq_true ⟨fun q => by omega, fun _ => by omega, fun q => by omega⟩⟩)))
  · by_cases hx : x = t.nu
    · exact .inr (.inr (.inr (.inr (.inr ⟨h, hx, decide_eq_true ⟨fun q => by omega, fun q => by omega, fun _ => hx⟩⟩))))
    · exact .inr (.inr (.inr (.inr (.inl ⟨h, by simpa using hx, decide_eq_false (fun q => hx (q.2.2 h))⟩))))
set_option maxHeartbeats 8000000 in
theorem fires_any (a : Option Addr) (cap : Nat) (ts : List RTm) (hok : ts.all tmB = true) (hl : ts.length ≤ 100000000) (x1 x2 x3 x4 x5 : Int) (w : World) (hr : ReadsTm w.heap.size w a ts) :
    Calls Try.prog 41 #[.slice a ts.length cap, .agg #[.int .i64 x1, .int .i64 x2, .int .i64 x3, .int .i64 x4, .int .i64 x5]] w fun e w' => e = .returned (.bool (fireB [0, x1, x2, x3, x4, x5] ts)) ∧ Below w.heap.size w w' := by
  have HR : Hid (ReadsTm w.heap.size w a ts) := hr
  have HOK : Hid (∀ t ∈ ts, tmB t = true) := List.all_eq_true.mp hok
  have H0 : Hid (Below w.heap.size w (w.alloc (.cells #[.int .i64 x1, .int .i64 x2, .int .i64 x3, .int .i64 x4, .int .i64 x5] 33)) ∧ FcAt (w.alloc (.cells #[.int .i64 x1, .int .i64 x2, .int .i64 x3, .int .i64 x4, .int .i64 x5] 33)) w.heap.size x1 x2 x3 x4 x5) := ⟨below_alloc _ _, FcAt.new w x1 x2 x3 x4 x5⟩
  clear hr hok
  go_enter Try.func41, Try.ntmps41
  go_wp2
  go_loopw [5, 6, 7] (fun c _ _ wr => ∃ k : Nat, k ≤ ts.length ∧ c = .int .i64 (k : Int) ∧ (ts.take k).all (holdB [0, x1, x2, x3, x4, x5]) = true ∧ Below w.heap.size w wr ∧ FcAt wr w.heap.size x1 x2 x3 x4 x5) (fun c _ _ _ => ts.length - (intOf c).toNat)
  case atStart => exact ⟨0, Nat.zero_le _, rfl, rfl, H0.out.1, H0.out.2⟩
  case round =>
    obtain ⟨k, hk, rfl, hf, hb, hfc⟩ := hrel
    have HF : Hid ((ts.take k).all (holdB [0, x1, x2, x3, x4, x5]) = true) := hf
    have HB : Hid (Below w.heap.size w wr) := hb
    have HFc : Hid (FcAt wr w.heap.size x1 x2 x3 x4 x5) := hfc
    clear hf hb hfc H0
    by_cases hlt : k < ts.length
    · have hlt' : (k : Int) < (ts.length : Int) := by omega
      rcases HR.out with h0 | ⟨b0, o0, ha, hB0, ia⟩
      · rw [h0] at hlt; simp at hlt
      subst ha
      have hq : tmB (ts.getD k zTm) = true := by
        have e : ts.getD k zTm = ts[k] := by simp [List.getD_eq_getElem?_getD, hlt]
        rw [e]; exact HOK.out _ (List.getElem_mem _)
      have hq' := tmB_iff.mp hq
      have HT : Hid (∀ W, Below wr.heap.size wr W → TmAt W b0 (o0 + k * 3) (ts.getD k zTm) ∧ FcAt W w.heap.size x1 x2 x3 x4 x5) := fun W hW => ⟨((ia.below HB.out hB0) k hlt).below hW (Nat.lt_of_lt_of_le hB0 HB.out.size), HFc.out.later hW⟩
      have HX : Hid (holdB [0, x1, x2, x3, x4, x5] (ts.getD k zTm) = false → fireB [0, x1, x2, x3, x4, x5] ts = false) := fun h => tms_fail hlt h
      have HN : Hid (holdB [0, x1, x2, x3, x4, x5] (ts.getD k zTm) = true → (ts.take (k + 1)).all (holdB [0, x1, x2, x3, x4, x5]) = true) := fun h => by rw [tms_take _ ts k hlt, HF.out, h]; rfl
      clear ia hq
      obtain ⟨m, hm⟩ : ∃ m : Nat, (ts.getD k zTm).fd = (m : Int) := ⟨(ts.getD k zTm).fd.toNat, by omega⟩
      have hw := hold_ways [0, x1, x2, x3, x4, x5] (ts.getD k zTm) m hm hq'.2.1
      have hm1 : 1 ≤ m ∧ m ≤ 5 := by omega
      have HA := fun W => fact_any x1 x2 x3 x4 x5 m hm1.1 hm1.2 W
      generalize ts.getD k zTm = r at *
      obtain ⟨f, o, x⟩ := r
      dsimp only at *
      subst hm
      generalize [0, x1, x2, x3, x4, x5].getD m 0 = y at *
      go_wp2
      refine wp_region_held_drew (S := fun W => Below wr.heap.size wr W) (by kernel_rfl) (below_drew _) (fun hH => ?_)
      refine wpAnyH_take (i := 0) (v := .agg #[.int .i64 x1, .int .i64 x2, .int .i64 x3, .int .i64 x4, .int .i64 x5]) rfl (by kernel_rfl) (by kernel_rfl) (by kernel_rfl) (fun _ _ _ h => h) (Or.inl ⟨by rfl, fun w hSw => by obtain ⟨_, s0, s1, s2, s3, s4⟩ := HT.out w hSw; go_simp⟩) hH ?_
      refine wpAnyH_take (i := 1) (v := .slice (some ⟨b0, o0, none⟩) ts.length cap) rfl (by kernel_rfl) (by kernel_rfl) (by kernel_rfl) (fun _ _ _ h => h) (Or.inl ⟨by rfl, fun w hSw => by go_simp⟩) hH ?_
      try simp only [Act.put, List.setIfInBounds_toArray, List.set_cons_zero, List.set_cons_succ, List.getElem_toArray, List.getElem_cons_succ, List.getElem_cons_zero]
      refine wpAnyH_take (i := 2) (v := .int .i64 (k : Int)) rfl (by kernel_rfl) (by kernel_rfl) (by kernel_rfl) (fun _ _ _ h => h) (Or.inl ⟨by rfl, fun w hSw => by go_simp⟩) hH ?_
      try simp only [Act.put, List.setIfInBounds_toArray, List.set_cons_zero, List.set_cons_succ, List.getElem_toArray, List.getElem_cons_succ, List.getElem_cons_zero]
      refine wpAnyH_take (i := 3) (v := .pointer (some ⟨b0, o0 + k * 3, none⟩)) rfl (by kernel_rfl) (by kernel_rfl) (by kernel_rfl) (fun _ _ _ h => h) (Or.inl ⟨by rfl, fun w hSw => by go_simp⟩) hH ?_
      try simp only [Act.put, List.setIfInBounds_toArray, List.set_cons_zero, List.set_cons_succ, List.getElem_toArray, List.getElem_cons_succ, List.getElem_cons_zero]
      refine wpAnyH_take (i := 4) (v := .pointer (some ⟨b0, o0 + k * 3, none⟩)) rfl (by kernel_rfl) (by kernel_rfl) (by kernel_rfl) (fun _ _ _ h => h) (Or.inl ⟨by rfl, fun w hSw => by go_simp⟩) hH ?_
      try simp only [Act.put, List.setIfInBounds_toArray, List.set_cons_zero, List.set_cons_succ, List.getElem_toArray, List.getElem_cons_succ, List.getElem_cons_zero]
      refine wpAnyH_take (i := 5) (v := .int .i64 (m : Int)) rfl (by kernel_rfl) (by kernel_rfl) (by kernel_rfl) (fun _ _ _ h => h) (Or.inl ⟨by rfl, fun w hSw => by obtain ⟨⟨s0, s1, s2⟩, _⟩ := HT.out w hSw; dsimp only at s0 s1 s2; go_simp⟩) hH ?_
      try simp only [Act.put, List.setIfInBounds_toArray, List.set_cons_zero, List.set_cons_succ, List.getElem_toArray, List.getElem_cons_succ, List.getElem_cons_zero]
      refine wpAnyH_ready (rs := [6]) (by kernel_rfl) (by simp) ?_
      refine AllReadyH.cons rfl (fun K hK => ?_) AllReadyH.nil
      go_simp
      go_at_call 38
      refine (HA _).mono ?_
      rintro e w2 ⟨rfl, hb2⟩
      have hw2 := chain hH hb2
      refine hK.out _ _ hw2 (fun _ => ?_)
      clear hK K
      try simp only [Act.put, List.setIfInBounds_toArray, List.set_cons_zero, List.set_cons_succ, List.getElem_toArray, List.getElem_cons_succ, List.getElem_cons_zero]
      refine wpAnyH_take (i := 7) (v := .int .i64 y) rfl (by kernel_rfl) (by kernel_rfl) (by kernel_rfl) (fun _ _ _ h => h) (Or.inl ⟨by rfl, fun w hSw => by go_simp⟩) hw2 ?_
      try simp only [Act.put, List.setIfInBounds_toArray, List.set_cons_zero, List.set_cons_succ, List.getElem_toArray, List.getElem_cons_succ, List.getElem_cons_zero]
      refine wpAnyH_done (by kernel_rfl) ?_ _
      try simp
      obtain ⟨⟨t0, t1, t2⟩, _⟩ := HT.out w2 hw2
      dsimp only at t0 t1 t2
      have HB2 : Hid (Below w.heap.size w w2) := chain HB.out hw2
      have HF2 : Hid (FcAt w2 w.heap.size x1 x2 x3 x4 x5) := (HT.out w2 hw2).2
      clear hw2 hb2 hH HT HA hq' HFc
      rcases hw with ⟨rfl, h1, h2⟩ | ⟨rfl, h1, h2⟩ | ⟨rfl, h1, h2⟩ | ⟨rfl, h1, h2⟩ | ⟨rfl, h1, h2⟩ | ⟨rfl, h1, h2⟩
      · have HE : Hid _ := HX.out h2
        clear HX HN h2
        go_wp2
        go_ret
        exact ⟨ret_bool HE.out.symm, chain HB2.out (below_alloc _ _)⟩
      · have HE : Hid _ := HN.out h2
        clear HX HN h2
        go_wp2
        go_roundw
        case rel => exact ⟨k + 1, by omega, by go_num, HE.out, chain HB2.out (below_alloc _ _), HF2.out.later (below_alloc _ _)⟩
        case measure => simp [intOf]; omega
      · have HE : Hid _ := HX.out h2
        clear HX HN h2
        go_wp2
        go_ret
        exact ⟨ret_bool HE.out.symm, chain HB2.out (below_alloc _ _)⟩
      · have HE : Hid _ := HN.out h2
        clear HX HN h2
        go_wp2
        go_roundw
        case rel => exact ⟨k + 1, by omega, by go_num, HE.out, chain HB2.out (below_alloc _ _), HF2.out.later (below_alloc _ _)⟩
        case measure => simp [intOf]; omega
      · have HE : Hid _ := HX.out h2
        clear HX HN h2
        go_wp2
        go_ret
        exact ⟨ret_bool HE.out.symm, chain HB2.out (below_alloc _ _)⟩
      · have HE : Hid _ := HN.out h2
        clear HX HN h2
        subst h1
        go_wp2
        go_roundw
        case rel => exact ⟨k + 1, by omega, by go_num, HE.out, chain HB2.out (below_alloc _ _), HF2.out.later (below_alloc _ _)⟩
        case measure => simp [intOf]; omega
    · have hle : (ts.length : Int) ≤ (k : Int) := by omega
      have HE : Hid (fireB [0, x1, x2, x3, x4, x5] ts = true) := by have := HF.out; rwa [List.take_of_length_le (by omega)] at this
      go_wp2
      go_ret
      exact ⟨ret_bool HE.out.symm, HB.out⟩
end Go.Proofs.Ytpldllmbblomfaa

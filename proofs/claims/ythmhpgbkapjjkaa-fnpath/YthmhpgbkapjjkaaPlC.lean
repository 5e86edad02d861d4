/-
  Contract of the program's PathLength, for all arguments.
-/
import Derived.Test.YthmhpgbkapjjkaaPlB
import Derived.Test.YthmhpgbkapjjkaaPkE
namespace Go.Proofs.Ythmhpgbkapjjkaa
open Go.ChangeShapes Go.WideShapes Go.ChangeAt Go.RowKit Go.Joins Go.Deep
set_option linter.unusedVariables false

/-- A hall's box, and the box of the spot where the way is. -/
structure PlI (w : World) (H : Nat) (a p g : Int) (q : RPt) (wr : World) : Prop where
  hall : HlAt wr w.heap.size a p g
  here : wr.heap[H]? = some (.cells #[.int .i64 q.ai, .int .i64 q.pl] 35 (0, 0))
  low : Below w.heap.size w wr
  ne : w.heap.size < H
section
variable {w : World} {H : Nat} {a p g : Int} {q : RPt} {wr w' : World}
theorem PlI.lt (h : PlI w H a p g q wr) : w.heap.size < wr.heap.size := Nat.lt_trans h.ne (blkLt h.here)
theorem PlI.later (h : PlI w H a p g q wr) (hb : Below wr.heap.size wr w') : PlI w H a p g q w' :=
  ⟨h.hall.below hb h.lt, (hb.block H (blkLt h.here)).trans h.here, chain h.low hb, h.ne⟩
theorem PlI.cells (h : PlI w H a p g q wr) : (wr.cell? ⟨w.heap.size, 0, none⟩ = some (.int .i64 a) ∧ wr.cell? ⟨w.heap.size, 1, none⟩ = some (.int .i64 p) ∧ wr.cell? ⟨w.heap.size, 2, none⟩ = some (.int .i64 g)) ∧ wr.cell? ⟨H, 0, none⟩ = some (.int .i64 q.ai) ∧ wr.cell? ⟨H, 1, none⟩ = some (.int .i64 q.pl) ∧ wr.frozen? ⟨H, 0, none⟩ = false ∧ wr.frozen? ⟨H, 1, none⟩ = false :=
  ⟨h.hall, blkCell h.here 0 _ rfl, blkCell h.here 1 _ rfl, blkFree h.here 0, blkFree h.here 1⟩
theorem PlI.set (h : PlI w H a p g q wr) (r : RPt) : PlI w H a p g r ((wr.setCell ⟨H, 0, none⟩ (.int .i64 r.ai)).setCell ⟨H, 1, none⟩ (.int .i64 r.pl)) := by
  obtain ⟨e1, e2⟩ := set_two h.here (.int .i64 r.ai) (.int .i64 r.pl)
  have hlow := (h.low.setCell (p := ⟨H, 0, none⟩) (Nat.le_of_lt h.ne) (.int .i64 r.ai)).setCell (p := ⟨H, 1, none⟩) (Nat.le_of_lt h.ne) (.int .i64 r.pl)
  have hc : ∀ j, ((wr.setCell ⟨H, 0, none⟩ (.int .i64 r.ai)).setCell ⟨H, 1, none⟩ (.int .i64 r.pl)).cell? ⟨w.heap.size, j, none⟩ = wr.cell? ⟨w.heap.size, j, none⟩ := fun j => World.cell?_of_block (a := ⟨w.heap.size, j, none⟩) (e2 w.heap.size (by have := h.ne; omega))
  exact ⟨⟨(hc 0).trans h.hall.1, (hc 1).trans h.hall.2.1, (hc 2).trans h.hall.2.2⟩, e1, hlow, h.ne⟩
end
set_option maxHeartbeats 8000000 in
theorem implPath_ok (a p g : Int) (ad : Option Addr) (cap : Nat) (rs : List RPt) (ao : Option Addr) (co : Nat) (os : List Int) (h9 : rs.length ≤ 9) (h4 : os.length ≤ 4096) (hh : hlB a p g = true) (hs : spsB a p rs = true) (ho : onB os rs.length = true) (w : World) (hr : ReadsPt w.heap.size w ad rs) (hro : Reads w.heap.size w ao os) :
    Calls Try.prog 9 #[.agg #[.int .i64 a, .int .i64 p, .int .i64 g], .slice ad rs.length cap, .slice ao os.length co] w fun e w' => e = .returned (.tuple #[.int .i64 (wyN p g rs zPt os), .int .i64 0]) ∧ Below w.heap.size w w' := by
  have hon := (on_iff os rs.length).1 ho
  have hlen : os.length ≤ 9 := by rw [hon.len]; exact h9
  have HPf : Hid (∀ W, Below w.heap.size w W → Calls Try.prog 36 #[.agg #[.int .i64 a, .int .i64 p, .int .i64 g], .slice ad rs.length cap] W fun e w' => e = .returned (.int .i64 0) ∧ Below W.heap.size W w') := fun W hb => by
    have := picksFault_any a p g ad cap rs (by omega) W ((hr.below hb).mono hb.size)
    have e0 : pkC a p g rs = 0 := by unfold pkC; rw [if_neg (by omega), hh, hs]; rfl
    rwa [e0] at this
  have HOn : Hid (∀ W, Below w.heap.size w W → Calls Try.prog 39 #[.slice ao os.length co, .int .i64 (rs.length : Int)] W fun e w' => e = .returned (.bool true) ∧ Below W.heap.size W w') := fun W hb => by
    have := once_any ao co os rs.length (by omega) (by omega) W ((hro.below hb).mono hb.size)
    rwa [ho] at this
  have HFr : Hid (∀ W, Calls Try.prog 38 #[] W fun e w' => e = .returned (.agg #[.int .i64 0, .int .i64 0]) ∧ Below W.heap.size W w') := fun W => front_any W
  have HFa : Hid (∀ q r : RPt, spB a p q = true → spB a p r = true → ∀ W, Calls Try.prog 40 #[.agg #[.int .i64 a, .int .i64 p, .int .i64 g], .agg #[.int .i64 q.ai, .int .i64 q.pl], .agg #[.int .i64 r.ai, .int .i64 r.pl]] W fun e w' => e = .returned (.int .i64 (farN p g q r)) ∧ Below W.heap.size W w') := fun q r h1 h2 W => impFar_any a p g q.ai q.pl r.ai r.pl hh h1 h2 W
  have HBd : Hid (∀ q r : RPt, spB a p q = true → spB a p r = true → 0 ≤ farN p g q r ∧ farN p g q r ≤ 2300) := fun q r h1 h2 => farN_bd hh h1 h2
  have HSp : Hid (∀ k, spB a p (rs.getD k zPt) = true) := fun k => sp_get hh hs k
  have HSz : Hid (spB a p zPt = true) := sp_z hh
  have HR : Hid (ReadsPt w.heap.size w ad rs) := hr
  have HRo : Hid (Reads w.heap.size w ao os) := hro
  have HIn : Hid (∀ k, k < os.length → ∃ m : Nat, m < rs.length ∧ os.getD k 0 = (m : Int)) := fun k hk => by
    have e : os.getD k 0 = os[k] := by simp [List.getD_eq_getElem?_getD, hk]
    have := hon.inn _ (List.getElem_mem hk)
    rw [e]
    exact ⟨os[k].toNat, by omega, by omega⟩
  have HDr : Hid (∀ q k, k < os.length → wyN p g rs q (os.drop k) = farN p g q (rs.getD (os.getD k 0).toNat zPt) + wyN p g rs (rs.getD (os.getD k 0).toNat zPt) (os.drop (k + 1))) := fun q k hk => wy_drop p g rs os q k hk
  have HNil : Hid (∀ q, wyN p g rs q (os.drop os.length) = farN p g q zPt) := fun q => by rw [List.drop_length]; rfl
  have hz1 : (max (rs.length : Int) (os.length : Int)) ≤ 4096 := by omega
  have hz2 : ¬ (4096 : Int) < (if (rs.length : Int) < (os.length : Int) then (os.length : Int) else (rs.length : Int)) := by split <;> omega
  clear hr hro hon hs ho hh h4
  obtain ⟨tot, htot⟩ : ∃ tot, wyN p g rs zPt os = tot := ⟨_, rfl⟩
  have HT : Hid (wyN p g rs zPt (os.drop 0) = tot) := by show _ = _; rw [List.drop_zero]; exact htot
  rw [htot]
  clear htot hz1
  have HN := hlNew w a p g
  have HN0 : Hid (HlAt (w.alloc (Obj.cells #[.int .i64 a, .int .i64 p, .int .i64 g] 24)) w.heap.size a p g) := HN
  clear HN
  go_enter Try.func9, Try.ntmps9
  go_wp2_with fail
  (first | go_at_call 36 | skip)
  refine (HPf.out _ (below_alloc _ _)).mono ?_
  rintro e w2 ⟨rfl, hb2⟩
  have HB2 : Hid (Below w.heap.size w w2) := chain (below_alloc _ _) hb2
  have H2 : Hid (HlAt w2 w.heap.size a p g ∧ w.heap.size < w2.heap.size) := ⟨HN0.out.below hb2 (by simp), Nat.lt_of_lt_of_le (by simp) hb2.size⟩
  clear hb2 HN0
  go_wp2_with fail
  (first | go_at_call 39 | skip)
  refine (HOn.out _ HB2.out).mono ?_
  rintro e w3 ⟨rfl, hb3⟩
  have HB3 : Hid (Below w.heap.size w w3) := chain HB2.out hb3
  have H3 : Hid (HlAt w3 w.heap.size a p g ∧ w.heap.size < w3.heap.size) := ⟨H2.out.1.below hb3 H2.out.2, Nat.lt_of_lt_of_le H2.out.2 hb3.size⟩
  clear hb3 H2 HB2
  go_wp2_with fail
  (first | go_at_call 38 | skip)
  refine (HFr.out _).mono ?_
  rintro e w4 ⟨rfl, hb4⟩
  have HP4 : Hid (∀ W, W = w4.alloc (Obj.cells #[.int .i64 0, .int .i64 0] 35) → PlI w w4.heap.size a p g zPt W) := fun W hW => by
    subst hW
    have h5 := H3.out.1.below hb4 H3.out.2
    have h6 : w.heap.size < w4.heap.size := Nat.lt_of_lt_of_le H3.out.2 hb4.size
    exact ⟨h5.below (below_alloc _ _) h6, heapNew _ _, chain (chain HB3.out hb4) (below_alloc _ _), h6⟩
  clear hb4 H3 HB3
  go_wp2
  generalize w4.heap.size = H at *
  go_loopw [9, 12, 33] (fun l _ c wr => ∃ (k : Nat) (ln : Int) (q : RPt), k ≤ os.length ∧ c = .int .i64 (k : Int) ∧ l = .int .i64 ln ∧ (0 ≤ ln ∧ ln ≤ 2300 * (k : Int)) ∧ spB a p q = true ∧ ln + wyN p g rs q (os.drop k) = tot ∧ PlI w H a p g q wr) (fun _ _ c _ => os.length - (intOf c).toNat)
  case atStart => exact ⟨0, 0, zPt, by omega, rfl, rfl, by omega, HSz.out, by rw [HT.out]; omega, HP4.out _ rfl⟩
  case round =>
    clear HP4
    obtain ⟨k, ln, q, hk, rfl, rfl, ⟨hl0, hl1⟩, hq, hsum, hI⟩ := hrel
    have HQ : Hid (spB a p q = true) := hq
    have HSm : Hid (ln + wyN p g rs q (os.drop k) = tot) := hsum
    have HI : Hid (PlI w H a p g q wr) := hI
    clear hq hsum hI
    by_cases hlt : k < os.length
    · have hlt' : (k : Int) < (os.length : Int) := by omega
      obtain ⟨m, hm, hmk⟩ := HIn.out k hlt
      rcases HRo.out with h | ⟨b1, o1, hb, hB1, ib⟩
      · rw [h] at hlt; simp at hlt
      rcases HR.out with h | ⟨b0, o0, ha, hB0, ia⟩
      · rw [h] at hm; simp at hm
      subst ha hb
      have d1 := (ib.below HI.out.low hB1) k hlt
      rw [hmk] at d1
      have hD := HDr.out q k hlt
      rw [hmk, Int.toNat_natCast] at hD
      have HD : Hid (wyN p g rs q (os.drop k) = farN p g q (rs.getD m zPt) + wyN p g rs (rs.getD m zPt) (os.drop (k + 1))) := hD
      have HC : Hid (∀ W, Below wr.heap.size wr W → PtAt W b0 (o0 + m * 2) (rs.getD m zPt) ∧ PlI w H a p g q W) := fun W hW => ⟨(ia m hm).below (chain HI.out.low hW) hB0, HI.out.later hW⟩
      have HF : Hid (∀ W, Calls Try.prog 40 #[.agg #[.int .i64 a, .int .i64 p, .int .i64 g], .agg #[.int .i64 q.ai, .int .i64 q.pl], .agg #[.int .i64 (rs.getD m zPt).ai, .int .i64 (rs.getD m zPt).pl]] W fun e w' => e = .returned (.int .i64 (farN p g q (rs.getD m zPt))) ∧ Below W.heap.size W w') := fun W => HFa.out q (rs.getD m zPt) HQ.out (HSp.out m) W
      have hbd := HBd.out q (rs.getD m zPt) HQ.out (HSp.out m)
      have HSm2 := HSp.out m
      have HS2 : Hid (spB a p (rs.getD m zPt) = true) := HSm2
      clear ia ib hD hmk HSm2
      generalize rs.getD m zPt = r at *
      generalize farN p g q r = fa at *
      have hw9 : IntKind.i64.wrap (ln + fa) = ln + fa := wrap_id _ (by omega) (by omega)
      have hm' : (m : Int) < (rs.length : Int) := by omega
      go_upto_region 12 with fail
      refine wp_region_held_drew (S := fun W' => Below wr.heap.size wr W') (by kernel_rfl) (below_drew _) (fun hH => ?_)
      refine wpAnyH_take (i := 0) (v := .int .i64 ln) rfl (by kernel_rfl) (by kernel_rfl) (by kernel_rfl) (fun _ _ _ h => h) (Or.inl ⟨by rfl, fun w hSw => by clear hSw; go_simp⟩) hH ?_
      refine wpAnyH_take (i := 1) (v := .agg #[.int .i64 a, .int .i64 p, .int .i64 g]) rfl (by kernel_rfl) (by kernel_rfl) (by kernel_rfl) (fun _ _ _ h => h) (Or.inl ⟨by rfl, fun w hSw => by obtain ⟨⟨f0, f1, f2⟩, f3⟩ := (HC.out w hSw).2.cells; clear f3 hSw; go_simp⟩) hH ?_
      try simp only [Act.put, List.setIfInBounds_toArray, List.set_cons_zero, List.set_cons_succ, List.getElem_toArray, List.getElem_cons_succ, List.getElem_cons_zero]
      refine wpAnyH_take (i := 2) (v := .agg #[.int .i64 q.ai, .int .i64 q.pl]) rfl (by kernel_rfl) (by kernel_rfl) (by kernel_rfl) (fun _ _ _ h => h) (Or.inl ⟨by rfl, fun w hSw => by obtain ⟨f0, f1, f2, f3⟩ := (HC.out w hSw).2.cells; clear f0 f3 hSw; go_simp⟩) hH ?_
      try simp only [Act.put, List.setIfInBounds_toArray, List.set_cons_zero, List.set_cons_succ, List.getElem_toArray, List.getElem_cons_succ, List.getElem_cons_zero]
      refine wpAnyH_take (i := 3) (v := .slice (some ⟨b0, o0, none⟩) rs.length cap) rfl (by kernel_rfl) (by kernel_rfl) (by kernel_rfl) (fun _ _ _ h => h) (Or.inl ⟨by rfl, fun w hSw => by clear hSw; go_simp⟩) hH ?_
      try simp only [Act.put, List.setIfInBounds_toArray, List.set_cons_zero, List.set_cons_succ, List.getElem_toArray, List.getElem_cons_succ, List.getElem_cons_zero]
      refine wpAnyH_take (i := 4) (v := .int .i64 (m : Int)) rfl (by kernel_rfl) (by kernel_rfl) (by kernel_rfl) (fun _ _ _ h => h) (Or.inl ⟨by rfl, fun w hSw => by clear hSw; go_simp⟩) hH ?_
      try simp only [Act.put, List.setIfInBounds_toArray, List.set_cons_zero, List.set_cons_succ, List.getElem_toArray, List.getElem_cons_succ, List.getElem_cons_zero]
      refine wpAnyH_take (i := 5) (v := .pointer (some ⟨b0, o0 + m * 2, none⟩)) rfl (by kernel_rfl) (by kernel_rfl) (by kernel_rfl) (fun _ _ _ h => h) (Or.inl ⟨by rfl, fun w hSw => by clear hSw; go_simp⟩) hH ?_
      try simp only [Act.put, List.setIfInBounds_toArray, List.set_cons_zero, List.set_cons_succ, List.getElem_toArray, List.getElem_cons_succ, List.getElem_cons_zero]
      refine wpAnyH_take (i := 6) (v := .agg #[.int .i64 r.ai, .int .i64 r.pl]) rfl (by kernel_rfl) (by kernel_rfl) (by kernel_rfl) (fun _ _ _ h => h) (Or.inl ⟨by rfl, fun w hSw => by obtain ⟨f0, f1⟩ := (HC.out w hSw).1; clear hSw; go_simp⟩) hH ?_
      try simp only [Act.put, List.setIfInBounds_toArray, List.set_cons_zero, List.set_cons_succ, List.getElem_toArray, List.getElem_cons_succ, List.getElem_cons_zero]
      refine wpAnyH_ready (rs := [7]) (by kernel_rfl) (by simp) ?_
      refine AllReadyH.cons rfl (fun K hK => ?_) AllReadyH.nil
      go_simp
      go_at_call 40
      refine (HF.out _).mono ?_
      rintro e w9 ⟨rfl, hb9⟩
      have HB9 : Hid (Below wr.heap.size wr w9) := chain (below_drew _) hb9
      clear hb9
      refine hK.out _ _ HB9.out (fun _ => ?_)
      clear hK K
      try simp only [Act.put, List.setIfInBounds_toArray, List.set_cons_zero, List.set_cons_succ, List.getElem_toArray, List.getElem_cons_succ, List.getElem_cons_zero]
      refine wpAnyH_take (i := 8) (v := .int .i64 (ln + fa)) rfl (by kernel_rfl) (by kernel_rfl) (by kernel_rfl) (fun _ _ _ h => h) (Or.inl ⟨by rfl, fun w hSw => by clear hSw; go_simp⟩) HB9.out ?_
      try simp only [Act.put, List.setIfInBounds_toArray, List.set_cons_zero, List.set_cons_succ, List.getElem_toArray, List.getElem_cons_succ, List.getElem_cons_zero]
      refine wpAnyH_take (i := 9) (v := .int .i64 (ln + fa)) rfl (by kernel_rfl) (by kernel_rfl) (by kernel_rfl) (fun _ _ _ h => h) (Or.inl ⟨by rfl, fun w hSw => by clear hSw; go_simp⟩) HB9.out ?_
      try simp only [Act.put, List.setIfInBounds_toArray, List.set_cons_zero, List.set_cons_succ, List.getElem_toArray, List.getElem_cons_succ, List.getElem_cons_zero]
      refine wpAnyH_done (by kernel_rfl) ?_ _
      clear hH d1
      obtain ⟨⟨x0, x1⟩, hI9⟩ := HC.out w9 HB9.out
      have HI9 : Hid (PlI w H a p g q w9) := hI9
      obtain ⟨y0, y1, y2, y3, y4⟩ := hI9.cells
      clear hI9 y0
      have HS9 : Hid (PlI w H a p g r ((w9.setCell ⟨H, 0, none⟩ (.int .i64 r.ai)).setCell ⟨H, 1, none⟩ (.int .i64 r.pl))) := HI9.out.set r
      go_wp2
      exact ⟨⟨k + 1, ln + fa, r, by omega, by go_num, rfl, by omega, HS2.out, by have := HSm.out; rw [HD.out] at this; omega, HS9.out⟩, by simp [intOf]; omega⟩
    · have hle : (os.length : Int) ≤ (k : Int) := by omega
      have hke : k = os.length := by omega
      have HE : Hid (ln + farN p g q zPt = tot) := by have := HSm.out; rwa [hke, HNil.out] at this
      have hbd := HBd.out q zPt HQ.out HSz.out
      have HF : Hid (∀ W, Calls Try.prog 40 #[.agg #[.int .i64 a, .int .i64 p, .int .i64 g], .agg #[.int .i64 q.ai, .int .i64 q.pl], .agg #[.int .i64 0, .int .i64 0]] W fun e w' => e = .returned (.int .i64 (farN p g q zPt)) ∧ Below W.heap.size W w') := fun W => HFa.out q zPt HQ.out HSz.out W
      have HC : Hid (∀ W, Below wr.heap.size wr W → PlI w H a p g q W) := fun W hW => HI.out.later hW
      generalize farN p g q zPt = fa at *
      have hw9 : IntKind.i64.wrap (ln + fa) = tot := by rw [wrap_id _ (by omega) (by omega)]; exact HE.out
      clear hke
      go_upto_region 15 with fail
      refine wp_region_held_drew (S := fun W' => Below wr.heap.size wr W') (by kernel_rfl) (below_drew _) (fun hH => ?_)
      refine wpAnyH_take (i := 0) (v := .int .i64 ln) rfl (by kernel_rfl) (by kernel_rfl) (by kernel_rfl) (fun _ _ _ h => h) (Or.inl ⟨by rfl, fun w hSw => by clear hSw; go_simp⟩) hH ?_
      refine wpAnyH_take (i := 1) (v := .agg #[.int .i64 a, .int .i64 p, .int .i64 g]) rfl (by kernel_rfl) (by kernel_rfl) (by kernel_rfl) (fun _ _ _ h => h) (Or.inl ⟨by rfl, fun w hSw => by obtain ⟨⟨f0, f1, f2⟩, f3⟩ := (HC.out w hSw).cells; clear f3 hSw; go_simp⟩) hH ?_
      try simp only [Act.put, List.setIfInBounds_toArray, List.set_cons_zero, List.set_cons_succ, List.getElem_toArray, List.getElem_cons_succ, List.getElem_cons_zero]
      refine wpAnyH_take (i := 2) (v := .agg #[.int .i64 q.ai, .int .i64 q.pl]) rfl (by kernel_rfl) (by kernel_rfl) (by kernel_rfl) (fun _ _ _ h => h) (Or.inl ⟨by rfl, fun w hSw => by obtain ⟨f0, f1, f2, f3⟩ := (HC.out w hSw).cells; clear f0 f3 hSw; go_simp⟩) hH ?_
      try simp only [Act.put, List.setIfInBounds_toArray, List.set_cons_zero, List.set_cons_succ, List.getElem_toArray, List.getElem_cons_succ, List.getElem_cons_zero]
      refine wpAnyH_ready (rs := [3]) (by kernel_rfl) (by simp) ?_
      refine AllReadyH.cons rfl (fun K hK => ?_) AllReadyH.nil
      go_simp
      go_at_call 38
      refine (HFr.out _).mono ?_
      rintro e w8 ⟨rfl, hb8⟩
      have HB8 : Hid (Below wr.heap.size wr w8) := chain (below_drew _) hb8
      clear hb8
      refine hK.out _ _ HB8.out (fun _ => ?_)
      clear hK K
      try simp only [Act.put, List.setIfInBounds_toArray, List.set_cons_zero, List.set_cons_succ, List.getElem_toArray, List.getElem_cons_succ, List.getElem_cons_zero]
      refine wpAnyH_ready (rs := [4]) (by kernel_rfl) (by simp) ?_
      refine AllReadyH.cons rfl (fun K hK => ?_) AllReadyH.nil
      go_simp
      go_at_call 40
      refine (HF.out _).mono ?_
      rintro e w9 ⟨rfl, hb9⟩
      have HB9 : Hid (Below wr.heap.size wr w9) := chain HB8.out hb9
      clear hb9
      refine hK.out _ _ HB9.out (fun _ => ?_)
      clear hK K
      try simp only [Act.put, List.setIfInBounds_toArray, List.set_cons_zero, List.set_cons_succ, List.getElem_toArray, List.getElem_cons_succ, List.getElem_cons_zero]
      refine wpAnyH_take (i := 5) (v := .int .i64 tot) rfl (by kernel_rfl) (by kernel_rfl) (by kernel_rfl) (fun _ _ _ h => h) (Or.inl ⟨by rfl, fun w hSw => by clear hSw; go_simp⟩) HB9.out ?_
      try simp only [Act.put, List.setIfInBounds_toArray, List.set_cons_zero, List.set_cons_succ, List.getElem_toArray, List.getElem_cons_succ, List.getElem_cons_zero]
      refine wpAnyH_take (i := 6) (v := .int .i64 tot) rfl (by kernel_rfl) (by kernel_rfl) (by kernel_rfl) (fun _ _ _ h => h) (Or.inl ⟨by rfl, fun w hSw => by clear hSw; go_simp⟩) HB9.out ?_
      try simp only [Act.put, List.setIfInBounds_toArray, List.set_cons_zero, List.set_cons_succ, List.getElem_toArray, List.getElem_cons_succ, List.getElem_cons_zero]
      refine wpAnyH_take (i := 7) (v := .int .i64 0) rfl (by kernel_rfl) (by kernel_rfl) (by kernel_rfl) (fun _ _ _ h => h) (Or.inl ⟨by rfl, fun w hSw => by clear hSw; go_simp⟩) HB9.out ?_
      try simp only [Act.put, List.setIfInBounds_toArray, List.set_cons_zero, List.set_cons_succ, List.getElem_toArray, List.getElem_cons_succ, List.getElem_cons_zero]
      refine wpAnyH_done (by kernel_rfl) ?_ _
      clear hH
      go_wp2
      go_ret2
      exact ⟨rfl, chain HI.out.low HB9.out⟩
theorem implPath_any (a p g : Int) (ad : Option Addr) (cap : Nat) (rs : List RPt) (ao : Option Addr) (co : Nat) (os : List Int) (hl1 : rs.length ≤ 100000000) (hl2 : os.length ≤ 100000000) (w : World) (hr : ReadsPt w.heap.size w ad rs) (hro : Reads w.heap.size w ao os) :
    Calls Try.prog 9 #[.agg #[.int .i64 a, .int .i64 p, .int .i64 g], .slice ad rs.length cap, .slice ao os.length co] w fun e w' => e = .returned (.tuple #[.int .i64 (plV a p g rs os), .int .i64 (plC a p g rs os)]) ∧ Below w.heap.size w w' := by
  have HPf : Hid (∀ W, Below w.heap.size w W → Calls Try.prog 36 #[.agg #[.int .i64 a, .int .i64 p, .int .i64 g], .slice ad rs.length cap] W fun e w' => e = .returned (.int .i64 (pkC a p g rs)) ∧ Below W.heap.size W w') := fun W hb => picksFault_any a p g ad cap rs (by omega) W ((hr.below hb).mono hb.size)
  rcases pl_ways a p g rs os with ⟨t1, e1, e2⟩ | ⟨t1, t2, t3, e1, e2⟩ | ⟨t1, t2, t3, e1, e2⟩ | ⟨t1, t2, t3, t4, t5, e1, e2⟩ | ⟨t1, t2, t3, t4, t5, e1, e2⟩
  · rw [e1, e2]
    have hz2 : (4096 : Int) < (if (rs.length : Int) < (os.length : Int) then (os.length : Int) else (rs.length : Int)) := by split <;> omega
    clear hr hro HPf e1 e2 t1
    go_enter Try.func9, Try.ntmps9
    go_wp2
    go_ret2
    exact ⟨rfl, below_alloc _ _⟩
  · rw [e1, e2]
    have hz2 : ¬ (4096 : Int) < (if (rs.length : Int) < (os.length : Int) then (os.length : Int) else (rs.length : Int)) := by split <;> omega
    have e0 : pkC a p g rs = 9 := by unfold pkC; rw [if_pos t3]
    rw [e0] at HPf
    clear hr hro e1 e2 e0 t1 t2 t3
    go_enter Try.func9, Try.ntmps9
    go_wp2_with fail
    (first | go_at_call 36 | skip)
    refine (HPf.out _ (below_alloc _ _)).mono ?_
    rintro e w2 ⟨rfl, hb2⟩
    go_wp2
    go_ret2
    exact ⟨rfl, chain (below_alloc _ _) hb2⟩
  · rw [e1, e2]
    have hz2 : ¬ (4096 : Int) < (if (rs.length : Int) < (os.length : Int) then (os.length : Int) else (rs.length : Int)) := by split <;> omega
    have e0 : pkC a p g rs = 1 := by unfold pkC; rw [if_neg (by omega), t3]; rfl
    rw [e0] at HPf
    clear hr hro e1 e2 e0 t1 t2 t3
    go_enter Try.func9, Try.ntmps9
    go_wp2_with fail
    (first | go_at_call 36 | skip)
    refine (HPf.out _ (below_alloc _ _)).mono ?_
    rintro e w2 ⟨rfl, hb2⟩
    go_wp2
    go_ret2
    exact ⟨rfl, chain (below_alloc _ _) hb2⟩
  · rw [e1, e2]
    have hz2 : ¬ (4096 : Int) < (if (rs.length : Int) < (os.length : Int) then (os.length : Int) else (rs.length : Int)) := by split <;> omega
    have e0 : pkC a p g rs = 0 := by unfold pkC; rw [if_neg (by omega), t3, t4]; rfl
    rw [e0] at HPf
    have HOn : Hid (∀ W, Below w.heap.size w W → Calls Try.prog 39 #[.slice ao os.length co, .int .i64 (rs.length : Int)] W fun e w' => e = .returned (.bool false) ∧ Below W.heap.size W w') := fun W hb => by
      have := once_any ao co os rs.length (by omega) (by omega) W ((hro.below hb).mono hb.size)
      rwa [t5] at this
    clear hr hro e1 e2 e0 t1 t2 t3 t4 t5
    go_enter Try.func9, Try.ntmps9
    go_wp2_with fail
    (first | go_at_call 36 | skip)
    refine (HPf.out _ (below_alloc _ _)).mono ?_
    rintro e w2 ⟨rfl, hb2⟩
    have HB2 : Hid (Below w.heap.size w w2) := chain (below_alloc _ _) hb2
    clear hb2
    go_wp2_with fail
    (first | go_at_call 39 | skip)
    refine (HOn.out _ HB2.out).mono ?_
    rintro e w3 ⟨rfl, hb3⟩
    go_wp2
    go_ret2
    exact ⟨rfl, chain HB2.out hb3⟩
  · rw [e1, e2]
    exact implPath_ok a p g ad cap rs ao co os t1 t2 t3 t4 t5 w hr hro
end Go.Proofs.Ythmhpgbkapjjkaa

/-
  Contracts of the specification's l17Week, l17Open, NextDay and DeliveryDays, for all arguments.
-/
import Derived.Test.YtbgjekhekjbcpabDyD
namespace Go.Proofs.Ytbgjekhekjbcpab
open Go.ChangeShapes Go.WideShapes Go.ChangeAt Go.RowKit Go.Joins Go.Deep
set_option linter.unusedVariables false

theorem cy_len {wk : List Bool} {hs : List Int} (h : wk.length ≠ 7 ∨ 60 < hs.length) : cyB wk hs = false := by
  unfold cyB
  rcases h with h | h
  · rw [decide_eq_false h]; rfl
  · rw [decide_eq_false (show ¬ hs.length ≤ 60 by omega)]; simp
theorem cy_all {wk : List Bool} {hs : List Int} (h1 : wk.length = 7) (h2 : hs.length ≤ 60) : cyB wk hs = (alB 0 100000 hs && rsN hs hs.length) := by
  unfold cyB
  rw [decide_eq_true h1, decide_eq_true h2]; simp
set_option maxHeartbeats 2000000 in
theorem week_any (wa ha : Option Addr) (wc hc : Nat) (wk : List Bool) (hs : List Int) (hl1 : wk.length ≤ 100000000) (hl : hs.length ≤ 100000000) (w : World) (hrh : Reads w.heap.size w ha hs) :
    Calls Try.prog 16 #[.slice wa wk.length wc, .slice ha hs.length hc] w fun e w' => e = .returned (.bool (cyB wk hs)) ∧ Below w.heap.size w w' := by
  have HR : Hid (Reads w.heap.size w ha hs) := hrh
  clear hrh
  by_cases h7 : wk.length = 7
  · have l1 : ((wk.length : Int) != 7) = false := by simp; omega
    by_cases h60 : hs.length ≤ 60
    · have l2 : ¬ (60 : Int) < (hs.length : Int) := by omega
      rw [cy_all h7 h60]
      clear h7
      go_enter Try.func16, Try.ntmps16
      go_wp2
      go_loopw [5] (fun c wr => ∃ k : Nat, k ≤ hs.length ∧ c = .int .i64 (k : Int) ∧ alB 0 100000 (hs.take k) = true ∧ rsN hs k = true ∧ Below w.heap.size w wr) (fun c _ => hs.length - (intOf c).toNat)
      case atStart => exact ⟨0, Nat.zero_le _, rfl, rfl, rfl, Below.refl _ _⟩
      case round =>
        obtain ⟨k, hk, rfl, hal, hrs, hb⟩ := hrel
        have HB : Hid (Below w.heap.size w wr) := hb
        have HA : Hid (alB 0 100000 (hs.take k) = true) := hal
        have HS : Hid (rsN hs k = true) := hrs
        clear hb hal hrs
        by_cases hlt : k < hs.length
        · have hlt' : (k : Int) < (hs.length : Int) := by omega
          rcases HR.out with h | ⟨b0, o0, ha', hB0, ia⟩
          · rw [h] at hlt; simp at hlt
          have c0 := (ia.below HB.out hB0) k hlt
          have HX : Hid (inB (hs.getD k 0) 0 100000 = false → alB 0 100000 hs = false) := fun h => al_fail hlt h
          have HN : Hid (alB 0 100000 (hs.take (k + 1)) = (alB 0 100000 (hs.take k) && inB (hs.getD k 0) 0 100000)) := al_take _ _ hs k hlt
          have HF : Hid (0 < k → ¬ hs.getD (k - 1) 0 < hs.getD k 0 → rsN hs hs.length = false) := fun h0 h => rsN_fail h0 hlt h
          have HG : Hid ((k = 0 ∨ hs.getD (k - 1) 0 < hs.getD k 0) → rsN hs (k + 1) = true) := fun h => rsN_next HS.out h
          have HI : Hid (∀ W, Calls Try.prog 17 #[.int .i64 (hs.getD k 0), .int .i64 0, .int .i64 100000] W fun e w' => e = .returned (.bool (inB (hs.getD k 0) 0 100000)) ∧ w' = W) := fun W => in_any _ _ _ W
          rw [ha']
          by_cases hin : inB (hs.getD k 0) 0 100000 = false
          · have HE : Hid (alB 0 100000 hs = false) := HX.out hin
            rw [hin] at HI
            clear ia HX HN HF HG hin
            generalize hs.getD k 0 = x at *
            go_wp2
            go_quiet (first | (go_at_call 17; exact Calls.quiet_of_same (HI.out _)))
            go_wp2
            go_ret
            exact ⟨ret_bool (by rw [HE.out]; rfl), below_drewN HB.out _⟩
          · have hin' : inB (hs.getD k 0) 0 100000 = true := by simpa using hin
            rw [hin'] at HI HN
            have HA2 : Hid (alB 0 100000 (hs.take (k + 1)) = true) := by show _ = _; rw [HN.out, HA.out]; rfl
            by_cases h0 : k = 0
            · have l3 : decide ((0 : Int) < (k : Int)) = false := decide_eq_false (by omega)
              have l4 : ¬ (0 : Int) < (k : Int) := by omega
              have HG2 : Hid (rsN hs (k + 1) = true) := HG.out (.inl h0)
              have HK0 : Hid (k = 0) := h0
              clear ia HX HN HF HG hin hin' h0
              generalize hs.getD k 0 = x at *
              have HQ : Hid (∀ V, Below wr.heap.size wr V → V.cell? ⟨b0, o0 + k, none⟩ = some (.int .i64 x) ∧ True) := fun V hV => ⟨(hV.cell (p := ⟨b0, o0 + k, none⟩) (Nat.lt_of_lt_of_le hB0 HB.out.size)).trans c0, trivial⟩
              go_upto_region 6 with fail
              refine wp_region_held_drew (S := fun W' => Below wr.heap.size wr W') (by kernel_rfl) (below_drew _) (fun hH => ?_)
              refine wpAnyH_take (i := 0) (v := .slice (some ⟨b0, o0, none⟩) hs.length hc) rfl (by kernel_rfl) (by kernel_rfl) (by kernel_rfl) (fun _ _ _ h => h) (Or.inl ⟨by rfl, fun w hSw => by clear hSw; go_simp⟩) hH ?_
              refine wpAnyH_take (i := 1) (v := .int .i64 ((k : Int))) rfl (by kernel_rfl) (by kernel_rfl) (by kernel_rfl) (fun _ _ _ h => h) (Or.inl ⟨by rfl, fun w hSw => by clear hSw; go_simp⟩) hH ?_
              try simp only [Act.put, List.setIfInBounds_toArray, List.set_cons_zero, List.set_cons_succ, List.getElem_toArray, List.getElem_cons_succ, List.getElem_cons_zero]
              refine wpAnyH_take (i := 2) (v := .pointer (some ⟨b0, o0 + k, none⟩)) rfl (by kernel_rfl) (by kernel_rfl) (by kernel_rfl) (fun _ _ _ h => h) (Or.inl ⟨by rfl, fun w hSw => by clear hSw; go_simp⟩) hH ?_
              try simp only [Act.put, List.setIfInBounds_toArray, List.set_cons_zero, List.set_cons_succ, List.getElem_toArray, List.getElem_cons_succ, List.getElem_cons_zero]
              refine wpAnyH_take (i := 3) (v := .int .i64 x) rfl (by kernel_rfl) (by kernel_rfl) (by kernel_rfl) (fun _ _ _ h => h) (Or.inl ⟨by rfl, fun w hSw => by have f0 := (HQ.out w hSw).1; clear hSw; go_simp⟩) hH ?_
              try simp only [Act.put, List.setIfInBounds_toArray, List.set_cons_zero, List.set_cons_succ, List.getElem_toArray, List.getElem_cons_succ, List.getElem_cons_zero]
              refine wpAnyH_ready (rs := [4]) (by kernel_rfl) (by simp) ?_
              refine AllReadyH.cons rfl (fun K hK => ?_) AllReadyH.nil
              go_simp
              go_at_call 17
              refine (HI.out _).mono ?_
              rintro e w3 ⟨rfl, rfl⟩
              refine hK.out _ _ hH (fun _ => ?_)
              clear hK K
              try simp only [Act.put, List.setIfInBounds_toArray, List.set_cons_zero, List.set_cons_succ, List.getElem_toArray, List.getElem_cons_succ, List.getElem_cons_zero]
              refine wpAnyH_take (i := 5) (v := .bool false) rfl (by kernel_rfl) (by kernel_rfl) (by kernel_rfl) (fun _ _ _ h => h) (Or.inl ⟨by rfl, fun w hSw => by clear hSw; go_simp⟩) hH ?_
              try simp only [Act.put, List.setIfInBounds_toArray, List.set_cons_zero, List.set_cons_succ, List.getElem_toArray, List.getElem_cons_succ, List.getElem_cons_zero]
              refine wpAnyH_take (i := 6) (v := .bool false) rfl (by kernel_rfl) (by kernel_rfl) (by kernel_rfl) (fun _ _ _ h => h) (Or.inl ⟨by rfl, fun w hSw => by clear hSw; go_simp⟩) hH ?_
              try simp only [Act.put, List.setIfInBounds_toArray, List.set_cons_zero, List.set_cons_succ, List.getElem_toArray, List.getElem_cons_succ, List.getElem_cons_zero]
              refine wpAnyH_take (i := 7) (v := .int .i64 ((k : Int))) rfl (by kernel_rfl) (by kernel_rfl) (by kernel_rfl) (fun _ _ _ h => h) (Or.inl ⟨by rfl, fun w hSw => by clear hSw; go_simp⟩) hH ?_
              try simp only [Act.put, List.setIfInBounds_toArray, List.set_cons_zero, List.set_cons_succ, List.getElem_toArray, List.getElem_cons_succ, List.getElem_cons_zero]
              refine wpAnyH_take (i := 8) (v := .bool false) rfl (by kernel_rfl) (by kernel_rfl) (by kernel_rfl) (fun _ _ _ h => h) (Or.inl ⟨by rfl, fun w hSw => by have hk0 := HK0.out; clear hSw; go_simp⟩) hH ?_
              try simp only [Act.put, List.setIfInBounds_toArray, List.set_cons_zero, List.set_cons_succ, List.getElem_toArray, List.getElem_cons_succ, List.getElem_cons_zero]
              refine wpAnyH_take (i := 9) (v := .bool false) rfl (by kernel_rfl) (by kernel_rfl) (by kernel_rfl) (fun _ _ _ h => h) (Or.inl ⟨by rfl, fun w hSw => by clear hSw; go_simp⟩) hH ?_
              try simp only [Act.put, List.setIfInBounds_toArray, List.set_cons_zero, List.set_cons_succ, List.getElem_toArray, List.getElem_cons_succ, List.getElem_cons_zero]
              refine wpAnyH_take (i := 10) (v := undef) rfl (by kernel_rfl) (by kernel_rfl) (by kernel_rfl) (fun _ _ _ h => h) (Or.inr ⟨by rfl, rfl⟩) hH ?_
              try simp only [Act.put, List.setIfInBounds_toArray, List.set_cons_zero, List.set_cons_succ, List.getElem_toArray, List.getElem_cons_succ, List.getElem_cons_zero]
              refine wpAnyH_take (i := 11) (v := undef) rfl (by kernel_rfl) (by kernel_rfl) (by kernel_rfl) (fun _ _ _ h => h) (Or.inr ⟨by rfl, rfl⟩) hH ?_
              try simp only [Act.put, List.setIfInBounds_toArray, List.set_cons_zero, List.set_cons_succ, List.getElem_toArray, List.getElem_cons_succ, List.getElem_cons_zero]
              refine wpAnyH_take (i := 12) (v := undef) rfl (by kernel_rfl) (by kernel_rfl) (by kernel_rfl) (fun _ _ _ h => h) (Or.inr ⟨by rfl, rfl⟩) hH ?_
              try simp only [Act.put, List.setIfInBounds_toArray, List.set_cons_zero, List.set_cons_succ, List.getElem_toArray, List.getElem_cons_succ, List.getElem_cons_zero]
              refine wpAnyH_take (i := 13) (v := undef) rfl (by kernel_rfl) (by kernel_rfl) (by kernel_rfl) (fun _ _ _ h => h) (Or.inr ⟨by rfl, rfl⟩) hH ?_
              try simp only [Act.put, List.setIfInBounds_toArray, List.set_cons_zero, List.set_cons_succ, List.getElem_toArray, List.getElem_cons_succ, List.getElem_cons_zero]
              refine wpAnyH_take (i := 14) (v := undef) rfl (by kernel_rfl) (by kernel_rfl) (by kernel_rfl) (fun _ _ _ h => h) (Or.inr ⟨by rfl, rfl⟩) hH ?_
              try simp only [Act.put, List.setIfInBounds_toArray, List.set_cons_zero, List.set_cons_succ, List.getElem_toArray, List.getElem_cons_succ, List.getElem_cons_zero]
              refine wpAnyH_take (i := 15) (v := undef) rfl (by kernel_rfl) (by kernel_rfl) (by kernel_rfl) (fun _ _ _ h => h) (Or.inr ⟨by rfl, rfl⟩) hH ?_
              try simp only [Act.put, List.setIfInBounds_toArray, List.set_cons_zero, List.set_cons_succ, List.getElem_toArray, List.getElem_cons_succ, List.getElem_cons_zero]
              refine wpAnyH_take (i := 16) (v := undef) rfl (by kernel_rfl) (by kernel_rfl) (by kernel_rfl) (fun _ _ _ h => h) (Or.inr ⟨by rfl, rfl⟩) hH ?_
              try simp only [Act.put, List.setIfInBounds_toArray, List.set_cons_zero, List.set_cons_succ, List.getElem_toArray, List.getElem_cons_succ, List.getElem_cons_zero]
              refine wpAnyH_take (i := 17) (v := undef) rfl (by kernel_rfl) (by kernel_rfl) (by kernel_rfl) (fun _ _ _ h => h) (Or.inr ⟨by rfl, rfl⟩) hH ?_
              try simp only [Act.put, List.setIfInBounds_toArray, List.set_cons_zero, List.set_cons_succ, List.getElem_toArray, List.getElem_cons_succ, List.getElem_cons_zero]
              refine wpAnyH_take (i := 18) (v := undef) rfl (by kernel_rfl) (by kernel_rfl) (by kernel_rfl) (fun _ _ _ h => h) (Or.inr ⟨by rfl, rfl⟩) hH ?_
              try simp only [Act.put, List.setIfInBounds_toArray, List.set_cons_zero, List.set_cons_succ, List.getElem_toArray, List.getElem_cons_succ, List.getElem_cons_zero]
              refine wpAnyH_take (i := 19) (v := undef) rfl (by kernel_rfl) (by kernel_rfl) (by kernel_rfl) (fun _ _ _ h => h) (Or.inr ⟨by rfl, rfl⟩) hH ?_
              try simp only [Act.put, List.setIfInBounds_toArray, List.set_cons_zero, List.set_cons_succ, List.getElem_toArray, List.getElem_cons_succ, List.getElem_cons_zero]
              refine wpAnyH_take (i := 20) (v := .bool false) rfl (by kernel_rfl) (by kernel_rfl) (by kernel_rfl) (fun _ _ _ h => h) (Or.inl ⟨by rfl, fun w hSw => by clear hSw; go_simp⟩) hH ?_
              try simp only [Act.put, List.setIfInBounds_toArray, List.set_cons_zero, List.set_cons_succ, List.getElem_toArray, List.getElem_cons_succ, List.getElem_cons_zero]
              refine wpAnyH_take (i := 21) (v := .bool false) rfl (by kernel_rfl) (by kernel_rfl) (by kernel_rfl) (fun _ _ _ h => h) (Or.inl ⟨by rfl, fun w hSw => by clear hSw; go_simp⟩) hH ?_
              try simp only [Act.put, List.setIfInBounds_toArray, List.set_cons_zero, List.set_cons_succ, List.getElem_toArray, List.getElem_cons_succ, List.getElem_cons_zero]
              refine wpAnyH_done (by kernel_rfl) ?_ _
              clear hH
              go_wp2
              exact ⟨⟨k + 1, by omega, by go_num, HA2.out, HG2.out, HB.out.drew⟩, by simp [intOf]; omega⟩
            · have l3 : decide ((0 : Int) < (k : Int)) = true := decide_eq_true (by omega)
              have l4 : (0 : Int) < (k : Int) := by omega
              have c1 := (ia.below HB.out hB0) (k - 1) (by omega)
              have hwk : IntKind.i64.wrap ((k : Int) - 1) = ((k - 1 : Nat) : Int) := by rw [show (k : Int) - 1 = ((k - 1 : Nat) : Int) by omega]; exact wrap_id _ (by omega) (by omega)
              have hk3 : ((k - 1 : Nat) : Int) < (hs.length : Int) := by omega
              have HF2 : Hid (¬ hs.getD (k - 1) 0 < hs.getD k 0 → rsN hs hs.length = false) := fun h => HF.out (by omega) h
              have HG2 : Hid (hs.getD (k - 1) 0 < hs.getD k 0 → rsN hs (k + 1) = true) := fun h => HG.out (.inr h)
              have HK0 : Hid (0 < k) := by show 0 < k; omega
              clear ia HX HN HF HG hin hin' h0
              generalize hs.getD k 0 = x at *
              generalize hs.getD (k - 1) 0 = y at *
              generalize hj : k - 1 = j at *
              clear hj
              by_cases hyx : y < x
              · have l5 : decide (x ≤ y) = false := decide_eq_false (by omega)
                have l6 : ¬ x ≤ y := by omega
                have HE : Hid (rsN hs (k + 1) = true) := HG2.out hyx
                clear HF2 HG2
                have HQ : Hid (∀ V, Below wr.heap.size wr V → V.cell? ⟨b0, o0 + k, none⟩ = some (.int .i64 x) ∧ V.cell? ⟨b0, o0 + j, none⟩ = some (.int .i64 y)) := fun V hV => ⟨(hV.cell (p := ⟨b0, o0 + k, none⟩) (Nat.lt_of_lt_of_le hB0 HB.out.size)).trans c0, (hV.cell (p := ⟨b0, o0 + j, none⟩) (Nat.lt_of_lt_of_le hB0 HB.out.size)).trans c1⟩
                go_upto_region 6 with fail
                refine wp_region_held_drew (S := fun W' => Below wr.heap.size wr W') (by kernel_rfl) (below_drew _) (fun hH => ?_)
                refine wpAnyH_take (i := 0) (v := .slice (some ⟨b0, o0, none⟩) hs.length hc) rfl (by kernel_rfl) (by kernel_rfl) (by kernel_rfl) (fun _ _ _ h => h) (Or.inl ⟨by rfl, fun w hSw => by clear hSw; go_simp⟩) hH ?_
                refine wpAnyH_take (i := 1) (v := .int .i64 ((k : Int))) rfl (by kernel_rfl) (by kernel_rfl) (by kernel_rfl) (fun _ _ _ h => h) (Or.inl ⟨by rfl, fun w hSw => by clear hSw; go_simp⟩) hH ?_
                try simp only [Act.put, List.setIfInBounds_toArray, List.set_cons_zero, List.set_cons_succ, List.getElem_toArray, List.getElem_cons_succ, List.getElem_cons_zero]
                refine wpAnyH_take (i := 2) (v := .pointer (some ⟨b0, o0 + k, none⟩)) rfl (by kernel_rfl) (by kernel_rfl) (by kernel_rfl) (fun _ _ _ h => h) (Or.inl ⟨by rfl, fun w hSw => by clear hSw; go_simp⟩) hH ?_
                try simp only [Act.put, List.setIfInBounds_toArray, List.set_cons_zero, List.set_cons_succ, List.getElem_toArray, List.getElem_cons_succ, List.getElem_cons_zero]
                refine wpAnyH_take (i := 3) (v := .int .i64 x) rfl (by kernel_rfl) (by kernel_rfl) (by kernel_rfl) (fun _ _ _ h => h) (Or.inl ⟨by rfl, fun w hSw => by have f0 := (HQ.out w hSw).1; clear hSw; go_simp⟩) hH ?_
                try simp only [Act.put, List.setIfInBounds_toArray, List.set_cons_zero, List.set_cons_succ, List.getElem_toArray, List.getElem_cons_succ, List.getElem_cons_zero]
                refine wpAnyH_ready (rs := [4]) (by kernel_rfl) (by simp) ?_
                refine AllReadyH.cons rfl (fun K hK => ?_) AllReadyH.nil
                go_simp
                go_at_call 17
                refine (HI.out _).mono ?_
                rintro e w3 ⟨rfl, rfl⟩
                refine hK.out _ _ hH (fun _ => ?_)
                clear hK K
                try simp only [Act.put, List.setIfInBounds_toArray, List.set_cons_zero, List.set_cons_succ, List.getElem_toArray, List.getElem_cons_succ, List.getElem_cons_zero]
                refine wpAnyH_take (i := 5) (v := .bool false) rfl (by kernel_rfl) (by kernel_rfl) (by kernel_rfl) (fun _ _ _ h => h) (Or.inl ⟨by rfl, fun w hSw => by clear hSw; go_simp⟩) hH ?_
                try simp only [Act.put, List.setIfInBounds_toArray, List.set_cons_zero, List.set_cons_succ, List.getElem_toArray, List.getElem_cons_succ, List.getElem_cons_zero]
                refine wpAnyH_take (i := 6) (v := .bool false) rfl (by kernel_rfl) (by kernel_rfl) (by kernel_rfl) (fun _ _ _ h => h) (Or.inl ⟨by rfl, fun w hSw => by clear hSw; go_simp⟩) hH ?_
                try simp only [Act.put, List.setIfInBounds_toArray, List.set_cons_zero, List.set_cons_succ, List.getElem_toArray, List.getElem_cons_succ, List.getElem_cons_zero]
                refine wpAnyH_take (i := 7) (v := .int .i64 ((k : Int))) rfl (by kernel_rfl) (by kernel_rfl) (by kernel_rfl) (fun _ _ _ h => h) (Or.inl ⟨by rfl, fun w hSw => by clear hSw; go_simp⟩) hH ?_
                try simp only [Act.put, List.setIfInBounds_toArray, List.set_cons_zero, List.set_cons_succ, List.getElem_toArray, List.getElem_cons_succ, List.getElem_cons_zero]
                refine wpAnyH_take (i := 8) (v := .bool true) rfl (by kernel_rfl) (by kernel_rfl) (by kernel_rfl) (fun _ _ _ h => h) (Or.inl ⟨by rfl, fun w hSw => by have hk0 := HK0.out; clear hSw; go_simp⟩) hH ?_
                try simp only [Act.put, List.setIfInBounds_toArray, List.set_cons_zero, List.set_cons_succ, List.getElem_toArray, List.getElem_cons_succ, List.getElem_cons_zero]
                refine wpAnyH_take (i := 9) (v := .bool true) rfl (by kernel_rfl) (by kernel_rfl) (by kernel_rfl) (fun _ _ _ h => h) (Or.inl ⟨by rfl, fun w hSw => by clear hSw; go_simp⟩) hH ?_
                try simp only [Act.put, List.setIfInBounds_toArray, List.set_cons_zero, List.set_cons_succ, List.getElem_toArray, List.getElem_cons_succ, List.getElem_cons_zero]
                refine wpAnyH_take (i := 10) (v := .slice (some ⟨b0, o0, none⟩) hs.length hc) rfl (by kernel_rfl) (by kernel_rfl) (by kernel_rfl) (fun _ _ _ h => h) (Or.inl ⟨by rfl, fun w hSw => by clear hSw; go_simp⟩) hH ?_
                try simp only [Act.put, List.setIfInBounds_toArray, List.set_cons_zero, List.set_cons_succ, List.getElem_toArray, List.getElem_cons_succ, List.getElem_cons_zero]
                refine wpAnyH_take (i := 11) (v := .int .i64 ((k : Int))) rfl (by kernel_rfl) (by kernel_rfl) (by kernel_rfl) (fun _ _ _ h => h) (Or.inl ⟨by rfl, fun w hSw => by clear hSw; go_simp⟩) hH ?_
                try simp only [Act.put, List.setIfInBounds_toArray, List.set_cons_zero, List.set_cons_succ, List.getElem_toArray, List.getElem_cons_succ, List.getElem_cons_zero]
                refine wpAnyH_take (i := 12) (v := .pointer (some ⟨b0, o0 + k, none⟩)) rfl (by kernel_rfl) (by kernel_rfl) (by kernel_rfl) (fun _ _ _ h => h) (Or.inl ⟨by rfl, fun w hSw => by clear hSw; go_simp⟩) hH ?_
                try simp only [Act.put, List.setIfInBounds_toArray, List.set_cons_zero, List.set_cons_succ, List.getElem_toArray, List.getElem_cons_succ, List.getElem_cons_zero]
                refine wpAnyH_take (i := 13) (v := .int .i64 x) rfl (by kernel_rfl) (by kernel_rfl) (by kernel_rfl) (fun _ _ _ h => h) (Or.inl ⟨by rfl, fun w hSw => by have f0 := (HQ.out w hSw).1; clear hSw; go_simp⟩) hH ?_
                try simp only [Act.put, List.setIfInBounds_toArray, List.set_cons_zero, List.set_cons_succ, List.getElem_toArray, List.getElem_cons_succ, List.getElem_cons_zero]
                refine wpAnyH_take (i := 14) (v := .slice (some ⟨b0, o0, none⟩) hs.length hc) rfl (by kernel_rfl) (by kernel_rfl) (by kernel_rfl) (fun _ _ _ h => h) (Or.inl ⟨by rfl, fun w hSw => by clear hSw; go_simp⟩) hH ?_
                try simp only [Act.put, List.setIfInBounds_toArray, List.set_cons_zero, List.set_cons_succ, List.getElem_toArray, List.getElem_cons_succ, List.getElem_cons_zero]
                refine wpAnyH_take (i := 15) (v := .int .i64 ((k : Int))) rfl (by kernel_rfl) (by kernel_rfl) (by kernel_rfl) (fun _ _ _ h => h) (Or.inl ⟨by rfl, fun w hSw => by clear hSw; go_simp⟩) hH ?_
                try simp only [Act.put, List.setIfInBounds_toArray, List.set_cons_zero, List.set_cons_succ, List.getElem_toArray, List.getElem_cons_succ, List.getElem_cons_zero]
                refine wpAnyH_take (i := 16) (v := .int .i64 ((j : Int))) rfl (by kernel_rfl) (by kernel_rfl) (by kernel_rfl) (fun _ _ _ h => h) (Or.inl ⟨by rfl, fun w hSw => by clear hSw; go_simp⟩) hH ?_
                try simp only [Act.put, List.setIfInBounds_toArray, List.set_cons_zero, List.set_cons_succ, List.getElem_toArray, List.getElem_cons_succ, List.getElem_cons_zero]
                refine wpAnyH_take (i := 17) (v := .pointer (some ⟨b0, o0 + j, none⟩)) rfl (by kernel_rfl) (by kernel_rfl) (by kernel_rfl) (fun _ _ _ h => h) (Or.inl ⟨by rfl, fun w hSw => by clear hSw; go_simp⟩) hH ?_
                try simp only [Act.put, List.setIfInBounds_toArray, List.set_cons_zero, List.set_cons_succ, List.getElem_toArray, List.getElem_cons_succ, List.getElem_cons_zero]
                refine wpAnyH_take (i := 18) (v := .int .i64 y) rfl (by kernel_rfl) (by kernel_rfl) (by kernel_rfl) (fun _ _ _ h => h) (Or.inl ⟨by rfl, fun w hSw => by have f0 := (HQ.out w hSw).2; clear hSw; go_simp⟩) hH ?_
                try simp only [Act.put, List.setIfInBounds_toArray, List.set_cons_zero, List.set_cons_succ, List.getElem_toArray, List.getElem_cons_succ, List.getElem_cons_zero]
                refine wpAnyH_take (i := 19) (v := .bool false) rfl (by kernel_rfl) (by kernel_rfl) (by kernel_rfl) (fun _ _ _ h => h) (Or.inl ⟨by rfl, fun w hSw => by clear hSw; go_simp⟩) hH ?_
                try simp only [Act.put, List.setIfInBounds_toArray, List.set_cons_zero, List.set_cons_succ, List.getElem_toArray, List.getElem_cons_succ, List.getElem_cons_zero]
                refine wpAnyH_take (i := 20) (v := .bool false) rfl (by kernel_rfl) (by kernel_rfl) (by kernel_rfl) (fun _ _ _ h => h) (Or.inl ⟨by rfl, fun w hSw => by clear hSw; go_simp⟩) hH ?_
                try simp only [Act.put, List.setIfInBounds_toArray, List.set_cons_zero, List.set_cons_succ, List.getElem_toArray, List.getElem_cons_succ, List.getElem_cons_zero]
                refine wpAnyH_take (i := 21) (v := .bool false) rfl (by kernel_rfl) (by kernel_rfl) (by kernel_rfl) (fun _ _ _ h => h) (Or.inl ⟨by rfl, fun w hSw => by clear hSw; go_simp⟩) hH ?_
                try simp only [Act.put, List.setIfInBounds_toArray, List.set_cons_zero, List.set_cons_succ, List.getElem_toArray, List.getElem_cons_succ, List.getElem_cons_zero]
                refine wpAnyH_done (by kernel_rfl) ?_ _
                clear hH
                go_wp2
                exact ⟨⟨k + 1, by omega, by go_num, HA2.out, HE.out, HB.out.drew⟩, by simp [intOf]; omega⟩
              · have l5 : decide (x ≤ y) = true := decide_eq_true (by omega)
                have l6 : x ≤ y := by omega
                have HE : Hid (rsN hs hs.length = false) := HF2.out hyx
                clear HF2 HG2
                have HQ : Hid (∀ V, Below wr.heap.size wr V → V.cell? ⟨b0, o0 + k, none⟩ = some (.int .i64 x) ∧ V.cell? ⟨b0, o0 + j, none⟩ = some (.int .i64 y)) := fun V hV => ⟨(hV.cell (p := ⟨b0, o0 + k, none⟩) (Nat.lt_of_lt_of_le hB0 HB.out.size)).trans c0, (hV.cell (p := ⟨b0, o0 + j, none⟩) (Nat.lt_of_lt_of_le hB0 HB.out.size)).trans c1⟩
                go_upto_region 6 with fail
                refine wp_region_held_drew (S := fun W' => Below wr.heap.size wr W') (by kernel_rfl) (below_drew _) (fun hH => ?_)
                refine wpAnyH_take (i := 0) (v := .slice (some ⟨b0, o0, none⟩) hs.length hc) rfl (by kernel_rfl) (by kernel_rfl) (by kernel_rfl) (fun _ _ _ h => h) (Or.inl ⟨by rfl, fun w hSw => by clear hSw; go_simp⟩) hH ?_
                refine wpAnyH_take (i := 1) (v := .int .i64 ((k : Int))) rfl (by kernel_rfl) (by kernel_rfl) (by kernel_rfl) (fun _ _ _ h => h) (Or.inl ⟨by rfl, fun w hSw => by clear hSw; go_simp⟩) hH ?_
                try simp only [Act.put, List.setIfInBounds_toArray, List.set_cons_zero, List.set_cons_succ, List.getElem_toArray, List.getElem_cons_succ, List.getElem_cons_zero]
                refine wpAnyH_take (i := 2) (v := .pointer (some ⟨b0, o0 + k, none⟩)) rfl (by kernel_rfl) (by kernel_rfl) (by kernel_rfl) (fun _ _ _ h => h) (Or.inl ⟨by rfl, fun w hSw => by clear hSw; go_simp⟩) hH ?_
                try simp only [Act.put, List.setIfInBounds_toArray, List.set_cons_zero, List.set_cons_succ, List.getElem_toArray, List.getElem_cons_succ, List.getElem_cons_zero]
                refine wpAnyH_take (i := 3) (v := .int .i64 x) rfl (by kernel_rfl) (by kernel_rfl) (by kernel_rfl) (fun _ _ _ h => h) (Or.inl ⟨by rfl, fun w hSw => by have f0 := (HQ.out w hSw).1; clear hSw; go_simp⟩) hH ?_
                try simp only [Act.put, List.setIfInBounds_toArray, List.set_cons_zero, List.set_cons_succ, List.getElem_toArray, List.getElem_cons_succ, List.getElem_cons_zero]
                refine wpAnyH_ready (rs := [4]) (by kernel_rfl) (by simp) ?_
                refine AllReadyH.cons rfl (fun K hK => ?_) AllReadyH.nil
                go_simp
                go_at_call 17
                refine (HI.out _).mono ?_
                rintro e w3 ⟨rfl, rfl⟩
                refine hK.out _ _ hH (fun _ => ?_)
                clear hK K
                try simp only [Act.put, List.setIfInBounds_toArray, List.set_cons_zero, List.set_cons_succ, List.getElem_toArray, List.getElem_cons_succ, List.getElem_cons_zero]
                refine wpAnyH_take (i := 5) (v := .bool false) rfl (by kernel_rfl) (by kernel_rfl) (by kernel_rfl) (fun _ _ _ h => h) (Or.inl ⟨by rfl, fun w hSw => by clear hSw; go_simp⟩) hH ?_
                try simp only [Act.put, List.setIfInBounds_toArray, List.set_cons_zero, List.set_cons_succ, List.getElem_toArray, List.getElem_cons_succ, List.getElem_cons_zero]
                refine wpAnyH_take (i := 6) (v := .bool false) rfl (by kernel_rfl) (by kernel_rfl) (by kernel_rfl) (fun _ _ _ h => h) (Or.inl ⟨by rfl, fun w hSw => by clear hSw; go_simp⟩) hH ?_
                try simp only [Act.put, List.setIfInBounds_toArray, List.set_cons_zero, List.set_cons_succ, List.getElem_toArray, List.getElem_cons_succ, List.getElem_cons_zero]
                refine wpAnyH_take (i := 7) (v := .int .i64 ((k : Int))) rfl (by kernel_rfl) (by kernel_rfl) (by kernel_rfl) (fun _ _ _ h => h) (Or.inl ⟨by rfl, fun w hSw => by clear hSw; go_simp⟩) hH ?_
                try simp only [Act.put, List.setIfInBounds_toArray, List.set_cons_zero, List.set_cons_succ, List.getElem_toArray, List.getElem_cons_succ, List.getElem_cons_zero]
                refine wpAnyH_take (i := 8) (v := .bool true) rfl (by kernel_rfl) (by kernel_rfl) (by kernel_rfl) (fun _ _ _ h => h) (Or.inl ⟨by rfl, fun w hSw => by have hk0 := HK0.out; clear hSw; go_simp⟩) hH ?_
                try simp only [Act.put, List.setIfInBounds_toArray, List.set_cons_zero, List.set_cons_succ, List.getElem_toArray, List.getElem_cons_succ, List.getElem_cons_zero]
                refine wpAnyH_take (i := 9) (v := .bool true) rfl (by kernel_rfl) (by kernel_rfl) (by kernel_rfl) (fun _ _ _ h => h) (Or.inl ⟨by rfl, fun w hSw => by clear hSw; go_simp⟩) hH ?_
                try simp only [Act.put, List.setIfInBounds_toArray, List.set_cons_zero, List.set_cons_succ, List.getElem_toArray, List.getElem_cons_succ, List.getElem_cons_zero]
                refine wpAnyH_take (i := 10) (v := .slice (some ⟨b0, o0, none⟩) hs.length hc) rfl (by kernel_rfl) (by kernel_rfl) (by kernel_rfl) (fun _ _ _ h => h) (Or.inl ⟨by rfl, fun w hSw => by clear hSw; go_simp⟩) hH ?_
                try simp only [Act.put, List.setIfInBounds_toArray, List.set_cons_zero, List.set_cons_succ, List.getElem_toArray, List.getElem_cons_succ, List.getElem_cons_zero]
                refine wpAnyH_take (i := 11) (v := .int .i64 ((k : Int))) rfl (by kernel_rfl) (by kernel_rfl) (by kernel_rfl) (fun _ _ _ h => h) (Or.inl ⟨by rfl, fun w hSw => by clear hSw; go_simp⟩) hH ?_
                try simp only [Act.put, List.setIfInBounds_toArray, List.set_cons_zero, List.set_cons_succ, List.getElem_toArray, List.getElem_cons_succ, List.getElem_cons_zero]
                refine wpAnyH_take (i := 12) (v := .pointer (some ⟨b0, o0 + k, none⟩)) rfl (by kernel_rfl) (by kernel_rfl) (by kernel_rfl) (fun _ _ _ h => h) (Or.inl ⟨by rfl, fun w hSw => by clear hSw; go_simp⟩) hH ?_
                try simp only [Act.put, List.setIfInBounds_toArray, List.set_cons_zero, List.set_cons_succ, List.getElem_toArray, List.getElem_cons_succ, List.getElem_cons_zero]
                refine wpAnyH_take (i := 13) (v := .int .i64 x) rfl (by kernel_rfl) (by kernel_rfl) (by kernel_rfl) (fun _ _ _ h => h) (Or.inl ⟨by rfl, fun w hSw => by have f0 := (HQ.out w hSw).1; clear hSw; go_simp⟩) hH ?_
                try simp only [Act.put, List.setIfInBounds_toArray, List.set_cons_zero, List.set_cons_succ, List.getElem_toArray, List.getElem_cons_succ, List.getElem_cons_zero]
                refine wpAnyH_take (i := 14) (v := .slice (some ⟨b0, o0, none⟩) hs.length hc) rfl (by kernel_rfl) (by kernel_rfl) (by kernel_rfl) (fun _ _ _ h => h) (Or.inl ⟨by rfl, fun w hSw => by clear hSw; go_simp⟩) hH ?_
                try simp only [Act.put, List.setIfInBounds_toArray, List.set_cons_zero, List.set_cons_succ, List.getElem_toArray, List.getElem_cons_succ, List.getElem_cons_zero]
                refine wpAnyH_take (i := 15) (v := .int .i64 ((k : Int))) rfl (by kernel_rfl) (by kernel_rfl) (by kernel_rfl) (fun _ _ _ h => h) (Or.inl ⟨by rfl, fun w hSw => by clear hSw; go_simp⟩) hH ?_
                try simp only [Act.put, List.setIfInBounds_toArray, List.set_cons_zero, List.set_cons_succ, List.getElem_toArray, List.getElem_cons_succ, List.getElem_cons_zero]
                refine wpAnyH_take (i := 16) (v := .int .i64 ((j : Int))) rfl (by kernel_rfl) (by kernel_rfl) (by kernel_rfl) (fun _ _ _ h => h) (Or.inl ⟨by rfl, fun w hSw => by clear hSw; go_simp⟩) hH ?_
                try simp only [Act.put, List.setIfInBounds_toArray, List.set_cons_zero, List.set_cons_succ, List.getElem_toArray, List.getElem_cons_succ, List.getElem_cons_zero]
                refine wpAnyH_take (i := 17) (v := .pointer (some ⟨b0, o0 + j, none⟩)) rfl (by kernel_rfl) (by kernel_rfl) (by kernel_rfl) (fun _ _ _ h => h) (Or.inl ⟨by rfl, fun w hSw => by clear hSw; go_simp⟩) hH ?_
                try simp only [Act.put, List.setIfInBounds_toArray, List.set_cons_zero, List.set_cons_succ, List.getElem_toArray, List.getElem_cons_succ, List.getElem_cons_zero]
                refine wpAnyH_take (i := 18) (v := .int .i64 y) rfl (by kernel_rfl) (by kernel_rfl) (by kernel_rfl) (fun _ _ _ h => h) (Or.inl ⟨by rfl, fun w hSw => by have f0 := (HQ.out w hSw).2; clear hSw; go_simp⟩) hH ?_
                try simp only [Act.put, List.setIfInBounds_toArray, List.set_cons_zero, List.set_cons_succ, List.getElem_toArray, List.getElem_cons_succ, List.getElem_cons_zero]
                refine wpAnyH_take (i := 19) (v := .bool true) rfl (by kernel_rfl) (by kernel_rfl) (by kernel_rfl) (fun _ _ _ h => h) (Or.inl ⟨by rfl, fun w hSw => by clear hSw; go_simp⟩) hH ?_
                try simp only [Act.put, List.setIfInBounds_toArray, List.set_cons_zero, List.set_cons_succ, List.getElem_toArray, List.getElem_cons_succ, List.getElem_cons_zero]
                refine wpAnyH_take (i := 20) (v := .bool true) rfl (by kernel_rfl) (by kernel_rfl) (by kernel_rfl) (fun _ _ _ h => h) (Or.inl ⟨by rfl, fun w hSw => by clear hSw; go_simp⟩) hH ?_
                try simp only [Act.put, List.setIfInBounds_toArray, List.set_cons_zero, List.set_cons_succ, List.getElem_toArray, List.getElem_cons_succ, List.getElem_cons_zero]
                refine wpAnyH_take (i := 21) (v := .bool true) rfl (by kernel_rfl) (by kernel_rfl) (by kernel_rfl) (fun _ _ _ h => h) (Or.inl ⟨by rfl, fun w hSw => by clear hSw; go_simp⟩) hH ?_
                try simp only [Act.put, List.setIfInBounds_toArray, List.set_cons_zero, List.set_cons_succ, List.getElem_toArray, List.getElem_cons_succ, List.getElem_cons_zero]
                refine wpAnyH_done (by kernel_rfl) ?_ _
                clear hH
                go_wp2
                go_ret
                exact ⟨ret_bool (by rw [HE.out]; simp), HB.out.drew⟩
        · have hle : ¬ (k : Int) < (hs.length : Int) := by omega
          obtain rfl : k = hs.length := by omega
          have HE : Hid (alB 0 100000 hs = true) := by have := HA.out; rwa [List.take_of_length_le (Nat.le_refl _)] at this
          go_wp2
          go_ret
          exact ⟨ret_bool (by rw [HE.out, HS.out]; rfl), HB.out⟩
    · have l2 : (60 : Int) < (hs.length : Int) := by omega
      rw [cy_len (.inr (by omega))]
      clear h7
      go_enter Try.func16, Try.ntmps16
      go_wp2
      go_ret
      exact ⟨rfl, Below.refl _ _⟩
  · have l1 : ((wk.length : Int) != 7) = true := by simp; omega
    rw [cy_len (.inl h7)]
    go_enter Try.func16, Try.ntmps16
    go_wp2
    go_ret
    exact ⟨rfl, Below.refl _ _⟩
set_option maxHeartbeats 1000000 in
theorem open_any (wa ha : Option Addr) (wc hc : Nat) (wk : List Bool) (hs : List Int) (d : Int) (h7 : wk.length = 7) (hl : hs.length ≤ 60) (hd : 0 ≤ d) (w : World) (hrw : ReadsBl w.heap.size w wa wk) (hrh : Reads w.heap.size w ha hs) :
    Calls Try.prog 18 #[.slice wa wk.length wc, .slice ha hs.length hc, .int .i64 d] w fun e w' => e = .returned (.bool (opB wk hs d)) ∧ w = w' := by
  have HR : Hid (Reads w.heap.size w ha hs) := hrh
  have HW : Hid (ReadsBl w.heap.size w wa wk) := hrw
  have HO : Hid (opB wk hs d = (wk.getD (d % 7).toNat false && !hasI hs d)) := rfl
  clear hrh hrw
  obtain ⟨m, hm⟩ : ∃ m : Nat, d % 7 = (m : Int) := ⟨(d % 7).toNat, by omega⟩
  have hm7 : m < 7 := by omega
  have htm : Int.tmod d 7 = (m : Int) := by rw [Int.tmod_eq_emod_of_nonneg hd]; exact hm
  rw [hm, Int.toNat_natCast] at HO
  rcases HW.out with h | ⟨b1, o1, hwa, hB1, iw⟩
  · rw [h] at h7; simp at h7
  have cw := iw m (by omega)
  have hmw : (m : Int) < (wk.length : Int) := by omega
  have hw1 : IntKind.i64.wrap (m : Int) = (m : Int) := wrap_id _ (by omega) (by omega)
  rw [hwa]
  generalize wk.getD m false = bw at *
  clear iw HW hwa h7
  generalize wk.length = wl at *
  generalize opB wk hs d = ob at *
  go_enter Try.func18, Try.ntmps18
  go_wp2
  go_loopw [7] (fun c wr => ∃ k : Nat, k ≤ hs.length ∧ c = .int .i64 (k : Int) ∧ hasI (hs.take k) d = false ∧ w = wr) (fun c _ => hs.length - (intOf c).toNat)
  case atStart => exact ⟨0, Nat.zero_le _, rfl, rfl, rfl⟩
  case round =>
    obtain ⟨k, hk, rfl, hf, hw⟩ := hrel
    subst hw
    have HF : Hid (hasI (hs.take k) d = false) := hf
    clear hf
    by_cases hlt : k < hs.length
    · have hlt' : (k : Int) < (hs.length : Int) := by omega
      rcases HR.out with h | ⟨b0, o0, ha', hB0, ia⟩
      · rw [h] at hlt; simp at hlt
      have c0 := ia k hlt
      have HX : Hid (hs.getD k 0 = d → hasI hs d = true) := fun h => contains_at hlt h
      have HN : Hid (hs.getD k 0 ≠ d → hasI (hs.take (k + 1)) d = false) := fun h => contains_take hlt h HF.out
      rw [ha']
      clear ia
      generalize hs.getD k 0 = q at *
      by_cases hq : q = d
      · have HE : Hid (hasI hs d = true) := HX.out hq
        have l1 : (q == d) = true := by simp [hq]
        clear HX HN hq hm htm
        go_wp2
        go_ret
        exact ⟨ret_bool (by rw [HO.out, HE.out]; simp), rfl⟩
      · have HE : Hid (hasI (hs.take (k + 1)) d = false) := HN.out hq
        have l1 : (q == d) = false := by simp; omega
        have l2 : ¬ q = d := hq
        clear HX HN hq hm htm
        go_wp2
        exact ⟨⟨k + 1, by omega, by go_num, HE.out, by first | rfl | trivial⟩, by simp [intOf]; omega⟩
    · have hle : ¬ (k : Int) < (hs.length : Int) := by omega
      have HE : Hid (hasI hs d = false) := by have := HF.out; rwa [List.take_of_length_le (by omega)] at this
      go_wp2
      go_ret
      exact ⟨ret_bool (by rw [HO.out, HE.out]; simp), rfl⟩
set_option maxHeartbeats 2000000 in
theorem specNext_any (wa ha : Option Addr) (wc hc : Nat) (wk : List Bool) (hs : List Int) (d : Int) (hl1 : wk.length ≤ 100000000) (hl : hs.length ≤ 100000000) (w : World) (hrw : ReadsBl w.heap.size w wa wk) (hrh : Reads w.heap.size w ha hs) :
    Calls Try.prog 5 #[.slice wa wk.length wc, .slice ha hs.length hc, .int .i64 d] w (AnsN w (ndD wk hs d) (ndC wk hs d)) := by
  have HWk : Hid (∀ W, Below w.heap.size w W → Calls Try.prog 16 #[.slice wa wk.length wc, .slice ha hs.length hc] W fun e w' => e = .returned (.bool (cyB wk hs)) ∧ Below W.heap.size W w') := fun W hW => week_any wa ha wc hc wk hs hl1 hl W (readsL hrh hW)
  have HI : Hid (∀ W, Calls Try.prog 17 #[.int .i64 d, .int .i64 0, .int .i64 100000] W fun e w' => e = .returned (.bool (inB d 0 100000)) ∧ W = w') := fun W => (in_any _ _ _ W).mono (fun e w' h => ⟨h.1, h.2.symm⟩)
  rcases nd_ways wk hs d with ⟨h1, e1, e2⟩ | ⟨h1, h2, e1, e2⟩ | ⟨h1, h2, h3, e1, e2⟩ | ⟨h1, h2, h3, e1, e2⟩
  · rw [e1, e2]
    clear e1 e2 hrw hrh
    rcases cy_ways wk hs with ⟨g1, e1⟩ | ⟨g1, g2, e1⟩ | ⟨g1, g2, g3, e1⟩ | ⟨g1, g2, g3, e1⟩
    · rw [e1]
      have l1 : (4096 : Int) < (wk.length : Int) := by omega
      go_enter Try.func5, Try.ntmps5
      go_wp2
      go_ret2
      exact ⟨rfl, Below.refl _ _⟩
    · rw [e1]
      have l1 : ¬ (4096 : Int) < (wk.length : Int) := by omega
      have l2 : (4096 : Int) < (hs.length : Int) := by omega
      go_enter Try.func5, Try.ntmps5
      go_wp2
      go_ret2
      exact ⟨rfl, Below.refl _ _⟩
    · rw [e1]
      have l1 : ¬ (4096 : Int) < (wk.length : Int) := by omega
      have l2 : ¬ (4096 : Int) < (hs.length : Int) := by omega
      rw [g3] at HWk
      clear e1 h1 g3
      go_enter Try.func5, Try.ntmps5
      go_wp2_with (go_at_call 16; refine (HWk.out _ (Below.refl _ _)).mono ?_; rintro e w2 ⟨rfl, hb2⟩)
      go_ret2
      exact ⟨rfl, hb2⟩
    · exact absurd e1 h1
  · rw [e1, e2]
    obtain ⟨q7, q60, qb⟩ := cy_ok h1
    have l1 : ¬ (4096 : Int) < (wk.length : Int) := by omega
    have l2 : ¬ (4096 : Int) < (hs.length : Int) := by omega
    rw [qb] at HWk
    rw [h2] at HI
    clear e1 e2 hrw hrh h1 h2 qb q7
    go_enter Try.func5, Try.ntmps5
    go_wp2_with (first | (go_at_call 16; refine (HWk.out _ (Below.refl _ _)).mono ?_; rintro e w2 ⟨rfl, hb2⟩) | (go_at_call 17; refine (HI.out _).mono ?_; rintro e w3 ⟨rfl, rfl⟩))
    go_ret2
    exact ⟨rfl, hb2⟩
  · rw [e1, e2]
    obtain ⟨q7, q60, qb⟩ := cy_ok h1
    have l1 : ¬ (4096 : Int) < (wk.length : Int) := by omega
    have l2 : ¬ (4096 : Int) < (hs.length : Int) := by omega
    rw [qb] at HWk
    rw [h2] at HI
    have hdr := h2
    unfold inB at hdr
    simp only [decide_eq_true_eq] at hdr
    obtain ⟨g1, g2⟩ := hdr
    have HOp : Hid (∀ (d : Int) W, 0 ≤ d → Below w.heap.size w W → Calls Try.prog 18 #[.slice wa wk.length wc, .slice ha hs.length hc, .int .i64 d] W fun e w' => e = .returned (.bool (opB wk hs d)) ∧ W = w') := fun d W hd hW => open_any wa ha wc hc wk hs d q7 q60 hd W (hrw.later hW) (readsL hrh hW)
    have H3 : Hid (nx (opB wk hs) d 400 = d + 400) := h3
    clear e1 e2 hrw hrh h1 h2 qb q7 h3
    generalize opB wk hs = p at *
    generalize wk.length = wl at *
    generalize hs.length = hl2 at *
    have we : IntKind.i64.wrap (d + 400) = d + 400 := wrap_id _ (by omega) (by omega)
    go_enter Try.func5, Try.ntmps5
    go_wp2_with (first | (go_at_call 16; refine (HWk.out _ (Below.refl _ _)).mono ?_; rintro e w2 ⟨rfl, hb2⟩; have HB2 : Hid (Below w.heap.size w w2) := hb2; clear hb2) | (go_at_call 17; refine (HI.out _).mono ?_; rintro e w3 ⟨rfl, rfl⟩))
    go_loopw [8] (fun dv wr => ∃ k : Nat, k ≤ 400 ∧ dv = .int .i64 (d + (k : Int)) ∧ nx p d 400 = nx p (d + (k : Int)) (400 - k) ∧ w2 = wr) (fun dv _ => 400 - (intOf dv - d).toNat)
    case atStart => exact ⟨0, Nat.zero_le _, by simp, by simp, rfl⟩
    case round =>
      obtain ⟨k, hk, rfl, hnx, hw⟩ := hrel
      subst hw
      have HNx : Hid (nx p d 400 = nx p (d + (k : Int)) (400 - k)) := hnx
      clear hnx
      by_cases hlt : k < 400
      · have hlt' : d + (k : Int) < d + 400 := by omega
        have hop := HOp.out (d + (k : Int)) w2 (by omega) HB2.out
        have HY : Hid (p (d + (k : Int)) = true → nx p d 400 = d + (k : Int)) := fun h => by rw [HNx.out, show 400 - k = (400 - k - 1) + 1 by omega, nx_yes h]
        have HN : Hid (p (d + (k : Int)) = false → nx p d 400 = nx p (d + ((k + 1 : Nat) : Int)) (400 - (k + 1))) := fun h => by rw [HNx.out, show 400 - k = (400 - (k + 1)) + 1 by omega, nx_no h]; congr 1; omega
        have HD : Hid (Value.int .i64 (d + (k : Int) + 1) = Value.int .i64 (d + ((k + 1 : Nat) : Int))) := by show _ = _; congr 1; omega
        have hw1 : IntKind.i64.wrap (d + (k : Int) + 1) = d + (k : Int) + 1 := wrap_id _ (by omega) (by omega)
        obtain ⟨y, hy⟩ : ∃ y, d + (k : Int) = y := ⟨_, rfl⟩
        rw [hy] at hop HY HN HD hw1 hlt' ⊢
        have HYd : Hid (d + (k : Int) = y) := hy
        clear hy
        generalize hpb : p y = b at *
        clear hpb
        cases b
        · go_wp2_with (go_at_call 18; refine hop.mono ?_; rintro e w3 ⟨rfl, rfl⟩)
          exact ⟨⟨k + 1, by omega, HD.out, HN.out (by trivial), by first | rfl | trivial⟩, by have := HYd.out; simp [intOf]; omega⟩
        · go_wp2_with (go_at_call 18; refine hop.mono ?_; rintro e w3 ⟨rfl, rfl⟩)
          go_ret2
          exact absurd H3.out (by rw [HY.out (by trivial)]; have := HYd.out; omega)
      · have hle : ¬ d + (k : Int) < d + 400 := by omega
        obtain rfl : k = 400 := by omega
        
        go_wp2
        go_ret2
        exact ⟨rfl, HB2.out⟩
  · rw [e1, e2]
    obtain ⟨q7, q60, qb⟩ := cy_ok h1
    have l1 : ¬ (4096 : Int) < (wk.length : Int) := by omega
    have l2 : ¬ (4096 : Int) < (hs.length : Int) := by omega
    rw [qb] at HWk
    rw [h2] at HI
    have hdr := h2
    unfold inB at hdr
    simp only [decide_eq_true_eq] at hdr
    obtain ⟨g1, g2⟩ := hdr
    have HOp : Hid (∀ (d : Int) W, 0 ≤ d → Below w.heap.size w W → Calls Try.prog 18 #[.slice wa wk.length wc, .slice ha hs.length hc, .int .i64 d] W fun e w' => e = .returned (.bool (opB wk hs d)) ∧ W = w') := fun d W hd hW => open_any wa ha wc hc wk hs d q7 q60 hd W (hrw.later hW) (readsL hrh hW)
    have H3 : Hid (nx (opB wk hs) d 400 ≠ d + 400) := h3
    clear e1 e2 hrw hrh h1 h2 qb q7 h3
    generalize opB wk hs = p at *
    generalize wk.length = wl at *
    generalize hs.length = hl2 at *
    have we : IntKind.i64.wrap (d + 400) = d + 400 := wrap_id _ (by omega) (by omega)
    go_enter Try.func5, Try.ntmps5
    go_wp2_with (first | (go_at_call 16; refine (HWk.out _ (Below.refl _ _)).mono ?_; rintro e w2 ⟨rfl, hb2⟩; have HB2 : Hid (Below w.heap.size w w2) := hb2; clear hb2) | (go_at_call 17; refine (HI.out _).mono ?_; rintro e w3 ⟨rfl, rfl⟩))
    go_loopw [8] (fun dv wr => ∃ k : Nat, k ≤ 400 ∧ dv = .int .i64 (d + (k : Int)) ∧ nx p d 400 = nx p (d + (k : Int)) (400 - k) ∧ w2 = wr) (fun dv _ => 400 - (intOf dv - d).toNat)
    case atStart => exact ⟨0, Nat.zero_le _, by simp, by simp, rfl⟩
    case round =>
      obtain ⟨k, hk, rfl, hnx, hw⟩ := hrel
      subst hw
      have HNx : Hid (nx p d 400 = nx p (d + (k : Int)) (400 - k)) := hnx
      clear hnx
      by_cases hlt : k < 400
      · have hlt' : d + (k : Int) < d + 400 := by omega
        have hop := HOp.out (d + (k : Int)) w2 (by omega) HB2.out
        have HY : Hid (p (d + (k : Int)) = true → nx p d 400 = d + (k : Int)) := fun h => by rw [HNx.out, show 400 - k = (400 - k - 1) + 1 by omega, nx_yes h]
        have HN : Hid (p (d + (k : Int)) = false → nx p d 400 = nx p (d + ((k + 1 : Nat) : Int)) (400 - (k + 1))) := fun h => by rw [HNx.out, show 400 - k = (400 - (k + 1)) + 1 by omega, nx_no h]; congr 1; omega
        have HD : Hid (Value.int .i64 (d + (k : Int) + 1) = Value.int .i64 (d + ((k + 1 : Nat) : Int))) := by show _ = _; congr 1; omega
        have hw1 : IntKind.i64.wrap (d + (k : Int) + 1) = d + (k : Int) + 1 := wrap_id _ (by omega) (by omega)
        obtain ⟨y, hy⟩ : ∃ y, d + (k : Int) = y := ⟨_, rfl⟩
        rw [hy] at hop HY HN HD hw1 hlt' ⊢
        have HYd : Hid (d + (k : Int) = y) := hy
        clear hy
        generalize hpb : p y = b at *
        clear hpb
        cases b
        · go_wp2_with (go_at_call 18; refine hop.mono ?_; rintro e w3 ⟨rfl, rfl⟩)
          exact ⟨⟨k + 1, by omega, HD.out, HN.out (by trivial), by first | rfl | trivial⟩, by have := HYd.out; simp [intOf]; omega⟩
        · go_wp2_with (go_at_call 18; refine hop.mono ?_; rintro e w3 ⟨rfl, rfl⟩)
          go_ret2
          exact ⟨by rw [HY.out (by trivial)]; rfl, HB2.out⟩
      · have hle : ¬ d + (k : Int) < d + 400 := by omega
        obtain rfl : k = 400 := by omega
        have HE : Hid (nx p d 400 = d + 400) := by rw [HNx.out]; exact rfl
        go_wp2
        go_ret2
        exact absurd HE.out H3.out
set_option maxHeartbeats 4000000 in
set_option maxRecDepth 4000 in
theorem specDays_any (wa ha : Option Addr) (wc hc : Nat) (wk : List Bool) (hs : List Int) (f t : Int) (hl1 : wk.length ≤ 100000000) (hl : hs.length ≤ 100000000) (w : World) (hrw : ReadsBl w.heap.size w wa wk) (hrh : Reads w.heap.size w ha hs) :
    Calls Try.prog 11 #[.slice wa wk.length wc, .slice ha hs.length hc, .int .i64 f, .int .i64 t] w (AnsL w (ddL wk hs f t) (ddC wk hs f t)) := by
  have HWk : Hid (∀ W, Below w.heap.size w W → Calls Try.prog 16 #[.slice wa wk.length wc, .slice ha hs.length hc] W fun e w' => e = .returned (.bool (cyB wk hs)) ∧ Below W.heap.size W w') := fun W hW => week_any wa ha wc hc wk hs hl1 hl W (readsL hrh hW)
  rcases dd_ways wk hs f t with ⟨h1, e1, e2⟩ | ⟨h1, h2, e1, e2⟩ | ⟨h1, h2, e1, e2⟩
  · rw [e1, e2]
    clear e1 e2 hrw hrh
    rcases cy_ways wk hs with ⟨g1, e1⟩ | ⟨g1, g2, e1⟩ | ⟨g1, g2, g3, e1⟩ | ⟨g1, g2, g3, e1⟩
    · rw [e1]
      have l1 : (4096 : Int) < (wk.length : Int) := by omega
      go_enter Try.func11, Try.ntmps11
      go_wp2
      go_ret2
      exact AnsL.nil _ _ (below_alloc _ _)
    · rw [e1]
      have l1 : ¬ (4096 : Int) < (wk.length : Int) := by omega
      have l2 : (4096 : Int) < (hs.length : Int) := by omega
      go_enter Try.func11, Try.ntmps11
      go_wp2
      go_ret2
      exact AnsL.nil _ _ (below_alloc _ _)
    · rw [e1]
      have l1 : ¬ (4096 : Int) < (wk.length : Int) := by omega
      have l2 : ¬ (4096 : Int) < (hs.length : Int) := by omega
      rw [g3] at HWk
      clear e1 h1 g3
      go_enter Try.func11, Try.ntmps11
      go_wp2_with (go_at_call 16; refine (HWk.out _ (Below.refl _ _)).mono ?_; rintro e w2 ⟨rfl, hb2⟩)
      go_ret2
      exact AnsL.nil _ _ (chain hb2 (below_alloc _ _))
    · exact absurd e1 h1
  · rw [e1, e2]
    obtain ⟨q7, q60, qb⟩ := cy_ok h1
    have l1 : ¬ (4096 : Int) < (wk.length : Int) := by omega
    have l2 : ¬ (4096 : Int) < (hs.length : Int) := by omega
    rw [qb] at HWk
    unfold stB at h2
    have h3 : f < 0 ∨ (0 ≤ f ∧ t < f) ∨ (0 ≤ f ∧ f ≤ t ∧ 100000 < t) ∨ (0 ≤ f ∧ f ≤ t ∧ t ≤ 100000 ∧ 400 < t - f) := by
      simp only [Bool.and_eq_false_iff, decide_eq_false_iff_not] at h2
      omega
    clear e1 e2 hrw hrh h1 h2 qb q7
    rcases h3 with g | ⟨g1, g2⟩ | ⟨g1, g2, g3⟩ | ⟨g1, g2, g3, g4⟩
    all_goals
      go_enter Try.func11, Try.ntmps11
      go_wp2_with (go_at_call 16; refine (HWk.out _ (Below.refl _ _)).mono ?_; rintro e w2 ⟨rfl, hb2⟩)
      go_ret2
      exact AnsL.nil _ _ (chain hb2 (below_alloc _ _))
  · rw [e1, e2]
    obtain ⟨q7, q60, qb⟩ := cy_ok h1
    obtain ⟨g1, g2, g3, g4⟩ := st_facts h2
    have l1 : ¬ (4096 : Int) < (wk.length : Int) := by omega
    have l2 : ¬ (4096 : Int) < (hs.length : Int) := by omega
    rw [qb] at HWk
    obtain ⟨n, hn⟩ : ∃ n : Nat, (t - f).toNat = n := ⟨_, rfl⟩
    rw [hn]
    have ht : t = f + (n : Int) := by omega
    have HT : Hid (t = f + (n : Int)) := ht
    have hn4 : n ≤ 400 := by omega
    have HOp : Hid (∀ (d : Int) W, 0 ≤ d → Below w.heap.size w W → Calls Try.prog 18 #[.slice wa wk.length wc, .slice ha hs.length hc, .int .i64 d] W fun e w' => e = .returned (.bool (opB wk hs d)) ∧ W = w') := fun d W hd hW => open_any wa ha wc hc wk hs d q7 q60 hd W (hrw.later hW) (readsL hrh hW)
    clear e1 e2 hrw hrh h1 h2 qb q7 hn ht
    generalize opB wk hs = p at *
    generalize wk.length = wl at *
    generalize hs.length = hl2 at *
    obtain ⟨i0, hi, hzz⟩ := Option.map_eq_some_iff.1 intInfo1
    simp only [Prod.mk.injEq] at hzz
    obtain ⟨hi0, hi1, hi2⟩ := hzz
    go_enter Try.func11, Try.ntmps11
    go_wp2_with (go_at_call 16; refine (HWk.out _ (Below.refl _ _)).mono ?_; rintro e w2 ⟨rfl, hb2⟩; have HB2 : Hid (Below w.heap.size w w2) := hb2; have H0 : Hid (One w2 w2.heap.size (.slice (some ⟨w2.heap.size, 0, none⟩) 0 0) [] (w2.alloc (Obj.cells #[] 3))) := One.start w2 _ rfl; clear hb2)
    clear HWk g4
    go_loopw [10, 11] (fun v dv wr => ∃ k : Nat, k ≤ n ∧ dv = .int .i64 (f + (k : Int)) ∧ One w2 w2.heap.size v (dl p f k) wr) (fun _ dv _ => n - (intOf dv - f).toNat)
    case atStart => exact ⟨0, Nat.zero_le _, by simp, H0.out⟩
    case round =>
      clear H0
      obtain ⟨k, hk, rfl, hO⟩ := hrel
      obtain ⟨gv, cv, hv⟩ := row_slice hO.1
      subst hv
      have HO : Hid (One w2 w2.heap.size (.slice gv (dl p f k).length cv) (dl p f k) wr) := hO
      have hLk := dl_len p k f
      clear hO
      by_cases hlt : k < n
      · have hlt' : f + (k : Int) < t := by have := HT.out; omega
        have hop : Hid (∀ W, Below w.heap.size w W → Calls Try.prog 18 #[.slice wa wl wc, .slice ha hl2 hc, .int .i64 (f + (k : Int))] W fun e w' => e = .returned (.bool (p (f + (k : Int)))) ∧ W = w') := fun W hW => HOp.out _ W (by omega) hW
        have HBw : Hid (Below w.heap.size w wr) := HB2.out.trans (HO.out.2.2.mono HB2.out.size)
        have HD : Hid (Value.int .i64 (f + (k : Int) + 1) = Value.int .i64 (f + ((k + 1 : Nat) : Int))) := by show _ = _; congr 1; omega
        by_cases hp : p (f + (k : Int)) = true
        · have HN : Hid (dl p f (k + 1) = dl p f k ++ [f + (k : Int)]) := dl_yes hp
          rw [hp] at hop
          clear hp
          generalize dl p f k = L at *
          have hw1 : IntKind.i64.wrap (f + (k : Int) + 1) = f + (k : Int) + 1 := wrap_id _ (by omega) (by omega)
          obtain ⟨d, hd⟩ : ∃ d, f + (k : Int) = d := ⟨_, rfl⟩
          rw [hd] at hop hw1 hlt' HN HD ⊢
          have HDd : Hid (f + (k : Int) = d) := hd
          clear hd
          go_wp2_with (first | (go_at_call 18; refine (hop.out _ HBw.out).mono ?_; rintro e w3 ⟨rfl, rfl⟩) | (at_builtin; refine wpList_append_lies _ rfl _ _ 23 rfl w2.heap.size 3 i0 (.int .i64 0) 1 8 Try.underlying23 hi hi0 hi1 hi2 rfl (by decide) _ _ _ rfl (by have h9 := HO.out.1; exact h9.alloc _) ⟨wr.heap.size, 0, none⟩ 1 1 [.int .i64 d] rfl rfl (newsOne wr _ _) (by intro u hu; simp at hu; subst hu; rfl) (by omega) (by unfold maxLen; omega) (by omega) (by have := HO.out.2.1; simp; omega) _ rfl ?_; intro g1' cp1 w5 hown1 hgrow1 hat1 hglt1; have HT5 : Hid _ := (HO.out.alloc _).push hown1 hgrow1; clear hown1 hgrow1 hat1 hglt1))
          exact ⟨⟨k + 1, by omega, HD.out, by rw [HN.out]; exact HT5.out⟩, by have := HDd.out; simp [intOf]; omega⟩
        · have hp' : p (f + (k : Int)) = false := by simpa using hp
          have HN : Hid (dl p f (k + 1) = dl p f k) := dl_no hp'
          rw [hp'] at hop
          clear hp hp'
          generalize dl p f k = L at *
          have hw1 : IntKind.i64.wrap (f + (k : Int) + 1) = f + (k : Int) + 1 := wrap_id _ (by omega) (by omega)
          obtain ⟨d, hd⟩ : ∃ d, f + (k : Int) = d := ⟨_, rfl⟩
          rw [hd] at hop hw1 hlt' HD ⊢
          have HDd : Hid (f + (k : Int) = d) := hd
          clear hd
          go_wp2_with (go_at_call 18; refine (hop.out _ HBw.out).mono ?_; rintro e w3 ⟨rfl, rfl⟩)
          exact ⟨⟨k + 1, by omega, HD.out, by rw [HN.out]; exact HO.out⟩, by have := HDd.out; simp [intOf]; omega⟩
      · have hle : ¬ f + (k : Int) < t := by have := HT.out; omega
        obtain rfl : k = n := by omega
        go_wp2
        go_ret2
        exact ⟨gv, cv, rfl, own2_mono (HO.out.own2 rfl) HB2.out.size, HB2.out.trans (HO.out.2.2.mono HB2.out.size)⟩
end Go.Proofs.Ytbgjekhekjbcpab

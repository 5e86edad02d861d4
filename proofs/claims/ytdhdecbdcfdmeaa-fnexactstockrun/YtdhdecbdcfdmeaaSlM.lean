/-
  Rows that are marked by the laws' own helpers, and held against the marks.
-/
import Derived.Test.YtdhdecbdcfdmeaaMkG
import Derived.Test.YtdhdecbdcfdmeaaMarkText
import Derived.Deep.RegionHeld3
namespace Go.Proofs.Ytdhdecbdcfdmeaa
open Go.ChangeShapes Go.WideShapes Go.ChangeAt Go.RowKit Go.Deep
set_option linter.unusedVariables false

def fSl (k0 j : Nat) : Value := if j % 5 = 0 then .string (mkS (k0 + j)) else if j % 5 = 4 then .bool ((k0 + j) % 3 == 0) else .int .i64 ((k0 : Int) + (j : Int))
theorem fSl_0 (k0 j : Nat) : .string (mkS (k0 + j * 5)) = fSl k0 (j * 5) := by unfold fSl; rw [if_pos (by omega)]
theorem fSl_1 (k0 j : Nat) : .int .i64 ((k0 : Int) + (j : Int) * 5 + 1) = fSl k0 (j * 5 + 1) := by unfold fSl; rw [if_neg (by omega), if_neg (by omega)]; congr 1 <;> omega
theorem fSl_2 (k0 j : Nat) : .int .i64 ((k0 : Int) + (j : Int) * 5 + 1 + 1) = fSl k0 (j * 5 + 2) := by unfold fSl; rw [if_neg (by omega), if_neg (by omega)]; congr 1 <;> omega
theorem fSl_3 (k0 j : Nat) : .int .i64 ((k0 : Int) + (j : Int) * 5 + 1 + 1 + 1) = fSl k0 (j * 5 + 3) := by unfold fSl; rw [if_neg (by omega), if_neg (by omega)]; congr 1 <;> omega
theorem fSl_4 (k0 j : Nat) : .bool ((k0 + (j * 5 + 4)) % 3 == 0) = fSl k0 (j * 5 + 4) := by unfold fSl; rw [if_neg (by omega), if_pos (by omega)]
set_option maxHeartbeats 2000000 in
theorem markSl_row (B : Nat) (v : Value) (n : Nat) (hn : n ≤ 1048576) (k0 : Nat) (hk : k0 ≤ 100000000) (hk1 : 1 ≤ k0) (xs : List Value) (w : World) (h : w.ownsRow B 38 5 v n xs) :
    Calls Try.prog 33 #[v, .int .i64 (k0 : Int)] w fun e w' => e = .returned (.int .i64 ((k0 + n * 5 : Nat) : Int)) ∧ Fr (fun q => v.ownBlock = some q) w w' ∧ w'.ownsRow B 38 5 v n (mkA (fSl k0) (n * 5)) := by
  obtain ⟨a, cap, hv⟩ := row_slice h
  have hlen : xs.length = n * 5 := h.1
  have H0 : Hid (Fr (fun q => v.ownBlock = some q) w w ∧ w.ownsRow B 38 5 v n (mkG (fSl k0) 0 xs)) := ⟨Fr.refl _ _, by rw [mkG_zero]; exact h⟩
  clear h
  subst hv
  go_enter Try.func33, Try.ntmps33
  go_wp2
  go_loopw [1, 5] (fun k i wr => ∃ j : Nat, j ≤ n ∧ i = .int .i64 (j : Int) ∧ k = .int .i64 ((k0 : Int) + (j : Int) * 5) ∧ Fr (fun q => (Value.slice a n cap).ownBlock = some q) w wr ∧ wr.ownsRow B 38 5 (.slice a n cap) n (mkG (fSl k0) (j * 5) xs)) (fun _ i _ => n - (intOf i).toNat)
  case atStart => exact ⟨0, Nat.zero_le _, rfl, by simp, H0.out.1, by simpa using H0.out.2⟩
  case round =>
    obtain ⟨j, hj, rfl, rfl, hf, hm⟩ := hrel
    have HM : Hid (Fr (fun q => (Value.slice a n cap).ownBlock = some q) w wr ∧ wr.ownsRow B 38 5 (.slice a n cap) n (mkG (fSl k0) (j * 5) xs)) := ⟨hf, hm⟩
    clear hf hm H0
    by_cases hlt : j < n
    · have hlt' : (j : Int) < (n : Int) := by omega
      obtain ⟨g, cp, hq⟩ := row_some HM.out.2 (by omega)
      simp only [Value.slice.injEq, true_and] at hq
      obtain ⟨rfl, rfl⟩ := hq
      have t0 := fun w => markText_any (k0 + (j * 5)) (by omega) (by omega) w
      have e0 : ((k0 + (j * 5) : Nat) : Int) = (k0 : Int) + (j : Int) * 5 := by omega
      rw [e0] at t0
      clear e0
      have S0 := fSl_0 k0 j
      have HS0 : Hid (Value.string (mkS (k0 + (j * 5))) = fSl k0 (j * 5)) := S0
      clear S0
      generalize mkS (k0 + (j * 5)) = s0 at *
      have HB4 : Hid (Value.bool (((k0 + (j * 5 + 4)) % 3) == 0) = fSl k0 (j * 5 + 4)) := fSl_4 k0 j
      have d4 : ((k0 : Int) + (j : Int) * 5 + 1 + 1 + 1 + 1).tmod 3 = ((((k0 + (j * 5 + 4)) % 3) : Nat) : Int) := by rw [Int.tmod_eq_emod_of_nonneg (by omega)]; omega
      have d4w : IntKind.i64.wrap ((((k0 + (j * 5 + 4)) % 3) : Nat) : Int) = ((((k0 + (j * 5 + 4)) % 3) : Nat) : Int) := wrap_id _ (by omega) (by omega)
      have d4b : (((((k0 + (j * 5 + 4)) % 3) : Nat) : Int) == 0) = (((k0 + (j * 5 + 4)) % 3) == 0) := by rcases (by omega : ((k0 + (j * 5 + 4)) % 3) = 0 ∨ ((k0 + (j * 5 + 4)) % 3) = 1 ∨ ((k0 + (j * 5 + 4)) % 3) = 2) with e | e | e <;> rw [e] <;> rfl
      generalize (((k0 + (j * 5 + 4)) % 3) == 0) = bb4 at *
      generalize ((((k0 + (j * 5 + 4)) % 3) : Nat) : Int) = m4 at *
      go_wp2_with fail
      (first | go_at_call 32 | skip)
      refine (t0 _).mono ?_
      rintro e w0' ⟨rfl, hb0⟩
      have HM0 : Hid (Fr (fun q => (Value.slice (some ⟨g, 0, none⟩) n cap).ownBlock = some q) w w0' ∧ w0'.ownsRow B 38 5 (.slice (some ⟨g, 0, none⟩) n cap) n (mkG (fSl k0) (j * 5) xs)) := by
        have h1 := HM.out.2
        have h2 := HM.out.1
        exact ⟨h2.trans (Fr.of hb0), row_of h1 (fun q hq => hb0.block q (row_lt h1 q hq).2)⟩
      clear hb0 t0 HM 
      obtain ⟨⟨u0, hu0⟩, hf0⟩ := rowCellG HM0.out.2 (j * 5) (by omega)
      obtain ⟨⟨u1, hu1⟩, hf1⟩ := rowCellG HM0.out.2 (j * 5 + 1) (by omega)
      obtain ⟨⟨u2, hu2⟩, hf2⟩ := rowCellG HM0.out.2 (j * 5 + 2) (by omega)
      obtain ⟨⟨u3, hu3⟩, hf3⟩ := rowCellG HM0.out.2 (j * 5 + 3) (by omega)
      obtain ⟨⟨u4, hu4⟩, hf4⟩ := rowCellG HM0.out.2 (j * 5 + 4) (by omega)
      go_wp2
      refine ⟨⟨j + 1, by omega, by go_num, by go_num, ?_, ?_⟩, by simp [intOf]; omega⟩
      · exact (((((HM0.out.1.set (b := g) rfl _ _).set (b := g) rfl _ _).set (b := g) rfl _ _).set (b := g) rfl _ _).set (b := g) rfl _ _)
      · rw [show (j + 1) * 5 = j * 5 + 4 + 1 by omega]
        exact (rowMarkG (rowMarkG (rowMarkG (rowMarkG (rowMarkG HM0.out.2 (j * 5) (by omega) (.string s0) HS0.out) (j * 5 + 1) (by omega) (.int .i64 ((k0 : Int) + (j : Int) * 5 + 1)) (fSl_1 k0 j)) (j * 5 + 2) (by omega) (.int .i64 ((k0 : Int) + (j : Int) * 5 + 1 + 1)) (fSl_2 k0 j)) (j * 5 + 3) (by omega) (.int .i64 ((k0 : Int) + (j : Int) * 5 + 1 + 1 + 1)) (fSl_3 k0 j)) (j * 5 + 4) (by omega) (.bool bb4) HB4.out)
    · obtain rfl : j = n := by omega
      rw [← hlen, mkG_all, hlen] at HM
      go_wp2
      go_ret
      exact ⟨ret_int (by omega), HM.out.1, HM.out.2⟩
set_option maxHeartbeats 4000000 in
theorem heldSl_row (B : Nat) (v : Value) (n : Nat) (hn : n ≤ 1048576) (k0 : Nat) (hk : k0 ≤ 100000000) (hk1 : 1 ≤ k0) (wa : World) (h : wa.ownsRow B 38 5 v n (mkA (fSl k0) (n * 5))) :
    Calls Try.prog 34 #[v, .int .i64 (k0 : Int)] wa fun e w' => e = .returned (.int .i64 ((k0 + n * 5 : Nat) : Int)) ∧ Below wa.heap.size wa w' := by
  obtain ⟨a, cap, hv⟩ := row_slice h
  have hne : ∀ x : Int, (x != x) = false := fun x => by simp
  have hse : ∀ s : ByteArray, (s.toList != s.toList) = false := fun s => by simp
  have H0 : Hid (Below wa.heap.size wa wa ∧ wa.ownsRow B 38 5 v n (mkA (fSl k0) (n * 5))) := ⟨Below.refl _ _, h⟩
  clear h
  subst hv
  go_enter Try.func34, Try.ntmps34
  go_wp2
  go_loopw [1, 4, 5] (fun k _ i wr => ∃ j : Nat, j ≤ n ∧ i = .int .i64 (j : Int) ∧ k = .int .i64 ((k0 : Int) + (j : Int) * 5) ∧ Below wa.heap.size wa wr ∧ wr.ownsRow B 38 5 (.slice a n cap) n (mkA (fSl k0) (n * 5))) (fun _ _ i _ => n - (intOf i).toNat)
  case atStart => exact ⟨0, Nat.zero_le _, rfl, by simp, H0.out⟩
  case round =>
    obtain ⟨j, hj, rfl, rfl, hm⟩ := hrel
    have HM : Hid (Below wa.heap.size wa wr ∧ wr.ownsRow B 38 5 (.slice a n cap) n (mkA (fSl k0) (n * 5))) := hm
    clear hm H0
    by_cases hlt : j < n
    · have hlt' : (j : Int) < (n : Int) := by omega
      obtain ⟨g, cp, hq⟩ := row_some HM.out.2 (by omega)
      simp only [Value.slice.injEq, true_and] at hq
      obtain ⟨rfl, rfl⟩ := hq
      have t0 := fun w => markText_any (k0 + (j * 5)) (by omega) (by omega) w
      have e0 : ((k0 + (j * 5) : Nat) : Int) = (k0 : Int) + (j : Int) * 5 := by omega
      rw [e0] at t0
      clear e0
      have HS0 : Hid (Value.string (mkS (k0 + (j * 5))) = fSl k0 (j * 5)) := fSl_0 k0 j
      generalize mkS (k0 + (j * 5)) = s0 at *
      have es0 := hse s0
      have en1 := hne ((k0 : Int) + (j : Int) * 5 + 1)
      have en2 := hne ((k0 : Int) + (j : Int) * 5 + 1 + 1)
      have en3 := hne ((k0 : Int) + (j : Int) * 5 + 1 + 1 + 1)
      clear hne hse
      have HB4 : Hid (Value.bool (((k0 + (j * 5 + 4)) % 3) == 0) = fSl k0 (j * 5 + 4)) := fSl_4 k0 j
      have d4 : ((k0 : Int) + (j : Int) * 5 + 1 + 1 + 1 + 1).tmod 3 = ((((k0 + (j * 5 + 4)) % 3) : Nat) : Int) := by rw [Int.tmod_eq_emod_of_nonneg (by omega)]; omega
      have d4w : IntKind.i64.wrap ((((k0 + (j * 5 + 4)) % 3) : Nat) : Int) = ((((k0 + (j * 5 + 4)) % 3) : Nat) : Int) := wrap_id _ (by omega) (by omega)
      have d4b : (((((k0 + (j * 5 + 4)) % 3) : Nat) : Int) == 0) = (((k0 + (j * 5 + 4)) % 3) == 0) := by rcases (by omega : ((k0 + (j * 5 + 4)) % 3) = 0 ∨ ((k0 + (j * 5 + 4)) % 3) = 1 ∨ ((k0 + (j * 5 + 4)) % 3) = 2) with e | e | e <;> rw [e] <;> rfl
      generalize (((k0 + (j * 5 + 4)) % 3) == 0) = bb4 at *
      generalize ((((k0 + (j * 5 + 4)) % 3) : Nat) : Int) = m4 at *
      have en4 : (bb4 != bb4) = false := by cases bb4 <;> rfl
      go_wp2_with fail
      have HQ : Hid (∀ W, Below wr.heap.size wr W → W.cell? ⟨g, j * 5, none⟩ = some (.string s0)) := fun W hW => rowMarkedG (row_of HM.out.2 (fun q hq => hW.block q (row_lt HM.out.2 q hq).2)) (j * 5) (by omega) _ HS0.out
      refine wp_region_held_drew (S := fun W => Below wr.heap.size wr W) (by kernel_rfl) (below_drew _) (fun hH => ?_)
      refine wpAnyH_take (i := 0) (v := .slice (some ⟨g, 0, none⟩) n cap) rfl (by kernel_rfl) (by kernel_rfl) (by kernel_rfl) (fun _ _ _ h => h) (Or.inl ⟨by rfl, fun w hSw => by go_simp⟩) hH ?_
      refine wpAnyH_take (i := 1) (v := .int .i64 (j : Int)) rfl (by kernel_rfl) (by kernel_rfl) (by kernel_rfl) (fun _ _ _ h => h) (Or.inl ⟨by rfl, fun w hSw => by go_simp⟩) hH ?_
      try simp only [Act.put, List.setIfInBounds_toArray, List.set_cons_zero, List.set_cons_succ, List.getElem_toArray, List.getElem_cons_succ, List.getElem_cons_zero]
      refine wpAnyH_take (i := 2) (v := .pointer (some ⟨g, j * 5, none⟩)) rfl (by kernel_rfl) (by kernel_rfl) (by kernel_rfl) (fun _ _ _ h => h) (Or.inl ⟨by rfl, fun w hSw => by go_simp⟩) hH ?_
      try simp only [Act.put, List.setIfInBounds_toArray, List.set_cons_zero, List.set_cons_succ, List.getElem_toArray, List.getElem_cons_succ, List.getElem_cons_zero]
      refine wpAnyH_take (i := 3) (v := .pointer (some ⟨g, j * 5, none⟩)) rfl (by kernel_rfl) (by kernel_rfl) (by kernel_rfl) (fun _ _ _ h => h) (Or.inl ⟨by rfl, fun w hSw => by go_simp⟩) hH ?_
      try simp only [Act.put, List.setIfInBounds_toArray, List.set_cons_zero, List.set_cons_succ, List.getElem_toArray, List.getElem_cons_succ, List.getElem_cons_zero]
      refine wpAnyH_take (i := 4) (v := .string s0) rfl (by kernel_rfl) (by kernel_rfl) (by kernel_rfl) (fun _ _ _ h => h) (Or.inl ⟨by rfl, fun w hSw => by have f0 := HQ.out w hSw; go_simp⟩) hH ?_
      try simp only [Act.put, List.setIfInBounds_toArray, List.set_cons_zero, List.set_cons_succ, List.getElem_toArray, List.getElem_cons_succ, List.getElem_cons_zero]
      refine wpAnyH_take (i := 5) (v := .int .i64 ((k0 : Int) + (j : Int) * 5)) rfl (by kernel_rfl) (by kernel_rfl) (by kernel_rfl) (fun _ _ _ h => h) (Or.inl ⟨by rfl, fun w hSw => by go_simp⟩) hH ?_
      try simp only [Act.put, List.setIfInBounds_toArray, List.set_cons_zero, List.set_cons_succ, List.getElem_toArray, List.getElem_cons_succ, List.getElem_cons_zero]
      refine wpAnyH_ready (rs := [6]) (by kernel_rfl) (by simp) ?_
      refine AllReadyH.cons rfl (fun K hK => ?_) AllReadyH.nil
      go_simp
      go_at_call 32
      refine (t0 _).mono ?_
      rintro e w0' ⟨rfl, hb0⟩
      have hw0 := chain hH hb0
      clear hb0
      refine hK.out _ _ hw0 (fun _ => ?_)
      clear hK K
      try simp only [Act.put, List.setIfInBounds_toArray, List.set_cons_zero, List.set_cons_succ, List.getElem_toArray, List.getElem_cons_succ, List.getElem_cons_zero]
      refine wpAnyH_take (i := 7) (v := .bool false) rfl (by kernel_rfl) (by kernel_rfl) (by kernel_rfl) (fun _ _ _ h => h) (Or.inl ⟨by rfl, fun w hSw => by have f0 := es0; go_simp⟩) hw0 ?_
      try simp only [Act.put, List.setIfInBounds_toArray, List.set_cons_zero, List.set_cons_succ, List.getElem_toArray, List.getElem_cons_succ, List.getElem_cons_zero]
      refine wpAnyH_done (by kernel_rfl) ?_ _
      have HM0 : Hid (Below wa.heap.size wa w0' ∧ w0'.ownsRow B 38 5 (.slice (some ⟨g, 0, none⟩) n cap) n (mkA (fSl k0) (n * 5))) := ⟨chain HM.out.1 hw0, row_of HM.out.2 (fun q hq => hw0.block q (row_lt HM.out.2 q hq).2)⟩
      clear hw0 hH HQ t0 HM 
      have q1 := rowMarkedG HM0.out.2 (j * 5 + 1) (by omega) (.int .i64 ((k0 : Int) + (j : Int) * 5 + 1)) (fSl_1 k0 j)
      have q2 := rowMarkedG HM0.out.2 (j * 5 + 2) (by omega) (.int .i64 ((k0 : Int) + (j : Int) * 5 + 1 + 1)) (fSl_2 k0 j)
      have q3 := rowMarkedG HM0.out.2 (j * 5 + 3) (by omega) (.int .i64 ((k0 : Int) + (j : Int) * 5 + 1 + 1 + 1)) (fSl_3 k0 j)
      have q4 := rowMarkedG HM0.out.2 (j * 5 + 4) (by omega) (.bool bb4) HB4.out
      go_wp2
      first
      | exact ⟨⟨j + 1, by omega, by go_num, by go_num, HM0.out⟩, by simp [intOf]; omega⟩
      | (go_roundw
         case rel => exact ⟨j + 1, by omega, by go_num, by go_num, HM0.out⟩
         case measure => simp [intOf]; omega)
    · obtain rfl : j = n := by omega
      go_wp2
      go_ret
      exact ⟨ret_int (by omega), HM.out.1⟩
end Go.Proofs.Ytdhdecbdcfdmeaa

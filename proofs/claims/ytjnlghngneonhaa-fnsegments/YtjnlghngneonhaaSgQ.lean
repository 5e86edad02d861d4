/-
  Rows of texts that are marked by the laws' own helpers, and held against the marks.
-/
import Derived.Test.YtjnlghngneonhaaMkG
import Derived.Test.YtjnlghngneonhaaMarkText
import Derived.Deep.RegionHeld3
namespace Go.Proofs.Ytjnlghngneonhaa
open Go.ChangeShapes Go.WideShapes Go.ChangeAt Go.RowKit Go.Deep
set_option linter.unusedVariables false

def fSx (k0 j : Nat) : Value := .string (mkS (k0 + j))
theorem fSx_0 (k0 j : Nat) : .string (mkS (k0 + j)) = fSx k0 (j) := by unfold fSx; rfl
set_option maxHeartbeats 2000000 in
theorem markSx_row (B : Nat) (v : Value) (n : Nat) (hn : n ≤ 1048576) (k0 : Nat) (hk : k0 ≤ 100000000) (hk1 : 1 ≤ k0) (xs : List Value) (w : World) (h : w.ownsRow B 9 1 v n xs) :
    Calls Try.prog 29 #[v, .int .i64 (k0 : Int)] w fun e w' => e = .returned (.int .i64 ((k0 + n * 1 : Nat) : Int)) ∧ Fr (fun q => v.ownBlock = some q) w w' ∧ w'.ownsRow B 9 1 v n (mkA (fSx k0) (n * 1)) := by
  obtain ⟨a, cap, hv⟩ := row_slice h
  have hlen : xs.length = n * 1 := h.1
  have H0 : Hid (Fr (fun q => v.ownBlock = some q) w w ∧ w.ownsRow B 9 1 v n (mkG (fSx k0) 0 xs)) := ⟨Fr.refl _ _, by rw [mkG_zero]; exact h⟩
  clear h
  subst hv
  go_enter Try.func29, Try.ntmps29
  go_wp2
  go_loopw [1, 5] (fun k i wr => ∃ j : Nat, j ≤ n ∧ i = .int .i64 (j : Int) ∧ k = .int .i64 ((k0 : Int) + (j : Int)) ∧ Fr (fun q => (Value.slice a n cap).ownBlock = some q) w wr ∧ wr.ownsRow B 9 1 (.slice a n cap) n (mkG (fSx k0) (j) xs)) (fun _ i _ => n - (intOf i).toNat)
  case atStart => exact ⟨0, Nat.zero_le _, rfl, by simp, H0.out.1, by simpa using H0.out.2⟩
  case round =>
    obtain ⟨j, hj, rfl, rfl, hf, hm⟩ := hrel
    have HM : Hid (Fr (fun q => (Value.slice a n cap).ownBlock = some q) w wr ∧ wr.ownsRow B 9 1 (.slice a n cap) n (mkG (fSx k0) (j) xs)) := ⟨hf, hm⟩
    clear hf hm H0
    by_cases hlt : j < n
    · have hlt' : (j : Int) < (n : Int) := by omega
      obtain ⟨g, cp, hq⟩ := row_some HM.out.2 (by omega)
      simp only [Value.slice.injEq, true_and] at hq
      obtain ⟨rfl, rfl⟩ := hq
      have t0 := fun w => markText_any (k0 + (j)) (by omega) (by omega) w
      have e0 : ((k0 + (j) : Nat) : Int) = (k0 : Int) + (j : Int) := by omega
      rw [e0] at t0
      clear e0
      have S0 := fSx_0 k0 j
      have HS0 : Hid (Value.string (mkS (k0 + (j))) = fSx k0 (j)) := S0
      clear S0
      generalize mkS (k0 + (j)) = s0 at *
      go_wp2_with fail
      (first | go_at_call 28 | skip)
      refine (t0 _).mono ?_
      rintro e w0' ⟨rfl, hb0⟩
      have HM0 : Hid (Fr (fun q => (Value.slice (some ⟨g, 0, none⟩) n cap).ownBlock = some q) w w0' ∧ w0'.ownsRow B 9 1 (.slice (some ⟨g, 0, none⟩) n cap) n (mkG (fSx k0) (j) xs)) := by
        have h1 := HM.out.2
        have h2 := HM.out.1
        exact ⟨h2.trans (Fr.of hb0), row_of h1 (fun q hq => hb0.block q (row_lt h1 q hq).2)⟩
      clear hb0 t0 HM 
      obtain ⟨⟨u0, hu0⟩, hf0⟩ := rowCellG HM0.out.2 (j) (by omega)
      go_wp2
      refine ⟨⟨j + 1, by omega, by go_num, by go_num, ?_, ?_⟩, by simp [intOf]; omega⟩
      · exact (HM0.out.1.set (b := g) rfl _ _)
      · skip
        exact (rowMarkG HM0.out.2 (j) (by omega) (.string s0) HS0.out)
    · obtain rfl : j = n := by omega
      rw [show mkG (fSx k0) j xs = mkA (fSx k0) (j * 1) by rw [Nat.mul_one, show j = xs.length by omega]; exact mkG_all _ _] at HM
      go_wp2
      go_ret
      exact ⟨ret_int (by omega), HM.out.1, HM.out.2⟩
set_option maxHeartbeats 4000000 in
theorem heldSx_row (B : Nat) (v : Value) (n : Nat) (hn : n ≤ 1048576) (k0 : Nat) (hk : k0 ≤ 100000000) (hk1 : 1 ≤ k0) (wa : World) (h : wa.ownsRow B 9 1 v n (mkA (fSx k0) (n * 1))) :
    Calls Try.prog 30 #[v, .int .i64 (k0 : Int)] wa fun e w' => e = .returned (.int .i64 ((k0 + n * 1 : Nat) : Int)) ∧ Below wa.heap.size wa w' := by
  obtain ⟨a, cap, hv⟩ := row_slice h
  have hne : ∀ x : Int, (x != x) = false := fun x => by simp
  have hse : ∀ s : ByteArray, (s.toList != s.toList) = false := fun s => by simp
  have H0 : Hid (Below wa.heap.size wa wa ∧ wa.ownsRow B 9 1 v n (mkA (fSx k0) (n * 1))) := ⟨Below.refl _ _, h⟩
  clear h
  subst hv
  go_enter Try.func30, Try.ntmps30
  go_wp2
  go_loopw [1, 4, 5] (fun k _ i wr => ∃ j : Nat, j ≤ n ∧ i = .int .i64 (j : Int) ∧ k = .int .i64 ((k0 : Int) + (j : Int)) ∧ Below wa.heap.size wa wr ∧ wr.ownsRow B 9 1 (.slice a n cap) n (mkA (fSx k0) (n * 1))) (fun _ _ i _ => n - (intOf i).toNat)
  case atStart => exact ⟨0, Nat.zero_le _, rfl, by simp, H0.out⟩
  case round =>
    obtain ⟨j, hj, rfl, rfl, hm⟩ := hrel
    have HM : Hid (Below wa.heap.size wa wr ∧ wr.ownsRow B 9 1 (.slice a n cap) n (mkA (fSx k0) (n * 1))) := hm
    clear hm H0
    by_cases hlt : j < n
    · have hlt' : (j : Int) < (n : Int) := by omega
      obtain ⟨g, cp, hq⟩ := row_some HM.out.2 (by omega)
      simp only [Value.slice.injEq, true_and] at hq
      obtain ⟨rfl, rfl⟩ := hq
      have t0 := fun w => markText_any (k0 + (j)) (by omega) (by omega) w
      have e0 : ((k0 + (j) : Nat) : Int) = (k0 : Int) + (j : Int) := by omega
      rw [e0] at t0
      clear e0
      have HS0 : Hid (Value.string (mkS (k0 + (j))) = fSx k0 (j)) := fSx_0 k0 j
      generalize mkS (k0 + (j)) = s0 at *
      have es0 := hse s0
      clear hne hse
      go_wp2_with fail
      have HQ : Hid (∀ W, Below wr.heap.size wr W → W.cell? ⟨g, j, none⟩ = some (.string s0)) := fun W hW => rowMarkedG (row_of HM.out.2 (fun q hq => hW.block q (row_lt HM.out.2 q hq).2)) (j) (by omega) _ HS0.out
      refine wp_region_held_drew (S := fun W => Below wr.heap.size wr W) (by kernel_rfl) (below_drew _) (fun hH => ?_)
      refine wpAnyH_take (i := 0) (v := .slice (some ⟨g, 0, none⟩) n cap) rfl (by kernel_rfl) (by kernel_rfl) (by kernel_rfl) (fun _ _ _ h => h) (Or.inl ⟨by rfl, fun w hSw => by go_simp⟩) hH ?_
      refine wpAnyH_take (i := 1) (v := .int .i64 (j : Int)) rfl (by kernel_rfl) (by kernel_rfl) (by kernel_rfl) (fun _ _ _ h => h) (Or.inl ⟨by rfl, fun w hSw => by go_simp⟩) hH ?_
      try simp only [Act.put, List.setIfInBounds_toArray, List.set_cons_zero, List.set_cons_succ, List.getElem_toArray, List.getElem_cons_succ, List.getElem_cons_zero]
      refine wpAnyH_take (i := 2) (v := .pointer (some ⟨g, j, none⟩)) rfl (by kernel_rfl) (by kernel_rfl) (by kernel_rfl) (fun _ _ _ h => h) (Or.inl ⟨by rfl, fun w hSw => by go_simp⟩) hH ?_
      try simp only [Act.put, List.setIfInBounds_toArray, List.set_cons_zero, List.set_cons_succ, List.getElem_toArray, List.getElem_cons_succ, List.getElem_cons_zero]
      refine wpAnyH_take (i := 3) (v := .string s0) rfl (by kernel_rfl) (by kernel_rfl) (by kernel_rfl) (fun _ _ _ h => h) (Or.inl ⟨by rfl, fun w hSw => by have f0 := HQ.out w hSw; go_simp⟩) hH ?_
      try simp only [Act.put, List.setIfInBounds_toArray, List.set_cons_zero, List.set_cons_succ, List.getElem_toArray, List.getElem_cons_succ, List.getElem_cons_zero]
      refine wpAnyH_take (i := 4) (v := .int .i64 ((k0 : Int) + (j : Int))) rfl (by kernel_rfl) (by kernel_rfl) (by kernel_rfl) (fun _ _ _ h => h) (Or.inl ⟨by rfl, fun w hSw => by go_simp⟩) hH ?_
      try simp only [Act.put, List.setIfInBounds_toArray, List.set_cons_zero, List.set_cons_succ, List.getElem_toArray, List.getElem_cons_succ, List.getElem_cons_zero]
      refine wpAnyH_ready (rs := [5]) (by kernel_rfl) (by simp) ?_
      refine AllReadyH.cons rfl (fun K hK => ?_) AllReadyH.nil
      go_simp
      go_at_call 28
      refine (t0 _).mono ?_
      rintro e w0' ⟨rfl, hb0⟩
      have hw0 := chain hH hb0
      clear hb0
      refine hK.out _ _ hw0 (fun _ => ?_)
      clear hK K
      try simp only [Act.put, List.setIfInBounds_toArray, List.set_cons_zero, List.set_cons_succ, List.getElem_toArray, List.getElem_cons_succ, List.getElem_cons_zero]
      refine wpAnyH_take (i := 6) (v := .bool false) rfl (by kernel_rfl) (by kernel_rfl) (by kernel_rfl) (fun _ _ _ h => h) (Or.inl ⟨by rfl, fun w hSw => by have f0 := es0; go_simp⟩) hw0 ?_
      try simp only [Act.put, List.setIfInBounds_toArray, List.set_cons_zero, List.set_cons_succ, List.getElem_toArray, List.getElem_cons_succ, List.getElem_cons_zero]
      refine wpAnyH_done (by kernel_rfl) ?_ _
      have HM0 : Hid (Below wa.heap.size wa w0' ∧ w0'.ownsRow B 9 1 (.slice (some ⟨g, 0, none⟩) n cap) n (mkA (fSx k0) (n * 1))) := ⟨chain HM.out.1 hw0, row_of HM.out.2 (fun q hq => hw0.block q (row_lt HM.out.2 q hq).2)⟩
      clear hw0 hH HQ t0 HM 
      go_wp2
      first
      | exact ⟨⟨j + 1, by omega, by go_num, by go_num, HM0.out⟩, by simp [intOf]; omega⟩
      | (go_roundw
         case rel => exact ⟨j + 1, by omega, by go_num, by go_num, HM0.out⟩
         case measure => simp [intOf]; omega)
    · obtain rfl : j = n := by omega
      go_wp2
      go_ret
      exact ⟨ret_int (by omega), HM.out.1⟩
end Go.Proofs.Ytjnlghngneonhaa

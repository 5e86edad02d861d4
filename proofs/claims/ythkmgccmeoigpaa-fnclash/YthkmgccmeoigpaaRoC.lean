/-
  Contracts of the program's room.both, room.empty, room.leastFacts.
-/
import Derived.Test.YthkmgccmeoigpaaRoB
namespace Go.Proofs.Ythkmgccmeoigpaa
open Go.ChangeShapes Go.WideShapes Go.ChangeAt Go.RowKit Go.Deep
set_option linter.unusedVariables false

def bv (L M : List Int) (i : Nat) : Int := if i % 2 = 0 then max (L.getD i 0) (M.getD i 0) else min (L.getD i 0) (M.getD i 0)
def mixL (L M : List Int) (k : Nat) : List Int := (List.range 12).map fun i => if i < 2 * k then bv L M i else L.getD i 0
theorem mixL_length (L M : List Int) (k : Nat) : (mixL L M k).length = 12 := by simp [mixL]
theorem mixL_zero (L M : List Int) (h : L.length = 12) : mixL L M 0 = L := by
  refine List.ext_getElem (by simp [mixL, h]) fun i h1 h2 => ?_
  simp [mixL, List.getD_eq_getElem?_getD, h2]
theorem mixL_six (L M : List Int) : mixL L M 6 = bothL L M := by
  refine List.ext_getElem (by simp [mixL, bothL]) fun i h1 h2 => ?_
  have : i < 12 := by simpa [mixL] using h1
  simp [mixL, bothL, bv, this]
theorem mixL_at (L M : List Int) (k i : Nat) (hi : i < 12) : (mixL L M k).getD i 0 = if i < 2 * k then bv L M i else L.getD i 0 := by
  simp [mixL, List.getD_eq_getElem?_getD, hi]
theorem mixL_step (L M : List Int) (k : Nat) (hk : k < 6) : ((mixL L M k).set (k * 2) (max (L.getD (k * 2) 0) (M.getD (k * 2) 0))).set (k * 2 + 1) (min (L.getD (k * 2 + 1) 0) (M.getD (k * 2 + 1) 0)) = mixL L M (k + 1) := by
  refine List.ext_getElem (by simp [mixL]) fun i h1 h2 => ?_
  rw [List.getElem_set, List.getElem_set]
  have hi : i < 12 := by simpa [mixL] using h2
  by_cases e1 : k * 2 + 1 = i
  · rw [if_pos e1]
    subst e1
    simp only [mixL, List.getElem_map, List.getElem_range]
    rw [if_pos (by omega)]
    unfold bv
    rw [if_neg (by omega)]
  · rw [if_neg e1]
    by_cases e0 : k * 2 = i
    · rw [if_pos e0]
      subst e0
      simp only [mixL, List.getElem_map, List.getElem_range]
      rw [if_pos (by omega)]
      unfold bv
      rw [if_pos (by omega)]
    · rw [if_neg e0]
      simp only [mixL, List.getElem_map, List.getElem_range]
      by_cases h : i < 2 * k
      · rw [if_pos h, if_pos (by omega)]
      · rw [if_neg h, if_neg (by omega)]

def BoInv (w : World) (L M : List Int) (k : Nat) (wr : World) : Prop := RoomAt wr w.heap.size (mixL L M k) ∧ RoomAt wr (w.heap.size + 1) M ∧ RoomAt wr (w.heap.size + 1 + 1) zr ∧ Below w.heap.size w wr

set_option maxHeartbeats 8000000 in
set_option maxRecDepth 4000 in
theorem roomBoth_any (L M : List Int) (hL : L.length = 12) (hM : M.length = 12) (w : World) :
    Calls Try.prog 46 #[.agg (rowI L), .agg (rowI M)] w fun e w' => e = .returned (.agg (rowI (bothL L M))) ∧ Below w.heap.size w w' := by
  have H0 : Hid (BoInv w L M 0 (((w.alloc (.cells (rowI L) 64)).alloc (.cells (rowI M) 64)).alloc (.cells (rowI zr) 64))) := by
    refine ⟨?_, ?_, ?_, chain (chain (below_alloc _ _) (below_alloc _ _)) (below_alloc _ _)⟩
    · rw [mixL_zero L M hL]; exact ((RoomAt.new w L).later (below_alloc _ _)).later (below_alloc _ _)
    · have := RoomAt.new (w.alloc (.cells (rowI L) 64)) M
      rw [World.size_alloc] at this
      exact this.later (below_alloc _ _)
    · have := RoomAt.new ((w.alloc (.cells (rowI L) 64)).alloc (.cells (rowI M) 64)) zr
      rw [World.size_alloc, World.size_alloc] at this
      exact this
  go_enter Try.func46, Try.ntmps46
  go_wp2
  go_loopw [5, 6] (fun _ c wr => ∃ k : Nat, k ≤ 6 ∧ c = .int .i64 (k : Int) ∧ BoInv w L M k wr) (fun _ c _ => 6 - (intOf c).toNat)
  case atStart => exact ⟨0, by omega, rfl, H0.out⟩
  case round =>
    obtain ⟨k, hk, rfl, hi⟩ := hrel
    have HI : Hid (BoInv w L M k wr) := hi
    clear hi H0
    by_cases hlt : k < 6
    · have hlt' : (k : Int) < 6 := by omega
      obtain ⟨j1, j2, j3, j4⟩ := HI.out
      have J1 : Hid (RoomAt wr w.heap.size (mixL L M k)) := j1
      have HS : Hid (∀ W, RoomAt W (w.heap.size + 1) M → W.cell? ⟨w.heap.size + 1, k * 2, none⟩ = some (.int .i64 (M.getD (k * 2) 0)) ∧ W.cell? ⟨w.heap.size + 1, k * 2 + 1, none⟩ = some (.int .i64 (M.getD (k * 2 + 1) 0))) := fun W hW => ⟨hW.cell _ (by omega), hW.cell _ (by omega)⟩
      have HCc : Hid (∀ W, RoomAt W w.heap.size (mixL L M k) → W.cell? ⟨w.heap.size, k * 2, none⟩ = some (.int .i64 (L.getD (k * 2) 0)) ∧ W.cell? ⟨w.heap.size, k * 2 + 1, none⟩ = some (.int .i64 (L.getD (k * 2 + 1) 0)) ∧ W.frozen? ⟨w.heap.size, k * 2, none⟩ = false ∧ W.frozen? ⟨w.heap.size, k * 2 + 1, none⟩ = false) := fun W hW => by
        have q0 := hW.cell (k * 2) (by rw [mixL_length]; omega)
        have q1 := hW.cell (k * 2 + 1) (by rw [mixL_length]; omega)
        rw [mixL_at _ _ _ _ (by omega), if_neg (by omega)] at q0 q1
        exact ⟨q0, q1, hW.frozen _, hW.frozen _⟩
      have HX : Hid (∀ W, Below wr.heap.size wr W → BoInv w L M (k + 1) ((W.setCell ⟨w.heap.size, k * 2, none⟩ (.int .i64 (max (L.getD (k * 2) 0) (M.getD (k * 2) 0)))).setCell ⟨w.heap.size, k * 2 + 1, none⟩ (.int .i64 (min (L.getD (k * 2 + 1) 0) (M.getD (k * 2 + 1) 0))))) := fun W hW => by
        refine ⟨?_, ((j2.later hW).other (by omega) _ _).other (by omega) _ _, ((j3.later hW).other (by omega) _ _).other (by omega) _ _, ((chain j4 hW).setCell (Nat.le_refl _) _).setCell (Nat.le_refl _) _⟩
        rw [← mixL_step L M k hlt]
        exact ((j1.later hW).set _ _).set _ _
      have J2 : Hid (RoomAt wr (w.heap.size + 1) M) := j2
      clear j1 j2 j3 j4 HI
      generalize L.getD (k * 2) 0 = x0 at *
      generalize L.getD (k * 2 + 1) 0 = x1 at *
      generalize M.getD (k * 2) 0 = y0 at *
      generalize M.getD (k * 2 + 1) 0 = y1 at *
      go_wp2
      refine wp_region_held_drew (S := fun W => RoomAt W (w.heap.size + 1) M) (by kernel_rfl) (J2.out.later (below_drew _)) (fun hH0 => ?_)
      have hH : Below wr.heap.size wr wr.drew := below_drew _
      refine wpAnyH_take (i := 0) (v := .int .i64 (k : Int)) rfl (by kernel_rfl) (by kernel_rfl) (by kernel_rfl) (fun _ _ _ h => h) (Or.inl ⟨by rfl, fun w hSw => by go_simp⟩) hH0 ?_
      refine wpAnyH_take (i := 1) (v := .int .i64 (k : Int)) rfl (by kernel_rfl) (by kernel_rfl) (by kernel_rfl) (fun _ _ _ h => h) (Or.inl ⟨by rfl, fun w hSw => by go_simp⟩) hH0 ?_
      try simp only [Act.put, List.setIfInBounds_toArray, List.set_cons_zero, List.set_cons_succ, List.getElem_toArray, List.getElem_cons_succ, List.getElem_cons_zero]
      refine wpAnyH_take (i := 2) (v := .pointer (some ⟨w.heap.size, k * 2, none⟩)) rfl (by kernel_rfl) (by kernel_rfl) (by kernel_rfl) (fun _ _ _ h => h) (Or.inl ⟨by rfl, fun w hSw => by go_simp⟩) hH0 ?_
      try simp only [Act.put, List.setIfInBounds_toArray, List.set_cons_zero, List.set_cons_succ, List.getElem_toArray, List.getElem_cons_succ, List.getElem_cons_zero]
      refine wpAnyH_take (i := 4) (v := .int .i64 (k : Int)) rfl (by kernel_rfl) (by kernel_rfl) (by kernel_rfl) (fun _ _ _ h => h) (Or.inl ⟨by rfl, fun w hSw => by go_simp⟩) hH0 ?_
      try simp only [Act.put, List.setIfInBounds_toArray, List.set_cons_zero, List.set_cons_succ, List.getElem_toArray, List.getElem_cons_succ, List.getElem_cons_zero]
      refine wpAnyH_take (i := 5) (v := .pointer (some ⟨w.heap.size + 1, k * 2, none⟩)) rfl (by kernel_rfl) (by kernel_rfl) (by kernel_rfl) (fun _ _ _ h => h) (Or.inl ⟨by rfl, fun w hSw => by go_simp⟩) hH0 ?_
      try simp only [Act.put, List.setIfInBounds_toArray, List.set_cons_zero, List.set_cons_succ, List.getElem_toArray, List.getElem_cons_succ, List.getElem_cons_zero]
      refine wpAnyH_take (i := 6) (v := .agg #[.int .i64 y0, .int .i64 y1]) rfl (by kernel_rfl) (by kernel_rfl) (by kernel_rfl) (fun _ _ _ h => h) (Or.inl ⟨by rfl, fun w hSw => by obtain ⟨s0, s1⟩ := HS.out w hSw; go_simp⟩) hH0 ?_
      try simp only [Act.put, List.setIfInBounds_toArray, List.set_cons_zero, List.set_cons_succ, List.getElem_toArray, List.getElem_cons_succ, List.getElem_cons_zero]
      refine wpAnyH_ready (rs := [3]) (by kernel_rfl) (by simp) ?_
      refine AllReadyH.cons rfl (fun K hK => ?_) AllReadyH.nil
      obtain ⟨u0, u1, _, _⟩ := HCc.out _ (J1.out.later hH)
      go_simp
      clear u0 u1
      refine hK.out _ _ hH0 (fun _ => ?_)
      clear hK K
      try simp only [Act.put, List.setIfInBounds_toArray, List.set_cons_zero, List.set_cons_succ, List.getElem_toArray, List.getElem_cons_succ, List.getElem_cons_zero]
      refine wpAnyH_ready (rs := [7]) (by kernel_rfl) (by simp) ?_
      refine AllReadyH.cons rfl (fun K hK => ?_) AllReadyH.nil
      go_simp
      go_at_call 56
      refine (spanBoth_any _ _ _ _ _).mono ?_
      rintro e w3 ⟨rfl, hb3⟩
      have hw3 := chain hH hb3
      refine hK.out _ _ (J2.out.later hw3) (fun _ => ?_)
      clear hK K
      try simp only [Act.put, List.setIfInBounds_toArray, List.set_cons_zero, List.set_cons_succ, List.getElem_toArray, List.getElem_cons_succ, List.getElem_cons_zero]
      refine wpAnyH_take (i := 8) (v := .pointer (some ⟨w.heap.size, k * 2, none⟩)) rfl (by kernel_rfl) (by kernel_rfl) (by kernel_rfl) (fun _ _ _ h => h) (Or.inl ⟨by rfl, fun w hSw => by go_simp⟩) (J2.out.later hw3) ?_
      try simp only [Act.put, List.setIfInBounds_toArray, List.set_cons_zero, List.set_cons_succ, List.getElem_toArray, List.getElem_cons_succ, List.getElem_cons_zero]
      refine wpAnyH_ready (rs := [9]) (by kernel_rfl) (by simp) ?_
      refine AllReadyH.cons rfl (fun K hK => ?_) AllReadyH.nil
      obtain ⟨s0, s1, s2, s3⟩ := HCc.out _ (J1.out.later hw3)
      have HX3 : Hid _ := HX.out w3 hw3
      go_simp
      refine hK.out _ _ (((J2.out.later hw3).other (by omega) _ _).other (by omega) _ _) (fun _ => ?_)
      clear hK K
      try simp only [Act.put, List.setIfInBounds_toArray, List.set_cons_zero, List.set_cons_succ, List.getElem_toArray, List.getElem_cons_succ, List.getElem_cons_zero]
      refine wpAnyH_done (by kernel_rfl) ?_ _
      try simp
      clear s0 s1 s2 s3 hw3 hH hH0 hb3
      go_wp2
      go_roundw
      case rel => exact ⟨k + 1, by omega, by go_num, HX3.out⟩
      case measure => simp [intOf]; omega
    · obtain rfl : k = 6 := by omega
      obtain ⟨g0, _, g1, g3⟩ := HI.out
      rw [mixL_six] at g0
      unfold RoomAt at g0 g1
      have HB : Hid (Below w.heap.size w wr) := g3
      have hall := rowI_one (bothL L M)
      have hlen : (rowI (bothL L M)).size = 12 := by rw [rowI_size]; simp [bothL]
      have hsz : (Try.prog.info? 64).map (·.size) = some (rowI (bothL L M)).size := by rw [hlen]; exact infoRm
      have hsz2 : (rowI zr).size = (rowI (bothL L M)).size := by rw [hlen]; rfl
      clear g3 HI hlen
      generalize hV : rowI (bothL L M) = V at *
      generalize rowI zr = Z at *
      go_wp2_with (first | (refine wpList_load_row rfl 64 (.tmp 2) rfl w.heap.size rfl 64 _ (0, 0) _ g0 Try.underlying64 rfl hsz ?_) | (refine wpList_store_row rfl 64 (.tmp 4) (.tmp 19) rfl (w.heap.size + 1 + 1) _ rfl rfl 64 Z g1 hsz hsz2 hall ?_))
      refine bodyPost_ret (results_cell_row rfl _ _ (w.heap.size + 1 + 1) 64 _ (0, 0) _ rfl (setRow_heap _ _ Z _ _ _ g1) Try.underlying64 rfl hsz) rfl ?_
      exact ⟨by rw [hV], belowRow HB.out (by omega) _⟩


def emptyN (L : List Int) (k : Nat) : Bool := (List.range k).any fun i => decide (L.getD (2 * i + 1) 0 < L.getD (2 * i) 0)
theorem emptyN_next {L : List Int} {k : Nat} (h : emptyN L k = false) (hk : ¬ L.getD (2 * k + 1) 0 < L.getD (2 * k) 0) : emptyN L (k + 1) = false := by
  unfold emptyN at *
  rw [List.range_succ, List.any_append, h]
  simpa using Int.not_lt.mp hk
theorem emptyL_yes {L : List Int} {k : Nat} (h : k < 6) (hk : L.getD (2 * k + 1) 0 < L.getD (2 * k) 0) : emptyL L = true := by
  unfold emptyL
  exact List.any_eq_true.mpr ⟨k, by simpa using h, by simpa using hk⟩
theorem emptyFn_any (a b : Int) (w : World) :
    Calls Try.prog 59 #[.agg #[.int .i64 a, .int .i64 b]] w fun e w' => e = .returned (.bool (decide (b < a))) ∧ Below w.heap.size w w' := by
  go_enter Try.func59, Try.ntmps59
  go_wp2
  go_ret
  exact ⟨rfl, below_alloc _ _⟩
set_option maxHeartbeats 2000000 in
theorem spIndex_any (b : Nat) (L : List Int) (hL : L.length = 12) (w : World) (hr : RoomAt w b L) :
    Calls Try.prog 87 #[.slice (some ⟨b, 0, none⟩) 6 6, .func (.func 59) #[] #[]] w fun e w' => (∃ x : Int, e = .returned (.int .i64 x) ∧ decide (0 ≤ x) = emptyL L) ∧ Below w.heap.size w w' := by
  have HR : Hid (RoomAt w b L) := hr
  clear hr
  go_enter Try.func87, Try.ntmps87
  go_wp2
  go_loopw [5, 8] (fun _ c wr => ∃ k : Nat, k ≤ 6 ∧ c = .int .i64 (k : Int) ∧ emptyN L k = false ∧ Below w.heap.size w wr) (fun _ c _ => 6 - (intOf c).toNat)
  case atStart => exact ⟨0, Nat.zero_le _, rfl, rfl, Below.refl _ _⟩
  case round =>
    obtain ⟨k, hk, rfl, hf, hb⟩ := hrel
    have HF : Hid (emptyN L k = false) := hf
    have HB : Hid (Below w.heap.size w wr) := hb
    clear hf hb
    by_cases hlt : k < 6
    · have hlt' : (k : Int) < 6 := by omega
      have c0 := (HR.out.later HB.out).cell (k * 2) (by omega)
      have c1 := (HR.out.later HB.out).cell (k * 2 + 1) (by omega)
      have HY : Hid (L.getD (k * 2 + 1) 0 < L.getD (k * 2) 0 → emptyL L = true) := fun h => emptyL_yes hlt (by rw [Nat.mul_comm 2 k]; exact h)
      have HN : Hid (¬ L.getD (k * 2 + 1) 0 < L.getD (k * 2) 0 → emptyN L (k + 1) = false) := fun h => emptyN_next HF.out (by rw [Nat.mul_comm 2 k]; exact h)
      generalize L.getD (k * 2) 0 = x at *
      generalize L.getD (k * 2 + 1) 0 = y at *
      by_cases hq : y < x
      · have hd : decide (y < x) = true := decide_eq_true hq
        have H1 : Hid _ := HY.out hq
        go_wp2_with (go_at_call 59; refine (emptyFn_any _ _ _).mono ?_; rintro e w2 ⟨rfl, hb2⟩)
        go_ret
        exact ⟨⟨(k : Int), rfl, by rw [H1.out]; exact decide_eq_true (by omega)⟩, chain HB.out hb2⟩
      · have hd : decide (y < x) = false := decide_eq_false hq
        have H1 : Hid _ := HN.out hq
        go_wp2_with (go_at_call 59; refine (emptyFn_any _ _ _).mono ?_; rintro e w2 ⟨rfl, hb2⟩)
        exact ⟨⟨k + 1, by omega, by go_num, H1.out, chain HB.out hb2⟩, by simp [intOf]; omega⟩
    · obtain rfl : k = 6 := by omega
      go_wp2
      go_ret
      exact ⟨⟨-1, rfl, HF.out.symm⟩, HB.out⟩
theorem spContains_any (b : Nat) (L : List Int) (hL : L.length = 12) (w : World) (hr : RoomAt w b L) :
    Calls Try.prog 58 #[.slice (some ⟨b, 0, none⟩) 6 6, .func (.func 59) #[] #[]] w fun e w' => e = .returned (.bool (emptyL L)) ∧ Below w.heap.size w w' := by
  have hi := spIndex_any b L hL w hr
  clear hr
  go_enter Try.func58, Try.ntmps58
  go_wp2_with (go_at_call 87; refine hi.mono ?_; rintro e w2 ⟨⟨x, rfl, hx⟩, hb2⟩; have HX : Hid (decide (0 ≤ x) = emptyL L) := hx; clear hx)
  go_ret
  exact ⟨ret_bool HX.out, hb2⟩
theorem roomEmpty_any (L : List Int) (hL : L.length = 12) (w : World) :
    Calls Try.prog 30 #[.agg (rowI L)] w fun e w' => e = .returned (.bool (emptyL L)) ∧ Below w.heap.size w w' := by
  have hC := spContains_any w.heap.size L hL (w.alloc (.cells (rowI L) 64)) (RoomAt.new w L)
  generalize emptyL L = b at *
  go_enter Try.func30, Try.ntmps30
  go_wp2_with (go_at_call 58; refine hC.mono ?_; rintro e w2 ⟨rfl, hb2⟩)
  go_ret
  exact ⟨rfl, chain (below_alloc _ _) hb2⟩
/-- The least facts of a room. -/
def factsV (L : List Int) : Array Value := #[.int .i64 (L.getD 2 0), .int .i64 (L.getD 4 0), .int .i64 (L.getD 6 0), .int .i64 (L.getD 8 0), .int .i64 (L.getD 10 0)]

set_option maxHeartbeats 2000000 in
theorem leastFacts_any (L : List Int) (hL : L.length = 12) (w : World) :
    Calls Try.prog 32 #[.agg (rowI L)] w fun e w' => e = .returned (.agg (factsV L)) ∧ Below w.heap.size w w' := by
  have hc : ∀ j, j < 12 → ((w.alloc (Obj.cells (rowI L) 64)).alloc (Obj.cells #[.int .i64 0, .int .i64 0, .int .i64 0, .int .i64 0, .int .i64 0] 28)).cell? ⟨w.heap.size, j, none⟩ = some (.int .i64 (L.getD j 0)) := fun j hj => ((RoomAt.new w L).later (below_alloc _ _)).cell j (by omega)
  have c2 := hc 2 (by omega)
  have c4 := hc 4 (by omega)
  have c6 := hc 6 (by omega)
  have c8 := hc 8 (by omega)
  have c10 := hc 10 (by omega)
  clear hc
  unfold factsV
  generalize L.getD 2 0 = x2 at *
  generalize L.getD 4 0 = x4 at *
  generalize L.getD 6 0 = x6 at *
  generalize L.getD 8 0 = x8 at *
  generalize L.getD 10 0 = x10 at *
  go_enter Try.func32, Try.ntmps32
  go_wp2
  refine bodyPost_ret (by simp [results, Try.results32, go_sem]) rfl ⟨rfl, ?_⟩
  repeat (first | exact Below.refl _ _ | refine chain ?_ (below_alloc _ _) | refine Below.setCell ?_ (by dsimp only; omega) _)

end Go.Proofs.Ythkmgccmeoigpaa

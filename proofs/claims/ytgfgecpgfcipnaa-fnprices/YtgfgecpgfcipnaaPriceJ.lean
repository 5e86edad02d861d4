/-
  Which row the closure of the program's countingRows tells, for every list of rows.
-/
import Derived.Test.YtgfgecpgfcipnaaPriceI
namespace Go.Proofs.Ytgfgecpgfcipnaa
open Go.ChangeShapes Go.WideShapes Go.ChangeAt Go.RowKit
set_option linter.unusedVariables false

set_option maxHeartbeats 4000000 in
set_option maxRecDepth 4000 in
theorem countingRows_any (a : Option Addr) (cap : Nat) (rs : List RPr) (hl : rs.length ≤ 100000000) (art zn : ByteArray) (m : Int) (p1 p2 p3 : Nat) (w : World) (hr : ReadsPr w.heap.size w a rs) (he : CtEnv w a rs.length cap art zn p1 p2 p3) :
    Calls Try.prog 28 #[.int .i64 m, .pointer (some ⟨p1, 0, none⟩), .pointer (some ⟨p2, 0, none⟩), .pointer (some ⟨p3, 0, none⟩)] w fun e w' => e = .returned (.int .i64 (atAll rs art zn m)) ∧ Below w.heap.size w w' := by
  have HR : Hid (ReadsPr w.heap.size w a rs) := hr
  have HC : Hid (CtEnv w a rs.length cap art zn p1 p2 p3) := he
  obtain ⟨_, _, _, ⟨x1, _⟩, _⟩ := id he
  clear hr he
  go_enter Try.func28, Try.ntmps28
  go_wp2
  clear x1
  go_loopw [6, 7, 8, 11] (fun b _ _ c wr => ∃ k : Nat, k ≤ rs.length ∧ c = .int .i64 (k : Int) ∧ b = .int .i64 (atN rs art zn m k) ∧ Below w.heap.size w wr) (fun _ _ _ c _ => rs.length - (intOf c).toNat)
  case atStart => exact ⟨0, Nat.zero_le _, rfl, rfl, Below.refl _ _⟩
  case round =>
    obtain ⟨k, hk, rfl, rfl, hb⟩ := hrel
    have HB : Hid (Below w.heap.size w wr) := hb
    have HE : Hid (CtEnv wr a rs.length cap art zn p1 p2 p3) := HC.out.below hb
    clear hb
    by_cases hlt : k < rs.length
    · have hlt' : (k : Int) < (rs.length : Int) := by omega
      rcases HR.out with h | ⟨b0, o0, ha, hB0, ia⟩
      · rw [h] at hlt; simp at hlt
      obtain ⟨c0, c1, c2, c3, c4, c5⟩ := (ia.below HB.out hB0) k hlt
      have HNo : Hid (prHolds art zn m (rs.getD k zPr) = false → atN rs art zn m (k + 1) = atN rs art zn m k) := atN_no
      have HNew : Hid (prHolds art zn m (rs.getD k zPr) = true → atN rs art zn m k = -1 → atN rs art zn m (k + 1) = (k : Int)) := atN_new
      have HOld : Hid (∀ j : Nat, prHolds art zn m (rs.getD k zPr) = true → atN rs art zn m k = (j : Int) → atN rs art zn m (k + 1) = if prAhead (rs.getD k zPr) (rs.getD j zPr) = true then (k : Int) else (j : Int)) := fun j => atN_old
      have HI : Hid (PrsAt wr b0 o0 rs) := ia.below HB.out hB0
      have hl0 : b0 < wr.heap.size := Nat.lt_of_lt_of_le hB0 HB.out.size
      subst ha
      clear ia
      have HW := atN_ways rs art zn m k
      generalize rs.getD k zPr = r at *
      obtain ⟨r0, r1, r2, r3, r4, r5⟩ := r
      dsimp only at c0 c1 c2 c3 c4 c5
      obtain ⟨bA, bZ, s, ⟨x1, x2, x3, x4, x5⟩, ⟨l1, l2, l3, l4, l5⟩, ho⟩ := HE.out
      have HS : Hid (∀ W, Below (wr.alloc (Obj.cells #[.string r0, .string r1, .int .i64 r2, .int .i64 r3, .int .i64 r4, .int .i64 r5] 36)).heap.size (wr.alloc (Obj.cells #[.string r0, .string r1, .int .i64 r2, .int .i64 r3, .int .i64 r4, .int .i64 r5] 36)) W → W.cell? ⟨wr.heap.size, 0, none⟩ = some (.string r0) ∧ W.cell? ⟨wr.heap.size, 1, none⟩ = some (.string r1) ∧ W.cell? ⟨wr.heap.size, 2, none⟩ = some (.int .i64 r2) ∧ W.cell? ⟨wr.heap.size, 3, none⟩ = some (.int .i64 r3) ∧ W.cell? ⟨wr.heap.size, 4, none⟩ = some (.int .i64 r4) ∧ W.cell? ⟨wr.heap.size, 5, none⟩ = some (.int .i64 r5) ∧ W.cell? ⟨p1, 0, none⟩ = some (.slice (some ⟨b0, o0, none⟩) rs.length cap) ∧ W.cell? ⟨p2, 0, none⟩ = some (.func (.func 37) #[] #[.pointer (some ⟨bA, 0, none⟩), .pointer (some ⟨bZ, 0, none⟩)]) ∧ W.cell? ⟨p3, 0, none⟩ = some (.func (.func 48) #[] #[.pointer (some ⟨s, 0, none⟩)])) := fun W hW => by
        obtain ⟨s0, s1, s2, s3, s4, s5⟩ := (prNew wr r0 r1 r2 r3 r4 r5).below hW (by simp)
        obtain ⟨hc, _, _⟩ := bfacts (chain (below_alloc wr (Obj.cells #[.string r0, .string r1, .int .i64 r2, .int .i64 r3, .int .i64 r4, .int .i64 r5] 36)) hW)
        exact ⟨s0, s1, s2, s3, s4, s5, (hc _ _ l1).trans x1, (hc _ _ l2).trans x2, (hc _ _ l3).trans x3⟩
      have HH : Hid (∀ W, Below (wr.alloc (Obj.cells #[.string r0, .string r1, .int .i64 r2, .int .i64 r3, .int .i64 r4, .int .i64 r5] 36)).heap.size (wr.alloc (Obj.cells #[.string r0, .string r1, .int .i64 r2, .int .i64 r3, .int .i64 r4, .int .i64 r5] 36)) W → Calls Try.prog 37 #[.agg #[.string r0, .string r1, .int .i64 r2, .int .i64 r3, .int .i64 r4, .int .i64 r5], .int .i64 m, .pointer (some ⟨bA, 0, none⟩), .pointer (some ⟨bZ, 0, none⟩)] W fun e w' => e = .returned (.bool (prHolds art zn m ⟨r0, r1, r2, r3, r4, r5⟩)) ∧ Below W.heap.size W w') := fun W hW => by
        obtain ⟨hc, _, hz⟩ := bfacts (chain (below_alloc wr (Obj.cells #[.string r0, .string r1, .int .i64 r2, .int .i64 r3, .int .i64 r4, .int .i64 r5] 36)) hW)
        exact holding_any art zn r0 r1 r2 r3 r4 r5 m bA bZ W ((hc _ _ l4).trans x4) ((hc _ _ l5).trans x5) (hz _ l4) (hz _ l5)
      have HT0 : Hid (∀ W, Below (wr.alloc (Obj.cells #[.string r0, .string r1, .int .i64 r2, .int .i64 r3, .int .i64 r4, .int .i64 r5] 36)).heap.size (wr.alloc (Obj.cells #[.string r0, .string r1, .int .i64 r2, .int .i64 r3, .int .i64 r4, .int .i64 r5] 36)) W → ∀ q0 q1 q2 q3 q4 q5, Calls Try.prog 48 #[.agg #[.string r0, .string r1, .int .i64 r2, .int .i64 r3, .int .i64 r4, .int .i64 r5], .agg #[.string q0, .string q1, .int .i64 q2, .int .i64 q3, .int .i64 q4, .int .i64 q5], .pointer (some ⟨s, 0, none⟩)] W fun e w' => e = .returned (.int .i64 (ordR ⟨r0, r1, r2, r3, r4, r5⟩ ⟨q0, q1, q2, q3, q4, q5⟩)) ∧ Below W.heap.size W w') := fun W hW q0 q1 q2 q3 q4 q5 =>
        inTurn_any r0 r1 r2 r3 r4 r5 q0 q1 q2 q3 q4 q5 s W (ho.below (chain (below_alloc wr (Obj.cells #[.string r0, .string r1, .int .i64 r2, .int .i64 r3, .int .i64 r4, .int .i64 r5] 36)) hW))
      clear x1 x2 x3 x4 x5 ho HE
      generalize hP : prHolds art zn m ⟨r0, r1, r2, r3, r4, r5⟩ = hp at *
      cases hp
      · have HX : Hid _ := HNo.out rfl
        clear HNo HNew HOld HW HI HT0 l1 l2 l3 l4 l5
        generalize atN rs art zn m k = x at *
        go_wp2
        refine wp_region_held_drew (S := fun W => Below (wr.alloc (Obj.cells #[.string r0, .string r1, .int .i64 r2, .int .i64 r3, .int .i64 r4, .int .i64 r5] 36)).heap.size (wr.alloc (Obj.cells #[.string r0, .string r1, .int .i64 r2, .int .i64 r3, .int .i64 r4, .int .i64 r5] 36)) W) (by kernel_rfl) (below_drew _) (fun hH => ?_)
        refine wpAnyH_take (i := 0) (v := .func (.func 37) #[] #[.pointer (some ⟨bA, 0, none⟩), .pointer (some ⟨bZ, 0, none⟩)]) rfl (by kernel_rfl) (by kernel_rfl) (by kernel_rfl) (fun _ _ _ h => h) (Or.inl ⟨by rfl, fun w hSw => by obtain ⟨s0, s1, s2, s3, s4, s5, t1, t2, t3⟩ := HS.out w hSw; go_simp⟩) hH ?_
        try simp only [Act.put, List.setIfInBounds_toArray, List.set_cons_zero, List.set_cons_succ, List.getElem_toArray, List.getElem_cons_zero]
        refine wpAnyH_take (i := 1) (v := .agg #[.string r0, .string r1, .int .i64 r2, .int .i64 r3, .int .i64 r4, .int .i64 r5]) rfl (by kernel_rfl) (by kernel_rfl) (by kernel_rfl) (fun _ _ _ h => h) (Or.inl ⟨by rfl, fun w hSw => by obtain ⟨s0, s1, s2, s3, s4, s5, t1, t2, t3⟩ := HS.out w hSw; go_simp⟩) hH ?_
        try simp only [Act.put, List.setIfInBounds_toArray, List.set_cons_zero, List.set_cons_succ, List.getElem_toArray, List.getElem_cons_succ, List.getElem_cons_zero]
        refine wpAnyH_take (i := 2) (v := .int .i64 m) rfl (by kernel_rfl) (by kernel_rfl) (by kernel_rfl) (fun _ _ _ h => h) (Or.inl ⟨by rfl, fun w hSw => by go_simp⟩) hH ?_
        try simp only [Act.put, List.setIfInBounds_toArray, List.set_cons_zero, List.set_cons_succ, List.getElem_toArray, List.getElem_cons_succ, List.getElem_cons_zero]
        refine wpAnyH_ready (rs := [3]) (by kernel_rfl) (by simp) ?_
        refine AllReadyH.cons rfl (fun K hK => ?_) AllReadyH.nil
        go_simp
        go_at_call 37
        refine (HH.out _ hH).mono ?_
        rintro e w2 ⟨rfl, hb2⟩
        have hw2 := chain hH hb2
        refine hK.out _ _ hw2 (fun _ => ?_)
        clear hK K
        try simp only [Act.put, List.setIfInBounds_toArray, List.set_cons_zero, List.set_cons_succ, List.getElem_toArray, List.getElem_cons_succ, List.getElem_cons_zero]
        refine wpAnyH_take (i := 4) (v := .bool false) rfl (by kernel_rfl) (by kernel_rfl) (by kernel_rfl) (fun _ _ _ h => h) (Or.inl ⟨by rfl, fun w hSw => by go_simp⟩) hw2 ?_
        try simp only [Act.put, List.setIfInBounds_toArray, List.set_cons_zero, List.set_cons_succ, List.getElem_toArray, List.getElem_cons_succ, List.getElem_cons_zero]
        refine wpAnyH_take (i := 5) (v := undef) rfl (by kernel_rfl) (by kernel_rfl) (by kernel_rfl) (fun _ _ _ h => h) (Or.inr ⟨by rfl, rfl⟩) hw2 ?_
        try simp only [Act.put, List.setIfInBounds_toArray, List.set_cons_zero, List.set_cons_succ, List.getElem_toArray, List.getElem_cons_succ, List.getElem_cons_zero]
        refine wpAnyH_take (i := 6) (v := undef) rfl (by kernel_rfl) (by kernel_rfl) (by kernel_rfl) (fun _ _ _ h => h) (Or.inr ⟨by rfl, rfl⟩) hw2 ?_
        try simp only [Act.put, List.setIfInBounds_toArray, List.set_cons_zero, List.set_cons_succ, List.getElem_toArray, List.getElem_cons_succ, List.getElem_cons_zero]
        refine wpAnyH_take (i := 7) (v := undef) rfl (by kernel_rfl) (by kernel_rfl) (by kernel_rfl) (fun _ _ _ h => h) (Or.inr ⟨by rfl, rfl⟩) hw2 ?_
        try simp only [Act.put, List.setIfInBounds_toArray, List.set_cons_zero, List.set_cons_succ, List.getElem_toArray, List.getElem_cons_succ, List.getElem_cons_zero]
        refine wpAnyH_take (i := 8) (v := undef) rfl (by kernel_rfl) (by kernel_rfl) (by kernel_rfl) (fun _ _ _ h => h) (Or.inr ⟨by rfl, rfl⟩) hw2 ?_
        try simp only [Act.put, List.setIfInBounds_toArray, List.set_cons_zero, List.set_cons_succ, List.getElem_toArray, List.getElem_cons_succ, List.getElem_cons_zero]
        refine wpAnyH_take (i := 9) (v := undef) rfl (by kernel_rfl) (by kernel_rfl) (by kernel_rfl) (fun _ _ _ h => h) (Or.inr ⟨by rfl, rfl⟩) hw2 ?_
        try simp only [Act.put, List.setIfInBounds_toArray, List.set_cons_zero, List.set_cons_succ, List.getElem_toArray, List.getElem_cons_succ, List.getElem_cons_zero]
        refine wpAnyH_take (i := 10) (v := undef) rfl (by kernel_rfl) (by kernel_rfl) (by kernel_rfl) (fun _ _ _ h => h) (Or.inr ⟨by rfl, rfl⟩) hw2 ?_
        try simp only [Act.put, List.setIfInBounds_toArray, List.set_cons_zero, List.set_cons_succ, List.getElem_toArray, List.getElem_cons_succ, List.getElem_cons_zero]
        refine wpAnyH_take (i := 11) (v := undef) rfl (by kernel_rfl) (by kernel_rfl) (by kernel_rfl) (fun _ _ _ h => h) (Or.inr ⟨by rfl, rfl⟩) hw2 ?_
        try simp only [Act.put, List.setIfInBounds_toArray, List.set_cons_zero, List.set_cons_succ, List.getElem_toArray, List.getElem_cons_succ, List.getElem_cons_zero]
        refine wpAnyH_take (i := 12) (v := undef) rfl (by kernel_rfl) (by kernel_rfl) (by kernel_rfl) (fun _ _ _ h => h) (Or.inr ⟨by rfl, rfl⟩) hw2 ?_
        try simp only [Act.put, List.setIfInBounds_toArray, List.set_cons_zero, List.set_cons_succ, List.getElem_toArray, List.getElem_cons_succ, List.getElem_cons_zero]
        refine wpAnyH_take (i := 13) (v := undef) rfl (by kernel_rfl) (by kernel_rfl) (by kernel_rfl) (fun _ _ _ h => h) (Or.inr ⟨by rfl, rfl⟩) hw2 ?_
        try simp only [Act.put, List.setIfInBounds_toArray, List.set_cons_zero, List.set_cons_succ, List.getElem_toArray, List.getElem_cons_succ, List.getElem_cons_zero]
        refine wpAnyH_take (i := 14) (v := undef) rfl (by kernel_rfl) (by kernel_rfl) (by kernel_rfl) (fun _ _ _ h => h) (Or.inr ⟨by rfl, rfl⟩) hw2 ?_
        try simp only [Act.put, List.setIfInBounds_toArray, List.set_cons_zero, List.set_cons_succ, List.getElem_toArray, List.getElem_cons_succ, List.getElem_cons_zero]
        refine wpAnyH_take (i := 15) (v := undef) rfl (by kernel_rfl) (by kernel_rfl) (by kernel_rfl) (fun _ _ _ h => h) (Or.inr ⟨by rfl, rfl⟩) hw2 ?_
        try simp only [Act.put, List.setIfInBounds_toArray, List.set_cons_zero, List.set_cons_succ, List.getElem_toArray, List.getElem_cons_succ, List.getElem_cons_zero]
        refine wpAnyH_take (i := 16) (v := undef) rfl (by kernel_rfl) (by kernel_rfl) (by kernel_rfl) (fun _ _ _ h => h) (Or.inr ⟨by rfl, rfl⟩) hw2 ?_
        try simp only [Act.put, List.setIfInBounds_toArray, List.set_cons_zero, List.set_cons_succ, List.getElem_toArray, List.getElem_cons_succ, List.getElem_cons_zero]
        refine wpAnyH_take (i := 17) (v := .bool false) rfl (by kernel_rfl) (by kernel_rfl) (by kernel_rfl) (fun _ _ _ h => h) (Or.inl ⟨by rfl, fun w hSw => by go_simp⟩) hw2 ?_
        try simp only [Act.put, List.setIfInBounds_toArray, List.set_cons_zero, List.set_cons_succ, List.getElem_toArray, List.getElem_cons_succ, List.getElem_cons_zero]
        refine wpAnyH_done (by kernel_rfl) ?_ _
        try simp [Act.put]
        have HB2 : Hid (Below w.heap.size w w2) := chain HB.out (chain (below_alloc _ _) hw2)
        clear HS HH hH hb2 hw2
        go_wp2
        first
        | exact ⟨⟨k + 1, by omega, by go_num, by rw [HX.out], HB2.out⟩, by simp [intOf]; omega⟩
        | (go_roundw
           case rel => exact ⟨k + 1, by omega, by go_num, by rw [HX.out], HB2.out⟩
           case measure => simp [intOf]; omega)
      · rcases HW with hx | ⟨j, hj, hx⟩
        · have HX : Hid _ := HNew.out rfl hx
          rw [hx]
          clear HNo HNew HOld HI HT0 l1 l2 l3 l4 l5 hx
          go_wp2
          refine wp_region_held_drew (S := fun W => Below (wr.alloc (Obj.cells #[.string r0, .string r1, .int .i64 r2, .int .i64 r3, .int .i64 r4, .int .i64 r5] 36)).heap.size (wr.alloc (Obj.cells #[.string r0, .string r1, .int .i64 r2, .int .i64 r3, .int .i64 r4, .int .i64 r5] 36)) W) (by kernel_rfl) (below_drew _) (fun hH => ?_)
          refine wpAnyH_take (i := 0) (v := .func (.func 37) #[] #[.pointer (some ⟨bA, 0, none⟩), .pointer (some ⟨bZ, 0, none⟩)]) rfl (by kernel_rfl) (by kernel_rfl) (by kernel_rfl) (fun _ _ _ h => h) (Or.inl ⟨by rfl, fun w hSw => by obtain ⟨s0, s1, s2, s3, s4, s5, t1, t2, t3⟩ := HS.out w hSw; go_simp⟩) hH ?_
          try simp only [Act.put, List.setIfInBounds_toArray, List.set_cons_zero, List.set_cons_succ, List.getElem_toArray, List.getElem_cons_zero]
          refine wpAnyH_take (i := 1) (v := .agg #[.string r0, .string r1, .int .i64 r2, .int .i64 r3, .int .i64 r4, .int .i64 r5]) rfl (by kernel_rfl) (by kernel_rfl) (by kernel_rfl) (fun _ _ _ h => h) (Or.inl ⟨by rfl, fun w hSw => by obtain ⟨s0, s1, s2, s3, s4, s5, t1, t2, t3⟩ := HS.out w hSw; go_simp⟩) hH ?_
          try simp only [Act.put, List.setIfInBounds_toArray, List.set_cons_zero, List.set_cons_succ, List.getElem_toArray, List.getElem_cons_succ, List.getElem_cons_zero]
          refine wpAnyH_take (i := 2) (v := .int .i64 m) rfl (by kernel_rfl) (by kernel_rfl) (by kernel_rfl) (fun _ _ _ h => h) (Or.inl ⟨by rfl, fun w hSw => by go_simp⟩) hH ?_
          try simp only [Act.put, List.setIfInBounds_toArray, List.set_cons_zero, List.set_cons_succ, List.getElem_toArray, List.getElem_cons_succ, List.getElem_cons_zero]
          refine wpAnyH_ready (rs := [3]) (by kernel_rfl) (by simp) ?_
          refine AllReadyH.cons rfl (fun K hK => ?_) AllReadyH.nil
          go_simp
          go_at_call 37
          refine (HH.out _ hH).mono ?_
          rintro e w2 ⟨rfl, hb2⟩
          have hw2 := chain hH hb2
          refine hK.out _ _ hw2 (fun _ => ?_)
          clear hK K
          try simp only [Act.put, List.setIfInBounds_toArray, List.set_cons_zero, List.set_cons_succ, List.getElem_toArray, List.getElem_cons_succ, List.getElem_cons_zero]
          refine wpAnyH_take (i := 4) (v := .bool true) rfl (by kernel_rfl) (by kernel_rfl) (by kernel_rfl) (fun _ _ _ h => h) (Or.inl ⟨by rfl, fun w hSw => by go_simp⟩) hw2 ?_
          try simp only [Act.put, List.setIfInBounds_toArray, List.set_cons_zero, List.set_cons_succ, List.getElem_toArray, List.getElem_cons_succ, List.getElem_cons_zero]
          refine wpAnyH_take (i := 5) (v := .int .i64 (-1)) rfl (by kernel_rfl) (by kernel_rfl) (by kernel_rfl) (fun _ _ _ h => h) (Or.inl ⟨by rfl, fun w hSw => by go_simp⟩) hw2 ?_
          try simp only [Act.put, List.setIfInBounds_toArray, List.set_cons_zero, List.set_cons_succ, List.getElem_toArray, List.getElem_cons_succ, List.getElem_cons_zero]
          refine wpAnyH_take (i := 6) (v := .bool true) rfl (by kernel_rfl) (by kernel_rfl) (by kernel_rfl) (fun _ _ _ h => h) (Or.inl ⟨by rfl, fun w hSw => by go_simp⟩) hw2 ?_
          try simp only [Act.put, List.setIfInBounds_toArray, List.set_cons_zero, List.set_cons_succ, List.getElem_toArray, List.getElem_cons_succ, List.getElem_cons_zero]
          refine wpAnyH_take (i := 7) (v := .bool true) rfl (by kernel_rfl) (by kernel_rfl) (by kernel_rfl) (fun _ _ _ h => h) (Or.inl ⟨by rfl, fun w hSw => by go_simp⟩) hw2 ?_
          try simp only [Act.put, List.setIfInBounds_toArray, List.set_cons_zero, List.set_cons_succ, List.getElem_toArray, List.getElem_cons_succ, List.getElem_cons_zero]
          refine wpAnyH_take (i := 8) (v := undef) rfl (by kernel_rfl) (by kernel_rfl) (by kernel_rfl) (fun _ _ _ h => h) (Or.inr ⟨by rfl, rfl⟩) hw2 ?_
          try simp only [Act.put, List.setIfInBounds_toArray, List.set_cons_zero, List.set_cons_succ, List.getElem_toArray, List.getElem_cons_succ, List.getElem_cons_zero]
          refine wpAnyH_take (i := 9) (v := undef) rfl (by kernel_rfl) (by kernel_rfl) (by kernel_rfl) (fun _ _ _ h => h) (Or.inr ⟨by rfl, rfl⟩) hw2 ?_
          try simp only [Act.put, List.setIfInBounds_toArray, List.set_cons_zero, List.set_cons_succ, List.getElem_toArray, List.getElem_cons_succ, List.getElem_cons_zero]
          refine wpAnyH_take (i := 10) (v := undef) rfl (by kernel_rfl) (by kernel_rfl) (by kernel_rfl) (fun _ _ _ h => h) (Or.inr ⟨by rfl, rfl⟩) hw2 ?_
          try simp only [Act.put, List.setIfInBounds_toArray, List.set_cons_zero, List.set_cons_succ, List.getElem_toArray, List.getElem_cons_succ, List.getElem_cons_zero]
          refine wpAnyH_take (i := 11) (v := undef) rfl (by kernel_rfl) (by kernel_rfl) (by kernel_rfl) (fun _ _ _ h => h) (Or.inr ⟨by rfl, rfl⟩) hw2 ?_
          try simp only [Act.put, List.setIfInBounds_toArray, List.set_cons_zero, List.set_cons_succ, List.getElem_toArray, List.getElem_cons_succ, List.getElem_cons_zero]
          refine wpAnyH_take (i := 12) (v := undef) rfl (by kernel_rfl) (by kernel_rfl) (by kernel_rfl) (fun _ _ _ h => h) (Or.inr ⟨by rfl, rfl⟩) hw2 ?_
          try simp only [Act.put, List.setIfInBounds_toArray, List.set_cons_zero, List.set_cons_succ, List.getElem_toArray, List.getElem_cons_succ, List.getElem_cons_zero]
          refine wpAnyH_take (i := 13) (v := undef) rfl (by kernel_rfl) (by kernel_rfl) (by kernel_rfl) (fun _ _ _ h => h) (Or.inr ⟨by rfl, rfl⟩) hw2 ?_
          try simp only [Act.put, List.setIfInBounds_toArray, List.set_cons_zero, List.set_cons_succ, List.getElem_toArray, List.getElem_cons_succ, List.getElem_cons_zero]
          refine wpAnyH_take (i := 14) (v := undef) rfl (by kernel_rfl) (by kernel_rfl) (by kernel_rfl) (fun _ _ _ h => h) (Or.inr ⟨by rfl, rfl⟩) hw2 ?_
          try simp only [Act.put, List.setIfInBounds_toArray, List.set_cons_zero, List.set_cons_succ, List.getElem_toArray, List.getElem_cons_succ, List.getElem_cons_zero]
          refine wpAnyH_take (i := 15) (v := undef) rfl (by kernel_rfl) (by kernel_rfl) (by kernel_rfl) (fun _ _ _ h => h) (Or.inr ⟨by rfl, rfl⟩) hw2 ?_
          try simp only [Act.put, List.setIfInBounds_toArray, List.set_cons_zero, List.set_cons_succ, List.getElem_toArray, List.getElem_cons_succ, List.getElem_cons_zero]
          refine wpAnyH_take (i := 16) (v := .bool true) rfl (by kernel_rfl) (by kernel_rfl) (by kernel_rfl) (fun _ _ _ h => h) (Or.inl ⟨by rfl, fun w hSw => by go_simp⟩) hw2 ?_
          try simp only [Act.put, List.setIfInBounds_toArray, List.set_cons_zero, List.set_cons_succ, List.getElem_toArray, List.getElem_cons_succ, List.getElem_cons_zero]
          refine wpAnyH_take (i := 17) (v := .bool true) rfl (by kernel_rfl) (by kernel_rfl) (by kernel_rfl) (fun _ _ _ h => h) (Or.inl ⟨by rfl, fun w hSw => by go_simp⟩) hw2 ?_
          try simp only [Act.put, List.setIfInBounds_toArray, List.set_cons_zero, List.set_cons_succ, List.getElem_toArray, List.getElem_cons_succ, List.getElem_cons_zero]
          refine wpAnyH_done (by kernel_rfl) ?_ _
          try simp [Act.put]
          have HB2 : Hid (Below w.heap.size w w2) := chain HB.out (chain (below_alloc _ _) hw2)
          clear HS HH hH hb2 hw2
          go_wp2
          first
          | exact ⟨⟨k + 1, by omega, by go_num, by rw [HX.out], HB2.out⟩, by simp [intOf]; omega⟩
          | (go_roundw
             case rel => exact ⟨k + 1, by omega, by go_num, by rw [HX.out], HB2.out⟩
             case measure => simp [intOf]; omega)
        · have HX : Hid _ := HOld.out j rfl hx
          rw [hx]
          have hjl : (j : Int) < (rs.length : Int) := by omega
          have hd : ((j : Int) == -1) = false := by first | (simp; done) | (simp; omega)
          have HJ : Hid (PrAt wr b0 (o0 + j * 6) (rs.getD j zPr)) := HI.out j (by omega)
          clear HNo HNew HOld HI l1 l2 l3 l4 l5 hx
          generalize rs.getD j zPr = q at *
          obtain ⟨q0, q1, q2, q3, q4, q5⟩ := q
          have HQ : Hid (∀ W, Below (wr.alloc (Obj.cells #[.string r0, .string r1, .int .i64 r2, .int .i64 r3, .int .i64 r4, .int .i64 r5] 36)).heap.size (wr.alloc (Obj.cells #[.string r0, .string r1, .int .i64 r2, .int .i64 r3, .int .i64 r4, .int .i64 r5] 36)) W → PrAt W b0 (o0 + j * 6) ⟨q0, q1, q2, q3, q4, q5⟩) := fun W hW => HJ.out.below (chain (below_alloc _ _) hW) hl0
          have HA := ordR_ahead ⟨r0, r1, r2, r3, r4, r5⟩ ⟨q0, q1, q2, q3, q4, q5⟩
          have HT : Hid (∀ W, Below (wr.alloc (Obj.cells #[.string r0, .string r1, .int .i64 r2, .int .i64 r3, .int .i64 r4, .int .i64 r5] 36)).heap.size (wr.alloc (Obj.cells #[.string r0, .string r1, .int .i64 r2, .int .i64 r3, .int .i64 r4, .int .i64 r5] 36)) W → Calls Try.prog 48 #[.agg #[.string r0, .string r1, .int .i64 r2, .int .i64 r3, .int .i64 r4, .int .i64 r5], .agg #[.string q0, .string q1, .int .i64 q2, .int .i64 q3, .int .i64 q4, .int .i64 q5], .pointer (some ⟨s, 0, none⟩)] W fun e w' => e = .returned (.int .i64 (ordR ⟨r0, r1, r2, r3, r4, r5⟩ ⟨q0, q1, q2, q3, q4, q5⟩)) ∧ Below W.heap.size W w') := fun W hW => HT0.out W hW q0 q1 q2 q3 q4 q5
          clear HT0 HJ
          generalize ordR ⟨r0, r1, r2, r3, r4, r5⟩ ⟨q0, q1, q2, q3, q4, q5⟩ = y at *
          generalize prAhead ⟨r0, r1, r2, r3, r4, r5⟩ ⟨q0, q1, q2, q3, q4, q5⟩ = ab at *
          go_wp2
          refine wp_region_held_drew (S := fun W => Below (wr.alloc (Obj.cells #[.string r0, .string r1, .int .i64 r2, .int .i64 r3, .int .i64 r4, .int .i64 r5] 36)).heap.size (wr.alloc (Obj.cells #[.string r0, .string r1, .int .i64 r2, .int .i64 r3, .int .i64 r4, .int .i64 r5] 36)) W) (by kernel_rfl) (below_drew _) (fun hH => ?_)
          refine wpAnyH_take (i := 0) (v := .func (.func 37) #[] #[.pointer (some ⟨bA, 0, none⟩), .pointer (some ⟨bZ, 0, none⟩)]) rfl (by kernel_rfl) (by kernel_rfl) (by kernel_rfl) (fun _ _ _ h => h) (Or.inl ⟨by rfl, fun w hSw => by obtain ⟨s0, s1, s2, s3, s4, s5, t1, t2, t3⟩ := HS.out w hSw; go_simp⟩) hH ?_
          try simp only [Act.put, List.setIfInBounds_toArray, List.set_cons_zero, List.set_cons_succ, List.getElem_toArray, List.getElem_cons_zero]
          refine wpAnyH_take (i := 1) (v := .agg #[.string r0, .string r1, .int .i64 r2, .int .i64 r3, .int .i64 r4, .int .i64 r5]) rfl (by kernel_rfl) (by kernel_rfl) (by kernel_rfl) (fun _ _ _ h => h) (Or.inl ⟨by rfl, fun w hSw => by obtain ⟨s0, s1, s2, s3, s4, s5, t1, t2, t3⟩ := HS.out w hSw; go_simp⟩) hH ?_
          try simp only [Act.put, List.setIfInBounds_toArray, List.set_cons_zero, List.set_cons_succ, List.getElem_toArray, List.getElem_cons_succ, List.getElem_cons_zero]
          refine wpAnyH_take (i := 2) (v := .int .i64 m) rfl (by kernel_rfl) (by kernel_rfl) (by kernel_rfl) (fun _ _ _ h => h) (Or.inl ⟨by rfl, fun w hSw => by go_simp⟩) hH ?_
          try simp only [Act.put, List.setIfInBounds_toArray, List.set_cons_zero, List.set_cons_succ, List.getElem_toArray, List.getElem_cons_succ, List.getElem_cons_zero]
          refine wpAnyH_ready (rs := [3]) (by kernel_rfl) (by simp) ?_
          refine AllReadyH.cons rfl (fun K hK => ?_) AllReadyH.nil
          go_simp
          go_at_call 37
          refine (HH.out _ hH).mono ?_
          rintro e w2 ⟨rfl, hb2⟩
          have hw2 := chain hH hb2
          refine hK.out _ _ hw2 (fun _ => ?_)
          clear hK K
          try simp only [Act.put, List.setIfInBounds_toArray, List.set_cons_zero, List.set_cons_succ, List.getElem_toArray, List.getElem_cons_succ, List.getElem_cons_zero]
          refine wpAnyH_take (i := 4) (v := .bool true) rfl (by kernel_rfl) (by kernel_rfl) (by kernel_rfl) (fun _ _ _ h => h) (Or.inl ⟨by rfl, fun w hSw => by go_simp⟩) hw2 ?_
          try simp only [Act.put, List.setIfInBounds_toArray, List.set_cons_zero, List.set_cons_succ, List.getElem_toArray, List.getElem_cons_succ, List.getElem_cons_zero]
          refine wpAnyH_take (i := 5) (v := .int .i64 (j : Int)) rfl (by kernel_rfl) (by kernel_rfl) (by kernel_rfl) (fun _ _ _ h => h) (Or.inl ⟨by rfl, fun w hSw => by go_simp⟩) hw2 ?_
          try simp only [Act.put, List.setIfInBounds_toArray, List.set_cons_zero, List.set_cons_succ, List.getElem_toArray, List.getElem_cons_succ, List.getElem_cons_zero]
          refine wpAnyH_take (i := 6) (v := .bool false) rfl (by kernel_rfl) (by kernel_rfl) (by kernel_rfl) (fun _ _ _ h => h) (Or.inl ⟨by rfl, fun w hSw => by go_simp⟩) hw2 ?_
          try simp only [Act.put, List.setIfInBounds_toArray, List.set_cons_zero, List.set_cons_succ, List.getElem_toArray, List.getElem_cons_succ, List.getElem_cons_zero]
          refine wpAnyH_take (i := 7) (v := .bool false) rfl (by kernel_rfl) (by kernel_rfl) (by kernel_rfl) (fun _ _ _ h => h) (Or.inl ⟨by rfl, fun w hSw => by go_simp⟩) hw2 ?_
          try simp only [Act.put, List.setIfInBounds_toArray, List.set_cons_zero, List.set_cons_succ, List.getElem_toArray, List.getElem_cons_succ, List.getElem_cons_zero]
          refine wpAnyH_take (i := 8) (v := .func (.func 48) #[] #[.pointer (some ⟨s, 0, none⟩)]) rfl (by kernel_rfl) (by kernel_rfl) (by kernel_rfl) (fun _ _ _ h => h) (Or.inl ⟨by rfl, fun w hSw => by obtain ⟨s0, s1, s2, s3, s4, s5, t1, t2, t3⟩ := HS.out w hSw; go_simp⟩) hw2 ?_
          try simp only [Act.put, List.setIfInBounds_toArray, List.set_cons_zero, List.set_cons_succ, List.getElem_toArray, List.getElem_cons_succ, List.getElem_cons_zero]
          refine wpAnyH_take (i := 9) (v := .agg #[.string r0, .string r1, .int .i64 r2, .int .i64 r3, .int .i64 r4, .int .i64 r5]) rfl (by kernel_rfl) (by kernel_rfl) (by kernel_rfl) (fun _ _ _ h => h) (Or.inl ⟨by rfl, fun w hSw => by obtain ⟨s0, s1, s2, s3, s4, s5, t1, t2, t3⟩ := HS.out w hSw; go_simp⟩) hw2 ?_
          try simp only [Act.put, List.setIfInBounds_toArray, List.set_cons_zero, List.set_cons_succ, List.getElem_toArray, List.getElem_cons_succ, List.getElem_cons_zero]
          refine wpAnyH_take (i := 10) (v := .slice (some ⟨b0, o0, none⟩) rs.length cap) rfl (by kernel_rfl) (by kernel_rfl) (by kernel_rfl) (fun _ _ _ h => h) (Or.inl ⟨by rfl, fun w hSw => by obtain ⟨s0, s1, s2, s3, s4, s5, t1, t2, t3⟩ := HS.out w hSw; go_simp⟩) hw2 ?_
          try simp only [Act.put, List.setIfInBounds_toArray, List.set_cons_zero, List.set_cons_succ, List.getElem_toArray, List.getElem_cons_succ, List.getElem_cons_zero]
          refine wpAnyH_take (i := 11) (v := .int .i64 (j : Int)) rfl (by kernel_rfl) (by kernel_rfl) (by kernel_rfl) (fun _ _ _ h => h) (Or.inl ⟨by rfl, fun w hSw => by go_simp⟩) hw2 ?_
          try simp only [Act.put, List.setIfInBounds_toArray, List.set_cons_zero, List.set_cons_succ, List.getElem_toArray, List.getElem_cons_succ, List.getElem_cons_zero]
          refine wpAnyH_take (i := 12) (v := .pointer (some ⟨b0, o0 + j * 6, none⟩)) rfl (by kernel_rfl) (by kernel_rfl) (by kernel_rfl) (fun _ _ _ h => h) (Or.inl ⟨by rfl, fun w hSw => by go_simp⟩) hw2 ?_
          try simp only [Act.put, List.setIfInBounds_toArray, List.set_cons_zero, List.set_cons_succ, List.getElem_toArray, List.getElem_cons_succ, List.getElem_cons_zero]
          refine wpAnyH_take (i := 13) (v := .agg #[.string q0, .string q1, .int .i64 q2, .int .i64 q3, .int .i64 q4, .int .i64 q5]) rfl (by kernel_rfl) (by kernel_rfl) (by kernel_rfl) (fun _ _ _ h => h) (Or.inl ⟨by rfl, fun w hSw => by obtain ⟨s0, s1, s2, s3, s4, s5⟩ := HQ.out w hSw; dsimp only at s0 s1 s2 s3 s4 s5; go_simp⟩) hw2 ?_
          try simp only [Act.put, List.setIfInBounds_toArray, List.set_cons_zero, List.set_cons_succ, List.getElem_toArray, List.getElem_cons_succ, List.getElem_cons_zero]
          refine wpAnyH_ready (rs := [14]) (by kernel_rfl) (by simp) ?_
          refine AllReadyH.cons rfl (fun K hK => ?_) AllReadyH.nil
          go_simp
          go_at_call 48
          refine (HT.out _ hw2).mono ?_
          rintro e w3 ⟨rfl, hb3⟩
          have hw3 := chain hw2 hb3
          refine hK.out _ _ hw3 (fun _ => ?_)
          clear hK K
          try simp only [Act.put, List.setIfInBounds_toArray, List.set_cons_zero, List.set_cons_succ, List.getElem_toArray, List.getElem_cons_succ, List.getElem_cons_zero]
          refine wpAnyH_take (i := 15) (v := .bool ab) rfl (by kernel_rfl) (by kernel_rfl) (by kernel_rfl) (fun _ _ _ h => h) (Or.inl ⟨by rfl, fun w hSw => by go_simp⟩) hw3 ?_
          try simp only [Act.put, List.setIfInBounds_toArray, List.set_cons_zero, List.set_cons_succ, List.getElem_toArray, List.getElem_cons_succ, List.getElem_cons_zero]
          refine wpAnyH_take (i := 16) (v := .bool ab) rfl (by kernel_rfl) (by kernel_rfl) (by kernel_rfl) (fun _ _ _ h => h) (Or.inl ⟨by rfl, fun w hSw => by go_simp⟩) hw3 ?_
          try simp only [Act.put, List.setIfInBounds_toArray, List.set_cons_zero, List.set_cons_succ, List.getElem_toArray, List.getElem_cons_succ, List.getElem_cons_zero]
          refine wpAnyH_take (i := 17) (v := .bool ab) rfl (by kernel_rfl) (by kernel_rfl) (by kernel_rfl) (fun _ _ _ h => h) (Or.inl ⟨by rfl, fun w hSw => by go_simp⟩) hw3 ?_
          try simp only [Act.put, List.setIfInBounds_toArray, List.set_cons_zero, List.set_cons_succ, List.getElem_toArray, List.getElem_cons_succ, List.getElem_cons_zero]
          refine wpAnyH_done (by kernel_rfl) ?_ _
          try simp [Act.put]
          have HB2 : Hid (Below w.heap.size w w3) := chain HB.out (chain (below_alloc _ _) hw3)
          clear HS HH HT HQ hH hb2 hw2 hb3 hw3 HA
          cases ab
          all_goals
            go_wp2
            first
            | exact ⟨⟨k + 1, by omega, by go_num, by rw [HX.out]; simp, HB2.out⟩, by simp [intOf]; omega⟩
            | (go_roundw
               case rel => exact ⟨k + 1, by omega, by go_num, by rw [HX.out]; simp, HB2.out⟩
               case measure => simp [intOf]; omega)
    · obtain rfl : k = rs.length := by omega
      go_wp2
      go_ret
      exact ⟨rfl, HB.out⟩
end Go.Proofs.Ytgfgecpgfcipnaa

/-
  Contract of the program's Seasons, for all arguments.
-/
import Derived.Test.YtjdjopikljdigaaQnE
namespace Go.Proofs.Ytjdjopikljdigaa
open Go.ChangeShapes Go.WideShapes Go.ChangeAt Go.RowKit Go.Joins Go.Deep Go.Shelf
set_option linter.unusedVariables false
attribute [local go_sem] Oper.semAt_some

set_option maxRecDepth 8000 in
set_option maxHeartbeats 8000000 in
/-- Where sales and phases are right, there are enough of them, and all are 0. -/
theorem implSeasons_zero (a : Option Addr) (cap : Nat) (xs : List Int) (n : Nat) (hl : xs.length ≤ 4096) (hb : seB xs (n : Int) = true) (hnl : n ≤ xs.length) (hz : smP xs 1 0 xs.length = 0) (w : World) (hr : Reads w.heap.size w a xs) :
    Calls Try.prog 13 #[.slice a xs.length cap, .int .i64 (n : Int)] w (AnsR w [] 10) := by
  obtain ⟨hal, hn1, hn2⟩ := se_right hb
  have hx : ∀ i, 0 ≤ xs.getD i 0 ∧ xs.getD i 0 ≤ 100000 := fun i => al_getD hal (by omega) i
  have HS : Hid (∀ W, Below w.heap.size w W → Calls Try.prog 32 #[.slice a xs.length cap] W fun e w' => e = .returned (.bool (alB 0 100000 xs)) ∧ Below W.heap.size W w') := fun W hb => salesOK_any a cap xs (by omega) W ((hr.below hb).mono hb.size)
  have HP : Hid (∀ W, Calls Try.prog 35 #[.agg #[.int .i64 1, .int .i64 60], .int .i64 (n : Int)] W fun e w' => e = .returned (.bool (inB (n : Int) 1 60)) ∧ Below W.heap.size W w') := fun W => qSpan_any 1 60 _ W
  rw [hal] at HS
  rw [show inB (n : Int) 1 60 = true from decide_eq_true ⟨hn1, hn2⟩] at HP
  rcases hr with h | ⟨b, off, rfl, hbw, hi⟩
  · rw [h] at hnl; simp at hnl; omega
  have HC : Hid (∀ W, Below w.heap.size w W → ∀ j, j < xs.length → W.cell? ⟨b, off + j, none⟩ = some (.int .i64 (xs.getD j 0))) := fun W hW j hj => (hW.cell (p := ⟨b, off + j, none⟩) hbw).trans (hi j hj)
  have HM : Hid (∀ W, Below w.heap.size w W → ∀ w1, w1 = ((W.alloc (Obj.cells #[.slice (some ⟨b, off, none⟩) xs.length cap] 23)).alloc (Obj.cells #[.int .i64 0] 3)).alloc (Obj.cells #[.int .i64 1] 3) → Calls Try.prog 36 #[.func (.func 54) #[] #[.pointer (some ⟨W.heap.size + 1, 0, none⟩), .pointer (some ⟨W.heap.size, 0, none⟩), .pointer (some ⟨W.heap.size + 1 + 1, 0, none⟩)]] w1 fun e w' => e = .returned (.agg #[.int .i64 (smP xs 1 0 xs.length), .int .i64 (xs.length : Int)]) ∧ Below W.heap.size W w') := fun W hW w1 hw1 => by
    have := mean_any b off cap xs 1 0 (by omega) (by omega) hl (by omega) hx W (by have := hW.size; omega) (HC.out W hW) w1 hw1
    have e : (seM xs 1 0).2 = (xs.length : Int) := ctP_one xs.length
    rw [e] at this
    exact this
  have hl' : ¬ (4096 : Int) < (xs.length : Int) := by omega
  have hnl' : ¬ (xs.length : Int) < (n : Int) := by omega
  clear hi hal hb
  rw [hz] at HM
  clear hz
  go_enter Try.func13, Try.ntmps13
  go_wp2_with fail
  (first | go_at_call 32 | skip)
  refine (HS.out _ (below_alloc _ _)).mono ?_
  rintro e w1 ⟨rfl, hb1⟩
  have hq := hb1.block w.heap.size (by simp)
  rw [heapNew] at hq
  have q0 := blkCell hq 0 _ rfl
  have q1 := blkCell hq 1 _ rfl
  simp only [List.getElem_toArray, List.getElem_cons_zero, List.getElem_cons_succ] at q0 q1
  have HB1 : Hid (Below w.heap.size w w1) := chain (below_alloc _ _) hb1
  clear hq hb1 HS
  go_wp2_with fail
  (first | go_at_call 35 | skip)
  refine (HP.out _).mono ?_
  rintro e w2 ⟨rfl, hb2⟩
  have HB2 : Hid (Below w.heap.size w w2) := chain HB1.out hb2
  clear hb2 HB1 q0 q1 HP
  go_wp2_with fail
  (first | go_at_call 37 | skip)
  refine (season_any _ _ _ _ _ _).mono ?_
  rintro e w3 ⟨rfl, hw3⟩
  have HM1 := HM.out w2 HB2.out w3 hw3
  clear hw3 HM
  go_wp2_with fail
  (first | go_at_call 36 | skip)
  refine (HM1).mono ?_
  rintro e w4 ⟨rfl, hb4⟩
  have HB4 : Hid (Below w.heap.size w w4) := chain HB2.out hb4
  clear hb4 HM1 HB2
  go_wp2
  go_ret2
  exact AnsR.nil (chain HB4.out (below_alloc _ _))
theorem implSeasons_bad (a : Option Addr) (cap : Nat) (xs : List Int) (n : Int) (hl : xs.length ≤ 100000000) (w : World) (hr : Reads w.heap.size w a xs) (h : 4096 < xs.length ∨ seB xs n = false ∨ (xs.length : Int) < n) :
    Calls Try.prog 13 #[.slice a xs.length cap, .int .i64 n] w (AnsR w [] (seC xs n)) := by
  have HS : Hid (∀ W, Below w.heap.size w W → Calls Try.prog 32 #[.slice a xs.length cap] W fun e w' => e = .returned (.bool (alB 0 100000 xs)) ∧ Below W.heap.size W w') := fun W hb => salesOK_any a cap xs (by omega) W ((hr.below hb).mono hb.size)
  have HP : Hid (∀ W, Calls Try.prog 35 #[.agg #[.int .i64 1, .int .i64 60], .int .i64 n] W fun e w' => e = .returned (.bool (inB n 1 60)) ∧ Below W.heap.size W w') := fun W => qSpan_any 1 60 _ W
  have HE : Hid (seC xs n = if 4096 < xs.length then 2 else if (alB 0 100000 xs && inB n 1 60) = true then (if (xs.length : Int) < n then 19 else if smP xs 1 0 xs.length = 0 then 10 else 0) else 1) := rfl
  have HH : Hid (4096 < xs.length ∨ (alB 0 100000 xs && inB n 1 60) = false ∨ (xs.length : Int) < n) := h
  clear hr h
  generalize seC xs n = c at *
  by_cases h1 : 4096 < xs.length
  · rw [if_pos h1] at HE
    obtain rfl : c = 2 := HE.out
    have h1' : (4096 : Int) < (xs.length : Int) := by omega
    clear HE HH
    go_enter Try.func13, Try.ntmps13
    go_wp2
    go_ret2
    exact AnsR.nil (Below.refl _ _)
  have h1' : ¬ (4096 : Int) < (xs.length : Int) := by omega
  rw [if_neg h1] at HE
  generalize alB 0 100000 xs = b1 at *
  generalize inB n 1 60 = b2 at *
  cases b1
  · obtain rfl : c = 1 := HE.out
    clear HE HH
    go_enter Try.func13, Try.ntmps13
    go_wp2_with (go_at_call 32; refine (HS.out _ (below_alloc _ _)).mono ?_; rintro e w1 ⟨rfl, hb1⟩)
    go_ret2
    exact AnsR.nil (chain (below_alloc _ _) hb1)
  · rw [Bool.true_and] at HE HH
    go_enter Try.func13, Try.ntmps13
    go_wp2_with fail
    (first | go_at_call 32 | skip)
    refine (HS.out _ (below_alloc _ _)).mono ?_
    rintro e w1 ⟨rfl, hb1⟩
    have hq := hb1.block w.heap.size (by simp)
    rw [heapNew] at hq
    have q0 := blkCell hq 0 _ rfl
    have q1 := blkCell hq 1 _ rfl
    simp only [List.getElem_toArray, List.getElem_cons_zero, List.getElem_cons_succ] at q0 q1
    have HB1 : Hid (Below w.heap.size w w1) := chain (below_alloc _ _) hb1
    clear hq hb1 HS
    cases b2
    · obtain rfl : c = 1 := HE.out
      clear HE HH
      go_wp2_with (go_at_call 35; refine (HP.out _).mono ?_; rintro e w2 ⟨rfl, hb2⟩)
      go_ret2
      exact AnsR.nil (chain HB1.out hb2)
    · have hs : (xs.length : Int) < n := by
        rcases HH.out with h | h | h
        · exact absurd h h1
        · cases h
        · exact h
      rw [if_pos rfl, if_pos hs] at HE
      obtain rfl : c = 19 := HE.out
      clear HE HH
      go_wp2_with (go_at_call 35; refine (HP.out _).mono ?_; rintro e w2 ⟨rfl, hb2⟩)
      go_ret2
      exact AnsR.nil (chain HB1.out hb2)
set_option maxRecDepth 100000 in
set_option maxHeartbeats 16000000 in
/-- Where sales and phases are right, there are enough of them, and not all are 0. -/
theorem implSeasons_right (a : Option Addr) (cap : Nat) (xs : List Int) (n : Nat) (hl : xs.length ≤ 4096) (hb : seB xs (n : Int) = true) (hnl : n ≤ xs.length) (hz : smP xs 1 0 xs.length ≠ 0) (w : World) (hr : Reads w.heap.size w a xs) :
    Calls Try.prog 13 #[.slice a xs.length cap, .int .i64 (n : Int)] w (AnsR w (seRs xs n n) 0) := by
  obtain ⟨hal, hn1, hn2⟩ := se_right hb
  have hx : ∀ i, 0 ≤ xs.getD i 0 ∧ xs.getD i 0 ≤ 100000 := fun i => al_getD hal (by omega) i
  have HS : Hid (∀ W, Below w.heap.size w W → Calls Try.prog 32 #[.slice a xs.length cap] W fun e w' => e = .returned (.bool (alB 0 100000 xs)) ∧ Below W.heap.size W w') := fun W hb => salesOK_any a cap xs (by omega) W ((hr.below hb).mono hb.size)
  have HP : Hid (∀ W, Calls Try.prog 35 #[.agg #[.int .i64 1, .int .i64 60], .int .i64 (n : Int)] W fun e w' => e = .returned (.bool (inB (n : Int) 1 60)) ∧ Below W.heap.size W w') := fun W => qSpan_any 1 60 _ W
  rw [hal] at HS
  rw [show inB (n : Int) 1 60 = true from decide_eq_true ⟨hn1, hn2⟩] at HP
  rcases hr with h | ⟨b, off, rfl, hbw, hi⟩
  · rw [h] at hnl; simp at hnl; omega
  have HC : Hid (∀ W, Below w.heap.size w W → ∀ j, j < xs.length → W.cell? ⟨b, off + j, none⟩ = some (.int .i64 (xs.getD j 0))) := fun W hW j hj => (hW.cell (p := ⟨b, off + j, none⟩) hbw).trans (hi j hj)
  have HM : Hid (∀ W, Below w.heap.size w W → ∀ w1, w1 = ((W.alloc (Obj.cells #[.slice (some ⟨b, off, none⟩) xs.length cap] 23)).alloc (Obj.cells #[.int .i64 0] 3)).alloc (Obj.cells #[.int .i64 1] 3) → Calls Try.prog 36 #[.func (.func 54) #[] #[.pointer (some ⟨W.heap.size + 1, 0, none⟩), .pointer (some ⟨W.heap.size, 0, none⟩), .pointer (some ⟨W.heap.size + 1 + 1, 0, none⟩)]] w1 fun e w' => e = .returned (.agg #[.int .i64 (smP xs 1 0 xs.length), .int .i64 (xs.length : Int)]) ∧ Below W.heap.size W w') := fun W hW w1 hw1 => by
    have := mean_any b off cap xs 1 0 (by omega) (by omega) hl (by omega) hx W (by have := hW.size; omega) (HC.out W hW) w1 hw1
    have e : (seM xs 1 0).2 = (xs.length : Int) := ctP_one xs.length
    rw [e] at this
    exact this
  have hl' : ¬ (4096 : Int) < (xs.length : Int) := by omega
  have hnl' : ¬ (xs.length : Int) < (n : Int) := by omega
  clear hi hal hb
  have hsb := smP_bound (n := 1) (k := 0) hx xs.length
  have HLow : Hid ((seMs xs n n).map (lowB (smP xs 1 0 xs.length) (xs.length : Int)) = seRs xs n n) := lowB_seMs hnl hl hx n (Nat.le_refl _)
  obtain ⟨s, hs⟩ : ∃ s, s = smP xs 1 0 xs.length := ⟨_, rfl⟩
  rw [← hs] at HM hz hsb HLow
  clear hs
  obtain ⟨R, hR⟩ : ∃ R, R = seRs xs n n := ⟨_, rfl⟩
  rw [← hR] at HLow ⊢
  clear hR
  have hz' : (s == 0) = false := by simp [hz]
  have hmk := fun w => run_makeRa n (by omega) w
  refine (callsIn_wide (n := 12)).1 ?_
  refine callsIn_of_wp_marks Try.func13 rfl trivial ?_ rfl
  simp only [Try.ntmps13, List.size_toArray, List.length_cons, List.length_nil, Nat.reduceAdd, Nat.reduceSub, Array.replicate_succ, Array.replicate_zero, List.push_toArray, List.append_toArray, List.nil_append, List.cons_append]
  gi_wp2_with fail
  refine ⟨trivial, (callsIn_wide.2 (HS.out _ (below_alloc _ _))).mono ?_⟩
  rintro e w1 ⟨rfl, hb1⟩
  have hq := hb1.block w.heap.size (by simp)
  rw [heapNew] at hq
  have q0 := blkCell hq 0 _ rfl
  have q1 := blkCell hq 1 _ rfl
  simp only [List.getElem_toArray, List.getElem_cons_zero, List.getElem_cons_succ] at q0 q1
  have HB1 : Hid (Below w.heap.size w w1) := chain (below_alloc _ _) hb1
  clear hq hb1 HS
  gi_wp2_with fail
  refine ⟨trivial, (callsIn_wide.2 (HP.out _)).mono ?_⟩
  rintro e w2 ⟨rfl, hb2⟩
  have HB2 : Hid (Below w.heap.size w w2) := chain HB1.out hb2
  clear hb2 HB1 q0 q1 HP
  gi_wp2_with fail
  refine ⟨trivial, (callsIn_wide.2 (season_any _ _ _ _ _ _)).mono ?_⟩
  rintro e w3 ⟨rfl, hw3⟩
  have HM1 := HM.out w2 HB2.out w3 hw3
  clear hw3 HM
  gi_wp2_with fail
  refine ⟨trivial, (callsIn_wide.2 (HM1)).mono ?_⟩
  rintro e w4 ⟨rfl, hb4⟩
  have HB4 : Hid (Below w.heap.size w w4) := chain HB2.out hb4
  clear hb4 HM1 HB2
  gi_wp2_with fail
  have h7 : (w4.alloc (Obj.cells #[.int .i64 s, .int .i64 (xs.length : Int)] 36)).heap[w4.heap.size]? = some (.cells #[.int .i64 s, .int .i64 (xs.length : Int)] 36 (0, 0)) := heapNew _ _
  have hI0 := SeI.start (w := w) (n := n) (by omega) h7 (chain HB4.out (below_alloc _ _)) (.slice (some ⟨w4.heap.size + 1, 0, none⟩) 0 n) (by simp)
  rw [World.size_alloc] at hI0
  refine ⟨trivial, (callsIn_wide.2 (seasonMeans_any _ _ _ _ _)).mono ?_⟩
  rintro e w5 ⟨rfl, hw5⟩
  obtain ⟨w6, hw6⟩ : ∃ w6, w6 = ((w4.alloc (Obj.cells #[.int .i64 s, .int .i64 (xs.length : Int)] 36)).alloc (Obj.cells (madeCells #[.int .i64 0, .int .i64 0] (n * 2)) 36)).alloc (Obj.cells #[.slice (some ⟨w4.heap.size + 1, 0, none⟩) 0 n] 31) := ⟨_, rfl⟩
  have hz6 : w6.heap.size = w4.heap.size + 1 + 1 + 1 := by rw [hw6]; simp
  rw [← hw6] at hI0 hw5 ⊢
  clear hw6 h7 hmk
  rw [hz6]
  have hz5 : w5.heap.size = w4.heap.size + 1 + 1 + 1 + 1 + 1 := by rw [hw5]; simp [hz6]
  have qn : w5.heap[w4.heap.size + 1 + 1 + 1 + 1]? = some (.cells #[.int .i64 (n : Int)] 3 (0, 0)) := by
    rw [hw5]
    have := heapNew (w6.alloc (Obj.cells #[.slice (some ⟨b, off, none⟩) xs.length cap] 23)) (Obj.cells #[.int .i64 (n : Int)] 3)
    rwa [World.size_alloc, hz6] at this
  have ql : w5.heap[w4.heap.size + 1 + 1 + 1]? = some (.cells #[.slice (some ⟨b, off, none⟩) xs.length cap] 23 (0, 0)) := by
    rw [hw5, Below.heap_alloc _ _ _ (by simp [hz6])]
    have := heapNew w6 (Obj.cells #[.slice (some ⟨b, off, none⟩) xs.length cap] 23)
    rwa [hz6] at this
  have hI5 : SeI w w4.heap.size (w4.heap.size + 1 + 1) s (xs.length : Int) [] w5 := hI0.kept (B := 0 + w.heap.size) (by omega) (grown_below (by rw [hw5]; exact chain (below_alloc _ _) (below_alloc _ _))) (fun r e => by cases e)
  clear hw5 hI0 hz6
  gi_wp2_with fail
  have hDw : w.heap.size ≤ w4.heap.size := HB4.out.size
  clear HB4
  generalize w4.heap.size = D at *
  generalize w2.heap.size = E at *
  refine wpIn_rangeFunc_ownH rfl (by decide) (gf := 55) (lb := #[.pointer (some ⟨D + 1 + 1 + 1 + 1, 0, none⟩), .pointer (some ⟨D + 1 + 1 + 1, 0, none⟩)]) rfl trivial (enters_of Try.func55 (by kernel_rfl) rfl)
    (means1_stops (12 - 1) (D + 1 + 1 + 1 + 1) (D + 1 + 1 + 1) w.heap.size b off cap xs n (by omega) (by omega) hl hnl hx hbw w5 (by omega) qn ql (HC.out w5 hI5.bel)) (fun h k => h.trans k) (Kp3.put (by omega) (by omega) (by omega) (by omega)) (Below.refl _ _) (fun _ => rfl)
    (fun pre W => SeI w D (D + 1 + 1) s (xs.length : Int) (pre.map (lowB s (xs.length : Int))) W ∧ W.heap[D + 1 + 1 + 1 + 1]? = some (.cells #[.int .i64 (n : Int)] 3 (0, 0)) ∧ W.heap[D + 1 + 1 + 1]? = some (.cells #[.slice (some ⟨b, off, none⟩) xs.length cap] 23 (0, 0)))
    (fun _ _ _ => False)
    (fun pre A B row hs hg hr => ⟨hs.1.kept (B := w5.heap.size) (by omega) hg hr, blk_kept hs.2.1 hg (fun r e => (hr r e).2), blk_kept hs.2.2 hg (fun r e => (hr r e).2)⟩)
    (fun _ _ _ _ _ hs _ _ => hs)
    ⟨hI5, qn, ql⟩
    (fun x a' W => ∃ Bx, (D + 1 + 1 < Bx ∧ ∃ v, W.heap[D + 1 + 1]? = some (.cells #[v] 31 (0, 0)) ∧ Value.ownBlock v ≠ some Bx) ∧ W.heap[Bx]? = some (.cells #[.int .i64 x.1.1, .int .i64 x.1.2] 36 (0, 0)) ∧ a' = { tmps := #[.slice (some ⟨b, off, none⟩) xs.length cap, .int .i64 (n : Int), undef, undef, .slice none 0 0, .int .i64 0, .pointer (some ⟨w.heap.size, 0, none⟩), .pointer (some ⟨D, 0, none⟩), .pointer (some ⟨D + 1 + 1, 0, none⟩), .pointer (some ⟨Bx, 0, none⟩), .slice (some ⟨b, off, none⟩) xs.length cap, .int .i64 (xs.length : Int), .bool false, .agg #[.int .i64 1, .int .i64 60], .slice (some ⟨b, off, none⟩) xs.length cap, .bool true, .bool false, .bool false, .agg #[.int .i64 1, .int .i64 60], .int .i64 (n : Int), .bool true, .bool false, .bool false, .slice (some ⟨b, off, none⟩) xs.length cap, .int .i64 (xs.length : Int), .int .i64 (n : Int), .bool false, .slice (some ⟨b, off, none⟩) xs.length cap, .func (.func 54) #[] #[.pointer (some ⟨E + 1, 0, none⟩), .pointer (some ⟨E, 0, none⟩), .pointer (some ⟨E + 1 + 1, 0, none⟩)], .agg #[.int .i64 s, .int .i64 (xs.length : Int)], .pointer (some ⟨D, 0, none⟩), .int .i64 s, .bool false, .int .i64 (n : Int), .slice (some ⟨D + 1, 0, none⟩) 0 n, .slice (some ⟨b, off, none⟩) xs.length cap, .int .i64 (n : Int), .func (.func 55) #[] #[.pointer (some ⟨D + 1 + 1 + 1 + 1, 0, none⟩), .pointer (some ⟨D + 1 + 1 + 1, 0, none⟩)], .agg #[.int .i64 x.1.1, .int .i64 x.1.2], undef, undef, undef, undef, undef, undef, undef], defers := [] })
    (fun x a' _ A B row hs hg hr => by
      obtain ⟨Bx, ⟨k1, v, k2, k3⟩, k4, k5⟩ := hs
      exact ⟨Bx, ⟨k1, v, blk_kept k2 hg (fun r e => (hr r e).2), k3⟩, blk_kept k4 hg (fun r e => (hr r e).2), k5⟩)
    ?assign ?body ?done ?stop
  case assign =>
    rintro l pre x W K ⟨hI, hn5, hl5⟩ hK
    obtain ⟨g, cp, g8, grow, gne⟩ := hI.box
    gi_wp2
    refine hK _ _ ((KeepsOthers.alloc _ _).from _) ⟨(Below.refl _ W).alloc hI.bel.size _, Below.heap_alloc _ _ _ (blkLt hn5), Below.heap_alloc _ _ _ (blkLt hl5), Below.heap_alloc _ _ _ (blkLt hl5)⟩ ⟨hI.kept (B := w5.heap.size) (by omega) (World.grownBy_alloc W _ none) (fun r e => by cases e), (Below.heap_alloc _ _ _ (blkLt hn5)).trans hn5, (Below.heap_alloc _ _ _ (blkLt hl5)).trans hl5⟩ ⟨W.heap.size, ⟨blkLt g8, _, (Below.heap_alloc _ _ _ (blkLt g8)).trans g8, fun e => by have := (row_lt grow _ e).2; omega⟩, heapNew _ _, rfl⟩
  case body =>
    rintro l pre x a' W hl0 ⟨r, hr⟩ ⟨hI, hn5, hl5⟩ ⟨Bx, ⟨hBx, v, hv, hvx⟩, hbx, rfl⟩ hlt
    obtain ⟨g, cp, g8, grow, gne⟩ := hI.box
    obtain rfl : v = .slice g (pre.map (lowB s (xs.length : Int))).length cp := by
      rw [g8] at hv
      simp at hv
      simpa using hv.symm
    obtain ⟨⟨x1, x2⟩, hxx⟩ := x
    have hp : (0 ≤ x1 ∧ x1 ≤ 500000000) ∧ 1 ≤ x2 ∧ x2 ≤ 5000 := hxx
    obtain ⟨⟨p1, p2⟩, p3, p4⟩ := hp
    dsimp only at hbx
    have hd : 0 ≤ (xs.length : Int) ∧ (xs.length : Int) ≤ 5000 := by omega
    have hs : 1 ≤ s ∧ s ≤ 500000000 := by omega
    have HBy : Hid (∀ W, Calls Try.prog 39 #[.agg #[.int .i64 x1, .int .i64 x2], .agg #[.int .i64 s, .int .i64 (xs.length : Int)]] W fun e w' => e = .returned (.agg #[.int .i64 (lowT (x1 * (xs.length : Int)) (x2 * s)).1, .int .i64 (lowT (x1 * (xs.length : Int)) (x2 * s)).2]) ∧ Below W.heap.size W w') := fun W => by_any x1 x2 s (xs.length : Int) ⟨p1, p2⟩ ⟨p3, p4⟩ hs hd W
    have HIx : Hid (∀ (L : List (Int × Int)) (W : World), SeI w D (D + 1 + 1) s (xs.length : Int) (L ++ [lowT (x1 * (xs.length : Int)) (x2 * s)]) W → L = pre.map (lowB s (xs.length : Int)) → SeI w D (D + 1 + 1) s (xs.length : Int) ((pre ++ [(⟨(x1, x2), hxx⟩ : MT)]).map (lowB s (xs.length : Int))) W) := fun L W h e => by
      rw [List.map_append, ← e]
      exact h
    have hpl : (pre.map (lowB s (xs.length : Int))).length ≤ 60 := by rw [List.length_map]; omega
    have HI7 : Hid (W.heap[D]? = some (.cells #[.int .i64 s, .int .i64 (xs.length : Int)] 36 (0, 0)) ∧ Below w.heap.size w W) := ⟨hI.all, hI.bel⟩
    obtain ⟨L, hL⟩ : ∃ L, L = pre.map (lowB s (xs.length : Int)) := ⟨_, rfl⟩
    have HL : Hid (L = pre.map (lowB s (xs.length : Int))) := hL
    rw [← hL] at g8 grow gne hvx hpl
    obtain ⟨rr, hrr⟩ : ∃ rr, rr = lowT (x1 * (xs.length : Int)) (x2 * s) := ⟨_, rfl⟩
    rw [← hrr] at HBy HIx
    clear hL hrr hv hI p1 p2 p3 p4 hr hlt hd hs
    obtain ⟨r1, r2⟩ := rr
    dsimp only at HBy
    obtain ⟨i0, hi0, hzz⟩ := Option.map_eq_some_iff.1 raInfo
    simp only [Prod.mk.injEq] at hzz
    obtain ⟨i1, i2, i3⟩ := hzz
    have HQ : Hid (∀ W' : World, (W'.heap[D]? = W.heap[D]? ∧ W'.heap[D + 1 + 1]? = W.heap[D + 1 + 1]? ∧ W'.heap[Bx]? = W.heap[Bx]?) → (W'.cell? ⟨D + 1 + 1, 0, none⟩ = some (.slice g L.length cp) ∧ W'.frozen? ⟨D + 1 + 1, 0, none⟩ = false) ∧ (W'.cell? ⟨Bx, 0, none⟩ = some (.int .i64 x1) ∧ W'.cell? ⟨Bx, 1, none⟩ = some (.int .i64 x2)) ∧ W'.cell? ⟨D, 0, none⟩ = some (.int .i64 s) ∧ W'.cell? ⟨D, 1, none⟩ = some (.int .i64 (xs.length : Int))) := fun W' h => by
      have k7 := h.1.trans HI7.out.1
      have k8 := h.2.1.trans g8
      have kx := h.2.2.trans hbx
      exact ⟨⟨blkCell k8 0 _ rfl, blkFree k8 0⟩, ⟨blkCell kx 0 _ rfl, blkCell kx 1 _ rfl⟩, blkCell k7 0 _ rfl, blkCell k7 1 _ rfl⟩
    have HLt : Hid (D < W.heap.size ∧ D + 1 + 1 < W.heap.size ∧ Bx < W.heap.size) := ⟨blkLt HI7.out.1, blkLt g8, blkLt hbx⟩
    gi_wp2_with fail
    refine wpIn_round_z (S := fun W' => W'.heap[D]? = W.heap[D]? ∧ W'.heap[D + 1 + 1]? = W.heap[D + 1 + 1]? ∧ W'.heap[Bx]? = W.heap[Bx]?) 6 (by kernel_rfl) (by kernel_rfl) (by rintro ⟨_, _, h⟩; exact h) ⟨rfl, rfl, rfl⟩ (fun hH => ?_)
    refine wpAnyZ_take (i := 0) (v := .slice g L.length cp) rfl (by kernel_rfl) (by kernel_rfl) (by kernel_rfl) (by kernel_rfl) (fun _ _ _ h => h) (Or.inl ⟨by rfl, fun w hSw => by have f0 := (HQ.out w hSw).1.1; clear hSw; go_simp⟩) hH ?_
    refine wpAnyZ_take (i := 1) (v := .agg #[.int .i64 x1, .int .i64 x2]) rfl (by kernel_rfl) (by kernel_rfl) (by kernel_rfl) (by kernel_rfl) (fun _ _ _ h => h) (Or.inl ⟨by rfl, fun w hSw => by obtain ⟨f0, f1⟩ := (HQ.out w hSw).2.1; clear hSw; go_simp⟩) hH ?_
    try simp only [Act.put, List.setIfInBounds_toArray, List.set_cons_zero, List.set_cons_succ, List.getElem_toArray, List.getElem_cons_succ, List.getElem_cons_zero]
    refine wpAnyZ_take (i := 2) (v := .agg #[.int .i64 s, .int .i64 (xs.length : Int)]) rfl (by kernel_rfl) (by kernel_rfl) (by kernel_rfl) (by kernel_rfl) (fun _ _ _ h => h) (Or.inl ⟨by rfl, fun w hSw => by obtain ⟨f0, f1⟩ := (HQ.out w hSw).2.2; clear hSw; go_simp⟩) hH ?_
    try simp only [Act.put, List.setIfInBounds_toArray, List.set_cons_zero, List.set_cons_succ, List.getElem_toArray, List.getElem_cons_succ, List.getElem_cons_zero]
    refine wpAnyZ_ready (rs := [3]) (by kernel_rfl) (by simp) ?_
    refine AllReadyZ.cons rfl (fun K hK => ?_) AllReadyZ.nil
    go_simp
    go_at_call 39
    refine (HBy.out _).mono ?_
    rintro e w7 ⟨rfl, hb7⟩
    have hb7' : Below W.heap.size W w7 := chain (below_drew W) hb7
    have h7 : w7.heap[D]? = W.heap[D]? ∧ w7.heap[D + 1 + 1]? = W.heap[D + 1 + 1]? ∧ w7.heap[Bx]? = W.heap[Bx]? := ⟨hb7'.block _ HLt.out.1, hb7'.block _ HLt.out.2.1, hb7'.block _ HLt.out.2.2⟩
    refine hK.out _ _ (Or.inr h7) (fun _ => ?_)
    clear hK K
    try simp only [Act.put, List.setIfInBounds_toArray, List.set_cons_zero, List.set_cons_succ, List.getElem_toArray, List.getElem_cons_succ, List.getElem_cons_zero]
    refine wpAnyZ_ready (rs := [4]) (by kernel_rfl) (by simp) ?_
    refine AllReadyZ.cons rfl (fun K hK => ?_) AllReadyZ.nil
    go_simp
    have hb8 : Below W.heap.size W (w7.alloc (Obj.cells #[.int .i64 r1, .int .i64 r2] 36)) := chain hb7' (below_alloc _ _)
    have h8 : (w7.alloc (Obj.cells #[.int .i64 r1, .int .i64 r2] 36)).heap[D]? = W.heap[D]? ∧ (w7.alloc (Obj.cells #[.int .i64 r1, .int .i64 r2] 36)).heap[D + 1 + 1]? = W.heap[D + 1 + 1]? ∧ (w7.alloc (Obj.cells #[.int .i64 r1, .int .i64 r2] 36)).heap[Bx]? = W.heap[Bx]? := ⟨hb8.block _ HLt.out.1, hb8.block _ HLt.out.2.1, hb8.block _ HLt.out.2.2⟩
    refine hK.out _ _ (Or.inr h8) (fun _ => ?_)
    clear hK K
    try simp only [Act.put, List.setIfInBounds_toArray, List.set_cons_zero, List.set_cons_succ, List.getElem_toArray, List.getElem_cons_succ, List.getElem_cons_zero]
    have hz8 : (w7.alloc (Obj.cells #[.int .i64 r1, .int .i64 r2] 36)).heap.size = w7.heap.size + 1 := by simp
    have hnews : ∀ j u, [Value.int .i64 r1, Value.int .i64 r2][j]? = some u → (w7.alloc (Obj.cells #[.int .i64 r1, .int .i64 r2] 36)).cell? ((⟨w7.heap.size, 0, none⟩ : Addr).add j) = some u := World.news_of_block (heapNew w7 (Obj.cells #[.int .i64 r1, .int .i64 r2] 36))
    obtain ⟨w8, hw8⟩ : ∃ w8, w8 = w7.alloc (Obj.cells #[.int .i64 r1, .int .i64 r2] 36) := ⟨_, rfl⟩
    rw [← hw8] at hb8 h8 hz8 hnews ⊢
    clear hw8 h7 hb7 hb7'
    have hrow8 : w8.ownsRow w.heap.size 36 2 (.slice g L.length cp) L.length (raCells L) := row_of grow (fun q hq => hb8.block q (row_lt grow q hq).2)
    have hbw8 : Below w.heap.size w w8 := chain HI7.out.2 hb8
    refine wpAnyZ_ready (rs := [5]) (by kernel_rfl) (by simp) ?_
    refine AllReadyZ.cons rfl (fun K hK => ?_) AllReadyZ.nil
    refine step_append_lies w8 (by rfl) _ _ 31 (by rfl) w.heap.size 36 i0 (.agg #[.int .i64 0, .int .i64 0]) 2 16 Try.underlying31 hi0 i1 i2 i3 rfl (by decide) (.slice g L.length cp) L.length (raCells L) (by rfl) hrow8 ⟨w7.heap.size, 0, none⟩ 1 1 [.int .i64 r1, .int .i64 r2] (by rfl) (by rfl) hnews (by intro u hu; simp at hu; rcases hu with rfl | rfl <;> rfl) (by omega) (by unfold maxLen; omega) (by omega) hbw8.size _ rfl ?_
    intro g1 cp1 w9 hown9 hgrow9 hat9 hlt9
    have k8 : w8.heap[D + 1 + 1]? = some (.cells #[.slice g L.length cp] 31 (0, 0)) := h8.2.1.trans g8
    have k7 : w8.heap[D]? = some (.cells #[.int .i64 s, .int .i64 (xs.length : Int)] 36 (0, 0)) := h8.1.trans HI7.out.1
    have kx : w8.heap[Bx]? = some (.cells #[.int .i64 x1, .int .i64 x2] 36 (0, 0)) := h8.2.2.trans hbx
    have kn : w8.heap[D + 1 + 1 + 1 + 1]? = some (.cells #[.int .i64 (n : Int)] 3 (0, 0)) := (hb8.block _ (blkLt hn5)).trans hn5
    have kl : w8.heap[D + 1 + 1 + 1]? = some (.cells #[.slice (some ⟨b, off, none⟩) xs.length cap] 23 (0, 0)) := (hb8.block _ (blkLt hl5)).trans hl5
    have n8 : Value.ownBlock (.slice g L.length cp) ≠ some (D + 1 + 1) := fun e => by
      obtain ⟨cur, hc⟩ := row_type hrow8 e
      rw [k8] at hc
      simp at hc
    have nn : Value.ownBlock (.slice g L.length cp) ≠ some (D + 1 + 1 + 1 + 1) := fun e => by
      obtain ⟨cur, hc⟩ := row_type hrow8 e
      rw [kn] at hc
      simp at hc
    have nl : Value.ownBlock (.slice g L.length cp) ≠ some (D + 1 + 1 + 1) := fun e => by
      obtain ⟨cur, hc⟩ := row_type hrow8 e
      rw [kl] at hc
      simp at hc
    have h9 : w9.heap[D]? = W.heap[D]? ∧ w9.heap[D + 1 + 1]? = W.heap[D + 1 + 1]? ∧ w9.heap[Bx]? = W.heap[Bx]? := ⟨(hgrow9.block D (blkLt k7) (fun e => gne e.symm)).trans h8.1, (hgrow9.block _ (blkLt k8) (fun e => n8 e.symm)).trans h8.2.1, (hgrow9.block _ (blkLt kx) (fun e => hvx e.symm)).trans h8.2.2⟩
    obtain ⟨hP, hFr⟩ := SeI.push (r := (r1, r2)) k7 k8 hrow8 gne hbw8 (by omega) hown9 hgrow9 hat9
    have HFin : Hid (KeepsFrom w5.heap.size W (w9.setCell ⟨D + 1 + 1, 0, none⟩ (.slice (some ⟨g1, 0, none⟩) (L.length + 1) cp1)) ∧ Kp3 w.heap.size (D + 1 + 1 + 1 + 1) (D + 1 + 1 + 1) (D + 1 + 1 + 1) W (w9.setCell ⟨D + 1 + 1, 0, none⟩ (.slice (some ⟨g1, 0, none⟩) (L.length + 1) cp1)) ∧ SeI w D (D + 1 + 1) s (xs.length : Int) ((pre ++ [(⟨(x1, x2), hxx⟩ : MT)]).map (lowB s (xs.length : Int))) (w9.setCell ⟨D + 1 + 1, 0, none⟩ (.slice (some ⟨g1, 0, none⟩) (L.length + 1) cp1)) ∧ (w9.setCell ⟨D + 1 + 1, 0, none⟩ (.slice (some ⟨g1, 0, none⟩) (L.length + 1) cp1)).heap[D + 1 + 1 + 1 + 1]? = some (.cells #[.int .i64 (n : Int)] 3 (0, 0)) ∧ (w9.setCell ⟨D + 1 + 1, 0, none⟩ (.slice (some ⟨g1, 0, none⟩) (L.length + 1) cp1)).heap[D + 1 + 1 + 1]? = some (.cells #[.slice (some ⟨b, off, none⟩) xs.length cap] 23 (0, 0))) := by
      have e1 := hFr.block _ (blkLt kn) (fun e => by rcases e with e | e; omega; exact nn e)
      have e2 := hFr.block _ (blkLt kl) (fun e => by rcases e with e | e; omega; exact nl e)
      have hwW : w.heap.size ≤ W.heap.size := HI7.out.2.size
      have hb10 : Below w.heap.size W (w9.setCell ⟨D + 1 + 1, 0, none⟩ (.slice (some ⟨g1, 0, none⟩) (L.length + 1) cp1)) := Fr.below (hb8.mono hwW) hFr hbw8.size (fun k hk => by
        rcases hk with hk | hk
        · omega
        · exact (row_lt hrow8 k hk).1)
      have hko : KeepsOthers W (w9.setCell ⟨D + 1 + 1, 0, none⟩ (.slice (some ⟨g1, 0, none⟩) (L.length + 1) cp1)) := (KeepsOthers.of_grownBy (grown_below hb8) (fun j o e => by cases e)).trans (keeps_of_fr hFr (fun k hk => by
        rcases hk with hk | hk
        · exact ⟨_, _, _, by rw [hk]; exact k8⟩
        · obtain ⟨cur, hc⟩ := row_type hrow8 hk
          exact ⟨_, _, _, hc⟩))
      exact ⟨hko.from _, ⟨hb10, e1.trans (hb8.block _ (blkLt hn5)), e2.trans (hb8.block _ (blkLt hl5)), e2.trans (hb8.block _ (blkLt hl5))⟩, HIx.out L _ hP HL.out, e1.trans kn, e2.trans kl⟩
    clear hP hFr
    refine hK.out _ _ (Or.inr h9) (fun _ => ?_)
    clear hK K
    try simp only [Act.put, List.setIfInBounds_toArray, List.set_cons_zero, List.set_cons_succ, List.getElem_toArray, List.getElem_cons_succ, List.getElem_cons_zero]
    refine wpAnyZ_ready (rs := [6]) (by kernel_rfl) (by simp) ?_
    refine AllReadyZ.cons rfl (fun K hK => ?_) AllReadyZ.nil
    obtain ⟨y0, y1⟩ := (HQ.out w9 h9).1
    clear HQ
    go_simp
    refine hK.out _ _ (Or.inl rfl) (fun _ => ?_)
    clear hK K
    try simp only [Act.put, List.setIfInBounds_toArray, List.set_cons_zero, List.set_cons_succ, List.getElem_toArray, List.getElem_cons_succ, List.getElem_cons_zero]
    refine wpAnyZ_done (by kernel_rfl) ?_ _
    exact HFin.out
  case done =>
    rintro F ys W hF rfl ⟨hI, hn5, hl5⟩ hK
    rw [HLow.out] at hI
    obtain ⟨g, cp, g8, grow, gne⟩ := hI.box
    have y0 := blkCell g8 0 _ rfl
    simp only [List.getElem_toArray, List.getElem_cons_zero] at y0
    have hbel := hI.bel
    clear HLow
    gi_wp2
    refine ⟨by simp, .inl ⟨_, _, rfl, run_takeDeferred hK, ?_⟩⟩
    refine ⟨_, results_tmp2 rfl _ _ _, ⟨g, cp, rfl, ownsRow_putObj grow _ hK rfl, hbel.trans (belowK_b (w := w) (Nat.le_refl _) W F _ _ (by omega) hK rfl rfl)⟩⟩
  case stop =>
    rintro F c pre W _ _ h _
    exact h.elim
theorem implSeasons_any (a : Option Addr) (cap : Nat) (xs : List Int) (n : Int) (hl : xs.length ≤ 100000000) (w : World) (hr : Reads w.heap.size w a xs) :
    Calls Try.prog 13 #[.slice a xs.length cap, .int .i64 n] w (AnsR w (seL xs n) (seC xs n)) := by
  rcases se_ways xs n with ⟨h1, h2, h3⟩ | ⟨h1, h0, h2, h3⟩ | ⟨h1, h0, h4, h2, h3⟩ | ⟨h1, h0, h4, h5, h2, h3⟩ | ⟨h1, h0, h4, h5, h2, h3⟩
  · rw [h3]; exact implSeasons_bad a cap xs n hl w hr (.inl h1)
  · rw [h3]; exact implSeasons_bad a cap xs n hl w hr (.inr (.inl h0))
  · rw [h3]; exact implSeasons_bad a cap xs n hl w hr (.inr (.inr h4))
  · rw [h3, h2]
    obtain ⟨_, hn1, hn2⟩ := se_right h0
    obtain ⟨m, rfl⟩ : ∃ m : Nat, n = (m : Int) := ⟨n.toNat, by omega⟩
    exact implSeasons_zero a cap xs m (by omega) h0 (by omega) h5 w hr
  · rw [h3, h2]
    obtain ⟨_, hn1, hn2⟩ := se_right h0
    obtain ⟨m, rfl⟩ : ∃ m : Nat, n = (m : Int) := ⟨n.toNat, by omega⟩
    rw [Int.toNat_natCast]
    exact implSeasons_right a cap xs m (by omega) h0 (by omega) h5 w hr
end Go.Proofs.Ytjdjopikljdigaa

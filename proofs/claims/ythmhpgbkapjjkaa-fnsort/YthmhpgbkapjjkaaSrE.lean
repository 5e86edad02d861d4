/-
  Contract of the program's sortFault.
-/
import Derived.Test.YthmhpgbkapjjkaaSrM
import Derived.Test.YthmhpgbkapjjkaaQsA
import Derived.Test.YthmhpgbkapjjkaaRowG
namespace Go.Proofs.Ythmhpgbkapjjkaa
open Go.ChangeShapes Go.WideShapes Go.ChangeAt Go.RowKit Go.Joins Go.Deep
set_option linter.unusedVariables false

theorem lns_fail {ls : List RLa} {k : Nat} (h : k < ls.length) (hp : lnB (ls.getD k zLa) = false) : lnsB ls = false := by
  have e : ls.getD k zLa = ls[k] := by simp [List.getD_eq_getElem?_getD, h]
  rw [e] at hp
  unfold lnsB
  rw [List.all_eq_false]
  exact ⟨ls[k], List.getElem_mem _, by simp [hp]⟩
theorem two_reads (W : World) (x y : Int) : Reads (W.alloc (Obj.cells #[.int .i64 x, .int .i64 y] 3)).heap.size (W.alloc (Obj.cells #[.int .i64 x, .int .i64 y] 3)) (some ⟨W.heap.size, 0, none⟩) [x, y] :=
  .inr ⟨W.heap.size, 0, rfl, by simp, fun i hi => by
    have h := heapNew W (Obj.cells #[.int .i64 x, .int .i64 y] 3)
    match i, hi with
    | 0, _ => exact blkCell h 0 _ rfl
    | 1, _ => exact blkCell h 1 _ rfl
    | k + 2, hk => exact absurd hk (by simp)⟩
theorem laneRight_any (rm ev : Int) (w : World) :
    Calls Try.prog 69 #[.agg #[.int .i64 rm, .int .i64 ev]] w fun e w' => e = .returned (.bool (lnB ⟨rm, ev⟩)) ∧ Below w.heap.size w w' := by
  have HA : Hid (∀ W q c, Reads W.heap.size W q [rm, ev] → Calls Try.prog 70 #[.agg #[.int .i64 1, .int .i64 100], .slice q 2 c] W fun e w' => e = .returned (.bool (lnB ⟨rm, ev⟩)) ∧ Below W.heap.size W w') := fun W q c h => by
    have := hasAll_any 1 100 q c [rm, ev] (by simp) W h
    have e : alB 1 100 [rm, ev] = lnB ⟨rm, ev⟩ := by unfold alB lnB; simp
    rw [e] at this
    exact this
  generalize lnB ⟨rm, ev⟩ = b at *
  have HT : Hid (∀ (W : World) (x y : Int), Reads (W.alloc (Obj.cells #[.int .i64 x, .int .i64 y] 3)).heap.size (W.alloc (Obj.cells #[.int .i64 x, .int .i64 y] 3)) (some ⟨W.heap.size, 0, none⟩) [x, y]) := two_reads
  go_enter Try.func69, Try.ntmps69
  go_wp2_with fail
  (first | go_at_call 70 | skip)
  obtain ⟨W1, hW1⟩ : ∃ W1, W1 = w.alloc (Obj.cells #[.int .i64 rm, .int .i64 ev] 45) := ⟨_, rfl⟩
  have hb1 : Below w.heap.size w W1 := by rw [hW1]; exact below_alloc _ _
  have hz : W1.heap.size = w.heap.size + 1 := by rw [hW1]; simp
  rw [← hW1, ← hz]
  refine (HA.out _ _ 2 (HT.out W1 rm ev)).mono ?_
  rintro e w2 ⟨rfl, hb2⟩
  go_wp2
  go_ret
  exact ⟨rfl, chain (chain hb1 (below_alloc _ _)) hb2⟩
theorem laneNot_any (rm ev : Int) (w : World) :
    Calls Try.prog 68 #[.agg #[.int .i64 rm, .int .i64 ev]] w fun e w' => e = .returned (.bool (!lnB ⟨rm, ev⟩)) ∧ Below w.heap.size w w' := by
  have HS : Hid (∀ W, Calls Try.prog 69 #[.agg #[.int .i64 rm, .int .i64 ev]] W fun e w' => e = .returned (.bool (lnB ⟨rm, ev⟩)) ∧ Below W.heap.size W w') := fun W => laneRight_any rm ev W
  generalize lnB ⟨rm, ev⟩ = b at *
  go_enter Try.func68, Try.ntmps68
  go_wp2_with (go_at_call 69; refine (HS.out _).mono ?_; rintro e w2 ⟨rfl, hb2⟩)
  go_ret
  exact ⟨rfl, chain (below_alloc _ _) hb2⟩
set_option maxHeartbeats 2000000 in
theorem laneIndex_any (ad : Option Addr) (cap : Nat) (rs : List RLa) (hl : rs.length ≤ 100000000) (w : World) (hr : ReadsLa w.heap.size w ad rs) :
    Calls Try.prog 79 #[.slice ad rs.length cap, .func (.func 68) #[] #[]] w fun e w' => (∃ x : Int, e = .returned (.int .i64 x) ∧ decide (0 ≤ x) = !lnsB rs) ∧ Below w.heap.size w w' := by
  have HR : Hid (ReadsLa w.heap.size w ad rs) := hr
  have HC : Hid (∀ x y W, Calls Try.prog 68 #[.agg #[.int .i64 x, .int .i64 y]] W fun e w' => e = .returned (.bool (!lnB ⟨x, y⟩)) ∧ Below W.heap.size W w') := fun x y W => laneNot_any x y W
  clear hr
  go_enter Try.func79, Try.ntmps79
  go_wp2
  go_loopw [5, 8] (fun _ c wr => ∃ k : Nat, k ≤ rs.length ∧ c = .int .i64 (k : Int) ∧ lnsB (rs.take k) = true ∧ Below w.heap.size w wr) (fun _ c _ => rs.length - (intOf c).toNat)
  case atStart => exact ⟨0, Nat.zero_le _, rfl, rfl, Below.refl _ _⟩
  case round =>
    obtain ⟨k, hk, rfl, hf, hb⟩ := hrel
    have HF : Hid (lnsB (rs.take k) = true) := hf
    have HB : Hid (Below w.heap.size w wr) := hb
    clear hf hb
    by_cases hlt : k < rs.length
    · have hlt' : (k : Int) < (rs.length : Int) := by omega
      rcases HR.out with h | ⟨b0, o0, ha, hB0, ia⟩
      · rw [h] at hlt; simp at hlt
      obtain ⟨c0, c1⟩ := (ia.below HB.out hB0) k hlt
      have HX : Hid (lnB (rs.getD k zLa) = false → lnsB rs = false) := fun h => lns_fail hlt h
      have HN : Hid (lnsB (rs.take (k + 1)) = (lnsB (rs.take k) && lnB (rs.getD k zLa))) := lnsB_take hlt
      have hm := HC.out (rs.getD k zLa).rm (rs.getD k zLa).ev wr
      rw [ha]
      clear ia
      generalize rs.getD k zLa = q at *
      obtain ⟨q0, q1⟩ := q
      dsimp only at *
      generalize lnB ⟨q0, q1⟩ = mb at *
      cases mb
      · go_wp2_with (go_at_call 68; refine hm.mono ?_; rintro e w2 ⟨rfl, hb2⟩)
        go_ret
        exact ⟨⟨(k : Int), rfl, by rw [HX.out trivial]; exact decide_eq_true (by omega)⟩, chain HB.out hb2⟩
      · go_wp2_with (go_at_call 68; refine hm.mono ?_; rintro e w2 ⟨rfl, hb2⟩)
        exact ⟨⟨k + 1, by omega, by go_num, by rw [HN.out, HF.out]; rfl, chain HB.out hb2⟩, by simp [intOf]; omega⟩
    · have hle : (rs.length : Int) ≤ (k : Int) := by omega
      have HE : Hid (lnsB rs = true) := by have := HF.out; rwa [List.take_of_length_le (by omega)] at this
      go_wp2
      go_ret
      exact ⟨⟨-1, rfl, by rw [HE.out]; rfl⟩, HB.out⟩
theorem laneContains_any (ad : Option Addr) (cap : Nat) (rs : List RLa) (hl : rs.length ≤ 100000000) (w : World) (hr : ReadsLa w.heap.size w ad rs) :
    Calls Try.prog 67 #[.slice ad rs.length cap, .func (.func 68) #[] #[]] w fun e w' => e = .returned (.bool (!lnsB rs)) ∧ Below w.heap.size w w' := by
  have hi := laneIndex_any ad cap rs hl w hr
  clear hr
  go_enter Try.func67, Try.ntmps67
  go_wp2_with (go_at_call 79; refine hi.mono ?_; rintro e w2 ⟨⟨x, rfl, hx⟩, hb2⟩; have HX : Hid (decide (0 ≤ x) = !lnsB rs) := hx; clear hx)
  go_ret
  exact ⟨ret_bool HX.out, hb2⟩
theorem so_ways (ls : List RLa) (ps : List Int) : ((4096 < ls.length ∨ 4096 < ps.length) ∧ soC ls ps = 2) ∨ (¬ (4096 < ls.length ∨ 4096 < ps.length) ∧ (9 < ls.length ∨ 100 < ps.length) ∧ soC ls ps = 9) ∨ (ls.length ≤ 9 ∧ ps.length ≤ 100 ∧ lnsB ls = false ∧ soC ls ps = 1) ∨ (ls.length ≤ 9 ∧ ps.length ≤ 100 ∧ lnsB ls = true ∧ alB 0 ((ls.length : Int) - 1) ps = false ∧ soC ls ps = 5) ∨ (ls.length ≤ 9 ∧ ps.length ≤ 100 ∧ lnsB ls = true ∧ alB 0 ((ls.length : Int) - 1) ps = true ∧ soC ls ps = 0) := by
  by_cases h1 : 4096 < ls.length ∨ 4096 < ps.length
  · exact .inl ⟨h1, by unfold soC; rw [if_pos h1]⟩
  · by_cases h2 : 9 < ls.length ∨ 100 < ps.length
    · exact .inr (.inl ⟨h1, h2, by unfold soC; rw [if_neg h1, if_pos h2]⟩)
    · have h3 : ls.length ≤ 9 ∧ ps.length ≤ 100 := by omega
      cases h4 : lnsB ls
      · exact .inr (.inr (.inl ⟨h3.1, h3.2, rfl, by unfold soC; rw [if_neg h1, if_neg h2, h4]; rfl⟩))
      · cases h5 : alB 0 ((ls.length : Int) - 1) ps
        · exact .inr (.inr (.inr (.inl ⟨h3.1, h3.2, rfl, rfl, by unfold soC; rw [if_neg h1, if_neg h2, h4, h5]; rfl⟩)))
        · exact .inr (.inr (.inr (.inr ⟨h3.1, h3.2, rfl, rfl, by unfold soC; rw [if_neg h1, if_neg h2, h4, h5]; rfl⟩)))
set_option maxHeartbeats 2000000 in
theorem sortFault_any (la : Option Addr) (lc : Nat) (ls : List RLa) (pa : Option Addr) (pc : Nat) (ps : List Int) (hl1 : ls.length ≤ 100000000) (hl2 : ps.length ≤ 100000000) (w : World) (hr : ReadsLa w.heap.size w la ls) (hp : Reads w.heap.size w pa ps) :
    Calls Try.prog 45 #[.slice la ls.length lc, .slice pa ps.length pc] w fun e w' => e = .returned (.int .i64 (soC ls ps)) ∧ Below w.heap.size w w' := by
  have HL : Hid (∀ W, Below w.heap.size w W → Calls Try.prog 67 #[.slice la ls.length lc, .func (.func 68) #[] #[]] W fun e w' => e = .returned (.bool (!lnsB ls)) ∧ Below W.heap.size W w') := fun W hb => laneContains_any la lc ls hl1 W ((hr.below hb).mono hb.size)
  have HP : Hid (∀ W, Below w.heap.size w W → Calls Try.prog 70 #[.agg #[.int .i64 0, .int .i64 ((ls.length : Int) - 1)], .slice pa ps.length pc] W fun e w' => e = .returned (.bool (alB 0 ((ls.length : Int) - 1) ps)) ∧ Below W.heap.size W w') := fun W hb => hasAll_any 0 _ pa pc ps hl2 W ((hp.below hb).mono hb.size)
  have hw : IntKind.i64.wrap ((ls.length : Int) - 1) = (ls.length : Int) - 1 := wrap_id _ (by omega) (by omega)
  rcases so_ways ls ps with ⟨t1, e1⟩ | ⟨t1, t2, e1⟩ | ⟨t1, t2, t3, e1⟩ | ⟨t1, t2, t3, t4, e1⟩ | ⟨t1, t2, t3, t4, e1⟩
  · rw [e1]
    by_cases hm : ls.length < ps.length
    · have hm2 : (ls.length : Int) < (ps.length : Int) := by omega
      have hz : (4096 : Int) < (ps.length : Int) := by omega
      clear hr hp HL HP e1 t1
      go_enter Try.func45, Try.ntmps45
      go_wp2
      go_ret
      exact ⟨rfl, Below.refl _ _⟩
    · have hm2 : ¬ (ls.length : Int) < (ps.length : Int) := by omega
      have hz : (4096 : Int) < (ls.length : Int) := by omega
      clear hr hp HL HP e1 t1
      go_enter Try.func45, Try.ntmps45
      go_wp2
      go_ret
      exact ⟨rfl, Below.refl _ _⟩
  · rw [e1]
    by_cases hm : ls.length < ps.length
    · have hm2 : (ls.length : Int) < (ps.length : Int) := by omega
      have hz : ¬ (4096 : Int) < (ps.length : Int) := by omega
      by_cases h9 : 9 < ls.length
      · have h9' : (9 : Int) < (ls.length : Int) := by omega
        clear hr hp HL HP e1 t1 t2
        go_enter Try.func45, Try.ntmps45
        go_wp2
        go_ret
        exact ⟨rfl, Below.refl _ _⟩
      · have h9' : ¬ (9 : Int) < (ls.length : Int) := by omega
        have h10 : (100 : Int) < (ps.length : Int) := by omega
        clear hr hp HL HP e1 t1 t2
        go_enter Try.func45, Try.ntmps45
        go_wp2
        go_ret
        exact ⟨rfl, Below.refl _ _⟩
    · have hm2 : ¬ (ls.length : Int) < (ps.length : Int) := by omega
      have hz : ¬ (4096 : Int) < (ls.length : Int) := by omega
      by_cases h9 : 9 < ls.length
      · have h9' : (9 : Int) < (ls.length : Int) := by omega
        clear hr hp HL HP e1 t1 t2
        go_enter Try.func45, Try.ntmps45
        go_wp2
        go_ret
        exact ⟨rfl, Below.refl _ _⟩
      · have h9' : ¬ (9 : Int) < (ls.length : Int) := by omega
        have h10 : (100 : Int) < (ps.length : Int) := by omega
        clear hr hp HL HP e1 t1 t2
        go_enter Try.func45, Try.ntmps45
        go_wp2
        go_ret
        exact ⟨rfl, Below.refl _ _⟩
  · rw [e1]
    rw [t3] at HL
    by_cases hm : ls.length < ps.length
    · have hm2 : (ls.length : Int) < (ps.length : Int) := by omega
      have hz : ¬ (4096 : Int) < (ps.length : Int) := by omega
      have h9' : ¬ (9 : Int) < (ls.length : Int) := by omega
      have h10 : ¬ (100 : Int) < (ps.length : Int) := by omega
      clear hr hp HP e1 t1 t2 t3
      go_enter Try.func45, Try.ntmps45
      go_wp2_with fail
      (first | go_at_call 67 | skip)
      refine (HL.out _ (Below.refl _ _)).mono ?_
      rintro e w2 ⟨rfl, hb2⟩
      go_wp2
      go_ret
      exact ⟨rfl, hb2⟩
    · have hm2 : ¬ (ls.length : Int) < (ps.length : Int) := by omega
      have hz : ¬ (4096 : Int) < (ls.length : Int) := by omega
      have h9' : ¬ (9 : Int) < (ls.length : Int) := by omega
      have h10 : ¬ (100 : Int) < (ps.length : Int) := by omega
      clear hr hp HP e1 t1 t2 t3
      go_enter Try.func45, Try.ntmps45
      go_wp2_with fail
      (first | go_at_call 67 | skip)
      refine (HL.out _ (Below.refl _ _)).mono ?_
      rintro e w2 ⟨rfl, hb2⟩
      go_wp2
      go_ret
      exact ⟨rfl, hb2⟩
  · rw [e1]
    rw [t3] at HL
    rw [t4] at HP
    by_cases hm : ls.length < ps.length
    · have hm2 : (ls.length : Int) < (ps.length : Int) := by omega
      have hz : ¬ (4096 : Int) < (ps.length : Int) := by omega
      have h9' : ¬ (9 : Int) < (ls.length : Int) := by omega
      have h10 : ¬ (100 : Int) < (ps.length : Int) := by omega
      clear hr hp e1 t1 t2 t3 t4
      go_enter Try.func45, Try.ntmps45
      go_wp2_with fail
      (first | go_at_call 67 | skip)
      refine (HL.out _ (Below.refl _ _)).mono ?_
      rintro e w2 ⟨rfl, hb2⟩
      go_wp2_with fail
      (first | go_at_call 70 | skip)
      refine (HP.out _ (chain hb2 (below_alloc _ _))).mono ?_
      rintro e w3 ⟨rfl, hb3⟩
      go_wp2
      go_ret
      exact ⟨rfl, chain (chain hb2 (below_alloc _ _)) hb3⟩
    · have hm2 : ¬ (ls.length : Int) < (ps.length : Int) := by omega
      have hz : ¬ (4096 : Int) < (ls.length : Int) := by omega
      have h9' : ¬ (9 : Int) < (ls.length : Int) := by omega
      have h10 : ¬ (100 : Int) < (ps.length : Int) := by omega
      clear hr hp e1 t1 t2 t3 t4
      go_enter Try.func45, Try.ntmps45
      go_wp2_with fail
      (first | go_at_call 67 | skip)
      refine (HL.out _ (Below.refl _ _)).mono ?_
      rintro e w2 ⟨rfl, hb2⟩
      go_wp2_with fail
      (first | go_at_call 70 | skip)
      refine (HP.out _ (chain hb2 (below_alloc _ _))).mono ?_
      rintro e w3 ⟨rfl, hb3⟩
      go_wp2
      go_ret
      exact ⟨rfl, chain (chain hb2 (below_alloc _ _)) hb3⟩
  · rw [e1]
    rw [t3] at HL
    rw [t4] at HP
    by_cases hm : ls.length < ps.length
    · have hm2 : (ls.length : Int) < (ps.length : Int) := by omega
      have hz : ¬ (4096 : Int) < (ps.length : Int) := by omega
      have h9' : ¬ (9 : Int) < (ls.length : Int) := by omega
      have h10 : ¬ (100 : Int) < (ps.length : Int) := by omega
      clear hr hp e1 t1 t2 t3 t4
      go_enter Try.func45, Try.ntmps45
      go_wp2_with fail
      (first | go_at_call 67 | skip)
      refine (HL.out _ (Below.refl _ _)).mono ?_
      rintro e w2 ⟨rfl, hb2⟩
      go_wp2_with fail
      (first | go_at_call 70 | skip)
      refine (HP.out _ (chain hb2 (below_alloc _ _))).mono ?_
      rintro e w3 ⟨rfl, hb3⟩
      go_wp2
      go_ret
      exact ⟨rfl, chain (chain hb2 (below_alloc _ _)) hb3⟩
    · have hm2 : ¬ (ls.length : Int) < (ps.length : Int) := by omega
      have hz : ¬ (4096 : Int) < (ls.length : Int) := by omega
      have h9' : ¬ (9 : Int) < (ls.length : Int) := by omega
      have h10 : ¬ (100 : Int) < (ps.length : Int) := by omega
      clear hr hp e1 t1 t2 t3 t4
      go_enter Try.func45, Try.ntmps45
      go_wp2_with fail
      (first | go_at_call 67 | skip)
      refine (HL.out _ (Below.refl _ _)).mono ?_
      rintro e w2 ⟨rfl, hb2⟩
      go_wp2_with fail
      (first | go_at_call 70 | skip)
      refine (HP.out _ (chain hb2 (below_alloc _ _))).mono ?_
      rintro e w3 ⟨rfl, hb3⟩
      go_wp2
      go_ret
      exact ⟨rfl, chain (chain hb2 (below_alloc _ _)) hb3⟩
end Go.Proofs.Ythmhpgbkapjjkaa

/-
  Stops that are right, as a function of their numbers; contracts of the program's and the specification's StopsOK, for all arguments.
-/
import Derived.Test.YtoogphkojofkfaaQsA
import Derived.Test.YtoogphkojofkfaaHpA
import Derived.Test.YtoogphkojofkfaaCellNo
namespace Go.Proofs.Ytoogphkojofkfaa
open Go.ChangeShapes Go.WideShapes Go.ChangeAt Go.RowKit Go.Joins Go.Deep
set_option linter.unusedVariables false

/-- One stop is right. -/
def hpB (r : RHp) : Bool := alB (-1000) 1000 [r.x, r.y] && (alB 0 100000 [r.fr, r.to] && (decide (r.fr ≤ r.to) && inB r.sy 0 1000))
def hpsB (rs : List RHp) : Bool := rs.all hpB
/-- All that StopsOK asks. -/
def stB (rs : List RHp) : Bool := if 7 < rs.length then false else hpsB rs
theorem al_two (lo hi a b : Int) : alB lo hi [a, b] = (inB a lo hi && inB b lo hi) := by
  unfold alB
  simp
theorem hp_facts {r : RHp} (h : hpB r = true) : (-1000 ≤ r.x ∧ r.x ≤ 1000) ∧ (-1000 ≤ r.y ∧ r.y ≤ 1000) ∧ (0 ≤ r.fr ∧ r.fr ≤ 100000) ∧ (0 ≤ r.to ∧ r.to ≤ 100000) ∧ r.fr ≤ r.to ∧ 0 ≤ r.sy ∧ r.sy ≤ 1000 := by
  unfold hpB at h
  rw [al_two, al_two] at h
  unfold inB at h
  simp only [Bool.and_eq_true, decide_eq_true_eq] at h
  omega
theorem hp_of {r : RHp} (h : (-1000 ≤ r.x ∧ r.x ≤ 1000) ∧ (-1000 ≤ r.y ∧ r.y ≤ 1000) ∧ (0 ≤ r.fr ∧ r.fr ≤ 100000) ∧ (0 ≤ r.to ∧ r.to ≤ 100000) ∧ r.fr ≤ r.to ∧ 0 ≤ r.sy ∧ r.sy ≤ 1000) : hpB r = true := by
  unfold hpB
  rw [al_two, al_two]
  unfold inB
  simp only [Bool.and_eq_true, decide_eq_true_eq]
  omega
theorem hp_no {r : RHp} (h : ¬ ((-1000 ≤ r.x ∧ r.x ≤ 1000) ∧ (-1000 ≤ r.y ∧ r.y ≤ 1000) ∧ (0 ≤ r.fr ∧ r.fr ≤ 100000) ∧ (0 ≤ r.to ∧ r.to ≤ 100000) ∧ r.fr ≤ r.to ∧ 0 ≤ r.sy ∧ r.sy ≤ 1000)) : hpB r = false := by
  cases hb : hpB r
  · rfl
  · exact absurd (hp_facts hb) h
theorem inB_two (n lo hi : Int) : (inB n lo hi = false ∧ ¬ (lo ≤ n ∧ n ≤ hi)) ∨ (inB n lo hi = true ∧ lo ≤ n ∧ n ≤ hi) := by
  unfold inB
  by_cases h : lo ≤ n ∧ n ≤ hi
  · exact .inr ⟨decide_eq_true h, h⟩
  · exact .inl ⟨decide_eq_false h, h⟩
/-- In which ways the specification finds a stop wrong. -/
theorem hp_ways (r : RHp) : (inB r.x (-1000) 1000 = false ∧ hpB r = false) ∨ (inB r.x (-1000) 1000 = true ∧ inB r.y (-1000) 1000 = false ∧ hpB r = false)
    ∨ (inB r.x (-1000) 1000 = true ∧ inB r.y (-1000) 1000 = true ∧ r.fr < 0 ∧ hpB r = false)
    ∨ (inB r.x (-1000) 1000 = true ∧ inB r.y (-1000) 1000 = true ∧ ¬ r.fr < 0 ∧ r.to < r.fr ∧ hpB r = false)
    ∨ (inB r.x (-1000) 1000 = true ∧ inB r.y (-1000) 1000 = true ∧ ¬ r.fr < 0 ∧ ¬ r.to < r.fr ∧ 100000 < r.to ∧ hpB r = false)
    ∨ (inB r.x (-1000) 1000 = true ∧ inB r.y (-1000) 1000 = true ∧ ¬ r.fr < 0 ∧ ¬ r.to < r.fr ∧ ¬ 100000 < r.to ∧ inB r.sy 0 1000 = hpB r) := by
  rcases inB_two r.x (-1000) 1000 with ⟨hx, kx⟩ | ⟨hx, kx⟩
  · exact .inl ⟨hx, hp_no (by omega)⟩
  rcases inB_two r.y (-1000) 1000 with ⟨hy, ky⟩ | ⟨hy, ky⟩
  · exact .inr (.inl ⟨hx, hy, hp_no (by omega)⟩)
  by_cases h1 : r.fr < 0
  · exact .inr (.inr (.inl ⟨hx, hy, h1, hp_no (by omega)⟩))
  by_cases h2 : r.to < r.fr
  · exact .inr (.inr (.inr (.inl ⟨hx, hy, h1, h2, hp_no (by omega)⟩)))
  by_cases h3 : 100000 < r.to
  · exact .inr (.inr (.inr (.inr (.inl ⟨hx, hy, h1, h2, h3, hp_no (by omega)⟩))))
  refine .inr (.inr (.inr (.inr (.inr ⟨hx, hy, h1, h2, h3, ?_⟩))))
  rcases inB_two r.sy 0 1000 with ⟨hs, ks⟩ | ⟨hs, ks⟩
  · rw [hs]; exact (hp_no (by omega)).symm
  · rw [hs]; exact (hp_of (by omega)).symm
theorem hps_take (r : List RHp) (k : Nat) (h : k < r.length) : hpsB (r.take (k + 1)) = (hpsB (r.take k) && hpB (r.getD k zHp)) := by
  unfold hpsB
  rw [List.take_succ_eq_append_getElem h, List.all_append]
  have e : r.getD k zHp = r[k] := by simp [List.getD_eq_getElem?_getD, h]
  rw [e]; simp
theorem hps_fail {r : List RHp} {k : Nat} (h : k < r.length) (hp : hpB (r.getD k zHp) = false) : hpsB r = false := by
  have e : r.getD k zHp = r[k] := by simp [List.getD_eq_getElem?_getD, h]
  rw [e] at hp
  unfold hpsB
  rw [List.all_eq_false]
  exact ⟨r[k], List.getElem_mem _, by simp [hp]⟩
theorem hps_mem {r : List RHp} (h : hpsB r = true) : ∀ x ∈ r, hpB x = true := fun x hx => by
  unfold hpsB at h
  rw [List.all_eq_true] at h
  exact h x hx
theorem hps_getD {r : List RHp} (h : hpsB r = true) {k : Nat} (hk : k < r.length) : hpB (r.getD k zHp) = true := getHp (hps_mem h) hk
theorem hp_z : hpB zHp = true := by decide
theorem st_facts {r : List RHp} (h : stB r = true) : r.length ≤ 7 ∧ hpsB r = true := by
  unfold stB at h
  by_cases h7 : 7 < r.length
  · rw [if_pos h7] at h; cases h
  · rw [if_neg h7] at h; exact ⟨by omega, h⟩

set_option maxHeartbeats 2000000 in
theorem impHp_any (x y f t s : Int) (w : World) :
    Calls Try.prog 33 #[.agg #[.int .i64 x, .int .i64 y, .int .i64 f, .int .i64 t, .int .i64 s]] w fun e w' => e = .returned (.bool (hpB ⟨x, y, f, t, s⟩)) ∧ Below w.heap.size w w' := by
  have H1 : Hid (∀ W b, W.cell? ⟨b, 0, none⟩ = some (.int .i64 x) → W.cell? ⟨b, 1, none⟩ = some (.int .i64 y) → b < W.heap.size → Calls Try.prog 54 #[.agg #[.int .i64 (-1000), .int .i64 1000], .slice (some ⟨b, 0, none⟩) 2 2] W fun e w' => e = .returned (.bool (alB (-1000) 1000 [x, y])) ∧ Below W.heap.size W w') := fun W b h0 h1 hb => hasAll_any (-1000) 1000 _ 2 [x, y] (by simp) W (.inr ⟨b, 0, rfl, hb, fun i hi => by
    match i, hi with
    | 0, _ => exact h0
    | 1, _ => exact h1⟩)
  have H2 : Hid (∀ W b, W.cell? ⟨b, 0, none⟩ = some (.int .i64 f) → W.cell? ⟨b, 1, none⟩ = some (.int .i64 t) → b < W.heap.size → Calls Try.prog 54 #[.agg #[.int .i64 0, .int .i64 100000], .slice (some ⟨b, 0, none⟩) 2 2] W fun e w' => e = .returned (.bool (alB 0 100000 [f, t])) ∧ Below W.heap.size W w') := fun W b h0 h1 hb => hasAll_any 0 100000 _ 2 [f, t] (by simp) W (.inr ⟨b, 0, rfl, hb, fun i hi => by
    match i, hi with
    | 0, _ => exact h0
    | 1, _ => exact h1⟩)
  have H3 : Hid (∀ W, Calls Try.prog 42 #[.agg #[.int .i64 0, .int .i64 1000], .int .i64 s] W fun e w' => e = .returned (.bool (inB s 0 1000)) ∧ Below W.heap.size W w') := fun W => qSpan_any 0 1000 s W
  unfold hpB
  dsimp only
  generalize alB (-1000) 1000 [x, y] = b1 at *
  generalize alB 0 100000 [f, t] = b2 at *
  generalize inB s 0 1000 = b4 at *
  obtain ⟨b5, hb5⟩ : ∃ b5, decide (f ≤ t) = b5 := ⟨_, rfl⟩
  have HFt : Hid (decide (f ≤ t) = b5) := hb5
  rw [hb5]
  clear hb5
  obtain ⟨W1, hW1⟩ : ∃ W1, W1 = (((w.alloc (Obj.cells #[.int .i64 x, .int .i64 y, .int .i64 f, .int .i64 t, .int .i64 s] 37)).alloc (Obj.cells #[.int .i64 (-1000), .int .i64 1000] 77)).alloc (Obj.cells #[.int .i64 0, .int .i64 100000] 77)).alloc (Obj.cells #[.int .i64 0, .int .i64 1000] 77) := ⟨_, rfl⟩
  have HW : Hid (∀ W, Below W1.heap.size W1 W → (W.cell? ⟨w.heap.size, 2, none⟩ = some (.int .i64 f) ∧ W.cell? ⟨w.heap.size, 3, none⟩ = some (.int .i64 t) ∧ W.cell? ⟨w.heap.size, 4, none⟩ = some (.int .i64 s)) ∧ (W.cell? ⟨w.heap.size + 1 + 1, 0, none⟩ = some (.int .i64 0) ∧ W.cell? ⟨w.heap.size + 1 + 1, 1, none⟩ = some (.int .i64 100000)) ∧ (W.cell? ⟨w.heap.size + 1 + 1 + 1, 0, none⟩ = some (.int .i64 0) ∧ W.cell? ⟨w.heap.size + 1 + 1 + 1, 1, none⟩ = some (.int .i64 1000)) ∧ Below w.heap.size w W) := fun W hb => by
    rw [hW1] at hb
    refine ⟨⟨?_, ?_, ?_⟩, ⟨?_, ?_⟩, ⟨?_, ?_⟩, chain (chain (chain (chain (below_alloc _ _) (below_alloc _ _)) (below_alloc _ _)) (below_alloc _ _)) hb⟩
    · exact (hb.cell (p := ⟨w.heap.size, 2, none⟩) (by simp only [World.size_alloc]; omega)).trans ((cellOld _ _ (by simp only [World.size_alloc]; omega)).trans ((cellOld _ _ (by simp only [World.size_alloc]; omega)).trans ((cellOld _ _ (by simp only [World.size_alloc]; omega)).trans (cellNew _ _ _ _ rfl rfl))))
    · exact (hb.cell (p := ⟨w.heap.size, 3, none⟩) (by simp only [World.size_alloc]; omega)).trans ((cellOld _ _ (by simp only [World.size_alloc]; omega)).trans ((cellOld _ _ (by simp only [World.size_alloc]; omega)).trans ((cellOld _ _ (by simp only [World.size_alloc]; omega)).trans (cellNew _ _ _ _ rfl rfl))))
    · exact (hb.cell (p := ⟨w.heap.size, 4, none⟩) (by simp only [World.size_alloc]; omega)).trans ((cellOld _ _ (by simp only [World.size_alloc]; omega)).trans ((cellOld _ _ (by simp only [World.size_alloc]; omega)).trans ((cellOld _ _ (by simp only [World.size_alloc]; omega)).trans (cellNew _ _ _ _ rfl rfl))))
    · exact (hb.cell (p := ⟨w.heap.size + 1 + 1, 0, none⟩) (by simp only [World.size_alloc]; omega)).trans ((cellOld _ _ (by simp only [World.size_alloc]; omega)).trans (cellNew _ _ _ _ (by simp only [World.size_alloc]) rfl))
    · exact (hb.cell (p := ⟨w.heap.size + 1 + 1, 1, none⟩) (by simp only [World.size_alloc]; omega)).trans ((cellOld _ _ (by simp only [World.size_alloc]; omega)).trans (cellNew _ _ _ _ (by simp only [World.size_alloc]) rfl))
    · exact (hb.cell (p := ⟨w.heap.size + 1 + 1 + 1, 0, none⟩) (by simp only [World.size_alloc]; omega)).trans (cellNew _ _ _ _ (by simp only [World.size_alloc]) rfl)
    · exact (hb.cell (p := ⟨w.heap.size + 1 + 1 + 1, 1, none⟩) (by simp only [World.size_alloc]; omega)).trans (cellNew _ _ _ _ (by simp only [World.size_alloc]) rfl)
  have HE : Hid (W1 = (((w.alloc (Obj.cells #[.int .i64 x, .int .i64 y, .int .i64 f, .int .i64 t, .int .i64 s] 37)).alloc (Obj.cells #[.int .i64 (-1000), .int .i64 1000] 77)).alloc (Obj.cells #[.int .i64 0, .int .i64 100000] 77)).alloc (Obj.cells #[.int .i64 0, .int .i64 1000] 77)) := hW1
  clear hW1
  go_enter Try.func33, Try.ntmps33
  go_wp2_with fail
  (first | go_at_call 54 | skip)
  rw [← HE.out]
  refine (H1.out _ _ (cellNew _ _ _ _ (by rw [HE.out]; simp only [World.size_alloc]) rfl) (cellNew _ _ _ _ (by rw [HE.out]; simp only [World.size_alloc]) rfl) (by rw [HE.out]; simp only [World.size_alloc]; omega)).mono ?_
  rintro e w2 ⟨rfl, hb2⟩
  have B2 : Hid (Below W1.heap.size W1 w2) := chain (below_alloc _ _) hb2
  clear hb2
  obtain ⟨⟨c2, c3, c4⟩, ⟨d0, d1⟩, ⟨e0, e1⟩, hbl⟩ := HW.out w2 B2.out
  cases b1
  · go_wp2
    go_ret
    exact ⟨rfl, hbl⟩
  go_wp2_with fail
  (first | go_at_call 54 | skip)
  refine (H2.out _ _ (cellNew _ _ _ _ rfl rfl) (cellNew _ _ _ _ rfl rfl) (by simp only [World.size_alloc]; omega)).mono ?_
  rintro e w3 ⟨rfl, hb3⟩
  have B3 : Hid (Below W1.heap.size W1 w3) := chain (chain B2.out (below_alloc _ _)) hb3
  clear c2 c3 c4 d0 d1 e0 e1 hbl hb3
  obtain ⟨⟨c2, c3, c4⟩, ⟨d0, d1⟩, ⟨e0, e1⟩, hbl⟩ := HW.out w3 B3.out
  cases b2
  · go_wp2
    go_ret
    exact ⟨rfl, hbl⟩
  cases b5
  case true =>
    have hft : f ≤ t := of_decide_eq_true HFt.out
    go_wp2_with fail
    (first | go_at_call 42 | skip)
    refine (H3.out _).mono ?_
    rintro e w4 ⟨rfl, hb4⟩
    have hbl4 := (HW.out w4 (chain B3.out hb4)).2.2.2
    go_wp2
    go_ret
    exact ⟨by cases b4 <;> rfl, hbl4⟩
  case false =>
    have hft : ¬ f ≤ t := of_decide_eq_false HFt.out
    go_wp2
    go_ret
    exact ⟨rfl, hbl⟩
theorem impHpNot_any (x y f t s : Int) (w : World) :
    Calls Try.prog 32 #[.agg #[.int .i64 x, .int .i64 y, .int .i64 f, .int .i64 t, .int .i64 s]] w fun e w' => e = .returned (.bool (!hpB ⟨x, y, f, t, s⟩)) ∧ Below w.heap.size w w' := by
  have HS : Hid (∀ W, Calls Try.prog 33 #[.agg #[.int .i64 x, .int .i64 y, .int .i64 f, .int .i64 t, .int .i64 s]] W fun e w' => e = .returned (.bool (hpB ⟨x, y, f, t, s⟩)) ∧ Below W.heap.size W w') := fun W => impHp_any x y f t s W
  generalize hpB ⟨x, y, f, t, s⟩ = b at *
  go_enter Try.func32, Try.ntmps32
  go_wp2_with (go_at_call 33; refine (HS.out _).mono ?_; rintro e w2 ⟨rfl, hb2⟩)
  go_ret
  exact ⟨rfl, chain (below_alloc _ _) hb2⟩
set_option maxHeartbeats 2000000 in
theorem hpIndex_any (ad : Option Addr) (cap : Nat) (rs : List RHp) (hl : rs.length ≤ 100000000) (w : World) (hr : ReadsHp w.heap.size w ad rs) :
    Calls Try.prog 53 #[.slice ad rs.length cap, .func (.func 32) #[] #[]] w fun e w' => (∃ x : Int, e = .returned (.int .i64 x) ∧ decide (0 ≤ x) = !hpsB rs) ∧ Below w.heap.size w w' := by
  have HR : Hid (ReadsHp w.heap.size w ad rs) := hr
  have HC : Hid (∀ x y f t s W, Calls Try.prog 32 #[.agg #[.int .i64 x, .int .i64 y, .int .i64 f, .int .i64 t, .int .i64 s]] W fun e w' => e = .returned (.bool (!hpB ⟨x, y, f, t, s⟩)) ∧ Below W.heap.size W w') := fun x y f t s W => impHpNot_any x y f t s W
  clear hr
  go_enter Try.func53, Try.ntmps53
  go_wp2
  go_loopw [5, 8] (fun _ c wr => ∃ k : Nat, k ≤ rs.length ∧ c = .int .i64 (k : Int) ∧ hpsB (rs.take k) = true ∧ Below w.heap.size w wr) (fun _ c _ => rs.length - (intOf c).toNat)
  case atStart => exact ⟨0, Nat.zero_le _, rfl, rfl, Below.refl _ _⟩
  case round =>
    obtain ⟨k, hk, rfl, hf, hb⟩ := hrel
    have HF : Hid (hpsB (rs.take k) = true) := hf
    have HB : Hid (Below w.heap.size w wr) := hb
    clear hf hb
    by_cases hlt : k < rs.length
    · have hlt' : (k : Int) < (rs.length : Int) := by omega
      rcases HR.out with h | ⟨b0, o0, ha, hB0, ia⟩
      · rw [h] at hlt; simp at hlt
      obtain ⟨c0, c1, c2, c3, c4⟩ := (ia.below HB.out hB0) k hlt
      have HX : Hid (hpB (rs.getD k zHp) = false → hpsB rs = false) := fun h => hps_fail hlt h
      have HN : Hid (hpsB (rs.take (k + 1)) = (hpsB (rs.take k) && hpB (rs.getD k zHp))) := hps_take rs k hlt
      have hm := HC.out (rs.getD k zHp).x (rs.getD k zHp).y (rs.getD k zHp).fr (rs.getD k zHp).to (rs.getD k zHp).sy wr
      rw [ha]
      clear ia
      generalize rs.getD k zHp = q at *
      obtain ⟨q0, q1, q2, q3, q4⟩ := q
      dsimp only at *
      generalize hpB ⟨q0, q1, q2, q3, q4⟩ = mb at *
      cases mb
      · go_wp2_with (go_at_call 32; refine hm.mono ?_; rintro e w2 ⟨rfl, hb2⟩)
        go_ret
        exact ⟨⟨(k : Int), rfl, by rw [HX.out trivial]; exact decide_eq_true (by omega)⟩, chain HB.out hb2⟩
      · go_wp2_with (go_at_call 32; refine hm.mono ?_; rintro e w2 ⟨rfl, hb2⟩)
        exact ⟨⟨k + 1, by omega, by go_num, by rw [HN.out, HF.out]; rfl, chain HB.out hb2⟩, by simp [intOf]; omega⟩
    · have hle : (rs.length : Int) ≤ (k : Int) := by omega
      have HE : Hid (hpsB rs = true) := by have := HF.out; rwa [List.take_of_length_le (by omega)] at this
      go_wp2
      go_ret
      exact ⟨⟨-1, rfl, by rw [HE.out]; rfl⟩, HB.out⟩
theorem hpContains_any (ad : Option Addr) (cap : Nat) (rs : List RHp) (hl : rs.length ≤ 100000000) (w : World) (hr : ReadsHp w.heap.size w ad rs) :
    Calls Try.prog 31 #[.slice ad rs.length cap, .func (.func 32) #[] #[]] w fun e w' => e = .returned (.bool (!hpsB rs)) ∧ Below w.heap.size w w' := by
  have hi := hpIndex_any ad cap rs hl w hr
  clear hr
  go_enter Try.func31, Try.ntmps31
  go_wp2_with (go_at_call 53; refine hi.mono ?_; rintro e w2 ⟨⟨x, rfl, hx⟩, hb2⟩; have HX : Hid (decide (0 ≤ x) = !hpsB rs) := hx; clear hx)
  go_ret
  exact ⟨ret_bool HX.out, hb2⟩
/-- The program's StopsOK, for all lists. -/
theorem impStops_any (ad : Option Addr) (cap : Nat) (rs : List RHp) (hl : rs.length ≤ 100000000) (w : World) (hr : ReadsHp w.heap.size w ad rs) :
    Calls Try.prog 8 #[.slice ad rs.length cap] w fun e w' => e = .returned (.bool (stB rs)) ∧ Below w.heap.size w w' := by
  have HC : Hid (∀ W, Below w.heap.size w W → Calls Try.prog 31 #[.slice ad rs.length cap, .func (.func 32) #[] #[]] W fun e w' => e = .returned (.bool (!hpsB rs)) ∧ Below W.heap.size W w') := fun W hb => hpContains_any ad cap rs hl W ((hr.below hb).mono hb.size)
  clear hr
  by_cases h7 : 7 < rs.length
  · have e0 : stB rs = false := by unfold stB; rw [if_pos h7]
    rw [e0]
    have h7' : ¬ (rs.length : Int) ≤ 7 := by omega
    clear h7 e0 HC
    go_enter Try.func8, Try.ntmps8
    go_wp2
    go_ret
    exact ⟨rfl, Below.refl _ _⟩
  · have e0 : stB rs = hpsB rs := by unfold stB; rw [if_neg h7]
    rw [e0]
    have h7' : (rs.length : Int) ≤ 7 := by omega
    clear e0
    generalize hpsB rs = b at *
    go_enter Try.func8, Try.ntmps8
    go_wp2_with (go_at_call 31; refine (HC.out _ (Below.refl _ _)).mono ?_; rintro e w2 ⟨rfl, hb2⟩)
    go_ret
    exact ⟨ret_bool (by cases b <;> rfl), hb2⟩
set_option maxHeartbeats 4000000 in
/-- The specification's StopsOK, for all lists. -/
theorem specStops_any (ad : Option Addr) (cap : Nat) (rs : List RHp) (hl : rs.length ≤ 100000000) (w : World) (hr : ReadsHp w.heap.size w ad rs) :
    Calls Try.prog 55 #[.slice ad rs.length cap] w fun e w' => e = .returned (.bool (stB rs)) ∧ Below w.heap.size w w' := by
  have HR : Hid (ReadsHp w.heap.size w ad rs) := hr
  clear hr
  by_cases h7 : 7 < rs.length
  · have e0 : stB rs = false := by unfold stB; rw [if_pos h7]
    rw [e0]
    have h7' : (7 : Int) < (rs.length : Int) := by omega
    clear h7 e0
    go_enter Try.func55, Try.ntmps55
    go_wp2
    go_ret
    exact ⟨rfl, Below.refl _ _⟩
  have e0 : stB rs = hpsB rs := by unfold stB; rw [if_neg h7]
  rw [e0]
  have h7' : ¬ (7 : Int) < (rs.length : Int) := by omega
  clear e0
  obtain ⟨res, hres⟩ : ∃ res, hpsB rs = res := ⟨_, rfl⟩
  have HE : Hid (hpsB rs = res) := hres
  rw [hres]
  clear hres
  go_enter Try.func55, Try.ntmps55
  go_wp2
  go_loopw [3] (fun c wr => ∃ k : Nat, k ≤ rs.length ∧ c = .int .i64 (k : Int) ∧ hpsB (rs.take k) = true ∧ Below w.heap.size w wr) (fun c _ => rs.length - (intOf c).toNat)
  case atStart => exact ⟨0, Nat.zero_le _, rfl, rfl, Below.refl _ _⟩
  case round =>
    obtain ⟨k, hk, rfl, hf, hb⟩ := hrel
    have HF : Hid (hpsB (rs.take k) = true) := hf
    have HB : Hid (Below w.heap.size w wr) := hb
    clear hf hb
    by_cases hlt : k < rs.length
    · have hlt' : (k : Int) < (rs.length : Int) := by omega
      rcases HR.out with h | ⟨b0, o0, ha, hB0, ia⟩
      · rw [h] at hlt; simp at hlt
      obtain ⟨c0, c1, c2, c3, c4⟩ := (ia.below HB.out hB0) k hlt
      have HX : Hid (hpB (rs.getD k zHp) = false → res = false) := fun h => by rw [← HE.out]; exact hps_fail hlt h
      have HN : Hid (hpB (rs.getD k zHp) = true → hpsB (rs.take (k + 1)) = true) := fun h => by rw [hps_take rs k hlt, HF.out, h]; rfl
      rw [ha]
      clear ia
      generalize rs.getD k zHp = q at *
      have hw := hp_ways q
      obtain ⟨q0, q1, q2, q3, q4⟩ := q
      dsimp only at *
      generalize hpB ⟨q0, q1, q2, q3, q4⟩ = mb at *
      rcases hw with ⟨h1, hm⟩ | ⟨h1, h2, hm⟩ | ⟨h1, h2, h3, hm⟩ | ⟨h1, h2, h3, h4, hm⟩ | ⟨h1, h2, h3, h4, h5, hm⟩ | ⟨h1, h2, h3, h4, h5, hm⟩
      · have HRes : Hid (res = false) := HX.out hm
        clear HX HN hm
        go_wp2_with (go_at_call 56; refine (in_any _ _ _ _).mono ?_; rintro e w2 ⟨rfl, rfl⟩; rw [h1])
        go_ret
        exact ⟨ret_bool HRes.out.symm, chain HB.out (below_alloc _ _)⟩
      · have HRes : Hid (res = false) := HX.out hm
        clear HX HN hm
        go_wp2_with (go_at_call 56; refine (in_any _ _ _ _).mono ?_; rintro e w2 ⟨rfl, rfl⟩; first | rw [h1] | rw [h2])
        go_ret
        exact ⟨ret_bool HRes.out.symm, chain HB.out (below_alloc _ _)⟩
      · have HRes : Hid (res = false) := HX.out hm
        clear HX HN hm
        go_wp2_with (go_at_call 56; refine (in_any _ _ _ _).mono ?_; rintro e w2 ⟨rfl, rfl⟩; first | rw [h1] | rw [h2])
        go_ret
        exact ⟨ret_bool HRes.out.symm, chain HB.out (below_alloc _ _)⟩
      · have HRes : Hid (res = false) := HX.out hm
        clear HX HN hm
        go_wp2_with (go_at_call 56; refine (in_any _ _ _ _).mono ?_; rintro e w2 ⟨rfl, rfl⟩; first | rw [h1] | rw [h2])
        go_ret
        exact ⟨ret_bool HRes.out.symm, chain HB.out (below_alloc _ _)⟩
      · have HRes : Hid (res = false) := HX.out hm
        clear HX HN hm
        go_wp2_with (go_at_call 56; refine (in_any _ _ _ _).mono ?_; rintro e w2 ⟨rfl, rfl⟩; first | rw [h1] | rw [h2])
        go_ret
        exact ⟨ret_bool HRes.out.symm, chain HB.out (below_alloc _ _)⟩
      · have HM : Hid (inB q4 0 1000 = mb) := hm
        clear hm
        cases mb
        · have HRes : Hid (res = false) := HX.out (by trivial)
          clear HX HN
          go_wp2_with (go_at_call 56; refine (in_any _ _ _ _).mono ?_; rintro e w2 ⟨rfl, rfl⟩; first | rw [h1] | rw [h2] | rw [HM.out])
          go_ret
          exact ⟨ret_bool HRes.out.symm, chain HB.out (below_alloc _ _)⟩
        · have HNx : Hid (hpsB (rs.take (k + 1)) = true) := HN.out (by trivial)
          clear HX HN
          go_wp2_with (go_at_call 56; refine (in_any _ _ _ _).mono ?_; rintro e w2 ⟨rfl, rfl⟩; first | rw [h1] | rw [h2] | rw [HM.out])
          exact ⟨⟨k + 1, by omega, by go_num, HNx.out, chain HB.out (below_alloc _ _)⟩, by simp [intOf]; omega⟩
    · have hle : (rs.length : Int) ≤ (k : Int) := by omega
      have HRes : Hid (res = true) := by
        have := HF.out
        rw [List.take_of_length_le (by omega), HE.out] at this
        exact this
      go_wp2
      go_ret
      exact ⟨ret_bool HRes.out.symm, HB.out⟩
end Go.Proofs.Ytoogphkojofkfaa

/-
  Facings that are right, as a function of what they hold; contracts of the program's span.has, Facing.right, of the library's slices.ContainsFunc at them.
-/
import Derived.Test.YtphefbaogfknoaaFcE
import Derived.Test.YtphefbaogfknoaaDlC
import Derived.Test.YtphefbaogfknoaaRowS
import Derived.Test.YtphefbaogfknoaaRowG
namespace Go.Proofs.Ytphefbaogfknoaa
open Go.ChangeShapes Go.WideShapes Go.ChangeAt Go.RowKit Go.Deep
set_option linter.unusedVariables false

def gsB (gs : List Int) : Bool := gs.all (fun g => inB g 0 100000)
/-- One facing is right (its name aside). -/
def fcOne (c : CFc) : Bool := inB (c.gs.length : Int) 1 6 && (inB c.wd 1 2000 && (inB c.ls 0 (c.gs.length : Int) && gsB c.gs))
def fcAll (cs : List CFc) : Bool := if 12 < cs.length then false else diffB (cs.map (·.nm)) && cs.all fcOne
theorem inB_ways (n lo hi : Int) : (inB n lo hi = false ∧ (n < lo ∨ hi < n)) ∨ (inB n lo hi = true ∧ lo ≤ n ∧ n ≤ hi) := by
  unfold inB
  by_cases h : lo ≤ n ∧ n ≤ hi
  · exact .inr ⟨decide_eq_true h, h⟩
  · exact .inl ⟨decide_eq_false h, by omega⟩
theorem gs_take (gs : List Int) (k : Nat) (h : k < gs.length) : gsB (gs.take (k + 1)) = (gsB (gs.take k) && inB (gs.getD k 0) 0 100000) := by
  unfold gsB
  rw [List.take_succ_eq_append_getElem h, List.all_append]
  have e : gs.getD k 0 = gs[k] := by simp [List.getD_eq_getElem?_getD, h]
  rw [e]; simp
theorem gs_fail {gs : List Int} {k : Nat} (h : k < gs.length) (hp : inB (gs.getD k 0) 0 100000 = false) : gsB gs = false := by
  have e : gs.getD k 0 = gs[k] := by simp [List.getD_eq_getElem?_getD, h]
  rw [e] at hp
  unfold gsB
  rw [List.all_eq_false]
  exact ⟨gs[k], List.getElem_mem _, by simp [hp]⟩

theorem fcSpan_any (a b n : Int) (w : World) :
    Calls Try.prog 51 #[.agg #[.int .i64 a, .int .i64 b], .int .i64 n] w fun e w' => e = .returned (.bool (inB n a b)) ∧ Below w.heap.size w w' := by
  unfold inB
  rcases (by omega : n < a ∨ (a ≤ n ∧ b < n) ∨ (a ≤ n ∧ n ≤ b)) with h1 | ⟨h1, h2⟩ | ⟨h1, h2⟩
  all_goals
    go_enter Try.func51, Try.ntmps51
    go_wp2
    go_ret
    refine ⟨ret_bool ?_, below_alloc _ _⟩
    rw [Bool.eq_iff_iff]
    simp <;> omega
/-- The closure over the numbers that a gain may be. -/
theorem gainNot_any (x : Int) (sb : Nat) (w : World) (h0 : w.cell? ⟨sb, 0, none⟩ = some (.int .i64 0)) (h1 : w.cell? ⟨sb, 1, none⟩ = some (.int .i64 100000)) :
    Calls Try.prog 61 #[.int .i64 x, .pointer (some ⟨sb, 0, none⟩)] w fun e w' => e = .returned (.bool (!inB x 0 100000)) ∧ Below w.heap.size w w' := by
  have HS : Hid (∀ W, Calls Try.prog 51 #[.agg #[.int .i64 0, .int .i64 100000], .int .i64 x] W fun e w' => e = .returned (.bool (inB x 0 100000)) ∧ Below W.heap.size W w') := fun W => fcSpan_any 0 100000 x W
  generalize inB x 0 100000 = b at *
  go_enter Try.func61, Try.ntmps61
  go_wp2_with (go_at_call 51; refine (HS.out _).mono ?_; rintro e w2 ⟨rfl, hb2⟩)
  go_ret
  exact ⟨rfl, hb2⟩
set_option maxHeartbeats 2000000 in
theorem gsIndex_any (a : Option Addr) (cap : Nat) (gs : List Int) (hl : gs.length ≤ 100000000) (sb : Nat) (w : World) (hr : Reads w.heap.size w a gs) (hs : sb < w.heap.size) (h0 : w.cell? ⟨sb, 0, none⟩ = some (.int .i64 0)) (h1 : w.cell? ⟨sb, 1, none⟩ = some (.int .i64 100000)) :
    Calls Try.prog 70 #[.slice a gs.length cap, .func (.func 61) #[] #[.pointer (some ⟨sb, 0, none⟩)]] w fun e w' => (∃ x : Int, e = .returned (.int .i64 x) ∧ decide (0 ≤ x) = !gsB gs) ∧ Below w.heap.size w w' := by
  have HR : Hid (Reads w.heap.size w a gs) := hr
  have HC : Hid (∀ x W, Below w.heap.size w W → Calls Try.prog 61 #[.int .i64 x, .pointer (some ⟨sb, 0, none⟩)] W fun e w' => e = .returned (.bool (!inB x 0 100000)) ∧ Below W.heap.size W w') := fun x W hb => gainNot_any x sb W ((hb.cell (p := ⟨sb, 0, none⟩) hs).trans h0) ((hb.cell (p := ⟨sb, 1, none⟩) hs).trans h1)
  clear hr h0 h1 hs
  go_enter Try.func70, Try.ntmps70
  go_wp2
  go_loopw [5, 8] (fun _ c wr => ∃ k : Nat, k ≤ gs.length ∧ c = .int .i64 (k : Int) ∧ gsB (gs.take k) = true ∧ Below w.heap.size w wr) (fun _ c _ => gs.length - (intOf c).toNat)
  case atStart => exact ⟨0, Nat.zero_le _, rfl, rfl, Below.refl _ _⟩
  case round =>
    obtain ⟨k, hk, rfl, hf, hb⟩ := hrel
    have HF : Hid (gsB (gs.take k) = true) := hf
    have HB : Hid (Below w.heap.size w wr) := hb
    clear hf hb
    by_cases hlt : k < gs.length
    · have hlt' : (k : Int) < (gs.length : Int) := by omega
      rcases HR.out with h | ⟨b0, o0, ha, hB0, ia⟩
      · rw [h] at hlt; simp at hlt
      have c0 := (ia.below HB.out hB0) k hlt
      have HX : Hid (inB (gs.getD k 0) 0 100000 = false → gsB gs = false) := fun h => gs_fail hlt h
      have HN : Hid (gsB (gs.take (k + 1)) = (gsB (gs.take k) && inB (gs.getD k 0) 0 100000)) := gs_take gs k hlt
      have hm := HC.out (gs.getD k 0) wr HB.out
      rw [ha]
      clear ia
      generalize gs.getD k 0 = q at *
      generalize inB q 0 100000 = mb at *
      cases mb
      · go_wp2_with (go_at_call 61; refine hm.mono ?_; rintro e w2 ⟨rfl, hb2⟩)
        go_ret
        exact ⟨⟨(k : Int), rfl, by rw [HX.out trivial]; exact decide_eq_true (by omega)⟩, chain HB.out hb2⟩
      · go_wp2_with (go_at_call 61; refine hm.mono ?_; rintro e w2 ⟨rfl, hb2⟩)
        exact ⟨⟨k + 1, by omega, by go_num, by rw [HN.out, HF.out]; rfl, chain HB.out hb2⟩, by simp [intOf]; omega⟩
    · have hle : (gs.length : Int) ≤ (k : Int) := by omega
      have HE : Hid (gsB gs = true) := by have := HF.out; rwa [List.take_of_length_le (by omega)] at this
      go_wp2
      go_ret
      exact ⟨⟨-1, rfl, by rw [HE.out]; rfl⟩, HB.out⟩
theorem gsContains_any (a : Option Addr) (cap : Nat) (gs : List Int) (hl : gs.length ≤ 100000000) (sb : Nat) (w : World) (hr : Reads w.heap.size w a gs) (hs : sb < w.heap.size) (h0 : w.cell? ⟨sb, 0, none⟩ = some (.int .i64 0)) (h1 : w.cell? ⟨sb, 1, none⟩ = some (.int .i64 100000)) :
    Calls Try.prog 60 #[.slice a gs.length cap, .func (.func 61) #[] #[.pointer (some ⟨sb, 0, none⟩)]] w fun e w' => e = .returned (.bool (!gsB gs)) ∧ Below w.heap.size w w' := by
  have hi := gsIndex_any a cap gs hl sb w hr hs h0 h1
  clear hr h0 h1
  go_enter Try.func60, Try.ntmps60
  go_wp2_with (go_at_call 70; refine hi.mono ?_; rintro e w2 ⟨⟨x, rfl, hx⟩, hb2⟩; have HX : Hid (decide (0 ≤ x) = !gsB gs) := hx; clear hx)
  go_ret
  exact ⟨ret_bool HX.out, hb2⟩
theorem fcOne_ways (c : CFc) : (inB (c.gs.length : Int) 1 6 = false ∧ fcOne c = false) ∨ (inB (c.gs.length : Int) 1 6 = true ∧ inB c.wd 1 2000 = false ∧ fcOne c = false) ∨ (inB (c.gs.length : Int) 1 6 = true ∧ inB c.wd 1 2000 = true ∧ c.ls < 0 ∧ fcOne c = false) ∨ (inB (c.gs.length : Int) 1 6 = true ∧ inB c.wd 1 2000 = true ∧ 0 ≤ c.ls ∧ (c.gs.length : Int) < c.ls ∧ fcOne c = false) ∨ (inB (c.gs.length : Int) 1 6 = true ∧ inB c.wd 1 2000 = true ∧ 0 ≤ c.ls ∧ c.ls ≤ (c.gs.length : Int) ∧ fcOne c = gsB c.gs) := by
  unfold fcOne
  cases h1 : inB (c.gs.length : Int) 1 6
  · exact .inl ⟨rfl, rfl⟩
  cases h2 : inB c.wd 1 2000
  · exact .inr (.inl ⟨rfl, rfl, rfl⟩)
  rcases inB_ways c.ls 0 (c.gs.length : Int) with ⟨h3, h4⟩ | ⟨h3, h4, h5⟩
  · rw [h3]
    by_cases h : c.ls < 0
    · exact .inr (.inr (.inl ⟨rfl, rfl, h, rfl⟩))
    · exact .inr (.inr (.inr (.inl ⟨rfl, rfl, by omega, by omega, rfl⟩)))
  · rw [h3]
    exact .inr (.inr (.inr (.inr ⟨rfl, rfl, h4, h5, rfl⟩)))
theorem four_alloc (w : World) (a b c d : Obj) : ((((w.alloc a).alloc b).alloc c).alloc d).heap[w.heap.size]? = some a ∧ ((((w.alloc a).alloc b).alloc c).alloc d).heap[w.heap.size + 1]? = some b ∧ ((((w.alloc a).alloc b).alloc c).alloc d).heap[w.heap.size + 1 + 1]? = some c ∧ ((((w.alloc a).alloc b).alloc c).alloc d).heap[w.heap.size + 1 + 1 + 1]? = some d := by
  have h2 := heapNew (w.alloc a) b
  have h3 := heapNew ((w.alloc a).alloc b) c
  have h4 := heapNew (((w.alloc a).alloc b).alloc c) d
  simp only [World.size_alloc] at h2 h3 h4
  refine ⟨?_, ?_, ?_, h4⟩
  · rw [Below.heap_alloc _ _ _ (by simp only [World.size_alloc]; omega), Below.heap_alloc _ _ _ (by simp only [World.size_alloc]; omega), Below.heap_alloc _ _ _ (by simp only [World.size_alloc]; omega)]; exact heapNew w a
  · rw [Below.heap_alloc _ _ _ (by simp only [World.size_alloc]; omega), Below.heap_alloc _ _ _ (by simp only [World.size_alloc]; omega)]; exact h2
  · rw [Below.heap_alloc _ _ _ (by simp only [World.size_alloc]; omega)]; exact h3
set_option maxHeartbeats 4000000 in
theorem right_any (c : CFc) (h : Option Addr) (cp : Nat) (hok : FcOK c) (w : World) (hr : Reads w.heap.size w h c.gs) :
    Calls Try.prog 39 #[.agg #[.string c.nm, .int .i64 c.wd, .int .i64 c.ls, .slice h c.gs.length cp]] w fun e w' => e = .returned (.bool (fcOne c)) ∧ Below w.heap.size w w' := by
  have HC : Hid (∀ sb W, Below w.heap.size w W → sb < W.heap.size → W.cell? ⟨sb, 0, none⟩ = some (.int .i64 0) → W.cell? ⟨sb, 1, none⟩ = some (.int .i64 100000) → Calls Try.prog 60 #[.slice h c.gs.length cp, .func (.func 61) #[] #[.pointer (some ⟨sb, 0, none⟩)]] W fun e w' => e = .returned (.bool (!gsB c.gs)) ∧ Below W.heap.size W w') := fun sb W hb h1 h2 h3 => gsContains_any h cp c.gs (by have := hok.2; omega) sb W (hr.later hb) h1 h2 h3
  have HS1 : Hid (∀ W, Calls Try.prog 51 #[.agg #[.int .i64 1, .int .i64 6], .int .i64 (c.gs.length : Int)] W fun e w' => e = .returned (.bool (inB (c.gs.length : Int) 1 6)) ∧ Below W.heap.size W w') := fun W => fcSpan_any 1 6 _ W
  have HS2 : Hid (∀ W, Calls Try.prog 51 #[.agg #[.int .i64 1, .int .i64 2000], .int .i64 c.wd] W fun e w' => e = .returned (.bool (inB c.wd 1 2000)) ∧ Below W.heap.size W w') := fun W => fcSpan_any 1 2000 _ W
  have HW := fcOne_ways c
  clear hr hok
  obtain ⟨nm, wd, ls, gs⟩ := c
  dsimp only at *
  generalize fcOne ⟨nm, wd, ls, gs⟩ = ob at *
  generalize gsB gs = gb at *
  generalize gs.length = n at *
  generalize inB (n : Int) 1 6 = b1 at *
  generalize inB wd 1 2000 = b2 at *
  obtain ⟨W0, hW0⟩ : ∃ W0, W0 = (((w.alloc (Obj.cells #[.string nm, .int .i64 wd, .int .i64 ls, .slice h n cp] 51)).alloc (Obj.cells #[.int .i64 1, .int .i64 6] 79)).alloc (Obj.cells #[.int .i64 1, .int .i64 2000] 79)).alloc (Obj.cells #[.int .i64 0, .int .i64 100000] 79) := ⟨_, rfl⟩
  have HW0 : Hid (W0 = (((w.alloc (Obj.cells #[.string nm, .int .i64 wd, .int .i64 ls, .slice h n cp] 51)).alloc (Obj.cells #[.int .i64 1, .int .i64 6] 79)).alloc (Obj.cells #[.int .i64 1, .int .i64 2000] 79)).alloc (Obj.cells #[.int .i64 0, .int .i64 100000] 79)) := hW0
  have HB0 : Hid (Below w.heap.size w W0) := by show Below _ _ _; rw [hW0]; repeat (first | exact Below.refl _ _ | refine chain ?_ (below_alloc _ _))
  have HF : Hid (∀ W, Below W0.heap.size W0 W → (W.cell? ⟨w.heap.size, 1, none⟩ = some (.int .i64 wd) ∧ W.cell? ⟨w.heap.size, 2, none⟩ = some (.int .i64 ls) ∧ W.cell? ⟨w.heap.size, 3, none⟩ = some (.slice h n cp)) ∧ (W.cell? ⟨w.heap.size + 1, 0, none⟩ = some (.int .i64 1) ∧ W.cell? ⟨w.heap.size + 1, 1, none⟩ = some (.int .i64 6)) ∧ (W.cell? ⟨w.heap.size + 1 + 1, 0, none⟩ = some (.int .i64 1) ∧ W.cell? ⟨w.heap.size + 1 + 1, 1, none⟩ = some (.int .i64 2000)) ∧ (W.cell? ⟨w.heap.size + 1 + 1 + 1, 0, none⟩ = some (.int .i64 0) ∧ W.cell? ⟨w.heap.size + 1 + 1 + 1, 1, none⟩ = some (.int .i64 100000)) ∧ w.heap.size + 1 + 1 + 1 < W.heap.size) := fun W hb => by
    have hz : W0.heap.size = w.heap.size + 4 := by rw [hW0]; simp
    have hc : ∀ k o, k < w.heap.size + 4 → W.cell? ⟨k, o, none⟩ = W0.cell? ⟨k, o, none⟩ := fun k o hk => hb.cell (p := ⟨k, o, none⟩) (by show k < _; omega)
    have hs := hb.size
    obtain ⟨f1, f2, f3, f4⟩ := four_alloc w (Obj.cells #[.string nm, .int .i64 wd, .int .i64 ls, .slice h n cp] 51) (Obj.cells #[.int .i64 1, .int .i64 6] 79) (Obj.cells #[.int .i64 1, .int .i64 2000] 79) (Obj.cells #[.int .i64 0, .int .i64 100000] 79)
    rw [← hW0] at f1 f2 f3 f4
    refine ⟨⟨?_, ?_, ?_⟩, ⟨?_, ?_⟩, ⟨?_, ?_⟩, ⟨?_, ?_⟩, by omega⟩
    · rw [hc _ _ (by omega)]; exact blkCell f1 1 _ rfl
    · rw [hc _ _ (by omega)]; exact blkCell f1 2 _ rfl
    · rw [hc _ _ (by omega)]; exact blkCell f1 3 _ rfl
    · rw [hc _ _ (by omega)]; exact blkCell f2 0 _ rfl
    · rw [hc _ _ (by omega)]; exact blkCell f2 1 _ rfl
    · rw [hc _ _ (by omega)]; exact blkCell f3 0 _ rfl
    · rw [hc _ _ (by omega)]; exact blkCell f3 1 _ rfl
    · rw [hc _ _ (by omega)]; exact blkCell f4 0 _ rfl
    · rw [hc _ _ (by omega)]; exact blkCell f4 1 _ rfl
  clear hW0
  rcases HW with ⟨rfl, rfl⟩ | ⟨rfl, rfl, rfl⟩ | ⟨rfl, rfl, h3, rfl⟩ | ⟨rfl, rfl, h3, h4, rfl⟩ | ⟨rfl, rfl, h3, h4, rfl⟩
  all_goals
    go_enter Try.func39, Try.ntmps39
    go_upto_region 2 with fail
    rw [← HW0.out]
    clear HW0
    obtain ⟨⟨k1, k2, k3⟩, ⟨m0, m1⟩, _⟩ := HF.out W0 (Below.refl _ _)
    go_wp2_with fail
    (first | go_at_call 51 | skip)
    refine (HS1.out _).mono ?_
    rintro e w2 ⟨rfl, hb2⟩
    clear k1 k2 k3 m0 m1
    have HB2 : Hid (Below W0.heap.size W0 w2) := hb2
    clear hb2
  · go_wp2_with fail
    go_ret
    exact ⟨rfl, chain HB0.out HB2.out⟩
  all_goals
    obtain ⟨⟨k1, k2, k3⟩, _, ⟨m0, m1⟩, _⟩ := HF.out w2 HB2.out
    go_wp2_with fail
    (first | go_at_call 51 | skip)
    refine (HS2.out _).mono ?_
    rintro e w3 ⟨rfl, hb3⟩
    clear k1 k2 k3 m0 m1
    have HB3 : Hid (Below W0.heap.size W0 w3) := chain HB2.out hb3
    clear hb3
  · go_wp2_with fail
    go_ret
    exact ⟨rfl, chain HB0.out HB3.out⟩
  · obtain ⟨⟨k1, k2, k3⟩, _⟩ := HF.out w3 HB3.out
    go_wp2_with fail
    go_ret
    exact ⟨rfl, chain HB0.out HB3.out⟩
  · obtain ⟨⟨k1, k2, k3⟩, _⟩ := HF.out w3 HB3.out
    have h3' : ¬ ls < 0 := by omega
    go_wp2_with fail
    go_ret
    exact ⟨rfl, chain HB0.out HB3.out⟩
  · obtain ⟨⟨k1, k2, k3⟩, _, _, ⟨m0, m1⟩, hz⟩ := HF.out w3 HB3.out
    have HM : Hid (w.heap.size + 1 + 1 + 1 < w3.heap.size ∧ w3.cell? ⟨w.heap.size + 1 + 1 + 1, 0, none⟩ = some (.int .i64 0) ∧ w3.cell? ⟨w.heap.size + 1 + 1 + 1, 1, none⟩ = some (.int .i64 100000)) := ⟨hz, m0, m1⟩
    have h3' : ¬ ls < 0 := by omega
    have h4' : ¬ (n : Int) < ls := by omega
    clear m0 m1 hz
    go_wp2_with fail
    (first | go_at_call 60 | skip)
    refine (HC.out (w.heap.size + 1 + 1 + 1) w3 (chain HB0.out HB3.out) HM.out.1 HM.out.2.1 HM.out.2.2).mono ?_
    rintro e w4 ⟨rfl, hb4⟩
    go_wp2_with fail
    go_ret
    exact ⟨ret_bool (by simp), chain (chain HB0.out HB3.out) hb4⟩
end Go.Proofs.Ytphefbaogfknoaa

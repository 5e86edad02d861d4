/-
  Workers that are right, as a function of what they hold; contracts of the program's Worker.right, of namesOf and slices.ContainsFunc at them, and of ShiftsOK, for all lists.
-/
import Derived.Test.YteigbmdhfeagfaaWrA
import Derived.Test.YteigbmdhfeagfaaWkE
import Derived.Test.YteigbmdhfeagfaaDlC
import Derived.Test.YteigbmdhfeagfaaRowS
namespace Go.Proofs.Yteigbmdhfeagfaa
open Go.ChangeShapes Go.WideShapes Go.ChangeAt Go.RowKit Go.Deep
set_option linter.unusedVariables false

def nmsB (ss : List ByteArray) : Bool := ss.all nameB
def wkOne (c : CWk) : Bool := if 6 < c.sk.length then false else alB 0 10080 [c.ms, c.rt] && (inB c.co 0 1000 && nmsB c.sk)
theorem nms_take (r : List ByteArray) (k : Nat) (h : k < r.length) : nmsB (r.take (k + 1)) = (nmsB (r.take k) && nameB (r.getD k ByteArray.empty)) := by
  unfold nmsB
  rw [List.take_succ_eq_append_getElem h, List.all_append]
  have e : r.getD k ByteArray.empty = r[k] := by simp [List.getD_eq_getElem?_getD, h]
  rw [e]; simp
theorem nms_fail {r : List ByteArray} {k : Nat} (h : k < r.length) (hp : nameB (r.getD k ByteArray.empty) = false) : nmsB r = false := by
  have e : r.getD k ByteArray.empty = r[k] := by simp [List.getD_eq_getElem?_getD, h]
  rw [e] at hp
  unfold nmsB
  rw [List.all_eq_false]
  exact ⟨r[k], List.getElem_mem _, by simp [hp]⟩
theorem nmNot_any (s : ByteArray) (hs : s.size ≤ 2000000) (w : World) :
    Calls Try.prog 63 #[.string s] w fun e w' => e = .returned (.bool (!nameB s)) ∧ Below w.heap.size w w' := by
  have HS : Hid (∀ W, Calls Try.prog 59 #[.string s] W fun e w' => e = .returned (.bool (nameB s)) ∧ Below W.heap.size W w') := fun W => implName_any s (by unfold maxLen; omega) W
  generalize nameB s = b at *
  go_enter Try.func63, Try.ntmps63
  go_wp2_with (go_at_call 59; refine (HS.out _).mono ?_; rintro e w2 ⟨rfl, hb2⟩)
  go_ret
  exact ⟨rfl, hb2⟩
set_option maxHeartbeats 2000000 in
theorem nmIndex_any (a : Option Addr) (cap : Nat) (gs : List ByteArray) (hl : gs.length ≤ 100000000) (hp : ∀ s ∈ gs, s.size ≤ 2000000) (w : World) (hr : ReadsS w.heap.size w a gs) :
    Calls Try.prog 76 #[.slice a gs.length cap, .func (.func 63) #[] #[]] w fun e w' => (∃ x : Int, e = .returned (.int .i64 x) ∧ decide (0 ≤ x) = !nmsB gs) ∧ Below w.heap.size w w' := by
  have HR : Hid (ReadsS w.heap.size w a gs) := hr
  have HC : Hid (∀ s W, s.size ≤ 2000000 → Calls Try.prog 63 #[.string s] W fun e w' => e = .returned (.bool (!nameB s)) ∧ Below W.heap.size W w') := fun s W hs => nmNot_any s hs W
  have HOK : Hid (∀ s ∈ gs, s.size ≤ 2000000) := hp
  clear hr hp
  go_enter Try.func76, Try.ntmps76
  go_wp2
  go_loopw [5, 8] (fun _ c wr => ∃ k : Nat, k ≤ gs.length ∧ c = .int .i64 (k : Int) ∧ nmsB (gs.take k) = true ∧ Below w.heap.size w wr) (fun _ c _ => gs.length - (intOf c).toNat)
  case atStart => exact ⟨0, Nat.zero_le _, rfl, rfl, Below.refl _ _⟩
  case round =>
    obtain ⟨k, hk, rfl, hf, hb⟩ := hrel
    have HF : Hid (nmsB (gs.take k) = true) := hf
    have HB : Hid (Below w.heap.size w wr) := hb
    clear hf hb
    by_cases hlt : k < gs.length
    · have hlt' : (k : Int) < (gs.length : Int) := by omega
      rcases HR.out with h | ⟨b0, o0, ha, hB0, ia⟩
      · rw [h] at hlt; simp at hlt
      have c0 := (ia.below HB.out hB0) k hlt
      have HX : Hid (nameB (gs.getD k ByteArray.empty) = false → nmsB gs = false) := fun h => nms_fail hlt h
      have HN : Hid (nmsB (gs.take (k + 1)) = (nmsB (gs.take k) && nameB (gs.getD k ByteArray.empty))) := nms_take gs k hlt
      have hm := HC.out (gs.getD k ByteArray.empty) wr (getS HOK.out hlt)
      rw [ha]
      clear ia
      generalize gs.getD k ByteArray.empty = q at *
      generalize nameB q = mb at *
      cases mb
      · go_wp2_with (go_at_call 63; refine hm.mono ?_; rintro e w2 ⟨rfl, hb2⟩)
        go_ret
        exact ⟨⟨(k : Int), rfl, by rw [HX.out trivial]; exact decide_eq_true (by omega)⟩, chain HB.out hb2⟩
      · go_wp2_with (go_at_call 63; refine hm.mono ?_; rintro e w2 ⟨rfl, hb2⟩)
        exact ⟨⟨k + 1, by omega, by go_num, by rw [HN.out, HF.out]; rfl, chain HB.out hb2⟩, by simp [intOf]; omega⟩
    · have hle : (gs.length : Int) ≤ (k : Int) := by omega
      have HE : Hid (nmsB gs = true) := by have := HF.out; rwa [List.take_of_length_le (by omega)] at this
      go_wp2
      go_ret
      exact ⟨⟨-1, rfl, by rw [HE.out]; rfl⟩, HB.out⟩
theorem nmContains_any (a : Option Addr) (cap : Nat) (gs : List ByteArray) (hl : gs.length ≤ 100000000) (hp : ∀ s ∈ gs, s.size ≤ 2000000) (w : World) (hr : ReadsS w.heap.size w a gs) :
    Calls Try.prog 62 #[.slice a gs.length cap, .func (.func 63) #[] #[]] w fun e w' => e = .returned (.bool (!nmsB gs)) ∧ Below w.heap.size w w' := by
  have hi := nmIndex_any a cap gs hl hp w hr
  clear hr hp
  go_enter Try.func62, Try.ntmps62
  go_wp2_with (go_at_call 76; refine hi.mono ?_; rintro e w2 ⟨⟨x, rfl, hx⟩, hb2⟩; have HX : Hid (decide (0 ≤ x) = !nmsB gs) := hx; clear hx)
  go_ret
  exact ⟨ret_bool HX.out, hb2⟩
set_option maxHeartbeats 8000000 in
set_option maxRecDepth 4000 in
theorem impWk_any (c : CWk) (h : Option Addr) (cp : Nat) (hok : WkOK c) (w : World) (hr : ReadsS w.heap.size w h c.sk) :
    Calls Try.prog 38 #[.agg #[.string c.nm, .int .i64 c.ms, .int .i64 c.rt, .int .i64 c.co, .slice h c.sk.length cp]] w fun e w' => e = .returned (.bool (wkOne c)) ∧ Below w.heap.size w w' := by
  have HC : Hid (∀ W, Below w.heap.size w W → Calls Try.prog 62 #[.slice h c.sk.length cp, .func (.func 63) #[] #[]] W fun e w' => e = .returned (.bool (!nmsB c.sk)) ∧ Below W.heap.size W w') := fun W hb => nmContains_any h cp c.sk (by have := hok.2; unfold maxLen at this; omega) (fun s hs => hok.2.2 s hs) W (hr.later hb)
  have H1 : Hid (∀ W b, W.cell? ⟨b, 0, none⟩ = some (.int .i64 c.ms) → W.cell? ⟨b, 1, none⟩ = some (.int .i64 c.rt) → b < W.heap.size → Calls Try.prog 58 #[.agg #[.int .i64 0, .int .i64 10080], .slice (some ⟨b, 0, none⟩) 2 2] W fun e w' => e = .returned (.bool (alB 0 10080 [c.ms, c.rt])) ∧ Below W.heap.size W w') := fun W b h0 h1 hb => hasAll_any 0 10080 _ 2 [c.ms, c.rt] (by simp) W (.inr ⟨b, 0, rfl, hb, fun i hi => by
    match i, hi with
    | 0, _ => exact h0
    | 1, _ => exact h1⟩)
  have H2 : Hid (∀ W, Calls Try.prog 44 #[.agg #[.int .i64 0, .int .i64 1000], .int .i64 c.co] W fun e w' => e = .returned (.bool (inB c.co 0 1000)) ∧ Below W.heap.size W w') := fun W => qSpan_any 0 1000 c.co W
  have HWk : Hid (∀ W, Calls Try.prog 57 #[] W fun e w' => e = .returned (.agg #[.int .i64 0, .int .i64 10080]) ∧ Below W.heap.size W w') := fun W => week_any W
  have HL6 : Hid (6 < c.sk.length → wkOne c = false) := fun h => by unfold wkOne; rw [if_pos h]
  have HN6 : Hid (¬ 6 < c.sk.length → wkOne c = (alB 0 10080 [c.ms, c.rt] && (inB c.co 0 1000 && nmsB c.sk))) := fun h => by unfold wkOne; rw [if_neg h]
  have hn8 : c.sk.length ≤ 100000000 := by have := hok.2; unfold maxLen at this; omega
  clear hr hok
  obtain ⟨nm, ms, rt, co, sk⟩ := c
  dsimp only at *
  generalize wkOne ⟨nm, ms, rt, co, sk⟩ = ob at *
  generalize nmsB sk = gb at *
  generalize sk.length = n at *
  generalize alB 0 10080 [ms, rt] = b1 at *
  generalize inB co 0 1000 = b2 at *
  obtain ⟨W1, hW1⟩ : ∃ W1, W1 = (w.alloc (Obj.cells #[.string nm, .int .i64 ms, .int .i64 rt, .int .i64 co, .slice h n cp] 56)).alloc (Obj.cells #[.int .i64 0, .int .i64 1000] 77) := ⟨_, rfl⟩
  have HE : Hid (W1 = (w.alloc (Obj.cells #[.string nm, .int .i64 ms, .int .i64 rt, .int .i64 co, .slice h n cp] 56)).alloc (Obj.cells #[.int .i64 0, .int .i64 1000] 77)) := hW1
  have HL : Hid (Below w.heap.size w W1) := by show Below _ _ _; rw [hW1]; exact chain (below_alloc _ _) (below_alloc _ _)
  have HCl : Hid (∀ W, Below W1.heap.size W1 W → W.cell? ⟨w.heap.size, 1, none⟩ = some (.int .i64 ms) ∧ W.cell? ⟨w.heap.size, 2, none⟩ = some (.int .i64 rt) ∧ W.cell? ⟨w.heap.size, 3, none⟩ = some (.int .i64 co) ∧ W.cell? ⟨w.heap.size, 4, none⟩ = some (.slice h n cp) ∧ W.cell? ⟨w.heap.size + 1, 0, none⟩ = some (.int .i64 0) ∧ W.cell? ⟨w.heap.size + 1, 1, none⟩ = some (.int .i64 1000)) := fun W hb => by
    have q1 : W.heap[w.heap.size]? = some (.cells #[.string nm, .int .i64 ms, .int .i64 rt, .int .i64 co, .slice h n cp] 56 (0, 0)) := (hb.block w.heap.size (by rw [hW1]; simp; omega)).trans (by rw [hW1, Below.heap_alloc _ _ _ (by simp)]; exact heapNew _ _)
    have q2 : W.heap[w.heap.size + 1]? = some (.cells #[.int .i64 0, .int .i64 1000] 77 (0, 0)) := (hb.block (w.heap.size + 1) (by rw [hW1]; simp)).trans (by
      rw [hW1]
      have := heapNew (w.alloc (Obj.cells #[.string nm, .int .i64 ms, .int .i64 rt, .int .i64 co, .slice h n cp] 56)) (Obj.cells #[.int .i64 0, .int .i64 1000] 77)
      simpa using this)
    exact ⟨blkCell q1 1 _ rfl, blkCell q1 2 _ rfl, blkCell q1 3 _ rfl, blkCell q1 4 _ rfl, blkCell q2 0 _ rfl, blkCell q2 1 _ rfl⟩
  clear hW1
  go_enter Try.func38, Try.ntmps38
  go_upto_region 2 with fail
  rw [← HE.out]
  clear HE
  refine wp_region_held_drew (S := fun W' => Below W1.heap.size W1 W') (by kernel_rfl) (below_drew _) (fun hH => ?_)
  refine wpAnyH_take (i := 0) (v := .pointer (some ⟨w.heap.size, 4, none⟩)) rfl (by kernel_rfl) (by kernel_rfl) (by kernel_rfl) (fun _ _ _ h => h) (Or.inl ⟨by rfl, fun w hSw => by clear hSw; go_simp⟩) hH ?_
  refine wpAnyH_take (i := 1) (v := .slice h n cp) rfl (by kernel_rfl) (by kernel_rfl) (by kernel_rfl) (fun _ _ _ h => h) (Or.inl ⟨by rfl, fun w hSw => by obtain ⟨f0, f1, f2, f3, f4, f5⟩ := HCl.out w hSw; clear hSw; go_simp⟩) hH ?_
  try simp only [Act.put, List.setIfInBounds_toArray, List.set_cons_zero, List.set_cons_succ, List.getElem_toArray, List.getElem_cons_succ, List.getElem_cons_zero]
  refine wpAnyH_take (i := 2) (v := .int .i64 (n : Int)) rfl (by kernel_rfl) (by kernel_rfl) (by kernel_rfl) (fun _ _ _ h => h) (Or.inl ⟨by rfl, fun w hSw => by clear hSw; go_simp⟩) hH ?_
  try simp only [Act.put, List.setIfInBounds_toArray, List.set_cons_zero, List.set_cons_succ, List.getElem_toArray, List.getElem_cons_succ, List.getElem_cons_zero]
  by_cases h6 : 6 < n
  · have e0 : ob = false := HL6.out h6
    have h6' : (6 : Int) < (n : Int) := by omega
    have e6 : decide ((6 : Int) < (n : Int)) = true := decide_eq_true h6'
    clear h6 h6'
    refine wpAnyH_take (i := 3) (v := .bool (decide ((6 : Int) < (n : Int)))) rfl (by kernel_rfl) (by kernel_rfl) (by kernel_rfl) (fun _ _ _ h => h) (Or.inl ⟨by rfl, fun w hSw => by clear hSw e6; go_simp⟩) hH ?_
    try simp only [Act.put, List.setIfInBounds_toArray, List.set_cons_zero, List.set_cons_succ, List.getElem_toArray, List.getElem_cons_succ, List.getElem_cons_zero]
    rw [e6]
    refine wpAnyH_take (i := 4) (v := .bool true) rfl (by kernel_rfl) (by kernel_rfl) (by kernel_rfl) (fun _ _ _ h => h) (Or.inl ⟨by rfl, fun w hSw => by clear hSw; go_simp⟩) hH ?_
    try simp only [Act.put, List.setIfInBounds_toArray, List.set_cons_zero, List.set_cons_succ, List.getElem_toArray, List.getElem_cons_succ, List.getElem_cons_zero]
    refine wpAnyH_take (i := 5) (v := undef) rfl (by kernel_rfl) (by kernel_rfl) (by kernel_rfl) (fun _ _ _ h => h) (Or.inr ⟨by rfl, rfl⟩) hH ?_
    try simp only [Act.put, List.setIfInBounds_toArray, List.set_cons_zero, List.set_cons_succ, List.getElem_toArray, List.getElem_cons_succ, List.getElem_cons_zero]
    refine wpAnyH_take (i := 6) (v := undef) rfl (by kernel_rfl) (by kernel_rfl) (by kernel_rfl) (fun _ _ _ h => h) (Or.inr ⟨by rfl, rfl⟩) hH ?_
    try simp only [Act.put, List.setIfInBounds_toArray, List.set_cons_zero, List.set_cons_succ, List.getElem_toArray, List.getElem_cons_succ, List.getElem_cons_zero]
    refine wpAnyH_take (i := 7) (v := undef) rfl (by kernel_rfl) (by kernel_rfl) (by kernel_rfl) (fun _ _ _ h => h) (Or.inr ⟨by rfl, rfl⟩) hH ?_
    try simp only [Act.put, List.setIfInBounds_toArray, List.set_cons_zero, List.set_cons_succ, List.getElem_toArray, List.getElem_cons_succ, List.getElem_cons_zero]
    refine wpAnyH_take (i := 8) (v := undef) rfl (by kernel_rfl) (by kernel_rfl) (by kernel_rfl) (fun _ _ _ h => h) (Or.inr ⟨by rfl, rfl⟩) hH ?_
    try simp only [Act.put, List.setIfInBounds_toArray, List.set_cons_zero, List.set_cons_succ, List.getElem_toArray, List.getElem_cons_succ, List.getElem_cons_zero]
    refine wpAnyH_take (i := 9) (v := undef) rfl (by kernel_rfl) (by kernel_rfl) (by kernel_rfl) (fun _ _ _ h => h) (Or.inr ⟨by rfl, rfl⟩) hH ?_
    try simp only [Act.put, List.setIfInBounds_toArray, List.set_cons_zero, List.set_cons_succ, List.getElem_toArray, List.getElem_cons_succ, List.getElem_cons_zero]
    refine wpAnyH_take (i := 10) (v := undef) rfl (by kernel_rfl) (by kernel_rfl) (by kernel_rfl) (fun _ _ _ h => h) (Or.inr ⟨by rfl, rfl⟩) hH ?_
    try simp only [Act.put, List.setIfInBounds_toArray, List.set_cons_zero, List.set_cons_succ, List.getElem_toArray, List.getElem_cons_succ, List.getElem_cons_zero]
    refine wpAnyH_take (i := 11) (v := undef) rfl (by kernel_rfl) (by kernel_rfl) (by kernel_rfl) (fun _ _ _ h => h) (Or.inr ⟨by rfl, rfl⟩) hH ?_
    try simp only [Act.put, List.setIfInBounds_toArray, List.set_cons_zero, List.set_cons_succ, List.getElem_toArray, List.getElem_cons_succ, List.getElem_cons_zero]
    refine wpAnyH_take (i := 12) (v := undef) rfl (by kernel_rfl) (by kernel_rfl) (by kernel_rfl) (fun _ _ _ h => h) (Or.inr ⟨by rfl, rfl⟩) hH ?_
    try simp only [Act.put, List.setIfInBounds_toArray, List.set_cons_zero, List.set_cons_succ, List.getElem_toArray, List.getElem_cons_succ, List.getElem_cons_zero]
    refine wpAnyH_take (i := 13) (v := .bool true) rfl (by kernel_rfl) (by kernel_rfl) (by kernel_rfl) (fun _ _ _ h => h) (Or.inl ⟨by rfl, fun w hSw => by clear hSw; go_simp⟩) hH ?_
    try simp only [Act.put, List.setIfInBounds_toArray, List.set_cons_zero, List.set_cons_succ, List.getElem_toArray, List.getElem_cons_succ, List.getElem_cons_zero]
    refine wpAnyH_take (i := 14) (v := .bool true) rfl (by kernel_rfl) (by kernel_rfl) (by kernel_rfl) (fun _ _ _ h => h) (Or.inl ⟨by rfl, fun w hSw => by clear hSw; go_simp⟩) hH ?_
    try simp only [Act.put, List.setIfInBounds_toArray, List.set_cons_zero, List.set_cons_succ, List.getElem_toArray, List.getElem_cons_succ, List.getElem_cons_zero]
    refine wpAnyH_take (i := 15) (v := undef) rfl (by kernel_rfl) (by kernel_rfl) (by kernel_rfl) (fun _ _ _ h => h) (Or.inr ⟨by rfl, rfl⟩) hH ?_
    try simp only [Act.put, List.setIfInBounds_toArray, List.set_cons_zero, List.set_cons_succ, List.getElem_toArray, List.getElem_cons_succ, List.getElem_cons_zero]
    refine wpAnyH_take (i := 16) (v := undef) rfl (by kernel_rfl) (by kernel_rfl) (by kernel_rfl) (fun _ _ _ h => h) (Or.inr ⟨by rfl, rfl⟩) hH ?_
    try simp only [Act.put, List.setIfInBounds_toArray, List.set_cons_zero, List.set_cons_succ, List.getElem_toArray, List.getElem_cons_succ, List.getElem_cons_zero]
    refine wpAnyH_take (i := 17) (v := undef) rfl (by kernel_rfl) (by kernel_rfl) (by kernel_rfl) (fun _ _ _ h => h) (Or.inr ⟨by rfl, rfl⟩) hH ?_
    try simp only [Act.put, List.setIfInBounds_toArray, List.set_cons_zero, List.set_cons_succ, List.getElem_toArray, List.getElem_cons_succ, List.getElem_cons_zero]
    refine wpAnyH_take (i := 18) (v := undef) rfl (by kernel_rfl) (by kernel_rfl) (by kernel_rfl) (fun _ _ _ h => h) (Or.inr ⟨by rfl, rfl⟩) hH ?_
    try simp only [Act.put, List.setIfInBounds_toArray, List.set_cons_zero, List.set_cons_succ, List.getElem_toArray, List.getElem_cons_succ, List.getElem_cons_zero]
    refine wpAnyH_take (i := 19) (v := undef) rfl (by kernel_rfl) (by kernel_rfl) (by kernel_rfl) (fun _ _ _ h => h) (Or.inr ⟨by rfl, rfl⟩) hH ?_
    try simp only [Act.put, List.setIfInBounds_toArray, List.set_cons_zero, List.set_cons_succ, List.getElem_toArray, List.getElem_cons_succ, List.getElem_cons_zero]
    refine wpAnyH_take (i := 20) (v := .bool true) rfl (by kernel_rfl) (by kernel_rfl) (by kernel_rfl) (fun _ _ _ h => h) (Or.inl ⟨by rfl, fun w hSw => by clear hSw; go_simp⟩) hH ?_
    try simp only [Act.put, List.setIfInBounds_toArray, List.set_cons_zero, List.set_cons_succ, List.getElem_toArray, List.getElem_cons_succ, List.getElem_cons_zero]
    refine wpAnyH_done (by kernel_rfl) ?_ _
    have hlow := chain HL.out hH
    clear hH
    go_wp2
    go_ret
    exact ⟨ret_bool (by first | exact e0.symm | rfl), hlow⟩
  have e0 : ob = (b1 && (b2 && gb)) := HN6.out h6
  have h6' : ¬ (6 : Int) < (n : Int) := by omega
  have e6 : decide ((6 : Int) < (n : Int)) = false := decide_eq_false h6'
  clear h6 h6'
  refine wpAnyH_take (i := 3) (v := .bool (decide ((6 : Int) < (n : Int)))) rfl (by kernel_rfl) (by kernel_rfl) (by kernel_rfl) (fun _ _ _ h => h) (Or.inl ⟨by rfl, fun w hSw => by clear hSw e6; go_simp⟩) hH ?_
  try simp only [Act.put, List.setIfInBounds_toArray, List.set_cons_zero, List.set_cons_succ, List.getElem_toArray, List.getElem_cons_succ, List.getElem_cons_zero]
  rw [e6]
  refine wpAnyH_take (i := 4) (v := .bool false) rfl (by kernel_rfl) (by kernel_rfl) (by kernel_rfl) (fun _ _ _ h => h) (Or.inl ⟨by rfl, fun w hSw => by clear hSw; go_simp⟩) hH ?_
  try simp only [Act.put, List.setIfInBounds_toArray, List.set_cons_zero, List.set_cons_succ, List.getElem_toArray, List.getElem_cons_succ, List.getElem_cons_zero]
  refine wpAnyH_take (i := 6) (v := .pointer (some ⟨w.heap.size, 1, none⟩)) rfl (by kernel_rfl) (by kernel_rfl) (by kernel_rfl) (fun _ _ _ h => h) (Or.inl ⟨by rfl, fun w hSw => by clear hSw; go_simp⟩) hH ?_
  try simp only [Act.put, List.setIfInBounds_toArray, List.set_cons_zero, List.set_cons_succ, List.getElem_toArray, List.getElem_cons_succ, List.getElem_cons_zero]
  refine wpAnyH_take (i := 7) (v := .int .i64 ms) rfl (by kernel_rfl) (by kernel_rfl) (by kernel_rfl) (fun _ _ _ h => h) (Or.inl ⟨by rfl, fun w hSw => by obtain ⟨f0, f1, f2, f3, f4, f5⟩ := HCl.out w hSw; clear hSw; go_simp⟩) hH ?_
  try simp only [Act.put, List.setIfInBounds_toArray, List.set_cons_zero, List.set_cons_succ, List.getElem_toArray, List.getElem_cons_succ, List.getElem_cons_zero]
  refine wpAnyH_take (i := 8) (v := .pointer (some ⟨w.heap.size, 2, none⟩)) rfl (by kernel_rfl) (by kernel_rfl) (by kernel_rfl) (fun _ _ _ h => h) (Or.inl ⟨by rfl, fun w hSw => by clear hSw; go_simp⟩) hH ?_
  try simp only [Act.put, List.setIfInBounds_toArray, List.set_cons_zero, List.set_cons_succ, List.getElem_toArray, List.getElem_cons_succ, List.getElem_cons_zero]
  refine wpAnyH_take (i := 9) (v := .int .i64 rt) rfl (by kernel_rfl) (by kernel_rfl) (by kernel_rfl) (fun _ _ _ h => h) (Or.inl ⟨by rfl, fun w hSw => by obtain ⟨f0, f1, f2, f3, f4, f5⟩ := HCl.out w hSw; clear hSw; go_simp⟩) hH ?_
  try simp only [Act.put, List.setIfInBounds_toArray, List.set_cons_zero, List.set_cons_succ, List.getElem_toArray, List.getElem_cons_succ, List.getElem_cons_zero]
  have HE0 : Hid (ob = (b1 && (b2 && gb))) := e0
  clear e0 e6
  have B1 : Hid (Below W1.heap.size W1 W1.drew) := hH
  generalize W1.drew = V0 at *
  refine wpAnyH_ready (rs := [5, 10]) (by kernel_rfl) (by simp) ?_
  refine AllReadyH.cons rfl (fun K hK => ?_) (AllReadyH.cons rfl (fun K hK => ?_) AllReadyH.nil)
  · skip
    go_simp
    go_at_call 57
    refine (HWk.out _).mono ?_
    rintro e w2 ⟨rfl, hb2⟩
    have B2 : Hid (Below W1.heap.size W1 w2) := chain B1.out hb2
    clear hb2
    refine hK.out _ _ B2.out (fun _ => ?_)
    clear hK K
    try simp only [Act.put, List.setIfInBounds_toArray, List.set_cons_zero, List.set_cons_succ, List.getElem_toArray, List.getElem_cons_succ, List.getElem_cons_zero]
    refine wpAnyH_ready (rs := [10]) (by kernel_rfl) (by simp) ?_
    refine AllReadyH.cons rfl (fun K hK => ?_) AllReadyH.nil
    go_simp
    obtain ⟨V, hV⟩ : ∃ V, V = (w2).alloc (Obj.cells #[.int .i64 ms, .int .i64 rt] 3) := ⟨_, rfl⟩
    obtain ⟨xb, hxb⟩ : ∃ xb, xb = (w2).heap.size := ⟨_, rfl⟩
    rw [← hV, ← hxb]
    have HV : Hid (Below W1.heap.size W1 V ∧ V.heap[xb]? = some (.cells #[.int .i64 ms, .int .i64 rt] 3 (0, 0))) := by
      rw [hV, hxb]
      exact ⟨chain B2.out (below_alloc _ _), heapNew _ _⟩
    clear hV hxb
    refine hK.out _ _ HV.out.1 (fun _ => ?_)
    clear hK K
    try simp only [Act.put, List.setIfInBounds_toArray, List.set_cons_zero, List.set_cons_succ, List.getElem_toArray, List.getElem_cons_succ, List.getElem_cons_zero]
    obtain ⟨g0, g1⟩ := (show V.cell? ⟨xb, 0, none⟩ = some (.int .i64 ms) ∧ V.cell? ⟨xb, 1, none⟩ = some (.int .i64 rt) from ⟨blkCell HV.out.2 0 _ rfl, blkCell HV.out.2 1 _ rfl⟩)
    refine wpAnyH_ready (rs := [11]) (by kernel_rfl) (by simp) ?_
    refine AllReadyH.cons rfl (fun K hK => ?_) AllReadyH.nil
    go_simp
    go_at_call 58
    refine (H1.out _ _ g0 g1 (blkLt HV.out.2)).mono ?_
    rintro e w3 ⟨rfl, hb3⟩
    have B3 : Hid (Below W1.heap.size W1 w3) := chain HV.out.1 hb3
    clear hb3 g0 g1
    refine hK.out _ _ B3.out (fun _ => ?_)
    clear hK K
    try simp only [Act.put, List.setIfInBounds_toArray, List.set_cons_zero, List.set_cons_succ, List.getElem_toArray, List.getElem_cons_succ, List.getElem_cons_zero]
    refine wpAnyH_take (i := 12) (v := .bool (!b1)) rfl (by kernel_rfl) (by kernel_rfl) (by kernel_rfl) (fun _ _ _ h => h) (Or.inl ⟨by rfl, fun w hSw => by clear hSw; go_simp⟩) B3.out ?_
    try simp only [Act.put, List.setIfInBounds_toArray, List.set_cons_zero, List.set_cons_succ, List.getElem_toArray, List.getElem_cons_succ, List.getElem_cons_zero]
    refine wpAnyH_take (i := 13) (v := .bool (!b1)) rfl (by kernel_rfl) (by kernel_rfl) (by kernel_rfl) (fun _ _ _ h => h) (Or.inl ⟨by rfl, fun w hSw => by clear hSw; go_simp⟩) B3.out ?_
    try simp only [Act.put, List.setIfInBounds_toArray, List.set_cons_zero, List.set_cons_succ, List.getElem_toArray, List.getElem_cons_succ, List.getElem_cons_zero]
    refine wpAnyH_take (i := 14) (v := .bool (!b1)) rfl (by kernel_rfl) (by kernel_rfl) (by kernel_rfl) (fun _ _ _ h => h) (Or.inl ⟨by rfl, fun w hSw => by clear hSw; go_simp⟩) B3.out ?_
    try simp only [Act.put, List.setIfInBounds_toArray, List.set_cons_zero, List.set_cons_succ, List.getElem_toArray, List.getElem_cons_succ, List.getElem_cons_zero]
    cases b1
    · simp only [Bool.not_false]
      refine wpAnyH_take (i := 15) (v := undef) rfl (by kernel_rfl) (by kernel_rfl) (by kernel_rfl) (fun _ _ _ h => h) (Or.inr ⟨by rfl, rfl⟩) B3.out ?_
      try simp only [Act.put, List.setIfInBounds_toArray, List.set_cons_zero, List.set_cons_succ, List.getElem_toArray, List.getElem_cons_succ, List.getElem_cons_zero]
      refine wpAnyH_take (i := 16) (v := undef) rfl (by kernel_rfl) (by kernel_rfl) (by kernel_rfl) (fun _ _ _ h => h) (Or.inr ⟨by rfl, rfl⟩) B3.out ?_
      try simp only [Act.put, List.setIfInBounds_toArray, List.set_cons_zero, List.set_cons_succ, List.getElem_toArray, List.getElem_cons_succ, List.getElem_cons_zero]
      refine wpAnyH_take (i := 17) (v := undef) rfl (by kernel_rfl) (by kernel_rfl) (by kernel_rfl) (fun _ _ _ h => h) (Or.inr ⟨by rfl, rfl⟩) B3.out ?_
      try simp only [Act.put, List.setIfInBounds_toArray, List.set_cons_zero, List.set_cons_succ, List.getElem_toArray, List.getElem_cons_succ, List.getElem_cons_zero]
      refine wpAnyH_take (i := 18) (v := undef) rfl (by kernel_rfl) (by kernel_rfl) (by kernel_rfl) (fun _ _ _ h => h) (Or.inr ⟨by rfl, rfl⟩) B3.out ?_
      try simp only [Act.put, List.setIfInBounds_toArray, List.set_cons_zero, List.set_cons_succ, List.getElem_toArray, List.getElem_cons_succ, List.getElem_cons_zero]
      refine wpAnyH_take (i := 19) (v := undef) rfl (by kernel_rfl) (by kernel_rfl) (by kernel_rfl) (fun _ _ _ h => h) (Or.inr ⟨by rfl, rfl⟩) B3.out ?_
      try simp only [Act.put, List.setIfInBounds_toArray, List.set_cons_zero, List.set_cons_succ, List.getElem_toArray, List.getElem_cons_succ, List.getElem_cons_zero]
      refine wpAnyH_take (i := 20) (v := .bool true) rfl (by kernel_rfl) (by kernel_rfl) (by kernel_rfl) (fun _ _ _ h => h) (Or.inl ⟨by rfl, fun w hSw => by clear hSw; go_simp⟩) B3.out ?_
      try simp only [Act.put, List.setIfInBounds_toArray, List.set_cons_zero, List.set_cons_succ, List.getElem_toArray, List.getElem_cons_succ, List.getElem_cons_zero]
      refine wpAnyH_done (by kernel_rfl) ?_ _
      clear hH
      go_wp2
      go_ret
      exact ⟨ret_bool HE0.out.symm, chain HL.out B3.out⟩
    · simp only [Bool.not_true]
      refine wpAnyH_take (i := 15) (v := .agg #[.int .i64 0, .int .i64 1000]) rfl (by kernel_rfl) (by kernel_rfl) (by kernel_rfl) (fun _ _ _ h => h) (Or.inl ⟨by rfl, fun w hSw => by obtain ⟨f0, f1, f2, f3, f4, f5⟩ := HCl.out w hSw; clear hSw; go_simp⟩) B3.out ?_
      try simp only [Act.put, List.setIfInBounds_toArray, List.set_cons_zero, List.set_cons_succ, List.getElem_toArray, List.getElem_cons_succ, List.getElem_cons_zero]
      refine wpAnyH_take (i := 16) (v := .pointer (some ⟨w.heap.size, 3, none⟩)) rfl (by kernel_rfl) (by kernel_rfl) (by kernel_rfl) (fun _ _ _ h => h) (Or.inl ⟨by rfl, fun w hSw => by clear hSw; go_simp⟩) B3.out ?_
      try simp only [Act.put, List.setIfInBounds_toArray, List.set_cons_zero, List.set_cons_succ, List.getElem_toArray, List.getElem_cons_succ, List.getElem_cons_zero]
      refine wpAnyH_take (i := 17) (v := .int .i64 co) rfl (by kernel_rfl) (by kernel_rfl) (by kernel_rfl) (fun _ _ _ h => h) (Or.inl ⟨by rfl, fun w hSw => by obtain ⟨f0, f1, f2, f3, f4, f5⟩ := HCl.out w hSw; clear hSw; go_simp⟩) B3.out ?_
      try simp only [Act.put, List.setIfInBounds_toArray, List.set_cons_zero, List.set_cons_succ, List.getElem_toArray, List.getElem_cons_succ, List.getElem_cons_zero]
      refine wpAnyH_ready (rs := [18]) (by kernel_rfl) (by simp) ?_
      refine AllReadyH.cons rfl (fun K hK => ?_) AllReadyH.nil
      go_simp
      go_at_call 44
      refine (H2.out _).mono ?_
      rintro e w4 ⟨rfl, hb4⟩
      have B4 : Hid (Below W1.heap.size W1 w4) := chain B3.out hb4
      clear hb4
      refine hK.out _ _ B4.out (fun _ => ?_)
      clear hK K
      try simp only [Act.put, List.setIfInBounds_toArray, List.set_cons_zero, List.set_cons_succ, List.getElem_toArray, List.getElem_cons_succ, List.getElem_cons_zero]
      refine wpAnyH_take (i := 19) (v := .bool (!b2)) rfl (by kernel_rfl) (by kernel_rfl) (by kernel_rfl) (fun _ _ _ h => h) (Or.inl ⟨by rfl, fun w hSw => by clear hSw; go_simp⟩) B4.out ?_
      try simp only [Act.put, List.setIfInBounds_toArray, List.set_cons_zero, List.set_cons_succ, List.getElem_toArray, List.getElem_cons_succ, List.getElem_cons_zero]
      refine wpAnyH_take (i := 20) (v := .bool (!b2)) rfl (by kernel_rfl) (by kernel_rfl) (by kernel_rfl) (fun _ _ _ h => h) (Or.inl ⟨by rfl, fun w hSw => by clear hSw; go_simp⟩) B4.out ?_
      try simp only [Act.put, List.setIfInBounds_toArray, List.set_cons_zero, List.set_cons_succ, List.getElem_toArray, List.getElem_cons_succ, List.getElem_cons_zero]
      refine wpAnyH_done (by kernel_rfl) ?_ _
      clear hH
      cases b2
      · go_wp2
        go_ret
        exact ⟨ret_bool HE0.out.symm, chain HL.out B4.out⟩
      · obtain ⟨f0, f1, f2, f3, f4, f5⟩ := HCl.out w4 B4.out
        clear f0 f1 f2 f4 f5
        go_wp2_with fail
        (first | go_at_call 62 | skip)
        refine (HC.out _ (chain HL.out B4.out)).mono ?_
        rintro e w5 ⟨rfl, hb5⟩
        have HB5 : Hid (Below w.heap.size w w5) := chain (chain HL.out B4.out) hb5
        clear hb5 f3
        go_wp2
        go_ret
        exact ⟨ret_bool (by rw [HE0.out]; cases gb <;> rfl), HB5.out⟩
  · skip
    go_simp
    obtain ⟨V, hV⟩ : ∃ V, V = (V0).alloc (Obj.cells #[.int .i64 ms, .int .i64 rt] 3) := ⟨_, rfl⟩
    obtain ⟨xb, hxb⟩ : ∃ xb, xb = (V0).heap.size := ⟨_, rfl⟩
    rw [← hV, ← hxb]
    have HV : Hid (Below W1.heap.size W1 V ∧ V.heap[xb]? = some (.cells #[.int .i64 ms, .int .i64 rt] 3 (0, 0))) := by
      rw [hV, hxb]
      exact ⟨chain B1.out (below_alloc _ _), heapNew _ _⟩
    clear hV hxb
    refine hK.out _ _ HV.out.1 (fun _ => ?_)
    clear hK K
    try simp only [Act.put, List.setIfInBounds_toArray, List.set_cons_zero, List.set_cons_succ, List.getElem_toArray, List.getElem_cons_succ, List.getElem_cons_zero]
    refine wpAnyH_ready (rs := [5]) (by kernel_rfl) (by simp) ?_
    refine AllReadyH.cons rfl (fun K hK => ?_) AllReadyH.nil
    go_simp
    go_at_call 57
    refine (HWk.out _).mono ?_
    rintro e w2 ⟨rfl, hb2⟩
    have B2 : Hid (Below W1.heap.size W1 w2 ∧ w2.heap[xb]? = some (.cells #[.int .i64 ms, .int .i64 rt] 3 (0, 0))) := ⟨chain HV.out.1 hb2, (hb2.block xb (blkLt HV.out.2)).trans HV.out.2⟩
    clear hb2
    refine hK.out _ _ B2.out.1 (fun _ => ?_)
    clear hK K
    try simp only [Act.put, List.setIfInBounds_toArray, List.set_cons_zero, List.set_cons_succ, List.getElem_toArray, List.getElem_cons_succ, List.getElem_cons_zero]
    obtain ⟨g0, g1⟩ := (show w2.cell? ⟨xb, 0, none⟩ = some (.int .i64 ms) ∧ w2.cell? ⟨xb, 1, none⟩ = some (.int .i64 rt) from ⟨blkCell B2.out.2 0 _ rfl, blkCell B2.out.2 1 _ rfl⟩)
    refine wpAnyH_ready (rs := [11]) (by kernel_rfl) (by simp) ?_
    refine AllReadyH.cons rfl (fun K hK => ?_) AllReadyH.nil
    go_simp
    go_at_call 58
    refine (H1.out _ _ g0 g1 (blkLt B2.out.2)).mono ?_
    rintro e w3 ⟨rfl, hb3⟩
    have B3 : Hid (Below W1.heap.size W1 w3) := chain B2.out.1 hb3
    clear hb3 g0 g1
    refine hK.out _ _ B3.out (fun _ => ?_)
    clear hK K
    try simp only [Act.put, List.setIfInBounds_toArray, List.set_cons_zero, List.set_cons_succ, List.getElem_toArray, List.getElem_cons_succ, List.getElem_cons_zero]
    refine wpAnyH_take (i := 12) (v := .bool (!b1)) rfl (by kernel_rfl) (by kernel_rfl) (by kernel_rfl) (fun _ _ _ h => h) (Or.inl ⟨by rfl, fun w hSw => by clear hSw; go_simp⟩) B3.out ?_
    try simp only [Act.put, List.setIfInBounds_toArray, List.set_cons_zero, List.set_cons_succ, List.getElem_toArray, List.getElem_cons_succ, List.getElem_cons_zero]
    refine wpAnyH_take (i := 13) (v := .bool (!b1)) rfl (by kernel_rfl) (by kernel_rfl) (by kernel_rfl) (fun _ _ _ h => h) (Or.inl ⟨by rfl, fun w hSw => by clear hSw; go_simp⟩) B3.out ?_
    try simp only [Act.put, List.setIfInBounds_toArray, List.set_cons_zero, List.set_cons_succ, List.getElem_toArray, List.getElem_cons_succ, List.getElem_cons_zero]
    refine wpAnyH_take (i := 14) (v := .bool (!b1)) rfl (by kernel_rfl) (by kernel_rfl) (by kernel_rfl) (fun _ _ _ h => h) (Or.inl ⟨by rfl, fun w hSw => by clear hSw; go_simp⟩) B3.out ?_
    try simp only [Act.put, List.setIfInBounds_toArray, List.set_cons_zero, List.set_cons_succ, List.getElem_toArray, List.getElem_cons_succ, List.getElem_cons_zero]
    cases b1
    · simp only [Bool.not_false]
      refine wpAnyH_take (i := 15) (v := undef) rfl (by kernel_rfl) (by kernel_rfl) (by kernel_rfl) (fun _ _ _ h => h) (Or.inr ⟨by rfl, rfl⟩) B3.out ?_
      try simp only [Act.put, List.setIfInBounds_toArray, List.set_cons_zero, List.set_cons_succ, List.getElem_toArray, List.getElem_cons_succ, List.getElem_cons_zero]
      refine wpAnyH_take (i := 16) (v := undef) rfl (by kernel_rfl) (by kernel_rfl) (by kernel_rfl) (fun _ _ _ h => h) (Or.inr ⟨by rfl, rfl⟩) B3.out ?_
      try simp only [Act.put, List.setIfInBounds_toArray, List.set_cons_zero, List.set_cons_succ, List.getElem_toArray, List.getElem_cons_succ, List.getElem_cons_zero]
      refine wpAnyH_take (i := 17) (v := undef) rfl (by kernel_rfl) (by kernel_rfl) (by kernel_rfl) (fun _ _ _ h => h) (Or.inr ⟨by rfl, rfl⟩) B3.out ?_
      try simp only [Act.put, List.setIfInBounds_toArray, List.set_cons_zero, List.set_cons_succ, List.getElem_toArray, List.getElem_cons_succ, List.getElem_cons_zero]
      refine wpAnyH_take (i := 18) (v := undef) rfl (by kernel_rfl) (by kernel_rfl) (by kernel_rfl) (fun _ _ _ h => h) (Or.inr ⟨by rfl, rfl⟩) B3.out ?_
      try simp only [Act.put, List.setIfInBounds_toArray, List.set_cons_zero, List.set_cons_succ, List.getElem_toArray, List.getElem_cons_succ, List.getElem_cons_zero]
      refine wpAnyH_take (i := 19) (v := undef) rfl (by kernel_rfl) (by kernel_rfl) (by kernel_rfl) (fun _ _ _ h => h) (Or.inr ⟨by rfl, rfl⟩) B3.out ?_
      try simp only [Act.put, List.setIfInBounds_toArray, List.set_cons_zero, List.set_cons_succ, List.getElem_toArray, List.getElem_cons_succ, List.getElem_cons_zero]
      refine wpAnyH_take (i := 20) (v := .bool true) rfl (by kernel_rfl) (by kernel_rfl) (by kernel_rfl) (fun _ _ _ h => h) (Or.inl ⟨by rfl, fun w hSw => by clear hSw; go_simp⟩) B3.out ?_
      try simp only [Act.put, List.setIfInBounds_toArray, List.set_cons_zero, List.set_cons_succ, List.getElem_toArray, List.getElem_cons_succ, List.getElem_cons_zero]
      refine wpAnyH_done (by kernel_rfl) ?_ _
      clear hH
      go_wp2
      go_ret
      exact ⟨ret_bool HE0.out.symm, chain HL.out B3.out⟩
    · simp only [Bool.not_true]
      refine wpAnyH_take (i := 15) (v := .agg #[.int .i64 0, .int .i64 1000]) rfl (by kernel_rfl) (by kernel_rfl) (by kernel_rfl) (fun _ _ _ h => h) (Or.inl ⟨by rfl, fun w hSw => by obtain ⟨f0, f1, f2, f3, f4, f5⟩ := HCl.out w hSw; clear hSw; go_simp⟩) B3.out ?_
      try simp only [Act.put, List.setIfInBounds_toArray, List.set_cons_zero, List.set_cons_succ, List.getElem_toArray, List.getElem_cons_succ, List.getElem_cons_zero]
      refine wpAnyH_take (i := 16) (v := .pointer (some ⟨w.heap.size, 3, none⟩)) rfl (by kernel_rfl) (by kernel_rfl) (by kernel_rfl) (fun _ _ _ h => h) (Or.inl ⟨by rfl, fun w hSw => by clear hSw; go_simp⟩) B3.out ?_
      try simp only [Act.put, List.setIfInBounds_toArray, List.set_cons_zero, List.set_cons_succ, List.getElem_toArray, List.getElem_cons_succ, List.getElem_cons_zero]
      refine wpAnyH_take (i := 17) (v := .int .i64 co) rfl (by kernel_rfl) (by kernel_rfl) (by kernel_rfl) (fun _ _ _ h => h) (Or.inl ⟨by rfl, fun w hSw => by obtain ⟨f0, f1, f2, f3, f4, f5⟩ := HCl.out w hSw; clear hSw; go_simp⟩) B3.out ?_
      try simp only [Act.put, List.setIfInBounds_toArray, List.set_cons_zero, List.set_cons_succ, List.getElem_toArray, List.getElem_cons_succ, List.getElem_cons_zero]
      refine wpAnyH_ready (rs := [18]) (by kernel_rfl) (by simp) ?_
      refine AllReadyH.cons rfl (fun K hK => ?_) AllReadyH.nil
      go_simp
      go_at_call 44
      refine (H2.out _).mono ?_
      rintro e w4 ⟨rfl, hb4⟩
      have B4 : Hid (Below W1.heap.size W1 w4) := chain B3.out hb4
      clear hb4
      refine hK.out _ _ B4.out (fun _ => ?_)
      clear hK K
      try simp only [Act.put, List.setIfInBounds_toArray, List.set_cons_zero, List.set_cons_succ, List.getElem_toArray, List.getElem_cons_succ, List.getElem_cons_zero]
      refine wpAnyH_take (i := 19) (v := .bool (!b2)) rfl (by kernel_rfl) (by kernel_rfl) (by kernel_rfl) (fun _ _ _ h => h) (Or.inl ⟨by rfl, fun w hSw => by clear hSw; go_simp⟩) B4.out ?_
      try simp only [Act.put, List.setIfInBounds_toArray, List.set_cons_zero, List.set_cons_succ, List.getElem_toArray, List.getElem_cons_succ, List.getElem_cons_zero]
      refine wpAnyH_take (i := 20) (v := .bool (!b2)) rfl (by kernel_rfl) (by kernel_rfl) (by kernel_rfl) (fun _ _ _ h => h) (Or.inl ⟨by rfl, fun w hSw => by clear hSw; go_simp⟩) B4.out ?_
      try simp only [Act.put, List.setIfInBounds_toArray, List.set_cons_zero, List.set_cons_succ, List.getElem_toArray, List.getElem_cons_succ, List.getElem_cons_zero]
      refine wpAnyH_done (by kernel_rfl) ?_ _
      clear hH
      cases b2
      · go_wp2
        go_ret
        exact ⟨ret_bool HE0.out.symm, chain HL.out B4.out⟩
      · obtain ⟨f0, f1, f2, f3, f4, f5⟩ := HCl.out w4 B4.out
        clear f0 f1 f2 f4 f5
        go_wp2_with fail
        (first | go_at_call 62 | skip)
        refine (HC.out _ (chain HL.out B4.out)).mono ?_
        rintro e w5 ⟨rfl, hb5⟩
        have HB5 : Hid (Below w.heap.size w w5) := chain (chain HL.out B4.out) hb5
        clear hb5 f3
        go_wp2
        go_ret
        exact ⟨ret_bool (by rw [HE0.out]; cases gb <;> rfl), HB5.out⟩
theorem wks_take (p : CWk → Bool) (rs : List CWk) (k : Nat) (h : k < rs.length) : (rs.take (k + 1)).all p = ((rs.take k).all p && p (rs.getD k zWk)) := by
  rw [List.take_succ_eq_append_getElem h, List.all_append]
  have e : rs.getD k zWk = rs[k] := by simp [List.getD_eq_getElem?_getD, h]
  rw [e]; simp
theorem wks_fail {p : CWk → Bool} {rs : List CWk} {k : Nat} (h : k < rs.length) (hp : p (rs.getD k zWk) = false) : rs.all p = false := by
  have e : rs.getD k zWk = rs[k] := by simp [List.getD_eq_getElem?_getD, h]
  rw [e] at hp
  rw [List.all_eq_false]
  exact ⟨rs[k], List.getElem_mem _, by simp [hp]⟩
theorem wkName_any (c : CWk) (h : Option Addr) (cp : Nat) (w : World) :
    Calls Try.prog 34 #[.agg #[.string c.nm, .int .i64 c.ms, .int .i64 c.rt, .int .i64 c.co, .slice h c.sk.length cp]] w fun e w' => e = .returned (.string c.nm) ∧ Below w.heap.size w w' := by
  obtain ⟨nm, ms, rt, co, sk⟩ := c
  dsimp only
  generalize sk.length = n
  go_enter Try.func34, Try.ntmps34
  go_wp2
  go_ret
  exact ⟨rfl, below_alloc _ _⟩
theorem wkNot_any (c : CWk) (h : Option Addr) (cp : Nat) (hok : WkOK c) (w : World) (hr : ReadsS w.heap.size w h c.sk) :
    Calls Try.prog 37 #[.agg #[.string c.nm, .int .i64 c.ms, .int .i64 c.rt, .int .i64 c.co, .slice h c.sk.length cp]] w fun e w' => e = .returned (.bool (!wkOne c)) ∧ Below w.heap.size w w' := by
  have HD : Hid (∀ W, Below w.heap.size w W → Calls Try.prog 38 #[.agg #[.string c.nm, .int .i64 c.ms, .int .i64 c.rt, .int .i64 c.co, .slice h c.sk.length cp]] W fun e w' => e = .returned (.bool (wkOne c)) ∧ Below W.heap.size W w') := fun W hb => impWk_any c h cp hok W (hr.later hb)
  clear hr hok
  generalize wkOne c = b at *
  obtain ⟨nm, ms, rt, co, sk⟩ := c
  dsimp only at *
  generalize sk.length = n at *
  go_enter Try.func37, Try.ntmps37
  go_wp2_with (go_at_call 38; refine (HD.out _ (by repeat (first | exact Below.refl _ _ | refine chain ?_ (below_alloc _ _) | refine chain ?_ (below_drew _)))).mono ?_; rintro e w2 ⟨rfl, hb2⟩)
  go_ret
  exact ⟨rfl, by repeat (first | exact Below.refl _ _ | refine chain ?_ (by assumption) | refine chain ?_ (below_alloc _ _) | refine chain ?_ (below_drew _))⟩
set_option maxHeartbeats 2000000 in
theorem wkIndex_any (a : Option Addr) (cap : Nat) (rs : List CWk) (hl : rs.length ≤ 100000000) (hp : ∀ r ∈ rs, WkOK r) (w : World) (hr : ReadsWk w.heap.size w a rs) :
    Calls Try.prog 61 #[.slice a rs.length cap, .func (.func 37) #[] #[]] w fun e w' => (∃ x : Int, e = .returned (.int .i64 x) ∧ decide (0 ≤ x) = !rs.all wkOne) ∧ Below w.heap.size w w' := by
  have HR : Hid (ReadsWk w.heap.size w a rs) := hr
  have HOK : Hid (∀ r ∈ rs, WkOK r) := hp
  clear hr hp
  go_enter Try.func61, Try.ntmps61
  go_wp2
  go_loopw [5, 8] (fun _ c wr => ∃ k : Nat, k ≤ rs.length ∧ c = .int .i64 (k : Int) ∧ (rs.take k).all wkOne = true ∧ Below w.heap.size w wr) (fun _ c _ => rs.length - (intOf c).toNat)
  case atStart => exact ⟨0, Nat.zero_le _, rfl, rfl, Below.refl _ _⟩
  case round =>
    obtain ⟨k, hk, rfl, hf, hb⟩ := hrel
    have HF : Hid ((rs.take k).all wkOne = true) := hf
    have HB : Hid (Below w.heap.size w wr) := hb
    clear hf hb
    by_cases hlt : k < rs.length
    · have hlt' : (k : Int) < (rs.length : Int) := by omega
      rcases HR.out with h | ⟨b0, o0, ha, hB0, ia⟩
      · rw [h] at hlt; simp at hlt
      obtain ⟨h, cp, ⟨c0, c1, c2, c3, c4⟩, hcp, hS⟩ := (ia.below HB.out hB0 (Nat.le_refl _)) k hlt
      have HX : Hid (wkOne (rs.getD k zWk) = false → rs.all wkOne = false) := fun h => wks_fail hlt h
      have HN : Hid ((rs.take (k + 1)).all wkOne = ((rs.take k).all wkOne && wkOne (rs.getD k zWk))) := wks_take wkOne rs k hlt
      have hm := wkNot_any (rs.getD k zWk) h cp (getWk HOK.out hlt) wr (hS.mono HB.out.size)
      rw [ha]
      clear ia hS hcp
      generalize rs.getD k zWk = q at *
      generalize wkOne q = mb at *
      obtain ⟨nm, ms, rt, co, sk⟩ := q
      dsimp only at c0 c1 c2 c3 c4 hm
      generalize sk.length = n at *
      cases mb
      · go_wp2_with (go_at_call 37; refine hm.mono ?_; rintro e w2 ⟨rfl, hb2⟩)
        go_ret
        exact ⟨⟨(k : Int), rfl, by rw [HX.out trivial]; exact decide_eq_true (by omega)⟩, chain HB.out hb2⟩
      · go_wp2_with (go_at_call 37; refine hm.mono ?_; rintro e w2 ⟨rfl, hb2⟩)
        exact ⟨⟨k + 1, by omega, by go_num, by rw [HN.out, HF.out]; rfl, chain HB.out hb2⟩, by simp [intOf]; omega⟩
    · have hle : (rs.length : Int) ≤ (k : Int) := by omega
      have HE : Hid (rs.all wkOne = true) := by have := HF.out; rwa [List.take_of_length_le (by omega)] at this
      go_wp2
      go_ret
      exact ⟨⟨-1, rfl, by rw [HE.out]; rfl⟩, HB.out⟩
theorem wkContains_any (a : Option Addr) (cap : Nat) (rs : List CWk) (hl : rs.length ≤ 100000000) (hp : ∀ r ∈ rs, WkOK r) (w : World) (hr : ReadsWk w.heap.size w a rs) :
    Calls Try.prog 36 #[.slice a rs.length cap, .func (.func 37) #[] #[]] w fun e w' => e = .returned (.bool (!rs.all wkOne)) ∧ Below w.heap.size w w' := by
  have hi := wkIndex_any a cap rs hl hp w hr
  clear hr hp
  go_enter Try.func36, Try.ntmps36
  go_wp2_with (go_at_call 61; refine hi.mono ?_; rintro e w2 ⟨⟨x, rfl, hx⟩, hb2⟩; have HX : Hid (decide (0 ≤ x) = !rs.all wkOne) := hx; clear hx)
  go_ret
  exact ⟨ret_bool HX.out, hb2⟩
theorem OneS.laterW {w : World} {B : Nat} {v : Value} {L : List ByteArray} {wr w' : World} (h : OneS w B v L wr) (hb : Below wr.heap.size wr w') : OneS w B v L w' := by
  obtain ⟨⟨h1, h2⟩, h4, h5⟩ := h
  refine ⟨⟨h1, ?_⟩, Nat.le_trans h4 hb.size, h5.trans (hb.mono h4)⟩
  rcases h2 with h2 | ⟨g, cap, cur, e, hB, hg, r⟩
  · exact .inl h2
  · exact .inr ⟨g, cap, cur, e, hB, (hb.block g (blkLt hg)).trans hg, r⟩
set_option maxHeartbeats 4000000 in
theorem wkNames_any (a : Option Addr) (cap : Nat) (rs : List CWk) (hl : rs.length ≤ 100000000) (w : World) (hr : ReadsWk w.heap.size w a rs) :
    Calls Try.prog 33 #[.slice a rs.length cap, .func (.func 34) #[] #[]] w fun e w' => ∃ g cp, e = .returned (.slice (some ⟨g, 0, none⟩) rs.length cp) ∧ rs.length ≤ cp ∧ ReadsS w'.heap.size w' (some ⟨g, 0, none⟩) (rs.map (·.nm)) ∧ Below w.heap.size w w' := by
  have HR : Hid (ReadsWk w.heap.size w a rs) := hr
  clear hr
  have hmk : ∀ w, (Instr.makeSlice 51 (.int .i64 0) (.int .i64 (rs.length : Int))).run Try.prog w = .ok (.slice (some ⟨w.heap.size, 0, none⟩) 0 rs.length) (w.alloc (.cells (madeCells #[.string ⟨#[]⟩] rs.length) 9)) := fun w => makeStrs 0 rs.length (by omega) (by omega) w
  obtain ⟨i0, hi, hzz⟩ := Option.map_eq_some_iff.1 strInfo
  simp only [Prod.mk.injEq] at hzz
  obtain ⟨hi0, hi1, hi2⟩ := hzz
  have H0 : Hid (OneS w w.heap.size (.slice (some ⟨w.heap.size, 0, none⟩) 0 rs.length) [] (w.alloc (Obj.cells (madeCells #[.string ⟨#[]⟩] rs.length) 9))) := OneS.made w w.heap.size rfl rs.length (by omega)
  go_enter Try.func33, Try.ntmps33
  go_wp2
  go_loopw [5, 7, 13] (fun v _ c wr => ∃ k g cp : Nat, k ≤ rs.length ∧ k ≤ cp ∧ c = .int .i64 (k : Int) ∧ v = .slice (some ⟨g, 0, none⟩) k cp ∧ OneS w w.heap.size (.slice (some ⟨g, 0, none⟩) k cp) ((rs.take k).map (·.nm)) wr) (fun _ _ c _ => rs.length - (intOf c).toNat)
  case atStart => exact ⟨0, w.heap.size, rs.length, Nat.zero_le _, Nat.zero_le _, rfl, rfl, by simpa using H0.out⟩
  case round =>
    clear H0 hmk
    obtain ⟨k, g, cp, hk, hkc, rfl, rfl, hO⟩ := hrel
    have HO : Hid (OneS w w.heap.size (.slice (some ⟨g, 0, none⟩) k cp) ((rs.take k).map (·.nm)) wr) := hO
    have HB : Hid (Below w.heap.size w wr) := hO.2.2
    clear hO
    by_cases hlt : k < rs.length
    · have hlt' : (k : Int) < (rs.length : Int) := by omega
      rcases HR.out with h | ⟨b0, o0, ha, hB0, ia⟩
      · rw [h] at hlt; simp at hlt
      obtain ⟨h, cq, ⟨c0, c1, c2, c3, c4⟩, _, _⟩ := (ia.below HB.out hB0 (Nat.le_refl _)) k hlt
      have hlen : ((rs.take k).map (·.nm)).length = k := by rw [List.length_map, List.length_take]; omega
      have HN : Hid ((rs.take k).map (·.nm) ++ [(rs.getD k zWk).nm] = (rs.take (k + 1)).map (·.nm)) := by
        have e : rs.getD k zWk = rs[k] := by simp [List.getD_eq_getElem?_getD, hlt]
        show _ = _
        rw [List.take_succ_eq_append_getElem hlt, List.map_append, e]; rfl
      have hNm := fun W => wkName_any (rs.getD k zWk) h cq W
      rw [ha]
      clear ia
      generalize rs.getD k zWk = r at *
      obtain ⟨nm, ms, rt, co, sk⟩ := r
      dsimp only at c0 c1 c2 c3 c4 HN hNm
      generalize sk.length = n at *
      have HNm : Hid (∀ W, Calls Try.prog 34 #[.agg #[.string nm, .int .i64 ms, .int .i64 rt, .int .i64 co, .slice h n cq]] W fun e w' => e = .returned (.string nm) ∧ Below W.heap.size W w') := hNm
      clear hNm
      generalize (rs.take k).map (·.nm) = L at *
      obtain rfl : L.length = k := hlen
      go_wp2_with fail
      (first | go_at_call 34 | skip)
      refine (HNm.out _).mono ?_
      rintro e w2 ⟨rfl, hb2⟩
      have HO2 : Hid (OneS w w.heap.size (.slice (some ⟨g, 0, none⟩) L.length cp) L w2) := HO.out.laterW (chain (below_alloc _ _) hb2)
      have HW5 : Hid (OneS w w.heap.size (.slice (some ⟨g, 0, none⟩) L.length cp) L (w2.alloc (Obj.cells #[.string nm] 9))) := HO2.out.alloc _
      have HNw : Hid (∀ j u, [Value.string nm][j]? = some u → (w2.alloc (Obj.cells #[.string nm] 9)).cell? ((⟨w2.heap.size, 0, none⟩ : Addr).add j) = some u) := newsOneS w2 (.string nm) 9
      clear hb2 HO
      go_wp2_with (at_builtin; refine wpList_append_lies _ rfl _ _ 51 rfl w.heap.size 9 i0 (.string ⟨#[]⟩) 1 16 Try.underlying51 hi hi0 hi1 hi2 rfl (by decide) _ _ _ rfl HW5.out.1 ⟨w2.heap.size, 0, none⟩ 1 1 [.string nm] rfl rfl HNw.out (by intro u hu; simp at hu; rcases hu with rfl; rfl) (by omega) (by unfold maxLen; omega) (by omega) HW5.out.2.1 _ rfl ?_; intro g1 cp1 w7 hown1 hgrow1 hat1 hglt1; have HO7 : Hid (OneS w w.heap.size (.slice (some ⟨g1, 0, none⟩) (L.length + 1) cp1) (L ++ [nm]) w7) := HW5.out.push hown1 hgrow1; clear hown1 hgrow1 hat1)
      have hc1 := HO7.out.cap
      have HO8 : Hid (OneS w w.heap.size (.slice (some ⟨g1, 0, none⟩) (L.length + 1) cp1) ((rs.take (L.length + 1)).map (·.nm)) w7) := by have := HO7.out; rwa [HN.out] at this
      go_roundw
      case rel => exact ⟨L.length + 1, g1, cp1, by omega, hc1, by go_num, rfl, HO8.out⟩
      case measure => simp [intOf]; omega
    · obtain rfl : k = rs.length := by omega
      have HO' : Hid (ReadsS wr.heap.size wr (some ⟨g, 0, none⟩) (rs.map (·.nm))) := by have := HO.out.reads (by rw [List.length_map, List.take_length]); rwa [List.take_length] at this
      go_wp2
      go_ret
      exact ⟨g, cp, rfl, hkc, HO'.out, HB.out⟩
/-- What ShiftsOK answers. -/
def roB (rs : List RSf) (ws : List CWk) : Bool := if 8 < rs.length ∨ 5 < ws.length then false else srB rs && (sfsB rs && (diffB (ws.map (·.nm)) && ws.all wkOne))
set_option maxHeartbeats 4000000 in
/-- The program's ShiftsOK, for all lists. -/
theorem impShifts_any (ad : Option Addr) (cap : Nat) (rs : List RSf) (aw : Option Addr) (cw : Nat) (ws : List CWk) (hl : rs.length ≤ 100000000) (hlw : ws.length ≤ 100000000) (hp : ∀ r ∈ rs, SfOK r) (hpw : ∀ c ∈ ws, WkOK c) (w : World) (hr : ReadsSf w.heap.size w ad rs) (hw : ReadsWk w.heap.size w aw ws) :
    Calls Try.prog 10 #[.slice ad rs.length cap, .slice aw ws.length cw] w fun e w' => e = .returned (.bool (roB rs ws)) ∧ Below w.heap.size w w' := by
  by_cases h8 : (8 : Int) < (rs.length : Int)
  · have HA : Hid (roB rs ws = false) := by show _ = _; unfold roB; rw [if_pos (by omega)]
    clear hr hp hw hpw
    go_enter Try.func10, Try.ntmps10
    go_wp2
    go_ret
    exact ⟨ret_bool HA.out.symm, Below.refl _ _⟩
  by_cases h5 : (5 : Int) < (ws.length : Int)
  · have HA : Hid (roB rs ws = false) := by show _ = _; unfold roB; rw [if_pos (by omega)]
    clear hr hp hw hpw
    go_enter Try.func10, Try.ntmps10
    go_wp2
    go_ret
    exact ⟨ret_bool HA.out.symm, Below.refl _ _⟩
  have HA : Hid (roB rs ws = (srB rs && (sfsB rs && (diffB (ws.map (·.nm)) && ws.all wkOne)))) := by show _ = _; unfold roB; rw [if_neg (by omega)]
  have HBg : Hid (Calls Try.prog 29 #[.slice ad rs.length cap] w fun e w' => e = .returned (.bool (srB rs)) ∧ Below w.heap.size w w') := impBegin_any ad cap rs hl w hr
  have HS : Hid (∀ W, Below w.heap.size w W → Calls Try.prog 30 #[.slice ad rs.length cap, .func (.func 31) #[] #[]] W fun e w' => e = .returned (.bool (!sfsB rs)) ∧ Below W.heap.size W w') := fun W hb => sfContains_any ad cap rs hl hp W ((hr.below hb).mono hb.size)
  have HNa : Hid (∀ W, Below w.heap.size w W → Calls Try.prog 33 #[.slice aw ws.length cw, .func (.func 34) #[] #[]] W fun e w' => ∃ g cp, e = .returned (.slice (some ⟨g, 0, none⟩) ws.length cp) ∧ ws.length ≤ cp ∧ ReadsS w'.heap.size w' (some ⟨g, 0, none⟩) (ws.map (·.nm)) ∧ Below W.heap.size W w') := fun W hb => wkNames_any aw cw ws hlw W (hw.later hb)
  have HD : Hid (∀ g cp W, ws.length ≤ cp → ReadsS W.heap.size W (some ⟨g, 0, none⟩) (ws.map (·.nm)) → Calls Try.prog 35 #[.slice (some ⟨g, 0, none⟩) ws.length cp] W fun e w' => e = .returned (.bool (diffB (ws.map (·.nm)))) ∧ Below W.heap.size W w') := fun g cp W h1 h3 => by
    have := diff_any (some ⟨g, 0, none⟩) cp (ws.map (·.nm)) (by simp; omega) (by simpa using h1) (fun s hs => by obtain ⟨r, hr, rfl⟩ := List.mem_map.mp hs; exact (hpw r hr).1) W h3
    rwa [List.length_map] at this
  have HC : Hid (∀ W, Below w.heap.size w W → Calls Try.prog 36 #[.slice aw ws.length cw, .func (.func 37) #[] #[]] W fun e w' => e = .returned (.bool (!ws.all wkOne)) ∧ Below W.heap.size W w') := fun W hb => wkContains_any aw cw ws hlw hpw W (hw.later hb)
  clear hr hp hw hpw
  generalize ws.map (·.nm) = nms at *
  generalize srB rs = b1 at *
  generalize sfsB rs = b2 at *
  generalize ws.all wkOne = b4 at *
  go_enter Try.func10, Try.ntmps10
  go_wp2_with fail
  (first | go_at_call 29 | skip)
  refine HBg.out.mono ?_
  rintro e w1 ⟨rfl, hb1⟩
  have HB1 : Hid (Below w.heap.size w w1) := hb1
  clear hb1 HBg
  cases b1
  · go_wp2
    go_ret
    exact ⟨ret_bool HA.out.symm, HB1.out⟩
  go_wp2_with fail
  (first | go_at_call 30 | skip)
  refine (HS.out _ HB1.out).mono ?_
  rintro e w2 ⟨rfl, hb2⟩
  have HB2 : Hid (Below w.heap.size w w2) := chain HB1.out hb2
  clear hb2 HB1 HS
  cases b2
  · go_wp2
    go_ret
    exact ⟨ret_bool HA.out.symm, HB2.out⟩
  go_wp2_with fail
  (first | go_at_call 33 | skip)
  refine (HNa.out _ HB2.out).mono ?_
  rintro e w3 ⟨g, cp, rfl, hcp, hrs, hb3⟩
  have HD1 : Hid (Calls Try.prog 35 #[.slice (some ⟨g, 0, none⟩) ws.length cp] w3 fun e w' => e = .returned (.bool (diffB nms)) ∧ Below w3.heap.size w3 w') := HD.out g cp w3 hcp hrs
  have HB3 : Hid (Below w.heap.size w w3) := chain HB2.out hb3
  clear HNa hrs hb3 HD HB2
  generalize diffB nms = db at *
  go_wp2_with fail
  (first | go_at_call 35 | skip)
  refine HD1.out.mono ?_
  rintro e w4 ⟨rfl, hb4⟩
  have HB4 : Hid (Below w.heap.size w w4) := chain HB3.out hb4
  clear hb4 HD1 HB3
  cases db
  · go_wp2
    go_ret
    exact ⟨ret_bool HA.out.symm, HB4.out⟩
  go_wp2_with fail
  (first | go_at_call 36 | skip)
  refine (HC.out _ HB4.out).mono ?_
  rintro e w5 ⟨rfl, hb5⟩
  have HB5 : Hid (Below w.heap.size w w5) := chain HB4.out hb5
  clear hb5 HC HB4
  go_wp2
  go_ret
  exact ⟨ret_bool (by rw [HA.out]; cases b4 <;> rfl), HB5.out⟩
end Go.Proofs.Yteigbmdhfeagfaa

/-
  Lists of tax rows in memory; which rows are right, as a function of them; the program's taxRowOK and anyMeets.
-/
import Derived.Test.YtoaimjocphfcaaaNameAny
import Derived.Test.YtoaimjocphfcaaaRate
import Derived.Test.YtoaimjocphfcaaaLists0
namespace Go.Proofs.Ytoaimjocphfcaaa
open Go.ChangeShapes Go.WideShapes Go.ChangeAt Go.RowKit
set_option linter.unusedVariables false

/-- A tax row: class, place, from, to, the rate's two numbers. -/
structure TR where
  cl : Int
  pl : ByteArray
  fr : Int
  to : Int
  n : Int
  d : Int
def tr0 : TR := ⟨0, ByteArray.empty, 0, 0, 0, 0⟩
/-- One row lies in block b from off on, six cells. -/
def RowAt (w : World) (b off : Nat) (r : TR) : Prop :=
  w.cell? ⟨b, off, none⟩ = some (.int .i64 r.cl) ∧ w.cell? ⟨b, off + 1, none⟩ = some (.string r.pl) ∧ w.cell? ⟨b, off + 2, none⟩ = some (.int .i64 r.fr) ∧ w.cell? ⟨b, off + 3, none⟩ = some (.int .i64 r.to) ∧ w.cell? ⟨b, off + 4, none⟩ = some (.int .i64 r.n) ∧ w.cell? ⟨b, off + 5, none⟩ = some (.int .i64 r.d)
def RowsAt (w : World) (b off : Nat) (rs : List TR) : Prop := ∀ i, i < rs.length → RowAt w b (off + i * 6) (rs.getD i tr0)
def ReadsT (B : Nat) (w : World) (a : Option Addr) (rs : List TR) : Prop := rs = [] ∨ ∃ b off, a = some ⟨b, off, none⟩ ∧ b < B ∧ RowsAt w b off rs

theorem RowAt.below {B : Nat} {w w' : World} {b off : Nat} {r : TR} (h : RowAt w b off r) (hb : Below B w w') (hB : b < B) : RowAt w' b off r :=
  ⟨(hb.cell (p := ⟨b, off, none⟩) hB).trans h.1, (hb.cell (p := ⟨b, off + 1, none⟩) hB).trans h.2.1, (hb.cell (p := ⟨b, off + 2, none⟩) hB).trans h.2.2.1, (hb.cell (p := ⟨b, off + 3, none⟩) hB).trans h.2.2.2.1, (hb.cell (p := ⟨b, off + 4, none⟩) hB).trans h.2.2.2.2.1, (hb.cell (p := ⟨b, off + 5, none⟩) hB).trans h.2.2.2.2.2⟩
theorem RowsAt.below {B : Nat} {w w' : World} {b off : Nat} {rs : List TR} (h : RowsAt w b off rs) (hb : Below B w w') (hB : b < B) : RowsAt w' b off rs := fun i hi => (h i hi).below hb hB
theorem ReadsT.below {B : Nat} {w w' : World} {a : Option Addr} {rs : List TR} (h : ReadsT B w a rs) (hb : Below B w w') : ReadsT B w' a rs := by
  rcases h with h | ⟨b, off, ha, hB, hi⟩
  · exact .inl h
  · exact .inr ⟨b, off, ha, hB, hi.below hb hB⟩
theorem ReadsT.mono {B B' : Nat} {w : World} {a : Option Addr} {rs : List TR} (h : ReadsT B w a rs) (hb : B ≤ B') : ReadsT B' w a rs := by
  rcases h with h | ⟨b, off, ha, hB, hi⟩
  · exact .inl h
  · exact .inr ⟨b, off, ha, by omega, hi⟩

/-- Is one row right by itself? -/
def trOne (r : TR) : Bool := inB r.cl 1 9 && (r.pl.toList.isEmpty || nameB r.pl) && decide (0 ≤ r.fr ∧ r.fr < r.to ∧ r.to ≤ 100000) && rateB r.n r.d
/-- Have two rows a day in common? -/
def meets (q r : TR) : Bool := decide (q.fr < r.to) && decide (r.fr < q.to)
/-- .. and are of one class and place. -/
def clash (q r : TR) : Bool := (q.cl == r.cl) && (q.pl.toList == r.pl.toList) && meets q r
def trGo (rs : List TR) : Nat → Nat → Bool
  | 0, _ => true
  | f + 1, k => trOne (rs.getD k tr0) && !((rs.take k).any fun q => clash q (rs.getD k tr0)) && trGo rs f (k + 1)
/-- Are the rows right? -/
def trAll (rs : List TR) : Bool := if 60 < rs.length then false else trGo rs rs.length 0
theorem trGo_step (rs : List TR) (k : Nat) (h : k < rs.length) : trGo rs (rs.length - k) k = (trOne (rs.getD k tr0) && !((rs.take k).any fun q => clash q (rs.getD k tr0)) && trGo rs (rs.length - (k + 1)) (k + 1)) := by
  obtain ⟨r, hr⟩ : ∃ r, rs.length - k = r + 1 := ⟨rs.length - k - 1, by omega⟩
  rw [hr, show rs.length - (k + 1) = r by omega]; rfl

/-- The ways through the test of one row. -/
theorem one_ways (c : Int) (s : ByteArray) (f t n d : Int) : (inB c 1 9 = false ∧ trOne ⟨c, s, f, t, n, d⟩ = false) ∨ (inB c 1 9 = true ∧ s.toList.isEmpty = false ∧ nameB s = false ∧ trOne ⟨c, s, f, t, n, d⟩ = false) ∨
    (inB c 1 9 = true ∧ (s.toList.isEmpty = true ∨ (s.toList.isEmpty = false ∧ nameB s = true)) ∧
      ((f < 0 ∧ trOne ⟨c, s, f, t, n, d⟩ = false) ∨ (0 ≤ f ∧ t ≤ f ∧ trOne ⟨c, s, f, t, n, d⟩ = false) ∨ (0 ≤ f ∧ f < t ∧ 100000 < t ∧ trOne ⟨c, s, f, t, n, d⟩ = false) ∨ (0 ≤ f ∧ f < t ∧ t ≤ 100000 ∧ trOne ⟨c, s, f, t, n, d⟩ = rateB n d))) := by
  have e : trOne ⟨c, s, f, t, n, d⟩ = (inB c 1 9 && (s.toList.isEmpty || nameB s) && decide (0 ≤ f ∧ f < t ∧ t ≤ 100000) && rateB n d) := rfl
  rw [e]
  cases h1 : inB c 1 9
  · exact .inl ⟨rfl, by simp⟩
  · have hw := (by omega : f < 0 ∨ (0 ≤ f ∧ t ≤ f) ∨ (0 ≤ f ∧ f < t ∧ 100000 < t) ∨ (0 ≤ f ∧ f < t ∧ t ≤ 100000))
    cases h2 : s.toList.isEmpty
    · cases h3 : nameB s
      · exact .inr (.inl ⟨rfl, rfl, rfl, by simp⟩)
      · refine .inr (.inr ⟨rfl, .inr ⟨rfl, rfl⟩, ?_⟩)
        rcases hw with h | h | h | h
        · exact .inl ⟨h, by rw [decide_eq_false (by omega)]; simp⟩
        · exact .inr (.inl ⟨h.1, h.2, by rw [decide_eq_false (by omega)]; simp⟩)
        · exact .inr (.inr (.inl ⟨h.1, h.2.1, h.2.2, by rw [decide_eq_false (by omega)]; simp⟩))
        · exact .inr (.inr (.inr ⟨h.1, h.2.1, h.2.2, by rw [decide_eq_true (by omega)]; simp⟩))
    · refine .inr (.inr ⟨rfl, .inl rfl, ?_⟩)
      rcases hw with h | h | h | h
      · exact .inl ⟨h, by rw [decide_eq_false (by omega)]; simp⟩
      · exact .inr (.inl ⟨h.1, h.2, by rw [decide_eq_false (by omega)]; simp⟩)
      · exact .inr (.inr (.inl ⟨h.1, h.2.1, h.2.2, by rw [decide_eq_false (by omega)]; simp⟩))
      · exact .inr (.inr (.inr ⟨h.1, h.2.1, h.2.2, by rw [decide_eq_true (by omega)]; simp⟩))

theorem class_any (n : Int) (w : World) :
    Calls Try.prog 30 #[.int .i64 n] w fun e w' => e = .returned (.bool (inB n 1 9)) ∧ w' = w := by
  rcases in_ways n 1 9 with h | ⟨h1, h2⟩ | ⟨h1, h2⟩
  all_goals
    go_enter Try.func30, Try.ntmps30
    go_wp2
    go_ret
    exact ⟨ret_bool (by first | exact (decide_eq_false (by omega)).symm | exact (decide_eq_true (by omega)).symm | exact decide_eq_decide.mpr (by omega) | (simp [inB]; omega)), rfl⟩

def TrOK (r : TR) : Prop := r.pl.size ≤ 2000000

set_option maxHeartbeats 2000000 in
theorem rowOK_any (c : Int) (s : ByteArray) (f t n d : Int) (hs : s.size ≤ 2000000) (w : World) :
    Calls Try.prog 27 #[.agg #[.int .i64 c, .string s, .int .i64 f, .int .i64 t, .int .i64 n, .int .i64 d]] w fun e w' => e = .returned (.bool (trOne ⟨c, s, f, t, n, d⟩)) ∧ Below w.heap.size w w' := by
  have hcl := fun w => class_any c w
  have hnm := fun w => implName_any s (by unfold maxLen; omega) w
  have hrt := fun w => implRate_any n d w
  have HC : Hid (∀ b, inB c 1 9 = b → ∀ w, Calls Try.prog 30 #[.int .i64 c] w fun e w' => e = .returned (.bool b) ∧ w' = w) := fun b h w => h ▸ class_any c w
  have HN : Hid (∀ b, nameB s = b → ∀ w, Calls Try.prog 41 #[.string s] w fun e w' => e = .returned (.bool b) ∧ Below w.heap.size w w') := fun b h w => h ▸ implName_any s (by unfold maxLen; omega) w
  clear hcl hnm
  rcases one_ways c s f t n d with ⟨h1, h2⟩ | ⟨h1, h2, h3, h4⟩ | ⟨h1, (h2 | ⟨h2, h3⟩), (⟨h4, h5⟩ | ⟨h4, h5, h6⟩ | ⟨h4, h5, h6, h7⟩ | ⟨h4, h5, h6, h7⟩)⟩
  all_goals
    rw [(by first | exact h2 | exact h4 | exact h5 | exact h6 | exact h7 : trOne ⟨c, s, f, t, n, d⟩ = _)]
    have H1 : Hid _ := HC.out _ h1
    clear h1
    try (have H3 : Hid _ := HN.out _ h3; clear h3)
    generalize rateB n d = rb at *
    go_enter Try.func27, Try.ntmps27
    go_wp2_with (first
      | (go_at_call 30; refine (H1.out _).mono ?_; rintro e w1 ⟨rfl, rfl⟩)
      | (go_at_call 41; refine (H3.out _).mono ?_; rintro e w2 ⟨rfl, hb2⟩; obtain ⟨hc2, hf2, hz2⟩ := bfacts hb2)
      | (go_at_call 42; refine (hrt _).mono ?_; rintro e w3 ⟨rfl, hb3⟩))
    go_ret
    exact ⟨rfl, by repeat (first | exact Below.refl _ _ | refine chain ?_ (by assumption) | refine chain ?_ (below_alloc _ _) | refine chain ?_ (below_drew _))⟩

set_option maxHeartbeats 1000000 in
/-- Does a row meet the one that was captured in block B? -/
theorem meets1_any (c : Int) (s : ByteArray) (f t n d : Int) (r : TR) (B : Nat) (w : World) (hB : B < w.heap.size) (hr : RowAt w B 0 r) :
    Calls Try.prog 44 #[.agg #[.int .i64 c, .string s, .int .i64 f, .int .i64 t, .int .i64 n, .int .i64 d], .pointer (some ⟨B, 0, none⟩)] w fun e w' => e = .returned (.bool (meets ⟨c, s, f, t, n, d⟩ r)) ∧ Below w.heap.size w w' := by
  obtain ⟨_, _, c2, c3, _, _⟩ := hr
  have e : meets ⟨c, s, f, t, n, d⟩ r = (decide (f < r.to) && decide (r.fr < t)) := rfl
  rw [e]
  generalize r.to = x at *
  generalize r.fr = y at *
  have hne : B ≠ w.heap.size := by omega
  rcases (by omega : x ≤ f ∨ (f < x ∧ t ≤ y) ∨ (f < x ∧ y < t)) with h | ⟨h, h'⟩ | ⟨h, h'⟩
  all_goals
    go_enter Try.func44, Try.ntmps44
    go_wp2
    go_ret
    exact ⟨ret_bool (by rw [Bool.eq_iff_iff]; simp; try omega), below_alloc _ _⟩

theorem any_next (p : TR → Bool) (rs : List TR) (k : Nat) (h : k < rs.length) : (rs.take (k + 1)).any p = ((rs.take k).any p || p (rs.getD k tr0)) := by
  rw [List.take_succ_eq_append_getElem h, List.any_append]
  have e : rs.getD k tr0 = rs[k] := by simp [List.getD_eq_getElem?_getD, h]
  rw [e]; simp
theorem any_at {p : TR → Bool} {rs : List TR} {k : Nat} (h : k < rs.length) (hp : p (rs.getD k tr0) = true) : rs.any p = true := by
  have e : rs.getD k tr0 = rs[k] := by simp [List.getD_eq_getElem?_getD, h]
  rw [e] at hp
  exact List.any_eq_true.mpr ⟨rs[k], List.getElem_mem _, hp⟩

set_option maxHeartbeats 2000000 in
theorem index_any (a : Option Addr) (cap : Nat) (rs : List TR) (hl : rs.length ≤ 100000000) (r : TR) (B : Nat) (w : World) (hr : ReadsT w.heap.size w a rs) (hB : B < w.heap.size) (hB' : RowAt w B 0 r) :
    Calls Try.prog 54 #[.slice a rs.length cap, .func (.func 44) #[] #[.pointer (some ⟨B, 0, none⟩)]] w fun e w' => (∃ x : Int, e = .returned (.int .i64 x) ∧ decide (0 ≤ x) = rs.any (fun q => meets q r)) ∧ Below w.heap.size w w' := by
  have HR : Hid (ReadsT w.heap.size w a rs) := hr
  have HB' : Hid (RowAt w B 0 r) := hB'
  clear hr hB'
  go_enter Try.func54, Try.ntmps54
  go_wp2
  go_loopw [5, 8] (fun _ c wr => ∃ k : Nat, k ≤ rs.length ∧ c = .int .i64 (k : Int) ∧ (rs.take k).any (fun q => meets q r) = false ∧ Below w.heap.size w wr) (fun _ c _ => rs.length - (intOf c).toNat)
  case atStart => exact ⟨0, Nat.zero_le _, rfl, rfl, Below.refl _ _⟩
  case round =>
    obtain ⟨k, hk, rfl, hf, hb⟩ := hrel
    have HF : Hid ((rs.take k).any (fun q => meets q r) = false) := hf
    have HB : Hid (Below w.heap.size w wr) := hb
    clear hf hb
    by_cases hlt : k < rs.length
    · have hlt' : (k : Int) < (rs.length : Int) := by omega
      rcases HR.out with h | ⟨b0, o0, ha, hB0, ia⟩
      · rw [h] at hlt; simp at hlt
      obtain ⟨c0, c1, c2, c3, c4, c5⟩ := (ia.below HB.out hB0) k hlt
      have hm := meets1_any (rs.getD k tr0).cl (rs.getD k tr0).pl (rs.getD k tr0).fr (rs.getD k tr0).to (rs.getD k tr0).n (rs.getD k tr0).d r B wr (Nat.lt_of_lt_of_le hB HB.out.size) (HB'.out.below HB.out hB)
      have HX : Hid (meets (rs.getD k tr0) r = true → rs.any (fun q => meets q r) = true) := fun h => any_at (p := fun q => meets q r) hlt h
      have HN : Hid ((rs.take (k + 1)).any (fun q => meets q r) = ((rs.take k).any (fun q => meets q r) || meets (rs.getD k tr0) r)) := any_next (fun q => meets q r) rs k hlt
      change Calls _ _ _ _ (fun e w' => e = .returned (.bool (meets (rs.getD k tr0) r)) ∧ _) at hm
      rw [ha]
      clear ia
      generalize rs.getD k tr0 = q at *
      obtain ⟨qc, qp, qf, qt, qn, qd⟩ := q
      dsimp only at c0 c1 c2 c3 c4 c5 hm
      generalize meets ⟨qc, qp, qf, qt, qn, qd⟩ r = mb at *
      cases mb
      · go_wp2_with (go_at_call 44; refine hm.mono ?_; rintro e w2 ⟨rfl, hb2⟩)
        exact ⟨⟨k + 1, by omega, by go_num, by rw [HN.out, HF.out]; rfl, chain HB.out hb2⟩, by simp [intOf]; omega⟩
      · go_wp2_with (go_at_call 44; refine hm.mono ?_; rintro e w2 ⟨rfl, hb2⟩)
        go_ret
        exact ⟨⟨(k : Int), rfl, by rw [HX.out trivial]; exact decide_eq_true (by omega)⟩, chain HB.out hb2⟩
    · have hle : (rs.length : Int) ≤ (k : Int) := by omega
      have HE : Hid (rs.any (fun q => meets q r) = false) := by have := HF.out; rwa [List.take_of_length_le (by omega)] at this
      go_wp2
      go_ret
      exact ⟨⟨-1, rfl, by rw [HE.out]; rfl⟩, HB.out⟩

theorem contains_any (a : Option Addr) (cap : Nat) (rs : List TR) (hl : rs.length ≤ 100000000) (r : TR) (B : Nat) (w : World) (hr : ReadsT w.heap.size w a rs) (hB : B < w.heap.size) (hB' : RowAt w B 0 r) :
    Calls Try.prog 43 #[.slice a rs.length cap, .func (.func 44) #[] #[.pointer (some ⟨B, 0, none⟩)]] w fun e w' => e = .returned (.bool (rs.any (fun q => meets q r))) ∧ Below w.heap.size w w' := by
  have hi := index_any a cap rs hl r B w hr hB hB'
  clear hr hB'
  go_enter Try.func43, Try.ntmps43
  go_wp2_with (go_at_call 54; refine hi.mono ?_; rintro e w2 ⟨⟨x, rfl, hx⟩, hb2⟩; have HX : Hid (decide (0 ≤ x) = rs.any (fun q => meets q r)) := hx; clear hx)
  go_ret
  exact ⟨ret_bool HX.out, hb2⟩

theorem anyMeets_any (a : Option Addr) (cap : Nat) (rs : List TR) (hl : rs.length ≤ 100000000) (c : Int) (s : ByteArray) (f t n d : Int) (w : World) (hr : ReadsT w.heap.size w a rs) :
    Calls Try.prog 28 #[.slice a rs.length cap, .agg #[.int .i64 c, .string s, .int .i64 f, .int .i64 t, .int .i64 n, .int .i64 d]] w fun e w' => e = .returned (.bool (rs.any (fun q => meets q ⟨c, s, f, t, n, d⟩))) ∧ Below w.heap.size w w' := by
  have hk := contains_any a cap rs hl ⟨c, s, f, t, n, d⟩ w.heap.size (w.alloc (Obj.cells #[.int .i64 c, .string s, .int .i64 f, .int .i64 t, .int .i64 n, .int .i64 d] 45)) ((hr.below (below_alloc _ _)).mono (by simp)) (by simp) ⟨by simp, by simp, by simp, by simp, by simp, by simp⟩
  clear hr
  go_enter Try.func28, Try.ntmps28
  go_wp2_with (go_at_call 43; refine hk.mono ?_; rintro e w2 ⟨rfl, hb2⟩)
  go_ret
  exact ⟨rfl, chain (below_alloc _ _) hb2⟩
end Go.Proofs.Ytoaimjocphfcaaa

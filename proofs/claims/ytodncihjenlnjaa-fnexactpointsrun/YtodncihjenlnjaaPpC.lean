/-
  The program's account in the midst of its acts, in memory; takeFirst.
-/
import Derived.Test.YtodncihjenlnjaaPpL
import Derived.Test.YtodncihjenlnjaaMapV
import Derived.Test.YtodncihjenlnjaaRegZ
namespace Go.Proofs.Ytodncihjenlnjaa
open Go.ChangeShapes Go.WideShapes Go.ChangeAt Go.RowKit Go.Deep
set_option linter.unusedVariables false

def PgIs (W : World) (rb : Nat) (day sp ex : Int) (lv : Value) (nm : Int) (mv : Value) : Prop := W.heap[rb]? = some (.cells #[.int .i64 day, .int .i64 sp, .int .i64 ex, lv, .int .i64 nm, mv] 54 (0, 0))
theorem PgIs.cells {W : World} {rb : Nat} {day sp ex : Int} {lv : Value} {nm : Int} {mv : Value} (h : PgIs W rb day sp ex lv nm mv) : W.cell? ⟨rb, 0, none⟩ = some (.int .i64 day) ∧ W.cell? ⟨rb, 1, none⟩ = some (.int .i64 sp) ∧ W.cell? ⟨rb, 2, none⟩ = some (.int .i64 ex) ∧ W.cell? ⟨rb, 3, none⟩ = some lv ∧ W.cell? ⟨rb, 4, none⟩ = some (.int .i64 nm) ∧ W.cell? ⟨rb, 5, none⟩ = some mv :=
  ⟨blkCell h 0 _ rfl, blkCell h 1 _ rfl, blkCell h 2 _ rfl, blkCell h 3 _ rfl, blkCell h 4 _ rfl, blkCell h 5 _ rfl⟩
theorem PgIs.free {W : World} {rb : Nat} {day sp ex : Int} {lv : Value} {nm : Int} {mv : Value} (h : PgIs W rb day sp ex lv nm mv) (j : Nat) : W.frozen? ⟨rb, j, none⟩ = false := blkFree h j
theorem PgIs.lt {W : World} {rb : Nat} {day sp ex : Int} {lv : Value} {nm : Int} {mv : Value} (h : PgIs W rb day sp ex lv nm mv) : rb < W.heap.size := blkLt h
theorem PgIs.later {W : World} {rb : Nat} {day sp ex : Int} {lv : Value} {nm : Int} {mv : Value} {W' : World} (h : PgIs W rb day sp ex lv nm mv) (hb : Below W.heap.size W W') : PgIs W' rb day sp ex lv nm mv := (hb.block rb h.lt).trans h
theorem PgIs.of {W : World} {rb : Nat} {day sp ex : Int} {lv : Value} {nm : Int} {mv : Value} {W' : World} (h : PgIs W rb day sp ex lv nm mv) (e : W'.heap[rb]? = W.heap[rb]?) : PgIs W' rb day sp ex lv nm mv := e.trans h
theorem PgIs.set0 {W : World} {rb : Nat} {day sp ex : Int} {lv : Value} {nm : Int} {mv : Value} (h : PgIs W rb day sp ex lv nm mv) (x : Int) : PgIs (W.setCell ⟨rb, 0, none⟩ (.int .i64 x)) rb x sp ex lv nm mv := by
  have e := heap_setCell_same W rb 0 _ _ (.int .i64 x) h
  simp only [List.setIfInBounds_toArray, List.set_cons_zero] at e
  exact e
theorem PgIs.set1 {W : World} {rb : Nat} {day sp ex : Int} {lv : Value} {nm : Int} {mv : Value} (h : PgIs W rb day sp ex lv nm mv) (x : Int) : PgIs (W.setCell ⟨rb, 1, none⟩ (.int .i64 x)) rb day x ex lv nm mv := by
  have e := heap_setCell_same W rb 1 _ _ (.int .i64 x) h
  simp only [List.setIfInBounds_toArray, List.set_cons_zero, List.set_cons_succ] at e
  exact e
theorem PgIs.set2 {W : World} {rb : Nat} {day sp ex : Int} {lv : Value} {nm : Int} {mv : Value} (h : PgIs W rb day sp ex lv nm mv) (x : Int) : PgIs (W.setCell ⟨rb, 2, none⟩ (.int .i64 x)) rb day sp x lv nm mv := by
  have e := heap_setCell_same W rb 2 _ _ (.int .i64 x) h
  simp only [List.setIfInBounds_toArray, List.set_cons_zero, List.set_cons_succ] at e
  exact e
theorem PgIs.set3 {W : World} {rb : Nat} {day sp ex : Int} {lv : Value} {nm : Int} {mv : Value} (h : PgIs W rb day sp ex lv nm mv) (x : Value) : PgIs (W.setCell ⟨rb, 3, none⟩ (x)) rb day sp ex x nm mv := by
  have e := heap_setCell_same W rb 3 _ _ (x) h
  simp only [List.setIfInBounds_toArray, List.set_cons_zero, List.set_cons_succ] at e
  exact e
theorem PgIs.set4 {W : World} {rb : Nat} {day sp ex : Int} {lv : Value} {nm : Int} {mv : Value} (h : PgIs W rb day sp ex lv nm mv) (x : Int) : PgIs (W.setCell ⟨rb, 4, none⟩ (.int .i64 x)) rb day sp ex lv x mv := by
  have e := heap_setCell_same W rb 4 _ _ (.int .i64 x) h
  simp only [List.setIfInBounds_toArray, List.set_cons_zero, List.set_cons_succ] at e
  exact e
/-- Which lot is taken of first, how much of it, and what is left. -/
def tkI (L : List RLo) : Nat := feN L L.length
def tkN (m : Int) (L : List RLo) : Int := min m (L.getD (tkI L) zLo).nu
def tkP (m : Int) (L : List RLo) : RLo := ⟨tkN m L, (L.getD (tkI L) zLo).un⟩
def tkL (m : Int) (L : List RLo) : List RLo := if (L.getD (tkI L) zLo).nu - tkN m L = 0 then L.take (tkI L) ++ L.drop (tkI L + 1) else L.set (tkI L) ⟨(L.getD (tkI L) zLo).nu - tkN m L, (L.getD (tkI L) zLo).un⟩
theorem loCells_set (L : List RLo) (i : Nat) (hi : i < L.length) (x : Int) : (loCells L).set (i * 2) (.int .i64 x) = loCells (L.set i ⟨x, (L.getD i zLo).un⟩) := by
  apply List.ext_getElem?
  intro q
  have hl := loCells_len L
  have hl2 := loCells_len (L.set i ⟨x, (L.getD i zLo).un⟩)
  rw [List.length_set] at hl2
  by_cases hq : q < L.length * 2
  · rw [List.getElem?_set]
    have h1 := loCells_at L (q / 2) (by omega)
    have h2 := loCells_at (L.set i ⟨x, (L.getD i zLo).un⟩) (q / 2) (by rw [List.length_set]; omega)
    have hg : (L.set i ⟨x, (L.getD i zLo).un⟩).getD (q / 2) zLo = if i = q / 2 then ⟨x, (L.getD i zLo).un⟩ else L.getD (q / 2) zLo := by
      by_cases e : i = q / 2
      · rw [if_pos e, ← e]; simp [List.getD_eq_getElem?_getD, hi]
      · rw [if_neg e]; simp [List.getD_eq_getElem?_getD, List.getElem?_set_ne e]
    rw [hg] at h2
    rcases (by omega : q = (q / 2) * 2 ∨ q = (q / 2) * 2 + 1) with e | e
    · by_cases e2 : i = q / 2
      · rw [if_pos (by omega), if_pos (by omega)]
        rw [if_pos e2] at h2
        rw [e, h2.1]
      · rw [if_neg (by omega)]
        rw [if_neg e2] at h2
        rw [e, h2.1, h1.1]
    · rw [if_neg (by omega)]
      by_cases e2 : i = q / 2
      · rw [if_pos e2] at h2
        rw [e, h2.2, h1.2, ← e2]
      · rw [if_neg e2] at h2
        rw [e, h2.2, h1.2]
  · rw [List.getElem?_eq_none (by rw [List.length_set]; omega), List.getElem?_eq_none (by omega)]
theorem loCells_cut (L : List RLo) (i : Nat) : (loCells L).take (i * 2) ++ (loCells L).drop ((i + 1) * 2) = loCells (L.take i ++ L.drop (i + 1)) := by
  have ht : ∀ (M : List RLo) k, loCells (M.take k) = (loCells M).take (k * 2) := fun M k => by
    induction M generalizing k with
    | nil => simp [loCells]
    | cons r M ih =>
      cases k with
      | zero => simp [loCells]
      | succ k => rw [List.take_succ_cons, show (k + 1) * 2 = k * 2 + 1 + 1 by omega]; show loC r ++ loCells (M.take k) = _; rw [ih k]; rfl
  have hd : ∀ (M : List RLo) k, loCells (M.drop k) = (loCells M).drop (k * 2) := fun M k => by
    induction M generalizing k with
    | nil => simp [loCells]
    | cons r M ih =>
      cases k with
      | zero => simp
      | succ k => rw [List.drop_succ_cons, show (k + 1) * 2 = k * 2 + 1 + 1 by omega, ih k]; rfl
  rw [loCells_append, ht, hd]
theorem loCells_one (L : List RLo) : ∀ u ∈ loCells L, u.oneCell' = true := fun u hu => by
  obtain ⟨r, _, hu⟩ := List.mem_flatMap.1 hu
  simp [loC] at hu
  rcases hu with rfl | rfl <;> rfl
/-- Of a row of lots one number has turned. -/
theorem loPut {W : World} {B g c : Nat} {L : List RLo} (h : W.ownsRow B 67 2 (.slice (some ⟨g, 0, none⟩) L.length c) L.length (loCells L)) (i : Nat) (hi : i < L.length) (x : Int) : (W.setCell ⟨g, i * 2, none⟩ (.int .i64 x)).ownsRow B 67 2 (.slice (some ⟨g, 0, none⟩) L.length c) L.length (loCells (L.set i ⟨x, (L.getD i zLo).un⟩)) := by
  obtain ⟨h1, h2⟩ := h
  refine ⟨by rw [loCells_len, List.length_set], ?_⟩
  rcases h2 with ⟨q, _⟩ | ⟨g', cap, cur, q, hB, hg, hc, hm, hs, ht⟩
  · simp at q
  · simp at q
    obtain ⟨rfl, rfl⟩ := q
    refine .inr ⟨g, c, cur.setIfInBounds (i * 2) (.int .i64 x), rfl, hB, heap_setCell_same _ _ _ _ _ _ hg, hc, hm, by simpa using hs, ?_⟩
    rw [Array.toList_setIfInBounds, List.take_set, ht, loCells_set L i hi]
set_option maxHeartbeats 8000000 in
set_option maxRecDepth 4000 in
theorem takeFirst_any (B rb g c : Nat) (day sp ex : Int) (nm : Int) (mv : Value) (L : List RLo) (hl0 : 0 < L.length) (hl : L.length ≤ 1000) (hN : ∀ r ∈ L, LoN r) (m : Int) (hm : 1 ≤ m) (hm' : m ≤ 1000000000) (w : World) (hg : PgIs w rb day sp ex (.slice (some ⟨g, 0, none⟩) L.length c) nm mv) (hr : w.ownsRow B 67 2 (.slice (some ⟨g, 0, none⟩) L.length c) L.length (loCells L)) :
    Calls Try.prog 38 #[.pointer (some ⟨rb, 0, none⟩), .int .i64 m] w fun e w' => e = .returned (.agg #[.int .i64 (tkP m L).nu, .int .i64 (tkP m L).un]) ∧ Fr (fun k => k = rb ∨ k = g) w w' ∧ PgIs w' rb day sp ex (.slice (some ⟨g, 0, none⟩) (tkL m L).length c) nm mv ∧ w'.ownsRow B 67 2 (.slice (some ⟨g, 0, none⟩) (tkL m L).length c) (tkL m L).length (loCells (tkL m L)) := by
  have hti : tkI L < L.length := feN_lt L _ hl0
  have hni := getLo' hN hti
  have hE : ∀ W, Below w.heap.size w W → Calls Try.prog 40 #[.slice (some ⟨g, 0, none⟩) L.length c] W fun e w' => e = .returned (.int .i64 ((tkI L : Nat) : Int)) ∧ Below W.heap.size W w' := fun W hW => endsFirst_any _ c L (by omega) W (lo_reads (row_of hr (fun q hq => hW.block q (row_lt hr q hq).2)))
  have hrg : rb ≠ g := fun e => by
    obtain ⟨cur, hc⟩ := row_type hr (q := g) rfl
    have h2 : w.heap[rb]? = _ := hg
    rw [e, hc] at h2
    simp at h2
  have hgl := (row_lt hr g rfl).2
  have hrl := hg.lt
  have HG : Hid (PgIs w rb day sp ex (.slice (some ⟨g, 0, none⟩) L.length c) nm mv) := hg
  have HRw : Hid (w.ownsRow B 67 2 (.slice (some ⟨g, 0, none⟩) L.length c) L.length (loCells L)) := hr
  have HE : Hid (∀ W, Below w.heap.size w W → Calls Try.prog 40 #[.slice (some ⟨g, 0, none⟩) L.length c] W fun e w' => e = .returned (.int .i64 ((tkI L : Nat) : Int)) ∧ Below W.heap.size W w') := hE
  have HRd : Hid (∀ W : World, W.heap[g]? = w.heap[g]? → W.cell? ⟨g, tkI L * 2, none⟩ = some (.int .i64 (L.getD (tkI L) zLo).nu) ∧ W.cell? ⟨g, tkI L * 2 + 1, none⟩ = some (.int .i64 (L.getD (tkI L) zLo).un)) := fun W hW => by
    have h := row_of (w' := W) hr (fun q hq => by cases hq; exact hW)
    exact ⟨by rw [h.cellAt _ (by omega)]; exact (loCells_at L _ hti).1, by rw [h.cellAt _ (by omega)]; exact (loCells_at L _ hti).2⟩
  have HTn : Hid (tkN m L = min m (L.getD (tkI L) zLo).nu ∧ (tkP m L).nu = tkN m L ∧ (tkP m L).un = (L.getD (tkI L) zLo).un) := ⟨rfl, rfl, rfl⟩
  have HTl : Hid (tkL m L = if (L.getD (tkI L) zLo).nu - tkN m L = 0 then L.take (tkI L) ++ L.drop (tkI L + 1) else L.set (tkI L) ⟨(L.getD (tkI L) zLo).nu - tkN m L, (L.getD (tkI L) zLo).un⟩) := rfl
  have HPut : Hid (∀ (W : World) (x : Int), W.heap[g]? = w.heap[g]? → (W.setCell ⟨g, tkI L * 2, none⟩ (.int .i64 x)).ownsRow B 67 2 (.slice (some ⟨g, 0, none⟩) L.length c) L.length (loCells (L.set (tkI L) ⟨x, (L.getD (tkI L) zLo).un⟩))) := fun W x hW => loPut (row_of (w' := W) hr (fun q hq => by cases hq; exact hW)) _ hti x
  have HDel : Hid (∀ (W : World) (x : Int), W.ownsRow B 67 2 (.slice (some ⟨g, 0, none⟩) L.length c) L.length (loCells (L.set (tkI L) ⟨x, (L.getD (tkI L) zLo).un⟩)) → Calls Try.prog 41 #[.slice (some ⟨g, 0, none⟩) L.length c, .int .i64 ((tkI L : Nat) : Int), .int .i64 (((tkI L : Nat) : Int) + 1)] W fun e w' => e = .returned (.slice (some ⟨g, 0, none⟩) (L.length - 1) c) ∧ Fr (fun k => k = g) W w' ∧ w'.ownsRow B 67 2 (.slice (some ⟨g, 0, none⟩) (L.length - 1) c) (L.length - 1) (loCells (L.take (tkI L) ++ L.drop (tkI L + 1)))) := fun W x h => by
    refine (ldDelete_any B g c L.length (tkI L) _ hti (loCells_one _) W h (by omega)).mono ?_
    rintro e w' ⟨h1, h2, h3⟩
    refine ⟨h1, h2, ?_⟩
    rw [loCells_cut] at h3
    have e1 : (L.set (tkI L) ⟨x, (L.getD (tkI L) zLo).un⟩).take (tkI L) = L.take (tkI L) := by rw [List.take_set]; exact List.set_eq_of_length_le (by simp; omega)
    have e2 : (L.set (tkI L) ⟨x, (L.getD (tkI L) zLo).un⟩).drop (tkI L + 1) = L.drop (tkI L + 1) := by rw [List.drop_set, if_pos (by omega)]
    rw [e1, e2] at h3
    exact h3
  have hcl : (L.take (tkI L) ++ L.drop (tkI L + 1)).length = L.length - 1 := by rw [List.length_append, List.length_take, List.length_drop]; omega
  have HCl : Hid _ := hcl
  unfold LoN at hni
  have htn0 : tkN m L = min m (L.getD (tkI L) zLo).nu := rfl
  clear hg hr hE hN hcl
  generalize (L.getD (tkI L) zLo) = r at *
  obtain ⟨nu, un⟩ := r
  dsimp only at hni HRd HTn HTl HPut HDel htn0
  obtain ⟨p, hp⟩ : ∃ p, p = tkN m L := ⟨_, rfl⟩
  have hpm : p = min m nu := by rw [hp, htn0]
  have HP : Hid (p = tkN m L) := hp
  have hpb : 1 ≤ p ∧ p ≤ nu ∧ p ≤ m := by omega
  have HIf : Hid ((if nu < m then nu else m) = p) := by show _ = _; split <;> omega
  have hwp : IntKind.i64.wrap (nu - p) = nu - p := wrap_id _ (by omega) (by omega)
  have hti' : ((tkI L : Nat) : Int) < (L.length : Int) := by omega
  have hti0 : (0 : Int) ≤ ((tkI L : Nat) : Int) := by omega
  have hwi : IntKind.i64.wrap (((tkI L : Nat) : Int) + 1) = ((tkI L : Nat) : Int) + 1 := wrap_id _ (by omega) (by omega)
  clear hp hpm htn0
  generalize hI : tkI L = i at *
  clear hI
  have c3 := (HG.out.later (below_alloc w (Obj.cells #[.int .i64 0, .int .i64 0] 67))).cells.2.2.2.1
  go_enter Try.func38, Try.ntmps38
  go_wp2_with fail
  (first | go_at_call 40 | skip)
  refine (HE.out _ (below_alloc _ _)).mono ?_
  rintro e w1 ⟨rfl, hb1⟩
  have HB1 : Hid (Below w.heap.size w w1 ∧ w1.heap[w.heap.size]? = some (.cells #[.int .i64 0, .int .i64 0] 67 (0, 0))) := ⟨chain (below_alloc _ _) hb1, (hb1.block _ (by simp)).trans (heapNew _ _)⟩
  clear hb1 c3 HE
  go_wp2_with fail
  -- what is taken
  have hz1 : w.heap.size < w1.heap.size := blkLt HB1.out.2
  have HQ : Hid (∀ W : World, Below w1.heap.size w1 W → W.heap[g]? = w.heap[g]?) := fun W hW => (hW.block g (by omega)).trans (HB1.out.1.block g hgl)
  refine wp_region_held_drew (S := fun W => Below w1.heap.size w1 W) (by kernel_rfl) (below_drew _) (fun hH => ?_)
  refine wpAnyH_take (i := 0) (v := .int .i64 m) rfl (by kernel_rfl) (by kernel_rfl) (by kernel_rfl) (fun _ _ _ h => h) (Or.inl ⟨by rfl, fun w hSw => by go_simp⟩) hH ?_
  refine wpAnyH_take (i := 1) (v := .slice (some ⟨g, 0, none⟩) L.length c) rfl (by kernel_rfl) (by kernel_rfl) (by kernel_rfl) (fun _ _ _ h => h) (Or.inl ⟨by rfl, fun w hSw => by go_simp⟩) hH ?_
  try simp only [Act.put, List.setIfInBounds_toArray, List.set_cons_zero, List.set_cons_succ, List.getElem_toArray, List.getElem_cons_succ, List.getElem_cons_zero]
  refine wpAnyH_take (i := 2) (v := .int .i64 (i : Int)) rfl (by kernel_rfl) (by kernel_rfl) (by kernel_rfl) (fun _ _ _ h => h) (Or.inl ⟨by rfl, fun w hSw => by go_simp⟩) hH ?_
  try simp only [Act.put, List.setIfInBounds_toArray, List.set_cons_zero, List.set_cons_succ, List.getElem_toArray, List.getElem_cons_succ, List.getElem_cons_zero]
  refine wpAnyH_take (i := 3) (v := .pointer (some ⟨g, i * 2, none⟩)) rfl (by kernel_rfl) (by kernel_rfl) (by kernel_rfl) (fun _ _ _ h => h) (Or.inl ⟨by rfl, fun w hSw => by go_simp⟩) hH ?_
  try simp only [Act.put, List.setIfInBounds_toArray, List.set_cons_zero, List.set_cons_succ, List.getElem_toArray, List.getElem_cons_succ, List.getElem_cons_zero]
  refine wpAnyH_take (i := 4) (v := .pointer (some ⟨g, i * 2, none⟩)) rfl (by kernel_rfl) (by kernel_rfl) (by kernel_rfl) (fun _ _ _ h => h) (Or.inl ⟨by rfl, fun w hSw => by go_simp⟩) hH ?_
  try simp only [Act.put, List.setIfInBounds_toArray, List.set_cons_zero, List.set_cons_succ, List.getElem_toArray, List.getElem_cons_succ, List.getElem_cons_zero]
  refine wpAnyH_take (i := 5) (v := .int .i64 nu) rfl (by kernel_rfl) (by kernel_rfl) (by kernel_rfl) (fun _ _ _ h => h) (Or.inl ⟨by rfl, fun w hSw => by have f0 := (HRd.out w (HQ.out w hSw)).1; go_simp⟩) hH ?_
  try simp only [Act.put, List.setIfInBounds_toArray, List.set_cons_zero, List.set_cons_succ, List.getElem_toArray, List.getElem_cons_succ, List.getElem_cons_zero]
  refine wpAnyH_take (i := 6) (v := .int .i64 p) rfl (by kernel_rfl) (by kernel_rfl) (by kernel_rfl) (fun _ _ _ h => h) (Or.inl ⟨by rfl, fun w hSw => by have f0 := HIf.out; go_simp⟩) hH ?_
  try simp only [Act.put, List.setIfInBounds_toArray, List.set_cons_zero, List.set_cons_succ, List.getElem_toArray, List.getElem_cons_succ, List.getElem_cons_zero]
  refine wpAnyH_take (i := 7) (v := .slice (some ⟨g, 0, none⟩) L.length c) rfl (by kernel_rfl) (by kernel_rfl) (by kernel_rfl) (fun _ _ _ h => h) (Or.inl ⟨by rfl, fun w hSw => by go_simp⟩) hH ?_
  try simp only [Act.put, List.setIfInBounds_toArray, List.set_cons_zero, List.set_cons_succ, List.getElem_toArray, List.getElem_cons_succ, List.getElem_cons_zero]
  refine wpAnyH_take (i := 8) (v := .int .i64 (i : Int)) rfl (by kernel_rfl) (by kernel_rfl) (by kernel_rfl) (fun _ _ _ h => h) (Or.inl ⟨by rfl, fun w hSw => by go_simp⟩) hH ?_
  try simp only [Act.put, List.setIfInBounds_toArray, List.set_cons_zero, List.set_cons_succ, List.getElem_toArray, List.getElem_cons_succ, List.getElem_cons_zero]
  refine wpAnyH_take (i := 9) (v := .pointer (some ⟨g, i * 2, none⟩)) rfl (by kernel_rfl) (by kernel_rfl) (by kernel_rfl) (fun _ _ _ h => h) (Or.inl ⟨by rfl, fun w hSw => by go_simp⟩) hH ?_
  try simp only [Act.put, List.setIfInBounds_toArray, List.set_cons_zero, List.set_cons_succ, List.getElem_toArray, List.getElem_cons_succ, List.getElem_cons_zero]
  refine wpAnyH_take (i := 10) (v := .pointer (some ⟨g, i * 2 + 1, none⟩)) rfl (by kernel_rfl) (by kernel_rfl) (by kernel_rfl) (fun _ _ _ h => h) (Or.inl ⟨by rfl, fun w hSw => by go_simp⟩) hH ?_
  try simp only [Act.put, List.setIfInBounds_toArray, List.set_cons_zero, List.set_cons_succ, List.getElem_toArray, List.getElem_cons_succ, List.getElem_cons_zero]
  refine wpAnyH_take (i := 11) (v := .int .i64 un) rfl (by kernel_rfl) (by kernel_rfl) (by kernel_rfl) (fun _ _ _ h => h) (Or.inl ⟨by rfl, fun w hSw => by have f0 := (HRd.out w (HQ.out w hSw)).2; go_simp⟩) hH ?_
  try simp only [Act.put, List.setIfInBounds_toArray, List.set_cons_zero, List.set_cons_succ, List.getElem_toArray, List.getElem_cons_succ, List.getElem_cons_zero]
  refine wpAnyH_take (i := 12) (v := .agg #[.int .i64 p, .int .i64 un]) rfl (by kernel_rfl) (by kernel_rfl) (by kernel_rfl) (fun _ _ _ h => h) (Or.inl ⟨by rfl, fun w hSw => by go_simp⟩) hH ?_
  try simp only [Act.put, List.setIfInBounds_toArray, List.set_cons_zero, List.set_cons_succ, List.getElem_toArray, List.getElem_cons_succ, List.getElem_cons_zero]
  refine wpAnyH_ready (rs := [13]) (by kernel_rfl) (by simp) ?_
  refine AllReadyH.cons rfl (fun K hK => ?_) AllReadyH.nil
  go_simp
  have h13 : Below w1.heap.size w1 (w1.alloc (Obj.cells #[.int .i64 0, .int .i64 0] 67)).drew := chain (below_alloc _ _) (below_drew _)
  refine hK.out _ _ h13 (fun _ => ?_)
  clear hK K
  try simp only [Act.put, List.setIfInBounds_toArray, List.set_cons_zero, List.set_cons_succ, List.getElem_toArray, List.getElem_cons_succ, List.getElem_cons_zero]
  refine wpAnyH_ready (rs := [14]) (by kernel_rfl) (by simp) ?_
  refine AllReadyH.cons rfl (fun K hK => ?_) AllReadyH.nil
  go_simp
  have h14 : Below w1.heap.size w1 (w1.alloc (Obj.cells #[.int .i64 p, .int .i64 un] 67)).drew := chain (below_alloc _ _) (below_drew _)
  have hb14 : (w1.alloc (Obj.cells #[.int .i64 p, .int .i64 un] 67)).drew.heap[w1.heap.size]? = some (.cells #[.int .i64 p, .int .i64 un] 67 (0, 0)) := heapNew w1 _
  refine hK.out _ _ h14 (fun _ => ?_)
  clear hK K
  try simp only [Act.put, List.setIfInBounds_toArray, List.set_cons_zero, List.set_cons_succ, List.getElem_toArray, List.getElem_cons_succ, List.getElem_cons_zero]
  generalize (w1.alloc (Obj.cells #[.int .i64 p, .int .i64 un] 67)).drew = W14v at *
  obtain ⟨nb, hnbe⟩ : ∃ nb, nb = w1.heap.size := ⟨_, rfl⟩
  rw [← hnbe] at hb14
  refine wpAnyH_done (by kernel_rfl) ?_ _
  try simp
  have H14 : Hid (Below w1.heap.size w1 W14v ∧ W14v.heap[nb]? = some (.cells #[.int .i64 p, .int .i64 un] 67 (0, 0)) ∧ nb = w1.heap.size) := ⟨h14, hb14, hnbe⟩
  rw [← hnbe]
  clear h14 hb14 h13 hH hnbe HIf
  go_wp2_with fail
  -- it is taken off
  have HQ2 : Hid (∀ W : World, W = W14v.drew → W.cell? ⟨g, i * 2, none⟩ = some (.int .i64 nu) ∧ W.cell? ⟨nb, 0, none⟩ = some (.int .i64 p) ∧ W.frozen? ⟨g, i * 2, none⟩ = false ∧ W.heap[g]? = w.heap[g]? ∧ W.heap[nb]? = some (.cells #[.int .i64 p, .int .i64 un] 67 (0, 0)) ∧ Below w1.heap.size w1 W) := fun W hW => by
    subst hW
    have hbd : Below w1.heap.size w1 W14v.drew := chain H14.out.1 (below_drew _)
    have hg' := HQ.out _ hbd
    refine ⟨(HRd.out _ hg').1, blkCell (W := W14v.drew) H14.out.2.1 0 _ rfl, ?_, hg', H14.out.2.1, hbd⟩
    have := HRw.out.frozenAt (i * 2)
    exact (World.frozen?_of_block (w := w) (a := ⟨g, i * 2, none⟩) hg').trans this
  refine wp_region_z (S := fun W => W = W14v.drew) 10 (by kernel_rfl) rfl (fun hH => ?_)
  generalize W14v.drew = Wd at *
  refine wpAnyZ_take (i := 0) (v := .slice (some ⟨g, 0, none⟩) L.length c) rfl (by kernel_rfl) (by kernel_rfl) (by kernel_rfl) (by kernel_rfl) (fun _ _ _ h => h) (Or.inl ⟨by rfl, fun w hSw => by go_simp⟩) hH ?_
  refine wpAnyZ_take (i := 1) (v := .int .i64 (i : Int)) rfl (by kernel_rfl) (by kernel_rfl) (by kernel_rfl) (by kernel_rfl) (fun _ _ _ h => h) (Or.inl ⟨by rfl, fun w hSw => by go_simp⟩) hH ?_
  try simp only [Act.put, List.setIfInBounds_toArray, List.set_cons_zero, List.set_cons_succ, List.getElem_toArray, List.getElem_cons_succ, List.getElem_cons_zero]
  refine wpAnyZ_take (i := 2) (v := .pointer (some ⟨g, i * 2, none⟩)) rfl (by kernel_rfl) (by kernel_rfl) (by kernel_rfl) (by kernel_rfl) (fun _ _ _ h => h) (Or.inl ⟨by rfl, fun w hSw => by go_simp⟩) hH ?_
  try simp only [Act.put, List.setIfInBounds_toArray, List.set_cons_zero, List.set_cons_succ, List.getElem_toArray, List.getElem_cons_succ, List.getElem_cons_zero]
  refine wpAnyZ_take (i := 3) (v := .pointer (some ⟨g, i * 2, none⟩)) rfl (by kernel_rfl) (by kernel_rfl) (by kernel_rfl) (by kernel_rfl) (fun _ _ _ h => h) (Or.inl ⟨by rfl, fun w hSw => by go_simp⟩) hH ?_
  try simp only [Act.put, List.setIfInBounds_toArray, List.set_cons_zero, List.set_cons_succ, List.getElem_toArray, List.getElem_cons_succ, List.getElem_cons_zero]
  refine wpAnyZ_take (i := 4) (v := .int .i64 nu) rfl (by kernel_rfl) (by kernel_rfl) (by kernel_rfl) (by kernel_rfl) (fun _ _ _ h => h) (Or.inl ⟨by rfl, fun w hSw => by have f0 := (HQ2.out w hSw).1; clear hSw; go_simp⟩) hH ?_
  try simp only [Act.put, List.setIfInBounds_toArray, List.set_cons_zero, List.set_cons_succ, List.getElem_toArray, List.getElem_cons_succ, List.getElem_cons_zero]
  refine wpAnyZ_take (i := 5) (v := .pointer (some ⟨nb, 0, none⟩)) rfl (by kernel_rfl) (by kernel_rfl) (by kernel_rfl) (by kernel_rfl) (fun _ _ _ h => h) (Or.inl ⟨by rfl, fun w hSw => by go_simp⟩) hH ?_
  try simp only [Act.put, List.setIfInBounds_toArray, List.set_cons_zero, List.set_cons_succ, List.getElem_toArray, List.getElem_cons_succ, List.getElem_cons_zero]
  refine wpAnyZ_take (i := 6) (v := .int .i64 p) rfl (by kernel_rfl) (by kernel_rfl) (by kernel_rfl) (by kernel_rfl) (fun _ _ _ h => h) (Or.inl ⟨by rfl, fun w hSw => by have f0 := (HQ2.out w hSw).2.1; clear hSw; go_simp⟩) hH ?_
  try simp only [Act.put, List.setIfInBounds_toArray, List.set_cons_zero, List.set_cons_succ, List.getElem_toArray, List.getElem_cons_succ, List.getElem_cons_zero]
  refine wpAnyZ_take (i := 7) (v := .int .i64 (nu - p)) rfl (by kernel_rfl) (by kernel_rfl) (by kernel_rfl) (by kernel_rfl) (fun _ _ _ h => h) (Or.inl ⟨by rfl, fun w hSw => by go_simp⟩) hH ?_
  try simp only [Act.put, List.setIfInBounds_toArray, List.set_cons_zero, List.set_cons_succ, List.getElem_toArray, List.getElem_cons_succ, List.getElem_cons_zero]
  refine wpAnyZ_take (i := 8) (v := .pointer (some ⟨g, i * 2, none⟩)) rfl (by kernel_rfl) (by kernel_rfl) (by kernel_rfl) (by kernel_rfl) (fun _ _ _ h => h) (Or.inl ⟨by rfl, fun w hSw => by go_simp⟩) hH ?_
  try simp only [Act.put, List.setIfInBounds_toArray, List.set_cons_zero, List.set_cons_succ, List.getElem_toArray, List.getElem_cons_succ, List.getElem_cons_zero]
  refine wpAnyZ_take (i := 9) (v := .pointer (some ⟨g, i * 2, none⟩)) rfl (by kernel_rfl) (by kernel_rfl) (by kernel_rfl) (by kernel_rfl) (fun _ _ _ h => h) (Or.inl ⟨by rfl, fun w hSw => by go_simp⟩) hH ?_
  try simp only [Act.put, List.setIfInBounds_toArray, List.set_cons_zero, List.set_cons_succ, List.getElem_toArray, List.getElem_cons_succ, List.getElem_cons_zero]
  refine wpAnyZ_ready (rs := [10]) (by kernel_rfl) (by simp) ?_
  refine AllReadyZ.cons rfl (fun K hK => ?_) AllReadyZ.nil
  obtain ⟨y0, y1, y2, y3, y4, y5⟩ := HQ2.out Wd rfl
  go_simp
  have hng : nb ≠ g := by have := H14.out.2.2; omega
  have HWe : Hid ((Wd.setCell ⟨g, i * 2, none⟩ (.int .i64 (nu - p))).ownsRow B 67 2 (.slice (some ⟨g, 0, none⟩) L.length c) L.length (loCells (L.set i ⟨nu - p, un⟩)) ∧ (Wd.setCell ⟨g, i * 2, none⟩ (.int .i64 (nu - p))).heap[nb]? = some (.cells #[.int .i64 p, .int .i64 un] 67 (0, 0)) ∧ (Wd.setCell ⟨g, i * 2, none⟩ (.int .i64 (nu - p))).heap[w.heap.size]? = some (.cells #[.int .i64 0, .int .i64 0] 67 (0, 0)) ∧ Fr (fun k => k = rb ∨ k = g) w (Wd.setCell ⟨g, i * 2, none⟩ (.int .i64 (nu - p))) ∧ PgIs (Wd.setCell ⟨g, i * 2, none⟩ (.int .i64 (nu - p))) rb day sp ex (.slice (some ⟨g, 0, none⟩) L.length c) nm mv) := by
    refine ⟨HPut.out Wd _ y3, (Below.heap_setCell _ _ _ _ hng).trans y4, (Below.heap_setCell _ _ _ _ (by show w.heap.size ≠ g; omega)).trans ((y5.block _ hz1).trans HB1.out.2), (Fr.of (chain HB1.out.1 y5)).set (b := g) (.inr rfl) _ _, HG.out.of ((Below.heap_setCell _ _ _ _ hrg).trans ((chain HB1.out.1 y5).block rb hrl))⟩
  have hce : (Wd.setCell ⟨g, i * 2, none⟩ (.int .i64 (nu - p))).cell? ⟨g, i * 2, none⟩ = some (.int .i64 (nu - p)) := World.cell?_setCell_same _ _ _ y0
  have hnbw : nb ≠ w.heap.size := by have := H14.out.2.2; omega
  have hnbl : nb < Wd.heap.size := blkLt y4
  have hnbg : w.heap.size < nb := by have := H14.out.2.2; omega
  refine hK.out _ _ (Or.inl rfl) (fun _ => ?_)
  clear hK K
  try simp only [Act.put, List.setIfInBounds_toArray, List.set_cons_zero, List.set_cons_succ, List.getElem_toArray, List.getElem_cons_succ, List.getElem_cons_zero]
  refine wpAnyZ_done (by kernel_rfl) ?_ _
  try simp
  clear y0 y1 y2 y3 y4 y5 HQ2 H14 HQ hH HB1
  generalize (Wd.setCell ⟨g, i * 2, none⟩ (.int .i64 (nu - p))) = We at *
  by_cases hz : nu - p = 0
  · have hzb : (nu - p == 0) = true := by rw [beq_iff_eq]; exact hz
    have hTl : tkL m L = L.take i ++ L.drop (i + 1) := by rw [HTl.out, ← HP.out, if_pos hz]
    have HTl2 : Hid (tkL m L = L.take i ++ L.drop (i + 1)) := hTl
    have hlen1 : (tkL m L).length = L.length - 1 := by rw [hTl]; exact HCl.out
    have HLn : Hid ((tkL m L).length = L.length - 1) := hlen1
    clear hTl hlen1 hz
    go_wp2_with fail
    (first | go_at_call 41 | skip)
    refine (HDel.out We (nu - p) HWe.out.1).mono ?_
    rintro e w5 ⟨rfl, hf5, hr5⟩
    have hP5 : PgIs w5 rb day sp ex (.slice (some ⟨g, 0, none⟩) L.length c) nm mv := HWe.out.2.2.2.2.of (hf5.block rb HWe.out.2.2.2.2.lt hrg)
    have z3 := hP5.cells.2.2.2.1
    have zf := hP5.free 3
    have HT : Hid ((w5.setCell ⟨rb, 3, none⟩ (.slice (some ⟨g, 0, none⟩) (L.length - 1) c)).heap[nb]? = some (.cells #[.int .i64 p, .int .i64 un] 67 (0, 0)) ∧ (w5.setCell ⟨rb, 3, none⟩ (.slice (some ⟨g, 0, none⟩) (L.length - 1) c)).heap[w.heap.size]? = some (.cells #[.int .i64 0, .int .i64 0] 67 (0, 0)) ∧ Fr (fun k => k = rb ∨ k = g) w (w5.setCell ⟨rb, 3, none⟩ (.slice (some ⟨g, 0, none⟩) (L.length - 1) c)) ∧ PgIs (w5.setCell ⟨rb, 3, none⟩ (.slice (some ⟨g, 0, none⟩) (L.length - 1) c)) rb day sp ex (.slice (some ⟨g, 0, none⟩) (tkL m L).length c) nm mv ∧ (w5.setCell ⟨rb, 3, none⟩ (.slice (some ⟨g, 0, none⟩) (L.length - 1) c)).ownsRow B 67 2 (.slice (some ⟨g, 0, none⟩) (tkL m L).length c) (tkL m L).length (loCells (tkL m L))) := by
      rw [HLn.out, HTl2.out]
      refine ⟨(Below.heap_setCell _ _ _ _ (by show nb ≠ rb; omega)).trans ((hf5.block nb (blkLt HWe.out.2.1) hng).trans HWe.out.2.1), (Below.heap_setCell _ _ _ _ (by show w.heap.size ≠ rb; omega)).trans ((hf5.block _ (blkLt HWe.out.2.2.1) (by show ¬ w.heap.size = g; omega)).trans HWe.out.2.2.1), (HWe.out.2.2.2.1.trans (hf5.mono (fun k hk => .inr hk))).set (b := rb) (.inl rfl) _ _, hP5.set3 _, row_of hr5 (fun q hq => Below.heap_setCell _ _ _ _ (by cases hq; exact Ne.symm hrg))⟩
    clear hf5 hr5 hP5 HWe HDel HPut
    have t0 := blkCell HT.out.1 0 _ rfl
    have t1 := blkCell HT.out.1 1 _ rfl
    have k0 := blkCell HT.out.2.1 0 _ rfl
    have k1 := blkCell HT.out.2.1 1 _ rfl
    have kf0 := blkFree HT.out.2.1 0
    have kf1 := blkFree HT.out.2.1 1
    have k1' : ((w5.setCell ⟨rb, 3, none⟩ (.slice (some ⟨g, 0, none⟩) (L.length - 1) c)).setCell ⟨w.heap.size, 0, none⟩ (.int .i64 p)).cell? ⟨w.heap.size, 1, none⟩ = some (.int .i64 0) := by rw [World.cell?_setCell_other _ _ _ _ (by simp)]; exact k1
    have hfin := heap_setCell_same _ _ 1 _ _ (.int .i64 un) (heap_setCell_same _ _ 0 _ _ (.int .i64 p) HT.out.2.1)
    simp only [List.setIfInBounds_toArray, List.set_cons_zero, List.set_cons_succ] at hfin
    have HEnd : Hid (Fr (fun k => k = rb ∨ k = g) w (((w5.setCell ⟨rb, 3, none⟩ (.slice (some ⟨g, 0, none⟩) (L.length - 1) c)).setCell ⟨w.heap.size, 0, none⟩ (.int .i64 p)).setCell ⟨w.heap.size, 1, none⟩ (.int .i64 un)) ∧ PgIs (((w5.setCell ⟨rb, 3, none⟩ (.slice (some ⟨g, 0, none⟩) (L.length - 1) c)).setCell ⟨w.heap.size, 0, none⟩ (.int .i64 p)).setCell ⟨w.heap.size, 1, none⟩ (.int .i64 un)) rb day sp ex (.slice (some ⟨g, 0, none⟩) (tkL m L).length c) nm mv ∧ (((w5.setCell ⟨rb, 3, none⟩ (.slice (some ⟨g, 0, none⟩) (L.length - 1) c)).setCell ⟨w.heap.size, 0, none⟩ (.int .i64 p)).setCell ⟨w.heap.size, 1, none⟩ (.int .i64 un)).ownsRow B 67 2 (.slice (some ⟨g, 0, none⟩) (tkL m L).length c) (tkL m L).length (loCells (tkL m L))) := by
      have hk : ∀ q, q ≠ w.heap.size → (((w5.setCell ⟨rb, 3, none⟩ (.slice (some ⟨g, 0, none⟩) (L.length - 1) c)).setCell ⟨w.heap.size, 0, none⟩ (.int .i64 p)).setCell ⟨w.heap.size, 1, none⟩ (.int .i64 un)).heap[q]? = (w5.setCell ⟨rb, 3, none⟩ (.slice (some ⟨g, 0, none⟩) (L.length - 1) c)).heap[q]? := fun q hq => (Below.heap_setCell _ _ _ _ hq).trans (Below.heap_setCell _ _ _ _ hq)
      refine ⟨(HT.out.2.2.1.setNew (Nat.le_refl _) _ _).setNew (Nat.le_refl _) _ _, HT.out.2.2.2.1.of (hk rb (by omega)), row_of HT.out.2.2.2.2 (fun q hq => hk q (by cases hq; show g ≠ w.heap.size; omega))⟩
    clear HT HTl
    go_wp2
    generalize (((w5.setCell ⟨rb, 3, none⟩ (.slice (some ⟨g, 0, none⟩) (L.length - 1) c)).setCell ⟨w.heap.size, 0, none⟩ (.int .i64 p)).setCell ⟨w.heap.size, 1, none⟩ (.int .i64 un)) = Wx at *
    have v0 := blkCell hfin 0 _ rfl
    have v1 := blkCell hfin 1 _ rfl
    refine bodyPost_ret (v := .agg #[.int .i64 p, .int .i64 un]) (by simp [results, Try.results38, go_sem, v0, v1]) rfl ⟨?_, HEnd.out.1, HEnd.out.2.1, HEnd.out.2.2⟩
    rw [HTn.out.2.1, HTn.out.2.2, ← HP.out]
  · have hzb : (nu - p == 0) = false := by rw [beq_eq_false_iff_ne]; exact hz
    have hTl : tkL m L = L.set i ⟨nu - p, un⟩ := by rw [HTl.out, ← HP.out, if_neg hz]
    have hlen1 : (tkL m L).length = L.length := by rw [hTl, List.length_set]
    have HT : Hid (We.heap[nb]? = some (.cells #[.int .i64 p, .int .i64 un] 67 (0, 0)) ∧ We.heap[w.heap.size]? = some (.cells #[.int .i64 0, .int .i64 0] 67 (0, 0)) ∧ Fr (fun k => k = rb ∨ k = g) w We ∧ PgIs We rb day sp ex (.slice (some ⟨g, 0, none⟩) (tkL m L).length c) nm mv ∧ We.ownsRow B 67 2 (.slice (some ⟨g, 0, none⟩) (tkL m L).length c) (tkL m L).length (loCells (tkL m L))) := by
      rw [hlen1, hTl]
      exact ⟨HWe.out.2.1, HWe.out.2.2.1, HWe.out.2.2.2.1, HWe.out.2.2.2.2, HWe.out.1⟩
    clear hTl hlen1 hz HWe HDel HPut
    have t0 := blkCell HT.out.1 0 _ rfl
    have t1 := blkCell HT.out.1 1 _ rfl
    have k0 := blkCell HT.out.2.1 0 _ rfl
    have k1 := blkCell HT.out.2.1 1 _ rfl
    have kf0 := blkFree HT.out.2.1 0
    have kf1 := blkFree HT.out.2.1 1
    have k1' : (We.setCell ⟨w.heap.size, 0, none⟩ (.int .i64 p)).cell? ⟨w.heap.size, 1, none⟩ = some (.int .i64 0) := by rw [World.cell?_setCell_other _ _ _ _ (by simp)]; exact k1
    have hfin := heap_setCell_same _ _ 1 _ _ (.int .i64 un) (heap_setCell_same _ _ 0 _ _ (.int .i64 p) HT.out.2.1)
    simp only [List.setIfInBounds_toArray, List.set_cons_zero, List.set_cons_succ] at hfin
    have HEnd : Hid (Fr (fun k => k = rb ∨ k = g) w ((We.setCell ⟨w.heap.size, 0, none⟩ (.int .i64 p)).setCell ⟨w.heap.size, 1, none⟩ (.int .i64 un)) ∧ PgIs ((We.setCell ⟨w.heap.size, 0, none⟩ (.int .i64 p)).setCell ⟨w.heap.size, 1, none⟩ (.int .i64 un)) rb day sp ex (.slice (some ⟨g, 0, none⟩) (tkL m L).length c) nm mv ∧ ((We.setCell ⟨w.heap.size, 0, none⟩ (.int .i64 p)).setCell ⟨w.heap.size, 1, none⟩ (.int .i64 un)).ownsRow B 67 2 (.slice (some ⟨g, 0, none⟩) (tkL m L).length c) (tkL m L).length (loCells (tkL m L))) := by
      have hk : ∀ q, q ≠ w.heap.size → ((We.setCell ⟨w.heap.size, 0, none⟩ (.int .i64 p)).setCell ⟨w.heap.size, 1, none⟩ (.int .i64 un)).heap[q]? = We.heap[q]? := fun q hq => (Below.heap_setCell _ _ _ _ hq).trans (Below.heap_setCell _ _ _ _ hq)
      refine ⟨(HT.out.2.2.1.setNew (Nat.le_refl _) _ _).setNew (Nat.le_refl _) _ _, HT.out.2.2.2.1.of (hk rb (by omega)), row_of HT.out.2.2.2.2 (fun q hq => hk q (by cases hq; show g ≠ w.heap.size; omega))⟩
    clear HT HTl
    go_wp2
    generalize ((We.setCell ⟨w.heap.size, 0, none⟩ (.int .i64 p)).setCell ⟨w.heap.size, 1, none⟩ (.int .i64 un)) = Wx at *
    have v0 := blkCell hfin 0 _ rfl
    have v1 := blkCell hfin 1 _ rfl
    refine bodyPost_ret (v := .agg #[.int .i64 p, .int .i64 un]) (by simp [results, Try.results38, go_sem, v0, v1]) rfl ⟨?_, HEnd.out.1, HEnd.out.2.1, HEnd.out.2.2⟩
    rw [HTn.out.2.1, HTn.out.2.2, ← HP.out]
end Go.Proofs.Ytodncihjenlnjaa

/-
  The specification's TaxBook: it answers what tbGo says.
-/
import Derived.Test.YtaledfdhiimhdakBookE
import Derived.Deep.AppendLies
namespace Go.Proofs.Ytaledfdhiimhdak
open Go.ChangeShapes Go.WideShapes Go.ChangeAt Go.RowKit
set_option linter.unusedVariables false

/-- The classes up to n. -/
def clsN (ls : List TL) (n : Nat) : List Int := ((List.range n).map fun i => ((i + 1 : Nat) : Int)).filter (hasCl ls)
theorem clsN_succ (ls : List TL) (n : Nat) : clsN ls (n + 1) = clsN ls n ++ if hasCl ls ((n + 1 : Nat) : Int) = true then [((n + 1 : Nat) : Int)] else [] := by
  unfold clsN
  rw [List.range_succ, List.map_append, List.filter_append]
  congr 1
  simp only [List.map_cons, List.map_nil, List.filter_cons, List.filter_nil]
theorem clsN_nine (ls : List TL) : clsN ls 9 = cls ls := rfl
theorem trOne_all {rs : List TR} (h : trAll rs = true) : ∀ r ∈ rs, trOne r = true := by
  have key : ∀ f k, f + k = rs.length → trGo rs f k = true → ∀ j, k ≤ j → j < rs.length → trOne (rs.getD j tr0) = true := by
    intro f
    induction f with
    | zero => intro k hk _ j h1 h2; omega
    | succ f ih =>
      intro k hk hg j h1 h2
      have e : trGo rs (f + 1) k = (trOne (rs.getD k tr0) && !((rs.take k).any fun q => clash q (rs.getD k tr0)) && trGo rs f (k + 1)) := rfl
      rw [e, Bool.and_eq_true, Bool.and_eq_true] at hg
      by_cases hj : j = k
      · rw [hj]; exact hg.1.1
      · exact ih (k + 1) (by omega) hg.2 j (by omega) h2
  intro r hr
  unfold trAll at h
  split at h
  · cases h
  · obtain ⟨i, hi, rfl⟩ := List.getElem_of_mem hr
    have := key rs.length 0 (by omega) h i (Nat.zero_le _) hi
    simpa [List.getD_eq_getElem?_getD, hi] using this
theorem rowFor_mem {rs : List TR} {c : Int} {s : ByteArray} {day : Int} {r : TR} (h : rowFor rs c s day = some r) : r ∈ rs := by
  unfold rowFor at h
  split at h
  · rename_i q hq; cases h; exact List.mem_of_find?_eq_some hq
  · exact List.mem_of_find?_eq_some h
theorem rowFor_rate {rs : List TR} (hA : trAll rs = true) {c : Int} {s : ByteArray} {day : Int} {r : TR} (h : rowFor rs c s day = some r) : rateB r.n r.d = true := by
  have := trOne_all hA r (rowFor_mem h)
  unfold trOne at this
  simp only [Bool.and_eq_true] at this
  exact this.2
/-- The two rows of ten: the sums, and which classes are there. -/
def sumF (ls : List TL) (j : Nat) : Value := .int .i64 (sumOf ls (j : Int))
def hasF (ls : List TL) (j : Nat) : Value := .bool (hasCl ls (j : Int))
theorem boolInfo : (Try.prog.info? 4).map (fun i => (i.zero, i.size, i.bytes)) = some (some (.bool false), 1, 1) := by kernel_rfl
theorem make_ints10 (w : World) :
    (Instr.makeSlice 46 (.int .i64 10) (.int .i64 10)).run Try.prog w = .ok (.slice (some ⟨w.heap.size, 0, none⟩) 10 10) (w.alloc (.cells (madeCells #[.int .i64 0] 10) 3)) := by
  obtain ⟨i, hi, hzz⟩ := Option.map_eq_some_iff.1 intInfo
  simp only [Prod.mk.injEq] at hzz
  obtain ⟨hz, hs, hb⟩ := hzz
  have hr := run_make (P := Try.prog) w 46 3 i _ Try.underlying46 hi hz .i64 .i64 10 10 (by omega) (Int.le_refl _) (by rw [hb]; decide) (by omega)
  simp only [hs] at hr
  exact hr
theorem make_bools10 (w : World) :
    (Instr.makeSlice 47 (.int .i64 10) (.int .i64 10)).run Try.prog w = .ok (.slice (some ⟨w.heap.size, 0, none⟩) 10 10) (w.alloc (.cells (madeCells #[.bool false] 10) 4)) := by
  obtain ⟨i, hi, hzz⟩ := Option.map_eq_some_iff.1 boolInfo
  simp only [Prod.mk.injEq] at hzz
  obtain ⟨hz, hs, hb⟩ := hzz
  have hr := run_make (P := Try.prog) w 47 4 i _ Try.underlying47 hi hz .i64 .i64 10 10 (by omega) (Int.le_refl _) (by rw [hb]; decide) (by omega)
  simp only [hs] at hr
  exact hr
/-- The two rows lie in blocks b and b + 1. -/
def TwoAt (w : World) (b : Nat) (ls : List TL) : Prop := w.rowIs b 3 10 (sumF ls) ∧ w.rowIs (b + 1) 4 10 (hasF ls)
theorem TwoAt.made (w : World) : TwoAt ((w.alloc (.cells (madeCells #[.int .i64 0] 10) 3)).alloc (.cells (madeCells #[.bool false] 10) 4)) w.heap.size [] := by
  refine ⟨((World.rowIs_made w (.int .i64 0) 10 3).alloc _).congr (fun i hi => rfl), ?_⟩
  have h := World.rowIs_made (w.alloc (.cells (madeCells #[.int .i64 0] 10) 3)) (.bool false) 10 4
  have e : (w.alloc (.cells (madeCells #[.int .i64 0] 10) 3)).heap.size = w.heap.size + 1 := by simp
  rw [e] at h
  exact h.congr (fun i hi => rfl)
theorem TwoAt.below {B : Nat} {w w' : World} {b : Nat} {ls : List TL} (h : TwoAt w b ls) (hb : Below B w w') (hB : b + 1 < B) : TwoAt w' b ls :=
  ⟨h.1.of_block (hb.block _ (by omega)), h.2.of_block (hb.block _ hB)⟩
theorem TwoAt.allocd {w : World} {b : Nat} {ls : List TL} (h : TwoAt w b ls) (o : Obj) : TwoAt (w.alloc o).drew b ls := ⟨(h.1.alloc o).drew, (h.2.alloc o).drew⟩
theorem TwoAt.put {w : World} {b : Nat} {ls : List TL} {k : Nat} (h : TwoAt w b (ls.take k)) (hk : k < ls.length) {j : Nat} {g : Int} (hj : (ls.getD k tl0) = ⟨(j : Int), g⟩) :
    TwoAt ((w.setCell ⟨b, j, none⟩ (.int .i64 (sumOf (ls.take k) (j : Int) + g))).setCell ⟨b + 1, j, none⟩ (.bool true)) b (ls.take (k + 1)) := by
  refine ⟨((h.1.set j _).setOther (a := ⟨b + 1, j, none⟩) (by show b ≠ b + 1; omega) _).congr (fun i hi => ?_), ((h.2.setOther (a := ⟨b, j, none⟩) (by show b + 1 ≠ b; omega) _).set j _).congr (fun i hi => ?_)⟩
  · unfold sumF
    rw [sumOf_next ls k hk, hj]
    by_cases e : i = j
    · rw [if_pos e, e, if_pos rfl]
    · rw [if_neg e, if_neg (show ¬ (j : Int) = (i : Int) by omega), Int.add_zero]
  · unfold hasF
    rw [hasCl_next ls k hk, hj]
    by_cases e : i = j
    · rw [if_pos e, e]; simp
    · have : ((j : Int) == (i : Int)) = false := by simp; omega
      rw [if_neg e]
      show _ = Value.bool (_ || ((j : Int) == (i : Int)))
      rw [this, Bool.or_false]

theorem boxNew (wr : World) (c g : Int) : ((wr.alloc (Obj.cells #[.int .i64 c, .int .i64 g] 49)).drew.cell? ⟨wr.heap.size, 0, none⟩ = some (.int .i64 c) ∧ (wr.alloc (Obj.cells #[.int .i64 c, .int .i64 g] 49)).drew.cell? ⟨wr.heap.size, 1, none⟩ = some (.int .i64 g)) ∧ wr.heap.size < (wr.alloc (Obj.cells #[.int .i64 c, .int .i64 g] 49)).drew.heap.size := by
  have e6 : (wr.alloc (Obj.cells #[.int .i64 c, .int .i64 g] 49)).heap[wr.heap.size]? = some (.cells #[.int .i64 c, .int .i64 g] 49 (0, 0)) := heapNew wr _
  refine ⟨⟨?_, ?_⟩, (Array.getElem?_eq_some_iff.1 e6).1⟩
  · show World.cell? (wr.alloc (Obj.cells #[.int .i64 c, .int .i64 g] 49)) _ = _; rw [cell_of_row _ _ _ _ _ _ e6]; rfl
  · show World.cell? (wr.alloc (Obj.cells #[.int .i64 c, .int .i64 g] 49)) _ = _; rw [cell_of_row _ _ _ _ _ _ e6]; rfl

theorem bkL_snoc (G T : Int → Int) (cs : List Int) (c : Int) : bkL G T (cs ++ [c]) = bkL G T cs ++ [c, G c, G c - T c, T c] := by
  have hlt : ∀ j, j < cs.length * 4 → bkI G T (cs ++ [c]) j = bkI G T cs j := fun j hj => by
    have e : (cs ++ [c]).getD (j / 4) 0 = cs.getD (j / 4) 0 := by
      simp only [List.getD_eq_getElem?_getD]
      rw [List.getElem?_append_left (by omega)]
    unfold bkI
    rw [e]
  have hl : (cs ++ [c]).getD cs.length 0 = c := by simp [List.getD_eq_getElem?_getD]
  have h0 : bkI G T (cs ++ [c]) (cs.length * 4) = c := by unfold bkI; rw [if_pos (by omega), show cs.length * 4 / 4 = cs.length by omega, hl]
  have h1 : bkI G T (cs ++ [c]) (cs.length * 4 + 1) = G c := by unfold bkI; rw [if_neg (by omega), if_pos (by omega), show (cs.length * 4 + 1) / 4 = cs.length by omega, hl]
  have h2 : bkI G T (cs ++ [c]) (cs.length * 4 + 1 + 1) = G c - T c := by unfold bkI; rw [if_neg (by omega), if_neg (by omega), if_pos (by omega), show (cs.length * 4 + 1 + 1) / 4 = cs.length by omega, hl]
  have h3 : bkI G T (cs ++ [c]) (cs.length * 4 + 1 + 1 + 1) = T c := by unfold bkI; rw [if_neg (by omega), if_neg (by omega), if_neg (by omega), show (cs.length * 4 + 1 + 1 + 1) / 4 = cs.length by omega, hl]
  have hm : (List.range (cs.length * 4)).map (bkI G T (cs ++ [c])) = (List.range (cs.length * 4)).map (bkI G T cs) := List.map_congr_left fun j hj => hlt j (by simpa using hj)
  unfold bkL
  rw [List.length_append, show (cs.length + [c].length) * 4 = cs.length * 4 + 1 + 1 + 1 + 1 by simp; omega, List.range_succ, List.range_succ, List.range_succ, List.range_succ]
  simp only [List.map_append, List.map_cons, List.map_nil, hm, h0, h1, h2, h3, List.append_assoc, List.cons_append, List.nil_append]
theorem own2_of_row {B : Nat} {w : World} {g cap n : Nat} {L : List Int} (h : w.ownsRow B 60 4 (.slice (some ⟨g, 0, none⟩) n cap) n (L.map encZ)) : Own2 B w (some ⟨g, 0, none⟩) L ∧ L.length = n * 4 := by
  obtain ⟨hx, h⟩ := h
  rw [List.length_map] at hx
  refine ⟨?_, hx⟩
  rcases h with ⟨h0, _⟩ | ⟨g', cap', cur, he, hg, hb, h1, h2, h3, h4⟩
  · cases h0
  · obtain ⟨rfl, rfl⟩ : g = g' ∧ cap = cap' := by simpa using he
    rw [← hx] at h4
    refine .inr ⟨g, rfl, hg, (Array.getElem?_eq_some_iff.1 hb).1, fun i hi => ?_, fun i hi => (holds_of_block_i hb h4 i (by simpa using hi)).2⟩
    have := (holds_of_block_i hb h4 i (by simpa using hi)).1
    rw [this]
    simp [encZ, List.getD_eq_getElem?_getD, hi]
theorem push3 {w W w7 : World} {b g0 : Nat} {ls : List TL} (h : TwoAt W b ls) (hb : Below w.heap.size w W) (hw : w.heap.size ≤ b) (hg0 : b + 2 ≤ g0) (hg : W.grownBy w7 (some g0)) : TwoAt w7 b ls ∧ Below w.heap.size w w7 := by
  have e1 := hg.block b h.1.lt (fun q => by have : g0 = b := by simpa using q.symm
                                            omega)
  have e2 := hg.block (b + 1) h.2.lt (fun q => by have : g0 = b + 1 := by simpa using q.symm
                                                  omega)
  exact ⟨⟨h.1.of_block e1, h.2.of_block e2⟩, hb.grown hg hb.size (fun q hq => by cases hq; omega)⟩
theorem oneInts (x y z t : Int) : ∀ u ∈ [Value.int .i64 x, .int .i64 y, .int .i64 z, .int .i64 t], u.oneCell' = true := fun u hu => by
  simp at hu; rcases hu with rfl | rfl | rfl | rfl <;> rfl
theorem threeC {wr w0 w2 : World} (h0 : Below wr.heap.size wr w0) (hb : Below (w0.alloc (Obj.cells #[.int .i64 0, .int .i64 0, .int .i64 0] 54)).heap.size (w0.alloc (Obj.cells #[.int .i64 0, .int .i64 0, .int .i64 0] 54)) w2) : ((w2.cell? ⟨w0.heap.size, 0, none⟩ = some (.int .i64 0) ∧ w2.cell? ⟨w0.heap.size, 1, none⟩ = some (.int .i64 0) ∧ w2.cell? ⟨w0.heap.size, 2, none⟩ = some (.int .i64 0)) ∧ w2.frozen? ⟨w0.heap.size, 0, none⟩ = false ∧ w2.frozen? ⟨w0.heap.size, 1, none⟩ = false ∧ w2.frozen? ⟨w0.heap.size, 2, none⟩ = false) ∧
    ∀ x y z : Value, ∃ W5, ((w2.setCell ⟨w0.heap.size, 0, none⟩ x).setCell ⟨w0.heap.size, 1, none⟩ y).setCell ⟨w0.heap.size, 2, none⟩ z = W5 ∧ Below wr.heap.size wr W5 ∧ W5.cell? ⟨w0.heap.size, 0, none⟩ = some x ∧ W5.cell? ⟨w0.heap.size, 1, none⟩ = some y ∧ W5.cell? ⟨w0.heap.size, 2, none⟩ = some z := by
  have e : (w0.alloc (Obj.cells #[.int .i64 0, .int .i64 0, .int .i64 0] 54)).heap[w0.heap.size]? = some (.cells #[.int .i64 0, .int .i64 0, .int .i64 0] 54 (0, 0)) := heapNew w0 _
  have l : w0.heap.size < (w0.alloc (Obj.cells #[.int .i64 0, .int .i64 0, .int .i64 0] 54)).heap.size := (Array.getElem?_eq_some_iff.1 e).1
  have e2 : w2.heap[w0.heap.size]? = some (.cells #[.int .i64 0, .int .i64 0, .int .i64 0] 54 (0, 0)) := (hb.block _ l).trans e
  have hs := h0.size
  have r : w2.rowIs w0.heap.size 54 3 (fun _ => .int .i64 0) := ⟨_, e2, rfl, fun i hi => by
    have h3 : i = 0 ∨ i = 1 ∨ i = 2 := by omega
    rcases h3 with rfl | rfl | rfl <;> rfl⟩
  refine ⟨⟨⟨r.cell (by omega), r.cell (by omega), r.cell (by omega)⟩, r.frozen _, r.frozen _, r.frozen _⟩, fun x y z => ⟨_, rfl, ?_, ?_, ?_, ?_⟩⟩
  · exact ((((h0.alloc hs _).trans (hb.mono (by omega))).setCell hs _).setCell hs _).setCell hs _
  · exact (((r.set 0 x).set 1 y).set 2 z).cell (by omega)
  · exact (((r.set 0 x).set 1 y).set 2 z).cell (by omega)
  · exact (((r.set 0 x).set 1 y).set 2 z).cell (by omega)

set_option maxHeartbeats 2000000 in
set_option maxRecDepth 4000 in
theorem specBook_any (a : Option Addr) (cap : Nat) (rs : List TR) (hl : rs.length ≤ 100000000) (hp : ∀ r ∈ rs, TrOK r) (s : ByteArray) (hs : s.size ≤ maxLen) (day : Int) (la : Option Addr) (lcap : Nat) (ls : List TL) (hll : ls.length ≤ 100000000) (w : World) (hr : ReadsT w.heap.size w a rs) (hL : ReadsL w.heap.size w la ls) :
    Calls Try.prog 6 #[.slice a rs.length cap, .string s, .int .i64 day, .slice la ls.length lcap] w (TbPost rs s day ls w) := by
  have hs' := hs
  unfold maxLen at hs'
  rcases (by omega : (4096 : Int) < (rs.length : Int) ∨ ((rs.length : Int) ≤ 4096 ∧ (65536 : Int) < (s.size : Int)) ∨ ((rs.length : Int) ≤ 4096 ∧ (s.size : Int) ≤ 65536 ∧ (4096 : Int) < (ls.length : Int)) ∨ ((rs.length : Int) ≤ 4096 ∧ (s.size : Int) ≤ 65536 ∧ (ls.length : Int) ≤ 4096)) with h | ⟨h, h'⟩ | ⟨h, h', h''⟩ | ⟨h, h', h''⟩
  · have HE : Hid (tbGo rs s day ls = ([], 2)) := by show _ = _; unfold tbGo; rw [if_pos (by omega)]
    have d1 : decide ((4096 : Int) < (rs.length : Int)) = true := decide_eq_true h
    go_enter Try.func6, Try.ntmps6
    go_wp2
    exact bodyPost_ret (v := .tuple #[.slice (some ⟨w.heap.size, 0, none⟩) 0 0, .int .i64 2]) (by simp [results, Try.results6, go_sem]) rfl (TbPost.none HE.out (below_alloc _ _))
  · have HE : Hid (tbGo rs s day ls = ([], 2)) := by show _ = _; unfold tbGo; rw [if_pos (by omega)]
    have d1 : decide ((4096 : Int) < (rs.length : Int)) = false := decide_eq_false (by omega)
    have d2 : decide ((65536 : Int) < (s.size : Int)) = true := decide_eq_true h'
    go_enter Try.func6, Try.ntmps6
    go_wp2
    exact bodyPost_ret (v := .tuple #[.slice (some ⟨w.heap.size, 0, none⟩) 0 0, .int .i64 2]) (by simp [results, Try.results6, go_sem]) rfl (TbPost.none HE.out (below_alloc _ _))
  · have HE : Hid (tbGo rs s day ls = ([], 2)) := by show _ = _; unfold tbGo; rw [if_pos (by omega)]
    have d1 : decide ((4096 : Int) < (rs.length : Int)) = false := decide_eq_false (by omega)
    have d2 : decide ((65536 : Int) < (s.size : Int)) = false := decide_eq_false (by omega)
    have d3 : decide ((4096 : Int) < (ls.length : Int)) = true := decide_eq_true h''
    go_enter Try.func6, Try.ntmps6
    go_wp2
    exact bodyPost_ret (v := .tuple #[.slice (some ⟨w.heap.size, 0, none⟩) 0 0, .int .i64 2]) (by simp [results, Try.results6, go_sem]) rfl (TbPost.none HE.out (below_alloc _ _))
  have d1 : decide ((4096 : Int) < (rs.length : Int)) = false := decide_eq_false (by omega)
  have d2 : decide ((65536 : Int) < (s.size : Int)) = false := decide_eq_false (by omega)
  have d3 : decide ((4096 : Int) < (ls.length : Int)) = false := decide_eq_false (by omega)
  have HNL : Hid (¬ (4096 < rs.length ∨ 65536 < s.size ∨ 4096 < ls.length)) := by show ¬ _; omega
  have ht := specRows_any a cap rs hl hp w hr
  have HL : Hid (ReadsL w.heap.size w la ls) := hL
  have HRd : Hid (ReadsT w.heap.size w a rs) := hr
  clear hr hp hL
  cases hA : trAll rs
  · have HE : Hid (tbGo rs s day ls = ([], 1)) := by show _ = _; unfold tbGo; rw [if_neg HNL.out, if_pos hA]
    rw [hA] at ht
    clear hA
    go_enter Try.func6, Try.ntmps6
    go_wp2_with (go_at_call 18; refine ht.mono ?_; rintro e w1 ⟨rfl, hb1⟩; have HB1 : Hid (Below w.heap.size w w1) := hb1; clear hb1)
    exact bodyPost_ret (v := .tuple #[.slice (some ⟨w1.heap.size, 0, none⟩) 0 0, .int .i64 1]) (by simp [results, Try.results6, go_sem]) rfl (TbPost.none HE.out (chain HB1.out (below_alloc _ _)))
  rw [hA] at ht
  have HT : Hid (trAll rs = true) := hA
  clear hA
  have HM : Hid (∀ w : World, TwoAt ((w.alloc (.cells (madeCells #[.int .i64 0] 10) 3)).alloc (.cells (madeCells #[.bool false] 10) 4)) w.heap.size []) := fun w => TwoAt.made w
  have hm1 := make_ints10
  have hm2 := make_bools10
  go_enter Try.func6, Try.ntmps6
  go_wp2_with (go_at_call 18; refine ht.mono ?_; rintro e w1 ⟨rfl, hb1⟩; have HB1 : Hid (Below w.heap.size w w1) := hb1; clear hb1)
  go_loopw [12, 13] (fun i _ wr => ∃ k : Nat, k ≤ ls.length ∧ i = .int .i64 (k : Int) ∧ (ls.take k).any (fun l => !tlOK l) = false ∧ TwoAt wr w1.heap.size (ls.take k) ∧ Below w.heap.size w wr) (fun i _ _ => ls.length - (intOf i).toNat)
  case atStart => exact ⟨0, Nat.zero_le _, rfl, rfl, HM.out w1, chain (chain HB1.out (below_alloc _ _)) (below_alloc _ _)⟩
  case round =>
    obtain ⟨k, hk, rfl, hf, h2, hb⟩ := hrel
    have HF : Hid ((ls.take k).any (fun l => !tlOK l) = false) := hf
    have H2 : Hid (TwoAt wr w1.heap.size (ls.take k)) := h2
    have HB : Hid (Below w.heap.size w wr) := hb
    have hz1 : w1.heap.size + 1 < wr.heap.size := h2.2.lt
    have hw1 : w.heap.size ≤ w1.heap.size := HB1.out.size
    clear hf h2 hb HM hm1 hm2 HB1 ht
    by_cases hlt : k < ls.length
    · have hlt' : (k : Int) < (ls.length : Int) := by omega
      rcases HL.out with h0 | ⟨b0, o0, ha, hB0, ia⟩
      · rw [h0] at hlt; simp at hlt
      obtain ⟨c0, c1⟩ := (ia.below HB.out hB0) k hlt
      have HX : Hid ((!tlOK (ls.getD k tl0)) = true → ls.any (fun l => !tlOK l) = true) := fun h => anyL_at (p := fun l => !tlOK l) hlt h
      have HN : Hid ((ls.take (k + 1)).any (fun l => !tlOK l) = ((ls.take k).any (fun l => !tlOK l) || !tlOK (ls.getD k tl0))) := anyL_next (fun l => !tlOK l) ls k hlt
      have HP : Hid (∀ (W : World) (j : Nat) (g : Int), TwoAt W w1.heap.size (ls.take k) → ls.getD k tl0 = ⟨(j : Int), g⟩ → TwoAt ((W.setCell ⟨w1.heap.size, j, none⟩ (.int .i64 (sumOf (ls.take k) (j : Int) + g))).setCell ⟨w1.heap.size + 1, j, none⟩ (.bool true)) w1.heap.size (ls.take (k + 1))) := fun W j g h hj => h.put hlt hj
      have hbd := sumOf_bound (ls.take k) (fun l hl => allOK_of HF.out l hl)
      rw [List.length_take, Nat.min_eq_left hk] at hbd
      have HE : Hid (ls.any (fun l => !tlOK l) = true → tbGo rs s day ls = ([], 5)) := fun hB => by unfold tbGo; rw [if_neg HNL.out, if_neg (by rw [HT.out]; simp), if_pos hB]
      rw [ha]
      clear ia
      generalize ls.getD k tl0 = q at *
      obtain ⟨c, g⟩ := q
      dsimp only at c0 c1
      have eok : tlOK ⟨c, g⟩ = (inB c 1 9 && amtB g) := rfl
      rw [eok] at HX HN
      cases hin : inB c 1 9
      · have HE5 : Hid (tbGo rs s day ls = ([], 5)) := HE.out (HX.out (by rw [hin]; rfl))
        have HI : Hid (∀ w, Calls Try.prog 19 #[.int .i64 c, .int .i64 1, .int .i64 9] w fun e w' => e = .returned (.bool false) ∧ w' = w) := fun w => hin ▸ in_any c 1 9 w
        clear HX HN HP hbd eok hin HE
        go_wp2_with (go_at_call 19; refine (HI.out _).mono ?_; rintro e w' ⟨rfl, rfl⟩)
        exact bodyPost_ret (v := .tuple #[.slice (some ⟨wr.heap.size + 1, 0, none⟩) 0 0, .int .i64 5]) (by simp [results, Try.results6, go_sem]) rfl (TbPost.none HE5.out (chain (chain HB.out (below_alloc _ _)) (below_alloc _ _)))
      cases ham : amtB g
      · have HE5 : Hid (tbGo rs s day ls = ([], 5)) := HE.out (HX.out (by rw [hin, ham]; rfl))
        have HI : Hid (∀ w, Calls Try.prog 19 #[.int .i64 c, .int .i64 1, .int .i64 9] w fun e w' => e = .returned (.bool true) ∧ w' = w) := fun w => hin ▸ in_any c 1 9 w
        have HI2 : Hid (∀ w, Calls Try.prog 20 #[.int .i64 g] w fun e w' => e = .returned (.bool false) ∧ w' = w) := fun w => ham ▸ specMoney_any g w
        clear HX HN HP hbd eok hin ham HE
        go_wp2_with (first | (go_at_call 19; refine (HI.out _).mono ?_; rintro e w' ⟨rfl, rfl⟩) | (go_at_call 20; refine (HI2.out _).mono ?_; rintro e w' ⟨rfl, rfl⟩))
        exact bodyPost_ret (v := .tuple #[.slice (some ⟨wr.heap.size + 1, 0, none⟩) 0 0, .int .i64 5]) (by simp [results, Try.results6, go_sem]) rfl (TbPost.none HE5.out (chain (chain HB.out (below_alloc _ _)) (below_alloc _ _)))
      · have HI : Hid (∀ w, Calls Try.prog 19 #[.int .i64 c, .int .i64 1, .int .i64 9] w fun e w' => e = .returned (.bool true) ∧ w' = w) := fun w => hin ▸ in_any c 1 9 w
        have HI2 : Hid (∀ w, Calls Try.prog 20 #[.int .i64 g] w fun e w' => e = .returned (.bool true) ∧ w' = w) := fun w => ham ▸ specMoney_any g w
        have HN1 : Hid ((ls.take (k + 1)).any (fun l => !tlOK l) = false) := by
          show _ = false
          rw [HN.out, HF.out, hin, ham]; rfl
        obtain ⟨i1, i2⟩ : 1 ≤ c ∧ c ≤ 9 := by simpa [inB] using hin
        obtain ⟨g1, g2⟩ := (amtB_iff g).mp ham
        obtain ⟨j, rfl⟩ : ∃ j : Nat, c = (j : Int) := ⟨c.toNat, by omega⟩
        obtain ⟨b1, b2⟩ := hbd (j : Int)
        have HP1 : Hid (∀ W, TwoAt W w1.heap.size (ls.take k) → TwoAt ((W.setCell ⟨w1.heap.size, j, none⟩ (.int .i64 (sumOf (ls.take k) (j : Int) + g))).setCell ⟨w1.heap.size + 1, j, none⟩ (.bool true)) w1.heap.size (ls.take (k + 1))) := fun W h => HP.out W j g h rfl
        have HW4 : Hid (TwoAt (wr.alloc (Obj.cells #[.int .i64 (j : Int), .int .i64 g] 49)) w1.heap.size (ls.take k)) := H2.out.below (below_alloc _ _) hz1
        have HB4 : Hid (Below w.heap.size w (wr.alloc (Obj.cells #[.int .i64 (j : Int), .int .i64 g] 49))) := chain HB.out (below_alloc _ _)
        have hx0 : (wr.alloc (Obj.cells #[.int .i64 (j : Int), .int .i64 g] 49)).cell? ⟨w1.heap.size, j, none⟩ = some (.int .i64 (sumOf (ls.take k) (j : Int))) := HW4.out.1.cell (by omega)
        have hx1 : (wr.alloc (Obj.cells #[.int .i64 (j : Int), .int .i64 g] 49)).cell? ⟨w1.heap.size + 1, j, none⟩ = some (.bool (hasCl (ls.take k) (j : Int))) := HW4.out.2.cell (by omega)
        have hy0 : wr.cell? ⟨w1.heap.size, j, none⟩ = some (.int .i64 (sumOf (ls.take k) (j : Int))) := H2.out.1.cell (by omega)
        have hy1 : wr.cell? ⟨w1.heap.size + 1, j, none⟩ = some (.bool (hasCl (ls.take k) (j : Int))) := H2.out.2.cell (by omega)
        have hz0 := H2.out.1.frozen j
        have hz2 := H2.out.2.frozen j
        have hwr : IntKind.i64.wrap (sumOf (ls.take k) (j : Int) + g) = sumOf (ls.take k) (j : Int) + g := wrap_id _ (by omega) (by omega)
        generalize sumOf (ls.take k) (j : Int) = v at *
        generalize hasCl (ls.take k) (j : Int) = hv at *
        have hj10 : (j : Int) < 10 := by omega
        have l1 : w1.heap.size ≠ wr.heap.size := by omega
        have l2 : w1.heap.size + 1 ≠ wr.heap.size := by omega
        have l3 : w1.heap.size < wr.heap.size := by omega
        clear HX HN HP eok hin ham HE hbd
        go_wp2_with (first | (go_at_call 19; refine (HI.out _).mono ?_; rintro e w' ⟨rfl, rfl⟩) | (go_at_call 20; refine (HI2.out _).mono ?_; rintro e w' ⟨rfl, rfl⟩))
        refine wp_region_held_drew (S := fun W => (W.cell? ⟨wr.heap.size, 0, none⟩ = some (.int .i64 (j : Int)) ∧ W.cell? ⟨wr.heap.size, 1, none⟩ = some (.int .i64 g)) ∧ wr.heap.size < W.heap.size) (by kernel_rfl) (boxNew wr _ _) (fun hH => ?_)
        refine wpAnyH_take (i := 0) (v := .slice (some ⟨w1.heap.size, 0, none⟩) 10 10) rfl (by kernel_rfl) (by kernel_rfl) (by kernel_rfl) (fun _ _ _ h => h) (Or.inl ⟨by rfl, fun w hSw => by obtain ⟨⟨s0, s1⟩, l6⟩ := hSw; go_simp⟩) hH ?_
        refine wpAnyH_take (i := 1) (v := .pointer (some ⟨wr.heap.size, 0, none⟩)) rfl (by kernel_rfl) (by kernel_rfl) (by kernel_rfl) (fun _ _ _ h => h) (Or.inl ⟨by rfl, fun w hSw => by obtain ⟨⟨s0, s1⟩, l6⟩ := hSw; go_simp⟩) hH ?_
        refine wpAnyH_take (i := 2) (v := .int .i64 (j : Int)) rfl (by kernel_rfl) (by kernel_rfl) (by kernel_rfl) (fun _ _ _ h => h) (Or.inl ⟨by rfl, fun w hSw => by obtain ⟨⟨s0, s1⟩, l6⟩ := hSw; go_simp⟩) hH ?_
        refine wpAnyH_take (i := 3) (v := .pointer (some ⟨w1.heap.size, j, none⟩)) rfl (by kernel_rfl) (by kernel_rfl) (by kernel_rfl) (fun _ _ _ h => h) (Or.inl ⟨by rfl, fun w hSw => by obtain ⟨⟨s0, s1⟩, l6⟩ := hSw; go_simp⟩) hH ?_
        refine wpAnyH_take (i := 5) (v := .pointer (some ⟨wr.heap.size, 1, none⟩)) rfl (by kernel_rfl) (by kernel_rfl) (by kernel_rfl) (fun _ _ _ h => h) (Or.inl ⟨by rfl, fun w hSw => by obtain ⟨⟨s0, s1⟩, l6⟩ := hSw; go_simp⟩) hH ?_
        refine wpAnyH_take (i := 6) (v := .int .i64 g) rfl (by kernel_rfl) (by kernel_rfl) (by kernel_rfl) (fun _ _ _ h => h) (Or.inl ⟨by rfl, fun w hSw => by obtain ⟨⟨s0, s1⟩, l6⟩ := hSw; go_simp⟩) hH ?_
        refine wpAnyH_ready (rs := [4]) (by kernel_rfl) (by simp) ?_
        refine AllReadyH.cons rfl (fun K hK => ?_) AllReadyH.nil
        go_simp
        refine hK.out _ _ hH (fun _ => ?_)
        clear hK K
        refine wpAnyH_take (i := 7) (v := .int .i64 (v + g)) rfl (by kernel_rfl) (by kernel_rfl) (by kernel_rfl) (fun _ _ _ h => h) (Or.inl ⟨by rfl, fun w hSw => by obtain ⟨⟨s0, s1⟩, l6⟩ := hSw; go_simp⟩) hH ?_
        refine wpAnyH_take (i := 8) (v := .pointer (some ⟨w1.heap.size, j, none⟩)) rfl (by kernel_rfl) (by kernel_rfl) (by kernel_rfl) (fun _ _ _ h => h) (Or.inl ⟨by rfl, fun w hSw => by obtain ⟨⟨s0, s1⟩, l6⟩ := hSw; go_simp⟩) hH ?_
        refine wpAnyH_ready (rs := [9]) (by kernel_rfl) (by simp) ?_
        refine AllReadyH.cons rfl (fun K hK => ?_) AllReadyH.nil
        go_simp
        refine hK.out _ _ ?_ (fun _ => ?_)
        · have hbx := boxNew (wr.setCell ⟨w1.heap.size, j, none⟩ (.int .i64 (v + g))) (j : Int) g
          rw [World.size_setCell] at hbx
          exact hbx
        clear hK K
        refine wpAnyH_done (by kernel_rfl) ?_ _
        try simp [Act.put]
        go_wp2
        exact ⟨⟨k + 1, by omega, by go_num, HN1.out, (HP1.out wr H2.out).allocd _, (((HB.out.setCell hw1 _).setCell (Nat.le_trans hw1 (Nat.le_succ _)) _).alloc (by rw [World.size_setCell, World.size_setCell]; exact HB.out.size) _).drew⟩, by simp [intOf]; omega⟩
    · obtain rfl : k = ls.length := by omega
      have hle : (ls.length : Int) ≤ (ls.length : Int) := by omega
      rw [List.take_of_length_le (Nat.le_refl _)] at HF H2
      have HE8 : Hid (tbAll rs s day (cls ls) = false → tbGo rs s day ls = ([], 8)) := fun h => by
        unfold tbGo
        rw [if_neg HNL.out, if_neg (by rw [HT.out]; simp), if_neg (by rw [HF.out]; simp), if_pos h]
      have HAt : Hid (∀ (c : Int) (w' : World), Below w.heap.size w w' → Calls Try.prog 21 #[.slice a rs.length cap, .int .i64 c, .string s, .int .i64 day] w' fun e w'' => (∃ x : Int, e = .returned (.int .i64 x) ∧ IdxOf rs (rowFor rs c s day) x) ∧ Below w'.heap.size w' w'') := fun c w' hb => specAt_any a cap rs hl c s day w' ((HRd.out.below hb).mono hb.size)
      obtain ⟨wa, hwa⟩ : ∃ wa, wa = wr := ⟨_, rfl⟩
      subst hwa
      have HI0 : Hid (TwoAt (wa.alloc (Obj.cells #[] 60)) w1.heap.size ls ∧ (wa.alloc (Obj.cells #[] 60)).heap[wa.heap.size]? = some (.cells #[] 60 (0, 0)) ∧ Below w.heap.size w (wa.alloc (Obj.cells #[] 60))) := ⟨H2.out.below (below_alloc _ _) hz1, heapNew wa _, chain HB.out (below_alloc _ _)⟩
      have hbl : w1.heap.size + 1 < wa.heap.size := hz1
      clear H2 HB hz1
      go_wp2
      generalize wa.alloc (Obj.cells #[] 60) = wb at *
      generalize wa.heap.size = bl at *
      go_loopw [15] (fun i W => ∃ k : Nat, k ≤ 9 ∧ i = .int .i64 ((k + 1 : Nat) : Int) ∧ tbAll rs s day (clsN ls k) = true ∧ TwoAt W w1.heap.size ls ∧ W.heap[bl]? = some (.cells #[] 60 (0, 0)) ∧ Below w.heap.size w W) (fun i _ => 10 - (intOf i).toNat)
      case atStart => exact ⟨0, by omega, rfl, rfl, HI0.out.1, HI0.out.2.1, HI0.out.2.2⟩
      case round =>
        obtain ⟨k, hk, rfl, hall, h2, hbk, hb⟩ := hrel
        have HA : Hid (tbAll rs s day (clsN ls k) = true) := hall
        have H2 : Hid (TwoAt wr w1.heap.size ls) := h2
        have HK : Hid (wr.heap[bl]? = some (.cells #[] 60 (0, 0))) := hbk
        have HB : Hid (Below w.heap.size w wr) := hb
        clear hall h2 hbk hb HI0
        by_cases hlt : k < 9
        · have hlt' : ((k + 1 : Nat) : Int) ≤ 9 := by omega
          have hc0 : wr.cell? ⟨w1.heap.size + 1, k + 1, none⟩ = some (.bool (hasCl ls ((k + 1 : Nat) : Int))) := H2.out.2.cell (by omega)
          have hk10 : ((k + 1 : Nat) : Int) < 10 := by omega
          have hk0 : (0 : Int) ≤ ((k + 1 : Nat) : Int) := by omega
          have HC : Hid (clsN ls (k + 1) = clsN ls k ++ if hasCl ls ((k + 1 : Nat) : Int) = true then [((k + 1 : Nat) : Int)] else []) := clsN_succ ls k
          have hlk : w1.heap.size + 1 < wr.heap.size := H2.out.2.lt
          cases hh : hasCl ls ((k + 1 : Nat) : Int)
          · have HA1 : Hid (tbAll rs s day (clsN ls (k + 1)) = true) := by
              show _ = true
              rw [HC.out, hh]; simpa using HA.out
            rw [hh] at hc0
            clear HC hh HAt HE8
            go_wp2
            exact ⟨⟨k + 1, by omega, by go_num, HA1.out, H2.out, HK.out, HB.out⟩, by simp [intOf]; omega⟩
          · rw [hh] at hc0
            have hAt := HAt.out ((k + 1 : Nat) : Int) wr HB.out
            have HAe : Hid (tbAll rs s day (clsN ls (k + 1)) = (rowFor rs ((k + 1 : Nat) : Int) s day).isSome) := by
              show _ = _
              rw [HC.out, hh]
              have := HA.out
              unfold tbAll at this ⊢
              rw [List.all_append, this]; simp
            have HN8 : Hid ((rowFor rs ((k + 1 : Nat) : Int) s day).isSome = false → tbGo rs s day ls = ([], 8)) := fun h => HE8.out (by
              have hm : ((k + 1 : Nat) : Int) ∈ cls ls := List.mem_filter.2 ⟨by simp; omega, hh⟩
              exact List.all_eq_false.mpr ⟨_, hm, by rw [h]; simp⟩)
            clear HC hh HAt HE8
            cases ho : rowFor rs ((k + 1 : Nat) : Int) s day with
            | none =>
              rw [ho] at hAt HN8 HAe
              have HE : Hid (tbGo rs s day ls = ([], 8)) := HN8.out rfl
              have HCl : Hid (Calls Try.prog 21 #[.slice a rs.length cap, .int .i64 ((k + 1 : Nat) : Int), .string s, .int .i64 day] wr fun e w'' => e = .returned (.int .i64 (-1)) ∧ Below wr.heap.size wr w'') := hAt.mono fun e w'' h => by
                obtain ⟨⟨x, rfl, ⟨rfl, _⟩ | ⟨_, _, _, h3⟩⟩, hb⟩ := h
                · exact ⟨rfl, hb⟩
                · cases h3
              clear hAt HN8 HAe ho
              go_wp2_with (go_at_call 21; refine HCl.out.mono ?_; rintro e w3 ⟨rfl, hb3⟩; have HB3 : Hid (Below w.heap.size w w3) := chain HB.out hb3; clear hb3)
              exact bodyPost_ret (v := .tuple #[.slice (some ⟨w3.heap.size, 0, none⟩) 0 0, .int .i64 8]) (by simp [results, Try.results6, go_sem]) rfl (TbPost.none HE.out (chain HB3.out (below_alloc _ _)))
            | some r =>
              rw [ho] at hAt HAe
              have HCl : Hid (Calls Try.prog 21 #[.slice a rs.length cap, .int .i64 ((k + 1 : Nat) : Int), .string s, .int .i64 day] wr fun e w'' => ∃ x : Int, e = .returned (.int .i64 x) ∧ 0 ≤ x ∧ Below wr.heap.size wr w'') := hAt.mono fun e w'' h => by
                obtain ⟨⟨x, rfl, ⟨_, h3⟩ | ⟨i, _, rfl, _⟩⟩, hb⟩ := h
                · cases h3
                · exact ⟨_, rfl, by omega, hb⟩
              clear hAt HN8 ho
              go_wp2_with (go_at_call 21; refine HCl.out.mono ?_; rintro e w3 ⟨x, rfl, hx, hb3⟩; have HB3 : Hid (Below w.heap.size w w3) := chain HB.out hb3; have H3 : Hid (TwoAt w3 w1.heap.size ls ∧ w3.heap[bl]? = some (.cells #[] 60 (0, 0))) := ⟨H2.out.below hb3 hlk, (hb3.block _ (Array.getElem?_eq_some_iff.1 HK.out).1).trans HK.out⟩; clear hb3)
              exact ⟨⟨k + 1, by omega, by go_num, HAe.out, H3.out.1, H3.out.2, HB3.out⟩, by simp [intOf]; omega⟩
        · have hk9 : ((k + 1 : Nat) : Int) = 10 := by omega
          rw [hk9]
          obtain rfl : k = 9 := by omega
          clear hk9
          rw [clsN_nine] at HA
          have HTA : Hid (tbAll rs s day (cls ls) = true) := HA.out
          have HGo : Hid (tbGo rs s day ls = if tbOK rs s day ls (cls ls) = true then (bkL (sumOf ls) (tbT rs s day ls) (cls ls), 0) else ([], 11)) := by
            show _ = _
            unfold tbGo
            rw [if_neg HNL.out, if_neg (by rw [HT.out]; simp), if_neg (by rw [HF.out]; simp), if_neg (by rw [HTA.out]; simp)]
          obtain ⟨wc, hwc⟩ : ∃ wc, wc = wr := ⟨_, rfl⟩
          subst hwc
          have HO0 : Hid (wc.ownsRow (w1.heap.size + 2) 60 4 (.slice (some ⟨bl, 0, none⟩) 0 0) 0 []) := ⟨rfl, .inr ⟨bl, 0, #[], rfl, by omega, HK.out, Nat.le_refl _, by unfold maxLen; omega, rfl, rfl⟩⟩
          have HI0 : Hid (TwoAt wc w1.heap.size ls ∧ Below w.heap.size w wc) := ⟨H2.out, HB.out⟩
          clear H2 HB HA HK
          obtain ⟨i0, hti, hzz⟩ := Option.map_eq_some_iff.1 sumInfo
          simp only [Prod.mk.injEq] at hzz
          obtain ⟨hi0, hi1, hi2⟩ := hzz
          go_wp2
          go_loopw [14, 16, 17] (fun v i _ W => ∃ (k g0 cp : Nat), k ≤ 9 ∧ i = .int .i64 ((k + 1 : Nat) : Int) ∧ v = .slice (some ⟨g0, 0, none⟩) (clsN ls k).length cp ∧ tbOK rs s day ls (clsN ls k) = true ∧ W.ownsRow (w1.heap.size + 2) 60 4 (.slice (some ⟨g0, 0, none⟩) (clsN ls k).length cp) (clsN ls k).length ((bkL (sumOf ls) (tbT rs s day ls) (clsN ls k)).map encZ) ∧ TwoAt W w1.heap.size ls ∧ Below w.heap.size w W) (fun _ i _ _ => 10 - (intOf i).toNat)
          case atStart => exact ⟨0, bl, 0, by omega, rfl, rfl, rfl, HO0.out, HI0.out.1, HI0.out.2⟩
          case round =>
            obtain ⟨k, g0, cp, hk, rfl, rfl, hall, ho, h2, hb⟩ := hrel
            have HA : Hid (tbOK rs s day ls (clsN ls k) = true) := hall
            have H2 : Hid (TwoAt wr w1.heap.size ls) := h2
            have HO : Hid (wr.ownsRow (w1.heap.size + 2) 60 4 (.slice (some ⟨g0, 0, none⟩) (clsN ls k).length cp) (clsN ls k).length ((bkL (sumOf ls) (tbT rs s day ls) (clsN ls k)).map encZ)) := ho
            have HB : Hid (Below w.heap.size w wr) := hb
            clear hall h2 ho hb HI0 HO0
            by_cases hlt : k < 9
            · have hlt' : ((k + 1 : Nat) : Int) ≤ 9 := by omega
              have hc0 : wr.cell? ⟨w1.heap.size + 1, k + 1, none⟩ = some (.bool (hasCl ls ((k + 1 : Nat) : Int))) := H2.out.2.cell (by omega)
              have hk10 : ((k + 1 : Nat) : Int) < 10 := by omega
              have hk0 : (0 : Int) ≤ ((k + 1 : Nat) : Int) := by omega
              have HC : Hid (clsN ls (k + 1) = clsN ls k ++ if hasCl ls ((k + 1 : Nat) : Int) = true then [((k + 1 : Nat) : Int)] else []) := clsN_succ ls k
              have hlk : w1.heap.size + 1 < wr.heap.size := H2.out.2.lt
              have hk11 : (k : Int) + 1 < 10 := by omega
              have hk12 : (0 : Int) ≤ (k : Int) + 1 := by omega
              cases hh : hasCl ls ((k + 1 : Nat) : Int)
              · have e : clsN ls (k + 1) = clsN ls k := by rw [HC.out, hh]; simp
                have HX : Hid (∃ (k' g0' cp' : Nat), k' ≤ 9 ∧ (.int .i64 (((k + 1 : Nat) : Int) + 1) : Value) = .int .i64 ((k' + 1 : Nat) : Int) ∧ (.slice (some ⟨g0, 0, none⟩) (clsN ls k).length cp : Value) = .slice (some ⟨g0', 0, none⟩) (clsN ls k').length cp' ∧ tbOK rs s day ls (clsN ls k') = true ∧ wr.ownsRow (w1.heap.size + 2) 60 4 (.slice (some ⟨g0', 0, none⟩) (clsN ls k').length cp') (clsN ls k').length ((bkL (sumOf ls) (tbT rs s day ls) (clsN ls k')).map encZ) ∧ TwoAt wr w1.heap.size ls ∧ Below w.heap.size w wr) := ⟨k + 1, g0, cp, by omega, rfl, by rw [e], by rw [e]; exact HA.out, by rw [e]; exact HO.out, H2.out, HB.out⟩
                rw [hh] at hc0
                clear HC hh HAt HE8 e
                go_wp2
                exact ⟨HX.out, by simp [intOf]; omega⟩
              · rw [hh] at hc0
                have hm : ((k + 1 : Nat) : Int) ∈ cls ls := List.mem_filter.2 ⟨by simp; omega, hh⟩
                have hc1 : wr.cell? ⟨w1.heap.size, k + 1, none⟩ = some (.int .i64 (sumOf ls ((k + 1 : Nat) : Int))) := H2.out.1.cell (by omega)
                have HE11 : Hid (spOK (sumOf ls ((k + 1 : Nat) : Int)) (tbN rs s day ((k + 1 : Nat) : Int)) (tbD rs s day ((k + 1 : Nat) : Int)) = false → tbGo rs s day ls = ([], 11)) := fun h => by
                  have : tbOK rs s day ls (cls ls) = false := List.all_eq_false.mpr ⟨_, hm, by rw [h]; simp⟩
                  rw [HGo.out, this]; rfl
                cases ham : amtB (sumOf ls ((k + 1 : Nat) : Int))
                · have HE : Hid (tbGo rs s day ls = ([], 11)) := HE11.out (by unfold spOK; rw [ham]; rfl)
                  have HI2 : Hid (∀ w, Calls Try.prog 20 #[.int .i64 (sumOf ls ((k + 1 : Nat) : Int))] w fun e w' => e = .returned (.bool false) ∧ w' = w) := fun w => ham ▸ specMoney_any _ w
                  clear HC hh HAt HE8 HE11 ham hm
                  generalize sumOf ls ((k + 1 : Nat) : Int) = g at *
                  go_wp2_with (go_at_call 20; refine (HI2.out _).mono ?_; rintro e w' ⟨rfl, hw'⟩; rw [hw']; clear hw' w')
                  exact bodyPost_ret (v := .tuple #[.slice (some ⟨wr.heap.size, 0, none⟩) 0 0, .int .i64 11]) (by simp [results, Try.results6, go_sem]) rfl (TbPost.none HE.out (chain HB.out (below_alloc _ _)))
                · obtain ⟨r, hr⟩ : ∃ r, rowFor rs ((k + 1 : Nat) : Int) s day = some r := by
                    have := List.all_eq_true.mp HTA.out _ hm
                    exact Option.isSome_iff_exists.mp this
                  have hrt : rateB r.n r.d = true := rowFor_rate HT.out hr
                  have en : tbN rs s day ((k + 1 : Nat) : Int) = r.n := by unfold tbN oN; rw [hr]; rfl
                  have ed : tbD rs s day ((k + 1 : Nat) : Int) = r.d := by unfold tbD oD; rw [hr]; rfl
                  have hsp : spOK (sumOf ls ((k + 1 : Nat) : Int)) r.n r.d = true := by unfold spOK; rw [ham, hrt]; rfl
                  have et : tbT rs s day ls ((k + 1 : Nat) : Int) = spT (sumOf ls ((k + 1 : Nat) : Int)) r.n r.d := by unfold tbT; rw [en, ed]
                  have HI2 : Hid (∀ w, Calls Try.prog 20 #[.int .i64 (sumOf ls ((k + 1 : Nat) : Int))] w fun e w' => e = .returned (.bool true) ∧ w' = w) := fun w => ham ▸ specMoney_any _ w
                  have HSp : Hid (∀ w, Calls Try.prog 22 #[.int .i64 (sumOf ls ((k + 1 : Nat) : Int)), .agg #[.int .i64 r.n, .int .i64 r.d]] w fun e w' => e = .returned (.agg #[.int .i64 (sumOf ls ((k + 1 : Nat) : Int)), .int .i64 (sumOf ls ((k + 1 : Nat) : Int) - spT (sumOf ls ((k + 1 : Nat) : Int)) r.n r.d), .int .i64 (spT (sumOf ls ((k + 1 : Nat) : Int)) r.n r.d)]) ∧ Below w.heap.size w w') := fun w => specSplit_in _ _ _ w ham hrt
                  have HO1 : Hid (tbOK rs s day ls (clsN ls (k + 1)) = true) := by
                    show _ = true
                    rw [HC.out, hh]
                    have := HA.out
                    unfold tbOK at this ⊢
                    rw [List.all_append, this]
                    simp only [if_pos, List.all_cons, List.all_nil, Bool.and_true, Bool.true_and]
                    rw [en, ed]; exact hsp
                  have ek : clsN ls (k + 1) = clsN ls k ++ [((k + 1 : Nat) : Int)] := by rw [HC.out, hh]; rfl
                  have HLn : Hid (∀ (g1 cp1 : Nat), (.slice (some ⟨g1, 0, none⟩) ((clsN ls k).length + 1) cp1 : Value) = .slice (some ⟨g1, 0, none⟩) (clsN ls (k + 1)).length cp1) := fun g1 cp1 => by rw [ek, List.length_append]; rfl
                  have HRow : Hid (∀ (W : World) (g1 cp1 : Nat), W.ownsRow (w1.heap.size + 2) 60 4 (.slice (some ⟨g1, 0, none⟩) ((clsN ls k).length + 1) cp1) ((clsN ls k).length + 1) ((bkL (sumOf ls) (tbT rs s day ls) (clsN ls k)).map encZ ++ [.int .i64 ((k + 1 : Nat) : Int), .int .i64 (sumOf ls ((k + 1 : Nat) : Int)), .int .i64 (sumOf ls ((k + 1 : Nat) : Int) - spT (sumOf ls ((k + 1 : Nat) : Int)) r.n r.d), .int .i64 (spT (sumOf ls ((k + 1 : Nat) : Int)) r.n r.d)]) → W.ownsRow (w1.heap.size + 2) 60 4 (.slice (some ⟨g1, 0, none⟩) (clsN ls (k + 1)).length cp1) (clsN ls (k + 1)).length ((bkL (sumOf ls) (tbT rs s day ls) (clsN ls (k + 1))).map encZ)) := fun W g1 cp1 h => by
                    rw [ek, bkL_snoc, List.map_append, List.length_append, et]
                    exact h
                  have hlc : (clsN ls k).length ≤ 9 := by
                    have h1 : (clsN ls k).length ≤ ((List.range k).map fun i => ((i + 1 : Nat) : Int)).length := List.length_filter_le _ _
                    simp at h1; omega
                  have hg0 : w1.heap.size + 2 ≤ g0 := by
                    rcases HO.out.2 with ⟨h0, _⟩ | ⟨g', cap', cur, he, hg, _⟩
                    · cases h0
                    · obtain ⟨rfl, _⟩ : g0 = g' ∧ cp = cap' := by simpa using he
                      exact hg
                  have hg1 : g0 < wr.heap.size := by
                    rcases HO.out.2 with ⟨h0, _⟩ | ⟨g', cap', cur, he, hg, hbk, _⟩
                    · cases h0
                    · obtain ⟨rfl, _⟩ : g0 = g' ∧ cp = cap' := by simpa using he
                      exact (Array.getElem?_eq_some_iff.1 hbk).1
                  have HOw : Hid (∀ (W : World) (o : Obj), Below wr.heap.size wr W → (W.alloc o).ownsRow (w1.heap.size + 2) 60 4 (.slice (some ⟨g0, 0, none⟩) (clsN ls k).length cp) (clsN ls k).length ((bkL (sumOf ls) (tbT rs s day ls) (clsN ls k)).map encZ) ∧ w1.heap.size + 2 ≤ (W.alloc o).heap.size ∧ TwoAt (W.alloc o) w1.heap.size ls ∧ Below w.heap.size w (W.alloc o)) := fun W o hW => by
                    have hX : Below wr.heap.size wr (W.alloc o) := chain hW (below_alloc _ _)
                    refine ⟨⟨HO.out.1, ?_⟩, ?_, H2.out.below hX hlk, chain HB.out hX⟩
                    · rcases HO.out.2 with ⟨h0, _⟩ | ⟨g', cap', cur, he, hg, hbk, hr⟩
                      · cases h0
                      · obtain ⟨rfl, rfl⟩ : g0 = g' ∧ cp = cap' := by simpa using he
                        exact .inr ⟨g0, cp, cur, rfl, hg, (hX.block _ hg1).trans hbk, hr⟩
                    · have := hX.size; omega
                  have HAtS : Hid (∀ w', Below wr.heap.size wr w' → Calls Try.prog 21 #[.slice a rs.length cap, .int .i64 ((k + 1 : Nat) : Int), .string s, .int .i64 day] w' fun e w'' => ∃ i : Nat, e = .returned (.int .i64 (i : Int)) ∧ i < rs.length ∧ rs.getD i tr0 = r ∧ Below w'.heap.size w' w'') := fun w' hb => (HAt.out ((k + 1 : Nat) : Int) w' (chain HB.out hb)).mono fun e w'' h => by
                    rw [hr] at h
                    obtain ⟨⟨x, rfl, ⟨_, h3⟩ | ⟨i, hi, rfl, h3⟩⟩, hb⟩ := h
                    · cases h3
                    · exact ⟨i, rfl, hi, by simpa using h3.symm, hb⟩
                  have hne : rs ≠ [] := fun h0 => by
                    have := rowFor_mem hr
                    rw [h0] at this; cases this
                  obtain ⟨b0, o0, ha, hB0, ia⟩ : ∃ b off, a = some ⟨b, off, none⟩ ∧ b < w.heap.size ∧ RowsAt w b off rs := by
                    rcases HRd.out with h0 | h0
                    · exact absurd h0 hne
                    · exact h0
                  subst ha
                  have HSm : Hid (∀ W, Below wr.heap.size wr W → W.cell? ⟨w1.heap.size, k + 1, none⟩ = some (.int .i64 (sumOf ls ((k + 1 : Nat) : Int))) ∧ W.cell? ⟨w1.heap.size + 1, k + 1, none⟩ = some (.bool true)) := fun W hW => ⟨(hW.cell (p := ⟨w1.heap.size, k + 1, none⟩) (by show w1.heap.size < _; omega)).trans hc1, (hW.cell (p := ⟨w1.heap.size + 1, k + 1, none⟩) hlk).trans hc0⟩
                  have HRw : Hid (∀ W, Below wr.heap.size wr W → ∀ i, i < rs.length → rs.getD i tr0 = r → W.cell? ⟨b0, o0 + i * 6 + 4, none⟩ = some (.int .i64 r.n) ∧ W.cell? ⟨b0, o0 + i * 6 + 5, none⟩ = some (.int .i64 r.d)) := fun W hW i hi hri => by
                    have := (ia.below (chain HB.out hW) hB0) i hi
                    rw [hri] at this
                    exact ⟨this.2.2.2.2.1, this.2.2.2.2.2⟩
                  clear HC hh HAt HE8 HE11 ham hm hsp en ed et ek hrt hr HA HO ia hne HTA HGo HT HNL
                  generalize hgd : r.d = d at *
                  generalize hgn : r.n = n at *
                  generalize spT (sumOf ls ((k + 1 : Nat) : Int)) n d = t at *
                  generalize sumOf ls ((k + 1 : Nat) : Int) = g at *
                  go_wp2_with (go_at_call 20; refine (HI2.out _).mono ?_; rintro e w' ⟨rfl, hw'⟩; rw [hw']; clear hw' w')
                  refine wp_region_held_drew (S := fun W => Below wr.heap.size wr W) (by kernel_rfl) (below_drew wr) (fun hH => ?_)
                  refine wpAnyH_take (i := 0) (v := .slice (some ⟨w1.heap.size, 0, none⟩) 10 10) rfl (by kernel_rfl) (by kernel_rfl) (by kernel_rfl) (fun _ _ _ h => h) (Or.inl ⟨by rfl, fun w hSw => by obtain ⟨s0, s1⟩ := HSm.out w hSw; go_simp⟩) hH ?_
                  refine wpAnyH_take (i := 1) (v := .int .i64 ((k + 1 : Nat) : Int)) rfl (by kernel_rfl) (by kernel_rfl) (by kernel_rfl) (fun _ _ _ h => h) (Or.inl ⟨by rfl, fun w hSw => by obtain ⟨s0, s1⟩ := HSm.out w hSw; go_simp⟩) hH ?_
                  refine wpAnyH_take (i := 2) (v := .pointer (some ⟨w1.heap.size, k + 1, none⟩)) rfl (by kernel_rfl) (by kernel_rfl) (by kernel_rfl) (fun _ _ _ h => h) (Or.inl ⟨by rfl, fun w hSw => by obtain ⟨s0, s1⟩ := HSm.out w hSw; go_simp⟩) hH ?_
                  refine wpAnyH_take (i := 3) (v := .int .i64 g) rfl (by kernel_rfl) (by kernel_rfl) (by kernel_rfl) (fun _ _ _ h => h) (Or.inl ⟨by rfl, fun w hSw => by obtain ⟨s0, s1⟩ := HSm.out w hSw; go_simp⟩) hH ?_
                  refine wpAnyH_take (i := 4) (v := .slice (some ⟨b0, o0, none⟩) rs.length cap) rfl (by kernel_rfl) (by kernel_rfl) (by kernel_rfl) (fun _ _ _ h => h) (Or.inl ⟨by rfl, fun w hSw => by obtain ⟨s0, s1⟩ := HSm.out w hSw; go_simp⟩) hH ?_
                  refine wpAnyH_take (i := 5) (v := .slice (some ⟨b0, o0, none⟩) rs.length cap) rfl (by kernel_rfl) (by kernel_rfl) (by kernel_rfl) (fun _ _ _ h => h) (Or.inl ⟨by rfl, fun w hSw => by obtain ⟨s0, s1⟩ := HSm.out w hSw; go_simp⟩) hH ?_
                  refine wpAnyH_take (i := 6) (v := .int .i64 ((k + 1 : Nat) : Int)) rfl (by kernel_rfl) (by kernel_rfl) (by kernel_rfl) (fun _ _ _ h => h) (Or.inl ⟨by rfl, fun w hSw => by obtain ⟨s0, s1⟩ := HSm.out w hSw; go_simp⟩) hH ?_
                  refine wpAnyH_take (i := 7) (v := .string s) rfl (by kernel_rfl) (by kernel_rfl) (by kernel_rfl) (fun _ _ _ h => h) (Or.inl ⟨by rfl, fun w hSw => by obtain ⟨s0, s1⟩ := HSm.out w hSw; go_simp⟩) hH ?_
                  refine wpAnyH_take (i := 8) (v := .int .i64 day) rfl (by kernel_rfl) (by kernel_rfl) (by kernel_rfl) (fun _ _ _ h => h) (Or.inl ⟨by rfl, fun w hSw => by obtain ⟨s0, s1⟩ := HSm.out w hSw; go_simp⟩) hH ?_
                  refine wpAnyH_ready (rs := [9, 14]) (by kernel_rfl) (by simp) ?_
                  refine AllReadyH.cons rfl (fun K hK => ?_) (AllReadyH.cons rfl (fun K hK => ?_) AllReadyH.nil)
                  · skip
                    go_simp
                    go_at_call 21
                    refine (HAtS.out _ hH).mono ?_
                    rintro e w3 ⟨i, rfl, hi, hri, hbw3⟩
                    have hi' : (i : Int) < (rs.length : Int) := by omega
                    have hw3 : Below wr.heap.size wr w3 := chain hH hbw3
                    refine hK.out _ _ hw3 (fun _ => ?_)
                    clear hK K
                    refine wpAnyH_take (i := 10) (v := .pointer (some ⟨b0, o0 + i * 6, none⟩)) rfl (by kernel_rfl) (by kernel_rfl) (by kernel_rfl) (fun _ _ _ h => h) (Or.inl ⟨by rfl, fun w hSw => by obtain ⟨s0, s1⟩ := HRw.out w hSw i hi hri; go_simp⟩) hw3 ?_
                    refine wpAnyH_take (i := 11) (v := .pointer (some ⟨b0, o0 + i * 6 + 4, none⟩)) rfl (by kernel_rfl) (by kernel_rfl) (by kernel_rfl) (fun _ _ _ h => h) (Or.inl ⟨by rfl, fun w hSw => by obtain ⟨s0, s1⟩ := HRw.out w hSw i hi hri; go_simp⟩) hw3 ?_
                    refine wpAnyH_take (i := 12) (v := .agg #[.int .i64 n, .int .i64 d]) rfl (by kernel_rfl) (by kernel_rfl) (by kernel_rfl) (fun _ _ _ h => h) (Or.inl ⟨by rfl, fun w hSw => by obtain ⟨s0, s1⟩ := HRw.out w hSw i hi hri; go_simp⟩) hw3 ?_
                    refine wpAnyH_ready (rs := [13, 14]) (by kernel_rfl) (by simp) ?_
                    refine AllReadyH.cons rfl (fun K hK => ?_) (AllReadyH.cons rfl (fun K hK => ?_) AllReadyH.nil)
                    · skip
                      go_simp
                      go_at_call 22
                      refine (HSp.out _).mono ?_
                      rintro e w4 ⟨rfl, hbw4⟩
                      have hw4 : Below wr.heap.size wr w4 := chain hw3 hbw4
                      refine hK.out _ _ hw4 (fun _ => ?_)
                      clear hK K
                      refine wpAnyH_ready (rs := [14]) (by kernel_rfl) (by simp) ?_
                      refine AllReadyH.cons rfl (fun K hK => ?_) AllReadyH.nil
                      go_simp
                      have h6 : Below wr.heap.size wr (w4.alloc (Obj.cells #[.int .i64 0, .int .i64 0, .int .i64 0] 54)) := chain hw4 (below_alloc _ _)
                      refine hK.out _ _ h6 (fun _ => ?_)
                      clear hK K
                      have HP : Hid (∀ x y z : Value, _) := fun x y z => threeA hw4 x y z
                      refine wpAnyH_ready (rs := [15]) (by kernel_rfl) (by simp) ?_
                      refine AllReadyH.cons rfl (fun K hK => ?_) AllReadyH.nil
                      go_simp
                      obtain ⟨W5, hW5, h5, q0, q1, q2⟩ := HP.out (.int .i64 g) (.int .i64 (g - t)) (.int .i64 t)
                      try rw [hW5]
                      refine hK.out _ _ h5 (fun _ => ?_)
                      clear hK K
                      refine wpAnyH_done (by kernel_rfl) ?_ _
                      try simp [Act.put]
                      clear hH
                      have H5 : Hid (Below wr.heap.size wr W5) := h5
                      clear h5
                      go_wp2_with (at_builtin; have _t := H5; refine wpList_append_lies _ rfl _ _ 26 rfl (w1.heap.size + 2) 60 i0 (.agg #[.int .i64 0, .int .i64 0, .int .i64 0, .int .i64 0]) 4 32 Try.underlying26 hti hi0 hi1 hi2 rfl (by decide) _ _ _ rfl (HOw.out W5 _ H5.out).1 ⟨W5.heap.size, 0, none⟩ 1 1 [.int .i64 ((k + 1 : Nat) : Int), .int .i64 g, .int .i64 (g - t), .int .i64 t] rfl rfl (World.news_of_block (heapNew W5 _)) (oneInts _ _ _ _) (by omega) (by unfold maxLen; omega) (by omega) (HOw.out W5 _ H5.out).2.1 _ rfl ?_; intro g1 cp1 w7 hown1 hgrow1 hat1 hglt1; obtain ⟨n1, n2⟩ := push3 (HOw.out W5 _ H5.out).2.2.1 (HOw.out W5 _ H5.out).2.2.2 hw1 hg0 hgrow1; have HF : Hid (w7.ownsRow (w1.heap.size + 2) 60 4 (.slice (some ⟨g1, 0, none⟩) ((clsN ls k).length + 1) cp1) ((clsN ls k).length + 1) ((bkL (sumOf ls) (tbT rs s day ls) (clsN ls k)).map encZ ++ [.int .i64 ((k + 1 : Nat) : Int), .int .i64 g, .int .i64 (g - t), .int .i64 t])) := hown1; have N1 : Hid (TwoAt w7 w1.heap.size ls) := n1; have N2 : Hid (Below w.heap.size w w7) := n2; clear hown1 hgrow1 hat1 hglt1 n1 n2)
                      go_roundw
                      case rel => exact ⟨k + 1, g1, cp1, by omega, by go_num, HLn.out _ _, HO1.out, HRow.out _ _ _ HF.out, N1.out, N2.out⟩
                      case measure => simp [intOf]; omega
                    · skip
                      go_simp
                      have h6 : Below wr.heap.size wr (w3.alloc (Obj.cells #[.int .i64 0, .int .i64 0, .int .i64 0] 54)) := chain hw3 (below_alloc _ _)
                      refine hK.out _ _ h6 (fun _ => ?_)
                      clear hK K
                      refine wpAnyH_ready (rs := [13]) (by kernel_rfl) (by simp) ?_
                      refine AllReadyH.cons rfl (fun K hK => ?_) AllReadyH.nil
                      go_simp
                      go_at_call 22
                      refine (HSp.out _).mono ?_
                      rintro e w4 ⟨rfl, hbw4⟩
                      have hw4 : Below wr.heap.size wr w4 := chain h6 hbw4
                      refine hK.out _ _ hw4 (fun _ => ?_)
                      clear hK K
                      obtain ⟨⟨⟨k0, k1, k2⟩, f0, f1, f2⟩, hp⟩ := threeC hw3 hbw4
                      have HP : Hid (∀ x y z : Value, _) := hp
                      clear hp hbw4
                      refine wpAnyH_ready (rs := [15]) (by kernel_rfl) (by simp) ?_
                      refine AllReadyH.cons rfl (fun K hK => ?_) AllReadyH.nil
                      go_simp
                      obtain ⟨W5, hW5, h5, q0, q1, q2⟩ := HP.out (.int .i64 g) (.int .i64 (g - t)) (.int .i64 t)
                      try rw [hW5]
                      refine hK.out _ _ h5 (fun _ => ?_)
                      clear hK K
                      refine wpAnyH_done (by kernel_rfl) ?_ _
                      try simp [Act.put]
                      clear hH
                      have H5 : Hid (Below wr.heap.size wr W5) := h5
                      clear h5
                      go_wp2_with (at_builtin; have _t := H5; refine wpList_append_lies _ rfl _ _ 26 rfl (w1.heap.size + 2) 60 i0 (.agg #[.int .i64 0, .int .i64 0, .int .i64 0, .int .i64 0]) 4 32 Try.underlying26 hti hi0 hi1 hi2 rfl (by decide) _ _ _ rfl (HOw.out W5 _ H5.out).1 ⟨W5.heap.size, 0, none⟩ 1 1 [.int .i64 ((k + 1 : Nat) : Int), .int .i64 g, .int .i64 (g - t), .int .i64 t] rfl rfl (World.news_of_block (heapNew W5 _)) (oneInts _ _ _ _) (by omega) (by unfold maxLen; omega) (by omega) (HOw.out W5 _ H5.out).2.1 _ rfl ?_; intro g1 cp1 w7 hown1 hgrow1 hat1 hglt1; obtain ⟨n1, n2⟩ := push3 (HOw.out W5 _ H5.out).2.2.1 (HOw.out W5 _ H5.out).2.2.2 hw1 hg0 hgrow1; have HF : Hid (w7.ownsRow (w1.heap.size + 2) 60 4 (.slice (some ⟨g1, 0, none⟩) ((clsN ls k).length + 1) cp1) ((clsN ls k).length + 1) ((bkL (sumOf ls) (tbT rs s day ls) (clsN ls k)).map encZ ++ [.int .i64 ((k + 1 : Nat) : Int), .int .i64 g, .int .i64 (g - t), .int .i64 t])) := hown1; have N1 : Hid (TwoAt w7 w1.heap.size ls) := n1; have N2 : Hid (Below w.heap.size w w7) := n2; clear hown1 hgrow1 hat1 hglt1 n1 n2)
                      go_roundw
                      case rel => exact ⟨k + 1, g1, cp1, by omega, by go_num, HLn.out _ _, HO1.out, HRow.out _ _ _ HF.out, N1.out, N2.out⟩
                      case measure => simp [intOf]; omega
                  · skip
                    go_simp
                    have h6 : Below wr.heap.size wr (wr.drew.alloc (Obj.cells #[.int .i64 0, .int .i64 0, .int .i64 0] 54)) := chain hH (below_alloc _ _)
                    refine hK.out _ _ h6 (fun _ => ?_)
                    clear hK K
                    refine wpAnyH_ready (rs := [9]) (by kernel_rfl) (by simp) ?_
                    refine AllReadyH.cons rfl (fun K hK => ?_) AllReadyH.nil
                    go_simp
                    go_at_call 21
                    refine (HAtS.out _ h6).mono ?_
                    rintro e w3 ⟨i, rfl, hi, hri, hbw3⟩
                    have hi' : (i : Int) < (rs.length : Int) := by omega
                    have hw3 : Below wr.heap.size wr w3 := chain h6 hbw3
                    refine hK.out _ _ hw3 (fun _ => ?_)
                    clear hK K
                    refine wpAnyH_take (i := 10) (v := .pointer (some ⟨b0, o0 + i * 6, none⟩)) rfl (by kernel_rfl) (by kernel_rfl) (by kernel_rfl) (fun _ _ _ h => h) (Or.inl ⟨by rfl, fun w hSw => by obtain ⟨s0, s1⟩ := HRw.out w hSw i hi hri; go_simp⟩) hw3 ?_
                    refine wpAnyH_take (i := 11) (v := .pointer (some ⟨b0, o0 + i * 6 + 4, none⟩)) rfl (by kernel_rfl) (by kernel_rfl) (by kernel_rfl) (fun _ _ _ h => h) (Or.inl ⟨by rfl, fun w hSw => by obtain ⟨s0, s1⟩ := HRw.out w hSw i hi hri; go_simp⟩) hw3 ?_
                    refine wpAnyH_take (i := 12) (v := .agg #[.int .i64 n, .int .i64 d]) rfl (by kernel_rfl) (by kernel_rfl) (by kernel_rfl) (fun _ _ _ h => h) (Or.inl ⟨by rfl, fun w hSw => by obtain ⟨s0, s1⟩ := HRw.out w hSw i hi hri; go_simp⟩) hw3 ?_
                    refine wpAnyH_ready (rs := [13]) (by kernel_rfl) (by simp) ?_
                    refine AllReadyH.cons rfl (fun K hK => ?_) AllReadyH.nil
                    go_simp
                    go_at_call 22
                    refine (HSp.out _).mono ?_
                    rintro e w4 ⟨rfl, hbw4⟩
                    have hw4 : Below wr.heap.size wr w4 := chain hw3 hbw4
                    refine hK.out _ _ hw4 (fun _ => ?_)
                    clear hK K
                    obtain ⟨⟨⟨k0, k1, k2⟩, f0, f1, f2⟩, hp⟩ := threeB (chain hbw3 hbw4)
                    have HP : Hid (∀ x y z : Value, _) := hp
                    clear hp hbw3 hbw4
                    refine wpAnyH_ready (rs := [15]) (by kernel_rfl) (by simp) ?_
                    refine AllReadyH.cons rfl (fun K hK => ?_) AllReadyH.nil
                    go_simp
                    obtain ⟨W5, hW5, h5, q0, q1, q2⟩ := HP.out (.int .i64 g) (.int .i64 (g - t)) (.int .i64 t)
                    try rw [hW5]
                    refine hK.out _ _ h5 (fun _ => ?_)
                    clear hK K
                    refine wpAnyH_done (by kernel_rfl) ?_ _
                    try simp [Act.put]
                    clear hH
                    have H5 : Hid (Below wr.heap.size wr W5) := h5
                    clear h5
                    go_wp2_with (at_builtin; have _t := H5; refine wpList_append_lies _ rfl _ _ 26 rfl (w1.heap.size + 2) 60 i0 (.agg #[.int .i64 0, .int .i64 0, .int .i64 0, .int .i64 0]) 4 32 Try.underlying26 hti hi0 hi1 hi2 rfl (by decide) _ _ _ rfl (HOw.out W5 _ H5.out).1 ⟨W5.heap.size, 0, none⟩ 1 1 [.int .i64 ((k + 1 : Nat) : Int), .int .i64 g, .int .i64 (g - t), .int .i64 t] rfl rfl (World.news_of_block (heapNew W5 _)) (oneInts _ _ _ _) (by omega) (by unfold maxLen; omega) (by omega) (HOw.out W5 _ H5.out).2.1 _ rfl ?_; intro g1 cp1 w7 hown1 hgrow1 hat1 hglt1; obtain ⟨n1, n2⟩ := push3 (HOw.out W5 _ H5.out).2.2.1 (HOw.out W5 _ H5.out).2.2.2 hw1 hg0 hgrow1; have HF : Hid (w7.ownsRow (w1.heap.size + 2) 60 4 (.slice (some ⟨g1, 0, none⟩) ((clsN ls k).length + 1) cp1) ((clsN ls k).length + 1) ((bkL (sumOf ls) (tbT rs s day ls) (clsN ls k)).map encZ ++ [.int .i64 ((k + 1 : Nat) : Int), .int .i64 g, .int .i64 (g - t), .int .i64 t])) := hown1; have N1 : Hid (TwoAt w7 w1.heap.size ls) := n1; have N2 : Hid (Below w.heap.size w w7) := n2; clear hown1 hgrow1 hat1 hglt1 n1 n2)
                    go_roundw
                    case rel => exact ⟨k + 1, g1, cp1, by omega, by go_num, HLn.out _ _, HO1.out, HRow.out _ _ _ HF.out, N1.out, N2.out⟩
                    case measure => simp [intOf]; omega
            · obtain rfl : k = 9 := by omega
              rw [clsN_nine] at HA HO
              obtain ⟨o1, o2⟩ := own2_of_row HO.out
              have HEn : Hid (TbPost rs s day ls w (.returned (.tuple #[.slice (some ⟨g0, 0, none⟩) (cls ls).length cp, .int .i64 0])) wr) := by
                have e : tbGo rs s day ls = (bkL (sumOf ls) (tbT rs s day ls) (cls ls), 0) := by rw [HGo.out, if_pos HA.out]
                refine ⟨some ⟨g0, 0, none⟩, cp, ?_, ?_, HB.out⟩
                · rw [e, bkL_length, Nat.mul_div_cancel _ (by omega)]
                · rw [e]; exact own2_base o1 (by omega)
              clear o1 o2 HO
              rw [clsN_nine]
              go_wp2
              exact bodyPost_ret (v := .tuple #[.slice (some ⟨g0, 0, none⟩) (cls ls).length cp, .int .i64 0]) (by simp [results, Try.results6, go_sem]) rfl HEn.out
end Go.Proofs.Ytaledfdhiimhdak

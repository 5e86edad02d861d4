/-
  Texts of this claim laid together: DrawUsA.
-/
import Derived.Test.YtkfmifbffgbiiaaM15
import Derived.Test.YtkfmifbffgbiiaaM5
import Derived.Deep.OwnRows
/-
  Drawn uses in a row of their own, which units are taken, and one use that is being drawn.
-/
namespace Go.Proofs.Ytkfmifbffgbiiaa
open Go.ChangeShapes Go.WideShapes Go.ChangeAt Go.RowKit Go.Deep
set_option linter.unusedVariables false

theorem boolInfo' : (Try.prog.info? 4).map (fun i => (i.zero, i.size, i.bytes)) = some (some (.bool false), 1, 1) := by kernel_rfl
theorem usInfo' : (Try.prog.info? 36).map (fun i => (i.zero, i.size, i.bytes)) = some (some (.agg #[.int .i64 0, .int .i64 0, .slice none 0 0]), 3, 40) := by kernel_rfl
theorem intInfo' : (Try.prog.info? 3).map (fun i => (i.zero, i.size, i.bytes)) = some (some (.int .i64 0), 1, 8) := by kernel_rfl
theorem makeTaken (n : Nat) (hn : n ≤ 100000000) (w : World) :
    (Instr.makeSlice 60 (.int .i64 (n : Int)) (.int .i64 (n : Int))).run Try.prog w = .ok (.slice (some ⟨w.heap.size, 0, none⟩) n n) (w.alloc (.cells (madeCells #[.bool false] n) 4)) := by
  obtain ⟨i, hi, hzz⟩ := Option.map_eq_some_iff.1 boolInfo'
  simp only [Prod.mk.injEq] at hzz
  obtain ⟨hz, hs, hb⟩ := hzz
  have hr := run_make (P := Try.prog) w 60 4 i _ Try.underlying60 hi hz .i64 .i64 (n : Int) (n : Int) (by omega) (by omega) (by rw [hb]; omega) (by omega)
  simp only [Int.toNat_natCast, hs, Nat.mul_one] at hr
  exact hr
/-- Numbers in a block of numbers between lo and hi. -/
def RIz (lo hi : Nat) (W : World) (h : Option Addr) (xs : List Int) : Prop := xs = [] ∨ ∃ q off cur, h = some ⟨q, off, none⟩ ∧ (lo ≤ q ∧ q < hi) ∧ W.heap[q]? = some (.cells cur 3 (0, 0)) ∧ ∀ j, j < xs.length → cur[off + j]? = some (.int .i64 (xs.getD j 0))
theorem RIz.of {lo hi : Nat} {W W' : World} {h : Option Addr} {xs : List Int} (k : RIz lo hi W h xs) (hk : ∀ (q : Nat) (cur : Array Value), lo ≤ q → q < hi → W.heap[q]? = some (.cells cur 3 (0, 0)) → W'.heap[q]? = W.heap[q]?) : RIz lo hi W' h xs := by
  rcases k with k | ⟨q, off, cur, e, ⟨hB, hH⟩, hq, hc⟩
  · exact .inl k
  · exact .inr ⟨q, off, cur, e, ⟨hB, hH⟩, (hk q cur hB hH hq).trans hq, hc⟩
theorem RIz.up {lo hi hi' : Nat} {W : World} {h : Option Addr} {xs : List Int} (k : RIz lo hi W h xs) (hh : W.heap.size ≤ hi') : RIz lo hi' W h xs := by
  rcases k with k | ⟨q, off, cur, e, ⟨hB, hH⟩, hq, hc⟩
  · exact .inl k
  · exact .inr ⟨q, off, cur, e, ⟨hB, Nat.lt_of_lt_of_le (blkLt hq) hh⟩, hq, hc⟩
theorem RIz.reads {lo hi : Nat} {W : World} {h : Option Addr} {xs : List Int} (k : RIz lo hi W h xs) : Reads W.heap.size W h xs := by
  rcases k with k | ⟨q, off, cur, e, ⟨hB, hH⟩, hq, hc⟩
  · exact .inl k
  · exact .inr ⟨q, off, e, blkLt hq, fun j hj => blkCell hq (off + j) _ (hc j hj)⟩
theorem RIz.row {lo Z hi : Nat} {W : World} {h : Option Addr} {c : Nat} {l : List Int} (k : W.ownsRow Z 3 1 (.slice h l.length c) l.length (l.map (.int .i64))) (hlo : lo ≤ Z) (hhi : W.heap.size ≤ hi) : RIz lo hi W h l := by
  by_cases hz : l = []
  · exact .inl hz
  · have hp : 0 < l.length := List.length_pos_iff.2 hz
    obtain ⟨g, cp, e⟩ := row_some k hp
    simp only [Value.slice.injEq] at e
    obtain ⟨rfl, _, _⟩ := e
    obtain ⟨cur, hc⟩ := row_type k (q := g) rfl
    have hl := row_lt k g rfl
    refine .inr ⟨g, 0, cur, rfl, ⟨by omega, by omega⟩, hc, fun j hj => ?_⟩
    have e := k.cellAt j (by omega)
    rw [cell_of_row _ g j cur _ _ hc] at e
    rw [Nat.zero_add, e, List.getElem?_map, List.getElem?_eq_getElem hj]
    simp [List.getD_eq_getElem?_getD, hj]
/-- The uses drawn so far, and which units are taken. -/
structure UuSt (w : World) (b : Nat) (a : Option Addr) (len cap n g cp : Nat) (cs : List CUs) (C : List Value) (tb : Nat) (T : Nat → Bool) (Z : Nat) (at' sd : Int) (W : World) : Prop where
  hb : b < w.heap.size
  ap : Apart b w W
  lo : Below b w W
  src : Src W b a len cap at' sd
  row : W.ownsRow w.heap.size 36 3 (.slice (some ⟨g, 0, none⟩) cs.length cp) cs.length C
  fit : ∀ i, i < cs.length → ∃ h c, C[i * 3]? = some (.int .i64 (cs.getD i zUs).dl) ∧ C[i * 3 + 1]? = some (.int .i64 (cs.getD i zUs).sv) ∧ C[i * 3 + 2]? = some (.slice h (cs.getD i zUs).us.length c) ∧ (cs.getD i zUs).us.length ≤ c ∧ RIz w.heap.size Z W h (cs.getD i zUs).us
  tk : W.rowIs tb 4 n (fun j => .bool (T j))
  tbz : w.heap.size ≤ tb
  zlo : w.heap.size ≤ Z
  top : Z ≤ W.heap.size
theorem UuSt.ofU {w : World} {b : Nat} {a : Option Addr} {len cap n g cp : Nat} {cs : List CUs} {C : List Value} {tb : Nat} {T T' : Nat → Bool} {Z : Nat} {at' sd at2 sd2 : Int} {W W' : World} (h : UuSt w b a len cap n g cp cs C tb T Z at' sd W)
    (hz : W.heap.size ≤ W'.heap.size) (hk : ∀ k, k ≠ b → k < W.heap.size → k < w.heap.size ∨ k = g ∨ (k < Z ∧ ∃ cur, W.heap[k]? = some (.cells cur 3 (0, 0))) → W'.heap[k]? = W.heap[k]?) (ht : W'.rowIs tb 4 n (fun j => .bool (T' j))) (hs : Src W' b a len cap at2 sd2) (hl : Below b W W') : UuSt w b a len cap n g cp cs C tb T' Z at2 sd2 W' := by
  have hb := h.hb
  refine ⟨hb, ⟨Nat.le_trans h.ap.1 hz, fun k h1 h2 => (hk k h1 (Nat.lt_of_lt_of_le h2 h.ap.1) (.inl h2)).trans (h.ap.2 k h1 h2)⟩, h.lo.trans hl, hs, ownsRow_sameP h.row (fun k hk' => ?_), fun i hi => ?_, ht, h.tbz, h.zlo, Nat.le_trans h.top hz⟩
  · have e : g = k := by simpa [Value.ownBlock] using hk'
    have := h.row.lt k hk'
    exact hk k (by omega) this.2 (.inr (.inl e.symm))
  · obtain ⟨h', c, k0, k1, k2, k3, k4⟩ := h.fit i hi
    exact ⟨h', c, k0, k1, k2, k3, k4.of (fun q cur h1 h2 hq => hk q (by omega) (blkLt hq) (.inr (.inr ⟨h2, cur, hq⟩)))⟩
theorem UuSt.step {w : World} {b : Nat} {a : Option Addr} {len cap n g cp : Nat} {cs : List CUs} {C : List Value} {tb : Nat} {T : Nat → Bool} {Z : Nat} {at' sd at2 sd2 : Int} {W W' : World} (h : UuSt w b a len cap n g cp cs C tb T Z at' sd W) (ha : Apart b W W') (hl : Below b W W') (hs : Src W' b a len cap at2 sd2) : UuSt w b a len cap n g cp cs C tb T Z at2 sd2 W' :=
  h.ofU ha.1 (fun k h1 h2 _ => ha.2 k h1 h2) (h.tk.of_block (ha.2 tb (by have := h.tbz; have := h.hb; omega) h.tk.lt)) hs hl
/-- One use is being drawn: its box, and its units in a row of their own. -/
structure UuB (w : World) (b : Nat) (a : Option Addr) (len cap n g cp : Nat) (cs : List CUs) (C : List Value) (tb : Nat) (T : Nat → Bool) (Z : Nat) (at' sd : Int) (ub : Nat) (h : Option Addr) (c : Nat) (dl : Int) (l : List Int) (W : World) : Prop where
  st : UuSt w b a len cap n g cp cs C tb T Z at' sd W
  box : W.heap[ub]? = some (.cells #[.int .i64 dl, .int .i64 0, .slice h l.length c] 36 (0, 0))
  far : ub ≠ g
  ubz : w.heap.size ≤ ub
  us : W.ownsRow Z 3 1 (.slice h l.length c) l.length (l.map (.int .i64))
theorem UuB.step {w : World} {b : Nat} {a : Option Addr} {len cap n g cp : Nat} {cs : List CUs} {C : List Value} {tb : Nat} {T : Nat → Bool} {Z : Nat} {at' sd at2 sd2 : Int} {ub : Nat} {h : Option Addr} {c : Nat} {dl : Int} {l : List Int} {W W' : World} (k : UuB w b a len cap n g cp cs C tb T Z at' sd ub h c dl l W) (ha : Apart b W W') (hl : Below b W W') (hs : Src W' b a len cap at2 sd2) : UuB w b a len cap n g cp cs C tb T Z at2 sd2 ub h c dl l W' := by
  have hb := k.st.hb
  have hzl := k.st.zlo
  have hu := k.ubz
  exact ⟨k.st.step ha hl hs, (ha.2 ub (by omega) (blkLt k.box)).trans k.box, k.far, k.ubz, ownsRow_sameP k.us (fun q hq => ha.2 q (by have := (k.us.lt q hq).1; omega) (k.us.lt q hq).2)⟩
theorem UuB.new {w : World} {b : Nat} {a : Option Addr} {len cap n g cp : Nat} {cs : List CUs} {C : List Value} {tb : Nat} {T : Nat → Bool} {Z : Nat} {at' sd : Int} {W : World} (h : UuSt w b a len cap n g cp cs C tb T Z at' sd W) (dl : Int) (W' : World) (e : W' = W.alloc (Obj.cells #[.int .i64 dl, .int .i64 0, .slice none 0 0] 36)) :
    UuB w b a len cap n g cp cs C tb T W.heap.size at' sd W.heap.size none 0 dl [] W' := by
  subst e
  have hg := (h.row.lt g rfl).2
  have h1 := h.ap.1
  have hb := h.hb
  have hal : ∀ k, k < W.heap.size → (W.alloc (Obj.cells #[.int .i64 dl, .int .i64 0, .slice none 0 0] 36)).heap[k]? = W.heap[k]? := fun k hk => Below.heap_alloc _ _ _ hk
  have h2 := h.ofU (T' := T) (at2 := at') (sd2 := sd) (W' := W.alloc (Obj.cells #[.int .i64 dl, .int .i64 0, .slice none 0 0] 36)) (by simp) (fun k _ hk _ => hal k hk) (h.tk.alloc _) (src_sameD h.src (hal b (by omega)) (by simp)) ((below_alloc _ _).mono (by omega))
  refine ⟨⟨h2.hb, h2.ap, h2.lo, h2.src, h2.row, fun i hi => ?_, h2.tk, h2.tbz, h1, by simp⟩, heapNew W _, by omega, h1, ⟨rfl, .inl ⟨rfl, rfl⟩⟩⟩
  obtain ⟨h', c, k0, k1, k2, k3, k4⟩ := h.fit i hi
  exact ⟨h', c, k0, k1, k2, k3, (k4.up (Nat.le_refl _)).of (fun q cur _ h2 _ => hal q h2)⟩
theorem UuB.more {w : World} {b : Nat} {a : Option Addr} {len cap n g cp : Nat} {cs : List CUs} {C : List Value} {tb : Nat} {T : Nat → Bool} {Z : Nat} {at' sd : Int} {ub : Nat} {h h2 : Option Addr} {c c2 : Nat} {dl x : Int} {l : List Int} {W W' : World} {o : Obj} (k : UuB w b a len cap n g cp cs C tb T Z at' sd ub h c dl l W)
    (ho : W'.ownsRow Z 3 1 (.slice h2 (l.length + 1) c2) (l.length + 1) (l.map (.int .i64) ++ [.int .i64 x])) (hg : (W.alloc o).grownBy W' (Value.ownBlock (.slice h l.length c))) :
    W'.heap[ub]? = some (.cells #[.int .i64 dl, .int .i64 0, .slice h l.length c] 36 (0, 0)) ∧
    UuB w b a len cap n g cp cs C tb T Z at' sd ub h2 c2 dl (l ++ [x]) (W'.setCell ⟨ub, 2, none⟩ (.slice h2 (l.length + 1) c2)) := by
  have hb := k.st.hb
  have hzl := k.st.zlo
  have hub := k.ubz
  have htp := k.st.top
  have hap := k.st.ap.1
  have hown : ∀ q, Value.ownBlock (.slice h l.length c) = some q → Z ≤ q ∧ ∃ cur, W.heap[q]? = some (.cells cur 3 (0, 0)) := fun q hq => ⟨(k.us.lt q hq).1, row_type k.us hq⟩
  have hk : ∀ q, q < W.heap.size → Value.ownBlock (.slice h l.length c) ≠ some q → W'.heap[q]? = W.heap[q]? := fun q h1 h2 => (hg.block q (by simp; omega) (fun e => h2 e.symm)).trans (Below.heap_alloc _ _ _ h1)
  have hz : W.heap.size ≤ W'.heap.size := Nat.le_trans (by simp) hg.size
  have n1 : Value.ownBlock (.slice h l.length c) ≠ some ub := fun e => by
    obtain ⟨_, cur, hc⟩ := hown ub e
    rw [k.box] at hc
    simp at hc
  have hb1 := (hk ub (blkLt k.box) n1).trans k.box
  have hbl : Below b W W' := ((below_alloc W o).mono (by omega)).grown hg (by simp; omega) (fun q e => by have := (hown q e).1; omega)
  have e := heap_setCell_same _ _ 2 _ _ (.slice h2 (l.length + 1) c2) hb1
  simp only [List.setIfInBounds_toArray, List.set_cons_zero, List.set_cons_succ] at e
  have hk2 : ∀ q, q < W.heap.size → Value.ownBlock (.slice h l.length c) ≠ some q → q ≠ ub → (W'.setCell ⟨ub, 2, none⟩ (.slice h2 (l.length + 1) c2)).heap[q]? = W.heap[q]? := fun q h1 h2 h3 => (Below.heap_setCell _ _ _ _ h3).trans (hk q h1 h2)
  refine ⟨hb1, ⟨k.st.ofU (by simpa using hz) (fun q h1 h2 h3 => hk2 q h2 (fun e => ?_) (fun e => ?_)) (k.st.tk.of_block (hk2 tb k.st.tk.lt (fun e => ?_) (fun e => ?_))) (src_sameD k.st.src (hk2 b (by omega) (fun e => by have := (hown b e).1; omega) (by omega)) (by simpa using hz)) (hbl.setCell (by show b ≤ ub; omega) _), by rw [List.length_append]; exact e, k.far, hub, ?_⟩⟩
  · obtain ⟨z1, cur, hc⟩ := hown q e
    rcases h3 with h3 | h3 | ⟨h3, _⟩
    · omega
    · obtain ⟨cud, hd⟩ := row_type k.st.row (q := g) rfl
      rw [h3, hd] at hc
      simp at hc
    · omega
  · rcases h3 with h3 | h3 | ⟨h3, cur, hc⟩
    · omega
    · have := k.far; omega
    · rw [e, k.box] at hc
      simp at hc
  · obtain ⟨z1, cur, hc⟩ := hown tb e
    obtain ⟨cu2, h5, _⟩ := k.st.tk
    rw [h5] at hc
    simp at hc
  · obtain ⟨cu2, h5, _⟩ := k.st.tk
    rw [e, k.box] at h5
    simp at h5
  · rw [List.length_append, List.map_append]
    refine ownsRow_sameP ho (fun q hq => Below.heap_setCell _ _ _ _ (fun e => ?_))
    obtain ⟨cur, hc⟩ := row_type ho hq
    have e' : q = ub := e
    rw [e', hb1] at hc
    simp at hc
theorem UuB.take {w : World} {b : Nat} {a : Option Addr} {len cap n g cp : Nat} {cs : List CUs} {C : List Value} {tb : Nat} {T : Nat → Bool} {Z : Nat} {at' sd : Int} {ub : Nat} {h : Option Addr} {c : Nat} {dl : Int} {l : List Int} {W : World} (k : UuB w b a len cap n g cp cs C tb T Z at' sd ub h c dl l W) (i : Nat) :
    UuB w b a len cap n g cp cs C tb (fun j => if j = i then true else T j) Z at' sd ub h c dl l (W.setCell ⟨tb, i, none⟩ (.bool true)) := by
  have hb := k.st.hb
  have htb := k.st.tbz
  obtain ⟨cu2, h5, _⟩ := k.st.tk
  have ht := (k.st.tk.set i (.bool true)).congr (g := fun j => .bool (if j = i then true else T j)) (fun j _ => by split <;> rfl)
  have hk : ∀ q, q ≠ tb → (W.setCell ⟨tb, i, none⟩ (.bool true)).heap[q]? = W.heap[q]? := fun q hq => Below.heap_setCell _ _ _ _ hq
  have hne : ∀ {q : Nat} {cur : Array Value} {t : TypeId}, W.heap[q]? = some (.cells cur t (0, 0)) → t ≠ 4 → q ≠ tb := fun {q cur t} h1 h2 e => by
    rw [e, h5] at h1
    simp at h1
    exact h2 h1.2.symm
  refine ⟨k.st.ofU (by simp) (fun q h1 h2 h3 => hk q ?_) ht (src_sameD k.st.src (hk b (by omega)) (by simp)) ((Below.refl _ _).setCell (by show b ≤ tb; omega) _), (hk ub (hne k.box (by decide))).trans k.box, k.far, k.ubz, ownsRow_sameP k.us (fun q hq => hk q ?_)⟩
  · rcases h3 with h3 | h3 | ⟨h3, cur, hc⟩
    · omega
    · obtain ⟨cud, hd⟩ := row_type k.st.row (q := g) rfl
      rw [h3]
      exact hne hd (by decide)
    · exact hne hc (by decide)
  · obtain ⟨cur, hc⟩ := row_type k.us hq
    exact hne hc (by decide)
theorem UuB.push {w : World} {b : Nat} {a : Option Addr} {len cap n g cp g2 cp2 : Nat} {cs : List CUs} {C : List Value} {tb : Nat} {T : Nat → Bool} {Z : Nat} {at' sd : Int} {ub : Nat} {h : Option Addr} {c : Nat} {dl : Int} {l : List Int} {W W' : World} {o : Obj} (k : UuB w b a len cap n g cp cs C tb T Z at' sd ub h c dl l W)
    (ho : W'.ownsRow w.heap.size 36 3 (.slice (some ⟨g2, 0, none⟩) (cs.length + 1) cp2) (cs.length + 1) (C ++ [.int .i64 dl, .int .i64 0, .slice h l.length c])) (hg : (W.alloc o).grownBy W' (Value.ownBlock (.slice (some ⟨g, 0, none⟩) cs.length cp))) :
    UuSt w b a len cap n g2 cp2 (cs ++ [⟨dl, 0, l⟩]) (C ++ [.int .i64 dl, .int .i64 0, .slice h l.length c]) tb T W'.heap.size at' sd W' := by
  have hb := k.st.hb
  have hzl := k.st.zlo
  have htp := k.st.top
  have hap := k.st.ap.1
  have htz := k.st.tbz
  obtain ⟨cud, hd⟩ := row_type k.st.row (q := g) rfl
  have hgg := k.st.row.lt g rfl
  have hk : ∀ q, q < W.heap.size → q ≠ g → W'.heap[q]? = W.heap[q]? := fun q h1 h2 => (hg.block q (by simp; omega) (fun e => h2 (by simpa [Value.ownBlock] using e))).trans (Below.heap_alloc _ _ _ h1)
  have hz : W.heap.size ≤ W'.heap.size := Nat.le_trans (by simp) hg.size
  have hne : ∀ {q : Nat} {cur : Array Value} {t : TypeId}, W.heap[q]? = some (.cells cur t (0, 0)) → t ≠ 36 → q ≠ g := fun {q cur t} h1 h2 e => by
    rw [e, hd] at h1
    simp at h1
    exact h2 h1.2.symm
  have hbl : Below b W W' := ((below_alloc W o).mono (by omega)).grown hg (by simp; omega) (fun q e => by
    have e' : g = q := by simpa [Value.ownBlock] using e
    omega)
  have hC : C.length = cs.length * 3 := k.st.row.1
  obtain ⟨cu2, h5, _⟩ := id k.st.tk
  have hr : ∀ {h' : Option Addr} {xs : List Int} {hi : Nat}, RIz w.heap.size hi W h' xs → RIz w.heap.size W'.heap.size W' h' xs := fun {h' xs hi} q => (q.up hz).of (fun q cur h1 h2 hq => hk q (blkLt hq) (hne hq (by decide)))
  refine ⟨hb, ⟨Nat.le_trans hap hz, fun q h1 h2 => (hk q (by omega) (by omega)).trans (k.st.ap.2 q h1 h2)⟩, k.st.lo.trans hbl, src_sameD k.st.src (hk b (by omega) (by omega)) hz, by rw [List.length_append]; exact ho, fun i hi => ?_, k.st.tk.of_block (hk tb k.st.tk.lt (hne h5 (by decide))), htz, Nat.le_trans hap hz, Nat.le_refl _⟩
  rw [List.length_append] at hi
  by_cases e : i = cs.length
  · subst e
    rw [show (cs ++ [(⟨dl, 0, l⟩ : CUs)]).getD cs.length zUs = ⟨dl, 0, l⟩ by simp]
    refine ⟨h, c, ?_, ?_, ?_, ?_, hr (RIz.row k.us hzl (Nat.le_refl _))⟩
    · rw [List.getElem?_append_right (by omega), hC, Nat.sub_self]; rfl
    · rw [List.getElem?_append_right (by omega), hC, show cs.length * 3 + 1 - cs.length * 3 = 1 by omega]; rfl
    · rw [List.getElem?_append_right (by omega), hC, show cs.length * 3 + 2 - cs.length * 3 = 2 by omega]; rfl
    · rcases k.us.2 with ⟨e, hn⟩ | ⟨q, cq, cur, e, _, _, hle, _⟩
      · show l.length ≤ c
        omega
      · simp only [Value.slice.injEq] at e
        show l.length ≤ c
        omega
  · have hi' : i < cs.length := by simp at hi; omega
    obtain ⟨g', c', k0, k1, k2, k3, k4⟩ := k.st.fit i hi'
    rw [show (cs ++ [(⟨dl, 0, l⟩ : CUs)]).getD i zUs = cs.getD i zUs by simp only [List.getD_eq_getElem?_getD]; rw [List.getElem?_append_left hi']]
    exact ⟨g', c', by rw [List.getElem?_append_left (by omega)]; exact k0, by rw [List.getElem?_append_left (by omega)]; exact k1, by rw [List.getElem?_append_left (by omega)]; exact k2, k3, hr k4⟩
theorem UuSt.reads {w : World} {b : Nat} {a : Option Addr} {len cap n g cp : Nat} {cs : List CUs} {C : List Value} {tb : Nat} {T : Nat → Bool} {Z : Nat} {at' sd : Int} {W : World} (h : UuSt w b a len cap n g cp cs C tb T Z at' sd W) : ReadsUs W.heap.size W (some ⟨g, 0, none⟩) cs := by
  refine .inr ⟨g, 0, rfl, (h.row.lt g rfl).2, fun i hi => ?_⟩
  obtain ⟨h', c, k0, k1, k2, k3, k4⟩ := h.fit i hi
  refine ⟨h', c, ⟨?_, ?_, ?_⟩, k3, k4.reads⟩
  · rw [Nat.zero_add, h.row.cellAt _ (by omega)]; exact k0
  · rw [Nat.zero_add, h.row.cellAt _ (by omega)]; exact k1
  · rw [Nat.zero_add, h.row.cellAt _ (by omega)]; exact k2
end Go.Proofs.Ytkfmifbffgbiiaa

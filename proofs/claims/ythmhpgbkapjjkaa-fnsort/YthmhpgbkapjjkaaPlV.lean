/-
  Contracts of the library's slices.Values, of its iterator, of AppendSeq and Collect over it, of Sorted: what a list of numbers comes to in its order.
-/
import Derived.Test.YthmhpgbkapjjkaaLists0
import Derived.Test.YthmhpgbkapjjkaaRowG
import Derived.Test.YthmhpgbkapjjkaaRegR
import Derived.Test.YthmhpgbkapjjkaaShelfO
import Derived.Shelf.Abstract
import Derived.Shelf.RegionOpen
import Derived.WalkKit
import Derived.LoopNIn
import Derived.LoopIn
import Derived.Laws.OwnMore
import Derived.Lib.OwnBridge
namespace Go.Proofs.Ythmhpgbkapjjkaa
open Go.ChangeShapes Go.WideShapes Go.ChangeAt Go.RowKit Go.Joins Go.Deep Go.Shelf Go.Sort
set_option linter.unusedVariables false
attribute [local go_sem] Oper.semAt_some

theorem newsOneI (w : World) (v : Value) (t : TypeId) : ∀ j u, [v][j]? = some u → (w.alloc (Obj.cells #[v] t)).cell? ((⟨w.heap.size, 0, none⟩ : Addr).add j) = some u := by
  intro j u hj
  match j, hj with
  | 0, hj => simp at hj; subst hj; simp [Addr.add]
theorem values_any (a : Option Addr) (len cap : Nat) (w : World) :
    Calls Try.prog 57 #[.slice a len cap] w fun e w' => e = .returned (.func (.func 76) #[] #[.pointer (some ⟨w.heap.size, 0, none⟩)]) ∧ w' = w.alloc (Obj.cells #[.slice a len cap] 26) := by
  go_enter Try.func57, Try.ntmps57
  go_wp2
  go_ret
  exact ⟨rfl, rfl⟩
set_option maxRecDepth 100000 in
set_option maxHeartbeats 4000000 in
theorem values1_in (m : Nat) (l Bv n₀ cap : Nat) (a : Option Addr) (xs : List Int) (hl : xs.length ≤ 100000000) (hv : Bv < n₀) (J Jx : List Int → World → Prop)
    (hY : ∀ pre x W, J pre W → pre.length < xs.length → YieldAt Fence.wide (m - 1) Try.prog l #[.int .i64 x] W fun e W' =>
      (e = .returned (.bool true) ∧ J (pre ++ [x]) W' ∧ Below n₀ W W') ∨ (e = .returned (.bool false) ∧ Jx (pre ++ [x]) W'))
    (W : World) (hBv : W.cell? ⟨Bv, 0, none⟩ = some (.slice a xs.length cap)) (hr : Reads n₀ W a xs) (h0 : J [] W) :
    CallsIn Fence.wide m Try.prog 76 #[.func (.yield l) #[] #[], .pointer (some ⟨Bv, 0, none⟩)] W fun e W' => (∃ v, e = .returned v) ∧
      ((∃ ys, ys = xs ∧ J ys W') ∨ (∃ pre, (∃ r, r ≤ xs.length ∧ pre = xs.take r) ∧ Jx pre W')) := by
  have HY : Hid (∀ pre x W, J pre W → pre.length < xs.length → YieldAt Fence.wide (m - 1) Try.prog l #[.int .i64 x] W fun e W' =>
      (e = .returned (.bool true) ∧ J (pre ++ [x]) W' ∧ Below n₀ W W') ∨ (e = .returned (.bool false) ∧ Jx (pre ++ [x]) W')) := hY
  have HR : Hid (Reads n₀ W a xs) := hr
  clear hY hr
  refine callsIn_of_wp Try.func76 rfl trivial ?_ rfl
  simp only [Try.ntmps76, List.size_toArray, List.length_cons, List.length_nil, Nat.reduceAdd, Nat.reduceSub, Array.replicate_succ, Array.replicate_zero, List.push_toArray, List.append_toArray, List.nil_append, List.cons_append]
  gi_wp2
  clear hBv
  gi_loopw [4, 7] (fun _ i wr => ∃ k : Nat, k ≤ xs.length ∧ i = .int .i64 (k : Int) ∧ J (xs.take k) wr ∧ Below n₀ W wr)
    (fun _ i _ => xs.length - (intOf i).toNat)
  case atStart => exact ⟨0, by omega, rfl, h0, Below.refl _ _⟩
  case round =>
    obtain ⟨k, hk, rfl, hJs, hnx⟩ := hrel
    by_cases hlt : k < xs.length
    · have hlt' : (k : Int) < (xs.length : Int) := by omega
      rcases HR.out with h | ⟨b0, o0, ha, hB0, ia⟩
      · rw [h] at hlt; simp at hlt
      have d4 := (ia.below hnx hB0) k hlt
      obtain ⟨fn, tmps, assign, body, hy, hR⟩ := HY.out _ (xs.getD k 0) wr hJs (by rw [List.length_take]; omega)
      have HN : Hid (xs.take k ++ [xs.getD k 0] = xs.take (k + 1)) := by show _ = _; rw [List.take_succ_eq_append_getElem hlt]; simp [List.getD_eq_getElem?_getD, hlt]
      rw [ha]
      clear ia
      generalize xs.getD k 0 = x at *
      gi_wp2
      refine ⟨(fun q => by cases q), hR.mono ?_⟩
      rintro e W3 (⟨rfl, hJ3, hk3⟩ | ⟨rfl, hJx3⟩)
      · have hB3 := hnx.trans hk3
        gi_wp2
        go_roundw
        case rel => exact ⟨k + 1, by omega, by go_num, by rw [← HN.out]; exact hJ3, hB3⟩
        case measure => simp [intOf]; omega
      · gi_wp2
        refine bodyPost_ret (results_none rfl _ _ _) rfl ?_
        exact ⟨⟨_, rfl⟩, .inr ⟨_, ⟨k + 1, by omega, HN.out⟩, hJx3⟩⟩
    · have hlt' : ¬ (k : Int) < (xs.length : Int) := by omega
      have HE : Hid (xs.take k = xs) := List.take_of_length_le (by omega)
      gi_wp2
      go_end0
      exact ⟨⟨_, rfl⟩, .inl (by have h := hJs; rw [HE.out] at h; first | exact h | exact ⟨_, rfl, h⟩)⟩
theorem values1_stops (m Bv n₀ cap : Nat) (a : Option Addr) (xs : List Int) (hl : xs.length ≤ 100000000) (hv : Bv < n₀) (w : World) (h0 : n₀ ≤ w.heap.size) (hBv : w.cell? ⟨Bv, 0, none⟩ = some (.slice a xs.length cap)) (hr : Reads n₀ w a xs) :
    SeqStopsK Fence.wide m Try.prog 76 #[.pointer (some ⟨Bv, 0, none⟩)] (fun x : Int => #[Value.int .i64 x]) (Below n₀) (fun ys => ys = xs) (fun pre => ∃ r, r ≤ xs.length ∧ pre = xs.take r) xs.length w := fun l J Jx W hW _ _ hY hJ0 =>
  values1_in m l Bv n₀ cap a xs hl hv J Jx hY W ((hW.cell (p := ⟨Bv, 0, none⟩) (Nat.lt_of_lt_of_le hv h0)).trans hBv) (hr.below (hW.mono h0)) hJ0
theorem blk_keptV {W W' : World} {row : Option Nat} {B : Nat} {V : Array Value} {t : TypeId} {fr : Nat × Nat} (h : W.heap[B]? = some (.cells V t fr)) (hg : W.grownBy W' row) (hr : ∀ r, row = some r → ∃ o : Obj, W.heap[r]? = some o ∧ o.isCells = false) : W'.heap[B]? = some (.cells V t fr) :=
  (hg.block B (blkLt h) (fun e => by obtain ⟨o, ho, hc⟩ := hr B e.symm; rw [h] at ho; cases ho; cases hc)).trans h
/-- What AppendSeq holds between two rounds: the numbers so far. -/
structure ApI (w : World) (D : Nat) (L : List Int) (W : World) : Prop where
  box : ∃ g cp, W.heap[D]? = some (.cells #[.slice g L.length cp] 26 (0, 0)) ∧ W.ownsRow w.heap.size 3 1 (.slice g L.length cp) L.length (L.map (Value.int .i64))
  bel : Below w.heap.size w W
theorem ApI.kept {w : World} {D B : Nat} {L : List Int} {W W' : World} {row : Option Nat} (h : ApI w D L W) (hB : w.heap.size ≤ B) (hg : W.grownBy W' row) (hr : ∀ r, row = some r → B ≤ r ∧ ∃ o : Obj, W.heap[r]? = some o ∧ o.isCells = false) : ApI w D L W' := by
  obtain ⟨g, cp, h1, h2⟩ := h.box
  have hr2 := fun r e => (hr r e).2
  refine ⟨⟨g, cp, blk_keptV h1 hg hr2, row_of h2 (fun q hq => ?_)⟩, h.bel.grown hg h.bel.size (fun k e => Nat.le_trans hB (hr k e).1)⟩
  obtain ⟨cur, hcur⟩ := row_type h2 hq
  exact (blk_keptV hcur hg hr2).trans hcur.symm
theorem ApI.push {w W w3 : World} {D : Nat} {L : List Int} {x : Int} {o : Obj} {g g1 : Option Addr} {cp cp1 : Nat} (h8 : W.heap[D]? = some (.cells #[.slice g L.length cp] 26 (0, 0))) (hrow : W.ownsRow w.heap.size 3 1 (.slice g L.length cp) L.length (L.map (Value.int .i64))) (hbel : Below w.heap.size w W) (hD : w.heap.size ≤ D)
    (ho : w3.ownsRow w.heap.size 3 1 (.slice g1 (L.length + 1) cp1) (L.length + 1) (L.map (Value.int .i64) ++ [.int .i64 x])) (hg : (W.alloc o).grownBy w3 (Value.ownBlock (.slice g L.length cp))) :
    KeepsOthers W (w3.setCell ⟨D, 0, none⟩ (.slice g1 (L.length + 1) cp1)) ∧ Below w.heap.size W (w3.setCell ⟨D, 0, none⟩ (.slice g1 (L.length + 1) cp1)) ∧ ApI w D (L ++ [x]) (w3.setCell ⟨D, 0, none⟩ (.slice g1 (L.length + 1) cp1)) := by
  have hn : Value.ownBlock (.slice g L.length cp) ≠ some D := fun e => by
    obtain ⟨cur, hc⟩ := row_type hrow e
    rw [h8] at hc
    simp at hc
  have hf1 : Fr (fun k => k = D ∨ Value.ownBlock (.slice g L.length cp) = some k) W w3 := (Fr.of (below_alloc W o)).trans ((fr_grown hg).mono (fun k h => .inr h))
  have h83 : w3.heap[D]? = some (.cells #[.slice g L.length cp] 26 (0, 0)) := (hg.block D (by have := blkLt h8; simp; omega) (fun e => hn e.symm)).trans ((Below.heap_alloc _ _ _ (blkLt h8)).trans h8)
  have hf2 := hf1.set (b := D) (.inl rfl) 0 (.slice g1 (L.length + 1) cp1)
  have hlen : (L ++ [x]).length = L.length + 1 := by simp
  have hX : ∀ k, (k = D ∨ Value.ownBlock (.slice g L.length cp) = some k) → w.heap.size ≤ k := fun k hk => by
    rcases hk with hk | hk
    · omega
    · exact (row_lt hrow k hk).1
  have hg1 : Value.ownBlock (.slice g1 (L.length + 1) cp1) ≠ some D := fun e => by
    obtain ⟨cur, hc⟩ := row_type ho e
    rw [h83] at hc
    simp at hc
  refine ⟨⟨hf2.size, fun k o' hk ho' => (hf2.block k (blkLt hk) (fun hx => ?_)).trans hk⟩, Fr.below (Below.refl _ _) hf2 hbel.size hX, ⟨⟨g1, cp1, ?_, ?_⟩, Fr.below hbel hf2 hbel.size hX⟩⟩
  · rcases hx with hx | hx
    · rw [hx, h8] at hk; cases hk; cases ho'
    · obtain ⟨cur, hc⟩ := row_type hrow hx
      rw [hk] at hc
      cases hc
      cases ho'
  · rw [hlen]
    have := heap_setCell_same w3 D 0 _ _ (.slice g1 (L.length + 1) cp1) h83
    rw [this]
    simp
  · rw [hlen, List.map_append]
    exact row_of ho (fun q hq => Below.heap_setCell _ _ _ _ (fun e => hg1 (by rw [hq, e])))
theorem intInf : (Try.prog.info? 3).map (fun i => (i.zero, i.size, i.bytes)) = some (some (.int .i64 0), 1, 8) := by kernel_rfl
set_option maxRecDepth 100000 in
set_option maxHeartbeats 4000000 in
theorem appendSeq_any (Bv cap : Nat) (a : Option Addr) (xs : List Int) (hl : xs.length ≤ 100000000) (w : World) (hv : Bv < w.heap.size) (hBv : w.cell? ⟨Bv, 0, none⟩ = some (.slice a xs.length cap)) (hr : Reads w.heap.size w a xs) :
    Calls Try.prog 82 #[.slice none 0 0, .func (.func 76) #[] #[.pointer (some ⟨Bv, 0, none⟩)]] w fun e w' => ∃ g cp, e = .returned (.slice g xs.length cp) ∧ w'.ownsRow w.heap.size 3 1 (.slice g xs.length cp) xs.length (xs.map (Value.int .i64)) ∧ Below w.heap.size w w' := by
  refine (callsIn_wide (n := 9)).1 ?_
  refine callsIn_of_wp_marks Try.func82 rfl trivial ?_ rfl
  simp only [Try.ntmps82, List.size_toArray, List.length_cons, List.length_nil, Nat.reduceAdd, Nat.reduceSub, Array.replicate_succ, Array.replicate_zero, List.push_toArray, List.append_toArray, List.nil_append, List.cons_append]
  gi_wp2
  have hB0 : Below w.heap.size w (w.alloc (Obj.cells #[.slice none 0 0] 26)) := below_alloc _ _
  have hz : (w.alloc (Obj.cells #[.slice none 0 0] 26)).heap.size = w.heap.size + 1 := by simp
  have q0 : (w.alloc (Obj.cells #[.slice none 0 0] 26)).heap[w.heap.size]? = some (.cells #[.slice none 0 0] 26 (0, 0)) := heapNew _ _
  have hseq := values1_stops (9 - 1) Bv w.heap.size cap a xs hl hv _ hB0.size ((hB0.cell (p := ⟨Bv, 0, none⟩) hv).trans hBv) (hr.below hB0)
  generalize hW0 : (w.alloc (Obj.cells #[.slice none 0 0] 26)) = W0 at *
  clear hW0
  refine wpIn_rangeFunc_ownG rfl (by decide) (gf := 76) (lb := #[.pointer (some ⟨Bv, 0, none⟩)]) rfl trivial (enters_of Try.func76 (by kernel_rfl) rfl)
    hseq belowK_t (belowK_b hB0.size) (Below.refl _ _) (fun _ => rfl)
    (fun pre W => ApI w w.heap.size pre W)
    (fun _ _ _ => False)
    (fun pre A B row hs hg hr => hs.kept (B := W0.heap.size) (by omega) hg hr)
    (fun _ _ _ _ _ hs _ _ => hs)
    ⟨⟨none, 0, q0, World.ownsRow_nil _ _ _ _⟩, hB0⟩
    (fun x => { tmps := #[.slice none 0 0, .func (.func 76) #[] #[.pointer (some ⟨Bv, 0, none⟩)], .pointer (some ⟨w.heap.size, 0, none⟩), undef, .slice none 0 0, .int .i64 x, .func (.func 76) #[] #[.pointer (some ⟨Bv, 0, none⟩)], .int .i64 x, undef, undef, undef, undef, undef], defers := [] }) ?assign ?body ?done ?stop
  case assign =>
    intro l x W K hK
    gi_wp2
    exact hK
  case body =>
    rintro l pre x W hI hpl
    obtain ⟨g, cp, g8, grow⟩ := hI.box
    have HI : Hid (ApI w w.heap.size pre W) := hI
    have hbW : Below w.heap.size w W := hI.bel
    have hwW := hbW.size
    obtain ⟨i0, hi0, hzz⟩ := Option.map_eq_some_iff.1 intInf
    simp only [Prod.mk.injEq] at hzz
    obtain ⟨i1, i2, i3⟩ := hzz
    have c0 := blkCell g8 0 _ rfl
    have f0 := blkFree g8 0
    have hne : Value.ownBlock (.slice g pre.length cp) ≠ some w.heap.size := fun e => by
      obtain ⟨cur, hc⟩ := row_type grow e
      rw [g8] at hc
      simp at hc
    have HNe : Hid (Value.ownBlock (.slice g pre.length cp) ≠ some w.heap.size) := hne
    have HG8 : Hid (W.heap[w.heap.size]? = some (.cells #[.slice g pre.length cp] 26 (0, 0))) := g8
    have HGr : Hid (W.ownsRow w.heap.size 3 1 (.slice g pre.length cp) pre.length (pre.map (Value.int .i64))) := grow
    clear hI g8 grow hne
    have HP : Hid (∀ (o : Obj) (w3 : World) (g1 : Option Addr) (cp1 : Nat), w3.ownsRow w.heap.size 3 1 (.slice g1 (pre.length + 1) cp1) (pre.length + 1) (pre.map (Value.int .i64) ++ [.int .i64 x]) → (W.alloc o).grownBy w3 (Value.ownBlock (.slice g pre.length cp)) → KeepsOthers W (w3.setCell ⟨w.heap.size, 0, none⟩ (.slice g1 (pre.length + 1) cp1)) ∧ Below w.heap.size W (w3.setCell ⟨w.heap.size, 0, none⟩ (.slice g1 (pre.length + 1) cp1)) ∧ ApI w w.heap.size (pre ++ [x]) (w3.setCell ⟨w.heap.size, 0, none⟩ (.slice g1 (pre.length + 1) cp1))) := fun o w3 g1 cp1 h1 h2 => ApI.push HG8.out HGr.out hbW (Nat.le_refl _) h1 h2
    simp only [List.getElem_toArray, List.getElem_cons_zero] at c0
    gi_wp2_with (first
      | (gi_at_builtin; refine wpListIn_append_own _ rfl _ _ 26 rfl w.heap.size 3 i0 (.int .i64 0) 1 8 Try.underlying26 hi0 i1 i2 i3 rfl (by decide) _ _ _ rfl (HGr.out.alloc _) ⟨W.heap.size, 0, none⟩ 1 1 [.int .i64 x] rfl rfl (newsOneI _ _ _) (by simp [Value.oneCell']) (by unfold maxLen; omega) (by omega) (by simp; omega) ?_; intro v' w3 hown' hg3 hnil3
         have h83 : w3.heap[w.heap.size]? = some (.cells #[.slice g pre.length cp] 26 (0, 0)) := (hg3.block w.heap.size (by have := blkLt HG8.out; simp; omega) (fun e => HNe.out e.symm)).trans ((Below.heap_alloc _ _ _ (blkLt HG8.out)).trans HG8.out)
         obtain ⟨g1, cp1, rfl⟩ := row_slice hown'
         have HQ : Hid (KeepsOthers W (w3.setCell ⟨w.heap.size, 0, none⟩ (.slice g1 (pre.length + 1) cp1)) ∧ Below w.heap.size W (w3.setCell ⟨w.heap.size, 0, none⟩ (.slice g1 (pre.length + 1) cp1)) ∧ ApI w w.heap.size (pre ++ [x]) (w3.setCell ⟨w.heap.size, 0, none⟩ (.slice g1 (pre.length + 1) cp1))) := HP.out _ w3 g1 cp1 hown' hg3
         have c3 := blkCell h83 0 _ rfl
         have f3 := blkFree h83 0
         simp only [List.getElem_toArray, List.getElem_cons_zero] at c3
         clear h83 hown' hg3 hnil3)
      | gi_in)
    obtain ⟨k1, k2, k3⟩ := HQ.out
    exact ⟨k1.from _, k2, k3⟩
  case done =>
    rintro D ys W hD hS hI hK
    obtain rfl : ys = xs := hS
    obtain ⟨g, cp, g8, grow⟩ := hI.box
    have hB := hI.bel
    have c0 := blkCell g8 0 _ rfl
    simp only [List.getElem_toArray, List.getElem_cons_zero] at c0
    have HGr : Hid (W.ownsRow w.heap.size 3 1 (.slice g ys.length cp) ys.length (ys.map (Value.int .i64))) := grow
    have HK : Hid (W.heap[D]? = some (.deferred (some []))) := hK
    have hDw : D ≠ w.heap.size := by omega
    clear hI grow g8
    gi_wp2
    refine ⟨by simp, .inl ⟨_, _, rfl, run_takeDeferred HK.out, ?_⟩⟩
    refine ⟨_, results_tmp rfl _ _ _, g, cp, rfl, row_of HGr.out (fun q hq => World.putObj_heap_other ?_), hB.trans (belowK_b (w := w) (Nat.le_refl _) _ D _ _ (by omega) HK.out rfl rfl)⟩
    rintro rfl
    obtain ⟨cur, hc⟩ := row_type HGr.out hq
    rw [HK.out] at hc
    cases hc
  case stop =>
    rintro D c pre W _ _ h _
    exact h.elim
theorem collect_any (Bv cap : Nat) (a : Option Addr) (xs : List Int) (hl : xs.length ≤ 100000000) (w : World) (hv : Bv < w.heap.size) (hBv : w.cell? ⟨Bv, 0, none⟩ = some (.slice a xs.length cap)) (hr : Reads w.heap.size w a xs) :
    Calls Try.prog 74 #[.func (.func 76) #[] #[.pointer (some ⟨Bv, 0, none⟩)]] w fun e w' => ∃ g cp, e = .returned (.slice g xs.length cp) ∧ w'.ownsRow w.heap.size 3 1 (.slice g xs.length cp) xs.length (xs.map (Value.int .i64)) ∧ Below w.heap.size w w' := by
  have HA : Hid (Calls Try.prog 82 #[.slice none 0 0, .func (.func 76) #[] #[.pointer (some ⟨Bv, 0, none⟩)]] w fun e w' => ∃ g cp, e = .returned (.slice g xs.length cp) ∧ w'.ownsRow w.heap.size 3 1 (.slice g xs.length cp) xs.length (xs.map (Value.int .i64)) ∧ Below w.heap.size w w') := appendSeq_any Bv cap a xs hl w hv hBv hr
  clear hr hBv
  go_enter Try.func74, Try.ntmps74
  go_wp2_with fail
  (first | go_at_call 82 | skip)
  refine HA.out.mono ?_
  rintro e w2 ⟨g, cp, rfl, h2⟩
  go_wp2
  go_ret
  exact ⟨g, cp, rfl, h2⟩
def leI' (x y : Int) : Bool := decide (x ≤ y)
theorem sortI_any (w : World) (g : Option Addr) (cap : Nat) (L : List Int) (hl : L.length ≤ 100000000) (W : World) (h : W.ownsRow w.heap.size 3 1 (.slice g L.length cap) L.length (L.map (Value.int .i64))) (hb0 : Below w.heap.size w W) :
    Calls Try.prog 75 #[.slice g L.length cap] W fun e w' => e = .returned (.tuple #[]) ∧ Reads w'.heap.size w' g (L.mergeSort leI') ∧ Below w.heap.size w w' := by
  by_cases h0 : L.length = 0
  · have e0 : L = [] := List.eq_nil_of_length_eq_zero h0
    subst e0
    have cS := AnyM.slices_Sort_int_none Try.sortA g cap W
    change Calls Try.prog 75 _ _ _ at cS
    refine cS.mono ?_
    rintro e w' ⟨rfl, rfl⟩
    exact ⟨rfl, .inl (by simp), hb0⟩
  obtain ⟨gq, cq, heq, _, _⟩ := h.form (by omega)
  simp at heq
  obtain ⟨rfl, rfl⟩ := heq
  obtain ⟨g', cap', he, hB, hlt, _, _, hn, hH⟩ := Go.Lib.holds_of_ownsRow (enc := Value.int .i64) h (by simp)
  simp at he
  obtain ⟨rfl, rfl⟩ := he
  have cS := AnyM.slices_Sort_int Try.sortA gq 0 cap L W hH hlt (by omega)
  change Calls Try.prog 75 _ _ _ at cS
  refine cS.mono ?_
  rintro e w' ⟨rfl, q, os, rfl⟩
  have hH0 : Holds (Value.int .i64) (Sort.ahead W q) gq 0 L.toArray := hH
  have h1 : Holds (Value.int .i64) (grow (putRow (Value.int .i64) (Sort.ahead W q) gq 0 (L.mergeSort leI').toArray) os) gq 0 (L.mergeSort leI').toArray :=
    holds_grow _ _ _ _ _ _ (by simpa using hlt) (holds_putRow _ _ _ _ _ _ hH0 (by simp))
  have hb := Go.Lib.below_putRow (enc := Value.int .i64) (q := q) (d := (L.mergeSort leI').toArray) hb0 hB
  have hgl : gq < (grow (putRow (Value.int .i64) (Sort.ahead W q) gq 0 (L.mergeSort leI').toArray) os).heap.size := by
    rw [size_grow, size_putRow]; exact Nat.lt_of_lt_of_le hlt (Nat.le_add_right _ _)
  refine ⟨rfl, .inr ⟨gq, 0, rfl, hgl, fun i hi => ?_⟩, ⟨hb.os, hb.tape, hb.output, ?_, fun k hk => ?_⟩⟩
  · have := (h1 i (by simpa using hi)).1
    have hi' : i < (L.mergeSort leI').length := hi
    show World.cell? (grow (putRow (Value.int .i64) (Sort.ahead W q) gq 0 (L.mergeSort leI').toArray) os) _ = _
    rw [this]
    simp [List.getD_eq_getElem?_getD]
  · show w.heap.size ≤ (grow (putRow (Value.int .i64) (Sort.ahead W q) gq 0 (L.mergeSort leI').toArray) os).heap.size
    rw [size_grow]; exact Nat.le_trans hb.size (Nat.le_add_right _ _)
  · exact (heap_grow_old _ _ (by rw [size_putRow]; exact Nat.lt_trans (Nat.lt_of_lt_of_le hk hB) hlt)).trans (hb.block k hk)
theorem sortedI_any (Bv cap : Nat) (a : Option Addr) (xs : List Int) (hl : xs.length ≤ 100000000) (w : World) (hv : Bv < w.heap.size) (hBv : w.cell? ⟨Bv, 0, none⟩ = some (.slice a xs.length cap)) (hr : Reads w.heap.size w a xs) :
    Calls Try.prog 56 #[.func (.func 76) #[] #[.pointer (some ⟨Bv, 0, none⟩)]] w fun e w' => ∃ g cp, e = .returned (.slice g xs.length cp) ∧ Reads w'.heap.size w' g (xs.mergeSort leI') ∧ Below w.heap.size w w' := by
  have HC : Hid (Calls Try.prog 74 #[.func (.func 76) #[] #[.pointer (some ⟨Bv, 0, none⟩)]] w fun e w' => ∃ g cp, e = .returned (.slice g xs.length cp) ∧ w'.ownsRow w.heap.size 3 1 (.slice g xs.length cp) xs.length (xs.map (Value.int .i64)) ∧ Below w.heap.size w w') := collect_any Bv cap a xs hl w hv hBv hr
  have HS : Hid (∀ g cp W, W.ownsRow w.heap.size 3 1 (.slice g xs.length cp) xs.length (xs.map (Value.int .i64)) → Below w.heap.size w W → Calls Try.prog 75 #[.slice g xs.length cp] W fun e w' => e = .returned (.tuple #[]) ∧ Reads w'.heap.size w' g (xs.mergeSort leI') ∧ Below w.heap.size w w') := fun g cp W h1 h2 => sortI_any w g cp xs hl W h1 h2
  clear hr hBv
  generalize xs.mergeSort leI' = ys at *
  go_enter Try.func56, Try.ntmps56
  go_wp2_with fail
  (first | go_at_call 74 | skip)
  refine HC.out.mono ?_
  rintro e w2 ⟨g, cp, rfl, h2, h3⟩
  have HS2 := HS.out g cp w2 h2 h3
  clear h2 h3
  go_wp2_with fail
  (first | go_at_call 75 | skip)
  refine HS2.mono ?_
  rintro e w3 ⟨rfl, h4, h5⟩
  have H4 : Hid (Reads w3.heap.size w3 g ys ∧ Below w.heap.size w w3) := ⟨h4, h5⟩
  clear h4 h5
  go_wp2
  go_ret
  exact ⟨g, cp, rfl, H4.out⟩
end Go.Proofs.Ythmhpgbkapjjkaa

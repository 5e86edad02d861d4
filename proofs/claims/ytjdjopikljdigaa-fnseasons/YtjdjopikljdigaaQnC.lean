/-
  The program's iterator through a season's sales, and the mean of what an iterator gives.
-/
import Derived.Test.YtjdjopikljdigaaQnA
import Derived.Test.YtjdjopikljdigaaRowG
import Derived.Test.YtjdjopikljdigaaRegR
import Derived.Shelf.Abstract
import Derived.Shelf.RegionOpen
import Derived.WalkKit
import Derived.LoopNIn
import Derived.LoopIn
namespace Go.Proofs.Ytjdjopikljdigaa
open Go.ChangeShapes Go.WideShapes Go.ChangeAt Go.RowKit Go.Joins Go.Deep Go.Shelf
set_option linter.unusedVariables false
attribute [local go_sem] Oper.semAt_some

/-- The sales at the places k, k + n, .., r of them. -/
def seQ (xs : List Int) (n k r : Nat) : List Int := (List.range r).map fun t => xs.getD (k + t * n) 0
theorem seQ_next (xs : List Int) (n k r : Nat) : seQ xs n k (r + 1) = seQ xs n k r ++ [xs.getD (k + r * n) 0] := by simp [seQ, List.range_succ]
theorem seQ_length (xs : List Int) (n k r : Nat) : (seQ xs n k r).length = r := by simp [seQ]
/-- What a round keeps: all that lay below, and three boxes. -/
def Kp3 (n₀ B1 B2 B3 : Nat) (W W' : World) : Prop := Below n₀ W W' ∧ W'.heap[B1]? = W.heap[B1]? ∧ W'.heap[B2]? = W.heap[B2]? ∧ W'.heap[B3]? = W.heap[B3]?
theorem Kp3.trans {n₀ B1 B2 B3 : Nat} {A B C : World} (h : Kp3 n₀ B1 B2 B3 A B) (k : Kp3 n₀ B1 B2 B3 B C) : Kp3 n₀ B1 B2 B3 A C := ⟨h.1.trans k.1, k.2.1.trans h.2.1, k.2.2.1.trans h.2.2.1, k.2.2.2.trans h.2.2.2⟩
theorem Kp3.refl (n₀ B1 B2 B3 : Nat) (W : World) : Kp3 n₀ B1 B2 B3 W W := ⟨Below.refl _ _, rfl, rfl, rfl⟩
theorem Kp3.put {n₀ B1 B2 B3 L : Nat} (h0 : n₀ ≤ L) (h1 : B1 < L) (h2 : B2 < L) (h3 : B3 < L) : ∀ (W : World) (l : Nat) (o o' : Obj), L ≤ l → W.heap[l]? = some o → o.isCells = false → o.isWalk = false → Kp3 n₀ B1 B2 B3 W (W.putObj l o') := fun W l o o' hl ho hc hw =>
  ⟨(Below.refl n₀ W).grown (grownBy_putObj' W l o') (by have := (Array.getElem?_eq_some_iff.1 ho).1; omega) (fun k e => by cases e; omega), World.putObj_heap_other (by omega), World.putObj_heap_other (by omega), World.putObj_heap_other (by omega)⟩
theorem seQ_sum (xs : List Int) {n k : Nat} (hk : k < n) : ∀ r, (seQ xs n k r).sum = smP xs n k (k + r * n) ∧ (r : Int) = ctP n k (k + r * n)
  | 0 => by rw [Nat.zero_mul, Nat.add_zero, smP_start xs hk k (Nat.le_refl _), ctP_start hk k (Nat.le_refl _)]; exact ⟨rfl, rfl⟩
  | r + 1 => by
    obtain ⟨i1, i2⟩ := seQ_sum xs hk r
    have e : k + (r + 1) * n = k + r * n + n := by rw [Nat.add_mul]; omega
    have hp : (k + r * n) % n = k := by rw [Nat.add_mul_mod_self_right, Nat.mod_eq_of_lt hk]
    rw [e, smP_hop xs hk hp n (by omega) (Nat.le_refl _), ctP_hop hk hp n (by omega) (Nat.le_refl _), seQ_next, List.sum_append, i1, ← i2]
    exact ⟨by simp, by omega⟩
theorem season_any (a : Option Addr) (len cap : Nat) (f n : Int) (w : World) :
    Calls Try.prog 37 #[.slice a len cap, .int .i64 f, .int .i64 n] w fun e w' => e = .returned (.func (.func 54) #[] #[.pointer (some ⟨w.heap.size + 1, 0, none⟩), .pointer (some ⟨w.heap.size, 0, none⟩), .pointer (some ⟨w.heap.size + 1 + 1, 0, none⟩)]) ∧
      w' = ((w.alloc (Obj.cells #[.slice a len cap] 23)).alloc (Obj.cells #[.int .i64 f] 3)).alloc (Obj.cells #[.int .i64 n] 3) := by
  go_enter Try.func37, Try.ntmps37
  go_wp2
  go_ret
  exact ⟨rfl, rfl⟩
theorem row_hop {k r n len : Nat} (hn : 1 ≤ n) (h : k + r * n < len) : r < len := by
  have : r * 1 ≤ r * n := Nat.mul_le_mul_left r hn
  omega
set_option maxRecDepth 100000 in
set_option maxHeartbeats 4000000 in
theorem season1_in (m : Nat) (l Bf Bl Bn n₀ b off cap : Nat) (xs : List Int) (n k : Nat) (hk : k < n) (hn : n ≤ 60) (hl : xs.length ≤ 4096) (hb : b < n₀) (h1 : Bf < n₀) (h2 : Bl < n₀) (h3 : Bn < n₀) (J Jx : List Int → World → Prop)
    (hY : ∀ pre x W, J pre W → pre.length < xs.length → YieldAt Fence.wide (m - 1) Try.prog l #[.int .i64 x] W fun e W' =>
      (e = .returned (.bool true) ∧ J (pre ++ [x]) W' ∧ Below n₀ W W') ∨ (e = .returned (.bool false) ∧ Jx (pre ++ [x]) W'))
    (W : World) (hBf : W.cell? ⟨Bf, 0, none⟩ = some (.int .i64 (k : Int))) (hBl : W.cell? ⟨Bl, 0, none⟩ = some (.slice (some ⟨b, off, none⟩) xs.length cap)) (hBn : W.cell? ⟨Bn, 0, none⟩ = some (.int .i64 (n : Int)))
    (hc : ∀ j, j < xs.length → W.cell? ⟨b, off + j, none⟩ = some (.int .i64 (xs.getD j 0))) (h0 : J [] W) :
    CallsIn Fence.wide m Try.prog 54 #[.func (.yield l) #[] #[], .pointer (some ⟨Bf, 0, none⟩), .pointer (some ⟨Bl, 0, none⟩), .pointer (some ⟨Bn, 0, none⟩)] W fun e W' => (∃ v, e = .returned v) ∧
      ((∃ ys, (∃ r, ys = seQ xs n k r ∧ k + r * n < xs.length + n ∧ xs.length ≤ k + r * n) ∧ J ys W') ∨ (∃ pre, (∃ r, r ≤ xs.length ∧ pre = seQ xs n k r) ∧ Jx pre W')) := by
  have HY : Hid (∀ pre x W, J pre W → pre.length < xs.length → YieldAt Fence.wide (m - 1) Try.prog l #[.int .i64 x] W fun e W' =>
      (e = .returned (.bool true) ∧ J (pre ++ [x]) W' ∧ Below n₀ W W') ∨ (e = .returned (.bool false) ∧ Jx (pre ++ [x]) W')) := hY
  have HC : Hid (∀ wr, Below n₀ W wr → wr.cell? ⟨Bl, 0, none⟩ = some (.slice (some ⟨b, off, none⟩) xs.length cap) ∧ wr.cell? ⟨Bn, 0, none⟩ = some (.int .i64 (n : Int)) ∧ ∀ j, j < xs.length → wr.cell? ⟨b, off + j, none⟩ = some (.int .i64 (xs.getD j 0))) := fun wr hw =>
    ⟨(hw.cell (p := ⟨Bl, 0, none⟩) h2).trans hBl, (hw.cell (p := ⟨Bn, 0, none⟩) h3).trans hBn, fun j hj => (hw.cell (p := ⟨b, off + j, none⟩) hb).trans (hc j hj)⟩
  clear hY hBl hBn hc
  refine callsIn_of_wp Try.func54 rfl trivial ?_ rfl
  simp only [Try.ntmps54, List.size_toArray, List.length_cons, List.length_nil, Nat.reduceAdd, Nat.reduceSub, Array.replicate_succ, Array.replicate_zero, List.push_toArray, List.append_toArray, List.nil_append, List.cons_append]
  gi_wp2
  gi_loopw [5] (fun i wr => ∃ (r p : Nat), p = k + r * n ∧ p < xs.length + n ∧ i = .int .i64 (p : Int) ∧ J (seQ xs n k r) wr ∧ Below n₀ W wr)
    (fun i _ => xs.length + n - (intOf i).toNat)
  case atStart => exact ⟨0, k, by simp, by omega, rfl, h0, Below.refl _ _⟩
  case round =>
    obtain ⟨r, p, hp, hpl, rfl, hJs, hnx⟩ := hrel
    obtain ⟨d1, d2, d3⟩ := HC.out wr hnx
    have HP : Hid (p = k + r * n) := hp
    clear hp
    by_cases hlt : p < xs.length
    · have hlt' : (p : Int) < (xs.length : Int) := by omega
      have d4 := d3 p hlt
      obtain ⟨fn, tmps, assign, body, hy, hR⟩ := HY.out _ (xs.getD p 0) wr hJs (by rw [seQ_length]; exact row_hop (n := n) (k := k) (by omega) (by rw [← HP.out]; exact hlt))
      clear d3
      have HN : Hid (seQ xs n k r ++ [xs.getD p 0] = seQ xs n k (r + 1)) := by show _ = _; rw [seQ_next, HP.out]
      generalize xs.getD p 0 = x at *
      gi_wp2
      refine ⟨(fun q => by cases q), hR.mono ?_⟩
      rintro e W3 (⟨rfl, hJ3, hk3⟩ | ⟨rfl, hJx3⟩)
      · have hB3 := hnx.trans hk3
        obtain ⟨e1, e2, e3⟩ := HC.out W3 hB3
        clear e3
        gi_wp2
        go_roundw
        case rel => exact ⟨r + 1, p + n, by have := HP.out; rw [Nat.add_mul]; omega, by omega, by go_num, by rw [← HN.out]; exact hJ3, hB3⟩
        case measure => simp [intOf]; omega
      · gi_wp2
        refine bodyPost_ret (results_none rfl _ _ _) rfl ?_
        exact ⟨⟨_, rfl⟩, .inr ⟨_, ⟨r + 1, row_hop (n := n) (k := k) (by omega) (by rw [← HP.out]; exact hlt), HN.out⟩, hJx3⟩⟩
    · have hlt' : ¬ (p : Int) < (xs.length : Int) := by omega
      clear d3
      gi_wp2
      go_end0
      exact ⟨⟨_, rfl⟩, .inl ⟨_, ⟨r, rfl, by rw [← HP.out]; omega, by rw [← HP.out]; omega⟩, hJs⟩⟩
theorem season1_stops (m : Nat) (Bf Bl Bn n₀ b off cap : Nat) (xs : List Int) (n k : Nat) (hk : k < n) (hn : n ≤ 60) (hl : xs.length ≤ 4096) (hb : b < n₀) (h1 : Bf < n₀) (h2 : Bl < n₀) (h3 : Bn < n₀) (w : World) (h0 : n₀ ≤ w.heap.size)
    (hBf : w.cell? ⟨Bf, 0, none⟩ = some (.int .i64 (k : Int))) (hBl : w.cell? ⟨Bl, 0, none⟩ = some (.slice (some ⟨b, off, none⟩) xs.length cap)) (hBn : w.cell? ⟨Bn, 0, none⟩ = some (.int .i64 (n : Int)))
    (hc : ∀ j, j < xs.length → w.cell? ⟨b, off + j, none⟩ = some (.int .i64 (xs.getD j 0))) :
    SeqStopsK Fence.wide m Try.prog 54 #[.pointer (some ⟨Bf, 0, none⟩), .pointer (some ⟨Bl, 0, none⟩), .pointer (some ⟨Bn, 0, none⟩)] (fun x : Int => #[Value.int .i64 x]) (Below n₀)
      (fun ys => ∃ r, ys = seQ xs n k r ∧ k + r * n < xs.length + n ∧ xs.length ≤ k + r * n) (fun pre => ∃ r, r ≤ xs.length ∧ pre = seQ xs n k r) xs.length w := fun l J Jx W hW _ _ hY hJ0 =>
  season1_in m l Bf Bl Bn n₀ b off cap xs n k hk hn hl hb h1 h2 h3 J Jx hY W ((hW.cell (p := ⟨Bf, 0, none⟩) (Nat.lt_of_lt_of_le h1 h0)).trans hBf) ((hW.cell (p := ⟨Bl, 0, none⟩) (Nat.lt_of_lt_of_le h2 h0)).trans hBl)
    ((hW.cell (p := ⟨Bn, 0, none⟩) (Nat.lt_of_lt_of_le h3 h0)).trans hBn) (fun j hj => (hW.cell (p := ⟨b, off + j, none⟩) (Nat.lt_of_lt_of_le hb h0)).trans (hc j hj)) hJ0
theorem wrap64_i64 (x : Int) : wrap64 x = IntKind.i64.wrap x := by first | rfl | (unfold wrap64; rw [IntKind.wrap_i64])
/-- Sums as the machine makes them. -/
def sumW : List Int → Int := List.foldl (fun s v => IntKind.i64.wrap (s + v)) 0
theorem sumW_snoc (pre : List Int) (x : Int) : sumW (pre ++ [x]) = IntKind.i64.wrap (sumW pre + x) := by simp [sumW]
theorem sumW_seQ {xs : List Int} (hx : ∀ i, 0 ≤ xs.getD i 0 ∧ xs.getD i 0 ≤ 100000) {n k : Nat} (hk : k < n) (hn : n ≤ 60) (hl : xs.length ≤ 4096) : ∀ r, k + r * n < xs.length + n → sumW (seQ xs n k r) = smP xs n k (k + r * n)
  | 0, _ => by rw [Nat.zero_mul, Nat.add_zero, smP_start xs hk k (Nat.le_refl _)]; rfl
  | r + 1, h => by
    have e : k + (r + 1) * n = k + r * n + n := by rw [Nat.add_mul]; omega
    have hp : (k + r * n) % n = k := by rw [Nat.add_mul_mod_self_right, Nat.mod_eq_of_lt hk]
    rw [seQ_next, sumW_snoc, sumW_seQ hx hk hn hl r (by omega), e, smP_hop xs hk hp n (by omega) (Nat.le_refl _)]
    have b1 := smP_bound (n := n) (k := k) hx (k + r * n)
    have b2 := hx (k + r * n)
    exact wrap_id _ (by omega) (by omega)
set_option maxRecDepth 100000 in
set_option maxHeartbeats 4000000 in
theorem meanOf_any (Bf Bl Bn b off cap : Nat) (xs : List Int) (n k : Nat) (hk : k < n) (hn : n ≤ 60) (hl : xs.length ≤ 4096) (hkl : k < xs.length) (hx : ∀ i, 0 ≤ xs.getD i 0 ∧ xs.getD i 0 ≤ 100000) (w : World) (hb : b < w.heap.size) (h1 : Bf < w.heap.size) (h2 : Bl < w.heap.size) (h3 : Bn < w.heap.size)
    (hBf : w.cell? ⟨Bf, 0, none⟩ = some (.int .i64 (k : Int))) (hBl : w.cell? ⟨Bl, 0, none⟩ = some (.slice (some ⟨b, off, none⟩) xs.length cap)) (hBn : w.cell? ⟨Bn, 0, none⟩ = some (.int .i64 (n : Int)))
    (hc : ∀ j, j < xs.length → w.cell? ⟨b, off + j, none⟩ = some (.int .i64 (xs.getD j 0))) :
    Calls Try.prog 36 #[.func (.func 54) #[] #[.pointer (some ⟨Bf, 0, none⟩), .pointer (some ⟨Bl, 0, none⟩), .pointer (some ⟨Bn, 0, none⟩)]] w fun e w' => e = .returned (.agg #[.int .i64 (smP xs n k xs.length), .int .i64 (ctP n k xs.length)]) ∧ Below w.heap.size w w' := by
  refine (callsIn_wide (n := 9)).1 ?_
  refine callsIn_of_wp_marks Try.func36 rfl trivial ?_ rfl
  simp only [Try.ntmps36, List.size_toArray, List.length_cons, List.length_nil, Nat.reduceAdd, Nat.reduceSub, Array.replicate_succ, Array.replicate_zero, List.push_toArray, List.append_toArray, List.nil_append, List.cons_append]
  gi_wp2
  have hB0 : Below w.heap.size w ((w.alloc (Obj.cells #[.int .i64 0, .int .i64 0] 36)).alloc (Obj.cells #[.int .i64 0, .int .i64 0] 36)) := chain (below_alloc _ _) (below_alloc _ _)
  have hz : ((w.alloc (Obj.cells #[.int .i64 0, .int .i64 0] 36)).alloc (Obj.cells #[.int .i64 0, .int .i64 0] 36)).heap.size = w.heap.size + 1 + 1 := by simp
  have q1 : ((w.alloc (Obj.cells #[.int .i64 0, .int .i64 0] 36)).alloc (Obj.cells #[.int .i64 0, .int .i64 0] 36)).heap[w.heap.size + 1]? = some (.cells #[.int .i64 0, .int .i64 0] 36 (0, 0)) := by
    have := heapNew (w.alloc (Obj.cells #[.int .i64 0, .int .i64 0] 36)) (Obj.cells #[.int .i64 0, .int .i64 0] 36)
    rwa [World.size_alloc] at this
  have q0 : ((w.alloc (Obj.cells #[.int .i64 0, .int .i64 0] 36)).alloc (Obj.cells #[.int .i64 0, .int .i64 0] 36)).heap[w.heap.size]? = some (.cells #[.int .i64 0, .int .i64 0] 36 (0, 0)) := (Below.heap_alloc _ _ _ (by simp)).trans (heapNew _ _)
  have hseq := season1_stops (9 - 1) Bf Bl Bn w.heap.size b off cap xs n k hk hn hl hb h1 h2 h3 _ hB0.size ((hB0.cell (p := ⟨Bf, 0, none⟩) h1).trans hBf) ((hB0.cell (p := ⟨Bl, 0, none⟩) h2).trans hBl) ((hB0.cell (p := ⟨Bn, 0, none⟩) h3).trans hBn) (fun j hj => (hB0.cell (p := ⟨b, off + j, none⟩) hb).trans (hc j hj))
  generalize hW0 : ((w.alloc (Obj.cells #[.int .i64 0, .int .i64 0] 36)).alloc (Obj.cells #[.int .i64 0, .int .i64 0] 36)) = W0 at *
  clear hW0
  refine wpIn_rangeFunc_ownG rfl (by decide) (gf := 54) (lb := #[.pointer (some ⟨Bf, 0, none⟩), .pointer (some ⟨Bl, 0, none⟩), .pointer (some ⟨Bn, 0, none⟩)]) rfl trivial (enters_of Try.func54 (by kernel_rfl) rfl)
    hseq belowK_t (belowK_b hB0.size) (Below.refl _ _) (fun _ => rfl)
    (fun pre W => ((W.cell? ⟨w.heap.size + 1, 0, none⟩ = some (.int .i64 (sumW pre)) ∧ W.frozen? ⟨w.heap.size + 1, 0, none⟩ = false) ∧ (W.cell? ⟨w.heap.size + 1, 1, none⟩ = some (.int .i64 (pre.length : Int)) ∧ W.frozen? ⟨w.heap.size + 1, 1, none⟩ = false) ∧ (W.cell? ⟨w.heap.size, 0, none⟩ = some (.int .i64 0) ∧ W.frozen? ⟨w.heap.size, 0, none⟩ = false) ∧ (W.cell? ⟨w.heap.size, 1, none⟩ = some (.int .i64 0) ∧ W.frozen? ⟨w.heap.size, 1, none⟩ = false)) ∧ Below w.heap.size w W)
    (fun _ _ _ => False)
    (OwnFrom.and (Own.from (fun s A B row hs hg hr => ⟨⟨cell_kept hs.1.1 hg hr, (frozen_kept hs.1.1 hg hr).trans hs.1.2⟩, ⟨cell_kept hs.2.1.1 hg hr, (frozen_kept hs.2.1.1 hg hr).trans hs.2.1.2⟩, ⟨cell_kept hs.2.2.1.1 hg hr, (frozen_kept hs.2.2.1.1 hg hr).trans hs.2.2.1.2⟩, ⟨cell_kept hs.2.2.2.1 hg hr, (frozen_kept hs.2.2.2.1 hg hr).trans hs.2.2.2.2⟩⟩) _) (ownFrom_below (Nat.le_refl _) (by rw [hz]; omega)))
    (fun _ _ _ _ _ hs _ _ => hs)
    ⟨⟨⟨blkCell q1 0 _ rfl, blkFree q1 0⟩, ⟨blkCell q1 1 _ rfl, blkFree q1 1⟩, ⟨blkCell q0 0 _ rfl, blkFree q0 0⟩, ⟨blkCell q0 1 _ rfl, blkFree q0 1⟩⟩, hB0⟩
    (fun x => { tmps := #[.func (.func 54) #[] #[.pointer (some ⟨Bf, 0, none⟩), .pointer (some ⟨Bl, 0, none⟩), .pointer (some ⟨Bn, 0, none⟩)], undef, .pointer (some ⟨w.heap.size, 0, none⟩), .pointer (some ⟨w.heap.size + 1, 0, none⟩), .int .i64 x, .func (.func 54) #[] #[.pointer (some ⟨Bf, 0, none⟩), .pointer (some ⟨Bl, 0, none⟩), .pointer (some ⟨Bn, 0, none⟩)], .int .i64 x, undef, undef, undef, undef, undef, undef, undef, undef, undef, undef], defers := [] }) ?assign ?body ?done ?stop
  case assign =>
    intro l x W K hK
    gi_wp2
    exact hK
  case body =>
    rintro l pre x W ⟨⟨⟨c0, f0⟩, ⟨c1, f1⟩, ⟨c2, f2⟩, ⟨c3, f3⟩⟩, hB⟩ hpl
    have hw1 : IntKind.i64.wrap ((pre.length : Int) + 1) = (pre.length : Int) + 1 := wrap_id _ (by omega) (by omega)
    have g1 : (W.setCell ⟨w.heap.size + 1, 0, none⟩ (.int .i64 (IntKind.i64.wrap (sumW pre + x)))).cell? ⟨w.heap.size + 1, 1, none⟩ = some (.int .i64 (pre.length : Int)) := by rw [World.cell?_setCell_other _ _ _ _ (by simp)]; exact c1
    have g2 : (W.setCell ⟨w.heap.size + 1, 0, none⟩ (.int .i64 (IntKind.i64.wrap (sumW pre + x)))).frozen? ⟨w.heap.size + 1, 1, none⟩ = false := by rw [World.frozen?_setCell]; exact f1
    gi_wp2
    have hle : w.heap.size ≤ w.heap.size + 1 := Nat.le_succ _
    have e64 : wrap64 (sumW pre + x) = sumW (pre ++ [x]) := (wrap64_i64 _).trans (sumW_snoc pre x).symm
    rw [e64]
    refine ⟨((KeepsOthers.setCell _ _ _).trans (KeepsOthers.setCell _ _ _)).from _, ((Below.refl _ W).setCell (p := ⟨w.heap.size + 1, 0, none⟩) hle _).setCell (p := ⟨w.heap.size + 1, 1, none⟩) hle _, ⟨⟨?_, ?_⟩, ⟨?_, ?_⟩, ⟨?_, ?_⟩, ⟨?_, ?_⟩⟩, (hB.setCell (p := ⟨w.heap.size + 1, 0, none⟩) hle _).setCell (p := ⟨w.heap.size + 1, 1, none⟩) hle _⟩
    · rw [World.cell?_setCell_other _ _ _ _ (by simp)]; exact World.cell?_setCell_same _ _ _ c0
    · rw [World.frozen?_setCell, World.frozen?_setCell]; exact f0
    · rw [World.cell?_setCell_same _ _ _ (by rw [World.cell?_setCell_other _ _ _ _ (by simp)]; exact c1)]
      congr 2
      simp
    · rw [World.frozen?_setCell, World.frozen?_setCell]; exact f1
    · rw [World.cell?_setCell_far _ _ _ _ (by simp), World.cell?_setCell_far _ _ _ _ (by simp)]; exact c2
    · rw [World.frozen?_setCell, World.frozen?_setCell]; exact f2
    · rw [World.cell?_setCell_far _ _ _ _ (by simp), World.cell?_setCell_far _ _ _ _ (by simp)]; exact c3
    · rw [World.frozen?_setCell, World.frozen?_setCell]; exact f3
  case done =>
    rintro D ys W hD ⟨r, rfl, hr1, hr2⟩ ⟨⟨⟨c0, f0⟩, ⟨c1, f1⟩, ⟨c2, f2⟩, ⟨c3, f3⟩⟩, hB⟩ hK
    have HS : Hid (sumW (seQ xs n k r) = smP xs n k xs.length ∧ ((seQ xs n k r).length : Int) = ctP n k xs.length) := by
      obtain ⟨e1, e2⟩ := smP_end xs hk hr1 hr2 hkl
      rw [sumW_seQ hx hk hn hl r hr1, seQ_length, (seQ_sum xs hk r).2, e1, e2]
      exact ⟨rfl, rfl⟩
    rw [HS.out.1] at c0
    rw [HS.out.2] at c1
    clear HS
    obtain ⟨s, hs⟩ : ∃ s, s = smP xs n k xs.length := ⟨_, rfl⟩
    obtain ⟨c, hcc⟩ : ∃ c, c = ctP n k xs.length := ⟨_, rfl⟩
    rw [← hs] at c0
    rw [← hcc] at c1
    have HE : Hid (s = smP xs n k xs.length ∧ c = ctP n k xs.length) := ⟨hs, hcc⟩
    clear hs hcc
    have hDw : D ≠ w.heap.size := by omega
    gi_wp2
    have hK1 := (KeepsOthers.setCell W ⟨w.heap.size, 0, none⟩ (.int .i64 s)).same D _ hK rfl
    have hK2 := (KeepsOthers.setCell (W.setCell ⟨w.heap.size, 0, none⟩ (.int .i64 s)) ⟨w.heap.size, 1, none⟩ (.int .i64 c)).same D _ hK1 rfl
    have x0 : ((W.setCell ⟨w.heap.size, 0, none⟩ (.int .i64 s)).setCell ⟨w.heap.size, 1, none⟩ (.int .i64 c)).cell? ⟨w.heap.size, 0, none⟩ = some (.int .i64 s) := by
      rw [World.cell?_setCell_other _ _ _ _ (by simp)]
      exact World.cell?_setCell_same _ _ _ c2
    have x1 : ((W.setCell ⟨w.heap.size, 0, none⟩ (.int .i64 s)).setCell ⟨w.heap.size, 1, none⟩ (.int .i64 c)).cell? ⟨w.heap.size, 1, none⟩ = some (.int .i64 c) := World.cell?_setCell_same _ _ _ (by rw [World.cell?_setCell_other _ _ _ _ (by simp)]; exact c3)
    refine ⟨by simp, .inl ⟨_, _, rfl, run_takeDeferred hK2, ?_⟩⟩
    have k0 := cell_kept x0 (grownBy_putObj' _ D (.deferred none)) (fun r e => by cases e; exact ⟨_, hK2, rfl⟩)
    have k1 := cell_kept x1 (grownBy_putObj' _ D (.deferred none)) (fun r e => by cases e; exact ⟨_, hK2, rfl⟩)
    refine ⟨.agg #[.int .i64 s, .int .i64 c], ?_, by rw [HE.out.1, HE.out.2], ((hB.setCell (p := ⟨w.heap.size, 0, none⟩) (Nat.le_refl _) _).setCell (p := ⟨w.heap.size, 1, none⟩) (Nat.le_refl _) _).trans (belowK_b (w := w) (Nat.le_refl _) _ D _ _ (by omega) hK2 rfl rfl)⟩
    simp [results, Try.results36, go_sem, k0, k1]
  case stop =>
    rintro D c pre W _ _ h _
    exact h.elim
end Go.Proofs.Ytjdjopikljdigaa

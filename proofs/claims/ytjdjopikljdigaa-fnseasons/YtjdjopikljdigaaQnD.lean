/-
  The program's iterator through the means of the seasons.
-/
import Derived.Test.YtjdjopikljdigaaQnC
namespace Go.Proofs.Ytjdjopikljdigaa
open Go.ChangeShapes Go.WideShapes Go.ChangeAt Go.RowKit Go.Joins Go.Deep Go.Shelf
set_option linter.unusedVariables false
attribute [local go_sem] Oper.semAt_some

/-- A mean that a loop may be handed: its sum and how many there are, within bounds. -/
def MtOK (x : Int × Int) : Prop := (0 ≤ x.1 ∧ x.1 ≤ 500000000) ∧ 1 ≤ x.2 ∧ x.2 ≤ 5000
abbrev MT : Type := { x : Int × Int // MtOK x }
instance (x : Int × Int) : Decidable (MtOK x) := by unfold MtOK; infer_instance
def seMt (xs : List Int) (n k : Nat) : MT := if h : MtOK (seM xs n k) then ⟨seM xs n k, h⟩ else ⟨(0, 1), by unfold MtOK; omega⟩
theorem seMt_is {xs : List Int} {n k : Nat} (hk : k < n) (hnl : n ≤ xs.length) (hl : xs.length ≤ 4096) (hx : ∀ i, 0 ≤ xs.getD i 0 ∧ xs.getD i 0 ≤ 100000) : (seMt xs n k).1 = seM xs n k := by
  have a := smP_bound (n := n) (k := k) hx xs.length
  have b := ctP_bound (n := n) (k := k) xs.length
  have c := ctP_pos hk hnl
  have h : MtOK (seM xs n k) := by
    unfold MtOK seM
    dsimp only
    omega
  unfold seMt
  rw [dif_pos h]
def seMs (xs : List Int) (n m : Nat) : List MT := (List.range m).map (seMt xs n)
theorem seMs_next (xs : List Int) (n m : Nat) : seMs xs n (m + 1) = seMs xs n m ++ [seMt xs n m] := by simp [seMs, List.range_succ]
theorem seMs_length (xs : List Int) (n m : Nat) : (seMs xs n m).length = m := by simp [seMs]
theorem grown_below {w w' : World} (h : Below w.heap.size w w') : w.grownBy w' none := ⟨h.os, h.tape, h.output, h.size, fun k hk _ => h.block k hk⟩
theorem seasonMeans_any (a : Option Addr) (len cap : Nat) (n : Int) (w : World) :
    Calls Try.prog 38 #[.slice a len cap, .int .i64 n] w fun e w' => e = .returned (.func (.func 55) #[] #[.pointer (some ⟨w.heap.size + 1, 0, none⟩), .pointer (some ⟨w.heap.size, 0, none⟩)]) ∧
      w' = (w.alloc (Obj.cells #[.slice a len cap] 23)).alloc (Obj.cells #[.int .i64 n] 3) := by
  go_enter Try.func38, Try.ntmps38
  go_wp2
  go_ret
  exact ⟨rfl, rfl⟩
/-- season and meanOf in turn. -/
theorem mean_any (b off cap : Nat) (xs : List Int) (n k : Nat) (hk : k < n) (hn : n ≤ 60) (hl : xs.length ≤ 4096) (hkl : k < xs.length) (hx : ∀ i, 0 ≤ xs.getD i 0 ∧ xs.getD i 0 ≤ 100000) (w : World) (hb : b < w.heap.size) (hc : ∀ j, j < xs.length → w.cell? ⟨b, off + j, none⟩ = some (.int .i64 (xs.getD j 0)))
    (w1 : World) (hw1 : w1 = ((w.alloc (Obj.cells #[.slice (some ⟨b, off, none⟩) xs.length cap] 23)).alloc (Obj.cells #[.int .i64 (k : Int)] 3)).alloc (Obj.cells #[.int .i64 (n : Int)] 3)) :
    Calls Try.prog 36 #[.func (.func 54) #[] #[.pointer (some ⟨w.heap.size + 1, 0, none⟩), .pointer (some ⟨w.heap.size, 0, none⟩), .pointer (some ⟨w.heap.size + 1 + 1, 0, none⟩)]] w1 fun e w' => e = .returned (.agg #[.int .i64 (seM xs n k).1, .int .i64 (seM xs n k).2]) ∧ Below w.heap.size w w' := by
  have hB : Below w.heap.size w w1 := by rw [hw1]; exact chain (chain (below_alloc _ _) (below_alloc _ _)) (below_alloc _ _)
  have hz : w1.heap.size = w.heap.size + 1 + 1 + 1 := by rw [hw1]; simp
  have q0 : w1.heap[w.heap.size]? = some (.cells #[.slice (some ⟨b, off, none⟩) xs.length cap] 23 (0, 0)) := by
    rw [hw1, Below.heap_alloc _ _ _ (by simp; omega), Below.heap_alloc _ _ _ (by simp)]; exact heapNew _ _
  have q1 : w1.heap[w.heap.size + 1]? = some (.cells #[.int .i64 (k : Int)] 3 (0, 0)) := by
    rw [hw1, Below.heap_alloc _ _ _ (by simp)]
    have := heapNew (w.alloc (Obj.cells #[.slice (some ⟨b, off, none⟩) xs.length cap] 23)) (Obj.cells #[.int .i64 (k : Int)] 3)
    rwa [World.size_alloc] at this
  have q2 : w1.heap[w.heap.size + 1 + 1]? = some (.cells #[.int .i64 (n : Int)] 3 (0, 0)) := by
    rw [hw1]
    have := heapNew ((w.alloc (Obj.cells #[.slice (some ⟨b, off, none⟩) xs.length cap] 23)).alloc (Obj.cells #[.int .i64 (k : Int)] 3)) (Obj.cells #[.int .i64 (n : Int)] 3)
    rwa [World.size_alloc, World.size_alloc] at this
  refine (meanOf_any (w.heap.size + 1) w.heap.size (w.heap.size + 1 + 1) b off cap xs n k hk hn hl hkl hx w1 (by omega) (by omega) (by omega) (by omega) (blkCell q1 0 _ rfl) (blkCell q0 0 _ rfl) (blkCell q2 0 _ rfl) (fun j hj => (hB.cell (p := ⟨b, off + j, none⟩) hb).trans (hc j hj))).mono ?_
  rintro e w' ⟨he, hb2⟩
  exact ⟨he, chain hB hb2⟩
set_option maxRecDepth 100000 in
set_option maxHeartbeats 8000000 in
theorem means1_in (m : Nat) (l Bn Bl n₀ b off cap : Nat) (xs : List Int) (n : Nat) (hn1 : 1 ≤ n) (hn : n ≤ 60) (hl : xs.length ≤ 4096) (hnl : n ≤ xs.length) (hx : ∀ i, 0 ≤ xs.getD i 0 ∧ xs.getD i 0 ≤ 100000) (hb : b < n₀) (J Jx : List MT → World → Prop) (W : World) (hJ : AbidesFrom W.heap.size J)
    (hY : ∀ pre x W, J pre W → pre.length < n → YieldAt Fence.wide (m - 1) Try.prog l #[.agg #[.int .i64 x.1.1, .int .i64 x.1.2]] W fun e W' =>
      (e = .returned (.bool true) ∧ J (pre ++ [x]) W' ∧ Kp3 n₀ Bn Bl Bl W W') ∨ (e = .returned (.bool false) ∧ Jx (pre ++ [x]) W'))
    (h0 : n₀ ≤ W.heap.size) (hBn : W.heap[Bn]? = some (.cells #[.int .i64 (n : Int)] 3 (0, 0))) (hBl : W.heap[Bl]? = some (.cells #[.slice (some ⟨b, off, none⟩) xs.length cap] 23 (0, 0)))
    (hc : ∀ j, j < xs.length → W.cell? ⟨b, off + j, none⟩ = some (.int .i64 (xs.getD j 0))) (hJ0 : J [] W) :
    CallsIn Fence.wide m Try.prog 55 #[.func (.yield l) #[] #[], .pointer (some ⟨Bn, 0, none⟩), .pointer (some ⟨Bl, 0, none⟩)] W fun e W' => (∃ v, e = .returned v) ∧
      ((∃ ys, ys = seMs xs n n ∧ J ys W') ∨ (∃ pre, (∃ r, r ≤ n ∧ pre = seMs xs n r) ∧ Jx pre W')) := by
  have HY : Hid (∀ pre x W, J pre W → pre.length < n → YieldAt Fence.wide (m - 1) Try.prog l #[.agg #[.int .i64 x.1.1, .int .i64 x.1.2]] W fun e W' =>
      (e = .returned (.bool true) ∧ J (pre ++ [x]) W' ∧ Kp3 n₀ Bn Bl Bl W W') ∨ (e = .returned (.bool false) ∧ Jx (pre ++ [x]) W')) := hY
  have HC : Hid (∀ wr, Kp3 n₀ Bn Bl Bl W wr → wr.cell? ⟨Bn, 0, none⟩ = some (.int .i64 (n : Int)) ∧ wr.cell? ⟨Bl, 0, none⟩ = some (.slice (some ⟨b, off, none⟩) xs.length cap) ∧ ∀ j, j < xs.length → wr.cell? ⟨b, off + j, none⟩ = some (.int .i64 (xs.getD j 0))) := fun wr hw =>
    ⟨blkCell (hw.2.1.trans hBn) 0 _ rfl, blkCell (hw.2.2.1.trans hBl) 0 _ rfl, fun j hj => (hw.1.cell (p := ⟨b, off + j, none⟩) hb).trans (hc j hj)⟩
  have HJ : Hid (AbidesFrom W.heap.size J) := hJ
  have hBn1 := blkLt hBn
  have hBl1 := blkLt hBl
  obtain ⟨d1, d2, d3⟩ := HC.out W (Kp3.refl _ _ _ _ _)
  clear hY hBn hBl hc hJ d3
  refine callsIn_of_wp Try.func55 rfl trivial ?_ rfl
  simp only [Try.ntmps55, List.size_toArray, List.length_cons, List.length_nil, Nat.reduceAdd, Nat.reduceSub, Array.replicate_succ, Array.replicate_zero, List.push_toArray, List.append_toArray, List.nil_append, List.cons_append]
  gi_wp2
  clear d1 d2
  gi_loopw [4, 6] (fun _ i wr => ∃ k : Nat, k ≤ n ∧ i = .int .i64 (k : Int) ∧ J (seMs xs n k) wr ∧ Kp3 n₀ Bn Bl Bl W wr)
    (fun _ i _ => n - (intOf i).toNat)
  case atStart => exact ⟨0, Nat.zero_le _, rfl, hJ0, Kp3.refl _ _ _ _ _⟩
  case round =>
    clear hJ0
    obtain ⟨k, hk, rfl, hJs, hnx⟩ := hrel
    have HK : Hid (Kp3 n₀ Bn Bl Bl W wr) := hnx
    have HJs : Hid (J (seMs xs n k) wr) := hJs
    clear hnx hJs
    by_cases hlt : k < n
    · have hlt' : (k : Int) < (n : Int) := by omega
      obtain ⟨e1, e2, e3⟩ := HC.out wr HK.out
      have hbw : b < wr.heap.size := by have := HK.out.1.size; omega
      have hmean := fun w1 hw1 => mean_any b off cap xs n k hlt hn hl (by omega) hx wr hbw e3 w1 hw1
      rw [← seMt_is hlt hnl hl hx] at hmean
      have HM : Hid (∀ w1, w1 = ((wr.alloc (Obj.cells #[.slice (some ⟨b, off, none⟩) xs.length cap] 23)).alloc (Obj.cells #[.int .i64 (k : Int)] 3)).alloc (Obj.cells #[.int .i64 (n : Int)] 3) → Calls Try.prog 36 #[.func (.func 54) #[] #[.pointer (some ⟨wr.heap.size + 1, 0, none⟩), .pointer (some ⟨wr.heap.size, 0, none⟩), .pointer (some ⟨wr.heap.size + 1 + 1, 0, none⟩)]] w1 fun e w' => e = .returned (.agg #[.int .i64 (seMt xs n k).1.1, .int .i64 (seMt xs n k).1.2]) ∧ Below wr.heap.size wr w') := hmean
      clear e3 hmean
      have HN : Hid (seMs xs n k ++ [seMt xs n k] = seMs xs n (k + 1)) := (seMs_next xs n k).symm
      have HLn : Hid ((seMs xs n k).length < n) := by show _ < _; rw [seMs_length]; exact hlt
      gi_wp2_with fail
      refine ⟨trivial, (fun q => by cases q), (callsIn_wide.2 (season_any _ _ _ _ _ _)).mono ?_⟩
      rintro e w1 ⟨rfl, hw1⟩
      have HM1 := HM.out w1 hw1
      clear HM hw1 e1 e2
      gi_wp2_with fail
      refine ⟨trivial, (fun q => by cases q), (callsIn_wide.2 HM1).mono ?_⟩
      rintro e w2 ⟨rfl, hb2⟩
      have hJ2 : J (seMs xs n k) w2 := HJ.out _ wr w2 none HJs.out (grown_below hb2) (fun r e => by cases e)
      have HK2 : Hid (Kp3 n₀ Bn Bl Bl W w2) := by
        have h1 := HK.out.1.size
        exact HK.out.trans ⟨hb2.mono (by omega), hb2.block _ (by omega), hb2.block _ (by omega), hb2.block _ (by omega)⟩
      obtain ⟨fn, tmps, assign, body, hy, hR⟩ := HY.out _ (seMt xs n k) w2 hJ2 HLn.out
      clear HM1 hb2 hJ2 HJs HK HLn
      generalize seMt xs n k = x at *
      obtain ⟨⟨x1, x2⟩, hxx⟩ := x
      dsimp only at hy ⊢
      gi_wp2
      refine ⟨(fun q => by cases q), hR.mono ?_⟩
      rintro e W3 (⟨rfl, hJ3, hk3⟩ | ⟨rfl, hJx3⟩)
      · have HK3 : Hid (Kp3 n₀ Bn Bl Bl W W3) := HK2.out.trans hk3
        obtain ⟨g1, g2, g3⟩ := HC.out W3 HK3.out
        clear g3
        gi_wp2
        go_roundw
        case rel => exact ⟨k + 1, by omega, by go_num, by rw [← HN.out]; exact hJ3, HK3.out⟩
        case measure => simp [intOf]; omega
      · gi_wp2
        refine bodyPost_ret (results_none rfl _ _ _) rfl ?_
        exact ⟨⟨_, rfl⟩, .inr ⟨_, ⟨k + 1, by omega, HN.out⟩, hJx3⟩⟩
    · have hlt' : ¬ (k : Int) < (n : Int) := by omega
      obtain rfl : k = n := by omega
      gi_wp2
      go_end0
      exact ⟨⟨_, rfl⟩, .inl HJs.out⟩
theorem means1_stops (m : Nat) (Bn Bl n₀ b off cap : Nat) (xs : List Int) (n : Nat) (hn1 : 1 ≤ n) (hn : n ≤ 60) (hl : xs.length ≤ 4096) (hnl : n ≤ xs.length) (hx : ∀ i, 0 ≤ xs.getD i 0 ∧ xs.getD i 0 ≤ 100000) (hb : b < n₀) (w : World)
    (h0 : n₀ ≤ w.heap.size) (hBn : w.heap[Bn]? = some (.cells #[.int .i64 (n : Int)] 3 (0, 0))) (hBl : w.heap[Bl]? = some (.cells #[.slice (some ⟨b, off, none⟩) xs.length cap] 23 (0, 0)))
    (hc : ∀ j, j < xs.length → w.cell? ⟨b, off + j, none⟩ = some (.int .i64 (xs.getD j 0))) :
    SeqStopsK Fence.wide m Try.prog 55 #[.pointer (some ⟨Bn, 0, none⟩), .pointer (some ⟨Bl, 0, none⟩)] (fun x : MT => #[Value.agg #[.int .i64 x.1.1, .int .i64 x.1.2]]) (Kp3 n₀ Bn Bl Bl)
      (fun ys => ys = seMs xs n n) (fun pre => ∃ r, r ≤ n ∧ pre = seMs xs n r) n w := fun l J Jx W hW hJ _ hY hJ0 =>
  means1_in m l Bn Bl n₀ b off cap xs n hn1 hn hl hnl hx hb J Jx W hJ hY (Nat.le_trans h0 hW.size) ((hW.block Bn (blkLt hBn)).trans hBn) ((hW.block Bl (blkLt hBl)).trans hBl) (fun j hj => (hW.cell (p := ⟨b, off + j, none⟩) (Nat.lt_of_lt_of_le hb h0)).trans (hc j hj)) hJ0
end Go.Proofs.Ytjdjopikljdigaa

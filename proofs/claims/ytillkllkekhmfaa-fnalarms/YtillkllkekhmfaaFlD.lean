/-
  The numbers of a trace that are there, with their places; the program's iterator through them.
-/
import Derived.Test.YtillkllkekhmfaaFlC
import Derived.Test.YtillkllkekhmfaaRowG
import Derived.Test.YtillkllkekhmfaaRegR
import Derived.Shelf.Abstract
import Derived.Shelf.RegionOpen
import Derived.WalkKit
import Derived.LoopNIn
import Derived.LoopIn
namespace Go.Proofs.Ytillkllkekhmfaa
open Go.ChangeShapes Go.WideShapes Go.ChangeAt Go.RowKit Go.Joins Go.Deep Go.Shelf
set_option linter.unusedVariables false
attribute [local go_sem] Oper.semAt_some

/-- A place and a number that is there, as a trace may hold them. -/
def ThOK (x : Nat × Nat) : Prop := x.1 < 4096 ∧ dgF x.2 = true
abbrev TH : Type := { x : Nat × Nat // ThOK x }
instance (x : Nat × Nat) : Decidable (ThOK x) := by unfold ThOK; infer_instance
/-- Those among the first k places. -/
def thT (xs : List Nat) : Nat → List TH
  | 0 => []
  | k + 1 => if h : ThOK (k, xs.getD k 0) then thT xs k ++ [⟨(k, xs.getD k 0), h⟩] else thT xs k
theorem thT_len (xs : List Nat) : ∀ k, (thT xs k).length ≤ k
  | 0 => Nat.le_refl _
  | k + 1 => by
    have := thT_len xs k
    unfold thT
    split
    · rw [List.length_append]; simp; omega
    · omega
theorem thT_next {xs : List Nat} {k : Nat} (h : ThOK (k, xs.getD k 0)) : thT xs (k + 1) = thT xs k ++ [⟨(k, xs.getD k 0), h⟩] := by
  show (if h : ThOK (k, xs.getD k 0) then thT xs k ++ [⟨(k, xs.getD k 0), h⟩] else thT xs k) = _
  rw [dif_pos h]
theorem thT_skip {xs : List Nat} {k : Nat} (h : msF (xs.getD k 0) = true) : thT xs (k + 1) = thT xs k := by
  show (if h : ThOK (k, xs.getD k 0) then thT xs k ++ [⟨(k, xs.getD k 0), h⟩] else thT xs k) = _
  refine dif_neg (fun e => ?_)
  have := in_there e.2
  rw [h] at this
  cases this
/-- What a round keeps: all that lay below, and a box. -/
def Kp1 (n₀ B1 : Nat) (W W' : World) : Prop := Below n₀ W W' ∧ W'.heap[B1]? = W.heap[B1]?
theorem Kp1.trans {n₀ B1 : Nat} {A B C : World} (h : Kp1 n₀ B1 A B) (k : Kp1 n₀ B1 B C) : Kp1 n₀ B1 A C := ⟨h.1.trans k.1, k.2.trans h.2⟩
theorem Kp1.refl (n₀ B1 : Nat) (W : World) : Kp1 n₀ B1 W W := ⟨Below.refl _ _, rfl⟩
theorem Kp1.put {n₀ B1 L : Nat} (h0 : n₀ ≤ L) (h1 : B1 < L) : ∀ (W : World) (l : Nat) (o o' : Obj), L ≤ l → W.heap[l]? = some o → o.isCells = false → o.isWalk = false → Kp1 n₀ B1 W (W.putObj l o') := fun W l o o' hl ho hc hw =>
  ⟨(Below.refl n₀ W).grown (grownBy_putObj' W l o') (by have := (Array.getElem?_eq_some_iff.1 ho).1; omega) (fun k e => by cases e; omega), World.putObj_heap_other (by omega)⟩
theorem grown_below {w w' : World} (h : Below w.heap.size w w') : w.grownBy w' none := ⟨h.os, h.tape, h.output, h.size, fun k hk _ => h.block k hk⟩
theorem isNaN_eq (x : Nat) (w : World) : Calls Try.prog 55 #[.float .f64 x] w fun e w' => e = .returned (.bool (msF x)) ∧ w' = w := by
  have h1 := o_ms x
  generalize msF x = b at *
  go_enter Try.func55, Try.ntmps55
  go_wp2
  go_ret
  exact ⟨rfl, rfl⟩
theorem thereF_any (a : Option Addr) (len cap : Nat) (w : World) :
    Calls Try.prog 34 #[.slice a len cap] w fun e w' => e = .returned (.func (.func 54) #[] #[.pointer (some ⟨w.heap.size, 0, none⟩)]) ∧
      w' = w.alloc (Obj.cells #[.slice a len cap] 23) := by
  go_enter Try.func34, Try.ntmps34
  go_wp2
  go_ret
  exact ⟨rfl, rfl⟩
set_option maxRecDepth 100000 in
set_option maxHeartbeats 4000000 in
theorem there1_in (m : Nat) (l Bl n₀ : Nat) (a : Option Addr) (cap : Nat) (xs : List Nat) (hl : xs.length ≤ 4096) (hok : oksF xs = true) (J Jx : List TH → World → Prop)
    (hY : ∀ pre x W, J pre W → pre.length < xs.length → YieldAt Fence.wide (m - 1) Try.prog l #[.int .i64 (x.1.1 : Int), .float .f64 x.1.2] W fun e W' =>
      (e = .returned (.bool true) ∧ J (pre ++ [x]) W' ∧ Kp1 n₀ Bl W W') ∨ (e = .returned (.bool false) ∧ Jx (pre ++ [x]) W'))
    (W : World) (hBl : W.heap[Bl]? = some (.cells #[.slice a xs.length cap] 23 (0, 0)))
    (hc : ReadsF n₀ W a xs) (h0 : J [] W) :
    CallsIn Fence.wide m Try.prog 54 #[.func (.yield l) #[] #[], .pointer (some ⟨Bl, 0, none⟩)] W fun e W' => (∃ v, e = .returned v) ∧
      ((∃ ys, ys = thT xs xs.length ∧ J ys W') ∨ (∃ pre, (∃ k, k ≤ xs.length ∧ pre = thT xs k) ∧ Jx pre W')) := by
  have HY : Hid (∀ pre x W, J pre W → pre.length < xs.length → YieldAt Fence.wide (m - 1) Try.prog l #[.int .i64 (x.1.1 : Int), .float .f64 x.1.2] W fun e W' =>
      (e = .returned (.bool true) ∧ J (pre ++ [x]) W' ∧ Kp1 n₀ Bl W W') ∨ (e = .returned (.bool false) ∧ Jx (pre ++ [x]) W')) := hY
  have HC : Hid (ReadsF n₀ W a xs) := hc
  have q0 := blkCell hBl 0 _ rfl
  simp only [List.getElem_toArray, List.getElem_cons_zero] at q0
  clear hY hBl hc
  refine callsIn_of_wp Try.func54 rfl trivial ?_ rfl
  simp only [Try.ntmps54, List.size_toArray, List.length_cons, List.length_nil, Nat.reduceAdd, Nat.reduceSub, Array.replicate_succ, Array.replicate_zero, List.push_toArray, List.append_toArray, List.nil_append, List.cons_append]
  gi_wp2
  clear q0
  gi_loopw [3, 4, 7] (fun _ _ i wr => ∃ (k : Nat), k ≤ xs.length ∧ i = .int .i64 (k : Int) ∧ J (thT xs k) wr ∧ Below n₀ W wr)
    (fun _ _ i _ => xs.length - (intOf i).toNat)
  case atStart => exact ⟨0, by omega, rfl, h0, Below.refl _ _⟩
  case round =>
    clear h0
    obtain ⟨k, hk, rfl, hJs, hnx⟩ := hrel
    have HB : Hid (Below n₀ W wr) := hnx
    have HJ : Hid (J (thT xs k) wr) := hJs
    clear hnx hJs
    by_cases hlt : k < xs.length
    · have hlt' : (k : Int) < (xs.length : Int) := by omega
      rcases HC.out with h | ⟨b0, o0, ha, hB0, ia⟩
      · rw [h] at hlt; simp at hlt
      have c0 := (ia.below HB.out hB0) k hlt
      have hN := isNaN_eq (xs.getD k 0) wr
      have hD := oks_get hok hlt
      rw [ha]
      clear ia
      unfold okF at hD
      cases hms : msF (xs.getD k 0) with
      | true =>
        have HN : Hid (thT xs (k + 1) = thT xs k) := thT_skip hms
        rw [hms] at hN
        clear hD hms
        generalize xs.getD k 0 = x at *
        gi_wp2_with fail
        refine ⟨trivial, (fun q => by cases q), (callsIn_wide.2 hN).mono ?_⟩
        rintro e w1 ⟨rfl, rfl⟩
        gi_wp2
        refine ⟨(fun f hf => by cases hf), ?_⟩
        gi_wp2
        go_roundw
        case rel => exact ⟨k + 1, by omega, by go_num, by rw [HN.out]; exact HJ.out, HB.out⟩
        case measure => simp [intOf]; omega
      | false =>
        rw [hms, Bool.false_or] at hD
        have hok1 : ThOK (k, xs.getD k 0) := ⟨by show k < 4096; omega, hD⟩
        have HN : Hid (thT xs k ++ [⟨(k, xs.getD k 0), hok1⟩] = thT xs (k + 1)) := (thT_next hok1).symm
        have HLn : Hid ((thT xs k).length < xs.length) := by show _ < _; have := thT_len xs k; omega
        obtain ⟨fn, tmps, assign, body, hy, hR⟩ := HY.out _ ⟨(k, xs.getD k 0), hok1⟩ wr HJ.out HLn.out
        rw [hms] at hN
        clear hD hms
        dsimp only at hy
        generalize xs.getD k 0 = x at *
        gi_wp2_with fail
        refine ⟨trivial, (fun q => by cases q), (callsIn_wide.2 hN).mono ?_⟩
        rintro e w1 ⟨rfl, rfl⟩
        gi_wp2
        refine ⟨(fun q => by cases q), hR.mono ?_⟩
        rintro e W3 (⟨rfl, hJ3, hk3⟩ | ⟨rfl, hJx3⟩)
        · gi_wp2
          go_roundw
          case rel => exact ⟨k + 1, by omega, by go_num, by rw [← HN.out]; exact hJ3, HB.out.trans hk3.1⟩
          case measure => simp [intOf]; omega
        · gi_wp2
          refine bodyPost_ret (results_none rfl _ _ _) rfl ?_
          exact ⟨⟨_, rfl⟩, .inr ⟨_, ⟨k + 1, by omega, HN.out⟩, hJx3⟩⟩
    · have hlt' : ¬ (k : Int) < (xs.length : Int) := by omega
      obtain rfl : k = xs.length := by omega
      gi_wp2
      go_end0
      exact ⟨⟨_, rfl⟩, .inl HJ.out⟩
theorem there1_stops (m : Nat) (Bl n₀ : Nat) (a : Option Addr) (cap : Nat) (xs : List Nat) (hl : xs.length ≤ 4096) (hok : oksF xs = true) (w : World) (h0 : n₀ ≤ w.heap.size)
    (hBl : w.heap[Bl]? = some (.cells #[.slice a xs.length cap] 23 (0, 0))) (hc : ReadsF n₀ w a xs) :
    SeqStopsK Fence.wide m Try.prog 54 #[.pointer (some ⟨Bl, 0, none⟩)] (fun x : TH => #[Value.int .i64 (x.1.1 : Int), .float .f64 x.1.2]) (Kp1 n₀ Bl)
      (fun ys => ys = thT xs xs.length) (fun pre => ∃ k, k ≤ xs.length ∧ pre = thT xs k) xs.length w := fun l J Jx W hW _ _ hY hJ0 =>
  there1_in m l Bl n₀ a cap xs hl hok J Jx hY W ((hW.block Bl (blkLt hBl)).trans hBl) (hc.below (⟨hW.os, hW.tape, hW.output, hW.size, fun k hk => hW.block k (Nat.lt_of_lt_of_le hk h0)⟩)) hJ0
end Go.Proofs.Ytillkllkekhmfaa

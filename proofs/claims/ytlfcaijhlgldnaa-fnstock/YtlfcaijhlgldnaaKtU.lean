/-
  The laws' own units and balanced.
-/
import Derived.Test.YtlfcaijhlgldnaaKtM
import Derived.Test.YtlfcaijhlgldnaaKsA
import Derived.BigQuiet
namespace Go.Proofs.Ytlfcaijhlgldnaa
open Go.ChangeShapes Go.WideShapes Go.ChangeAt Go.RowKit Go.Deep
set_option linter.unusedVariables false

set_option maxHeartbeats 8000000 in
theorem units_any {B : Nat} (a : Option Addr) (c : Nat) (L : List RSl) (hl : L.length ≤ 1000) (ar : ByteArray) (lt nu un : Int) (hd : Bool) (w : World) (hr : w.ownsRow B 38 5 (.slice a L.length c) L.length (slCells L)) :
    Calls Try.prog 9 #[.slice a L.length c, .agg #[.string ar, .int .i64 lt, .int .i64 nu, .int .i64 un, .bool hd]] w fun e w' => e = .returned (.int .i64 (fU L ar lt)) ∧ Below w.heap.size w w' := by
  have HR : Hid (w.ownsRow B 38 5 (.slice a L.length c) L.length (slCells L)) := hr
  obtain ⟨W1, hW1⟩ : ∃ W1, W1 = w.alloc (Obj.cells #[.string ar, .int .i64 lt, .int .i64 nu, .int .i64 un, .bool hd] 38) := ⟨_, rfl⟩
  have H1 : Hid (Below w.heap.size w W1 ∧ W1.heap[w.heap.size]? = some (.cells #[.string ar, .int .i64 lt, .int .i64 nu, .int .i64 un, .bool hd] 38 (0, 0))) := by rw [hW1]; exact ⟨below_alloc _ _, heapNew _ _⟩
  clear hr
  go_enter Try.func9, Try.ntmps9
  go_wp2
  rw [← hW1]
  clear hW1
  go_loopw [5] (fun x wr => ∃ k : Nat, k ≤ L.length ∧ x = .int .i64 (k : Int) ∧ (∀ j, j < k → keyB ar lt (gl L j) = false) ∧ Below w.heap.size w wr ∧ wr.heap[w.heap.size]? = some (.cells #[.string ar, .int .i64 lt, .int .i64 nu, .int .i64 un, .bool hd] 38 (0, 0))) (fun x _ => L.length - (intOf x).toNat)
  case atStart => exact ⟨0, Nat.zero_le _, rfl, fun j hj => by omega, H1.out⟩
  case round =>
    obtain ⟨k, hk, rfl, hno, hb, hz⟩ := hrel
    have HNo : Hid (∀ j, j < k → keyB ar lt (gl L j) = false) := hno
    have HS : Hid (∀ n, Below w.heap.size w (wr.drewN n) ∧ (wr.drewN n).heap[w.heap.size]? = some (.cells #[.string ar, .int .i64 lt, .int .i64 nu, .int .i64 un, .bool hd] 38 (0, 0))) := fun n => ⟨below_drewN hb _, hz⟩
    have HB : Hid (Below w.heap.size w wr) := hb
    have s0 := blkCell hz 0 _ rfl
    have s1 := blkCell hz 1 _ rfl
    clear hno H1 hz hb
    by_cases hlt : k < L.length
    · have hlt' : (k : Int) < (L.length : Int) := by omega
      have hrow := row_of (w' := wr) HR.out (fun q hq => HB.out.block q (row_lt HR.out q hq).2)
      obtain ⟨g, cp, hq⟩ := row_some hrow (by omega)
      simp only [Value.slice.injEq, true_and] at hq
      obtain ⟨rfl, rfl⟩ := hq
      obtain ⟨q0, q1, q2, q3, q4⟩ := row_sl hrow hlt
      have HAt : Hid (keyB ar lt (gl L k) = true → fU L ar lt = (gl L k).nu) := fun h => by unfold fU; rw [fd_at hlt HNo.out h]
      have HNx : Hid (keyB ar lt (gl L k) = false → ∀ j, j < k + 1 → keyB ar lt (gl L j) = false) := fun h j hj => by
        rcases Nat.lt_or_ge j k with q | q
        · exact HNo.out j q
        · obtain rfl : j = k := by omega
          exact h
      have HKb : Hid (keyB ar lt (gl L k) = (((gl L k).ar.toList == ar.toList) && ((gl L k).lt == lt))) := rfl
      clear HNo q3 q4 hrow
      generalize keyB ar lt (gl L k) = kb at *
      generalize gl L k = r at *
      obtain ⟨a0, a1, a2, a3, a4⟩ := r
      dsimp only at q0 q1 q2 HKb HAt
      cases e1 : (a0.toList == ar.toList) with
      | false =>
        have HN2 : Hid (∀ j, j < k + 1 → keyB ar lt (gl L j) = false) := HNx.out (by rw [HKb.out, e1]; rfl)
        clear HAt HNx HKb
        go_wp2_with fail
        go_quiet (fail)
        go_wp2
        go_roundw
        case rel => exact ⟨k + 1, by omega, by go_num, HN2.out, HS.out _⟩
        case measure => simp [intOf]; omega
      | true =>
        cases e2 : (a1 == lt) with
        | false =>
          have HN2 : Hid (∀ j, j < k + 1 → keyB ar lt (gl L j) = false) := HNx.out (by rw [HKb.out, e1, e2]; rfl)
          clear HAt HNx HKb
          go_wp2_with fail
          go_quiet (fail)
          go_wp2
          go_roundw
          case rel => exact ⟨k + 1, by omega, by go_num, HN2.out, HS.out _⟩
          case measure => simp [intOf]; omega
        | true =>
          have HF : Hid (fU L ar lt = a2) := HAt.out (by rw [HKb.out, e1, e2]; rfl)
          clear HAt HNx HKb
          go_wp2_with fail
          go_quiet (fail)
          go_wp2
          go_ret
          exact ⟨by rw [HF.out]; rfl, (HS.out _).1⟩
    · obtain rfl : k = L.length := by omega
      have HF : Hid (fU L ar lt = 0) := by show _ = _; unfold fU; rw [fd_none HNo.out]
      clear HNo
      go_wp2
      go_ret
      exact ⟨by rw [HF.out]; rfl, HB.out⟩
set_option maxHeartbeats 8000000 in
theorem balanced_any {B : Nat} (σ : StS) (a : Option Addr) (c ix : Nat) (hix : ix ≤ 1000) (hok : StOK ix σ) (w : World) (hr : w.ownsRow B 38 5 (.slice a σ.L.length c) σ.L.length (slCells σ.L)) :
    Calls Try.prog 8 #[.agg #[.int .i64 σ.day, .int .i64 σ.rc, .int .i64 σ.sd, .int .i64 σ.wa, .int .i64 σ.sh, .slice a σ.L.length c]] w fun e w' => e = .returned (.bool true) ∧ Below w.heap.size w w' := by
  have HR : Hid (w.ownsRow B 38 5 (.slice a σ.L.length c) σ.L.length (slCells σ.L)) := hr
  have HN : Hid (∀ r ∈ σ.L, SlN r) := hok.good
  have hbal := hok.bal
  have htop := hok.top
  have hs0 := hok.s0
  have hw0 := hok.w0
  have hh0 := hok.h0
  have hu0 := hok.rc0.1
  have hlen := hok.len
  have HBal : Hid (σ.sd + σ.wa + σ.sh + uN allB σ.L = σ.rc) := by show _ = _; omega
  have w1 : IntKind.i64.wrap (σ.sd + σ.wa) = σ.sd + σ.wa := wrap_id _ (by omega) (by omega)
  have w2 : IntKind.i64.wrap (σ.sd + σ.wa + σ.sh) = σ.sd + σ.wa + σ.sh := wrap_id _ (by omega) (by omega)
  have hlo : 0 ≤ σ.sd + σ.wa + σ.sh := by omega
  have hhi : σ.sd + σ.wa + σ.sh ≤ 100000000 := by omega
  obtain ⟨W1, hW1⟩ : ∃ W1, W1 = w.alloc (Obj.cells #[.int .i64 σ.day, .int .i64 σ.rc, .int .i64 σ.sd, .int .i64 σ.wa, .int .i64 σ.sh, .slice a σ.L.length c] 29) := ⟨_, rfl⟩
  have H1 : Hid (Below w.heap.size w W1 ∧ W1.heap[w.heap.size]? = some (.cells #[.int .i64 σ.day, .int .i64 σ.rc, .int .i64 σ.sd, .int .i64 σ.wa, .int .i64 σ.sh, .slice a σ.L.length c] 29 (0, 0))) := by rw [hW1]; exact ⟨below_alloc _ _, heapNew _ _⟩
  clear hr hok hbal htop hu0
  go_enter Try.func8, Try.ntmps8
  go_wp2
  rw [← hW1]
  clear hW1 w1 w2
  go_loopw [3, 4] (fun s x wr => ∃ k : Nat, k ≤ σ.L.length ∧ x = .int .i64 (k : Int) ∧ s = .int .i64 (σ.sd + σ.wa + σ.sh + uN allB (σ.L.take k)) ∧ Below w.heap.size w wr ∧ wr.heap[w.heap.size]? = some (.cells #[.int .i64 σ.day, .int .i64 σ.rc, .int .i64 σ.sd, .int .i64 σ.wa, .int .i64 σ.sh, .slice a σ.L.length c] 29 (0, 0))) (fun _ x _ => σ.L.length - (intOf x).toNat)
  case atStart => exact ⟨0, Nat.zero_le _, rfl, by simp [uN], H1.out⟩
  case round =>
    obtain ⟨k, hk, rfl, rfl, hb, hz⟩ := hrel
    have HS : Hid (Below w.heap.size w wr ∧ wr.heap[w.heap.size]? = some (.cells #[.int .i64 σ.day, .int .i64 σ.rc, .int .i64 σ.sd, .int .i64 σ.wa, .int .i64 σ.sh, .slice a σ.L.length c] 29 (0, 0))) := ⟨hb, hz⟩
    have s5 := blkCell hz 5 _ rfl
    have s1 := blkCell hz 1 _ rfl
    have s2 := blkCell hz 2 _ rfl
    have s3 := blkCell hz 3 _ rfl
    have s4 := blkCell hz 4 _ rfl
    clear hb hz H1
    by_cases hlt : k < σ.L.length
    · have hlt' : (k : Int) < (σ.L.length : Int) := by omega
      have hrow := row_of (w' := wr) HR.out (fun q hq => HS.out.1.block q (row_lt HR.out q hq).2)
      obtain ⟨g, cp, hq⟩ := row_some hrow (by omega)
      simp only [Value.slice.injEq, true_and] at hq
      obtain ⟨rfl, rfl⟩ := hq
      obtain ⟨q0, q1, q2, q3, q4⟩ := row_sl hrow hlt
      have hub := uN_take (p := allB) HN.out k hk
      have hn1 := (getN HN.out hlt).nu
      have hn2 := (getN HN.out hlt).nu'
      have HNx : Hid (uN allB (σ.L.take (k + 1)) = uN allB (σ.L.take k) + (gl σ.L k).nu) := (uN_next allB _ _ hlt).trans (by simp [allB])
      clear hrow q0 q1 q3 q4
      generalize gl σ.L k = r at *
      obtain ⟨a0, a1, a2, a3, a4⟩ := r
      dsimp only at q2 hn1 hn2 HNx
      generalize uN allB (σ.L.take k) = ux at *
      have hn1' : decide (a2 < 1) = false := decide_eq_false (by omega)
      have hws : IntKind.i64.wrap (σ.sd + σ.wa + σ.sh + ux + a2) = σ.sd + σ.wa + σ.sh + ux + a2 := wrap_id _ (by omega) (by omega)
      go_wp2
      exact ⟨⟨k + 1, by omega, by go_num, by rw [HNx.out, Int.add_assoc], HS.out⟩, by simp [intOf]; omega⟩
    · obtain rfl : k = σ.L.length := by omega
      rw [List.take_length]
      have HE : Hid (Below w.heap.size w wr) := HS.out.1
      have hbq := HBal.out
      have hbe : (σ.sd + σ.wa + σ.sh + uN allB σ.L == σ.rc) = true := by rw [hbq]; simp
      clear hbq HS
      go_wp2
      go_ret
      exact ⟨rfl, HE.out⟩
end Go.Proofs.Ytlfcaijhlgldnaa

/-
  The laws' own helpers on lists of tax rows (szTaxRowS, toTaxRowS, eqTaxRowS), and a list that came in, opened.
-/
import Derived.Test.YtaledfdhiimhdakTaxA
import Derived.Deep.Slices
namespace Go.Proofs.Ytaledfdhiimhdak
open Go.ChangeShapes Go.WideShapes Go.ChangeAt Go.RowKit Go.Deep
set_option linter.unusedVariables false

theorem szRow_any (c : Int) (s : ByteArray) (f t n d : Int) (hs : s.size ≤ maxLen) (l : Int) (hl : 0 ≤ l) (hl' : l ≤ 1048576) (w : World) :
    Calls Try.prog 17 #[.agg #[.int .i64 c, .string s, .int .i64 f, .int .i64 t, .int .i64 n, .int .i64 d], .int .i64 l] w fun e w' => e = .returned (.int .i64 (if l < (s.size : Int) then -1 else l - (s.size : Int))) ∧ Below w.heap.size w w' := by
  unfold maxLen at hs
  by_cases c1 : l < (s.size : Int)
  all_goals
    simp only [c1, if_true, if_false]
    go_enter Try.func17, Try.ntmps17
    go_wp2
    go_ret
    exact ⟨rfl, below_alloc _ _⟩
def TrWide (r : TR) : Prop := r.pl.size ≤ maxLen ∧ (Lit.int .i64 r.cl).wf = true
def SzT (rs : List TR) (w : World) (e : Ending) (w' : World) : Prop := ∃ x : Int, e = .returned (.int .i64 x) ∧ (x < 0 ∨ (0 ≤ x ∧ x ≤ 1048576 ∧ rs.length ≤ 1048576 ∧ ∀ r ∈ rs, TrOK r)) ∧ Below w.heap.size w w'
theorem take_next_tr {P : TR → Prop} {rs : List TR} {k : Nat} (h : k < rs.length) (ha : ∀ r ∈ rs.take k, P r) (hk : P (rs.getD k tr0)) : ∀ r ∈ rs.take (k + 1), P r := fun r hr => by
  rw [List.take_succ_eq_append_getElem h] at hr
  rcases List.mem_append.mp hr with h' | h'
  · exact ha r h'
  · simp at h'
    have e : rs.getD k tr0 = rs[k] := by simp [List.getD_eq_getElem?_getD, h]
    rw [h', ← e]; exact hk
theorem getD_trs {P : TR → Prop} {rs : List TR} {k : Nat} (h : k < rs.length) (ha : ∀ r ∈ rs, P r) : P (rs.getD k tr0) := by
  have e : rs.getD k tr0 = rs[k] := by simp [List.getD_eq_getElem?_getD, h]
  rw [e]; exact ha _ (List.getElem_mem _)

set_option maxHeartbeats 1000000 in
theorem szRows_any (a : Option Addr) (cap : Nat) (rs : List TR) (hl : rs.length ≤ maxLen) (hp : ∀ r ∈ rs, TrWide r) (w : World) (hr : ReadsT w.heap.size w a rs) :
    Calls Try.prog 4 #[.slice a rs.length cap, .int .i64 1048576] w (SzT rs w) := by
  have HR : Hid (ReadsT w.heap.size w a rs) := hr
  have HP : Hid (∀ r ∈ rs, TrWide r) := hp
  clear hr hp
  unfold maxLen at hl
  by_cases c1 : (1048576 : Int) < (rs.length : Int)
  · go_enter Try.func4, Try.ntmps4
    go_wp2
    go_ret
    exact ⟨-1, rfl, .inl (by omega), Below.refl _ _⟩
  · go_enter Try.func4, Try.ntmps4
    go_wp2
    go_loopw [1, 5] (fun l c wr => ∃ (k : Nat) (x : Int), k ≤ rs.length ∧ c = .int .i64 (k : Int) ∧ l = .int .i64 x ∧ 0 ≤ x ∧ x ≤ 1048576 ∧ (∀ r ∈ rs.take k, TrOK r) ∧ Below w.heap.size w wr) (fun _ c _ => rs.length - (intOf c).toNat)
    case atStart => exact ⟨0, 1048576 - (rs.length : Int), Nat.zero_le _, rfl, rfl, by omega, by omega, by simp, Below.refl _ _⟩
    case round =>
      obtain ⟨k, x, hk, rfl, rfl, hx0, hx1, hall, hb⟩ := hrel
      have HA : Hid (∀ r ∈ rs.take k, TrOK r) := hall
      have HB : Hid (Below w.heap.size w wr) := hb
      clear hall hb
      by_cases hlt : k < rs.length
      · have hlt' : (k : Int) < (rs.length : Int) := by omega
        rcases HR.out with h | ⟨b0, o0, ha, hB0, ia⟩
        · rw [h] at hlt; simp at hlt
        obtain ⟨c0, c1', c2, c3, c4, c5⟩ := (ia.below HB.out hB0) k hlt
        have hW : TrWide (rs.getD k tr0) := getD_trs hlt HP.out
        have HN : Hid (∀ q, (rs.getD k tr0).pl.size ≤ q → q ≤ 1048576 → ∀ r ∈ rs.take (k + 1), TrOK r) := fun q h h' => take_next_tr hlt HA.out (show (rs.getD k tr0).pl.size ≤ 2000000 by omega)
        rw [ha]
        clear ia
        generalize rs.getD k tr0 = r at *
        obtain ⟨rc, rp, rf, rt, rn, rd⟩ := r
        dsimp only at c0 c1' c2 c3 c4 c5 HN
        have hsz := fun w => szRow_any rc rp rf rt rn rd hW.1 x hx0 hx1 w
        clear hW
        by_cases hy : x < (rp.size : Int)
        · rw [if_pos hy] at hsz
          go_wp2_with (go_at_call 17; refine (hsz _).mono ?_; rintro e w2 ⟨rfl, hb2⟩; have HB2 : Hid (Below w.heap.size w w2) := chain HB.out hb2)
          go_ret
          exact ⟨-1, rfl, .inl (by omega), HB2.out⟩
        · rw [if_neg hy] at hsz
          have HN1 : Hid (∀ r ∈ rs.take (k + 1), TrOK r) := HN.out rp.size (Nat.le_refl _) (by omega)
          have hy0 : 0 ≤ x - (rp.size : Int) := by omega
          have hy1 : x - (rp.size : Int) ≤ 1048576 := by omega
          clear hy
          generalize x - (rp.size : Int) = y at *
          go_wp2_with (go_at_call 17; refine (hsz _).mono ?_; rintro e w2 ⟨rfl, hb2⟩; have HB2 : Hid (Below w.heap.size w w2) := chain HB.out hb2)
          go_roundw
          case rel => exact ⟨k + 1, y, by omega, by go_num, rfl, by omega, hy1, HN1.out, HB2.out⟩
          case measure => simp [intOf]; omega
      · have hle : (rs.length : Int) ≤ (k : Int) := by omega
        have HE : Hid (∀ r ∈ rs, TrOK r) := by
          have := HA.out
          rw [List.take_of_length_le (by omega)] at this
          exact this
        go_wp2
        go_ret
        exact ⟨x, rfl, .inr ⟨hx0, hx1, by omega, HE.out⟩, HB.out⟩

/-! ### toTaxRowS -/
theorem toRow_any (c : Int) (s : ByteArray) (f t n d : Int) (w : World) :
    Calls Try.prog 23 #[.agg #[.int .i64 c, .string s, .int .i64 f, .int .i64 t, .int .i64 n, .int .i64 d]] w fun e w' => e = .returned (.agg #[.int .i64 c, .string s, .int .i64 f, .int .i64 t, .int .i64 n, .int .i64 d]) ∧ Below w.heap.size w w' := by
  have l1 : ∀ n : Nat, n < n + 1 + 1 := fun n => by omega
  have l2 : ∀ n : Nat, n < n + 2 := fun n => by omega
  have l3 : ∀ n : Nat, n < n + 3 := fun n => by omega
  have l4 : ∀ n : Nat, n + 1 < n + 3 := fun n => by omega
  have l5 : ∀ n : Nat, n + 2 < n + 3 := fun n => by omega
  go_enter Try.func23, Try.ntmps23
  go_wp2_with (go_at_call 44; refine (toRate_any _ _ _).mono ?_; rintro e w1 ⟨rfl, hb1⟩; obtain ⟨hc1, hf1, hz1⟩ := bfacts hb1)
  have HB1 : Hid (Below w.heap.size w w1) := chain (chain (chain (below_alloc _ _) (below_alloc _ _)) (below_alloc _ _)) hb1
  refine bodyPost_ret (v := .agg #[.int .i64 c, .string s, .int .i64 f, .int .i64 t, .int .i64 n, .int .i64 d]) (by simp [results, Try.results23, go_sem, hc1]) rfl ⟨rfl, ?_⟩
  exact (((((((HB1.out.setCell (by dsimp only; omega) _).setCell (by dsimp only; omega) _).setCell (by dsimp only; omega) _).setCell (by dsimp only; omega) _).setCell (by dsimp only; omega) _).setCell (by dsimp only; omega) _).setCell (by dsimp only; omega) _).setCell (by dsimp only; omega) _

/-- Cell j of a row. -/
def trCell (r : TR) (j : Nat) : Value := if j = 0 then .int .i64 r.cl else if j = 1 then .string r.pl else if j = 2 then .int .i64 r.fr else if j = 3 then .int .i64 r.to else if j = 4 then .int .i64 r.n else .int .i64 r.d
theorem rowInfoE : (Try.prog.info? 58).map (fun i => (i.zero, i.size, i.bytes)) = some (some (.agg #[.int .i64 0, .string ⟨#[]⟩, .int .i64 0, .int .i64 0, .int .i64 0, .int .i64 0]), 6, 56) := by kernel_rfl
theorem make_rows (n : Nat) (hn : n ≤ 100000000) (w : World) :
    (Instr.makeSlice 29 (.int .i64 (n : Int)) (.int .i64 (n : Int))).run Try.prog w = .ok (.slice (some ⟨w.heap.size, 0, none⟩) n n) (w.alloc (.cells (madeCells #[.int .i64 0, .string ⟨#[]⟩, .int .i64 0, .int .i64 0, .int .i64 0, .int .i64 0] (n * 6)) 58)) := by
  obtain ⟨i, hi, hzz⟩ := Option.map_eq_some_iff.1 rowInfoE
  simp only [Prod.mk.injEq] at hzz
  obtain ⟨hz, hs, hb⟩ := hzz
  have hr := run_make (P := Try.prog) w 29 58 i _ Try.underlying29 hi hz .i64 .i64 (n : Int) (n : Int) (by omega) (Int.le_refl _) (by rw [hb]; omega) (by omega)
  simp only [Int.toNat_natCast, hs] at hr
  exact hr
theorem rows_made (w : World) (n : Nat) : (w.alloc (.cells (madeCells #[.int .i64 0, .string ⟨#[]⟩, .int .i64 0, .int .i64 0, .int .i64 0, .int .i64 0] (n * 6)) 58)).rowIs w.heap.size 58 (n * 6) (fun j => trCell tr0 (j % 6)) := by
  refine ⟨_, heapNew _ _, size_madeCells _ _, fun i hi => ?_⟩
  have h6 : i % 6 = 0 ∨ i % 6 = 1 ∨ i % 6 = 2 ∨ i % 6 = 3 ∨ i % 6 = 4 ∨ i % 6 = 5 := by omega
  unfold trCell tr0
  rcases h6 with h | h | h | h | h | h <;> simp [madeCells, hi, h] <;> rfl
/-- A row of rows of its own: the first k as in rs, zero behind. -/
def trFill (rs : List TR) (k j : Nat) : Value := trCell (if j / 6 < k then rs.getD (j / 6) tr0 else tr0) (j % 6)
theorem trFill_set {w : World} {b : Nat} {rs : List TR} {n k : Nat} (h : w.rowIs b 58 (n * 6) (trFill rs k)) :
    ((((((w.setCell ⟨b, k * 6, none⟩ (.int .i64 (rs.getD k tr0).cl)).setCell ⟨b, k * 6 + 1, none⟩ (.string (rs.getD k tr0).pl)).setCell ⟨b, k * 6 + 2, none⟩ (.int .i64 (rs.getD k tr0).fr)).setCell ⟨b, k * 6 + 3, none⟩ (.int .i64 (rs.getD k tr0).to)).setCell ⟨b, k * 6 + 4, none⟩ (.int .i64 (rs.getD k tr0).n)).setCell ⟨b, k * 6 + 5, none⟩ (.int .i64 (rs.getD k tr0).d)).rowIs b 58 (n * 6) (trFill rs (k + 1)) := by
  refine ((((((h.set (k * 6) _).set (k * 6 + 1) _).set (k * 6 + 2) _).set (k * 6 + 3) _).set (k * 6 + 4) _).set (k * 6 + 5) _).congr fun j hj => ?_
  unfold trFill
  by_cases e5 : j = k * 6 + 5
  · rw [if_pos e5, if_pos (by omega), show j / 6 = k by omega, show j % 6 = 5 by omega]; rfl
  rw [if_neg e5]
  by_cases e4 : j = k * 6 + 4
  · rw [if_pos e4, if_pos (by omega), show j / 6 = k by omega, show j % 6 = 4 by omega]; rfl
  rw [if_neg e4]
  by_cases e3 : j = k * 6 + 3
  · rw [if_pos e3, if_pos (by omega), show j / 6 = k by omega, show j % 6 = 3 by omega]; rfl
  rw [if_neg e3]
  by_cases e2 : j = k * 6 + 2
  · rw [if_pos e2, if_pos (by omega), show j / 6 = k by omega, show j % 6 = 2 by omega]; rfl
  rw [if_neg e2]
  by_cases e1 : j = k * 6 + 1
  · rw [if_pos e1, if_pos (by omega), show j / 6 = k by omega, show j % 6 = 1 by omega]; rfl
  rw [if_neg e1]
  by_cases e0 : j = k * 6
  · rw [if_pos e0, if_pos (by omega), show j / 6 = k by omega, show j % 6 = 0 by omega]; rfl
  rw [if_neg e0]
  by_cases h : j / 6 < k
  · rw [if_pos h, if_pos (by omega)]
  · rw [if_neg h, if_neg (by omega)]
def FreeT (w : World) (b n : Nat) : Prop := ∀ j, j < n * 6 → w.frozen? ⟨b, j, none⟩ = false
theorem rowsAt_of {w : World} {b : Nat} {rs : List TR} (h : w.rowIs b 58 (rs.length * 6) (trFill rs rs.length)) : RowsAt w b 0 rs := fun i hi => by
  refine ⟨?_, ?_, ?_, ?_, ?_, ?_⟩
  · rw [h.cell (i := 0 + i * 6) (by omega)]; unfold trFill; rw [if_pos (by omega), show (0 + i * 6) / 6 = i by omega, show (0 + i * 6) % 6 = 0 by omega]; rfl
  · rw [h.cell (i := 0 + i * 6 + 1) (by omega)]; unfold trFill; rw [if_pos (by omega), show (0 + i * 6 + 1) / 6 = i by omega, show (0 + i * 6 + 1) % 6 = 1 by omega]; rfl
  · rw [h.cell (i := 0 + i * 6 + 2) (by omega)]; unfold trFill; rw [if_pos (by omega), show (0 + i * 6 + 2) / 6 = i by omega, show (0 + i * 6 + 2) % 6 = 2 by omega]; rfl
  · rw [h.cell (i := 0 + i * 6 + 3) (by omega)]; unfold trFill; rw [if_pos (by omega), show (0 + i * 6 + 3) / 6 = i by omega, show (0 + i * 6 + 3) % 6 = 3 by omega]; rfl
  · rw [h.cell (i := 0 + i * 6 + 4) (by omega)]; unfold trFill; rw [if_pos (by omega), show (0 + i * 6 + 4) / 6 = i by omega, show (0 + i * 6 + 4) % 6 = 4 by omega]; rfl
  · rw [h.cell (i := 0 + i * 6 + 5) (by omega)]; unfold trFill; rw [if_pos (by omega), show (0 + i * 6 + 5) / 6 = i by omega, show (0 + i * 6 + 5) % 6 = 5 by omega]; rfl

set_option maxHeartbeats 2000000 in
theorem toRows_any (a : Option Addr) (cap : Nat) (rs : List TR) (hn : rs.length ≤ 1048576) (w : World) (hr : ReadsT w.heap.size w a rs) :
    Calls Try.prog 7 #[.slice a rs.length cap] w fun e w' => e = .returned (.slice (some ⟨w.heap.size, 0, none⟩) rs.length rs.length) ∧ Below w.heap.size w w' ∧ w.heap.size < w'.heap.size ∧ RowsAt w' w.heap.size 0 rs ∧ FreeT w' w.heap.size rs.length := by
  have hmk := fun w => make_rows rs.length (by omega) w
  have HM : Hid ((w.alloc (.cells (madeCells #[.int .i64 0, .string ⟨#[]⟩, .int .i64 0, .int .i64 0, .int .i64 0, .int .i64 0] (rs.length * 6)) 58)).rowIs w.heap.size 58 (rs.length * 6) (fun j => trCell tr0 (j % 6))) := rows_made w rs.length
  have HR : Hid (ReadsT w.heap.size w a rs) := hr
  clear hr
  go_enter Try.func7, Try.ntmps7
  go_wp2
  go_loopw [4] (fun i wr => ∃ k : Nat, k ≤ rs.length ∧ i = .int .i64 (k : Int) ∧ Below w.heap.size w wr ∧ wr.rowIs w.heap.size 58 (rs.length * 6) (trFill rs k)) (fun i _ => rs.length - (intOf i).toNat)
  case atStart => exact ⟨0, Nat.zero_le _, rfl, below_alloc _ _, HM.out.congr (fun i hi => by unfold trFill; rw [if_neg (by omega)])⟩
  case round =>
    obtain ⟨k, hk, rfl, hb, hrow⟩ := hrel
    have HB : Hid (Below w.heap.size w wr) := hb
    have HW : Hid (wr.rowIs w.heap.size 58 (rs.length * 6) (trFill rs k)) := hrow
    clear hb hrow
    by_cases hlt : k < rs.length
    · have hlt' : (k : Int) < (rs.length : Int) := by omega
      rcases HR.out with h | ⟨b0, o0, ha, hB0, ia⟩
      · rw [h] at hlt; simp at hlt
      obtain ⟨c0, c1, c2, c3, c4, c5⟩ := (ia.below HB.out hB0) k hlt
      have HN : Hid (∀ w2, Below wr.heap.size wr w2 → ((((((w2.setCell ⟨w.heap.size, k * 6, none⟩ (.int .i64 (rs.getD k tr0).cl)).setCell ⟨w.heap.size, k * 6 + 1, none⟩ (.string (rs.getD k tr0).pl)).setCell ⟨w.heap.size, k * 6 + 2, none⟩ (.int .i64 (rs.getD k tr0).fr)).setCell ⟨w.heap.size, k * 6 + 3, none⟩ (.int .i64 (rs.getD k tr0).to)).setCell ⟨w.heap.size, k * 6 + 4, none⟩ (.int .i64 (rs.getD k tr0).n)).setCell ⟨w.heap.size, k * 6 + 5, none⟩ (.int .i64 (rs.getD k tr0).d)).rowIs w.heap.size 58 (rs.length * 6) (trFill rs (k + 1)) ∧ Below w.heap.size w ((((((w2.setCell ⟨w.heap.size, k * 6, none⟩ (.int .i64 (rs.getD k tr0).cl)).setCell ⟨w.heap.size, k * 6 + 1, none⟩ (.string (rs.getD k tr0).pl)).setCell ⟨w.heap.size, k * 6 + 2, none⟩ (.int .i64 (rs.getD k tr0).fr)).setCell ⟨w.heap.size, k * 6 + 3, none⟩ (.int .i64 (rs.getD k tr0).to)).setCell ⟨w.heap.size, k * 6 + 4, none⟩ (.int .i64 (rs.getD k tr0).n)).setCell ⟨w.heap.size, k * 6 + 5, none⟩ (.int .i64 (rs.getD k tr0).d)) ∧ (∀ j, j < 6 → (w2.cell? ⟨w.heap.size, k * 6 + j, none⟩).isSome = true) ∧ (∀ j, w2.frozen? ⟨w.heap.size, j, none⟩ = false)) := fun w2 hb2 => by
        have hw2 := HW.out.of_block (hb2.block _ HW.out.lt)
        refine ⟨trFill_set hw2, (((((((HB.out.trans (hb2.mono HB.out.size)).setCell (Nat.le_refl _) _).setCell (Nat.le_refl _) _).setCell (Nat.le_refl _) _).setCell (Nat.le_refl _) _).setCell (Nat.le_refl _) _).setCell (Nat.le_refl _) _), fun j hj => ?_, fun j => hw2.frozen j⟩
        rw [hw2.cell (by omega)]; rfl
      rw [ha]
      clear ia
      generalize rs.getD k tr0 = r at *
      obtain ⟨rc, rp, rf, rt, rn, rd⟩ := r
      dsimp only at c0 c1 c2 c3 c4 c5 HN
      go_wp2_with (go_at_call 23; refine (toRow_any _ _ _ _ _ _ _).mono ?_; rintro e w2 ⟨rfl, hb2⟩; obtain ⟨n1, n2, n3, n4⟩ := HN.out w2 hb2; have N1 : Hid (_) := n1; have N2 : Hid (_) := n2; obtain ⟨v0, hv0⟩ := Option.isSome_iff_exists.mp (n3 0 (by omega)); obtain ⟨v1, hv1⟩ := Option.isSome_iff_exists.mp (n3 1 (by omega)); obtain ⟨v2, hv2⟩ := Option.isSome_iff_exists.mp (n3 2 (by omega)); obtain ⟨v3, hv3⟩ := Option.isSome_iff_exists.mp (n3 3 (by omega)); obtain ⟨v4, hv4⟩ := Option.isSome_iff_exists.mp (n3 4 (by omega)); obtain ⟨v5, hv5⟩ := Option.isSome_iff_exists.mp (n3 5 (by omega)); rw [Nat.add_zero] at hv0; clear n1 n2 n3)
      go_roundw
      case rel => exact ⟨k + 1, by omega, by go_num, N2.out, N1.out⟩
      case measure => simp [intOf]; omega
    · obtain rfl : k = rs.length := by omega
      go_wp2
      go_ret
      exact ⟨rfl, HB.out, HW.out.lt, rowsAt_of HW.out, fun j hj => HW.out.frozen j⟩
end Go.Proofs.Ytaledfdhiimhdak

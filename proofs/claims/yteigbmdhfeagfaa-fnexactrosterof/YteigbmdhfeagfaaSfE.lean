/-
  The laws' own helpers on lists of Shift: sz.., to...
-/
import Derived.Test.YteigbmdhfeagfaaSfA
namespace Go.Proofs.Yteigbmdhfeagfaa
open Go.ChangeShapes Go.WideShapes Go.ChangeAt Go.RowKit Go.Deep
set_option linter.unusedVariables false

theorem szSf_any (r0 : Int) (r1 : Int) (r2 : ByteArray) (hs2 : r2.size ≤ maxLen) (l : Int) (hl : 0 ≤ l) (hl' : l ≤ 1048576) (w : World) :
    Calls Try.prog 23 #[.agg #[.int .i64 r0, .int .i64 r1, .string r2], .int .i64 l] w fun e w' => (∃ x : Int, e = .returned (.int .i64 x) ∧ (x < 0 ∨ (0 ≤ x ∧ x ≤ l ∧ (r2.size : Int) ≤ l))) ∧ Below w.heap.size w w' := by
  unfold maxLen at hs2
  rcases (by omega : (l < (r2.size : Int)) ∨ ((r2.size : Int) ≤ l)) with c0 | c0
  all_goals
    go_enter Try.func23, Try.ntmps23
    go_wp2
    go_ret
    first
    | exact ⟨⟨-1, rfl, .inl (by omega)⟩, below_alloc _ _⟩
    | exact ⟨⟨_, rfl, .inr ⟨by omega, by omega, by omega⟩⟩, below_alloc _ _⟩
def SzSf (rs : List RSf) (w : World) (e : Ending) (w' : World) : Prop := ∃ x : Int, e = .returned (.int .i64 x) ∧ (x < 0 ∨ (0 ≤ x ∧ x ≤ 1048576 ∧ rs.length ≤ 1048576 ∧ ∀ r ∈ rs, SfOK r)) ∧ Below w.heap.size w w'
theorem take_nextSf {p : RSf → Prop} {rs : List RSf} {k : Nat} (h : k < rs.length) (ha : ∀ r ∈ rs.take k, p r) (hk : p (rs.getD k zSf)) : ∀ r ∈ rs.take (k + 1), p r := fun r hr => by
  rw [List.take_succ_eq_append_getElem h] at hr
  rcases List.mem_append.mp hr with h' | h'
  · exact ha r h'
  · simp at h'
    have e : rs.getD k zSf = rs[k] := by simp [List.getD_eq_getElem?_getD, h]
    rw [h', ← e]; exact hk

set_option maxHeartbeats 1000000 in
theorem szSfs_any (a : Option Addr) (cap : Nat) (rs : List RSf) (hl : rs.length ≤ maxLen) (hp : ∀ r ∈ rs, SfWide r) (x0 : Int) (hx0 : 0 ≤ x0) (hx1 : x0 ≤ 1048576) (w : World) (hr : ReadsSf w.heap.size w a rs) :
    Calls Try.prog 5 #[.slice a rs.length cap, .int .i64 x0] w (SzSf rs w) := by
  have HR : Hid (ReadsSf w.heap.size w a rs) := hr
  have HP : Hid (∀ r ∈ rs, SfWide r) := hp
  clear hr hp
  unfold maxLen at hl
  by_cases c1 : x0 < (rs.length : Int)
  · have hwr : IntKind.i64.wrap (x0 - (rs.length : Int)) = x0 - (rs.length : Int) := wrap_id _ (by omega) (by omega)
    go_enter Try.func5, Try.ntmps5
    go_wp2
    go_ret
    exact ⟨-1, rfl, .inl (by omega), Below.refl _ _⟩
  · have hwr : IntKind.i64.wrap (x0 - (rs.length : Int)) = x0 - (rs.length : Int) := wrap_id _ (by omega) (by omega)
    go_enter Try.func5, Try.ntmps5
    go_wp2
    go_loopw [1, 5] (fun l c wr => ∃ (k : Nat) (x : Int), k ≤ rs.length ∧ c = .int .i64 (k : Int) ∧ l = .int .i64 x ∧ 0 ≤ x ∧ x ≤ 1048576 ∧ (∀ r ∈ rs.take k, SfOK r) ∧ Below w.heap.size w wr) (fun _ c _ => rs.length - (intOf c).toNat)
    case atStart => exact ⟨0, x0 - (rs.length : Int), Nat.zero_le _, rfl, rfl, by omega, by omega, by simp, Below.refl _ _⟩
    case round =>
      obtain ⟨k, x, hk, rfl, rfl, hx0, hx1, hall, hb⟩ := hrel
      have HA : Hid (∀ r ∈ rs.take k, SfOK r) := hall
      have HB : Hid (Below w.heap.size w wr) := hb
      clear hall hb
      by_cases hlt : k < rs.length
      · have hlt' : (k : Int) < (rs.length : Int) := by omega
        rcases HR.out with h | ⟨b0, o0, ha, hB0, ia⟩
        · rw [h] at hlt; simp at hlt
        obtain ⟨c0, c1, c2⟩ := (ia.below HB.out hB0) k hlt
        have hW : SfWide (rs.getD k zSf) := getSf HP.out hlt
        have HN : Hid (((rs.getD k zSf).sk.size : Int) ≤ x → ∀ r ∈ rs.take (k + 1), SfOK r) := fun q2 => take_nextSf hlt HA.out (show (rs.getD k zSf).sk.size ≤ 2000000 from by omega)
        rw [ha]
        clear ia
        generalize rs.getD k zSf = r at *
        obtain ⟨r0, r1, r2⟩ := r
        dsimp only at c0 c1 c2 HN
        obtain ⟨g0, g1, g2⟩ := hW
        have hsz := fun w => szSf_any r0 r1 r2 g2 x hx0 hx1 w
        clear g0 g1 g2
        go_wp2_with (go_at_call 23; refine (hsz _).mono ?_; rintro e w2 ⟨⟨y, rfl, hy⟩, hb2⟩; have HY : Hid _ := hy; have HB2 : Hid (Below w.heap.size w w2) := chain HB.out hb2; clear hy hb2)
        · go_ret
          exact ⟨-1, rfl, .inl (by omega), HB2.out⟩
        · rcases HY.out with h | ⟨y0, y1, z2⟩
          · omega
          have HN1 : Hid (∀ r ∈ rs.take (k + 1), SfOK r) := HN.out z2
          go_roundw
          case rel => exact ⟨k + 1, y, by omega, by go_num, rfl, by omega, by omega, HN1.out, HB2.out⟩
          case measure => simp [intOf]; omega
      · have hle : (rs.length : Int) ≤ (k : Int) := by omega
        have HE : Hid (∀ r ∈ rs, SfOK r) := by
          have := HA.out
          rw [List.take_of_length_le (by omega)] at this
          exact this
        go_wp2
        go_ret
        exact ⟨x, rfl, .inr ⟨hx0, hx1, by omega, HE.out⟩, HB.out⟩

/-! ### toShiftS -/
theorem toSf_any (r0 : Int) (r1 : Int) (r2 : ByteArray) (w : World) :
    Calls Try.prog 27 #[.agg #[.int .i64 r0, .int .i64 r1, .string r2]] w fun e w' => e = .returned (.agg #[.int .i64 r0, .int .i64 r1, .string r2]) ∧ Below w.heap.size w w' := by
  have l1 : ∀ n : Nat, n < n + 1 + 1 := fun n => by omega
  have l2 : ∀ n : Nat, n < n + 2 := fun n => by omega
  have l3 : ∀ n : Nat, n < n + 3 := fun n => by omega
  have l4 : ∀ n : Nat, n + 1 < n + 3 := fun n => by omega
  have l5 : ∀ n : Nat, n + 2 < n + 3 := fun n => by omega
  go_enter Try.func27, Try.ntmps27
  go_wp2
  refine bodyPost_ret (v := .agg #[.int .i64 r0, .int .i64 r1, .string r2]) (by simp [results, Try.results27, go_sem]) rfl ⟨rfl, ?_⟩
  repeat (first | exact Below.refl _ _ | refine chain ?_ (below_alloc _ _) | refine Below.setCell ?_ (by dsimp only; omega) _)
def sfCell (r : RSf) (j : Nat) : Value := if j = 0 then .int .i64 r.fr else if j = 1 then .int .i64 r.to else .string r.sk
theorem sfInfo : (Try.prog.info? 54).map (fun i => (i.zero, i.size, i.bytes)) = some (some (.agg #[.int .i64 0, .int .i64 0, .string ⟨#[]⟩]), 3, 32) := by kernel_rfl
theorem makeSfs (n : Nat) (hn : n ≤ 100000000) (w : World) :
    (Instr.makeSlice 27 (.int .i64 (n : Int)) (.int .i64 (n : Int))).run Try.prog w = .ok (.slice (some ⟨w.heap.size, 0, none⟩) n n) (w.alloc (.cells (madeCells #[.int .i64 0, .int .i64 0, .string ⟨#[]⟩] (n * 3)) 54)) := by
  obtain ⟨i, hi, hzz⟩ := Option.map_eq_some_iff.1 sfInfo
  simp only [Prod.mk.injEq] at hzz
  obtain ⟨hz, hs, hb⟩ := hzz
  have hr := run_make (P := Try.prog) w 27 54 i _ Try.underlying27 hi hz .i64 .i64 (n : Int) (n : Int) (by omega) (Int.le_refl _) (by rw [hb]; omega) (by omega)
  simp only [Int.toNat_natCast, hs] at hr
  exact hr
theorem sfs_made (w : World) (n : Nat) : (w.alloc (.cells (madeCells #[.int .i64 0, .int .i64 0, .string ⟨#[]⟩] (n * 3)) 54)).rowIs w.heap.size 54 (n * 3) (fun j => sfCell zSf (j % 3)) := by
  refine ⟨_, heapNew _ _, size_madeCells _ _, fun i hi => ?_⟩
  have h6 : i % 3 = 0 ∨ i % 3 = 1 ∨ i % 3 = 2 := by omega
  unfold sfCell zSf
  rcases h6 with h | h | h <;> simp [madeCells, hi, h] <;> rfl
def sfFill (rs : List RSf) (k j : Nat) : Value := sfCell (if j / 3 < k then rs.getD (j / 3) zSf else zSf) (j % 3)
theorem sfFill_set {w : World} {b : Nat} {rs : List RSf} {n k : Nat} (h : w.rowIs b 54 (n * 3) (sfFill rs k)) :
    (((w.setCell ⟨b, k * 3, none⟩ (.int .i64 (rs.getD k zSf).fr)).setCell ⟨b, k * 3 + 1, none⟩ (.int .i64 (rs.getD k zSf).to)).setCell ⟨b, k * 3 + 2, none⟩ (.string (rs.getD k zSf).sk)).rowIs b 54 (n * 3) (sfFill rs (k + 1)) := by
  refine (((h.set (k * 3) _).set (k * 3 + 1) _).set (k * 3 + 2) _).congr fun j hj => ?_
  unfold sfFill
  by_cases e2 : j = k * 3 + 2
  · rw [if_pos e2, if_pos (by omega), show j / 3 = k by omega, show j % 3 = 2 by omega]; rfl
  rw [if_neg e2]
  by_cases e1 : j = k * 3 + 1
  · rw [if_pos e1, if_pos (by omega), show j / 3 = k by omega, show j % 3 = 1 by omega]; rfl
  rw [if_neg e1]
  by_cases e0 : j = k * 3
  · rw [if_pos e0, if_pos (by omega), show j / 3 = k by omega, show j % 3 = 0 by omega]; rfl
  rw [if_neg e0]
  by_cases h : j / 3 < k
  · rw [if_pos h, if_pos (by omega)]
  · rw [if_neg h, if_neg (by omega)]
def FreeSf (w : World) (b n : Nat) : Prop := ∀ j, j < n * 3 → w.frozen? ⟨b, j, none⟩ = false
theorem FreeSf.below {B : Nat} {w w' : World} {b n : Nat} (h : FreeSf w b n) (hb : Below B w w') (hB : b < B) : FreeSf w' b n := fun j hj => (hb.frozen (p := ⟨b, j, none⟩) hB).trans (h j hj)
theorem sfsAt_of {w : World} {b : Nat} {rs : List RSf} (h : w.rowIs b 54 (rs.length * 3) (sfFill rs rs.length)) : SfsAt w b 0 rs := fun i hi => by
  refine ⟨?_, ?_, ?_⟩
  · rw [h.cell (i := 0 + i * 3) (by omega)]; unfold sfFill; rw [if_pos (by omega), show (0 + i * 3) / 3 = i by omega, show (0 + i * 3) % 3 = 0 by omega]; rfl
  · rw [h.cell (i := 0 + i * 3 + 1) (by omega)]; unfold sfFill; rw [if_pos (by omega), show (0 + i * 3 + 1) / 3 = i by omega, show (0 + i * 3 + 1) % 3 = 1 by omega]; rfl
  · rw [h.cell (i := 0 + i * 3 + 2) (by omega)]; unfold sfFill; rw [if_pos (by omega), show (0 + i * 3 + 2) / 3 = i by omega, show (0 + i * 3 + 2) % 3 = 2 by omega]; rfl

set_option maxHeartbeats 2000000 in
theorem toSfs_any (a : Option Addr) (cap : Nat) (rs : List RSf) (hn : rs.length ≤ 1048576) (w : World) (hr : ReadsSf w.heap.size w a rs) :
    Calls Try.prog 8 #[.slice a rs.length cap] w fun e w' => e = .returned (.slice (some ⟨w.heap.size, 0, none⟩) rs.length rs.length) ∧ Below w.heap.size w w' ∧ w.heap.size < w'.heap.size ∧ SfsAt w' w.heap.size 0 rs ∧ FreeSf w' w.heap.size rs.length := by
  have hmk := fun w => makeSfs rs.length (by omega) w
  have HM : Hid ((w.alloc (.cells (madeCells #[.int .i64 0, .int .i64 0, .string ⟨#[]⟩] (rs.length * 3)) 54)).rowIs w.heap.size 54 (rs.length * 3) (fun j => sfCell zSf (j % 3))) := sfs_made w rs.length
  have HR : Hid (ReadsSf w.heap.size w a rs) := hr
  clear hr
  go_enter Try.func8, Try.ntmps8
  go_wp2
  go_loopw [4] (fun i wr => ∃ k : Nat, k ≤ rs.length ∧ i = .int .i64 (k : Int) ∧ Below w.heap.size w wr ∧ wr.rowIs w.heap.size 54 (rs.length * 3) (sfFill rs k)) (fun i _ => rs.length - (intOf i).toNat)
  case atStart => exact ⟨0, Nat.zero_le _, rfl, below_alloc _ _, HM.out.congr (fun i hi => by unfold sfFill; rw [if_neg (by omega)])⟩
  case round =>
    obtain ⟨k, hk, rfl, hb, hrow⟩ := hrel
    have HB : Hid (Below w.heap.size w wr) := hb
    have HW : Hid (wr.rowIs w.heap.size 54 (rs.length * 3) (sfFill rs k)) := hrow
    clear hb hrow
    by_cases hlt : k < rs.length
    · have hlt' : (k : Int) < (rs.length : Int) := by omega
      rcases HR.out with h | ⟨b0, o0, ha, hB0, ia⟩
      · rw [h] at hlt; simp at hlt
      obtain ⟨c0, c1, c2⟩ := (ia.below HB.out hB0) k hlt
      have HN : Hid (∀ w2, Below wr.heap.size wr w2 → (((w2.setCell ⟨w.heap.size, k * 3, none⟩ (.int .i64 (rs.getD k zSf).fr)).setCell ⟨w.heap.size, k * 3 + 1, none⟩ (.int .i64 (rs.getD k zSf).to)).setCell ⟨w.heap.size, k * 3 + 2, none⟩ (.string (rs.getD k zSf).sk)).rowIs w.heap.size 54 (rs.length * 3) (sfFill rs (k + 1)) ∧ Below w.heap.size w (((w2.setCell ⟨w.heap.size, k * 3, none⟩ (.int .i64 (rs.getD k zSf).fr)).setCell ⟨w.heap.size, k * 3 + 1, none⟩ (.int .i64 (rs.getD k zSf).to)).setCell ⟨w.heap.size, k * 3 + 2, none⟩ (.string (rs.getD k zSf).sk)) ∧ (∀ j, j < 3 → (w2.cell? ⟨w.heap.size, k * 3 + j, none⟩).isSome = true) ∧ (∀ j, w2.frozen? ⟨w.heap.size, j, none⟩ = false)) := fun w2 hb2 => by
        have hw2 := HW.out.of_block (hb2.block _ HW.out.lt)
        refine ⟨sfFill_set hw2, ((((HB.out.trans (hb2.mono HB.out.size)).setCell (Nat.le_refl _) _).setCell (Nat.le_refl _) _).setCell (Nat.le_refl _) _), fun j hj => ?_, fun j => hw2.frozen j⟩
        rw [hw2.cell (by omega)]; rfl
      rw [ha]
      clear ia
      generalize rs.getD k zSf = r at *
      obtain ⟨r0, r1, r2⟩ := r
      dsimp only at c0 c1 c2 HN
      go_wp2_with (go_at_call 27; refine (toSf_any _ _ _ _).mono ?_; rintro e w2 ⟨rfl, hb2⟩; obtain ⟨n1, n2, n3, n4⟩ := HN.out w2 hb2; have N1 : Hid (_) := n1; have N2 : Hid (_) := n2; obtain ⟨v0, hv0⟩ := Option.isSome_iff_exists.mp (n3 0 (by omega)); obtain ⟨v1, hv1⟩ := Option.isSome_iff_exists.mp (n3 1 (by omega)); obtain ⟨v2, hv2⟩ := Option.isSome_iff_exists.mp (n3 2 (by omega)); rw [Nat.add_zero] at hv0; clear n1 n2 n3)
      go_roundw
      case rel => exact ⟨k + 1, by omega, by go_num, N2.out, N1.out⟩
      case measure => simp [intOf]; omega
    · obtain rfl : k = rs.length := by omega
      go_wp2
      go_ret
      exact ⟨rfl, HB.out, HW.out.lt, sfsAt_of HW.out, fun j hj => HW.out.frozen j⟩
end Go.Proofs.Yteigbmdhfeagfaa

/-
  The laws' own helpers on lists of StockAct: sz.., to...
-/
import Derived.Test.YtdhdecbdcfdmeaaSkA
namespace Go.Proofs.Ytdhdecbdcfdmeaa
open Go.ChangeShapes Go.WideShapes Go.ChangeAt Go.RowKit Go.Deep
set_option linter.unusedVariables false

theorem szSk_any (r0 : Int) (r1 : ByteArray) (r2 : Int) (r3 : Int) (r4 : Int) (hs1 : r1.size ≤ maxLen) (l : Int) (hl : 0 ≤ l) (hl' : l ≤ 1048576) (w : World) :
    Calls Try.prog 26 #[.agg #[.int .i64 r0, .string r1, .int .i64 r2, .int .i64 r3, .int .i64 r4], .int .i64 l] w fun e w' => (∃ x : Int, e = .returned (.int .i64 x) ∧ (x < 0 ∨ (0 ≤ x ∧ x ≤ l ∧ (r1.size : Int) ≤ l))) ∧ Below w.heap.size w w' := by
  unfold maxLen at hs1
  rcases (by omega : (l < (r1.size : Int)) ∨ ((r1.size : Int) ≤ l)) with c0 | c0
  all_goals
    go_enter Try.func26, Try.ntmps26
    go_wp2
    go_ret
    first
    | exact ⟨⟨-1, rfl, .inl (by omega)⟩, below_alloc _ _⟩
    | exact ⟨⟨_, rfl, .inr ⟨by omega, by omega, by omega⟩⟩, below_alloc _ _⟩
def SzSk (rs : List RSk) (w : World) (e : Ending) (w' : World) : Prop := ∃ x : Int, e = .returned (.int .i64 x) ∧ (x < 0 ∨ (0 ≤ x ∧ x ≤ 1048576 ∧ rs.length ≤ 1048576 ∧ ∀ r ∈ rs, SkOK r)) ∧ Below w.heap.size w w'
theorem take_nextSk {p : RSk → Prop} {rs : List RSk} {k : Nat} (h : k < rs.length) (ha : ∀ r ∈ rs.take k, p r) (hk : p (rs.getD k zSk)) : ∀ r ∈ rs.take (k + 1), p r := fun r hr => by
  rw [List.take_succ_eq_append_getElem h] at hr
  rcases List.mem_append.mp hr with h' | h'
  · exact ha r h'
  · simp at h'
    have e : rs.getD k zSk = rs[k] := by simp [List.getD_eq_getElem?_getD, h]
    rw [h', ← e]; exact hk

set_option maxHeartbeats 1000000 in
theorem szSks_any (a : Option Addr) (cap : Nat) (rs : List RSk) (hl : rs.length ≤ maxLen) (hp : ∀ r ∈ rs, SkWide r) (x0 : Int) (hx0 : 0 ≤ x0) (hx1 : x0 ≤ 1048576) (w : World) (hr : ReadsSk w.heap.size w a rs) :
    Calls Try.prog 10 #[.slice a rs.length cap, .int .i64 x0] w (SzSk rs w) := by
  have HR : Hid (ReadsSk w.heap.size w a rs) := hr
  have HP : Hid (∀ r ∈ rs, SkWide r) := hp
  clear hr hp
  unfold maxLen at hl
  by_cases c1 : x0 < (rs.length : Int)
  · have hwr : IntKind.i64.wrap (x0 - (rs.length : Int)) = x0 - (rs.length : Int) := wrap_id _ (by omega) (by omega)
    go_enter Try.func10, Try.ntmps10
    go_wp2
    go_ret
    exact ⟨-1, rfl, .inl (by omega), Below.refl _ _⟩
  · have hwr : IntKind.i64.wrap (x0 - (rs.length : Int)) = x0 - (rs.length : Int) := wrap_id _ (by omega) (by omega)
    go_enter Try.func10, Try.ntmps10
    go_wp2
    go_loopw [1, 5] (fun l c wr => ∃ (k : Nat) (x : Int), k ≤ rs.length ∧ c = .int .i64 (k : Int) ∧ l = .int .i64 x ∧ 0 ≤ x ∧ x ≤ 1048576 ∧ (∀ r ∈ rs.take k, SkOK r) ∧ Below w.heap.size w wr) (fun _ c _ => rs.length - (intOf c).toNat)
    case atStart => exact ⟨0, x0 - (rs.length : Int), Nat.zero_le _, rfl, rfl, by omega, by omega, by simp, Below.refl _ _⟩
    case round =>
      obtain ⟨k, x, hk, rfl, rfl, hx0, hx1, hall, hb⟩ := hrel
      have HA : Hid (∀ r ∈ rs.take k, SkOK r) := hall
      have HB : Hid (Below w.heap.size w wr) := hb
      clear hall hb
      by_cases hlt : k < rs.length
      · have hlt' : (k : Int) < (rs.length : Int) := by omega
        rcases HR.out with h | ⟨b0, o0, ha, hB0, ia⟩
        · rw [h] at hlt; simp at hlt
        obtain ⟨c0, c1, c2, c3, c4⟩ := (ia.below HB.out hB0) k hlt
        have hW : SkWide (rs.getD k zSk) := getSk HP.out hlt
        have HN : Hid (((rs.getD k zSk).ar.size : Int) ≤ x → ∀ r ∈ rs.take (k + 1), SkOK r) := fun q1 => take_nextSk hlt HA.out (show (rs.getD k zSk).ar.size ≤ 2000000 from by omega)
        rw [ha]
        clear ia
        generalize rs.getD k zSk = r at *
        obtain ⟨r0, r1, r2, r3, r4⟩ := r
        dsimp only at c0 c1 c2 c3 c4 HN
        obtain ⟨g0, g1, g2, g3, g4⟩ := hW
        have hsz := fun w => szSk_any r0 r1 r2 r3 r4 g1 x hx0 hx1 w
        clear g0 g1 g2 g3 g4
        go_wp2_with (go_at_call 26; refine (hsz _).mono ?_; rintro e w2 ⟨⟨y, rfl, hy⟩, hb2⟩; have HY : Hid _ := hy; have HB2 : Hid (Below w.heap.size w w2) := chain HB.out hb2; clear hy hb2)
        · go_ret
          exact ⟨-1, rfl, .inl (by omega), HB2.out⟩
        · rcases HY.out with h | ⟨y0, y1, z1⟩
          · omega
          have HN1 : Hid (∀ r ∈ rs.take (k + 1), SkOK r) := HN.out z1
          go_roundw
          case rel => exact ⟨k + 1, y, by omega, by go_num, rfl, by omega, by omega, HN1.out, HB2.out⟩
          case measure => simp [intOf]; omega
      · have hle : (rs.length : Int) ≤ (k : Int) := by omega
        have HE : Hid (∀ r ∈ rs, SkOK r) := by
          have := HA.out
          rw [List.take_of_length_le (by omega)] at this
          exact this
        go_wp2
        go_ret
        exact ⟨x, rfl, .inr ⟨hx0, hx1, by omega, HE.out⟩, HB.out⟩

/-! ### toStockActS -/
theorem toSk_any (r0 : Int) (r1 : ByteArray) (r2 : Int) (r3 : Int) (r4 : Int) (w : World) :
    Calls Try.prog 28 #[.agg #[.int .i64 r0, .string r1, .int .i64 r2, .int .i64 r3, .int .i64 r4]] w fun e w' => e = .returned (.agg #[.int .i64 r0, .string r1, .int .i64 r2, .int .i64 r3, .int .i64 r4]) ∧ Below w.heap.size w w' := by
  have l1 : ∀ n : Nat, n < n + 1 + 1 := fun n => by omega
  have l2 : ∀ n : Nat, n < n + 2 := fun n => by omega
  have l3 : ∀ n : Nat, n < n + 3 := fun n => by omega
  have l4 : ∀ n : Nat, n + 1 < n + 3 := fun n => by omega
  have l5 : ∀ n : Nat, n + 2 < n + 3 := fun n => by omega
  go_enter Try.func28, Try.ntmps28
  go_wp2
  refine bodyPost_ret (v := .agg #[.int .i64 r0, .string r1, .int .i64 r2, .int .i64 r3, .int .i64 r4]) (by simp [results, Try.results28, go_sem]) rfl ⟨rfl, ?_⟩
  repeat (first | exact Below.refl _ _ | refine chain ?_ (below_alloc _ _) | refine Below.setCell ?_ (by dsimp only; omega) _)
def skCell (r : RSk) (j : Nat) : Value := if j = 0 then .int .i64 r.kd else if j = 1 then .string r.ar else if j = 2 then .int .i64 r.lt else if j = 3 then .int .i64 r.nu else .int .i64 r.un
theorem skInfo : (Try.prog.info? 34).map (fun i => (i.zero, i.size, i.bytes)) = some (some (.agg #[.int .i64 0, .string ⟨#[]⟩, .int .i64 0, .int .i64 0, .int .i64 0]), 5, 48) := by kernel_rfl
theorem makeSks (n : Nat) (hn : n ≤ 100000000) (w : World) :
    (Instr.makeSlice 23 (.int .i64 (n : Int)) (.int .i64 (n : Int))).run Try.prog w = .ok (.slice (some ⟨w.heap.size, 0, none⟩) n n) (w.alloc (.cells (madeCells #[.int .i64 0, .string ⟨#[]⟩, .int .i64 0, .int .i64 0, .int .i64 0] (n * 5)) 34)) := by
  obtain ⟨i, hi, hzz⟩ := Option.map_eq_some_iff.1 skInfo
  simp only [Prod.mk.injEq] at hzz
  obtain ⟨hz, hs, hb⟩ := hzz
  have hr := run_make (P := Try.prog) w 23 34 i _ Try.underlying23 hi hz .i64 .i64 (n : Int) (n : Int) (by omega) (Int.le_refl _) (by rw [hb]; omega) (by omega)
  simp only [Int.toNat_natCast, hs] at hr
  exact hr
theorem sks_made (w : World) (n : Nat) : (w.alloc (.cells (madeCells #[.int .i64 0, .string ⟨#[]⟩, .int .i64 0, .int .i64 0, .int .i64 0] (n * 5)) 34)).rowIs w.heap.size 34 (n * 5) (fun j => skCell zSk (j % 5)) := by
  refine ⟨_, heapNew _ _, size_madeCells _ _, fun i hi => ?_⟩
  have h6 : i % 5 = 0 ∨ i % 5 = 1 ∨ i % 5 = 2 ∨ i % 5 = 3 ∨ i % 5 = 4 := by omega
  unfold skCell zSk
  rcases h6 with h | h | h | h | h <;> simp [madeCells, hi, h] <;> rfl
def skFill (rs : List RSk) (k j : Nat) : Value := skCell (if j / 5 < k then rs.getD (j / 5) zSk else zSk) (j % 5)
theorem skFill_set {w : World} {b : Nat} {rs : List RSk} {n k : Nat} (h : w.rowIs b 34 (n * 5) (skFill rs k)) :
    (((((w.setCell ⟨b, k * 5, none⟩ (.int .i64 (rs.getD k zSk).kd)).setCell ⟨b, k * 5 + 1, none⟩ (.string (rs.getD k zSk).ar)).setCell ⟨b, k * 5 + 2, none⟩ (.int .i64 (rs.getD k zSk).lt)).setCell ⟨b, k * 5 + 3, none⟩ (.int .i64 (rs.getD k zSk).nu)).setCell ⟨b, k * 5 + 4, none⟩ (.int .i64 (rs.getD k zSk).un)).rowIs b 34 (n * 5) (skFill rs (k + 1)) := by
  refine (((((h.set (k * 5) _).set (k * 5 + 1) _).set (k * 5 + 2) _).set (k * 5 + 3) _).set (k * 5 + 4) _).congr fun j hj => ?_
  unfold skFill
  by_cases e4 : j = k * 5 + 4
  · rw [if_pos e4, if_pos (by omega), show j / 5 = k by omega, show j % 5 = 4 by omega]; rfl
  rw [if_neg e4]
  by_cases e3 : j = k * 5 + 3
  · rw [if_pos e3, if_pos (by omega), show j / 5 = k by omega, show j % 5 = 3 by omega]; rfl
  rw [if_neg e3]
  by_cases e2 : j = k * 5 + 2
  · rw [if_pos e2, if_pos (by omega), show j / 5 = k by omega, show j % 5 = 2 by omega]; rfl
  rw [if_neg e2]
  by_cases e1 : j = k * 5 + 1
  · rw [if_pos e1, if_pos (by omega), show j / 5 = k by omega, show j % 5 = 1 by omega]; rfl
  rw [if_neg e1]
  by_cases e0 : j = k * 5
  · rw [if_pos e0, if_pos (by omega), show j / 5 = k by omega, show j % 5 = 0 by omega]; rfl
  rw [if_neg e0]
  by_cases h : j / 5 < k
  · rw [if_pos h, if_pos (by omega)]
  · rw [if_neg h, if_neg (by omega)]
def FreeSk (w : World) (b n : Nat) : Prop := ∀ j, j < n * 5 → w.frozen? ⟨b, j, none⟩ = false
theorem FreeSk.below {B : Nat} {w w' : World} {b n : Nat} (h : FreeSk w b n) (hb : Below B w w') (hB : b < B) : FreeSk w' b n := fun j hj => (hb.frozen (p := ⟨b, j, none⟩) hB).trans (h j hj)
theorem sksAt_of {w : World} {b : Nat} {rs : List RSk} (h : w.rowIs b 34 (rs.length * 5) (skFill rs rs.length)) : SksAt w b 0 rs := fun i hi => by
  refine ⟨?_, ?_, ?_, ?_, ?_⟩
  · rw [h.cell (i := 0 + i * 5) (by omega)]; unfold skFill; rw [if_pos (by omega), show (0 + i * 5) / 5 = i by omega, show (0 + i * 5) % 5 = 0 by omega]; rfl
  · rw [h.cell (i := 0 + i * 5 + 1) (by omega)]; unfold skFill; rw [if_pos (by omega), show (0 + i * 5 + 1) / 5 = i by omega, show (0 + i * 5 + 1) % 5 = 1 by omega]; rfl
  · rw [h.cell (i := 0 + i * 5 + 2) (by omega)]; unfold skFill; rw [if_pos (by omega), show (0 + i * 5 + 2) / 5 = i by omega, show (0 + i * 5 + 2) % 5 = 2 by omega]; rfl
  · rw [h.cell (i := 0 + i * 5 + 3) (by omega)]; unfold skFill; rw [if_pos (by omega), show (0 + i * 5 + 3) / 5 = i by omega, show (0 + i * 5 + 3) % 5 = 3 by omega]; rfl
  · rw [h.cell (i := 0 + i * 5 + 4) (by omega)]; unfold skFill; rw [if_pos (by omega), show (0 + i * 5 + 4) / 5 = i by omega, show (0 + i * 5 + 4) % 5 = 4 by omega]; rfl

set_option maxHeartbeats 2000000 in
theorem toSks_any (a : Option Addr) (cap : Nat) (rs : List RSk) (hn : rs.length ≤ 1048576) (w : World) (hr : ReadsSk w.heap.size w a rs) :
    Calls Try.prog 12 #[.slice a rs.length cap] w fun e w' => e = .returned (.slice (some ⟨w.heap.size, 0, none⟩) rs.length rs.length) ∧ Below w.heap.size w w' ∧ w.heap.size < w'.heap.size ∧ SksAt w' w.heap.size 0 rs ∧ FreeSk w' w.heap.size rs.length := by
  have hmk := fun w => makeSks rs.length (by omega) w
  have HM : Hid ((w.alloc (.cells (madeCells #[.int .i64 0, .string ⟨#[]⟩, .int .i64 0, .int .i64 0, .int .i64 0] (rs.length * 5)) 34)).rowIs w.heap.size 34 (rs.length * 5) (fun j => skCell zSk (j % 5))) := sks_made w rs.length
  have HR : Hid (ReadsSk w.heap.size w a rs) := hr
  clear hr
  go_enter Try.func12, Try.ntmps12
  go_wp2
  go_loopw [4] (fun i wr => ∃ k : Nat, k ≤ rs.length ∧ i = .int .i64 (k : Int) ∧ Below w.heap.size w wr ∧ wr.rowIs w.heap.size 34 (rs.length * 5) (skFill rs k)) (fun i _ => rs.length - (intOf i).toNat)
  case atStart => exact ⟨0, Nat.zero_le _, rfl, below_alloc _ _, HM.out.congr (fun i hi => by unfold skFill; rw [if_neg (by omega)])⟩
  case round =>
    obtain ⟨k, hk, rfl, hb, hrow⟩ := hrel
    have HB : Hid (Below w.heap.size w wr) := hb
    have HW : Hid (wr.rowIs w.heap.size 34 (rs.length * 5) (skFill rs k)) := hrow
    clear hb hrow
    by_cases hlt : k < rs.length
    · have hlt' : (k : Int) < (rs.length : Int) := by omega
      rcases HR.out with h | ⟨b0, o0, ha, hB0, ia⟩
      · rw [h] at hlt; simp at hlt
      obtain ⟨c0, c1, c2, c3, c4⟩ := (ia.below HB.out hB0) k hlt
      have HN : Hid (∀ w2, Below wr.heap.size wr w2 → (((((w2.setCell ⟨w.heap.size, k * 5, none⟩ (.int .i64 (rs.getD k zSk).kd)).setCell ⟨w.heap.size, k * 5 + 1, none⟩ (.string (rs.getD k zSk).ar)).setCell ⟨w.heap.size, k * 5 + 2, none⟩ (.int .i64 (rs.getD k zSk).lt)).setCell ⟨w.heap.size, k * 5 + 3, none⟩ (.int .i64 (rs.getD k zSk).nu)).setCell ⟨w.heap.size, k * 5 + 4, none⟩ (.int .i64 (rs.getD k zSk).un)).rowIs w.heap.size 34 (rs.length * 5) (skFill rs (k + 1)) ∧ Below w.heap.size w (((((w2.setCell ⟨w.heap.size, k * 5, none⟩ (.int .i64 (rs.getD k zSk).kd)).setCell ⟨w.heap.size, k * 5 + 1, none⟩ (.string (rs.getD k zSk).ar)).setCell ⟨w.heap.size, k * 5 + 2, none⟩ (.int .i64 (rs.getD k zSk).lt)).setCell ⟨w.heap.size, k * 5 + 3, none⟩ (.int .i64 (rs.getD k zSk).nu)).setCell ⟨w.heap.size, k * 5 + 4, none⟩ (.int .i64 (rs.getD k zSk).un)) ∧ (∀ j, j < 5 → (w2.cell? ⟨w.heap.size, k * 5 + j, none⟩).isSome = true) ∧ (∀ j, w2.frozen? ⟨w.heap.size, j, none⟩ = false)) := fun w2 hb2 => by
        have hw2 := HW.out.of_block (hb2.block _ HW.out.lt)
        refine ⟨skFill_set hw2, ((((((HB.out.trans (hb2.mono HB.out.size)).setCell (Nat.le_refl _) _).setCell (Nat.le_refl _) _).setCell (Nat.le_refl _) _).setCell (Nat.le_refl _) _).setCell (Nat.le_refl _) _), fun j hj => ?_, fun j => hw2.frozen j⟩
        rw [hw2.cell (by omega)]; rfl
      rw [ha]
      clear ia
      generalize rs.getD k zSk = r at *
      obtain ⟨r0, r1, r2, r3, r4⟩ := r
      dsimp only at c0 c1 c2 c3 c4 HN
      go_wp2_with (go_at_call 28; refine (toSk_any _ _ _ _ _ _).mono ?_; rintro e w2 ⟨rfl, hb2⟩; obtain ⟨n1, n2, n3, n4⟩ := HN.out w2 hb2; have N1 : Hid (_) := n1; have N2 : Hid (_) := n2; obtain ⟨v0, hv0⟩ := Option.isSome_iff_exists.mp (n3 0 (by omega)); obtain ⟨v1, hv1⟩ := Option.isSome_iff_exists.mp (n3 1 (by omega)); obtain ⟨v2, hv2⟩ := Option.isSome_iff_exists.mp (n3 2 (by omega)); obtain ⟨v3, hv3⟩ := Option.isSome_iff_exists.mp (n3 3 (by omega)); obtain ⟨v4, hv4⟩ := Option.isSome_iff_exists.mp (n3 4 (by omega)); rw [Nat.add_zero] at hv0; clear n1 n2 n3)
      go_roundw
      case rel => exact ⟨k + 1, by omega, by go_num, N2.out, N1.out⟩
      case measure => simp [intOf]; omega
    · obtain rfl : k = rs.length := by omega
      go_wp2
      go_ret
      exact ⟨rfl, HB.out, HW.out.lt, sksAt_of HW.out, fun j hj => HW.out.frozen j⟩
end Go.Proofs.Ytdhdecbdcfdmeaa

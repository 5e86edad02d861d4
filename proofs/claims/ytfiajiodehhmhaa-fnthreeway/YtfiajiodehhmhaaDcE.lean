/-
  The laws' own helpers on lists of DocLine: sz.., to...
-/
import Derived.Test.YtfiajiodehhmhaaDcA
namespace Go.Proofs.Ytfiajiodehhmhaa
open Go.ChangeShapes Go.WideShapes Go.ChangeAt Go.RowKit Go.Deep
set_option linter.unusedVariables false

theorem szDc_any (r0 : ByteArray) (r1 : Int) (r2 : Int) (hs0 : r0.size ≤ maxLen) (l : Int) (hl : 0 ≤ l) (hl' : l ≤ 1048576) (w : World) :
    Calls Try.prog 57 #[.agg #[.string r0, .int .i64 r1, .int .i64 r2], .int .i64 l] w fun e w' => (∃ x : Int, e = .returned (.int .i64 x) ∧ (x < 0 ∨ (0 ≤ x ∧ x ≤ l ∧ (r0.size : Int) ≤ l))) ∧ Below w.heap.size w w' := by
  unfold maxLen at hs0
  rcases (by omega : (l < (r0.size : Int)) ∨ ((r0.size : Int) ≤ l)) with c0 | c0
  all_goals
    go_enter Try.func57, Try.ntmps57
    go_wp2
    go_ret
    first
    | exact ⟨⟨-1, rfl, .inl (by omega)⟩, below_alloc _ _⟩
    | exact ⟨⟨_, rfl, .inr ⟨by omega, by omega, by omega⟩⟩, below_alloc _ _⟩
def SzDc (rs : List RDc) (w : World) (e : Ending) (w' : World) : Prop := ∃ x : Int, e = .returned (.int .i64 x) ∧ (x < 0 ∨ (0 ≤ x ∧ x ≤ 1048576 ∧ rs.length ≤ 1048576 ∧ ∀ r ∈ rs, DcOK r)) ∧ Below w.heap.size w w'
theorem take_nextDc {p : RDc → Prop} {rs : List RDc} {k : Nat} (h : k < rs.length) (ha : ∀ r ∈ rs.take k, p r) (hk : p (rs.getD k zDc)) : ∀ r ∈ rs.take (k + 1), p r := fun r hr => by
  rw [List.take_succ_eq_append_getElem h] at hr
  rcases List.mem_append.mp hr with h' | h'
  · exact ha r h'
  · simp at h'
    have e : rs.getD k zDc = rs[k] := by simp [List.getD_eq_getElem?_getD, h]
    rw [h', ← e]; exact hk

set_option maxHeartbeats 1000000 in
theorem szDcs_any (a : Option Addr) (cap : Nat) (rs : List RDc) (hl : rs.length ≤ maxLen) (hp : ∀ r ∈ rs, DcWide r) (x0 : Int) (hx0 : 0 ≤ x0) (hx1 : x0 ≤ 1048576) (w : World) (hr : ReadsDc w.heap.size w a rs) :
    Calls Try.prog 23 #[.slice a rs.length cap, .int .i64 x0] w (SzDc rs w) := by
  have HR : Hid (ReadsDc w.heap.size w a rs) := hr
  have HP : Hid (∀ r ∈ rs, DcWide r) := hp
  clear hr hp
  unfold maxLen at hl
  by_cases c1 : x0 < (rs.length : Int)
  · have hwr : IntKind.i64.wrap (x0 - (rs.length : Int)) = x0 - (rs.length : Int) := wrap_id _ (by omega) (by omega)
    go_enter Try.func23, Try.ntmps23
    go_wp2
    go_ret
    exact ⟨-1, rfl, .inl (by omega), Below.refl _ _⟩
  · have hwr : IntKind.i64.wrap (x0 - (rs.length : Int)) = x0 - (rs.length : Int) := wrap_id _ (by omega) (by omega)
    go_enter Try.func23, Try.ntmps23
    go_wp2
    go_loopw [1, 5] (fun l c wr => ∃ (k : Nat) (x : Int), k ≤ rs.length ∧ c = .int .i64 (k : Int) ∧ l = .int .i64 x ∧ 0 ≤ x ∧ x ≤ 1048576 ∧ (∀ r ∈ rs.take k, DcOK r) ∧ Below w.heap.size w wr) (fun _ c _ => rs.length - (intOf c).toNat)
    case atStart => exact ⟨0, x0 - (rs.length : Int), Nat.zero_le _, rfl, rfl, by omega, by omega, by simp, Below.refl _ _⟩
    case round =>
      obtain ⟨k, x, hk, rfl, rfl, hx0, hx1, hall, hb⟩ := hrel
      have HA : Hid (∀ r ∈ rs.take k, DcOK r) := hall
      have HB : Hid (Below w.heap.size w wr) := hb
      clear hall hb
      by_cases hlt : k < rs.length
      · have hlt' : (k : Int) < (rs.length : Int) := by omega
        rcases HR.out with h | ⟨b0, o0, ha, hB0, ia⟩
        · rw [h] at hlt; simp at hlt
        obtain ⟨c0, c1, c2⟩ := (ia.below HB.out hB0) k hlt
        have hW : DcWide (rs.getD k zDc) := getDc HP.out hlt
        have HN : Hid (((rs.getD k zDc).ar.size : Int) ≤ x → ∀ r ∈ rs.take (k + 1), DcOK r) := fun q0 => take_nextDc hlt HA.out (show (rs.getD k zDc).ar.size ≤ 2000000 from by omega)
        rw [ha]
        clear ia
        generalize rs.getD k zDc = r at *
        obtain ⟨r0, r1, r2⟩ := r
        dsimp only at c0 c1 c2 HN
        obtain ⟨g0, g1, g2⟩ := hW
        have hsz := fun w => szDc_any r0 r1 r2 g0 x hx0 hx1 w
        clear g0 g1 g2
        go_wp2_with (go_at_call 57; refine (hsz _).mono ?_; rintro e w2 ⟨⟨y, rfl, hy⟩, hb2⟩; have HY : Hid _ := hy; have HB2 : Hid (Below w.heap.size w w2) := chain HB.out hb2; clear hy hb2)
        · go_ret
          exact ⟨-1, rfl, .inl (by omega), HB2.out⟩
        · rcases HY.out with h | ⟨y0, y1, z0⟩
          · omega
          have HN1 : Hid (∀ r ∈ rs.take (k + 1), DcOK r) := HN.out z0
          go_roundw
          case rel => exact ⟨k + 1, y, by omega, by go_num, rfl, by omega, by omega, HN1.out, HB2.out⟩
          case measure => simp [intOf]; omega
      · have hle : (rs.length : Int) ≤ (k : Int) := by omega
        have HE : Hid (∀ r ∈ rs, DcOK r) := by
          have := HA.out
          rw [List.take_of_length_le (by omega)] at this
          exact this
        go_wp2
        go_ret
        exact ⟨x, rfl, .inr ⟨hx0, hx1, by omega, HE.out⟩, HB.out⟩

/-! ### toDocLineS -/
theorem toDc_any (r0 : ByteArray) (r1 : Int) (r2 : Int) (w : World) :
    Calls Try.prog 61 #[.agg #[.string r0, .int .i64 r1, .int .i64 r2]] w fun e w' => e = .returned (.agg #[.string r0, .int .i64 r1, .int .i64 r2]) ∧ Below w.heap.size w w' := by
  have l1 : ∀ n : Nat, n < n + 1 + 1 := fun n => by omega
  have l2 : ∀ n : Nat, n < n + 2 := fun n => by omega
  have l3 : ∀ n : Nat, n < n + 3 := fun n => by omega
  have l4 : ∀ n : Nat, n + 1 < n + 3 := fun n => by omega
  have l5 : ∀ n : Nat, n + 2 < n + 3 := fun n => by omega
  go_enter Try.func61, Try.ntmps61
  go_wp2
  refine bodyPost_ret (v := .agg #[.string r0, .int .i64 r1, .int .i64 r2]) (by simp [results, Try.results61, go_sem]) rfl ⟨rfl, ?_⟩
  repeat (first | exact Below.refl _ _ | refine chain ?_ (below_alloc _ _) | refine Below.setCell ?_ (by dsimp only; omega) _)
def dcCell (r : RDc) (j : Nat) : Value := if j = 0 then .string r.ar else if j = 1 then .int .i64 r.un else .int .i64 r.am
theorem dcInfo : (Try.prog.info? 80).map (fun i => (i.zero, i.size, i.bytes)) = some (some (.agg #[.string ⟨#[]⟩, .int .i64 0, .int .i64 0]), 3, 32) := by kernel_rfl
theorem makeDcs (n : Nat) (hn : n ≤ 100000000) (w : World) :
    (Instr.makeSlice 31 (.int .i64 (n : Int)) (.int .i64 (n : Int))).run Try.prog w = .ok (.slice (some ⟨w.heap.size, 0, none⟩) n n) (w.alloc (.cells (madeCells #[.string ⟨#[]⟩, .int .i64 0, .int .i64 0] (n * 3)) 80)) := by
  obtain ⟨i, hi, hzz⟩ := Option.map_eq_some_iff.1 dcInfo
  simp only [Prod.mk.injEq] at hzz
  obtain ⟨hz, hs, hb⟩ := hzz
  have hr := run_make (P := Try.prog) w 31 80 i _ Try.underlying31 hi hz .i64 .i64 (n : Int) (n : Int) (by omega) (Int.le_refl _) (by rw [hb]; omega) (by omega)
  simp only [Int.toNat_natCast, hs] at hr
  exact hr
theorem dcs_made (w : World) (n : Nat) : (w.alloc (.cells (madeCells #[.string ⟨#[]⟩, .int .i64 0, .int .i64 0] (n * 3)) 80)).rowIs w.heap.size 80 (n * 3) (fun j => dcCell zDc (j % 3)) := by
  refine ⟨_, heapNew _ _, size_madeCells _ _, fun i hi => ?_⟩
  have h6 : i % 3 = 0 ∨ i % 3 = 1 ∨ i % 3 = 2 := by omega
  unfold dcCell zDc
  rcases h6 with h | h | h <;> simp [madeCells, hi, h] <;> rfl
def dcFill (rs : List RDc) (k j : Nat) : Value := dcCell (if j / 3 < k then rs.getD (j / 3) zDc else zDc) (j % 3)
theorem dcFill_set {w : World} {b : Nat} {rs : List RDc} {n k : Nat} (h : w.rowIs b 80 (n * 3) (dcFill rs k)) :
    (((w.setCell ⟨b, k * 3, none⟩ (.string (rs.getD k zDc).ar)).setCell ⟨b, k * 3 + 1, none⟩ (.int .i64 (rs.getD k zDc).un)).setCell ⟨b, k * 3 + 2, none⟩ (.int .i64 (rs.getD k zDc).am)).rowIs b 80 (n * 3) (dcFill rs (k + 1)) := by
  refine (((h.set (k * 3) _).set (k * 3 + 1) _).set (k * 3 + 2) _).congr fun j hj => ?_
  unfold dcFill
  by_cases e2 : j = k * 3 + 2
  · rw [if_pos e2, if_pos (by omega), show j / 3 = k by omega, show j % 3 = 2 by omega]; rfl
  rw [if_neg e2]
  by_cases e1 : j = k * 3 + 1
  · rw [if_pos e1, if_pos (by omega), show j / 3 = k by omega, show j % 3 = 1 by omega]; rfl
  rw [if_neg e1]
  by_cases e0 : j = k * 3
  · rw [if_pos e0, if_pos (by omega), show j / 3 = k by omega, show j % 3 = 0 by omega]; rfl
  rw [if_neg e0]
  by_cases h : j / 3 < k
  · rw [if_pos h, if_pos (by omega)]
  · rw [if_neg h, if_neg (by omega)]
def FreeDc (w : World) (b n : Nat) : Prop := ∀ j, j < n * 3 → w.frozen? ⟨b, j, none⟩ = false
theorem FreeDc.below {B : Nat} {w w' : World} {b n : Nat} (h : FreeDc w b n) (hb : Below B w w') (hB : b < B) : FreeDc w' b n := fun j hj => (hb.frozen (p := ⟨b, j, none⟩) hB).trans (h j hj)
theorem dcsAt_of {w : World} {b : Nat} {rs : List RDc} (h : w.rowIs b 80 (rs.length * 3) (dcFill rs rs.length)) : DcsAt w b 0 rs := fun i hi => by
  refine ⟨?_, ?_, ?_⟩
  · rw [h.cell (i := 0 + i * 3) (by omega)]; unfold dcFill; rw [if_pos (by omega), show (0 + i * 3) / 3 = i by omega, show (0 + i * 3) % 3 = 0 by omega]; rfl
  · rw [h.cell (i := 0 + i * 3 + 1) (by omega)]; unfold dcFill; rw [if_pos (by omega), show (0 + i * 3 + 1) / 3 = i by omega, show (0 + i * 3 + 1) % 3 = 1 by omega]; rfl
  · rw [h.cell (i := 0 + i * 3 + 2) (by omega)]; unfold dcFill; rw [if_pos (by omega), show (0 + i * 3 + 2) / 3 = i by omega, show (0 + i * 3 + 2) % 3 = 2 by omega]; rfl

set_option maxHeartbeats 2000000 in
theorem toDcs_any (a : Option Addr) (cap : Nat) (rs : List RDc) (hn : rs.length ≤ 1048576) (w : World) (hr : ReadsDc w.heap.size w a rs) :
    Calls Try.prog 25 #[.slice a rs.length cap] w fun e w' => e = .returned (.slice (some ⟨w.heap.size, 0, none⟩) rs.length rs.length) ∧ Below w.heap.size w w' ∧ w.heap.size < w'.heap.size ∧ DcsAt w' w.heap.size 0 rs ∧ FreeDc w' w.heap.size rs.length := by
  have hmk := fun w => makeDcs rs.length (by omega) w
  have HM : Hid ((w.alloc (.cells (madeCells #[.string ⟨#[]⟩, .int .i64 0, .int .i64 0] (rs.length * 3)) 80)).rowIs w.heap.size 80 (rs.length * 3) (fun j => dcCell zDc (j % 3))) := dcs_made w rs.length
  have HR : Hid (ReadsDc w.heap.size w a rs) := hr
  clear hr
  go_enter Try.func25, Try.ntmps25
  go_wp2
  go_loopw [4] (fun i wr => ∃ k : Nat, k ≤ rs.length ∧ i = .int .i64 (k : Int) ∧ Below w.heap.size w wr ∧ wr.rowIs w.heap.size 80 (rs.length * 3) (dcFill rs k)) (fun i _ => rs.length - (intOf i).toNat)
  case atStart => exact ⟨0, Nat.zero_le _, rfl, below_alloc _ _, HM.out.congr (fun i hi => by unfold dcFill; rw [if_neg (by omega)])⟩
  case round =>
    obtain ⟨k, hk, rfl, hb, hrow⟩ := hrel
    have HB : Hid (Below w.heap.size w wr) := hb
    have HW : Hid (wr.rowIs w.heap.size 80 (rs.length * 3) (dcFill rs k)) := hrow
    clear hb hrow
    by_cases hlt : k < rs.length
    · have hlt' : (k : Int) < (rs.length : Int) := by omega
      rcases HR.out with h | ⟨b0, o0, ha, hB0, ia⟩
      · rw [h] at hlt; simp at hlt
      obtain ⟨c0, c1, c2⟩ := (ia.below HB.out hB0) k hlt
      have HN : Hid (∀ w2, Below wr.heap.size wr w2 → (((w2.setCell ⟨w.heap.size, k * 3, none⟩ (.string (rs.getD k zDc).ar)).setCell ⟨w.heap.size, k * 3 + 1, none⟩ (.int .i64 (rs.getD k zDc).un)).setCell ⟨w.heap.size, k * 3 + 2, none⟩ (.int .i64 (rs.getD k zDc).am)).rowIs w.heap.size 80 (rs.length * 3) (dcFill rs (k + 1)) ∧ Below w.heap.size w (((w2.setCell ⟨w.heap.size, k * 3, none⟩ (.string (rs.getD k zDc).ar)).setCell ⟨w.heap.size, k * 3 + 1, none⟩ (.int .i64 (rs.getD k zDc).un)).setCell ⟨w.heap.size, k * 3 + 2, none⟩ (.int .i64 (rs.getD k zDc).am)) ∧ (∀ j, j < 3 → (w2.cell? ⟨w.heap.size, k * 3 + j, none⟩).isSome = true) ∧ (∀ j, w2.frozen? ⟨w.heap.size, j, none⟩ = false)) := fun w2 hb2 => by
        have hw2 := HW.out.of_block (hb2.block _ HW.out.lt)
        refine ⟨dcFill_set hw2, ((((HB.out.trans (hb2.mono HB.out.size)).setCell (Nat.le_refl _) _).setCell (Nat.le_refl _) _).setCell (Nat.le_refl _) _), fun j hj => ?_, fun j => hw2.frozen j⟩
        rw [hw2.cell (by omega)]; rfl
      rw [ha]
      clear ia
      generalize rs.getD k zDc = r at *
      obtain ⟨r0, r1, r2⟩ := r
      dsimp only at c0 c1 c2 HN
      go_wp2_with (go_at_call 61; refine (toDc_any _ _ _ _).mono ?_; rintro e w2 ⟨rfl, hb2⟩; obtain ⟨n1, n2, n3, n4⟩ := HN.out w2 hb2; have N1 : Hid (_) := n1; have N2 : Hid (_) := n2; obtain ⟨v0, hv0⟩ := Option.isSome_iff_exists.mp (n3 0 (by omega)); obtain ⟨v1, hv1⟩ := Option.isSome_iff_exists.mp (n3 1 (by omega)); obtain ⟨v2, hv2⟩ := Option.isSome_iff_exists.mp (n3 2 (by omega)); rw [Nat.add_zero] at hv0; clear n1 n2 n3)
      go_roundw
      case rel => exact ⟨k + 1, by omega, by go_num, N2.out, N1.out⟩
      case measure => simp [intOf]; omega
    · obtain rfl : k = rs.length := by omega
      go_wp2
      go_ret
      exact ⟨rfl, HB.out, HW.out.lt, dcsAt_of HW.out, fun j hj => HW.out.frozen j⟩
end Go.Proofs.Ytfiajiodehhmhaa

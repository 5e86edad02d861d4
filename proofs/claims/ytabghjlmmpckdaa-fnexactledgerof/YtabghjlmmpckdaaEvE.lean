/-
  The laws' own helpers on lists of Event: sz.., to...
-/
import Derived.Test.YtabghjlmmpckdaaEvA
namespace Go.Proofs.Ytabghjlmmpckdaa
open Go.ChangeShapes Go.WideShapes Go.ChangeAt Go.RowKit Go.Deep
set_option linter.unusedVariables false

theorem szEv_any (r0 : Int) (r1 : Int) (r2 : Int) (r3 : Int) (r4 : ByteArray) (r5 : Int) (hs4 : r4.size ≤ maxLen) (l : Int) (hl : 0 ≤ l) (hl' : l ≤ 1048576) (w : World) :
    Calls Try.prog 27 #[.agg #[.int .i64 r0, .int .i64 r1, .int .i64 r2, .int .i64 r3, .string r4, .int .i64 r5], .int .i64 l] w fun e w' => (∃ x : Int, e = .returned (.int .i64 x) ∧ (x < 0 ∨ (0 ≤ x ∧ x ≤ l ∧ (r4.size : Int) ≤ l))) ∧ Below w.heap.size w w' := by
  unfold maxLen at hs4
  rcases (by omega : (l < (r4.size : Int)) ∨ ((r4.size : Int) ≤ l)) with c0 | c0
  all_goals
    go_enter Try.func27, Try.ntmps27
    go_wp2
    go_ret
    first
    | exact ⟨⟨-1, rfl, .inl (by omega)⟩, below_alloc _ _⟩
    | exact ⟨⟨_, rfl, .inr ⟨by omega, by omega, by omega⟩⟩, below_alloc _ _⟩
def SzEv (rs : List REv) (w : World) (e : Ending) (w' : World) : Prop := ∃ x : Int, e = .returned (.int .i64 x) ∧ (x < 0 ∨ (0 ≤ x ∧ x ≤ 1048576 ∧ rs.length ≤ 1048576 ∧ ∀ r ∈ rs, EvOK r)) ∧ Below w.heap.size w w'
theorem take_nextEv {p : REv → Prop} {rs : List REv} {k : Nat} (h : k < rs.length) (ha : ∀ r ∈ rs.take k, p r) (hk : p (rs.getD k zEv)) : ∀ r ∈ rs.take (k + 1), p r := fun r hr => by
  rw [List.take_succ_eq_append_getElem h] at hr
  rcases List.mem_append.mp hr with h' | h'
  · exact ha r h'
  · simp at h'
    have e : rs.getD k zEv = rs[k] := by simp [List.getD_eq_getElem?_getD, h]
    rw [h', ← e]; exact hk

set_option maxHeartbeats 1000000 in
theorem szEvs_any (a : Option Addr) (cap : Nat) (rs : List REv) (hl : rs.length ≤ maxLen) (hp : ∀ r ∈ rs, EvWide r) (x0 : Int) (hx0 : 0 ≤ x0) (hx1 : x0 ≤ 1048576) (w : World) (hr : ReadsEv w.heap.size w a rs) :
    Calls Try.prog 11 #[.slice a rs.length cap, .int .i64 x0] w (SzEv rs w) := by
  have HR : Hid (ReadsEv w.heap.size w a rs) := hr
  have HP : Hid (∀ r ∈ rs, EvWide r) := hp
  clear hr hp
  unfold maxLen at hl
  by_cases c1 : x0 < (rs.length : Int)
  · have hwr : IntKind.i64.wrap (x0 - (rs.length : Int)) = x0 - (rs.length : Int) := wrap_id _ (by omega) (by omega)
    go_enter Try.func11, Try.ntmps11
    go_wp2
    go_ret
    exact ⟨-1, rfl, .inl (by omega), Below.refl _ _⟩
  · have hwr : IntKind.i64.wrap (x0 - (rs.length : Int)) = x0 - (rs.length : Int) := wrap_id _ (by omega) (by omega)
    go_enter Try.func11, Try.ntmps11
    go_wp2
    go_loopw [1, 5] (fun l c wr => ∃ (k : Nat) (x : Int), k ≤ rs.length ∧ c = .int .i64 (k : Int) ∧ l = .int .i64 x ∧ 0 ≤ x ∧ x ≤ 1048576 ∧ (∀ r ∈ rs.take k, EvOK r) ∧ Below w.heap.size w wr) (fun _ c _ => rs.length - (intOf c).toNat)
    case atStart => exact ⟨0, x0 - (rs.length : Int), Nat.zero_le _, rfl, rfl, by omega, by omega, by simp, Below.refl _ _⟩
    case round =>
      obtain ⟨k, x, hk, rfl, rfl, hx0, hx1, hall, hb⟩ := hrel
      have HA : Hid (∀ r ∈ rs.take k, EvOK r) := hall
      have HB : Hid (Below w.heap.size w wr) := hb
      clear hall hb
      by_cases hlt : k < rs.length
      · have hlt' : (k : Int) < (rs.length : Int) := by omega
        rcases HR.out with h | ⟨b0, o0, ha, hB0, ia⟩
        · rw [h] at hlt; simp at hlt
        obtain ⟨c0, c1, c2, c3, c4, c5⟩ := (ia.below HB.out hB0) k hlt
        have hW : EvWide (rs.getD k zEv) := getEv HP.out hlt
        have HN : Hid (((rs.getD k zEv).cd.size : Int) ≤ x → ∀ r ∈ rs.take (k + 1), EvOK r) := fun q4 => take_nextEv hlt HA.out (show (rs.getD k zEv).cd.size ≤ 2000000 from by omega)
        rw [ha]
        clear ia
        generalize rs.getD k zEv = r at *
        obtain ⟨r0, r1, r2, r3, r4, r5⟩ := r
        dsimp only at c0 c1 c2 c3 c4 c5 HN
        obtain ⟨g0, g1, g2, g3, g4, g5⟩ := hW
        have hsz := fun w => szEv_any r0 r1 r2 r3 r4 r5 g4 x hx0 hx1 w
        clear g0 g1 g2 g3 g4 g5
        go_wp2_with (go_at_call 27; refine (hsz _).mono ?_; rintro e w2 ⟨⟨y, rfl, hy⟩, hb2⟩; have HY : Hid _ := hy; have HB2 : Hid (Below w.heap.size w w2) := chain HB.out hb2; clear hy hb2)
        · go_ret
          exact ⟨-1, rfl, .inl (by omega), HB2.out⟩
        · rcases HY.out with h | ⟨y0, y1, z4⟩
          · omega
          have HN1 : Hid (∀ r ∈ rs.take (k + 1), EvOK r) := HN.out z4
          go_roundw
          case rel => exact ⟨k + 1, y, by omega, by go_num, rfl, by omega, by omega, HN1.out, HB2.out⟩
          case measure => simp [intOf]; omega
      · have hle : (rs.length : Int) ≤ (k : Int) := by omega
        have HE : Hid (∀ r ∈ rs, EvOK r) := by
          have := HA.out
          rw [List.take_of_length_le (by omega)] at this
          exact this
        go_wp2
        go_ret
        exact ⟨x, rfl, .inr ⟨hx0, hx1, by omega, HE.out⟩, HB.out⟩

/-! ### toEventS -/
theorem toEv_any (r0 : Int) (r1 : Int) (r2 : Int) (r3 : Int) (r4 : ByteArray) (r5 : Int) (w : World) :
    Calls Try.prog 30 #[.agg #[.int .i64 r0, .int .i64 r1, .int .i64 r2, .int .i64 r3, .string r4, .int .i64 r5]] w fun e w' => e = .returned (.agg #[.int .i64 r0, .int .i64 r1, .int .i64 r2, .int .i64 r3, .string r4, .int .i64 r5]) ∧ Below w.heap.size w w' := by
  have l1 : ∀ n : Nat, n < n + 1 + 1 := fun n => by omega
  have l2 : ∀ n : Nat, n < n + 2 := fun n => by omega
  have l3 : ∀ n : Nat, n < n + 3 := fun n => by omega
  have l4 : ∀ n : Nat, n + 1 < n + 3 := fun n => by omega
  have l5 : ∀ n : Nat, n + 2 < n + 3 := fun n => by omega
  go_enter Try.func30, Try.ntmps30
  go_wp2
  refine bodyPost_ret (v := .agg #[.int .i64 r0, .int .i64 r1, .int .i64 r2, .int .i64 r3, .string r4, .int .i64 r5]) (by simp [results, Try.results30, go_sem]) rfl ⟨rfl, ?_⟩
  repeat (first | exact Below.refl _ _ | refine chain ?_ (below_alloc _ _) | refine Below.setCell ?_ (by dsimp only; omega) _)
def evCell (r : REv) (j : Nat) : Value := if j = 0 then .int .i64 r.sh else if j = 1 then .int .i64 r.sq else if j = 2 then .int .i64 r.tm else if j = 3 then .int .i64 r.kd else if j = 4 then .string r.cd else .int .i64 r.am
theorem evInfo : (Try.prog.info? 35).map (fun i => (i.zero, i.size, i.bytes)) = some (some (.agg #[.int .i64 0, .int .i64 0, .int .i64 0, .int .i64 0, .string ⟨#[]⟩, .int .i64 0]), 6, 56) := by kernel_rfl
theorem makeEvs (n : Nat) (hn : n ≤ 100000000) (w : World) :
    (Instr.makeSlice 24 (.int .i64 (n : Int)) (.int .i64 (n : Int))).run Try.prog w = .ok (.slice (some ⟨w.heap.size, 0, none⟩) n n) (w.alloc (.cells (madeCells #[.int .i64 0, .int .i64 0, .int .i64 0, .int .i64 0, .string ⟨#[]⟩, .int .i64 0] (n * 6)) 35)) := by
  obtain ⟨i, hi, hzz⟩ := Option.map_eq_some_iff.1 evInfo
  simp only [Prod.mk.injEq] at hzz
  obtain ⟨hz, hs, hb⟩ := hzz
  have hr := run_make (P := Try.prog) w 24 35 i _ Try.underlying24 hi hz .i64 .i64 (n : Int) (n : Int) (by omega) (Int.le_refl _) (by rw [hb]; omega) (by omega)
  simp only [Int.toNat_natCast, hs] at hr
  exact hr
theorem evs_made (w : World) (n : Nat) : (w.alloc (.cells (madeCells #[.int .i64 0, .int .i64 0, .int .i64 0, .int .i64 0, .string ⟨#[]⟩, .int .i64 0] (n * 6)) 35)).rowIs w.heap.size 35 (n * 6) (fun j => evCell zEv (j % 6)) := by
  refine ⟨_, heapNew _ _, size_madeCells _ _, fun i hi => ?_⟩
  have h6 : i % 6 = 0 ∨ i % 6 = 1 ∨ i % 6 = 2 ∨ i % 6 = 3 ∨ i % 6 = 4 ∨ i % 6 = 5 := by omega
  unfold evCell zEv
  rcases h6 with h | h | h | h | h | h <;> simp [madeCells, hi, h] <;> rfl
def evFill (rs : List REv) (k j : Nat) : Value := evCell (if j / 6 < k then rs.getD (j / 6) zEv else zEv) (j % 6)
theorem evFill_set {w : World} {b : Nat} {rs : List REv} {n k : Nat} (h : w.rowIs b 35 (n * 6) (evFill rs k)) :
    ((((((w.setCell ⟨b, k * 6, none⟩ (.int .i64 (rs.getD k zEv).sh)).setCell ⟨b, k * 6 + 1, none⟩ (.int .i64 (rs.getD k zEv).sq)).setCell ⟨b, k * 6 + 2, none⟩ (.int .i64 (rs.getD k zEv).tm)).setCell ⟨b, k * 6 + 3, none⟩ (.int .i64 (rs.getD k zEv).kd)).setCell ⟨b, k * 6 + 4, none⟩ (.string (rs.getD k zEv).cd)).setCell ⟨b, k * 6 + 5, none⟩ (.int .i64 (rs.getD k zEv).am)).rowIs b 35 (n * 6) (evFill rs (k + 1)) := by
  refine ((((((h.set (k * 6) _).set (k * 6 + 1) _).set (k * 6 + 2) _).set (k * 6 + 3) _).set (k * 6 + 4) _).set (k * 6 + 5) _).congr fun j hj => ?_
  unfold evFill
  by_cases e5 : j = k * 6 + 5
  · rw [if_pos e5, if_pos (by omega), show j / 6 = k by omega, show j % 6 = 5 by omega]; rfl
  rw [if_neg e5]
  by_cases e4 : j = k * 6 + 4
  · rw [if_pos e4, if_pos (by omega), show j / 6 = k by omega, show j % 6 = 4 by omega]; rfl
  rw [if_neg e4]
  by_cases e3 : j = k * 6 + 3
  · rw [if_pos e3, if_pos (by omega), show j / 6 = k by omega, show j % 6 = 3 by omega]; rfl
  rw [if_neg e3]
  by_cases e2 : j = k * 6 + 2
  · rw [if_pos e2, if_pos (by omega), show j / 6 = k by omega, show j % 6 = 2 by omega]; rfl
  rw [if_neg e2]
  by_cases e1 : j = k * 6 + 1
  · rw [if_pos e1, if_pos (by omega), show j / 6 = k by omega, show j % 6 = 1 by omega]; rfl
  rw [if_neg e1]
  by_cases e0 : j = k * 6
  · rw [if_pos e0, if_pos (by omega), show j / 6 = k by omega, show j % 6 = 0 by omega]; rfl
  rw [if_neg e0]
  by_cases h : j / 6 < k
  · rw [if_pos h, if_pos (by omega)]
  · rw [if_neg h, if_neg (by omega)]
def FreeEv (w : World) (b n : Nat) : Prop := ∀ j, j < n * 6 → w.frozen? ⟨b, j, none⟩ = false
theorem FreeEv.below {B : Nat} {w w' : World} {b n : Nat} (h : FreeEv w b n) (hb : Below B w w') (hB : b < B) : FreeEv w' b n := fun j hj => (hb.frozen (p := ⟨b, j, none⟩) hB).trans (h j hj)
theorem evsAt_of {w : World} {b : Nat} {rs : List REv} (h : w.rowIs b 35 (rs.length * 6) (evFill rs rs.length)) : EvsAt w b 0 rs := fun i hi => by
  refine ⟨?_, ?_, ?_, ?_, ?_, ?_⟩
  · rw [h.cell (i := 0 + i * 6) (by omega)]; unfold evFill; rw [if_pos (by omega), show (0 + i * 6) / 6 = i by omega, show (0 + i * 6) % 6 = 0 by omega]; rfl
  · rw [h.cell (i := 0 + i * 6 + 1) (by omega)]; unfold evFill; rw [if_pos (by omega), show (0 + i * 6 + 1) / 6 = i by omega, show (0 + i * 6 + 1) % 6 = 1 by omega]; rfl
  · rw [h.cell (i := 0 + i * 6 + 2) (by omega)]; unfold evFill; rw [if_pos (by omega), show (0 + i * 6 + 2) / 6 = i by omega, show (0 + i * 6 + 2) % 6 = 2 by omega]; rfl
  · rw [h.cell (i := 0 + i * 6 + 3) (by omega)]; unfold evFill; rw [if_pos (by omega), show (0 + i * 6 + 3) / 6 = i by omega, show (0 + i * 6 + 3) % 6 = 3 by omega]; rfl
  · rw [h.cell (i := 0 + i * 6 + 4) (by omega)]; unfold evFill; rw [if_pos (by omega), show (0 + i * 6 + 4) / 6 = i by omega, show (0 + i * 6 + 4) % 6 = 4 by omega]; rfl
  · rw [h.cell (i := 0 + i * 6 + 5) (by omega)]; unfold evFill; rw [if_pos (by omega), show (0 + i * 6 + 5) / 6 = i by omega, show (0 + i * 6 + 5) % 6 = 5 by omega]; rfl

set_option maxHeartbeats 2000000 in
theorem toEvs_any (a : Option Addr) (cap : Nat) (rs : List REv) (hn : rs.length ≤ 1048576) (w : World) (hr : ReadsEv w.heap.size w a rs) :
    Calls Try.prog 13 #[.slice a rs.length cap] w fun e w' => e = .returned (.slice (some ⟨w.heap.size, 0, none⟩) rs.length rs.length) ∧ Below w.heap.size w w' ∧ w.heap.size < w'.heap.size ∧ EvsAt w' w.heap.size 0 rs ∧ FreeEv w' w.heap.size rs.length := by
  have hmk := fun w => makeEvs rs.length (by omega) w
  have HM : Hid ((w.alloc (.cells (madeCells #[.int .i64 0, .int .i64 0, .int .i64 0, .int .i64 0, .string ⟨#[]⟩, .int .i64 0] (rs.length * 6)) 35)).rowIs w.heap.size 35 (rs.length * 6) (fun j => evCell zEv (j % 6))) := evs_made w rs.length
  have HR : Hid (ReadsEv w.heap.size w a rs) := hr
  clear hr
  go_enter Try.func13, Try.ntmps13
  go_wp2
  go_loopw [4] (fun i wr => ∃ k : Nat, k ≤ rs.length ∧ i = .int .i64 (k : Int) ∧ Below w.heap.size w wr ∧ wr.rowIs w.heap.size 35 (rs.length * 6) (evFill rs k)) (fun i _ => rs.length - (intOf i).toNat)
  case atStart => exact ⟨0, Nat.zero_le _, rfl, below_alloc _ _, HM.out.congr (fun i hi => by unfold evFill; rw [if_neg (by omega)])⟩
  case round =>
    obtain ⟨k, hk, rfl, hb, hrow⟩ := hrel
    have HB : Hid (Below w.heap.size w wr) := hb
    have HW : Hid (wr.rowIs w.heap.size 35 (rs.length * 6) (evFill rs k)) := hrow
    clear hb hrow
    by_cases hlt : k < rs.length
    · have hlt' : (k : Int) < (rs.length : Int) := by omega
      rcases HR.out with h | ⟨b0, o0, ha, hB0, ia⟩
      · rw [h] at hlt; simp at hlt
      obtain ⟨c0, c1, c2, c3, c4, c5⟩ := (ia.below HB.out hB0) k hlt
      have HN : Hid (∀ w2, Below wr.heap.size wr w2 → ((((((w2.setCell ⟨w.heap.size, k * 6, none⟩ (.int .i64 (rs.getD k zEv).sh)).setCell ⟨w.heap.size, k * 6 + 1, none⟩ (.int .i64 (rs.getD k zEv).sq)).setCell ⟨w.heap.size, k * 6 + 2, none⟩ (.int .i64 (rs.getD k zEv).tm)).setCell ⟨w.heap.size, k * 6 + 3, none⟩ (.int .i64 (rs.getD k zEv).kd)).setCell ⟨w.heap.size, k * 6 + 4, none⟩ (.string (rs.getD k zEv).cd)).setCell ⟨w.heap.size, k * 6 + 5, none⟩ (.int .i64 (rs.getD k zEv).am)).rowIs w.heap.size 35 (rs.length * 6) (evFill rs (k + 1)) ∧ Below w.heap.size w ((((((w2.setCell ⟨w.heap.size, k * 6, none⟩ (.int .i64 (rs.getD k zEv).sh)).setCell ⟨w.heap.size, k * 6 + 1, none⟩ (.int .i64 (rs.getD k zEv).sq)).setCell ⟨w.heap.size, k * 6 + 2, none⟩ (.int .i64 (rs.getD k zEv).tm)).setCell ⟨w.heap.size, k * 6 + 3, none⟩ (.int .i64 (rs.getD k zEv).kd)).setCell ⟨w.heap.size, k * 6 + 4, none⟩ (.string (rs.getD k zEv).cd)).setCell ⟨w.heap.size, k * 6 + 5, none⟩ (.int .i64 (rs.getD k zEv).am)) ∧ (∀ j, j < 6 → (w2.cell? ⟨w.heap.size, k * 6 + j, none⟩).isSome = true) ∧ (∀ j, w2.frozen? ⟨w.heap.size, j, none⟩ = false)) := fun w2 hb2 => by
        have hw2 := HW.out.of_block (hb2.block _ HW.out.lt)
        refine ⟨evFill_set hw2, (((((((HB.out.trans (hb2.mono HB.out.size)).setCell (Nat.le_refl _) _).setCell (Nat.le_refl _) _).setCell (Nat.le_refl _) _).setCell (Nat.le_refl _) _).setCell (Nat.le_refl _) _).setCell (Nat.le_refl _) _), fun j hj => ?_, fun j => hw2.frozen j⟩
        rw [hw2.cell (by omega)]; rfl
      rw [ha]
      clear ia
      generalize rs.getD k zEv = r at *
      obtain ⟨r0, r1, r2, r3, r4, r5⟩ := r
      dsimp only at c0 c1 c2 c3 c4 c5 HN
      go_wp2_with (go_at_call 30; refine (toEv_any _ _ _ _ _ _ _).mono ?_; rintro e w2 ⟨rfl, hb2⟩; obtain ⟨n1, n2, n3, n4⟩ := HN.out w2 hb2; have N1 : Hid (_) := n1; have N2 : Hid (_) := n2; obtain ⟨v0, hv0⟩ := Option.isSome_iff_exists.mp (n3 0 (by omega)); obtain ⟨v1, hv1⟩ := Option.isSome_iff_exists.mp (n3 1 (by omega)); obtain ⟨v2, hv2⟩ := Option.isSome_iff_exists.mp (n3 2 (by omega)); obtain ⟨v3, hv3⟩ := Option.isSome_iff_exists.mp (n3 3 (by omega)); obtain ⟨v4, hv4⟩ := Option.isSome_iff_exists.mp (n3 4 (by omega)); obtain ⟨v5, hv5⟩ := Option.isSome_iff_exists.mp (n3 5 (by omega)); rw [Nat.add_zero] at hv0; clear n1 n2 n3)
      go_roundw
      case rel => exact ⟨k + 1, by omega, by go_num, N2.out, N1.out⟩
      case measure => simp [intOf]; omega
    · obtain rfl : k = rs.length := by omega
      go_wp2
      go_ret
      exact ⟨rfl, HB.out, HW.out.lt, evsAt_of HW.out, fun j hj => HW.out.frozen j⟩
end Go.Proofs.Ytabghjlmmpckdaa

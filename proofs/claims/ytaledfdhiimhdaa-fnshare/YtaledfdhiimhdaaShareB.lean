/-
  Contract of the program's shareSize, for every list of right weights.
-/
import Derived.Test.YtaledfdhiimhdaaShareMath
import Derived.Test.YtaledfdhiimhdaaRound
import Derived.BigRegion
import Derived.Deep.WholeRow
namespace Go.Proofs.Ytaledfdhiimhdaa
open Go.ChangeShapes Go.WideShapes Go.ChangeAt Go.RowKit
set_option linter.unusedVariables false

def p0 (z S : Int) (ws : List Int) : List Int := ws.map fun x => z * x / S
def r0 (z S : Int) (ws : List Int) : List Int := ws.map fun x => z * x % S
def leftOf (z S : Int) (ws : List Int) : Int := z - (p0 z S ws).sum

theorem row_below {w w' : World} {b : Nat} {t : TypeId} {n : Nat} {f : Nat → Value} (h : w.rowIs b t n f) (hb : Below w.heap.size w w') : w'.rowIs b t n f := h.of_block (hb.block b h.lt)
theorem mul_range (z x : Int) (hz : 0 ≤ z) (hz' : z ≤ 1000000000) (hx : 0 ≤ x) (hx' : x ≤ 1000000) : 0 ≤ z * x ∧ z * x ≤ 1000000000000000 := by
  refine ⟨Int.mul_nonneg hz hx, ?_⟩
  have h1 : z * x ≤ z * 1000000 := Int.mul_le_mul_of_nonneg_left hx' hz
  omega
theorem p0_next (z S : Int) (ws : List Int) (k : Nat) (h : k < ws.length) : ((p0 z S ws).take (k + 1)).sum = ((p0 z S ws).take k).sum + z * ws.getD k 0 / S ∧ (p0 z S ws).getD k 0 = z * ws.getD k 0 / S ∧ (r0 z S ws).getD k 0 = z * ws.getD k 0 % S := by
  have hp : k < (p0 z S ws).length := by unfold p0; simpa using h
  have e1 : (p0 z S ws)[k] = z * ws.getD k 0 / S := by simp [p0, List.getD_eq_getElem?_getD, h]
  refine ⟨?_, ?_, ?_⟩
  · rw [List.take_succ_eq_append_getElem hp, List.sum_append, e1]; simp
  · rw [getD_int hp, e1]
  · have hr : k < (r0 z S ws).length := by unfold r0; simpa using h
    rw [getD_int hr]; simp [r0, List.getD_eq_getElem?_getD, h]
theorem sum_take_bound (z S : Int) (ws : List Int) : ∀ k, 0 ≤ z → 1 ≤ S → (∀ x ∈ ws, 0 ≤ x ∧ x ≤ 1000000) → 0 ≤ ((p0 z S ws).take k).sum ∧ ((p0 z S ws).take k).sum ≤ (k : Int) * (z * 1000000) := by
  intro k hz hS hw
  induction k with
  | zero => simp
  | succ k ih =>
    have e : ((k + 1 : Nat) : Int) * (z * 1000000) = (k : Int) * (z * 1000000) + z * 1000000 := by rw [Int.natCast_succ, Int.add_mul, Int.one_mul]
    have hz6 : 0 ≤ z * 1000000 := by omega
    by_cases h : k < ws.length
    · rw [(p0_next z S ws k h).1, e]
      have hx := hw (ws.getD k 0) (by rw [getD_int h]; exact List.getElem_mem _)
      have h1 : z * ws.getD k 0 ≤ z * 1000000 := Int.mul_le_mul_of_nonneg_left hx.2 hz
      have h0 := Int.mul_nonneg hz hx.1
      obtain ⟨d1, d2⟩ := ediv_bound (z * ws.getD k 0) S hS (z * 1000000) (by omega) h1
      have d3 : 0 ≤ z * ws.getD k 0 / S := Int.ediv_nonneg h0 (by omega)
      omega
    · rw [List.take_of_length_le (by unfold p0; simp; omega)]
      rw [List.take_of_length_le (by unfold p0; simp; omega)] at ih
      omega


theorem IntsAt.of_row {w : World} {b : Nat} {t : TypeId} {n : Nat} {xs : List Int} (hl : xs.length = n) (h : w.rowIs b t n (fun i => .int .i64 (xs.getD i 0))) : IntsAt w b 0 xs := fun i hi => by rw [Nat.zero_add]; exact h.cell (by omega)

theorem p0_bound (z S : Int) (ws : List Int) (hz : 0 ≤ z) (hz' : z ≤ 1000000000) (hS : 1 ≤ S) (hw : ∀ x ∈ ws, 0 ≤ x ∧ x ≤ 1000000) (i : Nat) (h : i < ws.length) : 0 ≤ (p0 z S ws).getD i 0 ∧ (p0 z S ws).getD i 0 ≤ 1000000000000000 := by
  rw [(p0_next z S ws i h).2.1]
  have hx := hw (ws.getD i 0) (by rw [getD_int h]; exact List.getElem_mem _)
  obtain ⟨h1, h2⟩ := mul_range z (ws.getD i 0) hz hz' hx.1 hx.2
  obtain ⟨d1, d2⟩ := ediv_bound (z * ws.getD i 0) S hS 1000000000000000 (by omega) h2
  exact ⟨Int.ediv_nonneg h1 (by omega), d2⟩

set_option maxHeartbeats 4000000 in
theorem shareSize_at (B : Nat) (a : Option Addr) (cap : Nat) (ws : List Int) (z S : Int) (hn : ws.length ≤ 60) (hp : 0 < ws.length) (hz : 0 ≤ z) (hz' : z ≤ 1000000000) (hS : 1 ≤ S) (hS' : S ≤ 60000000) (hw : ∀ x ∈ ws, 0 ≤ x ∧ x ≤ 1000000) (w : World) (hBw : B = w.heap.size) (hr : Reads B w a ws) :
    Calls Try.prog 27 #[.int .i64 z, .slice a ws.length cap, .int .i64 S] w fun e w' => ∃ g, e = .returned (.slice (some ⟨g, 0, none⟩) ws.length ws.length) ∧ B ≤ g ∧ w'.rowIs g 3 ws.length (fun i => .int .i64 ((shl 0 (leftOf z S ws).toNat (p0 z S ws) (r0 z S ws)).getD i 0)) ∧ Below B w w' := by
  have hmk := fun w => run_make_row' (P := Try.prog) 23 3 (.int .i64 0) 8 Try.underlying23 intInfo rfl .i64 .i64 ws.length (by omega) (by omega) w
  have HR : Hid (Reads B w a ws) := hr
  have HWs : Hid (∀ x ∈ ws, 0 ≤ x ∧ x ≤ 1000000) := hw
  clear hr hw
  go_enter Try.func27, Try.ntmps27
  go_wp2_with fail
  go_region
  all_goals
    have hb0 : Below B w ((w.alloc (Obj.cells (madeCells #[Value.int .i64 0] ws.length) 3)).alloc (Obj.cells (madeCells #[Value.int .i64 0] ws.length) 3)).drew := by
      rw [hBw]; exact ((((Below.refl _ _).alloc (Nat.le_refl _) _).alloc (by simp) _).drew)
    have h1 : ((w.alloc (Obj.cells (madeCells #[Value.int .i64 0] ws.length) 3)).alloc (Obj.cells (madeCells #[Value.int .i64 0] ws.length) 3)).drew.rowIs w.heap.size 3 ws.length (fun _ => .int .i64 0) := ((World.rowIs_made w (.int .i64 0) ws.length 3).alloc _).drew
    have h2 : ((w.alloc (Obj.cells (madeCells #[Value.int .i64 0] ws.length) 3)).alloc (Obj.cells (madeCells #[Value.int .i64 0] ws.length) 3)).drew.rowIs (w.heap.size + 1) 3 ws.length (fun _ => .int .i64 0) := by
      have h := World.rowIs_made (w.alloc (Obj.cells (madeCells #[Value.int .i64 0] ws.length) 3)) (.int .i64 0) ws.length 3
      have e : (w.alloc (Obj.cells (madeCells #[Value.int .i64 0] ws.length) 3)).heap.size = w.heap.size + 1 := by simp
      rw [e] at h
      exact h.drew
    generalize ((w.alloc (Obj.cells (madeCells #[Value.int .i64 0] ws.length) 3)).alloc (Obj.cells (madeCells #[Value.int .i64 0] ws.length) 3)).drew = W2 at *
    have hlt0 : B ≤ w.heap.size := by omega
    have hlt1 : B ≤ w.heap.size + 1 := by omega
    have hne : w.heap.size ≠ w.heap.size + 1 := by omega
    clear hmk hBw
  case' _ =>
    generalize w.heap.size + 1 = G1 at *
    generalize w.heap.size = G0 at *
    have HA : Hid (W2.rowIs G0 3 ws.length (fun _ => .int .i64 0)) := h1
    have HB : Hid (W2.rowIs G1 3 ws.length (fun _ => .int .i64 0)) := h2
    have hG0 : B ≤ G0 := hlt0
    have hG1 : B ≤ G1 := hlt1
    have hNE : G0 ≠ G1 := hne
  rotate_left
  case' _ =>
    generalize w.heap.size + 1 = G0 at *
    generalize w.heap.size = G1 at *
    have HA : Hid (W2.rowIs G0 3 ws.length (fun _ => .int .i64 0)) := h2
    have HB : Hid (W2.rowIs G1 3 ws.length (fun _ => .int .i64 0)) := h1
    have hG0 : B ≤ G0 := hlt1
    have hG1 : B ≤ G1 := hlt0
    have hNE : G0 ≠ G1 := hne.symm
  all_goals
    have HW2 : Hid (Below B w W2) := hb0
    clear h1 h2 hb0 hlt0 hlt1 hne
    go_wp2
    go_loopw [9, 10, 11, 12, 23] (fun l _ _ _ c wr => ∃ k : Nat, k ≤ ws.length ∧ c = .int .i64 (k : Int) ∧ l = .int .i64 (z - ((p0 z S ws).take k).sum) ∧ wr.rowIs G0 3 ws.length (fun i => .int .i64 (if i < k then (p0 z S ws).getD i 0 else 0)) ∧ wr.rowIs G1 3 ws.length (fun i => .int .i64 (if i < k then (r0 z S ws).getD i 0 else 0)) ∧ Below B w wr) (fun _ _ _ _ c _ => ws.length - (intOf c).toNat)
    case atStart => exact ⟨0, Nat.zero_le _, rfl, by simp, HA.out.congr (fun i hi => by simp), HB.out.congr (fun i hi => by simp), HW2.out⟩
    case round =>
      obtain ⟨k, hk, rfl, rfl, hr0, hr1, hb⟩ := hrel
      have H0 : Hid (wr.rowIs G0 3 ws.length (fun i => .int .i64 (if i < k then (p0 z S ws).getD i 0 else 0))) := hr0
      have H1 : Hid (wr.rowIs G1 3 ws.length (fun i => .int .i64 (if i < k then (r0 z S ws).getD i 0 else 0))) := hr1
      have HB' : Hid (Below B w wr) := hb
      clear hr0 hr1 hb
      have hsum := sum_take_bound z S ws k hz hS HWs.out
      obtain ⟨hs1, hs2⟩ := hsum
      by_cases hlt : k < ws.length
      · have hlt' : (k : Int) < (ws.length : Int) := by omega
        rcases HR.out with h | ⟨b0, o0, ha, hB0, ia⟩
        · rw [h] at hlt; simp at hlt
        have c0 := (ia.below HB'.out hB0) k hlt
        have hx := HWs.out (ws.getD k 0) (by rw [getD_int hlt]; exact List.getElem_mem _)
        have HN : Hid (((p0 z S ws).take (k + 1)).sum = ((p0 z S ws).take k).sum + z * ws.getD k 0 / S ∧ (p0 z S ws).getD k 0 = z * ws.getD k 0 / S ∧ (r0 z S ws).getD k 0 = z * ws.getD k 0 % S) := p0_next z S ws k hlt
        rw [ha]
        obtain ⟨hy1, hy2⟩ := mul_range z (ws.getD k 0) hz hz' hx.1 hx.2
        generalize ws.getD k 0 = x at *
        generalize hzx : z * x = y at *
        clear ia ha
        have hdv := fun w => divide_any y S w (by omega) (by omega) hS (by omega)
        go_wp2_with fail
        go_at_call 33
        refine (hdv _).mono ?_
        rintro e wd ⟨rfl, hbd⟩
        have H0d : Hid (wd.rowIs G0 3 ws.length (fun i => .int .i64 (if i < k then (p0 z S ws).getD i 0 else 0))) := row_below H0.out hbd
        have H1d : Hid (wd.rowIs G1 3 ws.length (fun i => .int .i64 (if i < k then (r0 z S ws).getD i 0 else 0))) := row_below H1.out hbd
        have hgw : G0 < wr.heap.size := H0.out.lt
        have HBd : Hid (Below B w wd) := HB'.out.trans (hbd.mono (by omega))
        clear hbd H0 H1 HB' hdv c0 hgw
        obtain ⟨v0, e0⟩ : ∃ v, wd.cell? ⟨G0, k, none⟩ = some v := ⟨_, H0d.out.cell hlt⟩
        obtain ⟨v1, e1⟩ : ∃ v, wd.cell? ⟨G1, k, none⟩ = some v := ⟨_, H1d.out.cell hlt⟩
        have f0 : wd.frozen? ⟨G0, k, none⟩ = false := H0d.out.frozen k
        have f1 : wd.frozen? ⟨G1, k, none⟩ = false := H1d.out.frozen k
        have s0 : G0 < wd.heap.size := H0d.out.lt
        have s1 : G1 < wd.heap.size := H1d.out.lt
        go_wp2_with fail
        generalize hW7 : wd.alloc (Obj.cells #[Value.int .i64 (y / S), Value.int .i64 (y % S), Value.int .i64 S] 67) = W7
        have a0 : W7.cell? ⟨wd.heap.size, 0, none⟩ = some (.int .i64 (y / S)) := by rw [← hW7]; exact cell_of_row _ _ 0 _ _ _ (heap_alloc_new wd _)
        have a1 : W7.cell? ⟨wd.heap.size, 1, none⟩ = some (.int .i64 (y % S)) := by rw [← hW7]; exact cell_of_row _ _ 1 _ _ _ (heap_alloc_new wd _)
        have e0' : W7.cell? ⟨G0, k, none⟩ = some v0 := by rw [← hW7]; exact ((below_alloc wd _).cell (p := ⟨G0, k, none⟩) s0).trans e0
        have e1' : W7.cell? ⟨G1, k, none⟩ = some v1 := by rw [← hW7]; exact ((below_alloc wd _).cell (p := ⟨G1, k, none⟩) s1).trans e1
        have f0' : W7.frozen? ⟨G0, k, none⟩ = false := by rw [← hW7]; exact ((below_alloc wd _).frozen (p := ⟨G0, k, none⟩) s0).trans f0
        have f1' : W7.frozen? ⟨G1, k, none⟩ = false := by rw [← hW7]; exact ((below_alloc wd _).frozen (p := ⟨G1, k, none⟩) s1).trans f1
        have H07 : Hid (W7.rowIs G0 3 ws.length (fun i => .int .i64 (if i < k then (p0 z S ws).getD i 0 else 0))) := by show W7.rowIs _ _ _ _; rw [← hW7]; exact H0d.out.alloc _
        have H17 : Hid (W7.rowIs G1 3 ws.length (fun i => .int .i64 (if i < k then (r0 z S ws).getD i 0 else 0))) := by show W7.rowIs _ _ _ _; rw [← hW7]; exact H1d.out.alloc _
        have HB7 : Hid (Below B w W7) := by show Below B w W7; rw [← hW7]; exact HBd.out.alloc (by omega) _
        clear hW7 e0 e1 f0 f1 H0d H1d HBd
        go_region
        have HBe : Hid (Below B w ((W7.setCell ⟨G0, k, none⟩ (.int .i64 (y / S))).setCell ⟨G1, k, none⟩ (.int .i64 (y % S))).drew) := ((HB7.out.setCell (p := ⟨G0, k, none⟩) hG0 _).setCell (p := ⟨G1, k, none⟩) hG1 _).drew
        have H0e : Hid (((W7.setCell ⟨G0, k, none⟩ (.int .i64 (y / S))).setCell ⟨G1, k, none⟩ (.int .i64 (y % S))).drew.rowIs G0 3 ws.length (fun i => .int .i64 (if i < k + 1 then (p0 z S ws).getD i 0 else 0))) := by
          refine World.rowIs.congr (((H07.out.set k _).setOther (a := ⟨G1, k, none⟩) hNE _).drew) fun i hi => ?_
          have hN := HN.out
          by_cases e : i = k
          · rw [e, if_pos rfl, if_pos (by omega), hN.2.1]
          · rw [if_neg e]; congr 1; by_cases e' : i < k
            · rw [if_pos e', if_pos (by omega)]
            · rw [if_neg e', if_neg (by omega)]
        have H1e : Hid (((W7.setCell ⟨G0, k, none⟩ (.int .i64 (y / S))).setCell ⟨G1, k, none⟩ (.int .i64 (y % S))).drew.rowIs G1 3 ws.length (fun i => .int .i64 (if i < k + 1 then (r0 z S ws).getD i 0 else 0))) := by
          refine World.rowIs.congr (((H17.out.setOther (a := ⟨G0, k, none⟩) hNE.symm _).set k _).drew) fun i hi => ?_
          have hN := HN.out
          by_cases e : i = k
          · rw [e, if_pos rfl, if_pos (by omega), hN.2.2]
          · rw [if_neg e]; congr 1; by_cases e' : i < k
            · rw [if_pos e', if_pos (by omega)]
            · rw [if_neg e', if_neg (by omega)]
        have a0e : ((W7.setCell ⟨G0, k, none⟩ (.int .i64 (y / S))).setCell ⟨G1, k, none⟩ (.int .i64 (y % S))).drew.cell? ⟨wd.heap.size, 0, none⟩ = some (.int .i64 (y / S)) := by
          have o1 : (W7.setCell ⟨G0, k, none⟩ (.int .i64 (y / S))).cell? ⟨wd.heap.size, 0, none⟩ = W7.cell? ⟨wd.heap.size, 0, none⟩ := World.cell?_of_block (Below.heap_setCell _ _ _ _ (by show wd.heap.size ≠ G0; omega))
          have o2 : ((W7.setCell ⟨G0, k, none⟩ (.int .i64 (y / S))).setCell ⟨G1, k, none⟩ (.int .i64 (y % S))).cell? ⟨wd.heap.size, 0, none⟩ = (W7.setCell ⟨G0, k, none⟩ (.int .i64 (y / S))).cell? ⟨wd.heap.size, 0, none⟩ := World.cell?_of_block (Below.heap_setCell _ _ _ _ (by show wd.heap.size ≠ G1; omega))
          exact o2.trans (o1.trans a0)
        generalize ((W7.setCell ⟨G0, k, none⟩ (.int .i64 (y / S))).setCell ⟨G1, k, none⟩ (.int .i64 (y % S))).drew = W8 at *
        clear H07 H17 HB7 a0 a1 e0' e1' f0' f1' s0 s1
        obtain ⟨hq1, hq2⟩ := ediv_bound y S hS 1000000000000000 (by omega) hy2
        have hq0 : 0 ≤ y / S := Int.ediv_nonneg hy1 (by omega)
        have hk6 : (k : Int) * (z * 1000000) ≤ 60 * (z * 1000000) := Int.mul_le_mul_of_nonneg_right (by omega) (by omega)
        go_wp2
        go_round
        case rel => exact ⟨k + 1, by omega, by go_num, by rw [HN.out.1]; go_num, H0e.out, H1e.out, HBe.out⟩
        case measure => simp [intOf]; omega
      · have ek : k = ws.length := by omega
        have hk6 : (k : Int) * (z * 1000000) ≤ 60 * (z * 1000000) := Int.mul_le_mul_of_nonneg_right (by omega) (by omega)
        have HL : Hid (z - ((p0 z S ws).take k).sum = leftOf z S ws) := by show _ = _; rw [List.take_of_length_le (by unfold p0; simp; omega)]; rfl
        have H0' : Hid (wr.rowIs G0 3 ws.length (fun i => .int .i64 ((p0 z S ws).getD i 0))) := H0.out.congr fun i hi => by rw [if_pos (by omega)]
        have H1' : Hid (wr.rowIs G1 3 ws.length (fun i => .int .i64 ((r0 z S ws).getD i 0))) := H1.out.congr fun i hi => by rw [if_pos (by omega)]
        have hl2 : z - ((p0 z S ws).take k).sum ≤ 1000000000 := by omega
        have hl1 : -100000000000000000 ≤ z - ((p0 z S ws).take k).sum := by omega
        clear H0 H1 hs1 hs2 hk6
        rw [HL.out] at hl1 hl2 ⊢
        have HPb : Hid (∀ i, i < ws.length → 0 ≤ (p0 z S ws).getD i 0 ∧ (p0 z S ws).getD i 0 ≤ 1000000000000000) := fun i hi => p0_bound z S ws hz hz' hS HWs.out i hi
        have hlp : Hid ((p0 z S ws).length = ws.length) := by show _ = _; unfold p0; simp
        have hlr : Hid ((r0 z S ws).length = ws.length) := by show _ = _; unfold r0; simp
        have hkl : (ws.length : Int) ≤ (k : Int) := by omega
        clear HL HWs HA HB HW2 HR ek
        go_wp2
        clear hkl hlt hk
        go_loopw [9, 13] (fun l _ wq => ∃ (n : Int) (P R : List Int), l = .int .i64 n ∧ -100000000000000000 ≤ n ∧ n ≤ 1000000000 ∧ P.length = ws.length ∧ R.length = ws.length ∧ (∀ i, i < ws.length → 0 ≤ P.getD i 0 ∧ P.getD i 0 ≤ 1000001000000000 - n) ∧ shl 0 n.toNat P R = shl 0 (leftOf z S ws).toNat (p0 z S ws) (r0 z S ws) ∧ wq.rowIs G0 3 ws.length (fun i => .int .i64 (P.getD i 0)) ∧ wq.rowIs G1 3 ws.length (fun i => .int .i64 (R.getD i 0)) ∧ Below B w wq) (fun l _ _ => (intOf l).toNat)
        case atStart => exact ⟨_, p0 z S ws, r0 z S ws, rfl, hl1, hl2, hlp.out, hlr.out, fun i hi => by have := HPb.out i hi; omega, rfl, H0'.out, H1'.out, HB'.out⟩
        case round =>
          clear hl1 hl2 hlp hlr HPb H0' H1' HB'
          obtain ⟨n, P, R, rfl, hn1, hn2, hlp, hlr, hPb, hT, hr0, hr1, hb⟩ := hrel
          have HT : Hid (shl 0 n.toNat P R = shl 0 (leftOf z S ws).toNat (p0 z S ws) (r0 z S ws)) := hT
          have HLP : Hid (P.length = ws.length) := hlp
          have HLR : Hid (R.length = ws.length) := hlr
          have HPb : Hid (∀ i, i < ws.length → 0 ≤ P.getD i 0 ∧ P.getD i 0 ≤ 1000001000000000 - n) := hPb
          have H0 : Hid (wr.rowIs G0 3 ws.length (fun i => .int .i64 (P.getD i 0))) := hr0
          have H1 : Hid (wr.rowIs G1 3 ws.length (fun i => .int .i64 (R.getD i 0))) := hr1
          have HB' : Hid (Below B w wr) := hb
          clear hT hlp hlr hPb hr0 hr1 hb
          by_cases hpos : 0 < n
          · have hfg := firstGreatest_any G1 0 ws.length R (by rw [HLR.out]; omega) (by rw [HLR.out]; omega) wr (.of_row HLR.out H1.out)
            rw [HLR.out] at hfg
            have hm : fg R < ws.length := by rw [← HLR.out]; exact fg_lt R (by rw [HLR.out]; omega)
            have HS : Hid (shl 0 n.toNat P R = shl 0 (n - 1).toNat (P.set (fg R) (P.getD (fg R) 0 + 1)) (R.set (fg R) 0)) := by
              show _ = _
              have e : n.toNat = (n - 1).toNat + 1 := by omega
              rw [e]; rfl
            have hq := HPb.out (fg R) hm
            generalize fg R = m at *
            have hm' : (m : Int) < (ws.length : Int) := by omega
            have c0 : wr.cell? ⟨G0, m, none⟩ = some (.int .i64 (P.getD m 0)) := H0.out.cell hm
            have c1 : wr.cell? ⟨G1, m, none⟩ = some (.int .i64 (R.getD m 0)) := H1.out.cell hm
            have f0 : wr.frozen? ⟨G0, m, none⟩ = false := H0.out.frozen m
            have f1 : wr.frozen? ⟨G1, m, none⟩ = false := H1.out.frozen m
            obtain ⟨hq0, hq1⟩ := hq
            go_wp2_with fail
            go_at_call 56
            refine hfg.mono ?_
            rintro e wd ⟨rfl, rfl⟩
            generalize hpv : P.getD m 0 = p at *
            have c1' : (wd.setCell ⟨G0, m, none⟩ (.int .i64 (p + 1))).cell? ⟨G1, m, none⟩ = some (.int .i64 (R.getD m 0)) := (World.cell?_of_block (Below.heap_setCell _ _ _ _ (by show G1 ≠ G0; omega))).trans c1
            have f1' : (wd.setCell ⟨G0, m, none⟩ (.int .i64 (p + 1))).frozen? ⟨G1, m, none⟩ = false := (World.frozen?_of_block (Below.heap_setCell _ _ _ _ (by show G1 ≠ G0; omega))).trans f1
            have HB2 : Hid (Below B w ((wd.setCell ⟨G0, m, none⟩ (.int .i64 (p + 1))).setCell ⟨G1, m, none⟩ (.int .i64 0))) := (HB'.out.setCell (p := ⟨G0, m, none⟩) hG0 _).setCell (p := ⟨G1, m, none⟩) hG1 _
            have H02 : Hid (((wd.setCell ⟨G0, m, none⟩ (.int .i64 (p + 1))).setCell ⟨G1, m, none⟩ (.int .i64 0)).rowIs G0 3 ws.length (fun i => .int .i64 ((P.set m (p + 1)).getD i 0))) := by
              refine World.rowIs.congr (((H0.out.set m _).setOther (a := ⟨G1, m, none⟩) hNE _)) fun i hi => ?_
              rw [getD_set _ _ _ _ (by rw [HLP.out]; exact hi)]
              by_cases e : i = m
              · rw [if_pos e, if_pos e.symm]
              · rw [if_neg e, if_neg (Ne.symm e)]
            have H12 : Hid (((wd.setCell ⟨G0, m, none⟩ (.int .i64 (p + 1))).setCell ⟨G1, m, none⟩ (.int .i64 0)).rowIs G1 3 ws.length (fun i => .int .i64 ((R.set m 0).getD i 0))) := by
              refine World.rowIs.congr (((H1.out.setOther (a := ⟨G0, m, none⟩) hNE.symm _).set m _)) fun i hi => ?_
              rw [getD_set _ _ _ _ (by rw [HLR.out]; exact hi)]
              by_cases e : i = m
              · rw [if_pos e, if_pos e.symm]
              · rw [if_neg e, if_neg (Ne.symm e)]
            clear hfg
            go_wp2_with fail
            go_round
            case rel =>
              refine ⟨n - 1, P.set m (p + 1), R.set m 0, by go_num, by omega, by omega, by simp; exact HLP.out, by simp; exact HLR.out, fun i hi => ?_, HS.out.symm.trans HT.out, H02.out, H12.out, HB2.out⟩
              rw [getD_set _ _ _ _ (by rw [HLP.out]; exact hi)]
              have h := HPb.out i hi
              split <;> omega
            case measure => simp [intOf]; omega
          · have HE : Hid (P = shl 0 (leftOf z S ws).toNat (p0 z S ws) (r0 z S ws)) := by
              show _ = _
              rw [← HT.out, show n.toNat = 0 by omega]; rfl
            go_wp2
            go_ret
            exact ⟨G0, rfl, hG0, by rw [← HE.out]; exact H0.out, HB'.out⟩
end Go.Proofs.Ytaledfdhiimhdaa

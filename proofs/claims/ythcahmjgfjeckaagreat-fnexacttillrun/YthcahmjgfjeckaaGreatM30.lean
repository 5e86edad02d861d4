/-
  Texts of this claim laid together: ObA, ObE, ObF, Lists.
-/
import Derived.Test.YthcahmjgfjeckaaGreatM1
import Derived.Deep.Slices
/-
  Lists of TillObs in memory.
-/
namespace Go.Proofs.YthcahmjgfjeckaaGreat
open Go.ChangeShapes Go.WideShapes Go.ChangeAt Go.RowKit Go.Deep
set_option linter.unusedVariables false

structure ROb where
  cd : Int
  nm : Int
def zOb : ROb := ⟨0, 0⟩
/-- One lies in block b from off on, 2 cells. -/
def ObAt (w : World) (b off : Nat) (r : ROb) : Prop :=
  w.cell? ⟨b, off, none⟩ = some (.int .i64 r.cd) ∧ w.cell? ⟨b, off + 1, none⟩ = some (.int .i64 r.nm)
def ObsAt (w : World) (b off : Nat) (rs : List ROb) : Prop := ∀ i, i < rs.length → ObAt w b (off + i * 2) (rs.getD i zOb)
def ReadsOb (B : Nat) (w : World) (a : Option Addr) (rs : List ROb) : Prop := rs = [] ∨ ∃ b off, a = some ⟨b, off, none⟩ ∧ b < B ∧ ObsAt w b off rs
theorem ObAt.below {B : Nat} {w w' : World} {b off : Nat} {r : ROb} (h : ObAt w b off r) (hb : Below B w w') (hB : b < B) : ObAt w' b off r := by
  obtain ⟨h0, h1⟩ := h
  exact ⟨(hb.cell (p := ⟨b, off, none⟩) hB).trans h0, (hb.cell (p := ⟨b, off + 1, none⟩) hB).trans h1⟩
theorem ObsAt.below {B : Nat} {w w' : World} {b off : Nat} {rs : List ROb} (h : ObsAt w b off rs) (hb : Below B w w') (hB : b < B) : ObsAt w' b off rs := fun i hi => (h i hi).below hb hB
theorem ReadsOb.below {B : Nat} {w w' : World} {a : Option Addr} {rs : List ROb} (h : ReadsOb B w a rs) (hb : Below B w w') : ReadsOb B w' a rs := by
  rcases h with h | ⟨b, off, ha, hB, hi⟩
  · exact .inl h
  · exact .inr ⟨b, off, ha, hB, hi.below hb hB⟩
theorem ReadsOb.mono {B B' : Nat} {w : World} {a : Option Addr} {rs : List ROb} (h : ReadsOb B w a rs) (hb : B ≤ B') : ReadsOb B' w a rs := by
  rcases h with h | ⟨b, off, ha, hB, hi⟩
  · exact .inl h
  · exact .inr ⟨b, off, ha, by omega, hi⟩
theorem getOb {p : ROb → Prop} {rs : List ROb} (h : ∀ r ∈ rs, p r) {k : Nat} (hk : k < rs.length) : p (rs.getD k zOb) := by
  have e : rs.getD k zOb = rs[k] := by simp [List.getD_eq_getElem?_getD, hk]
  rw [e]; exact h _ (List.getElem_mem _)
theorem obNew (w : World) (r0 : Int) (r1 : Int) : ObAt (w.alloc (Obj.cells #[.int .i64 r0, .int .i64 r1] 63)) w.heap.size 0 ⟨r0, r1⟩ :=
  ⟨by simp, by simp⟩
def ObOK (r : ROb) : Prop := True
def ObWide (r : ROb) : Prop := (Lit.int .i64 r.cd).wf = true ∧ (Lit.int .i64 r.nm).wf = true
end Go.Proofs.YthcahmjgfjeckaaGreat

/-
  The laws' own helpers on lists of TillObs: sz.., to...
-/
namespace Go.Proofs.YthcahmjgfjeckaaGreat
open Go.ChangeShapes Go.WideShapes Go.ChangeAt Go.RowKit Go.Deep
set_option linter.unusedVariables false

def obCell (r : ROb) (j : Nat) : Value := if j = 0 then .int .i64 r.cd else .int .i64 r.nm
theorem obInfo : (Tryz.prog.info? 63).map (fun i => (i.zero, i.size, i.bytes)) = some (some (.agg #[.int .i64 0, .int .i64 0]), 2, 16) := by kernel_rfl
theorem makeObs (n : Nat) (hn : n ≤ 100000000) (w : World) :
    (Instr.makeSlice 26 (.int .i64 (n : Int)) (.int .i64 (n : Int))).run Tryz.prog w = .ok (.slice (some ⟨w.heap.size, 0, none⟩) n n) (w.alloc (.cells (madeCells #[.int .i64 0, .int .i64 0] (n * 2)) 63)) := by
  obtain ⟨i, hi, hzz⟩ := Option.map_eq_some_iff.1 obInfo
  simp only [Prod.mk.injEq] at hzz
  obtain ⟨hz, hs, hb⟩ := hzz
  have hr := run_make (P := Tryz.prog) w 26 63 i _ Tryz.underlying26 hi hz .i64 .i64 (n : Int) (n : Int) (by omega) (Int.le_refl _) (by rw [hb]; omega) (by omega)
  simp only [Int.toNat_natCast, hs] at hr
  exact hr
theorem obs_made (w : World) (n : Nat) : (w.alloc (.cells (madeCells #[.int .i64 0, .int .i64 0] (n * 2)) 63)).rowIs w.heap.size 63 (n * 2) (fun j => obCell zOb (j % 2)) := by
  refine ⟨_, heapNew _ _, size_madeCells _ _, fun i hi => ?_⟩
  have h6 : i % 2 = 0 ∨ i % 2 = 1 := by omega
  unfold obCell zOb
  rcases h6 with h | h <;> simp [madeCells, hi, h] <;> rfl
def obFill (rs : List ROb) (k j : Nat) : Value := obCell (if j / 2 < k then rs.getD (j / 2) zOb else zOb) (j % 2)
theorem obFill_set {w : World} {b : Nat} {rs : List ROb} {n k : Nat} (h : w.rowIs b 63 (n * 2) (obFill rs k)) :
    ((w.setCell ⟨b, k * 2, none⟩ (.int .i64 (rs.getD k zOb).cd)).setCell ⟨b, k * 2 + 1, none⟩ (.int .i64 (rs.getD k zOb).nm)).rowIs b 63 (n * 2) (obFill rs (k + 1)) := by
  refine ((h.set (k * 2) _).set (k * 2 + 1) _).congr fun j hj => ?_
  unfold obFill
  by_cases e1 : j = k * 2 + 1
  · rw [if_pos e1, if_pos (by omega), show j / 2 = k by omega, show j % 2 = 1 by omega]; rfl
  rw [if_neg e1]
  by_cases e0 : j = k * 2
  · rw [if_pos e0, if_pos (by omega), show j / 2 = k by omega, show j % 2 = 0 by omega]; rfl
  rw [if_neg e0]
  by_cases h : j / 2 < k
  · rw [if_pos h, if_pos (by omega)]
  · rw [if_neg h, if_neg (by omega)]
def FreeOb (w : World) (b n : Nat) : Prop := ∀ j, j < n * 2 → w.frozen? ⟨b, j, none⟩ = false
theorem FreeOb.below {B : Nat} {w w' : World} {b n : Nat} (h : FreeOb w b n) (hb : Below B w w') (hB : b < B) : FreeOb w' b n := fun j hj => (hb.frozen (p := ⟨b, j, none⟩) hB).trans (h j hj)
theorem obsAt_of {w : World} {b : Nat} {rs : List ROb} (h : w.rowIs b 63 (rs.length * 2) (obFill rs rs.length)) : ObsAt w b 0 rs := fun i hi => by
  refine ⟨?_, ?_⟩
  · rw [h.cell (i := 0 + i * 2) (by omega)]; unfold obFill; rw [if_pos (by omega), show (0 + i * 2) / 2 = i by omega, show (0 + i * 2) % 2 = 0 by omega]; rfl
  · rw [h.cell (i := 0 + i * 2 + 1) (by omega)]; unfold obFill; rw [if_pos (by omega), show (0 + i * 2 + 1) / 2 = i by omega, show (0 + i * 2 + 1) % 2 = 1 by omega]; rfl

end Go.Proofs.YthcahmjgfjeckaaGreat

/-
  The laws' own helper eqTillObsS; a list of TillObs that came in, opened.
-/
namespace Go.Proofs.YthcahmjgfjeckaaGreat
open Go.ChangeShapes Go.WideShapes Go.ChangeAt Go.RowKit Go.Deep
set_option linter.unusedVariables false

theorem eqOb_any (r0 : Int) (r1 : Int) (w : World) :
    Calls Tryz.prog 29 #[.agg #[.int .i64 r0, .int .i64 r1], .agg #[.int .i64 r0, .int .i64 r1]] w fun e w' => e = .returned (.bool true) ∧ Below w.heap.size w w' := by
  have l1 : ∀ n : Nat, n < n + 1 + 1 := fun n => by omega
  have l2 : ∀ n : Nat, n < n + 2 := fun n => by omega
  go_enter Tryz.func29, Tryz.ntmps29
  go_wp2
  go_ret
  exact ⟨rfl, chain (below_alloc _ _) (below_alloc _ _)⟩
theorem keepOb {W w1 : World} {b0 b1 p0 p1 q0 q1 : Nat} {c0 c1 d0 d1 : Value} (hb : Below W.heap.size W w1) (h : W.cell? ⟨b0, p0, none⟩ = some c0 ∧ W.cell? ⟨b0, p1, none⟩ = some c1 ∧ W.cell? ⟨b1, q0, none⟩ = some d0 ∧ W.cell? ⟨b1, q1, none⟩ = some d1 ∧ b0 < W.heap.size ∧ b1 < W.heap.size) :
    w1.cell? ⟨b0, p0, none⟩ = some c0 ∧ w1.cell? ⟨b0, p1, none⟩ = some c1 ∧ w1.cell? ⟨b1, q0, none⟩ = some d0 ∧ w1.cell? ⟨b1, q1, none⟩ = some d1 ∧ b0 < w1.heap.size ∧ b1 < w1.heap.size := by
  obtain ⟨h0, h1, k0, k1, l0, l1⟩ := h
  exact ⟨(hb.cell (p := ⟨b0, p0, none⟩) l0).trans h0, (hb.cell (p := ⟨b0, p1, none⟩) l0).trans h1, (hb.cell (p := ⟨b1, q0, none⟩) l1).trans k0, (hb.cell (p := ⟨b1, q1, none⟩) l1).trans k1, Nat.lt_of_lt_of_le l0 hb.size, Nat.lt_of_lt_of_le l1 hb.size⟩

set_option maxHeartbeats 2000000 in
theorem eqObs_any (a b : Option Addr) (ca cb : Nat) (rs : List ROb) (hn : rs.length ≤ 1048576) (w : World) (ra : ReadsOb w.heap.size w a rs) (rb : ReadsOb w.heap.size w b rs) :
    Calls Tryz.prog 10 #[.slice a rs.length ca, .slice b rs.length cb] w fun e w' => e = .returned (.bool true) ∧ Below w.heap.size w w' := by
  have HA : Hid (ReadsOb w.heap.size w a rs) := ra
  have HBb : Hid (ReadsOb w.heap.size w b rs) := rb
  clear ra rb
  go_enter Tryz.func10, Tryz.ntmps10
  go_wp2
  go_loopw [5] (fun i wr => ∃ k : Nat, k ≤ rs.length ∧ i = .int .i64 (k : Int) ∧ Below w.heap.size w wr) (fun i _ => rs.length - (intOf i).toNat)
  case atStart => exact ⟨0, Nat.zero_le _, rfl, Below.refl _ _⟩
  case round =>
    obtain ⟨k, hk, rfl, hb⟩ := hrel
    have HB : Hid (Below w.heap.size w wr) := hb
    clear hb
    by_cases hlt : k < rs.length
    · have hlt' : (k : Int) < (rs.length : Int) := by omega
      rcases HA.out with h | ⟨b0, o0, ha, hB0, ia⟩
      · rw [h] at hlt; simp at hlt
      rcases HBb.out with h | ⟨b1, o1, hbb, hB1, ib⟩
      · rw [h] at hlt; simp at hlt
      obtain ⟨c0, c1⟩ := (ia.below HB.out hB0) k hlt
      obtain ⟨d0, d1⟩ := (ib.below HB.out hB1) k hlt
      have lt0 : b0 < wr.heap.size := Nat.lt_of_lt_of_le hB0 HB.out.size
      have lt1 : b1 < wr.heap.size := Nat.lt_of_lt_of_le hB1 HB.out.size
      rw [ha, hbb]
      clear ia ib
      generalize rs.getD k zOb = r at *
      obtain ⟨r0, r1⟩ := r
      dsimp only at c0 c1 d0 d1
      go_wp2
      go_region_held3 (fun W => W.cell? ⟨b0, o0 + k * 2, none⟩ = some (.int .i64 r0) ∧ W.cell? ⟨b0, o0 + k * 2 + 1, none⟩ = some (.int .i64 r1) ∧ W.cell? ⟨b1, o1 + k * 2, none⟩ = some (.int .i64 r0) ∧ W.cell? ⟨b1, o1 + k * 2 + 1, none⟩ = some (.int .i64 r1) ∧ b0 < W.heap.size ∧ b1 < W.heap.size) (first | exact ⟨c0, c1, d0, d1, lt0, lt1⟩ | exact keepOb (by assumption) (by assumption)) (first | (go_at_call 29; refine (eqOb_any _ _ _).mono ?_; rintro e w2 ⟨rfl, hb2⟩))
      have HB2 : Hid (Below w.heap.size w w2) := chain HB.out.drew hb2
      go_wp2
      go_roundw
      case rel => exact ⟨k + 1, by omega, by go_num, HB2.out⟩
      case measure => simp [intOf]; omega
    · go_wp2
      go_ret
      exact ⟨rfl, HB.out⟩

/-! ### A list that came in -/
def IsObs (w : World) (a : Option Addr) (len cap : Nat) (rs : List ROb) : Prop := rs.length = len ∧ len ≤ cap ∧ cap ≤ maxLen ∧ (∀ r ∈ rs, ObWide r) ∧ ReadsOb w.heap.size w a rs
end Go.Proofs.YthcahmjgfjeckaaGreat

/-
  Contracts of the laws' own helpers on lists of numbers (toIntS, eqIntS, markIntS, heldIntS).
-/
namespace Go.Proofs.YthcahmjgfjeckaaGreat
open Go.ChangeShapes Go.WideShapes Go.ChangeAt Go.RowKit
set_option linter.unusedVariables false

theorem eqInts_any (B : Nat) (a b : Option Addr) (ca cb : Nat) (xs ys : List Int) (hx : xs.length ≤ 100000000) (hy : ys.length ≤ 100000000) (w : World) (ra : Reads B w a xs) (rb : Reads B w b ys) :
    Calls Tryz.prog 32 #[.slice a xs.length ca, .slice b ys.length cb] w fun e w' => e = .returned (.bool (decide (xs = ys))) ∧ Below B w w' := by
  by_cases hl : xs.length = ys.length
  · have hl' : ((xs.length : Int) != (ys.length : Int)) = false := by rw [hl]; simp
    have HL : Hid (xs.length = ys.length) := hl
    have hll : (ys.length : Int) ≤ (xs.length : Int) ∧ (xs.length : Int) ≤ (ys.length : Int) := by omega
    obtain ⟨hl1, hl2⟩ := hll
    clear hl
    go_enter Tryz.func32, Tryz.ntmps32
    go_wp2
    go_loopw [5] (fun i wr => ∃ k : Nat, k ≤ xs.length ∧ i = .int .i64 (k : Int) ∧ xs.take k = ys.take k ∧ Below B w wr) (fun i _ => xs.length - (intOf i).toNat)
    case atStart => exact ⟨0, Nat.zero_le _, rfl, rfl, Below.refl _ _⟩
    case round =>
      obtain ⟨k, hk, rfl, ht, hb⟩ := hrel
      have HT : Hid (xs.take k = ys.take k) := ht
      clear ht
      by_cases hlt : k < xs.length
      · rcases ra with h | ⟨b0, o0, ha, hB0, ia⟩
        · rw [h] at hlt; simp at hlt
        rcases rb with h | ⟨b1, o1, hbb, hB1, ib⟩
        · rw [HL.out, h] at hlt; simp at hlt
        have c0 := (ia.below hb hB0) k hlt
        have c1 := (ib.below hb hB1) k (by omega)
        have hlt1 : (k : Int) < (xs.length : Int) := by omega
        have hlt2 : (k : Int) < (ys.length : Int) := by omega
        rw [ha, hbb]
        generalize hx0 : xs.getD k 0 = p at *
        generalize hy0 : ys.getD k 0 = q at *
        have HX : Hid (xs.getD k 0 = p) := hx0
        have HY : Hid (ys.getD k 0 = q) := hy0
        clear hx0 hy0 ia ib
        by_cases hpq : p = q
        · have hpq' : (p != q) = false := by rw [hpq]; simp
          have HE : Hid (p = q) := hpq
          clear hpq
          go_wp2
          go_quiet (fail)
          go_wp2
          go_roundw
          case rel => exact ⟨k + 1, by omega, by go_num, take_next (by omega) (by have := HL.out; omega) HT.out (HX.out.trans (HE.out.trans HY.out.symm)), below_drewN hb _⟩
          case measure => simp [intOf]; omega
        · have hpq' : (p != q) = true := by rw [bne_iff_ne]; exact hpq
          have HN : Hid (¬ xs = ys) := fun h => hpq (by rw [← HX.out, ← HY.out, h])
          clear hpq
          go_wp2
          go_quiet (fail)
          go_wp2
          go_ret
          exact ⟨ret_bool (decide_eq_false HN.out).symm, below_drewN hb _⟩
      · have HE : Hid (xs = ys) := by
          show xs = ys
          have h1 := HT.out
          rw [List.take_of_length_le (by omega), List.take_of_length_le (by have := HL.out; omega)] at h1
          exact h1
        go_wp2
        go_ret
        exact ⟨ret_bool (decide_eq_true HE.out).symm, hb⟩
  · have hl' : ((xs.length : Int) != (ys.length : Int)) = true := by
      rw [bne_iff_ne]; omega
    have e : decide (xs = ys) = false := decide_eq_false (fun h => hl (by rw [h]))
    rw [e]
    go_enter Tryz.func32, Tryz.ntmps32
    go_wp2
    go_ret
    exact ⟨rfl, Below.refl _ _⟩

theorem held_any (b off n cap : Nat) (hn : n ≤ 100000000) (k0 : Int) (h0 : 0 ≤ k0) (h1 : k0 ≤ 100000000) (w : World) (hi : IntsAt w b off (marks k0 n)) :
    Calls Tryz.prog 41 #[.slice (some ⟨b, off, none⟩) n cap, .int .i64 k0] w fun e w' => e = .returned (.int .i64 (k0 + (n : Int))) ∧ w' = w := by
  have HI : Hid (IntsAt w b off (marks k0 n)) := hi
  clear hi
  go_enter Tryz.func41, Tryz.ntmps41
  go_wp2
  go_loop [1, 5] (fun k i => ∃ j : Nat, j ≤ n ∧ i = .int .i64 (j : Int) ∧ k = .int .i64 (k0 + (j : Int))) (fun _ i => n - (intOf i).toNat)
  case atStart => exact ⟨0, Nat.zero_le _, rfl, by simp⟩
  case round =>
    obtain ⟨j, hj, rfl, rfl⟩ := hrel
    by_cases hlt : j < n
    · have hlt' : (j : Int) < (n : Int) := by omega
      have c0 : w.cell? ⟨b, off + j, none⟩ = some (.int .i64 (k0 + (j : Int))) := by
        have := HI.out j (by rw [marks_length]; exact hlt)
        rwa [marks_getD k0 n j hlt] at this
      go_wp2
      go_round
      case rel => exact ⟨j + 1, by omega, by go_num, by go_num⟩
      case measure => simp [intOf]; omega
    · have e : j = n := by omega
      have HE : Hid (j = n) := e
      clear e
      go_wp2
      go_ret
      exact ⟨ret_int (by rw [HE.out]), rfl⟩

theorem held_none (a : Option Addr) (cap : Nat) (k0 : Int) (w : World) :
    Calls Tryz.prog 41 #[.slice a 0 cap, .int .i64 k0] w fun e w' => e = .returned (.int .i64 k0) ∧ w' = w := by
  go_enter Tryz.func41, Tryz.ntmps41
  go_wp2
  go_loop [1, 5] (fun k i => i = .int .i64 0 ∧ k = .int .i64 k0) (fun _ i => 0)
  case atStart => exact ⟨rfl, rfl⟩
  case round =>
    obtain ⟨rfl, rfl⟩ := hrel
    go_wp2
    go_ret
    exact ⟨rfl, rfl⟩

theorem mark_any (b off n cap : Nat) (hn : n ≤ 100000000) (k0 : Int) (h0 : 0 ≤ k0) (h1 : k0 ≤ 100000000) (w : World) (hc : ∀ i, i < n → (w.cell? ⟨b, off + i, none⟩).isSome = true) (hf : FreeAt w b off n) :
    Calls Tryz.prog 38 #[.slice (some ⟨b, off, none⟩) n cap, .int .i64 k0] w fun e w' => e = .returned (.int .i64 (k0 + (n : Int))) ∧ Others b w w' ∧ IntsAt w' b off (marks k0 n) := by
  have HC : Hid (∀ i, i < n → (w.cell? ⟨b, off + i, none⟩).isSome = true) := hc
  have HF : Hid (FreeAt w b off n) := hf
  clear hc hf
  go_enter Tryz.func38, Tryz.ntmps38
  go_wp2
  go_loopw [1, 5] (fun k i wr => ∃ j : Nat, j ≤ n ∧ i = .int .i64 (j : Int) ∧ k = .int .i64 (k0 + (j : Int)) ∧ Others b w wr ∧ (∀ i, i < n → (wr.cell? ⟨b, off + i, none⟩).isSome = true) ∧ ∀ i, i < j → wr.cell? ⟨b, off + i, none⟩ = some (.int .i64 (k0 + (i : Int)))) (fun _ i _ => n - (intOf i).toNat)
  case atStart => exact ⟨0, Nat.zero_le _, rfl, by simp, Others.refl _ _, HC.out, fun i hi => by omega⟩
  case round =>
    obtain ⟨j, hj, rfl, rfl, ho, hs, hm⟩ := hrel
    have HO : Hid (Others b w wr) := ho
    have HS : Hid (∀ i, i < n → (wr.cell? ⟨b, off + i, none⟩).isSome = true) := hs
    have HM : Hid (∀ i, i < j → wr.cell? ⟨b, off + i, none⟩ = some (.int .i64 (k0 + (i : Int)))) := hm
    clear ho hs hm
    by_cases hlt : j < n
    · have hlt' : (j : Int) < (n : Int) := by omega
      obtain ⟨v, hv⟩ := Option.isSome_iff_exists.mp (HS.out j hlt)
      have hfz : wr.frozen? ⟨b, off + j, none⟩ = false := (HO.out.2.1 b (off + j)).trans (HF.out j hlt)
      go_wp2
      go_roundw
      case rel =>
        refine ⟨j + 1, by omega, by go_num, by go_num, HO.out.set _ _, fun i hi => ?_, fun i hi => ?_⟩
        · by_cases e : i = j
          · rw [e, World.cell?_setCell_same _ _ _ hv]; rfl
          · rw [World.cell?_setCell_other _ _ _ _ (fun h => e (by first | (simp at h; omega) | (simp at h; done) | (cases h; rfl)))]; exact HS.out i hi
        · by_cases e : i = j
          · rw [e]; exact World.cell?_setCell_same _ _ _ hv
          · rw [World.cell?_setCell_other _ _ _ _ (fun h => e (by first | (simp at h; omega) | (simp at h; done) | (cases h; rfl)))]; exact HM.out i (by omega)
      case measure => simp [intOf]; omega
    · have e : j = n := by omega
      have HE : Hid (j = n) := e
      clear e
      go_wp2
      go_ret
      refine ⟨ret_int (by rw [HE.out]), HO.out, fun i hi => ?_⟩
      rw [marks_length] at hi
      rw [marks_getD k0 n i hi]
      exact HM.out i (by have := HE.out; omega)

theorem mark_none (a : Option Addr) (cap : Nat) (k0 : Int) (w : World) :
    Calls Tryz.prog 38 #[.slice a 0 cap, .int .i64 k0] w fun e w' => e = .returned (.int .i64 k0) ∧ w' = w := by
  go_enter Tryz.func38, Tryz.ntmps38
  go_wp2
  go_loop [1, 5] (fun k i => i = .int .i64 0 ∧ k = .int .i64 k0) (fun _ i => 0)
  case atStart => exact ⟨rfl, rfl⟩
  case round =>
    obtain ⟨rfl, rfl⟩ := hrel
    go_wp2
    go_ret
    exact ⟨rfl, rfl⟩


end Go.Proofs.YthcahmjgfjeckaaGreat

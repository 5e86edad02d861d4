/-
  Texts of this claim laid together: TlU, LiE, LiF.
-/
import Derived.Test.YthcahmjgfjeckaaGreatM28
import Derived.Test.YthcahmjgfjeckaaGreatM1
/-
  All acts of a till; the program's TillRun.
-/
namespace Go.Proofs.YthcahmjgfjeckaaGreat
open Go.ChangeShapes Go.WideShapes Go.ChangeAt Go.RowKit Go.Deep
set_option linter.unusedVariables false

theorem its_both2 : ∃ B, ImplIt B ∧ SpecIt B ∧ ∀ r, B r = true → ItN r := by
  obtain ⟨f, hf⟩ := Classical.axiomOfChoice (fun r : RIt => implItem_any r.cd r.pr r.dp r.cl r.ag)
  refine ⟨f, fun x p d c g w => (hf ⟨x, p, d, c, g⟩).1 w, fun x p d c g w hx => specItem_any x (by unfold maxLen; omega) p d c g _ (hf ⟨x, p, d, c, g⟩).2 w, fun r hr => ?_⟩
  obtain ⟨b0, hb, _⟩ := (hf r).2
  rw [hr] at hb
  unfold inB at hb
  have hb' := hb.symm
  simp only [Bool.and_eq_true, decide_eq_true_eq] at hb'
  obtain ⟨⟨⟨⟨_, h1⟩, h2⟩, h3⟩, h4⟩ := hb'
  exact ⟨h1, h2, h3, h4⟩
theorem itGood_each {B : RIt → Bool} {rs : List RIt} : ∀ k, k ≤ rs.length → itGood B rs k = true → ∀ j, j < k → B (rs.getD j zIt) = true
  | 0, _, _, j, hj => by omega
  | k + 1, hk, h, j, hj => by
    unfold itGood at h
    rw [Bool.and_eq_true, Bool.and_eq_true] at h
    by_cases e : j = k
    · subst e; exact h.2.1
    · exact itGood_each k (by omega) h.1 j (by omega)
theorem itAll_N {B : RIt → Bool} (hB : ∀ r, B r = true → ItN r) {rs : List RIt} (h : itAll B rs = true) : rs.length ≤ 40 ∧ ∀ r ∈ rs, ItN r := by
  unfold itAll at h
  split at h
  · cases h
  · refine ⟨by omega, fun r hr => ?_⟩
    obtain ⟨j, hj, rfl⟩ := List.getElem_of_mem hr
    have := itGood_each _ (Nat.le_refl _) h j hj
    rw [show rs.getD j zIt = rs[j] by simp [List.getD_eq_getElem?_getD, hj]] at this
    exact hB _ this
def tl0 : Tl := ⟨[], 0, [], 0, 0, 0, [0, 0, 0, 0, 0, 0, 0, 0, 0]⟩
theorem tl0_OK (its : List RIt) : TlOK its 0 tl0 := ⟨BkOK.nil its, fun b h => by simp [tl0] at h, by simp [tl0], by simp [tl0], by simp [tl0], by simp [tl0], rfl, fun c hc => by simp [tl0] at hc; simp [hc]⟩
/-- The till and what was told behind k acts. -/
def runT (R : ByteArray → Int × ByteArray × Int × Int) (its : List RIt) (acts : List RTa) : Nat → Tl
  | 0 => tl0
  | k + 1 => stepT R its (acts.getD k zTa) (runT R its acts k)
def runO (R : ByteArray → Int × ByteArray × Int × Int) (its : List RIt) (acts : List RTa) : Nat → List (Int × Int)
  | 0 => []
  | k + 1 => runO R its acts k ++ [stepO R its (acts.getD k zTa) (runT R its acts k)]
theorem runO_len (R : ByteArray → Int × ByteArray × Int × Int) (its : List RIt) (acts : List RTa) : ∀ k, (runO R its acts k).length = k
  | 0 => rfl
  | k + 1 => by rw [runO, List.length_append, runO_len R its acts k]; rfl
theorem runT_OK {R : ByteArray → Int × ByteArray × Int × Int} (hv : ∀ s, 0 ≤ (R s).2.2.1 ∧ (R s).2.2.1 ≤ 99999) {its : List RIt} (hok : ∀ r ∈ its, ItN r) (acts : List RTa) : ∀ k, TlOK its k (runT R its acts k)
  | 0 => tl0_OK its
  | k + 1 => stepT_OK hv hok (runT_OK hv hok acts k) _
def obC (o : Int × Int) : List Value := [.int .i64 o.1, .int .i64 o.2]
def obCells (os : List (Int × Int)) : List Value := os.flatMap obC
theorem obCells_append (a b : List (Int × Int)) : obCells (a ++ b) = obCells a ++ obCells b := by simp [obCells]
theorem obInfo0 : (Tryz.prog.info? 63).map (fun i => (i.zero, i.size, i.bytes)) = some (some (.agg #[.int .i64 0, .int .i64 0]), 2, 16) := by kernel_rfl
theorem run_makeOb (n : Nat) (hn : n ≤ 100000000) (w : World) :
    (Instr.makeSlice 26 (.int .i64 0) (.int .i64 (n : Int))).run Tryz.prog w = .ok (.slice (some ⟨w.heap.size, 0, none⟩) 0 n) (w.alloc (.cells (madeCells #[.int .i64 0, .int .i64 0] (n * 2)) 63)) := by
  obtain ⟨i, hi, hzz⟩ := Option.map_eq_some_iff.1 obInfo0
  simp only [Prod.mk.injEq] at hzz
  obtain ⟨hz, hs, hb⟩ := hzz
  have hr := run_make (P := Tryz.prog) w 26 63 i _ Tryz.underlying26 hi hz .i64 .i64 0 (n : Int) (Int.le_refl _) (by omega) (by rw [hb]; omega) (by omega)
  simp only [Int.toNat_natCast, hs, Int.toNat_zero] at hr
  exact hr
/-- What TillRun leaves: what was told, the till, each in memory of its own from block B on. -/
structure AnsT (B : Nat) (os : List (Int × Int)) (t : Tl) (tv lv kv cv : Value) (ks : List Kb) (W : World) : Prop where
  told : W.ownsRow B 63 2 tv os.length (obCells os)
  kept : ks.map (fun k : Kb => (k.ls, k.sh)) = t.kept
  lrow : W.ownsRow B 85 4 lv t.ls.length (lnCells t.ls)
  krow : W.ownsRow B 29 2 kv ks.length (ks.flatMap kbC)
  rows : ∀ k ∈ ks, W.ownsRow B 85 4 k.v k.ls.length (lnCells k.ls)
  crow : W.ownsRow B 3 1 cv t.cs.length (t.cs.map (Value.int .i64))
  dist : (lv.ownBlock :: ks.map (·.v.ownBlock)).Pairwise Far
def tlN : Tl := ⟨[], 0, [], 0, 0, 0, []⟩
theorem AnsT.none (B : Nat) (W : World) : AnsT B [] tlN (.slice none 0 0) (.slice none 0 0) (.slice none 0 0) (.slice none 0 0) [] W :=
  ⟨World.ownsRow_nil _ _ _ _, rfl, World.ownsRow_nil _ _ _ _, World.ownsRow_nil _ _ _ _, fun _ h => by simp at h, World.ownsRow_nil _ _ _ _, by simp⟩
end Go.Proofs.YthcahmjgfjeckaaGreat

/-
  The laws' own helpers on lists of Line: sz.., to...
-/
namespace Go.Proofs.YthcahmjgfjeckaaGreat
open Go.ChangeShapes Go.WideShapes Go.ChangeAt Go.RowKit Go.Deep
set_option linter.unusedVariables false

def liCell (r : RLi) (j : Nat) : Value := if j = 0 then .int .i64 r.it else if j = 1 then .int .i64 r.ct else if j = 2 then .int .i64 r.am else .int .i64 r.dp
theorem liInfo : (Tryz.prog.info? 85).map (fun i => (i.zero, i.size, i.bytes)) = some (some (.agg #[.int .i64 0, .int .i64 0, .int .i64 0, .int .i64 0]), 4, 32) := by kernel_rfl
theorem makeLis (n : Nat) (hn : n ≤ 100000000) (w : World) :
    (Instr.makeSlice 27 (.int .i64 (n : Int)) (.int .i64 (n : Int))).run Tryz.prog w = .ok (.slice (some ⟨w.heap.size, 0, none⟩) n n) (w.alloc (.cells (madeCells #[.int .i64 0, .int .i64 0, .int .i64 0, .int .i64 0] (n * 4)) 85)) := by
  obtain ⟨i, hi, hzz⟩ := Option.map_eq_some_iff.1 liInfo
  simp only [Prod.mk.injEq] at hzz
  obtain ⟨hz, hs, hb⟩ := hzz
  have hr := run_make (P := Tryz.prog) w 27 85 i _ Tryz.underlying27 hi hz .i64 .i64 (n : Int) (n : Int) (by omega) (Int.le_refl _) (by rw [hb]; omega) (by omega)
  simp only [Int.toNat_natCast, hs] at hr
  exact hr
theorem lis_made (w : World) (n : Nat) : (w.alloc (.cells (madeCells #[.int .i64 0, .int .i64 0, .int .i64 0, .int .i64 0] (n * 4)) 85)).rowIs w.heap.size 85 (n * 4) (fun j => liCell zLi (j % 4)) := by
  refine ⟨_, heapNew _ _, size_madeCells _ _, fun i hi => ?_⟩
  have h6 : i % 4 = 0 ∨ i % 4 = 1 ∨ i % 4 = 2 ∨ i % 4 = 3 := by omega
  unfold liCell zLi
  rcases h6 with h | h | h | h <;> simp [madeCells, hi, h] <;> rfl
def liFill (rs : List RLi) (k j : Nat) : Value := liCell (if j / 4 < k then rs.getD (j / 4) zLi else zLi) (j % 4)
theorem liFill_set {w : World} {b : Nat} {rs : List RLi} {n k : Nat} (h : w.rowIs b 85 (n * 4) (liFill rs k)) :
    ((((w.setCell ⟨b, k * 4, none⟩ (.int .i64 (rs.getD k zLi).it)).setCell ⟨b, k * 4 + 1, none⟩ (.int .i64 (rs.getD k zLi).ct)).setCell ⟨b, k * 4 + 2, none⟩ (.int .i64 (rs.getD k zLi).am)).setCell ⟨b, k * 4 + 3, none⟩ (.int .i64 (rs.getD k zLi).dp)).rowIs b 85 (n * 4) (liFill rs (k + 1)) := by
  refine ((((h.set (k * 4) _).set (k * 4 + 1) _).set (k * 4 + 2) _).set (k * 4 + 3) _).congr fun j hj => ?_
  unfold liFill
  by_cases e3 : j = k * 4 + 3
  · rw [if_pos e3, if_pos (by omega), show j / 4 = k by omega, show j % 4 = 3 by omega]; rfl
  rw [if_neg e3]
  by_cases e2 : j = k * 4 + 2
  · rw [if_pos e2, if_pos (by omega), show j / 4 = k by omega, show j % 4 = 2 by omega]; rfl
  rw [if_neg e2]
  by_cases e1 : j = k * 4 + 1
  · rw [if_pos e1, if_pos (by omega), show j / 4 = k by omega, show j % 4 = 1 by omega]; rfl
  rw [if_neg e1]
  by_cases e0 : j = k * 4
  · rw [if_pos e0, if_pos (by omega), show j / 4 = k by omega, show j % 4 = 0 by omega]; rfl
  rw [if_neg e0]
  by_cases h : j / 4 < k
  · rw [if_pos h, if_pos (by omega)]
  · rw [if_neg h, if_neg (by omega)]
def FreeLi (w : World) (b n : Nat) : Prop := ∀ j, j < n * 4 → w.frozen? ⟨b, j, none⟩ = false
theorem FreeLi.below {B : Nat} {w w' : World} {b n : Nat} (h : FreeLi w b n) (hb : Below B w w') (hB : b < B) : FreeLi w' b n := fun j hj => (hb.frozen (p := ⟨b, j, none⟩) hB).trans (h j hj)
theorem lisAt_of {w : World} {b : Nat} {rs : List RLi} (h : w.rowIs b 85 (rs.length * 4) (liFill rs rs.length)) : LisAt w b 0 rs := fun i hi => by
  refine ⟨?_, ?_, ?_, ?_⟩
  · rw [h.cell (i := 0 + i * 4) (by omega)]; unfold liFill; rw [if_pos (by omega), show (0 + i * 4) / 4 = i by omega, show (0 + i * 4) % 4 = 0 by omega]; rfl
  · rw [h.cell (i := 0 + i * 4 + 1) (by omega)]; unfold liFill; rw [if_pos (by omega), show (0 + i * 4 + 1) / 4 = i by omega, show (0 + i * 4 + 1) % 4 = 1 by omega]; rfl
  · rw [h.cell (i := 0 + i * 4 + 2) (by omega)]; unfold liFill; rw [if_pos (by omega), show (0 + i * 4 + 2) / 4 = i by omega, show (0 + i * 4 + 2) % 4 = 2 by omega]; rfl
  · rw [h.cell (i := 0 + i * 4 + 3) (by omega)]; unfold liFill; rw [if_pos (by omega), show (0 + i * 4 + 3) / 4 = i by omega, show (0 + i * 4 + 3) % 4 = 3 by omega]; rfl

end Go.Proofs.YthcahmjgfjeckaaGreat

/-
  The laws' own helper eqLineS; a list of Line that came in, opened.
-/
namespace Go.Proofs.YthcahmjgfjeckaaGreat
open Go.ChangeShapes Go.WideShapes Go.ChangeAt Go.RowKit Go.Deep
set_option linter.unusedVariables false

theorem eqLi_any (r0 : Int) (r1 : Int) (r2 : Int) (r3 : Int) (w : World) :
    Calls Tryz.prog 71 #[.agg #[.int .i64 r0, .int .i64 r1, .int .i64 r2, .int .i64 r3], .agg #[.int .i64 r0, .int .i64 r1, .int .i64 r2, .int .i64 r3]] w fun e w' => e = .returned (.bool true) ∧ Below w.heap.size w w' := by
  have l1 : ∀ n : Nat, n < n + 1 + 1 := fun n => by omega
  have l2 : ∀ n : Nat, n < n + 2 := fun n => by omega
  go_enter Tryz.func71, Tryz.ntmps71
  go_wp2
  go_ret
  exact ⟨rfl, chain (below_alloc _ _) (below_alloc _ _)⟩
theorem keepLi {W w1 : World} {b0 b1 p0 p1 p2 p3 q0 q1 q2 q3 : Nat} {c0 c1 c2 c3 d0 d1 d2 d3 : Value} (hb : Below W.heap.size W w1) (h : W.cell? ⟨b0, p0, none⟩ = some c0 ∧ W.cell? ⟨b0, p1, none⟩ = some c1 ∧ W.cell? ⟨b0, p2, none⟩ = some c2 ∧ W.cell? ⟨b0, p3, none⟩ = some c3 ∧ W.cell? ⟨b1, q0, none⟩ = some d0 ∧ W.cell? ⟨b1, q1, none⟩ = some d1 ∧ W.cell? ⟨b1, q2, none⟩ = some d2 ∧ W.cell? ⟨b1, q3, none⟩ = some d3 ∧ b0 < W.heap.size ∧ b1 < W.heap.size) :
    w1.cell? ⟨b0, p0, none⟩ = some c0 ∧ w1.cell? ⟨b0, p1, none⟩ = some c1 ∧ w1.cell? ⟨b0, p2, none⟩ = some c2 ∧ w1.cell? ⟨b0, p3, none⟩ = some c3 ∧ w1.cell? ⟨b1, q0, none⟩ = some d0 ∧ w1.cell? ⟨b1, q1, none⟩ = some d1 ∧ w1.cell? ⟨b1, q2, none⟩ = some d2 ∧ w1.cell? ⟨b1, q3, none⟩ = some d3 ∧ b0 < w1.heap.size ∧ b1 < w1.heap.size := by
  obtain ⟨h0, h1, h2, h3, k0, k1, k2, k3, l0, l1⟩ := h
  exact ⟨(hb.cell (p := ⟨b0, p0, none⟩) l0).trans h0, (hb.cell (p := ⟨b0, p1, none⟩) l0).trans h1, (hb.cell (p := ⟨b0, p2, none⟩) l0).trans h2, (hb.cell (p := ⟨b0, p3, none⟩) l0).trans h3, (hb.cell (p := ⟨b1, q0, none⟩) l1).trans k0, (hb.cell (p := ⟨b1, q1, none⟩) l1).trans k1, (hb.cell (p := ⟨b1, q2, none⟩) l1).trans k2, (hb.cell (p := ⟨b1, q3, none⟩) l1).trans k3, Nat.lt_of_lt_of_le l0 hb.size, Nat.lt_of_lt_of_le l1 hb.size⟩

set_option maxHeartbeats 2000000 in
theorem eqLis_any (a b : Option Addr) (ca cb : Nat) (rs : List RLi) (hn : rs.length ≤ 1048576) (w : World) (ra : ReadsLi w.heap.size w a rs) (rb : ReadsLi w.heap.size w b rs) :
    Calls Tryz.prog 53 #[.slice a rs.length ca, .slice b rs.length cb] w fun e w' => e = .returned (.bool true) ∧ Below w.heap.size w w' := by
  have HA : Hid (ReadsLi w.heap.size w a rs) := ra
  have HBb : Hid (ReadsLi w.heap.size w b rs) := rb
  clear ra rb
  go_enter Tryz.func53, Tryz.ntmps53
  go_wp2
  go_loopw [5] (fun i wr => ∃ k : Nat, k ≤ rs.length ∧ i = .int .i64 (k : Int) ∧ Below w.heap.size w wr) (fun i _ => rs.length - (intOf i).toNat)
  case atStart => exact ⟨0, Nat.zero_le _, rfl, Below.refl _ _⟩
  case round =>
    obtain ⟨k, hk, rfl, hb⟩ := hrel
    have HB : Hid (Below w.heap.size w wr) := hb
    clear hb
    by_cases hlt : k < rs.length
    · have hlt' : (k : Int) < (rs.length : Int) := by omega
      rcases HA.out with h | ⟨b0, o0, ha, hB0, ia⟩
      · rw [h] at hlt; simp at hlt
      rcases HBb.out with h | ⟨b1, o1, hbb, hB1, ib⟩
      · rw [h] at hlt; simp at hlt
      obtain ⟨c0, c1, c2, c3⟩ := (ia.below HB.out hB0) k hlt
      obtain ⟨d0, d1, d2, d3⟩ := (ib.below HB.out hB1) k hlt
      have lt0 : b0 < wr.heap.size := Nat.lt_of_lt_of_le hB0 HB.out.size
      have lt1 : b1 < wr.heap.size := Nat.lt_of_lt_of_le hB1 HB.out.size
      rw [ha, hbb]
      clear ia ib
      generalize rs.getD k zLi = r at *
      obtain ⟨r0, r1, r2, r3⟩ := r
      dsimp only at c0 c1 c2 c3 d0 d1 d2 d3
      go_wp2
      go_region_held3 (fun W => W.cell? ⟨b0, o0 + k * 4, none⟩ = some (.int .i64 r0) ∧ W.cell? ⟨b0, o0 + k * 4 + 1, none⟩ = some (.int .i64 r1) ∧ W.cell? ⟨b0, o0 + k * 4 + 2, none⟩ = some (.int .i64 r2) ∧ W.cell? ⟨b0, o0 + k * 4 + 3, none⟩ = some (.int .i64 r3) ∧ W.cell? ⟨b1, o1 + k * 4, none⟩ = some (.int .i64 r0) ∧ W.cell? ⟨b1, o1 + k * 4 + 1, none⟩ = some (.int .i64 r1) ∧ W.cell? ⟨b1, o1 + k * 4 + 2, none⟩ = some (.int .i64 r2) ∧ W.cell? ⟨b1, o1 + k * 4 + 3, none⟩ = some (.int .i64 r3) ∧ b0 < W.heap.size ∧ b1 < W.heap.size) (first | exact ⟨c0, c1, c2, c3, d0, d1, d2, d3, lt0, lt1⟩ | exact keepLi (by assumption) (by assumption)) (first | (go_at_call 71; refine (eqLi_any _ _ _ _ _).mono ?_; rintro e w2 ⟨rfl, hb2⟩))
      have HB2 : Hid (Below w.heap.size w w2) := chain HB.out.drew hb2
      go_wp2
      go_roundw
      case rel => exact ⟨k + 1, by omega, by go_num, HB2.out⟩
      case measure => simp [intOf]; omega
    · go_wp2
      go_ret
      exact ⟨rfl, HB.out⟩

/-! ### A list that came in -/
def IsLis (w : World) (a : Option Addr) (len cap : Nat) (rs : List RLi) : Prop := rs.length = len ∧ len ≤ cap ∧ cap ≤ maxLen ∧ (∀ r ∈ rs, LiWide r) ∧ ReadsLi w.heap.size w a rs
end Go.Proofs.YthcahmjgfjeckaaGreat

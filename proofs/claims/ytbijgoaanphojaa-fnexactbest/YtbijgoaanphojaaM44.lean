/-
  Texts of this claim laid together: UsF, UnE.
-/
import Derived.Test.YtbijgoaanphojaaM13
import Derived.Test.YtbijgoaanphojaaM43
import Derived.Test.YtbijgoaanphojaaM7
/-
  The laws' own eqUseS, eqBargain; a list of uses that came in, opened.
-/
namespace Go.Proofs.Ytbijgoaanphojaa
open Go.ChangeShapes Go.WideShapes Go.ChangeAt Go.RowKit Go.Deep
set_option linter.unusedVariables false


set_option maxHeartbeats 2000000 in
theorem eqUs_any (c : CUs) (h k : Option Addr) (cp cq : Nat) (hn : c.us.length ≤ 1048576) (w : World) (hr : Reads w.heap.size w h c.us) (kr : Reads w.heap.size w k c.us) :
    Calls Try.prog 82 #[.agg #[.int .i64 c.dl, .int .i64 c.sv, .slice h c.us.length cp], .agg #[.int .i64 c.dl, .int .i64 c.sv, .slice k c.us.length cq]] w fun e w' => e = .returned (.bool true) ∧ Below w.heap.size w w' := by
  have HW : Hid (∀ W, Below w.heap.size w W → Calls Try.prog 97 #[.slice h c.us.length cp, .slice k c.us.length cq] W fun e w' => e = .returned (.bool true) ∧ Below W.heap.size W w') := fun W b => by
    have := eqInts_any W.heap.size h k cp cq c.us c.us (by omega) (by omega) W (hr.later b) (kr.later b)
    rwa [decide_eq_true rfl] at this
  clear hr kr
  obtain ⟨dl, sv, us⟩ := c
  dsimp only at *
  generalize us.length = n at *
  go_enter Try.func82, Try.ntmps82
  go_wp2_with fail
  (first | go_at_call 97 | skip)
  refine (HW.out _ (by repeat (first | exact Below.refl _ _ | refine chain ?_ (below_alloc _ _) | refine chain ?_ (below_drew _)))).mono ?_
  rintro e w2 ⟨rfl, hb2⟩
  have HB2 : Hid (Below w.heap.size w w2) := chain (chain (below_alloc _ _) (below_alloc _ _)) hb2
  clear hb2 HW
  go_wp2
  go_ret
  exact ⟨rfl, HB2.out⟩
theorem keepUss {W w1 : World} {b0 b1 p0 p1 p2 q0 q1 q2 : Nat} {c0 c1 c2 d0 d1 d2 : Value} {h k : Option Addr} {ss : List Int} (hb : Below W.heap.size W w1) (x : W.cell? ⟨b0, p0, none⟩ = some c0 ∧ W.cell? ⟨b0, p1, none⟩ = some c1 ∧ W.cell? ⟨b0, p2, none⟩ = some c2 ∧ W.cell? ⟨b1, q0, none⟩ = some d0 ∧ W.cell? ⟨b1, q1, none⟩ = some d1 ∧ W.cell? ⟨b1, q2, none⟩ = some d2 ∧ b0 < W.heap.size ∧ b1 < W.heap.size ∧ Reads W.heap.size W h ss ∧ Reads W.heap.size W k ss) :
    w1.cell? ⟨b0, p0, none⟩ = some c0 ∧ w1.cell? ⟨b0, p1, none⟩ = some c1 ∧ w1.cell? ⟨b0, p2, none⟩ = some c2 ∧ w1.cell? ⟨b1, q0, none⟩ = some d0 ∧ w1.cell? ⟨b1, q1, none⟩ = some d1 ∧ w1.cell? ⟨b1, q2, none⟩ = some d2 ∧ b0 < w1.heap.size ∧ b1 < w1.heap.size ∧ Reads w1.heap.size w1 h ss ∧ Reads w1.heap.size w1 k ss := by
  obtain ⟨h0, h1, h2, k0, k1, k2, l0, l1, m0, m1⟩ := x
  exact ⟨(hb.cell (p := ⟨b0, p0, none⟩) l0).trans h0, (hb.cell (p := ⟨b0, p1, none⟩) l0).trans h1, (hb.cell (p := ⟨b0, p2, none⟩) l0).trans h2, (hb.cell (p := ⟨b1, q0, none⟩) l1).trans k0, (hb.cell (p := ⟨b1, q1, none⟩) l1).trans k1, (hb.cell (p := ⟨b1, q2, none⟩) l1).trans k2, Nat.lt_of_lt_of_le l0 hb.size, Nat.lt_of_lt_of_le l1 hb.size, m0.later hb, m1.later hb⟩

set_option maxHeartbeats 2000000 in
theorem eqUss_any (a b : Option Addr) (ca cb : Nat) (cs : List CUs) (hn : cs.length ≤ 1048576) (hp : ∀ r ∈ cs, UsOK r) (w : World) (ra : ReadsUs w.heap.size w a cs) (rb : ReadsUs w.heap.size w b cs) :
    Calls Try.prog 45 #[.slice a cs.length ca, .slice b cs.length cb] w fun e w' => e = .returned (.bool true) ∧ Below w.heap.size w w' := by
  have HA : Hid (ReadsUs w.heap.size w a cs) := ra
  have HBb : Hid (ReadsUs w.heap.size w b cs) := rb
  have HP : Hid (∀ r ∈ cs, UsOK r) := hp
  clear ra rb hp
  go_enter Try.func45, Try.ntmps45
  go_wp2
  go_loopw [5] (fun i wr => ∃ k : Nat, k ≤ cs.length ∧ i = .int .i64 (k : Int) ∧ Below w.heap.size w wr) (fun i _ => cs.length - (intOf i).toNat)
  case atStart => exact ⟨0, Nat.zero_le _, rfl, Below.refl _ _⟩
  case round =>
    obtain ⟨k, hk, rfl, hb⟩ := hrel
    have HB : Hid (Below w.heap.size w wr) := hb
    clear hb
    by_cases hlt : k < cs.length
    · have hlt' : (k : Int) < (cs.length : Int) := by omega
      rcases HA.out with h | ⟨b0, o0, ha, hB0, ia⟩
      · rw [h] at hlt; simp at hlt
      rcases HBb.out with h | ⟨b1, o1, hbb, hB1, ib⟩
      · rw [h] at hlt; simp at hlt
      obtain ⟨h, cp, ⟨c0, c1, c2⟩, _, hS⟩ := (ia.below HB.out hB0 (Nat.le_refl _)) k hlt
      obtain ⟨h', cq, ⟨d0, d1, d2⟩, _, hS'⟩ := (ib.below HB.out hB1 (Nat.le_refl _)) k hlt
      have HS : Hid (Reads wr.heap.size wr h (cs.getD k zUs).us) := hS.mono HB.out.size
      have HS' : Hid (Reads wr.heap.size wr h' (cs.getD k zUs).us) := hS'.mono HB.out.size
      have lt0 : b0 < wr.heap.size := Nat.lt_of_lt_of_le hB0 HB.out.size
      have lt1 : b1 < wr.heap.size := Nat.lt_of_lt_of_le hB1 HB.out.size
      have hE : ∀ W, Reads W.heap.size W h (cs.getD k zUs).us → Reads W.heap.size W h' (cs.getD k zUs).us → _ := fun W x y => eqUs_any (cs.getD k zUs) h h' cp cq (getUs HP.out hlt) W x y
      have HE : Hid _ := hE
      rw [ha, hbb]
      clear ia ib hS hS' hE
      generalize cs.getD k zUs = r at *
      obtain ⟨dl, sv, us⟩ := r
      dsimp only at c0 c1 c2 d0 d1 d2 HS HS' HE
      generalize us.length = n at *
      go_wp2
      go_region_held3 (fun W => W.cell? ⟨b0, o0 + k * 3, none⟩ = some (.int .i64 dl) ∧ W.cell? ⟨b0, o0 + k * 3 + 1, none⟩ = some (.int .i64 sv) ∧ W.cell? ⟨b0, o0 + k * 3 + 2, none⟩ = some (.slice h n cp) ∧ W.cell? ⟨b1, o1 + k * 3, none⟩ = some (.int .i64 dl) ∧ W.cell? ⟨b1, o1 + k * 3 + 1, none⟩ = some (.int .i64 sv) ∧ W.cell? ⟨b1, o1 + k * 3 + 2, none⟩ = some (.slice h' n cq) ∧ b0 < W.heap.size ∧ b1 < W.heap.size ∧ Reads W.heap.size W h us ∧ Reads W.heap.size W h' us) (first | exact ⟨c0, c1, c2, d0, d1, d2, lt0, lt1, HS.out, HS'.out⟩ | exact keepUss (by assumption) (by assumption)) (first | (go_at_call 82; refine (HE.out _ (by assumption) (by assumption)).mono ?_; rintro e w2 ⟨rfl, hb2⟩))
      have HB2 : Hid (Below w.heap.size w w2) := chain HB.out.drew hb2
      go_wp2
      go_roundw
      case rel => exact ⟨k + 1, by omega, by go_num, HB2.out⟩
      case measure => simp [intOf]; omega
    · go_wp2
      go_ret
      exact ⟨rfl, HB.out⟩


set_option maxHeartbeats 2000000 in
theorem eqBg_any (x y : Int) (a b : Option Addr) (ca cb : Nat) (cs : List CUs) (hn : cs.length ≤ 1048576) (hp : ∀ r ∈ cs, UsOK r) (w : World) (ra : ReadsUs w.heap.size w a cs) (rb : ReadsUs w.heap.size w b cs) :
    Calls Try.prog 14 #[.agg #[.int .i64 x, .int .i64 y, .slice a cs.length ca], .agg #[.int .i64 x, .int .i64 y, .slice b cs.length cb]] w fun e w' => e = .returned (.bool true) ∧ Below w.heap.size w w' := by
  have HW : Hid (∀ W, Below w.heap.size w W → Calls Try.prog 45 #[.slice a cs.length ca, .slice b cs.length cb] W fun e w' => e = .returned (.bool true) ∧ Below W.heap.size W w') := fun W q => eqUss_any a b ca cb cs hn hp W (ra.later q) (rb.later q)
  clear ra rb hp
  generalize cs.length = n at *
  go_enter Try.func14, Try.ntmps14
  go_wp2_with fail
  (first | go_at_call 45 | skip)
  refine (HW.out _ (by repeat (first | exact Below.refl _ _ | refine chain ?_ (below_alloc _ _) | refine chain ?_ (below_drew _)))).mono ?_
  rintro e w2 ⟨rfl, hb2⟩
  have HB2 : Hid (Below w.heap.size w w2) := chain (chain (below_alloc _ _) (below_alloc _ _)) hb2
  clear hb2 HW
  go_wp2
  go_ret
  exact ⟨rfl, HB2.out⟩



end Go.Proofs.Ytbijgoaanphojaa

/-
  The laws' own helpers on lists of Unit: sz.., to...
-/
namespace Go.Proofs.Ytbijgoaanphojaa
open Go.ChangeShapes Go.WideShapes Go.ChangeAt Go.RowKit Go.Deep
set_option linter.unusedVariables false

theorem szUn_any (r0 : ByteArray) (r1 : Int) (hs0 : r0.size ≤ maxLen) (l : Int) (hl : 0 ≤ l) (hl' : l ≤ 1048576) (w : World) :
    Calls Try.prog 34 #[.agg #[.string r0, .int .i64 r1], .int .i64 l] w fun e w' => (∃ x : Int, e = .returned (.int .i64 x) ∧ (x < 0 ∨ (0 ≤ x ∧ x ≤ l ∧ (r0.size : Int) ≤ l))) ∧ Below w.heap.size w w' := by
  unfold maxLen at hs0
  rcases (by omega : (l < (r0.size : Int)) ∨ ((r0.size : Int) ≤ l)) with c0 | c0
  all_goals
    go_enter Try.func34, Try.ntmps34
    go_wp2
    go_ret
    first
    | exact ⟨⟨-1, rfl, .inl (by omega)⟩, below_alloc _ _⟩
    | exact ⟨⟨_, rfl, .inr ⟨by omega, by omega, by omega⟩⟩, below_alloc _ _⟩
def SzUn (rs : List RUn) (w : World) (e : Ending) (w' : World) : Prop := ∃ x : Int, e = .returned (.int .i64 x) ∧ (x < 0 ∨ (0 ≤ x ∧ x ≤ 1048576 ∧ rs.length ≤ 1048576 ∧ ∀ r ∈ rs, UnOK r)) ∧ Below w.heap.size w w'
theorem take_nextUn {p : RUn → Prop} {rs : List RUn} {k : Nat} (h : k < rs.length) (ha : ∀ r ∈ rs.take k, p r) (hk : p (rs.getD k zUn)) : ∀ r ∈ rs.take (k + 1), p r := fun r hr => by
  rw [List.take_succ_eq_append_getElem h] at hr
  rcases List.mem_append.mp hr with h' | h'
  · exact ha r h'
  · simp at h'
    have e : rs.getD k zUn = rs[k] := by simp [List.getD_eq_getElem?_getD, h]
    rw [h', ← e]; exact hk

set_option maxHeartbeats 1000000 in
theorem szUns_any (a : Option Addr) (cap : Nat) (rs : List RUn) (hl : rs.length ≤ maxLen) (hp : ∀ r ∈ rs, UnWide r) (x0 : Int) (hx0 : 0 ≤ x0) (hx1 : x0 ≤ 1048576) (w : World) (hr : ReadsUn w.heap.size w a rs) :
    Calls Try.prog 9 #[.slice a rs.length cap, .int .i64 x0] w (SzUn rs w) := by
  have HR : Hid (ReadsUn w.heap.size w a rs) := hr
  have HP : Hid (∀ r ∈ rs, UnWide r) := hp
  clear hr hp
  unfold maxLen at hl
  by_cases c1 : x0 < (rs.length : Int)
  · have hwr : IntKind.i64.wrap (x0 - (rs.length : Int)) = x0 - (rs.length : Int) := wrap_id _ (by omega) (by omega)
    go_enter Try.func9, Try.ntmps9
    go_wp2
    go_ret
    exact ⟨-1, rfl, .inl (by omega), Below.refl _ _⟩
  · have hwr : IntKind.i64.wrap (x0 - (rs.length : Int)) = x0 - (rs.length : Int) := wrap_id _ (by omega) (by omega)
    go_enter Try.func9, Try.ntmps9
    go_wp2
    go_loopw [1, 5] (fun l c wr => ∃ (k : Nat) (x : Int), k ≤ rs.length ∧ c = .int .i64 (k : Int) ∧ l = .int .i64 x ∧ 0 ≤ x ∧ x ≤ 1048576 ∧ (∀ r ∈ rs.take k, UnOK r) ∧ Below w.heap.size w wr) (fun _ c _ => rs.length - (intOf c).toNat)
    case atStart => exact ⟨0, x0 - (rs.length : Int), Nat.zero_le _, rfl, rfl, by omega, by omega, by simp, Below.refl _ _⟩
    case round =>
      obtain ⟨k, x, hk, rfl, rfl, hx0, hx1, hall, hb⟩ := hrel
      have HA : Hid (∀ r ∈ rs.take k, UnOK r) := hall
      have HB : Hid (Below w.heap.size w wr) := hb
      clear hall hb
      by_cases hlt : k < rs.length
      · have hlt' : (k : Int) < (rs.length : Int) := by omega
        rcases HR.out with h | ⟨b0, o0, ha, hB0, ia⟩
        · rw [h] at hlt; simp at hlt
        obtain ⟨c0, c1⟩ := (ia.below HB.out hB0) k hlt
        have hW : UnWide (rs.getD k zUn) := getUn HP.out hlt
        have HN : Hid (((rs.getD k zUn).art.size : Int) ≤ x → ∀ r ∈ rs.take (k + 1), UnOK r) := fun q0 => take_nextUn hlt HA.out (show (rs.getD k zUn).art.size ≤ 2000000 from by omega)
        rw [ha]
        clear ia
        generalize rs.getD k zUn = r at *
        obtain ⟨r0, r1⟩ := r
        dsimp only at c0 c1 HN
        obtain ⟨g0, g1⟩ := hW
        have hsz := fun w => szUn_any r0 r1 g0 x hx0 hx1 w
        clear g0 g1
        go_wp2_with (go_at_call 34; refine (hsz _).mono ?_; rintro e w2 ⟨⟨y, rfl, hy⟩, hb2⟩; have HY : Hid _ := hy; have HB2 : Hid (Below w.heap.size w w2) := chain HB.out hb2; clear hy hb2)
        · go_ret
          exact ⟨-1, rfl, .inl (by omega), HB2.out⟩
        · rcases HY.out with h | ⟨y0, y1, z0⟩
          · omega
          have HN1 : Hid (∀ r ∈ rs.take (k + 1), UnOK r) := HN.out z0
          go_roundw
          case rel => exact ⟨k + 1, y, by omega, by go_num, rfl, by omega, by omega, HN1.out, HB2.out⟩
          case measure => simp [intOf]; omega
      · have hle : (rs.length : Int) ≤ (k : Int) := by omega
        have HE : Hid (∀ r ∈ rs, UnOK r) := by
          have := HA.out
          rw [List.take_of_length_le (by omega)] at this
          exact this
        go_wp2
        go_ret
        exact ⟨x, rfl, .inr ⟨hx0, hx1, by omega, HE.out⟩, HB.out⟩

/-! ### toUnitS -/
theorem toUn_any (r0 : ByteArray) (r1 : Int) (w : World) :
    Calls Try.prog 43 #[.agg #[.string r0, .int .i64 r1]] w fun e w' => e = .returned (.agg #[.string r0, .int .i64 r1]) ∧ Below w.heap.size w w' := by
  have l1 : ∀ n : Nat, n < n + 1 + 1 := fun n => by omega
  have l2 : ∀ n : Nat, n < n + 2 := fun n => by omega
  have l3 : ∀ n : Nat, n < n + 3 := fun n => by omega
  have l4 : ∀ n : Nat, n + 1 < n + 3 := fun n => by omega
  have l5 : ∀ n : Nat, n + 2 < n + 3 := fun n => by omega
  go_enter Try.func43, Try.ntmps43
  go_wp2
  refine bodyPost_ret (v := .agg #[.string r0, .int .i64 r1]) (by simp [results, Try.results43, go_sem]) rfl ⟨rfl, ?_⟩
  repeat (first | exact Below.refl _ _ | refine chain ?_ (below_alloc _ _) | refine Below.setCell ?_ (by dsimp only; omega) _)
def unCell (r : RUn) (j : Nat) : Value := if j = 0 then .string r.art else .int .i64 r.pr
theorem unInfo : (Try.prog.info? 41).map (fun i => (i.zero, i.size, i.bytes)) = some (some (.agg #[.string ⟨#[]⟩, .int .i64 0]), 2, 24) := by kernel_rfl
theorem makeUns (n : Nat) (hn : n ≤ 100000000) (w : World) :
    (Instr.makeSlice 23 (.int .i64 (n : Int)) (.int .i64 (n : Int))).run Try.prog w = .ok (.slice (some ⟨w.heap.size, 0, none⟩) n n) (w.alloc (.cells (madeCells #[.string ⟨#[]⟩, .int .i64 0] (n * 2)) 41)) := by
  obtain ⟨i, hi, hzz⟩ := Option.map_eq_some_iff.1 unInfo
  simp only [Prod.mk.injEq] at hzz
  obtain ⟨hz, hs, hb⟩ := hzz
  have hr := run_make (P := Try.prog) w 23 41 i _ Try.underlying23 hi hz .i64 .i64 (n : Int) (n : Int) (by omega) (Int.le_refl _) (by rw [hb]; omega) (by omega)
  simp only [Int.toNat_natCast, hs] at hr
  exact hr
theorem uns_made (w : World) (n : Nat) : (w.alloc (.cells (madeCells #[.string ⟨#[]⟩, .int .i64 0] (n * 2)) 41)).rowIs w.heap.size 41 (n * 2) (fun j => unCell zUn (j % 2)) := by
  refine ⟨_, heapNew _ _, size_madeCells _ _, fun i hi => ?_⟩
  have h6 : i % 2 = 0 ∨ i % 2 = 1 := by omega
  unfold unCell zUn
  rcases h6 with h | h <;> simp [madeCells, hi, h] <;> rfl
def unFill (rs : List RUn) (k j : Nat) : Value := unCell (if j / 2 < k then rs.getD (j / 2) zUn else zUn) (j % 2)
theorem unFill_set {w : World} {b : Nat} {rs : List RUn} {n k : Nat} (h : w.rowIs b 41 (n * 2) (unFill rs k)) :
    ((w.setCell ⟨b, k * 2, none⟩ (.string (rs.getD k zUn).art)).setCell ⟨b, k * 2 + 1, none⟩ (.int .i64 (rs.getD k zUn).pr)).rowIs b 41 (n * 2) (unFill rs (k + 1)) := by
  refine ((h.set (k * 2) _).set (k * 2 + 1) _).congr fun j hj => ?_
  unfold unFill
  by_cases e1 : j = k * 2 + 1
  · rw [if_pos e1, if_pos (by omega), show j / 2 = k by omega, show j % 2 = 1 by omega]; rfl
  rw [if_neg e1]
  by_cases e0 : j = k * 2
  · rw [if_pos e0, if_pos (by omega), show j / 2 = k by omega, show j % 2 = 0 by omega]; rfl
  rw [if_neg e0]
  by_cases h : j / 2 < k
  · rw [if_pos h, if_pos (by omega)]
  · rw [if_neg h, if_neg (by omega)]
def FreeUn (w : World) (b n : Nat) : Prop := ∀ j, j < n * 2 → w.frozen? ⟨b, j, none⟩ = false
theorem FreeUn.below {B : Nat} {w w' : World} {b n : Nat} (h : FreeUn w b n) (hb : Below B w w') (hB : b < B) : FreeUn w' b n := fun j hj => (hb.frozen (p := ⟨b, j, none⟩) hB).trans (h j hj)
theorem unsAt_of {w : World} {b : Nat} {rs : List RUn} (h : w.rowIs b 41 (rs.length * 2) (unFill rs rs.length)) : UnsAt w b 0 rs := fun i hi => by
  refine ⟨?_, ?_⟩
  · rw [h.cell (i := 0 + i * 2) (by omega)]; unfold unFill; rw [if_pos (by omega), show (0 + i * 2) / 2 = i by omega, show (0 + i * 2) % 2 = 0 by omega]; rfl
  · rw [h.cell (i := 0 + i * 2 + 1) (by omega)]; unfold unFill; rw [if_pos (by omega), show (0 + i * 2 + 1) / 2 = i by omega, show (0 + i * 2 + 1) % 2 = 1 by omega]; rfl

set_option maxHeartbeats 2000000 in
theorem toUns_any (a : Option Addr) (cap : Nat) (rs : List RUn) (hn : rs.length ≤ 1048576) (w : World) (hr : ReadsUn w.heap.size w a rs) :
    Calls Try.prog 12 #[.slice a rs.length cap] w fun e w' => e = .returned (.slice (some ⟨w.heap.size, 0, none⟩) rs.length rs.length) ∧ Below w.heap.size w w' ∧ w.heap.size < w'.heap.size ∧ UnsAt w' w.heap.size 0 rs ∧ FreeUn w' w.heap.size rs.length := by
  have hmk := fun w => makeUns rs.length (by omega) w
  have HM : Hid ((w.alloc (.cells (madeCells #[.string ⟨#[]⟩, .int .i64 0] (rs.length * 2)) 41)).rowIs w.heap.size 41 (rs.length * 2) (fun j => unCell zUn (j % 2))) := uns_made w rs.length
  have HR : Hid (ReadsUn w.heap.size w a rs) := hr
  clear hr
  go_enter Try.func12, Try.ntmps12
  go_wp2
  go_loopw [4] (fun i wr => ∃ k : Nat, k ≤ rs.length ∧ i = .int .i64 (k : Int) ∧ Below w.heap.size w wr ∧ wr.rowIs w.heap.size 41 (rs.length * 2) (unFill rs k)) (fun i _ => rs.length - (intOf i).toNat)
  case atStart => exact ⟨0, Nat.zero_le _, rfl, below_alloc _ _, HM.out.congr (fun i hi => by unfold unFill; rw [if_neg (by omega)])⟩
  case round =>
    obtain ⟨k, hk, rfl, hb, hrow⟩ := hrel
    have HB : Hid (Below w.heap.size w wr) := hb
    have HW : Hid (wr.rowIs w.heap.size 41 (rs.length * 2) (unFill rs k)) := hrow
    clear hb hrow
    by_cases hlt : k < rs.length
    · have hlt' : (k : Int) < (rs.length : Int) := by omega
      rcases HR.out with h | ⟨b0, o0, ha, hB0, ia⟩
      · rw [h] at hlt; simp at hlt
      obtain ⟨c0, c1⟩ := (ia.below HB.out hB0) k hlt
      have HN : Hid (∀ w2, Below wr.heap.size wr w2 → ((w2.setCell ⟨w.heap.size, k * 2, none⟩ (.string (rs.getD k zUn).art)).setCell ⟨w.heap.size, k * 2 + 1, none⟩ (.int .i64 (rs.getD k zUn).pr)).rowIs w.heap.size 41 (rs.length * 2) (unFill rs (k + 1)) ∧ Below w.heap.size w ((w2.setCell ⟨w.heap.size, k * 2, none⟩ (.string (rs.getD k zUn).art)).setCell ⟨w.heap.size, k * 2 + 1, none⟩ (.int .i64 (rs.getD k zUn).pr)) ∧ (∀ j, j < 2 → (w2.cell? ⟨w.heap.size, k * 2 + j, none⟩).isSome = true) ∧ (∀ j, w2.frozen? ⟨w.heap.size, j, none⟩ = false)) := fun w2 hb2 => by
        have hw2 := HW.out.of_block (hb2.block _ HW.out.lt)
        refine ⟨unFill_set hw2, (((HB.out.trans (hb2.mono HB.out.size)).setCell (Nat.le_refl _) _).setCell (Nat.le_refl _) _), fun j hj => ?_, fun j => hw2.frozen j⟩
        rw [hw2.cell (by omega)]; rfl
      rw [ha]
      clear ia
      generalize rs.getD k zUn = r at *
      obtain ⟨r0, r1⟩ := r
      dsimp only at c0 c1 HN
      go_wp2_with (go_at_call 43; refine (toUn_any _ _ _).mono ?_; rintro e w2 ⟨rfl, hb2⟩; obtain ⟨n1, n2, n3, n4⟩ := HN.out w2 hb2; have N1 : Hid (_) := n1; have N2 : Hid (_) := n2; obtain ⟨v0, hv0⟩ := Option.isSome_iff_exists.mp (n3 0 (by omega)); obtain ⟨v1, hv1⟩ := Option.isSome_iff_exists.mp (n3 1 (by omega)); rw [Nat.add_zero] at hv0; clear n1 n2 n3)
      go_roundw
      case rel => exact ⟨k + 1, by omega, by go_num, N2.out, N1.out⟩
      case measure => simp [intOf]; omega
    · obtain rfl : k = rs.length := by omega
      go_wp2
      go_ret
      exact ⟨rfl, HB.out, HW.out.lt, unsAt_of HW.out, fun j hj => HW.out.frozen j⟩
end Go.Proofs.Ytbijgoaanphojaa

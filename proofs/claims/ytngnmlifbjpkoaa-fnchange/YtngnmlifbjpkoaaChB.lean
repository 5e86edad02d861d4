/-
  Contracts of the program's Coins.within, rowWith, mostOfKind, for every kind that is right and every row that lies in memory.
-/
import Derived.Test.YtngnmlifbjpkoaaChA
import Derived.Laws.CopyOwn
namespace Go.Proofs.Ytngnmlifbjpkoaa
open Go.ChangeShapes Go.WideShapes Go.ChangeAt Go.RowKit
set_option linter.unusedVariables false

def CoR (r : RCo) : Prop := 1 ≤ r.vl ∧ r.vl ≤ 100000 ∧ 0 ≤ r.ct ∧ r.ct ≤ 60
/-- A row of n numbers in a block. -/
def RwI (w : World) (b n : Nat) (f : Nat → Int) : Prop := w.rowIs b 3 n (fun i => .int .i64 (f i))
theorem RwI.below {B : Nat} {w w' : World} {b n : Nat} {f : Nat → Int} (h : RwI w b n f) (hb : Below B w w') (hB : b < B) : RwI w' b n f := World.rowIs.of_block h (hb.block b hB)
theorem RwI.congr {w : World} {b n : Nat} {f g : Nat → Int} (h : RwI w b n f) (e : ∀ i, i < n → f i = g i) : RwI w b n g := World.rowIs.congr h (fun i hi => by rw [e i hi])
theorem RwI.put {w : World} {b n : Nat} {f : Nat → Int} (h : RwI w b n f) (i : Nat) (x : Int) : RwI (w.setCell ⟨b, i, none⟩ (.int .i64 x)) b n (fun j => if j = i then x else f j) := by
  refine World.rowIs.congr (World.rowIs.set h i (.int .i64 x)) (fun j hj => ?_)
  dsimp only
  split <;> rfl
theorem mS_int (r : RCo) (h : CoR r) (s : Nat) : (mS r s : Int) = min r.ct ((s : Int) / r.vl) := by
  obtain ⟨v, c⟩ := r
  obtain ⟨h1, h2, h3, h4⟩ := h
  dsimp only at *
  obtain ⟨vn, rfl⟩ : ∃ n : Nat, v = (n : Int) := ⟨v.toNat, by omega⟩
  obtain ⟨cn, rfl⟩ : ∃ n : Nat, c = (n : Int) := ⟨c.toNat, by omega⟩
  rw [← Int.natCast_ediv]
  unfold mS
  dsimp only
  rw [Int.toNat_natCast, Int.toNat_natCast]
  generalize s / vn = q
  omega
theorem ediv_small (s : Nat) (v : Int) (h : 1 ≤ v) (hs : s ≤ 10000) : 0 ≤ (s : Int) / v ∧ (s : Int) / v ≤ 10000 := by
  obtain ⟨vn, rfl⟩ : ∃ n : Nat, v = (n : Int) := ⟨v.toNat, by omega⟩
  rw [← Int.natCast_ediv]
  have := Nat.div_le_self s vn
  generalize s / vn = q at *
  omega

set_option maxHeartbeats 2000000 in
theorem within_any (r : RCo) (hr : CoR r) (s : Nat) (hs : s ≤ 10000) (w : World) :
    Calls Try.prog 26 #[.agg #[.int .i64 r.vl, .int .i64 r.ct], .int .i64 (s : Int)] w fun e w' => e = .returned (.int .i64 (mS r s : Int)) ∧ Below w.heap.size w w' := by
  rw [mS_int r hr s]
  have hq := ediv_small s r.vl hr.1 hs
  obtain ⟨v, c⟩ := r
  obtain ⟨h1, h2, h3, h4⟩ := hr
  dsimp only at *
  have hv0 : (v == 0) = false := by simp; omega
  have hv1 : ¬ v = 0 := by omega
  obtain ⟨q, hqe⟩ : ∃ q, (s : Int) / v = q := ⟨_, rfl⟩
  rw [hqe] at hq ⊢
  have hw1 : IntKind.i64.wrap q = q := wrap_id _ (by omega) (by omega)
  have hw2 : wrap64 q = q := by unfold wrap64; omega
  have HM : Hid (min c q = if q < c then q else c) := by show _ = _; split <;> omega
  rcases (by omega : c ≤ q ∨ q < c) with h | h
  · have e : min c q = c := by omega
    rw [e]
    clear e
    go_enter Try.func26, Try.ntmps26
    go_wp2
    go_quiet (fail)
    go_wp2
    go_ret
    exact ⟨rfl, below_drewN (below_alloc _ _) _⟩
  · have e : min c q = q := by omega
    rw [e]
    clear e
    go_enter Try.func26, Try.ntmps26
    go_wp2
    go_quiet (fail)
    go_wp2
    go_ret
    exact ⟨rfl, below_drewN (below_alloc _ _) _⟩
theorem does_I {S I : Nat → Int} {m : Int} {x c v left : Nat} {f : Int} (h : Eq2 m (S (left - c * v)) (I (left - c * v))) (hf : 0 ≤ f ∧ f ≤ 720) (hc : c * v ≤ left) : doesS S v left f c = decide (I (left - c * v) + (c : Int) = f) := by
  unfold doesS
  rw [decide_eq_true hc, Bool.true_and]
  rcases h with ⟨h1, h2⟩ | ⟨h1, h2, h3⟩
  · rw [h1, h2, decide_eq_false (by omega), Bool.false_and, decide_eq_false (by omega)]
  · rw [h3, decide_eq_true h1, Bool.true_and]
theorem pick_stop {row : Nat → Int} {v left : Nat} {f : Int} {c : Nat} (h : doesS row v left f c = true) : pick row v left f c = c := by
  cases c with
  | zero => rfl
  | succ c => unfold pick; rw [if_pos h]
theorem pick_next {row : Nat → Int} {v left : Nat} {f : Int} {c : Nat} (h : doesS row v left f (c + 1) = false) : pick row v left f (c + 1) = pick row v left f c := by
  rw [pick, h]; rfl
theorem pick_zero {row : Nat → Int} {v left : Nat} {f : Int} {c : Nat} (h : ∃ d, d ≤ c ∧ doesS row v left f d = true) (h0 : pick row v left f c = pick row v left f 0) : doesS row v left f 0 = true := by
  have := pick_does row v left f c h
  rw [h0] at this
  exact this

set_option maxHeartbeats 2000000 in
set_option maxRecDepth 4000 in
theorem mostOfKind_any (r : RCo) (hr : CoR r) (n rb cp left : Nat) (hl : left < n) (hn : n ≤ 10001) (S I : Nat → Int) (m : Int) (hm : m ≤ 720) (hE : ∀ i, Eq2 m (S i) (I i)) (f : Int) (hf : 0 ≤ f ∧ f ≤ 720)
    (hex : ∃ d, d ≤ mS r left ∧ doesS S r.vl.toNat left f d = true) (w : World) (hrow : RwI w rb n I) :
    Calls Try.prog 25 #[.agg #[.int .i64 r.vl, .int .i64 r.ct], .slice (some ⟨rb, 0, none⟩) n cp, .int .i64 (left : Int), .int .i64 f] w fun e w' => e = .returned (.int .i64 (pick S r.vl.toNat left f (mS r left) : Int)) ∧ Below w.heap.size w w' := by
  have HRow : Hid (RwI w rb n I) := hrow
  have hW := fun W => within_any r hr left (by omega) W
  have HFit : Hid (∀ d, d ≤ mS r left → d * r.vl.toNat ≤ left) := fun d h => (mS_fits r hr.1 left d h).2
  have hM : mS r left ≤ 60 := by have := hr.2.2; unfold mS; omega
  have HD : Hid (∀ c, c ≤ mS r left → doesS S r.vl.toNat left f c = decide (I (left - c * r.vl.toNat) + (c : Int) = f)) := fun c hc => does_I (x := 0) (hE _) hf (mS_fits r hr.1 left c hc).2
  have HI : Hid (∀ i, 0 ≤ I i ∧ I i ≤ 721) := fun i => by rcases hE i with ⟨_, h⟩ | ⟨h1, h2, h3⟩ <;> omega
  have hV1 : 1 ≤ r.vl := hr.1
  have hV2 : r.vl ≤ 100000 := hr.2.1
  have HZ : Hid (pick S r.vl.toNat left f (mS r left) = pick S r.vl.toNat left f 0 → doesS S r.vl.toNat left f 0 = true) := fun h => pick_zero hex h
  have HSt : Hid (∀ c, doesS S r.vl.toNat left f c = true → pick S r.vl.toNat left f c = c) := fun c h => pick_stop h
  have HNe : Hid (∀ c, doesS S r.vl.toNat left f (c + 1) = false → pick S r.vl.toNat left f (c + 1) = pick S r.vl.toNat left f c) := fun c h => pick_next h
  clear hrow hr hE hex
  have hrb : rb < w.heap.size := HRow.out.lt
  generalize mS r left = mm at *
  generalize hdd : doesS S r.vl.toNat left f = dd at *
  generalize hpp : pick S r.vl.toNat left f = pp at *
  obtain ⟨v, c0⟩ := r
  dsimp only at *
  clear hdd hpp
  obtain ⟨vn, hvn⟩ : ∃ vn : Nat, v.toNat = vn ∧ v = (vn : Int) := ⟨v.toNat, rfl, by omega⟩
  obtain ⟨hvn, rfl⟩ := hvn
  rw [hvn] at HFit HD
  clear hvn
  go_enter Try.func25, Try.ntmps25
  go_wp2_with (go_at_call 26; refine (hW _).mono ?_; rintro e w2 ⟨rfl, hb2⟩; have HB2 : Hid (Below w.heap.size w w2) := chain (below_alloc _ _) hb2; have u0 : w2.cell? ⟨w.heap.size, 0, none⟩ = some (.int .i64 (vn : Int)) := (hb2.cell (p := ⟨w.heap.size, 0, none⟩) (by simp)).trans (by simp); clear hb2)
  have HR2 : Hid (RwI w2 rb n I) := HRow.out.below HB2.out hrb
  go_loopw [9] (fun x wr => ∃ k : Nat, k ≤ mm ∧ x = .int .i64 (k : Int) ∧ pp mm = pp k ∧ wr = w2) (fun x _ => (intOf x).toNat)
  case atStart => exact ⟨mm, Nat.le_refl _, rfl, rfl, rfl⟩
  case round =>
    obtain ⟨k, hk, rfl, hp, rfl⟩ := hrel
    have HP : Hid (pp mm = pp k) := hp
    clear hp
    have hd := HD.out k hk
    have hfit := HFit.out k hk
    have hmul : (k : Int) * (vn : Int) = ((k * vn : Nat) : Int) := by simp
    generalize k * vn = p at *
    have hsub : (left : Int) - (p : Int) = ((left - p : Nat) : Int) := by omega
    have hxl : left - p < n := by omega
    generalize left - p = x at *
    have hxl' : (x : Int) < (n : Int) := by omega
    have cx : wr.cell? ⟨rb, x, none⟩ = some (.int .i64 (I x)) := HR2.out.cell hxl
    have hy := HI.out x
    generalize I x = y at *
    by_cases he : y + (k : Int) = f
    · rw [decide_eq_true he] at hd
      have HE : Hid (pp mm = k) := HP.out.trans (HSt.out k hd)
      have hne : (y + (k : Int) != f) = false := by simp [he]
      clear hd he
      go_wp2
      go_ret
      exact ⟨ret_int (by rw [HE.out]), HB2.out⟩
    · rw [decide_eq_false he] at hd
      rcases Nat.eq_zero_or_pos k with h0 | h0
      · exfalso
        rw [h0] at hd
        have := HZ.out (by rw [HP.out, h0])
        rw [hd] at this
        simp at this
      · have HE : Hid (pp mm = pp (k - 1)) := by
          show _ = _
          have := HNe.out (k - 1) (by rw [show k - 1 + 1 = k by omega]; exact hd)
          rw [show k - 1 + 1 = k by omega] at this
          exact HP.out.trans this
        have hne : (y + (k : Int) != f) = true := by rw [bne_iff_ne]; exact he
        clear hd he
        go_wp2
        go_roundw
        case rel => exact ⟨k - 1, by omega, by go_num, HE.out, trivial⟩
        case measure => simp [intOf]; omega

theorem bI_bound (row : Nat → Int) (v n : Nat) (h : ∀ i, 0 ≤ row i ∧ row i ≤ 721) : ∀ j, 0 ≤ bI row v n j ∧ bI row v n j ≤ 721
  | 0 => h n
  | j + 1 => by
    have h1 := bI_bound row v n h j
    have h2 := h (n - (j + 1) * v)
    unfold bI
    omega
-- ROWWITH
theorem copy_new (w : World) (v c : Int) (n rb cp : Nat) (row : Nat → Int) (hrb : rb < w.heap.size) (hrow : RwI w rb n row) : ∃ w4, (Builtin.copy_ #[24, 24] 3 #[.slice (some ⟨w.heap.size + 1, 0, none⟩) n n, .slice (some ⟨rb, 0, none⟩) n cp]).run Try.prog ((w.alloc (Obj.cells #[.int .i64 v, .int .i64 c] 33)).alloc (Obj.cells (madeCells #[.int .i64 0] n) 3)) = .ok (.int .i64 (n : Int)) w4 ∧ Hid (RwI w4 (w.heap.size + 1) n row) ∧ Below (w.heap.size + 1) (w.alloc (Obj.cells #[.int .i64 v, .int .i64 c] 33)) w4 := by
  have hs : (Try.prog.info? 3).map (·.size) = some 1 := by kernel_rfl
  have hg : ((w.alloc (Obj.cells #[.int .i64 v, .int .i64 c] 33)).alloc (Obj.cells (madeCells #[.int .i64 0] n) 3)).heap[w.heap.size + 1]? = some (.cells (madeCells #[.int .i64 0] n) 3 (0, 0)) := by
    have := heapNew (w.alloc (Obj.cells #[.int .i64 v, .int .i64 c] 33)) (Obj.cells (madeCells #[.int .i64 0] n) 3)
    rwa [World.size_alloc] at this
  have hr := run_copy_row Try.prog _ 24 24 3 3 (w.heap.size + 1) 0 n n ⟨rb, 0, none⟩ n cp _ 3 ((List.range n).map fun i => .int .i64 (row i)) Try.underlying24 hs hg (by simp) (fun i u hi => by
    obtain ⟨hi1, hi2⟩ := List.getElem?_eq_some_iff.1 hi
    have hin : i < n := by simpa using hi1
    have : u = .int .i64 (row i) := by rw [← hi2]; simp
    rw [this, show (⟨rb, 0, none⟩ : Addr).add i = ⟨rb, i, none⟩ by simp [Addr.add]; omega]
    exact (RwI.below hrow (chain (below_alloc _ _) (below_alloc _ _)) hrb).cell hin) (by simp [size_madeCells]) (by intro u hu; obtain ⟨i, _, rfl⟩ := List.mem_map.1 hu; rfl)
  have e : (goInt ((List.range n).map fun i => Value.int .i64 (row i)).length) = Value.int .i64 (n : Int) := by simp [goInt]
  rw [e] at hr
  refine ⟨_, hr, ?_, ?_⟩
  · refine ⟨_, setRow_heap _ _ _ _ _ _ hg, ?_, fun i hi => ?_⟩
    · simp [size_madeCells]
    · simp [hi, size_madeCells]
  · refine below_setRow ?_ (Nat.le_refl _) _
    have := below_alloc (w.alloc (Obj.cells #[.int .i64 v, .int .i64 c] 33)) (Obj.cells (madeCells #[.int .i64 0] n) 3)
    rwa [World.size_alloc] at this

set_option maxHeartbeats 4000000 in
set_option maxRecDepth 4000 in
theorem rowWith_any (r : RCo) (hr : CoR r) (n rb cp : Nat) (h1 : 1 ≤ n) (hn : n ≤ 10001) (row : Nat → Int) (hb0 : ∀ i, 0 ≤ row i ∧ row i ≤ 721) (w : World) (hrow : RwI w rb n row) :
    Calls Try.prog 24 #[.agg #[.int .i64 r.vl, .int .i64 r.ct], .slice (some ⟨rb, 0, none⟩) n cp] w fun e w' => ∃ nb, e = .returned (.slice (some ⟨nb, 0, none⟩) n n) ∧ w.heap.size ≤ nb ∧ RwI w' nb n (nxI r row) ∧ Below w.heap.size w w' := by
  have hmk := fun w => run_make_row' (P := Try.prog) 24 3 (.int .i64 0) 8 Try.underlying24 intInfo rfl .i64 .i64 n (by omega) (by omega) w
  have HRow : Hid (RwI w rb n row) := hrow
  have HBd : Hid (∀ i, 0 ≤ row i ∧ row i ≤ 721) := hb0
  have HWi : Hid (∀ (s : Nat), s ≤ 10000 → ∀ W, Calls Try.prog 26 #[.agg #[.int .i64 r.vl, .int .i64 r.ct], .int .i64 (s : Int)] W fun e w' => e = .returned (.int .i64 (mS r s : Int)) ∧ Below W.heap.size W w') := fun s hs W => within_any r hr s hs W
  have HFit : Hid (∀ s d, d ≤ mS r s → d * r.vl.toNat ≤ s) := fun s d h => (mS_fits r hr.1 s d h).2
  have HV : Hid (1 ≤ r.vl ∧ r.vl ≤ 100000) := ⟨hr.1, hr.2.1⟩
  have HM : Hid (∀ s, mS r s ≤ 60) := fun s => by have := hr.2.2; show min _ _ ≤ _; omega
  have HNx : Hid (∀ i, nxI r row i = bI row r.vl.toNat i (mS r i)) := fun i => rfl
  clear hrow hb0 hr
  generalize nxI r row = nx at *
  generalize hmm : mS r = mm at *
  obtain ⟨v, c⟩ := r
  dsimp only at *
  clear hmm
  have hrb : rb < w.heap.size := HRow.out.lt
  obtain ⟨w4, hcp, HN4, hb4⟩ := copy_new w v c n rb cp row hrb HRow.out
  go_enter Try.func24, Try.ntmps24
  go_wp2_with fail
  have B4 : Hid (Below w.heap.size w w4) := chain (below_alloc _ _) (by simpa using hb4)
  have q4 : w4.cell? ⟨w.heap.size, 0, none⟩ = some (.int .i64 v) ∧ w4.cell? ⟨w.heap.size, 1, none⟩ = some (.int .i64 c) := ⟨(hb4.cell (p := ⟨w.heap.size, 0, none⟩) (Nat.lt_succ_self _)).trans (by simp), (hb4.cell (p := ⟨w.heap.size, 1, none⟩) (Nat.lt_succ_self _)).trans (by simp)⟩
  have HC4 : Hid (w4.cell? ⟨w.heap.size, 0, none⟩ = some (.int .i64 v) ∧ w4.cell? ⟨w.heap.size, 1, none⟩ = some (.int .i64 c)) := q4
  have HR4 : Hid (RwI w4 rb n row) := HRow.out.below B4.out hrb
  clear hb4 q4 hmk hcp
  have hnb : w.heap.size ≤ w.heap.size + 1 := by omega
  have hbx : w.heap.size < w.heap.size + 1 := by omega
  obtain ⟨nb, hnbe⟩ : ∃ nb, nb = w.heap.size + 1 := ⟨_, rfl⟩
  rw [← hnbe] at HN4 hnb hbx
  try rw [← hnbe]
  obtain ⟨bx, hbxe⟩ : ∃ bx, bx = w.heap.size := ⟨_, rfl⟩
  have hbx' : rb < bx := by omega
  have HB0 : Hid (bx = w.heap.size) := hbxe
  rw [← hbxe] at HC4
  try rw [← hbxe]
  have hnw1 : bx < w.heap.size + 1 := by omega
  clear hbxe hnbe
  go_loopw [17] (fun x wr => ∃ k : Nat, k ≤ n ∧ x = .int .i64 (k : Int) ∧ RwI wr nb n (fun i => if i < k then nx i else row i) ∧ RwI wr rb n row ∧ (wr.cell? ⟨bx, 0, none⟩ = some (.int .i64 v) ∧ wr.cell? ⟨bx, 1, none⟩ = some (.int .i64 c)) ∧ Below w.heap.size w wr) (fun x _ => n - (intOf x).toNat)
  case atStart => exact ⟨0, Nat.zero_le _, rfl, HN4.out.congr (fun i hi => by simp), HR4.out, HC4.out, B4.out⟩
  case round =>
    clear HN4 HR4 HC4 B4 HRow
    obtain ⟨k, hk, rfl, hnw, hrw, hcw, hbw⟩ := hrel
    have HNw : Hid (RwI wr nb n (fun i => if i < k then nx i else row i)) := hnw
    have HRw : Hid (RwI wr rb n row) := hrw
    have HCw : Hid (wr.cell? ⟨bx, 0, none⟩ = some (.int .i64 v) ∧ wr.cell? ⟨bx, 1, none⟩ = some (.int .i64 c)) := hcw
    have HBw : Hid (Below w.heap.size w wr) := hbw
    obtain ⟨c0, c1⟩ := hcw
    clear hnw hrw hbw
    by_cases hlt : k < n
    · have hlt' : (k : Int) < (n : Int) := by omega
      have hW := HWi.out k (by omega)
      have hnl : nb < wr.heap.size := HNw.out.lt
      go_wp2_with fail
      (first | go_at_call 26 | skip)
      refine (hW _).mono ?_
      rintro e w2 ⟨rfl, hb2⟩
      have HB2 : Hid (Below wr.heap.size wr w2) := hb2
      clear hb2
      have hM := HM.out k
      have HFk : Hid (∀ d, d ≤ mm k → d * v.toNat ≤ k) := fun d h => HFit.out k d h
      have HXk : Hid (nx k = bI row v.toNat k (mm k)) := HNx.out k
      generalize mm k = mk at *
      have N2 : Hid (RwI w2 nb n (fun i => if i < k then nx i else row i)) := HNw.out.below HB2.out hnl
      have R2 : Hid (RwI w2 rb n row) := HRw.out.below HB2.out (by omega)
      have C2 : Hid (w2.cell? ⟨bx, 0, none⟩ = some (.int .i64 v) ∧ w2.cell? ⟨bx, 1, none⟩ = some (.int .i64 c)) := ⟨(HB2.out.cell (p := ⟨bx, 0, none⟩) (by show bx < _; omega)).trans HCw.out.1, (HB2.out.cell (p := ⟨bx, 1, none⟩) (by show bx < _; omega)).trans HCw.out.2⟩
      have B2 : Hid (Below w.heap.size w w2) := chain HBw.out HB2.out
      clear HNw HRw HCw HBw HB2 c0 c1 hW
      go_wp2
      go_loopw [23] (fun x wj => ∃ j : Nat, j ≤ mk ∧ x = .int .i64 (j : Int) ∧ RwI wj nb n (fun i => if i = k then bI row v.toNat k j else if i < k then nx i else row i) ∧ RwI wj rb n row ∧ (wj.cell? ⟨bx, 0, none⟩ = some (.int .i64 v) ∧ wj.cell? ⟨bx, 1, none⟩ = some (.int .i64 c)) ∧ Below w.heap.size w wj) (fun x _ => mk - (intOf x).toNat)
      case atStart =>
        refine ⟨0, Nat.zero_le _, rfl, N2.out.congr (fun i hi => ?_), R2.out, C2.out, B2.out⟩
        by_cases e : i = k
        · rw [if_pos e, e, if_neg (by omega)]; rfl
        · rw [if_neg e]
      case round =>
      clear N2 R2 C2 B2 hnl
      obtain ⟨j, hj, rfl, hnj, hrj, hcj, hbj⟩ := hrel
      have HNj : Hid (RwI wr nb n (fun i => if i = k then bI row v.toNat k j else if i < k then nx i else row i)) := hnj
      have HRj : Hid (RwI wr rb n row) := hrj
      have HCj : Hid (wr.cell? ⟨bx, 0, none⟩ = some (.int .i64 v) ∧ wr.cell? ⟨bx, 1, none⟩ = some (.int .i64 c)) := hcj
      have HBj : Hid (Below w.heap.size w wr) := hbj
      clear hnj hrj hcj hbj
      by_cases hjl : j < mk
      · have hjl' : (j : Int) < (mk : Int) := by omega
        have hfit := HFk.out (j + 1) hjl
        have hV := HV.out
        have hmul : ((j : Int) + 1) * v = (((j + 1) * v.toNat : Nat) : Int) := by
          have : (v.toNat : Int) = v := by omega
          rw [Int.natCast_mul, this]; rfl
        have HNb : Hid (bI row v.toNat k (j + 1) = min (bI row v.toNat k j) (row (k - (j + 1) * v.toNat) + ((j : Int) + 1))) := rfl
        have hcur0 : wr.cell? ⟨nb, k, none⟩ = some (.int .i64 (bI row v.toNat k j)) := (HNj.out.cell hlt).trans (by dsimp only; rw [if_pos rfl])
        have hcb : 0 ≤ bI row v.toNat k j ∧ bI row v.toNat k j ≤ 721 := bI_bound row v.toNat k HBd.out j
        generalize bI row v.toNat k j = cur at *
        generalize (j + 1) * v.toNat = p at *
        have hsub : (k : Int) - (p : Int) = ((k - p : Nat) : Int) := by omega
        have hxl : k - p < n := by omega
        generalize k - p = x at *
        have hxl' : (x : Int) < (n : Int) := by omega
        have hy := HBd.out x
        have HQ : Hid (∀ W, (RwI W rb n row ∧ W.cell? ⟨bx, 0, none⟩ = some (.int .i64 v)) → W.cell? ⟨rb, x, none⟩ = some (.int .i64 (row x)) ∧ W.cell? ⟨bx, 0, none⟩ = some (.int .i64 v)) := fun W h => ⟨h.1.cell hxl, h.2⟩
        generalize row x = y at *
        have HCur : Hid (wr.drew.cell? ⟨nb, k, none⟩ = some (.int .i64 cur)) := hcur0
        have HFz : Hid (wr.drew.frozen? ⟨nb, k, none⟩ = false) := HNj.out.frozen k
        have HSet : Hid (∀ z : Int, RwI (wr.drew.setCell ⟨nb, k, none⟩ (.int .i64 z)) rb n row ∧ (wr.drew.setCell ⟨nb, k, none⟩ (.int .i64 z)).cell? ⟨bx, 0, none⟩ = some (.int .i64 v)) := fun z => ⟨World.rowIs.setOther HRj.out (by show rb ≠ nb; omega) _, (World.cell?_setCell_far _ _ _ _ (by show nb ≠ bx; omega)).trans HCj.out.1⟩
        have HEnd : Hid (∀ z : Int, RwI (wr.drew.setCell ⟨nb, k, none⟩ (.int .i64 z)) nb n (fun i => if i = k then z else if i < k then nx i else row i) ∧ (wr.drew.setCell ⟨nb, k, none⟩ (.int .i64 z)).cell? ⟨bx, 1, none⟩ = some (.int .i64 c) ∧ Below w.heap.size w (wr.drew.setCell ⟨nb, k, none⟩ (.int .i64 z))) := fun z => ⟨(RwI.put (w := wr.drew) HNj.out k z).congr (fun i hi => by by_cases e : i = k <;> simp [e]), (World.cell?_setCell_far _ _ _ _ (by show nb ≠ bx; omega)).trans HCj.out.2, (chain HBj.out (below_drew _)).setCell hnb _⟩
        clear hcur0 HNj HCj HBj
        have g1 : IntKind.i64.wrap (p : Int) = (p : Int) := wrap_id _ (by omega) (by omega)
        have g2 : IntKind.i64.wrap (x : Int) = (x : Int) := wrap_id _ (by omega) (by omega)
        have g3 : IntKind.i64.wrap (y + ((j : Int) + 1)) = y + ((j : Int) + 1) := wrap_id _ (by omega) (by omega)
        rcases (by omega : cur ≤ y + ((j : Int) + 1) ∨ y + ((j : Int) + 1) < cur) with hway | hway
        · have HNz : Hid (bI row v.toNat k (j + 1) = cur) := by show _ = _; rw [HNb.out]; omega
          clear HNb
          have hway2 : (y + ((j : Int) + 1) < cur) = False := eq_false (by omega)
          go_wp2
          refine wp_region_held_drew (S := fun W => RwI W rb n row ∧ W.cell? ⟨bx, 0, none⟩ = some (.int .i64 v)) (by kernel_rfl) ⟨HRj.out, by have := (HSet.out 0).2; rwa [World.cell?_setCell_far _ _ _ _ (by show nb ≠ bx; omega)] at this⟩ (fun hH => ?_)
          clear HRj
          refine wpAnyH_take (i := 0) (v := .slice (some ⟨nb, 0, none⟩) n n) rfl (by kernel_rfl) (by kernel_rfl) (by kernel_rfl) (fun _ _ _ h => h) (Or.inl ⟨by rfl, fun w hSw => by go_simp⟩) hH ?_
          refine wpAnyH_take (i := 1) (v := .int .i64 ((k : Int))) rfl (by kernel_rfl) (by kernel_rfl) (by kernel_rfl) (fun _ _ _ h => h) (Or.inl ⟨by rfl, fun w hSw => by go_simp⟩) hH ?_
          try simp only [Act.put, List.setIfInBounds_toArray, List.set_cons_zero, List.set_cons_succ, List.getElem_toArray, List.getElem_cons_succ, List.getElem_cons_zero]
          refine wpAnyH_take (i := 2) (v := .slice (some ⟨nb, 0, none⟩) n n) rfl (by kernel_rfl) (by kernel_rfl) (by kernel_rfl) (fun _ _ _ h => h) (Or.inl ⟨by rfl, fun w hSw => by go_simp⟩) hH ?_
          try simp only [Act.put, List.setIfInBounds_toArray, List.set_cons_zero, List.set_cons_succ, List.getElem_toArray, List.getElem_cons_succ, List.getElem_cons_zero]
          refine wpAnyH_take (i := 3) (v := .int .i64 ((k : Int))) rfl (by kernel_rfl) (by kernel_rfl) (by kernel_rfl) (fun _ _ _ h => h) (Or.inl ⟨by rfl, fun w hSw => by go_simp⟩) hH ?_
          try simp only [Act.put, List.setIfInBounds_toArray, List.set_cons_zero, List.set_cons_succ, List.getElem_toArray, List.getElem_cons_succ, List.getElem_cons_zero]
          refine wpAnyH_take (i := 4) (v := .pointer (some ⟨nb, k, none⟩)) rfl (by kernel_rfl) (by kernel_rfl) (by kernel_rfl) (fun _ _ _ h => h) (Or.inl ⟨by rfl, fun w hSw => by go_simp⟩) hH ?_
          try simp only [Act.put, List.setIfInBounds_toArray, List.set_cons_zero, List.set_cons_succ, List.getElem_toArray, List.getElem_cons_succ, List.getElem_cons_zero]
          refine wpAnyH_take (i := 6) (v := .slice (some ⟨rb, 0, none⟩) n cp) rfl (by kernel_rfl) (by kernel_rfl) (by kernel_rfl) (fun _ _ _ h => h) (Or.inl ⟨by rfl, fun w hSw => by go_simp⟩) hH ?_
          try simp only [Act.put, List.setIfInBounds_toArray, List.set_cons_zero, List.set_cons_succ, List.getElem_toArray, List.getElem_cons_succ, List.getElem_cons_zero]
          refine wpAnyH_take (i := 7) (v := .int .i64 ((k : Int))) rfl (by kernel_rfl) (by kernel_rfl) (by kernel_rfl) (fun _ _ _ h => h) (Or.inl ⟨by rfl, fun w hSw => by go_simp⟩) hH ?_
          try simp only [Act.put, List.setIfInBounds_toArray, List.set_cons_zero, List.set_cons_succ, List.getElem_toArray, List.getElem_cons_succ, List.getElem_cons_zero]
          refine wpAnyH_take (i := 8) (v := .int .i64 ((j : Int) + 1)) rfl (by kernel_rfl) (by kernel_rfl) (by kernel_rfl) (fun _ _ _ h => h) (Or.inl ⟨by rfl, fun w hSw => by go_simp⟩) hH ?_
          try simp only [Act.put, List.setIfInBounds_toArray, List.set_cons_zero, List.set_cons_succ, List.getElem_toArray, List.getElem_cons_succ, List.getElem_cons_zero]
          refine wpAnyH_take (i := 9) (v := .pointer (some ⟨bx, 0, none⟩)) rfl (by kernel_rfl) (by kernel_rfl) (by kernel_rfl) (fun _ _ _ h => h) (Or.inl ⟨by rfl, fun w hSw => by go_simp⟩) hH ?_
          try simp only [Act.put, List.setIfInBounds_toArray, List.set_cons_zero, List.set_cons_succ, List.getElem_toArray, List.getElem_cons_succ, List.getElem_cons_zero]
          refine wpAnyH_take (i := 10) (v := .int .i64 v) rfl (by kernel_rfl) (by kernel_rfl) (by kernel_rfl) (fun _ _ _ h => h) (Or.inl ⟨by rfl, fun w hSw => by obtain ⟨s1, s2⟩ := HQ.out w hSw; go_simp⟩) hH ?_
          try simp only [Act.put, List.setIfInBounds_toArray, List.set_cons_zero, List.set_cons_succ, List.getElem_toArray, List.getElem_cons_succ, List.getElem_cons_zero]
          refine wpAnyH_take (i := 11) (v := .int .i64 ((p : Int))) rfl (by kernel_rfl) (by kernel_rfl) (by kernel_rfl) (fun _ _ _ h => h) (Or.inl ⟨by rfl, fun w hSw => by go_simp⟩) hH ?_
          try simp only [Act.put, List.setIfInBounds_toArray, List.set_cons_zero, List.set_cons_succ, List.getElem_toArray, List.getElem_cons_succ, List.getElem_cons_zero]
          refine wpAnyH_take (i := 12) (v := .int .i64 ((x : Int))) rfl (by kernel_rfl) (by kernel_rfl) (by kernel_rfl) (fun _ _ _ h => h) (Or.inl ⟨by rfl, fun w hSw => by go_simp⟩) hH ?_
          try simp only [Act.put, List.setIfInBounds_toArray, List.set_cons_zero, List.set_cons_succ, List.getElem_toArray, List.getElem_cons_succ, List.getElem_cons_zero]
          refine wpAnyH_take (i := 13) (v := .pointer (some ⟨rb, x, none⟩)) rfl (by kernel_rfl) (by kernel_rfl) (by kernel_rfl) (fun _ _ _ h => h) (Or.inl ⟨by rfl, fun w hSw => by go_simp⟩) hH ?_
          try simp only [Act.put, List.setIfInBounds_toArray, List.set_cons_zero, List.set_cons_succ, List.getElem_toArray, List.getElem_cons_succ, List.getElem_cons_zero]
          refine wpAnyH_take (i := 14) (v := .int .i64 y) rfl (by kernel_rfl) (by kernel_rfl) (by kernel_rfl) (fun _ _ _ h => h) (Or.inl ⟨by rfl, fun w hSw => by obtain ⟨s1, s2⟩ := HQ.out w hSw; go_simp⟩) hH ?_
          try simp only [Act.put, List.setIfInBounds_toArray, List.set_cons_zero, List.set_cons_succ, List.getElem_toArray, List.getElem_cons_succ, List.getElem_cons_zero]
          refine wpAnyH_take (i := 15) (v := .int .i64 ((j : Int) + 1)) rfl (by kernel_rfl) (by kernel_rfl) (by kernel_rfl) (fun _ _ _ h => h) (Or.inl ⟨by rfl, fun w hSw => by go_simp⟩) hH ?_
          try simp only [Act.put, List.setIfInBounds_toArray, List.set_cons_zero, List.set_cons_succ, List.getElem_toArray, List.getElem_cons_succ, List.getElem_cons_zero]
          refine wpAnyH_take (i := 16) (v := .int .i64 (y + ((j : Int) + 1))) rfl (by kernel_rfl) (by kernel_rfl) (by kernel_rfl) (fun _ _ _ h => h) (Or.inl ⟨by rfl, fun w hSw => by go_simp⟩) hH ?_
          try simp only [Act.put, List.setIfInBounds_toArray, List.set_cons_zero, List.set_cons_succ, List.getElem_toArray, List.getElem_cons_succ, List.getElem_cons_zero]
          refine wpAnyH_ready (rs := [5]) (by kernel_rfl) (by simp) ?_
          refine AllReadyH.cons rfl (fun K hK => ?_) AllReadyH.nil
          have q5 := HCur.out
          go_simp
          clear q5
          refine hK.out _ _ hH (fun _ => ?_)
          clear hK K
          try simp only [Act.put, List.setIfInBounds_toArray, List.set_cons_zero, List.set_cons_succ, List.getElem_toArray, List.getElem_cons_succ, List.getElem_cons_zero]
          refine wpAnyH_take (i := 17) (v := .int .i64 cur) rfl (by kernel_rfl) (by kernel_rfl) (by kernel_rfl) (fun _ _ _ h => h) (Or.inl ⟨by rfl, fun w hSw => by go_simp⟩) hH ?_
          try simp only [Act.put, List.setIfInBounds_toArray, List.set_cons_zero, List.set_cons_succ, List.getElem_toArray, List.getElem_cons_succ, List.getElem_cons_zero]
          refine wpAnyH_take (i := 18) (v := .pointer (some ⟨nb, k, none⟩)) rfl (by kernel_rfl) (by kernel_rfl) (by kernel_rfl) (fun _ _ _ h => h) (Or.inl ⟨by rfl, fun w hSw => by go_simp⟩) hH ?_
          try simp only [Act.put, List.setIfInBounds_toArray, List.set_cons_zero, List.set_cons_succ, List.getElem_toArray, List.getElem_cons_succ, List.getElem_cons_zero]
          refine wpAnyH_ready (rs := [19]) (by kernel_rfl) (by simp) ?_
          refine AllReadyH.cons rfl (fun K hK => ?_) AllReadyH.nil
          have q5 := HCur.out
          have qf := HFz.out
          go_simp
          clear q5 qf
          have hH2 := HSet.out (cur)
          refine hK.out _ _ hH2 (fun _ => ?_)
          clear hK K
          try simp only [Act.put, List.setIfInBounds_toArray, List.set_cons_zero, List.set_cons_succ, List.getElem_toArray, List.getElem_cons_succ, List.getElem_cons_zero]
          refine wpAnyH_done (by kernel_rfl) ?_ _
          try simp
          go_wp2
          go_roundw
          case rel => exact ⟨j + 1, by omega, by go_num, (HEnd.out cur).1.congr (fun i hi => by rw [HNz.out]), (HSet.out cur).1, ⟨(HSet.out cur).2, (HEnd.out cur).2.1⟩, (HEnd.out cur).2.2⟩
          case measure => simp [intOf]; omega
        · have HNz : Hid (bI row v.toNat k (j + 1) = y + ((j : Int) + 1)) := by show _ = _; rw [HNb.out]; omega
          clear HNb
          go_wp2
          refine wp_region_held_drew (S := fun W => RwI W rb n row ∧ W.cell? ⟨bx, 0, none⟩ = some (.int .i64 v)) (by kernel_rfl) ⟨HRj.out, by have := (HSet.out 0).2; rwa [World.cell?_setCell_far _ _ _ _ (by show nb ≠ bx; omega)] at this⟩ (fun hH => ?_)
          clear HRj
          refine wpAnyH_take (i := 0) (v := .slice (some ⟨nb, 0, none⟩) n n) rfl (by kernel_rfl) (by kernel_rfl) (by kernel_rfl) (fun _ _ _ h => h) (Or.inl ⟨by rfl, fun w hSw => by go_simp⟩) hH ?_
          refine wpAnyH_take (i := 1) (v := .int .i64 ((k : Int))) rfl (by kernel_rfl) (by kernel_rfl) (by kernel_rfl) (fun _ _ _ h => h) (Or.inl ⟨by rfl, fun w hSw => by go_simp⟩) hH ?_
          try simp only [Act.put, List.setIfInBounds_toArray, List.set_cons_zero, List.set_cons_succ, List.getElem_toArray, List.getElem_cons_succ, List.getElem_cons_zero]
          refine wpAnyH_take (i := 2) (v := .slice (some ⟨nb, 0, none⟩) n n) rfl (by kernel_rfl) (by kernel_rfl) (by kernel_rfl) (fun _ _ _ h => h) (Or.inl ⟨by rfl, fun w hSw => by go_simp⟩) hH ?_
          try simp only [Act.put, List.setIfInBounds_toArray, List.set_cons_zero, List.set_cons_succ, List.getElem_toArray, List.getElem_cons_succ, List.getElem_cons_zero]
          refine wpAnyH_take (i := 3) (v := .int .i64 ((k : Int))) rfl (by kernel_rfl) (by kernel_rfl) (by kernel_rfl) (fun _ _ _ h => h) (Or.inl ⟨by rfl, fun w hSw => by go_simp⟩) hH ?_
          try simp only [Act.put, List.setIfInBounds_toArray, List.set_cons_zero, List.set_cons_succ, List.getElem_toArray, List.getElem_cons_succ, List.getElem_cons_zero]
          refine wpAnyH_take (i := 4) (v := .pointer (some ⟨nb, k, none⟩)) rfl (by kernel_rfl) (by kernel_rfl) (by kernel_rfl) (fun _ _ _ h => h) (Or.inl ⟨by rfl, fun w hSw => by go_simp⟩) hH ?_
          try simp only [Act.put, List.setIfInBounds_toArray, List.set_cons_zero, List.set_cons_succ, List.getElem_toArray, List.getElem_cons_succ, List.getElem_cons_zero]
          refine wpAnyH_take (i := 6) (v := .slice (some ⟨rb, 0, none⟩) n cp) rfl (by kernel_rfl) (by kernel_rfl) (by kernel_rfl) (fun _ _ _ h => h) (Or.inl ⟨by rfl, fun w hSw => by go_simp⟩) hH ?_
          try simp only [Act.put, List.setIfInBounds_toArray, List.set_cons_zero, List.set_cons_succ, List.getElem_toArray, List.getElem_cons_succ, List.getElem_cons_zero]
          refine wpAnyH_take (i := 7) (v := .int .i64 ((k : Int))) rfl (by kernel_rfl) (by kernel_rfl) (by kernel_rfl) (fun _ _ _ h => h) (Or.inl ⟨by rfl, fun w hSw => by go_simp⟩) hH ?_
          try simp only [Act.put, List.setIfInBounds_toArray, List.set_cons_zero, List.set_cons_succ, List.getElem_toArray, List.getElem_cons_succ, List.getElem_cons_zero]
          refine wpAnyH_take (i := 8) (v := .int .i64 ((j : Int) + 1)) rfl (by kernel_rfl) (by kernel_rfl) (by kernel_rfl) (fun _ _ _ h => h) (Or.inl ⟨by rfl, fun w hSw => by go_simp⟩) hH ?_
          try simp only [Act.put, List.setIfInBounds_toArray, List.set_cons_zero, List.set_cons_succ, List.getElem_toArray, List.getElem_cons_succ, List.getElem_cons_zero]
          refine wpAnyH_take (i := 9) (v := .pointer (some ⟨bx, 0, none⟩)) rfl (by kernel_rfl) (by kernel_rfl) (by kernel_rfl) (fun _ _ _ h => h) (Or.inl ⟨by rfl, fun w hSw => by go_simp⟩) hH ?_
          try simp only [Act.put, List.setIfInBounds_toArray, List.set_cons_zero, List.set_cons_succ, List.getElem_toArray, List.getElem_cons_succ, List.getElem_cons_zero]
          refine wpAnyH_take (i := 10) (v := .int .i64 v) rfl (by kernel_rfl) (by kernel_rfl) (by kernel_rfl) (fun _ _ _ h => h) (Or.inl ⟨by rfl, fun w hSw => by obtain ⟨s1, s2⟩ := HQ.out w hSw; go_simp⟩) hH ?_
          try simp only [Act.put, List.setIfInBounds_toArray, List.set_cons_zero, List.set_cons_succ, List.getElem_toArray, List.getElem_cons_succ, List.getElem_cons_zero]
          refine wpAnyH_take (i := 11) (v := .int .i64 ((p : Int))) rfl (by kernel_rfl) (by kernel_rfl) (by kernel_rfl) (fun _ _ _ h => h) (Or.inl ⟨by rfl, fun w hSw => by go_simp⟩) hH ?_
          try simp only [Act.put, List.setIfInBounds_toArray, List.set_cons_zero, List.set_cons_succ, List.getElem_toArray, List.getElem_cons_succ, List.getElem_cons_zero]
          refine wpAnyH_take (i := 12) (v := .int .i64 ((x : Int))) rfl (by kernel_rfl) (by kernel_rfl) (by kernel_rfl) (fun _ _ _ h => h) (Or.inl ⟨by rfl, fun w hSw => by go_simp⟩) hH ?_
          try simp only [Act.put, List.setIfInBounds_toArray, List.set_cons_zero, List.set_cons_succ, List.getElem_toArray, List.getElem_cons_succ, List.getElem_cons_zero]
          refine wpAnyH_take (i := 13) (v := .pointer (some ⟨rb, x, none⟩)) rfl (by kernel_rfl) (by kernel_rfl) (by kernel_rfl) (fun _ _ _ h => h) (Or.inl ⟨by rfl, fun w hSw => by go_simp⟩) hH ?_
          try simp only [Act.put, List.setIfInBounds_toArray, List.set_cons_zero, List.set_cons_succ, List.getElem_toArray, List.getElem_cons_succ, List.getElem_cons_zero]
          refine wpAnyH_take (i := 14) (v := .int .i64 y) rfl (by kernel_rfl) (by kernel_rfl) (by kernel_rfl) (fun _ _ _ h => h) (Or.inl ⟨by rfl, fun w hSw => by obtain ⟨s1, s2⟩ := HQ.out w hSw; go_simp⟩) hH ?_
          try simp only [Act.put, List.setIfInBounds_toArray, List.set_cons_zero, List.set_cons_succ, List.getElem_toArray, List.getElem_cons_succ, List.getElem_cons_zero]
          refine wpAnyH_take (i := 15) (v := .int .i64 ((j : Int) + 1)) rfl (by kernel_rfl) (by kernel_rfl) (by kernel_rfl) (fun _ _ _ h => h) (Or.inl ⟨by rfl, fun w hSw => by go_simp⟩) hH ?_
          try simp only [Act.put, List.setIfInBounds_toArray, List.set_cons_zero, List.set_cons_succ, List.getElem_toArray, List.getElem_cons_succ, List.getElem_cons_zero]
          refine wpAnyH_take (i := 16) (v := .int .i64 (y + ((j : Int) + 1))) rfl (by kernel_rfl) (by kernel_rfl) (by kernel_rfl) (fun _ _ _ h => h) (Or.inl ⟨by rfl, fun w hSw => by go_simp⟩) hH ?_
          try simp only [Act.put, List.setIfInBounds_toArray, List.set_cons_zero, List.set_cons_succ, List.getElem_toArray, List.getElem_cons_succ, List.getElem_cons_zero]
          refine wpAnyH_ready (rs := [5]) (by kernel_rfl) (by simp) ?_
          refine AllReadyH.cons rfl (fun K hK => ?_) AllReadyH.nil
          have q5 := HCur.out
          go_simp
          clear q5
          refine hK.out _ _ hH (fun _ => ?_)
          clear hK K
          try simp only [Act.put, List.setIfInBounds_toArray, List.set_cons_zero, List.set_cons_succ, List.getElem_toArray, List.getElem_cons_succ, List.getElem_cons_zero]
          refine wpAnyH_take (i := 17) (v := .int .i64 (y + ((j : Int) + 1))) rfl (by kernel_rfl) (by kernel_rfl) (by kernel_rfl) (fun _ _ _ h => h) (Or.inl ⟨by rfl, fun w hSw => by go_simp⟩) hH ?_
          try simp only [Act.put, List.setIfInBounds_toArray, List.set_cons_zero, List.set_cons_succ, List.getElem_toArray, List.getElem_cons_succ, List.getElem_cons_zero]
          refine wpAnyH_take (i := 18) (v := .pointer (some ⟨nb, k, none⟩)) rfl (by kernel_rfl) (by kernel_rfl) (by kernel_rfl) (fun _ _ _ h => h) (Or.inl ⟨by rfl, fun w hSw => by go_simp⟩) hH ?_
          try simp only [Act.put, List.setIfInBounds_toArray, List.set_cons_zero, List.set_cons_succ, List.getElem_toArray, List.getElem_cons_succ, List.getElem_cons_zero]
          refine wpAnyH_ready (rs := [19]) (by kernel_rfl) (by simp) ?_
          refine AllReadyH.cons rfl (fun K hK => ?_) AllReadyH.nil
          have q5 := HCur.out
          have qf := HFz.out
          go_simp
          clear q5 qf
          have hH2 := HSet.out (y + ((j : Int) + 1))
          refine hK.out _ _ hH2 (fun _ => ?_)
          clear hK K
          try simp only [Act.put, List.setIfInBounds_toArray, List.set_cons_zero, List.set_cons_succ, List.getElem_toArray, List.getElem_cons_succ, List.getElem_cons_zero]
          refine wpAnyH_done (by kernel_rfl) ?_ _
          try simp
          go_wp2
          go_roundw
          case rel => exact ⟨j + 1, by omega, by go_num, (HEnd.out _).1.congr (fun i hi => by rw [HNz.out]), (HSet.out _).1, ⟨(HSet.out _).2, (HEnd.out _).2.1⟩, (HEnd.out _).2.2⟩
          case measure => simp [intOf]; omega
      · obtain rfl : j = mk := by omega
        have HNe : Hid (RwI wr nb n (fun i => if i < k + 1 then nx i else row i)) := HNj.out.congr (fun i hi => by
          by_cases e : i = k
          · rw [if_pos e, if_pos (by omega), e, HXk.out]
          · rw [if_neg e]
            by_cases h2 : i < k
            · rw [if_pos h2, if_pos (by omega)]
            · rw [if_neg h2, if_neg (by omega)])
        clear HNj
        go_wp2
        go_roundw
        case rel => exact ⟨k + 1, by omega, by go_num, HNe.out, HRj.out, HCj.out, HBj.out⟩
        case measure => simp [intOf]; omega
    · obtain rfl : k = n := by omega
      go_wp2
      go_ret
      exact ⟨nb, rfl, hnb, HNw.out.congr (fun i hi => by rw [if_pos hi]), HBw.out⟩
end Go.Proofs.Ytngnmlifbjpkoaa

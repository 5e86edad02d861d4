/-
  The law FnStock over what StockOf answers.
-/
import Derived.Test.YtlfcaijhlgldnaaKtU
import Derived.Test.YtlfcaijhlgldnaaKmU
namespace Go.Proofs.Ytlfcaijhlgldnaa
open Go.ChangeShapes Go.WideShapes Go.ChangeAt Go.RowKit Go.Deep
set_option linter.unusedVariables false

/-- What StockOf answers: acts in a row of their own, every field in its kind's range. -/
def DrawnSk (w : World) (e : Ending) (w' : World) : Prop := ∃ (g : Nat) (rs : List RSk) (cp : Nat), e = .returned (.slice (some ⟨g, 0, none⟩) rs.length cp) ∧ rs.length ≤ 30 ∧ rs.length ≤ cp ∧ (∀ r ∈ rs, SkWide r) ∧ (∀ r ∈ rs, SkOK r) ∧ SksAt w' g 0 rs ∧ w.heap.size ≤ g ∧ g < w'.heap.size ∧ Below w.heap.size w w'
def RunA (os : List (Int × Int)) (σ : StS) (W : World) (e : Ending) (w' : World) : Prop := ∃ ta tc la lc, e = .returned (.tuple #[.slice ta os.length tc, .agg #[.int .i64 σ.day, .int .i64 σ.rc, .int .i64 σ.sd, .int .i64 σ.wa, .int .i64 σ.sh, .slice la σ.L.length lc], .int .i64 0]) ∧ AnsK W.heap.size os σ.L (.slice ta os.length tc) (.slice la σ.L.length lc) w' ∧ Below W.heap.size W w'
theorem sks_take {w : World} {g : Nat} {rs : List RSk} (h : SksAt w g 0 rs) (k : Nat) : SksAt w g 0 (rs.take k) := fun i hi => by
  rw [List.length_take] at hi
  have e : (rs.take k).getD i zSk = rs.getD i zSk := by
    simp [List.getD_eq_getElem?_getD, show i < k by omega]
  rw [e]
  exact h i (by omega)
theorem run_take {g cp : Nat} {rs : List RSk} {w1 : World} (h : SksAt w1 g 0 rs) (hg : g < w1.heap.size) (hl : rs.length ≤ 30) (hwd : ∀ r ∈ rs, SkWide r) (hok : ∀ r ∈ rs, SkOK r) (k : Nat) (hk : k ≤ rs.length) (W : World) (hb : Below w1.heap.size w1 W) :
    Calls Try.prog 7 #[.slice (some ⟨g, 0, none⟩) k cp] W (RunA (stO rs k) (stR rs k) W) := by
  have hlen : (rs.take k).length = k := by rw [List.length_take]; omega
  have hr : ReadsSk W.heap.size W (some ⟨g, 0, none⟩) (rs.take k) := .inr ⟨g, 0, rfl, Nat.lt_of_lt_of_le hg hb.size, fun i hi => ((sks_take h k).below hb hg) i hi⟩
  have := stockRun_ok (some ⟨g, 0, none⟩) cp (rs.take k) (by omega) (fun r hr => hwd r (List.mem_of_mem_take hr)) (fun r hr => hok r (List.mem_of_mem_take hr)) W hr
  rw [hlen, stR_take rs k k (Nat.le_refl _), stO_take rs k k (Nat.le_refl _)] at this
  refine this.mono ?_
  rintro e w' ⟨tv, lv, he, hA, hb2⟩
  obtain ⟨ta, tc, rfl⟩ := row_slice hA.1
  obtain ⟨la, lc, rfl⟩ := row_slice hA.2
  exact ⟨ta, tc, la, lc, he, hA, hb2⟩
/-- The law's own boxes behind the second run. -/
structure FSt (B1 B2 bw bn bx : Nat) (σ τ : StS) (la : Option Addr) (lc : Nat) (ma : Option Addr) (mc : Nat) (kd : Int) (ar : ByteArray) (lt nu un : Int) (W : World) : Prop where
  was : W.heap[bw]? = some (.cells #[.int .i64 σ.day, .int .i64 σ.rc, .int .i64 σ.sd, .int .i64 σ.wa, .int .i64 σ.sh, .slice la σ.L.length lc] 29 (0, 0))
  now : W.heap[bn]? = some (.cells #[.int .i64 τ.day, .int .i64 τ.rc, .int .i64 τ.sd, .int .i64 τ.wa, .int .i64 τ.sh, .slice ma τ.L.length mc] 29 (0, 0))
  act : W.heap[bx]? = some (.cells #[.int .i64 kd, .string ar, .int .i64 lt, .int .i64 nu, .int .i64 un] 34 (0, 0))
  lots : W.ownsRow B1 38 5 (.slice la σ.L.length lc) σ.L.length (slCells σ.L)
  lots2 : W.ownsRow B2 38 5 (.slice ma τ.L.length mc) τ.L.length (slCells τ.L)
theorem FSt.later {B1 B2 bw bn bx : Nat} {σ τ : StS} {la : Option Addr} {lc : Nat} {ma : Option Addr} {mc : Nat} {kd : Int} {ar : ByteArray} {lt nu un : Int} {W W' : World} (h : FSt B1 B2 bw bn bx σ τ la lc ma mc kd ar lt nu un W) (hb : Below W.heap.size W W') : FSt B1 B2 bw bn bx σ τ la lc ma mc kd ar lt nu un W' :=
  ⟨(hb.block _ (blkLt h.was)).trans h.was, (hb.block _ (blkLt h.now)).trans h.now, (hb.block _ (blkLt h.act)).trans h.act, row_of h.lots (fun q hq => hb.block q (row_lt h.lots q hq).2), row_of h.lots2 (fun q hq => hb.block q (row_lt h.lots2 q hq).2)⟩
theorem pS_of {ar : ByteArray} {d : Int} {r : RSl} (h : pS ar d r = true) : (r.ar.toList == ar.toList) = true ∧ d ≤ r.un ∧ r.hd = false := by
  unfold pS at h
  rw [Bool.and_eq_true, Bool.and_eq_true] at h
  obtain ⟨h1, h2, h3⟩ := h
  exact ⟨h1, of_decide_eq_true h2, by simpa using h3⟩
set_option maxHeartbeats 32000000 in
set_option maxRecDepth 8000 in
theorem fnStock_of (a0 a1 : Option Addr) (len0 cap0 len1 cap1 : Nat) (w : World) (hl0 : len0 ≤ 1048576) (hl1 : len1 ≤ 1048576) (hd : Calls Try.prog 5 #[.slice a0 len0 cap0] w (DrawnSk w))
    (hat : ∀ (n : Int) (W : World), n ≤ 1000 → Below w.heap.size w W → Calls Try.prog 6 #[.slice a1 len1 cap1, .int .i64 0, .int .i64 n] W fun e w' => ∃ x : Int, e = .returned (.int .i64 x) ∧ (0 ≤ x ∧ (x < n ∨ x = 0)) ∧ Below W.heap.size W w') :
    Calls Try.prog 3 #[.slice a0 len0 cap0, .slice a1 len1 cap1] w fun e w' => e = .returned (.bool true) ∧ Below w.heap.size w w' := by
  have h0 : ¬ (1048576 : Int) < (len0 : Int) := by omega
  have h1 : ¬ (1048576 : Int) < (len1 : Int) := by omega
  have h0d : decide ((1048576 : Int) < (len0 : Int)) = false := decide_eq_false h0
  have h1d : decide ((1048576 : Int) < (len1 : Int)) = false := decide_eq_false h1
  have HD : Hid (Calls Try.prog 5 #[.slice a0 len0 cap0] w (DrawnSk w)) := hd
  have HAt : Hid (∀ (n : Int) (W : World), n ≤ 1000 → Below w.heap.size w W → Calls Try.prog 6 #[.slice a1 len1 cap1, .int .i64 0, .int .i64 n] W fun e w' => ∃ x : Int, e = .returned (.int .i64 x) ∧ (0 ≤ x ∧ (x < n ∨ x = 0)) ∧ Below W.heap.size W w') := hat
  clear hd hat
  go_enter Try.func3, Try.ntmps3
  go_wp2_with fail
  (first | go_at_call 5 | skip)
  refine HD.out.mono ?_
  rintro e w1 ⟨g, rs, cp, rfl, hn30, hcp, hwd, hok, hrs, hg1, hg2, hb1⟩
  have HW : Hid (∀ r ∈ rs, SkWide r) := hwd
  have HRs : Hid (SksAt w1 g 0 rs) := hrs
  have HB1 : Hid (Below w.heap.size w w1) := hb1
  have HRun : Hid (∀ k, k ≤ rs.length → ∀ W, Below w1.heap.size w1 W → Calls Try.prog 7 #[.slice (some ⟨g, 0, none⟩) k cp] W (RunA (stO rs k) (stR rs k) W)) := fun k hk W hb => run_take hrs hg2 hn30 hwd hok k hk W hb
  have hww : IntKind.i64.wrap ((rs.length : Int) + 1) = (rs.length : Int) + 1 := wrap_id _ (by omega) (by omega)
  clear hwd hok hrs hb1 HD h0 h1 h0d h1d
  go_wp2_with fail
  (first | go_at_call 6 | skip)
  refine (HAt.out _ w1 (by omega) HB1.out).mono ?_
  rintro e w2 ⟨x, rfl, ⟨hx0, hx1⟩, hb2⟩
  obtain ⟨k, rfl⟩ : ∃ k : Nat, x = (k : Int) := ⟨x.toNat, by omega⟩
  have hk : k ≤ rs.length := by omega
  have HB2 : Hid (Below w1.heap.size w1 w2) := hb2
  clear hx0 hx1 hb2 HAt hww
  have hkc : (k : Int) ≤ (cp : Int) := by omega
  have HR1 := HRun.out k hk w2 HB2.out
  have hol := stO_len rs k
  have hok1 := stR_ok rs k
  have HR1' : Hid (Calls Try.prog 7 #[.slice (some ⟨g, 0, none⟩) k cp] w2 (RunA (stO rs k) (stR rs k) w2)) := HR1
  clear HR1
  go_wp2_with fail
  (first | go_at_call 7 | skip)
  refine HR1'.out.mono ?_
  rintro e w3 ⟨ta, tc, la, lc, rfl, hA3, hb3⟩
  have HOk1 : Hid (StOK k (stR rs k)) := hok1
  have HNs : Hid (stR rs (k + 1) = actS (stR rs k) (rs.getD k zSk)) := rfl
  have HNo : Hid (stO rs (k + 1) = stO rs k ++ [(actE (stR rs k) (rs.getD k zSk), actN (stR rs k) (rs.getD k zSk))]) := rfl
  have HL3 : Hid (w3.ownsRow w2.heap.size 38 5 (.slice la (stR rs k).L.length lc) (stR rs k).L.length (slCells (stR rs k).L) ∧ Below w2.heap.size w2 w3) := ⟨hA3.2, hb3⟩
  clear hA3 hb3 HR1' hok1
  rw [hol]
  clear hol
  generalize hosk : stO rs k = ok at *
  have holk : ok.length = k := by rw [← hosk]; exact stO_len rs k
  clear hosk
  generalize stR rs k = σ at *
  obtain ⟨W4, hW4⟩ : ∃ W4, W4 = w3.alloc (Obj.cells #[.int .i64 σ.day, .int .i64 σ.rc, .int .i64 σ.sd, .int .i64 σ.wa, .int .i64 σ.sh, .slice la σ.L.length lc] 29) := ⟨_, rfl⟩
  have H4 : Hid (W4.ownsRow w2.heap.size 38 5 (.slice la σ.L.length lc) σ.L.length (slCells σ.L) ∧ W4.heap[w3.heap.size]? = some (.cells #[.int .i64 σ.day, .int .i64 σ.rc, .int .i64 σ.sd, .int .i64 σ.wa, .int .i64 σ.sh, .slice la σ.L.length lc] 29 (0, 0)) ∧ Below w2.heap.size w2 W4) := by
    rw [hW4]
    have hb := below_alloc w3 (Obj.cells #[.int .i64 σ.day, .int .i64 σ.rc, .int .i64 σ.sd, .int .i64 σ.wa, .int .i64 σ.sh, .slice la σ.L.length lc] 29)
    exact ⟨row_of HL3.out.1 (fun q hq => hb.block q (row_lt HL3.out.1 q hq).2), heapNew _ _, chain HL3.out.2 hb⟩
  clear HL3
  go_upto_region 6 with fail
  rw [← hW4]
  clear hW4
  have b0 := blkCell H4.out.2.1 0 _ rfl
  have b1 := blkCell H4.out.2.1 1 _ rfl
  have b2 := blkCell H4.out.2.1 2 _ rfl
  have b3 := blkCell H4.out.2.1 3 _ rfl
  have b4 := blkCell H4.out.2.1 4 _ rfl
  have b5 := blkCell H4.out.2.1 5 _ rfl
  go_wp2_with fail
  (first | go_at_call 8 | skip)
  refine (balanced_any σ la lc k (by omega) HOk1.out W4 H4.out.1).mono ?_
  rintro e w5 ⟨rfl, hb5⟩
  have H5 : Hid (w5.ownsRow w2.heap.size 38 5 (.slice la σ.L.length lc) σ.L.length (slCells σ.L) ∧ w5.heap[w3.heap.size]? = some (.cells #[.int .i64 σ.day, .int .i64 σ.rc, .int .i64 σ.sd, .int .i64 σ.wa, .int .i64 σ.sh, .slice la σ.L.length lc] 29 (0, 0)) ∧ Below w2.heap.size w2 w5) := ⟨row_of H4.out.1 (fun q hq => hb5.block q (row_lt H4.out.1 q hq).2), (hb5.block _ (blkLt H4.out.2.1)).trans H4.out.2.1, chain H4.out.2.2 hb5⟩
  clear hb5 H4 b0 b1 b2 b3 b4 b5
  by_cases hkl : k = rs.length
  · have hkb : ((k : Int) == (rs.length : Int)) = true := by rw [hkl]; simp
    have HBe : Hid (Below w.heap.size w w5) := chain (chain HB1.out HB2.out) H5.out.2.2
    clear hkl HRun HRs HNs HNo
    go_wp2
    go_ret
    exact ⟨rfl, HBe.out⟩
  have hkb : ((k : Int) == (rs.length : Int)) = false := by rw [beq_eq_false_iff_ne]; omega
  have hklt : k < rs.length := by omega
  have hk1w : IntKind.i64.wrap ((k : Int) + 1) = (k : Int) + 1 := wrap_id _ (by omega) (by omega)
  have hk1c : (k : Int) + 1 ≤ (cp : Int) := by omega
  have hk1n : ¬ ((k : Int) + 1 < 0) := by omega
  have hk1t : ((k : Int) + 1).toNat = k + 1 := by omega
  have HR2 : Hid (Calls Try.prog 7 #[.slice (some ⟨g, 0, none⟩) (k + 1) cp] w5 (RunA (stO rs (k + 1)) (stR rs (k + 1)) w5)) := HRun.out (k + 1) (by omega) w5 (chain HB2.out H5.out.2.2)
  rw [HNs.out, HNo.out] at HR2
  have hact := HRs.out k hklt
  rw [Nat.zero_add] at hact
  have HAct : Hid (SkAt w1 g (k * 5) (rs.getD k zSk)) := hact
  have HOk2 : Hid (StOK (k + 1) (actS σ (rs.getD k zSk))) := act_ok HOk1.out _
  have hwd := getSk HW.out hklt
  have HSale : Hid ((rs.getD k zSk).kd = 2 → actE σ (rs.getD k zSk) = 0 → SvI (pS (rs.getD k zSk).ar σ.day) σ.L (actS σ (rs.getD k zSk)).L ∧ (actS σ (rs.getD k zSk)).sd = σ.sd + (rs.getD k zSk).nu) := fun h2 h0 => by
    have e1 : actE σ (rs.getD k zSk) = selE σ (rs.getD k zSk).ar (rs.getD k zSk).nu := by unfold actE; rw [h2]; simp
    have e2 : actS σ (rs.getD k zSk) = selS σ (rs.getD k zSk).ar (rs.getD k zSk).nu := by unfold actS; rw [h2]; simp
    rw [e1] at h0
    rw [e2]
    have := sale_facts HOk1.out _ _ h0
    exact ⟨this.1, this.2.1⟩
  clear hact HNs HNo HRun HRs hkl
  generalize actE σ (rs.getD k zSk) = ce at *
  generalize actN σ (rs.getD k zSk) = cn at *
  generalize actS σ (rs.getD k zSk) = τ at *
  generalize rs.getD k zSk = r at *
  obtain ⟨kd, ar, lt, nu, un⟩ := r
  dsimp only at HSale
  have hol2 : (ok ++ [(ce, cn)]).length = k + 1 := by simp [holk]
  have HOl : Hid (obCells (ok ++ [(ce, cn)]) = obCells ok ++ [.int .i64 ce, .int .i64 cn]) := by show _ = _; rw [obCells_append]; rfl
  have hobl : (obCells ok).length = k * 2 := by
    have : ∀ l : List (Int × Int), (obCells l).length = l.length * 2 := fun l => by
      induction l with
      | nil => rfl
      | cons o l ih => simp only [obCells, List.flatMap_cons, List.length_append, List.length_cons] at ih ⊢; rw [ih]; simp [obC]; omega
    rw [this, holk]
  go_wp2_with fail
  (first | go_at_call 7 | skip)
  refine HR2.out.mono ?_
  rintro e w6 ⟨ua, uc, ma, mc, rfl, hA6, hb6⟩
  have hT6 := hA6.1
  have hL6 := hA6.2
  rw [hol2] at hT6 ⊢
  clear hA6
  obtain ⟨tg, tcp, hq⟩ := row_some hT6 (by omega)
  simp only [Value.slice.injEq, true_and] at hq
  obtain ⟨rfl, rfl⟩ := hq
  obtain ⟨W7, hW7⟩ : ∃ W7, W7 = w6.alloc (Obj.cells #[.int .i64 τ.day, .int .i64 τ.rc, .int .i64 τ.sd, .int .i64 τ.wa, .int .i64 τ.sh, .slice ma τ.L.length mc] 29) := ⟨_, rfl⟩
  have HTd : Hid (∀ W', Below W7.heap.size W7 W' → W'.cell? ⟨tg, k * 2, none⟩ = some (.int .i64 ce)) := fun W' hW => by
    have hb7 : Below w6.heap.size w6 W7 := by rw [hW7]; exact below_alloc _ _
    have hb := chain hb7 hW
    have hr := row_of (w' := W') hT6 (fun q hq => hb.block q (row_lt hT6 q hq).2)
    rw [hr.cellAt _ (by omega), HOl.out, List.getElem?_append_right (by omega), hobl]
    simp
  have H7 : Hid (W7.ownsRow w2.heap.size 38 5 (.slice la σ.L.length lc) σ.L.length (slCells σ.L) ∧ W7.heap[w3.heap.size]? = some (.cells #[.int .i64 σ.day, .int .i64 σ.rc, .int .i64 σ.sd, .int .i64 σ.wa, .int .i64 σ.sh, .slice la σ.L.length lc] 29 (0, 0)) ∧ W7.ownsRow w5.heap.size 38 5 (.slice ma τ.L.length mc) τ.L.length (slCells τ.L) ∧ W7.heap[w6.heap.size]? = some (.cells #[.int .i64 τ.day, .int .i64 τ.rc, .int .i64 τ.sd, .int .i64 τ.wa, .int .i64 τ.sh, .slice ma τ.L.length mc] 29 (0, 0)) ∧ Below w2.heap.size w2 W7) := by
    rw [hW7]
    have hb := below_alloc w6 (Obj.cells #[.int .i64 τ.day, .int .i64 τ.rc, .int .i64 τ.sd, .int .i64 τ.wa, .int .i64 τ.sh, .slice ma τ.L.length mc] 29)
    have hb57 := chain hb6 hb
    exact ⟨row_of H5.out.1 (fun q hq => hb57.block q (row_lt H5.out.1 q hq).2), (hb57.block _ (blkLt H5.out.2.1)).trans H5.out.2.1, row_of hL6 (fun q hq => hb.block q (row_lt hL6 q hq).2), heapNew _ _, chain H5.out.2.2 hb57⟩
  clear hT6 hL6 hb6 H5 HR2 HOl hobl hol2 holk
  go_upto_region 11 with fail
  rw [← hW7]
  clear hW7
  have b0 := blkCell H7.out.2.2.2.1 0 _ rfl
  have b1 := blkCell H7.out.2.2.2.1 1 _ rfl
  have b2 := blkCell H7.out.2.2.2.1 2 _ rfl
  have b3 := blkCell H7.out.2.2.2.1 3 _ rfl
  have b4 := blkCell H7.out.2.2.2.1 4 _ rfl
  have b5 := blkCell H7.out.2.2.2.1 5 _ rfl
  go_wp2_with fail
  (first | go_at_call 8 | skip)
  refine (balanced_any τ ma mc (k + 1) (by omega) HOk2.out W7 H7.out.2.2.1).mono ?_
  rintro e w8 ⟨rfl, hb8⟩
  have hb18 : Below w1.heap.size w1 w8 := chain (chain HB2.out H7.out.2.2.2.2) hb8
  obtain ⟨c0, c1, c2, c3, c4⟩ := HAct.out
  have hc : ∀ {p : Nat} {v : Value}, w1.cell? ⟨g, p, none⟩ = some v → w8.cell? ⟨g, p, none⟩ = some v := fun h => (hb18.cell (by exact hg2)).trans h
  replace c0 := hc c0
  replace c1 := hc c1
  replace c2 := hc c2
  replace c3 := hc c3
  replace c4 := hc c4
  clear hc
  dsimp only at c0 c1 c2 c3 c4
  obtain ⟨W6, hW6⟩ : ∃ W6, W6 = w8.alloc (Obj.cells #[.int .i64 kd, .string ar, .int .i64 lt, .int .i64 nu, .int .i64 un] 34) := ⟨_, rfl⟩
  have hb86 : Below w8.heap.size w8 W6 := by rw [hW6]; exact below_alloc _ _
  have hb76 := chain hb8 hb86
  have HF6 : Hid (FSt w2.heap.size w5.heap.size w3.heap.size w6.heap.size w8.heap.size σ τ la lc ma mc kd ar lt nu un W6) := ⟨(hb76.block _ (blkLt H7.out.2.1)).trans H7.out.2.1, (hb76.block _ (blkLt H7.out.2.2.2.1)).trans H7.out.2.2.2.1, by rw [hW6]; exact heapNew _ _, row_of H7.out.1 (fun q hq => hb76.block q (row_lt H7.out.1 q hq).2), row_of H7.out.2.2.1 (fun q hq => hb76.block q (row_lt H7.out.2.2.1 q hq).2)⟩
  have HB6 : Hid (Below w.heap.size w W6) := chain (chain (chain HB1.out HB2.out) H7.out.2.2.2.2) hb76
  have t0 := HTd.out W6 hb76
  clear hb18 hb8 hb86 hb76 H7 HAct HTd b0 b1 b2 b3 b4 b5
  go_upto_region 14 with fail
  rw [← hW6]
  clear hW6 c0 c1 c2 c3 c4 HB1 HB2 hg1 hg2
  have x0 := blkCell HF6.out.act 0 _ rfl
  have x3 := blkCell HF6.out.act 3 _ rfl
  have y2 := blkCell HF6.out.was 2 _ rfl
  have z2 := blkCell HF6.out.now 2 _ rfl
  have hkk : (k : Int) < (k : Int) + 1 := by omega
  by_cases hkd : kd = 2
  · subst hkd
    by_cases hce : ce = 0
    · subst hce
      obtain ⟨sv, hsd⟩ := HSale.out rfl rfl
      have HSv : Hid (SvI (pS ar σ.day) σ.L τ.L) := sv
      have HN : Hid (∀ r ∈ σ.L, SlN r) := HOk1.out.good
      have hτl : τ.L.length ≤ 1000 := by have := HOk2.out.len; omega
      have hσl : σ.L.length ≤ 60 := HOk1.out.len
      have hq1 := HOk1.out.s0
      have hq2 := HOk2.out.bal
      have hq3 := HOk2.out.top
      have hq4 := HOk2.out.rc0
      have hq5 := HOk2.out.w0
      have hq6 := HOk2.out.h0
      have hq7 := HOk2.out.s0
      have hws : IntKind.i64.wrap (σ.sd + nu) = σ.sd + nu := wrap_id _ (by omega) (by omega)
      have hne : (τ.sd != σ.sd + nu) = false := by rw [hsd]; simp
      clear sv hsd hq1 hq2 hq3 hq4 hq5 hq6 hq7 HSale HOk1 HOk2 hk1w hk1c hk1n hk1t hkc hcp hkb hwd
      obtain ⟨B1, hB1⟩ : ∃ B1, B1 = w2.heap.size := ⟨_, rfl⟩
      obtain ⟨B2, hB2⟩ : ∃ B2, B2 = w5.heap.size := ⟨_, rfl⟩
      obtain ⟨bw, hbw⟩ : ∃ bw, bw = w3.heap.size := ⟨_, rfl⟩
      obtain ⟨bn, hbn⟩ : ∃ bn, bn = w6.heap.size := ⟨_, rfl⟩
      obtain ⟨bx, hbx⟩ : ∃ bx, bx = w8.heap.size := ⟨_, rfl⟩
      rw [← hB1, ← hB2, ← hbw, ← hbn, ← hbx] at HF6
      rw [← hbx] at x0 x3
      rw [← hbw] at y2
      rw [← hbn] at z2
      rw [← hbw, ← hbn, ← hbx]
      clear hB1 hB2 hbw hbn hbx
      go_wp2_with fail
      clear x0 x3 y2 z2 t0 hws hne hkk
      as_aux_lemma =>
        go_loopw [14, 15, 16, 17] (fun xl xi _ _ wr => ∃ (i : Nat) (last : Int), i ≤ σ.L.length ∧ xi = .int .i64 (i : Int) ∧ xl = .int .i64 last ∧ (last = -1 ∨ ∃ j, j < σ.L.length ∧ lf σ.L τ.L j < (gl σ.L j).nu ∧ (gl σ.L j).un = last) ∧ Below W6.heap.size W6 wr) (fun _ xi _ _ _ => σ.L.length - (intOf xi).toNat)
        case atStart => exact ⟨0, -1, Nat.zero_le _, rfl, rfl, .inl rfl, Below.refl _ _⟩
        case round =>
          obtain ⟨i, last, hi, rfl, rfl, hlast, hb⟩ := hrel
          have HLast : Hid (last = -1 ∨ ∃ j, j < σ.L.length ∧ lf σ.L τ.L j < (gl σ.L j).nu ∧ (gl σ.L j).un = last) := hlast
          have HB : Hid (Below W6.heap.size W6 wr) := hb
          have HG : Hid (FSt B1 B2 bw bn bx σ τ la lc ma mc 2 ar lt nu un wr) := HF6.out.later hb
          have s5 := blkCell HG.out.was 5 _ rfl
          clear hb hlast
          by_cases hlt : i < σ.L.length
          · have hlt' : (i : Int) < (σ.L.length : Int) := by omega
            obtain ⟨g1, cq, hq⟩ := row_some HG.out.lots (by omega)
            simp only [Value.slice.injEq, true_and] at hq
            obtain ⟨rfl, rfl⟩ := hq
            obtain ⟨q0, q1, q2, q3, q4⟩ := row_sl HG.out.lots hlt
            have hle := HSv.out.le i hlt
            have HOn : Hid (lf σ.L τ.L i < (gl σ.L i).nu → ((gl σ.L i).ar.toList == ar.toList) = true ∧ σ.day ≤ (gl σ.L i).un ∧ (gl σ.L i).hd = false) := fun h => pS_of (HSv.out.on i hlt h)
            have HNew : Hid (lf σ.L τ.L i < (gl σ.L i).nu → (max last (gl σ.L i).un = -1 ∨ ∃ j, j < σ.L.length ∧ lf σ.L τ.L j < (gl σ.L j).nu ∧ (gl σ.L j).un = max last (gl σ.L i).un)) := fun h => by
              rcases (by omega : max last (gl σ.L i).un = last ∨ max last (gl σ.L i).un = (gl σ.L i).un) with e | e
              · rw [e]; exact HLast.out
              · rw [e]; exact .inr ⟨i, hlt, h, rfl⟩
            have HLf : Hid (lf σ.L τ.L i = fU τ.L (gl σ.L i).ar (gl σ.L i).lt) := rfl
            have HEx : Hid (∃ nn r, lf σ.L τ.L i = nn ∧ gl σ.L i = r) := ⟨_, _, rfl, rfl⟩
            obtain ⟨nn, ⟨a0, a1, a2, a3, a4⟩, hnn, hrr⟩ := HEx.out
            rw [hrr] at q0 q1 q2 q3 q4 HLf HOn HNew hle
            rw [hnn] at HLf HOn HNew hle
            dsimp only at q0 q1 q2 q3 q4 HLf HOn HNew hle
            clear hnn hrr HEx
            obtain ⟨Wa, hWa⟩ : ∃ Wa, Wa = wr.alloc (Obj.cells #[.string a0, .int .i64 a1, .int .i64 a2, .int .i64 a3, .bool a4] 38) := ⟨_, rfl⟩
            have HGa : Hid (FSt B1 B2 bw bn bx σ τ (some ⟨g1, 0, none⟩) lc ma mc 2 ar lt nu un Wa) := by rw [hWa]; exact HG.out.later (below_alloc _ _)
            have HBa : Hid (Below W6.heap.size W6 Wa) := by rw [hWa]; exact chain HB.out (below_alloc _ _)
            have hbx := heapNew wr (Obj.cells #[.string a0, .int .i64 a1, .int .i64 a2, .int .i64 a3, .bool a4] 38)
            rw [← hWa] at hbx
            have HBx : Hid (Wa.heap[wr.heap.size]? = some (.cells #[.string a0, .int .i64 a1, .int .i64 a2, .int .i64 a3, .bool a4] 38 (0, 0))) := hbx
            have p0 := blkCell hbx 0 _ rfl
            have p1 := blkCell hbx 1 _ rfl
            have p2 := blkCell hbx 2 _ rfl
            have p3 := blkCell hbx 3 _ rfl
            have p4 := blkCell hbx 4 _ rfl
            have n5 := blkCell HGa.out.now 5 _ rfl
            have HUc : Hid (Calls Try.prog 9 #[.slice ma τ.L.length mc, .agg #[.string a0, .int .i64 a1, .int .i64 a2, .int .i64 a3, .bool a4]] Wa fun e w' => e = .returned (.int .i64 nn) ∧ Below Wa.heap.size Wa w') := by
              show Calls _ _ _ _ _
              rw [HLf.out]
              exact units_any ma mc τ.L hτl a0 a1 a2 a3 a4 Wa HGa.out.lots2
            go_upto_region 23 with fail
            rw [← hWa]
            clear hWa q0 q1 q2 q3 q4 s5 hbx HG HB HLf
            go_wp2_with fail
            (first | go_at_call 9 | skip)
            refine HUc.out.mono ?_
            rintro e w8 ⟨rfl, hb8⟩
            have HB8 : Hid (Below W6.heap.size W6 w8) := chain HBa.out hb8
            have HG8 := HGa.out.later hb8
            have hbx8 := (hb8.block _ (blkLt HBx.out)).trans HBx.out
            have r0 := blkCell hbx8 0 _ rfl
            have r1 := blkCell hbx8 1 _ rfl
            have r2 := blkCell hbx8 2 _ rfl
            have r3 := blkCell hbx8 3 _ rfl
            have r4 := blkCell hbx8 4 _ rfl
            have x1 := blkCell HG8.act 1 _ rfl
            have d0 := blkCell HG8.was 0 _ rfl
            clear hb8 HG8 hbx8 HUc HBx HGa HBa p0 p1 p2 p3 p4 n5
            have hgt : decide (a2 < nn) = false := decide_eq_false (by omega)
            by_cases hls : nn < a2
            · obtain ⟨o1, o2, o3⟩ := HOn.out hls
              subst o3
              have o1' : (a0.toList != ar.toList) = false := by rw [bne, o1]; rfl
              have o2d : decide (a3 < σ.day) = false := decide_eq_false (by omega)
              have HNw := HNew.out hls
              have HNw2 : Hid (max last a3 = -1 ∨ ∃ j, j < σ.L.length ∧ lf σ.L τ.L j < (gl σ.L j).nu ∧ (gl σ.L j).un = max last a3) := HNw
              clear HNw HNew HOn HLast
              as_aux_lemma =>
                go_wp2
                exact ⟨⟨i + 1, max last a3, by omega, by go_num, rfl, HNw2.out, HB8.out⟩, by simp [intOf]; omega⟩
            · have hlsd : decide (nn < a2) = false := decide_eq_false hls
              clear HNew HOn
              as_aux_lemma =>
                go_wp2
                exact ⟨⟨i + 1, last, by omega, by go_num, rfl, HLast.out, HB8.out⟩, by simp [intOf]; omega⟩
          · have hle : ¬ (i : Int) < (σ.L.length : Int) := by omega
            have HBo : Hid (Below w.heap.size w wr) := chain HB6.out HB.out
            have HFo : Hid (FSt B1 B2 bw bn bx σ τ la lc ma mc 2 ar lt nu un wr) := HG.out
            clear HG HB HF6 HB6
            as_aux_lemma =>
              obtain ⟨wo, rfl⟩ : ∃ wo, wo = wr := ⟨_, rfl⟩
              go_wp2_with fail
              go_loopw [18, 19] (fun xi _ wr => ∃ i : Nat, i ≤ σ.L.length ∧ xi = .int .i64 (i : Int) ∧ Below wo.heap.size wo wr) (fun xi _ _ => σ.L.length - (intOf xi).toNat)
              case atStart => exact ⟨0, Nat.zero_le _, rfl, Below.refl _ _⟩
              case round =>
                obtain ⟨i, hi, rfl, hb⟩ := hrel
                have HB : Hid (Below wo.heap.size wo wr) := hb
                have HG : Hid (FSt B1 B2 bw bn bx σ τ la lc ma mc 2 ar lt nu un wr) := HFo.out.later hb
                have s5 := blkCell HG.out.was 5 _ rfl
                clear hb
                by_cases hlt : i < σ.L.length
                · have hlt' : (i : Int) < (σ.L.length : Int) := by omega
                  obtain ⟨g1, cq, hq⟩ := row_some HG.out.lots (by omega)
                  simp only [Value.slice.injEq, true_and] at hq
                  obtain ⟨rfl, rfl⟩ := hq
                  obtain ⟨q0, q1, q2, q3, q4⟩ := row_sl HG.out.lots hlt
                  have HZ : Hid (pS ar σ.day (gl σ.L i) = true → (gl σ.L i).un < last → lf σ.L τ.L i = 0) := fun hp hu => by
                    rcases HLast.out with e | ⟨j, hj, ht, e⟩
                    · have := (getN HN.out hlt).un
                      omega
                    · exact HSv.out.ord j i hj hlt ht hp (by omega)
                  have HP : Hid (pS ar σ.day (gl σ.L i) = (((gl σ.L i).ar.toList == ar.toList) && (decide (σ.day ≤ (gl σ.L i).un) && !(gl σ.L i).hd))) := rfl
                  have HLf : Hid (lf σ.L τ.L i = fU τ.L (gl σ.L i).ar (gl σ.L i).lt) := rfl
                  generalize lf σ.L τ.L i = nn at *
                  generalize pS ar σ.day (gl σ.L i) = pb at *
                  generalize gl σ.L i = r at *
                  obtain ⟨a0, a1, a2, a3, a4⟩ := r
                  dsimp only at q0 q1 q2 q3 q4 HZ HP HLf
                  obtain ⟨Wa, hWa⟩ : ∃ Wa, Wa = wr.alloc (Obj.cells #[.string a0, .int .i64 a1, .int .i64 a2, .int .i64 a3, .bool a4] 38) := ⟨_, rfl⟩
                  have HGa : Hid (FSt B1 B2 bw bn bx σ τ (some ⟨g1, 0, none⟩) lc ma mc 2 ar lt nu un Wa) := by rw [hWa]; exact HG.out.later (below_alloc _ _)
                  have HBa : Hid (Below wo.heap.size wo Wa) := by rw [hWa]; exact chain HB.out (below_alloc _ _)
                  have hbx := heapNew wr (Obj.cells #[.string a0, .int .i64 a1, .int .i64 a2, .int .i64 a3, .bool a4] 38)
                  rw [← hWa] at hbx
                  have p0 := blkCell hbx 0 _ rfl
                  have p1 := blkCell hbx 1 _ rfl
                  have p2 := blkCell hbx 2 _ rfl
                  have p3 := blkCell hbx 3 _ rfl
                  have p4 := blkCell hbx 4 _ rfl
                  have x1 := blkCell HGa.out.act 1 _ rfl
                  have d0 := blkCell HGa.out.was 0 _ rfl
                  have n5 := blkCell HGa.out.now 5 _ rfl
                  have HUc : Hid (Calls Try.prog 9 #[.slice ma τ.L.length mc, .agg #[.string a0, .int .i64 a1, .int .i64 a2, .int .i64 a3, .bool a4]] Wa fun e w' => e = .returned (.int .i64 nn) ∧ Below Wa.heap.size Wa w') := by
                    show Calls _ _ _ _ _
                    rw [HLf.out]
                    exact units_any ma mc τ.L hτl a0 a1 a2 a3 a4 Wa HGa.out.lots2
                  go_upto_region 32 with fail
                  rw [← hWa]
                  clear hWa q0 q1 q2 q3 q4 s5 hbx HG HB HLf
                  have fin : ∀ {W' : World}, Below Wa.heap.size Wa W' → Below wo.heap.size wo W' := fun h => chain HBa.out h
                  cases e1 : (a0.toList == ar.toList) with
                  | false =>
                    as_aux_lemma =>
                      go_wp2
                      exact ⟨⟨i + 1, by omega, by go_num, HBa.out⟩, by simp [intOf]; omega⟩
                  | true =>
                    cases a4 with
                    | true =>
                      as_aux_lemma =>
                        go_wp2
                        exact ⟨⟨i + 1, by omega, by go_num, HBa.out⟩, by simp [intOf]; omega⟩
                    | false =>
                      by_cases e2 : σ.day ≤ a3
                      · have e2d : decide (σ.day ≤ a3) = true := decide_eq_true e2
                        by_cases e3 : a3 < last
                        · have hz : nn = 0 := HZ.out (by rw [HP.out, e1, e2d]; rfl) e3
                          rw [hz] at HUc
                          clear hz HZ HP
                          go_wp2_with fail
                          (first | go_at_call 9 | skip)
                          refine HUc.out.mono ?_
                          rintro e w8 ⟨rfl, hb8⟩
                          have HB8 : Hid (Below wo.heap.size wo w8) := fin hb8
                          clear hb8 fin
                          as_aux_lemma =>
                            go_wp2
                            exact ⟨⟨i + 1, by omega, by go_num, HB8.out⟩, by simp [intOf]; omega⟩
                        · have e3d : decide (a3 < last) = false := decide_eq_false e3
                          clear fin
                          as_aux_lemma =>
                            go_wp2
                            exact ⟨⟨i + 1, by omega, by go_num, HBa.out⟩, by simp [intOf]; omega⟩
                      · have e2d : decide (σ.day ≤ a3) = false := decide_eq_false e2
                        clear fin
                        as_aux_lemma =>
                          go_wp2
                          exact ⟨⟨i + 1, by omega, by go_num, HBa.out⟩, by simp [intOf]; omega⟩
                · have hle : ¬ (i : Int) < (σ.L.length : Int) := by omega
                  have hBo : Hid (Below w.heap.size w wr) := chain HBo.out HB.out
                  clear HG HB
                  as_aux_lemma =>
                    go_wp2
                    go_ret
                    exact ⟨rfl, hBo.out⟩
    · have hcb : (ce != 0) = true := by simpa using hce
      clear HSale hce
      go_wp2
      go_ret
      exact ⟨rfl, HB6.out⟩
  · have hkdb : (kd != 2) = true := by simpa using hkd
    clear HSale hkd
    go_wp2
    go_ret
    exact ⟨rfl, HB6.out⟩
end Go.Proofs.Ytlfcaijhlgldnaa

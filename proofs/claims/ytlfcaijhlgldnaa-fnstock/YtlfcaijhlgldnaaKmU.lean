/-
  The program's StockRun.
-/
import Derived.Test.YtlfcaijhlgldnaaKmR
import Derived.Test.YtlfcaijhlgldnaaKmT
import Derived.Test.YtlfcaijhlgldnaaSoA
namespace Go.Proofs.Ytlfcaijhlgldnaa
open Go.ChangeShapes Go.WideShapes Go.ChangeAt Go.RowKit Go.Deep
set_option linter.unusedVariables false

def obC (o : Int × Int) : List Value := [.int .i64 o.1, .int .i64 o.2]
def obCells (L : List (Int × Int)) : List Value := L.flatMap obC
theorem obCells_append (a b : List (Int × Int)) : obCells (a ++ b) = obCells a ++ obCells b := by simp [obCells]
theorem soInfo : (Try.prog.info? 36).map (fun i => (i.zero, i.size, i.bytes)) = some (some (.agg #[.int .i64 0, .int .i64 0]), 2, 16) := by kernel_rfl
theorem run_makeSo (n : Nat) (hn : n ≤ 100000000) (w : World) :
    (Instr.makeSlice 26 (.int .i64 0) (.int .i64 (n : Int))).run Try.prog w = .ok (.slice (some ⟨w.heap.size, 0, none⟩) 0 n) (w.alloc (.cells (madeCells #[.int .i64 0, .int .i64 0] (n * 2)) 36)) := by
  obtain ⟨i, hi, hzz⟩ := Option.map_eq_some_iff.1 soInfo
  simp only [Prod.mk.injEq] at hzz
  obtain ⟨hz, hs, hb⟩ := hzz
  have hr := run_make (P := Try.prog) w 26 36 i _ Try.underlying26 hi hz .i64 .i64 0 (n : Int) (Int.le_refl _) (by omega) (by rw [hb]; omega) (by omega)
  simp only [Int.toNat_natCast, hs, Int.toNat_zero] at hr
  exact hr
theorem readsSk_at {B : Nat} {w W : World} {a : Option Addr} {rs : List RSk} (h : ReadsSk B w a rs) (hb : Below B w W) (k : Nat) (hk : k < rs.length) : ∃ b o, a = some ⟨b, o, none⟩ ∧ SkAt W b (o + k * 5) (rs.getD k zSk) := by
  rcases h with h | ⟨b, o, ha, hB, hi⟩
  · rw [h] at hk; simp at hk
  · exact ⟨b, o, ha, (hi.below hb hB) k hk⟩
/-- What the acts' own answer is: its two lists. -/
def AnsK (B : Nat) (os : List (Int × Int)) (L : List RSl) (tv lv : Value) (W : World) : Prop := W.ownsRow B 36 2 tv os.length (obCells os) ∧ W.ownsRow B 38 5 lv L.length (slCells L)
structure SrB (w : World) (rb mb ub : Nat) (rs : List RSk) (k : Nat) (tv : Value) (wr : World) : Prop where
  low : Below w.heap.size w wr
  res : wr.heap[w.heap.size]? = some (.cells stkZ 29 (0, 0))
  told : wr.ownsRow w.heap.size 36 2 tv k (obCells (stO rs k))
  run : ∃ ov, Rn w.heap.size rb mb ub (stR rs k) ov wr
theorem SrB.later {w : World} {rb mb ub : Nat} {rs : List RSk} {k : Nat} {tv : Value} {wr w' : World} (h : SrB w rb mb ub rs k tv wr) (hb : Below wr.heap.size wr w') : SrB w rb mb ub rs k tv w' := by
  obtain ⟨ov, hr⟩ := h.run
  exact ⟨chain h.low hb, (hb.block _ (blkLt h.res)).trans h.res, row_of h.told (fun q hq => hb.block q (row_lt h.told q hq).2), ov, hr.later hb⟩
set_option maxHeartbeats 8000000 in
theorem stockRun_no (a : Option Addr) (n cap : Nat) (hn : 200 < n) (w : World) :
    Calls Try.prog 7 #[.slice a n cap] w fun e w' => e = .returned (.tuple #[.slice none 0 0, .agg stkZ, .int .i64 (if 4096 < n then 2 else 9)]) ∧ Below w.heap.size w w' := by
  have HB : Hid (Below w.heap.size w (w.alloc (Obj.cells stkZ 29))) := below_alloc _ _
  unfold stkZ at HB ⊢
  by_cases h : 4096 < n
  · rw [if_pos h]
    have hi : (4096 : Int) < (n : Int) := by omega
    go_enter Try.func7, Try.ntmps7
    go_wp2
    exact bodyPost_ret (v := .tuple #[.slice none 0 0, .agg #[.int .i64 0, .int .i64 0, .int .i64 0, .int .i64 0, .int .i64 0, .slice none 0 0], .int .i64 2]) (by simp [results, Try.results7, go_sem]) rfl ⟨rfl, HB.out⟩
  · rw [if_neg h]
    have hi : ¬ (4096 : Int) < (n : Int) := by omega
    have hi2 : (200 : Int) < (n : Int) := by omega
    go_enter Try.func7, Try.ntmps7
    go_wp2
    exact bodyPost_ret (v := .tuple #[.slice none 0 0, .agg #[.int .i64 0, .int .i64 0, .int .i64 0, .int .i64 0, .int .i64 0, .slice none 0 0], .int .i64 9]) (by simp [results, Try.results7, go_sem]) rfl ⟨rfl, HB.out⟩
set_option maxHeartbeats 8000000 in
theorem stockRun_ok (a : Option Addr) (cap : Nat) (rs : List RSk) (hl : rs.length ≤ 200) (hwide : ∀ r ∈ rs, SkWide r) (hok : ∀ r ∈ rs, SkOK r) (w : World) (hr : ReadsSk w.heap.size w a rs) :
    Calls Try.prog 7 #[.slice a rs.length cap] w fun e w' => ∃ tv lv, e = .returned (.tuple #[tv, .agg (stkV (stR rs rs.length) lv), .int .i64 0]) ∧ AnsK w.heap.size (stO rs rs.length) (stR rs rs.length).L tv lv w' ∧ Below w.heap.size w w' := by
  have HR : Hid (ReadsSk w.heap.size w a rs) := hr
  have HWd : Hid (∀ r ∈ rs, SkWide r) := hwide
  have HOk : Hid (∀ r ∈ rs, SkOK r) := hok
  have h1i : ¬ (4096 : Int) < (rs.length : Int) := by omega
  have h2i : ¬ (200 : Int) < (rs.length : Int) := by omega
  obtain ⟨W1, hW1⟩ : ∃ W1, W1 = w.alloc (Obj.cells stkZ 29) := ⟨_, rfl⟩
  have H1 : Hid (Below w.heap.size w W1 ∧ W1.heap[w.heap.size]? = some (.cells stkZ 29 (0, 0)) ∧ W1.heap.size = w.heap.size + 1) := by rw [hW1]; exact ⟨below_alloc _ _, heapNew _ _, by simp⟩
  have hmo := fun w => run_makeSo rs.length (by omega) w
  unfold stkZ at hW1
  clear hr hwide hok
  go_enter Try.func7, Try.ntmps7
  go_wp2_with fail
  (first | go_at_call 23 | skip)
  rw [← hW1]
  clear hW1
  refine (newStockRun_any W1).mono ?_
  rintro e w2 ⟨rfl, hm2, hu2, hb2⟩
  obtain ⟨mb, hmb⟩ : ∃ mb, mb = W1.heap.size + 1 := ⟨_, rfl⟩
  obtain ⟨ub, hub⟩ : ∃ ub, ub = W1.heap.size + 2 := ⟨_, rfl⟩
  rw [← hmb] at hm2 ⊢
  rw [← hub] at hu2 ⊢
  obtain ⟨W3, hW3⟩ : ∃ W3, W3 = (w2.alloc (Obj.cells (runV st0 mb ub (.slice none 0 0)) 58)).alloc (Obj.cells (madeCells #[.int .i64 0, .int .i64 0] (rs.length * 2)) 36) := ⟨_, rfl⟩
  obtain ⟨rb, hrb⟩ : ∃ rb, rb = w2.heap.size := ⟨_, rfl⟩
  have H3 : Hid (SrB w rb mb ub rs 0 (.slice (some ⟨rb + 1, 0, none⟩) 0 rs.length) W3) := by
    obtain ⟨k1, k2⟩ := heapTwo w2 (Obj.cells (runV st0 mb ub (.slice none 0 0)) 58) (Obj.cells (madeCells #[.int .i64 0, .int .i64 0] (rs.length * 2)) 36)
    rw [← hW3, ← hrb] at k1 k2
    have hb3 : Below w2.heap.size w2 W3 := by rw [hW3]; exact chain (below_alloc _ _) (below_alloc _ _)
    have hb : Below w.heap.size w W3 := chain (chain H1.out.1 hb2) hb3
    have hz := H1.out.2.2
    have hs2 := hb2.size
    refine ⟨hb, ((hb3.block _ (by omega)).trans (hb2.block _ (blkLt H1.out.2.1))).trans H1.out.2.1, ⟨rfl, .inr ⟨rb + 1, rs.length, _, rfl, by omega, k2, Nat.zero_le _, by unfold maxLen; omega, size_madeCells _ _, rfl⟩⟩, .slice none 0 0, k1, World.ownsRow_nil _ _ _ _, ⟨fun _ _ => none, hm2.block (hb3.block _ hm2.lt), fun i hi => by simp [stR, st0] at hi, fun s c _ => rfl⟩, ⟨0, _, hu2.block (hb3.block _ hu2.lt)⟩, by omega, by omega, by omega, by omega⟩
  clear hm2 hu2 hb2 H1 hmb hub
  unfold runV st0 at hW3 ⊢
  dsimp only at hW3 ⊢
  go_wp2_with fail
  rw [← hW3, ← hrb]
  clear hW3 hrb hmo
  obtain ⟨j0, hj, hzy⟩ := Option.map_eq_some_iff.1 soInfo
  simp only [Prod.mk.injEq] at hzy
  obtain ⟨hj0, hj1, hj2⟩ := hzy
  go_loopw [6, 8, 23] (fun tv _ x wr => ∃ (k g cp : Nat), k ≤ rs.length ∧ x = .int .i64 (k : Int) ∧ tv = .slice (some ⟨g, 0, none⟩) k cp ∧ SrB w rb mb ub rs k (.slice (some ⟨g, 0, none⟩) k cp) wr) (fun _ _ x _ => rs.length - (intOf x).toNat)
  case atStart => exact ⟨0, _, _, Nat.zero_le _, rfl, rfl, H3.out⟩
  case round =>
    clear H3
    obtain ⟨k, g, cp, hk, rfl, rfl, hS⟩ := hrel
    have HS : Hid (SrB w rb mb ub rs k (.slice (some ⟨g, 0, none⟩) k cp) wr) := hS
    clear hS
    by_cases hlt : k < rs.length
    · have hlt' : (k : Int) < (rs.length : Int) := by omega
      obtain ⟨b0, o0, ha, c0, c1, c2, c3, c4⟩ := readsSk_at HR.out HS.out.low k hlt
      subst ha
      have hok := stR_ok rs k
      have hwd := getSk HWd.out hlt
      have hsz := getSk HOk.out hlt
      have HNs : Hid (actS (stR rs k) (rs.getD k zSk) = stR rs (k + 1)) := rfl
      have HNo : Hid (stO rs k ++ [(actE (stR rs k) (rs.getD k zSk), actN (stR rs k) (rs.getD k zSk))] = stO rs (k + 1)) := rfl
      obtain ⟨ov, hRn⟩ := HS.out.run
      have htold := HS.out.told
      have hlow := HS.out.low
      have hres := HS.out.res
      generalize rs.getD k zSk = r at *
      obtain ⟨kd, ar, lt, nu, un⟩ := r
      dsimp only at c0 c1 c2 c3 c4
      unfold SkOK at hsz
      dsimp only at hsz
      obtain ⟨w1, w2', w3', w4', w5'⟩ := hwd
      dsimp only at w1 w2' w3' w4' w5'
      generalize stR rs k = σ at *
      generalize stO rs k = os at *
      obtain ⟨Wa, hWa⟩ : ∃ Wa, Wa = wr.alloc (Obj.cells #[.int .i64 kd, .string ar, .int .i64 lt, .int .i64 nu, .int .i64 un] 34) := ⟨_, rfl⟩
      have hba : Below wr.heap.size wr Wa := by rw [hWa]; exact below_alloc _ _
      have hna : Wa.heap[wr.heap.size]? = some (.cells #[.int .i64 kd, .string ar, .int .i64 lt, .int .i64 nu, .int .i64 un] 34 (0, 0)) := by rw [hWa]; exact heapNew _ _
      have hRa := hRn.later hba
      have HDo := do_any hRa (Nat.le_trans hlow.size hba.size) k (by omega) hok kd ar lt nu un hsz w3'
      have HC : Hid (Rn w.heap.size rb mb ub σ ov Wa ∧ Below w.heap.size w Wa ∧ Wa.heap[w.heap.size]? = some (.cells stkZ 29 (0, 0)) ∧ Wa.ownsRow w.heap.size 36 2 (.slice (some ⟨g, 0, none⟩) k cp) k (obCells os)) := ⟨hRa, chain hlow hba, (hba.block _ (blkLt hres)).trans hres, row_of htold (fun q hq => hba.block q (row_lt htold q hq).2)⟩
      have a0 := blkCell hna 0 _ rfl
      have a1 := blkCell hna 1 _ rfl
      have a2 := blkCell hna 2 _ rfl
      have a3 := blkCell hna 3 _ rfl
      have a4 := blkCell hna 4 _ rfl
      rw [hWa] at a0 a1 a2 a3 a4
      generalize actE σ ⟨kd, ar, lt, nu, un⟩ = ce at *
      generalize actN σ ⟨kd, ar, lt, nu, un⟩ = cn at *
      generalize actS σ ⟨kd, ar, lt, nu, un⟩ = cs at *
      have HDo2 : Hid (Calls Try.prog 24 #[.pointer (some ⟨rb, 0, none⟩), .agg #[.int .i64 kd, .string ar, .int .i64 lt, .int .i64 nu, .int .i64 un]] Wa (ObP w.heap.size rb mb ub ov Wa ce cn cs)) := HDo
      clear hRa hRn htold hlow hres HDo hna hba hok hsz w1 w2' w3' w4' w5' HS
      go_wp2_with fail
      (first | go_at_call 24 | skip)
      rw [← hWa]
      clear hWa a0 a1 a2 a3 a4 c0 c1 c2 c3 c4
      refine HDo2.out.mono ?_
      rintro e w5 ⟨rfl, hf5, ov', hr5, -⟩
      obtain ⟨r1, r2, r3, r4⟩ := HC.out
      have hX : ∀ q, RnX rb mb ub ov q → w.heap.size ≤ q := fun q hq => (r1.lt q hq).1
      obtain ⟨W6, hW6⟩ : ∃ W6, W6 = w5.alloc (Obj.cells #[.int .i64 ce, .int .i64 cn] 36) := ⟨_, rfl⟩
      have hb6 : Below w5.heap.size w5 W6 := by rw [hW6]; exact below_alloc _ _
      have hgx : ∀ q, Value.ownBlock (.slice (some ⟨g, 0, none⟩) k cp) = some q → ¬ RnX rb mb ub ov q := fun q hq hx => by
        obtain ⟨cur, hc⟩ := row_type r4 hq
        exact r1.notX hc (by decide) (by decide) hx
      have hlow5 : Below w.heap.size w w5 := Fr.below r2 hf5 r2.size hX
      have H6 : Hid (Below w.heap.size w W6 ∧ W6.heap[w.heap.size]? = some (.cells stkZ 29 (0, 0)) ∧ W6.ownsRow w.heap.size 36 2 (.slice (some ⟨g, 0, none⟩) k cp) k (obCells os) ∧ Rn w.heap.size rb mb ub cs ov' W6 ∧ W6.heap[w5.heap.size]? = some (.cells #[.int .i64 ce, .int .i64 cn] 36 (0, 0))) := by
        refine ⟨chain hlow5 hb6, ?_, ?_, hr5.later hb6, by rw [hW6]; exact heapNew _ _⟩
        · have e1 := (hf5.block _ (blkLt r3) (r1.notX r3 (by decide) (by decide))).trans r3
          exact (hb6.block _ (blkLt e1)).trans e1
        · have e2 : w5.ownsRow w.heap.size 36 2 (.slice (some ⟨g, 0, none⟩) k cp) k (obCells os) := row_of r4 (fun q hq => hf5.block q (row_lt r4 q hq).2 (hgx q hq))
          exact row_of e2 (fun q hq => hb6.block q (row_lt e2 q hq).2)
      rw [hW6] at H6
      clear hf5 hr5 r1 r2 r3 r4 hX hgx hb6 hlow5 HC HDo2 hW6
      go_wp2_with (at_builtin; refine wpList_append_lies _ rfl _ _ 26 rfl w.heap.size 36 j0 (.agg #[.int .i64 0, .int .i64 0]) 2 16 Try.underlying26 hj hj0 hj1 hj2 rfl (by decide) _ _ _ rfl H6.out.2.2.1 ⟨w5.heap.size, 0, none⟩ 1 1 [.int .i64 ce, .int .i64 cn] rfl rfl (World.news_of_block H6.out.2.2.2.2) (by simp [Value.oneCell']) (by omega) (by unfold maxLen; omega) (by omega) H6.out.1.size _ rfl ?_; intro g1 cp1 w9 hown1 hgrow1 hat1 hglt1)
      have hfg := fr_grown hgrow1
      have HE : Hid (SrB w rb mb ub rs (k + 1) (.slice (some ⟨g1, 0, none⟩) (k + 1) cp1) w9) := by
        obtain ⟨s1, s2, s3, s4, s5⟩ := H6.out
        refine ⟨s1.grown hgrow1 s1.size (fun q hq => (row_lt s3 q hq).1), (hfg.block _ (blkLt s2) (fun e => ?_)).trans s2, ?_, ov', ?_⟩
        · obtain ⟨cur, hc⟩ := row_type s3 e
          rw [s2] at hc; simp at hc
        · rw [← HNo.out, obCells_append]; exact hown1
        · rw [← HNs.out]
          refine s4.same (fun q hq => hfg.block q (s4.lt q hq).2 (fun e => ?_))
          obtain ⟨cur, hc⟩ := row_type s3 e
          exact s4.notX hc (by decide) (by decide) hq
      clear hown1 hgrow1 hat1 hglt1 hfg H6
      exact ⟨⟨k + 1, g1, cp1, by omega, by go_num, rfl, HE.out⟩, by simp [intOf]; omega⟩
    · obtain rfl : k = rs.length := by omega
      obtain ⟨ov, hRn⟩ := HS.out.run
      have hok := stR_ok rs rs.length
      have HSk := stock_any hRn hok.len hok.good
      have HSk2 : Hid (Calls Try.prog 25 #[.pointer (some ⟨rb, 0, none⟩)] wr fun e w' => ∃ la lc, e = .returned (.agg (stkV (stR rs rs.length) (.slice la (stR rs rs.length).L.length lc))) ∧ w'.ownsRow wr.heap.size 38 5 (.slice la (stR rs rs.length).L.length lc) (stR rs rs.length).L.length (slCells (stR rs rs.length).L) ∧ Below wr.heap.size wr w') := HSk
      have hol := stO_len rs rs.length
      have HT : Hid (wr.ownsRow w.heap.size 36 2 (.slice (some ⟨g, 0, none⟩) rs.length cp) (stO rs rs.length).length (obCells (stO rs rs.length)) ∧ Below w.heap.size w wr ∧ wr.heap[w.heap.size]? = some (.cells stkZ 29 (0, 0))) := by rw [hol]; exact ⟨HS.out.told, HS.out.low, HS.out.res⟩
      clear HSk hok hRn HS hol HR HWd HOk
      obtain ⟨⟨sd, src, ssd, swa, ssh, sL⟩, hσ⟩ : ∃ σ', stR rs rs.length = σ' := ⟨_, rfl⟩
      obtain ⟨os, hos⟩ : ∃ os, stO rs rs.length = os := ⟨_, rfl⟩
      have HSg : Hid (stR rs rs.length = ⟨sd, src, ssd, swa, ssh, sL⟩) := hσ
      have HOs : Hid (stO rs rs.length = os) := hos
      rw [hσ] at HSk2
      rw [hos] at HT
      clear hσ hos
      unfold stkV at HSk2
      dsimp only at HSk2
      go_wp2_with fail
      (first | go_at_call 25 | skip)
      refine HSk2.out.mono ?_
      rintro e w5 ⟨la, lc, rfl, hrow, hb5⟩
      obtain ⟨t1, t2, t3⟩ := HT.out
      have hrs := (hb5.block _ (blkLt t3)).trans t3
      unfold stkZ at hrs
      have HEnd : Hid ((((((((w5.setCell ⟨w.heap.size, 0, none⟩ (.int .i64 sd)).setCell ⟨w.heap.size, 1, none⟩ (.int .i64 src)).setCell ⟨w.heap.size, 2, none⟩ (.int .i64 ssd)).setCell ⟨w.heap.size, 3, none⟩ (.int .i64 swa)).setCell ⟨w.heap.size, 4, none⟩ (.int .i64 ssh)).setCell ⟨w.heap.size, 5, none⟩ (.slice la sL.length lc)).heap[w.heap.size]? = some (.cells #[.int .i64 sd, .int .i64 src, .int .i64 ssd, .int .i64 swa, .int .i64 ssh, .slice la sL.length lc] 29 (0, 0))) ∧ AnsK w.heap.size os sL (.slice (some ⟨g, 0, none⟩) rs.length cp) (.slice la sL.length lc) ((((((w5.setCell ⟨w.heap.size, 0, none⟩ (.int .i64 sd)).setCell ⟨w.heap.size, 1, none⟩ (.int .i64 src)).setCell ⟨w.heap.size, 2, none⟩ (.int .i64 ssd)).setCell ⟨w.heap.size, 3, none⟩ (.int .i64 swa)).setCell ⟨w.heap.size, 4, none⟩ (.int .i64 ssh)).setCell ⟨w.heap.size, 5, none⟩ (.slice la sL.length lc)) ∧ Below w.heap.size w ((((((w5.setCell ⟨w.heap.size, 0, none⟩ (.int .i64 sd)).setCell ⟨w.heap.size, 1, none⟩ (.int .i64 src)).setCell ⟨w.heap.size, 2, none⟩ (.int .i64 ssd)).setCell ⟨w.heap.size, 3, none⟩ (.int .i64 swa)).setCell ⟨w.heap.size, 4, none⟩ (.int .i64 ssh)).setCell ⟨w.heap.size, 5, none⟩ (.slice la sL.length lc))) := by
        have hz : w.heap.size ≤ w.heap.size := Nat.le_refl _
        have hrow' : w5.ownsRow w.heap.size 38 5 (.slice la sL.length lc) sL.length (slCells sL) := by
          refine ⟨hrow.1, ?_⟩
          rcases hrow.2 with q | ⟨g', cap', cur, q, hB', r⟩
          · exact .inl q
          · exact .inr ⟨g', cap', cur, q, Nat.le_trans t2.size hB', r⟩
        have t5 : w5.ownsRow w.heap.size 36 2 (.slice (some ⟨g, 0, none⟩) rs.length cp) os.length (obCells os) := row_of t1 (fun q hq => hb5.block q (row_lt t1 q hq).2)
        have hk : ∀ q, q ≠ w.heap.size → ((((((w5.setCell ⟨w.heap.size, 0, none⟩ (.int .i64 sd)).setCell ⟨w.heap.size, 1, none⟩ (.int .i64 src)).setCell ⟨w.heap.size, 2, none⟩ (.int .i64 ssd)).setCell ⟨w.heap.size, 3, none⟩ (.int .i64 swa)).setCell ⟨w.heap.size, 4, none⟩ (.int .i64 ssh)).setCell ⟨w.heap.size, 5, none⟩ (.slice la sL.length lc)).heap[q]? = w5.heap[q]? := fun q hne => (((((Below.heap_setCell _ _ _ _ hne).trans (Below.heap_setCell _ _ _ _ hne)).trans (Below.heap_setCell _ _ _ _ hne)).trans (Below.heap_setCell _ _ _ _ hne)).trans (Below.heap_setCell _ _ _ _ hne)).trans (Below.heap_setCell _ _ _ _ hne)
        refine ⟨?_, ⟨row_of t5 (fun q hq => hk q (fun e => ?_)), row_of hrow' (fun q hq => hk q (fun e => ?_))⟩, ((((((chain t2 hb5).setCell hz _).setCell hz _).setCell hz _).setCell hz _).setCell hz _).setCell hz _⟩
        · have e0 := heap_setCell_same _ _ 5 _ _ (.slice la sL.length lc) (heap_setCell_same _ _ 4 _ _ (.int .i64 ssh) (heap_setCell_same _ _ 3 _ _ (.int .i64 swa) (heap_setCell_same _ _ 2 _ _ (.int .i64 ssd) (heap_setCell_same _ _ 1 _ _ (.int .i64 src) (heap_setCell_same _ _ 0 _ _ (.int .i64 sd) hrs)))))
          simp only [List.setIfInBounds_toArray, List.set_cons_zero, List.set_cons_succ] at e0
          exact e0
        · obtain ⟨cur, hc⟩ := row_type t5 hq
          rw [e, hrs] at hc; simp at hc
        · obtain ⟨cur, hc⟩ := row_type hrow' hq
          rw [e, hrs] at hc; simp at hc
      have r0 := blkCell hrs 0 _ rfl
      have r1 := blkCell hrs 1 _ rfl
      have r2 := blkCell hrs 2 _ rfl
      have r3 := blkCell hrs 3 _ rfl
      have r4 := blkCell hrs 4 _ rfl
      have r5 := blkCell hrs 5 _ rfl
      have f0 := blkFree hrs 0
      have f1 := blkFree hrs 1
      have f2 := blkFree hrs 2
      have f3 := blkFree hrs 3
      have f4 := blkFree hrs 4
      have f5 := blkFree hrs 5
      clear t1 t2 t3 hrs hrow hb5 HT HSk2
      go_wp2
      obtain ⟨k1, k2, k3⟩ := HEnd.out
      generalize (((((w5.setCell ⟨w.heap.size, 0, none⟩ (.int .i64 sd)).setCell ⟨w.heap.size, 1, none⟩ (.int .i64 src)).setCell ⟨w.heap.size, 2, none⟩ (.int .i64 ssd)).setCell ⟨w.heap.size, 3, none⟩ (.int .i64 swa)).setCell ⟨w.heap.size, 4, none⟩ (.int .i64 ssh)).setCell ⟨w.heap.size, 5, none⟩ (.slice la sL.length lc) = W9 at *
      have p0 := blkCell k1 0 _ rfl
      have p1 := blkCell k1 1 _ rfl
      have p2 := blkCell k1 2 _ rfl
      have p3 := blkCell k1 3 _ rfl
      have p4 := blkCell k1 4 _ rfl
      have p5 := blkCell k1 5 _ rfl
      exact bodyPost_ret (v := .tuple #[.slice (some ⟨g, 0, none⟩) rs.length cp, .agg #[.int .i64 sd, .int .i64 src, .int .i64 ssd, .int .i64 swa, .int .i64 ssh, .slice la sL.length lc], .int .i64 0]) (by simp [results, Try.results7, go_sem, p0, p1, p2, p3, p4, p5]) rfl (by rw [HSg.out, HOs.out]; exact ⟨_, _, rfl, k2, k3⟩)
end Go.Proofs.Ytlfcaijhlgldnaa

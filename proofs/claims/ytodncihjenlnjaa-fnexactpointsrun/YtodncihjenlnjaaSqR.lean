/-
  PointsRun of the specification.
-/
import Derived.Test.YtodncihjenlnjaaSqE
import Derived.Test.YtodncihjenlnjaaSqP
import Derived.Test.YtodncihjenlnjaaSqK
namespace Go.Proofs.Ytodncihjenlnjaa
open Go.ChangeShapes Go.WideShapes Go.ChangeAt Go.RowKit Go.Deep
set_option linter.unusedVariables false

theorem actS_any (B rb k : Nat) (σ : PSt) (hok : PsOk k σ) (hk : k ≤ 200) (hT : TI k σ) (lv tv : Value) (vs : List Value) (r : RPa) (w : World) (hB : B ≤ w.heap.size) (hM : SqM B rb k σ lv tv vs w) :
    Calls Try.prog 16 #[.pointer (some ⟨rb, 0, none⟩), .agg #[.int .i64 r.kd, .int .i64 r.nu, .int .i64 r.un]] w (AnsA B rb k w (ptAct (k : Int) r σ)) := by
  obtain ⟨kd, nu, un⟩ := r
  dsimp only
  unfold ptAct
  dsimp only
  by_cases h4 : kd = 4
  · rw [if_pos h4, h4]; exact actS_back B rb k σ hok hk hT lv tv vs nu un w hB hM
  · rw [if_neg h4]
    by_cases h3 : kd = 3
    · rw [if_pos h3, h3]; exact actS_day B rb k σ hok hk hT lv tv vs nu un w hB hM
    · rw [if_neg h3]
      by_cases h2 : kd = 2
      · rw [if_pos h2, h2]; exact actS_spend B rb k σ hok hk hT lv tv vs nu un w hB hM
      · rw [if_neg h2]
        by_cases h1 : kd = 1
        · rw [if_pos h1, h1]; exact actS_earn B rb k σ hok hT lv tv vs nu un w hB hM
        · rw [if_neg h1]; exact actS_none B rb k σ hT lv tv vs kd nu un h1 h2 h3 h4 w hB hM
theorem TI_run (rs : List RPa) : ∀ k, TI k (ptS rs k)
  | 0 => fun c K h => by simp [ptS, pt0] at h
  | k + 1 => (TI_run rs k).act (ptS_ok rs k) _
theorem slInfo : (Try.prog.info? 25).map (fun i => (i.zero, i.size, i.bytes)) = some (some (.slice none 0 0), 1, 24) := by kernel_rfl
/-- What the run has beside the account. -/
structure SrB (rb : Nat) (w : World) (g k cp : Nat) (os : List (Int × Int)) (W : World) : Prop where
  told : W.ownsRow w.heap.size 49 2 (.slice (some ⟨g, 0, none⟩) k cp) k (obCells os)
  res : W.heap[w.heap.size]? = some (.cells #[.int .i64 0, .int .i64 0, .int .i64 0, .slice none 0 0] 27 (0, 0))
  low : Below w.heap.size w W
section
variable {rb n : Nat} {w : World} {g k cp : Nat} {os : List (Int × Int)} {W W' : World} {σ : PSt} {lv tv : Value} {vs : List Value}
theorem SrB.keep (h : SrB rb w g k cp os W) (hk : ∀ q o, W.heap[q]? = some o → (q = g ∨ q = w.heap.size) → W'.heap[q]? = W.heap[q]?) (hb : Below w.heap.size w W') : SrB rb w g k cp os W' := by
  refine ⟨row_of h.told (fun q hq => ?_), (hk _ _ h.res (.inr rfl)).trans h.res, hb⟩
  obtain ⟨cur, hc⟩ := row_type h.told hq
  cases hq
  exact hk g _ hc (.inl rfl)
theorem SrB.later (h : SrB rb w g k cp os W) (hb : Below W.heap.size W W') : SrB rb w g k cp os W' :=
  h.keep (fun q o hq _ => hb.block q (blkLt hq)) (h.low.trans (hb.mono h.low.size))
theorem SrB.acted (h : SrB rb w g k cp os W) (hM : SqM w.heap.size rb n σ lv tv vs W) (hrb : w.heap.size ≤ rb) (hf : SqF w.heap.size rb W W') : SrB rb w g k cp os W' := by
  obtain ⟨cur, hc⟩ := row_type h.told (q := g) rfl
  have hpg : W.heap[rb]? = _ := hM.run
  have hres := h.res
  refine h.keep (fun q o hq hx => hf.block q (blkLt hq) ?_) (Fr.below h.low hf h.low.size (fun q hq => by rcases hq with r | r | r; omega; exact r.1; exact r.1))
  rcases hx with rfl | rfl
  · rintro (r | ⟨_, c2, r⟩ | ⟨_, c2, r⟩)
    · rw [r, hpg] at hc; simp at hc
    · rw [hc] at r; simp at r
    · rw [hc] at r; simp at r
  · rintro (r | ⟨_, c2, r⟩ | ⟨_, c2, r⟩)
    · rw [r, hpg] at hres; simp at hres
    · rw [hres] at r; simp at r
    · rw [hres] at r; simp at r
/-- What an act took is put behind what others took. -/
theorem SqM.took {B : Nat} {p : Value} {ga : Nat} {gc : Nat} (hM : SqM B rb k σ lv tv vs W) (hp : W.ownsRow B 67 2 p (tq σ.T k).length (loCells (tq σ.T k))) (hpl : ∀ q, p.ownBlock = some q → lv.ownBlock ≠ some q)
    (ho : W'.ownsRow B 25 1 (.slice (some ⟨ga, 0, none⟩) (k + 1) gc) (k + 1) (vs ++ [p])) (hg : W.grownBy W' tv.ownBlock) :
    SgIs W' rb σ.day σ.sp σ.ex lv tv ∧ SqM B rb (k + 1) σ lv (.slice (some ⟨ga, 0, none⟩) (k + 1) gc) (vs ++ [p]) (W'.setCell ⟨rb, 4, none⟩ (.slice (some ⟨ga, 0, none⟩) (k + 1) gc)) := by
  have hgf := fr_grown hg
  have hlen : vs.length = k := by have := hM.list.1; omega
  have lotKeep : ∀ (v : Value) (n : Nat) (xs : List Value), W.ownsRow B 67 2 v n xs → (W'.setCell ⟨rb, 4, none⟩ (.slice (some ⟨ga, 0, none⟩) (k + 1) gc)).ownsRow B 67 2 v n xs := fun v n xs hv => row_of hv (fun q hq => (Below.heap_setCell _ _ _ _ (sg_ne hM.run hv hq)).trans (hgf.block q (row_lt hv q hq).2 (fun e => list_lots hM.list hv e hq)))
  have hrun : SgIs W' rb σ.day σ.sp σ.ex lv tv := hM.run.of (hgf.block rb hM.run.lt (fun e => sg_list hM.run hM.list e rfl))
  refine ⟨hrun, hrun.set4 _, lotKeep _ _ _ hM.lots, row_of ho (fun q hq => Below.heap_setCell _ _ _ _ (sg_list hrun ho hq)), fun j v hv => ?_⟩
  rcases Nat.lt_or_ge j vs.length with hj | hj
  · rw [List.getElem?_append_left hj] at hv
    exact ⟨lotKeep _ _ _ (hM.rows j v hv).1, (hM.rows j v hv).2⟩
  · have hj2 : j = k := by
      have := (List.getElem?_eq_some_iff.1 hv).1
      simp at this
      omega
    rw [List.getElem?_append_right hj, hj2, hlen] at hv
    simp at hv
    rw [← hv, hj2]
    exact ⟨lotKeep _ _ _ hp, hpl⟩
theorem SrB.took {v : Value} (h : SrB rb w g k cp os W) (hM : SqM w.heap.size rb n σ lv tv vs W) (hrb : w.heap.size ≤ rb) (hg : W.grownBy W' tv.ownBlock) : SrB rb w g k cp os (W'.setCell ⟨rb, 4, none⟩ v) := by
  refine h.acted hM hrb (((fr_grown hg).mono (fun q hq => ?_)).set (b := rb) (.inl rfl) _ _)
  exact .inr (.inr ⟨(row_lt hM.list q hq).1, row_type hM.list hq⟩)
theorem srTold {w9 : World} {g1 cp1 : Nat} {c s : Int} (h : SrB rb w g k cp os W) (hM : SqM w.heap.size rb n σ lv tv vs W) (ho : w9.ownsRow w.heap.size 49 2 (.slice (some ⟨g1, 0, none⟩) (k + 1) cp1) (k + 1) (obCells os ++ [.int .i64 c, .int .i64 s])) (hg : W.grownBy w9 (Value.ownBlock (.slice (some ⟨g, 0, none⟩) k cp))) :
    SrB rb w g1 (k + 1) cp1 (os ++ [(c, s)]) w9 ∧ SqM w.heap.size rb n σ lv tv vs w9 := by
  have hgf := fr_grown hg
  obtain ⟨cur, hc⟩ := row_type h.told (q := g) rfl
  have hne : ∀ (q : Nat) (o : Obj), W.heap[q]? = some o → (∀ c2, o ≠ .cells c2 49 (0, 0)) → w9.heap[q]? = W.heap[q]? := fun q o hq ho2 => hgf.block q (blkLt hq) (fun e => by
    have e2 : g = q := by simpa [Value.ownBlock] using e
    subst e2
    rw [hc] at hq
    injection hq with hq
    exact ho2 cur hq.symm)
  have hrow : ∀ (B : Nat) (v : Value) (k : Nat) (xs : List Value), W.ownsRow B 67 2 v k xs → w9.ownsRow B 67 2 v k xs := fun B v k xs hv => row_of hv (fun q hq => by
    obtain ⟨c3, h3⟩ := row_type hv hq
    exact hne q _ h3 (by simp))
  have hlow : Below w.heap.size w w9 := h.low.grown hg h.low.size (fun q hq => by
    have e2 : g = q := by simpa [Value.ownBlock] using hq
    have := (row_lt h.told g rfl).1
    omega)
  have hpg : W.heap[rb]? = _ := hM.run
  refine ⟨⟨by rw [obCells_append]; exact ho, (hne _ _ h.res (by simp)).trans h.res, hlow⟩, hM.run.of (hne rb _ hpg (by simp)), hrow _ _ _ _ hM.lots, row_of hM.list (fun q hq => ?_), fun j v hv => ⟨hrow _ _ _ _ (hM.rows j v hv).1, (hM.rows j v hv).2⟩⟩
  obtain ⟨c3, h3⟩ := row_type hM.list hq
  exact hne q _ h3 (by simp)
end
set_option maxHeartbeats 8000000 in
set_option maxRecDepth 4000 in
theorem pointsRunS_ok (a : Option Addr) (cap : Nat) (rs : List RPa) (hl : rs.length ≤ 200) (w : World) (hr : ReadsPa w.heap.size w a rs) :
    Calls Try.prog 5 #[.slice a rs.length cap] w fun e w' => ∃ tv lv, e = .returned (.tuple #[tv, .agg #[.int .i64 (ptS rs rs.length).day, .int .i64 (ptS rs rs.length).sp, .int .i64 (ptS rs rs.length).ex, lv], .int .i64 0]) ∧ AnsP w.heap.size (ptO rs rs.length) (ptS rs rs.length).L tv lv w' ∧ Below w.heap.size w w' := by
  have HR : Hid (ReadsPa w.heap.size w a rs) := hr
  have h1i : ¬ (4096 : Int) < (rs.length : Int) := by omega
  have h2i : ¬ (200 : Int) < (rs.length : Int) := by omega
  obtain ⟨W3, hW3⟩ : ∃ W3, W3 = ((w.alloc (Obj.cells #[.int .i64 0, .int .i64 0, .int .i64 0, .slice none 0 0] 27)).alloc (Obj.cells #[.int .i64 0, .int .i64 0, .int .i64 0, .slice none 0 0, .slice none 0 0] 42)).alloc (Obj.cells #[] 49) := ⟨_, rfl⟩
  have HI3 : Hid (SrB (w.heap.size + 1) w (w.heap.size + 2) 0 0 [] W3 ∧ SqM w.heap.size (w.heap.size + 1) 0 pt0 (.slice none 0 0) (.slice none 0 0) [] W3) := by
    have b0 : W3.heap[w.heap.size]? = some (.cells #[.int .i64 0, .int .i64 0, .int .i64 0, .slice none 0 0] 27 (0, 0)) := by rw [hW3]; exact ((below_alloc _ _).block _ (by simp; omega)).trans (((below_alloc _ _).block _ (by simp)).trans (heapNew _ _))
    have b1 : W3.heap[w.heap.size + 1]? = some (.cells #[.int .i64 0, .int .i64 0, .int .i64 0, .slice none 0 0, .slice none 0 0] 42 (0, 0)) := by
      rw [hW3]
      refine ((below_alloc _ _).block _ (by simp)).trans ?_
      have := heapNew (w.alloc (Obj.cells #[.int .i64 0, .int .i64 0, .int .i64 0, .slice none 0 0] 27)) (Obj.cells #[.int .i64 0, .int .i64 0, .int .i64 0, .slice none 0 0, .slice none 0 0] 42)
      simpa using this
    have b2 : W3.heap[w.heap.size + 2]? = some (.cells #[] 49 (0, 0)) := by
      rw [hW3]
      have := heapNew ((w.alloc (Obj.cells #[.int .i64 0, .int .i64 0, .int .i64 0, .slice none 0 0] 27)).alloc (Obj.cells #[.int .i64 0, .int .i64 0, .int .i64 0, .slice none 0 0, .slice none 0 0] 42)) (Obj.cells #[] 49)
      simpa using this
    refine ⟨⟨⟨rfl, .inr ⟨w.heap.size + 2, 0, #[], rfl, by omega, b2, Nat.le_refl _, by unfold maxLen; omega, rfl, rfl⟩⟩, b0, by rw [hW3]; exact chain (chain (below_alloc _ _) (below_alloc _ _)) (below_alloc _ _)⟩, b1, World.ownsRow_nil _ _ _ _, World.ownsRow_nil _ _ _ _, fun j v hv => by simp at hv⟩
  obtain ⟨j0, hj, hzy⟩ := Option.map_eq_some_iff.1 obInfo0
  simp only [Prod.mk.injEq] at hzy
  obtain ⟨hj0, hj1, hj2⟩ := hzy
  obtain ⟨i0, hi, hzz⟩ := Option.map_eq_some_iff.1 slInfo
  simp only [Prod.mk.injEq] at hzz
  obtain ⟨hi0, hi1, hi2⟩ := hzz
  clear hr
  go_enter Try.func5, Try.ntmps5
  go_wp2_with fail
  rw [← hW3]
  clear hW3
  go_loopw [6, 7, 8, 9] (fun tv iv _ _ wr => ∃ (k g cp : Nat) (lv uv : Value) (vs : List Value), k ≤ rs.length ∧ iv = .int .i64 (k : Int) ∧ tv = .slice (some ⟨g, 0, none⟩) k cp ∧ SrB (w.heap.size + 1) w g k cp (ptO rs k) wr ∧ SqM w.heap.size (w.heap.size + 1) k (ptS rs k) lv uv vs wr) (fun _ iv _ _ _ => rs.length - (intOf iv).toNat)
  case atStart => exact ⟨0, _, _, _, _, _, Nat.zero_le _, rfl, rfl, HI3.out.1, HI3.out.2⟩
  case round =>
    clear HI3
    obtain ⟨k, g, cp, lv, uv, vs, hk, rfl, rfl, hT, hG⟩ := hrel
    have HT : Hid (SrB (w.heap.size + 1) w g k cp (ptO rs k) wr) := hT
    have HG : Hid (SqM w.heap.size (w.heap.size + 1) k (ptS rs k) lv uv vs wr) := hG
    clear hT hG
    by_cases hlt : k < rs.length
    · have hlt' : (k : Int) < (rs.length : Int) := by omega
      obtain ⟨b0, o0, ha, c0, c1, c2⟩ := readsPa_at HR.out HT.out.low k hlt
      subst ha
      have HAc : Hid (Calls Try.prog 16 #[.pointer (some ⟨w.heap.size + 1, 0, none⟩), .agg #[.int .i64 (rs.getD k zPa).kd, .int .i64 (rs.getD k zPa).nu, .int .i64 (rs.getD k zPa).un]] wr (AnsA w.heap.size (w.heap.size + 1) k wr (ptAct (k : Int) (rs.getD k zPa) (ptS rs k)))) := actS_any w.heap.size (w.heap.size + 1) k (ptS rs k) (ptS_ok rs k) (by omega) (TI_run rs k) lv uv vs _ wr HT.out.low.size HG.out
      have HNo : Hid (ptO rs k ++ [((ptAct (k : Int) (rs.getD k zPa) (ptS rs k)).1, sumP (ptAct (k : Int) (rs.getD k zPa) (ptS rs k)).2.L)] = ptO rs (k + 1)) := rfl
      have HNs : Hid ((ptAct (k : Int) (rs.getD k zPa) (ptS rs k)).2 = ptS rs (k + 1)) := rfl
      have HOk1 : Hid (PsOk (k + 1) (ptAct (k : Int) (rs.getD k zPa) (ptS rs k)).2) := ptAct_ok (ptS_ok rs k)
      generalize ptAct (k : Int) (rs.getD k zPa) (ptS rs k) = aq at *
      obtain ⟨cd, τ⟩ := aq
      dsimp only at HNo HNs HOk1
      generalize rs.getD k zPa = r at *
      obtain ⟨kd, nu, un⟩ := r
      dsimp only at c0 c1 c2 HAc
      generalize ptS rs k = σ at *
      generalize ptO rs k = os at *
      go_wp2_with fail
      (first | go_at_call 16 | skip)
      refine HAc.out.mono ?_
      rintro e w3 ⟨lv3, tv3, vs3, pa, pc, rfl, hF3, hM3, hp3, hpl3⟩
      dsimp only at hM3 hp3 hpl3
      dsimp only
      have HT3 : Hid (SrB (w.heap.size + 1) w g k cp os w3) := HT.out.acted HG.out (by omega) hF3
      have H3 : Hid (SqM w.heap.size (w.heap.size + 1) k τ lv3 tv3 vs3 w3 ∧ w3.ownsRow w.heap.size 67 2 (.slice pa (tq τ.T k).length pc) (tq τ.T k).length (loCells (tq τ.T k)) ∧ ∀ q, Value.ownBlock (.slice pa (tq τ.T k).length pc) = some q → lv3.ownBlock ≠ some q) := ⟨hM3, hp3, hpl3⟩
      obtain ⟨ta, tc, rfl⟩ := row_slice hM3.list
      obtain ⟨la, lc, rfl⟩ := row_slice hM3.lots
      clear hF3 hM3 hp3 hpl3 HAc c0 c1 c2 HT HG
      generalize hpm : (tq τ.T k).length = pm at *
      have hb4 : Below w3.heap.size w3 (w3.alloc (Obj.cells #[.slice pa pm pc] 25)) := below_alloc _ _
      have HT4 : Hid (SrB (w.heap.size + 1) w g k cp os (w3.alloc (Obj.cells #[.slice pa pm pc] 25))) := HT3.out.later hb4
      have H4 : Hid (SqM w.heap.size (w.heap.size + 1) k τ (.slice la τ.L.length lc) (.slice ta k tc) vs3 (w3.alloc (Obj.cells #[.slice pa pm pc] 25)) ∧ (w3.alloc (Obj.cells #[.slice pa pm pc] 25)).ownsRow w.heap.size 67 2 (.slice pa pm pc) (tq τ.T k).length (loCells (tq τ.T k)) ∧ ∀ q, Value.ownBlock (.slice pa pm pc) = some q → Value.ownBlock (.slice la τ.L.length lc) ≠ some q) := by
        refine ⟨H3.out.1.later hb4, ?_, H3.out.2.2⟩
        rw [hpm]
        exact row_of H3.out.2.1 (fun q hq => hb4.block q (row_lt H3.out.2.1 q hq).2)
      have HNw : Hid ((w3.alloc (Obj.cells #[.slice pa pm pc] 25)).heap[w3.heap.size]? = some (.cells #[.slice pa pm pc] 25 (0, 0))) := heapNew _ _
      have x4 := H3.out.1.run.cells.2.2.2.2
      have hlo3 := HT4.out.low.size
      clear HT3 H3 hb4 hpm
      go_wp2_with (at_builtin; refine wpList_append_lies _ rfl _ _ 40 rfl w.heap.size 25 i0 (.slice none 0 0) 1 24 Try.underlying40 hi hi0 hi1 hi2 rfl (by decide) _ _ _ rfl H4.out.1.list ⟨w3.heap.size, 0, none⟩ 1 1 [.slice pa pm pc] rfl rfl (World.news_of_block HNw.out) (by simp [Value.oneCell']) (by omega) (by unfold maxLen; omega) (by omega) hlo3 _ rfl ?_; intro g1 cp1 w5 hown1 hgrow1 hat1 hglt1; obtain ⟨r5, m5⟩ := H4.out.1.took H4.out.2.1 H4.out.2.2 hown1 hgrow1; have x5 := r5.cells.2.2.2.2; have f5 := r5.free 4; have HT6 : Hid (SrB (w.heap.size + 1) w g k cp os (w5.setCell ⟨w.heap.size + 1, 4, none⟩ (.slice (some ⟨g1, 0, none⟩) (k + 1) cp1))) := HT4.out.took H4.out.1 (by omega) hgrow1; have HM6 : Hid (SqM w.heap.size (w.heap.size + 1) (k + 1) τ (.slice la τ.L.length lc) (.slice (some ⟨g1, 0, none⟩) (k + 1) cp1) (vs3 ++ [.slice pa pm pc]) (w5.setCell ⟨w.heap.size + 1, 4, none⟩ (.slice (some ⟨g1, 0, none⟩) (k + 1) cp1))) := m5; obtain ⟨y0, y1, y2, y3, y4⟩ := m5.run.cells; clear hown1 hgrow1 hat1 hglt1 m5 r5)
      (first | go_at_call 17 | skip)
      generalize w5.setCell ⟨w.heap.size + 1, 4, none⟩ (.slice (some ⟨g1, 0, none⟩) (k + 1) cp1) = W6 at *
      refine (leftS_any τ.day τ.sp τ.ex la lc τ.L (by have := HOk1.out.len; omega) HOk1.out.lot W6 (lo_reads HM6.out.lots)).mono ?_
      rintro e w7 ⟨rfl, hb7⟩
      have hb8 : Below W6.heap.size W6 (w7.alloc (Obj.cells #[.int .i64 cd, .int .i64 (sumP τ.L)] 49)) := chain hb7 (below_alloc _ _)
      have HT8 : Hid (SrB (w.heap.size + 1) w g k cp os (w7.alloc (Obj.cells #[.int .i64 cd, .int .i64 (sumP τ.L)] 49))) := HT6.out.later hb8
      have HM8 : Hid (SqM w.heap.size (w.heap.size + 1) (k + 1) τ (.slice la τ.L.length lc) (.slice (some ⟨g1, 0, none⟩) (k + 1) cp1) (vs3 ++ [.slice pa pm pc]) (w7.alloc (Obj.cells #[.int .i64 cd, .int .i64 (sumP τ.L)] 49))) := HM6.out.later hb8
      have hlo := HT8.out.low.size
      clear hb7 hb8 HT6 HM6 y0 y1 y2 y3 y4 HT4 H4 HNw
      go_wp2_with (at_builtin; refine wpList_append_lies _ rfl _ _ 24 rfl w.heap.size 49 j0 (.agg #[.int .i64 0, .int .i64 0]) 2 16 Try.underlying24 hj hj0 hj1 hj2 rfl (by decide) _ _ _ rfl HT8.out.told ⟨w7.heap.size, 0, none⟩ 1 1 [.int .i64 cd, .int .i64 (sumP τ.L)] rfl rfl (World.news_of_block (heapNew w7 _)) (by simp [Value.oneCell']) (by omega) (by unfold maxLen; omega) (by omega) hlo _ rfl ?_; intro g2 cp2 w9 hown1 hgrow1 hat1 hglt1; have HX := srTold HT8.out HM8.out hown1 hgrow1; have HX' : Hid (SrB (w.heap.size + 1) w g2 (k + 1) cp2 (os ++ [(cd, sumP τ.L)]) w9 ∧ SqM w.heap.size (w.heap.size + 1) (k + 1) τ (.slice la τ.L.length lc) (.slice (some ⟨g1, 0, none⟩) (k + 1) cp1) (vs3 ++ [.slice pa pm pc]) w9) := HX; clear HX hown1 hgrow1 hat1 hglt1)
      refine ⟨⟨k + 1, g2, cp2, .slice la τ.L.length lc, .slice (some ⟨g1, 0, none⟩) (k + 1) cp1, vs3 ++ [.slice pa pm pc], by omega, by go_num, rfl, ?_, ?_⟩, by simp [intOf]; omega⟩
      · rw [← HNo.out]; exact HX'.out.1
      · rw [← HNs.out]; exact HX'.out.2
    · obtain rfl : k = rs.length := by omega
      obtain ⟨la, lc, rfl⟩ := row_slice HG.out.lots
      have HP : Hid (SgIs wr (w.heap.size + 1) (ptS rs rs.length).day (ptS rs rs.length).sp (ptS rs rs.length).ex (.slice la (ptS rs rs.length).L.length lc) uv ∧ wr.ownsRow w.heap.size 67 2 (.slice la (ptS rs rs.length).L.length lc) (ptS rs rs.length).L.length (loCells (ptS rs rs.length).L)) := ⟨HG.out.run, HG.out.lots⟩
      have hol := ptO_len rs rs.length
      have HEq : Hid (∃ d s x L os, d = (ptS rs rs.length).day ∧ s = (ptS rs rs.length).sp ∧ x = (ptS rs rs.length).ex ∧ L = (ptS rs rs.length).L ∧ os = ptO rs rs.length) := ⟨_, _, _, _, _, rfl, rfl, rfl, rfl, rfl⟩
      obtain ⟨d, s, x, L, os, hd, hs, hx, hL, hos⟩ := HEq.out
      rw [← hd, ← hs, ← hx, ← hL] at HP
      rw [← hos] at hol HT
      have HE2 : Hid (d = (ptS rs rs.length).day ∧ s = (ptS rs rs.length).sp ∧ x = (ptS rs rs.length).ex ∧ L = (ptS rs rs.length).L ∧ os = ptO rs rs.length) := ⟨hd, hs, hx, hL, hos⟩
      clear hd hs hx hL hos HEq HG
      have HTd : Hid (SrB (w.heap.size + 1) w g rs.length cp os wr.drew ∧ SgIs wr.drew (w.heap.size + 1) d s x (.slice la L.length lc) uv ∧ wr.drew.ownsRow w.heap.size 67 2 (.slice la L.length lc) L.length (loCells L)) := ⟨HT.out.later (below_drew _), HP.out.1.later (below_drew _), row_of HP.out.2 (fun q hq => (below_drew _).block q (row_lt HP.out.2 q hq).2)⟩
      go_wp2_with fail
      clear HT HP
      refine wp_region_held_drew (S := fun W => SgIs W (w.heap.size + 1) d s x (.slice la L.length lc) uv) (by kernel_rfl) HTd.out.2.1 (fun hH => ?_)
      generalize wr.drew = wr at *
      refine wpAnyH_take (i := 0) (v := .slice (some ⟨g, 0, none⟩) rs.length cp) rfl (by kernel_rfl) (by kernel_rfl) (by kernel_rfl) (fun _ _ _ h => h) (Or.inl ⟨by rfl, fun w hSw => by go_simp⟩) hH ?_
      refine wpAnyH_take (i := 1) (v := .pointer (some ⟨w.heap.size + 1, 0, none⟩)) rfl (by kernel_rfl) (by kernel_rfl) (by kernel_rfl) (fun _ _ _ h => h) (Or.inl ⟨by rfl, fun w hSw => by go_simp⟩) hH ?_
      try simp only [Act.put, List.setIfInBounds_toArray, List.set_cons_zero, List.set_cons_succ, List.getElem_toArray, List.getElem_cons_succ, List.getElem_cons_zero]
      refine wpAnyH_take (i := 2) (v := .pointer (some ⟨w.heap.size + 1, 0, none⟩)) rfl (by kernel_rfl) (by kernel_rfl) (by kernel_rfl) (fun _ _ _ h => h) (Or.inl ⟨by rfl, fun w hSw => by go_simp⟩) hH ?_
      try simp only [Act.put, List.setIfInBounds_toArray, List.set_cons_zero, List.set_cons_succ, List.getElem_toArray, List.getElem_cons_succ, List.getElem_cons_zero]
      refine wpAnyH_take (i := 3) (v := .pointer (some ⟨w.heap.size + 1, 0, none⟩)) rfl (by kernel_rfl) (by kernel_rfl) (by kernel_rfl) (fun _ _ _ h => h) (Or.inl ⟨by rfl, fun w hSw => by go_simp⟩) hH ?_
      try simp only [Act.put, List.setIfInBounds_toArray, List.set_cons_zero, List.set_cons_succ, List.getElem_toArray, List.getElem_cons_succ, List.getElem_cons_zero]
      refine wpAnyH_take (i := 4) (v := .agg #[.int .i64 d, .int .i64 s, .int .i64 x, .slice la L.length lc]) rfl (by kernel_rfl) (by kernel_rfl) (by kernel_rfl) (fun _ _ _ h => h) (Or.inl ⟨by rfl, fun w hSw => by have f0 := hSw.cells.1; have f1 := hSw.cells.2.1; have f2 := hSw.cells.2.2.1; have f3 := hSw.cells.2.2.2.1; clear hSw; go_simp⟩) hH ?_
      try simp only [Act.put, List.setIfInBounds_toArray, List.set_cons_zero, List.set_cons_succ, List.getElem_toArray, List.getElem_cons_succ, List.getElem_cons_zero]
      refine wpAnyH_take (i := 5) (v := .slice (some ⟨g, 0, none⟩) rs.length cp) rfl (by kernel_rfl) (by kernel_rfl) (by kernel_rfl) (fun _ _ _ h => h) (Or.inl ⟨by rfl, fun w hSw => by go_simp⟩) hH ?_
      try simp only [Act.put, List.setIfInBounds_toArray, List.set_cons_zero, List.set_cons_succ, List.getElem_toArray, List.getElem_cons_succ, List.getElem_cons_zero]
      have y0 : wr.cell? ⟨w.heap.size, 0, none⟩ = some (.int .i64 0) := blkCell HTd.out.1.res 0 _ rfl
      have y1 : wr.cell? ⟨w.heap.size, 1, none⟩ = some (.int .i64 0) := blkCell HTd.out.1.res 1 _ rfl
      have y2 : wr.cell? ⟨w.heap.size, 2, none⟩ = some (.int .i64 0) := blkCell HTd.out.1.res 2 _ rfl
      have y3 : wr.cell? ⟨w.heap.size, 3, none⟩ = some (.slice none 0 0) := blkCell HTd.out.1.res 3 _ rfl
      have z0 := blkFree HTd.out.1.res 0
      have z1 := blkFree HTd.out.1.res 1
      have z2 := blkFree HTd.out.1.res 2
      have z3 := blkFree HTd.out.1.res 3
      have hlo := blkLt HTd.out.1.res
      refine wpAnyH_ready (rs := [6]) (by kernel_rfl) (by simp) ?_
      refine AllReadyH.cons rfl (fun K hK => ?_) AllReadyH.nil
      go_simp
      have hfar := far4 wr w.heap.size (w.heap.size + 1) (by omega) (.int .i64 d) (.int .i64 s) (.int .i64 x) (.slice la L.length lc)
      have hS4 : SgIs ((((wr.setCell ⟨w.heap.size, 0, none⟩ (.int .i64 d)).setCell ⟨w.heap.size, 1, none⟩ (.int .i64 s)).setCell ⟨w.heap.size, 2, none⟩ (.int .i64 x)).setCell ⟨w.heap.size, 3, none⟩ (.slice la L.length lc)) (w.heap.size + 1) d s x (.slice la L.length lc) uv := HTd.out.2.1.of hfar
      have hfin := fin4 HTd.out.1.res (.int .i64 d) (.int .i64 s) (.int .i64 x) (.slice la L.length lc)
      have HEnd : Hid (AnsP w.heap.size os L (.slice (some ⟨g, 0, none⟩) rs.length cp) (.slice la L.length lc) ((((wr.setCell ⟨w.heap.size, 0, none⟩ (.int .i64 d)).setCell ⟨w.heap.size, 1, none⟩ (.int .i64 s)).setCell ⟨w.heap.size, 2, none⟩ (.int .i64 x)).setCell ⟨w.heap.size, 3, none⟩ (.slice la L.length lc)) ∧ Below w.heap.size w ((((wr.setCell ⟨w.heap.size, 0, none⟩ (.int .i64 d)).setCell ⟨w.heap.size, 1, none⟩ (.int .i64 s)).setCell ⟨w.heap.size, 2, none⟩ (.int .i64 x)).setCell ⟨w.heap.size, 3, none⟩ (.slice la L.length lc))) := by
        have hT := HTd.out.1
        have hres := hT.res
        refine ⟨⟨?_, row_of HTd.out.2.2 (fun q hq => far4 wr w.heap.size q (fun e => ?_) _ _ _ _)⟩, (((hT.low.setCell (p := ⟨w.heap.size, 0, none⟩) (Nat.le_refl _) _).setCell (p := ⟨w.heap.size, 1, none⟩) (Nat.le_refl _) _).setCell (p := ⟨w.heap.size, 2, none⟩) (Nat.le_refl _) _).setCell (p := ⟨w.heap.size, 3, none⟩) (Nat.le_refl _) _⟩
        · rw [hol]
          refine row_of hT.told (fun q hq => far4 wr w.heap.size q (fun e => ?_) _ _ _ _)
          obtain ⟨cur, hc⟩ := row_type hT.told hq
          rw [e, hres] at hc
          simp at hc
        · obtain ⟨cur, hc⟩ := row_type HTd.out.2.2 hq
          rw [e, hres] at hc
          simp at hc
      refine hK.out _ _ hS4 (fun _ => ?_)
      clear hK K
      try simp only [Act.put, List.setIfInBounds_toArray, List.set_cons_zero, List.set_cons_succ, List.getElem_toArray, List.getElem_cons_succ, List.getElem_cons_zero]
      refine wpAnyH_take (i := 7) (v := .int .i64 0) rfl (by kernel_rfl) (by kernel_rfl) (by kernel_rfl) (fun _ _ _ h => h) (Or.inl ⟨by rfl, fun w hSw => by go_simp⟩) hS4 ?_
      try simp only [Act.put, List.setIfInBounds_toArray, List.set_cons_zero, List.set_cons_succ, List.getElem_toArray, List.getElem_cons_succ, List.getElem_cons_zero]
      refine wpAnyH_done (by kernel_rfl) ?_ _
      clear hS4 hfar hH y0 y1 y2 y3 z0 z1 z2 z3 hlo
      have q0 : ((((wr.setCell ⟨w.heap.size, 0, none⟩ (.int .i64 d)).setCell ⟨w.heap.size, 1, none⟩ (.int .i64 s)).setCell ⟨w.heap.size, 2, none⟩ (.int .i64 x)).setCell ⟨w.heap.size, 3, none⟩ (.slice la L.length lc)).cell? ⟨w.heap.size, 0, none⟩ = some (.int .i64 d) := blkCell hfin 0 _ rfl
      have q1 : ((((wr.setCell ⟨w.heap.size, 0, none⟩ (.int .i64 d)).setCell ⟨w.heap.size, 1, none⟩ (.int .i64 s)).setCell ⟨w.heap.size, 2, none⟩ (.int .i64 x)).setCell ⟨w.heap.size, 3, none⟩ (.slice la L.length lc)).cell? ⟨w.heap.size, 1, none⟩ = some (.int .i64 s) := blkCell hfin 1 _ rfl
      have q2 : ((((wr.setCell ⟨w.heap.size, 0, none⟩ (.int .i64 d)).setCell ⟨w.heap.size, 1, none⟩ (.int .i64 s)).setCell ⟨w.heap.size, 2, none⟩ (.int .i64 x)).setCell ⟨w.heap.size, 3, none⟩ (.slice la L.length lc)).cell? ⟨w.heap.size, 2, none⟩ = some (.int .i64 x) := blkCell hfin 2 _ rfl
      have q3 : ((((wr.setCell ⟨w.heap.size, 0, none⟩ (.int .i64 d)).setCell ⟨w.heap.size, 1, none⟩ (.int .i64 s)).setCell ⟨w.heap.size, 2, none⟩ (.int .i64 x)).setCell ⟨w.heap.size, 3, none⟩ (.slice la L.length lc)).cell? ⟨w.heap.size, 3, none⟩ = some (.slice la L.length lc) := blkCell hfin 3 _ rfl
      clear hfin
      generalize ((((wr.setCell ⟨w.heap.size, 0, none⟩ (.int .i64 d)).setCell ⟨w.heap.size, 1, none⟩ (.int .i64 s)).setCell ⟨w.heap.size, 2, none⟩ (.int .i64 x)).setCell ⟨w.heap.size, 3, none⟩ (.slice la L.length lc)) = W9 at *
      go_wp2
      refine bodyPost_ret (v := .tuple #[.slice (some ⟨g, 0, none⟩) rs.length cp, .agg #[.int .i64 d, .int .i64 s, .int .i64 x, .slice la L.length lc], .int .i64 0]) (by simp [results, Try.results5, go_sem, q0, q1, q2, q3]) rfl ?_
      obtain ⟨rfl, rfl, rfl, rfl, rfl⟩ := HE2.out
      exact ⟨_, _, rfl, HEnd.out.1, HEnd.out.2⟩
end Go.Proofs.Ytodncihjenlnjaa

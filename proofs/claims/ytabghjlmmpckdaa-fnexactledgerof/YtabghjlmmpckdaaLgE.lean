/-
  The contract of the specification's LedgerOf, for every list of events.
-/
import Derived.Test.YtabghjlmmpckdaaLgD
import Derived.Test.YtabghjlmmpckdaaEvD
namespace Go.Proofs.Ytabghjlmmpckdaa
open Go.ChangeShapes Go.WideShapes Go.ChangeAt Go.RowKit Go.Deep
set_option linter.unusedVariables false

theorem sCard_any (a : Option Addr) (cap : Nat) (cs : List RCd) (hl : cs.length ≤ 100000000) (nm : ByteArray) (w : World) (hr : ReadsCd w.heap.size w a cs) :
    Calls Try.prog 35 #[.slice a cs.length cap, .string nm] w fun e w' => e = .returned (.int .i64 (ixI (cdIx cs nm))) ∧ w' = w := by
  have HR : Hid (ReadsCd w.heap.size w a cs) := hr
  obtain ⟨ans, hans⟩ : ∃ ans, cdIx cs nm = ans := ⟨_, rfl⟩
  rw [hans]
  have HA : Hid (cdIx cs nm = ans) := hans
  clear hr hans
  go_enter Try.func35, Try.ntmps35
  go_wp2
  go_loop [5] (fun c => ∃ k : Nat, k ≤ cs.length ∧ c = .int .i64 (k : Int) ∧ (∀ j, j < k → ((cs.getD j zCd).nm.toList == nm.toList) = false)) (fun c => cs.length - (intOf c).toNat)
  case atStart => exact ⟨0, Nat.zero_le _, rfl, fun j hj => by omega⟩
  case round =>
    obtain ⟨k, hk, rfl, hf⟩ := hrel
    have HF : Hid (∀ j, j < k → ((cs.getD j zCd).nm.toList == nm.toList) = false) := hf
    clear hf
    by_cases hlt : k < cs.length
    · have hlt' : (k : Int) < (cs.length : Int) := by omega
      rcases HR.out with h | ⟨b0, o0, ha, hB0, ia⟩
      · rw [h] at hlt; simp at hlt
      subst ha
      obtain ⟨c0, c1, c2, c3⟩ := ia k hlt
      have HX : Hid (((cs.getD k zCd).nm.toList == nm.toList) = true → ans = some k) := fun h => HA.out.symm.trans (cdIx_at hlt HF.out h)
      have HN : Hid (((cs.getD k zCd).nm.toList == nm.toList) = false → ∀ j, j < k + 1 → ((cs.getD j zCd).nm.toList == nm.toList) = false) := fun h j hj => by
        by_cases e : j = k
        · rw [e]; exact h
        · exact HF.out j (by omega)
      clear ia
      generalize cs.getD k zCd = q at c0 c1 c2 c3 HX HN
      obtain ⟨r0, r1, r2, r3⟩ := q
      dsimp only at c0 c1 c2 c3 HX HN
      cases hq : (r0.toList == nm.toList)
      · have H1 : Hid (∀ j, j < k + 1 → ((cs.getD j zCd).nm.toList == nm.toList) = false) := HN.out hq
        clear HN HX HF
        go_wp2
        go_round
        case rel => exact ⟨k + 1, by omega, by go_num, H1.out⟩
        case measure => simp [intOf]; omega
      · have H1 : Hid (ans = some k) := HX.out hq
        clear HN HX HF
        go_wp2
        go_ret
        exact ⟨by rw [H1.out]; rfl, rfl⟩
    · have hle : (cs.length : Int) ≤ (k : Int) := by omega
      have HE : Hid (ans = none) := HA.out.symm.trans (cdIx_none (fun j hj => HF.out j (by omega)))
      go_wp2
      go_ret
      exact ⟨by rw [HE.out]; rfl, rfl⟩
set_option maxHeartbeats 16000000 in
set_option maxRecDepth 4000 in
theorem specLedger_any (a : Option Addr) (cap : Nat) (rs : List REv) (hl : rs.length ≤ 100000000) (hp : ∀ r ∈ rs, EvOK r) (wa : World) (hr : ReadsEv wa.heap.size wa a rs) :
    Calls Try.prog 16 #[.slice a rs.length cap] wa (LgP wa (lgR rs) (lgC rs)) := by
  have HR : Hid (ReadsEv wa.heap.size wa a rs) := hr
  have HOK : Hid (∀ r ∈ rs, EvOK r) := hp
  have HEv : Hid (∀ w, ReadsEv w.heap.size w a rs → Calls Try.prog 12 #[.slice a rs.length cap] w fun e w' => e = .returned (.bool (evAll rs)) ∧ Below w.heap.size w w') := fun w h => specEvents_any a cap rs hl hp w h
  obtain ⟨i0, hi, hzz⟩ := Option.map_eq_some_iff.1 intInfo
  simp only [Prod.mk.injEq] at hzz
  obtain ⟨hi0, hi1, hi2⟩ := hzz
  obtain ⟨s0, hs, hzs⟩ := Option.map_eq_some_iff.1 strInfo
  simp only [Prod.mk.injEq] at hzs
  obtain ⟨hs0, hs1, hs2⟩ := hzs
  obtain ⟨d0, hd, hzd⟩ := Option.map_eq_some_iff.1 cdInfo4
  simp only [Prod.mk.injEq] at hzd
  obtain ⟨hd0, hd1, hd2⟩ := hzd
  clear hr hp
  by_cases hlong : 4096 < rs.length
  · have hc : lgC rs = 2 := by unfold lgC; rw [if_pos hlong]
    have hr2 : lgR rs = noLg := by unfold lgR; rw [hc]; rfl
    rw [hc, hr2]
    have hlong' : (4096 : Int) < (rs.length : Int) := by omega
    clear hc hr2
    go_enter Try.func16, Try.ntmps16
    go_wp2
    refine bodyPost_ret (v := .tuple #[.agg #[.slice none 0 0, .slice none 0 0, .slice none 0 0], .int .i64 2]) (by simp [results, Try.results16, go_sem]) rfl ?_
    exact lgP_none _ _ _ (below_alloc _ _)
  have hshort : (rs.length : Int) ≤ 4096 := by omega
  have HCk : Hid (lgC rs = if evAll rs = true then 0 else 1) := by show _ = _; unfold lgC; rw [if_neg hlong]
  obtain ⟨W0, hW0⟩ : ∃ W0, W0 = wa.alloc (Obj.cells zLg 31) := ⟨_, rfl⟩
  have HW0 : Hid (Below wa.heap.size wa W0 ∧ W0.heap[wa.heap.size]? = some (.cells zLg 31 (0, 0))) := by rw [hW0]; exact ⟨below_alloc _ _, heapNew _ _⟩
  have hcl := HEv.out W0 (HR.out.later HW0.out.1)
  clear HEv
  obtain ⟨ok, hok⟩ : ∃ ok, evAll rs = ok := ⟨_, rfl⟩
  have HAl : Hid (evAll rs = ok) := hok
  rw [hok] at hcl HCk
  clear hok
  cases ok
  · have hc : lgC rs = 1 := by rw [HCk.out]; rfl
    have hr2 : lgR rs = noLg := by unfold lgR; rw [hc]; rfl
    rw [hc, hr2]
    clear hc hr2 HCk
    go_enter Try.func16, Try.ntmps16
    go_wp2_with fail
    go_at_call 12
    have hz : wa.alloc (Obj.cells #[.slice none 0 0, .slice none 0 0, .slice none 0 0] 31) = W0 := hW0.symm
    rw [hz]
    refine hcl.mono ?_
    rintro e w1 ⟨rfl, hb1⟩
    have hbk : w1.heap[wa.heap.size]? = some (.cells zLg 31 (0, 0)) := (hb1.block _ (blkLt HW0.out.2)).trans HW0.out.2
    have HBw : Hid (Below wa.heap.size wa w1) := chain HW0.out.1 hb1
    clear hb1 hcl hz hW0
    have r0 : w1.cell? ⟨wa.heap.size, 0, none⟩ = some (.slice none 0 0) := blkCell hbk 0 _ rfl
    have r1 : w1.cell? ⟨wa.heap.size, 1, none⟩ = some (.slice none 0 0) := blkCell hbk 1 _ rfl
    have r2 : w1.cell? ⟨wa.heap.size, 2, none⟩ = some (.slice none 0 0) := blkCell hbk 2 _ rfl
    have g0 := blkFree hbk 0
    have g1 := blkFree hbk 1
    have g2 := blkFree hbk 2
    have hwl : wa.heap.size < w1.heap.size := blkLt hbk
    have HS4 := set3L w1 wa.heap.size (.slice none 0 0) (.slice none 0 0) (.slice none 0 0) zLg 31 rfl hbk
    have H4 : Hid (∀ WE, WE = (((w1.setCell ⟨wa.heap.size, 0, none⟩ (.slice none 0 0)).setCell ⟨wa.heap.size, 1, none⟩ (.slice none 0 0)).setCell ⟨wa.heap.size, 2, none⟩ (.slice none 0 0)) → WE.heap[wa.heap.size]? = some (.cells #[.slice none 0 0, .slice none 0 0, .slice none 0 0] 31 (0, 0)) ∧ (∀ q, q ≠ wa.heap.size → WE.heap[q]? = w1.heap[q]?) ∧ ∀ B, B ≤ wa.heap.size → Below B w1 WE) := HS4
    clear hbk HS4
    go_wp2
    obtain ⟨WE, hWE⟩ : ∃ WE, WE = (((w1.setCell ⟨wa.heap.size, 0, none⟩ (.slice none 0 0)).setCell ⟨wa.heap.size, 1, none⟩ (.slice none 0 0)).setCell ⟨wa.heap.size, 2, none⟩ (.slice none 0 0)) := ⟨_, rfl⟩
    rw [← hWE]
    have HE4 : Hid (WE.heap[wa.heap.size]? = some (.cells #[.slice none 0 0, .slice none 0 0, .slice none 0 0] 31 (0, 0)) ∧ (∀ q, q ≠ wa.heap.size → WE.heap[q]? = w1.heap[q]?) ∧ ∀ B, B ≤ wa.heap.size → Below B w1 WE) := H4.out WE hWE
    have z0 : WE.cell? ⟨wa.heap.size, 0, none⟩ = some (.slice none 0 0) := blkCell HE4.out.1 0 _ rfl
    have z1 : WE.cell? ⟨wa.heap.size, 1, none⟩ = some (.slice none 0 0) := blkCell HE4.out.1 1 _ rfl
    have z2 : WE.cell? ⟨wa.heap.size, 2, none⟩ = some (.slice none 0 0) := blkCell HE4.out.1 2 _ rfl
    clear hWE
    refine bodyPost_ret (v := .tuple #[.agg #[.slice none 0 0, .slice none 0 0, .slice none 0 0], .int .i64 1]) (by simp [results, Try.results16, go_sem, z0, z1, z2]) rfl ?_
    exact lgP_none _ _ _ (HBw.out.trans (HE4.out.2.2 _ (Nat.le_refl _)))
  have hc : lgC rs = 0 := by rw [HCk.out]; rfl
  have hr2 : lgR rs = lgAt rs rs.length := by unfold lgR; rw [if_pos hc]
  rw [hc, hr2]
  clear hc hr2 HCk
  have HGo : Hid (evGo rs rs.length = true ∧ rs.length ≤ 120) := by
    have h := HAl.out
    unfold evAll at h
    rw [Bool.and_eq_true] at h
    exact ⟨h.2, of_decide_eq_true h.1⟩
  have h120 := HGo.out.2
  go_enter Try.func16, Try.ntmps16
  go_wp2_with fail
  go_at_call 12
  have hz : wa.alloc (Obj.cells #[.slice none 0 0, .slice none 0 0, .slice none 0 0] 31) = W0 := hW0.symm
  rw [hz]
  refine hcl.mono ?_
  rintro e w1 ⟨rfl, hb1⟩
  have HB1 : Hid (Below wa.heap.size wa w1 ∧ w1.heap[wa.heap.size]? = some (.cells zLg 31 (0, 0))) := ⟨chain HW0.out.1 hb1, (hb1.block _ (blkLt HW0.out.2)).trans HW0.out.2⟩
  clear hb1 hcl hz hW0 HW0
  obtain ⟨lb, hlb⟩ : ∃ lb, lb = w1.heap.size := ⟨_, rfl⟩
  have hlt0 : wa.heap.size < lb := by rw [hlb]; exact blkLt HB1.out.2
  go_wp2
  obtain ⟨W2, hW2⟩ : ∃ W2, W2 = w1.alloc (Obj.cells #[.slice none 0 0, .slice none 0 0, .slice none 0 0] 31) := ⟨_, rfl⟩
  have H2 : Hid (LgM lb lb noLg (.slice none 0 0) (.slice none 0 0) (.slice none 0 0) W2 ∧ Below wa.heap.size wa W2 ∧ W2.heap[wa.heap.size]? = some (.cells zLg 31 (0, 0))) := by
    have hb := below_alloc w1 (Obj.cells #[.slice none 0 0, .slice none 0 0, .slice none 0 0] 31)
    have hn := heapNew w1 (Obj.cells #[.slice none 0 0, .slice none 0 0, .slice none 0 0] 31)
    rw [← hW2] at hb hn
    rw [← hlb] at hn
    exact ⟨lgM_none hn, chain HB1.out.1 hb, (hb.block _ (by omega)).trans HB1.out.2⟩
  rw [← hW2, ← hlb]
  clear hW2 HB1 hlb
  go_loopw [5, 6, 7] (fun c _ _ wr => ∃ (k : Nat) (cv uv fv : Value), k ≤ rs.length ∧ c = .int .i64 (k : Int) ∧ LgM lb lb (lgAt rs k) cv uv fv wr ∧ Below lb W2 wr) (fun c _ _ _ => rs.length - (intOf c).toNat)
  case atStart => exact ⟨0, _, _, _, Nat.zero_le _, rfl, H2.out.1, Below.refl _ _⟩
  case round =>
    obtain ⟨k, cv, uv, fv, hk, rfl, hM, hB⟩ := hrel
    have HM : Hid (LgM lb lb (lgAt rs k) cv uv fv wr) := hM
    have HB : Hid (Below lb W2 wr) := hB
    have HBa : Hid (Below wa.heap.size wa wr) := H2.out.2.1.trans (hB.mono (Nat.le_of_lt hlt0))
    have HOk : Hid (LgOK k (lgAt rs k)) := lgAt_ok k (evGo_le HGo.out.1 hk)
    have hfl := HOk.out.fl
    have hcl := HOk.out.cl
    have hul := HOk.out.ul
    have hlw : lb < wr.heap.size := blkLt hM.box
    obtain ⟨fa, fc, rfl⟩ := row_slice hM.frow
    obtain ⟨ca, cc, rfl⟩ := row_slice hM.crow
    obtain ⟨ua, uc, rfl⟩ := row_slice hM.urow
    clear hM hB
    by_cases hlt : k < rs.length
    · have hlt' : (k : Int) < (rs.length : Int) := by omega
      rcases HR.out with h | ⟨b0, o0, ha, hB0, ia⟩
      · rw [h] at hlt; simp at hlt
      subst ha
      obtain ⟨c0, c1, c2, c3, c4, c5⟩ := (ia.below HBa.out hB0) k hlt
      have hb0 : b0 < wr.heap.size := Nat.lt_of_lt_of_le hB0 HBa.out.size
      clear ia
      have hW : EvOK (rs.getD k zEv) := getEv HOK.out hlt
      have hone := evStep_one (evGo_at HGo.out.1 hlt)
      have HNx : Hid (lgAt rs (k + 1) = lgRef k (lgTake (lgAt rs k) (rs.getD k zEv).kd (rs.getD k zEv).cd (rs.getD k zEv).am)) := rfl
      generalize lgAt rs k = g at *
      generalize rs.getD k zEv = ev at *
      obtain ⟨e0, e1, e2, e3, e4, e5⟩ := ev
      dsimp only at c0 c1 c2 c3 c4 c5 HNx
      have hkd : e3 = 3 ∨ ((e3 = 1 ∨ e3 = 2) ∧ 1 ≤ e5 ∧ e5 ≤ 1000000) := by
        unfold evOne at hone
        simp only [Bool.and_eq_true] at hone
        obtain ⟨_, _, _, _, h5⟩ := hone
        unfold evAmt at h5
        by_cases h3 : e3 = 3
        · exact .inl h3
        · rw [if_neg h3, Bool.and_eq_true] at h5
          exact .inr ⟨of_decide_eq_true h5.1, of_decide_eq_true h5.2⟩
      clear hone
      obtain ⟨Wb, hWb⟩ : ∃ Wb, Wb = wr.alloc (Obj.cells #[.int .i64 e0, .int .i64 e1, .int .i64 e2, .int .i64 e3, .string e4, .int .i64 e5] 35) := ⟨_, rfl⟩
      have hbb := below_alloc wr (Obj.cells #[.int .i64 e0, .int .i64 e1, .int .i64 e2, .int .i64 e3, .string e4, .int .i64 e5] 35)
      have hnb := heapNew wr (Obj.cells #[.int .i64 e0, .int .i64 e1, .int .i64 e2, .int .i64 e3, .string e4, .int .i64 e5] 35)
      rw [← hWb] at hbb hnb
      have HMb : Hid (LgM lb lb g (.slice ca g.cs.length cc) (.slice ua g.us.length uc) (.slice fa g.fs.length fc) Wb) := HM.out.later hbb
      have HBb : Hid (Below lb W2 Wb) := HB.out.trans (hbb.mono (by omega))
      have HXb : Hid (Wb.heap[wr.heap.size]? = some (.cells #[.int .i64 e0, .int .i64 e1, .int .i64 e2, .int .i64 e3, .string e4, .int .i64 e5] 35 (0, 0))) := hnb
      have hne : wr.heap.size ≠ lb := by omega
      have hne' : lb ≠ wr.heap.size := by omega
      have u0 : wr.cell? ⟨lb, 0, none⟩ = some (.slice ca g.cs.length cc) := blkCell HM.out.box 0 _ rfl
      have u1 : wr.cell? ⟨lb, 1, none⟩ = some (.slice ua g.us.length uc) := blkCell HM.out.box 1 _ rfl
      have m3 : Wb.cell? ⟨wr.heap.size, 3, none⟩ = some (.int .i64 e3) := blkCell hnb 3 _ rfl
      have m4 : Wb.cell? ⟨wr.heap.size, 4, none⟩ = some (.string e4) := blkCell hnb 4 _ rfl
      have m5 : Wb.cell? ⟨wr.heap.size, 5, none⟩ = some (.int .i64 e5) := blkCell hnb 5 _ rfl
      have x0 : Wb.cell? ⟨lb, 0, none⟩ = some (.slice ca g.cs.length cc) := blkCell HMb.out.box 0 _ rfl
      have x1 : Wb.cell? ⟨lb, 1, none⟩ = some (.slice ua g.us.length uc) := blkCell HMb.out.box 1 _ rfl
      have x2 : Wb.cell? ⟨lb, 2, none⟩ = some (.slice fa g.fs.length fc) := blkCell HMb.out.box 2 _ rfl
      have hlB : lb < Wb.heap.size := blkLt HMb.out.box
      have hlN : wr.heap.size < Wb.heap.size := blkLt hnb
      clear hbb hnb HM HB
      rcases hkd with h3 | ⟨h12, a1, a2⟩
      · have hk3 : (e3 == 3) = true := by rw [h3]; rfl
        have HT : Hid (lgAt rs (k + 1) = lgRef k (if hasB g.us e4 = true then (false, g) else (true, ⟨g.cs, g.us ++ [e4], g.fs⟩))) := by
          have h := HNx.out
          unfold lgTake at h
          rw [if_pos h3] at h
          exact h
        have hH := has_any ua uc g.us (by omega) e4 Wb (row_strs HMb.out.urow)
        clear HNx h3
        go_wp2_with fail
        go_at_call 34
        rw [← hWb]
        refine hH.mono ?_
        rintro e w3 ⟨rfl, h⟩
        rw [h]
        clear h w3 hH hWb u0 u1
        generalize hasB g.us e4 = hb at *
        cases hb
        · have HE : Hid (lgAt rs (k + 1) = ⟨g.cs, g.us ++ [e4], g.fs⟩) := HT.out
          have HM4 : Hid (LgM lb lb g (.slice ca g.cs.length cc) (.slice ua g.us.length uc) (.slice fa g.fs.length fc) (Wb.alloc (Obj.cells #[.string e4] 9))) := HMb.out.later (below_alloc _ _)
          have HB4 : Hid (Below lb W2 (Wb.alloc (Obj.cells #[.string e4] 9))) := HBb.out.trans ((below_alloc _ _).mono (by omega))
          have hB4 : lb ≤ (Wb.alloc (Obj.cells #[.string e4] 9)).heap.size := by have := blkLt HM4.out.box; omega
          clear HT HMb HBb
          go_wp2_with (at_builtin; refine wpList_append_any rfl _ _ 28 rfl lb 9 s0 (.string ⟨#[]⟩) 1 16 Try.underlying28 hs hs0 hs1 hs2 rfl (by decide) _ _ _ rfl HM4.out.urow (some ⟨Wb.heap.size, 0, none⟩) 1 1 [.string e4] rfl rfl (fun _ => ⟨_, rfl, newsOne Wb _ _⟩) (by intro u hu; simp at hu; subst hu; rfl) (by unfold maxLen; omega) (by omega) hB4 ?_; intro va vc w5 hown hgr hat; have HT := HM4.out.addU hown hgr; have HT1 : Hid (LgM lb lb ⟨g.cs, g.us ++ [e4], g.fs⟩ (.slice ca g.cs.length cc) (.slice va (g.us.length + 1) vc) (.slice fa g.fs.length fc) (w5.setCell ⟨lb, 1, none⟩ (.slice va (g.us.length + 1) vc))) := HT.2; have z1 := blkCell HT.1 1 _ rfl; have f1 := blkFree HT.1 1; have hl5 : lb < w5.heap.size := blkLt HT.1; have HB5 : Hid (Below lb W2 (w5.setCell ⟨lb, 1, none⟩ (.slice va (g.us.length + 1) vc))) := (HB4.out.grown hgr hB4 (fun q hq => (row_lt HM4.out.urow q hq).1)).setCell (Nat.le_refl _) _; clear HT hown hgr hat)
          first
          | exact ⟨⟨k + 1, _, _, _, by omega, by go_num, by rw [HE.out]; exact HT1.out, HB5.out⟩, by simp [intOf]; omega⟩
          | (go_roundw
             case rel => exact ⟨k + 1, _, _, _, by omega, by go_num, by rw [HE.out]; exact HT1.out, HB5.out⟩
             case measure => simp [intOf]; omega)
        · have HE : Hid (lgAt rs (k + 1) = ⟨g.cs, g.us, g.fs ++ [k]⟩) := HT.out
          have HM4 : Hid (LgM lb lb g (.slice ca g.cs.length cc) (.slice ua g.us.length uc) (.slice fa g.fs.length fc) (Wb.alloc (Obj.cells #[.int .i64 (k : Int)] 3))) := HMb.out.later (below_alloc _ _)
          have HB4 : Hid (Below lb W2 (Wb.alloc (Obj.cells #[.int .i64 (k : Int)] 3))) := HBb.out.trans ((below_alloc _ _).mono (by omega))
          have hB4 : lb ≤ (Wb.alloc (Obj.cells #[.int .i64 (k : Int)] 3)).heap.size := by have := blkLt HM4.out.box; omega
          clear HT HMb HBb
          go_wp2_with (at_builtin; refine wpList_append_any rfl _ _ 29 rfl lb 3 i0 (.int .i64 0) 1 8 Try.underlying29 hi hi0 hi1 hi2 rfl (by decide) _ _ _ rfl HM4.out.frow (some ⟨Wb.heap.size, 0, none⟩) 1 1 [nVl k] rfl rfl (fun _ => ⟨_, rfl, newsOne Wb _ _⟩) (by intro u hu; simp at hu; subst hu; rfl) (by unfold maxLen; omega) (by omega) hB4 ?_; intro va vc w5 hown hgr hat; have HT := HM4.out.addF hown hgr; have HT1 : Hid (LgM lb lb ⟨g.cs, g.us, g.fs ++ [k]⟩ (.slice ca g.cs.length cc) (.slice ua g.us.length uc) (.slice va (g.fs.length + 1) vc) (w5.setCell ⟨lb, 2, none⟩ (.slice va (g.fs.length + 1) vc))) := HT.2; have z1 := blkCell HT.1 2 _ rfl; have f1 := blkFree HT.1 2; have hl5 : lb < w5.heap.size := blkLt HT.1; have HB5 : Hid (Below lb W2 (w5.setCell ⟨lb, 2, none⟩ (.slice va (g.fs.length + 1) vc))) := (HB4.out.grown hgr (by have := blkLt HM4.out.box; omega) (fun q hq => (row_lt HM4.out.frow q hq).1)).setCell (Nat.le_refl _) _; clear HT hown hgr hat)
          first
          | exact ⟨⟨k + 1, _, _, _, by omega, by go_num, by rw [HE.out]; exact HT1.out, HB5.out⟩, by simp [intOf]; omega⟩
          | (go_roundw
             case rel => exact ⟨k + 1, _, _, _, by omega, by go_num, by rw [HE.out]; exact HT1.out, HB5.out⟩
             case measure => simp [intOf]; omega)
      · have hk3 : (e3 == 3) = false := by rcases h12 with h | h <;> rw [h] <;> rfl
        have hn3 : ¬ e3 = 3 := by omega
        have hCd := sCard_any ca cc g.cs (by omega) e4 Wb (row_cds HMb.out.crow)
        have hbase := HOk.out.base e4 (cdIx g.cs e4)
        have hlen := lgCs_len g.cs e4 (cdIx g.cs e4)
        have hp := lgPl_lt g.cs e4
        have HT0 : Hid (lgAt rs (k + 1) = lgRef k (if e3 = 1 then (true, ⟨(lgCs g.cs e4 (cdIx g.cs e4)).set (lgPl g.cs (cdIx g.cs e4)) (ldC ((lgCs g.cs e4 (cdIx g.cs e4)).getD (lgPl g.cs (cdIx g.cs e4)) zCd) e5), g.us, g.fs⟩) else if ((lgCs g.cs e4 (cdIx g.cs e4)).getD (lgPl g.cs (cdIx g.cs e4)) zCd).lf < e5 then (false, ⟨lgCs g.cs e4 (cdIx g.cs e4), g.us, g.fs⟩) else (true, ⟨(lgCs g.cs e4 (cdIx g.cs e4)).set (lgPl g.cs (cdIx g.cs e4)) (spC ((lgCs g.cs e4 (cdIx g.cs e4)).getD (lgPl g.cs (cdIx g.cs e4)) zCd) e5), g.us, g.fs⟩))) := by
          have h := HNx.out
          unfold lgTake at h
          rw [if_neg hn3] at h
          exact h
        have HIx : Hid (∀ j, cdIx g.cs e4 = some j → j < g.cs.length) := fun j h => cdIx_lt h
        clear HNx hn3
        go_wp2_with fail
        go_at_call 35
        rw [← hWb]
        refine hCd.mono ?_
        rintro e w3 ⟨rfl, h⟩
        rw [h]
        clear h w3 hCd hWb u0 u1
        obtain ⟨bb, hbbe⟩ : ∃ bb, bb = wr.heap.size := ⟨_, rfl⟩
        rw [← hbbe] at m3 m4 m5 hne hne' HXb hlN ⊢
        clear hbbe
        generalize cdIx g.cs e4 = o at *
        cases o with
        | some j =>
          have hfu : ixI (some j) = (j : Int) := rfl
          rw [hfu]
          have hj0 : ¬ ((j : Int) < 0) := by omega
          obtain ⟨cg, cn, hcq⟩ := row_some HMb.out.crow (Nat.lt_of_le_of_lt (Nat.zero_le _) (HIx.out j rfl))
          simp only [Value.slice.injEq, true_and] at hcq
          obtain ⟨rfl, rfl⟩ := hcq
          have HX2 : Hid (LgX lb lb g.cs (cdCells g.cs) g cg cc (.slice ua g.us.length uc) (.slice fa g.fs.length fc) Wb) := ⟨HMb.out.box, HMb.out.crow, HMb.out.urow, HMb.out.frow⟩
          have HBX2 : Hid (Wb.heap[bb]? = some (.cells #[.int .i64 e0, .int .i64 e1, .int .i64 e2, .int .i64 e3, .string e4, .int .i64 e5] 35 (0, 0))) := HXb.out
          have HB2 : Hid (Below lb W2 Wb) := HBb.out
          have hp2 : j < g.cs.length := hp
          have HT2 : Hid (lgAt rs (k + 1) = lgRef k (if e3 = 1 then (true, ⟨g.cs.set j (ldC (g.cs.getD j zCd) e5), g.us, g.fs⟩) else if (g.cs.getD j zCd).lf < e5 then (false, ⟨g.cs, g.us, g.fs⟩) else (true, ⟨g.cs.set j (spC (g.cs.getD j zCd) e5), g.us, g.fs⟩))) := HT0.out
          have hbase2 : ∀ c ∈ g.cs, 0 ≤ c.lf ∧ c.lf ≤ (k : Int) * 1000000 ∧ 0 ≤ c.ld ∧ c.ld ≤ (k : Int) * 1000000 ∧ 0 ≤ c.sp ∧ c.sp ≤ (k : Int) * 1000000 ∧ c.lf = c.ld - c.sp := hbase
          clear HMb HBb HXb HT0 hbase hp hlen hfu HIx
          have hc0 := getCd' hbase2 hp2
          obtain ⟨c0, hc0e⟩ : ∃ c0, c0 = g.cs.getD j zCd := ⟨_, rfl⟩
          rw [← hc0e] at hc0 HT2
          have HC0 : Hid (c0 = g.cs.getD j zCd) := hc0e
          obtain ⟨z1, z2, z3, z4, z5, z6, z7⟩ := hc0
          have HZ : Hid (c0.lf = c0.ld - c0.sp) := z7
          have hpi : (j : Int) < (g.cs.length : Int) := by omega
          have HG : Hid (∀ y, y < 4 → (cdCells g.cs)[j * 4 + y]? = (cdC c0)[y]?) := fun y hy => by rw [HC0.out]; exact cdCells_get g.cs j y hp2 hy
          have hwl : IntKind.i64.wrap (c0.ld + e5) = c0.ld + e5 := wrap_id _ (by omega) (by omega)
          have hws : IntKind.i64.wrap (c0.sp + e5) = c0.sp + e5 := wrap_id _ (by omega) (by omega)
          clear z7 hc0e hbase2
          by_cases h1 : e3 = 1
          · have hk1 : (e3 == 1) = true := by rw [h1]; rfl
            have HT : Hid (lgAt rs (k + 1) = ⟨g.cs.set j (ldC c0 e5), g.us, g.fs⟩) := by have h := HT2.out; rw [if_pos h1] at h; exact h
            clear HT2 h1
            go_wp2_with fail
            have HC2 : Hid (Wb.drew.cell? ⟨cg, j * 4 + 2, none⟩ = some (.int .i64 c0.ld) ∧ Wb.drew.cell? ⟨bb, 5, none⟩ = some (.int .i64 e5) ∧ Wb.drew.frozen? ⟨cg, j * 4 + 2, none⟩ = false ∧ Wb.drew.cell? ⟨lb, 0, none⟩ = some (.slice (some ⟨cg, 0, none⟩) g.cs.length cc)) := by
              have h := (HX2.out.drew (below_drew _)).cell (j * 4 + 2) (by omega) _ (HG.out 2 (by omega))
              exact ⟨h.1, blkCell HBX2.out 5 _ rfl, h.2, blkCell (HX2.out.drew (below_drew _)).box 0 _ rfl⟩
            have HN2 : Hid (∀ Wd, Wd = Wb.drew → LgX lb lb g.cs ((cdCells g.cs).set (j * 4 + 2) (.int .i64 (c0.ld + e5))) g cg cc (.slice ua g.us.length uc) (.slice fa g.fs.length fc) (Wd.setCell ⟨cg, j * 4 + 2, none⟩ (.int .i64 (c0.ld + e5))) ∧ (Wd.setCell ⟨cg, j * 4 + 2, none⟩ (.int .i64 (c0.ld + e5))).heap[bb]? = some (.cells #[.int .i64 e0, .int .i64 e1, .int .i64 e2, .int .i64 e3, .string e4, .int .i64 e5] 35 (0, 0)) ∧ Below lb W2 (Wd.setCell ⟨cg, j * 4 + 2, none⟩ (.int .i64 (c0.ld + e5)))) := fun Wd e => by
              subst e
              have h := HX2.out.drew (below_drew _)
              exact ⟨h.put _ (by omega) _, h.box5 HBX2.out _ _, (HB2.out.trans ((below_drew _).mono (Nat.le_of_lt (blkLt HX2.out.box)))).setCell (row_lt h.crow cg rfl).1 _⟩
            refine wp_region_z (S := fun W => W = Wb.drew) 11 (by kernel_rfl) rfl (fun hH => ?_)
            generalize Wb.drew = Wd at *
            refine wpAnyZ_take (i := 0) (v := .pointer (some ⟨lb, 0, none⟩)) rfl (by kernel_rfl) (by kernel_rfl) (by kernel_rfl) (by kernel_rfl) (fun _ _ _ h => h) (Or.inl ⟨by rfl, fun w hSw => by go_simp⟩) hH ?_
            refine wpAnyZ_take (i := 1) (v := .slice (some ⟨cg, 0, none⟩) g.cs.length cc) rfl (by kernel_rfl) (by kernel_rfl) (by kernel_rfl) (by kernel_rfl) (fun _ _ _ h => h) (Or.inl ⟨by rfl, fun w hSw => by have f0 := HC2.out.2.2.2; subst hSw; go_simp⟩) hH ?_
            try simp only [Act.put, List.setIfInBounds_toArray, List.set_cons_zero, List.set_cons_succ, List.getElem_toArray, List.getElem_cons_succ, List.getElem_cons_zero]
            refine wpAnyZ_take (i := 2) (v := .int .i64 (j : Int)) rfl (by kernel_rfl) (by kernel_rfl) (by kernel_rfl) (by kernel_rfl) (fun _ _ _ h => h) (Or.inl ⟨by rfl, fun w hSw => by go_simp⟩) hH ?_
            try simp only [Act.put, List.setIfInBounds_toArray, List.set_cons_zero, List.set_cons_succ, List.getElem_toArray, List.getElem_cons_succ, List.getElem_cons_zero]
            refine wpAnyZ_take (i := 3) (v := .pointer (some ⟨cg, j * 4, none⟩)) rfl (by kernel_rfl) (by kernel_rfl) (by kernel_rfl) (by kernel_rfl) (fun _ _ _ h => h) (Or.inl ⟨by rfl, fun w hSw => by have f0 := hpi; go_simp⟩) hH ?_
            try simp only [Act.put, List.setIfInBounds_toArray, List.set_cons_zero, List.set_cons_succ, List.getElem_toArray, List.getElem_cons_succ, List.getElem_cons_zero]
            refine wpAnyZ_take (i := 4) (v := .pointer (some ⟨cg, j * 4 + 2, none⟩)) rfl (by kernel_rfl) (by kernel_rfl) (by kernel_rfl) (by kernel_rfl) (fun _ _ _ h => h) (Or.inl ⟨by rfl, fun w hSw => by go_simp⟩) hH ?_
            try simp only [Act.put, List.setIfInBounds_toArray, List.set_cons_zero, List.set_cons_succ, List.getElem_toArray, List.getElem_cons_succ, List.getElem_cons_zero]
            refine wpAnyZ_take (i := 5) (v := .int .i64 c0.ld) rfl (by kernel_rfl) (by kernel_rfl) (by kernel_rfl) (by kernel_rfl) (fun _ _ _ h => h) (Or.inl ⟨by rfl, fun w hSw => by have f0 := HC2.out.1; subst hSw; go_simp⟩) hH ?_
            try simp only [Act.put, List.setIfInBounds_toArray, List.set_cons_zero, List.set_cons_succ, List.getElem_toArray, List.getElem_cons_succ, List.getElem_cons_zero]
            refine wpAnyZ_take (i := 6) (v := .pointer (some ⟨bb, 5, none⟩)) rfl (by kernel_rfl) (by kernel_rfl) (by kernel_rfl) (by kernel_rfl) (fun _ _ _ h => h) (Or.inl ⟨by rfl, fun w hSw => by go_simp⟩) hH ?_
            try simp only [Act.put, List.setIfInBounds_toArray, List.set_cons_zero, List.set_cons_succ, List.getElem_toArray, List.getElem_cons_succ, List.getElem_cons_zero]
            refine wpAnyZ_take (i := 7) (v := .int .i64 e5) rfl (by kernel_rfl) (by kernel_rfl) (by kernel_rfl) (by kernel_rfl) (fun _ _ _ h => h) (Or.inl ⟨by rfl, fun w hSw => by have f0 := HC2.out.2.1; subst hSw; go_simp⟩) hH ?_
            try simp only [Act.put, List.setIfInBounds_toArray, List.set_cons_zero, List.set_cons_succ, List.getElem_toArray, List.getElem_cons_succ, List.getElem_cons_zero]
            refine wpAnyZ_take (i := 8) (v := .int .i64 (c0.ld + e5)) rfl (by kernel_rfl) (by kernel_rfl) (by kernel_rfl) (by kernel_rfl) (fun _ _ _ h => h) (Or.inl ⟨by rfl, fun w hSw => by have f0 := hwl; go_simp⟩) hH ?_
            try simp only [Act.put, List.setIfInBounds_toArray, List.set_cons_zero, List.set_cons_succ, List.getElem_toArray, List.getElem_cons_succ, List.getElem_cons_zero]
            refine wpAnyZ_take (i := 9) (v := .pointer (some ⟨cg, j * 4, none⟩)) rfl (by kernel_rfl) (by kernel_rfl) (by kernel_rfl) (by kernel_rfl) (fun _ _ _ h => h) (Or.inl ⟨by rfl, fun w hSw => by have f0 := hpi; go_simp⟩) hH ?_
            try simp only [Act.put, List.setIfInBounds_toArray, List.set_cons_zero, List.set_cons_succ, List.getElem_toArray, List.getElem_cons_succ, List.getElem_cons_zero]
            refine wpAnyZ_take (i := 10) (v := .pointer (some ⟨cg, j * 4 + 2, none⟩)) rfl (by kernel_rfl) (by kernel_rfl) (by kernel_rfl) (by kernel_rfl) (fun _ _ _ h => h) (Or.inl ⟨by rfl, fun w hSw => by go_simp⟩) hH ?_
            try simp only [Act.put, List.setIfInBounds_toArray, List.set_cons_zero, List.set_cons_succ, List.getElem_toArray, List.getElem_cons_succ, List.getElem_cons_zero]
            refine wpAnyZ_ready (rs := [11]) (by kernel_rfl) (by simp) ?_
            refine AllReadyZ.cons rfl (fun K hK => ?_) AllReadyZ.nil
            obtain ⟨y0, y1, y2, y3⟩ := HC2.out
            go_simp
            refine hK.out _ _ (Or.inl rfl) (fun _ => ?_)
            clear hK K
            try simp only [Act.put, List.setIfInBounds_toArray, List.set_cons_zero, List.set_cons_succ, List.getElem_toArray, List.getElem_cons_succ, List.getElem_cons_zero]
            refine wpAnyZ_done (by kernel_rfl) ?_ _
            clear y0 y1 y2 y3 HC2 hH
            obtain ⟨hx3, hbx3, hB3⟩ := HN2.out _ rfl
            generalize Wd.setCell ⟨cg, j * 4 + 2, none⟩ (.int .i64 (c0.ld + e5)) = w3 at *
            have HX3 : Hid (LgX lb lb g.cs ((cdCells g.cs).set (j * 4 + 2) (.int .i64 (c0.ld + e5))) g cg cc (.slice ua g.us.length uc) (.slice fa g.fs.length fc) w3) := hx3
            have HBX3 : Hid (w3.heap[bb]? = some (.cells #[.int .i64 e0, .int .i64 e1, .int .i64 e2, .int .i64 e3, .string e4, .int .i64 e5] 35 (0, 0))) := hbx3
            have HB3 : Hid (Below lb W2 w3) := hB3
            clear hx3 hbx3 hB3 HN2 HX2 HBX2 HB2
            go_wp2_with fail
            obtain ⟨nlf, hnlf⟩ : ∃ nlf : Int, nlf = c0.lf + e5 := ⟨_, rfl⟩
            have hwn : IntKind.i64.wrap (c0.ld + e5 - c0.sp) = nlf := by rw [show c0.ld + e5 - c0.sp = nlf by have := HZ.out; omega]; exact wrap_id _ (by have := HZ.out; omega) (by have := HZ.out; omega)
            have HNl : Hid (nlf = c0.lf + e5) := hnlf
            clear hnlf
            have HC3 : Hid ((w3.drew.cell? ⟨cg, j * 4 + 2, none⟩ = some (.int .i64 (c0.ld + e5)) ∧ w3.drew.cell? ⟨cg, j * 4 + 3, none⟩ = some (.int .i64 (c0.sp))) ∧ (∃ v, w3.drew.cell? ⟨cg, j * 4 + 1, none⟩ = some v) ∧ w3.drew.frozen? ⟨cg, j * 4 + 1, none⟩ = false ∧ w3.drew.cell? ⟨lb, 0, none⟩ = some (.slice (some ⟨cg, 0, none⟩) g.cs.length cc)) := by
              have h := HX3.out.drew (below_drew _)
              have h1 := h.cell (j * 4 + 1) (by omega) _ (by rw [List.getElem?_set, if_neg (by omega)]; exact HG.out 1 (by omega))
              exact ⟨⟨(h.cell (j * 4 + 2) (by omega) _ (by rw [List.getElem?_set, if_pos rfl, if_pos (by rw [cdCells_len]; omega)])).1, (h.cell (j * 4 + 3) (by omega) _ (by rw [List.getElem?_set, if_neg (by omega)]; exact HG.out 3 (by omega))).1⟩, ⟨_, h1.1⟩, h1.2, blkCell h.box 0 _ rfl⟩
            have HN3 : Hid (∀ Wd, Wd = w3.drew → LgX lb lb g.cs (((cdCells g.cs).set (j * 4 + 2) (.int .i64 (c0.ld + e5))).set (j * 4 + 1) (.int .i64 (nlf))) g cg cc (.slice ua g.us.length uc) (.slice fa g.fs.length fc) (Wd.setCell ⟨cg, j * 4 + 1, none⟩ (.int .i64 (nlf))) ∧ (Wd.setCell ⟨cg, j * 4 + 1, none⟩ (.int .i64 (nlf))).heap[bb]? = some (.cells #[.int .i64 e0, .int .i64 e1, .int .i64 e2, .int .i64 e3, .string e4, .int .i64 e5] 35 (0, 0)) ∧ Below lb W2 (Wd.setCell ⟨cg, j * 4 + 1, none⟩ (.int .i64 (nlf)))) := fun Wd e => by
              subst e
              have h := HX3.out.drew (below_drew _)
              exact ⟨h.put _ (by omega) _, h.box5 HBX3.out _ _, (HB3.out.trans ((below_drew _).mono (Nat.le_of_lt (blkLt HX3.out.box)))).setCell (row_lt h.crow cg rfl).1 _⟩
            refine wp_region_z (S := fun W => W = w3.drew) 18 (by kernel_rfl) rfl (fun hH => ?_)
            generalize w3.drew = Wd at *
            refine wpAnyZ_take (i := 0) (v := .pointer (some ⟨lb, 0, none⟩)) rfl (by kernel_rfl) (by kernel_rfl) (by kernel_rfl) (by kernel_rfl) (fun _ _ _ h => h) (Or.inl ⟨by rfl, fun w hSw => by go_simp⟩) hH ?_
            refine wpAnyZ_take (i := 1) (v := .slice (some ⟨cg, 0, none⟩) g.cs.length cc) rfl (by kernel_rfl) (by kernel_rfl) (by kernel_rfl) (by kernel_rfl) (fun _ _ _ h => h) (Or.inl ⟨by rfl, fun w hSw => by have f0 := HC3.out.2.2.2; subst hSw; go_simp⟩) hH ?_
            try simp only [Act.put, List.setIfInBounds_toArray, List.set_cons_zero, List.set_cons_succ, List.getElem_toArray, List.getElem_cons_succ, List.getElem_cons_zero]
            refine wpAnyZ_take (i := 2) (v := .int .i64 (j : Int)) rfl (by kernel_rfl) (by kernel_rfl) (by kernel_rfl) (by kernel_rfl) (fun _ _ _ h => h) (Or.inl ⟨by rfl, fun w hSw => by go_simp⟩) hH ?_
            try simp only [Act.put, List.setIfInBounds_toArray, List.set_cons_zero, List.set_cons_succ, List.getElem_toArray, List.getElem_cons_succ, List.getElem_cons_zero]
            refine wpAnyZ_take (i := 3) (v := .pointer (some ⟨lb, 0, none⟩)) rfl (by kernel_rfl) (by kernel_rfl) (by kernel_rfl) (by kernel_rfl) (fun _ _ _ h => h) (Or.inl ⟨by rfl, fun w hSw => by go_simp⟩) hH ?_
            try simp only [Act.put, List.setIfInBounds_toArray, List.set_cons_zero, List.set_cons_succ, List.getElem_toArray, List.getElem_cons_succ, List.getElem_cons_zero]
            refine wpAnyZ_take (i := 4) (v := .slice (some ⟨cg, 0, none⟩) g.cs.length cc) rfl (by kernel_rfl) (by kernel_rfl) (by kernel_rfl) (by kernel_rfl) (fun _ _ _ h => h) (Or.inl ⟨by rfl, fun w hSw => by have f0 := HC3.out.2.2.2; subst hSw; go_simp⟩) hH ?_
            try simp only [Act.put, List.setIfInBounds_toArray, List.set_cons_zero, List.set_cons_succ, List.getElem_toArray, List.getElem_cons_succ, List.getElem_cons_zero]
            refine wpAnyZ_take (i := 5) (v := .int .i64 (j : Int)) rfl (by kernel_rfl) (by kernel_rfl) (by kernel_rfl) (by kernel_rfl) (fun _ _ _ h => h) (Or.inl ⟨by rfl, fun w hSw => by go_simp⟩) hH ?_
            try simp only [Act.put, List.setIfInBounds_toArray, List.set_cons_zero, List.set_cons_succ, List.getElem_toArray, List.getElem_cons_succ, List.getElem_cons_zero]
            refine wpAnyZ_take (i := 6) (v := .pointer (some ⟨cg, j * 4, none⟩)) rfl (by kernel_rfl) (by kernel_rfl) (by kernel_rfl) (by kernel_rfl) (fun _ _ _ h => h) (Or.inl ⟨by rfl, fun w hSw => by have f0 := hpi; go_simp⟩) hH ?_
            try simp only [Act.put, List.setIfInBounds_toArray, List.set_cons_zero, List.set_cons_succ, List.getElem_toArray, List.getElem_cons_succ, List.getElem_cons_zero]
            refine wpAnyZ_take (i := 7) (v := .pointer (some ⟨cg, j * 4 + 2, none⟩)) rfl (by kernel_rfl) (by kernel_rfl) (by kernel_rfl) (by kernel_rfl) (fun _ _ _ h => h) (Or.inl ⟨by rfl, fun w hSw => by go_simp⟩) hH ?_
            try simp only [Act.put, List.setIfInBounds_toArray, List.set_cons_zero, List.set_cons_succ, List.getElem_toArray, List.getElem_cons_succ, List.getElem_cons_zero]
            refine wpAnyZ_take (i := 8) (v := .int .i64 (c0.ld + e5)) rfl (by kernel_rfl) (by kernel_rfl) (by kernel_rfl) (by kernel_rfl) (fun _ _ _ h => h) (Or.inl ⟨by rfl, fun w hSw => by have f0 := HC3.out.1.1; subst hSw; go_simp⟩) hH ?_
            try simp only [Act.put, List.setIfInBounds_toArray, List.set_cons_zero, List.set_cons_succ, List.getElem_toArray, List.getElem_cons_succ, List.getElem_cons_zero]
            refine wpAnyZ_take (i := 9) (v := .pointer (some ⟨lb, 0, none⟩)) rfl (by kernel_rfl) (by kernel_rfl) (by kernel_rfl) (by kernel_rfl) (fun _ _ _ h => h) (Or.inl ⟨by rfl, fun w hSw => by go_simp⟩) hH ?_
            try simp only [Act.put, List.setIfInBounds_toArray, List.set_cons_zero, List.set_cons_succ, List.getElem_toArray, List.getElem_cons_succ, List.getElem_cons_zero]
            refine wpAnyZ_take (i := 10) (v := .slice (some ⟨cg, 0, none⟩) g.cs.length cc) rfl (by kernel_rfl) (by kernel_rfl) (by kernel_rfl) (by kernel_rfl) (fun _ _ _ h => h) (Or.inl ⟨by rfl, fun w hSw => by have f0 := HC3.out.2.2.2; subst hSw; go_simp⟩) hH ?_
            try simp only [Act.put, List.setIfInBounds_toArray, List.set_cons_zero, List.set_cons_succ, List.getElem_toArray, List.getElem_cons_succ, List.getElem_cons_zero]
            refine wpAnyZ_take (i := 11) (v := .int .i64 (j : Int)) rfl (by kernel_rfl) (by kernel_rfl) (by kernel_rfl) (by kernel_rfl) (fun _ _ _ h => h) (Or.inl ⟨by rfl, fun w hSw => by go_simp⟩) hH ?_
            try simp only [Act.put, List.setIfInBounds_toArray, List.set_cons_zero, List.set_cons_succ, List.getElem_toArray, List.getElem_cons_succ, List.getElem_cons_zero]
            refine wpAnyZ_take (i := 12) (v := .pointer (some ⟨cg, j * 4, none⟩)) rfl (by kernel_rfl) (by kernel_rfl) (by kernel_rfl) (by kernel_rfl) (fun _ _ _ h => h) (Or.inl ⟨by rfl, fun w hSw => by have f0 := hpi; go_simp⟩) hH ?_
            try simp only [Act.put, List.setIfInBounds_toArray, List.set_cons_zero, List.set_cons_succ, List.getElem_toArray, List.getElem_cons_succ, List.getElem_cons_zero]
            refine wpAnyZ_take (i := 13) (v := .pointer (some ⟨cg, j * 4 + 3, none⟩)) rfl (by kernel_rfl) (by kernel_rfl) (by kernel_rfl) (by kernel_rfl) (fun _ _ _ h => h) (Or.inl ⟨by rfl, fun w hSw => by go_simp⟩) hH ?_
            try simp only [Act.put, List.setIfInBounds_toArray, List.set_cons_zero, List.set_cons_succ, List.getElem_toArray, List.getElem_cons_succ, List.getElem_cons_zero]
            refine wpAnyZ_take (i := 14) (v := .int .i64 (c0.sp)) rfl (by kernel_rfl) (by kernel_rfl) (by kernel_rfl) (by kernel_rfl) (fun _ _ _ h => h) (Or.inl ⟨by rfl, fun w hSw => by have f0 := HC3.out.1.2; subst hSw; go_simp⟩) hH ?_
            try simp only [Act.put, List.setIfInBounds_toArray, List.set_cons_zero, List.set_cons_succ, List.getElem_toArray, List.getElem_cons_succ, List.getElem_cons_zero]
            refine wpAnyZ_take (i := 15) (v := .int .i64 nlf) rfl (by kernel_rfl) (by kernel_rfl) (by kernel_rfl) (by kernel_rfl) (fun _ _ _ h => h) (Or.inl ⟨by rfl, fun w hSw => by have f0 := hwn; go_simp⟩) hH ?_
            try simp only [Act.put, List.setIfInBounds_toArray, List.set_cons_zero, List.set_cons_succ, List.getElem_toArray, List.getElem_cons_succ, List.getElem_cons_zero]
            refine wpAnyZ_take (i := 16) (v := .pointer (some ⟨cg, j * 4, none⟩)) rfl (by kernel_rfl) (by kernel_rfl) (by kernel_rfl) (by kernel_rfl) (fun _ _ _ h => h) (Or.inl ⟨by rfl, fun w hSw => by have f0 := hpi; go_simp⟩) hH ?_
            try simp only [Act.put, List.setIfInBounds_toArray, List.set_cons_zero, List.set_cons_succ, List.getElem_toArray, List.getElem_cons_succ, List.getElem_cons_zero]
            refine wpAnyZ_take (i := 17) (v := .pointer (some ⟨cg, j * 4 + 1, none⟩)) rfl (by kernel_rfl) (by kernel_rfl) (by kernel_rfl) (by kernel_rfl) (fun _ _ _ h => h) (Or.inl ⟨by rfl, fun w hSw => by go_simp⟩) hH ?_
            try simp only [Act.put, List.setIfInBounds_toArray, List.set_cons_zero, List.set_cons_succ, List.getElem_toArray, List.getElem_cons_succ, List.getElem_cons_zero]
            refine wpAnyZ_ready (rs := [18]) (by kernel_rfl) (by simp) ?_
            refine AllReadyZ.cons rfl (fun K hK => ?_) AllReadyZ.nil
            obtain ⟨y0, ⟨v1, y1⟩, y2, y3⟩ := HC3.out
            go_simp
            refine hK.out _ _ (Or.inl rfl) (fun _ => ?_)
            clear hK K
            try simp only [Act.put, List.setIfInBounds_toArray, List.set_cons_zero, List.set_cons_succ, List.getElem_toArray, List.getElem_cons_succ, List.getElem_cons_zero]
            refine wpAnyZ_done (by kernel_rfl) ?_ _
            clear y0 y1 y2 y3 HC3 hH
            obtain ⟨hx4, hbx4, hB4⟩ := HN3.out _ rfl
            generalize Wd.setCell ⟨cg, j * 4 + 1, none⟩ (.int .i64 (nlf)) = w4 at *
            have HX4 : Hid (LgX lb lb g.cs (((cdCells g.cs).set (j * 4 + 2) (.int .i64 (c0.ld + e5))).set (j * 4 + 1) (.int .i64 (nlf))) g cg cc (.slice ua g.us.length uc) (.slice fa g.fs.length fc) w4) := hx4
            have HBX4 : Hid (w4.heap[bb]? = some (.cells #[.int .i64 e0, .int .i64 e1, .int .i64 e2, .int .i64 e3, .string e4, .int .i64 e5] 35 (0, 0))) := hbx4
            have HB4 : Hid (Below lb W2 w4) := hB4
            clear hx4 hbx4 hB4 HN3 HX3 HBX3 HB3
            have HE : Hid (LgM lb lb ⟨g.cs.set j (ldC c0 e5), g.us, g.fs⟩ (.slice (some ⟨cg, 0, none⟩) g.cs.length cc) (.slice ua g.us.length uc) (.slice fa g.fs.length fc) w4) := HX4.out.done (by rw [HNl.out, HC0.out]; exact cells_ld g.cs j hp2 e5) (by rw [List.length_set])
            clear HX4 HBX4
            go_wp2
            first
            | exact ⟨⟨k + 1, _, _, _, by omega, by go_num, by rw [HT.out]; exact HE.out, HB4.out⟩, by simp [intOf]; omega⟩
            | (go_roundw
               case rel => exact ⟨k + 1, _, _, _, by omega, by go_num, by rw [HT.out]; exact HE.out, HB4.out⟩
               case measure => simp [intOf]; omega)
          · have hk1 : (e3 == 1) = false := by simpa using h1
            have HTf : Hid (c0.lf < e5 → lgAt rs (k + 1) = ⟨g.cs, g.us, g.fs ++ [k]⟩) := fun hh => by have h := HT2.out; rw [if_neg h1, if_pos hh] at h; exact h
            have HTt : Hid (e5 ≤ c0.lf → lgAt rs (k + 1) = ⟨g.cs.set j (spC c0 e5), g.us, g.fs⟩) := fun hh => by have h := HT2.out; rw [if_neg h1, if_neg (by omega)] at h; exact h
            clear HT2 h1
            go_wp2_with fail
            have HRd : Hid (∀ W, Below Wb.heap.size Wb W → W.cell? ⟨cg, j * 4 + 1, none⟩ = some (.int .i64 c0.lf) ∧ W.cell? ⟨bb, 5, none⟩ = some (.int .i64 e5) ∧ W.cell? ⟨lb, 0, none⟩ = some (.slice (some ⟨cg, 0, none⟩) g.cs.length cc)) := fun W h => by
              exact ⟨((HX2.out.drew h).cell (j * 4 + 1) (by omega) _ (HG.out 1 (by omega))).1, blkCell ((h.block _ (blkLt HBX2.out)).trans HBX2.out) 5 _ rfl, blkCell (HX2.out.drew h).box 0 _ rfl⟩
            refine wp_region_held_drew (S := fun W => Below Wb.heap.size Wb W) (by kernel_rfl) (below_drew _) (fun hH => ?_)
            refine wpAnyH_take (i := 0) (v := .pointer (some ⟨bb, 5, none⟩)) rfl (by kernel_rfl) (by kernel_rfl) (by kernel_rfl) (fun _ _ _ h => h) (Or.inl ⟨by rfl, fun w hSw => by go_simp⟩) hH ?_
            refine wpAnyH_take (i := 1) (v := .int .i64 e5) rfl (by kernel_rfl) (by kernel_rfl) (by kernel_rfl) (fun _ _ _ h => h) (Or.inl ⟨by rfl, fun w hSw => by have f0 := (HRd.out w hSw).2.1; go_simp⟩) hH ?_
            try simp only [Act.put, List.setIfInBounds_toArray, List.set_cons_zero, List.set_cons_succ, List.getElem_toArray, List.getElem_cons_succ, List.getElem_cons_zero]
            refine wpAnyH_take (i := 2) (v := .pointer (some ⟨lb, 0, none⟩)) rfl (by kernel_rfl) (by kernel_rfl) (by kernel_rfl) (fun _ _ _ h => h) (Or.inl ⟨by rfl, fun w hSw => by go_simp⟩) hH ?_
            try simp only [Act.put, List.setIfInBounds_toArray, List.set_cons_zero, List.set_cons_succ, List.getElem_toArray, List.getElem_cons_succ, List.getElem_cons_zero]
            refine wpAnyH_take (i := 3) (v := .slice (some ⟨cg, 0, none⟩) g.cs.length cc) rfl (by kernel_rfl) (by kernel_rfl) (by kernel_rfl) (fun _ _ _ h => h) (Or.inl ⟨by rfl, fun w hSw => by have f0 := (HRd.out w hSw).2.2; go_simp⟩) hH ?_
            try simp only [Act.put, List.setIfInBounds_toArray, List.set_cons_zero, List.set_cons_succ, List.getElem_toArray, List.getElem_cons_succ, List.getElem_cons_zero]
            refine wpAnyH_take (i := 4) (v := .int .i64 (j : Int)) rfl (by kernel_rfl) (by kernel_rfl) (by kernel_rfl) (fun _ _ _ h => h) (Or.inl ⟨by rfl, fun w hSw => by go_simp⟩) hH ?_
            try simp only [Act.put, List.setIfInBounds_toArray, List.set_cons_zero, List.set_cons_succ, List.getElem_toArray, List.getElem_cons_succ, List.getElem_cons_zero]
            refine wpAnyH_take (i := 5) (v := .pointer (some ⟨cg, j * 4, none⟩)) rfl (by kernel_rfl) (by kernel_rfl) (by kernel_rfl) (fun _ _ _ h => h) (Or.inl ⟨by rfl, fun w hSw => by have f0 := hpi; go_simp⟩) hH ?_
            try simp only [Act.put, List.setIfInBounds_toArray, List.set_cons_zero, List.set_cons_succ, List.getElem_toArray, List.getElem_cons_succ, List.getElem_cons_zero]
            refine wpAnyH_take (i := 6) (v := .pointer (some ⟨cg, j * 4 + 1, none⟩)) rfl (by kernel_rfl) (by kernel_rfl) (by kernel_rfl) (fun _ _ _ h => h) (Or.inl ⟨by rfl, fun w hSw => by go_simp⟩) hH ?_
            try simp only [Act.put, List.setIfInBounds_toArray, List.set_cons_zero, List.set_cons_succ, List.getElem_toArray, List.getElem_cons_succ, List.getElem_cons_zero]
            refine wpAnyH_take (i := 7) (v := .int .i64 c0.lf) rfl (by kernel_rfl) (by kernel_rfl) (by kernel_rfl) (fun _ _ _ h => h) (Or.inl ⟨by rfl, fun w hSw => by have f0 := (HRd.out w hSw).1; go_simp⟩) hH ?_
            try simp only [Act.put, List.setIfInBounds_toArray, List.set_cons_zero, List.set_cons_succ, List.getElem_toArray, List.getElem_cons_succ, List.getElem_cons_zero]
            refine wpAnyH_take (i := 8) (v := .bool (decide (c0.lf < e5))) rfl (by kernel_rfl) (by kernel_rfl) (by kernel_rfl) (fun _ _ _ h => h) (Or.inl ⟨by rfl, fun w hSw => by go_simp⟩) hH ?_
            try simp only [Act.put, List.setIfInBounds_toArray, List.set_cons_zero, List.set_cons_succ, List.getElem_toArray, List.getElem_cons_succ, List.getElem_cons_zero]
            refine wpAnyH_done (by kernel_rfl) ?_ _
            have HX5 : Hid (LgX lb lb g.cs (cdCells g.cs) g cg cc (.slice ua g.us.length uc) (.slice fa g.fs.length fc) Wb.drew) := HX2.out.drew (below_drew _)
            have HBX5 : Hid (Wb.drew.heap[bb]? = some (.cells #[.int .i64 e0, .int .i64 e1, .int .i64 e2, .int .i64 e3, .string e4, .int .i64 e5] 35 (0, 0))) := HBX2.out
            have HB5 : Hid (Below lb W2 Wb.drew) := HB2.out.trans ((below_drew _).mono (Nat.le_of_lt (blkLt HX2.out.box)))
            clear HX2 HBX2 HB2 HRd hH
            generalize Wb.drew = w5 at *
            by_cases hlf : c0.lf < e5
            · have hd : decide (c0.lf < e5) = true := decide_eq_true hlf
              have HT3 : Hid (lgAt rs (k + 1) = ⟨g.cs, g.us, g.fs ++ [k]⟩) := HTf.out hlf
              have HM5 : Hid (LgM lb lb ⟨g.cs, g.us, g.fs⟩ (.slice (some ⟨cg, 0, none⟩) g.cs.length cc) (.slice ua g.us.length uc) (.slice fa g.fs.length fc) w5) := HX5.out.done rfl rfl
              clear HTf HTt
              have HM4 : Hid (LgM lb lb ⟨g.cs, g.us, g.fs⟩ (.slice (some ⟨cg, 0, none⟩) g.cs.length cc) (.slice ua g.us.length uc) (.slice fa g.fs.length fc) (w5.alloc (Obj.cells #[.int .i64 (k : Int)] 3))) := HM5.out.later (below_alloc _ _)
              have HB4 : Hid (Below lb W2 (w5.alloc (Obj.cells #[.int .i64 (k : Int)] 3))) := HB5.out.trans ((below_alloc _ _).mono (Nat.le_of_lt (blkLt HM5.out.box)))
              have HBX6 : Hid ((w5.alloc (Obj.cells #[.int .i64 (k : Int)] 3)).heap[bb]? = some (.cells #[.int .i64 e0, .int .i64 e1, .int .i64 e2, .int .i64 e3, .string e4, .int .i64 e5] 35 (0, 0))) := ((below_alloc w5 _).block bb (blkLt HBX5.out)).trans HBX5.out
              have hB4 : lb ≤ (w5.alloc (Obj.cells #[.int .i64 (k : Int)] 3)).heap.size := by have := blkLt HM4.out.box; omega
              have y2 : w5.cell? ⟨lb, 2, none⟩ = some (.slice fa g.fs.length fc) := blkCell HM5.out.box 2 _ rfl
              have hlF : lb < w5.heap.size := blkLt HM5.out.box
              clear HX5 HBX5
              go_wp2_with (at_builtin; refine wpList_append_any rfl _ _ 29 rfl lb 3 i0 (.int .i64 0) 1 8 Try.underlying29 hi hi0 hi1 hi2 rfl (by decide) _ _ _ rfl HM4.out.frow (some ⟨w5.heap.size, 0, none⟩) 1 1 [nVl k] rfl rfl (fun _ => ⟨_, rfl, newsOne w5 _ _⟩) (by intro u hu; simp at hu; subst hu; rfl) (by unfold maxLen; dsimp only; omega) (by dsimp only; omega) hB4 ?_; intro ra rc w6 hown hgr hat; have HT := HM4.out.addF hown hgr; have HT1 : Hid (LgM lb lb ⟨g.cs, g.us, g.fs ++ [k]⟩ (.slice (some ⟨cg, 0, none⟩) g.cs.length cc) (.slice ua g.us.length uc) (.slice ra (g.fs.length + 1) rc) (w6.setCell ⟨lb, 2, none⟩ (.slice ra (g.fs.length + 1) rc))) := HT.2; have z1 := blkCell HT.1 2 _ rfl; have f1 := blkFree HT.1 2; have hl6 : lb < w6.heap.size := blkLt HT.1; have HBX7 : Hid (w6.heap[bb]? = some (.cells #[.int .i64 e0, .int .i64 e1, .int .i64 e2, .int .i64 e3, .string e4, .int .i64 e5] 35 (0, 0))) := ((fr_grown hgr).block bb (blkLt HBX6.out) (fun e => row_ne HM4.out.frow HBX6.out (by decide) e rfl)).trans HBX6.out; have HB6 : Hid (Below lb W2 (w6.setCell ⟨lb, 2, none⟩ (.slice ra (g.fs.length + 1) rc))) := (HB4.out.grown hgr hB4 (fun q hq => (row_lt HM4.out.frow q hq).1)).setCell (Nat.le_refl _) _; clear HT hown hgr hat)
              have HX8 : Hid (LgX lb lb g.cs (cdCells g.cs) ⟨g.cs, g.us, g.fs ++ [k]⟩ cg cc (.slice ua g.us.length uc) (.slice ra (g.fs.length + 1) rc) (w6.setCell ⟨lb, 2, none⟩ (.slice ra (g.fs.length + 1) rc))) := ⟨HT1.out.box, HT1.out.crow, HT1.out.urow, HT1.out.frow⟩
              have HBX8 : Hid ((w6.setCell ⟨lb, 2, none⟩ (.slice ra (g.fs.length + 1) rc)).heap[bb]? = some (.cells #[.int .i64 e0, .int .i64 e1, .int .i64 e2, .int .i64 e3, .string e4, .int .i64 e5] 35 (0, 0))) := (Below.heap_setCell _ _ _ _ hne).trans HBX7.out
              have HB8 : Hid (Below lb W2 (w6.setCell ⟨lb, 2, none⟩ (.slice ra (g.fs.length + 1) rc))) := HB6.out
              clear HT1 HBX7 HB6 z1 f1 hl6 HM4 HB4 HM5 HB5 HBX6
              generalize w6.setCell ⟨lb, 2, none⟩ (.slice ra (g.fs.length + 1) rc) = w8 at *
              obtain ⟨nlf, hnlf⟩ : ∃ nlf : Int, nlf = c0.lf := ⟨_, rfl⟩
              have hwn : IntKind.i64.wrap (c0.ld - c0.sp) = nlf := by rw [show c0.ld - c0.sp = nlf by have := HZ.out; omega]; exact wrap_id _ (by have := HZ.out; omega) (by have := HZ.out; omega)
              have HNl : Hid (nlf = c0.lf) := hnlf
              clear hnlf
              have HC8 : Hid ((w8.drew.cell? ⟨cg, j * 4 + 2, none⟩ = some (.int .i64 (c0.ld)) ∧ w8.drew.cell? ⟨cg, j * 4 + 3, none⟩ = some (.int .i64 (c0.sp))) ∧ (∃ v, w8.drew.cell? ⟨cg, j * 4 + 1, none⟩ = some v) ∧ w8.drew.frozen? ⟨cg, j * 4 + 1, none⟩ = false ∧ w8.drew.cell? ⟨lb, 0, none⟩ = some (.slice (some ⟨cg, 0, none⟩) g.cs.length cc)) := by
                have h := HX8.out.drew (below_drew _)
                have h1 := h.cell (j * 4 + 1) (by omega) _ (HG.out 1 (by omega))
                exact ⟨⟨(h.cell (j * 4 + 2) (by omega) _ (HG.out 2 (by omega))).1, (h.cell (j * 4 + 3) (by omega) _ (HG.out 3 (by omega))).1⟩, ⟨_, h1.1⟩, h1.2, blkCell h.box 0 _ rfl⟩
              have HN8 : Hid (∀ Wd, Wd = w8.drew → LgX lb lb g.cs ((cdCells g.cs).set (j * 4 + 1) (.int .i64 (nlf))) ⟨g.cs, g.us, g.fs ++ [k]⟩ cg cc (.slice ua g.us.length uc) (.slice ra (g.fs.length + 1) rc) (Wd.setCell ⟨cg, j * 4 + 1, none⟩ (.int .i64 (nlf))) ∧ (Wd.setCell ⟨cg, j * 4 + 1, none⟩ (.int .i64 (nlf))).heap[bb]? = some (.cells #[.int .i64 e0, .int .i64 e1, .int .i64 e2, .int .i64 e3, .string e4, .int .i64 e5] 35 (0, 0)) ∧ Below lb W2 (Wd.setCell ⟨cg, j * 4 + 1, none⟩ (.int .i64 (nlf)))) := fun Wd e => by
                subst e
                have h := HX8.out.drew (below_drew _)
                exact ⟨h.put _ (by omega) _, h.box5 HBX8.out _ _, (HB8.out.trans ((below_drew _).mono (Nat.le_of_lt (blkLt HX8.out.box)))).setCell (row_lt h.crow cg rfl).1 _⟩
              refine wp_region_z (S := fun W => W = w8.drew) 18 (by kernel_rfl) rfl (fun hH => ?_)
              generalize w8.drew = Wd at *
              refine wpAnyZ_take (i := 0) (v := .pointer (some ⟨lb, 0, none⟩)) rfl (by kernel_rfl) (by kernel_rfl) (by kernel_rfl) (by kernel_rfl) (fun _ _ _ h => h) (Or.inl ⟨by rfl, fun w hSw => by go_simp⟩) hH ?_
              refine wpAnyZ_take (i := 1) (v := .slice (some ⟨cg, 0, none⟩) g.cs.length cc) rfl (by kernel_rfl) (by kernel_rfl) (by kernel_rfl) (by kernel_rfl) (fun _ _ _ h => h) (Or.inl ⟨by rfl, fun w hSw => by have f0 := HC8.out.2.2.2; subst hSw; go_simp⟩) hH ?_
              try simp only [Act.put, List.setIfInBounds_toArray, List.set_cons_zero, List.set_cons_succ, List.getElem_toArray, List.getElem_cons_succ, List.getElem_cons_zero]
              refine wpAnyZ_take (i := 2) (v := .int .i64 (j : Int)) rfl (by kernel_rfl) (by kernel_rfl) (by kernel_rfl) (by kernel_rfl) (fun _ _ _ h => h) (Or.inl ⟨by rfl, fun w hSw => by go_simp⟩) hH ?_
              try simp only [Act.put, List.setIfInBounds_toArray, List.set_cons_zero, List.set_cons_succ, List.getElem_toArray, List.getElem_cons_succ, List.getElem_cons_zero]
              refine wpAnyZ_take (i := 3) (v := .pointer (some ⟨lb, 0, none⟩)) rfl (by kernel_rfl) (by kernel_rfl) (by kernel_rfl) (by kernel_rfl) (fun _ _ _ h => h) (Or.inl ⟨by rfl, fun w hSw => by go_simp⟩) hH ?_
              try simp only [Act.put, List.setIfInBounds_toArray, List.set_cons_zero, List.set_cons_succ, List.getElem_toArray, List.getElem_cons_succ, List.getElem_cons_zero]
              refine wpAnyZ_take (i := 4) (v := .slice (some ⟨cg, 0, none⟩) g.cs.length cc) rfl (by kernel_rfl) (by kernel_rfl) (by kernel_rfl) (by kernel_rfl) (fun _ _ _ h => h) (Or.inl ⟨by rfl, fun w hSw => by have f0 := HC8.out.2.2.2; subst hSw; go_simp⟩) hH ?_
              try simp only [Act.put, List.setIfInBounds_toArray, List.set_cons_zero, List.set_cons_succ, List.getElem_toArray, List.getElem_cons_succ, List.getElem_cons_zero]
              refine wpAnyZ_take (i := 5) (v := .int .i64 (j : Int)) rfl (by kernel_rfl) (by kernel_rfl) (by kernel_rfl) (by kernel_rfl) (fun _ _ _ h => h) (Or.inl ⟨by rfl, fun w hSw => by go_simp⟩) hH ?_
              try simp only [Act.put, List.setIfInBounds_toArray, List.set_cons_zero, List.set_cons_succ, List.getElem_toArray, List.getElem_cons_succ, List.getElem_cons_zero]
              refine wpAnyZ_take (i := 6) (v := .pointer (some ⟨cg, j * 4, none⟩)) rfl (by kernel_rfl) (by kernel_rfl) (by kernel_rfl) (by kernel_rfl) (fun _ _ _ h => h) (Or.inl ⟨by rfl, fun w hSw => by have f0 := hpi; go_simp⟩) hH ?_
              try simp only [Act.put, List.setIfInBounds_toArray, List.set_cons_zero, List.set_cons_succ, List.getElem_toArray, List.getElem_cons_succ, List.getElem_cons_zero]
              refine wpAnyZ_take (i := 7) (v := .pointer (some ⟨cg, j * 4 + 2, none⟩)) rfl (by kernel_rfl) (by kernel_rfl) (by kernel_rfl) (by kernel_rfl) (fun _ _ _ h => h) (Or.inl ⟨by rfl, fun w hSw => by go_simp⟩) hH ?_
              try simp only [Act.put, List.setIfInBounds_toArray, List.set_cons_zero, List.set_cons_succ, List.getElem_toArray, List.getElem_cons_succ, List.getElem_cons_zero]
              refine wpAnyZ_take (i := 8) (v := .int .i64 (c0.ld)) rfl (by kernel_rfl) (by kernel_rfl) (by kernel_rfl) (by kernel_rfl) (fun _ _ _ h => h) (Or.inl ⟨by rfl, fun w hSw => by have f0 := HC8.out.1.1; subst hSw; go_simp⟩) hH ?_
              try simp only [Act.put, List.setIfInBounds_toArray, List.set_cons_zero, List.set_cons_succ, List.getElem_toArray, List.getElem_cons_succ, List.getElem_cons_zero]
              refine wpAnyZ_take (i := 9) (v := .pointer (some ⟨lb, 0, none⟩)) rfl (by kernel_rfl) (by kernel_rfl) (by kernel_rfl) (by kernel_rfl) (fun _ _ _ h => h) (Or.inl ⟨by rfl, fun w hSw => by go_simp⟩) hH ?_
              try simp only [Act.put, List.setIfInBounds_toArray, List.set_cons_zero, List.set_cons_succ, List.getElem_toArray, List.getElem_cons_succ, List.getElem_cons_zero]
              refine wpAnyZ_take (i := 10) (v := .slice (some ⟨cg, 0, none⟩) g.cs.length cc) rfl (by kernel_rfl) (by kernel_rfl) (by kernel_rfl) (by kernel_rfl) (fun _ _ _ h => h) (Or.inl ⟨by rfl, fun w hSw => by have f0 := HC8.out.2.2.2; subst hSw; go_simp⟩) hH ?_
              try simp only [Act.put, List.setIfInBounds_toArray, List.set_cons_zero, List.set_cons_succ, List.getElem_toArray, List.getElem_cons_succ, List.getElem_cons_zero]
              refine wpAnyZ_take (i := 11) (v := .int .i64 (j : Int)) rfl (by kernel_rfl) (by kernel_rfl) (by kernel_rfl) (by kernel_rfl) (fun _ _ _ h => h) (Or.inl ⟨by rfl, fun w hSw => by go_simp⟩) hH ?_
              try simp only [Act.put, List.setIfInBounds_toArray, List.set_cons_zero, List.set_cons_succ, List.getElem_toArray, List.getElem_cons_succ, List.getElem_cons_zero]
              refine wpAnyZ_take (i := 12) (v := .pointer (some ⟨cg, j * 4, none⟩)) rfl (by kernel_rfl) (by kernel_rfl) (by kernel_rfl) (by kernel_rfl) (fun _ _ _ h => h) (Or.inl ⟨by rfl, fun w hSw => by have f0 := hpi; go_simp⟩) hH ?_
              try simp only [Act.put, List.setIfInBounds_toArray, List.set_cons_zero, List.set_cons_succ, List.getElem_toArray, List.getElem_cons_succ, List.getElem_cons_zero]
              refine wpAnyZ_take (i := 13) (v := .pointer (some ⟨cg, j * 4 + 3, none⟩)) rfl (by kernel_rfl) (by kernel_rfl) (by kernel_rfl) (by kernel_rfl) (fun _ _ _ h => h) (Or.inl ⟨by rfl, fun w hSw => by go_simp⟩) hH ?_
              try simp only [Act.put, List.setIfInBounds_toArray, List.set_cons_zero, List.set_cons_succ, List.getElem_toArray, List.getElem_cons_succ, List.getElem_cons_zero]
              refine wpAnyZ_take (i := 14) (v := .int .i64 (c0.sp)) rfl (by kernel_rfl) (by kernel_rfl) (by kernel_rfl) (by kernel_rfl) (fun _ _ _ h => h) (Or.inl ⟨by rfl, fun w hSw => by have f0 := HC8.out.1.2; subst hSw; go_simp⟩) hH ?_
              try simp only [Act.put, List.setIfInBounds_toArray, List.set_cons_zero, List.set_cons_succ, List.getElem_toArray, List.getElem_cons_succ, List.getElem_cons_zero]
              refine wpAnyZ_take (i := 15) (v := .int .i64 nlf) rfl (by kernel_rfl) (by kernel_rfl) (by kernel_rfl) (by kernel_rfl) (fun _ _ _ h => h) (Or.inl ⟨by rfl, fun w hSw => by have f0 := hwn; go_simp⟩) hH ?_
              try simp only [Act.put, List.setIfInBounds_toArray, List.set_cons_zero, List.set_cons_succ, List.getElem_toArray, List.getElem_cons_succ, List.getElem_cons_zero]
              refine wpAnyZ_take (i := 16) (v := .pointer (some ⟨cg, j * 4, none⟩)) rfl (by kernel_rfl) (by kernel_rfl) (by kernel_rfl) (by kernel_rfl) (fun _ _ _ h => h) (Or.inl ⟨by rfl, fun w hSw => by have f0 := hpi; go_simp⟩) hH ?_
              try simp only [Act.put, List.setIfInBounds_toArray, List.set_cons_zero, List.set_cons_succ, List.getElem_toArray, List.getElem_cons_succ, List.getElem_cons_zero]
              refine wpAnyZ_take (i := 17) (v := .pointer (some ⟨cg, j * 4 + 1, none⟩)) rfl (by kernel_rfl) (by kernel_rfl) (by kernel_rfl) (by kernel_rfl) (fun _ _ _ h => h) (Or.inl ⟨by rfl, fun w hSw => by go_simp⟩) hH ?_
              try simp only [Act.put, List.setIfInBounds_toArray, List.set_cons_zero, List.set_cons_succ, List.getElem_toArray, List.getElem_cons_succ, List.getElem_cons_zero]
              refine wpAnyZ_ready (rs := [18]) (by kernel_rfl) (by simp) ?_
              refine AllReadyZ.cons rfl (fun K hK => ?_) AllReadyZ.nil
              obtain ⟨y0, ⟨v1, y1⟩, y2, y3⟩ := HC8.out
              go_simp
              refine hK.out _ _ (Or.inl rfl) (fun _ => ?_)
              clear hK K
              try simp only [Act.put, List.setIfInBounds_toArray, List.set_cons_zero, List.set_cons_succ, List.getElem_toArray, List.getElem_cons_succ, List.getElem_cons_zero]
              refine wpAnyZ_done (by kernel_rfl) ?_ _
              clear y0 y1 y2 y3 HC8 hH
              obtain ⟨hx9, hbx9, hB9⟩ := HN8.out _ rfl
              generalize Wd.setCell ⟨cg, j * 4 + 1, none⟩ (.int .i64 (nlf)) = w9 at *
              have HX9 : Hid (LgX lb lb g.cs ((cdCells g.cs).set (j * 4 + 1) (.int .i64 (nlf))) ⟨g.cs, g.us, g.fs ++ [k]⟩ cg cc (.slice ua g.us.length uc) (.slice ra (g.fs.length + 1) rc) w9) := hx9
              have HBX9 : Hid (w9.heap[bb]? = some (.cells #[.int .i64 e0, .int .i64 e1, .int .i64 e2, .int .i64 e3, .string e4, .int .i64 e5] 35 (0, 0))) := hbx9
              have HB9 : Hid (Below lb W2 w9) := hB9
              clear hx9 hbx9 hB9 HN8 HX8 HBX8 HB8
              have HE : Hid (LgM lb lb ⟨g.cs, g.us, g.fs ++ [k]⟩ (.slice (some ⟨cg, 0, none⟩) g.cs.length cc) (.slice ua g.us.length uc) (.slice ra (g.fs.length + 1) rc) w9) := HX9.out.done (by rw [HNl.out, HC0.out]; exact cells_lf g.cs j hp2) rfl
              clear HX9 HBX9
              go_wp2
              first
              | exact ⟨⟨k + 1, _, _, _, by omega, by go_num, by rw [HT3.out]; exact HE.out, HB9.out⟩, by simp [intOf]; omega⟩
              | (go_roundw
                 case rel => exact ⟨k + 1, _, _, _, by omega, by go_num, by rw [HT3.out]; exact HE.out, HB9.out⟩
                 case measure => simp [intOf]; omega)
            · have hd : decide (c0.lf < e5) = false := decide_eq_false hlf
              have HT3 : Hid (lgAt rs (k + 1) = ⟨g.cs.set j (spC c0 e5), g.us, g.fs⟩) := HTt.out (by omega)
              clear HTf HTt
              go_wp2_with fail
              have HC5 : Hid (w5.drew.cell? ⟨cg, j * 4 + 3, none⟩ = some (.int .i64 c0.sp) ∧ w5.drew.cell? ⟨bb, 5, none⟩ = some (.int .i64 e5) ∧ w5.drew.frozen? ⟨cg, j * 4 + 3, none⟩ = false ∧ w5.drew.cell? ⟨lb, 0, none⟩ = some (.slice (some ⟨cg, 0, none⟩) g.cs.length cc)) := by
                have h := (HX5.out.drew (below_drew _)).cell (j * 4 + 3) (by omega) _ (HG.out 3 (by omega))
                exact ⟨h.1, blkCell HBX5.out 5 _ rfl, h.2, blkCell (HX5.out.drew (below_drew _)).box 0 _ rfl⟩
              have HN5 : Hid (∀ Wd, Wd = w5.drew → LgX lb lb g.cs ((cdCells g.cs).set (j * 4 + 3) (.int .i64 (c0.sp + e5))) g cg cc (.slice ua g.us.length uc) (.slice fa g.fs.length fc) (Wd.setCell ⟨cg, j * 4 + 3, none⟩ (.int .i64 (c0.sp + e5))) ∧ (Wd.setCell ⟨cg, j * 4 + 3, none⟩ (.int .i64 (c0.sp + e5))).heap[bb]? = some (.cells #[.int .i64 e0, .int .i64 e1, .int .i64 e2, .int .i64 e3, .string e4, .int .i64 e5] 35 (0, 0)) ∧ Below lb W2 (Wd.setCell ⟨cg, j * 4 + 3, none⟩ (.int .i64 (c0.sp + e5)))) := fun Wd e => by
                subst e
                have h := HX5.out.drew (below_drew _)
                exact ⟨h.put _ (by omega) _, h.box5 HBX5.out _ _, (HB5.out.trans ((below_drew _).mono (Nat.le_of_lt (blkLt HX5.out.box)))).setCell (row_lt h.crow cg rfl).1 _⟩
              refine wp_region_z (S := fun W => W = w5.drew) 11 (by kernel_rfl) rfl (fun hH => ?_)
              generalize w5.drew = Wd at *
              refine wpAnyZ_take (i := 0) (v := .pointer (some ⟨lb, 0, none⟩)) rfl (by kernel_rfl) (by kernel_rfl) (by kernel_rfl) (by kernel_rfl) (fun _ _ _ h => h) (Or.inl ⟨by rfl, fun w hSw => by go_simp⟩) hH ?_
              refine wpAnyZ_take (i := 1) (v := .slice (some ⟨cg, 0, none⟩) g.cs.length cc) rfl (by kernel_rfl) (by kernel_rfl) (by kernel_rfl) (by kernel_rfl) (fun _ _ _ h => h) (Or.inl ⟨by rfl, fun w hSw => by have f0 := HC5.out.2.2.2; subst hSw; go_simp⟩) hH ?_
              try simp only [Act.put, List.setIfInBounds_toArray, List.set_cons_zero, List.set_cons_succ, List.getElem_toArray, List.getElem_cons_succ, List.getElem_cons_zero]
              refine wpAnyZ_take (i := 2) (v := .int .i64 (j : Int)) rfl (by kernel_rfl) (by kernel_rfl) (by kernel_rfl) (by kernel_rfl) (fun _ _ _ h => h) (Or.inl ⟨by rfl, fun w hSw => by go_simp⟩) hH ?_
              try simp only [Act.put, List.setIfInBounds_toArray, List.set_cons_zero, List.set_cons_succ, List.getElem_toArray, List.getElem_cons_succ, List.getElem_cons_zero]
              refine wpAnyZ_take (i := 3) (v := .pointer (some ⟨cg, j * 4, none⟩)) rfl (by kernel_rfl) (by kernel_rfl) (by kernel_rfl) (by kernel_rfl) (fun _ _ _ h => h) (Or.inl ⟨by rfl, fun w hSw => by have f0 := hpi; go_simp⟩) hH ?_
              try simp only [Act.put, List.setIfInBounds_toArray, List.set_cons_zero, List.set_cons_succ, List.getElem_toArray, List.getElem_cons_succ, List.getElem_cons_zero]
              refine wpAnyZ_take (i := 4) (v := .pointer (some ⟨cg, j * 4 + 3, none⟩)) rfl (by kernel_rfl) (by kernel_rfl) (by kernel_rfl) (by kernel_rfl) (fun _ _ _ h => h) (Or.inl ⟨by rfl, fun w hSw => by go_simp⟩) hH ?_
              try simp only [Act.put, List.setIfInBounds_toArray, List.set_cons_zero, List.set_cons_succ, List.getElem_toArray, List.getElem_cons_succ, List.getElem_cons_zero]
              refine wpAnyZ_take (i := 5) (v := .int .i64 c0.sp) rfl (by kernel_rfl) (by kernel_rfl) (by kernel_rfl) (by kernel_rfl) (fun _ _ _ h => h) (Or.inl ⟨by rfl, fun w hSw => by have f0 := HC5.out.1; subst hSw; go_simp⟩) hH ?_
              try simp only [Act.put, List.setIfInBounds_toArray, List.set_cons_zero, List.set_cons_succ, List.getElem_toArray, List.getElem_cons_succ, List.getElem_cons_zero]
              refine wpAnyZ_take (i := 6) (v := .pointer (some ⟨bb, 5, none⟩)) rfl (by kernel_rfl) (by kernel_rfl) (by kernel_rfl) (by kernel_rfl) (fun _ _ _ h => h) (Or.inl ⟨by rfl, fun w hSw => by go_simp⟩) hH ?_
              try simp only [Act.put, List.setIfInBounds_toArray, List.set_cons_zero, List.set_cons_succ, List.getElem_toArray, List.getElem_cons_succ, List.getElem_cons_zero]
              refine wpAnyZ_take (i := 7) (v := .int .i64 e5) rfl (by kernel_rfl) (by kernel_rfl) (by kernel_rfl) (by kernel_rfl) (fun _ _ _ h => h) (Or.inl ⟨by rfl, fun w hSw => by have f0 := HC5.out.2.1; subst hSw; go_simp⟩) hH ?_
              try simp only [Act.put, List.setIfInBounds_toArray, List.set_cons_zero, List.set_cons_succ, List.getElem_toArray, List.getElem_cons_succ, List.getElem_cons_zero]
              refine wpAnyZ_take (i := 8) (v := .int .i64 (c0.sp + e5)) rfl (by kernel_rfl) (by kernel_rfl) (by kernel_rfl) (by kernel_rfl) (fun _ _ _ h => h) (Or.inl ⟨by rfl, fun w hSw => by have f0 := hws; go_simp⟩) hH ?_
              try simp only [Act.put, List.setIfInBounds_toArray, List.set_cons_zero, List.set_cons_succ, List.getElem_toArray, List.getElem_cons_succ, List.getElem_cons_zero]
              refine wpAnyZ_take (i := 9) (v := .pointer (some ⟨cg, j * 4, none⟩)) rfl (by kernel_rfl) (by kernel_rfl) (by kernel_rfl) (by kernel_rfl) (fun _ _ _ h => h) (Or.inl ⟨by rfl, fun w hSw => by have f0 := hpi; go_simp⟩) hH ?_
              try simp only [Act.put, List.setIfInBounds_toArray, List.set_cons_zero, List.set_cons_succ, List.getElem_toArray, List.getElem_cons_succ, List.getElem_cons_zero]
              refine wpAnyZ_take (i := 10) (v := .pointer (some ⟨cg, j * 4 + 3, none⟩)) rfl (by kernel_rfl) (by kernel_rfl) (by kernel_rfl) (by kernel_rfl) (fun _ _ _ h => h) (Or.inl ⟨by rfl, fun w hSw => by go_simp⟩) hH ?_
              try simp only [Act.put, List.setIfInBounds_toArray, List.set_cons_zero, List.set_cons_succ, List.getElem_toArray, List.getElem_cons_succ, List.getElem_cons_zero]
              refine wpAnyZ_ready (rs := [11]) (by kernel_rfl) (by simp) ?_
              refine AllReadyZ.cons rfl (fun K hK => ?_) AllReadyZ.nil
              obtain ⟨y0, y1, y2, y3⟩ := HC5.out
              go_simp
              refine hK.out _ _ (Or.inl rfl) (fun _ => ?_)
              clear hK K
              try simp only [Act.put, List.setIfInBounds_toArray, List.set_cons_zero, List.set_cons_succ, List.getElem_toArray, List.getElem_cons_succ, List.getElem_cons_zero]
              refine wpAnyZ_done (by kernel_rfl) ?_ _
              clear y0 y1 y2 y3 HC5 hH
              obtain ⟨hx6, hbx6, hB6⟩ := HN5.out _ rfl
              generalize Wd.setCell ⟨cg, j * 4 + 3, none⟩ (.int .i64 (c0.sp + e5)) = w6 at *
              have HX6 : Hid (LgX lb lb g.cs ((cdCells g.cs).set (j * 4 + 3) (.int .i64 (c0.sp + e5))) g cg cc (.slice ua g.us.length uc) (.slice fa g.fs.length fc) w6) := hx6
              have HBX6 : Hid (w6.heap[bb]? = some (.cells #[.int .i64 e0, .int .i64 e1, .int .i64 e2, .int .i64 e3, .string e4, .int .i64 e5] 35 (0, 0))) := hbx6
              have HB6 : Hid (Below lb W2 w6) := hB6
              clear hx6 hbx6 hB6 HN5 HX5 HBX5 HB5
              go_wp2_with fail
              obtain ⟨nlf, hnlf⟩ : ∃ nlf : Int, nlf = c0.lf - e5 := ⟨_, rfl⟩
              have hwn : IntKind.i64.wrap (c0.ld - (c0.sp + e5)) = nlf := by rw [show c0.ld - (c0.sp + e5) = nlf by have := HZ.out; omega]; exact wrap_id _ (by have := HZ.out; omega) (by have := HZ.out; omega)
              have HNl : Hid (nlf = c0.lf - e5) := hnlf
              clear hnlf
              have HC6 : Hid ((w6.drew.cell? ⟨cg, j * 4 + 2, none⟩ = some (.int .i64 (c0.ld)) ∧ w6.drew.cell? ⟨cg, j * 4 + 3, none⟩ = some (.int .i64 (c0.sp + e5))) ∧ (∃ v, w6.drew.cell? ⟨cg, j * 4 + 1, none⟩ = some v) ∧ w6.drew.frozen? ⟨cg, j * 4 + 1, none⟩ = false ∧ w6.drew.cell? ⟨lb, 0, none⟩ = some (.slice (some ⟨cg, 0, none⟩) g.cs.length cc)) := by
                have h := HX6.out.drew (below_drew _)
                have h1 := h.cell (j * 4 + 1) (by omega) _ (by rw [List.getElem?_set, if_neg (by omega)]; exact HG.out 1 (by omega))
                exact ⟨⟨(h.cell (j * 4 + 2) (by omega) _ (by rw [List.getElem?_set, if_neg (by omega)]; exact HG.out 2 (by omega))).1, (h.cell (j * 4 + 3) (by omega) _ (by rw [List.getElem?_set, if_pos rfl, if_pos (by rw [cdCells_len]; omega)])).1⟩, ⟨_, h1.1⟩, h1.2, blkCell h.box 0 _ rfl⟩
              have HN6 : Hid (∀ Wd, Wd = w6.drew → LgX lb lb g.cs (((cdCells g.cs).set (j * 4 + 3) (.int .i64 (c0.sp + e5))).set (j * 4 + 1) (.int .i64 (nlf))) g cg cc (.slice ua g.us.length uc) (.slice fa g.fs.length fc) (Wd.setCell ⟨cg, j * 4 + 1, none⟩ (.int .i64 (nlf))) ∧ (Wd.setCell ⟨cg, j * 4 + 1, none⟩ (.int .i64 (nlf))).heap[bb]? = some (.cells #[.int .i64 e0, .int .i64 e1, .int .i64 e2, .int .i64 e3, .string e4, .int .i64 e5] 35 (0, 0)) ∧ Below lb W2 (Wd.setCell ⟨cg, j * 4 + 1, none⟩ (.int .i64 (nlf)))) := fun Wd e => by
                subst e
                have h := HX6.out.drew (below_drew _)
                exact ⟨h.put _ (by omega) _, h.box5 HBX6.out _ _, (HB6.out.trans ((below_drew _).mono (Nat.le_of_lt (blkLt HX6.out.box)))).setCell (row_lt h.crow cg rfl).1 _⟩
              refine wp_region_z (S := fun W => W = w6.drew) 18 (by kernel_rfl) rfl (fun hH => ?_)
              generalize w6.drew = Wd at *
              refine wpAnyZ_take (i := 0) (v := .pointer (some ⟨lb, 0, none⟩)) rfl (by kernel_rfl) (by kernel_rfl) (by kernel_rfl) (by kernel_rfl) (fun _ _ _ h => h) (Or.inl ⟨by rfl, fun w hSw => by go_simp⟩) hH ?_
              refine wpAnyZ_take (i := 1) (v := .slice (some ⟨cg, 0, none⟩) g.cs.length cc) rfl (by kernel_rfl) (by kernel_rfl) (by kernel_rfl) (by kernel_rfl) (fun _ _ _ h => h) (Or.inl ⟨by rfl, fun w hSw => by have f0 := HC6.out.2.2.2; subst hSw; go_simp⟩) hH ?_
              try simp only [Act.put, List.setIfInBounds_toArray, List.set_cons_zero, List.set_cons_succ, List.getElem_toArray, List.getElem_cons_succ, List.getElem_cons_zero]
              refine wpAnyZ_take (i := 2) (v := .int .i64 (j : Int)) rfl (by kernel_rfl) (by kernel_rfl) (by kernel_rfl) (by kernel_rfl) (fun _ _ _ h => h) (Or.inl ⟨by rfl, fun w hSw => by go_simp⟩) hH ?_
              try simp only [Act.put, List.setIfInBounds_toArray, List.set_cons_zero, List.set_cons_succ, List.getElem_toArray, List.getElem_cons_succ, List.getElem_cons_zero]
              refine wpAnyZ_take (i := 3) (v := .pointer (some ⟨lb, 0, none⟩)) rfl (by kernel_rfl) (by kernel_rfl) (by kernel_rfl) (by kernel_rfl) (fun _ _ _ h => h) (Or.inl ⟨by rfl, fun w hSw => by go_simp⟩) hH ?_
              try simp only [Act.put, List.setIfInBounds_toArray, List.set_cons_zero, List.set_cons_succ, List.getElem_toArray, List.getElem_cons_succ, List.getElem_cons_zero]
              refine wpAnyZ_take (i := 4) (v := .slice (some ⟨cg, 0, none⟩) g.cs.length cc) rfl (by kernel_rfl) (by kernel_rfl) (by kernel_rfl) (by kernel_rfl) (fun _ _ _ h => h) (Or.inl ⟨by rfl, fun w hSw => by have f0 := HC6.out.2.2.2; subst hSw; go_simp⟩) hH ?_
              try simp only [Act.put, List.setIfInBounds_toArray, List.set_cons_zero, List.set_cons_succ, List.getElem_toArray, List.getElem_cons_succ, List.getElem_cons_zero]
              refine wpAnyZ_take (i := 5) (v := .int .i64 (j : Int)) rfl (by kernel_rfl) (by kernel_rfl) (by kernel_rfl) (by kernel_rfl) (fun _ _ _ h => h) (Or.inl ⟨by rfl, fun w hSw => by go_simp⟩) hH ?_
              try simp only [Act.put, List.setIfInBounds_toArray, List.set_cons_zero, List.set_cons_succ, List.getElem_toArray, List.getElem_cons_succ, List.getElem_cons_zero]
              refine wpAnyZ_take (i := 6) (v := .pointer (some ⟨cg, j * 4, none⟩)) rfl (by kernel_rfl) (by kernel_rfl) (by kernel_rfl) (by kernel_rfl) (fun _ _ _ h => h) (Or.inl ⟨by rfl, fun w hSw => by have f0 := hpi; go_simp⟩) hH ?_
              try simp only [Act.put, List.setIfInBounds_toArray, List.set_cons_zero, List.set_cons_succ, List.getElem_toArray, List.getElem_cons_succ, List.getElem_cons_zero]
              refine wpAnyZ_take (i := 7) (v := .pointer (some ⟨cg, j * 4 + 2, none⟩)) rfl (by kernel_rfl) (by kernel_rfl) (by kernel_rfl) (by kernel_rfl) (fun _ _ _ h => h) (Or.inl ⟨by rfl, fun w hSw => by go_simp⟩) hH ?_
              try simp only [Act.put, List.setIfInBounds_toArray, List.set_cons_zero, List.set_cons_succ, List.getElem_toArray, List.getElem_cons_succ, List.getElem_cons_zero]
              refine wpAnyZ_take (i := 8) (v := .int .i64 (c0.ld)) rfl (by kernel_rfl) (by kernel_rfl) (by kernel_rfl) (by kernel_rfl) (fun _ _ _ h => h) (Or.inl ⟨by rfl, fun w hSw => by have f0 := HC6.out.1.1; subst hSw; go_simp⟩) hH ?_
              try simp only [Act.put, List.setIfInBounds_toArray, List.set_cons_zero, List.set_cons_succ, List.getElem_toArray, List.getElem_cons_succ, List.getElem_cons_zero]
              refine wpAnyZ_take (i := 9) (v := .pointer (some ⟨lb, 0, none⟩)) rfl (by kernel_rfl) (by kernel_rfl) (by kernel_rfl) (by kernel_rfl) (fun _ _ _ h => h) (Or.inl ⟨by rfl, fun w hSw => by go_simp⟩) hH ?_
              try simp only [Act.put, List.setIfInBounds_toArray, List.set_cons_zero, List.set_cons_succ, List.getElem_toArray, List.getElem_cons_succ, List.getElem_cons_zero]
              refine wpAnyZ_take (i := 10) (v := .slice (some ⟨cg, 0, none⟩) g.cs.length cc) rfl (by kernel_rfl) (by kernel_rfl) (by kernel_rfl) (by kernel_rfl) (fun _ _ _ h => h) (Or.inl ⟨by rfl, fun w hSw => by have f0 := HC6.out.2.2.2; subst hSw; go_simp⟩) hH ?_
              try simp only [Act.put, List.setIfInBounds_toArray, List.set_cons_zero, List.set_cons_succ, List.getElem_toArray, List.getElem_cons_succ, List.getElem_cons_zero]
              refine wpAnyZ_take (i := 11) (v := .int .i64 (j : Int)) rfl (by kernel_rfl) (by kernel_rfl) (by kernel_rfl) (by kernel_rfl) (fun _ _ _ h => h) (Or.inl ⟨by rfl, fun w hSw => by go_simp⟩) hH ?_
              try simp only [Act.put, List.setIfInBounds_toArray, List.set_cons_zero, List.set_cons_succ, List.getElem_toArray, List.getElem_cons_succ, List.getElem_cons_zero]
              refine wpAnyZ_take (i := 12) (v := .pointer (some ⟨cg, j * 4, none⟩)) rfl (by kernel_rfl) (by kernel_rfl) (by kernel_rfl) (by kernel_rfl) (fun _ _ _ h => h) (Or.inl ⟨by rfl, fun w hSw => by have f0 := hpi; go_simp⟩) hH ?_
              try simp only [Act.put, List.setIfInBounds_toArray, List.set_cons_zero, List.set_cons_succ, List.getElem_toArray, List.getElem_cons_succ, List.getElem_cons_zero]
              refine wpAnyZ_take (i := 13) (v := .pointer (some ⟨cg, j * 4 + 3, none⟩)) rfl (by kernel_rfl) (by kernel_rfl) (by kernel_rfl) (by kernel_rfl) (fun _ _ _ h => h) (Or.inl ⟨by rfl, fun w hSw => by go_simp⟩) hH ?_
              try simp only [Act.put, List.setIfInBounds_toArray, List.set_cons_zero, List.set_cons_succ, List.getElem_toArray, List.getElem_cons_succ, List.getElem_cons_zero]
              refine wpAnyZ_take (i := 14) (v := .int .i64 (c0.sp + e5)) rfl (by kernel_rfl) (by kernel_rfl) (by kernel_rfl) (by kernel_rfl) (fun _ _ _ h => h) (Or.inl ⟨by rfl, fun w hSw => by have f0 := HC6.out.1.2; subst hSw; go_simp⟩) hH ?_
              try simp only [Act.put, List.setIfInBounds_toArray, List.set_cons_zero, List.set_cons_succ, List.getElem_toArray, List.getElem_cons_succ, List.getElem_cons_zero]
              refine wpAnyZ_take (i := 15) (v := .int .i64 nlf) rfl (by kernel_rfl) (by kernel_rfl) (by kernel_rfl) (by kernel_rfl) (fun _ _ _ h => h) (Or.inl ⟨by rfl, fun w hSw => by have f0 := hwn; go_simp⟩) hH ?_
              try simp only [Act.put, List.setIfInBounds_toArray, List.set_cons_zero, List.set_cons_succ, List.getElem_toArray, List.getElem_cons_succ, List.getElem_cons_zero]
              refine wpAnyZ_take (i := 16) (v := .pointer (some ⟨cg, j * 4, none⟩)) rfl (by kernel_rfl) (by kernel_rfl) (by kernel_rfl) (by kernel_rfl) (fun _ _ _ h => h) (Or.inl ⟨by rfl, fun w hSw => by have f0 := hpi; go_simp⟩) hH ?_
              try simp only [Act.put, List.setIfInBounds_toArray, List.set_cons_zero, List.set_cons_succ, List.getElem_toArray, List.getElem_cons_succ, List.getElem_cons_zero]
              refine wpAnyZ_take (i := 17) (v := .pointer (some ⟨cg, j * 4 + 1, none⟩)) rfl (by kernel_rfl) (by kernel_rfl) (by kernel_rfl) (by kernel_rfl) (fun _ _ _ h => h) (Or.inl ⟨by rfl, fun w hSw => by go_simp⟩) hH ?_
              try simp only [Act.put, List.setIfInBounds_toArray, List.set_cons_zero, List.set_cons_succ, List.getElem_toArray, List.getElem_cons_succ, List.getElem_cons_zero]
              refine wpAnyZ_ready (rs := [18]) (by kernel_rfl) (by simp) ?_
              refine AllReadyZ.cons rfl (fun K hK => ?_) AllReadyZ.nil
              obtain ⟨y0, ⟨v1, y1⟩, y2, y3⟩ := HC6.out
              go_simp
              refine hK.out _ _ (Or.inl rfl) (fun _ => ?_)
              clear hK K
              try simp only [Act.put, List.setIfInBounds_toArray, List.set_cons_zero, List.set_cons_succ, List.getElem_toArray, List.getElem_cons_succ, List.getElem_cons_zero]
              refine wpAnyZ_done (by kernel_rfl) ?_ _
              clear y0 y1 y2 y3 HC6 hH
              obtain ⟨hx7, hbx7, hB7⟩ := HN6.out _ rfl
              generalize Wd.setCell ⟨cg, j * 4 + 1, none⟩ (.int .i64 (nlf)) = w7 at *
              have HX7 : Hid (LgX lb lb g.cs (((cdCells g.cs).set (j * 4 + 3) (.int .i64 (c0.sp + e5))).set (j * 4 + 1) (.int .i64 (nlf))) g cg cc (.slice ua g.us.length uc) (.slice fa g.fs.length fc) w7) := hx7
              have HBX7 : Hid (w7.heap[bb]? = some (.cells #[.int .i64 e0, .int .i64 e1, .int .i64 e2, .int .i64 e3, .string e4, .int .i64 e5] 35 (0, 0))) := hbx7
              have HB7 : Hid (Below lb W2 w7) := hB7
              clear hx7 hbx7 hB7 HN6 HX6 HBX6 HB6
              have HE : Hid (LgM lb lb ⟨g.cs.set j (spC c0 e5), g.us, g.fs⟩ (.slice (some ⟨cg, 0, none⟩) g.cs.length cc) (.slice ua g.us.length uc) (.slice fa g.fs.length fc) w7) := HX7.out.done (by rw [HNl.out, HC0.out]; exact cells_sp g.cs j hp2 e5) (by rw [List.length_set])
              clear HX7 HBX7
              go_wp2
              first
              | exact ⟨⟨k + 1, _, _, _, by omega, by go_num, by rw [HT3.out]; exact HE.out, HB7.out⟩, by simp [intOf]; omega⟩
              | (go_roundw
                 case rel => exact ⟨k + 1, _, _, _, by omega, by go_num, by rw [HT3.out]; exact HE.out, HB7.out⟩
                 case measure => simp [intOf]; omega)
        | none =>
          have hfu : ixI none = -1 := rfl
          rw [hfu]
          obtain ⟨cs, hcs⟩ : ∃ cs, cs = g.cs ++ [(⟨e4, 0, 0, 0⟩ : RCd)] := ⟨_, rfl⟩
          obtain ⟨p, hpe⟩ : ∃ p, p = g.cs.length := ⟨_, rfl⟩
          have HCS : Hid (cs = g.cs ++ [(⟨e4, 0, 0, 0⟩ : RCd)]) := hcs
          have hPP : Hid (g.cs.length = p) := hpe.symm
          have hp2 : p < cs.length := by rw [hcs, hpe]; simp
          have HT2 : Hid (lgAt rs (k + 1) = lgRef k (if e3 = 1 then (true, ⟨cs.set p (ldC (cs.getD p zCd) e5), g.us, g.fs⟩) else if (cs.getD p zCd).lf < e5 then (false, ⟨cs, g.us, g.fs⟩) else (true, ⟨cs.set p (spC (cs.getD p zCd) e5), g.us, g.fs⟩))) := by rw [hcs, hpe]; exact HT0.out
          have hbase2 : ∀ c ∈ cs, 0 ≤ c.lf ∧ c.lf ≤ (k : Int) * 1000000 ∧ 0 ≤ c.ld ∧ c.ld ≤ (k : Int) * 1000000 ∧ 0 ≤ c.sp ∧ c.sp ≤ (k : Int) * 1000000 ∧ c.lf = c.ld - c.sp := by rw [hcs]; exact hbase
          have hlc : cs.length = g.cs.length + 1 := by rw [hcs]; simp
          have hlc2 : cs.length ≤ 200 := by omega
          clear hcs hpe HT0 hbase hp hlen hfu HIx hlc
          have HM4 : Hid (LgM lb lb g (.slice ca g.cs.length cc) (.slice ua g.us.length uc) (.slice fa g.fs.length fc) (Wb.alloc (Obj.cells #[.string e4, .int .i64 0, .int .i64 0, .int .i64 0] 39))) := HMb.out.later (below_alloc _ _)
          have HB4 : Hid (Below lb W2 (Wb.alloc (Obj.cells #[.string e4, .int .i64 0, .int .i64 0, .int .i64 0] 39))) := HBb.out.trans ((below_alloc _ _).mono (by omega))
          have HBX4 : Hid ((Wb.alloc (Obj.cells #[.string e4, .int .i64 0, .int .i64 0, .int .i64 0] 39)).heap[bb]? = some (.cells #[.int .i64 e0, .int .i64 e1, .int .i64 e2, .int .i64 e3, .string e4, .int .i64 e5] 35 (0, 0))) := ((below_alloc Wb _).block bb (blkLt HXb.out)).trans HXb.out
          have hB4 : lb ≤ (Wb.alloc (Obj.cells #[.string e4, .int .i64 0, .int .i64 0, .int .i64 0] 39)).heap.size := by have := blkLt HM4.out.box; omega
          have HNw : Hid (∀ j u, [Value.string e4, .int .i64 0, .int .i64 0, .int .i64 0][j]? = some u → (Wb.alloc (Obj.cells #[.string e4, .int .i64 0, .int .i64 0, .int .i64 0] 39)).cell? ((⟨Wb.heap.size, 0, none⟩ : Addr).add j) = some u) := World.news_of_block (heapNew Wb _)
          clear HMb HBb HXb
          have hc0 := getCd' hbase2 hp2
          obtain ⟨c0, hc0e⟩ : ∃ c0, c0 = cs.getD p zCd := ⟨_, rfl⟩
          rw [← hc0e] at hc0 HT2
          have HC0 : Hid (c0 = cs.getD p zCd) := hc0e
          obtain ⟨z1, z2, z3, z4, z5, z6, z7⟩ := hc0
          have HZ : Hid (c0.lf = c0.ld - c0.sp) := z7
          have hpi : (p : Int) < (cs.length : Int) := by omega
          have HG : Hid (∀ j, j < 4 → (cdCells cs)[p * 4 + j]? = (cdC c0)[j]?) := fun j hj => by rw [HC0.out]; exact cdCells_get cs p j hp2 hj
          have hwl : IntKind.i64.wrap (c0.ld + e5) = c0.ld + e5 := wrap_id _ (by omega) (by omega)
          have hws : IntKind.i64.wrap (c0.sp + e5) = c0.sp + e5 := wrap_id _ (by omega) (by omega)
          clear z7 hc0e hbase2
          by_cases h1 : e3 = 1
          · have hk1 : (e3 == 1) = true := by rw [h1]; rfl
            have HT : Hid (lgAt rs (k + 1) = ⟨cs.set p (ldC c0 e5), g.us, g.fs⟩) := by have h := HT2.out; rw [if_pos h1] at h; exact h
            clear HT2 h1
            go_wp2_with (at_builtin; refine wpList_append_any rfl _ _ 27 rfl lb 39 d0 (.agg #[.string ⟨#[]⟩, .int .i64 0, .int .i64 0, .int .i64 0]) 4 40 Try.underlying27 hd hd0 hd1 hd2 rfl (by decide) _ _ _ rfl HM4.out.crow (some ⟨Wb.heap.size, 0, none⟩) 1 1 [.string e4, .int .i64 0, .int .i64 0, .int .i64 0] rfl rfl (fun _ => ⟨_, rfl, HNw.out⟩) (by intro u hu; simp at hu; rcases hu with rfl | rfl <;> rfl) (by unfold maxLen; omega) (by omega) hB4 ?_; intro va vc w5 hown hgr hat; have HT9 := HM4.out.addC (c := ⟨e4, 0, 0, 0⟩) hown hgr; have HT1 : Hid (LgM lb lb ⟨g.cs ++ [⟨e4, 0, 0, 0⟩], g.us, g.fs⟩ (.slice va (g.cs.length + 1) vc) (.slice ua g.us.length uc) (.slice fa g.fs.length fc) (w5.setCell ⟨lb, 0, none⟩ (.slice va (g.cs.length + 1) vc))) := HT9.2; have y0 := blkCell HT9.1 0 _ rfl; have f1 := blkFree HT9.1 0; have hl5 : lb < w5.heap.size := blkLt HT9.1; have HBX5 : Hid (w5.heap[bb]? = some (.cells #[.int .i64 e0, .int .i64 e1, .int .i64 e2, .int .i64 e3, .string e4, .int .i64 e5] 35 (0, 0))) := ((fr_grown hgr).block bb (blkLt HBX4.out) (fun e => row_ne HM4.out.crow HBX4.out (by decide) e rfl)).trans HBX4.out; have k3 := blkCell HBX5.out 3 _ rfl; have hb5 : bb < w5.heap.size := blkLt HBX5.out; have HB5 : Hid (Below lb W2 (w5.setCell ⟨lb, 0, none⟩ (.slice va (g.cs.length + 1) vc))) := (HB4.out.grown hgr hB4 (fun q hq => (row_lt HM4.out.crow q hq).1)).setCell (Nat.le_refl _) _; clear HT9 hown hgr hat)
            have HX9 : Hid (LgM lb lb ⟨g.cs ++ [⟨e4, 0, 0, 0⟩], g.us, g.fs⟩ (.slice va (g.cs.length + 1) vc) (.slice ua g.us.length uc) (.slice fa g.fs.length fc) (w5.setCell ⟨lb, 0, none⟩ (.slice va (g.cs.length + 1) vc))) := HT1.out
            have HBX9 : Hid ((w5.setCell ⟨lb, 0, none⟩ (.slice va (g.cs.length + 1) vc)).heap[bb]? = some (.cells #[.int .i64 e0, .int .i64 e1, .int .i64 e2, .int .i64 e3, .string e4, .int .i64 e5] 35 (0, 0))) := (Below.heap_setCell _ _ _ _ hne).trans HBX5.out
            have HB9 : Hid (Below lb W2 (w5.setCell ⟨lb, 0, none⟩ (.slice va (g.cs.length + 1) vc))) := HB5.out
            clear HT1 HBX5 HB5 y0 f1 hl5 k3 hb5 HM4 HB4 HBX4 HNw
            generalize w5.setCell ⟨lb, 0, none⟩ (.slice va (g.cs.length + 1) vc) = w2 at *
            obtain ⟨cg, cn, hcq⟩ := row_some HX9.out.crow (by show 0 < (g.cs ++ [(⟨e4, 0, 0, 0⟩ : RCd)]).length; simp)
            rw [show (⟨g.cs ++ [(⟨e4, 0, 0, 0⟩ : RCd)], g.us, g.fs⟩ : Lg).cs.length = g.cs.length + 1 by simp] at hcq
            simp only [Value.slice.injEq, true_and] at hcq
            obtain ⟨rfl, rfl⟩ := hcq
            have hln : g.cs.length + 1 = cs.length := by rw [HCS.out]; simp
            rw [hln, ← HCS.out] at HX9
            have HX2 : Hid (LgX lb lb cs (cdCells cs) g cg vc (.slice ua g.us.length uc) (.slice fa g.fs.length fc) w2) := ⟨HX9.out.box, HX9.out.crow, HX9.out.urow, HX9.out.frow⟩
            have HBX2 : Hid (w2.heap[bb]? = some (.cells #[.int .i64 e0, .int .i64 e1, .int .i64 e2, .int .i64 e3, .string e4, .int .i64 e5] 35 (0, 0))) := HBX9.out
            have HB2 : Hid (Below lb W2 w2) := HB9.out
            rw [hPP.out]
            clear HX9 HBX9 HB9 hln
            have HC2 : Hid (w2.drew.cell? ⟨cg, p * 4 + 2, none⟩ = some (.int .i64 c0.ld) ∧ w2.drew.cell? ⟨bb, 5, none⟩ = some (.int .i64 e5) ∧ w2.drew.frozen? ⟨cg, p * 4 + 2, none⟩ = false ∧ w2.drew.cell? ⟨lb, 0, none⟩ = some (.slice (some ⟨cg, 0, none⟩) cs.length vc)) := by
              have h := (HX2.out.drew (below_drew _)).cell (p * 4 + 2) (by omega) _ (HG.out 2 (by omega))
              exact ⟨h.1, blkCell HBX2.out 5 _ rfl, h.2, blkCell (HX2.out.drew (below_drew _)).box 0 _ rfl⟩
            have HN2 : Hid (∀ Wd, Wd = w2.drew → LgX lb lb cs ((cdCells cs).set (p * 4 + 2) (.int .i64 (c0.ld + e5))) g cg vc (.slice ua g.us.length uc) (.slice fa g.fs.length fc) (Wd.setCell ⟨cg, p * 4 + 2, none⟩ (.int .i64 (c0.ld + e5))) ∧ (Wd.setCell ⟨cg, p * 4 + 2, none⟩ (.int .i64 (c0.ld + e5))).heap[bb]? = some (.cells #[.int .i64 e0, .int .i64 e1, .int .i64 e2, .int .i64 e3, .string e4, .int .i64 e5] 35 (0, 0)) ∧ Below lb W2 (Wd.setCell ⟨cg, p * 4 + 2, none⟩ (.int .i64 (c0.ld + e5)))) := fun Wd e => by
              subst e
              have h := HX2.out.drew (below_drew _)
              exact ⟨h.put _ (by omega) _, h.box5 HBX2.out _ _, (HB2.out.trans ((below_drew _).mono (Nat.le_of_lt (blkLt HX2.out.box)))).setCell (row_lt h.crow cg rfl).1 _⟩
            refine wp_region_z (S := fun W => W = w2.drew) 11 (by kernel_rfl) rfl (fun hH => ?_)
            generalize w2.drew = Wd at *
            refine wpAnyZ_take (i := 0) (v := .pointer (some ⟨lb, 0, none⟩)) rfl (by kernel_rfl) (by kernel_rfl) (by kernel_rfl) (by kernel_rfl) (fun _ _ _ h => h) (Or.inl ⟨by rfl, fun w hSw => by go_simp⟩) hH ?_
            refine wpAnyZ_take (i := 1) (v := .slice (some ⟨cg, 0, none⟩) cs.length vc) rfl (by kernel_rfl) (by kernel_rfl) (by kernel_rfl) (by kernel_rfl) (fun _ _ _ h => h) (Or.inl ⟨by rfl, fun w hSw => by have f0 := HC2.out.2.2.2; subst hSw; go_simp⟩) hH ?_
            try simp only [Act.put, List.setIfInBounds_toArray, List.set_cons_zero, List.set_cons_succ, List.getElem_toArray, List.getElem_cons_succ, List.getElem_cons_zero]
            refine wpAnyZ_take (i := 2) (v := .int .i64 (p : Int)) rfl (by kernel_rfl) (by kernel_rfl) (by kernel_rfl) (by kernel_rfl) (fun _ _ _ h => h) (Or.inl ⟨by rfl, fun w hSw => by go_simp⟩) hH ?_
            try simp only [Act.put, List.setIfInBounds_toArray, List.set_cons_zero, List.set_cons_succ, List.getElem_toArray, List.getElem_cons_succ, List.getElem_cons_zero]
            refine wpAnyZ_take (i := 3) (v := .pointer (some ⟨cg, p * 4, none⟩)) rfl (by kernel_rfl) (by kernel_rfl) (by kernel_rfl) (by kernel_rfl) (fun _ _ _ h => h) (Or.inl ⟨by rfl, fun w hSw => by have f0 := hpi; go_simp⟩) hH ?_
            try simp only [Act.put, List.setIfInBounds_toArray, List.set_cons_zero, List.set_cons_succ, List.getElem_toArray, List.getElem_cons_succ, List.getElem_cons_zero]
            refine wpAnyZ_take (i := 4) (v := .pointer (some ⟨cg, p * 4 + 2, none⟩)) rfl (by kernel_rfl) (by kernel_rfl) (by kernel_rfl) (by kernel_rfl) (fun _ _ _ h => h) (Or.inl ⟨by rfl, fun w hSw => by go_simp⟩) hH ?_
            try simp only [Act.put, List.setIfInBounds_toArray, List.set_cons_zero, List.set_cons_succ, List.getElem_toArray, List.getElem_cons_succ, List.getElem_cons_zero]
            refine wpAnyZ_take (i := 5) (v := .int .i64 c0.ld) rfl (by kernel_rfl) (by kernel_rfl) (by kernel_rfl) (by kernel_rfl) (fun _ _ _ h => h) (Or.inl ⟨by rfl, fun w hSw => by have f0 := HC2.out.1; subst hSw; go_simp⟩) hH ?_
            try simp only [Act.put, List.setIfInBounds_toArray, List.set_cons_zero, List.set_cons_succ, List.getElem_toArray, List.getElem_cons_succ, List.getElem_cons_zero]
            refine wpAnyZ_take (i := 6) (v := .pointer (some ⟨bb, 5, none⟩)) rfl (by kernel_rfl) (by kernel_rfl) (by kernel_rfl) (by kernel_rfl) (fun _ _ _ h => h) (Or.inl ⟨by rfl, fun w hSw => by go_simp⟩) hH ?_
            try simp only [Act.put, List.setIfInBounds_toArray, List.set_cons_zero, List.set_cons_succ, List.getElem_toArray, List.getElem_cons_succ, List.getElem_cons_zero]
            refine wpAnyZ_take (i := 7) (v := .int .i64 e5) rfl (by kernel_rfl) (by kernel_rfl) (by kernel_rfl) (by kernel_rfl) (fun _ _ _ h => h) (Or.inl ⟨by rfl, fun w hSw => by have f0 := HC2.out.2.1; subst hSw; go_simp⟩) hH ?_
            try simp only [Act.put, List.setIfInBounds_toArray, List.set_cons_zero, List.set_cons_succ, List.getElem_toArray, List.getElem_cons_succ, List.getElem_cons_zero]
            refine wpAnyZ_take (i := 8) (v := .int .i64 (c0.ld + e5)) rfl (by kernel_rfl) (by kernel_rfl) (by kernel_rfl) (by kernel_rfl) (fun _ _ _ h => h) (Or.inl ⟨by rfl, fun w hSw => by have f0 := hwl; go_simp⟩) hH ?_
            try simp only [Act.put, List.setIfInBounds_toArray, List.set_cons_zero, List.set_cons_succ, List.getElem_toArray, List.getElem_cons_succ, List.getElem_cons_zero]
            refine wpAnyZ_take (i := 9) (v := .pointer (some ⟨cg, p * 4, none⟩)) rfl (by kernel_rfl) (by kernel_rfl) (by kernel_rfl) (by kernel_rfl) (fun _ _ _ h => h) (Or.inl ⟨by rfl, fun w hSw => by have f0 := hpi; go_simp⟩) hH ?_
            try simp only [Act.put, List.setIfInBounds_toArray, List.set_cons_zero, List.set_cons_succ, List.getElem_toArray, List.getElem_cons_succ, List.getElem_cons_zero]
            refine wpAnyZ_take (i := 10) (v := .pointer (some ⟨cg, p * 4 + 2, none⟩)) rfl (by kernel_rfl) (by kernel_rfl) (by kernel_rfl) (by kernel_rfl) (fun _ _ _ h => h) (Or.inl ⟨by rfl, fun w hSw => by go_simp⟩) hH ?_
            try simp only [Act.put, List.setIfInBounds_toArray, List.set_cons_zero, List.set_cons_succ, List.getElem_toArray, List.getElem_cons_succ, List.getElem_cons_zero]
            refine wpAnyZ_ready (rs := [11]) (by kernel_rfl) (by simp) ?_
            refine AllReadyZ.cons rfl (fun K hK => ?_) AllReadyZ.nil
            obtain ⟨y0, y1, y2, y3⟩ := HC2.out
            go_simp
            refine hK.out _ _ (Or.inl rfl) (fun _ => ?_)
            clear hK K
            try simp only [Act.put, List.setIfInBounds_toArray, List.set_cons_zero, List.set_cons_succ, List.getElem_toArray, List.getElem_cons_succ, List.getElem_cons_zero]
            refine wpAnyZ_done (by kernel_rfl) ?_ _
            clear y0 y1 y2 y3 HC2 hH
            obtain ⟨hx3, hbx3, hB3⟩ := HN2.out _ rfl
            generalize Wd.setCell ⟨cg, p * 4 + 2, none⟩ (.int .i64 (c0.ld + e5)) = w3 at *
            have HX3 : Hid (LgX lb lb cs ((cdCells cs).set (p * 4 + 2) (.int .i64 (c0.ld + e5))) g cg vc (.slice ua g.us.length uc) (.slice fa g.fs.length fc) w3) := hx3
            have HBX3 : Hid (w3.heap[bb]? = some (.cells #[.int .i64 e0, .int .i64 e1, .int .i64 e2, .int .i64 e3, .string e4, .int .i64 e5] 35 (0, 0))) := hbx3
            have HB3 : Hid (Below lb W2 w3) := hB3
            clear hx3 hbx3 hB3 HN2 HX2 HBX2 HB2
            go_wp2_with fail
            obtain ⟨nlf, hnlf⟩ : ∃ nlf : Int, nlf = c0.lf + e5 := ⟨_, rfl⟩
            have hwn : IntKind.i64.wrap (c0.ld + e5 - c0.sp) = nlf := by rw [show c0.ld + e5 - c0.sp = nlf by have := HZ.out; omega]; exact wrap_id _ (by have := HZ.out; omega) (by have := HZ.out; omega)
            have HNl : Hid (nlf = c0.lf + e5) := hnlf
            clear hnlf
            have HC3 : Hid ((w3.drew.cell? ⟨cg, p * 4 + 2, none⟩ = some (.int .i64 (c0.ld + e5)) ∧ w3.drew.cell? ⟨cg, p * 4 + 3, none⟩ = some (.int .i64 (c0.sp))) ∧ (∃ v, w3.drew.cell? ⟨cg, p * 4 + 1, none⟩ = some v) ∧ w3.drew.frozen? ⟨cg, p * 4 + 1, none⟩ = false ∧ w3.drew.cell? ⟨lb, 0, none⟩ = some (.slice (some ⟨cg, 0, none⟩) cs.length vc)) := by
              have h := HX3.out.drew (below_drew _)
              have h1 := h.cell (p * 4 + 1) (by omega) _ (by rw [List.getElem?_set, if_neg (by omega)]; exact HG.out 1 (by omega))
              exact ⟨⟨(h.cell (p * 4 + 2) (by omega) _ (by rw [List.getElem?_set, if_pos rfl, if_pos (by rw [cdCells_len]; omega)])).1, (h.cell (p * 4 + 3) (by omega) _ (by rw [List.getElem?_set, if_neg (by omega)]; exact HG.out 3 (by omega))).1⟩, ⟨_, h1.1⟩, h1.2, blkCell h.box 0 _ rfl⟩
            have HN3 : Hid (∀ Wd, Wd = w3.drew → LgX lb lb cs (((cdCells cs).set (p * 4 + 2) (.int .i64 (c0.ld + e5))).set (p * 4 + 1) (.int .i64 (nlf))) g cg vc (.slice ua g.us.length uc) (.slice fa g.fs.length fc) (Wd.setCell ⟨cg, p * 4 + 1, none⟩ (.int .i64 (nlf))) ∧ (Wd.setCell ⟨cg, p * 4 + 1, none⟩ (.int .i64 (nlf))).heap[bb]? = some (.cells #[.int .i64 e0, .int .i64 e1, .int .i64 e2, .int .i64 e3, .string e4, .int .i64 e5] 35 (0, 0)) ∧ Below lb W2 (Wd.setCell ⟨cg, p * 4 + 1, none⟩ (.int .i64 (nlf)))) := fun Wd e => by
              subst e
              have h := HX3.out.drew (below_drew _)
              exact ⟨h.put _ (by omega) _, h.box5 HBX3.out _ _, (HB3.out.trans ((below_drew _).mono (Nat.le_of_lt (blkLt HX3.out.box)))).setCell (row_lt h.crow cg rfl).1 _⟩
            refine wp_region_z (S := fun W => W = w3.drew) 18 (by kernel_rfl) rfl (fun hH => ?_)
            generalize w3.drew = Wd at *
            refine wpAnyZ_take (i := 0) (v := .pointer (some ⟨lb, 0, none⟩)) rfl (by kernel_rfl) (by kernel_rfl) (by kernel_rfl) (by kernel_rfl) (fun _ _ _ h => h) (Or.inl ⟨by rfl, fun w hSw => by go_simp⟩) hH ?_
            refine wpAnyZ_take (i := 1) (v := .slice (some ⟨cg, 0, none⟩) cs.length vc) rfl (by kernel_rfl) (by kernel_rfl) (by kernel_rfl) (by kernel_rfl) (fun _ _ _ h => h) (Or.inl ⟨by rfl, fun w hSw => by have f0 := HC3.out.2.2.2; subst hSw; go_simp⟩) hH ?_
            try simp only [Act.put, List.setIfInBounds_toArray, List.set_cons_zero, List.set_cons_succ, List.getElem_toArray, List.getElem_cons_succ, List.getElem_cons_zero]
            refine wpAnyZ_take (i := 2) (v := .int .i64 (p : Int)) rfl (by kernel_rfl) (by kernel_rfl) (by kernel_rfl) (by kernel_rfl) (fun _ _ _ h => h) (Or.inl ⟨by rfl, fun w hSw => by go_simp⟩) hH ?_
            try simp only [Act.put, List.setIfInBounds_toArray, List.set_cons_zero, List.set_cons_succ, List.getElem_toArray, List.getElem_cons_succ, List.getElem_cons_zero]
            refine wpAnyZ_take (i := 3) (v := .pointer (some ⟨lb, 0, none⟩)) rfl (by kernel_rfl) (by kernel_rfl) (by kernel_rfl) (by kernel_rfl) (fun _ _ _ h => h) (Or.inl ⟨by rfl, fun w hSw => by go_simp⟩) hH ?_
            try simp only [Act.put, List.setIfInBounds_toArray, List.set_cons_zero, List.set_cons_succ, List.getElem_toArray, List.getElem_cons_succ, List.getElem_cons_zero]
            refine wpAnyZ_take (i := 4) (v := .slice (some ⟨cg, 0, none⟩) cs.length vc) rfl (by kernel_rfl) (by kernel_rfl) (by kernel_rfl) (by kernel_rfl) (fun _ _ _ h => h) (Or.inl ⟨by rfl, fun w hSw => by have f0 := HC3.out.2.2.2; subst hSw; go_simp⟩) hH ?_
            try simp only [Act.put, List.setIfInBounds_toArray, List.set_cons_zero, List.set_cons_succ, List.getElem_toArray, List.getElem_cons_succ, List.getElem_cons_zero]
            refine wpAnyZ_take (i := 5) (v := .int .i64 (p : Int)) rfl (by kernel_rfl) (by kernel_rfl) (by kernel_rfl) (by kernel_rfl) (fun _ _ _ h => h) (Or.inl ⟨by rfl, fun w hSw => by go_simp⟩) hH ?_
            try simp only [Act.put, List.setIfInBounds_toArray, List.set_cons_zero, List.set_cons_succ, List.getElem_toArray, List.getElem_cons_succ, List.getElem_cons_zero]
            refine wpAnyZ_take (i := 6) (v := .pointer (some ⟨cg, p * 4, none⟩)) rfl (by kernel_rfl) (by kernel_rfl) (by kernel_rfl) (by kernel_rfl) (fun _ _ _ h => h) (Or.inl ⟨by rfl, fun w hSw => by have f0 := hpi; go_simp⟩) hH ?_
            try simp only [Act.put, List.setIfInBounds_toArray, List.set_cons_zero, List.set_cons_succ, List.getElem_toArray, List.getElem_cons_succ, List.getElem_cons_zero]
            refine wpAnyZ_take (i := 7) (v := .pointer (some ⟨cg, p * 4 + 2, none⟩)) rfl (by kernel_rfl) (by kernel_rfl) (by kernel_rfl) (by kernel_rfl) (fun _ _ _ h => h) (Or.inl ⟨by rfl, fun w hSw => by go_simp⟩) hH ?_
            try simp only [Act.put, List.setIfInBounds_toArray, List.set_cons_zero, List.set_cons_succ, List.getElem_toArray, List.getElem_cons_succ, List.getElem_cons_zero]
            refine wpAnyZ_take (i := 8) (v := .int .i64 (c0.ld + e5)) rfl (by kernel_rfl) (by kernel_rfl) (by kernel_rfl) (by kernel_rfl) (fun _ _ _ h => h) (Or.inl ⟨by rfl, fun w hSw => by have f0 := HC3.out.1.1; subst hSw; go_simp⟩) hH ?_
            try simp only [Act.put, List.setIfInBounds_toArray, List.set_cons_zero, List.set_cons_succ, List.getElem_toArray, List.getElem_cons_succ, List.getElem_cons_zero]
            refine wpAnyZ_take (i := 9) (v := .pointer (some ⟨lb, 0, none⟩)) rfl (by kernel_rfl) (by kernel_rfl) (by kernel_rfl) (by kernel_rfl) (fun _ _ _ h => h) (Or.inl ⟨by rfl, fun w hSw => by go_simp⟩) hH ?_
            try simp only [Act.put, List.setIfInBounds_toArray, List.set_cons_zero, List.set_cons_succ, List.getElem_toArray, List.getElem_cons_succ, List.getElem_cons_zero]
            refine wpAnyZ_take (i := 10) (v := .slice (some ⟨cg, 0, none⟩) cs.length vc) rfl (by kernel_rfl) (by kernel_rfl) (by kernel_rfl) (by kernel_rfl) (fun _ _ _ h => h) (Or.inl ⟨by rfl, fun w hSw => by have f0 := HC3.out.2.2.2; subst hSw; go_simp⟩) hH ?_
            try simp only [Act.put, List.setIfInBounds_toArray, List.set_cons_zero, List.set_cons_succ, List.getElem_toArray, List.getElem_cons_succ, List.getElem_cons_zero]
            refine wpAnyZ_take (i := 11) (v := .int .i64 (p : Int)) rfl (by kernel_rfl) (by kernel_rfl) (by kernel_rfl) (by kernel_rfl) (fun _ _ _ h => h) (Or.inl ⟨by rfl, fun w hSw => by go_simp⟩) hH ?_
            try simp only [Act.put, List.setIfInBounds_toArray, List.set_cons_zero, List.set_cons_succ, List.getElem_toArray, List.getElem_cons_succ, List.getElem_cons_zero]
            refine wpAnyZ_take (i := 12) (v := .pointer (some ⟨cg, p * 4, none⟩)) rfl (by kernel_rfl) (by kernel_rfl) (by kernel_rfl) (by kernel_rfl) (fun _ _ _ h => h) (Or.inl ⟨by rfl, fun w hSw => by have f0 := hpi; go_simp⟩) hH ?_
            try simp only [Act.put, List.setIfInBounds_toArray, List.set_cons_zero, List.set_cons_succ, List.getElem_toArray, List.getElem_cons_succ, List.getElem_cons_zero]
            refine wpAnyZ_take (i := 13) (v := .pointer (some ⟨cg, p * 4 + 3, none⟩)) rfl (by kernel_rfl) (by kernel_rfl) (by kernel_rfl) (by kernel_rfl) (fun _ _ _ h => h) (Or.inl ⟨by rfl, fun w hSw => by go_simp⟩) hH ?_
            try simp only [Act.put, List.setIfInBounds_toArray, List.set_cons_zero, List.set_cons_succ, List.getElem_toArray, List.getElem_cons_succ, List.getElem_cons_zero]
            refine wpAnyZ_take (i := 14) (v := .int .i64 (c0.sp)) rfl (by kernel_rfl) (by kernel_rfl) (by kernel_rfl) (by kernel_rfl) (fun _ _ _ h => h) (Or.inl ⟨by rfl, fun w hSw => by have f0 := HC3.out.1.2; subst hSw; go_simp⟩) hH ?_
            try simp only [Act.put, List.setIfInBounds_toArray, List.set_cons_zero, List.set_cons_succ, List.getElem_toArray, List.getElem_cons_succ, List.getElem_cons_zero]
            refine wpAnyZ_take (i := 15) (v := .int .i64 nlf) rfl (by kernel_rfl) (by kernel_rfl) (by kernel_rfl) (by kernel_rfl) (fun _ _ _ h => h) (Or.inl ⟨by rfl, fun w hSw => by have f0 := hwn; go_simp⟩) hH ?_
            try simp only [Act.put, List.setIfInBounds_toArray, List.set_cons_zero, List.set_cons_succ, List.getElem_toArray, List.getElem_cons_succ, List.getElem_cons_zero]
            refine wpAnyZ_take (i := 16) (v := .pointer (some ⟨cg, p * 4, none⟩)) rfl (by kernel_rfl) (by kernel_rfl) (by kernel_rfl) (by kernel_rfl) (fun _ _ _ h => h) (Or.inl ⟨by rfl, fun w hSw => by have f0 := hpi; go_simp⟩) hH ?_
            try simp only [Act.put, List.setIfInBounds_toArray, List.set_cons_zero, List.set_cons_succ, List.getElem_toArray, List.getElem_cons_succ, List.getElem_cons_zero]
            refine wpAnyZ_take (i := 17) (v := .pointer (some ⟨cg, p * 4 + 1, none⟩)) rfl (by kernel_rfl) (by kernel_rfl) (by kernel_rfl) (by kernel_rfl) (fun _ _ _ h => h) (Or.inl ⟨by rfl, fun w hSw => by go_simp⟩) hH ?_
            try simp only [Act.put, List.setIfInBounds_toArray, List.set_cons_zero, List.set_cons_succ, List.getElem_toArray, List.getElem_cons_succ, List.getElem_cons_zero]
            refine wpAnyZ_ready (rs := [18]) (by kernel_rfl) (by simp) ?_
            refine AllReadyZ.cons rfl (fun K hK => ?_) AllReadyZ.nil
            obtain ⟨y0, ⟨v1, y1⟩, y2, y3⟩ := HC3.out
            go_simp
            refine hK.out _ _ (Or.inl rfl) (fun _ => ?_)
            clear hK K
            try simp only [Act.put, List.setIfInBounds_toArray, List.set_cons_zero, List.set_cons_succ, List.getElem_toArray, List.getElem_cons_succ, List.getElem_cons_zero]
            refine wpAnyZ_done (by kernel_rfl) ?_ _
            clear y0 y1 y2 y3 HC3 hH
            obtain ⟨hx4, hbx4, hB4⟩ := HN3.out _ rfl
            generalize Wd.setCell ⟨cg, p * 4 + 1, none⟩ (.int .i64 (nlf)) = w4 at *
            have HX4 : Hid (LgX lb lb cs (((cdCells cs).set (p * 4 + 2) (.int .i64 (c0.ld + e5))).set (p * 4 + 1) (.int .i64 (nlf))) g cg vc (.slice ua g.us.length uc) (.slice fa g.fs.length fc) w4) := hx4
            have HBX4 : Hid (w4.heap[bb]? = some (.cells #[.int .i64 e0, .int .i64 e1, .int .i64 e2, .int .i64 e3, .string e4, .int .i64 e5] 35 (0, 0))) := hbx4
            have HB4 : Hid (Below lb W2 w4) := hB4
            clear hx4 hbx4 hB4 HN3 HX3 HBX3 HB3
            have HE : Hid (LgM lb lb ⟨cs.set p (ldC c0 e5), g.us, g.fs⟩ (.slice (some ⟨cg, 0, none⟩) cs.length vc) (.slice ua g.us.length uc) (.slice fa g.fs.length fc) w4) := HX4.out.done (by rw [HNl.out, HC0.out]; exact cells_ld cs p hp2 e5) (by rw [List.length_set])
            clear HX4 HBX4
            go_wp2
            first
            | exact ⟨⟨k + 1, _, _, _, by omega, by go_num, by rw [HT.out]; exact HE.out, HB4.out⟩, by simp [intOf]; omega⟩
            | (go_roundw
               case rel => exact ⟨k + 1, _, _, _, by omega, by go_num, by rw [HT.out]; exact HE.out, HB4.out⟩
               case measure => simp [intOf]; omega)
          · have hk1 : (e3 == 1) = false := by simpa using h1
            have HTf : Hid (c0.lf < e5 → lgAt rs (k + 1) = ⟨cs, g.us, g.fs ++ [k]⟩) := fun hh => by have h := HT2.out; rw [if_neg h1, if_pos hh] at h; exact h
            have HTt : Hid (e5 ≤ c0.lf → lgAt rs (k + 1) = ⟨cs.set p (spC c0 e5), g.us, g.fs⟩) := fun hh => by have h := HT2.out; rw [if_neg h1, if_neg (by omega)] at h; exact h
            clear HT2 h1
            go_wp2_with (at_builtin; refine wpList_append_any rfl _ _ 27 rfl lb 39 d0 (.agg #[.string ⟨#[]⟩, .int .i64 0, .int .i64 0, .int .i64 0]) 4 40 Try.underlying27 hd hd0 hd1 hd2 rfl (by decide) _ _ _ rfl HM4.out.crow (some ⟨Wb.heap.size, 0, none⟩) 1 1 [.string e4, .int .i64 0, .int .i64 0, .int .i64 0] rfl rfl (fun _ => ⟨_, rfl, HNw.out⟩) (by intro u hu; simp at hu; rcases hu with rfl | rfl <;> rfl) (by unfold maxLen; omega) (by omega) hB4 ?_; intro va vc w5 hown hgr hat; have HT9 := HM4.out.addC (c := ⟨e4, 0, 0, 0⟩) hown hgr; have HT1 : Hid (LgM lb lb ⟨g.cs ++ [⟨e4, 0, 0, 0⟩], g.us, g.fs⟩ (.slice va (g.cs.length + 1) vc) (.slice ua g.us.length uc) (.slice fa g.fs.length fc) (w5.setCell ⟨lb, 0, none⟩ (.slice va (g.cs.length + 1) vc))) := HT9.2; have y0 := blkCell HT9.1 0 _ rfl; have f1 := blkFree HT9.1 0; have hl5 : lb < w5.heap.size := blkLt HT9.1; have HBX5 : Hid (w5.heap[bb]? = some (.cells #[.int .i64 e0, .int .i64 e1, .int .i64 e2, .int .i64 e3, .string e4, .int .i64 e5] 35 (0, 0))) := ((fr_grown hgr).block bb (blkLt HBX4.out) (fun e => row_ne HM4.out.crow HBX4.out (by decide) e rfl)).trans HBX4.out; have k3 := blkCell HBX5.out 3 _ rfl; have hb5 : bb < w5.heap.size := blkLt HBX5.out; have HB5 : Hid (Below lb W2 (w5.setCell ⟨lb, 0, none⟩ (.slice va (g.cs.length + 1) vc))) := (HB4.out.grown hgr hB4 (fun q hq => (row_lt HM4.out.crow q hq).1)).setCell (Nat.le_refl _) _; clear HT9 hown hgr hat)
            have HX9 : Hid (LgM lb lb ⟨g.cs ++ [⟨e4, 0, 0, 0⟩], g.us, g.fs⟩ (.slice va (g.cs.length + 1) vc) (.slice ua g.us.length uc) (.slice fa g.fs.length fc) (w5.setCell ⟨lb, 0, none⟩ (.slice va (g.cs.length + 1) vc))) := HT1.out
            have HBX9 : Hid ((w5.setCell ⟨lb, 0, none⟩ (.slice va (g.cs.length + 1) vc)).heap[bb]? = some (.cells #[.int .i64 e0, .int .i64 e1, .int .i64 e2, .int .i64 e3, .string e4, .int .i64 e5] 35 (0, 0))) := (Below.heap_setCell _ _ _ _ hne).trans HBX5.out
            have HB9 : Hid (Below lb W2 (w5.setCell ⟨lb, 0, none⟩ (.slice va (g.cs.length + 1) vc))) := HB5.out
            clear HT1 HBX5 HB5 y0 f1 hl5 k3 hb5 HM4 HB4 HBX4 HNw
            generalize w5.setCell ⟨lb, 0, none⟩ (.slice va (g.cs.length + 1) vc) = w2 at *
            obtain ⟨cg, cn, hcq⟩ := row_some HX9.out.crow (by show 0 < (g.cs ++ [(⟨e4, 0, 0, 0⟩ : RCd)]).length; simp)
            rw [show (⟨g.cs ++ [(⟨e4, 0, 0, 0⟩ : RCd)], g.us, g.fs⟩ : Lg).cs.length = g.cs.length + 1 by simp] at hcq
            simp only [Value.slice.injEq, true_and] at hcq
            obtain ⟨rfl, rfl⟩ := hcq
            have hln : g.cs.length + 1 = cs.length := by rw [HCS.out]; simp
            rw [hln, ← HCS.out] at HX9
            have HX2 : Hid (LgX lb lb cs (cdCells cs) g cg vc (.slice ua g.us.length uc) (.slice fa g.fs.length fc) w2) := ⟨HX9.out.box, HX9.out.crow, HX9.out.urow, HX9.out.frow⟩
            have HBX2 : Hid (w2.heap[bb]? = some (.cells #[.int .i64 e0, .int .i64 e1, .int .i64 e2, .int .i64 e3, .string e4, .int .i64 e5] 35 (0, 0))) := HBX9.out
            have HB2 : Hid (Below lb W2 w2) := HB9.out
            rw [hPP.out]
            clear HX9 HBX9 HB9 hln
            have HRd : Hid (∀ W, Below w2.heap.size w2 W → W.cell? ⟨cg, p * 4 + 1, none⟩ = some (.int .i64 c0.lf) ∧ W.cell? ⟨bb, 5, none⟩ = some (.int .i64 e5) ∧ W.cell? ⟨lb, 0, none⟩ = some (.slice (some ⟨cg, 0, none⟩) cs.length vc)) := fun W h => by
              exact ⟨((HX2.out.drew h).cell (p * 4 + 1) (by omega) _ (HG.out 1 (by omega))).1, blkCell ((h.block _ (blkLt HBX2.out)).trans HBX2.out) 5 _ rfl, blkCell (HX2.out.drew h).box 0 _ rfl⟩
            refine wp_region_held_drew (S := fun W => Below w2.heap.size w2 W) (by kernel_rfl) (below_drew _) (fun hH => ?_)
            refine wpAnyH_take (i := 0) (v := .pointer (some ⟨bb, 5, none⟩)) rfl (by kernel_rfl) (by kernel_rfl) (by kernel_rfl) (fun _ _ _ h => h) (Or.inl ⟨by rfl, fun w hSw => by go_simp⟩) hH ?_
            refine wpAnyH_take (i := 1) (v := .int .i64 e5) rfl (by kernel_rfl) (by kernel_rfl) (by kernel_rfl) (fun _ _ _ h => h) (Or.inl ⟨by rfl, fun w hSw => by have f0 := (HRd.out w hSw).2.1; go_simp⟩) hH ?_
            try simp only [Act.put, List.setIfInBounds_toArray, List.set_cons_zero, List.set_cons_succ, List.getElem_toArray, List.getElem_cons_succ, List.getElem_cons_zero]
            refine wpAnyH_take (i := 2) (v := .pointer (some ⟨lb, 0, none⟩)) rfl (by kernel_rfl) (by kernel_rfl) (by kernel_rfl) (fun _ _ _ h => h) (Or.inl ⟨by rfl, fun w hSw => by go_simp⟩) hH ?_
            try simp only [Act.put, List.setIfInBounds_toArray, List.set_cons_zero, List.set_cons_succ, List.getElem_toArray, List.getElem_cons_succ, List.getElem_cons_zero]
            refine wpAnyH_take (i := 3) (v := .slice (some ⟨cg, 0, none⟩) cs.length vc) rfl (by kernel_rfl) (by kernel_rfl) (by kernel_rfl) (fun _ _ _ h => h) (Or.inl ⟨by rfl, fun w hSw => by have f0 := (HRd.out w hSw).2.2; go_simp⟩) hH ?_
            try simp only [Act.put, List.setIfInBounds_toArray, List.set_cons_zero, List.set_cons_succ, List.getElem_toArray, List.getElem_cons_succ, List.getElem_cons_zero]
            refine wpAnyH_take (i := 4) (v := .int .i64 (p : Int)) rfl (by kernel_rfl) (by kernel_rfl) (by kernel_rfl) (fun _ _ _ h => h) (Or.inl ⟨by rfl, fun w hSw => by go_simp⟩) hH ?_
            try simp only [Act.put, List.setIfInBounds_toArray, List.set_cons_zero, List.set_cons_succ, List.getElem_toArray, List.getElem_cons_succ, List.getElem_cons_zero]
            refine wpAnyH_take (i := 5) (v := .pointer (some ⟨cg, p * 4, none⟩)) rfl (by kernel_rfl) (by kernel_rfl) (by kernel_rfl) (fun _ _ _ h => h) (Or.inl ⟨by rfl, fun w hSw => by have f0 := hpi; go_simp⟩) hH ?_
            try simp only [Act.put, List.setIfInBounds_toArray, List.set_cons_zero, List.set_cons_succ, List.getElem_toArray, List.getElem_cons_succ, List.getElem_cons_zero]
            refine wpAnyH_take (i := 6) (v := .pointer (some ⟨cg, p * 4 + 1, none⟩)) rfl (by kernel_rfl) (by kernel_rfl) (by kernel_rfl) (fun _ _ _ h => h) (Or.inl ⟨by rfl, fun w hSw => by go_simp⟩) hH ?_
            try simp only [Act.put, List.setIfInBounds_toArray, List.set_cons_zero, List.set_cons_succ, List.getElem_toArray, List.getElem_cons_succ, List.getElem_cons_zero]
            refine wpAnyH_take (i := 7) (v := .int .i64 c0.lf) rfl (by kernel_rfl) (by kernel_rfl) (by kernel_rfl) (fun _ _ _ h => h) (Or.inl ⟨by rfl, fun w hSw => by have f0 := (HRd.out w hSw).1; go_simp⟩) hH ?_
            try simp only [Act.put, List.setIfInBounds_toArray, List.set_cons_zero, List.set_cons_succ, List.getElem_toArray, List.getElem_cons_succ, List.getElem_cons_zero]
            refine wpAnyH_take (i := 8) (v := .bool (decide (c0.lf < e5))) rfl (by kernel_rfl) (by kernel_rfl) (by kernel_rfl) (fun _ _ _ h => h) (Or.inl ⟨by rfl, fun w hSw => by go_simp⟩) hH ?_
            try simp only [Act.put, List.setIfInBounds_toArray, List.set_cons_zero, List.set_cons_succ, List.getElem_toArray, List.getElem_cons_succ, List.getElem_cons_zero]
            refine wpAnyH_done (by kernel_rfl) ?_ _
            have HX5 : Hid (LgX lb lb cs (cdCells cs) g cg vc (.slice ua g.us.length uc) (.slice fa g.fs.length fc) w2.drew) := HX2.out.drew (below_drew _)
            have HBX5 : Hid (w2.drew.heap[bb]? = some (.cells #[.int .i64 e0, .int .i64 e1, .int .i64 e2, .int .i64 e3, .string e4, .int .i64 e5] 35 (0, 0))) := HBX2.out
            have HB5 : Hid (Below lb W2 w2.drew) := HB2.out.trans ((below_drew _).mono (Nat.le_of_lt (blkLt HX2.out.box)))
            clear HX2 HBX2 HB2 HRd hH
            generalize w2.drew = w5 at *
            by_cases hlf : c0.lf < e5
            · have hd : decide (c0.lf < e5) = true := decide_eq_true hlf
              have HT3 : Hid (lgAt rs (k + 1) = ⟨cs, g.us, g.fs ++ [k]⟩) := HTf.out hlf
              have HM5 : Hid (LgM lb lb ⟨cs, g.us, g.fs⟩ (.slice (some ⟨cg, 0, none⟩) cs.length vc) (.slice ua g.us.length uc) (.slice fa g.fs.length fc) w5) := HX5.out.done rfl rfl
              clear HTf HTt
              have HM4 : Hid (LgM lb lb ⟨cs, g.us, g.fs⟩ (.slice (some ⟨cg, 0, none⟩) cs.length vc) (.slice ua g.us.length uc) (.slice fa g.fs.length fc) (w5.alloc (Obj.cells #[.int .i64 (k : Int)] 3))) := HM5.out.later (below_alloc _ _)
              have HB4 : Hid (Below lb W2 (w5.alloc (Obj.cells #[.int .i64 (k : Int)] 3))) := HB5.out.trans ((below_alloc _ _).mono (Nat.le_of_lt (blkLt HM5.out.box)))
              have HBX6 : Hid ((w5.alloc (Obj.cells #[.int .i64 (k : Int)] 3)).heap[bb]? = some (.cells #[.int .i64 e0, .int .i64 e1, .int .i64 e2, .int .i64 e3, .string e4, .int .i64 e5] 35 (0, 0))) := ((below_alloc w5 _).block bb (blkLt HBX5.out)).trans HBX5.out
              have hB4 : lb ≤ (w5.alloc (Obj.cells #[.int .i64 (k : Int)] 3)).heap.size := by have := blkLt HM4.out.box; omega
              have y2 : w5.cell? ⟨lb, 2, none⟩ = some (.slice fa g.fs.length fc) := blkCell HM5.out.box 2 _ rfl
              have hlF : lb < w5.heap.size := blkLt HM5.out.box
              clear HX5 HBX5
              go_wp2_with (at_builtin; refine wpList_append_any rfl _ _ 29 rfl lb 3 i0 (.int .i64 0) 1 8 Try.underlying29 hi hi0 hi1 hi2 rfl (by decide) _ _ _ rfl HM4.out.frow (some ⟨w5.heap.size, 0, none⟩) 1 1 [nVl k] rfl rfl (fun _ => ⟨_, rfl, newsOne w5 _ _⟩) (by intro u hu; simp at hu; subst hu; rfl) (by unfold maxLen; dsimp only; omega) (by dsimp only; omega) hB4 ?_; intro ra rc w6 hown hgr hat; have HT := HM4.out.addF hown hgr; have HT1 : Hid (LgM lb lb ⟨cs, g.us, g.fs ++ [k]⟩ (.slice (some ⟨cg, 0, none⟩) cs.length vc) (.slice ua g.us.length uc) (.slice ra (g.fs.length + 1) rc) (w6.setCell ⟨lb, 2, none⟩ (.slice ra (g.fs.length + 1) rc))) := HT.2; have z1 := blkCell HT.1 2 _ rfl; have f1 := blkFree HT.1 2; have hl6 : lb < w6.heap.size := blkLt HT.1; have HBX7 : Hid (w6.heap[bb]? = some (.cells #[.int .i64 e0, .int .i64 e1, .int .i64 e2, .int .i64 e3, .string e4, .int .i64 e5] 35 (0, 0))) := ((fr_grown hgr).block bb (blkLt HBX6.out) (fun e => row_ne HM4.out.frow HBX6.out (by decide) e rfl)).trans HBX6.out; have HB6 : Hid (Below lb W2 (w6.setCell ⟨lb, 2, none⟩ (.slice ra (g.fs.length + 1) rc))) := (HB4.out.grown hgr hB4 (fun q hq => (row_lt HM4.out.frow q hq).1)).setCell (Nat.le_refl _) _; clear HT hown hgr hat)
              have HX8 : Hid (LgX lb lb cs (cdCells cs) ⟨cs, g.us, g.fs ++ [k]⟩ cg vc (.slice ua g.us.length uc) (.slice ra (g.fs.length + 1) rc) (w6.setCell ⟨lb, 2, none⟩ (.slice ra (g.fs.length + 1) rc))) := ⟨HT1.out.box, HT1.out.crow, HT1.out.urow, HT1.out.frow⟩
              have HBX8 : Hid ((w6.setCell ⟨lb, 2, none⟩ (.slice ra (g.fs.length + 1) rc)).heap[bb]? = some (.cells #[.int .i64 e0, .int .i64 e1, .int .i64 e2, .int .i64 e3, .string e4, .int .i64 e5] 35 (0, 0))) := (Below.heap_setCell _ _ _ _ hne).trans HBX7.out
              have HB8 : Hid (Below lb W2 (w6.setCell ⟨lb, 2, none⟩ (.slice ra (g.fs.length + 1) rc))) := HB6.out
              clear HT1 HBX7 HB6 z1 f1 hl6 HM4 HB4 HM5 HB5 HBX6
              generalize w6.setCell ⟨lb, 2, none⟩ (.slice ra (g.fs.length + 1) rc) = w8 at *
              obtain ⟨nlf, hnlf⟩ : ∃ nlf : Int, nlf = c0.lf := ⟨_, rfl⟩
              have hwn : IntKind.i64.wrap (c0.ld - c0.sp) = nlf := by rw [show c0.ld - c0.sp = nlf by have := HZ.out; omega]; exact wrap_id _ (by have := HZ.out; omega) (by have := HZ.out; omega)
              have HNl : Hid (nlf = c0.lf) := hnlf
              clear hnlf
              have HC8 : Hid ((w8.drew.cell? ⟨cg, p * 4 + 2, none⟩ = some (.int .i64 (c0.ld)) ∧ w8.drew.cell? ⟨cg, p * 4 + 3, none⟩ = some (.int .i64 (c0.sp))) ∧ (∃ v, w8.drew.cell? ⟨cg, p * 4 + 1, none⟩ = some v) ∧ w8.drew.frozen? ⟨cg, p * 4 + 1, none⟩ = false ∧ w8.drew.cell? ⟨lb, 0, none⟩ = some (.slice (some ⟨cg, 0, none⟩) cs.length vc)) := by
                have h := HX8.out.drew (below_drew _)
                have h1 := h.cell (p * 4 + 1) (by omega) _ (HG.out 1 (by omega))
                exact ⟨⟨(h.cell (p * 4 + 2) (by omega) _ (HG.out 2 (by omega))).1, (h.cell (p * 4 + 3) (by omega) _ (HG.out 3 (by omega))).1⟩, ⟨_, h1.1⟩, h1.2, blkCell h.box 0 _ rfl⟩
              have HN8 : Hid (∀ Wd, Wd = w8.drew → LgX lb lb cs ((cdCells cs).set (p * 4 + 1) (.int .i64 (nlf))) ⟨cs, g.us, g.fs ++ [k]⟩ cg vc (.slice ua g.us.length uc) (.slice ra (g.fs.length + 1) rc) (Wd.setCell ⟨cg, p * 4 + 1, none⟩ (.int .i64 (nlf))) ∧ (Wd.setCell ⟨cg, p * 4 + 1, none⟩ (.int .i64 (nlf))).heap[bb]? = some (.cells #[.int .i64 e0, .int .i64 e1, .int .i64 e2, .int .i64 e3, .string e4, .int .i64 e5] 35 (0, 0)) ∧ Below lb W2 (Wd.setCell ⟨cg, p * 4 + 1, none⟩ (.int .i64 (nlf)))) := fun Wd e => by
                subst e
                have h := HX8.out.drew (below_drew _)
                exact ⟨h.put _ (by omega) _, h.box5 HBX8.out _ _, (HB8.out.trans ((below_drew _).mono (Nat.le_of_lt (blkLt HX8.out.box)))).setCell (row_lt h.crow cg rfl).1 _⟩
              refine wp_region_z (S := fun W => W = w8.drew) 18 (by kernel_rfl) rfl (fun hH => ?_)
              generalize w8.drew = Wd at *
              refine wpAnyZ_take (i := 0) (v := .pointer (some ⟨lb, 0, none⟩)) rfl (by kernel_rfl) (by kernel_rfl) (by kernel_rfl) (by kernel_rfl) (fun _ _ _ h => h) (Or.inl ⟨by rfl, fun w hSw => by go_simp⟩) hH ?_
              refine wpAnyZ_take (i := 1) (v := .slice (some ⟨cg, 0, none⟩) cs.length vc) rfl (by kernel_rfl) (by kernel_rfl) (by kernel_rfl) (by kernel_rfl) (fun _ _ _ h => h) (Or.inl ⟨by rfl, fun w hSw => by have f0 := HC8.out.2.2.2; subst hSw; go_simp⟩) hH ?_
              try simp only [Act.put, List.setIfInBounds_toArray, List.set_cons_zero, List.set_cons_succ, List.getElem_toArray, List.getElem_cons_succ, List.getElem_cons_zero]
              refine wpAnyZ_take (i := 2) (v := .int .i64 (p : Int)) rfl (by kernel_rfl) (by kernel_rfl) (by kernel_rfl) (by kernel_rfl) (fun _ _ _ h => h) (Or.inl ⟨by rfl, fun w hSw => by go_simp⟩) hH ?_
              try simp only [Act.put, List.setIfInBounds_toArray, List.set_cons_zero, List.set_cons_succ, List.getElem_toArray, List.getElem_cons_succ, List.getElem_cons_zero]
              refine wpAnyZ_take (i := 3) (v := .pointer (some ⟨lb, 0, none⟩)) rfl (by kernel_rfl) (by kernel_rfl) (by kernel_rfl) (by kernel_rfl) (fun _ _ _ h => h) (Or.inl ⟨by rfl, fun w hSw => by go_simp⟩) hH ?_
              try simp only [Act.put, List.setIfInBounds_toArray, List.set_cons_zero, List.set_cons_succ, List.getElem_toArray, List.getElem_cons_succ, List.getElem_cons_zero]
              refine wpAnyZ_take (i := 4) (v := .slice (some ⟨cg, 0, none⟩) cs.length vc) rfl (by kernel_rfl) (by kernel_rfl) (by kernel_rfl) (by kernel_rfl) (fun _ _ _ h => h) (Or.inl ⟨by rfl, fun w hSw => by have f0 := HC8.out.2.2.2; subst hSw; go_simp⟩) hH ?_
              try simp only [Act.put, List.setIfInBounds_toArray, List.set_cons_zero, List.set_cons_succ, List.getElem_toArray, List.getElem_cons_succ, List.getElem_cons_zero]
              refine wpAnyZ_take (i := 5) (v := .int .i64 (p : Int)) rfl (by kernel_rfl) (by kernel_rfl) (by kernel_rfl) (by kernel_rfl) (fun _ _ _ h => h) (Or.inl ⟨by rfl, fun w hSw => by go_simp⟩) hH ?_
              try simp only [Act.put, List.setIfInBounds_toArray, List.set_cons_zero, List.set_cons_succ, List.getElem_toArray, List.getElem_cons_succ, List.getElem_cons_zero]
              refine wpAnyZ_take (i := 6) (v := .pointer (some ⟨cg, p * 4, none⟩)) rfl (by kernel_rfl) (by kernel_rfl) (by kernel_rfl) (by kernel_rfl) (fun _ _ _ h => h) (Or.inl ⟨by rfl, fun w hSw => by have f0 := hpi; go_simp⟩) hH ?_
              try simp only [Act.put, List.setIfInBounds_toArray, List.set_cons_zero, List.set_cons_succ, List.getElem_toArray, List.getElem_cons_succ, List.getElem_cons_zero]
              refine wpAnyZ_take (i := 7) (v := .pointer (some ⟨cg, p * 4 + 2, none⟩)) rfl (by kernel_rfl) (by kernel_rfl) (by kernel_rfl) (by kernel_rfl) (fun _ _ _ h => h) (Or.inl ⟨by rfl, fun w hSw => by go_simp⟩) hH ?_
              try simp only [Act.put, List.setIfInBounds_toArray, List.set_cons_zero, List.set_cons_succ, List.getElem_toArray, List.getElem_cons_succ, List.getElem_cons_zero]
              refine wpAnyZ_take (i := 8) (v := .int .i64 (c0.ld)) rfl (by kernel_rfl) (by kernel_rfl) (by kernel_rfl) (by kernel_rfl) (fun _ _ _ h => h) (Or.inl ⟨by rfl, fun w hSw => by have f0 := HC8.out.1.1; subst hSw; go_simp⟩) hH ?_
              try simp only [Act.put, List.setIfInBounds_toArray, List.set_cons_zero, List.set_cons_succ, List.getElem_toArray, List.getElem_cons_succ, List.getElem_cons_zero]
              refine wpAnyZ_take (i := 9) (v := .pointer (some ⟨lb, 0, none⟩)) rfl (by kernel_rfl) (by kernel_rfl) (by kernel_rfl) (by kernel_rfl) (fun _ _ _ h => h) (Or.inl ⟨by rfl, fun w hSw => by go_simp⟩) hH ?_
              try simp only [Act.put, List.setIfInBounds_toArray, List.set_cons_zero, List.set_cons_succ, List.getElem_toArray, List.getElem_cons_succ, List.getElem_cons_zero]
              refine wpAnyZ_take (i := 10) (v := .slice (some ⟨cg, 0, none⟩) cs.length vc) rfl (by kernel_rfl) (by kernel_rfl) (by kernel_rfl) (by kernel_rfl) (fun _ _ _ h => h) (Or.inl ⟨by rfl, fun w hSw => by have f0 := HC8.out.2.2.2; subst hSw; go_simp⟩) hH ?_
              try simp only [Act.put, List.setIfInBounds_toArray, List.set_cons_zero, List.set_cons_succ, List.getElem_toArray, List.getElem_cons_succ, List.getElem_cons_zero]
              refine wpAnyZ_take (i := 11) (v := .int .i64 (p : Int)) rfl (by kernel_rfl) (by kernel_rfl) (by kernel_rfl) (by kernel_rfl) (fun _ _ _ h => h) (Or.inl ⟨by rfl, fun w hSw => by go_simp⟩) hH ?_
              try simp only [Act.put, List.setIfInBounds_toArray, List.set_cons_zero, List.set_cons_succ, List.getElem_toArray, List.getElem_cons_succ, List.getElem_cons_zero]
              refine wpAnyZ_take (i := 12) (v := .pointer (some ⟨cg, p * 4, none⟩)) rfl (by kernel_rfl) (by kernel_rfl) (by kernel_rfl) (by kernel_rfl) (fun _ _ _ h => h) (Or.inl ⟨by rfl, fun w hSw => by have f0 := hpi; go_simp⟩) hH ?_
              try simp only [Act.put, List.setIfInBounds_toArray, List.set_cons_zero, List.set_cons_succ, List.getElem_toArray, List.getElem_cons_succ, List.getElem_cons_zero]
              refine wpAnyZ_take (i := 13) (v := .pointer (some ⟨cg, p * 4 + 3, none⟩)) rfl (by kernel_rfl) (by kernel_rfl) (by kernel_rfl) (by kernel_rfl) (fun _ _ _ h => h) (Or.inl ⟨by rfl, fun w hSw => by go_simp⟩) hH ?_
              try simp only [Act.put, List.setIfInBounds_toArray, List.set_cons_zero, List.set_cons_succ, List.getElem_toArray, List.getElem_cons_succ, List.getElem_cons_zero]
              refine wpAnyZ_take (i := 14) (v := .int .i64 (c0.sp)) rfl (by kernel_rfl) (by kernel_rfl) (by kernel_rfl) (by kernel_rfl) (fun _ _ _ h => h) (Or.inl ⟨by rfl, fun w hSw => by have f0 := HC8.out.1.2; subst hSw; go_simp⟩) hH ?_
              try simp only [Act.put, List.setIfInBounds_toArray, List.set_cons_zero, List.set_cons_succ, List.getElem_toArray, List.getElem_cons_succ, List.getElem_cons_zero]
              refine wpAnyZ_take (i := 15) (v := .int .i64 nlf) rfl (by kernel_rfl) (by kernel_rfl) (by kernel_rfl) (by kernel_rfl) (fun _ _ _ h => h) (Or.inl ⟨by rfl, fun w hSw => by have f0 := hwn; go_simp⟩) hH ?_
              try simp only [Act.put, List.setIfInBounds_toArray, List.set_cons_zero, List.set_cons_succ, List.getElem_toArray, List.getElem_cons_succ, List.getElem_cons_zero]
              refine wpAnyZ_take (i := 16) (v := .pointer (some ⟨cg, p * 4, none⟩)) rfl (by kernel_rfl) (by kernel_rfl) (by kernel_rfl) (by kernel_rfl) (fun _ _ _ h => h) (Or.inl ⟨by rfl, fun w hSw => by have f0 := hpi; go_simp⟩) hH ?_
              try simp only [Act.put, List.setIfInBounds_toArray, List.set_cons_zero, List.set_cons_succ, List.getElem_toArray, List.getElem_cons_succ, List.getElem_cons_zero]
              refine wpAnyZ_take (i := 17) (v := .pointer (some ⟨cg, p * 4 + 1, none⟩)) rfl (by kernel_rfl) (by kernel_rfl) (by kernel_rfl) (by kernel_rfl) (fun _ _ _ h => h) (Or.inl ⟨by rfl, fun w hSw => by go_simp⟩) hH ?_
              try simp only [Act.put, List.setIfInBounds_toArray, List.set_cons_zero, List.set_cons_succ, List.getElem_toArray, List.getElem_cons_succ, List.getElem_cons_zero]
              refine wpAnyZ_ready (rs := [18]) (by kernel_rfl) (by simp) ?_
              refine AllReadyZ.cons rfl (fun K hK => ?_) AllReadyZ.nil
              obtain ⟨y0, ⟨v1, y1⟩, y2, y3⟩ := HC8.out
              go_simp
              refine hK.out _ _ (Or.inl rfl) (fun _ => ?_)
              clear hK K
              try simp only [Act.put, List.setIfInBounds_toArray, List.set_cons_zero, List.set_cons_succ, List.getElem_toArray, List.getElem_cons_succ, List.getElem_cons_zero]
              refine wpAnyZ_done (by kernel_rfl) ?_ _
              clear y0 y1 y2 y3 HC8 hH
              obtain ⟨hx9, hbx9, hB9⟩ := HN8.out _ rfl
              generalize Wd.setCell ⟨cg, p * 4 + 1, none⟩ (.int .i64 (nlf)) = w9 at *
              have HX9 : Hid (LgX lb lb cs ((cdCells cs).set (p * 4 + 1) (.int .i64 (nlf))) ⟨cs, g.us, g.fs ++ [k]⟩ cg vc (.slice ua g.us.length uc) (.slice ra (g.fs.length + 1) rc) w9) := hx9
              have HBX9 : Hid (w9.heap[bb]? = some (.cells #[.int .i64 e0, .int .i64 e1, .int .i64 e2, .int .i64 e3, .string e4, .int .i64 e5] 35 (0, 0))) := hbx9
              have HB9 : Hid (Below lb W2 w9) := hB9
              clear hx9 hbx9 hB9 HN8 HX8 HBX8 HB8
              have HE : Hid (LgM lb lb ⟨cs, g.us, g.fs ++ [k]⟩ (.slice (some ⟨cg, 0, none⟩) cs.length vc) (.slice ua g.us.length uc) (.slice ra (g.fs.length + 1) rc) w9) := HX9.out.done (by rw [HNl.out, HC0.out]; exact cells_lf cs p hp2) rfl
              clear HX9 HBX9
              go_wp2
              first
              | exact ⟨⟨k + 1, _, _, _, by omega, by go_num, by rw [HT3.out]; exact HE.out, HB9.out⟩, by simp [intOf]; omega⟩
              | (go_roundw
                 case rel => exact ⟨k + 1, _, _, _, by omega, by go_num, by rw [HT3.out]; exact HE.out, HB9.out⟩
                 case measure => simp [intOf]; omega)
            · have hd : decide (c0.lf < e5) = false := decide_eq_false hlf
              have HT3 : Hid (lgAt rs (k + 1) = ⟨cs.set p (spC c0 e5), g.us, g.fs⟩) := HTt.out (by omega)
              clear HTf HTt
              go_wp2_with fail
              have HC5 : Hid (w5.drew.cell? ⟨cg, p * 4 + 3, none⟩ = some (.int .i64 c0.sp) ∧ w5.drew.cell? ⟨bb, 5, none⟩ = some (.int .i64 e5) ∧ w5.drew.frozen? ⟨cg, p * 4 + 3, none⟩ = false ∧ w5.drew.cell? ⟨lb, 0, none⟩ = some (.slice (some ⟨cg, 0, none⟩) cs.length vc)) := by
                have h := (HX5.out.drew (below_drew _)).cell (p * 4 + 3) (by omega) _ (HG.out 3 (by omega))
                exact ⟨h.1, blkCell HBX5.out 5 _ rfl, h.2, blkCell (HX5.out.drew (below_drew _)).box 0 _ rfl⟩
              have HN5 : Hid (∀ Wd, Wd = w5.drew → LgX lb lb cs ((cdCells cs).set (p * 4 + 3) (.int .i64 (c0.sp + e5))) g cg vc (.slice ua g.us.length uc) (.slice fa g.fs.length fc) (Wd.setCell ⟨cg, p * 4 + 3, none⟩ (.int .i64 (c0.sp + e5))) ∧ (Wd.setCell ⟨cg, p * 4 + 3, none⟩ (.int .i64 (c0.sp + e5))).heap[bb]? = some (.cells #[.int .i64 e0, .int .i64 e1, .int .i64 e2, .int .i64 e3, .string e4, .int .i64 e5] 35 (0, 0)) ∧ Below lb W2 (Wd.setCell ⟨cg, p * 4 + 3, none⟩ (.int .i64 (c0.sp + e5)))) := fun Wd e => by
                subst e
                have h := HX5.out.drew (below_drew _)
                exact ⟨h.put _ (by omega) _, h.box5 HBX5.out _ _, (HB5.out.trans ((below_drew _).mono (Nat.le_of_lt (blkLt HX5.out.box)))).setCell (row_lt h.crow cg rfl).1 _⟩
              refine wp_region_z (S := fun W => W = w5.drew) 11 (by kernel_rfl) rfl (fun hH => ?_)
              generalize w5.drew = Wd at *
              refine wpAnyZ_take (i := 0) (v := .pointer (some ⟨lb, 0, none⟩)) rfl (by kernel_rfl) (by kernel_rfl) (by kernel_rfl) (by kernel_rfl) (fun _ _ _ h => h) (Or.inl ⟨by rfl, fun w hSw => by go_simp⟩) hH ?_
              refine wpAnyZ_take (i := 1) (v := .slice (some ⟨cg, 0, none⟩) cs.length vc) rfl (by kernel_rfl) (by kernel_rfl) (by kernel_rfl) (by kernel_rfl) (fun _ _ _ h => h) (Or.inl ⟨by rfl, fun w hSw => by have f0 := HC5.out.2.2.2; subst hSw; go_simp⟩) hH ?_
              try simp only [Act.put, List.setIfInBounds_toArray, List.set_cons_zero, List.set_cons_succ, List.getElem_toArray, List.getElem_cons_succ, List.getElem_cons_zero]
              refine wpAnyZ_take (i := 2) (v := .int .i64 (p : Int)) rfl (by kernel_rfl) (by kernel_rfl) (by kernel_rfl) (by kernel_rfl) (fun _ _ _ h => h) (Or.inl ⟨by rfl, fun w hSw => by go_simp⟩) hH ?_
              try simp only [Act.put, List.setIfInBounds_toArray, List.set_cons_zero, List.set_cons_succ, List.getElem_toArray, List.getElem_cons_succ, List.getElem_cons_zero]
              refine wpAnyZ_take (i := 3) (v := .pointer (some ⟨cg, p * 4, none⟩)) rfl (by kernel_rfl) (by kernel_rfl) (by kernel_rfl) (by kernel_rfl) (fun _ _ _ h => h) (Or.inl ⟨by rfl, fun w hSw => by have f0 := hpi; go_simp⟩) hH ?_
              try simp only [Act.put, List.setIfInBounds_toArray, List.set_cons_zero, List.set_cons_succ, List.getElem_toArray, List.getElem_cons_succ, List.getElem_cons_zero]
              refine wpAnyZ_take (i := 4) (v := .pointer (some ⟨cg, p * 4 + 3, none⟩)) rfl (by kernel_rfl) (by kernel_rfl) (by kernel_rfl) (by kernel_rfl) (fun _ _ _ h => h) (Or.inl ⟨by rfl, fun w hSw => by go_simp⟩) hH ?_
              try simp only [Act.put, List.setIfInBounds_toArray, List.set_cons_zero, List.set_cons_succ, List.getElem_toArray, List.getElem_cons_succ, List.getElem_cons_zero]
              refine wpAnyZ_take (i := 5) (v := .int .i64 c0.sp) rfl (by kernel_rfl) (by kernel_rfl) (by kernel_rfl) (by kernel_rfl) (fun _ _ _ h => h) (Or.inl ⟨by rfl, fun w hSw => by have f0 := HC5.out.1; subst hSw; go_simp⟩) hH ?_
              try simp only [Act.put, List.setIfInBounds_toArray, List.set_cons_zero, List.set_cons_succ, List.getElem_toArray, List.getElem_cons_succ, List.getElem_cons_zero]
              refine wpAnyZ_take (i := 6) (v := .pointer (some ⟨bb, 5, none⟩)) rfl (by kernel_rfl) (by kernel_rfl) (by kernel_rfl) (by kernel_rfl) (fun _ _ _ h => h) (Or.inl ⟨by rfl, fun w hSw => by go_simp⟩) hH ?_
              try simp only [Act.put, List.setIfInBounds_toArray, List.set_cons_zero, List.set_cons_succ, List.getElem_toArray, List.getElem_cons_succ, List.getElem_cons_zero]
              refine wpAnyZ_take (i := 7) (v := .int .i64 e5) rfl (by kernel_rfl) (by kernel_rfl) (by kernel_rfl) (by kernel_rfl) (fun _ _ _ h => h) (Or.inl ⟨by rfl, fun w hSw => by have f0 := HC5.out.2.1; subst hSw; go_simp⟩) hH ?_
              try simp only [Act.put, List.setIfInBounds_toArray, List.set_cons_zero, List.set_cons_succ, List.getElem_toArray, List.getElem_cons_succ, List.getElem_cons_zero]
              refine wpAnyZ_take (i := 8) (v := .int .i64 (c0.sp + e5)) rfl (by kernel_rfl) (by kernel_rfl) (by kernel_rfl) (by kernel_rfl) (fun _ _ _ h => h) (Or.inl ⟨by rfl, fun w hSw => by have f0 := hws; go_simp⟩) hH ?_
              try simp only [Act.put, List.setIfInBounds_toArray, List.set_cons_zero, List.set_cons_succ, List.getElem_toArray, List.getElem_cons_succ, List.getElem_cons_zero]
              refine wpAnyZ_take (i := 9) (v := .pointer (some ⟨cg, p * 4, none⟩)) rfl (by kernel_rfl) (by kernel_rfl) (by kernel_rfl) (by kernel_rfl) (fun _ _ _ h => h) (Or.inl ⟨by rfl, fun w hSw => by have f0 := hpi; go_simp⟩) hH ?_
              try simp only [Act.put, List.setIfInBounds_toArray, List.set_cons_zero, List.set_cons_succ, List.getElem_toArray, List.getElem_cons_succ, List.getElem_cons_zero]
              refine wpAnyZ_take (i := 10) (v := .pointer (some ⟨cg, p * 4 + 3, none⟩)) rfl (by kernel_rfl) (by kernel_rfl) (by kernel_rfl) (by kernel_rfl) (fun _ _ _ h => h) (Or.inl ⟨by rfl, fun w hSw => by go_simp⟩) hH ?_
              try simp only [Act.put, List.setIfInBounds_toArray, List.set_cons_zero, List.set_cons_succ, List.getElem_toArray, List.getElem_cons_succ, List.getElem_cons_zero]
              refine wpAnyZ_ready (rs := [11]) (by kernel_rfl) (by simp) ?_
              refine AllReadyZ.cons rfl (fun K hK => ?_) AllReadyZ.nil
              obtain ⟨y0, y1, y2, y3⟩ := HC5.out
              go_simp
              refine hK.out _ _ (Or.inl rfl) (fun _ => ?_)
              clear hK K
              try simp only [Act.put, List.setIfInBounds_toArray, List.set_cons_zero, List.set_cons_succ, List.getElem_toArray, List.getElem_cons_succ, List.getElem_cons_zero]
              refine wpAnyZ_done (by kernel_rfl) ?_ _
              clear y0 y1 y2 y3 HC5 hH
              obtain ⟨hx6, hbx6, hB6⟩ := HN5.out _ rfl
              generalize Wd.setCell ⟨cg, p * 4 + 3, none⟩ (.int .i64 (c0.sp + e5)) = w6 at *
              have HX6 : Hid (LgX lb lb cs ((cdCells cs).set (p * 4 + 3) (.int .i64 (c0.sp + e5))) g cg vc (.slice ua g.us.length uc) (.slice fa g.fs.length fc) w6) := hx6
              have HBX6 : Hid (w6.heap[bb]? = some (.cells #[.int .i64 e0, .int .i64 e1, .int .i64 e2, .int .i64 e3, .string e4, .int .i64 e5] 35 (0, 0))) := hbx6
              have HB6 : Hid (Below lb W2 w6) := hB6
              clear hx6 hbx6 hB6 HN5 HX5 HBX5 HB5
              go_wp2_with fail
              obtain ⟨nlf, hnlf⟩ : ∃ nlf : Int, nlf = c0.lf - e5 := ⟨_, rfl⟩
              have hwn : IntKind.i64.wrap (c0.ld - (c0.sp + e5)) = nlf := by rw [show c0.ld - (c0.sp + e5) = nlf by have := HZ.out; omega]; exact wrap_id _ (by have := HZ.out; omega) (by have := HZ.out; omega)
              have HNl : Hid (nlf = c0.lf - e5) := hnlf
              clear hnlf
              have HC6 : Hid ((w6.drew.cell? ⟨cg, p * 4 + 2, none⟩ = some (.int .i64 (c0.ld)) ∧ w6.drew.cell? ⟨cg, p * 4 + 3, none⟩ = some (.int .i64 (c0.sp + e5))) ∧ (∃ v, w6.drew.cell? ⟨cg, p * 4 + 1, none⟩ = some v) ∧ w6.drew.frozen? ⟨cg, p * 4 + 1, none⟩ = false ∧ w6.drew.cell? ⟨lb, 0, none⟩ = some (.slice (some ⟨cg, 0, none⟩) cs.length vc)) := by
                have h := HX6.out.drew (below_drew _)
                have h1 := h.cell (p * 4 + 1) (by omega) _ (by rw [List.getElem?_set, if_neg (by omega)]; exact HG.out 1 (by omega))
                exact ⟨⟨(h.cell (p * 4 + 2) (by omega) _ (by rw [List.getElem?_set, if_neg (by omega)]; exact HG.out 2 (by omega))).1, (h.cell (p * 4 + 3) (by omega) _ (by rw [List.getElem?_set, if_pos rfl, if_pos (by rw [cdCells_len]; omega)])).1⟩, ⟨_, h1.1⟩, h1.2, blkCell h.box 0 _ rfl⟩
              have HN6 : Hid (∀ Wd, Wd = w6.drew → LgX lb lb cs (((cdCells cs).set (p * 4 + 3) (.int .i64 (c0.sp + e5))).set (p * 4 + 1) (.int .i64 (nlf))) g cg vc (.slice ua g.us.length uc) (.slice fa g.fs.length fc) (Wd.setCell ⟨cg, p * 4 + 1, none⟩ (.int .i64 (nlf))) ∧ (Wd.setCell ⟨cg, p * 4 + 1, none⟩ (.int .i64 (nlf))).heap[bb]? = some (.cells #[.int .i64 e0, .int .i64 e1, .int .i64 e2, .int .i64 e3, .string e4, .int .i64 e5] 35 (0, 0)) ∧ Below lb W2 (Wd.setCell ⟨cg, p * 4 + 1, none⟩ (.int .i64 (nlf)))) := fun Wd e => by
                subst e
                have h := HX6.out.drew (below_drew _)
                exact ⟨h.put _ (by omega) _, h.box5 HBX6.out _ _, (HB6.out.trans ((below_drew _).mono (Nat.le_of_lt (blkLt HX6.out.box)))).setCell (row_lt h.crow cg rfl).1 _⟩
              refine wp_region_z (S := fun W => W = w6.drew) 18 (by kernel_rfl) rfl (fun hH => ?_)
              generalize w6.drew = Wd at *
              refine wpAnyZ_take (i := 0) (v := .pointer (some ⟨lb, 0, none⟩)) rfl (by kernel_rfl) (by kernel_rfl) (by kernel_rfl) (by kernel_rfl) (fun _ _ _ h => h) (Or.inl ⟨by rfl, fun w hSw => by go_simp⟩) hH ?_
              refine wpAnyZ_take (i := 1) (v := .slice (some ⟨cg, 0, none⟩) cs.length vc) rfl (by kernel_rfl) (by kernel_rfl) (by kernel_rfl) (by kernel_rfl) (fun _ _ _ h => h) (Or.inl ⟨by rfl, fun w hSw => by have f0 := HC6.out.2.2.2; subst hSw; go_simp⟩) hH ?_
              try simp only [Act.put, List.setIfInBounds_toArray, List.set_cons_zero, List.set_cons_succ, List.getElem_toArray, List.getElem_cons_succ, List.getElem_cons_zero]
              refine wpAnyZ_take (i := 2) (v := .int .i64 (p : Int)) rfl (by kernel_rfl) (by kernel_rfl) (by kernel_rfl) (by kernel_rfl) (fun _ _ _ h => h) (Or.inl ⟨by rfl, fun w hSw => by go_simp⟩) hH ?_
              try simp only [Act.put, List.setIfInBounds_toArray, List.set_cons_zero, List.set_cons_succ, List.getElem_toArray, List.getElem_cons_succ, List.getElem_cons_zero]
              refine wpAnyZ_take (i := 3) (v := .pointer (some ⟨lb, 0, none⟩)) rfl (by kernel_rfl) (by kernel_rfl) (by kernel_rfl) (by kernel_rfl) (fun _ _ _ h => h) (Or.inl ⟨by rfl, fun w hSw => by go_simp⟩) hH ?_
              try simp only [Act.put, List.setIfInBounds_toArray, List.set_cons_zero, List.set_cons_succ, List.getElem_toArray, List.getElem_cons_succ, List.getElem_cons_zero]
              refine wpAnyZ_take (i := 4) (v := .slice (some ⟨cg, 0, none⟩) cs.length vc) rfl (by kernel_rfl) (by kernel_rfl) (by kernel_rfl) (by kernel_rfl) (fun _ _ _ h => h) (Or.inl ⟨by rfl, fun w hSw => by have f0 := HC6.out.2.2.2; subst hSw; go_simp⟩) hH ?_
              try simp only [Act.put, List.setIfInBounds_toArray, List.set_cons_zero, List.set_cons_succ, List.getElem_toArray, List.getElem_cons_succ, List.getElem_cons_zero]
              refine wpAnyZ_take (i := 5) (v := .int .i64 (p : Int)) rfl (by kernel_rfl) (by kernel_rfl) (by kernel_rfl) (by kernel_rfl) (fun _ _ _ h => h) (Or.inl ⟨by rfl, fun w hSw => by go_simp⟩) hH ?_
              try simp only [Act.put, List.setIfInBounds_toArray, List.set_cons_zero, List.set_cons_succ, List.getElem_toArray, List.getElem_cons_succ, List.getElem_cons_zero]
              refine wpAnyZ_take (i := 6) (v := .pointer (some ⟨cg, p * 4, none⟩)) rfl (by kernel_rfl) (by kernel_rfl) (by kernel_rfl) (by kernel_rfl) (fun _ _ _ h => h) (Or.inl ⟨by rfl, fun w hSw => by have f0 := hpi; go_simp⟩) hH ?_
              try simp only [Act.put, List.setIfInBounds_toArray, List.set_cons_zero, List.set_cons_succ, List.getElem_toArray, List.getElem_cons_succ, List.getElem_cons_zero]
              refine wpAnyZ_take (i := 7) (v := .pointer (some ⟨cg, p * 4 + 2, none⟩)) rfl (by kernel_rfl) (by kernel_rfl) (by kernel_rfl) (by kernel_rfl) (fun _ _ _ h => h) (Or.inl ⟨by rfl, fun w hSw => by go_simp⟩) hH ?_
              try simp only [Act.put, List.setIfInBounds_toArray, List.set_cons_zero, List.set_cons_succ, List.getElem_toArray, List.getElem_cons_succ, List.getElem_cons_zero]
              refine wpAnyZ_take (i := 8) (v := .int .i64 (c0.ld)) rfl (by kernel_rfl) (by kernel_rfl) (by kernel_rfl) (by kernel_rfl) (fun _ _ _ h => h) (Or.inl ⟨by rfl, fun w hSw => by have f0 := HC6.out.1.1; subst hSw; go_simp⟩) hH ?_
              try simp only [Act.put, List.setIfInBounds_toArray, List.set_cons_zero, List.set_cons_succ, List.getElem_toArray, List.getElem_cons_succ, List.getElem_cons_zero]
              refine wpAnyZ_take (i := 9) (v := .pointer (some ⟨lb, 0, none⟩)) rfl (by kernel_rfl) (by kernel_rfl) (by kernel_rfl) (by kernel_rfl) (fun _ _ _ h => h) (Or.inl ⟨by rfl, fun w hSw => by go_simp⟩) hH ?_
              try simp only [Act.put, List.setIfInBounds_toArray, List.set_cons_zero, List.set_cons_succ, List.getElem_toArray, List.getElem_cons_succ, List.getElem_cons_zero]
              refine wpAnyZ_take (i := 10) (v := .slice (some ⟨cg, 0, none⟩) cs.length vc) rfl (by kernel_rfl) (by kernel_rfl) (by kernel_rfl) (by kernel_rfl) (fun _ _ _ h => h) (Or.inl ⟨by rfl, fun w hSw => by have f0 := HC6.out.2.2.2; subst hSw; go_simp⟩) hH ?_
              try simp only [Act.put, List.setIfInBounds_toArray, List.set_cons_zero, List.set_cons_succ, List.getElem_toArray, List.getElem_cons_succ, List.getElem_cons_zero]
              refine wpAnyZ_take (i := 11) (v := .int .i64 (p : Int)) rfl (by kernel_rfl) (by kernel_rfl) (by kernel_rfl) (by kernel_rfl) (fun _ _ _ h => h) (Or.inl ⟨by rfl, fun w hSw => by go_simp⟩) hH ?_
              try simp only [Act.put, List.setIfInBounds_toArray, List.set_cons_zero, List.set_cons_succ, List.getElem_toArray, List.getElem_cons_succ, List.getElem_cons_zero]
              refine wpAnyZ_take (i := 12) (v := .pointer (some ⟨cg, p * 4, none⟩)) rfl (by kernel_rfl) (by kernel_rfl) (by kernel_rfl) (by kernel_rfl) (fun _ _ _ h => h) (Or.inl ⟨by rfl, fun w hSw => by have f0 := hpi; go_simp⟩) hH ?_
              try simp only [Act.put, List.setIfInBounds_toArray, List.set_cons_zero, List.set_cons_succ, List.getElem_toArray, List.getElem_cons_succ, List.getElem_cons_zero]
              refine wpAnyZ_take (i := 13) (v := .pointer (some ⟨cg, p * 4 + 3, none⟩)) rfl (by kernel_rfl) (by kernel_rfl) (by kernel_rfl) (by kernel_rfl) (fun _ _ _ h => h) (Or.inl ⟨by rfl, fun w hSw => by go_simp⟩) hH ?_
              try simp only [Act.put, List.setIfInBounds_toArray, List.set_cons_zero, List.set_cons_succ, List.getElem_toArray, List.getElem_cons_succ, List.getElem_cons_zero]
              refine wpAnyZ_take (i := 14) (v := .int .i64 (c0.sp + e5)) rfl (by kernel_rfl) (by kernel_rfl) (by kernel_rfl) (by kernel_rfl) (fun _ _ _ h => h) (Or.inl ⟨by rfl, fun w hSw => by have f0 := HC6.out.1.2; subst hSw; go_simp⟩) hH ?_
              try simp only [Act.put, List.setIfInBounds_toArray, List.set_cons_zero, List.set_cons_succ, List.getElem_toArray, List.getElem_cons_succ, List.getElem_cons_zero]
              refine wpAnyZ_take (i := 15) (v := .int .i64 nlf) rfl (by kernel_rfl) (by kernel_rfl) (by kernel_rfl) (by kernel_rfl) (fun _ _ _ h => h) (Or.inl ⟨by rfl, fun w hSw => by have f0 := hwn; go_simp⟩) hH ?_
              try simp only [Act.put, List.setIfInBounds_toArray, List.set_cons_zero, List.set_cons_succ, List.getElem_toArray, List.getElem_cons_succ, List.getElem_cons_zero]
              refine wpAnyZ_take (i := 16) (v := .pointer (some ⟨cg, p * 4, none⟩)) rfl (by kernel_rfl) (by kernel_rfl) (by kernel_rfl) (by kernel_rfl) (fun _ _ _ h => h) (Or.inl ⟨by rfl, fun w hSw => by have f0 := hpi; go_simp⟩) hH ?_
              try simp only [Act.put, List.setIfInBounds_toArray, List.set_cons_zero, List.set_cons_succ, List.getElem_toArray, List.getElem_cons_succ, List.getElem_cons_zero]
              refine wpAnyZ_take (i := 17) (v := .pointer (some ⟨cg, p * 4 + 1, none⟩)) rfl (by kernel_rfl) (by kernel_rfl) (by kernel_rfl) (by kernel_rfl) (fun _ _ _ h => h) (Or.inl ⟨by rfl, fun w hSw => by go_simp⟩) hH ?_
              try simp only [Act.put, List.setIfInBounds_toArray, List.set_cons_zero, List.set_cons_succ, List.getElem_toArray, List.getElem_cons_succ, List.getElem_cons_zero]
              refine wpAnyZ_ready (rs := [18]) (by kernel_rfl) (by simp) ?_
              refine AllReadyZ.cons rfl (fun K hK => ?_) AllReadyZ.nil
              obtain ⟨y0, ⟨v1, y1⟩, y2, y3⟩ := HC6.out
              go_simp
              refine hK.out _ _ (Or.inl rfl) (fun _ => ?_)
              clear hK K
              try simp only [Act.put, List.setIfInBounds_toArray, List.set_cons_zero, List.set_cons_succ, List.getElem_toArray, List.getElem_cons_succ, List.getElem_cons_zero]
              refine wpAnyZ_done (by kernel_rfl) ?_ _
              clear y0 y1 y2 y3 HC6 hH
              obtain ⟨hx7, hbx7, hB7⟩ := HN6.out _ rfl
              generalize Wd.setCell ⟨cg, p * 4 + 1, none⟩ (.int .i64 (nlf)) = w7 at *
              have HX7 : Hid (LgX lb lb cs (((cdCells cs).set (p * 4 + 3) (.int .i64 (c0.sp + e5))).set (p * 4 + 1) (.int .i64 (nlf))) g cg vc (.slice ua g.us.length uc) (.slice fa g.fs.length fc) w7) := hx7
              have HBX7 : Hid (w7.heap[bb]? = some (.cells #[.int .i64 e0, .int .i64 e1, .int .i64 e2, .int .i64 e3, .string e4, .int .i64 e5] 35 (0, 0))) := hbx7
              have HB7 : Hid (Below lb W2 w7) := hB7
              clear hx7 hbx7 hB7 HN6 HX6 HBX6 HB6
              have HE : Hid (LgM lb lb ⟨cs.set p (spC c0 e5), g.us, g.fs⟩ (.slice (some ⟨cg, 0, none⟩) cs.length vc) (.slice ua g.us.length uc) (.slice fa g.fs.length fc) w7) := HX7.out.done (by rw [HNl.out, HC0.out]; exact cells_sp cs p hp2 e5) (by rw [List.length_set])
              clear HX7 HBX7
              go_wp2
              first
              | exact ⟨⟨k + 1, _, _, _, by omega, by go_num, by rw [HT3.out]; exact HE.out, HB7.out⟩, by simp [intOf]; omega⟩
              | (go_roundw
                 case rel => exact ⟨k + 1, _, _, _, by omega, by go_num, by rw [HT3.out]; exact HE.out, HB7.out⟩
                 case measure => simp [intOf]; omega)
    · obtain rfl : k = rs.length := by omega
      have hbk : wr.heap[wa.heap.size]? = some (.cells zLg 31 (0, 0)) := (HB.out.block _ hlt0).trans H2.out.2.2
      generalize lgAt rs rs.length = g at *
      have x0 : wr.cell? ⟨lb, 0, none⟩ = some (.slice ca g.cs.length cc) := blkCell HM.out.box 0 _ rfl
      have x1 : wr.cell? ⟨lb, 1, none⟩ = some (.slice ua g.us.length uc) := blkCell HM.out.box 1 _ rfl
      have x2 : wr.cell? ⟨lb, 2, none⟩ = some (.slice fa g.fs.length fc) := blkCell HM.out.box 2 _ rfl
      have r0 : wr.cell? ⟨wa.heap.size, 0, none⟩ = some (.slice none 0 0) := blkCell hbk 0 _ rfl
      have r1 : wr.cell? ⟨wa.heap.size, 1, none⟩ = some (.slice none 0 0) := blkCell hbk 1 _ rfl
      have r2 : wr.cell? ⟨wa.heap.size, 2, none⟩ = some (.slice none 0 0) := blkCell hbk 2 _ rfl
      have g0 := blkFree hbk 0
      have g1 := blkFree hbk 1
      have g2 := blkFree hbk 2
      have hwl : wa.heap.size < wr.heap.size := blkLt hbk
      have HS4 := set3L wr wa.heap.size (.slice ca g.cs.length cc) (.slice ua g.us.length uc) (.slice fa g.fs.length fc) zLg 31 rfl hbk
      have H4 : Hid (∀ WE, WE = (((wr.setCell ⟨wa.heap.size, 0, none⟩ (.slice ca g.cs.length cc)).setCell ⟨wa.heap.size, 1, none⟩ (.slice ua g.us.length uc)).setCell ⟨wa.heap.size, 2, none⟩ (.slice fa g.fs.length fc)) → WE.heap[wa.heap.size]? = some (.cells #[.slice ca g.cs.length cc, .slice ua g.us.length uc, .slice fa g.fs.length fc] 31 (0, 0)) ∧ (∀ q, q ≠ wa.heap.size → WE.heap[q]? = wr.heap[q]?) ∧ ∀ B, B ≤ wa.heap.size → Below B wr WE) := HS4
      clear hbk HS4
      go_wp2
      obtain ⟨WE, hWE⟩ : ∃ WE, WE = (((wr.setCell ⟨wa.heap.size, 0, none⟩ (.slice ca g.cs.length cc)).setCell ⟨wa.heap.size, 1, none⟩ (.slice ua g.us.length uc)).setCell ⟨wa.heap.size, 2, none⟩ (.slice fa g.fs.length fc)) := ⟨_, rfl⟩
      rw [← hWE]
      have HE4 : Hid (WE.heap[wa.heap.size]? = some (.cells #[.slice ca g.cs.length cc, .slice ua g.us.length uc, .slice fa g.fs.length fc] 31 (0, 0)) ∧ (∀ q, q ≠ wa.heap.size → WE.heap[q]? = wr.heap[q]?) ∧ ∀ B, B ≤ wa.heap.size → Below B wr WE) := H4.out WE hWE
      have z0 : WE.cell? ⟨wa.heap.size, 0, none⟩ = some (.slice ca g.cs.length cc) := blkCell HE4.out.1 0 _ rfl
      have z1 : WE.cell? ⟨wa.heap.size, 1, none⟩ = some (.slice ua g.us.length uc) := blkCell HE4.out.1 1 _ rfl
      have z2 : WE.cell? ⟨wa.heap.size, 2, none⟩ = some (.slice fa g.fs.length fc) := blkCell HE4.out.1 2 _ rfl
      clear hWE
      refine bodyPost_ret (v := .tuple #[.agg #[.slice ca g.cs.length cc, .slice ua g.us.length uc, .slice fa g.fs.length fc], .int .i64 0]) (by simp [results, Try.results16, go_sem, z0, z1, z2]) rfl ?_
      have hq : ∀ (v : Value) (t : TypeId) (m n : Nat) (xs : List Value), wr.ownsRow lb t m v n xs → WE.ownsRow wa.heap.size t m v n xs := fun v t m n xs h => ownsRow_low (row_of h (fun q hq => HE4.out.2.1 q (fun e => by have := (row_lt h q hq).1; omega))) (Nat.le_of_lt hlt0)
      exact ⟨ca, ua, fa, cc, uc, fc, rfl, hq _ _ _ _ _ HM.out.crow, hq _ _ _ _ _ HM.out.urow, hq _ _ _ _ _ HM.out.frow, HBa.out.trans (HE4.out.2.2 _ (Nat.le_refl _))⟩
end Go.Proofs.Ytabghjlmmpckdaa

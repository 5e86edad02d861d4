/-
  The contract of the program's LedgerOf, for every list of events.
-/
import Derived.Test.YtabghjlmmpckdaaLgC
import Derived.Test.YtabghjlmmpckdaaRow1
namespace Go.Proofs.Ytabghjlmmpckdaa
open Go.ChangeShapes Go.WideShapes Go.ChangeAt Go.RowKit Go.Deep
set_option linter.unusedVariables false

def zLg : Array Value := #[.slice none 0 0, .slice none 0 0, .slice none 0 0]
/-- What LedgerOf answers. -/
def LgP (w : World) (t : Lg) (c : Int) (e : Ending) (w' : World) : Prop := ∃ (ca ua fa : Option Addr) (cc uc fc : Nat), e = .returned (.tuple #[.agg #[.slice ca t.cs.length cc, .slice ua t.us.length uc, .slice fa t.fs.length fc], .int .i64 c]) ∧ w'.ownsRow w.heap.size 39 4 (.slice ca t.cs.length cc) t.cs.length (cdCells t.cs) ∧ w'.ownsRow w.heap.size 9 1 (.slice ua t.us.length uc) t.us.length (t.us.map .string) ∧ w'.ownsRow w.heap.size 3 1 (.slice fa t.fs.length fc) t.fs.length (t.fs.map nVl) ∧ Below w.heap.size w w'
theorem lgP_none (w : World) (c : Int) (w' : World) (hb : Below w.heap.size w w') : LgP w noLg c (.returned (.tuple #[.agg #[.slice none 0 0, .slice none 0 0, .slice none 0 0], .int .i64 c])) w' :=
  ⟨none, none, none, 0, 0, 0, rfl, ⟨rfl, .inl ⟨rfl, rfl⟩⟩, ⟨rfl, .inl ⟨rfl, rfl⟩⟩, ⟨rfl, .inl ⟨rfl, rfl⟩⟩, hb⟩
theorem ownsRow_low {w : World} {B B' : Nat} {e : TypeId} {k : Nat} {v : Value} {n : Nat} {xs : List Value} (h : w.ownsRow B e k v n xs) (hb : B' ≤ B) : w.ownsRow B' e k v n xs := by
  refine ⟨h.1, ?_⟩
  rcases h.2 with h2 | ⟨g, cap, cur, e, hB, r⟩
  · exact .inl h2
  · exact .inr ⟨g, cap, cur, e, by omega, r⟩
theorem set3L (W : World) (b : Nat) (a0 a1 a2 : Value) (cs : Array Value) (t : TypeId) (hs : cs.size = 3) (h : W.heap[b]? = some (.cells cs t (0, 0))) (WE : World) (hE : WE = ((W.setCell ⟨b, 0, none⟩ a0).setCell ⟨b, 1, none⟩ a1).setCell ⟨b, 2, none⟩ a2) :
    WE.heap[b]? = some (.cells #[a0, a1, a2] t (0, 0)) ∧ (∀ q, q ≠ b → WE.heap[q]? = W.heap[q]?) ∧ ∀ B, B ≤ b → Below B W WE := by
  subst hE
  refine ⟨?_, fun q hq => ?_, fun B hB => (((Below.refl B W).setCell hB _).setCell hB _).setCell hB _⟩
  · have h1 := Go.heap_setCell_same _ _ 0 _ _ a0 h
    have h2 := Go.heap_setCell_same _ _ 1 _ _ a1 h1
    have h3 := Go.heap_setCell_same _ _ 2 _ _ a2 h2
    rw [h3]
    obtain ⟨l⟩ := cs
    match l, hs with
    | [x0, x1, x2], _ => rfl
  · rw [Below.heap_setCell _ _ _ _ hq, Below.heap_setCell _ _ _ _ hq, Below.heap_setCell _ _ _ _ hq]
theorem lgM_none {W : World} {lb : Nat} (h : W.heap[lb]? = some (.cells zLg 31 (0, 0))) : LgM lb lb noLg (.slice none 0 0) (.slice none 0 0) (.slice none 0 0) W := ⟨h, ⟨rfl, .inl ⟨rfl, rfl⟩⟩, ⟨rfl, .inl ⟨rfl, rfl⟩⟩, ⟨rfl, .inl ⟨rfl, rfl⟩⟩⟩
set_option maxHeartbeats 16000000 in
set_option maxRecDepth 4000 in
theorem implLedger_any (a : Option Addr) (cap : Nat) (rs : List REv) (hl : rs.length ≤ 100000000) (hp : ∀ r ∈ rs, EvOK r) (wa : World) (hr : ReadsEv wa.heap.size wa a rs) :
    Calls Try.prog 8 #[.slice a rs.length cap] wa (LgP wa (lgR rs) (lgC rs)) := by
  have HR : Hid (ReadsEv wa.heap.size wa a rs) := hr
  have HOK : Hid (∀ r ∈ rs, EvOK r) := hp
  have HEv : Hid (∀ w, ReadsEv w.heap.size w a rs → Calls Try.prog 14 #[.slice a rs.length cap] w fun e w' => e = .returned (.bool (evAll rs)) ∧ Below w.heap.size w w') := fun w h => implEvents_any a cap rs hl hp w h
  obtain ⟨i0, hi, hzz⟩ := Option.map_eq_some_iff.1 intInfo
  simp only [Prod.mk.injEq] at hzz
  obtain ⟨hi0, hi1, hi2⟩ := hzz
  clear hr hp
  by_cases hlong : 4096 < rs.length
  · have hc : lgC rs = 2 := by unfold lgC; rw [if_pos hlong]
    have hr2 : lgR rs = noLg := by unfold lgR; rw [hc]; rfl
    rw [hc, hr2]
    have hlong' : (4096 : Int) < (rs.length : Int) := by omega
    clear hc hr2
    go_enter Try.func8, Try.ntmps8
    go_wp2
    refine bodyPost_ret (v := .tuple #[.agg #[.slice none 0 0, .slice none 0 0, .slice none 0 0], .int .i64 2]) (by simp [results, Try.results8, go_sem]) rfl ?_
    exact lgP_none _ _ _ (below_alloc _ _)
  have hshort : (rs.length : Int) ≤ 4096 := by omega
  have HCk : Hid (lgC rs = if evAll rs = true then 0 else 1) := by show _ = _; unfold lgC; rw [if_neg hlong]
  obtain ⟨W0, hW0⟩ : ∃ W0, W0 = wa.alloc (Obj.cells zLg 31) := ⟨_, rfl⟩
  have HW0 : Hid (Below wa.heap.size wa W0 ∧ W0.heap[wa.heap.size]? = some (.cells zLg 31 (0, 0))) := by rw [hW0]; exact ⟨below_alloc _ _, heapNew _ _⟩
  have hcl := HEv.out W0 (HR.out.later HW0.out.1)
  clear HEv
  obtain ⟨ok, hok⟩ : ∃ ok, evAll rs = ok := ⟨_, rfl⟩
  have HAl : Hid (evAll rs = ok) := hok
  rw [hok] at hcl HCk
  clear hok
  cases ok
  · have hc : lgC rs = 1 := by rw [HCk.out]; rfl
    have hr2 : lgR rs = noLg := by unfold lgR; rw [hc]; rfl
    rw [hc, hr2]
    clear hc hr2 HCk
    go_enter Try.func8, Try.ntmps8
    go_wp2_with fail
    go_at_call 14
    have hz : wa.alloc (Obj.cells #[.slice none 0 0, .slice none 0 0, .slice none 0 0] 31) = W0 := hW0.symm
    rw [hz]
    refine hcl.mono ?_
    rintro e w1 ⟨rfl, hb1⟩
    have hbk : w1.heap[wa.heap.size]? = some (.cells zLg 31 (0, 0)) := (hb1.block _ (blkLt HW0.out.2)).trans HW0.out.2
    have HBw : Hid (Below wa.heap.size wa w1) := chain HW0.out.1 hb1
    clear hb1 hcl hz hW0
    have r0 : w1.cell? ⟨wa.heap.size, 0, none⟩ = some (.slice none 0 0) := blkCell hbk 0 _ rfl
    have r1 : w1.cell? ⟨wa.heap.size, 1, none⟩ = some (.slice none 0 0) := blkCell hbk 1 _ rfl
    have r2 : w1.cell? ⟨wa.heap.size, 2, none⟩ = some (.slice none 0 0) := blkCell hbk 2 _ rfl
    have g0 := blkFree hbk 0
    have g1 := blkFree hbk 1
    have g2 := blkFree hbk 2
    have hwl : wa.heap.size < w1.heap.size := blkLt hbk
    have HS4 := set3L w1 wa.heap.size (.slice none 0 0) (.slice none 0 0) (.slice none 0 0) zLg 31 rfl hbk
    have H4 : Hid (∀ WE, WE = (((w1.setCell ⟨wa.heap.size, 0, none⟩ (.slice none 0 0)).setCell ⟨wa.heap.size, 1, none⟩ (.slice none 0 0)).setCell ⟨wa.heap.size, 2, none⟩ (.slice none 0 0)) → WE.heap[wa.heap.size]? = some (.cells #[.slice none 0 0, .slice none 0 0, .slice none 0 0] 31 (0, 0)) ∧ (∀ q, q ≠ wa.heap.size → WE.heap[q]? = w1.heap[q]?) ∧ ∀ B, B ≤ wa.heap.size → Below B w1 WE) := HS4
    clear hbk HS4
    go_wp2
    obtain ⟨WE, hWE⟩ : ∃ WE, WE = (((w1.setCell ⟨wa.heap.size, 0, none⟩ (.slice none 0 0)).setCell ⟨wa.heap.size, 1, none⟩ (.slice none 0 0)).setCell ⟨wa.heap.size, 2, none⟩ (.slice none 0 0)) := ⟨_, rfl⟩
    rw [← hWE]
    have HE4 : Hid (WE.heap[wa.heap.size]? = some (.cells #[.slice none 0 0, .slice none 0 0, .slice none 0 0] 31 (0, 0)) ∧ (∀ q, q ≠ wa.heap.size → WE.heap[q]? = w1.heap[q]?) ∧ ∀ B, B ≤ wa.heap.size → Below B w1 WE) := H4.out WE hWE
    have z0 : WE.cell? ⟨wa.heap.size, 0, none⟩ = some (.slice none 0 0) := blkCell HE4.out.1 0 _ rfl
    have z1 : WE.cell? ⟨wa.heap.size, 1, none⟩ = some (.slice none 0 0) := blkCell HE4.out.1 1 _ rfl
    have z2 : WE.cell? ⟨wa.heap.size, 2, none⟩ = some (.slice none 0 0) := blkCell HE4.out.1 2 _ rfl
    clear hWE
    refine bodyPost_ret (v := .tuple #[.agg #[.slice none 0 0, .slice none 0 0, .slice none 0 0], .int .i64 1]) (by simp [results, Try.results8, go_sem, z0, z1, z2]) rfl ?_
    exact lgP_none _ _ _ (HBw.out.trans (HE4.out.2.2 _ (Nat.le_refl _)))
  have hc : lgC rs = 0 := by rw [HCk.out]; rfl
  have hr2 : lgR rs = lgAt rs rs.length := by unfold lgR; rw [if_pos hc]
  rw [hc, hr2]
  clear hc hr2 HCk
  have HGo : Hid (evGo rs rs.length = true ∧ rs.length ≤ 120) := by
    have h := HAl.out
    unfold evAll at h
    rw [Bool.and_eq_true] at h
    exact ⟨h.2, of_decide_eq_true h.1⟩
  have h120 := HGo.out.2
  go_enter Try.func8, Try.ntmps8
  go_wp2_with fail
  go_at_call 14
  have hz : wa.alloc (Obj.cells #[.slice none 0 0, .slice none 0 0, .slice none 0 0] 31) = W0 := hW0.symm
  rw [hz]
  refine hcl.mono ?_
  rintro e w1 ⟨rfl, hb1⟩
  have HB1 : Hid (Below wa.heap.size wa w1 ∧ w1.heap[wa.heap.size]? = some (.cells zLg 31 (0, 0))) := ⟨chain HW0.out.1 hb1, (hb1.block _ (blkLt HW0.out.2)).trans HW0.out.2⟩
  clear hb1 hcl hz hW0 HW0
  obtain ⟨lb, hlb⟩ : ∃ lb, lb = w1.heap.size := ⟨_, rfl⟩
  have hlt0 : wa.heap.size < lb := by rw [hlb]; exact blkLt HB1.out.2
  go_wp2
  obtain ⟨W2, hW2⟩ : ∃ W2, W2 = w1.alloc (Obj.cells #[.slice none 0 0, .slice none 0 0, .slice none 0 0] 31) := ⟨_, rfl⟩
  have H2 : Hid (LgM lb lb noLg (.slice none 0 0) (.slice none 0 0) (.slice none 0 0) W2 ∧ Below wa.heap.size wa W2 ∧ W2.heap[wa.heap.size]? = some (.cells zLg 31 (0, 0))) := by
    have hb := below_alloc w1 (Obj.cells #[.slice none 0 0, .slice none 0 0, .slice none 0 0] 31)
    have hn := heapNew w1 (Obj.cells #[.slice none 0 0, .slice none 0 0, .slice none 0 0] 31)
    rw [← hW2] at hb hn
    rw [← hlb] at hn
    exact ⟨lgM_none hn, chain HB1.out.1 hb, (hb.block _ (by omega)).trans HB1.out.2⟩
  rw [← hW2, ← hlb]
  clear hW2 HB1 hlb
  go_loopw [5, 6, 17] (fun _ _ c wr => ∃ (k : Nat) (cv uv fv : Value), k ≤ rs.length ∧ c = .int .i64 (k : Int) ∧ LgM lb lb (lgAt rs k) cv uv fv wr ∧ Below lb W2 wr) (fun _ _ c _ => rs.length - (intOf c).toNat)
  case atStart => exact ⟨0, _, _, _, Nat.zero_le _, rfl, H2.out.1, Below.refl _ _⟩
  case round =>
    obtain ⟨k, cv, uv, fv, hk, rfl, hM, hB⟩ := hrel
    have HM : Hid (LgM lb lb (lgAt rs k) cv uv fv wr) := hM
    have HB : Hid (Below lb W2 wr) := hB
    have HBa : Hid (Below wa.heap.size wa wr) := H2.out.2.1.trans (hB.mono (Nat.le_of_lt hlt0))
    have HOk : Hid (LgOK k (lgAt rs k)) := lgAt_ok k (evGo_le HGo.out.1 hk)
    have hfl := HOk.out.fl
    have hcl := HOk.out.cl
    have hul := HOk.out.ul
    have hlw : lb < wr.heap.size := blkLt hM.box
    obtain ⟨fa, fc, rfl⟩ := row_slice hM.frow
    obtain ⟨ca, cc, rfl⟩ := row_slice hM.crow
    obtain ⟨ua, uc, rfl⟩ := row_slice hM.urow
    clear hM hB
    by_cases hlt : k < rs.length
    · have hlt' : (k : Int) < (rs.length : Int) := by omega
      rcases HR.out with h | ⟨b0, o0, ha, hB0, ia⟩
      · rw [h] at hlt; simp at hlt
      subst ha
      obtain ⟨c0, c1, c2, c3, c4, c5⟩ := (ia.below HBa.out hB0) k hlt
      have hb0 : b0 < wr.heap.size := Nat.lt_of_lt_of_le hB0 HBa.out.size
      clear ia
      have hW : EvOK (rs.getD k zEv) := getEv HOK.out hlt
      have hone := evStep_one (evGo_at HGo.out.1 hlt)
      have HNx : Hid (lgAt rs (k + 1) = lgRef k (lgTake (lgAt rs k) (rs.getD k zEv).kd (rs.getD k zEv).cd (rs.getD k zEv).am)) := rfl
      generalize lgAt rs k = g at *
      generalize rs.getD k zEv = ev at *
      obtain ⟨e0, e1, e2, e3, e4, e5⟩ := ev
      dsimp only at c0 c1 c2 c3 c4 c5 HNx
      have hkd : e3 = 3 ∨ ((e3 = 1 ∨ e3 = 2) ∧ 1 ≤ e5 ∧ e5 ≤ 1000000) := by
        unfold evOne at hone
        simp only [Bool.and_eq_true] at hone
        obtain ⟨_, _, _, _, h5⟩ := hone
        unfold evAmt at h5
        by_cases h3 : e3 = 3
        · exact .inl h3
        · rw [if_neg h3, Bool.and_eq_true] at h5
          exact .inr ⟨of_decide_eq_true h5.1, of_decide_eq_true h5.2⟩
      clear hone
      have hTk := lgTakes_any lb g e0 e1 e2 e3 e4 e5 k (by omega) HOk.out hkd hW (.slice ca g.cs.length cc) (.slice ua g.us.length uc) (.slice fa g.fs.length fc) (wr.alloc (Obj.cells #[.int .i64 e0, .int .i64 e1, .int .i64 e2, .int .i64 e3, .string e4, .int .i64 e5] 35)) (HM.out.later (below_alloc _ _))
      have HFs : Hid ((lgTake g e3 e4 e5).2.fs = g.fs) := lgTake_fs g e3 e4 e5
      have HBb : Hid (Below lb W2 (wr.alloc (Obj.cells #[.int .i64 e0, .int .i64 e1, .int .i64 e2, .int .i64 e3, .string e4, .int .i64 e5] 35))) := HB.out.trans ((below_alloc _ _).mono (by omega))
      generalize lgTake g e3 e4 e5 = t at *
      unfold TkP at hTk
      obtain ⟨tb, g2⟩ := t
      dsimp only at hTk HFs
      clear HM hkd hW
      go_wp2_with fail
      go_at_call 26
      refine hTk.mono ?_
      rintro e w3 ⟨cv2, uv2, rfl, hM3, hB3⟩
      have HB3 : Hid (Below lb W2 w3) := HBb.out.trans hB3
      obtain ⟨ca2, cc2, rfl⟩ := row_slice hM3.crow
      obtain ⟨ua2, uc2, rfl⟩ := row_slice hM3.urow
      rw [← HFs.out] at hM3 hfl
      have HM3 : Hid (LgM lb lb g2 (.slice ca2 g2.cs.length cc2) (.slice ua2 g2.us.length uc2) (.slice fa g2.fs.length fc) w3) := hM3
      clear hTk hB3 hM3 HBb HB c0 c1 c2 c3 c4 c5
      cases tb
      · have HE : Hid (lgAt rs (k + 1) = ⟨g2.cs, g2.us, g2.fs ++ [k]⟩) := HNx.out
        have y2 : w3.cell? ⟨lb, 2, none⟩ = some (.slice fa g2.fs.length fc) := blkCell HM3.out.box 2 _ rfl
        have hl3 : lb < w3.heap.size := blkLt HM3.out.box
        have HM4 : Hid (LgM lb lb g2 (.slice ca2 g2.cs.length cc2) (.slice ua2 g2.us.length uc2) (.slice fa g2.fs.length fc) (w3.alloc (Obj.cells #[.int .i64 (k : Int)] 3))) := HM3.out.later (below_alloc _ _)
        have HB4 : Hid (Below lb W2 (w3.alloc (Obj.cells #[.int .i64 (k : Int)] 3))) := HB3.out.trans ((below_alloc _ _).mono (by omega))
        have hB4 : lb ≤ (w3.alloc (Obj.cells #[.int .i64 (k : Int)] 3)).heap.size := by have := blkLt HM4.out.box; omega
        clear HNx HM3 HB3 HFs
        go_wp2_with (at_builtin; refine wpList_append_any rfl _ _ 29 rfl lb 3 i0 (.int .i64 0) 1 8 Try.underlying29 hi hi0 hi1 hi2 rfl (by decide) _ _ _ rfl HM4.out.frow (some ⟨w3.heap.size, 0, none⟩) 1 1 [nVl k] rfl rfl (fun _ => ⟨_, rfl, newsOne w3 _ _⟩) (by intro u hu; simp at hu; subst hu; rfl) (by unfold maxLen; omega) (by omega) hB4 ?_; intro va vc w5 hown hgr hat; have HT := HM4.out.addF hown hgr; have HT1 : Hid (LgM lb lb ⟨g2.cs, g2.us, g2.fs ++ [k]⟩ (.slice ca2 g2.cs.length cc2) (.slice ua2 g2.us.length uc2) (.slice va (g2.fs.length + 1) vc) (w5.setCell ⟨lb, 2, none⟩ (.slice va (g2.fs.length + 1) vc))) := HT.2; have z1 := blkCell HT.1 2 _ rfl; have f1 := blkFree HT.1 2; have hl5 : lb < w5.heap.size := blkLt HT.1; have HB5 : Hid (Below lb W2 (w5.setCell ⟨lb, 2, none⟩ (.slice va (g2.fs.length + 1) vc))) := (HB4.out.grown hgr (by have := blkLt HM4.out.box; omega) (fun q hq => (row_lt HM4.out.frow q hq).1)).setCell (Nat.le_refl _) _; clear HT hown hgr hat)
        exact ⟨⟨k + 1, _, _, _, by omega, by go_num, by rw [HE.out]; exact HT1.out, HB5.out⟩, by simp [intOf]; omega⟩
      · have HE : Hid (lgAt rs (k + 1) = g2) := HNx.out
        clear HNx HFs
        go_wp2
        exact ⟨⟨k + 1, _, _, _, by omega, by go_num, by rw [HE.out]; exact HM3.out, HB3.out⟩, by simp [intOf]; omega⟩
    · obtain rfl : k = rs.length := by omega
      have hbk : wr.heap[wa.heap.size]? = some (.cells zLg 31 (0, 0)) := (HB.out.block _ hlt0).trans H2.out.2.2
      generalize lgAt rs rs.length = g at *
      have x0 : wr.cell? ⟨lb, 0, none⟩ = some (.slice ca g.cs.length cc) := blkCell HM.out.box 0 _ rfl
      have x1 : wr.cell? ⟨lb, 1, none⟩ = some (.slice ua g.us.length uc) := blkCell HM.out.box 1 _ rfl
      have x2 : wr.cell? ⟨lb, 2, none⟩ = some (.slice fa g.fs.length fc) := blkCell HM.out.box 2 _ rfl
      have r0 : wr.cell? ⟨wa.heap.size, 0, none⟩ = some (.slice none 0 0) := blkCell hbk 0 _ rfl
      have r1 : wr.cell? ⟨wa.heap.size, 1, none⟩ = some (.slice none 0 0) := blkCell hbk 1 _ rfl
      have r2 : wr.cell? ⟨wa.heap.size, 2, none⟩ = some (.slice none 0 0) := blkCell hbk 2 _ rfl
      have g0 := blkFree hbk 0
      have g1 := blkFree hbk 1
      have g2 := blkFree hbk 2
      have hwl : wa.heap.size < wr.heap.size := blkLt hbk
      have HS4 := set3L wr wa.heap.size (.slice ca g.cs.length cc) (.slice ua g.us.length uc) (.slice fa g.fs.length fc) zLg 31 rfl hbk
      have H4 : Hid (∀ WE, WE = (((wr.setCell ⟨wa.heap.size, 0, none⟩ (.slice ca g.cs.length cc)).setCell ⟨wa.heap.size, 1, none⟩ (.slice ua g.us.length uc)).setCell ⟨wa.heap.size, 2, none⟩ (.slice fa g.fs.length fc)) → WE.heap[wa.heap.size]? = some (.cells #[.slice ca g.cs.length cc, .slice ua g.us.length uc, .slice fa g.fs.length fc] 31 (0, 0)) ∧ (∀ q, q ≠ wa.heap.size → WE.heap[q]? = wr.heap[q]?) ∧ ∀ B, B ≤ wa.heap.size → Below B wr WE) := HS4
      clear hbk HS4
      go_wp2
      obtain ⟨WE, hWE⟩ : ∃ WE, WE = (((wr.setCell ⟨wa.heap.size, 0, none⟩ (.slice ca g.cs.length cc)).setCell ⟨wa.heap.size, 1, none⟩ (.slice ua g.us.length uc)).setCell ⟨wa.heap.size, 2, none⟩ (.slice fa g.fs.length fc)) := ⟨_, rfl⟩
      rw [← hWE]
      have HE4 : Hid (WE.heap[wa.heap.size]? = some (.cells #[.slice ca g.cs.length cc, .slice ua g.us.length uc, .slice fa g.fs.length fc] 31 (0, 0)) ∧ (∀ q, q ≠ wa.heap.size → WE.heap[q]? = wr.heap[q]?) ∧ ∀ B, B ≤ wa.heap.size → Below B wr WE) := H4.out WE hWE
      have z0 : WE.cell? ⟨wa.heap.size, 0, none⟩ = some (.slice ca g.cs.length cc) := blkCell HE4.out.1 0 _ rfl
      have z1 : WE.cell? ⟨wa.heap.size, 1, none⟩ = some (.slice ua g.us.length uc) := blkCell HE4.out.1 1 _ rfl
      have z2 : WE.cell? ⟨wa.heap.size, 2, none⟩ = some (.slice fa g.fs.length fc) := blkCell HE4.out.1 2 _ rfl
      clear hWE
      refine bodyPost_ret (v := .tuple #[.agg #[.slice ca g.cs.length cc, .slice ua g.us.length uc, .slice fa g.fs.length fc], .int .i64 0]) (by simp [results, Try.results8, go_sem, z0, z1, z2]) rfl ?_
      have hq : ∀ (v : Value) (t : TypeId) (m n : Nat) (xs : List Value), wr.ownsRow lb t m v n xs → WE.ownsRow wa.heap.size t m v n xs := fun v t m n xs h => ownsRow_low (row_of h (fun q hq => HE4.out.2.1 q (fun e => by have := (row_lt h q hq).1; omega))) (Nat.le_of_lt hlt0)
      exact ⟨ca, ua, fa, cc, uc, fc, rfl, hq _ _ _ _ _ HM.out.crow, hq _ _ _ _ _ HM.out.urow, hq _ _ _ _ _ HM.out.frow, HBa.out.trans (HE4.out.2.2 _ (Nat.le_refl _))⟩
end Go.Proofs.Ytabghjlmmpckdaa

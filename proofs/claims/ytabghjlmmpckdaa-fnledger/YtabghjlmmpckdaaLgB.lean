/-
  Contracts of the program's cardPlace and uses: a ledger's cards and coupons.
-/
import Derived.Test.YtabghjlmmpckdaaLgA
import Derived.Test.YtabghjlmmpckdaaRegZ
import Derived.Test.YtabghjlmmpckdaaShelf
import Derived.Laws.EntriesVeiled
namespace Go.Proofs.Ytabghjlmmpckdaa
open Go.ChangeShapes Go.WideShapes Go.ChangeAt Go.RowKit Go.Deep
set_option linter.unusedVariables false

theorem row_cds {W : World} {B cp : Nat} {a : Option Addr} {cs : List RCd} (h : W.ownsRow B 39 4 (.slice a cs.length cp) cs.length (cdCells cs)) : ReadsCd W.heap.size W a cs := by
  rcases Nat.eq_zero_or_pos cs.length with h0 | h0
  · exact .inl (List.eq_nil_of_length_eq_zero h0)
  · obtain ⟨g, c, hq⟩ := row_some h h0
    simp only [Value.slice.injEq, true_and] at hq
    obtain ⟨rfl, rfl⟩ := hq
    refine .inr ⟨g, 0, rfl, (row_lt h g rfl).2, fun i hi => ?_⟩
    have hc : ∀ j, j < 4 → W.cell? ⟨g, 0 + i * 4 + j, none⟩ = (cdC (cs.getD i zCd))[j]? := fun j hj => by
      rw [Nat.zero_add, h.cellAt (i * 4 + j) (by omega), cdCells_get cs i j hi hj]
    exact ⟨hc 0 (by omega), hc 1 (by omega), hc 2 (by omega), hc 3 (by omega)⟩
theorem row_strs {W : World} {B cp : Nat} {a : Option Addr} {us : List ByteArray} (h : W.ownsRow B 9 1 (.slice a us.length cp) us.length (us.map .string)) : ReadsS W.heap.size W a us := by
  rcases Nat.eq_zero_or_pos us.length with h0 | h0
  · exact .inl (List.eq_nil_of_length_eq_zero h0)
  · obtain ⟨g, c, hq⟩ := row_some h h0
    simp only [Value.slice.injEq, true_and] at hq
    obtain ⟨rfl, rfl⟩ := hq
    refine .inr ⟨g, 0, rfl, (row_lt h g rfl).2, fun i hi => ?_⟩
    rw [Nat.zero_add, h.cellAt i (by omega)]
    simp [List.getD_eq_getElem?_getD, hi]
theorem lgClone_any (s : ByteArray) (hs : s.size ≤ 2000000) (w : World) :
    Calls Try.prog 62 #[.string s] w fun e w' => e = .returned (.string s) ∧ Below w.heap.size w w' := by
  have hc := fun w => Try.stringslite_Clone s w (by omega)
  go_enter Try.func62, Try.ntmps62
  go_wp2_with (go_at_call 70; refine (hc _).mono ?_; rintro e w1 ⟨rfl, hb1⟩)
  go_ret
  exact ⟨rfl, hb1⟩
theorem cdClo_any (r0 : ByteArray) (r1 r2 r3 : Int) (nm : ByteArray) (nb : Nat) (w : World) (hn : w.cell? ⟨nb, 0, none⟩ = some (.string nm)) (hl : nb < w.heap.size) :
    Calls Try.prog 64 #[.agg #[.string r0, .int .i64 r1, .int .i64 r2, .int .i64 r3], .pointer (some ⟨nb, 0, none⟩)] w fun e w' => e = .returned (.bool (r0.toList == nm.toList)) ∧ Below w.heap.size w w' := by
  go_enter Try.func64, Try.ntmps64
  go_wp2
  go_ret
  exact ⟨rfl, below_alloc _ _⟩
set_option maxHeartbeats 4000000 in
theorem cdIndex_any (a : Option Addr) (cap : Nat) (cs : List RCd) (hl : cs.length ≤ 100000000) (nm : ByteArray) (nb : Nat) (w : World) (hr : ReadsCd w.heap.size w a cs) (hn : w.cell? ⟨nb, 0, none⟩ = some (.string nm)) (hnl : nb < w.heap.size) :
    Calls Try.prog 63 #[.slice a cs.length cap, .func (.func 64) #[] #[.pointer (some ⟨nb, 0, none⟩)]] w fun e w' => e = .returned (.int .i64 (ixI (cdIx cs nm))) ∧ Below w.heap.size w w' := by
  have HR : Hid (ReadsCd w.heap.size w a cs) := hr
  have HNm : Hid (w.cell? ⟨nb, 0, none⟩ = some (.string nm)) := hn
  obtain ⟨ans, hans⟩ : ∃ ans, cdIx cs nm = ans := ⟨_, rfl⟩
  rw [hans]
  have HA : Hid (cdIx cs nm = ans) := hans
  clear hr hn hans
  go_enter Try.func63, Try.ntmps63
  go_wp2
  go_loopw [5, 8] (fun _ c wr => ∃ k : Nat, k ≤ cs.length ∧ c = .int .i64 (k : Int) ∧ (∀ j, j < k → ((cs.getD j zCd).nm.toList == nm.toList) = false) ∧ Below w.heap.size w wr) (fun _ c _ => cs.length - (intOf c).toNat)
  case atStart => exact ⟨0, Nat.zero_le _, rfl, fun j hj => by omega, Below.refl _ _⟩
  case round =>
    obtain ⟨k, hk, rfl, hf, hb⟩ := hrel
    have HF : Hid (∀ j, j < k → ((cs.getD j zCd).nm.toList == nm.toList) = false) := hf
    have HB : Hid (Below w.heap.size w wr) := hb
    clear hf hb
    by_cases hlt : k < cs.length
    · have hlt' : (k : Int) < (cs.length : Int) := by omega
      rcases HR.out with h | ⟨b0, o0, ha, hB0, ia⟩
      · rw [h] at hlt; simp at hlt
      subst ha
      obtain ⟨c0, c1, c2, c3⟩ := (ia.below HB.out hB0) k hlt
      have HX : Hid (((cs.getD k zCd).nm.toList == nm.toList) = true → ans = some k) := fun h => HA.out.symm.trans (cdIx_at hlt HF.out h)
      have HN : Hid (((cs.getD k zCd).nm.toList == nm.toList) = false → ∀ j, j < k + 1 → ((cs.getD j zCd).nm.toList == nm.toList) = false) := fun h j hj => by
        by_cases e : j = k
        · rw [e]; exact h
        · exact HF.out j (by omega)
      clear ia
      generalize cs.getD k zCd = q at c0 c1 c2 c3 HX HN
      obtain ⟨r0, r1, r2, r3⟩ := q
      dsimp only at c0 c1 c2 c3 HX HN
      have hm := cdClo_any r0 r1 r2 r3 nm nb wr ((HB.out.cell (p := ⟨nb, 0, none⟩) hnl).trans HNm.out) (Nat.lt_of_lt_of_le hnl HB.out.size)
      generalize (r0.toList == nm.toList) = mb at *
      cases mb
      · have H1 : Hid (∀ j, j < k + 1 → ((cs.getD j zCd).nm.toList == nm.toList) = false) := HN.out rfl
        clear HN HX HF
        go_wp2_with (go_at_call 64; refine hm.mono ?_; rintro e w2 ⟨rfl, hb2⟩)
        exact ⟨⟨k + 1, by omega, by go_num, H1.out, chain HB.out hb2⟩, by simp [intOf]; omega⟩
      · have H1 : Hid (ans = some k) := HX.out rfl
        clear HN HX HF
        go_wp2_with (go_at_call 64; refine hm.mono ?_; rintro e w2 ⟨rfl, hb2⟩)
        go_ret
        exact ⟨by rw [H1.out]; rfl, chain HB.out hb2⟩
    · have hle : (cs.length : Int) ≤ (k : Int) := by omega
      have HE : Hid (ans = none) := HA.out.symm.trans (cdIx_none (fun j hj => HF.out j (by omega)))
      go_wp2
      go_ret
      exact ⟨by rw [HE.out]; rfl, HB.out⟩
theorem cdInfo4 : (Try.prog.info? 39).map (fun i => (i.zero, i.size, i.bytes)) = some (some (.agg #[.string ⟨#[]⟩, .int .i64 0, .int .i64 0, .int .i64 0]), 4, 40) := by kernel_rfl
def PlP (lb : Nat) (g : Lg) (nm : ByteArray) (cv uv fv : Value) (o : Option Nat) (wa : World) (e : Ending) (w' : World) : Prop := ∃ cv' : Value, e = .returned (.int .i64 (lgPl g.cs o : Int)) ∧ LgM lb lb ⟨lgCs g.cs nm o, g.us, g.fs⟩ cv' uv fv w' ∧ Below lb wa w' ∧ Fr (fun q => q = lb ∨ cv.ownBlock = some q) wa w'
def UsP (lb : Nat) (g : Lg) (nm : ByteArray) (cv fv : Value) (b : Bool) (wa : World) (e : Ending) (w' : World) : Prop := ∃ uv' : Value, e = .returned (.bool (!b)) ∧ LgM lb lb ⟨g.cs, if b = true then g.us else g.us ++ [nm], g.fs⟩ cv uv' fv w' ∧ Below lb wa w'
set_option maxHeartbeats 8000000 in
set_option maxRecDepth 4000 in
theorem lgPlace_any (lb : Nat) (g : Lg) (nm : ByteArray) (hnm : nm.size ≤ 2000000) (cv uv fv : Value) (hk : g.cs.length ≤ 200) (wa : World) (hM : LgM lb lb g cv uv fv wa) :
    Calls Try.prog 51 #[.pointer (some ⟨lb, 0, none⟩), .string nm] wa (PlP lb g nm cv uv fv (cdIx g.cs nm) wa) := by
  obtain ⟨ca, cc, rfl⟩ := row_slice hM.crow
  have hlb : lb < wa.heap.size := blkLt hM.box
  obtain ⟨W1, hW1⟩ : ∃ W1, W1 = wa.alloc (Obj.cells #[.string nm] 9) := ⟨_, rfl⟩
  have hb1 : Below wa.heap.size wa W1 := by rw [hW1]; exact below_alloc _ _
  have hn1 : W1.heap[wa.heap.size]? = some (.cells #[.string nm] 9 (0, 0)) := by rw [hW1]; exact heapNew _ _
  have HM1 : Hid (LgM lb lb g (.slice ca g.cs.length cc) uv fv W1) := hM.later hb1
  have HCl : Hid (∀ w, Calls Try.prog 62 #[.string nm] w fun e w' => e = .returned (.string nm) ∧ Below w.heap.size w w') := fun w => lgClone_any nm hnm w
  have hcl := cdIndex_any ca cc g.cs (by omega) nm wa.heap.size W1 (row_cds HM1.out.crow) (blkCell hn1 0 _ rfl) (blkLt hn1)
  have x0 : wa.cell? ⟨lb, 0, none⟩ = some (.slice ca g.cs.length cc) := blkCell hM.box 0 _ rfl
  obtain ⟨i0, hi, hzz⟩ := Option.map_eq_some_iff.1 cdInfo4
  simp only [Prod.mk.injEq] at hzz
  obtain ⟨hi0, hi1, hi2⟩ := hzz
  have HB1 : Hid (Below lb wa W1) := hb1.mono (by omega)
  have HC1 : Hid (Below wa.heap.size wa W1) := hb1
  have HN1 : Hid (W1.heap[wa.heap.size]? = some (.cells #[.string nm] 9 (0, 0))) := hn1
  have hl1 : lb < W1.heap.size := blkLt HM1.out.box
  clear hM hb1 hn1
  go_enter Try.func51, Try.ntmps51
  go_wp2_with fail
  go_at_call 63
  rw [← hW1]
  refine hcl.mono ?_
  rintro e w3 ⟨rfl, hb3⟩
  clear hcl hW1 x0
  have HM3 : Hid (LgM lb lb g (.slice ca g.cs.length cc) uv fv w3) := HM1.out.later hb3
  have HB3 : Hid (Below lb wa w3) := HB1.out.trans (hb3.mono (by omega))
  have HC3 : Hid (Below wa.heap.size wa w3) := chain HC1.out hb3
  have HN3 : Hid (w3.heap[wa.heap.size]? = some (.cells #[.string nm] 9 (0, 0))) := (hb3.block _ (blkLt HN1.out)).trans HN1.out
  have x3 : w3.cell? ⟨lb, 0, none⟩ = some (.slice ca g.cs.length cc) := blkCell HM3.out.box 0 _ rfl
  have hl3 : lb < w3.heap.size := blkLt HM3.out.box
  clear hb3 HM1 HB1 HN1 hl1
  generalize cdIx g.cs nm = o at *
  cases o with
  | some j =>
    have hfu : ixI (some j) = (j : Int) := rfl
    rw [hfu]
    have hj0 : ¬ ((j : Int) < 0) := by omega
    clear hfu
    go_wp2
    go_ret
    exact ⟨_, rfl, HM3.out, HB3.out, Fr.of HC3.out⟩
  | none =>
    have hfu : ixI none = -1 := rfl
    rw [hfu]
    clear hfu
    go_wp2_with fail
    have HQ : Hid (∀ W : World, Fr (fun q => Value.ownBlock (.slice ca g.cs.length cc) = some q) w3 W → W.cell? ⟨wa.heap.size, 0, none⟩ = some (.string nm) ∧ W.cell? ⟨lb, 0, none⟩ = some (.slice ca g.cs.length cc) ∧ W.frozen? ⟨lb, 0, none⟩ = false ∧ W.heap[lb]? = some (.cells #[.slice ca g.cs.length cc, uv, fv] 31 (0, 0))) := fun W hW => by
      have e0 := (hW.block wa.heap.size (blkLt HN3.out) (fun e => row_ne HM3.out.crow HN3.out (by decide) e rfl)).trans HN3.out
      have e1 := (hW.block lb (blkLt HM3.out.box) (fun e => row_ne HM3.out.crow HM3.out.box (by decide) e rfl)).trans HM3.out.box
      exact ⟨blkCell e0 0 _ rfl, blkCell e1 0 _ rfl, blkFree e1 0, e1⟩
    clear x3
    refine wp_region_z (S := fun W => Fr (fun q => Value.ownBlock (.slice ca g.cs.length cc) = some q) w3 W) 12 (by kernel_rfl) (Fr.of (below_drew _)) (fun hH => ?_)
    refine wpAnyZ_take (i := 0) (v := .pointer (some ⟨lb, 0, none⟩)) rfl (by kernel_rfl) (by kernel_rfl) (by kernel_rfl) (by kernel_rfl) (fun _ _ _ h => h) (Or.inl ⟨by rfl, fun w hSw => by go_simp⟩) hH ?_
    refine wpAnyZ_take (i := 1) (v := .pointer (some ⟨lb, 0, none⟩)) rfl (by kernel_rfl) (by kernel_rfl) (by kernel_rfl) (by kernel_rfl) (fun _ _ _ h => h) (Or.inl ⟨by rfl, fun w hSw => by go_simp⟩) hH ?_
    try simp only [Act.put, List.setIfInBounds_toArray, List.set_cons_zero, List.set_cons_succ, List.getElem_toArray, List.getElem_cons_succ, List.getElem_cons_zero]
    refine wpAnyZ_take (i := 2) (v := .pointer (some ⟨lb, 0, none⟩)) rfl (by kernel_rfl) (by kernel_rfl) (by kernel_rfl) (by kernel_rfl) (fun _ _ _ h => h) (Or.inl ⟨by rfl, fun w hSw => by go_simp⟩) hH ?_
    try simp only [Act.put, List.setIfInBounds_toArray, List.set_cons_zero, List.set_cons_succ, List.getElem_toArray, List.getElem_cons_succ, List.getElem_cons_zero]
    refine wpAnyZ_take (i := 3) (v := .pointer (some ⟨lb, 0, none⟩)) rfl (by kernel_rfl) (by kernel_rfl) (by kernel_rfl) (by kernel_rfl) (fun _ _ _ h => h) (Or.inl ⟨by rfl, fun w hSw => by go_simp⟩) hH ?_
    try simp only [Act.put, List.setIfInBounds_toArray, List.set_cons_zero, List.set_cons_succ, List.getElem_toArray, List.getElem_cons_succ, List.getElem_cons_zero]
    refine wpAnyZ_take (i := 4) (v := .slice ca g.cs.length cc) rfl (by kernel_rfl) (by kernel_rfl) (by kernel_rfl) (by kernel_rfl) (fun _ _ _ h => h) (Or.inl ⟨by rfl, fun w hSw => by have f0 := (HQ.out w hSw).2.1; go_simp⟩) hH ?_
    try simp only [Act.put, List.setIfInBounds_toArray, List.set_cons_zero, List.set_cons_succ, List.getElem_toArray, List.getElem_cons_succ, List.getElem_cons_zero]
    refine wpAnyZ_take (i := 5) (v := .string nm) rfl (by kernel_rfl) (by kernel_rfl) (by kernel_rfl) (by kernel_rfl) (fun _ _ _ h => h) (Or.inl ⟨by rfl, fun w hSw => by have f0 := (HQ.out w hSw).1; go_simp⟩) hH ?_
    try simp only [Act.put, List.setIfInBounds_toArray, List.set_cons_zero, List.set_cons_succ, List.getElem_toArray, List.getElem_cons_succ, List.getElem_cons_zero]
    refine wpAnyZ_ready (rs := [6]) (by kernel_rfl) (by simp) ?_
    refine AllReadyZ.cons rfl (fun K hK => ?_) AllReadyZ.nil
    go_simp
    go_at_call 62
    refine (HCl.out _).mono ?_
    rintro e w4 ⟨rfl, hb4⟩
    have hF4 : Fr (fun q => Value.ownBlock (.slice ca g.cs.length cc) = some q) w3 w4 := Fr.of (chain (below_drew _) hb4)
    have h4 : Below w3.heap.size w3 w4 := chain (below_drew _) hb4
    clear hb4 HCl
    refine hK.out _ _ (Or.inr hF4) (fun _ => ?_)
    clear hK K
    try simp only [Act.put, List.setIfInBounds_toArray, List.set_cons_zero, List.set_cons_succ, List.getElem_toArray, List.getElem_cons_succ, List.getElem_cons_zero]
    refine wpAnyZ_take (i := 7) (v := .agg #[.string nm, .int .i64 0, .int .i64 0, .int .i64 0]) rfl (by kernel_rfl) (by kernel_rfl) (by kernel_rfl) (by kernel_rfl) (fun _ _ _ h => h) (Or.inl ⟨by rfl, fun w hSw => by go_simp⟩) hF4 ?_
    try simp only [Act.put, List.setIfInBounds_toArray, List.set_cons_zero, List.set_cons_succ, List.getElem_toArray, List.getElem_cons_succ, List.getElem_cons_zero]
    refine wpAnyZ_ready (rs := [8]) (by kernel_rfl) (by simp) ?_
    refine AllReadyZ.cons rfl (fun K hK => ?_) AllReadyZ.nil
    go_simp
    have h5 : Below w4.heap.size w4 (w4.alloc (Obj.cells #[.string nm, .int .i64 0, .int .i64 0, .int .i64 0] 39)) := below_alloc _ _
    have hb5 : (w4.alloc (Obj.cells #[.string nm, .int .i64 0, .int .i64 0, .int .i64 0] 39)).heap[w4.heap.size]? = some (.cells #[.string nm, .int .i64 0, .int .i64 0, .int .i64 0] 39 (0, 0)) := heapNew w4 _
    have hF5 : Fr (fun q => Value.ownBlock (.slice ca g.cs.length cc) = some q) w3 (w4.alloc (Obj.cells #[.string nm, .int .i64 0, .int .i64 0, .int .i64 0] 39)) := Fr.of (chain h4 h5)
    refine hK.out _ _ (Or.inr hF5) (fun _ => ?_)
    clear hK K
    try simp only [Act.put, List.setIfInBounds_toArray, List.set_cons_zero, List.set_cons_succ, List.getElem_toArray, List.getElem_cons_succ, List.getElem_cons_zero]
    generalize w4.alloc (Obj.cells #[.string nm, .int .i64 0, .int .i64 0, .int .i64 0] 39) = W6 at *
    have HM6 : Hid (LgM lb lb g (.slice ca g.cs.length cc) uv fv W6) := HM3.out.later (chain h4 h5)
    have HB6 : Hid (Below lb wa W6) := HB3.out.trans ((chain h4 h5).mono (by omega))
    have HC6 : Hid (Below wa.heap.size wa W6) := chain HC3.out (chain h4 h5)
    refine wpAnyZ_ready (rs := [9]) (by kernel_rfl) (by simp) ?_
    refine AllReadyZ.cons rfl (fun K hK => ?_) AllReadyZ.nil
    refine step_append_lies _ rfl (.tmp 23) (.tmp 27) 27 rfl lb 39 i0 (.agg #[.string ⟨#[]⟩, .int .i64 0, .int .i64 0, .int .i64 0]) 4 40 Try.underlying27 hi hi0 hi1 hi2 rfl (by decide) (.slice ca g.cs.length cc) _ _ (by simp [Act.eval]) HM6.out.crow ⟨w4.heap.size, 0, none⟩ 1 1 [.string nm, .int .i64 0, .int .i64 0, .int .i64 0] (by simp [Act.eval]) rfl (World.news_of_block hb5) (by simp [Value.oneCell']) (by omega) (by unfold maxLen; omega) (by omega) (by have := blkLt HM6.out.box; omega) _ rfl (fun g1 cp1 w9 hown hgrow hat hglt => ?_)
    have hS9 : Fr (fun q => Value.ownBlock (.slice ca g.cs.length cc) = some q) w3 w9 := hF5.trans (fr_grown hgrow)
    have HE : Hid (LgM lb lb ⟨g.cs ++ [⟨nm, 0, 0, 0⟩], g.us, g.fs⟩ (.slice (some ⟨g1, 0, none⟩) (g.cs.length + 1) cp1) uv fv (w9.setCell ⟨lb, 0, none⟩ (.slice (some ⟨g1, 0, none⟩) (g.cs.length + 1) cp1))) := (HM6.out.addC (c := ⟨nm, 0, 0, 0⟩) hown hgrow).2
    have HB9 : Hid (Below lb wa (w9.setCell ⟨lb, 0, none⟩ (.slice (some ⟨g1, 0, none⟩) (g.cs.length + 1) cp1))) := (HB6.out.grown hgrow (by have := blkLt HM6.out.box; omega) (fun q hq => (row_lt HM6.out.crow q hq).1)).setCell (Nat.le_refl _) _
    have HFr9 : Hid (Fr (fun q => q = lb ∨ Value.ownBlock (.slice ca g.cs.length cc) = some q) wa (w9.setCell ⟨lb, 0, none⟩ (.slice (some ⟨g1, 0, none⟩) (g.cs.length + 1) cp1))) := ((Fr.of HC6.out).trans ((fr_grown hgrow).mono (fun q hq => .inr hq))).set (b := lb) (.inl rfl) _ _
    clear hown hgrow hat hglt hb5 h5 h4
    refine hK.out _ _ (Or.inr hS9) (fun _ => ?_)
    clear hK K
    try simp only [Act.put, List.setIfInBounds_toArray, List.set_cons_zero, List.set_cons_succ, List.getElem_toArray, List.getElem_cons_succ, List.getElem_cons_zero]
    refine wpAnyZ_take (i := 10) (v := .pointer (some ⟨lb, 0, none⟩)) rfl (by kernel_rfl) (by kernel_rfl) (by kernel_rfl) (by kernel_rfl) (fun _ _ _ h => h) (Or.inl ⟨by rfl, fun w hSw => by go_simp⟩) hS9 ?_
    try simp only [Act.put, List.setIfInBounds_toArray, List.set_cons_zero, List.set_cons_succ, List.getElem_toArray, List.getElem_cons_succ, List.getElem_cons_zero]
    refine wpAnyZ_take (i := 11) (v := .pointer (some ⟨lb, 0, none⟩)) rfl (by kernel_rfl) (by kernel_rfl) (by kernel_rfl) (by kernel_rfl) (fun _ _ _ h => h) (Or.inl ⟨by rfl, fun w hSw => by go_simp⟩) hS9 ?_
    try simp only [Act.put, List.setIfInBounds_toArray, List.set_cons_zero, List.set_cons_succ, List.getElem_toArray, List.getElem_cons_succ, List.getElem_cons_zero]
    refine wpAnyZ_ready (rs := [12]) (by kernel_rfl) (by simp) ?_
    refine AllReadyZ.cons rfl (fun K hK => ?_) AllReadyZ.nil
    obtain ⟨y0, y1, y2, y3⟩ := HQ.out w9 hS9
    go_simp
    refine hK.out _ _ (Or.inl rfl) (fun _ => ?_)
    clear hK K
    try simp only [Act.put, List.setIfInBounds_toArray, List.set_cons_zero, List.set_cons_succ, List.getElem_toArray, List.getElem_cons_succ, List.getElem_cons_zero]
    refine wpAnyZ_done (by kernel_rfl) ?_ _
    clear y0 y1 y2 y3 HQ hS9 hF5 hF4 hH
    generalize w9.setCell ⟨lb, 0, none⟩ (.slice (some ⟨g1, 0, none⟩) (g.cs.length + 1) cp1) = W9 at *
    go_wp2
    go_ret
    exact ⟨_, rfl, HE.out, HB9.out, HFr9.out⟩
set_option maxHeartbeats 8000000 in
set_option maxRecDepth 4000 in
theorem lgUses_any (lb : Nat) (g : Lg) (nm : ByteArray) (hnm : nm.size ≤ 2000000) (cv uv fv : Value) (hk : g.us.length ≤ 200) (wa : World) (hM : LgM lb lb g cv uv fv wa) :
    Calls Try.prog 50 #[.pointer (some ⟨lb, 0, none⟩), .string nm] wa (UsP lb g nm cv fv (hasB g.us nm) wa) := by
  obtain ⟨ua, uc, rfl⟩ := row_slice hM.urow
  have hlb : lb < wa.heap.size := blkLt hM.box
  have HM1 : Hid (LgM lb lb g cv (.slice ua g.us.length uc) fv wa) := hM
  have HCl : Hid (∀ w, Calls Try.prog 62 #[.string nm] w fun e w' => e = .returned (.string nm) ∧ Below w.heap.size w w') := fun w => lgClone_any nm hnm w
  have hcl := strContains_any ua uc g.us (by omega) nm wa (row_strs hM.urow)
  have x0 : wa.cell? ⟨lb, 1, none⟩ = some (.slice ua g.us.length uc) := blkCell hM.box 1 _ rfl
  obtain ⟨i0, hi, hzz⟩ := Option.map_eq_some_iff.1 strInfo
  simp only [Prod.mk.injEq] at hzz
  obtain ⟨hi0, hi1, hi2⟩ := hzz
  clear hM
  go_enter Try.func50, Try.ntmps50
  go_wp2_with fail
  go_at_call 61
  refine hcl.mono ?_
  rintro e w3 ⟨rfl, hb3⟩
  clear hcl x0
  have HM3 : Hid (LgM lb lb g cv (.slice ua g.us.length uc) fv w3) := HM1.out.later hb3
  have HB3 : Hid (Below lb wa w3) := hb3.mono (by omega)
  have hl3 : lb < w3.heap.size := blkLt HM3.out.box
  have x3 : w3.cell? ⟨lb, 1, none⟩ = some (.slice ua g.us.length uc) := blkCell HM3.out.box 1 _ rfl
  clear hb3 HM1
  generalize hasB g.us nm = hb at *
  cases hb
  · go_wp2_with fail
    have HQ : Hid (∀ W : World, Fr (fun q => Value.ownBlock (.slice ua g.us.length uc) = some q) w3 W → W.cell? ⟨lb, 1, none⟩ = some (.slice ua g.us.length uc) ∧ W.frozen? ⟨lb, 1, none⟩ = false) := fun W hW => by
      have e1 := (hW.block lb (blkLt HM3.out.box) (fun e => row_ne HM3.out.urow HM3.out.box (by decide) e rfl)).trans HM3.out.box
      exact ⟨blkCell e1 1 _ rfl, blkFree e1 1⟩
    clear x3
    refine wp_region_z (S := fun W => Fr (fun q => Value.ownBlock (.slice ua g.us.length uc) = some q) w3 W) 11 (by kernel_rfl) (Fr.of (below_drew _)) (fun hH => ?_)
    refine wpAnyZ_take (i := 0) (v := .pointer (some ⟨lb, 0, none⟩)) rfl (by kernel_rfl) (by kernel_rfl) (by kernel_rfl) (by kernel_rfl) (fun _ _ _ h => h) (Or.inl ⟨by rfl, fun w hSw => by go_simp⟩) hH ?_
    refine wpAnyZ_take (i := 1) (v := .pointer (some ⟨lb, 0, none⟩)) rfl (by kernel_rfl) (by kernel_rfl) (by kernel_rfl) (by kernel_rfl) (fun _ _ _ h => h) (Or.inl ⟨by rfl, fun w hSw => by go_simp⟩) hH ?_
    try simp only [Act.put, List.setIfInBounds_toArray, List.set_cons_zero, List.set_cons_succ, List.getElem_toArray, List.getElem_cons_succ, List.getElem_cons_zero]
    refine wpAnyZ_take (i := 2) (v := .pointer (some ⟨lb, 0, none⟩)) rfl (by kernel_rfl) (by kernel_rfl) (by kernel_rfl) (by kernel_rfl) (fun _ _ _ h => h) (Or.inl ⟨by rfl, fun w hSw => by go_simp⟩) hH ?_
    try simp only [Act.put, List.setIfInBounds_toArray, List.set_cons_zero, List.set_cons_succ, List.getElem_toArray, List.getElem_cons_succ, List.getElem_cons_zero]
    refine wpAnyZ_take (i := 3) (v := .pointer (some ⟨lb, 1, none⟩)) rfl (by kernel_rfl) (by kernel_rfl) (by kernel_rfl) (by kernel_rfl) (fun _ _ _ h => h) (Or.inl ⟨by rfl, fun w hSw => by go_simp⟩) hH ?_
    try simp only [Act.put, List.setIfInBounds_toArray, List.set_cons_zero, List.set_cons_succ, List.getElem_toArray, List.getElem_cons_succ, List.getElem_cons_zero]
    refine wpAnyZ_take (i := 4) (v := .slice ua g.us.length uc) rfl (by kernel_rfl) (by kernel_rfl) (by kernel_rfl) (by kernel_rfl) (fun _ _ _ h => h) (Or.inl ⟨by rfl, fun w hSw => by have f0 := (HQ.out w hSw).1; go_simp⟩) hH ?_
    try simp only [Act.put, List.setIfInBounds_toArray, List.set_cons_zero, List.set_cons_succ, List.getElem_toArray, List.getElem_cons_succ, List.getElem_cons_zero]
    refine wpAnyZ_take (i := 5) (v := .string nm) rfl (by kernel_rfl) (by kernel_rfl) (by kernel_rfl) (by kernel_rfl) (fun _ _ _ h => h) (Or.inl ⟨by rfl, fun w hSw => by go_simp⟩) hH ?_
    try simp only [Act.put, List.setIfInBounds_toArray, List.set_cons_zero, List.set_cons_succ, List.getElem_toArray, List.getElem_cons_succ, List.getElem_cons_zero]
    refine wpAnyZ_ready (rs := [6]) (by kernel_rfl) (by simp) ?_
    refine AllReadyZ.cons rfl (fun K hK => ?_) AllReadyZ.nil
    go_simp
    go_at_call 62
    refine (HCl.out _).mono ?_
    rintro e w4 ⟨rfl, hb4⟩
    have hF4 : Fr (fun q => Value.ownBlock (.slice ua g.us.length uc) = some q) w3 w4 := Fr.of (chain (below_drew _) hb4)
    have h4 : Below w3.heap.size w3 w4 := chain (below_drew _) hb4
    clear hb4 HCl
    refine hK.out _ _ (Or.inr hF4) (fun _ => ?_)
    clear hK K
    try simp only [Act.put, List.setIfInBounds_toArray, List.set_cons_zero, List.set_cons_succ, List.getElem_toArray, List.getElem_cons_succ, List.getElem_cons_zero]
    refine wpAnyZ_ready (rs := [7]) (by kernel_rfl) (by simp) ?_
    refine AllReadyZ.cons rfl (fun K hK => ?_) AllReadyZ.nil
    go_simp
    have h5 : Below w4.heap.size w4 (w4.alloc (Obj.cells #[.string nm] 9)) := below_alloc _ _
    have hb5 : (w4.alloc (Obj.cells #[.string nm] 9)).heap[w4.heap.size]? = some (.cells #[.string nm] 9 (0, 0)) := heapNew w4 _
    have hF5 : Fr (fun q => Value.ownBlock (.slice ua g.us.length uc) = some q) w3 (w4.alloc (Obj.cells #[.string nm] 9)) := Fr.of (chain h4 h5)
    refine hK.out _ _ (Or.inr hF5) (fun _ => ?_)
    clear hK K
    try simp only [Act.put, List.setIfInBounds_toArray, List.set_cons_zero, List.set_cons_succ, List.getElem_toArray, List.getElem_cons_succ, List.getElem_cons_zero]
    generalize w4.alloc (Obj.cells #[.string nm] 9) = W6 at *
    have HM6 : Hid (LgM lb lb g cv (.slice ua g.us.length uc) fv W6) := HM3.out.later (chain h4 h5)
    have HB6 : Hid (Below lb wa W6) := HB3.out.trans ((chain h4 h5).mono (by omega))
    refine wpAnyZ_ready (rs := [8]) (by kernel_rfl) (by simp) ?_
    refine AllReadyZ.cons rfl (fun K hK => ?_) AllReadyZ.nil
    refine step_append_lies _ rfl (.tmp 15) (.tmp 18) 28 rfl lb 9 i0 (.string ⟨#[]⟩) 1 16 Try.underlying28 hi hi0 hi1 hi2 rfl (by decide) (.slice ua g.us.length uc) _ _ (by simp [Act.eval]) HM6.out.urow ⟨w4.heap.size, 0, none⟩ 1 1 [.string nm] (by simp [Act.eval]) rfl (World.news_of_block hb5) (by simp [Value.oneCell']) (by omega) (by unfold maxLen; omega) (by omega) (by have := blkLt HM6.out.box; omega) _ rfl (fun g1 cp1 w9 hown hgrow hat hglt => ?_)
    have hS9 : Fr (fun q => Value.ownBlock (.slice ua g.us.length uc) = some q) w3 w9 := hF5.trans (fr_grown hgrow)
    have HE : Hid (LgM lb lb ⟨g.cs, g.us ++ [nm], g.fs⟩ cv (.slice (some ⟨g1, 0, none⟩) (g.us.length + 1) cp1) fv (w9.setCell ⟨lb, 1, none⟩ (.slice (some ⟨g1, 0, none⟩) (g.us.length + 1) cp1))) := (HM6.out.addU hown hgrow).2
    have HB9 : Hid (Below lb wa (w9.setCell ⟨lb, 1, none⟩ (.slice (some ⟨g1, 0, none⟩) (g.us.length + 1) cp1))) := (HB6.out.grown hgrow (by have := blkLt HM6.out.box; omega) (fun q hq => (row_lt HM6.out.urow q hq).1)).setCell (Nat.le_refl _) _
    clear hown hgrow hat hglt hb5 h5 h4
    refine hK.out _ _ (Or.inr hS9) (fun _ => ?_)
    clear hK K
    try simp only [Act.put, List.setIfInBounds_toArray, List.set_cons_zero, List.set_cons_succ, List.getElem_toArray, List.getElem_cons_succ, List.getElem_cons_zero]
    refine wpAnyZ_take (i := 9) (v := .pointer (some ⟨lb, 0, none⟩)) rfl (by kernel_rfl) (by kernel_rfl) (by kernel_rfl) (by kernel_rfl) (fun _ _ _ h => h) (Or.inl ⟨by rfl, fun w hSw => by go_simp⟩) hS9 ?_
    try simp only [Act.put, List.setIfInBounds_toArray, List.set_cons_zero, List.set_cons_succ, List.getElem_toArray, List.getElem_cons_succ, List.getElem_cons_zero]
    refine wpAnyZ_take (i := 10) (v := .pointer (some ⟨lb, 1, none⟩)) rfl (by kernel_rfl) (by kernel_rfl) (by kernel_rfl) (by kernel_rfl) (fun _ _ _ h => h) (Or.inl ⟨by rfl, fun w hSw => by go_simp⟩) hS9 ?_
    try simp only [Act.put, List.setIfInBounds_toArray, List.set_cons_zero, List.set_cons_succ, List.getElem_toArray, List.getElem_cons_succ, List.getElem_cons_zero]
    refine wpAnyZ_ready (rs := [11]) (by kernel_rfl) (by simp) ?_
    refine AllReadyZ.cons rfl (fun K hK => ?_) AllReadyZ.nil
    obtain ⟨y0, y1⟩ := HQ.out w9 hS9
    go_simp
    refine hK.out _ _ (Or.inl rfl) (fun _ => ?_)
    clear hK K
    try simp only [Act.put, List.setIfInBounds_toArray, List.set_cons_zero, List.set_cons_succ, List.getElem_toArray, List.getElem_cons_succ, List.getElem_cons_zero]
    refine wpAnyZ_done (by kernel_rfl) ?_ _
    clear y0 y1 HQ hS9 hF5 hF4 hH
    generalize w9.setCell ⟨lb, 1, none⟩ (.slice (some ⟨g1, 0, none⟩) (g.us.length + 1) cp1) = W9 at *
    go_wp2
    go_ret
    exact ⟨_, rfl, by rw [if_neg (by decide)]; exact HE.out, HB9.out⟩
  · go_wp2
    go_ret
    exact ⟨_, rfl, by rw [if_pos rfl]; exact HM3.out, HB3.out⟩
end Go.Proofs.Ytabghjlmmpckdaa

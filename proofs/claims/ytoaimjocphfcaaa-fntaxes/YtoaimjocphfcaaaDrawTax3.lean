/-
  The specification's drawn tax rows: whatever the code, they are right.
-/
import Derived.Test.YtoaimjocphfcaaaDrawTax2
import Derived.Deep.RegionHeld3
namespace Go.Proofs.Ytoaimjocphfcaaa
open Go.ChangeShapes Go.WideShapes Go.ChangeAt Go.RowKit
set_option linter.unusedVariables false

/-- What a drawn row is like. -/
def DrRow (r : TR) : Prop := (1 ≤ r.cl ∧ r.cl ≤ 3) ∧ r.pl.size ≤ 6 ∧ 0 ≤ r.fr ∧ r.fr < r.to ∧ r.to ≤ 100 ∧ 0 ≤ r.n ∧ r.n ≤ 29 ∧ r.d = 100
theorem DrRow.ok {r : TR} (h : DrRow r) : TrOK r := show r.pl.size ≤ 2000000 from Nat.le_trans h.2.1 (by omega)
theorem plc_short : ∀ j, j < 5 → (plc.getD j ⟨#[]⟩).size ≤ 6 := fun j hj => by
  match j, hj with
  | 0, _ => decide
  | 1, _ => decide
  | 2, _ => decide
  | 3, _ => decide
  | 4, _ => decide
theorem own_empty (w : World) (B : Nat) (h : B ≤ w.heap.size) : (w.alloc (Obj.cells #[] 45)).ownsRow B 45 6 (.slice (some ⟨w.heap.size, 0, none⟩) 0 0) 0 [] :=
  ⟨rfl, .inr ⟨w.heap.size, 0, #[], rfl, h, heapNew w _, Nat.le_refl _, by unfold maxLen; omega, rfl, rfl⟩⟩
theorem news_kept {W W' : World} {h0 k : Nat} {cs : Array Value} {t : TypeId} (hg : W.grownBy W' (some h0)) (he : W.heap[k]? = some (.cells cs t (0, 0))) (hne : k ≠ h0) : ∀ j u, cs.toList[j]? = some u → W'.cell? ((⟨k, 0, none⟩ : Addr).add j) = some u :=
  World.news_of_block ((hg.block k (Array.getElem?_eq_some_iff.1 he).1 (fun e => hne (by simpa using e))).trans he)
def TxPost (a : Option Addr) (len cap : Nat) (b : Nat) (w : World) (e : Ending) (w' : World) : Prop := ∃ (rs : List TR) (g cp : Nat) (at' sd : Int), e = .returned (.slice (some ⟨g, 0, none⟩) rs.length cp) ∧ rs.length ≤ 9 ∧ at' ≤ 200 ∧ trAll rs = true ∧ (∀ r ∈ rs, DrRow r) ∧ TxSt w b a len cap (.slice (some ⟨g, 0, none⟩) rs.length cp) rs at' sd w'

set_option maxHeartbeats 20000000 in
set_option maxRecDepth 8000 in
theorem taxRows_any (b : Nat) (a : Option Addr) (len cap : Nat) (zs : List Int) (seed : Int) (w : World) (hs : Src w b a len cap 0 seed) (hr : RowB b w a len zs) :
    Calls Try.prog 9 #[.pointer (some ⟨b, 0, none⟩)] w (TxPost a len cap b w) := by
  have hlen : len ≤ maxLen := hr.1
  have HR : Hid (RowB b w a len zs) := hr
  have HNx : Hid (∀ (n at' sd : Int) (W : World), n ≤ 256 → at' ≤ 999999999000 → Src W b a len cap at' sd → Below b w W → Calls Try.prog 11 #[.pointer (some ⟨b, 0, none⟩), .int .i64 n] W fun e w' => ∃ x at2 s' : Int, e = .returned (.int .i64 x) ∧ Drawn x n ∧ at' ≤ at2 ∧ at2 ≤ at' + 3 ∧ Src w' b a len cap at2 s' ∧ Below b W w' ∧ Apt b W w') := fun n at' sd W hn ha hS hB => next_anyA b b a len cap zs n at' sd W (Nat.le_refl _) hS (HR.out.below hB) ha hn
  have HPl : Hid (∀ (at' sd : Int) (W : World), at' ≤ 999999999000 → Src W b a len cap at' sd → Below b w W → Calls Try.prog 24 #[.pointer (some ⟨b, 0, none⟩)] W fun e w' => ∃ (j : Nat) (at2 s' : Int), j < 5 ∧ e = .returned (.string (plc.getD j ⟨#[]⟩)) ∧ at' ≤ at2 ∧ at2 ≤ at' + 3 ∧ Src w' b a len cap at2 s' ∧ Below b W w' ∧ Apart b W w') := fun at' sd W ha hS hB => place_any b b a len cap zs at' sd W (Nat.le_refl _) hS (HR.out.below hB) ha
  have HT0 : Hid (TxSt w b a len cap (.slice (some ⟨w.heap.size, 0, none⟩) 0 0) [] 0 seed (w.alloc (Obj.cells #[] 45))) := TxSt.start hs
  have HSz : Hid (Calls Try.prog 12 #[.pointer (some ⟨b, 0, none⟩), .int .i64 8] (w.alloc (Obj.cells #[] 45)) fun e w' => (∃ x : Int, e = .returned (.int .i64 x) ∧ 1 ≤ x ∧ x ≤ 8) ∧ w' = w.alloc (Obj.cells #[] 45)) := size_src b a len cap 8 0 seed _ HT0.out.2.1 hlen (by omega) (by omega)
  obtain ⟨i0, hti, hzz⟩ := Option.map_eq_some_iff.1 taxRowInfo
  simp only [Prod.mk.injEq] at hzz
  obtain ⟨hi0, hi1, hi2⟩ := hzz
  clear hs hr
  go_enter Try.func9, Try.ntmps9
  go_wp2_with fail
  (first | go_at_call 12 | skip)
  refine HSz.out.mono ?_
  rintro e w0 ⟨⟨y, rfl, y1, y2⟩, hw0⟩
  rw [hw0]
  clear hw0 w0
  go_wp2_with fail
  (first | go_at_call 11 | skip)
  refine (HNx.out _ _ _ _ (by omega) (by omega) HT0.out.2.1 HT0.out.2.2.2).mono ?_
  rintro e w0 ⟨x0, a0, s0, rfl, hx0, ql0, qu0, hs0, hb0, ha0⟩
  have HT1 : Hid (TxSt w b a len cap (.slice (some ⟨w.heap.size, 0, none⟩) 0 0) [] a0 s0 w0) := HT0.out.step (ha0.apart hb0) hb0 hs0
  have hx00 : 0 ≤ x0 := hx0.1
  have hx01 : x0 ≤ 9 := by rcases hx0.2 with h | h <;> omega
  clear hs0 hb0 ha0 hx0 HT0 HSz
  go_wp2_with fail
  go_loopw [3, 4, 5, 6] (fun v c _ _ wr => ∃ (rs : List TR) (g cp : Nat) (i at' sd : Int), v = .slice (some ⟨g, 0, none⟩) rs.length cp ∧ c = .int .i64 i ∧ 0 ≤ i ∧ (rs.length : Int) + i ≤ 9 ∧ at' + 15 * i ≤ 200 ∧ trAll rs = true ∧ (∀ r ∈ rs, DrRow r) ∧ TxSt w b a len cap (.slice (some ⟨g, 0, none⟩) rs.length cp) rs at' sd wr) (fun _ c _ _ _ => (intOf c).toNat)
  case atStart => exact ⟨[], w.heap.size, 0, x0, a0, s0, rfl, rfl, hx00, by simp; omega, by omega, rfl, by simp, HT1.out⟩
  case round =>
    clear HT1
    obtain ⟨rs, g, cp, i, at', sd, rfl, rfl, hi, hil, hat, htr, hdr, hT⟩ := hrel
    have HT : Hid (TxSt w b a len cap (.slice (some ⟨g, 0, none⟩) rs.length cp) rs at' sd wr) := hT
    have HG : Hid (trAll rs = true ∧ ∀ r ∈ rs, DrRow r) := ⟨htr, hdr⟩
    have hat0 : 0 ≤ at' := hT.2.1.2.2.2.2.2.2.1
    clear hT htr hdr
    by_cases hz : i = 0
    · subst hz
      go_wp2
      go_ret
      exact ⟨rs, g, cp, at', sd, rfl, by omega, by omega, HG.out.1, HG.out.2, HT.out⟩
    · have hpos : 1 ≤ i := by omega
      clear hz
      go_wp2_with fail
      (first | go_at_call 11 | skip)
      refine (HNx.out 40 at' sd wr (by omega) (by omega) HT.out.2.1 HT.out.2.2.2).mono ?_
      rintro e w1 ⟨x1, a1, s1, rfl, hx1, ql1, qu1, hs1, hb1, ha1⟩
      have HT1 : Hid (TxSt w b a len cap (.slice (some ⟨g, 0, none⟩) rs.length cp) rs a1 s1 w1) := HT.out.step (ha1.apart hb1) hb1 hs1
      have d1 : 0 ≤ x1 ∧ x1 ≤ 39 := ⟨hx1.1, by rcases hx1.2 with h | h <;> omega⟩
      clear hs1 hb1 ha1 hx1
      go_wp2_with fail
      (first | go_at_call 11 | skip)
      refine (HNx.out 3 a1 s1 w1 (by omega) (by omega) HT1.out.2.1 HT1.out.2.2.2).mono ?_
      rintro e w2 ⟨x2, a2, s2, rfl, hx2, ql2, qu2, hs2, hb2, ha2⟩
      have HT2 : Hid (TxSt w b a len cap (.slice (some ⟨g, 0, none⟩) rs.length cp) rs a2 s2 w2) := HT1.out.step (ha2.apart hb2) hb2 hs2
      have d2 : 0 ≤ x2 ∧ x2 ≤ 2 := ⟨hx2.1, by rcases hx2.2 with h | h <;> omega⟩
      clear hs2 hb2 ha2 hx2
      obtain ⟨d20, d21⟩ := d2
      obtain ⟨d10, d11⟩ := d1
      go_wp2_with fail
      (first | go_at_call 24 | skip)
      refine (HPl.out a2 s2 w2 (by omega) HT2.out.2.1 HT2.out.2.2.2).mono ?_
      rintro e w3 ⟨jp, a3, s3, hjp, rfl, ql3, qu3, hs3, hb3, ha3⟩
      have HT3 : Hid (TxSt w b a len cap (.slice (some ⟨g, 0, none⟩) rs.length cp) rs a3 s3 w3) := HT2.out.step ha3 hb3 hs3
      have hpz : (plc.getD jp ⟨#[]⟩).size ≤ 6 := plc_short jp hjp
      clear hs3 hb3 ha3 hjp
      generalize plc.getD jp ⟨#[]⟩ = p at *
      go_wp2_with fail
      (first | go_at_call 11 | skip)
      refine (HNx.out 60 a3 s3 w3 (by omega) (by omega) HT3.out.2.1 HT3.out.2.2.2).mono ?_
      rintro e w4 ⟨x4, a4, s4, rfl, hx4, ql4, qu4, hs4, hb4, ha4⟩
      have HT4 : Hid (TxSt w b a len cap (.slice (some ⟨g, 0, none⟩) rs.length cp) rs a4 s4 w4) := HT3.out.step (ha4.apart hb4) hb4 hs4
      have d4 : 0 ≤ x4 ∧ x4 ≤ 59 := ⟨hx4.1, by rcases hx4.2 with h | h <;> omega⟩
      clear hs4 hb4 ha4 hx4
      obtain ⟨d40, d41⟩ := d4
      go_wp2_with fail
      (first | go_at_call 11 | skip)
      refine (HNx.out 30 a4 s4 w4 (by omega) (by omega) HT4.out.2.1 HT4.out.2.2.2).mono ?_
      rintro e w5 ⟨x5, a5, s5, rfl, hx5, ql5, qu5, hs5, hb5, ha5⟩
      have HT5 : Hid (TxSt w b a len cap (.slice (some ⟨g, 0, none⟩) rs.length cp) rs a5 s5 w5) := HT4.out.step (ha5.apart hb5) hb5 hs5
      have d5 : 0 ≤ x5 ∧ x5 ≤ 29 := ⟨hx5.1, by rcases hx5.2 with h | h <;> omega⟩
      clear hs5 hb5 ha5 hx5 HT HT1 HT2 HT3 HT4
      obtain ⟨d50, d51⟩ := d5
      have hrl : rs.length ≤ 8 := by omega
      have HT5' : Hid (TxSt w b a len cap (.slice (some ⟨g, 0, none⟩) rs.length cp) rs a5 s5 (w5.alloc (Obj.cells #[.int .i64 (1 + x2), .string p, .int .i64 x1, .int .i64 (x1 + 1 + x4), .int .i64 x5, .int .i64 100] 45))) := HT5.out.later (below_alloc _ _)
      have HC0 : Hid (∀ W, Below (w5.alloc (Obj.cells #[.int .i64 (1 + x2), .string p, .int .i64 x1, .int .i64 (x1 + 1 + x4), .int .i64 x5, .int .i64 100] 45)).heap.size (w5.alloc (Obj.cells #[.int .i64 (1 + x2), .string p, .int .i64 x1, .int .i64 (x1 + 1 + x4), .int .i64 x5, .int .i64 100] 45)) W → RowAt W w5.heap.size 0 (⟨1 + x2, p, x1, x1 + 1 + x4, x5, 100⟩ : TR)) := fun W hW => (rowNew w5 (1 + x2) p x1 (x1 + 1 + x4) x5 100).below hW (by simp)
      go_wp2_with fail
      obtain ⟨W0, hW0⟩ : ∃ W0, W0 = (w5.alloc (Obj.cells #[.int .i64 (1 + x2), .string p, .int .i64 x1, .int .i64 (x1 + 1 + x4), .int .i64 x5, .int .i64 100] 45)) := ⟨_, rfl⟩
      rw [← hW0] at HT5' HC0 ⊢
      have HNw : Hid (∀ W, Below W0.heap.size W0 W → ∀ j u, (trCells rs)[j]? = some u → W.cell? ((⟨g, 0, none⟩ : Addr).add j) = some u) := fun W hW => own_news (HT5'.out.later hW).1
      have hDr : DrRow (⟨1 + x2, p, x1, x1 + 1 + x4, x5, 100⟩ : TR) := ⟨⟨by dsimp only; omega, by dsimp only; omega⟩, hpz, d10, by dsimp only; omega, by dsimp only; omega, d50, d51, rfl⟩
      have HRK : Hid (∀ (g2 c2 : Nat) (W : World), W.ownsRow W0.heap.size 45 6 (.slice (some ⟨g2, 0, none⟩) (rs.length + 1) c2) (rs.length + 1) (trCells rs ++ [.int .i64 (1 + x2), .string p, .int .i64 x1, .int .i64 (x1 + 1 + x4), .int .i64 x5, .int .i64 100]) → Calls Try.prog 25 #[.slice (some ⟨g2, 0, none⟩) (rs.length + 1) c2] W fun e w' => e = .returned (.bool (trAll (rs ++ [(⟨1 + x2, p, x1, x1 + 1 + x4, x5, 100⟩ : TR)]))) ∧ Below W.heap.size W w') := fun g2 c2 W ho => by
        have e1 : (rs ++ [(⟨1 + x2, p, x1, x1 + 1 + x4, x5, 100⟩ : TR)]).length = rs.length + 1 := by simp
        have e2 : trCells (rs ++ [(⟨1 + x2, p, x1, x1 + 1 + x4, x5, 100⟩ : TR)]) = trCells rs ++ [.int .i64 (1 + x2), .string p, .int .i64 x1, .int .i64 (x1 + 1 + x4), .int .i64 x5, .int .i64 100] := by rw [trCells_append]; rfl
        have ho' : W.ownsRow W0.heap.size 45 6 (.slice (some ⟨g2, 0, none⟩) (rs.length + 1) c2) (rs ++ [(⟨1 + x2, p, x1, x1 + 1 + x4, x5, 100⟩ : TR)]).length (trCells (rs ++ [(⟨1 + x2, p, x1, x1 + 1 + x4, x5, 100⟩ : TR)])) := by rw [e1, e2]; exact ho
        obtain ⟨a', cap', e, hr'⟩ := own_form ho'
        rw [e1] at e
        simp at e
        obtain ⟨rfl, rfl⟩ := e
        have := specRows_any (some ⟨g2, 0, none⟩) c2 (rs ++ [(⟨1 + x2, p, x1, x1 + 1 + x4, x5, 100⟩ : TR)]) (by rw [e1]; omega) (fun r hr => by rcases List.mem_append.1 hr with h | h; exact (HG.out.2 r h).ok; (simp at h; subst h; exact hDr.ok)) W hr'
        rw [e1] at this
        exact this
      have HGd : Hid (trAll (rs ++ [(⟨1 + x2, p, x1, x1 + 1 + x4, x5, 100⟩ : TR)]) = true → ∀ r ∈ rs ++ [(⟨1 + x2, p, x1, x1 + 1 + x4, x5, 100⟩ : TR)], DrRow r) := fun _ r hr => by rcases List.mem_append.1 hr with h | h; exact HG.out.2 r h; (simp at h; subst h; exact hDr)
      clear hDr hW0 HT5
      refine wp_region_held_drew (S := fun W => Below W0.heap.size W0 W) (by kernel_rfl) (below_drew _) (fun hH => ?_)
      refine wpAnyH_take (i := 1) (v := .slice (some ⟨g, 0, none⟩) rs.length cp) rfl (by kernel_rfl) (by kernel_rfl) (by kernel_rfl) (fun _ _ _ h => h) (Or.inl ⟨by rfl, fun w hSw => by go_simp⟩) hH ?_
      try simp only [Act.put, List.setIfInBounds_toArray, List.set_cons_zero, List.set_cons_succ, List.getElem_toArray, List.getElem_cons_succ, List.getElem_cons_zero]
      refine wpAnyH_take (i := 3) (v := .agg #[.int .i64 (1 + x2), .string p, .int .i64 x1, .int .i64 (x1 + 1 + x4), .int .i64 x5, .int .i64 100]) rfl (by kernel_rfl) (by kernel_rfl) (by kernel_rfl) (fun _ _ _ h => h) (Or.inl ⟨by rfl, fun w hSw => by obtain ⟨s0, s1, s2, s3, s4, s5'⟩ := HC0.out w hSw; dsimp only at s0 s1 s2 s3 s4 s5'; go_simp⟩) hH ?_
      try simp only [Act.put, List.setIfInBounds_toArray, List.set_cons_zero, List.set_cons_succ, List.getElem_toArray, List.getElem_cons_succ, List.getElem_cons_zero]
      refine wpAnyH_ready (rs := [0, 4]) (by kernel_rfl) (by simp) ?_
      refine AllReadyH.cons rfl (fun K hK => ?_) (AllReadyH.cons rfl (fun K hK => ?_) AllReadyH.nil)
      · skip
        go_simp
        have hSA : Below W0.heap.size W0 (W0.drew.alloc (Obj.cells #[] 45)) := chain hH (below_alloc _ _)
        have eA : (W0.drew.alloc (Obj.cells #[] 45)).ownsRow W0.heap.size 45 6 (.slice (some ⟨W0.heap.size, 0, none⟩) 0 0) 0 [] := by
          have q := own_empty W0.drew W0.heap.size hH.size
          first
          | exact q
          | (rw [show W0.drew.heap.size = W0.heap.size by simp] at q; exact q)
        refine hK.out _ _ hSA (fun _ => ?_)
        clear hK K
        try simp only [Act.put, List.setIfInBounds_toArray, List.set_cons_zero, List.set_cons_succ, List.getElem_toArray, List.getElem_cons_succ, List.getElem_cons_zero]
        refine wpAnyH_ready (rs := [2, 4]) (by kernel_rfl) (by simp) ?_
        refine AllReadyH.cons rfl (fun K hK => ?_) (AllReadyH.cons rfl (fun K hK => ?_) AllReadyH.nil)
        · skip
          refine step_copy rfl _ _ rfl W0.heap.size (W0.heap.size) rfl eA g cp rs (by omega) rfl (HNw.out _ hSA) hSA.size ?_
          intro g1 c1 B ownB growB
          have hSB : Below W0.heap.size W0 B := (hSA).grown growB hSA.size (fun q hq => by cases hq; exact Nat.le_refl _)
          refine hK.out _ _ hSB (fun _ => ?_)
          clear hK K
          try simp only [Act.put, List.setIfInBounds_toArray, List.set_cons_zero, List.set_cons_succ, List.getElem_toArray, List.getElem_cons_succ, List.getElem_cons_zero]
          refine wpAnyH_ready (rs := [4]) (by kernel_rfl) (by simp) ?_
          refine AllReadyH.cons rfl (fun K hK => ?_) AllReadyH.nil
          go_simp
          have hSC : Below W0.heap.size W0 (B.alloc (Obj.cells #[.int .i64 (1 + x2), .string p, .int .i64 x1, .int .i64 (x1 + 1 + x4), .int .i64 x5, .int .i64 100] 45)) := chain hSB (below_alloc _ _)
          refine hK.out _ _ hSC (fun _ => ?_)
          clear hK K
          try simp only [Act.put, List.setIfInBounds_toArray, List.set_cons_zero, List.set_cons_succ, List.getElem_toArray, List.getElem_cons_succ, List.getElem_cons_zero]
          refine wpAnyH_ready (rs := [5]) (by kernel_rfl) (by simp) ?_
          refine AllReadyH.cons rfl (fun K hK => ?_) AllReadyH.nil
          refine step_append_lies _ rfl _ _ 23 rfl W0.heap.size 45 i0 (.agg #[.int .i64 0, .string ⟨#[]⟩, .int .i64 0, .int .i64 0, .int .i64 0, .int .i64 0]) 6 56 Try.underlying23 hti hi0 hi1 hi2 rfl (by decide) _ _ _ rfl (ownB.alloc _) ⟨B.heap.size, 0, none⟩ 1 1 [.int .i64 (1 + x2), .string p, .int .i64 x1, .int .i64 (x1 + 1 + x4), .int .i64 x5, .int .i64 100] rfl rfl (World.news_of_block (heapNew B _)) (oneRowT (⟨1 + x2, p, x1, x1 + 1 + x4, x5, 100⟩ : TR)) (by omega) (by unfold maxLen; omega) (by omega) hSC.size _ rfl ?_
          intro g2 c2 W4 own4 grow4 hat4 hlt4
          have hS4 : Below W0.heap.size W0 W4 := (hSC).grown grow4 hSC.size (fun q hq => (ownB.lt q hq).1)
          refine hK.out _ _ hS4 (fun _ => ?_)
          clear hK K
          try simp only [Act.put, List.setIfInBounds_toArray, List.set_cons_zero, List.set_cons_succ, List.getElem_toArray, List.getElem_cons_succ, List.getElem_cons_zero]
          refine wpAnyH_ready (rs := [6]) (by kernel_rfl) (by simp) ?_
          refine AllReadyH.cons rfl (fun K hK => ?_) AllReadyH.nil
          go_simp
          go_at_call 25
          refine (HRK.out _ _ W4 own4).mono ?_
          rintro e W6 ⟨rfl, hb6⟩
          have hS6 := chain hS4 hb6
          refine hK.out _ _ hS6 (fun _ => ?_)
          clear hK K
          try simp only [Act.put, List.setIfInBounds_toArray, List.set_cons_zero, List.set_cons_succ, List.getElem_toArray, List.getElem_cons_succ, List.getElem_cons_zero]
          refine wpAnyH_done (by kernel_rfl) ?_ _
          try simp [Act.put]
          have HT6 : Hid (TxSt w b a len cap (.slice (some ⟨g, 0, none⟩) rs.length cp) rs a5 s5 W6) := HT5'.out.later hS6
          have HC6 : Hid (RowAt W6 w5.heap.size 0 (⟨1 + x2, p, x1, x1 + 1 + x4, x5, 100⟩ : TR)) := HC0.out W6 hS6
          clear hS6 hb6 hS4 own4 grow4 hat4 hlt4
          cases hb : trAll (rs ++ [(⟨1 + x2, p, x1, x1 + 1 + x4, x5, 100⟩ : TR)])
          · go_wp2
            go_roundw
            case rel => exact ⟨rs, g, cp, i - 1, a5, s5, rfl, by go_num, by omega, by omega, by omega, HG.out.1, HG.out.2, HT6.out⟩
            case measure => simp [intOf]; omega
          · obtain ⟨c0, c1, c2, c3, c4, c5⟩ := HC6.out
            dsimp only at c0 c1 c2 c3 c4 c5
            have HT7 : Hid (TxSt w b a len cap (.slice (some ⟨g, 0, none⟩) rs.length cp) rs a5 s5 (W6.alloc (Obj.cells #[.int .i64 (1 + x2), .string p, .int .i64 x1, .int .i64 (x1 + 1 + x4), .int .i64 x5, .int .i64 100] 45))) := HT6.out.later (below_alloc _ _)
            have HGn : Hid (∀ r ∈ rs ++ [(⟨1 + x2, p, x1, x1 + 1 + x4, x5, 100⟩ : TR)], DrRow r) := HGd.out hb
            go_wp2_with (at_builtin; refine wpList_append_lies _ rfl _ _ 23 rfl (b + 1) 45 i0 (.agg #[.int .i64 0, .string ⟨#[]⟩, .int .i64 0, .int .i64 0, .int .i64 0, .int .i64 0]) 6 56 Try.underlying23 hti hi0 hi1 hi2 rfl (by decide) _ _ _ rfl HT7.out.1 ⟨W6.heap.size, 0, none⟩ 1 1 [.int .i64 (1 + x2), .string p, .int .i64 x1, .int .i64 (x1 + 1 + x4), .int .i64 x5, .int .i64 100] rfl rfl (World.news_of_block (heapNew W6 _)) (oneRowT (⟨1 + x2, p, x1, x1 + 1 + x4, x5, 100⟩ : TR)) (by omega) (by unfold maxLen; omega) (by omega) HT7.out.2.2.1 _ rfl ?_; intro g7 cp7 W7 own7 grow7 hat7 hlt7; have HT8 : Hid (TxSt w b a len cap (.slice (some ⟨g7, 0, none⟩) (rs.length + 1) cp7) (rs ++ [(⟨1 + x2, p, x1, x1 + 1 + x4, x5, 100⟩ : TR)]) a5 s5 W7) := HT7.out.push (r := (⟨1 + x2, p, x1, x1 + 1 + x4, x5, 100⟩ : TR)) own7 grow7; clear own7 grow7 hat7 hlt7)
            go_roundw
            case rel => exact ⟨rs ++ [(⟨1 + x2, p, x1, x1 + 1 + x4, x5, 100⟩ : TR)], g7, cp7, i - 1, a5, s5, by rw [List.length_append]; rfl, by go_num, by omega, by rw [List.length_append]; simp; omega, by omega, hb, HGn.out, by rw [List.length_append]; exact HT8.out⟩
            case measure => simp [intOf]; omega
        · skip
          go_simp
          have hSB : Below W0.heap.size W0 ((W0.drew.alloc (Obj.cells #[] 45)).alloc (Obj.cells #[.int .i64 (1 + x2), .string p, .int .i64 x1, .int .i64 (x1 + 1 + x4), .int .i64 x5, .int .i64 100] 45)) := chain hSA (below_alloc _ _)
          refine hK.out _ _ hSB (fun _ => ?_)
          clear hK K
          try simp only [Act.put, List.setIfInBounds_toArray, List.set_cons_zero, List.set_cons_succ, List.getElem_toArray, List.getElem_cons_succ, List.getElem_cons_zero]
          refine wpAnyH_ready (rs := [2]) (by kernel_rfl) (by simp) ?_
          refine AllReadyH.cons rfl (fun K hK => ?_) AllReadyH.nil
          refine step_copy rfl _ _ rfl W0.heap.size (W0.heap.size) rfl (eA.alloc _) g cp rs (by omega) rfl (HNw.out _ hSB) hSB.size ?_
          intro g1 c1 C ownC growC
          have hSC : Below W0.heap.size W0 C := (hSB).grown growC hSB.size (fun q hq => by cases hq; exact Nat.le_refl _)
          refine hK.out _ _ hSC (fun _ => ?_)
          clear hK K
          try simp only [Act.put, List.setIfInBounds_toArray, List.set_cons_zero, List.set_cons_succ, List.getElem_toArray, List.getElem_cons_succ, List.getElem_cons_zero]
          have hkk : ((W0.drew.alloc (Obj.cells #[] 45)).alloc (Obj.cells #[.int .i64 (1 + x2), .string p, .int .i64 x1, .int .i64 (x1 + 1 + x4), .int .i64 x5, .int .i64 100] 45)).heap[W0.heap.size + 1]? = some (Obj.cells #[.int .i64 (1 + x2), .string p, .int .i64 x1, .int .i64 (x1 + 1 + x4), .int .i64 x5, .int .i64 100] 45) := by
            have q := heapNew (W0.drew.alloc (Obj.cells #[] 45)) (Obj.cells #[.int .i64 (1 + x2), .string p, .int .i64 x1, .int .i64 (x1 + 1 + x4), .int .i64 x5, .int .i64 100] 45)
            rwa [show (W0.drew.alloc (Obj.cells #[] 45)).heap.size = W0.heap.size + 1 by simp] at q
          refine wpAnyH_ready (rs := [5]) (by kernel_rfl) (by simp) ?_
          refine AllReadyH.cons rfl (fun K hK => ?_) AllReadyH.nil
          refine step_append_lies _ rfl _ _ 23 rfl W0.heap.size 45 i0 (.agg #[.int .i64 0, .string ⟨#[]⟩, .int .i64 0, .int .i64 0, .int .i64 0, .int .i64 0]) 6 56 Try.underlying23 hti hi0 hi1 hi2 rfl (by decide) _ _ _ rfl ownC ⟨W0.heap.size + 1, 0, none⟩ 1 1 [.int .i64 (1 + x2), .string p, .int .i64 x1, .int .i64 (x1 + 1 + x4), .int .i64 x5, .int .i64 100] rfl rfl (news_kept growC hkk (by omega)) (oneRowT (⟨1 + x2, p, x1, x1 + 1 + x4, x5, 100⟩ : TR)) (by omega) (by unfold maxLen; omega) (by omega) hSC.size _ rfl ?_
          intro g2 c2 W4 own4 grow4 hat4 hlt4
          have hS4 : Below W0.heap.size W0 W4 := (hSC).grown grow4 hSC.size (fun q hq => (ownC.lt q hq).1)
          refine hK.out _ _ hS4 (fun _ => ?_)
          clear hK K
          try simp only [Act.put, List.setIfInBounds_toArray, List.set_cons_zero, List.set_cons_succ, List.getElem_toArray, List.getElem_cons_succ, List.getElem_cons_zero]
          refine wpAnyH_ready (rs := [6]) (by kernel_rfl) (by simp) ?_
          refine AllReadyH.cons rfl (fun K hK => ?_) AllReadyH.nil
          go_simp
          go_at_call 25
          refine (HRK.out _ _ W4 own4).mono ?_
          rintro e W6 ⟨rfl, hb6⟩
          have hS6 := chain hS4 hb6
          refine hK.out _ _ hS6 (fun _ => ?_)
          clear hK K
          try simp only [Act.put, List.setIfInBounds_toArray, List.set_cons_zero, List.set_cons_succ, List.getElem_toArray, List.getElem_cons_succ, List.getElem_cons_zero]
          refine wpAnyH_done (by kernel_rfl) ?_ _
          try simp [Act.put]
          have HT6 : Hid (TxSt w b a len cap (.slice (some ⟨g, 0, none⟩) rs.length cp) rs a5 s5 W6) := HT5'.out.later hS6
          have HC6 : Hid (RowAt W6 w5.heap.size 0 (⟨1 + x2, p, x1, x1 + 1 + x4, x5, 100⟩ : TR)) := HC0.out W6 hS6
          clear hS6 hb6 hS4 own4 grow4 hat4 hlt4
          cases hb : trAll (rs ++ [(⟨1 + x2, p, x1, x1 + 1 + x4, x5, 100⟩ : TR)])
          · go_wp2
            go_roundw
            case rel => exact ⟨rs, g, cp, i - 1, a5, s5, rfl, by go_num, by omega, by omega, by omega, HG.out.1, HG.out.2, HT6.out⟩
            case measure => simp [intOf]; omega
          · obtain ⟨c0, c1, c2, c3, c4, c5⟩ := HC6.out
            dsimp only at c0 c1 c2 c3 c4 c5
            have HT7 : Hid (TxSt w b a len cap (.slice (some ⟨g, 0, none⟩) rs.length cp) rs a5 s5 (W6.alloc (Obj.cells #[.int .i64 (1 + x2), .string p, .int .i64 x1, .int .i64 (x1 + 1 + x4), .int .i64 x5, .int .i64 100] 45))) := HT6.out.later (below_alloc _ _)
            have HGn : Hid (∀ r ∈ rs ++ [(⟨1 + x2, p, x1, x1 + 1 + x4, x5, 100⟩ : TR)], DrRow r) := HGd.out hb
            go_wp2_with (at_builtin; refine wpList_append_lies _ rfl _ _ 23 rfl (b + 1) 45 i0 (.agg #[.int .i64 0, .string ⟨#[]⟩, .int .i64 0, .int .i64 0, .int .i64 0, .int .i64 0]) 6 56 Try.underlying23 hti hi0 hi1 hi2 rfl (by decide) _ _ _ rfl HT7.out.1 ⟨W6.heap.size, 0, none⟩ 1 1 [.int .i64 (1 + x2), .string p, .int .i64 x1, .int .i64 (x1 + 1 + x4), .int .i64 x5, .int .i64 100] rfl rfl (World.news_of_block (heapNew W6 _)) (oneRowT (⟨1 + x2, p, x1, x1 + 1 + x4, x5, 100⟩ : TR)) (by omega) (by unfold maxLen; omega) (by omega) HT7.out.2.2.1 _ rfl ?_; intro g7 cp7 W7 own7 grow7 hat7 hlt7; have HT8 : Hid (TxSt w b a len cap (.slice (some ⟨g7, 0, none⟩) (rs.length + 1) cp7) (rs ++ [(⟨1 + x2, p, x1, x1 + 1 + x4, x5, 100⟩ : TR)]) a5 s5 W7) := HT7.out.push (r := (⟨1 + x2, p, x1, x1 + 1 + x4, x5, 100⟩ : TR)) own7 grow7; clear own7 grow7 hat7 hlt7)
            go_roundw
            case rel => exact ⟨rs ++ [(⟨1 + x2, p, x1, x1 + 1 + x4, x5, 100⟩ : TR)], g7, cp7, i - 1, a5, s5, by rw [List.length_append]; rfl, by go_num, by omega, by rw [List.length_append]; simp; omega, by omega, hb, HGn.out, by rw [List.length_append]; exact HT8.out⟩
            case measure => simp [intOf]; omega
      · skip
        go_simp
        have hSA : Below W0.heap.size W0 (W0.drew.alloc (Obj.cells #[.int .i64 (1 + x2), .string p, .int .i64 x1, .int .i64 (x1 + 1 + x4), .int .i64 x5, .int .i64 100] 45)) := chain hH (below_alloc _ _)
        refine hK.out _ _ hSA (fun _ => ?_)
        clear hK K
        try simp only [Act.put, List.setIfInBounds_toArray, List.set_cons_zero, List.set_cons_succ, List.getElem_toArray, List.getElem_cons_succ, List.getElem_cons_zero]
        refine wpAnyH_ready (rs := [0]) (by kernel_rfl) (by simp) ?_
        refine AllReadyH.cons rfl (fun K hK => ?_) AllReadyH.nil
        go_simp
        have hSB : Below W0.heap.size W0 ((W0.drew.alloc (Obj.cells #[.int .i64 (1 + x2), .string p, .int .i64 x1, .int .i64 (x1 + 1 + x4), .int .i64 x5, .int .i64 100] 45)).alloc (Obj.cells #[] 45)) := chain hSA (below_alloc _ _)
        have eB : ((W0.drew.alloc (Obj.cells #[.int .i64 (1 + x2), .string p, .int .i64 x1, .int .i64 (x1 + 1 + x4), .int .i64 x5, .int .i64 100] 45)).alloc (Obj.cells #[] 45)).ownsRow W0.heap.size 45 6 (.slice (some ⟨W0.heap.size + 1, 0, none⟩) 0 0) 0 [] := by
          have q := own_empty (W0.drew.alloc (Obj.cells #[.int .i64 (1 + x2), .string p, .int .i64 x1, .int .i64 (x1 + 1 + x4), .int .i64 x5, .int .i64 100] 45)) W0.heap.size hSA.size
          first
          | exact q
          | (rw [show (W0.drew.alloc (Obj.cells #[.int .i64 (1 + x2), .string p, .int .i64 x1, .int .i64 (x1 + 1 + x4), .int .i64 x5, .int .i64 100] 45)).heap.size = W0.heap.size + 1 by simp] at q; exact q)
        refine hK.out _ _ hSB (fun _ => ?_)
        clear hK K
        try simp only [Act.put, List.setIfInBounds_toArray, List.set_cons_zero, List.set_cons_succ, List.getElem_toArray, List.getElem_cons_succ, List.getElem_cons_zero]
        refine wpAnyH_ready (rs := [2]) (by kernel_rfl) (by simp) ?_
        refine AllReadyH.cons rfl (fun K hK => ?_) AllReadyH.nil
        refine step_copy rfl _ _ rfl W0.heap.size (W0.heap.size + 1) rfl eB g cp rs (by omega) rfl (HNw.out _ hSB) hSB.size ?_
        intro g1 c1 C ownC growC
        have hSC : Below W0.heap.size W0 C := (hSB).grown growC hSB.size (fun q hq => by cases hq; exact (by omega))
        refine hK.out _ _ hSC (fun _ => ?_)
        clear hK K
        try simp only [Act.put, List.setIfInBounds_toArray, List.set_cons_zero, List.set_cons_succ, List.getElem_toArray, List.getElem_cons_succ, List.getElem_cons_zero]
        have hkk : ((W0.drew.alloc (Obj.cells #[.int .i64 (1 + x2), .string p, .int .i64 x1, .int .i64 (x1 + 1 + x4), .int .i64 x5, .int .i64 100] 45)).alloc (Obj.cells #[] 45)).heap[W0.heap.size]? = some (Obj.cells #[.int .i64 (1 + x2), .string p, .int .i64 x1, .int .i64 (x1 + 1 + x4), .int .i64 x5, .int .i64 100] 45) := (Below.heap_alloc _ _ _ (by simp)).trans (heapNew W0.drew _)
        refine wpAnyH_ready (rs := [5]) (by kernel_rfl) (by simp) ?_
        refine AllReadyH.cons rfl (fun K hK => ?_) AllReadyH.nil
        refine step_append_lies _ rfl _ _ 23 rfl W0.heap.size 45 i0 (.agg #[.int .i64 0, .string ⟨#[]⟩, .int .i64 0, .int .i64 0, .int .i64 0, .int .i64 0]) 6 56 Try.underlying23 hti hi0 hi1 hi2 rfl (by decide) _ _ _ rfl ownC ⟨W0.heap.size, 0, none⟩ 1 1 [.int .i64 (1 + x2), .string p, .int .i64 x1, .int .i64 (x1 + 1 + x4), .int .i64 x5, .int .i64 100] rfl rfl (news_kept growC hkk (by omega)) (oneRowT (⟨1 + x2, p, x1, x1 + 1 + x4, x5, 100⟩ : TR)) (by omega) (by unfold maxLen; omega) (by omega) hSC.size _ rfl ?_
        intro g2 c2 W4 own4 grow4 hat4 hlt4
        have hS4 : Below W0.heap.size W0 W4 := (hSC).grown grow4 hSC.size (fun q hq => (ownC.lt q hq).1)
        refine hK.out _ _ hS4 (fun _ => ?_)
        clear hK K
        try simp only [Act.put, List.setIfInBounds_toArray, List.set_cons_zero, List.set_cons_succ, List.getElem_toArray, List.getElem_cons_succ, List.getElem_cons_zero]
        refine wpAnyH_ready (rs := [6]) (by kernel_rfl) (by simp) ?_
        refine AllReadyH.cons rfl (fun K hK => ?_) AllReadyH.nil
        go_simp
        go_at_call 25
        refine (HRK.out _ _ W4 own4).mono ?_
        rintro e W6 ⟨rfl, hb6⟩
        have hS6 := chain hS4 hb6
        refine hK.out _ _ hS6 (fun _ => ?_)
        clear hK K
        try simp only [Act.put, List.setIfInBounds_toArray, List.set_cons_zero, List.set_cons_succ, List.getElem_toArray, List.getElem_cons_succ, List.getElem_cons_zero]
        refine wpAnyH_done (by kernel_rfl) ?_ _
        try simp [Act.put]
        have HT6 : Hid (TxSt w b a len cap (.slice (some ⟨g, 0, none⟩) rs.length cp) rs a5 s5 W6) := HT5'.out.later hS6
        have HC6 : Hid (RowAt W6 w5.heap.size 0 (⟨1 + x2, p, x1, x1 + 1 + x4, x5, 100⟩ : TR)) := HC0.out W6 hS6
        clear hS6 hb6 hS4 own4 grow4 hat4 hlt4
        cases hb : trAll (rs ++ [(⟨1 + x2, p, x1, x1 + 1 + x4, x5, 100⟩ : TR)])
        · go_wp2
          go_roundw
          case rel => exact ⟨rs, g, cp, i - 1, a5, s5, rfl, by go_num, by omega, by omega, by omega, HG.out.1, HG.out.2, HT6.out⟩
          case measure => simp [intOf]; omega
        · obtain ⟨c0, c1, c2, c3, c4, c5⟩ := HC6.out
          dsimp only at c0 c1 c2 c3 c4 c5
          have HT7 : Hid (TxSt w b a len cap (.slice (some ⟨g, 0, none⟩) rs.length cp) rs a5 s5 (W6.alloc (Obj.cells #[.int .i64 (1 + x2), .string p, .int .i64 x1, .int .i64 (x1 + 1 + x4), .int .i64 x5, .int .i64 100] 45))) := HT6.out.later (below_alloc _ _)
          have HGn : Hid (∀ r ∈ rs ++ [(⟨1 + x2, p, x1, x1 + 1 + x4, x5, 100⟩ : TR)], DrRow r) := HGd.out hb
          go_wp2_with (at_builtin; refine wpList_append_lies _ rfl _ _ 23 rfl (b + 1) 45 i0 (.agg #[.int .i64 0, .string ⟨#[]⟩, .int .i64 0, .int .i64 0, .int .i64 0, .int .i64 0]) 6 56 Try.underlying23 hti hi0 hi1 hi2 rfl (by decide) _ _ _ rfl HT7.out.1 ⟨W6.heap.size, 0, none⟩ 1 1 [.int .i64 (1 + x2), .string p, .int .i64 x1, .int .i64 (x1 + 1 + x4), .int .i64 x5, .int .i64 100] rfl rfl (World.news_of_block (heapNew W6 _)) (oneRowT (⟨1 + x2, p, x1, x1 + 1 + x4, x5, 100⟩ : TR)) (by omega) (by unfold maxLen; omega) (by omega) HT7.out.2.2.1 _ rfl ?_; intro g7 cp7 W7 own7 grow7 hat7 hlt7; have HT8 : Hid (TxSt w b a len cap (.slice (some ⟨g7, 0, none⟩) (rs.length + 1) cp7) (rs ++ [(⟨1 + x2, p, x1, x1 + 1 + x4, x5, 100⟩ : TR)]) a5 s5 W7) := HT7.out.push (r := (⟨1 + x2, p, x1, x1 + 1 + x4, x5, 100⟩ : TR)) own7 grow7; clear own7 grow7 hat7 hlt7)
          go_roundw
          case rel => exact ⟨rs ++ [(⟨1 + x2, p, x1, x1 + 1 + x4, x5, 100⟩ : TR)], g7, cp7, i - 1, a5, s5, by rw [List.length_append]; rfl, by go_num, by omega, by rw [List.length_append]; simp; omega, by omega, hb, HGn.out, by rw [List.length_append]; exact HT8.out⟩
          case measure => simp [intOf]; omega
end Go.Proofs.Ytoaimjocphfcaaa

/-
  For every list of bytes the law FnSettle answers true: of two drawn right lists what the program pairs is the same in both, each once, nothing that is left could be paired, and the difference is that of what is left; with no condition.
-/
import Derived.Test.YtgjffmeafdpfhaaSyA
import Derived.Test.YtgjffmeafdpfhaaSyB
import Derived.Test.YtgjffmeafdpfhaaSxD
namespace Go.Proofs.Ytgjffmeafdpfhaa
open Go.ChangeShapes Go.WideShapes Go.ChangeAt Go.RowKit Go.Joins Go.Deep
set_option linter.unusedVariables false

namespace FnSettle
theorem seNeq_run (a b : ByteArray) (m n : Int) (w : World) : (binOp BinOp.neq 33 (.agg #[.string a, .int .i64 m]) (.agg #[.string b, .int .i64 n])).run Try.prog w = .ok (.bool (!seEq ⟨a, m⟩ ⟨b, n⟩)) w := by
  unfold seEq
  go_simp
  by_cases h1 : a.toList = b.toList
  · by_cases h2 : m = n
    · rw [if_pos h1, if_pos h2]; simp [h1, h2]
    · rw [if_pos h1, if_neg h2]; simp [h2]
  · rw [if_neg h1]; simp [h1]
def cF (l : List Nat) (i : Nat) : Int := ((l.count i : Nat) : Int)
theorem cF_bound (l : List Nat) (i : Nat) : 0 ≤ cF l i ∧ cF l i ≤ (l.length : Int) := by
  have := List.count_le_length (a := i) (l := l)
  unfold cF
  omega
theorem cF_put (l : List Nat) (x i : Nat) : (if i = x then cF l x + 1 else cF l i) = cF (l ++ [x]) i := by
  unfold cF
  rw [List.count_append]
  by_cases e : i = x
  · subst e; rw [if_pos rfl]; simp
  · rw [if_neg e, List.count_eq_zero.2 (show i ∉ [x] by simpa using e)]; simp
theorem am_bound {rs : List RSe} (h : ∀ r ∈ rs, DrSe r) (x : Nat) : -1000000000 ≤ (rs.getD x zSe).am ∧ (rs.getD x zSe).am ≤ 1000000000 := by
  by_cases hx : x < rs.length
  · exact seOne_am (getSe (p := DrSe) h hx).1
  · rw [show rs.getD x zSe = zSe by simp [List.getD_eq_getElem?_getD, List.getElem?_eq_none (Nat.le_of_not_lt hx)]]
    exact ⟨by decide, by decide⟩
theorem amS_bound {rs : List RSe} (h : ∀ r ∈ rs, DrSe r) : ∀ l, -1000000000 * (l.length : Int) ≤ amS rs l ∧ amS rs l ≤ 1000000000 * (l.length : Int)
  | [] => ⟨by simp [amS], by simp [amS]⟩
  | x :: l => by
    have ih := amS_bound h l
    have := am_bound h x
    rw [amS, List.length_cons]
    omega
theorem take_next {α : Type} (l : List α) (d : α) (k : Nat) (h : k < l.length) : l.take (k + 1) = l.take k ++ [l.getD k d] := by
  rw [List.take_succ_eq_append_getElem h]
  simp [List.getD_eq_getElem?_getD, h]
/-- What the law reads. -/
structure Rd (B : Nat) (W : World) (mb gM gK : Nat) (M K : List RSe) (t : Mt) (pa xa ya : Option Addr) (pc xc yc : Nat) (vs : Nat → Value) : Prop where
  box : W.heap[mb]? = some (.cells #[.slice pa t.ps.length pc, .slice xa t.ms.length xc, .slice ya t.bs.length yc, .int .i64 t.df] 29 (0, 0))
  mm : SesAt W gM 0 M
  ml : gM < W.heap.size
  kk : SesAt W gK 0 K
  kl : gK < W.heap.size
  ans : AnsM B t.ps t.ms t.bs (.slice pa t.ps.length pc) (.slice xa t.ms.length xc) (.slice ya t.bs.length yc) vs W
theorem Rd.later {B : Nat} {W W' : World} {mb gM gK : Nat} {M K : List RSe} {t : Mt} {pa xa ya : Option Addr} {pc xc yc : Nat} {vs : Nat → Value} (h : Rd B W mb gM gK M K t pa xa ya pc xc yc vs) (hb : Below W.heap.size W W') : Rd B W' mb gM gK M K t pa xa ya pc xc yc vs :=
  ⟨(hb.block _ (blkLt h.box)).trans h.box, h.mm.below hb h.ml, Nat.lt_of_lt_of_le h.ml hb.size, h.kk.below hb h.kl, Nat.lt_of_lt_of_le h.kl hb.size, h.ans.later hb⟩
/-- The two rows that are counted in. -/
structure Lw (w0 : World) (ab bb nM nK : Nat) (fa fb : List Nat) (W : World) : Prop where
  low : Below w0.heap.size w0 W
  arow : W.rowIs ab 3 nM (fun i => .int .i64 (cF fa i))
  brow : W.rowIs bb 3 nK (fun i => .int .i64 (cF fb i))
  alo : w0.heap.size ≤ ab
  blo : w0.heap.size ≤ bb
  ne : ab ≠ bb
theorem Lw.later {w0 : World} {ab bb nM nK : Nat} {fa fb : List Nat} {W W' : World} (h : Lw w0 ab bb nM nK fa fb W) (hb : Below W.heap.size W W') : Lw w0 ab bb nM nK fa fb W' :=
  ⟨chain h.low hb, h.arow.of_block (hb.block _ h.arow.lt), h.brow.of_block (hb.block _ h.brow.lt), h.alo, h.blo, h.ne⟩
theorem Lw.putA {w0 : World} {ab bb nM nK : Nat} {fa fb : List Nat} {W : World} (h : Lw w0 ab bb nM nK fa fb W) (x : Nat) : Lw w0 ab bb nM nK (fa ++ [x]) fb (W.setCell ⟨ab, x, none⟩ (.int .i64 (cF fa x + 1))) :=
  ⟨h.low.setCell h.alo _, (h.arow.set x _).congr (fun i hi => by show (if i = x then Value.int .i64 (cF fa x + 1) else Value.int .i64 (cF fa i)) = _; rw [← cF_put]; split <;> rfl), h.brow.setOther (fun e => h.ne e.symm) _, h.alo, h.blo, h.ne⟩
theorem Lw.putB {w0 : World} {ab bb nM nK : Nat} {fa fb : List Nat} {W : World} (h : Lw w0 ab bb nM nK fa fb W) (x : Nat) : Lw w0 ab bb nM nK fa (fb ++ [x]) (W.setCell ⟨bb, x, none⟩ (.int .i64 (cF fb x + 1))) :=
  ⟨h.low.setCell h.blo _, h.arow.setOther h.ne _, (h.brow.set x _).congr (fun i hi => by show (if i = x then Value.int .i64 (cF fb x + 1) else Value.int .i64 (cF fb i)) = _; rw [← cF_put]; split <;> rfl), h.alo, h.blo, h.ne⟩
theorem row_at {W : World} {B : Nat} {a : Option Addr} {c : Nat} {xs : List Nat} (h : W.ownsRow B 3 1 (.slice a xs.length c) xs.length (xs.map nV)) (k : Nat) (hk : k < xs.length) : ∃ g, a = some ⟨g, 0, none⟩ ∧ W.cell? ⟨g, k, none⟩ = some (.int .i64 ((xs.getD k 0 : Nat) : Int)) := by
  obtain ⟨g, cp, hq⟩ := row_some h (by omega)
  simp only [Value.slice.injEq, true_and] at hq
  obtain ⟨rfl, rfl⟩ := hq
  refine ⟨g, rfl, ?_⟩
  rw [h.cellAt k (by omega)]
  simp [nV, List.getD_eq_getElem?_getD, hk]
theorem pair_at {W : World} {B : Nat} {ps : List (Nat × Nat)} {ms bs : List Nat} {pa : Option Addr} {pc : Nat} {mv bv : Value} {vs : Nat → Value} (h : AnsM B ps ms bs (.slice pa ps.length pc) mv bv vs W) (k : Nat) (hk : k < ps.length) :
    ∃ pg vb vc, pa = some ⟨pg, 0, none⟩ ∧ W.cell? ⟨pg, k, none⟩ = some (.slice (some ⟨vb, 0, none⟩) 2 vc) ∧ W.cell? ⟨vb, 0, none⟩ = some (.int .i64 (((ps.getD k (0, 0)).1 : Nat) : Int)) ∧ W.cell? ⟨vb, 1, none⟩ = some (.int .i64 (((ps.getD k (0, 0)).2 : Nat) : Int)) := by
  obtain ⟨g, cp, hq⟩ := row_some h.prow (by omega)
  simp only [Value.slice.injEq, true_and] at hq
  obtain ⟨rfl, rfl⟩ := hq
  have he := h.each k hk
  obtain ⟨vb, vc, hv⟩ := row_some he (by omega)
  rw [hv] at he
  refine ⟨g, vb, vc, rfl, ?_, ?_, ?_⟩
  · rw [h.prow.cellAt k (by omega)]; simp [hk, hv]
  · rw [he.cellAt 0 (by omega)]; rfl
  · rw [he.cellAt 1 (by omega)]; rfl
theorem cell_lt' {W : World} {b o : Nat} {v : Value} (h : W.cell? ⟨b, o, none⟩ = some v) : b < W.heap.size := World.block_lt_of_cell? _ _ h
theorem fst_take (ps : List (Nat × Nat)) (k : Nat) (h : k < ps.length) : (ps.take (k + 1)).map Prod.fst = (ps.take k).map Prod.fst ++ [(ps.getD k (0, 0)).1] ∧ (ps.take (k + 1)).map Prod.snd = (ps.take k).map Prod.snd ++ [(ps.getD k (0, 0)).2] := by
  rw [take_next ps (0, 0) k h, List.map_append, List.map_append]; exact ⟨rfl, rfl⟩
theorem getD_mem {α : Type} (l : List α) (d : α) (k : Nat) (h : k < l.length) : l.getD k d ∈ l := by
  rw [show l.getD k d = l[k] by simp [List.getD_eq_getElem?_getD, h]]; exact List.getElem_mem _
set_option maxHeartbeats 16000000 in
set_option maxRecDepth 8000 in
theorem walk (a0 : Option Addr) (len0 cap0 : Nat) (z0 : List Int) (w : World) (r0 : RowB w.heap.size w a0 len0 z0) :
    Calls Try.prog 3 #[.slice a0 len0 cap0] w fun e w' => e = .returned (.bool true) ∧ Below w.heap.size w w' := by
  by_cases hbig : (1048576 : Int) < (len0 : Int)
  · clear r0
    go_enter Try.func3, Try.ntmps3
    go_wp2
    go_ret
    exact ⟨rfl, Below.refl _ _⟩
  have hbig' : (len0 : Int) ≤ 1048576 := by omega
  have hT := settledOf_any a0 len0 cap0 z0 w r0
  clear r0 hbig
  go_enter Try.func3, Try.ntmps3
  go_wp2_with fail
  (first | go_at_call 5 | skip)
  refine hT.mono ?_
  rintro e w1 ⟨M, K, gM, cM, gK, cK, rfl, hlM, hlK, hdM, hdK, hsM, hgM, hsK, hgK, hb1⟩
  have HDM : Hid (∀ r ∈ M, DrSe r) := hdM
  have HDK : Hid (∀ r ∈ K, DrSe r) := hdK
  have HB1 : Hid (Below w.heap.size w w1) := hb1
  have hf0 : fltS M K = 0 := by
    unfold fltS
    have e1 : seAll M = true := List.all_eq_true.2 (fun r hr => (hdM r hr).1)
    have e2 : seAll K = true := List.all_eq_true.2 (fun r hr => (hdK r hr).1)
    rw [if_neg (by omega), if_neg (by omega), e1, e2]; rfl
  have HI := implSettle_any (some ⟨gM, 0, none⟩) (some ⟨gK, 0, none⟩) cM cK M K (by omega) (by omega) (fun r hr => (hdM r hr).2) (fun r hr => (hdK r hr).2) w1 (.inr ⟨gM, 0, rfl, hgM, hsM⟩) (.inr ⟨gK, 0, rfl, hgK, hsK⟩)
  rw [mtR_yes hf0, hf0] at HI
  have HOK : Hid (StOK M K (mtOf M K)) := st_ok M K
  generalize mtOf M K = t at *
  have HSs : Hid (SesAt w1 gM 0 M ∧ gM < w1.heap.size ∧ SesAt w1 gK 0 K ∧ gK < w1.heap.size) := ⟨hsM, hgM, hsK, hgK⟩
  clear hT hf0 hdM hdK hsM hgM hsK hgK hb1
  unfold MtP at HI
  go_wp2_with fail
  (first | go_at_call 6 | skip)
  refine HI.mono ?_
  rintro e w2 ⟨pa, xa, ya, pc, xc, yc, vs, rfl, hA, hb2⟩
  obtain ⟨w0, hw0⟩ : ∃ w0, w0 = w2.alloc (Obj.cells #[.slice pa t.ps.length pc, .slice xa t.ms.length xc, .slice ya t.bs.length yc, .int .i64 t.df] 29) := ⟨_, rfl⟩
  have HW0 : Hid (w0 = w2.alloc (Obj.cells #[.slice pa t.ps.length pc, .slice xa t.ms.length xc, .slice ya t.bs.length yc, .int .i64 t.df] 29)) := hw0
  have HRd : Hid (Rd w1.heap.size w0 w2.heap.size gM gK M K t pa xa ya pc xc yc vs ∧ Below w.heap.size w w0) := by
    have q1 := below_alloc w2 (Obj.cells #[.slice pa t.ps.length pc, .slice xa t.ms.length xc, .slice ya t.bs.length yc, .int .i64 t.df] 29)
    have q2 := heapNew w2 (Obj.cells #[.slice pa t.ps.length pc, .slice xa t.ms.length xc, .slice ya t.bs.length yc, .int .i64 t.df] 29)
    rw [← hw0] at q1 q2
    have q3 := chain hb2 q1
    obtain ⟨s1, s2, s3, s4⟩ := HSs.out
    exact ⟨⟨q2, s1.below q3 s2, Nat.lt_of_lt_of_le s2 q3.size, s3.below q3 s4, Nat.lt_of_lt_of_le s4 q3.size, hA.later q1⟩, chain HB1.out q3⟩
  have hsz0 : w0.heap.size = w2.heap.size + 1 := by rw [hw0]; simp
  have hmk := fun n (hn : n ≤ 1000) w => run_make_row' (P := Try.prog) 27 3 (.int .i64 0) 8 Try.underlying27 intInfo rfl .i64 .i64 n (by omega) (by omega) w
  have hmkM := hmk M.length (by omega)
  have hmkK := hmk K.length (by omega)
  have hl1 := HOK.out.l1
  have hl2 := HOK.out.l2
  have hn1 : (((t.ps.length : Int) + (t.ms.length : Int)) != (M.length : Int)) = false := by simp; omega
  have hn2 : (((t.ps.length : Int) + (t.bs.length : Int)) != (K.length : Int)) = false := by simp; omega
  obtain ⟨W3, hW3⟩ : ∃ W3, W3 = (w0.alloc (Obj.cells (madeCells #[.int .i64 0] M.length) 3)).alloc (Obj.cells (madeCells #[.int .i64 0] K.length) 3) := ⟨_, rfl⟩
  have HW3 : Hid (W3 = (w0.alloc (Obj.cells (madeCells #[.int .i64 0] M.length) 3)).alloc (Obj.cells (madeCells #[.int .i64 0] K.length) 3)) := hW3
  have HL0 : Hid (Lw w0 w0.heap.size (w0.heap.size + 1) M.length K.length [] [] W3) := by
    have q1 := below_alloc w0 (Obj.cells (madeCells #[.int .i64 0] M.length) 3)
    have q2 := World.rowIs_made w0 (.int .i64 0) M.length 3
    have q3 : (w0.alloc (Obj.cells (madeCells #[.int .i64 0] M.length) 3)).heap.size = w0.heap.size + 1 := by simp
    generalize w0.alloc (Obj.cells (madeCells #[.int .i64 0] M.length) 3) = w4 at *
    have q4 := below_alloc w4 (Obj.cells (madeCells #[.int .i64 0] K.length) 3)
    have q5 := World.rowIs_made w4 (.int .i64 0) K.length 3
    rw [← hW3] at q4 q5
    rw [q3] at q5
    exact ⟨chain q1 q4, q2.of_block (q4.block _ q2.lt), q5, Nat.le_refl _, by omega, by omega⟩
  clear hA hb2 hw0 hW3 hmk HI
  go_wp2
  try rw [← HW0.out]
  try rw [← HW3.out]
  obtain ⟨mb, hmb⟩ : ∃ mb, mb = w2.heap.size := ⟨_, rfl⟩
  rw [← hmb] at HRd ⊢
  have hsz' : w0.heap.size = mb + 1 := by rw [hsz0, hmb]
  rw [hsz'] at HL0
  clear HW0 HW3 hsz0 hsz' hmb hmkM hmkK HSs HB1 hn1 hn2
  generalize mb + 1 + 1 = bb at *
  generalize mb + 1 = ab at *
  go_loopw [9, 10] (fun c _ wr => ∃ k : Nat, k ≤ t.ps.length ∧ c = .int .i64 (k : Int) ∧ Lw w0 ab bb M.length K.length ((t.ps.take k).map Prod.fst) ((t.ps.take k).map Prod.snd) wr) (fun c _ _ => t.ps.length - (intOf c).toNat)
  case atStart => exact ⟨0, Nat.zero_le _, rfl, HL0.out⟩
  case round =>
    clear HL0
    obtain ⟨k, hk, rfl, hL⟩ := hrel
    obtain ⟨wk, rfl⟩ : ∃ wk, wk = wr := ⟨_, rfl⟩
    have HL : Hid (Lw w0 ab bb M.length K.length ((t.ps.take k).map Prod.fst) ((t.ps.take k).map Prod.snd) wk) := hL
    have HR : Hid (Rd w1.heap.size wk mb gM gK M K t pa xa ya pc xc yc vs) := HRd.out.1.later hL.low
    have hmbl : mb < w0.heap.size := blkLt HRd.out.1.box
    have hal := HL.out.alo
    have hbl := HL.out.blo
    clear hL
    by_cases hlt : k < t.ps.length
    · as_aux_lemma =>
        have hlt' : (k : Int) < (t.ps.length : Int) := by omega
        obtain ⟨pg, vb, vc, hpa, e1, e2, e3⟩ := pair_at HR.out.ans k hlt
        obtain ⟨pg', vb', vc', hpa', e1', e2', e3'⟩ := pair_at HRd.out.1.ans k hlt
        subst hpa
        have hpg : pg = pg' := by have := Option.some.inj hpa'; simpa using this
        subst hpg
        have hvv : vb = vb' := by
          have q := (HL.out.low.cell (p := ⟨pg, k, none⟩) (cell_lt' e1')).trans e1'
          rw [e1] at q
          simpa using (by simpa using q : vb = vb' ∧ vc = vc').1
        subst hvv
        have hvl : vb < w0.heap.size := cell_lt' e2'
        clear hpa' e1' e2' e3'
        have y0 : wk.cell? ⟨mb, 0, none⟩ = some (.slice (some ⟨pg, 0, none⟩) t.ps.length pc) := blkCell HR.out.box 0 _ rfl
        have hp := HOK.out.pair _ (getD_mem t.ps (0, 0) k hlt)
        have HNf : Hid ((t.ps.take (k + 1)).map Prod.fst = (t.ps.take k).map Prod.fst ++ [(t.ps.getD k (0, 0)).1] ∧ (t.ps.take (k + 1)).map Prod.snd = (t.ps.take k).map Prod.snd ++ [(t.ps.getD k (0, 0)).2]) := fst_take t.ps k hlt
        generalize t.ps.getD k (0, 0) = p at *
        obtain ⟨p1, p2⟩ := p
        dsimp only at hp e2 e3 HNf
        obtain ⟨hp1, hp2, hsame⟩ := hp
        have hp1' : (p1 : Int) < (M.length : Int) := by omega
        have hp2' : (p2 : Int) < (K.length : Int) := by omega
        have hp10 : ¬ ((p1 : Int) < 0) := by omega
        have hp20 : ¬ ((p2 : Int) < 0) := by omega
        have hp11 : ¬ ((M.length : Int) ≤ (p1 : Int)) := by omega
        have hp21 : ¬ ((K.length : Int) ≤ (p2 : Int)) := by omega
        obtain ⟨m0, m1⟩ := HR.out.mm p1 hp1
        obtain ⟨n0, n1⟩ := HR.out.kk p2 hp2
        rw [Nat.zero_add] at m0 m1 n0 n1
        have hnq := fun W => seNeq_run (M.getD p1 zSe).id (K.getD p2 zSe).id (M.getD p1 zSe).am (K.getD p2 zSe).am W
        have hsame' : seEq ⟨(M.getD p1 zSe).id, (M.getD p1 zSe).am⟩ ⟨(K.getD p2 zSe).id, (K.getD p2 zSe).am⟩ = true := hsame
        rw [hsame'] at hnq
        generalize (M.getD p1 zSe).id = ia at *
        generalize (M.getD p1 zSe).am = ma at *
        generalize (K.getD p2 zSe).id = ka at *
        generalize (K.getD p2 zSe).am = na at *
        clear hsame hsame'
        have HQ : Hid (∀ W : World, W = wk.drew → W.cell? ⟨vb, 0, none⟩ = some (.int .i64 (p1 : Int)) ∧ W.cell? ⟨vb, 1, none⟩ = some (.int .i64 (p2 : Int)) ∧ W.cell? ⟨gM, p1 * 2, none⟩ = some (.string ia) ∧ W.cell? ⟨gM, p1 * 2 + 1, none⟩ = some (.int .i64 ma) ∧ W.cell? ⟨gK, p2 * 2, none⟩ = some (.string ka) ∧ W.cell? ⟨gK, p2 * 2 + 1, none⟩ = some (.int .i64 na)) := fun W e => by rw [e]; exact ⟨e2, e3, m0, m1, n0, n1⟩
        clear e2 e3 m0 m1 n0 n1
        go_wp2_with fail
        refine wp_region_held_drew (S := fun W => W = wk.drew) (by kernel_rfl) rfl (fun hH => ?_)
        generalize hWd : wk.drew = Wd at *
        refine wpAnyH_take (i := 0) (v := .slice (some ⟨vb, 0, none⟩) 2 vc) rfl (by kernel_rfl) (by kernel_rfl) (by kernel_rfl) (fun _ _ _ h => h) (Or.inl ⟨by rfl, fun w hSw => by go_simp⟩) hH ?_
        refine wpAnyH_take (i := 1) (v := .int .i64 2) rfl (by kernel_rfl) (by kernel_rfl) (by kernel_rfl) (fun _ _ _ h => h) (Or.inl ⟨by rfl, fun w hSw => by go_simp⟩) hH ?_
        try simp only [Act.put, List.setIfInBounds_toArray, List.set_cons_zero, List.set_cons_succ, List.getElem_toArray, List.getElem_cons_succ, List.getElem_cons_zero]
        refine wpAnyH_take (i := 2) (v := .bool false) rfl (by kernel_rfl) (by kernel_rfl) (by kernel_rfl) (fun _ _ _ h => h) (Or.inl ⟨by rfl, fun w hSw => by go_simp⟩) hH ?_
        try simp only [Act.put, List.setIfInBounds_toArray, List.set_cons_zero, List.set_cons_succ, List.getElem_toArray, List.getElem_cons_succ, List.getElem_cons_zero]
        refine wpAnyH_take (i := 3) (v := .bool false) rfl (by kernel_rfl) (by kernel_rfl) (by kernel_rfl) (fun _ _ _ h => h) (Or.inl ⟨by rfl, fun w hSw => by go_simp⟩) hH ?_
        try simp only [Act.put, List.setIfInBounds_toArray, List.set_cons_zero, List.set_cons_succ, List.getElem_toArray, List.getElem_cons_succ, List.getElem_cons_zero]
        refine wpAnyH_take (i := 4) (v := .slice (some ⟨vb, 0, none⟩) 2 vc) rfl (by kernel_rfl) (by kernel_rfl) (by kernel_rfl) (fun _ _ _ h => h) (Or.inl ⟨by rfl, fun w hSw => by go_simp⟩) hH ?_
        try simp only [Act.put, List.setIfInBounds_toArray, List.set_cons_zero, List.set_cons_succ, List.getElem_toArray, List.getElem_cons_succ, List.getElem_cons_zero]
        refine wpAnyH_take (i := 5) (v := .pointer (some ⟨vb, 0, none⟩)) rfl (by kernel_rfl) (by kernel_rfl) (by kernel_rfl) (fun _ _ _ h => h) (Or.inl ⟨by rfl, fun w hSw => by go_simp⟩) hH ?_
        try simp only [Act.put, List.setIfInBounds_toArray, List.set_cons_zero, List.set_cons_succ, List.getElem_toArray, List.getElem_cons_succ, List.getElem_cons_zero]
        refine wpAnyH_take (i := 6) (v := .int .i64 (p1 : Int)) rfl (by kernel_rfl) (by kernel_rfl) (by kernel_rfl) (fun _ _ _ h => h) (Or.inl ⟨by rfl, fun w hSw => by have f0 := (HQ.out _ hSw).1; clear hSw; go_simp⟩) hH ?_
        try simp only [Act.put, List.setIfInBounds_toArray, List.set_cons_zero, List.set_cons_succ, List.getElem_toArray, List.getElem_cons_succ, List.getElem_cons_zero]
        refine wpAnyH_take (i := 7) (v := .bool false) rfl (by kernel_rfl) (by kernel_rfl) (by kernel_rfl) (fun _ _ _ h => h) (Or.inl ⟨by rfl, fun w hSw => by go_simp⟩) hH ?_
        try simp only [Act.put, List.setIfInBounds_toArray, List.set_cons_zero, List.set_cons_succ, List.getElem_toArray, List.getElem_cons_succ, List.getElem_cons_zero]
        refine wpAnyH_take (i := 8) (v := .bool false) rfl (by kernel_rfl) (by kernel_rfl) (by kernel_rfl) (fun _ _ _ h => h) (Or.inl ⟨by rfl, fun w hSw => by go_simp⟩) hH ?_
        try simp only [Act.put, List.setIfInBounds_toArray, List.set_cons_zero, List.set_cons_succ, List.getElem_toArray, List.getElem_cons_succ, List.getElem_cons_zero]
        refine wpAnyH_take (i := 9) (v := .bool false) rfl (by kernel_rfl) (by kernel_rfl) (by kernel_rfl) (fun _ _ _ h => h) (Or.inl ⟨by rfl, fun w hSw => by go_simp⟩) hH ?_
        try simp only [Act.put, List.setIfInBounds_toArray, List.set_cons_zero, List.set_cons_succ, List.getElem_toArray, List.getElem_cons_succ, List.getElem_cons_zero]
        refine wpAnyH_take (i := 10) (v := .slice (some ⟨vb, 0, none⟩) 2 vc) rfl (by kernel_rfl) (by kernel_rfl) (by kernel_rfl) (fun _ _ _ h => h) (Or.inl ⟨by rfl, fun w hSw => by go_simp⟩) hH ?_
        try simp only [Act.put, List.setIfInBounds_toArray, List.set_cons_zero, List.set_cons_succ, List.getElem_toArray, List.getElem_cons_succ, List.getElem_cons_zero]
        refine wpAnyH_take (i := 11) (v := .pointer (some ⟨vb, 0, none⟩)) rfl (by kernel_rfl) (by kernel_rfl) (by kernel_rfl) (fun _ _ _ h => h) (Or.inl ⟨by rfl, fun w hSw => by go_simp⟩) hH ?_
        try simp only [Act.put, List.setIfInBounds_toArray, List.set_cons_zero, List.set_cons_succ, List.getElem_toArray, List.getElem_cons_succ, List.getElem_cons_zero]
        refine wpAnyH_take (i := 12) (v := .int .i64 (p1 : Int)) rfl (by kernel_rfl) (by kernel_rfl) (by kernel_rfl) (fun _ _ _ h => h) (Or.inl ⟨by rfl, fun w hSw => by have f0 := (HQ.out _ hSw).1; clear hSw; go_simp⟩) hH ?_
        try simp only [Act.put, List.setIfInBounds_toArray, List.set_cons_zero, List.set_cons_succ, List.getElem_toArray, List.getElem_cons_succ, List.getElem_cons_zero]
        refine wpAnyH_take (i := 13) (v := .slice (some ⟨gM, 0, none⟩) M.length cM) rfl (by kernel_rfl) (by kernel_rfl) (by kernel_rfl) (fun _ _ _ h => h) (Or.inl ⟨by rfl, fun w hSw => by go_simp⟩) hH ?_
        try simp only [Act.put, List.setIfInBounds_toArray, List.set_cons_zero, List.set_cons_succ, List.getElem_toArray, List.getElem_cons_succ, List.getElem_cons_zero]
        refine wpAnyH_take (i := 14) (v := .int .i64 (M.length : Int)) rfl (by kernel_rfl) (by kernel_rfl) (by kernel_rfl) (fun _ _ _ h => h) (Or.inl ⟨by rfl, fun w hSw => by go_simp⟩) hH ?_
        try simp only [Act.put, List.setIfInBounds_toArray, List.set_cons_zero, List.set_cons_succ, List.getElem_toArray, List.getElem_cons_succ, List.getElem_cons_zero]
        refine wpAnyH_take (i := 15) (v := .bool false) rfl (by kernel_rfl) (by kernel_rfl) (by kernel_rfl) (fun _ _ _ h => h) (Or.inl ⟨by rfl, fun w hSw => by go_simp⟩) hH ?_
        try simp only [Act.put, List.setIfInBounds_toArray, List.set_cons_zero, List.set_cons_succ, List.getElem_toArray, List.getElem_cons_succ, List.getElem_cons_zero]
        refine wpAnyH_take (i := 16) (v := .bool false) rfl (by kernel_rfl) (by kernel_rfl) (by kernel_rfl) (fun _ _ _ h => h) (Or.inl ⟨by rfl, fun w hSw => by go_simp⟩) hH ?_
        try simp only [Act.put, List.setIfInBounds_toArray, List.set_cons_zero, List.set_cons_succ, List.getElem_toArray, List.getElem_cons_succ, List.getElem_cons_zero]
        refine wpAnyH_take (i := 17) (v := .bool false) rfl (by kernel_rfl) (by kernel_rfl) (by kernel_rfl) (fun _ _ _ h => h) (Or.inl ⟨by rfl, fun w hSw => by go_simp⟩) hH ?_
        try simp only [Act.put, List.setIfInBounds_toArray, List.set_cons_zero, List.set_cons_succ, List.getElem_toArray, List.getElem_cons_succ, List.getElem_cons_zero]
        refine wpAnyH_take (i := 18) (v := .slice (some ⟨vb, 0, none⟩) 2 vc) rfl (by kernel_rfl) (by kernel_rfl) (by kernel_rfl) (fun _ _ _ h => h) (Or.inl ⟨by rfl, fun w hSw => by go_simp⟩) hH ?_
        try simp only [Act.put, List.setIfInBounds_toArray, List.set_cons_zero, List.set_cons_succ, List.getElem_toArray, List.getElem_cons_succ, List.getElem_cons_zero]
        refine wpAnyH_take (i := 19) (v := .pointer (some ⟨vb, 1, none⟩)) rfl (by kernel_rfl) (by kernel_rfl) (by kernel_rfl) (fun _ _ _ h => h) (Or.inl ⟨by rfl, fun w hSw => by go_simp⟩) hH ?_
        try simp only [Act.put, List.setIfInBounds_toArray, List.set_cons_zero, List.set_cons_succ, List.getElem_toArray, List.getElem_cons_succ, List.getElem_cons_zero]
        refine wpAnyH_take (i := 20) (v := .int .i64 (p2 : Int)) rfl (by kernel_rfl) (by kernel_rfl) (by kernel_rfl) (fun _ _ _ h => h) (Or.inl ⟨by rfl, fun w hSw => by have f0 := (HQ.out _ hSw).2.1; clear hSw; go_simp⟩) hH ?_
        try simp only [Act.put, List.setIfInBounds_toArray, List.set_cons_zero, List.set_cons_succ, List.getElem_toArray, List.getElem_cons_succ, List.getElem_cons_zero]
        refine wpAnyH_take (i := 21) (v := .bool false) rfl (by kernel_rfl) (by kernel_rfl) (by kernel_rfl) (fun _ _ _ h => h) (Or.inl ⟨by rfl, fun w hSw => by go_simp⟩) hH ?_
        try simp only [Act.put, List.setIfInBounds_toArray, List.set_cons_zero, List.set_cons_succ, List.getElem_toArray, List.getElem_cons_succ, List.getElem_cons_zero]
        refine wpAnyH_take (i := 22) (v := .bool false) rfl (by kernel_rfl) (by kernel_rfl) (by kernel_rfl) (fun _ _ _ h => h) (Or.inl ⟨by rfl, fun w hSw => by go_simp⟩) hH ?_
        try simp only [Act.put, List.setIfInBounds_toArray, List.set_cons_zero, List.set_cons_succ, List.getElem_toArray, List.getElem_cons_succ, List.getElem_cons_zero]
        refine wpAnyH_take (i := 23) (v := .bool false) rfl (by kernel_rfl) (by kernel_rfl) (by kernel_rfl) (fun _ _ _ h => h) (Or.inl ⟨by rfl, fun w hSw => by go_simp⟩) hH ?_
        try simp only [Act.put, List.setIfInBounds_toArray, List.set_cons_zero, List.set_cons_succ, List.getElem_toArray, List.getElem_cons_succ, List.getElem_cons_zero]
        refine wpAnyH_take (i := 24) (v := .slice (some ⟨vb, 0, none⟩) 2 vc) rfl (by kernel_rfl) (by kernel_rfl) (by kernel_rfl) (fun _ _ _ h => h) (Or.inl ⟨by rfl, fun w hSw => by go_simp⟩) hH ?_
        try simp only [Act.put, List.setIfInBounds_toArray, List.set_cons_zero, List.set_cons_succ, List.getElem_toArray, List.getElem_cons_succ, List.getElem_cons_zero]
        refine wpAnyH_take (i := 25) (v := .pointer (some ⟨vb, 1, none⟩)) rfl (by kernel_rfl) (by kernel_rfl) (by kernel_rfl) (fun _ _ _ h => h) (Or.inl ⟨by rfl, fun w hSw => by go_simp⟩) hH ?_
        try simp only [Act.put, List.setIfInBounds_toArray, List.set_cons_zero, List.set_cons_succ, List.getElem_toArray, List.getElem_cons_succ, List.getElem_cons_zero]
        refine wpAnyH_take (i := 26) (v := .int .i64 (p2 : Int)) rfl (by kernel_rfl) (by kernel_rfl) (by kernel_rfl) (fun _ _ _ h => h) (Or.inl ⟨by rfl, fun w hSw => by have f0 := (HQ.out _ hSw).2.1; clear hSw; go_simp⟩) hH ?_
        try simp only [Act.put, List.setIfInBounds_toArray, List.set_cons_zero, List.set_cons_succ, List.getElem_toArray, List.getElem_cons_succ, List.getElem_cons_zero]
        refine wpAnyH_take (i := 27) (v := .slice (some ⟨gK, 0, none⟩) K.length cK) rfl (by kernel_rfl) (by kernel_rfl) (by kernel_rfl) (fun _ _ _ h => h) (Or.inl ⟨by rfl, fun w hSw => by go_simp⟩) hH ?_
        try simp only [Act.put, List.setIfInBounds_toArray, List.set_cons_zero, List.set_cons_succ, List.getElem_toArray, List.getElem_cons_succ, List.getElem_cons_zero]
        refine wpAnyH_take (i := 28) (v := .int .i64 (K.length : Int)) rfl (by kernel_rfl) (by kernel_rfl) (by kernel_rfl) (fun _ _ _ h => h) (Or.inl ⟨by rfl, fun w hSw => by go_simp⟩) hH ?_
        try simp only [Act.put, List.setIfInBounds_toArray, List.set_cons_zero, List.set_cons_succ, List.getElem_toArray, List.getElem_cons_succ, List.getElem_cons_zero]
        refine wpAnyH_take (i := 29) (v := .bool false) rfl (by kernel_rfl) (by kernel_rfl) (by kernel_rfl) (fun _ _ _ h => h) (Or.inl ⟨by rfl, fun w hSw => by go_simp⟩) hH ?_
        try simp only [Act.put, List.setIfInBounds_toArray, List.set_cons_zero, List.set_cons_succ, List.getElem_toArray, List.getElem_cons_succ, List.getElem_cons_zero]
        refine wpAnyH_take (i := 30) (v := .bool false) rfl (by kernel_rfl) (by kernel_rfl) (by kernel_rfl) (fun _ _ _ h => h) (Or.inl ⟨by rfl, fun w hSw => by go_simp⟩) hH ?_
        try simp only [Act.put, List.setIfInBounds_toArray, List.set_cons_zero, List.set_cons_succ, List.getElem_toArray, List.getElem_cons_succ, List.getElem_cons_zero]
        refine wpAnyH_take (i := 31) (v := .bool false) rfl (by kernel_rfl) (by kernel_rfl) (by kernel_rfl) (fun _ _ _ h => h) (Or.inl ⟨by rfl, fun w hSw => by go_simp⟩) hH ?_
        try simp only [Act.put, List.setIfInBounds_toArray, List.set_cons_zero, List.set_cons_succ, List.getElem_toArray, List.getElem_cons_succ, List.getElem_cons_zero]
        refine wpAnyH_take (i := 32) (v := .slice (some ⟨gM, 0, none⟩) M.length cM) rfl (by kernel_rfl) (by kernel_rfl) (by kernel_rfl) (fun _ _ _ h => h) (Or.inl ⟨by rfl, fun w hSw => by go_simp⟩) hH ?_
        try simp only [Act.put, List.setIfInBounds_toArray, List.set_cons_zero, List.set_cons_succ, List.getElem_toArray, List.getElem_cons_succ, List.getElem_cons_zero]
        refine wpAnyH_take (i := 33) (v := .slice (some ⟨vb, 0, none⟩) 2 vc) rfl (by kernel_rfl) (by kernel_rfl) (by kernel_rfl) (fun _ _ _ h => h) (Or.inl ⟨by rfl, fun w hSw => by go_simp⟩) hH ?_
        try simp only [Act.put, List.setIfInBounds_toArray, List.set_cons_zero, List.set_cons_succ, List.getElem_toArray, List.getElem_cons_succ, List.getElem_cons_zero]
        refine wpAnyH_take (i := 34) (v := .pointer (some ⟨vb, 0, none⟩)) rfl (by kernel_rfl) (by kernel_rfl) (by kernel_rfl) (fun _ _ _ h => h) (Or.inl ⟨by rfl, fun w hSw => by go_simp⟩) hH ?_
        try simp only [Act.put, List.setIfInBounds_toArray, List.set_cons_zero, List.set_cons_succ, List.getElem_toArray, List.getElem_cons_succ, List.getElem_cons_zero]
        refine wpAnyH_take (i := 35) (v := .int .i64 (p1 : Int)) rfl (by kernel_rfl) (by kernel_rfl) (by kernel_rfl) (fun _ _ _ h => h) (Or.inl ⟨by rfl, fun w hSw => by have f0 := (HQ.out _ hSw).1; clear hSw; go_simp⟩) hH ?_
        try simp only [Act.put, List.setIfInBounds_toArray, List.set_cons_zero, List.set_cons_succ, List.getElem_toArray, List.getElem_cons_succ, List.getElem_cons_zero]
        refine wpAnyH_take (i := 36) (v := .pointer (some ⟨gM, p1 * 2, none⟩)) rfl (by kernel_rfl) (by kernel_rfl) (by kernel_rfl) (fun _ _ _ h => h) (Or.inl ⟨by rfl, fun w hSw => by go_simp⟩) hH ?_
        try simp only [Act.put, List.setIfInBounds_toArray, List.set_cons_zero, List.set_cons_succ, List.getElem_toArray, List.getElem_cons_succ, List.getElem_cons_zero]
        refine wpAnyH_take (i := 37) (v := .agg #[.string ia, .int .i64 ma]) rfl (by kernel_rfl) (by kernel_rfl) (by kernel_rfl) (fun _ _ _ h => h) (Or.inl ⟨by rfl, fun w hSw => by have f0 := (HQ.out _ hSw).2.2.1; have f1 := (HQ.out _ hSw).2.2.2.1; clear hSw; go_simp⟩) hH ?_
        try simp only [Act.put, List.setIfInBounds_toArray, List.set_cons_zero, List.set_cons_succ, List.getElem_toArray, List.getElem_cons_succ, List.getElem_cons_zero]
        refine wpAnyH_take (i := 38) (v := .slice (some ⟨gK, 0, none⟩) K.length cK) rfl (by kernel_rfl) (by kernel_rfl) (by kernel_rfl) (fun _ _ _ h => h) (Or.inl ⟨by rfl, fun w hSw => by go_simp⟩) hH ?_
        try simp only [Act.put, List.setIfInBounds_toArray, List.set_cons_zero, List.set_cons_succ, List.getElem_toArray, List.getElem_cons_succ, List.getElem_cons_zero]
        refine wpAnyH_take (i := 39) (v := .slice (some ⟨vb, 0, none⟩) 2 vc) rfl (by kernel_rfl) (by kernel_rfl) (by kernel_rfl) (fun _ _ _ h => h) (Or.inl ⟨by rfl, fun w hSw => by go_simp⟩) hH ?_
        try simp only [Act.put, List.setIfInBounds_toArray, List.set_cons_zero, List.set_cons_succ, List.getElem_toArray, List.getElem_cons_succ, List.getElem_cons_zero]
        refine wpAnyH_take (i := 40) (v := .pointer (some ⟨vb, 1, none⟩)) rfl (by kernel_rfl) (by kernel_rfl) (by kernel_rfl) (fun _ _ _ h => h) (Or.inl ⟨by rfl, fun w hSw => by go_simp⟩) hH ?_
        try simp only [Act.put, List.setIfInBounds_toArray, List.set_cons_zero, List.set_cons_succ, List.getElem_toArray, List.getElem_cons_succ, List.getElem_cons_zero]
        refine wpAnyH_take (i := 41) (v := .int .i64 (p2 : Int)) rfl (by kernel_rfl) (by kernel_rfl) (by kernel_rfl) (fun _ _ _ h => h) (Or.inl ⟨by rfl, fun w hSw => by have f0 := (HQ.out _ hSw).2.1; clear hSw; go_simp⟩) hH ?_
        try simp only [Act.put, List.setIfInBounds_toArray, List.set_cons_zero, List.set_cons_succ, List.getElem_toArray, List.getElem_cons_succ, List.getElem_cons_zero]
        refine wpAnyH_take (i := 42) (v := .pointer (some ⟨gK, p2 * 2, none⟩)) rfl (by kernel_rfl) (by kernel_rfl) (by kernel_rfl) (fun _ _ _ h => h) (Or.inl ⟨by rfl, fun w hSw => by go_simp⟩) hH ?_
        try simp only [Act.put, List.setIfInBounds_toArray, List.set_cons_zero, List.set_cons_succ, List.getElem_toArray, List.getElem_cons_succ, List.getElem_cons_zero]
        refine wpAnyH_take (i := 43) (v := .agg #[.string ka, .int .i64 na]) rfl (by kernel_rfl) (by kernel_rfl) (by kernel_rfl) (fun _ _ _ h => h) (Or.inl ⟨by rfl, fun w hSw => by have f0 := (HQ.out _ hSw).2.2.2.2.1; have f1 := (HQ.out _ hSw).2.2.2.2.2; clear hSw; go_simp⟩) hH ?_
        try simp only [Act.put, List.setIfInBounds_toArray, List.set_cons_zero, List.set_cons_succ, List.getElem_toArray, List.getElem_cons_succ, List.getElem_cons_zero]
        refine wpAnyH_take (i := 44) (v := .bool false) rfl (by kernel_rfl) (by kernel_rfl) (by kernel_rfl) (fun _ _ _ h => h) (Or.inl ⟨by rfl, fun w hSw => by have f0 := hnq w; clear hSw; go_simp⟩) hH ?_
        try simp only [Act.put, List.setIfInBounds_toArray, List.set_cons_zero, List.set_cons_succ, List.getElem_toArray, List.getElem_cons_succ, List.getElem_cons_zero]
        refine wpAnyH_take (i := 45) (v := .bool false) rfl (by kernel_rfl) (by kernel_rfl) (by kernel_rfl) (fun _ _ _ h => h) (Or.inl ⟨by rfl, fun w hSw => by go_simp⟩) hH ?_
        try simp only [Act.put, List.setIfInBounds_toArray, List.set_cons_zero, List.set_cons_succ, List.getElem_toArray, List.getElem_cons_succ, List.getElem_cons_zero]
        refine wpAnyH_done (by kernel_rfl) ?_ _
        have HLd : Hid (Lw w0 ab bb M.length K.length ((t.ps.take k).map Prod.fst) ((t.ps.take k).map Prod.snd) Wd) := by rw [← hWd]; exact HL.out.later (below_drew _)
        obtain ⟨v0, v1, _⟩ := HQ.out Wd rfl
        clear hH hWd HQ HL hnq HR y0 e1
        have cA := HLd.out.arow.cell hp1
        have fA := HLd.out.arow.frozen p1
        have cB := HLd.out.brow.cell hp2
        have fB := HLd.out.brow.frozen p2
        have bA := cF_bound ((t.ps.take k).map Prod.fst) p1
        have bB := cF_bound ((t.ps.take k).map Prod.snd) p2
        have HP : Hid (Lw w0 ab bb M.length K.length ((t.ps.take k).map Prod.fst ++ [p1]) ((t.ps.take k).map Prod.snd ++ [p2]) ((Wd.setCell ⟨ab, p1, none⟩ (.int .i64 (cF ((t.ps.take k).map Prod.fst) p1 + 1))).setCell ⟨bb, p2, none⟩ (.int .i64 (cF ((t.ps.take k).map Prod.snd) p2 + 1)))) := (HLd.out.putA p1).putB p2
        have hla : ((t.ps.take k).map Prod.fst).length ≤ 10 ∧ ((t.ps.take k).map Prod.snd).length ≤ 10 := by simp; omega
        generalize cF ((t.ps.take k).map Prod.fst) p1 = ca at *
        generalize cF ((t.ps.take k).map Prod.snd) p2 = cb at *
        have w1' : wrap64 (ca + 1) = ca + 1 := by unfold wrap64; omega
        have w2' : wrap64 (cb + 1) = cb + 1 := by unfold wrap64; omega
        have hne : ab ≠ bb := HLd.out.ne
        have hne' : bb ≠ ab := fun e => hne e.symm
        have hva : vb ≠ ab := by omega
        have hva' : ab ≠ vb := by omega
        clear hla bA bB HLd
        go_wp2
        exact ⟨⟨k + 1, by omega, by go_num, by rw [HNf.out.1, HNf.out.2]; exact HP.out⟩, by simp [intOf]; omega⟩
    · obtain rfl : k = t.ps.length := by omega
      rw [List.take_length] at HL
      have y0 : wk.cell? ⟨mb, 0, none⟩ = some (.slice pa t.ps.length pc) := blkCell HR.out.box 0 _ rfl
      clear HR hk hlt
      go_wp2
      clear y0
      have HL1 : Hid (Lw w0 ab bb M.length K.length (t.ps.map Prod.fst ++ t.ms.take 0) (t.ps.map Prod.snd) wk) := by show Lw _ _ _ _ _ _ _ _; rw [List.take_zero, List.append_nil]; exact HL.out
      have HAl : Hid (t.ps.length + t.ms.length = M.length ∧ t.ps.length + t.bs.length = K.length) := ⟨hl1, hl2⟩
      have hq1 : t.ps.length ≤ 10 := by omega
      have hq2 : t.ms.length ≤ 10 := by omega
      have hq3 : t.bs.length ≤ 10 := by omega
      clear HL hl1 hl2
      go_loopw [11, 12, 13] (fun f c _ wr => ∃ i : Nat, i ≤ t.ms.length ∧ c = .int .i64 (i : Int) ∧ f = .int .i64 (amS M (t.ms.take i)) ∧ Lw w0 ab bb M.length K.length (t.ps.map Prod.fst ++ t.ms.take i) (t.ps.map Prod.snd) wr) (fun _ c _ _ => t.ms.length - (intOf c).toNat)
      case atStart => exact ⟨0, Nat.zero_le _, rfl, rfl, HL1.out⟩
      case round =>
        clear HL1
        obtain ⟨i, hi, rfl, rfl, hL⟩ := hrel
        obtain ⟨wi, rfl⟩ : ∃ wi, wi = wr := ⟨_, rfl⟩
        have HL : Hid (Lw w0 ab bb M.length K.length (t.ps.map Prod.fst ++ t.ms.take i) (t.ps.map Prod.snd) wi) := hL
        have HR : Hid (Rd w1.heap.size wi mb gM gK M K t pa xa ya pc xc yc vs) := HRd.out.1.later hL.low
        clear hL
        have y1 : wi.cell? ⟨mb, 1, none⟩ = some (.slice xa t.ms.length xc) := blkCell HR.out.box 1 _ rfl
        by_cases hlt : i < t.ms.length
        · have hlt' : (i : Int) < (t.ms.length : Int) := by omega
          obtain ⟨xb, hxa, e1⟩ := row_at HR.out.ans.mrow i hlt
          subst hxa
          have hxl : xb < w0.heap.size := by
            obtain ⟨xb', hxa', e1'⟩ := row_at HRd.out.1.ans.mrow i hlt
            have : xb = xb' := by have := Option.some.inj hxa'; simpa using this
            rw [this]; exact cell_lt' e1'
          have hgl : gM < w0.heap.size ∧ gK < w0.heap.size := ⟨HRd.out.1.ml, HRd.out.1.kl⟩
          have hx := HOK.out.mlt _ (getD_mem t.ms 0 i hlt)
          have HLf : Hid (∀ y ∈ t.bs, seEq (K.getD y zSe) (M.getD (t.ms.getD i 0) zSe) = false) := HOK.out.left _ (getD_mem t.ms 0 i hlt)
          have HTk : Hid (t.ms.take (i + 1) = t.ms.take i ++ [t.ms.getD i 0]) := take_next t.ms 0 i hlt
          generalize t.ms.getD i 0 = x at *
          have hx' : (x : Int) < (M.length : Int) := by omega
          have hx0 : ¬ ((x : Int) < 0) := by omega
          have hx1 : ¬ ((M.length : Int) ≤ (x : Int)) := by omega
          obtain ⟨m0, m1⟩ := HR.out.mm x hx
          rw [Nat.zero_add] at m0 m1
          have HS1 : Hid (amS M (t.ms.take (i + 1)) = amS M (t.ms.take i) + (M.getD x zSe).am) := by show _ = _; rw [HTk.out, amS_app]; simp [amS]
          have bS := amS_bound HDM.out (t.ms.take i)
          have bM := am_bound HDM.out x
          have bl : (t.ms.take i).length ≤ 10 := by have := HAl.out.1; rw [List.length_take]; omega
          have cA := HL.out.arow.cell hx
          have fA := HL.out.arow.frozen x
          have bA := cF_bound (t.ps.map Prod.fst ++ t.ms.take i) x
          have hla : (t.ps.map Prod.fst ++ t.ms.take i).length ≤ 20 := by have := HAl.out.1; rw [List.length_append, List.length_map, List.length_take]; omega
          have HP : Hid (Lw w0 ab bb M.length K.length (t.ps.map Prod.fst ++ t.ms.take (i + 1)) (t.ps.map Prod.snd) (wi.setCell ⟨ab, x, none⟩ (.int .i64 (cF (t.ps.map Prod.fst ++ t.ms.take i) x + 1)))) := by
            show Lw _ _ _ _ _ _ _ _
            rw [HTk.out, ← List.append_assoc]; exact HL.out.putA x
          generalize cF (t.ps.map Prod.fst ++ t.ms.take i) x = ca at *
          generalize amS M (t.ms.take i) = sm at *
          generalize hMx : M.getD x zSe = rM at *
          have HMx : Hid (M.getD x zSe = rM) := hMx
          obtain ⟨ia, ma⟩ := rM
          dsimp only at m0 m1 bM HS1
          have w1' : wrap64 (ca + 1) = ca + 1 := by unfold wrap64; omega
          have w2' : wrap64 (sm + ma) = sm + ma := by unfold wrap64; omega
          have hma : mb ≠ ab := by omega
          have hma' : ab ≠ mb := by omega
          have hxa : xb ≠ ab := by omega
          have hxa' : ab ≠ xb := by omega
          have hga : gM ≠ ab := by omega
          have hga' : ab ≠ gM := by omega
          clear hMx m0 bS bM bA hla bl
          have HXc : Hid (wi.cell? ⟨xb, i, none⟩ = some (.int .i64 (x : Int))) := e1
          go_wp2
          clear cA fA e1 y1 m1
          generalize wi.setCell ⟨ab, x, none⟩ (.int .i64 (ca + 1)) = w4 at *
          go_loopw [13] (fun c wr => ∃ k : Nat, k ≤ t.bs.length ∧ c = .int .i64 (k : Int) ∧ Lw w0 ab bb M.length K.length (t.ps.map Prod.fst ++ t.ms.take (i + 1)) (t.ps.map Prod.snd) wr) (fun c _ => t.bs.length - (intOf c).toNat)
          case atStart => exact ⟨0, Nat.zero_le _, rfl, HP.out⟩
          case round =>
            clear HP HL HR
            obtain ⟨k, hk, rfl, hL⟩ := hrel
            obtain ⟨wq, rfl⟩ : ∃ wq, wq = wr := ⟨_, rfl⟩
            have HL : Hid (Lw w0 ab bb M.length K.length (t.ps.map Prod.fst ++ t.ms.take (i + 1)) (t.ps.map Prod.snd) wq) := hL
            have HR : Hid (Rd w1.heap.size wq mb gM gK M K t (pa) (some ⟨xb, 0, none⟩) ya pc xc yc vs) := HRd.out.1.later hL.low
            clear hL
            have y2 : wq.cell? ⟨mb, 2, none⟩ = some (.slice ya t.bs.length yc) := blkCell HR.out.box 2 _ rfl
            have y1 : wq.cell? ⟨mb, 1, none⟩ = some (.slice (some ⟨xb, 0, none⟩) t.ms.length xc) := blkCell HR.out.box 1 _ rfl
            by_cases hkl : k < t.bs.length
            · as_aux_lemma =>
                have hkl' : (k : Int) < (t.bs.length : Int) := by omega
                obtain ⟨yb, hya, e2⟩ := row_at HR.out.ans.brow k hkl
                subst hya
                obtain ⟨xb2, hxb2, e3⟩ := row_at HR.out.ans.mrow i hlt
                have hxx : xb = xb2 := by have := Option.some.inj hxb2; simpa using this
                subst hxx
                have hy := HOK.out.blt _ (getD_mem t.bs 0 k hkl)
                have hno := HLf.out _ (getD_mem t.bs 0 k hkl)
                generalize t.bs.getD k 0 = y at *
                have hy' : (y : Int) < (K.length : Int) := by omega
                have hy0 : (0 : Int) ≤ (y : Int) := by omega
                have hxe : ((t.ms.getD i 0 : Nat) : Int) = (x : Int) := by
                  have q := HRd.out.1.ans.mrow
                  have := HTk.out
                  rw [take_next t.ms 0 i hlt] at this
                  have := List.append_cancel_left this
                  simp at this
                  rw [List.getD_eq_getElem?_getD, this]
                rw [hxe] at e3
                obtain ⟨m0, m1⟩ := HR.out.mm x hx
                obtain ⟨n0, n1⟩ := HR.out.kk y hy
                rw [Nat.zero_add] at m0 m1 n0 n1
                rw [HMx.out] at m0 m1
                have heq := fun W => seEql_run (K.getD y zSe).id ia (K.getD y zSe).am ma W
                have hno' : seEq ⟨(K.getD y zSe).id, (K.getD y zSe).am⟩ ⟨ia, ma⟩ = false := hno
                rw [hno'] at heq
                generalize (K.getD y zSe).id = ka at *
                generalize (K.getD y zSe).am = na at *
                dsimp only at m0 m1
                have HQ : Hid (∀ W : World, W = wq.drew → W.cell? ⟨mb, 2, none⟩ = some (.slice (some ⟨yb, 0, none⟩) t.bs.length yc) ∧ W.cell? ⟨yb, k, none⟩ = some (.int .i64 (y : Int)) ∧ W.cell? ⟨gK, y * 2, none⟩ = some (.string ka) ∧ W.cell? ⟨gK, y * 2 + 1, none⟩ = some (.int .i64 na) ∧ W.cell? ⟨mb, 1, none⟩ = some (.slice (some ⟨xb, 0, none⟩) t.ms.length xc) ∧ W.cell? ⟨xb, i, none⟩ = some (.int .i64 (x : Int)) ∧ W.cell? ⟨gM, x * 2, none⟩ = some (.string ia) ∧ W.cell? ⟨gM, x * 2 + 1, none⟩ = some (.int .i64 ma)) := fun W e => by rw [e]; exact ⟨y2, e2, n0, n1, y1, e3, m0, m1⟩
                clear hno hno' e2 e3 m0 m1 n0 n1 y1 hxe
                go_wp2_with fail
                refine wp_region_held_drew (S := fun W => W = wq.drew) (by kernel_rfl) rfl (fun hH => ?_)
                generalize hWd : wq.drew = Wd at *
                refine wpAnyH_take (i := 0) (v := .pointer (some ⟨mb, 2, none⟩)) rfl (by kernel_rfl) (by kernel_rfl) (by kernel_rfl) (fun _ _ _ h => h) (Or.inl ⟨by rfl, fun w hSw => by go_simp⟩) hH ?_
                refine wpAnyH_take (i := 1) (v := .slice (some ⟨yb, 0, none⟩) t.bs.length yc) rfl (by kernel_rfl) (by kernel_rfl) (by kernel_rfl) (fun _ _ _ h => h) (Or.inl ⟨by rfl, fun w hSw => by have f0 := (HQ.out _ hSw).1; clear hSw; go_simp⟩) hH ?_
                try simp only [Act.put, List.setIfInBounds_toArray, List.set_cons_zero, List.set_cons_succ, List.getElem_toArray, List.getElem_cons_succ, List.getElem_cons_zero]
                refine wpAnyH_take (i := 2) (v := .int .i64 (k : Int)) rfl (by kernel_rfl) (by kernel_rfl) (by kernel_rfl) (fun _ _ _ h => h) (Or.inl ⟨by rfl, fun w hSw => by go_simp⟩) hH ?_
                try simp only [Act.put, List.setIfInBounds_toArray, List.set_cons_zero, List.set_cons_succ, List.getElem_toArray, List.getElem_cons_succ, List.getElem_cons_zero]
                refine wpAnyH_take (i := 3) (v := .pointer (some ⟨yb, k, none⟩)) rfl (by kernel_rfl) (by kernel_rfl) (by kernel_rfl) (fun _ _ _ h => h) (Or.inl ⟨by rfl, fun w hSw => by go_simp⟩) hH ?_
                try simp only [Act.put, List.setIfInBounds_toArray, List.set_cons_zero, List.set_cons_succ, List.getElem_toArray, List.getElem_cons_succ, List.getElem_cons_zero]
                refine wpAnyH_take (i := 4) (v := .int .i64 (y : Int)) rfl (by kernel_rfl) (by kernel_rfl) (by kernel_rfl) (fun _ _ _ h => h) (Or.inl ⟨by rfl, fun w hSw => by have f0 := (HQ.out _ hSw).2.1; clear hSw; go_simp⟩) hH ?_
                try simp only [Act.put, List.setIfInBounds_toArray, List.set_cons_zero, List.set_cons_succ, List.getElem_toArray, List.getElem_cons_succ, List.getElem_cons_zero]
                refine wpAnyH_take (i := 5) (v := .bool true) rfl (by kernel_rfl) (by kernel_rfl) (by kernel_rfl) (fun _ _ _ h => h) (Or.inl ⟨by rfl, fun w hSw => by go_simp⟩) hH ?_
                try simp only [Act.put, List.setIfInBounds_toArray, List.set_cons_zero, List.set_cons_succ, List.getElem_toArray, List.getElem_cons_succ, List.getElem_cons_zero]
                refine wpAnyH_take (i := 6) (v := .bool true) rfl (by kernel_rfl) (by kernel_rfl) (by kernel_rfl) (fun _ _ _ h => h) (Or.inl ⟨by rfl, fun w hSw => by go_simp⟩) hH ?_
                try simp only [Act.put, List.setIfInBounds_toArray, List.set_cons_zero, List.set_cons_succ, List.getElem_toArray, List.getElem_cons_succ, List.getElem_cons_zero]
                refine wpAnyH_take (i := 7) (v := .pointer (some ⟨mb, 2, none⟩)) rfl (by kernel_rfl) (by kernel_rfl) (by kernel_rfl) (fun _ _ _ h => h) (Or.inl ⟨by rfl, fun w hSw => by go_simp⟩) hH ?_
                try simp only [Act.put, List.setIfInBounds_toArray, List.set_cons_zero, List.set_cons_succ, List.getElem_toArray, List.getElem_cons_succ, List.getElem_cons_zero]
                refine wpAnyH_take (i := 8) (v := .slice (some ⟨yb, 0, none⟩) t.bs.length yc) rfl (by kernel_rfl) (by kernel_rfl) (by kernel_rfl) (fun _ _ _ h => h) (Or.inl ⟨by rfl, fun w hSw => by have f0 := (HQ.out _ hSw).1; clear hSw; go_simp⟩) hH ?_
                try simp only [Act.put, List.setIfInBounds_toArray, List.set_cons_zero, List.set_cons_succ, List.getElem_toArray, List.getElem_cons_succ, List.getElem_cons_zero]
                refine wpAnyH_take (i := 9) (v := .int .i64 (k : Int)) rfl (by kernel_rfl) (by kernel_rfl) (by kernel_rfl) (fun _ _ _ h => h) (Or.inl ⟨by rfl, fun w hSw => by go_simp⟩) hH ?_
                try simp only [Act.put, List.setIfInBounds_toArray, List.set_cons_zero, List.set_cons_succ, List.getElem_toArray, List.getElem_cons_succ, List.getElem_cons_zero]
                refine wpAnyH_take (i := 10) (v := .pointer (some ⟨yb, k, none⟩)) rfl (by kernel_rfl) (by kernel_rfl) (by kernel_rfl) (fun _ _ _ h => h) (Or.inl ⟨by rfl, fun w hSw => by go_simp⟩) hH ?_
                try simp only [Act.put, List.setIfInBounds_toArray, List.set_cons_zero, List.set_cons_succ, List.getElem_toArray, List.getElem_cons_succ, List.getElem_cons_zero]
                refine wpAnyH_take (i := 11) (v := .int .i64 (y : Int)) rfl (by kernel_rfl) (by kernel_rfl) (by kernel_rfl) (fun _ _ _ h => h) (Or.inl ⟨by rfl, fun w hSw => by have f0 := (HQ.out _ hSw).2.1; clear hSw; go_simp⟩) hH ?_
                try simp only [Act.put, List.setIfInBounds_toArray, List.set_cons_zero, List.set_cons_succ, List.getElem_toArray, List.getElem_cons_succ, List.getElem_cons_zero]
                refine wpAnyH_take (i := 12) (v := .slice (some ⟨gK, 0, none⟩) K.length cK) rfl (by kernel_rfl) (by kernel_rfl) (by kernel_rfl) (fun _ _ _ h => h) (Or.inl ⟨by rfl, fun w hSw => by go_simp⟩) hH ?_
                try simp only [Act.put, List.setIfInBounds_toArray, List.set_cons_zero, List.set_cons_succ, List.getElem_toArray, List.getElem_cons_succ, List.getElem_cons_zero]
                refine wpAnyH_take (i := 13) (v := .int .i64 (K.length : Int)) rfl (by kernel_rfl) (by kernel_rfl) (by kernel_rfl) (fun _ _ _ h => h) (Or.inl ⟨by rfl, fun w hSw => by go_simp⟩) hH ?_
                try simp only [Act.put, List.setIfInBounds_toArray, List.set_cons_zero, List.set_cons_succ, List.getElem_toArray, List.getElem_cons_succ, List.getElem_cons_zero]
                refine wpAnyH_take (i := 14) (v := .bool true) rfl (by kernel_rfl) (by kernel_rfl) (by kernel_rfl) (fun _ _ _ h => h) (Or.inl ⟨by rfl, fun w hSw => by go_simp⟩) hH ?_
                try simp only [Act.put, List.setIfInBounds_toArray, List.set_cons_zero, List.set_cons_succ, List.getElem_toArray, List.getElem_cons_succ, List.getElem_cons_zero]
                refine wpAnyH_take (i := 15) (v := .bool true) rfl (by kernel_rfl) (by kernel_rfl) (by kernel_rfl) (fun _ _ _ h => h) (Or.inl ⟨by rfl, fun w hSw => by go_simp⟩) hH ?_
                try simp only [Act.put, List.setIfInBounds_toArray, List.set_cons_zero, List.set_cons_succ, List.getElem_toArray, List.getElem_cons_succ, List.getElem_cons_zero]
                refine wpAnyH_take (i := 16) (v := .bool true) rfl (by kernel_rfl) (by kernel_rfl) (by kernel_rfl) (fun _ _ _ h => h) (Or.inl ⟨by rfl, fun w hSw => by go_simp⟩) hH ?_
                try simp only [Act.put, List.setIfInBounds_toArray, List.set_cons_zero, List.set_cons_succ, List.getElem_toArray, List.getElem_cons_succ, List.getElem_cons_zero]
                refine wpAnyH_take (i := 17) (v := .slice (some ⟨gK, 0, none⟩) K.length cK) rfl (by kernel_rfl) (by kernel_rfl) (by kernel_rfl) (fun _ _ _ h => h) (Or.inl ⟨by rfl, fun w hSw => by go_simp⟩) hH ?_
                try simp only [Act.put, List.setIfInBounds_toArray, List.set_cons_zero, List.set_cons_succ, List.getElem_toArray, List.getElem_cons_succ, List.getElem_cons_zero]
                refine wpAnyH_take (i := 18) (v := .pointer (some ⟨mb, 2, none⟩)) rfl (by kernel_rfl) (by kernel_rfl) (by kernel_rfl) (fun _ _ _ h => h) (Or.inl ⟨by rfl, fun w hSw => by go_simp⟩) hH ?_
                try simp only [Act.put, List.setIfInBounds_toArray, List.set_cons_zero, List.set_cons_succ, List.getElem_toArray, List.getElem_cons_succ, List.getElem_cons_zero]
                refine wpAnyH_take (i := 19) (v := .slice (some ⟨yb, 0, none⟩) t.bs.length yc) rfl (by kernel_rfl) (by kernel_rfl) (by kernel_rfl) (fun _ _ _ h => h) (Or.inl ⟨by rfl, fun w hSw => by have f0 := (HQ.out _ hSw).1; clear hSw; go_simp⟩) hH ?_
                try simp only [Act.put, List.setIfInBounds_toArray, List.set_cons_zero, List.set_cons_succ, List.getElem_toArray, List.getElem_cons_succ, List.getElem_cons_zero]
                refine wpAnyH_take (i := 20) (v := .int .i64 (k : Int)) rfl (by kernel_rfl) (by kernel_rfl) (by kernel_rfl) (fun _ _ _ h => h) (Or.inl ⟨by rfl, fun w hSw => by go_simp⟩) hH ?_
                try simp only [Act.put, List.setIfInBounds_toArray, List.set_cons_zero, List.set_cons_succ, List.getElem_toArray, List.getElem_cons_succ, List.getElem_cons_zero]
                refine wpAnyH_take (i := 21) (v := .pointer (some ⟨yb, k, none⟩)) rfl (by kernel_rfl) (by kernel_rfl) (by kernel_rfl) (fun _ _ _ h => h) (Or.inl ⟨by rfl, fun w hSw => by go_simp⟩) hH ?_
                try simp only [Act.put, List.setIfInBounds_toArray, List.set_cons_zero, List.set_cons_succ, List.getElem_toArray, List.getElem_cons_succ, List.getElem_cons_zero]
                refine wpAnyH_take (i := 22) (v := .int .i64 (y : Int)) rfl (by kernel_rfl) (by kernel_rfl) (by kernel_rfl) (fun _ _ _ h => h) (Or.inl ⟨by rfl, fun w hSw => by have f0 := (HQ.out _ hSw).2.1; clear hSw; go_simp⟩) hH ?_
                try simp only [Act.put, List.setIfInBounds_toArray, List.set_cons_zero, List.set_cons_succ, List.getElem_toArray, List.getElem_cons_succ, List.getElem_cons_zero]
                refine wpAnyH_take (i := 23) (v := .pointer (some ⟨gK, y * 2, none⟩)) rfl (by kernel_rfl) (by kernel_rfl) (by kernel_rfl) (fun _ _ _ h => h) (Or.inl ⟨by rfl, fun w hSw => by go_simp⟩) hH ?_
                try simp only [Act.put, List.setIfInBounds_toArray, List.set_cons_zero, List.set_cons_succ, List.getElem_toArray, List.getElem_cons_succ, List.getElem_cons_zero]
                refine wpAnyH_take (i := 24) (v := .agg #[.string ka, .int .i64 na]) rfl (by kernel_rfl) (by kernel_rfl) (by kernel_rfl) (fun _ _ _ h => h) (Or.inl ⟨by rfl, fun w hSw => by have f0 := (HQ.out _ hSw).2.2.1; have f1 := (HQ.out _ hSw).2.2.2.1; clear hSw; go_simp⟩) hH ?_
                try simp only [Act.put, List.setIfInBounds_toArray, List.set_cons_zero, List.set_cons_succ, List.getElem_toArray, List.getElem_cons_succ, List.getElem_cons_zero]
                refine wpAnyH_take (i := 25) (v := .slice (some ⟨gM, 0, none⟩) M.length cM) rfl (by kernel_rfl) (by kernel_rfl) (by kernel_rfl) (fun _ _ _ h => h) (Or.inl ⟨by rfl, fun w hSw => by go_simp⟩) hH ?_
                try simp only [Act.put, List.setIfInBounds_toArray, List.set_cons_zero, List.set_cons_succ, List.getElem_toArray, List.getElem_cons_succ, List.getElem_cons_zero]
                refine wpAnyH_take (i := 26) (v := .pointer (some ⟨mb, 1, none⟩)) rfl (by kernel_rfl) (by kernel_rfl) (by kernel_rfl) (fun _ _ _ h => h) (Or.inl ⟨by rfl, fun w hSw => by go_simp⟩) hH ?_
                try simp only [Act.put, List.setIfInBounds_toArray, List.set_cons_zero, List.set_cons_succ, List.getElem_toArray, List.getElem_cons_succ, List.getElem_cons_zero]
                refine wpAnyH_take (i := 27) (v := .slice (some ⟨xb, 0, none⟩) t.ms.length xc) rfl (by kernel_rfl) (by kernel_rfl) (by kernel_rfl) (fun _ _ _ h => h) (Or.inl ⟨by rfl, fun w hSw => by have f0 := (HQ.out _ hSw).2.2.2.2.1; clear hSw; go_simp⟩) hH ?_
                try simp only [Act.put, List.setIfInBounds_toArray, List.set_cons_zero, List.set_cons_succ, List.getElem_toArray, List.getElem_cons_succ, List.getElem_cons_zero]
                refine wpAnyH_take (i := 28) (v := .int .i64 (i : Int)) rfl (by kernel_rfl) (by kernel_rfl) (by kernel_rfl) (fun _ _ _ h => h) (Or.inl ⟨by rfl, fun w hSw => by go_simp⟩) hH ?_
                try simp only [Act.put, List.setIfInBounds_toArray, List.set_cons_zero, List.set_cons_succ, List.getElem_toArray, List.getElem_cons_succ, List.getElem_cons_zero]
                refine wpAnyH_take (i := 29) (v := .pointer (some ⟨xb, i, none⟩)) rfl (by kernel_rfl) (by kernel_rfl) (by kernel_rfl) (fun _ _ _ h => h) (Or.inl ⟨by rfl, fun w hSw => by go_simp⟩) hH ?_
                try simp only [Act.put, List.setIfInBounds_toArray, List.set_cons_zero, List.set_cons_succ, List.getElem_toArray, List.getElem_cons_succ, List.getElem_cons_zero]
                refine wpAnyH_take (i := 30) (v := .int .i64 (x : Int)) rfl (by kernel_rfl) (by kernel_rfl) (by kernel_rfl) (fun _ _ _ h => h) (Or.inl ⟨by rfl, fun w hSw => by have f0 := (HQ.out _ hSw).2.2.2.2.2.1; clear hSw; go_simp⟩) hH ?_
                try simp only [Act.put, List.setIfInBounds_toArray, List.set_cons_zero, List.set_cons_succ, List.getElem_toArray, List.getElem_cons_succ, List.getElem_cons_zero]
                refine wpAnyH_take (i := 31) (v := .pointer (some ⟨gM, x * 2, none⟩)) rfl (by kernel_rfl) (by kernel_rfl) (by kernel_rfl) (fun _ _ _ h => h) (Or.inl ⟨by rfl, fun w hSw => by go_simp⟩) hH ?_
                try simp only [Act.put, List.setIfInBounds_toArray, List.set_cons_zero, List.set_cons_succ, List.getElem_toArray, List.getElem_cons_succ, List.getElem_cons_zero]
                refine wpAnyH_take (i := 32) (v := .agg #[.string ia, .int .i64 ma]) rfl (by kernel_rfl) (by kernel_rfl) (by kernel_rfl) (fun _ _ _ h => h) (Or.inl ⟨by rfl, fun w hSw => by have f0 := (HQ.out _ hSw).2.2.2.2.2.2.1; have f1 := (HQ.out _ hSw).2.2.2.2.2.2.2; clear hSw; go_simp⟩) hH ?_
                try simp only [Act.put, List.setIfInBounds_toArray, List.set_cons_zero, List.set_cons_succ, List.getElem_toArray, List.getElem_cons_succ, List.getElem_cons_zero]
                refine wpAnyH_take (i := 33) (v := .bool false) rfl (by kernel_rfl) (by kernel_rfl) (by kernel_rfl) (fun _ _ _ h => h) (Or.inl ⟨by rfl, fun w hSw => by have f0 := heq w; clear hSw; go_simp⟩) hH ?_
                try simp only [Act.put, List.setIfInBounds_toArray, List.set_cons_zero, List.set_cons_succ, List.getElem_toArray, List.getElem_cons_succ, List.getElem_cons_zero]
                refine wpAnyH_take (i := 34) (v := .bool false) rfl (by kernel_rfl) (by kernel_rfl) (by kernel_rfl) (fun _ _ _ h => h) (Or.inl ⟨by rfl, fun w hSw => by go_simp⟩) hH ?_
                try simp only [Act.put, List.setIfInBounds_toArray, List.set_cons_zero, List.set_cons_succ, List.getElem_toArray, List.getElem_cons_succ, List.getElem_cons_zero]
                refine wpAnyH_done (by kernel_rfl) ?_ _
                have HLd : Hid (Lw w0 ab bb M.length K.length (t.ps.map Prod.fst ++ t.ms.take (i + 1)) (t.ps.map Prod.snd) Wd) := by rw [← hWd]; exact HL.out.later (below_drew _)
                clear hH hWd HQ HL heq y2 HR
                go_wp2
                exact ⟨⟨k + 1, by omega, by go_num, HLd.out⟩, by simp [intOf]; omega⟩
            · obtain rfl : k = t.bs.length := by omega
              clear HR y1
              go_wp2
              exact ⟨⟨i + 1, by omega, by go_num, by rw [HS1.out], HL.out⟩, by simp [intOf]; omega⟩
        · obtain rfl : i = t.ms.length := by omega
          rw [List.take_length] at HL ⊢
          have HL2 : Hid (Lw w0 ab bb M.length K.length (t.ps.map Prod.fst ++ t.ms) (t.ps.map Prod.snd ++ t.bs.take 0) wi) := by show Lw _ _ _ _ _ _ _ _; rw [List.take_zero, List.append_nil]; exact HL.out
          have hs0 : amS M t.ms = amS M t.ms - amS K (t.bs.take 0) := by simp [amS]
          clear HR HL
          go_wp2
          clear y1
          go_loopw [11, 14] (fun f c wr => ∃ k : Nat, k ≤ t.bs.length ∧ c = .int .i64 (k : Int) ∧ f = .int .i64 (amS M t.ms - amS K (t.bs.take k)) ∧ Lw w0 ab bb M.length K.length (t.ps.map Prod.fst ++ t.ms) (t.ps.map Prod.snd ++ t.bs.take k) wr) (fun _ c _ => t.bs.length - (intOf c).toNat)
          case atStart => exact ⟨0, Nat.zero_le _, rfl, by rw [← hs0], HL2.out⟩
          case round =>
            clear HL2 hs0
            obtain ⟨k, hk, rfl, rfl, hL⟩ := hrel
            obtain ⟨wq, rfl⟩ : ∃ wq, wq = wr := ⟨_, rfl⟩
            have HL : Hid (Lw w0 ab bb M.length K.length (t.ps.map Prod.fst ++ t.ms) (t.ps.map Prod.snd ++ t.bs.take k) wq) := hL
            have HR : Hid (Rd w1.heap.size wq mb gM gK M K t pa xa ya pc xc yc vs) := HRd.out.1.later hL.low
            clear hL
            have y2 : wq.cell? ⟨mb, 2, none⟩ = some (.slice ya t.bs.length yc) := blkCell HR.out.box 2 _ rfl
            by_cases hkl : k < t.bs.length
            · as_aux_lemma =>
                have hkl' : (k : Int) < (t.bs.length : Int) := by omega
                obtain ⟨yb, hya, e1⟩ := row_at HR.out.ans.brow k hkl
                subst hya
                have hyl : yb < w0.heap.size := by
                  obtain ⟨yb', hya', e1'⟩ := row_at HRd.out.1.ans.brow k hkl
                  have : yb = yb' := by have := Option.some.inj hya'; simpa using this
                  rw [this]; exact cell_lt' e1'
                have hgl : gM < w0.heap.size ∧ gK < w0.heap.size := ⟨HRd.out.1.ml, HRd.out.1.kl⟩
                have hy := HOK.out.blt _ (getD_mem t.bs 0 k hkl)
                have HTk : Hid (t.bs.take (k + 1) = t.bs.take k ++ [t.bs.getD k 0]) := take_next t.bs 0 k hkl
                generalize t.bs.getD k 0 = y at *
                have hy' : (y : Int) < (K.length : Int) := by omega
                have hy0 : ¬ ((y : Int) < 0) := by omega
                have hy1 : ¬ ((K.length : Int) ≤ (y : Int)) := by omega
                obtain ⟨n0, n1⟩ := HR.out.kk y hy
                rw [Nat.zero_add] at n0 n1
                have HS1 : Hid (amS M t.ms - amS K (t.bs.take (k + 1)) = amS M t.ms - amS K (t.bs.take k) - (K.getD y zSe).am) := by show _ = _; rw [HTk.out, amS_app]; simp [amS]; omega
                have bS := amS_bound HDM.out t.ms
                have bK := amS_bound HDK.out (t.bs.take k)
                have bM := am_bound HDK.out y
                have bl : t.ms.length ≤ 10 ∧ (t.bs.take k).length ≤ 10 := by have := HAl.out; rw [List.length_take]; omega
                have cA := HL.out.brow.cell hy
                have fA := HL.out.brow.frozen y
                have bA := cF_bound (t.ps.map Prod.snd ++ t.bs.take k) y
                have hla : (t.ps.map Prod.snd ++ t.bs.take k).length ≤ 20 := by have := HAl.out; rw [List.length_append, List.length_map, List.length_take]; omega
                have HP : Hid (Lw w0 ab bb M.length K.length (t.ps.map Prod.fst ++ t.ms) (t.ps.map Prod.snd ++ t.bs.take (k + 1)) (wq.setCell ⟨bb, y, none⟩ (.int .i64 (cF (t.ps.map Prod.snd ++ t.bs.take k) y + 1)))) := by
                  show Lw _ _ _ _ _ _ _ _
                  rw [HTk.out, ← List.append_assoc]; exact HL.out.putB y
                generalize cF (t.ps.map Prod.snd ++ t.bs.take k) y = cb at *
                obtain ⟨sm, hsm⟩ : ∃ sm, sm = amS M t.ms - amS K (t.bs.take k) := ⟨_, rfl⟩
                rw [← hsm] at HS1 ⊢
                generalize K.getD y zSe = rK at *
                obtain ⟨ka, na⟩ := rK
                dsimp only at n0 n1 bM HS1
                have w1' : wrap64 (cb + 1) = cb + 1 := by unfold wrap64; omega
                have w2' : wrap64 (sm - na) = sm - na := by unfold wrap64; omega
                have hma : mb ≠ bb := by omega
                have hma' : bb ≠ mb := by omega
                have hxa : yb ≠ bb := by omega
                have hxa' : bb ≠ yb := by omega
                have hga : gK ≠ bb := by omega
                have hga' : bb ≠ gK := by omega
                clear n0 bS bM bA hla bl bK hsm HR
                go_wp2
                exact ⟨⟨k + 1, by omega, by go_num, by rw [HS1.out, w2'], HP.out⟩, by simp [intOf]; omega⟩
            · obtain rfl : k = t.bs.length := by omega
              rw [List.take_length] at HL ⊢
              have y3 : Hid (∀ W, Below w0.heap.size w0 W → W.cell? ⟨mb, 3, none⟩ = some (.int .i64 t.df)) := fun W hW => blkCell (HRd.out.1.later hW).box 3 _ rfl
              have HFar : Hid (amS M t.ms - amS K t.bs = t.df) := HOK.out.far
              have HOa : Hid (∀ q, q < M.length → cF (t.ps.map Prod.fst ++ t.ms) q = 1) := fun q hq => by unfold cF; rw [HOK.out.a1 q hq]; rfl
              have HOb : Hid (∀ q, q < K.length → cF (t.ps.map Prod.snd ++ t.bs) q = 1) := fun q hq => by unfold cF; rw [HOK.out.b1 q hq]; rfl
              have HBe : Hid (Below w.heap.size w wq) := chain HRd.out.2 HL.out.low
              have cs : wq.cell? ⟨mb, 3, none⟩ = some (.int .i64 t.df) := y3.out wq HL.out.low
              clear HR y3
              rw [HFar.out]
              go_wp2
              go_loop [15] (fun c => ∃ q : Nat, q ≤ M.length ∧ c = .int .i64 (q : Int)) (fun c => M.length - (intOf c).toNat)
              case atStart => exact ⟨0, Nat.zero_le _, rfl⟩
              case round =>
                obtain ⟨q, hq, rfl⟩ := hrel
                by_cases hql : q < M.length
                · have hql' : (q : Int) < (M.length : Int) := by omega
                  have cA := HL.out.arow.cell hql
                  rw [HOa.out q hql] at cA
                  go_wp2
                  first
                  | exact ⟨⟨q + 1, by omega, by go_num⟩, by simp [intOf]; omega⟩
                  | (go_round
                     case rel => exact ⟨q + 1, by omega, by go_num⟩
                     case measure => simp [intOf]; omega)
                · have hql' : (M.length : Int) ≤ (q : Int) := by omega
                  go_wp2
                  go_loop [16] (fun c => ∃ p : Nat, p ≤ K.length ∧ c = .int .i64 (p : Int)) (fun c => K.length - (intOf c).toNat)
                  case atStart => exact ⟨0, Nat.zero_le _, rfl⟩
                  case round =>
                    obtain ⟨p, hp, rfl⟩ := hrel
                    by_cases hpl : p < K.length
                    · have hpl' : (p : Int) < (K.length : Int) := by omega
                      have cB := HL.out.brow.cell hpl
                      rw [HOb.out p hpl] at cB
                      go_wp2
                      first
                      | exact ⟨⟨p + 1, by omega, by go_num⟩, by simp [intOf]; omega⟩
                      | (go_round
                         case rel => exact ⟨p + 1, by omega, by go_num⟩
                         case measure => simp [intOf]; omega)
                    · have hpl' : (K.length : Int) ≤ (p : Int) := by omega
                      go_wp2
                      go_ret
                      exact ⟨ret_bool (by simp), HBe.out⟩

theorem own : ownKnob Try.prog.godebug = none := by kernel_rfl
theorem laidOut : laidOutB Try.prog = true := by kernel_rfl

set_option maxRecDepth 100000 in
theorem lifted (os : Os) (started : os.Started) (H : Type) (enc : TypeId × Value → H) :
    ReturnsInHanded {} Try.checked os 3 .any (Rows.fnSettleSpec.pre6 enc Try.prog Try.f3 Rows.fnSettleRow.domain false) (Rows.fnSettleSpec.post enc Try.prog Try.f3 false true false false) := by
  refine returnsInHanded_of_change (C := Try.checked) own started (by kernel_rfl) Try.func3
    (ChangeSpec.witness6 (enc := enc) (C := Try.checked) false ⟨#[], #[.slice none 0 0], []⟩ 8 (by kernel_rfl) (by kernel_rfl) (by kernel_rfl) (by kernel_rfl)) ?_
  intro W base args ds gs before hval0 hW hcnd _
  have hval : ∀ (j : Nat) t v, Try.f3.params[j]? = some t → args[j]? = some v → Value.okWide Try.prog W .any base t v := hval0
  have hW' := hW
  obtain ⟨p, q, hA0, hV, rfl, hfz, hnd⟩ := hW
  have hA : DataW.TrodAll enc Try.prog W 0 (fun _ => true) true Try.f3.params.toList args.toList ds p := hA0
  rw [Try.params3] at hA hval
  obtain ⟨v0, vs0, d0, ds0, p0, q0, hargs, rfl, rfl, h0, r0⟩ := trodAll_cons hA
  obtain ⟨rfl, rfl, rfl⟩ := trodAll_nil r0
  obtain rfl : args = #[v0] := by cases args; simp_all
  obtain ⟨rfl, rfl⟩ := trodVars_none hV
  have k0 := h0
  have lt0 : ∀ x ∈ p0, x.block < W.heap.size := by obtain ⟨m, hm⟩ := k0; exact DataW.trod_lt m _ _ _ hm
  obtain ⟨a0, len0, cap0, rfl⟩ := okWide_slice Try.underlying22 (hval 0 22 v0 rfl rfl)
  obtain ⟨z0, w0⟩ : ∃ zs, IsRow .u8 W a0 len0 cap0 zs := by
    obtain ⟨fuel, hf⟩ := h0
    rcases open_ints Try.underlying22 Try.underlying5 (by kernel_rfl) hf with ⟨hcs, _⟩ | ⟨x, l, c, zs, hcs, _, hl, hm, hz, _, hcell, hwz⟩
    · simp [Value.cells] at hcs
      obtain ⟨rfl, rfl, rfl⟩ := hcs
      exact ⟨[], .inl ⟨rfl, rfl, rfl, rfl⟩⟩
    · simp [Value.cells] at hcs
      obtain ⟨rfl, rfl, rfl⟩ := hcs
      exact ⟨zs, .inr ⟨_, rfl, hl, hm, by simpa using hz, hcell, hwz⟩⟩
  clear hA0 hval0
  refine (walk a0 len0 cap0 z0 W (rowB_of _ _ _ _ _ w0)).mono fun e W' ⟨he, bel⟩ => ?_
  subst he
  exact ⟨_, rfl, _, _, _, [], _, [], hW', trodAll_mk1 (shut_bool Try.underlying4 _), (trodAll_cons_mk (Below.trod laidOut (by kernel_rfl) (of_decide_eq_true (by kernel_rfl)) k0 bel lt0) trodAll_mk0), rfl, bel.frame _, fun h => by cases h⟩

theorem over : Rows.fnSettleRow.holds Try.pinned (OpenSpec.ofChange Rows.fnSettleSpec) :=
  OpenClaim.holds_of_wide 3 Try.f3 rfl rfl rfl rfl rfl rfl rfl ⟨rfl, rfl, rfl, rfl, rfl⟩ rfl rfl rfl rfl rfl (by kernel_rfl) Try.func3 (by kernel_rfl)
    (of_decide_eq_true (by kernel_rfl)) (by unfold Func.isWrapper; first | (rw [if_pos (by decide +kernel)]; kernel_rfl) | (rw [if_neg (by decide +kernel)]; exact ⟨rfl, rfl⟩))
    (fun os started H enc _ => lifted os started H enc)
end FnSettle

theorem fnSettle_holds : Rows.FnSettleSaid := FnSettle.over
end Go.Proofs.Ytgjffmeafdpfhaa

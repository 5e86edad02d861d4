/-
  The specification's drawn lanes and parcels are right: the contract of ParcelsOf.
-/
import Derived.Test.YthmhpgbkapjjkaaSrM
import Derived.Test.YthmhpgbkapjjkaaQdA
import Derived.Deep.AppendLies
import Derived.Laws.OwnMore
namespace Go.Proofs.Ythmhpgbkapjjkaa
open Go.ChangeShapes Go.WideShapes Go.ChangeAt Go.RowKit Go.Deep
set_option linter.unusedVariables false

def laCells (rs : List RLa) : List Value := rs.flatMap fun r => [.int .i64 r.rm, .int .i64 r.ev]
theorem laCells_append (a b : List RLa) : laCells (a ++ b) = laCells a ++ laCells b := by simp [laCells]
theorem laCells_get : ∀ (rs : List RLa) (i : Nat), i < rs.length → (laCells rs)[i * 2]? = some (.int .i64 (rs.getD i zLa).rm) ∧ (laCells rs)[i * 2 + 1]? = some (.int .i64 (rs.getD i zLa).ev)
  | r :: rs, 0, h => ⟨rfl, rfl⟩
  | r :: rs, i + 1, h => by
    have := laCells_get rs i (by simpa using h)
    rw [show (i + 1) * 2 = i * 2 + 1 + 1 by omega]
    exact this
theorem las_of_row {w : World} {B g cap : Nat} {rs : List RLa} (h : w.ownsRow B 45 2 (.slice (some ⟨g, 0, none⟩) rs.length cap) rs.length (laCells rs)) : LasAt w g 0 rs := fun i hi => by
  obtain ⟨q0, q1⟩ := laCells_get rs i hi
  refine ⟨?_, ?_⟩
  · rw [h.cellAt (0 + i * 2) (by omega), show 0 + i * 2 = i * 2 by omega, q0]
  · rw [h.cellAt (0 + i * 2 + 1) (by omega), show 0 + i * 2 + 1 = i * 2 + 1 by omega, q1]
theorem laInfS : (Try.prog.info? 45).map (fun i => (i.zero, i.size, i.bytes)) = some (some (.agg #[.int .i64 0, .int .i64 0]), 2, 16) := by kernel_rfl
theorem intInfS : (Try.prog.info? 3).map (fun i => (i.zero, i.size, i.bytes)) = some (some (.int .i64 0), 1, 8) := by kernel_rfl
theorem one2L (x0 x1 : Int) : ∀ u ∈ [Value.int .i64 x0, .int .i64 x1], u.oneCell' = true := by
  intro u hu
  simp at hu
  rcases hu with rfl | rfl <;> rfl
structure LnSt (b : Nat) (a : Option Addr) (len cap : Nat) (V : World) (v : Value) (L : List RLa) (at' sd : Int) (wr : World) : Prop where
  ap : Apart b V wr
  low : Below b V wr
  src : Src wr b a len cap at' sd
  row : wr.ownsRow V.heap.size 45 2 v L.length (laCells L)
  bv : b < V.heap.size
theorem LnSt.start {b : Nat} {a : Option Addr} {len cap : Nat} {V : World} {at' sd : Int} (hs : Src V b a len cap at' sd) : LnSt b a len cap V (.slice (some ⟨V.heap.size, 0, none⟩) 0 0) [] at' sd (V.alloc (Obj.cells #[] 45)) :=
  ⟨apart_alloc b V _, (Below.refl _ _).alloc (by have := src_ltW hs; omega) _, hs.allocT _, ⟨rfl, .inr ⟨V.heap.size, 0, #[], rfl, Nat.le_refl _, heapNew V _, Nat.le_refl _, by unfold maxLen; omega, rfl, rfl⟩⟩, src_ltW hs⟩
theorem LnSt.step {b : Nat} {a : Option Addr} {len cap : Nat} {V : World} {v : Value} {L : List RLa} {at' sd at2 sd2 : Int} {wr w' : World} (h : LnSt b a len cap V v L at' sd wr) (ha : Apart b wr w') (hb : Below b wr w') (hs : Src w' b a len cap at2 sd2) : LnSt b a len cap V v L at2 sd2 w' := by
  have hbv := h.bv
  exact ⟨h.ap.trans ha, h.low.trans hb, hs, ownsRow_sameW h.row (fun k hk => ha.2 k (by have := (h.row.lt k hk).1; omega) (h.row.lt k hk).2), h.bv⟩
theorem LnSt.later {b : Nat} {a : Option Addr} {len cap : Nat} {V : World} {v : Value} {L : List RLa} {at' sd : Int} {wr w' : World} (h : LnSt b a len cap V v L at' sd wr) (hb : Below wr.heap.size wr w') : LnSt b a len cap V v L at' sd w' :=
  h.step (later_apart hb) (hb.mono (by have := src_ltW h.src; omega)) (src_sameW h.src (hb.block b (src_ltW h.src)) hb.size)
theorem LnSt.push {b : Nat} {a : Option Addr} {len cap : Nat} {V : World} {v : Value} {L : List RLa} {at' sd : Int} {x : RLa} {g c : Nat} {wr w' : World} (h : LnSt b a len cap V v L at' sd wr)
    (ho : w'.ownsRow V.heap.size 45 2 (.slice (some ⟨g, 0, none⟩) (L.length + 1) c) (L.length + 1) (laCells L ++ [.int .i64 x.rm, .int .i64 x.ev])) (hg : wr.grownBy w' v.ownBlock) : LnSt b a len cap V (.slice (some ⟨g, 0, none⟩) (L.length + 1) c) (L ++ [x]) at' sd w' := by
  have hbv := h.bv
  have hk : ∀ k, k < V.heap.size → w'.heap[k]? = wr.heap[k]? := fun k h1 => hg.block k (by have := h.ap.1; omega) (fun e => by have := (h.row.lt k e.symm).1; omega)
  exact ⟨⟨Nat.le_trans h.ap.1 hg.size, fun k h1 h2 => (hk k h2).trans (h.ap.2 k h1 h2)⟩, h.low.grown hg (by have := h.ap.1; omega) (fun k e => by have := (h.row.lt k e).1; omega), src_sameW h.src (hk b hbv) hg.size, by rw [List.length_append, laCells_append]; exact ho, hbv⟩

def PostPc (w : World) (e : Ending) (w' : World) : Prop := ∃ (ls : List RLa) (ps : List Int) (g cp gL cL : Nat), e = .returned (.tuple #[.slice (some ⟨g, 0, none⟩) ls.length cp, .slice (some ⟨gL, 0, none⟩) ps.length cL]) ∧ (1 ≤ ls.length ∧ ls.length ≤ 4) ∧ ps.length ≤ 20 ∧ lnsB ls = true ∧ alB 0 ((ls.length : Int) - 1) ps = true ∧ ReadsLa w'.heap.size w' (some ⟨g, 0, none⟩) ls ∧ Reads w'.heap.size w' (some ⟨gL, 0, none⟩) ps ∧ Below w.heap.size w w'
set_option maxHeartbeats 4000000 in
set_option maxRecDepth 4000 in
theorem parcelsOf_any (a : Option Addr) (len cap : Nat) (zs : List Int) (w : World) (hr : RowB w.heap.size w a len zs) :
    Calls Try.prog 12 #[.slice a len cap] w (PostPc w) := by
  have hlen := hr.1
  obtain ⟨b, hb0⟩ : ∃ b, b = w.heap.size := ⟨_, rfl⟩
  have HR : Hid (RowB b w a len zs) := by show RowB _ _ _ _ _; rw [hb0]; exact hr
  have hsrc := source_any a len cap w hr.1
  rw [← hb0] at hsrc
  have HBw : Hid (b = w.heap.size) := hb0
  clear hr hb0
  have HNx : Hid (∀ (n at' sd : Int) (W : World), n ≤ 256 → at' ≤ 2000 → Src W b a len cap at' sd → Below b w W → Calls Try.prog 32 #[.pointer (some ⟨b, 0, none⟩), .int .i64 n] W fun e w' => ∃ x at2 s' : Int, e = .returned (.int .i64 x) ∧ Drawn x n ∧ at' ≤ at2 ∧ at2 ≤ at' + 3 ∧ Src w' b a len cap at2 s' ∧ Below b W w' ∧ Apt b W w') := fun n at' sd W hn ha hS hB => next_anyA b b a len cap zs n at' sd W (Nat.le_refl _) hS (HR.out.below hB) (by omega) hn
  have HSz : Hid (∀ (at' sd : Int) (W : World), Src W b a len cap at' sd → Calls Try.prog 33 #[.pointer (some ⟨b, 0, none⟩), .int .i64 20] W fun e w' => ∃ x : Int, e = .returned (.int .i64 x) ∧ 1 ≤ x ∧ x ≤ 20 ∧ W = w') := fun at' sd W hS => (size_src b a len cap 20 at' sd W hS hlen (by omega) (by omega)).mono (fun e w' h => by obtain ⟨⟨x, h1, h2, h3⟩, h4⟩ := h; exact ⟨x, h1, h2, h3, h4.symm⟩)
  obtain ⟨i0, hi, hzz⟩ := Option.map_eq_some_iff.1 laInfS
  simp only [Prod.mk.injEq] at hzz
  obtain ⟨hi0, hi1, hi2⟩ := hzz
  obtain ⟨j0, hj, hzz⟩ := Option.map_eq_some_iff.1 intInfS
  simp only [Prod.mk.injEq] at hzz
  obtain ⟨hj0, hj1, hj2⟩ := hzz
  have HI : Hid (Try.prog.info? 45 = some i0 ∧ i0.zero = some (.agg #[.int .i64 0, .int .i64 0]) ∧ i0.size = 2 ∧ i0.bytes = 16) := ⟨hi, hi0, hi1, hi2⟩
  have HJ : Hid (Try.prog.info? 3 = some j0 ∧ j0.zero = some (.int .i64 0) ∧ j0.size = 1 ∧ j0.bytes = 8) := ⟨hj, hj0, hj1, hj2⟩
  clear HR hi hi0 hi1 hi2 hj hj0 hj1 hj2
  go_enter Try.func12, Try.ntmps12
  go_wp2_with fail
  (first | go_at_call 31 | skip)
  refine hsrc.mono ?_
  rintro e w1 ⟨s1, rfl, hs1, hb1⟩
  have HS1 : Hid (Src w1 b a len cap 0 s1 ∧ Below b w w1) := ⟨hs1, hb1⟩
  have HL0 : Hid (LnSt b a len cap w1 (.slice (some ⟨w1.heap.size, 0, none⟩) 0 0) [] 0 s1 (w1.alloc (Obj.cells #[] 45))) := LnSt.start hs1
  have HLw : Hid (Below b w (w1.alloc (Obj.cells #[] 45))) := hb1.alloc (by have := src_ltW hs1; omega) _
  clear hs1 hb1 hsrc
  go_upto_region 3 with fail
  obtain ⟨g0, hg0⟩ : ∃ g0, g0 = w1.heap.size := ⟨_, rfl⟩
  obtain ⟨W1, hW1⟩ : ∃ W1, W1 = w1.alloc (Obj.cells #[] 45) := ⟨_, rfl⟩
  rw [← hg0, ← hW1] at HL0
  rw [← hW1] at HLw
  rw [← hg0, ← hW1]
  clear hg0 hW1
  go_wp2_with fail
  (first | go_at_call 32 | skip)
  refine (HNx.out 4 0 s1 W1 (by omega) (by omega) HL0.out.src HLw.out).mono ?_
  rintro e w2 ⟨z, at2, s2, rfl, hz, q2, r2, hs, hb, ha⟩
  have hz2 : 0 ≤ z ∧ z ≤ 3 := by obtain ⟨u1, u2⟩ := hz; omega
  have HL1 : Hid (LnSt b a len cap w1 (.slice (some ⟨g0, 0, none⟩) 0 0) [] at2 s2 w2 ∧ Below b w w2) := ⟨HL0.out.step (ha.apart hb) hb hs, HLw.out.trans hb⟩
  clear hs hb ha HL0 HLw hz HS1
  go_wp2_with fail
  go_loopw [5, 6] (fun v iv wr => ∃ (rs : List RLa) (g cp : Nat) (i at' sd : Int), v = .slice (some ⟨g, 0, none⟩) rs.length cp ∧ iv = .int .i64 i ∧ -1 ≤ i ∧ i + (rs.length : Int) ≤ 3 ∧ (i = -1 → 1 ≤ rs.length) ∧ lnsB rs = true ∧ at' ≤ 6 + 6 * (rs.length : Int) ∧ LnSt b a len cap w1 (.slice (some ⟨g, 0, none⟩) rs.length cp) rs at' sd wr ∧ Below b w wr) (fun _ iv _ => (intOf iv + 1).toNat)
  case atStart => exact ⟨[], g0, 0, z, at2, s2, rfl, rfl, by omega, by simp; omega, fun e => by omega, rfl, by simp; omega, HL1.out.1, HL1.out.2⟩
  case round =>
    clear HL1
    obtain ⟨rs, g, cp, i, at', sd, rfl, rfl, hi4, hLi, hne, hln, hat, hF, hB⟩ := hrel
    have HF : Hid (LnSt b a len cap w1 (.slice (some ⟨g, 0, none⟩) rs.length cp) rs at' sd wr ∧ Below b w wr) := ⟨hF, hB⟩
    have HLn : Hid (lnsB rs = true ∧ (i = -1 → 1 ≤ rs.length)) := ⟨hln, hne⟩
    clear hF hB hln hne
    by_cases hc : 0 ≤ i
    · go_wp2_with fail
      (first | go_at_call 32 | skip)
      refine (HNx.out 3 at' sd wr (by omega) (by omega) HF.out.1.src HF.out.2).mono ?_
      rintro e w5 ⟨x, at5, s5, rfl, hx, q5, r5, hs, hb, ha⟩
      have hx2 : 0 ≤ x ∧ x < 3 := by obtain ⟨u1, u2⟩ := hx; omega
      have HF5 : Hid (LnSt b a len cap w1 (.slice (some ⟨g, 0, none⟩) rs.length cp) rs at5 s5 w5 ∧ Below b w w5) := ⟨HF.out.1.step (ha.apart hb) hb hs, HF.out.2.trans hb⟩
      clear hs hb ha hx HF
      have hw1 : IntKind.i64.wrap (1 + x) = 1 + x := wrap_id _ (by omega) (by omega)
      go_wp2_with fail
      (first | go_at_call 32 | skip)
      refine (HNx.out 9 at5 s5 w5 (by omega) (by omega) HF5.out.1.src HF5.out.2).mono ?_
      rintro e w6 ⟨y, at6, s6, rfl, hy, q6, r6, hs, hb, ha⟩
      have hy2 : 0 ≤ y ∧ y < 9 := by obtain ⟨u1, u2⟩ := hy; omega
      have hb2 := HF5.out.2.trans hb
      have HF6 : Hid (LnSt b a len cap w1 (.slice (some ⟨g, 0, none⟩) rs.length cp) rs at6 s6 (w6.alloc (Obj.cells #[.int .i64 (1 + x), .int .i64 (1 + y)] 45)) ∧ Below b w (w6.alloc (Obj.cells #[.int .i64 (1 + x), .int .i64 (1 + y)] 45))) := ⟨(HF5.out.1.step (ha.apart hb) hb hs).later (below_alloc _ _), hb2.alloc (by have := src_ltW hs; omega) _⟩
      clear hs hb ha hy HF5 hb2
      have hw2 : IntKind.i64.wrap (1 + y) = 1 + y := wrap_id _ (by omega) (by omega)
      have hwi : IntKind.i64.wrap (i - 1) = i - 1 := wrap_id _ (by omega) (by omega)
      have HNw : Hid (∀ j u, [Value.int .i64 (1 + x), .int .i64 (1 + y)][j]? = some u → (w6.alloc (Obj.cells #[.int .i64 (1 + x), .int .i64 (1 + y)] 45)).cell? ((⟨w6.heap.size, 0, none⟩ : Addr).add j) = some u) := World.news_of_block (heapNew w6 (Obj.cells #[.int .i64 (1 + x), .int .i64 (1 + y)] 45))
      have HZ : Hid (w1.heap.size ≤ (w6.alloc (Obj.cells #[.int .i64 (1 + x), .int .i64 (1 + y)] 45)).heap.size) := HF6.out.1.ap.1
      have HLen : Hid ((rs ++ [(⟨1 + x, 1 + y⟩ : RLa)]).length = rs.length + 1) := by show _ = _; simp
      have HLn2 : Hid (lnsB (rs ++ [(⟨1 + x, 1 + y⟩ : RLa)]) = true) := by
        show _ = _
        have h := HLn.out.1
        unfold lnsB at h ⊢
        rw [List.all_append, h]
        have : lnB ⟨1 + x, 1 + y⟩ = true := by
          unfold lnB inB
          simp only [Bool.and_eq_true, decide_eq_true_eq]
          omega
        simp [this]
      go_wp2_with (at_builtin; refine wpList_append_lies _ rfl _ _ 37 rfl w1.heap.size 45 i0 (.agg #[.int .i64 0, .int .i64 0]) 2 16 Try.underlying37 HI.out.1 HI.out.2.1 HI.out.2.2.1 HI.out.2.2.2 rfl (by decide) _ _ _ rfl HF6.out.1.row ⟨w6.heap.size, 0, none⟩ 1 1 [.int .i64 (1 + x), .int .i64 (1 + y)] rfl rfl HNw.out (one2L _ _) (by omega) (by unfold maxLen; omega) (by omega) HZ.out _ rfl ?_; intro g1 cp1 w8 hown1 hgrow1 hat1 hglt1; have HF8 : Hid (LnSt b a len cap w1 (.slice (some ⟨g1, 0, none⟩) (rs.length + 1) cp1) (rs ++ [(⟨1 + x, 1 + y⟩ : RLa)]) at6 s6 w8 ∧ Below b w w8) := ⟨HF6.out.1.push (x := ⟨1 + x, 1 + y⟩) hown1 hgrow1, HF6.out.2.grown hgrow1 (by have := src_ltW HF6.out.1.src; omega) (fun k e => by have h1 := (HF6.out.1.row.lt k e).1; have h2 := HF6.out.1.bv; omega)⟩; clear hown1 hgrow1 hat1)
      go_roundw
      case rel => exact ⟨rs ++ [(⟨1 + x, 1 + y⟩ : RLa)], g1, cp1, i - 1, at6, s6, by rw [HLen.out], rfl, by omega, by rw [HLen.out]; omega, fun _ => by rw [HLen.out]; omega, HLn2.out, by rw [HLen.out]; omega, by rw [HLen.out]; exact HF8.out.1, HF8.out.2⟩
      case measure => simp [intOf]; omega
    · have hn1 : 1 ≤ rs.length := HLn.out.2 (by omega)
      have hn4 : rs.length ≤ 4 := by omega
      have hat3 : at' ≤ 30 := by omega
      have HLs : Hid (lnsB rs = true) := HLn.out.1
      clear HLn hat hLi
      obtain ⟨V0, hV0⟩ : ∃ V0, V0 = wr := ⟨_, rfl⟩
      subst hV0
      go_upto_region 8 with fail
      have HP0 : Hid (FoSt b a len cap V0 (.slice (some ⟨V0.heap.size, 0, none⟩) 0 0) [] at' sd (V0.alloc (Obj.cells #[] 3)) ∧ Below b w (V0.alloc (Obj.cells #[] 3))) := ⟨FoSt.start HF.out.1.src, HF.out.2.alloc (by have := src_ltW HF.out.1.src; omega) _⟩
      obtain ⟨g9, hg9⟩ : ∃ g9, g9 = V0.heap.size := ⟨_, rfl⟩
      obtain ⟨W9, hW9⟩ : ∃ W9, W9 = V0.alloc (Obj.cells #[] 3) := ⟨_, rfl⟩
      rw [← hg9, ← hW9] at HP0
      rw [← hg9, ← hW9]
      clear hg9 hW9
      go_wp2_with fail
      (first | go_at_call 33 | skip)
      refine (HSz.out at' sd W9 HP0.out.1.src).mono ?_
      rintro e v2 ⟨y, rfl, hy1, hy2, hv2⟩
      subst hv2
      have hw2 : IntKind.i64.wrap (y + 1) = y + 1 := wrap_id _ (by omega) (by omega)
      go_wp2_with fail
      (first | go_at_call 32 | skip)
      refine (HNx.out (y + 1) at' sd W9 (by omega) (by omega) HP0.out.1.src HP0.out.2).mono ?_
      rintro e v3 ⟨z, at3, s3, rfl, hz, q3, r3, hs, hb, ha⟩
      have hz2 : 0 ≤ z ∧ z ≤ 20 := by obtain ⟨u1, u2⟩ := hz; omega
      have HP1 : Hid (FoSt b a len cap V0 (.slice (some ⟨g9, 0, none⟩) 0 0) [] at3 s3 v3 ∧ Below b w v3) := ⟨HP0.out.1.step (ha.apart hb) hb hs, HP0.out.2.trans hb⟩
      clear hs hb ha HP0 hz hw2 HSz
      go_wp2_with fail
      go_loopw [7, 8] (fun v iv wr2 => ∃ (ps : List Int) (gL cL : Nat) (i at' sd : Int), v = .slice (some ⟨gL, 0, none⟩) ps.length cL ∧ iv = .int .i64 i ∧ 0 ≤ i ∧ i + (ps.length : Int) ≤ 20 ∧ alB 0 ((rs.length : Int) - 1) ps = true ∧ at' ≤ 33 + 3 * (ps.length : Int) ∧ FoSt b a len cap V0 (.slice (some ⟨gL, 0, none⟩) ps.length cL) ps at' sd wr2 ∧ Below b w wr2) (fun _ iv _ => (intOf iv).toNat)
      case atStart => exact ⟨[], g9, 0, z, at3, s3, rfl, rfl, by omega, by simp; omega, rfl, by simp; omega, HP1.out.1, HP1.out.2⟩
      case round =>
        clear HP1
        obtain ⟨ps, gL, cL, i2, at4, sd4, rfl, rfl, hi5, hLi2, hal, hat4, hP, hB⟩ := hrel
        have HP : Hid (FoSt b a len cap V0 (.slice (some ⟨gL, 0, none⟩) ps.length cL) ps at4 sd4 wr ∧ Below b w wr) := ⟨hP, hB⟩
        have HAl : Hid (alB 0 ((rs.length : Int) - 1) ps = true) := hal
        clear hP hB hal
        by_cases hc2 : 0 < i2
        · go_wp2_with fail
          (first | go_at_call 32 | skip)
          refine (HNx.out (rs.length : Int) at4 sd4 wr (by omega) (by omega) HP.out.1.src HP.out.2).mono ?_
          rintro e w5 ⟨x, at5, s5, rfl, hx, q5, r5, hs, hb, ha⟩
          have hx2 : 0 ≤ x ∧ x < (rs.length : Int) := by obtain ⟨u1, u2⟩ := hx; omega
          have hb2 := HP.out.2.trans hb
          have HP6 : Hid (FoSt b a len cap V0 (.slice (some ⟨gL, 0, none⟩) ps.length cL) ps at5 s5 (w5.alloc (Obj.cells #[.int .i64 x] 3)) ∧ Below b w (w5.alloc (Obj.cells #[.int .i64 x] 3))) := ⟨(HP.out.1.step (ha.apart hb) hb hs).later (below_alloc _ _), hb2.alloc (by have := src_ltW hs; omega) _⟩
          clear hs hb ha hx HP hb2
          have hwi : IntKind.i64.wrap (i2 - 1) = i2 - 1 := wrap_id _ (by omega) (by omega)
          have HNw : Hid (∀ j u, [Value.int .i64 x][j]? = some u → (w5.alloc (Obj.cells #[.int .i64 x] 3)).cell? ((⟨w5.heap.size, 0, none⟩ : Addr).add j) = some u) := World.news_of_block (heapNew w5 (Obj.cells #[.int .i64 x] 3))
          have HOn : Hid (∀ u ∈ [Value.int .i64 x], u.oneCell' = true) := fun u hu => by simp at hu; subst hu; rfl
          have HZ : Hid (V0.heap.size ≤ (w5.alloc (Obj.cells #[.int .i64 x] 3)).heap.size) := HP6.out.1.ap.1
          have HLen : Hid ((ps ++ [x]).length = ps.length + 1) := by show _ = _; simp
          have HAl2 : Hid (alB 0 ((rs.length : Int) - 1) (ps ++ [x]) = true) := by
            show _ = _
            have h := HAl.out
            unfold alB at h ⊢
            rw [List.all_append, h]
            have : inB x 0 ((rs.length : Int) - 1) = true := by unfold inB; exact decide_eq_true (by omega)
            simp [this]
          go_wp2_with (at_builtin; refine wpList_append_lies _ rfl _ _ 26 rfl V0.heap.size 3 j0 (.int .i64 0) 1 8 Try.underlying26 HJ.out.1 HJ.out.2.1 HJ.out.2.2.1 HJ.out.2.2.2 rfl (by decide) _ _ _ rfl HP6.out.1.row ⟨w5.heap.size, 0, none⟩ 1 1 [.int .i64 x] rfl rfl HNw.out HOn.out (by omega) (by unfold maxLen; omega) (by omega) HZ.out _ rfl ?_; intro g1 cp1 w8 hown1 hgrow1 hat1 hglt1; have HP8 : Hid (FoSt b a len cap V0 (.slice (some ⟨g1, 0, none⟩) (ps.length + 1) cp1) (ps ++ [x]) at5 s5 w8 ∧ Below b w w8) := ⟨HP6.out.1.push hown1 hgrow1, HP6.out.2.grown hgrow1 (by have := src_ltW HP6.out.1.src; omega) (fun k e => by have h1 := (HP6.out.1.row.lt k e).1; have h2 := HP6.out.1.bv; omega)⟩; clear hown1 hgrow1 hat1)
          go_roundw
          case rel => exact ⟨ps ++ [x], g1, cp1, i2 - 1, at5, s5, by rw [HLen.out], rfl, by omega, by rw [HLen.out]; omega, HAl2.out, by rw [HLen.out]; omega, by rw [HLen.out]; exact HP8.out.1, HP8.out.2⟩
          case measure => simp [intOf]; omega
        · have hi9 : ¬ 0 < i2 := hc2
          have hp20 : ps.length ≤ 20 := by omega
          have HFin : Hid (ReadsLa wr.heap.size wr (some ⟨g, 0, none⟩) rs ∧ Reads wr.heap.size wr (some ⟨gL, 0, none⟩) ps ∧ Below w.heap.size w wr) := by
            have hz := HP.out.1.ap.1
            have hg := HF.out.1.row.lt g rfl
            have hbv := HF.out.1.bv
            refine ⟨.inr ⟨g, 0, rfl, by omega, fun j hj => ?_⟩, HP.out.1.readsL rfl, by rw [← HBw.out]; exact HP.out.2⟩
            have hk := HP.out.1.ap.2 g (by omega) hg.2
            obtain ⟨h1, h2⟩ := las_of_row HF.out.1.row j hj
            exact ⟨(World.cell?_of_block (w := V0) (a := ⟨g, 0 + j * 2, none⟩) hk).trans h1, (World.cell?_of_block (w := V0) (a := ⟨g, 0 + j * 2 + 1, none⟩) hk).trans h2⟩
          clear HP HF
          go_wp2
          go_ret2
          exact ⟨rs, ps, g, cp, gL, cL, rfl, ⟨hn1, hn4⟩, hp20, HLs.out, HAl.out, HFin.out⟩
end Go.Proofs.Ythmhpgbkapjjkaa

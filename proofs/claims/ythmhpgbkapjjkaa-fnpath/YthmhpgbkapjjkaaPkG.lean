/-
  The specification's drawn picks are right: the contract of PicksOf.
-/
import Derived.Test.YthmhpgbkapjjkaaPkF
import Derived.Deep.AppendLies
import Derived.Laws.OwnMore
namespace Go.Proofs.Ythmhpgbkapjjkaa
open Go.ChangeShapes Go.WideShapes Go.ChangeAt Go.RowKit Go.Deep
set_option linter.unusedVariables false

def ptCells (rs : List RPt) : List Value := rs.flatMap fun r => [.int .i64 r.ai, .int .i64 r.pl]
theorem ptCells_append (a b : List RPt) : ptCells (a ++ b) = ptCells a ++ ptCells b := by simp [ptCells]
theorem ptCells_get : ∀ (rs : List RPt) (i : Nat), i < rs.length → (ptCells rs)[i * 2]? = some (.int .i64 (rs.getD i zPt).ai) ∧ (ptCells rs)[i * 2 + 1]? = some (.int .i64 (rs.getD i zPt).pl)
  | r :: rs, 0, h => ⟨rfl, rfl⟩
  | r :: rs, i + 1, h => by
    have := ptCells_get rs i (by simpa using h)
    rw [show (i + 1) * 2 = i * 2 + 1 + 1 by omega]
    exact this
theorem pts_of_row {w : World} {B g cap : Nat} {rs : List RPt} (h : w.ownsRow B 35 2 (.slice (some ⟨g, 0, none⟩) rs.length cap) rs.length (ptCells rs)) : PtsAt w g 0 rs := fun i hi => by
  obtain ⟨q0, q1⟩ := ptCells_get rs i hi
  refine ⟨?_, ?_⟩
  · rw [h.cellAt (0 + i * 2) (by omega), show 0 + i * 2 = i * 2 by omega, q0]
  · rw [h.cellAt (0 + i * 2 + 1) (by omega), show 0 + i * 2 + 1 = i * 2 + 1 by omega, q1]
theorem ptInf : (Try.prog.info? 35).map (fun i => (i.zero, i.size, i.bytes)) = some (some (.agg #[.int .i64 0, .int .i64 0]), 2, 16) := by kernel_rfl
theorem one2P (x0 x1 : Int) : ∀ u ∈ [Value.int .i64 x0, .int .i64 x1], u.oneCell' = true := by
  intro u hu
  simp at hu
  rcases hu with rfl | rfl <;> rfl
/-- The spots drawn so far, in a row behind the hall's box. -/
structure PtSt (W0 : World) (b c6 : Nat) (a : Option Addr) (len cap : Nat) (A P G : Int) (v : Value) (rs : List RPt) (at' sd : Int) (wr : World) : Prop where
  row : wr.ownsRow (c6 + 1) 35 2 v rs.length (ptCells rs)
  bc : b < c6
  box : wr.heap[c6]? = some (.cells #[.int .i64 A, .int .i64 P, .int .i64 G] 24 (0, 0))
  src : Src wr b a len cap at' sd
  low : Below b W0 wr
section
variable {W0 : World} {b c6 : Nat} {a : Option Addr} {len cap : Nat} {A P G : Int} {v : Value} {rs : List RPt} {at' sd at2 sd2 : Int} {wr w' : World}
theorem PtSt.step (h : PtSt W0 b c6 a len cap A P G v rs at' sd wr) (ha : Apart b wr w') (hb : Below b wr w') (hs : Src w' b a len cap at2 sd2) : PtSt W0 b c6 a len cap A P G v rs at2 sd2 w' := by
  have hbc := h.bc
  exact ⟨ownsRow_sameW h.row (fun k hk => ha.2 k (by have := (h.row.lt k hk).1; omega) (h.row.lt k hk).2), h.bc, (ha.2 c6 (by omega) (blkLt h.box)).trans h.box, hs, h.low.trans hb⟩
theorem PtSt.later (h : PtSt W0 b c6 a len cap A P G v rs at' sd wr) (hb : Below wr.heap.size wr w') : PtSt W0 b c6 a len cap A P G v rs at' sd w' :=
  h.step (later_apart hb) (hb.mono (by have := src_ltW h.src; omega)) (src_sameW h.src (hb.block b (src_ltW h.src)) hb.size)
theorem PtSt.push {g cp : Nat} {r : RPt} (h : PtSt W0 b c6 a len cap A P G v rs at' sd wr)
    (ho : w'.ownsRow (c6 + 1) 35 2 (.slice (some ⟨g, 0, none⟩) (rs.length + 1) cp) (rs.length + 1) (ptCells rs ++ [.int .i64 r.ai, .int .i64 r.pl])) (hg : wr.grownBy w' v.ownBlock) : PtSt W0 b c6 a len cap A P G (.slice (some ⟨g, 0, none⟩) (rs.length + 1) cp) (rs ++ [r]) at' sd w' := by
  have hbc := h.bc
  have hbs := src_ltW h.src
  have hcs := blkLt h.box
  refine ⟨?_, h.bc, (hg.block c6 hcs (fun e => by have := (h.row.lt c6 e.symm).1; omega)).trans h.box, src_sameW h.src (hg.block b hbs (fun e => by have := (h.row.lt b e.symm).1; omega)) hg.size, h.low.grown hg (by omega) (fun k e => by have := (h.row.lt k e).1; omega)⟩
  rw [List.length_append, ptCells_append]; exact ho
end
theorem PtSt.start {W0 w : World} {b c6 : Nat} {a : Option Addr} {len cap : Nat} {A P G at' sd : Int} (hs : Src w b a len cap at' sd) (hb : Below b W0 w) (hbc : b < c6) (hx : w.heap[c6]? = some (.cells #[.int .i64 A, .int .i64 P, .int .i64 G] 24 (0, 0))) : PtSt W0 b c6 a len cap A P G (.slice (some ⟨w.heap.size, 0, none⟩) 0 0) [] at' sd (w.alloc (Obj.cells #[] 35)) :=
  have hc := blkLt hx
  ⟨⟨rfl, .inr ⟨w.heap.size, 0, #[], rfl, hc, heapNew w _, Nat.le_refl _, by unfold maxLen; omega, rfl, rfl⟩⟩, hbc, (Below.heap_alloc _ _ _ hc).trans hx, hs.allocT _, hb.alloc (by omega) _⟩
def PostPk (w : World) (e : Ending) (w' : World) : Prop := ∃ (A P G : Int) (rs : List RPt) (L : List Int) (g cp gL cL : Nat), e = .returned (.tuple #[.agg #[.int .i64 A, .int .i64 P, .int .i64 G], .slice (some ⟨g, 0, none⟩) rs.length cp, .slice (some ⟨gL, 0, none⟩) L.length cL]) ∧ ((1 ≤ A ∧ A ≤ 6) ∧ (1 ≤ P ∧ P ≤ 12) ∧ 1 ≤ G ∧ G ≤ 4) ∧ rs.length ≤ 6 ∧ (∀ r ∈ rs, (0 ≤ r.ai ∧ r.ai < A) ∧ 0 ≤ r.pl ∧ r.pl < P + 2) ∧ OnP L rs.length ∧ rs.length ≤ cp ∧ ReadsPt w'.heap.size w' (some ⟨g, 0, none⟩) rs ∧ Reads w'.heap.size w' (some ⟨gL, 0, none⟩) L ∧ Below w.heap.size w w'
set_option maxHeartbeats 4000000 in
set_option maxRecDepth 4000 in
theorem picksOf_any (a : Option Addr) (len cap : Nat) (zs : List Int) (w : World) (hr : RowB w.heap.size w a len zs) :
    Calls Try.prog 7 #[.slice a len cap] w (PostPk w) := by
  have hlen := hr.1
  obtain ⟨W0, hW0⟩ : ∃ W0, W0 = w.alloc (Obj.cells #[.int .i64 0, .int .i64 0, .int .i64 0] 24) := ⟨_, rfl⟩
  obtain ⟨b, hb0⟩ : ∃ b, b = W0.heap.size := ⟨_, rfl⟩
  have hbw : b = w.heap.size + 1 := by rw [hb0, hW0]; simp
  have HR : Hid (RowB b W0 a len zs) := by show RowB _ _ _ _ _; rw [hW0, hbw]; exact (hr.below ((Below.refl _ _).alloc (Nat.le_refl _) _)).mono (by omega)
  have hsrc := source_any a len cap W0 hr.1
  rw [← hb0] at hsrc
  have HE : Hid (W0 = w.alloc (Obj.cells #[.int .i64 0, .int .i64 0, .int .i64 0] 24) ∧ b = w.heap.size + 1) := ⟨hW0, hbw⟩
  have HLw : Hid (Below w.heap.size w W0 ∧ W0.heap[w.heap.size]? = some (.cells #[.int .i64 0, .int .i64 0, .int .i64 0] 24 (0, 0))) := by show _ ∧ _; rw [hW0]; exact ⟨below_alloc _ _, heapNew _ _⟩
  clear hr hW0 hb0 hbw
  have HNx : Hid (∀ (n at' sd : Int) (W : World), n ≤ 256 → at' ≤ 2000 → Src W b a len cap at' sd → Below b W0 W → Calls Try.prog 32 #[.pointer (some ⟨b, 0, none⟩), .int .i64 n] W fun e w' => ∃ x at2 s' : Int, e = .returned (.int .i64 x) ∧ Drawn x n ∧ at' ≤ at2 ∧ at2 ≤ at' + 3 ∧ Src w' b a len cap at2 s' ∧ Below b W w' ∧ Apt b W w') := fun n at' sd W hn ha hS hB => next_anyA b b a len cap zs n at' sd W (Nat.le_refl _) hS (HR.out.below hB) (by omega) hn
  have HSz : Hid (∀ (at' sd : Int) (W : World), Src W b a len cap at' sd → Calls Try.prog 33 #[.pointer (some ⟨b, 0, none⟩), .int .i64 6] W fun e w' => ∃ x : Int, e = .returned (.int .i64 x) ∧ 1 ≤ x ∧ x ≤ 6 ∧ W = w') := fun at' sd W hS => (size_src b a len cap 6 at' sd W hS hlen (by omega) (by omega)).mono (fun e w' h => by obtain ⟨⟨x, h1, h2, h3⟩, h4⟩ := h; exact ⟨x, h1, h2, h3, h4.symm⟩)
  have HOd : Hid (∀ (n : Nat) (at' sd : Int) (W : World), n ≤ 9 → at' ≤ 1000 → Src W b a len cap at' sd → Below b W0 W → Calls Try.prog 35 #[.pointer (some ⟨b, 0, none⟩), .int .i64 (n : Int)] W (PostOd b a len cap n at' W)) := fun n at' sd W hn ha hS hB => order_any b a len cap zs n hn at' sd W hS (HR.out.below hB) (by omega)
  have HSp : Hid (∀ (A P G at' sd : Int) (W : World), (1 ≤ A ∧ A ≤ 6) → (1 ≤ P ∧ P ≤ 12) → at' ≤ 1000 → Src W b a len cap at' sd → Below b W0 W → Calls Try.prog 34 #[.pointer (some ⟨b, 0, none⟩), .agg #[.int .i64 A, .int .i64 P, .int .i64 G]] W (PostSp b a len cap A P at' W)) := fun A P G at' sd W hA hP ha hS hB => spot_any b a len cap zs A P G hA hP at' sd W hS (HR.out.below hB) ha
  obtain ⟨i0, hi, hzz⟩ := Option.map_eq_some_iff.1 ptInf
  simp only [Prod.mk.injEq] at hzz
  obtain ⟨hi0, hi1, hi2⟩ := hzz
  clear HR
  go_enter Try.func7, Try.ntmps7
  go_upto_region 1 with fail
  rw [← HE.out.1]
  go_wp2_with fail
  (first | go_at_call 31 | skip)
  refine hsrc.mono ?_
  rintro e w1 ⟨s1, rfl, hs1, hb1⟩
  have HS1 : Hid (Src w1 b a len cap 0 s1 ∧ Below b W0 w1) := ⟨hs1, hb1⟩
  clear hs1 hb1 hsrc
  go_wp2_with fail
  (first | go_at_call 32 | skip)
  refine (HNx.out 6 0 s1 w1 (by omega) (by omega) HS1.out.1 HS1.out.2).mono ?_
  rintro e w2 ⟨p2, at2, s2, rfl, hp, q2, r2, hs, hb, ha⟩
  have HS2 : Hid (Src w2 b a len cap at2 s2 ∧ Below b W0 w2) := ⟨hs, HS1.out.2.trans hb⟩
  have hp2 : 0 ≤ p2 ∧ p2 < 6 := by obtain ⟨u1, u2⟩ := hp; omega
  clear hs hb ha hp HS1
  go_wp2_with fail
  (first | go_at_call 32 | skip)
  refine (HNx.out 12 at2 s2 w2 (by omega) (by omega) HS2.out.1 HS2.out.2).mono ?_
  rintro e w3 ⟨p3, at3, s3, rfl, hp, q3, r3, hs, hb, ha⟩
  have HS3 : Hid (Src w3 b a len cap at3 s3 ∧ Below b W0 w3) := ⟨hs, HS2.out.2.trans hb⟩
  have hp3 : 0 ≤ p3 ∧ p3 < 12 := by obtain ⟨u1, u2⟩ := hp; omega
  clear hs hb ha hp HS2
  go_wp2_with fail
  (first | go_at_call 32 | skip)
  refine (HNx.out 4 at3 s3 w3 (by omega) (by omega) HS3.out.1 HS3.out.2).mono ?_
  rintro e w4 ⟨p4, at4, s4, rfl, hp, q4, r4, hs, hb, ha⟩
  have HS4 : Hid (Src w4 b a len cap at4 s4 ∧ Below b W0 w4) := ⟨hs, HS3.out.2.trans hb⟩
  have hp4 : 0 ≤ p4 ∧ p4 < 4 := by obtain ⟨u1, u2⟩ := hp; omega
  clear hs hb ha hp HS3
  have hwa : IntKind.i64.wrap (1 + p2) = 1 + p2 := wrap_id _ (by omega) (by omega)
  have hwb : IntKind.i64.wrap (1 + p3) = 1 + p3 := wrap_id _ (by omega) (by omega)
  have hwc : IntKind.i64.wrap (1 + p4) = 1 + p4 := wrap_id _ (by omega) (by omega)
  obtain ⟨w5, hw5⟩ : ∃ w5, w5 = w4.alloc (Obj.cells #[.int .i64 (1 + p2), .int .i64 (1 + p3), .int .i64 (1 + p4)] 24) := ⟨_, rfl⟩
  obtain ⟨c6, hc6⟩ : ∃ c6, c6 = w4.heap.size := ⟨_, rfl⟩
  have HW5 : Hid (w5 = w4.alloc (Obj.cells #[.int .i64 (1 + p2), .int .i64 (1 + p3), .int .i64 (1 + p4)] 24) ∧ c6 = w4.heap.size) := ⟨hw5, hc6⟩
  have HX5 : Hid (w5.heap[c6]? = some (.cells #[.int .i64 (1 + p2), .int .i64 (1 + p3), .int .i64 (1 + p4)] 24 (0, 0)) ∧ b < c6 ∧ Src w5 b a len cap at4 s4 ∧ Below b W0 w5) := by
    have := src_ltW HS4.out.1
    refine ⟨by rw [hw5, hc6]; exact heapNew _ _, by omega, by rw [hw5]; exact HS4.out.1.allocT _, by rw [hw5]; exact HS4.out.2.alloc (by omega) _⟩
  clear hw5 hc6 HS4
  go_upto_region 3 with fail
  rw [← HW5.out.1, ← HW5.out.2]
  clear HW5 hwa hwb hwc
  obtain ⟨A, hA⟩ : ∃ A, A = 1 + p2 := ⟨_, rfl⟩
  obtain ⟨P, hP⟩ : ∃ P, P = 1 + p3 := ⟨_, rfl⟩
  obtain ⟨G, hG⟩ : ∃ G, G = 1 + p4 := ⟨_, rfl⟩
  rw [← hA, ← hP, ← hG] at HX5 ⊢
  have HL0 : Hid (PtSt W0 b c6 a len cap A P G (.slice (some ⟨w5.heap.size, 0, none⟩) 0 0) [] at4 s4 (w5.alloc (Obj.cells #[] 35))) := PtSt.start HX5.out.2.2.1 HX5.out.2.2.2 HX5.out.2.1 HX5.out.1
  have hAb : 1 ≤ A ∧ A ≤ 6 := by omega
  have hPb : 1 ≤ P ∧ P ≤ 12 := by omega
  have hGb : 1 ≤ G ∧ G ≤ 4 := by omega
  have h12 : at4 ≤ 9 := by omega
  clear hA hP hG HX5 hp2 hp3 hp4 q2 q3 q4 r2 r3 r4
  go_upto_region 4 with fail
  obtain ⟨g0, hg0⟩ : ∃ g0, g0 = w5.heap.size := ⟨_, rfl⟩
  obtain ⟨W1, hW1⟩ : ∃ W1, W1 = w5.alloc (Obj.cells #[] 35) := ⟨_, rfl⟩
  rw [← hg0, ← hW1] at HL0 ⊢
  clear hg0 hW1
  go_wp2_with fail
  (first | go_at_call 33 | skip)
  refine (HSz.out at4 s4 W1 HL0.out.src).mono ?_
  rintro e v2 ⟨y, rfl, hy1, hy2, hv2⟩
  subst hv2
  have hw2 : IntKind.i64.wrap (y + 1) = y + 1 := wrap_id _ (by omega) (by omega)
  go_wp2_with fail
  (first | go_at_call 32 | skip)
  refine (HNx.out (y + 1) at4 s4 W1 (by omega) (by omega) HL0.out.src HL0.out.low).mono ?_
  rintro e w6 ⟨z, at6, s6, rfl, hz, q6, r6, hs, hb, ha⟩
  have hz2 : 0 ≤ z ∧ z ≤ 6 := by obtain ⟨u1, u2⟩ := hz; omega
  have HL1 : Hid (PtSt W0 b c6 a len cap A P G (.slice (some ⟨g0, 0, none⟩) 0 0) [] at6 s6 w6) := HL0.out.step (ha.apart hb) hb hs
  clear hs hb ha HL0 hz HSz hw2
  go_wp2_with fail
  go_loopw [7, 8] (fun v iv wr => ∃ (rs : List RPt) (g cp : Nat) (i at' sd : Int), v = .slice (some ⟨g, 0, none⟩) rs.length cp ∧ iv = .int .i64 i ∧ 0 ≤ i ∧ i + (rs.length : Int) ≤ 6 ∧ (∀ r ∈ rs, (0 ≤ r.ai ∧ r.ai < A) ∧ 0 ≤ r.pl ∧ r.pl < P + 2) ∧ at' ≤ 12 + 6 * (rs.length : Int) ∧ PtSt W0 b c6 a len cap A P G (.slice (some ⟨g, 0, none⟩) rs.length cp) rs at' sd wr) (fun _ iv _ => (intOf iv).toNat)
  case atStart => exact ⟨[], g0, 0, z, at6, s6, rfl, rfl, by omega, by simp; omega, by simp, by simp; omega, HL1.out⟩
  case round =>
    clear HL1
    obtain ⟨rs, g, cp, i, at', sd, rfl, rfl, hi4, hLi, hdr, hat, hF⟩ := hrel
    have HF : Hid (PtSt W0 b c6 a len cap A P G (.slice (some ⟨g, 0, none⟩) rs.length cp) rs at' sd wr) := hF
    have HD : Hid (∀ r ∈ rs, (0 ≤ r.ai ∧ r.ai < A) ∧ 0 ≤ r.pl ∧ r.pl < P + 2) := hdr
    have f0 := blkCell hF.box 0 _ rfl
    have f1 := blkCell hF.box 1 _ rfl
    have f2 := blkCell hF.box 2 _ rfl
    simp only [List.getElem_toArray, List.getElem_cons_zero, List.getElem_cons_succ] at f0 f1 f2
    clear hF hdr
    by_cases hc : 0 < i
    · go_wp2_with fail
      (first | go_at_call 34 | skip)
      refine (HSp.out A P G at' sd wr hAb hPb (by omega) HF.out.src HF.out.low).mono ?_
      rintro e w7 ⟨p, q, at7, s7, rfl, hp, hq, hat7, hs, hb, ha⟩
      have HF7 : Hid (PtSt W0 b c6 a len cap A P G (.slice (some ⟨g, 0, none⟩) rs.length cp) rs at7 s7 (w7.alloc (Obj.cells #[.int .i64 p, .int .i64 q] 35))) := (HF.out.step ha hb hs).later (below_alloc _ _)
      have HNw : Hid (∀ j u, [Value.int .i64 p, .int .i64 q][j]? = some u → (w7.alloc (Obj.cells #[.int .i64 p, .int .i64 q] 35)).cell? ((⟨w7.heap.size, 0, none⟩ : Addr).add j) = some u) := World.news_of_block (heapNew w7 (Obj.cells #[.int .i64 p, .int .i64 q] 35))
      have HLen : Hid ((rs ++ [(⟨p, q⟩ : RPt)]).length = rs.length + 1) := by show _ = _; simp
      have HD2 : Hid (∀ r ∈ rs ++ [(⟨p, q⟩ : RPt)], (0 ≤ r.ai ∧ r.ai < A) ∧ 0 ≤ r.pl ∧ r.pl < P + 2) := fun r hr => by
        rcases List.mem_append.1 hr with h | h
        · exact HD.out r h
        · simp at h; subst h; exact ⟨hp, hq⟩
      have HZ : Hid (c6 + 1 ≤ (w7.alloc (Obj.cells #[.int .i64 p, .int .i64 q] 35)).heap.size) := blkLt HF7.out.box
      clear HF HD hs hb ha f0 f1 f2
      have hwi : IntKind.i64.wrap (i - 1) = i - 1 := wrap_id _ (by omega) (by omega)
      go_wp2_with (at_builtin; refine wpList_append_lies _ rfl _ _ 25 rfl (c6 + 1) 35 i0 (.agg #[.int .i64 0, .int .i64 0]) 2 16 Try.underlying25 hi hi0 hi1 hi2 rfl (by decide) _ _ _ rfl HF7.out.row ⟨w7.heap.size, 0, none⟩ 1 1 [.int .i64 p, .int .i64 q] rfl rfl HNw.out (one2P _ _) (by omega) (by unfold maxLen; omega) (by omega) HZ.out _ rfl ?_; intro g1 cp1 w8 hown1 hgrow1 hat1 hglt1; have HF8 : Hid (PtSt W0 b c6 a len cap A P G (.slice (some ⟨g1, 0, none⟩) (rs.length + 1) cp1) (rs ++ [(⟨p, q⟩ : RPt)]) at7 s7 w8) := HF7.out.push (r := ⟨p, q⟩) hown1 hgrow1; clear hown1 hgrow1 hat1)
      go_roundw
      case rel => exact ⟨rs ++ [⟨p, q⟩], g1, cp1, i - 1, at7, s7, by rw [HLen.out], rfl, by omega, by rw [HLen.out]; omega, HD2.out, by rw [HLen.out]; omega, by rw [HLen.out]; exact HF8.out⟩
      case measure => simp [intOf]; omega
    · have hi9 : ¬ 0 < i := hc
      have hl6 : rs.length ≤ 6 := by omega
      go_upto_region 8 with fail
      have HC6 : Hid (∀ W : World, W.heap[c6]? = wr.heap[c6]? → W.cell? ⟨c6, 0, none⟩ = some (.int .i64 A) ∧ W.cell? ⟨c6, 1, none⟩ = some (.int .i64 P) ∧ W.cell? ⟨c6, 2, none⟩ = some (.int .i64 G)) := fun W hW => by
        have k := hW.trans HF.out.box
        exact ⟨blkCell k 0 _ rfl, blkCell k 1 _ rfl, blkCell k 2 _ rfl⟩
      clear f0 f1 f2
      refine wp_region_z (S := fun W => W.cell? ⟨c6, 0, none⟩ = some (.int .i64 A) ∧ W.cell? ⟨c6, 1, none⟩ = some (.int .i64 P) ∧ W.cell? ⟨c6, 2, none⟩ = some (.int .i64 G)) 8 (by kernel_rfl) (HC6.out wr.drew rfl) (fun hH => ?_)
      refine wpAnyZ_take (i := 0) (v := .agg #[.int .i64 A, .int .i64 P, .int .i64 G]) rfl (by kernel_rfl) (by kernel_rfl) (by kernel_rfl) (by kernel_rfl) (fun _ _ _ h => h) (Or.inl ⟨by rfl, fun w hSw => by obtain ⟨f0, f1, f2⟩ := hSw; go_simp⟩) hH ?_
      refine wpAnyZ_take (i := 1) (v := .slice (some ⟨g, 0, none⟩) rs.length cp) rfl (by kernel_rfl) (by kernel_rfl) (by kernel_rfl) (by kernel_rfl) (fun _ _ _ h => h) (Or.inl ⟨by rfl, fun w hSw => by clear hSw; go_simp⟩) hH ?_
      try simp only [Act.put, List.setIfInBounds_toArray, List.set_cons_zero, List.set_cons_succ, List.getElem_toArray, List.getElem_cons_succ, List.getElem_cons_zero]
      refine wpAnyZ_take (i := 2) (v := .pointer (some ⟨b, 0, none⟩)) rfl (by kernel_rfl) (by kernel_rfl) (by kernel_rfl) (by kernel_rfl) (fun _ _ _ h => h) (Or.inl ⟨by rfl, fun w hSw => by clear hSw; go_simp⟩) hH ?_
      try simp only [Act.put, List.setIfInBounds_toArray, List.set_cons_zero, List.set_cons_succ, List.getElem_toArray, List.getElem_cons_succ, List.getElem_cons_zero]
      refine wpAnyZ_take (i := 3) (v := .slice (some ⟨g, 0, none⟩) rs.length cp) rfl (by kernel_rfl) (by kernel_rfl) (by kernel_rfl) (by kernel_rfl) (fun _ _ _ h => h) (Or.inl ⟨by rfl, fun w hSw => by clear hSw; go_simp⟩) hH ?_
      try simp only [Act.put, List.setIfInBounds_toArray, List.set_cons_zero, List.set_cons_succ, List.getElem_toArray, List.getElem_cons_succ, List.getElem_cons_zero]
      refine wpAnyZ_take (i := 4) (v := .int .i64 (rs.length : Int)) rfl (by kernel_rfl) (by kernel_rfl) (by kernel_rfl) (by kernel_rfl) (fun _ _ _ h => h) (Or.inl ⟨by rfl, fun w hSw => by clear hSw; go_simp⟩) hH ?_
      try simp only [Act.put, List.setIfInBounds_toArray, List.set_cons_zero, List.set_cons_succ, List.getElem_toArray, List.getElem_cons_succ, List.getElem_cons_zero]
      refine wpAnyZ_ready (rs := [5]) (by kernel_rfl) (by simp) ?_
      refine AllReadyZ.cons rfl (fun K hK => ?_) AllReadyZ.nil
      go_simp
      go_at_call 35
      refine (HOd.out rs.length at' sd _ (by omega) (by omega) HF.out.src.drew HF.out.low.drew).mono ?_
      rintro e w7 ⟨L, gL, cL, at7, s7, rfl, hon, _, hfo⟩
      have hap := hfo.ap
      have hbs := src_ltW HF.out.src
      have hbc := HF.out.bc
      have hcs := blkLt HF.out.box
      have hH7 := HC6.out w7 (hap.2 c6 (by omega) hcs)
      have HF9 : Hid (PtSt W0 b c6 a len cap A P G (.slice (some ⟨g, 0, none⟩) rs.length cp) rs at7 s7 w7) := HF.out.step ⟨hap.1, hap.2⟩ ((Below.refl b wr).drew.trans hfo.low) hfo.src
      have HB7 : Hid (w7.heap[w.heap.size]? = some (.cells #[.int .i64 0, .int .i64 0, .int .i64 0] 24 (0, 0)) ∧ OnP L rs.length ∧ Reads w7.heap.size w7 (some ⟨gL, 0, none⟩) L ∧ (wr.heap.size ≤ gL ∨ L = [])) := ⟨(HF9.out.low.block _ (by have := HE.out.2; omega)).trans HLw.out.2, hon, hfo.readsL rfl, by
        have := (hfo.row.lt gL rfl).1
        exact .inl this⟩
      have d0 := blkCell HB7.out.1 0 _ rfl
      have d1 := blkCell HB7.out.1 1 _ rfl
      have d2 := blkCell HB7.out.1 2 _ rfl
      have e0 := blkFree HB7.out.1 0
      have e1 := blkFree HB7.out.1 1
      have e2 := blkFree HB7.out.1 2
      simp only [List.getElem_toArray, List.getElem_cons_zero, List.getElem_cons_succ] at d0 d1 d2
      clear hap hon hfo
      refine hK.out _ _ (Or.inr hH7) (fun _ => ?_)
      clear hK K
      try simp only [Act.put, List.setIfInBounds_toArray, List.set_cons_zero, List.set_cons_succ, List.getElem_toArray, List.getElem_cons_succ, List.getElem_cons_zero]
      have g0 := heap_setCell_same w7 w.heap.size 0 _ _ (.int .i64 A) HB7.out.1
      have g1 := heap_setCell_same _ w.heap.size 1 _ _ (.int .i64 P) g0
      have g2 := heap_setCell_same _ w.heap.size 2 _ _ (.int .i64 G) g1
      have hk8 : ∀ k, k ≠ w.heap.size → (((w7.setCell ⟨w.heap.size, 0, none⟩ (.int .i64 A)).setCell ⟨w.heap.size, 1, none⟩ (.int .i64 P)).setCell ⟨w.heap.size, 2, none⟩ (.int .i64 G)).heap[k]? = w7.heap[k]? := fun k hk => (Below.heap_setCell _ ⟨w.heap.size, 2, none⟩ _ k hk).trans ((Below.heap_setCell _ ⟨w.heap.size, 1, none⟩ _ k hk).trans (Below.heap_setCell _ ⟨w.heap.size, 0, none⟩ _ k hk))
      have hbl8 : Below w.heap.size w7 (((w7.setCell ⟨w.heap.size, 0, none⟩ (.int .i64 A)).setCell ⟨w.heap.size, 1, none⟩ (.int .i64 P)).setCell ⟨w.heap.size, 2, none⟩ (.int .i64 G)) := (((Below.refl _ _).setCell (p := ⟨w.heap.size, 0, none⟩) (Nat.le_refl _) _).setCell (p := ⟨w.heap.size, 1, none⟩) (Nat.le_refl _) _).setCell (p := ⟨w.heap.size, 2, none⟩) (Nat.le_refl _) _
      have hc6n : c6 ≠ w.heap.size := by have := HE.out.2; omega
      have hH8 := HC6.out _ ((hk8 c6 hc6n).trans (HF9.out.box.trans HF.out.box.symm))
      have HFin : Hid (ReadsPt (((w7.setCell ⟨w.heap.size, 0, none⟩ (.int .i64 A)).setCell ⟨w.heap.size, 1, none⟩ (.int .i64 P)).setCell ⟨w.heap.size, 2, none⟩ (.int .i64 G)).heap.size (((w7.setCell ⟨w.heap.size, 0, none⟩ (.int .i64 A)).setCell ⟨w.heap.size, 1, none⟩ (.int .i64 P)).setCell ⟨w.heap.size, 2, none⟩ (.int .i64 G)) (some ⟨g, 0, none⟩) rs ∧ Reads (((w7.setCell ⟨w.heap.size, 0, none⟩ (.int .i64 A)).setCell ⟨w.heap.size, 1, none⟩ (.int .i64 P)).setCell ⟨w.heap.size, 2, none⟩ (.int .i64 G)).heap.size (((w7.setCell ⟨w.heap.size, 0, none⟩ (.int .i64 A)).setCell ⟨w.heap.size, 1, none⟩ (.int .i64 P)).setCell ⟨w.heap.size, 2, none⟩ (.int .i64 G)) (some ⟨gL, 0, none⟩) L ∧ Below w.heap.size w (((w7.setCell ⟨w.heap.size, 0, none⟩ (.int .i64 A)).setCell ⟨w.heap.size, 1, none⟩ (.int .i64 P)).setCell ⟨w.heap.size, 2, none⟩ (.int .i64 G))) := by
        have hgr := (HF9.out.row.lt g rfl)
        have hb1 := HE.out.2
        have hz := hbl8.size
        refine ⟨?_, ?_, (HLw.out.1.trans (HF9.out.low.mono (by omega))).trans hbl8⟩
        · have hp := pts_of_row HF9.out.row
          exact .inr ⟨g, 0, rfl, by omega, fun j hj => ⟨(World.cell?_of_block (w := w7) (a := ⟨g, 0 + j * 2, none⟩) (hk8 g (by omega))).trans (hp j hj).1, (World.cell?_of_block (w := w7) (a := ⟨g, 0 + j * 2 + 1, none⟩) (hk8 g (by omega))).trans (hp j hj).2⟩⟩
        · obtain ⟨_, _, hR, hge⟩ := HB7.out
          rcases hR with h | ⟨b', o', he, hlt, hat⟩
          · exact .inl h
          · cases he
            rcases hge with hge | h
            · have hw := HF.out.low.size
              have hcs := blkLt HF.out.box
              exact .inr ⟨gL, 0, rfl, by omega, fun j hj => (World.cell?_of_block (w := w7) (a := ⟨gL, 0 + j, none⟩) (hk8 gL (by omega))).trans (hat j hj)⟩
            · exact .inl h
      have HOn : Hid (OnP L rs.length) := HB7.out.2.1
      have HLc : Hid (rs.length ≤ cp) := by
        show rs.length ≤ cp
        rcases HF9.out.row.2 with ⟨e, _⟩ | ⟨_, _, _, e, _, _, h, _⟩
        · cases e
        · cases e; exact h
      have c0 := blkCell g2 0 (.int .i64 A) rfl
      have c1 := blkCell g2 1 (.int .i64 P) rfl
      have c2 := blkCell g2 2 (.int .i64 G) rfl
      clear g0 g1 g2 hk8 hbl8 hH7 HF9 HB7
      refine wpAnyZ_ready (rs := [6]) (by kernel_rfl) (by simp) ?_
      refine AllReadyZ.cons rfl (fun K hK => ?_) AllReadyZ.nil
      go_simp
      clear d0 d1 d2 e0 e1 e2
      generalize ((w7.setCell ⟨w.heap.size, 0, none⟩ (.int .i64 A)).setCell ⟨w.heap.size, 1, none⟩ (.int .i64 P)).setCell ⟨w.heap.size, 2, none⟩ (.int .i64 G) = w8 at *
      refine hK.out _ _ (Or.inr hH8) (fun _ => ?_)
      clear hK K
      try simp only [Act.put, List.setIfInBounds_toArray, List.set_cons_zero, List.set_cons_succ, List.getElem_toArray, List.getElem_cons_succ, List.getElem_cons_zero]
      refine wpAnyZ_take (i := 7) (v := .slice (some ⟨g, 0, none⟩) rs.length cp) rfl (by kernel_rfl) (by kernel_rfl) (by kernel_rfl) (by kernel_rfl) (fun _ _ _ h => h) (Or.inl ⟨by rfl, fun w hSw => by clear hSw; go_simp⟩) hH8 ?_
      try simp only [Act.put, List.setIfInBounds_toArray, List.set_cons_zero, List.set_cons_succ, List.getElem_toArray, List.getElem_cons_succ, List.getElem_cons_zero]
      refine wpAnyZ_ready (rs := [8]) (by kernel_rfl) (by simp) ?_
      refine AllReadyZ.cons rfl (fun K hK => ?_) AllReadyZ.nil
      go_simp
      refine hK.out _ _ (Or.inl rfl) (fun _ => ?_)
      clear hK K
      try simp only [Act.put, List.setIfInBounds_toArray, List.set_cons_zero, List.set_cons_succ, List.getElem_toArray, List.getElem_cons_succ, List.getElem_cons_zero]
      refine wpAnyZ_done (by kernel_rfl) ?_ _
      go_wp2_with fail
      refine bodyPost_ret (v := .tuple #[.agg #[.int .i64 A, .int .i64 P, .int .i64 G], .slice (some ⟨g, 0, none⟩) rs.length cp, .slice (some ⟨gL, 0, none⟩) L.length cL]) (by simp [results, Try.results7, go_sem, c0, c1, c2]) rfl ⟨A, P, G, rs, L, g, cp, gL, cL, rfl, ⟨hAb, hPb, hGb⟩, hl6, HD.out, HOn.out, HLc.out, HFin.out⟩
end Go.Proofs.Ythmhpgbkapjjkaa

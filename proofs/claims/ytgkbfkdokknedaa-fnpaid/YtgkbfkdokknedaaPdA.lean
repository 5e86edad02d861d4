/-
  The specification's tenders: of every list of bytes it draws a short list of tenders and a total.
-/
import Derived.Test.YtgkbfkdokknedaaSrcApt
import Derived.Test.YtgkbfkdokknedaaTdA
import Derived.Deep.AppendLies
import Derived.Laws.OwnMore
namespace Go.Proofs.Ytgkbfkdokknedaa
open Go.ChangeShapes Go.WideShapes Go.ChangeAt Go.RowKit
set_option linter.unusedVariables false

set_option maxHeartbeats 800000 in
theorem next_anyB (B b : Nat) (a : Option Addr) (len cap : Nat) (zs : List Int) (n at' seed : Int) (w : World) (hB : B ≤ b) (hs : Src w b a len cap at' seed) (hr : RowB B w a len zs) (a1 : at' ≤ 999999999000) (hn : n ≤ 1000000000000) :
    Calls Try.prog 18 #[.pointer (some ⟨b, 0, none⟩), .int .i64 n] w fun e w' => ∃ x at2 s' : Int, e = .returned (.int .i64 x) ∧ Drawn x n ∧ at' ≤ at2 ∧ at2 ≤ at' + 3 ∧ Src w' b a len cap at2 s' ∧ Below B w w' ∧ Apt b w w' := by
  by_cases hs' : n ≤ 256
  · exact next_anyA B b a len cap zs n at' seed w hB hs hr a1 hs'
  have h1 : 1 < n := by omega
  have h2 : 256 < n := by omega
  have hbyte := byte_anyA B b a len cap zs at' seed w hB hs hr (by omega)
  have hbyte2 := fun s' w1 (hs1 : Src w1 b a len cap (at' + 1) s') (hb1 : Below B w w1) => byte_anyA B b a len cap zs (at' + 1) s' w1 hB hs1 (hr.below hb1) (by omega)
  have hbyte3 := fun s' w1 (hs1 : Src w1 b a len cap (at' + 1 + 1) s') (hb1 : Below B w w1) => byte_anyA B b a len cap zs (at' + 1 + 1) s' w1 hB hs1 (hr.below hb1) (by omega)
  clear hr
  go_enter Try.func18, Try.ntmps18
  go_wp2_with (first | (go_at_call 32; refine hbyte.mono ?_; rintro e w1 ⟨x, s', rfl, hx0, hx1, hs1, hb1, hf1⟩) | (go_at_call 32; refine (hbyte2 _ _ hs1 hb1).mono ?_; rintro e w2 ⟨y, s2, rfl, hy0, hy1, hs2, hb2, hf2⟩; replace hb2 := hb1.trans hb2; replace hf2 := hf1.trans hf2) | (go_at_call 32; refine (hbyte3 _ _ hs2 hb2).mono ?_; rintro e w3 ⟨z, s3, rfl, hz0, hz1, hs3, hb3, hf3⟩; replace hb3 := hb2.trans hb3; replace hf3 := hf2.trans hf3))
  go_ret
  exact ⟨_, _, _, rfl, drawn_mod _ n (by omega) h1, by omega, by omega, hs3, hb3, hf3⟩

/-- The cells of some tenders. -/
def tdCells (rs : List RTd) : List Value := rs.flatMap fun r => [.int .i64 r.kd, .int .i64 r.am, .int .i64 r.n, .int .i64 r.d]
theorem tdCells_length : ∀ rs, (tdCells rs).length = rs.length * 4
  | [] => rfl
  | r :: rs => by
    have := tdCells_length rs
    show (_ ++ tdCells rs).length = _
    rw [List.length_append, this]; simp; omega
theorem tdCells_append (a b : List RTd) : tdCells (a ++ b) = tdCells a ++ tdCells b := by simp [tdCells]
theorem tdCells_get : ∀ (rs : List RTd) (i : Nat), i < rs.length → (tdCells rs)[i * 4]? = some (.int .i64 (rs.getD i zTd).kd) ∧ (tdCells rs)[i * 4 + 1]? = some (.int .i64 (rs.getD i zTd).am) ∧ (tdCells rs)[i * 4 + 2]? = some (.int .i64 (rs.getD i zTd).n) ∧ (tdCells rs)[i * 4 + 3]? = some (.int .i64 (rs.getD i zTd).d)
  | r :: rs, 0, h => ⟨rfl, rfl, rfl, rfl⟩
  | r :: rs, i + 1, h => by
    have := tdCells_get rs i (by simpa using h)
    rw [show (i + 1) * 4 = i * 4 + 1 + 1 + 1 + 1 by omega]
    exact this
theorem tds_of_row {w : World} {B g cap : Nat} {rs : List RTd} (h : w.ownsRow B 47 4 (.slice (some ⟨g, 0, none⟩) rs.length cap) rs.length (tdCells rs)) : TdsAt w g 0 rs := fun i hi => by
  obtain ⟨q0, q1, q2, q3⟩ := tdCells_get rs i hi
  refine ⟨?_, ?_, ?_, ?_⟩
  · rw [h.cellAt (0 + i * 4) (by omega), show 0 + i * 4 = i * 4 by omega, q0]
  · rw [h.cellAt (0 + i * 4 + 1) (by omega), show 0 + i * 4 + 1 = i * 4 + 1 by omega, q1]
  · rw [h.cellAt (0 + i * 4 + 2) (by omega), show 0 + i * 4 + 2 = i * 4 + 2 by omega, q2]
  · rw [h.cellAt (0 + i * 4 + 3) (by omega), show 0 + i * 4 + 3 = i * 4 + 3 by omega, q3]
theorem owns_same {w w' : World} {B : Nat} {e : TypeId} {size : Nat} {v : Value} {n : Nat} {xs : List Value} (h : w.ownsRow B e size v n xs) (hs : ∀ k, v.ownBlock = some k → w'.heap[k]? = w.heap[k]?) : w'.ownsRow B e size v n xs := by
  obtain ⟨h1, h2⟩ := h
  refine ⟨h1, ?_⟩
  rcases h2 with h2 | ⟨g, cap, cur, e, hB, hg, r⟩
  · exact .inl h2
  · exact .inr ⟨g, cap, cur, e, hB, (hs g (by rw [e]; rfl)).trans hg, r⟩
theorem src_same {w w' : World} {b : Nat} {a : Option Addr} {len cap : Nat} {x s : Int} (h : Src w b a len cap x s) (e : w'.heap[b]? = w.heap[b]?) (hz : w.heap.size ≤ w'.heap.size) : Src w' b a len cap x s := by
  obtain ⟨s0, s1, s2, f1, f2, sb, r⟩ := h
  exact ⟨(World.cell?_of_block (w := w) (a := ⟨b, 0, none⟩) e).trans s0, (World.cell?_of_block (w := w) (a := ⟨b, 1, none⟩) e).trans s1, (World.cell?_of_block (w := w) (a := ⟨b, 2, none⟩) e).trans s2, (World.frozen?_of_block (w := w) (a := ⟨b, 1, none⟩) e).trans f1, (World.frozen?_of_block (w := w) (a := ⟨b, 2, none⟩) e).trans f2, Nat.lt_of_lt_of_le sb hz, r⟩
/-- The source in block b, the tenders drawn so far in a row of their own. -/
def TdSt (w : World) (b : Nat) (a : Option Addr) (len cap : Nat) (v : Value) (rs : List RTd) (at' sd : Int) (wr : World) : Prop :=
  wr.ownsRow (b + 1) 47 4 v rs.length (tdCells rs) ∧ b + 1 ≤ wr.heap.size ∧ Src wr b a len cap at' sd ∧ Below b w wr
theorem TdSt.draw {w : World} {b : Nat} {a : Option Addr} {len cap : Nat} {v : Value} {rs : List RTd} {at' sd at2 sd2 : Int} {wr w' : World} (h : TdSt w b a len cap v rs at' sd wr) (ha : Apt b wr w') (hb : Below b wr w') (hs : Src w' b a len cap at2 sd2) : TdSt w b a len cap v rs at2 sd2 w' := by
  obtain ⟨h1, h2, h3, h4⟩ := h
  exact ⟨owns_same h1 (fun k hk => ha k (by have := (h1.lt k hk).1; omega)), Nat.le_trans h2 hb.size, hs, h4.trans hb⟩
theorem TdSt.alloc {w : World} {b : Nat} {a : Option Addr} {len cap : Nat} {v : Value} {rs : List RTd} {at' sd : Int} {wr : World} (h : TdSt w b a len cap v rs at' sd wr) (o : Obj) : TdSt w b a len cap v rs at' sd (wr.alloc o) := by
  obtain ⟨h1, h2, h3, h4⟩ := h
  exact ⟨h1.alloc _, by simp; omega, src_same h3 (Below.heap_alloc _ _ _ h3.2.2.2.2.2.1) (by simp), h4.alloc (by omega) _⟩
theorem TdSt.set {w : World} {b : Nat} {a : Option Addr} {len cap : Nat} {v : Value} {rs : List RTd} {at' sd : Int} {wr : World} (h : TdSt w b a len cap v rs at' sd wr) (pb o : Nat) (u : Value) (h1 : b < pb) (h2 : v.ownBlock ≠ some pb) : TdSt w b a len cap v rs at' sd (wr.setCell ⟨pb, o, none⟩ u) := by
  obtain ⟨q1, q2, q3, q4⟩ := h
  have hk : ∀ k, k ≠ pb → (wr.setCell ⟨pb, o, none⟩ u).heap[k]? = wr.heap[k]? := fun k hk => Below.heap_setCell _ _ _ _ hk
  exact ⟨owns_same q1 (fun k hk' => hk k (fun e => h2 (e ▸ hk'))), by rw [World.size_setCell]; exact q2, src_same q3 (hk b (by omega)) (by rw [World.size_setCell]; exact Nat.le_refl _), q4.setCell (show b ≤ pb by omega) _⟩
theorem TdSt.push {w : World} {b : Nat} {a : Option Addr} {len cap : Nat} {v : Value} {rs : List RTd} {at' sd : Int} {wr w' : World} {g cp : Nat} {r : RTd} (h : TdSt w b a len cap v rs at' sd wr)
    (ho : w'.ownsRow (b + 1) 47 4 (.slice (some ⟨g, 0, none⟩) (rs.length + 1) cp) (rs.length + 1) (tdCells rs ++ [.int .i64 r.kd, .int .i64 r.am, .int .i64 r.n, .int .i64 r.d])) (hg : wr.grownBy w' v.ownBlock) : TdSt w b a len cap (.slice (some ⟨g, 0, none⟩) (rs.length + 1) cp) (rs ++ [r]) at' sd w' := by
  obtain ⟨q1, q2, q3, q4⟩ := h
  refine ⟨?_, Nat.le_trans q2 hg.size, src_same q3 (hg.block b q3.2.2.2.2.2.1 (fun e => by have := (q1.lt b e.symm).1; omega)) hg.size, q4.grown hg (by omega) (fun k hk => by have := (q1.lt k hk).1; omega)⟩
  rw [List.length_append, tdCells_append]; exact ho
theorem TdSt.start {w0 w : World} {b : Nat} {a : Option Addr} {len cap : Nat} {at' sd : Int} (hs : Src w b a len cap at' sd) (hb : Below b w0 w) : TdSt w0 b a len cap (.slice (some ⟨w.heap.size, 0, none⟩) 0 0) [] at' sd (w.alloc (Obj.cells #[] 47)) := by
  have hl := hs.2.2.2.2.2.1
  exact ⟨⟨rfl, .inr ⟨w.heap.size, 0, #[], rfl, hl, heapNew w _, Nat.le_refl _, by unfold maxLen; omega, rfl, rfl⟩⟩, by simp; omega, src_same hs (Below.heap_alloc _ _ _ hl) (by simp), hb.alloc (by omega) _⟩
theorem tdInf : (Try.prog.info? 47).map (fun i => (i.zero, i.size, i.bytes)) = some (some (.agg #[.int .i64 0, .int .i64 0, .int .i64 0, .int .i64 0]), 4, 32) := by kernel_rfl
theorem one4 (x0 x1 x2 x3 : Int) : ∀ u ∈ [Value.int .i64 x0, .int .i64 x1, .int .i64 x2, .int .i64 x3], u.oneCell' = true := by
  intro u hu
  simp at hu
  rcases hu with rfl | rfl | rfl | rfl <;> rfl
/-- What TendersOf answers. -/
def TdPost (w : World) (e : Ending) (w' : World) : Prop := ∃ (rs : List RTd) (g cp : Nat) (t : Int), e = .returned (.tuple #[.slice (some ⟨g, 0, none⟩) rs.length cp, .int .i64 t]) ∧ rs.length ≤ 5 ∧ TdsAt w' g 0 rs ∧ g < w'.heap.size ∧ (0 ≤ t ∧ t < 2500) ∧ Below w.heap.size w w'

set_option maxHeartbeats 4000000 in
set_option maxRecDepth 4000 in
theorem tendersOf_any (a : Option Addr) (len cap : Nat) (zs : List Int) (w : World) (hr : RowB w.heap.size w a len zs) :
    Calls Try.prog 13 #[.slice a len cap] w (TdPost w) := by
  have hsrc := source_any a len cap w hr.1
  obtain ⟨b, hb⟩ : ∃ b, b = w.heap.size := ⟨_, rfl⟩
  rw [← hb] at hsrc hr
  have HNx : Hid (∀ W (n at' sd : Int), Below b w W → Src W b a len cap at' sd → at' ≤ 1000 → n ≤ 10000 → Calls Try.prog 18 #[.pointer (some ⟨b, 0, none⟩), .int .i64 n] W fun e w' => ∃ x at2 s' : Int, e = .returned (.int .i64 x) ∧ Drawn x n ∧ at' ≤ at2 ∧ at2 ≤ at' + 3 ∧ Src w' b a len cap at2 s' ∧ Below b W w' ∧ Apt b W w') := fun W n at' sd hW hs h1 h2 => next_anyB b b a len cap zs n at' sd W (Nat.le_refl _) hs (hr.below hW) (by omega) (by omega)
  have HBw : Hid (b = w.heap.size) := hb
  obtain ⟨i0, hi, hzz⟩ := Option.map_eq_some_iff.1 tdInf
  simp only [Prod.mk.injEq] at hzz
  obtain ⟨hi0, hi1, hi2⟩ := hzz
  clear hr hb
  go_enter Try.func13, Try.ntmps13
  go_wp2_with fail
  (first | go_at_call 16 | skip)
  refine hsrc.mono ?_
  rintro e w1 ⟨s1, rfl, hs1, hb1⟩
  have H1 : Hid (TdSt w b a len cap (.slice (some ⟨w1.heap.size, 0, none⟩) 0 0) [] 0 s1 (w1.alloc (Obj.cells #[] 47))) := TdSt.start hs1 hb1
  clear hs1 hb1 hsrc
  go_wp2_with fail
  (first | go_at_call 18 | skip)
  refine (HNx.out _ 6 0 s1 H1.out.2.2.2 H1.out.2.2.1 (by omega) (by omega)).mono ?_
  rintro e w2 ⟨x0, a2, s2, rfl, ⟨hx0, hx1⟩, ha2, hb2, hs2, hb2', hf2⟩
  have H2 : Hid (TdSt w b a len cap (.slice (some ⟨w1.heap.size, 0, none⟩) 0 0) [] a2 s2 w2) := H1.out.draw hf2 hb2' hs2
  clear hs2 hb2' hf2 H1
  go_wp2
  go_loopw [5, 6] (fun v x wr => ∃ (rs : List RTd) (i at' sd : Int) (g cp : Nat), x = .int .i64 i ∧ v = .slice (some ⟨g, 0, none⟩) rs.length cp ∧ 0 ≤ i ∧ (rs.length : Int) + i ≤ 5 ∧ at' ≤ 200 - 20 * i ∧ TdSt w b a len cap v rs at' sd wr) (fun _ x _ => (intOf x).toNat)
  case atStart => exact ⟨[], x0, a2, s2, w1.heap.size, 0, rfl, rfl, hx0, by simp; omega, by omega, H2.out⟩
  case round =>
    obtain ⟨rs, i, at', sd, g, cp, rfl, rfl, hi9, hln, hat, hst⟩ := hrel
    have HS : Hid (TdSt w b a len cap (.slice (some ⟨g, 0, none⟩) rs.length cp) rs at' sd wr) := hst
    clear hst H2
    by_cases hpos : 0 < i
    · go_wp2_with fail
      (first | go_at_call 18 | skip)
      refine (HNx.out _ 4 at' sd HS.out.2.2.2 HS.out.2.2.1 (by omega) (by omega)).mono ?_
      rintro e w3 ⟨x3, a3, s3, rfl, ⟨hx30, hx31⟩, ha3, hb3, hs3, hb3', hf3⟩
      have H3 : Hid (TdSt w b a len cap (.slice (some ⟨g, 0, none⟩) rs.length cp) rs a3 s3 w3) := HS.out.draw hf3 hb3' hs3
      clear hs3 hb3' hf3 HS
      go_wp2_with fail
      (first | go_at_call 18 | skip)
      refine (HNx.out _ 900 a3 s3 H3.out.2.2.2 H3.out.2.2.1 (by omega) (by omega)).mono ?_
      rintro e w4 ⟨x4, a4, s4, rfl, ⟨hx40, hx41⟩, ha4, hb4, hs4, hb4', hf4⟩
      have H4 : Hid (TdSt w b a len cap (.slice (some ⟨g, 0, none⟩) rs.length cp) rs a4 s4 w4) := H3.out.draw hf4 hb4' hs4
      clear hs4 hb4' hf4 H3
      have hgl : g < w4.heap.size := (H4.out.1.lt g rfl).2
      have hbl : b < w4.heap.size := H4.out.2.1
      by_cases hx3 : x3 = 3
      · subst hx3
        have H5 : Hid (TdSt w b a len cap (.slice (some ⟨g, 0, none⟩) rs.length cp) rs a4 s4 (w4.alloc (Obj.cells #[.int .i64 4, .int .i64 (1 + x4), .int .i64 0, .int .i64 0] 47))) := H4.out.alloc _
        have hb5 : (w4.alloc (Obj.cells #[.int .i64 4, .int .i64 (1 + x4), .int .i64 0, .int .i64 0] 47)).heap[w4.heap.size]? = some (.cells #[.int .i64 4, .int .i64 (1 + x4), .int .i64 0, .int .i64 0] 47 (0, 0)) := heapNew w4 _
        have HT5 : Hid ((w4.alloc (Obj.cells #[.int .i64 4, .int .i64 (1 + x4), .int .i64 0, .int .i64 0] 47)).heap[w4.heap.size]? = some (.cells #[.int .i64 4, .int .i64 (1 + x4), .int .i64 0, .int .i64 0] 47 (0, 0))) := hb5
        clear H4 hb5
        go_wp2_with fail
        (first | go_at_call 18 | skip)
        refine (HNx.out _ 90 a4 s4 H5.out.2.2.2 H5.out.2.2.1 (by omega) (by omega)).mono ?_
        rintro e w6 ⟨x6, a6, s6, rfl, ⟨hx60, hx61⟩, ha6, hb6, hs6, hb6', hf6⟩
        have H6 : Hid (TdSt w b a len cap (.slice (some ⟨g, 0, none⟩) rs.length cp) rs a6 s6 w6) := H5.out.draw hf6 hb6' hs6
        have HT6 : Hid (w6.heap[w4.heap.size]? = some (.cells #[.int .i64 4, .int .i64 (1 + x4), .int .i64 0, .int .i64 0] 47 (0, 0))) := (hf6 w4.heap.size (by omega)).trans HT5.out
        clear hs6 hb6' hf6 H5 HT5
        generalize w4.heap.size = tb at *
        go_wp2_with fail
        (first | go_at_call 18 | skip)
        refine (HNx.out _ 90 a6 s6 H6.out.2.2.2 H6.out.2.2.1 (by omega) (by omega)).mono ?_
        rintro e w7 ⟨x7, a7, s7, rfl, ⟨hx70, hx71⟩, ha7, hb7, hs7, hb7', hf7⟩
        have H7 : Hid (TdSt w b a len cap (.slice (some ⟨g, 0, none⟩) rs.length cp) rs a7 s7 w7) := H6.out.draw hf7 hb7' hs7
        have hT7 : w7.heap[tb]? = some (.cells #[.int .i64 4, .int .i64 (1 + x4), .int .i64 0, .int .i64 0] 47 (0, 0)) := (hf7 tb (by omega)).trans HT6.out
        clear hs7 hb7' hf7 H6 HT6
        have m0 : w7.cell? ⟨tb, 0, none⟩ = some (.int .i64 4) := by simp [World.cell?, hT7]
        have m1 : w7.cell? ⟨tb, 1, none⟩ = some (.int .i64 (1 + x4)) := by simp [World.cell?, hT7]
        have m2 : w7.cell? ⟨tb, 2, none⟩ = some (.int .i64 0) := by simp [World.cell?, hT7]
        have m3 : w7.cell? ⟨tb, 3, none⟩ = some (.int .i64 0) := by simp [World.cell?, hT7]
        have f2 : w7.frozen? ⟨tb, 2, none⟩ = false := by simp [World.frozen?, hT7]
        have f3 : w7.frozen? ⟨tb, 3, none⟩ = false := by simp [World.frozen?, hT7]
        clear hT7
        have H8 : Hid (TdSt w b a len cap (.slice (some ⟨g, 0, none⟩) rs.length cp) rs a7 s7 ((w7.setCell ⟨tb, 2, none⟩ (.int .i64 x6)).setCell ⟨tb, 3, none⟩ (.int .i64 (1 + x7)))) := (H7.out.set tb 2 _ hbl (by simp [Value.ownBlock]; omega)).set tb 3 _ hbl (by simp [Value.ownBlock]; omega)
        clear H7
        have hsz : ((w7.setCell ⟨tb, 2, none⟩ (.int .i64 x6)).setCell ⟨tb, 3, none⟩ (.int .i64 (1 + x7))).heap.size = w7.heap.size := by rw [World.size_setCell, World.size_setCell]
        go_wp2_with (at_builtin; refine wpList_append_lies _ rfl _ _ 37 rfl (b + 1) 47 i0 (.agg #[.int .i64 0, .int .i64 0, .int .i64 0, .int .i64 0]) 4 32 Try.underlying37 hi hi0 hi1 hi2 rfl (by decide) _ _ _ rfl (H8.out.alloc _).1 ⟨w7.heap.size, 0, none⟩ 1 1 [.int .i64 4, .int .i64 (1 + x4), .int .i64 x6, .int .i64 (1 + x7)] rfl rfl (by have := World.news_of_block (heapNew ((w7.setCell ⟨tb, 2, none⟩ (.int .i64 x6)).setCell ⟨tb, 3, none⟩ (.int .i64 (1 + x7))) (Obj.cells #[.int .i64 4, .int .i64 (1 + x4), .int .i64 x6, .int .i64 (1 + x7)] 47)); rw [hsz] at this; exact this) (one4 _ _ _ _) (by omega) (by unfold maxLen; omega) (by omega) (H8.out.alloc _).2.1 _ rfl ?_; intro g1 cp1 w9 hown1 hgrow1 hat1 hglt1; have HF : Hid (TdSt w b a len cap (.slice (some ⟨g1, 0, none⟩) (rs.length + 1) cp1) (rs ++ [⟨4, 1 + x4, x6, 1 + x7⟩]) a7 s7 w9) := (H8.out.alloc _).push (r := ⟨4, 1 + x4, x6, 1 + x7⟩) hown1 hgrow1; clear hown1 hgrow1 hat1 hglt1)
        refine ⟨⟨rs ++ [⟨4, 1 + x4, x6, 1 + x7⟩], i - 1, a7, s7, g1, cp1, by go_num, by simp, by omega, by simp; omega, by omega, ?_⟩, by simp [intOf]; omega⟩
        exact HF.out
      · have hx3' : ((1 + x3) == 4) = false := by simp; omega
        have H5 : Hid (TdSt w b a len cap (.slice (some ⟨g, 0, none⟩) rs.length cp) rs a4 s4 (w4.alloc (Obj.cells #[.int .i64 (1 + x3), .int .i64 (1 + x4), .int .i64 0, .int .i64 0] 47))) := H4.out.alloc _
        have hsz : (w4.alloc (Obj.cells #[.int .i64 (1 + x3), .int .i64 (1 + x4), .int .i64 0, .int .i64 0] 47)).heap.size = w4.heap.size + 1 := by simp
        clear H4
        go_wp2_with (at_builtin; refine wpList_append_lies _ rfl _ _ 37 rfl (b + 1) 47 i0 (.agg #[.int .i64 0, .int .i64 0, .int .i64 0, .int .i64 0]) 4 32 Try.underlying37 hi hi0 hi1 hi2 rfl (by decide) _ _ _ rfl (H5.out.alloc _).1 ⟨w4.heap.size + 1, 0, none⟩ 1 1 [.int .i64 (1 + x3), .int .i64 (1 + x4), .int .i64 0, .int .i64 0] rfl rfl (by have := World.news_of_block (heapNew (w4.alloc (Obj.cells #[.int .i64 (1 + x3), .int .i64 (1 + x4), .int .i64 0, .int .i64 0] 47)) (Obj.cells #[.int .i64 (1 + x3), .int .i64 (1 + x4), .int .i64 0, .int .i64 0] 47)); rw [hsz] at this; exact this) (one4 _ _ _ _) (by omega) (by unfold maxLen; omega) (by omega) (H5.out.alloc _).2.1 _ rfl ?_; intro g1 cp1 w9 hown1 hgrow1 hat1 hglt1; have HF : Hid (TdSt w b a len cap (.slice (some ⟨g1, 0, none⟩) (rs.length + 1) cp1) (rs ++ [⟨1 + x3, 1 + x4, 0, 0⟩]) a4 s4 w9) := (H5.out.alloc _).push (r := ⟨1 + x3, 1 + x4, 0, 0⟩) hown1 hgrow1; clear hown1 hgrow1 hat1 hglt1)
        refine ⟨⟨rs ++ [⟨1 + x3, 1 + x4, 0, 0⟩], i - 1, a4, s4, g1, cp1, by go_num, by simp, by omega, by simp; omega, by omega, ?_⟩, by simp [intOf]; omega⟩
        exact HF.out
    · have hi00 : i = 0 := by omega
      subst hi00
      go_wp2_with fail
      (first | go_at_call 18 | skip)
      refine (HNx.out _ 2500 at' sd HS.out.2.2.2 HS.out.2.2.1 (by omega) (by omega)).mono ?_
      rintro e w3 ⟨x3, a3, s3, rfl, ⟨hx30, hx31⟩, ha3, hb3, hs3, hb3', hf3⟩
      have H3 : Hid (TdSt w b a len cap (.slice (some ⟨g, 0, none⟩) rs.length cp) rs a3 s3 w3) := HS.out.draw hf3 hb3' hs3
      clear hs3 hb3' hf3 HS
      go_wp2
      go_ret2
      refine ⟨rs, g, cp, x3, rfl, by omega, tds_of_row H3.out.1, (H3.out.1.lt g rfl).2, by omega, ?_⟩
      rw [← HBw.out]; exact H3.out.2.2.2
end Go.Proofs.Ytgkbfkdokknedaa

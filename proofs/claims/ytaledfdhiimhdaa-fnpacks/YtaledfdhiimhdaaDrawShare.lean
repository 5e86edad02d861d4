/-
  The specification's WeightsOf: of every list of bytes it draws weights that are right, not all 0.
-/
import Derived.Test.YtaledfdhiimhdaaSrcSize
import Derived.Test.YtaledfdhiimhdaaRow1
namespace Go.Proofs.Ytaledfdhiimhdaa
open Go.ChangeShapes Go.WideShapes Go.ChangeAt Go.RowKit
set_option linter.unusedVariables false

/-- v is a row of its own, behind block b, whose numbers are L. -/
def OneB (w : World) (b : Nat) (v : Value) (L : List Int) (wr : World) : Prop :=
  wr.ownsRow (b + 1) 3 1 v L.length (L.map (Value.int .i64)) ∧ b + 1 ≤ wr.heap.size ∧ Below b w wr
theorem OneB.alloc {w : World} {b : Nat} {v : Value} {L : List Int} {wr : World} (h : OneB w b v L wr) (o : Obj) : OneB w b v L (wr.alloc o) :=
  ⟨h.1.alloc _, by have := h.2.1; simp; omega, h.2.2.alloc (by have := h.2.1; omega) _⟩
theorem OneB.apt {w : World} {b : Nat} {v : Value} {L : List Int} {wr w' : World} (h : OneB w b v L wr) (ha : Apt b wr w') (hb : Below b wr w') : OneB w b v L w' := by
  obtain ⟨⟨h1, h2⟩, h3, h4⟩ := h
  refine ⟨⟨h1, ?_⟩, Nat.le_trans h3 hb.size, h4.trans hb⟩
  rcases h2 with h2 | ⟨g, cap, cur, e, hB, hg, r⟩
  · exact .inl h2
  · exact .inr ⟨g, cap, cur, e, hB, (ha g (by omega)).trans hg, r⟩
theorem OneB.push {w : World} {b : Nat} {v : Value} {L : List Int} {wr w' : World} {g cp : Nat} {x : Int} (h : OneB w b v L wr)
    (ho : w'.ownsRow (b + 1) 3 1 (.slice (some ⟨g, 0, none⟩) (L.length + 1) cp) (L.length + 1) (L.map (Value.int .i64) ++ [.int .i64 x])) (hg : wr.grownBy w' v.ownBlock) : OneB w b (.slice (some ⟨g, 0, none⟩) (L.length + 1) cp) (L ++ [x]) w' := by
  obtain ⟨h1, h4, h5⟩ := h
  refine ⟨?_, Nat.le_trans h4 hg.size, h5.grown hg (by omega) (fun q hq => by have := (h1.lt q hq).1; omega)⟩
  rw [List.length_append, List.map_append]; exact ho
/-- .. and what the source holds stays. -/
theorem Src.grown {w w' : World} {b : Nat} {a : Option Addr} {len cap : Nat} {x s : Int} {v : Value} {row : Option Nat} (h : Src w b a len cap x s) (hg : w.grownBy w' row) (hr : ∀ k, row = some k → k ≠ b) : Src w' b a len cap x s := by
  have hb := h.2.2.2.2.2.1
  have e : w'.heap[b]? = w.heap[b]? := hg.block b hb (fun e => hr b e.symm rfl)
  obtain ⟨h0, h1, h2, f1, f2, _, r⟩ := h
  exact ⟨(World.cell?_of_block (w := w) (a := ⟨b, 0, none⟩) e).trans h0, (World.cell?_of_block (w := w) (a := ⟨b, 1, none⟩) e).trans h1, (World.cell?_of_block (w := w) (a := ⟨b, 2, none⟩) e).trans h2, (World.frozen?_of_block (w := w) (a := ⟨b, 1, none⟩) e).trans f1, (World.frozen?_of_block (w := w) (a := ⟨b, 2, none⟩) e).trans f2, Nat.lt_of_lt_of_le hb hg.size, r⟩
theorem Src.alloc {w : World} {b : Nat} {a : Option Addr} {len cap : Nat} {x s : Int} (h : Src w b a len cap x s) (o : Obj) : Src (w.alloc o) b a len cap x s := h.grown (v := undef) (World.grownBy_alloc w o none) (fun k hk => by cases hk)
theorem OneB.fresh {w wr : World} {b : Nat} {x : Int} (hb : b < wr.heap.size) (hw : Below b w wr) : OneB w b (.slice (some ⟨wr.heap.size, 0, none⟩) 1 1) [x] (wr.alloc (Obj.cells #[.int .i64 x] 3)) :=
  ⟨⟨rfl, .inr ⟨wr.heap.size, 1, #[.int .i64 x], rfl, hb, heapNew wr _, Nat.le_refl _, by unfold maxLen; omega, rfl, rfl⟩⟩, by simp; omega, hw.alloc (by omega) _⟩

def WtPost (w : World) (e : Ending) (w' : World) : Prop := ∃ (L : List Int) (g cp : Nat), e = .returned (.slice (some ⟨g, 0, none⟩) L.length cp) ∧ 1 ≤ L.length ∧ L.length ≤ 11 ∧ (∀ x ∈ L, 0 ≤ x ∧ x ≤ 30) ∧ 1 ≤ L.sum ∧ Own2 w.heap.size w' (some ⟨g, 0, none⟩) L ∧ Below w.heap.size w w'

set_option maxHeartbeats 4000000 in
set_option maxRecDepth 4000 in
theorem weightsOf_any (a : Option Addr) (len cap : Nat) (zs : List Int) (w : World) (hr : RowB w.heap.size w a len zs) :
    Calls Try.prog 7 #[.slice a len cap] w (WtPost w) := by
  have hl := hr.1
  have HR : Hid (RowB w.heap.size w a len zs) := hr
  have hsrc := source_any a len cap w hr.1
  clear hr
  obtain ⟨i0, hi, hzz⟩ := Option.map_eq_some_iff.1 intInfo1
  simp only [Prod.mk.injEq] at hzz
  obtain ⟨hi0, hi1, hi2⟩ := hzz
  have hnx : ∀ (n at' seed : Int) (w' : World), Src w' w.heap.size a len cap at' seed → Below w.heap.size w w' → at' ≤ 1000000 → n ≤ 256 → Calls Try.prog 23 #[.pointer (some ⟨w.heap.size, 0, none⟩), .int .i64 n] w' fun e w'' => ∃ x at2 s' : Int, e = .returned (.int .i64 x) ∧ Drawn x n ∧ at' ≤ at2 ∧ at2 ≤ at' + 3 ∧ Src w'' w.heap.size a len cap at2 s' ∧ Below w.heap.size w' w'' ∧ Apt w.heap.size w' w'' := fun n at' seed w' hs hb h1 h2 => next_anyA w.heap.size w.heap.size a len cap zs n at' seed w' (Nat.le_refl _) hs (HR.out.below hb) (by omega) h2
  have HNx : Hid _ := hnx
  clear hnx
  generalize hBe : w.heap.size = B at *
  have HBe : Hid (w.heap.size = B) := hBe
  clear hBe
  go_enter Try.func7, Try.ntmps7
  go_wp2_with (first
    | (go_at_call 22; refine hsrc.mono ?_; rintro e w1 ⟨s1, rfl, hs1, hb1⟩; have HS1 : Hid (Src w1 B a len cap 0 s1) := hs1; have B1 : Hid (Below B w w1) := hb1; clear hs1 hb1)
    | (go_at_call 23; have G := HO2; refine (HNx.out _ _ _ _ HS2a.out HO2.out.2.2 (by omega) (by omega)).mono ?_; rintro e w3 ⟨x3, a3, s3, rfl, hx3, hl3, hu3, hs3, hb3, ha3⟩; have HS3 : Hid (Src w3 B a len cap a3 s3) := hs3; have HO3 : Hid (OneB w B (.slice (some ⟨w2.heap.size, 0, none⟩) 1 1) [1 + x2] w3) := HO2.out.apt ha3 hb3; clear hs3 hb3 ha3)
    | (go_at_call 24; refine (size_src B a len cap _ _ _ _ HS2a.out hl (by omega) (by omega)).mono ?_; rintro e wq ⟨⟨y, rfl, hy1, hy2⟩, hwq⟩; rw [hwq]; clear hwq)
    | (go_at_call 23; refine (HNx.out _ _ _ _ HS1.out B1.out (by omega) (by omega)).mono ?_; rintro e w2 ⟨x2, a2, s2, rfl, hx2, hl2, hu2, hs2, hb2, ha2⟩; have HS2 : Hid (Src w2 B a len cap a2 s2) := hs2; have B2 : Hid (Below B w w2) := B1.out.trans hb2; obtain ⟨hd0, hd1⟩ := hx2; have HO2 : Hid (OneB w B (.slice (some ⟨w2.heap.size, 0, none⟩) 1 1) [1 + x2] (w2.alloc (Obj.cells #[.int .i64 (1 + x2)] 3))) := OneB.fresh hs2.2.2.2.2.2.1 B2.out; have HS2a : Hid (Src (w2.alloc (Obj.cells #[.int .i64 (1 + x2)] 3)) B a len cap a2 s2) := HS2.out.alloc _; clear hs2 hb2 ha2))
  obtain ⟨hx30, hx31⟩ := hx3
  have HI : Hid (0 ≤ x3 ∧ x3 ≤ 9 ∧ a3 ≤ 6 ∧ 0 ≤ x2 ∧ x2 ≤ 9) := ⟨hx30, by omega, by omega, hd0, by omega⟩
  clear hx30 hx31 hd0 hd1 hl2 hu2 hl3 hu3 hy1 hy2 HS2 HS2a HO2 B2 HS1 B1
  go_loopw [4, 5] (fun v c wr => ∃ (L : List Int) (g cp : Nat) (i at' sd : Int), v = .slice (some ⟨g, 0, none⟩) L.length cp ∧ c = .int .i64 i ∧ 0 ≤ i ∧ (L.length : Int) + i ≤ 10 ∧ 1 ≤ L.length ∧ at' + 3 * i ≤ 60 ∧ (∀ x ∈ L, 0 ≤ x ∧ x ≤ 30) ∧ 1 ≤ L.sum ∧ OneB w B (.slice (some ⟨g, 0, none⟩) L.length cp) L wr ∧ Src wr B a len cap at' sd) (fun _ c _ => (intOf c).toNat)
  case atStart => exact ⟨[1 + x2], w2.heap.size, 1, x3, a3, s3, rfl, rfl, HI.out.1, by have := HI.out; simp; omega, by simp, by have := HI.out; omega, by have := HI.out; simp; omega, by have := HI.out; simp; omega, HO3.out, HS3.out⟩
  case round =>
    clear HO3 HS3 HI
    obtain ⟨L, g, cp, i, at', sd, rfl, rfl, hi0', hil, hL1, hat, hbd, hsum, hO, hS⟩ := hrel
    have HO : Hid (OneB w B (.slice (some ⟨g, 0, none⟩) L.length cp) L wr) := hO
    have HS : Hid (Src wr B a len cap at' sd) := hS
    have HBd : Hid ((∀ x ∈ L, 0 ≤ x ∧ x ≤ 30) ∧ 1 ≤ L.sum) := ⟨hbd, hsum⟩
    have hat0 : 0 ≤ at' := hS.2.2.2.2.2.2.1
    clear hO hS hbd hsum
    by_cases hz : i = 0
    · subst hz
      go_wp2
      go_ret
      refine ⟨L, g, cp, rfl, hL1, by omega, HBd.out.1, HBd.out.2, ?_, HBe.out ▸ HO.out.2.2⟩
      obtain ⟨g', cap', he, hB, hlt⟩ := HO.out.1.form (by omega)
      simp at he
      obtain ⟨rfl, rfl⟩ := he
      have hsz := HBe.out
      exact .inr ⟨g, rfl, by omega, hlt, fun j hj => by rw [Nat.zero_add, HO.out.1.cellAt j (by omega)]; simp [List.getD_eq_getElem?_getD, hj], fun j hj => by rw [Nat.zero_add]; exact HO.out.1.frozenAt j⟩
    · have hpos : 1 ≤ i := by omega
      clear hz
      go_wp2_with (first
        | (go_at_call 23; refine (HNx.out _ _ _ _ HS.out HO.out.2.2 (by omega) (by omega)).mono ?_; rintro e w3 ⟨x3, a3, s3, rfl, ⟨hx0, hx1⟩, hl3, hu3, hs3, hb3, ha3⟩; have HS3 : Hid (Src w3 B a len cap a3 s3) := hs3; have HO3 : Hid (OneB w B (.slice (some ⟨g, 0, none⟩) L.length cp) L w3) := HO.out.apt ha3 hb3; clear hs3 hb3 ha3)
        | (at_builtin; refine wpList_append_lies _ rfl _ _ 23 rfl (B + 1) 3 i0 (.int .i64 0) 1 8 Try.underlying23 hi hi0 hi1 hi2 rfl (by decide) _ _ _ rfl (HO3.out.alloc _).1 ⟨w3.heap.size, 0, none⟩ 1 1 [.int .i64 x3] rfl rfl (newsOne w3 _ _) (by intro u hu; simp at hu; subst hu; rfl) (by omega) (by unfold maxLen; omega) (by omega) (HO3.out.alloc _).2.1 _ rfl ?_; intro g1 cp1 w4 hown1 hgrow1 hat1 hglt1; have HO4 : Hid (OneB w B (.slice (some ⟨g1, 0, none⟩) (L.length + 1) cp1) (L ++ [x3]) w4) := (HO3.out.alloc _).push hown1 hgrow1; have HS4 : Hid (Src w4 B a len cap a3 s3) := (HS3.out.alloc _).grown (v := undef) hgrow1 (fun k hk => by have := ((HO3.out.alloc (Obj.cells #[.int .i64 x3] 3)).1.lt k hk).1; omega)))
      have e : (L ++ [x3]).length = L.length + 1 := by simp
      refine ⟨⟨L ++ [x3], g1, cp1, i - 1, a3, s3, ?_⟩, by simp [intOf]; omega⟩
      rw [e]
      refine ⟨rfl, rfl, by omega, by omega, by omega, by omega, ?_, ?_, HO4.out, HS4.out⟩
      · intro x hx
        rcases List.mem_append.mp hx with h | h
        · exact HBd.out.1 x h
        · simp at h; subst h; omega
      · rw [List.sum_append]; have := HBd.out.2; simp; omega
end Go.Proofs.Ytaledfdhiimhdaa

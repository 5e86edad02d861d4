/-
  What is drawn out of a source of bytes: numbers in a row of their own; the specification's drawn percents are right ones.
-/
import Derived.Test.YtlcnhkhkhlpghaaMqB
import Derived.Test.YtlcnhkhkhlpghaaSrc
import Derived.Test.YtlcnhkhkhlpghaaSrcApt
import Derived.Test.YtlcnhkhkhlpghaaSrcSize
import Derived.Test.YtlcnhkhkhlpghaaMark0
namespace Go.Proofs.Ytlcnhkhkhlpghaa
open Go.ChangeShapes Go.WideShapes Go.ChangeAt Go.RowKit Go.Deep
set_option linter.unusedVariables false

theorem Src.allocT {w : World} {b : Nat} {a : Option Addr} {len cap : Nat} {x s : Int} (h : Src w b a len cap x s) (o : Obj) : Src (w.alloc o) b a len cap x s := by
  obtain ⟨h0, h1, h2, f1, f2, hb, r⟩ := h
  have hB := below_alloc w o
  exact ⟨(hB.cell (p := ⟨b, 0, none⟩) hb).trans h0, (hB.cell (p := ⟨b, 1, none⟩) hb).trans h1, (hB.cell (p := ⟨b, 2, none⟩) hb).trans h2, (hB.frozen (p := ⟨b, 1, none⟩) hb).trans f1, (hB.frozen (p := ⟨b, 2, none⟩) hb).trans f2, Nat.lt_of_lt_of_le hb hB.size, r⟩
theorem Apt.apart {b : Nat} {w w' : World} (h : Apt b w w') (hb : Below b w w') : Apart b w w' := ⟨hb.size, fun k hk _ => h k hk⟩
theorem Apart.trans {b : Nat} {w w' w'' : World} (h : Apart b w w') (k : Apart b w' w'') : Apart b w w'' := ⟨Nat.le_trans h.1 k.1, fun c hc hl => (k.2 c hc (Nat.lt_of_lt_of_le hl h.1)).trans (h.2 c hc hl)⟩
theorem apart_alloc (b : Nat) (w : World) (o : Obj) : Apart b w (w.alloc o) := ⟨by simp, fun k _ hl => Below.heap_alloc _ _ _ hl⟩
theorem ownsRow_sameW {w w' : World} {B : Nat} {e : TypeId} {size : Nat} {v : Value} {n : Nat} {xs : List Value} (h : w.ownsRow B e size v n xs) (hs : ∀ k, v.ownBlock = some k → w'.heap[k]? = w.heap[k]?) : w'.ownsRow B e size v n xs := by
  obtain ⟨h1, h2⟩ := h
  refine ⟨h1, ?_⟩
  rcases h2 with h2 | ⟨g, cap, cur, e, hB, hg, r⟩
  · exact .inl h2
  · exact .inr ⟨g, cap, cur, e, hB, (hs g (by rw [e]; rfl)).trans hg, r⟩
theorem src_sameW {w w' : World} {b : Nat} {a : Option Addr} {len cap : Nat} {x s : Int} (h : Src w b a len cap x s) (e : w'.heap[b]? = w.heap[b]?) (hz : w.heap.size ≤ w'.heap.size) : Src w' b a len cap x s := by
  obtain ⟨s0, s1, s2, f1, f2, sb, r⟩ := h
  exact ⟨(World.cell?_of_block (w := w) (a := ⟨b, 0, none⟩) e).trans s0, (World.cell?_of_block (w := w) (a := ⟨b, 1, none⟩) e).trans s1, (World.cell?_of_block (w := w) (a := ⟨b, 2, none⟩) e).trans s2, (World.frozen?_of_block (w := w) (a := ⟨b, 1, none⟩) e).trans f1, (World.frozen?_of_block (w := w) (a := ⟨b, 2, none⟩) e).trans f2, Nat.lt_of_lt_of_le sb hz, r⟩
theorem src_ltW {w : World} {b : Nat} {a : Option Addr} {len cap : Nat} {x s : Int} (h : Src w b a len cap x s) : b < w.heap.size := h.2.2.2.2.2.1
theorem later_apart {b : Nat} {w w' : World} (hb : Below w.heap.size w w') : Apart b w w' := ⟨hb.size, fun k _ hl => hb.block k hl⟩
set_option maxHeartbeats 400000 in
theorem next_bigW (B b : Nat) (a : Option Addr) (len cap : Nat) (zs : List Int) (n at' seed : Int) (w : World) (hB : B ≤ b) (hs : Src w b a len cap at' seed) (hr : RowB B w a len zs) (a1 : at' ≤ 999999999000) (h1 : 1 < n) (h2 : 256 < n) (hn : n ≤ 1000000000000) :
    Calls Try.prog 29 #[.pointer (some ⟨b, 0, none⟩), .int .i64 n] w fun e w' => ∃ x at2 s' : Int, e = .returned (.int .i64 x) ∧ Drawn x n ∧ at' ≤ at2 ∧ at2 ≤ at' + 3 ∧ Src w' b a len cap at2 s' ∧ Below B w w' ∧ Apt b w w' := by
  have hbyte := byte_anyA B b a len cap zs at' seed w hB hs hr (by omega)
  have hbyte2 := fun s' w1 (hs1 : Src w1 b a len cap (at' + 1) s') (hb1 : Below B w w1) => byte_anyA B b a len cap zs (at' + 1) s' w1 hB hs1 (hr.below hb1) (by omega)
  have hbyte3 := fun s' w1 (hs1 : Src w1 b a len cap (at' + 1 + 1) s') (hb1 : Below B w w1) => byte_anyA B b a len cap zs (at' + 1 + 1) s' w1 hB hs1 (hr.below hb1) (by omega)
  clear hr
  go_enter Try.func29, Try.ntmps29
  go_wp2_with (first | (go_at_call 50; refine hbyte.mono ?_; rintro e w1 ⟨x, s', rfl, hx0, hx1, hs1, hb1, ha1⟩) | (go_at_call 50; refine (hbyte2 _ _ hs1 hb1).mono ?_; rintro e w2 ⟨y, s2, rfl, hy0, hy1, hs2, hb2, ha2⟩; replace hb2 := hb1.trans hb2; replace ha2 := Apt.trans ha1 ha2) | (go_at_call 50; refine (hbyte3 _ _ hs2 hb2).mono ?_; rintro e w3 ⟨z, s3, rfl, hz0, hz1, hs3, hb3, ha3⟩; replace hb3 := hb2.trans hb3; replace ha3 := Apt.trans ha2 ha3))
  go_ret
  exact ⟨_, _, _, rfl, drawn_mod _ n (by omega) h1, by omega, by omega, hs3, hb3, ha3⟩

/-- The counts drawn so far, in a row behind V's heap. -/
structure FoSt (b : Nat) (a : Option Addr) (len cap : Nat) (V : World) (v : Value) (L : List Int) (at' sd : Int) (wr : World) : Prop where
  ap : Apart b V wr
  low : Below b V wr
  src : Src wr b a len cap at' sd
  row : wr.ownsRow V.heap.size 3 1 v L.length (L.map (.int .i64))
  bv : b < V.heap.size
theorem FoSt.start {b : Nat} {a : Option Addr} {len cap : Nat} {V : World} {at' sd : Int} (hs : Src V b a len cap at' sd) : FoSt b a len cap V (.slice (some ⟨V.heap.size, 0, none⟩) 0 0) [] at' sd (V.alloc (Obj.cells #[] 3)) :=
  ⟨apart_alloc b V _, (Below.refl _ _).alloc (by have := src_ltW hs; omega) _, hs.allocT _, ⟨rfl, .inr ⟨V.heap.size, 0, #[], rfl, Nat.le_refl _, heapNew V _, Nat.le_refl _, by unfold maxLen; omega, rfl, rfl⟩⟩, src_ltW hs⟩
theorem FoSt.step {b : Nat} {a : Option Addr} {len cap : Nat} {V : World} {v : Value} {L : List Int} {at' sd at2 sd2 : Int} {wr w' : World} (h : FoSt b a len cap V v L at' sd wr) (ha : Apart b wr w') (hb : Below b wr w') (hs : Src w' b a len cap at2 sd2) : FoSt b a len cap V v L at2 sd2 w' := by
  have hbv := h.bv
  exact ⟨h.ap.trans ha, h.low.trans hb, hs, ownsRow_sameW h.row (fun k hk => ha.2 k (by have := (h.row.lt k hk).1; omega) (h.row.lt k hk).2), h.bv⟩
theorem FoSt.later {b : Nat} {a : Option Addr} {len cap : Nat} {V : World} {v : Value} {L : List Int} {at' sd : Int} {wr w' : World} (h : FoSt b a len cap V v L at' sd wr) (hb : Below wr.heap.size wr w') : FoSt b a len cap V v L at' sd w' :=
  h.step (later_apart hb) (hb.mono (by have := src_ltW h.src; omega)) (src_sameW h.src (hb.block b (src_ltW h.src)) hb.size)
theorem FoSt.push {b : Nat} {a : Option Addr} {len cap : Nat} {V : World} {v : Value} {L : List Int} {at' sd x : Int} {g c : Nat} {wr w' : World} (h : FoSt b a len cap V v L at' sd wr)
    (ho : w'.ownsRow V.heap.size 3 1 (.slice (some ⟨g, 0, none⟩) (L.length + 1) c) (L.length + 1) (L.map (.int .i64) ++ [.int .i64 x])) (hg : wr.grownBy w' v.ownBlock) : FoSt b a len cap V (.slice (some ⟨g, 0, none⟩) (L.length + 1) c) (L ++ [x]) at' sd w' := by
  have hbv := h.bv
  have hk : ∀ k, k < V.heap.size → w'.heap[k]? = wr.heap[k]? := fun k h1 => hg.block k (by have := h.ap.1; omega) (fun e => by have := (h.row.lt k e.symm).1; omega)
  exact ⟨⟨Nat.le_trans h.ap.1 hg.size, fun k h1 h2 => (hk k h2).trans (h.ap.2 k h1 h2)⟩, h.low.grown hg (by have := h.ap.1; omega) (fun k e => by have := (h.row.lt k e).1; omega), src_sameW h.src (hk b hbv) hg.size, by rw [List.length_append, List.map_append]; exact ho, hbv⟩
theorem chance_ms (B b : Nat) (a : Option Addr) (len cap : Nat) (zs : List Int) (n at' seed : Int) (w : World) (hB : B ≤ b) (hs : Src w b a len cap at' seed) (hr : RowB B w a len zs) (a1 : at' ≤ 1000000) (hn : 1 ≤ n) (hn' : n ≤ 256) :
    Calls Try.prog 28 #[.pointer (some ⟨b, 0, none⟩), .int .i64 n] w fun e w' => ∃ (x : Bool) (at2 s' : Int), e = .returned (.bool x) ∧ at' ≤ at2 ∧ at2 ≤ at' + 3 ∧ Src w' b a len cap at2 s' ∧ Below B w w' ∧ Apt b w w' := by
  have hnx := next_anyA B b a len cap zs n at' seed w hB hs hr (by omega) hn'
  go_enter Try.func28, Try.ntmps28
  go_wp2_with (go_at_call 29; refine hnx.mono ?_; rintro e w1 ⟨x, a2, s2, rfl, hx, h1, h2, h3, h4, h5⟩)
  go_ret
  exact ⟨_, a2, s2, rfl, h1, h2, h3, h4, h5⟩

theorem getD_app {L : List Int} {x : Int} {i : Nat} (h : i < L.length) : (L ++ [x]).getD i 0 = L.getD i 0 := by
  rw [List.getD_eq_getElem?_getD, List.getElem?_append_left h, ← List.getD_eq_getElem?_getD]
theorem getD_end {L : List Int} {x : Int} : (L ++ [x]).getD L.length 0 = x := by simp [List.getD_eq_getElem?_getD]
/-- Percents that rise, all from 0 to 100, the last below hi. -/
def PcG (L : List Int) (hi : Int) : Prop := (∀ k, k < L.length → ahd L k < L.getD k 0 ∧ 0 ≤ L.getD k 0 ∧ L.getD k 0 ≤ 100 ∧ L.getD k 0 < hi)
theorem PcG.push {L : List Int} {at' x : Int} (h : PcG L at') (h0 : 0 ≤ at') (h1 : at' ≤ 100) (hx : at' < x) : PcG (L ++ [at']) x := fun k hk => by
  rw [List.length_append] at hk
  by_cases e : k = L.length
  · subst e
    rw [getD_end]
    refine ⟨?_, h0, h1, hx⟩
    cases hL : L.length with
    | zero => show (-1 : Int) < _; omega
    | succ j =>
      show (L ++ [at']).getD j 0 < _
      rw [getD_app (by omega)]
      exact (h j (by omega)).2.2.2
  · have hk' : k < L.length := by simp at hk; omega
    rw [getD_app hk']
    obtain ⟨a1, a2, a3, a4⟩ := h k hk'
    refine ⟨?_, a2, a3, by omega⟩
    cases k with
    | zero => exact a1
    | succ j =>
      show (L ++ [at']).getD j 0 < _
      rw [getD_app (by omega)]
      exact a1
theorem PcG.ok {L : List Int} {hi : Int} (h : PcG L hi) (h1 : 1 ≤ L.length) (h5 : L.length ≤ 5) : pcB L = true := by
  unfold pcB
  rw [Bool.and_eq_true, inB_iff]
  refine ⟨⟨by omega, by omega⟩, upTo_of fun k hk => ?_⟩
  obtain ⟨a1, a2, a3, _⟩ := h k hk
  unfold pcAt
  rw [Bool.and_eq_true, inB_iff]
  exact ⟨decide_eq_true a1, a2, a3⟩
theorem FoSt.rd {b : Nat} {a : Option Addr} {len cap : Nat} {V : World} {v : Value} {L : List Int} {at' sd : Int} {wr : World} (h : FoSt b a len cap V v L at' sd wr) : b < wr.heap.size := src_ltW h.src
def PcPost (a : Option Addr) (len cap : Nat) (b : Nat) (at0 : Int) (w : World) (e : Ending) (w' : World) : Prop := ∃ (L : List Int) (g cp : Nat) (at' sd : Int), e = .returned (.slice (some ⟨g, 0, none⟩) L.length cp) ∧ (1 ≤ L.length ∧ L.length ≤ 4) ∧ pcB L = true ∧ at' ≤ at0 + 30 ∧ FoSt b a len cap w (.slice (some ⟨g, 0, none⟩) L.length cp) L at' sd w'
set_option maxHeartbeats 4000000 in
theorem percents_any (b : Nat) (a : Option Addr) (len cap : Nat) (zs : List Int) (at0 seed : Int) (w : World) (hs : Src w b a len cap at0 seed) (hr : RowB b w a len zs) (h0 : at0 ≤ 1000) :
    Calls Try.prog 26 #[.pointer (some ⟨b, 0, none⟩)] w (PcPost a len cap b at0 w) := by
  have HR : Hid (RowB b w a len zs) := hr
  have HNx : Hid (∀ (n at' sd : Int) (W : World), n ≤ 256 → at' ≤ 999999999000 → Src W b a len cap at' sd → Below b w W → Calls Try.prog 29 #[.pointer (some ⟨b, 0, none⟩), .int .i64 n] W fun e w' => ∃ x at2 s' : Int, e = .returned (.int .i64 x) ∧ Drawn x n ∧ at' ≤ at2 ∧ at2 ≤ at' + 3 ∧ Src w' b a len cap at2 s' ∧ Below b W w' ∧ Apt b W w') := fun n at' sd W hn ha hS hB => next_anyA b b a len cap zs n at' sd W (Nat.le_refl _) hS (HR.out.below hB) ha hn
  have HT0 : Hid (FoSt b a len cap w (.slice (some ⟨w.heap.size, 0, none⟩) 0 0) [] at0 seed (w.alloc (Obj.cells #[] 3))) := FoSt.start hs
  obtain ⟨i0, hi, hzz⟩ := Option.map_eq_some_iff.1 intInfo
  simp only [Prod.mk.injEq] at hzz
  obtain ⟨hi0, hi1, hi2⟩ := hzz
  clear hs hr
  obtain ⟨G, hG⟩ : ∃ G, G = w.heap.size := ⟨_, rfl⟩
  obtain ⟨W0, hW0⟩ : ∃ W0, W0 = w.alloc (Obj.cells #[] 3) := ⟨_, rfl⟩
  have HW0 : Hid (W0 = w.alloc (Obj.cells #[] 3) ∧ G = w.heap.size) := ⟨hW0, hG⟩
  rw [← hW0, ← hG] at HT0
  clear hW0
  go_enter Try.func26, Try.ntmps26
  go_upto_region 2 with fail
  rw [← HW0.out.1, ← HW0.out.2]
  clear HW0 hG
  go_wp2_with fail
  (first | go_at_call 29 | skip)
  refine (HNx.out 20 at0 seed W0 (by omega) (by omega) HT0.out.src HT0.out.low).mono ?_
  rintro e w1 ⟨x, at1, s1, rfl, hx, q1, q2, hs1, hb1, ha1⟩
  have HT1 : Hid (FoSt b a len cap w (.slice (some ⟨G, 0, none⟩) 0 0) [] at1 s1 w1) := HT0.out.step (ha1.apart hb1) hb1 hs1
  have hx2 : 0 ≤ x ∧ x < 20 := by obtain ⟨u1, u2⟩ := hx; omega
  clear hs1 hb1 ha1 HT0 hx
  go_wp2_with fail
  (first | go_at_call 29 | skip)
  refine (HNx.out 4 at1 s1 w1 (by omega) (by omega) HT1.out.src HT1.out.low).mono ?_
  rintro e w2 ⟨y, at2, s2, rfl, hy, q3, q4, hs2, hb2, ha2⟩
  have HT2 : Hid (FoSt b a len cap w (.slice (some ⟨G, 0, none⟩) 0 0) [] at2 s2 w2) := HT1.out.step (ha2.apart hb2) hb2 hs2
  have hy2 : 0 ≤ y ∧ y < 4 := by obtain ⟨u1, u2⟩ := hy; omega
  clear hs2 hb2 ha2 HT1 hy
  go_wp2_with fail
  go_loopw [3, 4, 5] (fun v av iv wr => ∃ (L : List Int) (g cp : Nat) (p i at' sd : Int), v = .slice (some ⟨g, 0, none⟩) L.length cp ∧ av = .int .i64 p ∧ iv = .int .i64 i ∧ (0 ≤ p ∧ p ≤ 140) ∧ i = y - (L.length : Int) ∧ (L.length : Int) ≤ y + 1 ∧ (L.length = 0 → p ≤ 100) ∧ PcG L p ∧ at' ≤ at0 + 6 + 3 * (L.length : Int) ∧ FoSt b a len cap w (.slice (some ⟨g, 0, none⟩) L.length cp) L at' sd wr) (fun _ _ iv _ => (intOf iv + 1).toNat)
  case atStart => exact ⟨[], G, 0, x, y, at2, s2, rfl, rfl, rfl, ⟨by omega, by omega⟩, by simp, by simp; omega, fun _ => by omega, fun k hk => by simp at hk, by simp; omega, HT2.out⟩
  case round =>
    clear HT2
    obtain ⟨L, g, cp, p, i, at', sd, rfl, rfl, rfl, hp, hie, hLy, hp0, hpc, hat, hT⟩ := hrel
    have HT : Hid (FoSt b a len cap w (.slice (some ⟨g, 0, none⟩) L.length cp) L at' sd wr) := hT
    have HP : Hid (PcG L p) := hpc
    have HP0 : Hid (L.length = 0 → p ≤ 100) := hp0
    have HIe : Hid (i = y - (L.length : Int)) := hie
    clear hT hpc hp0 hie
    by_cases hc : 0 ≤ i ∧ p ≤ 100
    · obtain ⟨hc1, hc2⟩ := hc
      have hcd : decide (p ≤ 100) = true := decide_eq_true hc2
      have HT3 : Hid (FoSt b a len cap w (.slice (some ⟨g, 0, none⟩) L.length cp) L at' sd (wr.alloc (Obj.cells #[.int .i64 p] 3))) := HT.out.later (below_alloc _ _)
      have HNw : Hid (∀ j u, [Value.int .i64 p][j]? = some u → (wr.alloc (Obj.cells #[.int .i64 p] 3)).cell? ((⟨wr.heap.size, 0, none⟩ : Addr).add j) = some u) := World.news_of_block (heapNew wr (Obj.cells #[.int .i64 p] 3))
      have hLs : L.length ≤ 4 := by have := HIe.out; omega
      have HZb : Hid (w.heap.size ≤ (wr.alloc (Obj.cells #[.int .i64 p] 3)).heap.size) := HT3.out.ap.1
      go_upto_region 7 with (at_builtin; refine wpList_append_lies _ rfl _ _ 23 rfl w.heap.size 3 i0 (.int .i64 0) 1 8 Try.underlying23 hi hi0 hi1 hi2 rfl (by decide) _ _ _ rfl HT3.out.row ⟨wr.heap.size, 0, none⟩ 1 1 [.int .i64 p] rfl rfl HNw.out (by intro u hu; simp at hu; rcases hu with rfl; rfl) (by omega) (by unfold maxLen; omega) (by omega) HZb.out _ rfl ?_; intro g1 cp1 w7 hown1 hgrow1 hat1 hglt1; have HT7 : Hid (FoSt b a len cap w (.slice (some ⟨g1, 0, none⟩) (L.length + 1) cp1) (L ++ [p]) at' sd w7) := HT3.out.push hown1 hgrow1; clear hown1 hgrow1 hat1)
      clear HT3 HNw HZb HT
      go_wp2_with fail
      (first | go_at_call 29 | skip)
      refine (HNx.out 30 at' sd w7 (by omega) (by have := HIe.out; omega) HT7.out.src HT7.out.low).mono ?_
      rintro e w8 ⟨z, at8, s8, rfl, hz, q5, q6, hs8, hb8, ha8⟩
      have HT8 : Hid (FoSt b a len cap w (.slice (some ⟨g1, 0, none⟩) (L.length + 1) cp1) (L ++ [p]) at8 s8 w8) := HT7.out.step (ha8.apart hb8) hb8 hs8
      have hz2 : 0 ≤ z ∧ z < 30 := by obtain ⟨u1, u2⟩ := hz; omega
      clear hs8 hb8 ha8 HT7 hz
      have hw1 : IntKind.i64.wrap (5 + z) = 5 + z := wrap_id _ (by omega) (by omega)
      have hw2 : IntKind.i64.wrap (p + (5 + z)) = p + (5 + z) := wrap_id _ (by omega) (by omega)
      have hi3 : i ≤ 3 := by have := HIe.out; omega
      have hw3 : IntKind.i64.wrap (i - 1) = i - 1 := wrap_id _ (by omega) (by omega)
      have hlen : (L ++ [p]).length = L.length + 1 := by simp
      have HLen : Hid ((L ++ [p]).length = L.length + 1) := hlen
      clear hlen
      go_wp2_with fail
      go_roundw
      case rel => exact ⟨L ++ [p], g1, cp1, p + (5 + z), i - 1, at8, s8, by rw [HLen.out], rfl, rfl, ⟨by omega, by omega⟩, by have := HIe.out; rw [HLen.out]; omega, by have := HIe.out; rw [HLen.out]; omega, fun h => by rw [HLen.out] at h; omega, HP.out.push hp.1 hc2 (by omega), by rw [HLen.out]; omega, by rw [HLen.out]; exact HT8.out⟩
      case measure => simp [intOf]; omega
    · have HE : Hid (1 ≤ L.length ∧ L.length ≤ 4) := by
        have h1 := HIe.out
        have h2 := HP0.out
        show _ ∧ _
        omega
      have HOk : Hid (pcB L = true) := HP.out.ok HE.out.1 (by have := HE.out.2; omega)
      by_cases hi' : 0 ≤ i
      · have hc2 : ¬ p ≤ 100 := fun h => hc ⟨hi', h⟩
        have hcd : decide (p ≤ 100) = false := decide_eq_false hc2
        go_wp2_with fail
        go_ret
        exact ⟨L, g, cp, at', sd, rfl, HE.out, HOk.out, by have := HE.out.2; omega, HT.out⟩
      · go_wp2_with fail
        go_ret
        exact ⟨L, g, cp, at', sd, rfl, HE.out, HOk.out, by have := HE.out.2; omega, HT.out⟩
end Go.Proofs.Ytlcnhkhkhlpghaa

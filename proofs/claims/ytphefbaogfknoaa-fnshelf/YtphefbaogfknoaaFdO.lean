/-
  The specification's FacingsOf: right facings, a width, counts in their bounds.
-/
import Derived.Test.YtphefbaogfknoaaFdW
namespace Go.Proofs.Ytphefbaogfknoaa
open Go.ChangeShapes Go.WideShapes Go.ChangeAt Go.RowKit Go.Deep
set_option linter.unusedVariables false

set_option maxHeartbeats 400000 in
theorem next_bigW (B b : Nat) (a : Option Addr) (len cap : Nat) (zs : List Int) (n at' seed : Int) (w : World) (hB : B ≤ b) (hs : Src w b a len cap at' seed) (hr : RowB B w a len zs) (a1 : at' ≤ 999999999000) (h1 : 1 < n) (h2 : 256 < n) (hn : n ≤ 1000000000000) :
    Calls Try.prog 26 #[.pointer (some ⟨b, 0, none⟩), .int .i64 n] w fun e w' => ∃ x at2 s' : Int, e = .returned (.int .i64 x) ∧ Drawn x n ∧ at' ≤ at2 ∧ at2 ≤ at' + 3 ∧ Src w' b a len cap at2 s' ∧ Below B w w' ∧ Apt b w w' := by
  have hbyte := byte_anyA B b a len cap zs at' seed w hB hs hr (by omega)
  have hbyte2 := fun s' w1 (hs1 : Src w1 b a len cap (at' + 1) s') (hb1 : Below B w w1) => byte_anyA B b a len cap zs (at' + 1) s' w1 hB hs1 (hr.below hb1) (by omega)
  have hbyte3 := fun s' w1 (hs1 : Src w1 b a len cap (at' + 1 + 1) s') (hb1 : Below B w w1) => byte_anyA B b a len cap zs (at' + 1 + 1) s' w1 hB hs1 (hr.below hb1) (by omega)
  clear hr
  go_enter Try.func26, Try.ntmps26
  go_wp2_with (first | (go_at_call 50; refine hbyte.mono ?_; rintro e w1 ⟨x, s', rfl, hx0, hx1, hs1, hb1, ha1⟩) | (go_at_call 50; refine (hbyte2 _ _ hs1 hb1).mono ?_; rintro e w2 ⟨y, s2, rfl, hy0, hy1, hs2, hb2, ha2⟩; replace hb2 := hb1.trans hb2; replace ha2 := Apt.trans ha1 ha2) | (go_at_call 50; refine (hbyte3 _ _ hs2 hb2).mono ?_; rintro e w3 ⟨z, s3, rfl, hz0, hz1, hs3, hb3, ha3⟩; replace hb3 := hb2.trans hb3; replace ha3 := Apt.trans ha2 ha3))
  go_ret
  exact ⟨_, _, _, rfl, drawn_mod _ n (by omega) h1, by omega, by omega, hs3, hb3, ha3⟩

theorem fit_all {rs : List CFc} {cs : List Int} : ∀ k, (∀ i, i < k → tkB (rs.getD i zFc) (cs.getD i 0) = true) → fitS rs cs k = true
  | 0, _ => rfl
  | k + 1, h => by
    unfold fitS
    rw [fit_all k (fun i hi => h i (by omega)), h k (by omega)]; rfl
theorem tk_push {rs : List CFc} {L : List Int} {x : Int} (h : ∀ i, i < L.length → tkB (rs.getD i zFc) (L.getD i 0) = true) (hx : tkB (rs.getD L.length zFc) x = true) : ∀ i, i < (L ++ [x]).length → tkB (rs.getD i zFc) ((L ++ [x]).getD i 0) = true := fun i hi => by
  rw [List.length_append] at hi
  by_cases e : i = L.length
  · subst e
    rw [show (L ++ [x]).getD L.length 0 = x by simp]
    exact hx
  · have hi' : i < L.length := by simp at hi; omega
    rw [show (L ++ [x]).getD i 0 = L.getD i 0 by simp only [List.getD_eq_getElem?_getD]; rw [List.getElem?_append_left hi']]
    exact h i hi'
/-- The counts drawn so far, in a row behind V's heap. -/
structure FoSt (b : Nat) (a : Option Addr) (len cap : Nat) (V : World) (v : Value) (L : List Int) (at' sd : Int) (wr : World) : Prop where
  ap : Apart b V wr
  low : Below b V wr
  src : Src wr b a len cap at' sd
  row : wr.ownsRow V.heap.size 3 1 v L.length (L.map (.int .i64))
  bv : b < V.heap.size
theorem FoSt.start {b : Nat} {a : Option Addr} {len cap : Nat} {V : World} {at' sd : Int} (hs : Src V b a len cap at' sd) : FoSt b a len cap V (.slice (some ⟨V.heap.size, 0, none⟩) 0 0) [] at' sd (V.alloc (Obj.cells #[] 3)) :=
  ⟨apart_alloc b V _, (Below.refl _ _).alloc (by have := src_ltW hs; omega) _, hs.allocT _, ⟨rfl, .inr ⟨V.heap.size, 0, #[], rfl, Nat.le_refl _, heapNew V _, Nat.le_refl _, by unfold maxLen; omega, rfl, rfl⟩⟩, src_ltW hs⟩
theorem FoSt.step {b : Nat} {a : Option Addr} {len cap : Nat} {V : World} {v : Value} {L : List Int} {at' sd at2 sd2 : Int} {wr w' : World} (h : FoSt b a len cap V v L at' sd wr) (ha : Apart b wr w') (hb : Below b wr w') (hs : Src w' b a len cap at2 sd2) : FoSt b a len cap V v L at2 sd2 w' := by
  have hbv := h.bv
  exact ⟨h.ap.trans ha, h.low.trans hb, hs, ownsRow_sameW h.row (fun k hk => ha.2 k (by have := (h.row.lt k hk).1; omega) (h.row.lt k hk).2), h.bv⟩
theorem FoSt.later {b : Nat} {a : Option Addr} {len cap : Nat} {V : World} {v : Value} {L : List Int} {at' sd : Int} {wr w' : World} (h : FoSt b a len cap V v L at' sd wr) (hb : Below wr.heap.size wr w') : FoSt b a len cap V v L at' sd w' :=
  h.step (later_apart hb) (hb.mono (by have := src_ltW h.src; omega)) (src_sameW h.src (hb.block b (src_ltW h.src)) hb.size)
theorem FoSt.push {b : Nat} {a : Option Addr} {len cap : Nat} {V : World} {v : Value} {L : List Int} {at' sd x : Int} {g c : Nat} {wr w' : World} (h : FoSt b a len cap V v L at' sd wr)
    (ho : w'.ownsRow V.heap.size 3 1 (.slice (some ⟨g, 0, none⟩) (L.length + 1) c) (L.length + 1) (L.map (.int .i64) ++ [.int .i64 x])) (hg : wr.grownBy w' v.ownBlock) : FoSt b a len cap V (.slice (some ⟨g, 0, none⟩) (L.length + 1) c) (L ++ [x]) at' sd w' := by
  have hbv := h.bv
  have hk : ∀ k, k < V.heap.size → w'.heap[k]? = wr.heap[k]? := fun k h1 => hg.block k (by have := h.ap.1; omega) (fun e => by have := (h.row.lt k e.symm).1; omega)
  exact ⟨⟨Nat.le_trans h.ap.1 hg.size, fun k h1 h2 => (hk k h2).trans (h.ap.2 k h1 h2)⟩, h.low.grown hg (by have := h.ap.1; omega) (fun k e => by have := (h.row.lt k e).1; omega), src_sameW h.src (hk b hbv) hg.size, by rw [List.length_append, List.map_append]; exact ho, hbv⟩
def FoPost (w : World) (e : Ending) (w' : World) : Prop := ∃ (ds : List CFc) (g cp : Nat) (L : List Int) (g2 c2 wn : Nat), e = .returned (.tuple #[.slice (some ⟨g, 0, none⟩) ds.length cp, .int .i64 (wn : Int), .slice (some ⟨g2, 0, none⟩) L.length c2]) ∧ fcAll ds = true ∧ (∀ r ∈ ds, FcOK r) ∧ wn ≤ 259 ∧ L.length = ds.length ∧ fitS ds L ds.length = true ∧ ReadsFc w'.heap.size w' (some ⟨g, 0, none⟩) ds ∧ Reads w'.heap.size w' (some ⟨g2, 0, none⟩) L ∧ Below w.heap.size w w'
set_option maxHeartbeats 16000000 in
set_option maxRecDepth 8000 in
theorem facingsOf_any (a : Option Addr) (len cap : Nat) (zs : List Int) (w : World) (hr : RowB w.heap.size w a len zs) :
    Calls Try.prog 7 #[.slice a len cap] w (FoPost w) := by
  have HR : Hid (RowB w.heap.size w a len zs) := hr
  have hsrc := source_any a len cap w hr.1
  clear hr
  obtain ⟨b, hbe⟩ : ∃ b, b = w.heap.size := ⟨_, rfl⟩
  have HBe : Hid (b = w.heap.size) := hbe
  rw [← hbe] at HR hsrc
  clear hbe
  have HNx : Hid (∀ (n at' sd : Int) (W : World), n ≤ 256 → at' ≤ 999999999000 → Src W b a len cap at' sd → Below b w W → Calls Try.prog 26 #[.pointer (some ⟨b, 0, none⟩), .int .i64 n] W fun e w' => ∃ x at2 s' : Int, e = .returned (.int .i64 x) ∧ Drawn x n ∧ at' ≤ at2 ∧ at2 ≤ at' + 3 ∧ Src w' b a len cap at2 s' ∧ Below b W w' ∧ Apt b W w') := fun n at' sd W hn ha hS hB => next_anyA b b a len cap zs n at' sd W (Nat.le_refl _) hS (HR.out.below hB) ha hn
  have HNb : Hid (∀ (at' sd : Int) (W : World), at' ≤ 999999999000 → Src W b a len cap at' sd → Below b w W → Calls Try.prog 26 #[.pointer (some ⟨b, 0, none⟩), .int .i64 260] W fun e w' => ∃ x at2 s' : Int, e = .returned (.int .i64 x) ∧ Drawn x 260 ∧ at' ≤ at2 ∧ at2 ≤ at' + 3 ∧ Src w' b a len cap at2 s' ∧ Below b W w' ∧ Apt b W w') := fun at' sd W ha hS hB => next_bigW b b a len cap zs 260 at' sd W (Nat.le_refl _) hS (HR.out.below hB) ha (by omega) (by omega) (by omega)
  have HFa : Hid (∀ (sd : Int) (W : World), Src W b a len cap 0 sd → Below b w W → Calls Try.prog 25 #[.pointer (some ⟨b, 0, none⟩)] W (FdPost a len cap b 0 W)) := fun sd W hS hB => facings_any b a len cap zs 0 sd W hS (HR.out.below hB) (by omega)
  obtain ⟨i1, htj, hzz⟩ := Option.map_eq_some_iff.1 intInfo
  simp only [Prod.mk.injEq] at hzz
  obtain ⟨hj0, hj1, hj2⟩ := hzz
  go_enter Try.func7, Try.ntmps7
  go_wp2_with fail
  (first | go_at_call 24 | skip)
  refine hsrc.mono ?_
  rintro e w1 ⟨s1, rfl, hs1, hb1⟩
  have HS1 : Hid (Src w1 b a len cap 0 s1) := hs1
  have HB1 : Hid (Below b w w1) := hb1
  clear hs1 hb1 hsrc
  go_wp2_with fail
  (first | go_at_call 25 | skip)
  refine (HFa.out s1 w1 HS1.out HB1.out).mono ?_
  rintro e V ⟨ds, C, g, cp, at', sd, rfl, hd6, hat, hdr, hT⟩
  have HT : Hid (FdSt w1 b a len cap (.slice (some ⟨g, 0, none⟩) ds.length cp) ds C at' sd V) := hT
  obtain ⟨hall, hok⟩ := fcAll_of (by omega) hdr
  have HAl : Hid (fcAll ds = true ∧ ∀ r ∈ ds, FcOK r) := ⟨hall, hok⟩
  have HRR : Hid (∀ r ∈ ds, FcR r) := (fcAll_r hall).2
  have HO0 : Hid (FoSt b a len cap V (.slice (some ⟨V.heap.size, 0, none⟩) 0 0) [] at' sd (V.alloc (Obj.cells #[] 3))) := FoSt.start hT.src
  clear hT hdr hall hok HS1 HFa
  go_upto_region 4 with fail
  generalize V.alloc (Obj.cells #[] 3) = wc at *
  go_wp2_with fail
  go_loopw [7, 8] (fun v c wr => ∃ (L : List Int) (g2 c2 : Nat) (at2 sd2 : Int), v = .slice (some ⟨g2, 0, none⟩) L.length c2 ∧ c = .int .i64 (L.length : Int) ∧ L.length ≤ ds.length ∧ at2 ≤ 200 + 3 * (L.length : Int) ∧ (∀ i, i < L.length → tkB (ds.getD i zFc) (L.getD i 0) = true) ∧ FoSt b a len cap V (.slice (some ⟨g2, 0, none⟩) L.length c2) L at2 sd2 wr) (fun _ c _ => ds.length - (intOf c).toNat)
  case atStart => exact ⟨[], _, 0, at', sd, rfl, rfl, Nat.zero_le _, by simp; omega, by simp, HO0.out⟩
  case round =>
    clear HO0
    obtain ⟨L, g2, c2, at2, sd2, rfl, rfl, hLl, hat2, htk, hO⟩ := hrel
    obtain ⟨wj, hwj⟩ : ∃ wj, wj = wr := ⟨_, rfl⟩
    rw [← hwj] at hO ⊢
    have HO : Hid (FoSt b a len cap V (.slice (some ⟨g2, 0, none⟩) L.length c2) L at2 sd2 wj) := hO
    have HTk : Hid (∀ i, i < L.length → tkB (ds.getD i zFc) (L.getD i 0) = true) := htk
    clear hO htk hwj
    by_cases hlt : L.length < ds.length
    · have hlt' : (L.length : Int) < (ds.length : Int) := by omega
      have hFr := getFc HRR.out hlt
      obtain ⟨h, c, k0, k1, k2, k3, k4, k5⟩ := HT.out.fit L.length hlt
      have HD : Hid (∀ W, Apart b V W → W.cell? ⟨g, L.length * 4 + 2, none⟩ = some (.int .i64 (ds.getD L.length zFc).ls) ∧ W.cell? ⟨g, L.length * 4 + 3, none⟩ = some (.slice h (ds.getD L.length zFc).gs.length c)) := fun W ha => by
        have hg := HT.out.own.lt g rfl
        have e := ha.2 g (by omega) hg.2
        refine ⟨(World.cell?_of_block (w := V) (a := ⟨g, L.length * 4 + 2, none⟩) e).trans ?_, (World.cell?_of_block (w := V) (a := ⟨g, L.length * 4 + 3, none⟩) e).trans ?_⟩
        · rw [HT.out.own.cellAt _ (by omega)]; exact k2
        · rw [HT.out.own.cellAt _ (by omega)]; exact k3
      have hls := hFr.2.2.1
      have hl6 := hFr.1
      have HTx : Hid (∀ x, (ds.getD L.length zFc).ls ≤ x → x ≤ ((ds.getD L.length zFc).gs.length : Int) → tkB (ds.getD L.length zFc) x = true) := fun x h1 h2 => decide_eq_true ⟨h1, h2⟩
      clear k0 k1 k2 k3 k4 k5 hFr
      generalize (ds.getD L.length zFc).ls = ls at *
      generalize (ds.getD L.length zFc).gs.length = n at *
      have hw1 : IntKind.i64.wrap ((n : Int) - ls) = (n : Int) - ls := wrap_id _ (by omega) (by omega)
      have hw2 : IntKind.i64.wrap ((n : Int) - ls + 1) = (n : Int) - ls + 1 := wrap_id _ (by omega) (by omega)
      go_upto_region 7 with fail
      have HOd : Hid (FoSt b a len cap V (.slice (some ⟨g2, 0, none⟩) L.length c2) L at2 sd2 wj.drew) := HO.out.later (below_drew _)
      refine wp_region_held_drew (S := fun W' => Apart b V W') (by kernel_rfl) HOd.out.ap (fun hH => ?_)
      refine wpAnyH_take (i := 0) (v := .slice (some ⟨g2, 0, none⟩) L.length c2) rfl (by kernel_rfl) (by kernel_rfl) (by kernel_rfl) (fun _ _ _ h => h) (Or.inl ⟨by rfl, fun w hSw => by clear hSw; go_simp⟩) hH ?_
      refine wpAnyH_take (i := 1) (v := .slice (some ⟨g, 0, none⟩) ds.length cp) rfl (by kernel_rfl) (by kernel_rfl) (by kernel_rfl) (fun _ _ _ h => h) (Or.inl ⟨by rfl, fun w hSw => by clear hSw; go_simp⟩) hH ?_
      try simp only [Act.put, List.setIfInBounds_toArray, List.set_cons_zero, List.set_cons_succ, List.getElem_toArray, List.getElem_cons_succ, List.getElem_cons_zero]
      refine wpAnyH_take (i := 2) (v := .int .i64 (L.length : Int)) rfl (by kernel_rfl) (by kernel_rfl) (by kernel_rfl) (fun _ _ _ h => h) (Or.inl ⟨by rfl, fun w hSw => by clear hSw; go_simp⟩) hH ?_
      try simp only [Act.put, List.setIfInBounds_toArray, List.set_cons_zero, List.set_cons_succ, List.getElem_toArray, List.getElem_cons_succ, List.getElem_cons_zero]
      refine wpAnyH_take (i := 3) (v := .pointer (some ⟨g, L.length * 4, none⟩)) rfl (by kernel_rfl) (by kernel_rfl) (by kernel_rfl) (fun _ _ _ h => h) (Or.inl ⟨by rfl, fun w hSw => by clear hSw; go_simp⟩) hH ?_
      try simp only [Act.put, List.setIfInBounds_toArray, List.set_cons_zero, List.set_cons_succ, List.getElem_toArray, List.getElem_cons_succ, List.getElem_cons_zero]
      refine wpAnyH_take (i := 4) (v := .pointer (some ⟨g, L.length * 4 + 2, none⟩)) rfl (by kernel_rfl) (by kernel_rfl) (by kernel_rfl) (fun _ _ _ h => h) (Or.inl ⟨by rfl, fun w hSw => by clear hSw; go_simp⟩) hH ?_
      try simp only [Act.put, List.setIfInBounds_toArray, List.set_cons_zero, List.set_cons_succ, List.getElem_toArray, List.getElem_cons_succ, List.getElem_cons_zero]
      refine wpAnyH_take (i := 5) (v := .int .i64 ls) rfl (by kernel_rfl) (by kernel_rfl) (by kernel_rfl) (fun _ _ _ h => h) (Or.inl ⟨by rfl, fun w hSw => by have f0 := (HD.out w hSw).1; clear hSw; go_simp⟩) hH ?_
      try simp only [Act.put, List.setIfInBounds_toArray, List.set_cons_zero, List.set_cons_succ, List.getElem_toArray, List.getElem_cons_succ, List.getElem_cons_zero]
      refine wpAnyH_take (i := 6) (v := .pointer (some ⟨b, 0, none⟩)) rfl (by kernel_rfl) (by kernel_rfl) (by kernel_rfl) (fun _ _ _ h => h) (Or.inl ⟨by rfl, fun w hSw => by clear hSw; go_simp⟩) hH ?_
      try simp only [Act.put, List.setIfInBounds_toArray, List.set_cons_zero, List.set_cons_succ, List.getElem_toArray, List.getElem_cons_succ, List.getElem_cons_zero]
      refine wpAnyH_take (i := 7) (v := .slice (some ⟨g, 0, none⟩) ds.length cp) rfl (by kernel_rfl) (by kernel_rfl) (by kernel_rfl) (fun _ _ _ h => h) (Or.inl ⟨by rfl, fun w hSw => by clear hSw; go_simp⟩) hH ?_
      try simp only [Act.put, List.setIfInBounds_toArray, List.set_cons_zero, List.set_cons_succ, List.getElem_toArray, List.getElem_cons_succ, List.getElem_cons_zero]
      refine wpAnyH_take (i := 8) (v := .int .i64 (L.length : Int)) rfl (by kernel_rfl) (by kernel_rfl) (by kernel_rfl) (fun _ _ _ h => h) (Or.inl ⟨by rfl, fun w hSw => by clear hSw; go_simp⟩) hH ?_
      try simp only [Act.put, List.setIfInBounds_toArray, List.set_cons_zero, List.set_cons_succ, List.getElem_toArray, List.getElem_cons_succ, List.getElem_cons_zero]
      refine wpAnyH_take (i := 9) (v := .pointer (some ⟨g, L.length * 4, none⟩)) rfl (by kernel_rfl) (by kernel_rfl) (by kernel_rfl) (fun _ _ _ h => h) (Or.inl ⟨by rfl, fun w hSw => by clear hSw; go_simp⟩) hH ?_
      try simp only [Act.put, List.setIfInBounds_toArray, List.set_cons_zero, List.set_cons_succ, List.getElem_toArray, List.getElem_cons_succ, List.getElem_cons_zero]
      refine wpAnyH_take (i := 10) (v := .pointer (some ⟨g, L.length * 4 + 3, none⟩)) rfl (by kernel_rfl) (by kernel_rfl) (by kernel_rfl) (fun _ _ _ h => h) (Or.inl ⟨by rfl, fun w hSw => by clear hSw; go_simp⟩) hH ?_
      try simp only [Act.put, List.setIfInBounds_toArray, List.set_cons_zero, List.set_cons_succ, List.getElem_toArray, List.getElem_cons_succ, List.getElem_cons_zero]
      refine wpAnyH_take (i := 11) (v := .slice h n c) rfl (by kernel_rfl) (by kernel_rfl) (by kernel_rfl) (fun _ _ _ h => h) (Or.inl ⟨by rfl, fun w hSw => by have f0 := (HD.out w hSw).2; clear hSw; go_simp⟩) hH ?_
      try simp only [Act.put, List.setIfInBounds_toArray, List.set_cons_zero, List.set_cons_succ, List.getElem_toArray, List.getElem_cons_succ, List.getElem_cons_zero]
      refine wpAnyH_take (i := 12) (v := .int .i64 (n : Int)) rfl (by kernel_rfl) (by kernel_rfl) (by kernel_rfl) (fun _ _ _ h => h) (Or.inl ⟨by rfl, fun w hSw => by clear hSw; go_simp⟩) hH ?_
      try simp only [Act.put, List.setIfInBounds_toArray, List.set_cons_zero, List.set_cons_succ, List.getElem_toArray, List.getElem_cons_succ, List.getElem_cons_zero]
      refine wpAnyH_take (i := 13) (v := .slice (some ⟨g, 0, none⟩) ds.length cp) rfl (by kernel_rfl) (by kernel_rfl) (by kernel_rfl) (fun _ _ _ h => h) (Or.inl ⟨by rfl, fun w hSw => by clear hSw; go_simp⟩) hH ?_
      try simp only [Act.put, List.setIfInBounds_toArray, List.set_cons_zero, List.set_cons_succ, List.getElem_toArray, List.getElem_cons_succ, List.getElem_cons_zero]
      refine wpAnyH_take (i := 14) (v := .int .i64 (L.length : Int)) rfl (by kernel_rfl) (by kernel_rfl) (by kernel_rfl) (fun _ _ _ h => h) (Or.inl ⟨by rfl, fun w hSw => by clear hSw; go_simp⟩) hH ?_
      try simp only [Act.put, List.setIfInBounds_toArray, List.set_cons_zero, List.set_cons_succ, List.getElem_toArray, List.getElem_cons_succ, List.getElem_cons_zero]
      refine wpAnyH_take (i := 15) (v := .pointer (some ⟨g, L.length * 4, none⟩)) rfl (by kernel_rfl) (by kernel_rfl) (by kernel_rfl) (fun _ _ _ h => h) (Or.inl ⟨by rfl, fun w hSw => by clear hSw; go_simp⟩) hH ?_
      try simp only [Act.put, List.setIfInBounds_toArray, List.set_cons_zero, List.set_cons_succ, List.getElem_toArray, List.getElem_cons_succ, List.getElem_cons_zero]
      refine wpAnyH_take (i := 16) (v := .pointer (some ⟨g, L.length * 4 + 2, none⟩)) rfl (by kernel_rfl) (by kernel_rfl) (by kernel_rfl) (fun _ _ _ h => h) (Or.inl ⟨by rfl, fun w hSw => by clear hSw; go_simp⟩) hH ?_
      try simp only [Act.put, List.setIfInBounds_toArray, List.set_cons_zero, List.set_cons_succ, List.getElem_toArray, List.getElem_cons_succ, List.getElem_cons_zero]
      refine wpAnyH_take (i := 17) (v := .int .i64 ls) rfl (by kernel_rfl) (by kernel_rfl) (by kernel_rfl) (fun _ _ _ h => h) (Or.inl ⟨by rfl, fun w hSw => by have f0 := (HD.out w hSw).1; clear hSw; go_simp⟩) hH ?_
      try simp only [Act.put, List.setIfInBounds_toArray, List.set_cons_zero, List.set_cons_succ, List.getElem_toArray, List.getElem_cons_succ, List.getElem_cons_zero]
      refine wpAnyH_take (i := 18) (v := .int .i64 ((n : Int) - ls)) rfl (by kernel_rfl) (by kernel_rfl) (by kernel_rfl) (fun _ _ _ h => h) (Or.inl ⟨by rfl, fun w hSw => by clear hSw; go_simp⟩) hH ?_
      try simp only [Act.put, List.setIfInBounds_toArray, List.set_cons_zero, List.set_cons_succ, List.getElem_toArray, List.getElem_cons_succ, List.getElem_cons_zero]
      refine wpAnyH_take (i := 19) (v := .int .i64 ((n : Int) - ls + 1)) rfl (by kernel_rfl) (by kernel_rfl) (by kernel_rfl) (fun _ _ _ h => h) (Or.inl ⟨by rfl, fun w hSw => by clear hSw; go_simp⟩) hH ?_
      try simp only [Act.put, List.setIfInBounds_toArray, List.set_cons_zero, List.set_cons_succ, List.getElem_toArray, List.getElem_cons_succ, List.getElem_cons_zero]
      refine wpAnyH_ready (rs := [20]) (by kernel_rfl) (by simp) ?_
      refine AllReadyH.cons rfl (fun K hK => ?_) AllReadyH.nil
      go_simp
      go_at_call 26
      refine (HNx.out _ at2 sd2 _ (by omega) (by omega) HOd.out.src (HB1.out.trans (HT.out.low.trans HOd.out.low))).mono ?_
      rintro e w5 ⟨x5, a5, s5, rfl, hx5, ql5, qu5, hs5, hb5, ha5⟩
      have HO5 : Hid (FoSt b a len cap V (.slice (some ⟨g2, 0, none⟩) L.length c2) L a5 s5 w5) := HOd.out.step (ha5.apart hb5) hb5 hs5
      have d5 : 0 ≤ x5 ∧ x5 ≤ (n : Int) - ls := ⟨hx5.1, by rcases hx5.2 with h | h <;> omega⟩
      have h5 : Apart b V w5 := HO5.out.ap
      clear hs5 hb5 ha5 hx5
      have hw3 : IntKind.i64.wrap (ls + x5) = ls + x5 := wrap_id _ (by omega) (by omega)
      refine hK.out _ _ h5 (fun _ => ?_)
      clear hK K
      try simp only [Act.put, List.setIfInBounds_toArray, List.set_cons_zero, List.set_cons_succ, List.getElem_toArray, List.getElem_cons_succ, List.getElem_cons_zero]
      refine wpAnyH_take (i := 21) (v := .int .i64 (ls + x5)) rfl (by kernel_rfl) (by kernel_rfl) (by kernel_rfl) (fun _ _ _ h => h) (Or.inl ⟨by rfl, fun w hSw => by clear hSw; go_simp⟩) h5 ?_
      try simp only [Act.put, List.setIfInBounds_toArray, List.set_cons_zero, List.set_cons_succ, List.getElem_toArray, List.getElem_cons_succ, List.getElem_cons_zero]
      refine wpAnyH_ready (rs := [22]) (by kernel_rfl) (by simp) ?_
      refine AllReadyH.cons rfl (fun K hK => ?_) AllReadyH.nil
      go_simp
      have HO6 : Hid (FoSt b a len cap V (.slice (some ⟨g2, 0, none⟩) L.length c2) L a5 s5 (w5.alloc (Obj.cells #[.int .i64 (ls + x5)] 3))) := HO5.out.later (below_alloc _ _)
      have h6 : Apart b V (w5.alloc (Obj.cells #[.int .i64 (ls + x5)] 3)) := HO6.out.ap
      have hb6 : (w5.alloc (Obj.cells #[.int .i64 (ls + x5)] 3)).heap[w5.heap.size]? = some (.cells #[.int .i64 (ls + x5)] 3 (0, 0)) := heapNew w5 _
      refine hK.out _ _ h6 (fun _ => ?_)
      clear hK K
      try simp only [Act.put, List.setIfInBounds_toArray, List.set_cons_zero, List.set_cons_succ, List.getElem_toArray, List.getElem_cons_succ, List.getElem_cons_zero]
      refine wpAnyH_ready (rs := [23]) (by kernel_rfl) (by simp) ?_
      refine AllReadyH.cons rfl (fun K hK => ?_) AllReadyH.nil
      refine step_append_any rfl (.tmp 20) (.tmp 42) 24 rfl V.heap.size 3 i1 (.int .i64 0) 1 8 Try.underlying24 htj hj0 hj1 hj2 rfl (by decide) (.slice (some ⟨g2, 0, none⟩) L.length c2) _ _ (by simp [Act.eval]) HO6.out.row (some ⟨w5.heap.size, 0, none⟩) 1 1 [.int .i64 (ls + x5)] (by simp [Act.eval]) rfl (fun _ => ⟨_, rfl, World.news_of_block hb6⟩) (by simp [Value.oneCell']) (by unfold maxLen; omega) (by omega) HO6.out.ap.1 (fun h7 c7 w7 hown hgrow hat7 => ?_)
      obtain ⟨g7, cc, he7, _, _⟩ := hown.form (by omega)
      simp only [Value.slice.injEq, true_and] at he7
      obtain ⟨rfl, rfl⟩ := he7
      have HO7 : Hid (FoSt b a len cap V (.slice (some ⟨g7, 0, none⟩) (L.length + 1) c7) (L ++ [ls + x5]) a5 s5 w7) := HO6.out.push hown hgrow
      have hS7 : Apart b V w7 := HO7.out.ap
      clear hown hgrow hat7 hb6
      refine hK.out _ _ hS7 (fun _ => ?_)
      clear hK K
      try simp only [Act.put, List.setIfInBounds_toArray, List.set_cons_zero, List.set_cons_succ, List.getElem_toArray, List.getElem_cons_succ, List.getElem_cons_zero]
      refine wpAnyH_take (i := 24) (v := .slice (some ⟨g7, 0, none⟩) (L.length + 1) c7) rfl (by kernel_rfl) (by kernel_rfl) (by kernel_rfl) (fun _ _ _ h => h) (Or.inl ⟨by rfl, fun w hSw => by clear hSw; go_simp⟩) hS7 ?_
      try simp only [Act.put, List.setIfInBounds_toArray, List.set_cons_zero, List.set_cons_succ, List.getElem_toArray, List.getElem_cons_succ, List.getElem_cons_zero]
      refine wpAnyH_done (by kernel_rfl) ?_ _
      clear hH h5 h6 hS7 HO5 HO6 HOd
      go_wp2_with fail
      go_roundw
      case rel => exact ⟨L ++ [ls + x5], g7, c7, a5, s5, by simp, by simp, by simp; omega, by simp; omega, tk_push HTk.out (HTx.out _ (by omega) (by omega)), by rw [List.length_append]; exact HO7.out⟩
      case measure => simp [intOf]; omega
    · have hlt' : ¬ (L.length : Int) < (ds.length : Int) := by omega
      have hLe : L.length = ds.length := by omega
      have HLe : Hid (L.length = ds.length) := hLe
      clear hLe
      go_wp2_with fail
      (first | go_at_call 26 | skip)
      refine (HNb.out at2 sd2 wj (by omega) HO.out.src (HB1.out.trans (HT.out.low.trans HO.out.low))).mono ?_
      rintro e w5 ⟨x5, a5, s5, rfl, hx5, ql5, qu5, hs5, hb5, ha5⟩
      have HO5 : Hid (FoSt b a len cap V (.slice (some ⟨g2, 0, none⟩) L.length c2) L a5 s5 w5) := HO.out.step (ha5.apart hb5) hb5 hs5
      obtain ⟨wn, hwn⟩ : ∃ wn : Nat, x5 = (wn : Int) := ⟨x5.toNat, by have := hx5.1; omega⟩
      have hw9 : wn ≤ 259 := by rcases hx5.2 with h | h <;> omega
      subst hwn
      clear hs5 hb5 ha5 hx5 HO
      go_wp2_with fail
      refine bodyPost_ret (v := .tuple #[.slice (some ⟨g, 0, none⟩) ds.length cp, .int .i64 (wn : Int), .slice (some ⟨g2, 0, none⟩) L.length c2]) (by simp [results, Try.results7, go_sem]) rfl ?_
      refine ⟨ds, g, cp, L, g2, c2, wn, rfl, HAl.out.1, HAl.out.2, hw9, HLe.out, fit_all _ (fun i hi => HTk.out i (by rw [HLe.out]; exact hi)), (HT.out.step HO5.out.ap HO5.out.low HO5.out.src).reads, (RI.row HO5.out.row).reads, ?_⟩
      rw [← HBe.out]
      exact HB1.out.trans (HT.out.low.trans HO5.out.low)
end Go.Proofs.Ytphefbaogfknoaa

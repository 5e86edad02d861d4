/-
  For every code the law FnShelf answers true, with no condition: drawn facings are right; the plan of drawn counts is right or full; the best plan fits, gains and uses what it says, gains no less than the drawn counts, and no less in a wider shelf.
-/
import Derived.Test.YtphefbaogfknoaaFdO
import Derived.Test.YtphefbaogfknoaaFeP
import Derived.Test.YtphefbaogfknoaaFeZ
namespace Go.Proofs.Ytphefbaogfknoaa
open Go.ChangeShapes Go.WideShapes Go.ChangeAt Go.RowKit Go.Deep
set_option linter.unusedVariables false

namespace FnShelf
set_option maxHeartbeats 16000000 in
set_option maxRecDepth 8000 in
theorem walk (a0 : Option Addr) (len0 cap0 : Nat) (z0 : List Int) (w : World) (r0 : RowB w.heap.size w a0 len0 z0) :
    Calls Try.prog 3 #[.slice a0 len0 cap0] w fun e w' => e = .returned (.bool true) ∧ Below w.heap.size w w' := by
  by_cases hbig : (1048576 : Int) < (len0 : Int)
  · clear r0
    go_enter Try.func3, Try.ntmps3
    go_wp2
    go_ret
    exact ⟨rfl, Below.refl _ _⟩
  have hT := facingsOf_any a0 len0 cap0 z0 w r0
  clear r0
  go_enter Try.func3, Try.ntmps3
  go_wp2_with fail
  (first | go_at_call 7 | skip)
  refine hT.mono ?_
  rintro e w1 ⟨ds, g, cp, L, gc, cc, wn, rfl, hall, hok, hwn, hLl, hfit, r1, r2, hb1⟩
  clear hT hbig
  obtain ⟨F1, F2, F3, F4⟩ := shf_facts hall (wn := wn) (by omega) hLl hfit
  have h12 := (fcAll_r hall).1
  have H1 : Hid (ReadsFc w1.heap.size w1 (some ⟨g, 0, none⟩) ds) := r1
  have K1 : Hid (Reads w1.heap.size w1 (some ⟨gc, 0, none⟩) L) := r2
  have B1 : Hid (Below w.heap.size w w1) := hb1
  clear r1 r2 hb1
  obtain ⟨c1, hc1⟩ : ∃ c, c = shCode ds (wn : Int) L := ⟨_, rfl⟩
  obtain ⟨v1, hv1⟩ : ∃ c, c = shG ds (wn : Int) L := ⟨_, rfl⟩
  obtain ⟨u1, hu1⟩ : ∃ c, c = shU ds (wn : Int) L := ⟨_, rfl⟩
  obtain ⟨c2, hc2⟩ : ∃ c, c = bsCode ds (wn : Int) := ⟨_, rfl⟩
  obtain ⟨v2, hv2⟩ : ∃ c, c = bsGa ds (wn : Int) := ⟨_, rfl⟩
  obtain ⟨u2, hu2⟩ : ∃ c, c = bsUs ds (wn : Int) := ⟨_, rfl⟩
  obtain ⟨L2, hL2⟩ : ∃ c, c = bsL ds (wn : Int) := ⟨_, rfl⟩
  obtain ⟨v3, hv3⟩ : ∃ c, c = bsGa ds ((wn + 7 : Nat) : Int) := ⟨_, rfl⟩
  rw [← hc1] at F1
  rw [← hc2] at F2
  rw [← hc1, ← hv1, ← hc2, ← hv2] at F3
  rw [← hc2, ← hL2, ← hv2, ← hu2, ← hv3] at F4
  have hl2 : L2.length ≤ 1048576 := by rw [hL2]; exact bsL_len ds _
  have HSh : Hid (∀ W, ReadsFc W.heap.size W (some ⟨g, 0, none⟩) ds → Reads W.heap.size W (some ⟨gc, 0, none⟩) L → Calls Try.prog 8 #[.slice (some ⟨g, 0, none⟩) ds.length cp, .int .i64 (wn : Int), .slice (some ⟨gc, 0, none⟩) L.length cc] W fun e w' => ∃ q d l, e = .returned (.tuple #[.agg #[.slice q l d, .int .i64 u1, .int .i64 v1], .int .i64 c1]) ∧ Below W.heap.size W w') := fun W k1 k2 =>
    (implShelf_any (some ⟨g, 0, none⟩) cp ds (by omega) hok (wn : Int) gc 0 cc L (by omega) W k1 k2).mono (fun e w' ⟨q, d, h1, h2, h3⟩ => ⟨q, d, _, by rw [hc1, hv1, hu1]; exact h1, h3⟩)
  have HBs : Hid (∀ W, ReadsFc W.heap.size W (some ⟨g, 0, none⟩) ds → Calls Try.prog 9 #[.slice (some ⟨g, 0, none⟩) ds.length cp, .int .i64 (wn : Int)] W fun e w' => ∃ q d, e = .returned (.tuple #[.agg #[.slice q L2.length d, .int .i64 u2, .int .i64 v2], .int .i64 c2]) ∧ Own2 W.heap.size w' q L2 ∧ Below W.heap.size W w' ∧ (c2 = 0 → ∃ g, q = some ⟨g, 0, none⟩)) := fun W k1 =>
    (implBestShelf_some (some ⟨g, 0, none⟩) cp ds (by omega) hok (wn : Int) W k1).mono (fun e w' ⟨q, d, h1, h2, h3, h4⟩ => ⟨q, d, by rw [hc2, hv2, hu2, hL2]; exact h1, by rw [hL2]; exact h2, h3, by rw [hc2]; exact h4⟩)
  have HSp : Hid (∀ W, ReadsFc W.heap.size W (some ⟨g, 0, none⟩) ds → Calls Try.prog 11 #[.slice (some ⟨g, 0, none⟩) ds.length cp, .int .i64 (wn : Int)] W fun e w' => ∃ q d l u v, e = .returned (.tuple #[.agg #[.slice q l d, .int .i64 u, .int .i64 v], .int .i64 c2]) ∧ Below W.heap.size W w') := fun W k1 =>
    (specBestShelf_any (some ⟨g, 0, none⟩) cp ds (by omega) hok (wn : Int) W k1).mono (fun e w' ⟨q, d, h1, h2, h3⟩ => ⟨q, d, _, _, _, by rw [hc2]; exact h1, h3⟩)
  have HFo : Hid (∀ W, ReadsFc W.heap.size W (some ⟨g, 0, none⟩) ds → Calls Try.prog 10 #[.slice (some ⟨g, 0, none⟩) ds.length cp] W fun e w' => e = .returned (.bool true) ∧ Below W.heap.size W w') := fun W k1 => by
    have h := implFacings_any (some ⟨g, 0, none⟩) cp ds (by omega) hok W k1
    rw [hall] at h
    exact h
  have HS2 : Hid (c2 = 0 → ∀ q d W, ReadsFc W.heap.size W (some ⟨g, 0, none⟩) ds → Reads W.heap.size W (some ⟨q, 0, none⟩) L2 → Calls Try.prog 8 #[.slice (some ⟨g, 0, none⟩) ds.length cp, .int .i64 (wn : Int), .slice (some ⟨q, 0, none⟩) L2.length d] W fun e w' => ∃ q2 d2 l, e = .returned (.tuple #[.agg #[.slice q2 l d2, .int .i64 u2, .int .i64 v2], .int .i64 0]) ∧ Below W.heap.size W w') := fun k0 q d W k1 k2 => by
    obtain ⟨f1, f2, f3, f4, f5, f6⟩ := F4 k0
    exact (implShelf_any (some ⟨g, 0, none⟩) cp ds (by omega) hok (wn : Int) q 0 d L2 (by omega) W k1 k2).mono (fun e w' ⟨q, d, h1, h2, h3⟩ => ⟨q, d, _, by rw [f1, f2, f3] at h1; exact h1, h3⟩)
  have HB7 : Hid (c2 = 0 → ∀ W, ReadsFc W.heap.size W (some ⟨g, 0, none⟩) ds → Calls Try.prog 9 #[.slice (some ⟨g, 0, none⟩) ds.length cp, .int .i64 ((wn : Int) + 7)] W fun e w' => ∃ q d l u, e = .returned (.tuple #[.agg #[.slice q l d, .int .i64 u, .int .i64 v3], .int .i64 0]) ∧ Below W.heap.size W w') := fun k0 W k1 => by
    obtain ⟨f1, f2, f3, f4, f5, f6⟩ := F4 k0
    have h := implBestShelf_any (some ⟨g, 0, none⟩) cp ds (by omega) hok ((wn + 7 : Nat) : Int) W k1
    rw [show ((wn + 7 : Nat) : Int) = (wn : Int) + 7 by omega] at h f5 hv3
    exact h.mono (fun e w' ⟨q, d, h1, h2, h3⟩ => ⟨q, d, _, _, by rw [f5, ← hv3] at h1; exact h1, h3⟩)
  have HF3 : Hid (c1 = 0 → c2 = 0 ∧ v1 ≤ v2) := F3
  have HF4 : Hid (c2 = 0 → u2 ≤ (wn : Int) ∧ v2 ≤ v3) := fun k => ⟨(F4 k).2.2.2.1, (F4 k).2.2.2.2.2⟩
  have hw7 : IntKind.i64.wrap ((wn : Int) + 7) = (wn : Int) + 7 := wrap_id _ (by omega) (by omega)
  clear F3 F4 hall hok hLl hfit hc1 hv1 hu1 hc2 hv2 hu2 hL2 hv3
  go_wp2_with fail
  (first | go_at_call 8 | skip)
  refine (HSh.out w1 H1.out K1.out).mono ?_
  rintro e w2 ⟨q1, d1, l1, rfl, hb⟩
  have H2 : Hid (ReadsFc w2.heap.size w2 (some ⟨g, 0, none⟩) ds) := H1.out.later hb
  have B2 : Hid (Below w.heap.size w w2) := chain B1.out hb
  clear hb H1 B1 K1 HSh
  obtain ⟨w3, hw3⟩ : ∃ w3, w3 = w2.alloc (Obj.cells #[.slice q1 l1 d1, .int .i64 u1, .int .i64 v1] 28) := ⟨_, rfl⟩
  obtain ⟨b6, hb6⟩ : ∃ b6, b6 = w2.heap.size := ⟨_, rfl⟩
  have HW3 : Hid (w3 = w2.alloc (Obj.cells #[.slice q1 l1 d1, .int .i64 u1, .int .i64 v1] 28) ∧ b6 = w2.heap.size) := ⟨hw3, hb6⟩
  obtain ⟨hx, hb⟩ := boxAt hw3
  rw [← hb6] at hx
  have P3 : Hid (w3.heap[b6]? = some (.cells #[.slice q1 l1 d1, .int .i64 u1, .int .i64 v1] 28 (0, 0))) := hx
  have H3 : Hid (ReadsFc w3.heap.size w3 (some ⟨g, 0, none⟩) ds) := H2.out.later hb
  have B3 : Hid (Below w.heap.size w w3) := chain B2.out hb
  clear hw3 hb6 hx hb H2 B2
  go_upto_region 5 with fail
  rw [← HW3.out.1, ← HW3.out.2]
  clear HW3
  go_wp2_with fail
  (first | go_at_call 9 | skip)
  refine (HBs.out w3 H3.out).mono ?_
  rintro e w4 ⟨q2, d2, rfl, ho, hb, hq⟩
  have H4 : Hid (ReadsFc w4.heap.size w4 (some ⟨g, 0, none⟩) ds) := H3.out.later hb
  have B4 : Hid (Below w.heap.size w w4) := chain B3.out hb
  have P4 : Hid (w4.heap[b6]? = some (.cells #[.slice q1 l1 d1, .int .i64 u1, .int .i64 v1] 28 (0, 0))) := (hb.block b6 (blkLt P3.out)).trans P3.out
  have O4 : Hid (Reads w4.heap.size w4 q2 L2) := ho.reads
  have HQ2 : Hid (c2 = 0 → ∃ g, q2 = some ⟨g, 0, none⟩) := hq
  clear hb ho hq H3 B3 P3 HBs
  obtain ⟨w5, hw5⟩ : ∃ w5, w5 = w4.alloc (Obj.cells #[.slice q2 L2.length d2, .int .i64 u2, .int .i64 v2] 28) := ⟨_, rfl⟩
  obtain ⟨b8, hb8⟩ : ∃ b8, b8 = w4.heap.size := ⟨_, rfl⟩
  have HW5 : Hid (w5 = w4.alloc (Obj.cells #[.slice q2 L2.length d2, .int .i64 u2, .int .i64 v2] 28) ∧ b8 = w4.heap.size) := ⟨hw5, hb8⟩
  obtain ⟨hx, hb⟩ := boxAt hw5
  rw [← hb8] at hx
  have Q5 : Hid (w5.heap[b8]? = some (.cells #[.slice q2 L2.length d2, .int .i64 u2, .int .i64 v2] 28 (0, 0))) := hx
  have H5 : Hid (ReadsFc w5.heap.size w5 (some ⟨g, 0, none⟩) ds) := H4.out.later hb
  have B5 : Hid (Below w.heap.size w w5) := chain B4.out hb
  have P5 : Hid (w5.heap[b6]? = some (.cells #[.slice q1 l1 d1, .int .i64 u1, .int .i64 v1] 28 (0, 0))) := (hb.block b6 (blkLt P4.out)).trans P4.out
  have O5 : Hid (Reads w5.heap.size w5 q2 L2) := O4.out.later hb
  clear hw5 hb8 hx hb H4 B4 P4 O4
  go_upto_region 6 with fail
  rw [← HW5.out.1, ← HW5.out.2]
  clear HW5
  go_wp2_with fail
  (first | go_at_call 10 | skip)
  refine (HFo.out w5 H5.out).mono ?_
  rintro e w6 ⟨rfl, hb⟩
  have H6 : Hid (ReadsFc w6.heap.size w6 (some ⟨g, 0, none⟩) ds) := H5.out.later hb
  have B6 : Hid (Below w.heap.size w w6) := chain B5.out hb
  have P6 : Hid (w6.heap[b6]? = some (.cells #[.slice q1 l1 d1, .int .i64 u1, .int .i64 v1] 28 (0, 0))) := (hb.block b6 (blkLt P5.out)).trans P5.out
  have Q6 : Hid (w6.heap[b8]? = some (.cells #[.slice q2 L2.length d2, .int .i64 u2, .int .i64 v2] 28 (0, 0))) := (hb.block b8 (blkLt Q5.out)).trans Q5.out
  have O6 : Hid (Reads w6.heap.size w6 q2 L2) := O5.out.later hb
  clear hb H5 B5 P5 Q5 O5 HFo
  rcases F2 with hc2 | hc2
  case inr =>
    have hc1 : c1 = 14 := by
      rcases F1 with h | h
      · have := (HF3.out h).1; omega
      · exact h
    subst hc1 hc2
    clear F1 HF3 HF4 HS2 HB7 HQ2
    go_wp2_with fail
    (first | go_at_call 11 | skip)
    refine (HSp.out w6 H6.out).mono ?_
    rintro e w7 ⟨q7, d7, l7, u7, v7, rfl, hb⟩
    have B7 : Hid (Below w.heap.size w w7) := chain B6.out hb
    clear hb
    go_wp2
    go_ret
    exact ⟨rfl, B7.out.alloc (by have := B7.out.size; omega) _⟩
  have HC2 : Hid (c2 = 0) := hc2
  obtain ⟨gq, hgq⟩ := HQ2.out hc2
  obtain ⟨hf1, hf2⟩ := HF4.out hc2
  have hu : ¬ (wn : Int) < u2 := by omega
  have hge : v2 ≤ v3 := hf2
  have hbu : (u2 != u2) = false := by simp
  have hbv : (v2 != v2) = false := by simp
  have HSx : Hid (∀ q d W, ReadsFc W.heap.size W (some ⟨g, 0, none⟩) ds → Reads W.heap.size W (some ⟨q, 0, none⟩) L2 → Calls Try.prog 8 #[.slice (some ⟨g, 0, none⟩) ds.length cp, .int .i64 (wn : Int), .slice (some ⟨q, 0, none⟩) L2.length d] W fun e w' => ∃ q2 d2 l, e = .returned (.tuple #[.agg #[.slice q2 l d2, .int .i64 u2, .int .i64 v2], .int .i64 0]) ∧ Below W.heap.size W w') := HS2.out hc2
  have HBx : Hid (∀ W, ReadsFc W.heap.size W (some ⟨g, 0, none⟩) ds → Calls Try.prog 9 #[.slice (some ⟨g, 0, none⟩) ds.length cp, .int .i64 ((wn : Int) + 7)] W fun e w' => ∃ q d l u, e = .returned (.tuple #[.agg #[.slice q l d, .int .i64 u, .int .i64 v3], .int .i64 0]) ∧ Below W.heap.size W w') := HB7.out hc2
  subst hgq
  have HF5 : Hid (c1 = 0 → v1 ≤ v2) := fun k => (HF3.out k).2
  clear HS2 HB7 HQ2 HF4 HF3 HSp HC2 hf1 hf2
  subst hc2
  rcases F1 with hc1 | hc1
  case inl =>
    have hle : ¬ v2 < v1 := by have := HF5.out hc1; omega
    subst hc1
    clear HF5
    have z0 := blkCell Q6.out 0 _ rfl
    simp only [List.getElem_toArray, List.getElem_cons_zero] at z0
    go_wp2_with fail
    (first | go_at_call 8 | skip)
    clear z0
    refine (HSx.out gq d2 w6 H6.out O6.out).mono ?_
    rintro e w7 ⟨q7, d7, l7, rfl, hb⟩
    have H7 : Hid (ReadsFc w7.heap.size w7 (some ⟨g, 0, none⟩) ds) := H6.out.later hb
    have B7 : Hid (Below w.heap.size w w7) := chain B6.out hb
    have P7 : Hid (w7.heap[b6]? = some (.cells #[.slice q1 l1 d1, .int .i64 u1, .int .i64 v1] 28 (0, 0))) := (hb.block b6 (blkLt P6.out)).trans P6.out
    have Q7 : Hid (w7.heap[b8]? = some (.cells #[.slice (some ⟨gq, 0, none⟩) L2.length d2, .int .i64 u2, .int .i64 v2] 28 (0, 0))) := (hb.block b8 (blkLt Q6.out)).trans Q6.out
    clear hb H6 B6 P6 Q6 O6
    obtain ⟨w8, hw8⟩ : ∃ w8, w8 = w7.alloc (Obj.cells #[.slice q7 l7 d7, .int .i64 u2, .int .i64 v2] 28) := ⟨_, rfl⟩
    obtain ⟨b12, hb12⟩ : ∃ b12, b12 = w7.heap.size := ⟨_, rfl⟩
    have HW8 : Hid (w8 = w7.alloc (Obj.cells #[.slice q7 l7 d7, .int .i64 u2, .int .i64 v2] 28) ∧ b12 = w7.heap.size) := ⟨hw8, hb12⟩
    obtain ⟨hx, hb⟩ := boxAt hw8
    rw [← hb12] at hx
    have H8 : Hid (ReadsFc w8.heap.size w8 (some ⟨g, 0, none⟩) ds) := H7.out.later hb
    have B8 : Hid (Below w.heap.size w w8) := chain B7.out hb
    have p8 := (hb.block b6 (blkLt P7.out)).trans P7.out
    have q8 := (hb.block b8 (blkLt Q7.out)).trans Q7.out
    have Q8 : Hid (w8.heap[b8]? = some (.cells #[.slice (some ⟨gq, 0, none⟩) L2.length d2, .int .i64 u2, .int .i64 v2] 28 (0, 0))) := q8
    have x1 := blkCell hx 1 _ rfl
    have x2 := blkCell hx 2 _ rfl
    have y1 := blkCell q8 1 _ rfl
    have y2 := blkCell q8 2 _ rfl
    have p2 := blkCell p8 2 _ rfl
    simp only [List.getElem_toArray, List.getElem_cons_zero, List.getElem_cons_succ] at x1 x2 y1 y2 p2
    clear hw8 hb12 hx hb H7 B7 P7 Q7 p8 q8
    go_upto_region 12 with fail
    rw [← HW8.out.1, ← HW8.out.2]
    clear HW8
    go_wp2_with fail
    (first | go_at_call 9 | skip)
    clear x1 x2 y1 y2 p2
    refine (HBx.out w8 H8.out).mono ?_
    rintro e w9 ⟨q9, d9, l9, u9, rfl, hb⟩
    have B9 : Hid (Below w.heap.size w w9) := chain B8.out hb
    have Q9 : Hid (w9.heap[b8]? = some (.cells #[.slice (some ⟨gq, 0, none⟩) L2.length d2, .int .i64 u2, .int .i64 v2] 28 (0, 0))) := (hb.block b8 (blkLt Q8.out)).trans Q8.out
    clear hb H8 B8 Q8
    obtain ⟨w10, hw10⟩ : ∃ w10, w10 = w9.alloc (Obj.cells #[.slice q9 l9 d9, .int .i64 u9, .int .i64 v3] 28) := ⟨_, rfl⟩
    obtain ⟨b14, hb14⟩ : ∃ b14, b14 = w9.heap.size := ⟨_, rfl⟩
    have HW10 : Hid (w10 = w9.alloc (Obj.cells #[.slice q9 l9 d9, .int .i64 u9, .int .i64 v3] 28) ∧ b14 = w9.heap.size) := ⟨hw10, hb14⟩
    obtain ⟨hx, hb⟩ := boxAt hw10
    rw [← hb14] at hx
    have B10 : Hid (Below w.heap.size w w10) := chain B9.out hb
    have q10 := (hb.block b8 (blkLt Q9.out)).trans Q9.out
    have x2 := blkCell hx 2 _ rfl
    have y2 := blkCell q10 2 _ rfl
    simp only [List.getElem_toArray, List.getElem_cons_zero, List.getElem_cons_succ] at x2 y2
    clear hw10 hb14 hx hb B9 Q9 q10
    go_upto_region 15 with fail
    rw [← HW10.out.1, ← HW10.out.2]
    clear HW10
    go_wp2
    go_ret
    exact ⟨rfl, B10.out⟩
  subst hc1
  clear HF5
  have z0 := blkCell Q6.out 0 _ rfl
  simp only [List.getElem_toArray, List.getElem_cons_zero] at z0
  go_wp2_with fail
  (first | go_at_call 8 | skip)
  clear z0
  refine (HSx.out gq d2 w6 H6.out O6.out).mono ?_
  rintro e w7 ⟨q7, d7, l7, rfl, hb⟩
  have H7 : Hid (ReadsFc w7.heap.size w7 (some ⟨g, 0, none⟩) ds) := H6.out.later hb
  have B7 : Hid (Below w.heap.size w w7) := chain B6.out hb
  have P7 : Hid (w7.heap[b6]? = some (.cells #[.slice q1 l1 d1, .int .i64 u1, .int .i64 v1] 28 (0, 0))) := (hb.block b6 (blkLt P6.out)).trans P6.out
  have Q7 : Hid (w7.heap[b8]? = some (.cells #[.slice (some ⟨gq, 0, none⟩) L2.length d2, .int .i64 u2, .int .i64 v2] 28 (0, 0))) := (hb.block b8 (blkLt Q6.out)).trans Q6.out
  clear hb H6 B6 P6 Q6 O6
  obtain ⟨w8, hw8⟩ : ∃ w8, w8 = w7.alloc (Obj.cells #[.slice q7 l7 d7, .int .i64 u2, .int .i64 v2] 28) := ⟨_, rfl⟩
  obtain ⟨b12, hb12⟩ : ∃ b12, b12 = w7.heap.size := ⟨_, rfl⟩
  have HW8 : Hid (w8 = w7.alloc (Obj.cells #[.slice q7 l7 d7, .int .i64 u2, .int .i64 v2] 28) ∧ b12 = w7.heap.size) := ⟨hw8, hb12⟩
  obtain ⟨hx, hb⟩ := boxAt hw8
  rw [← hb12] at hx
  have H8 : Hid (ReadsFc w8.heap.size w8 (some ⟨g, 0, none⟩) ds) := H7.out.later hb
  have B8 : Hid (Below w.heap.size w w8) := chain B7.out hb
  have p8 := (hb.block b6 (blkLt P7.out)).trans P7.out
  have q8 := (hb.block b8 (blkLt Q7.out)).trans Q7.out
  have Q8 : Hid (w8.heap[b8]? = some (.cells #[.slice (some ⟨gq, 0, none⟩) L2.length d2, .int .i64 u2, .int .i64 v2] 28 (0, 0))) := q8
  have x1 := blkCell hx 1 _ rfl
  have x2 := blkCell hx 2 _ rfl
  have y1 := blkCell q8 1 _ rfl
  have y2 := blkCell q8 2 _ rfl
  have p2 := blkCell p8 2 _ rfl
  simp only [List.getElem_toArray, List.getElem_cons_zero, List.getElem_cons_succ] at x1 x2 y1 y2 p2
  clear hw8 hb12 hx hb H7 B7 P7 Q7 p8 q8
  go_upto_region 12 with fail
  rw [← HW8.out.1, ← HW8.out.2]
  clear HW8
  go_wp2_with fail
  (first | go_at_call 9 | skip)
  clear x1 x2 y1 y2 p2
  refine (HBx.out w8 H8.out).mono ?_
  rintro e w9 ⟨q9, d9, l9, u9, rfl, hb⟩
  have B9 : Hid (Below w.heap.size w w9) := chain B8.out hb
  have Q9 : Hid (w9.heap[b8]? = some (.cells #[.slice (some ⟨gq, 0, none⟩) L2.length d2, .int .i64 u2, .int .i64 v2] 28 (0, 0))) := (hb.block b8 (blkLt Q8.out)).trans Q8.out
  clear hb H8 B8 Q8
  obtain ⟨w10, hw10⟩ : ∃ w10, w10 = w9.alloc (Obj.cells #[.slice q9 l9 d9, .int .i64 u9, .int .i64 v3] 28) := ⟨_, rfl⟩
  obtain ⟨b14, hb14⟩ : ∃ b14, b14 = w9.heap.size := ⟨_, rfl⟩
  have HW10 : Hid (w10 = w9.alloc (Obj.cells #[.slice q9 l9 d9, .int .i64 u9, .int .i64 v3] 28) ∧ b14 = w9.heap.size) := ⟨hw10, hb14⟩
  obtain ⟨hx, hb⟩ := boxAt hw10
  rw [← hb14] at hx
  have B10 : Hid (Below w.heap.size w w10) := chain B9.out hb
  have q10 := (hb.block b8 (blkLt Q9.out)).trans Q9.out
  have x2 := blkCell hx 2 _ rfl
  have y2 := blkCell q10 2 _ rfl
  simp only [List.getElem_toArray, List.getElem_cons_zero, List.getElem_cons_succ] at x2 y2
  clear hw10 hb14 hx hb B9 Q9 q10
  go_upto_region 15 with fail
  rw [← HW10.out.1, ← HW10.out.2]
  clear HW10
  go_wp2
  go_ret
  exact ⟨rfl, B10.out⟩

theorem own : ownKnob Try.prog.godebug = none := by kernel_rfl
theorem laidOut : laidOutB Try.prog = true := by kernel_rfl

set_option maxRecDepth 100000 in
theorem lifted (os : Os) (started : os.Started) (H : Type) (enc : TypeId × Value → H) :
    ReturnsInHanded {} Try.checked os 3 .any (Rows.fnShelfSpec.pre6 enc Try.prog Try.f3 Rows.fnShelfRow.domain false) (Rows.fnShelfSpec.post enc Try.prog Try.f3 false true false false) := by
  refine returnsInHanded_of_change (C := Try.checked) own started (by kernel_rfl) Try.func3
    (ChangeSpec.witness6 (enc := enc) (C := Try.checked) false ⟨#[], #[.slice none 0 0], []⟩ 8 (by kernel_rfl) (by kernel_rfl) (by kernel_rfl) (by kernel_rfl)) ?_
  intro W base args ds gs before hval0 hW hcnd _
  have hval : ∀ (j : Nat) t v, Try.f3.params[j]? = some t → args[j]? = some v → Value.okWide Try.prog W .any base t v := hval0
  have hW' := hW
  obtain ⟨p, q, hA0, hV, rfl, hfz, hnd⟩ := hW
  have hA : DataW.TrodAll enc Try.prog W 0 (fun _ => true) true Try.f3.params.toList args.toList ds p := hA0
  rw [Try.params3] at hA hval
  obtain ⟨v0, vs0, d0, ds0, p0, q0, hargs, rfl, rfl, h0, r0⟩ := trodAll_cons hA
  obtain ⟨rfl, rfl, rfl⟩ := trodAll_nil r0
  obtain rfl : args = #[v0] := by cases args; simp_all
  obtain ⟨rfl, rfl⟩ := trodVars_none hV
  have k0 := h0
  have lt0 : ∀ x ∈ p0, x.block < W.heap.size := by obtain ⟨m, hm⟩ := k0; exact DataW.trod_lt m _ _ _ hm
  obtain ⟨a0, len0, cap0, rfl⟩ := okWide_slice Try.underlying22 (hval 0 22 v0 rfl rfl)
  obtain ⟨z0, w0⟩ : ∃ zs, IsRow .u8 W a0 len0 cap0 zs := by
    obtain ⟨fuel, hf⟩ := h0
    rcases open_ints Try.underlying22 Try.underlying5 (by kernel_rfl) hf with ⟨hcs, _⟩ | ⟨x, l, c, zs, hcs, _, hl, hm, hz, _, hcell, hwz⟩
    · simp [Value.cells] at hcs
      obtain ⟨rfl, rfl, rfl⟩ := hcs
      exact ⟨[], .inl ⟨rfl, rfl, rfl, rfl⟩⟩
    · simp [Value.cells] at hcs
      obtain ⟨rfl, rfl, rfl⟩ := hcs
      exact ⟨zs, .inr ⟨_, rfl, hl, hm, by simpa using hz, hcell, hwz⟩⟩
  clear hA0 hval0
  refine (walk a0 len0 cap0 z0 W (rowB_of _ _ _ _ _ w0)).mono fun e W' ⟨he, bel⟩ => ?_
  subst he
  exact ⟨_, rfl, _, _, _, [], _, [], hW', trodAll_mk1 (shut_bool Try.underlying4 _), (trodAll_cons_mk (Below.trod laidOut (by kernel_rfl) (of_decide_eq_true (by kernel_rfl)) k0 bel lt0) trodAll_mk0), rfl, bel.frame _, fun h => by cases h⟩

theorem over : Rows.fnShelfRow.holds Try.pinned (OpenSpec.ofChange Rows.fnShelfSpec) :=
  OpenClaim.holds_of_wide 3 Try.f3 rfl rfl rfl rfl rfl rfl rfl ⟨rfl, rfl, rfl, rfl, rfl⟩ rfl rfl rfl rfl rfl (by kernel_rfl) Try.func3 (by kernel_rfl)
    (of_decide_eq_true (by kernel_rfl)) (by unfold Func.isWrapper; first | (rw [if_pos (by decide +kernel)]; kernel_rfl) | (rw [if_neg (by decide +kernel)]; exact ⟨rfl, rfl⟩))
    (fun os started H enc _ => lifted os started H enc)
end FnShelf

theorem fnShelf_holds : Rows.FnShelfSaid := FnShelf.over
end Go.Proofs.Ytphefbaogfknoaa

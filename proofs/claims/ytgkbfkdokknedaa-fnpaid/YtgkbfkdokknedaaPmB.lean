/-
  Contracts of the program's paidBy and PayMix, for every total and every list of tenders.
-/
import Derived.Test.YtgkbfkdokknedaaPmA
namespace Go.Proofs.Ytgkbfkdokknedaa
open Go.ChangeShapes Go.WideShapes Go.ChangeAt Go.RowKit
set_option linter.unusedVariables false

set_option maxHeartbeats 4000000 in
theorem paidBy_any (s0 s1 s2 s3 total : Int) (h1 : 0 ≤ s1 ∧ s1 ≤ 1000000000000000) (h2 : 0 ≤ s2 ∧ s2 ≤ 1000000000000000) (h3 : 0 ≤ s3 ∧ s3 ≤ 1000000000000000) (ht : 0 ≤ total ∧ total ≤ 1000000000) (w : World) :
    Calls Try.prog 28 #[.agg #[.int .i64 s0, .int .i64 s1, .int .i64 s2, .int .i64 s3], .int .i64 total] w fun e w' => e = .returned (.tuple #[paid6 s1 s2 s3 total, .int .i64 (paidC s1 s2 s3 total)]) ∧ Below w.heap.size w w' := by
  have hp1 := fun w => pays_any s1 total h1.1 h1.2 ht.1 ht.2 w
  unfold paid6 paidC
  have hpb : 0 ≤ min s1 total ∧ min s1 total ≤ total := by omega
  have hp2 := fun (h : ¬ total - min s1 total < s2) w => pays_any s3 (total - min s1 total - s2) h3.1 h3.2 (by omega) (by omega) w
  generalize min s1 total = p at *
  have l1 : ∀ n : Nat, n < n + 1 + 1 := fun n => by omega
  have l2 : ∀ n : Nat, n < n + 2 := fun n => by omega
  have l3 : ∀ n : Nat, n < n + 3 := fun n => by omega
  have l4 : ∀ n : Nat, n + 1 < n + 3 := fun n => by omega
  have l5 : ∀ n : Nat, n + 2 < n + 3 := fun n => by omega
  by_cases h : total - p < s2
  · rw [if_pos h, if_pos h]
    clear hp2
    go_enter Try.func28, Try.ntmps28
    go_wp2_with (go_at_call 39; refine (hp1 _).mono ?_; rintro e w2 ⟨rfl, hq⟩; rw [hq]; clear hq w2)
    refine bodyPost_ret (v := .tuple #[.agg #[.int .i64 0, .int .i64 0, .int .i64 0, .int .i64 0, .int .i64 0, .int .i64 0], .int .i64 5]) (by simp [results, Try.results28, go_sem]) rfl ⟨rfl, ?_⟩
    repeat (first | exact Below.refl _ _ | refine chain ?_ (below_alloc _ _) | refine Below.setCell ?_ (by dsimp only; omega) _)
  · rw [if_neg h, if_neg h]
    have hp2' := hp2 h
    have h' : s2 ≤ total - p := by omega
    have hqb : 0 ≤ min s3 (total - p - s2) ∧ min s3 (total - p - s2) ≤ total - p - s2 ∧ min s3 (total - p - s2) ≤ s3 := by omega
    clear hp2 h
    generalize min s3 (total - p - s2) = q at *
    go_enter Try.func28, Try.ntmps28
    go_wp2_with (first | (go_at_call 39; refine (hp1 _).mono ?_; rintro e w2 ⟨rfl, hq⟩; rw [hq]; clear hq w2 hp1) | (go_at_call 39; refine (hp2' _).mono ?_; rintro e w2 ⟨rfl, hq⟩; rw [hq]; clear hq w2))
    refine bodyPost_ret (v := .tuple #[.agg #[.int .i64 p, .int .i64 s2, .int .i64 q, .int .i64 (s1 - p), .int .i64 (s3 - q), .int .i64 (total - p - s2 - q)], .int .i64 0]) (by simp [results, Try.results28, go_sem]) rfl ⟨rfl, ?_⟩
    repeat (first | exact Below.refl _ _ | refine chain ?_ (below_alloc _ _) | refine Below.setCell ?_ (by dsimp only; omega) _)

/-- Numbers that lie in block b, free to write. -/
def SumAt (w : World) (b n : Nat) (f : Nat → Int) : Prop := b < w.heap.size ∧ ∀ i, i < n → w.cell? ⟨b, i, none⟩ = some (.int .i64 (f i)) ∧ w.frozen? ⟨b, i, none⟩ = false
theorem SumAt.below {w w' : World} {b n : Nat} {f : Nat → Int} (h : SumAt w b n f) (hb : Below w.heap.size w w') : SumAt w' b n f :=
  ⟨Nat.lt_of_lt_of_le h.1 hb.size, fun i hi => ⟨(hb.cell (p := ⟨b, i, none⟩) h.1).trans (h.2 i hi).1, (hb.frozen (p := ⟨b, i, none⟩) h.1).trans (h.2 i hi).2⟩⟩
theorem SumAt.put {w : World} {b n : Nat} {f g : Nat → Int} (h : SumAt w b n f) (k : Nat) (x : Int) (hk : k < n) (hg : ∀ i, i < n → g i = if i = k then x else f i) : SumAt (w.setCell ⟨b, k, none⟩ (.int .i64 x)) b n g := by
  refine ⟨by rw [World.size_setCell]; exact h.1, fun i hi => ⟨?_, by rw [World.frozen?_setCell]; exact (h.2 i hi).2⟩⟩
  rw [hg i hi]
  by_cases e : i = k
  · rw [if_pos e, e]; exact World.cell?_setCell_same _ _ _ (h.2 k hk).1
  · rw [if_neg e, World.cell?_setCell_other _ _ _ _ (fun h => e (by first | (simp at h; omega) | (simp at h; done) | (cases h; rfl)))]; exact (h.2 i hi).1
theorem SumAt.far {w : World} {b c n k : Nat} {f : Nat → Int} (h : SumAt w b n f) (hc : c ≠ b) (v : Value) : SumAt (w.setCell ⟨c, k, none⟩ v) b n f :=
  ⟨by rw [World.size_setCell]; exact h.1, fun i hi => ⟨by rw [World.cell?_setCell_far _ _ _ _ (by exact hc)]; exact (h.2 i hi).1, by rw [World.frozen?_setCell]; exact (h.2 i hi).2⟩⟩
theorem six_new (w w2 : World) (t : TypeId) (hb : Below (w.alloc (Obj.cells #[.int .i64 0, .int .i64 0, .int .i64 0, .int .i64 0, .int .i64 0, .int .i64 0] t)).heap.size (w.alloc (Obj.cells #[.int .i64 0, .int .i64 0, .int .i64 0, .int .i64 0, .int .i64 0, .int .i64 0] t)) w2) : SumAt w2 w.heap.size 6 (fun _ => 0) ∧ Below w.heap.size w w2 := by
  refine ⟨SumAt.below ⟨by simp, fun i hi => ?_⟩ hb, chain (below_alloc _ _) hb⟩
  rcases (by omega : i = 0 ∨ i = 1 ∨ i = 2 ∨ i = 3 ∨ i = 4 ∨ i = 5) with rfl | rfl | rfl | rfl | rfl | rfl <;> exact ⟨by simp, by simp⟩
theorem SumAt.six {w : World} {b : Nat} (h : SumAt w b 6 (fun _ => 0)) : (w.cell? ⟨b, 0, none⟩ = some (.int .i64 0) ∧ w.cell? ⟨b, 1, none⟩ = some (.int .i64 0) ∧ w.cell? ⟨b, 2, none⟩ = some (.int .i64 0) ∧ w.cell? ⟨b, 3, none⟩ = some (.int .i64 0) ∧ w.cell? ⟨b, 4, none⟩ = some (.int .i64 0) ∧ w.cell? ⟨b, 5, none⟩ = some (.int .i64 0)) ∧ w.frozen? ⟨b, 0, none⟩ = false ∧ w.frozen? ⟨b, 1, none⟩ = false ∧ w.frozen? ⟨b, 2, none⟩ = false ∧ w.frozen? ⟨b, 3, none⟩ = false ∧ w.frozen? ⟨b, 4, none⟩ = false ∧ w.frozen? ⟨b, 5, none⟩ = false :=
  ⟨⟨(h.2 0 (by omega)).1, (h.2 1 (by omega)).1, (h.2 2 (by omega)).1, (h.2 3 (by omega)).1, (h.2 4 (by omega)).1, (h.2 5 (by omega)).1⟩, (h.2 0 (by omega)).2, (h.2 1 (by omega)).2, (h.2 2 (by omega)).2, (h.2 3 (by omega)).2, (h.2 4 (by omega)).2, (h.2 5 (by omega)).2⟩
theorem below_six {B b : Nat} {w0 w : World} (h : Below B w0 w) (hB : B ≤ b) (v0 v1 v2 v3 v4 v5 : Value) : Below B w0 ((((((w.setCell ⟨b, 0, none⟩ v0).setCell ⟨b, 1, none⟩ v1).setCell ⟨b, 2, none⟩ v2).setCell ⟨b, 3, none⟩ v3).setCell ⟨b, 4, none⟩ v4).setCell ⟨b, 5, none⟩ v5) :=
  (((((h.setCell hB _).setCell hB _).setCell hB _).setCell hB _).setCell hB _).setCell hB _
def z6 : Value := .agg #[.int .i64 0, .int .i64 0, .int .i64 0, .int .i64 0, .int .i64 0, .int .i64 0]
theorem pm_ways (total : Int) (rs : List RTd) : (4096 < rs.length ∧ pmCode total rs = 2 ∧ pmVal total rs = z6) ∨ (rs.length ≤ 4096 ∧ 20 < rs.length ∧ pmCode total rs = 9 ∧ pmVal total rs = z6) ∨ (rs.length ≤ 20 ∧ (total < 0 ∨ 1000000000 < total) ∧ pmCode total rs = 1 ∧ pmVal total rs = z6) ∨ (rs.length ≤ 20 ∧ (0 ≤ total ∧ total ≤ 1000000000) ∧ rs.all tdB = false ∧ pmCode total rs = 1 ∧ pmVal total rs = z6) ∨ (rs.length ≤ 20 ∧ (0 ≤ total ∧ total ≤ 1000000000) ∧ rs.all tdB = true ∧ pmCode total rs = paidC (sumK rs 1) (sumK rs 2) (sumK rs 3) total ∧ pmVal total rs = paid6 (sumK rs 1) (sumK rs 2) (sumK rs 3) total) := by
  unfold pmCode pmVal
  by_cases h1 : 4096 < rs.length
  · exact .inl ⟨h1, by rw [if_pos h1], by rw [if_pos h1]; rfl⟩
  rw [if_neg h1, if_neg h1]
  by_cases h2 : 20 < rs.length
  · exact .inr (.inl ⟨by omega, h2, by rw [if_pos h2], by rw [if_pos h2]; rfl⟩)
  rw [if_neg h2, if_neg h2]
  by_cases h3 : total < 0 ∨ 1000000000 < total
  · have h3' : total < 0 ∨ 1000000000 < total ∨ rs.all tdB = false := h3.imp id .inl
    exact .inr (.inr (.inl ⟨by omega, h3, by rw [if_pos h3'], by rw [if_pos h3']; rfl⟩))
  cases h4 : rs.all tdB
  · have h4' : total < 0 ∨ 1000000000 < total ∨ false = false := .inr (.inr rfl)
    exact .inr (.inr (.inr (.inl ⟨by omega, by omega, rfl, by rw [if_pos h4'], by rw [if_pos h4']; rfl⟩)))
  · have h4' : ¬ (total < 0 ∨ 1000000000 < total ∨ true = false) := by simp; omega
    exact .inr (.inr (.inr (.inr ⟨by omega, by omega, rfl, by rw [if_neg h4'], by rw [if_neg h4']⟩)))
theorem paid6_form (s1 s2 s3 total : Int) : ∃ x0 x1 x2 x3 x4 x5 : Int, paid6 s1 s2 s3 total = .agg #[.int .i64 x0, .int .i64 x1, .int .i64 x2, .int .i64 x3, .int .i64 x4, .int .i64 x5] := by
  unfold paid6
  split
  · exact ⟨_, _, _, _, _, _, rfl⟩
  · exact ⟨_, _, _, _, _, _, rfl⟩

set_option maxHeartbeats 4000000 in
set_option maxRecDepth 4000 in
theorem implPay_any (total : Int) (a : Option Addr) (cap : Nat) (rs : List RTd) (hl : rs.length ≤ 100000000) (w : World) (hr : ReadsTd w.heap.size w a rs) :
    Calls Try.prog 14 #[.int .i64 total, .slice a rs.length cap] w fun e w' => e = .returned (.tuple #[pmVal total rs, .int .i64 (pmCode total rs)]) ∧ Below w.heap.size w w' := by
  have HR : Hid (ReadsTd w.heap.size w a rs) := hr
  have HT : Hid (∀ W, Below w.heap.size w W → Calls Try.prog 26 #[.slice a rs.length cap] W fun e w' => e = .returned (.bool (rs.all tdB)) ∧ Below W.heap.size W w') := fun W hW => tendersOK_any a cap rs hl W ((hr.below hW).mono hW.size)
  clear hr
  rcases pm_ways total rs with ⟨h1, hc, hv⟩ | ⟨h1, h2, hc, hv⟩ | ⟨h1, h2, hc, hv⟩ | ⟨h1, h2, h3, hc, hv⟩ | ⟨h1, h2, h3, hc, hv⟩
  · rw [hc, hv]
    unfold z6
    have h1' : 4096 < (rs.length : Int) := by omega
    clear hc hv HT
    go_enter Try.func14, Try.ntmps14
    go_wp2
    refine bodyPost_ret (v := .tuple #[.agg #[.int .i64 0, .int .i64 0, .int .i64 0, .int .i64 0, .int .i64 0, .int .i64 0], .int .i64 2]) (by simp [results, Try.results14, go_sem]) rfl ⟨rfl, ?_⟩
    repeat (first | exact Below.refl _ _ | refine chain ?_ (below_alloc _ _) | refine Below.setCell ?_ (by dsimp only; omega) _)
  · rw [hc, hv]
    unfold z6
    have h1' : (rs.length : Int) ≤ 4096 := by omega
    have h2' : 20 < (rs.length : Int) := by omega
    clear hc hv HT
    go_enter Try.func14, Try.ntmps14
    go_wp2
    refine bodyPost_ret (v := .tuple #[.agg #[.int .i64 0, .int .i64 0, .int .i64 0, .int .i64 0, .int .i64 0, .int .i64 0], .int .i64 9]) (by simp [results, Try.results14, go_sem]) rfl ⟨rfl, ?_⟩
    repeat (first | exact Below.refl _ _ | refine chain ?_ (below_alloc _ _) | refine Below.setCell ?_ (by dsimp only; omega) _)
  · rw [hc, hv]
    unfold z6
    have h1' : (rs.length : Int) ≤ 4096 := by omega
    have h2' : (rs.length : Int) ≤ 20 := by omega
    clear hc hv HT
    rcases h2 with h2 | h2
    · go_enter Try.func14, Try.ntmps14
      go_wp2
      refine bodyPost_ret (v := .tuple #[.agg #[.int .i64 0, .int .i64 0, .int .i64 0, .int .i64 0, .int .i64 0, .int .i64 0], .int .i64 1]) (by simp [results, Try.results14, go_sem]) rfl ⟨rfl, ?_⟩
      repeat (first | exact Below.refl _ _ | refine chain ?_ (below_alloc _ _) | refine Below.setCell ?_ (by dsimp only; omega) _)
    · have h3' : ¬ total < 0 := by omega
      go_enter Try.func14, Try.ntmps14
      go_wp2
      refine bodyPost_ret (v := .tuple #[.agg #[.int .i64 0, .int .i64 0, .int .i64 0, .int .i64 0, .int .i64 0, .int .i64 0], .int .i64 1]) (by simp [results, Try.results14, go_sem]) rfl ⟨rfl, ?_⟩
      repeat (first | exact Below.refl _ _ | refine chain ?_ (below_alloc _ _) | refine Below.setCell ?_ (by dsimp only; omega) _)
  · rw [hc, hv]
    unfold z6
    have h1' : (rs.length : Int) ≤ 4096 := by omega
    have h2' : (rs.length : Int) ≤ 20 := by omega
    obtain ⟨t1, t2⟩ := h2
    have HT' := HT.out
    rw [h3] at HT'
    clear hc hv HT
    go_enter Try.func14, Try.ntmps14
    go_wp2_with fail
    (first | go_at_call 26 | skip)
    refine (HT' _ (by repeat (first | exact Below.refl _ _ | refine chain ?_ (below_alloc _ _) | refine chain ?_ (below_drew _)))).mono ?_
    rintro e w2 ⟨rfl, hb2⟩
    obtain ⟨hz6, hbw⟩ := six_new w w2 _ hb2
    obtain ⟨⟨y0, y1, y2, y3, y4, y5⟩, g0, g1, g2, g3, g4, g5⟩ := hz6.six
    have HB2 : Hid (Below w.heap.size w w2) := hbw
    have hsz : w.heap.size ≤ w.heap.size := Nat.le_refl _
    clear hb2 HT' hbw hz6
    go_wp2
    refine bodyPost_ret (v := .tuple #[.agg #[.int .i64 0, .int .i64 0, .int .i64 0, .int .i64 0, .int .i64 0, .int .i64 0], .int .i64 1]) (by simp [results, Try.results14, go_sem, y0, y1, y2, y3, y4, y5]) rfl ⟨rfl, ?_⟩
    exact below_six HB2.out (Nat.le_refl _) _ _ _ _ _ _
  · rw [hc, hv]
    have h1' : (rs.length : Int) ≤ 4096 := by omega
    have h2' : (rs.length : Int) ≤ 20 := by omega
    obtain ⟨t1, t2⟩ := h2
    have HT' := HT.out
    rw [h3] at HT'
    have HAll : Hid (∀ r ∈ rs, tdB r = true) := fun r hr => by rw [List.all_eq_true] at h3; exact h3 r hr
    have HPd := fun s0 w => paidBy_any s0 (sumK rs 1) (sumK rs 2) (sumK rs 3) total (by have := sumK_bound rs HAll.out 1 rs.length (Nat.le_refl _); rw [List.take_length] at this; omega) (by have := sumK_bound rs HAll.out 2 rs.length (Nat.le_refl _); rw [List.take_length] at this; omega) (by have := sumK_bound rs HAll.out 3 rs.length (Nat.le_refl _); rw [List.take_length] at this; omega) ⟨t1, t2⟩ w
    obtain ⟨x0, x1, x2, x3, x4, x5, hx⟩ := paid6_form (sumK rs 1) (sumK rs 2) (sumK rs 3) total
    rw [hx] at HPd ⊢
    generalize paidC (sumK rs 1) (sumK rs 2) (sumK rs 3) total = pc at *
    have HPD : Hid (∀ s0 w, Calls Try.prog 28 #[.agg #[.int .i64 s0, .int .i64 (sumK rs 1), .int .i64 (sumK rs 2), .int .i64 (sumK rs 3)], .int .i64 total] w fun e w' => e = .returned (.tuple #[.agg #[.int .i64 x0, .int .i64 x1, .int .i64 x2, .int .i64 x3, .int .i64 x4, .int .i64 x5], .int .i64 pc]) ∧ Below w.heap.size w w') := HPd
    have HBnd : Hid (∀ k i, i ≤ rs.length → 0 ≤ sumK (rs.take i) k ∧ sumK (rs.take i) k ≤ (i : Int) * 10000000000000) := fun k i hi => sumK_bound rs HAll.out k i hi
    clear hc hv HT hx h3 HPd
    go_enter Try.func14, Try.ntmps14
    go_wp2_with fail
    (first | go_at_call 26 | skip)
    refine (HT' _ (by repeat (first | exact Below.refl _ _ | refine chain ?_ (below_alloc _ _) | refine chain ?_ (below_drew _)))).mono ?_
    rintro e w2 ⟨rfl, hb2⟩
    obtain ⟨hz6, hbw⟩ := six_new w w2 _ hb2
    have HZ2 : Hid (SumAt w2 w.heap.size 6 (fun _ => 0)) := hz6
    have HB2 : Hid (Below w.heap.size w w2) := hbw
    clear hb2 HT' hz6 hbw
    have hd1 : decide (total < 0) = false := decide_eq_false (by omega)
    have hd2 : decide (1000000000 < total) = false := decide_eq_false (by omega)
    have hd3 : decide (4096 < (rs.length : Int)) = false := decide_eq_false (by omega)
    have hd4 : decide (20 < (rs.length : Int)) = false := decide_eq_false (by omega)
    have HS0 : Hid (SumAt (w2.alloc (Obj.cells #[.int .i64 0, .int .i64 0, .int .i64 0, .int .i64 0] 61)) w2.heap.size 4 (fun i => sumK (rs.take 0) i)) := ⟨by simp, fun i hi => by rcases (by omega : i = 0 ∨ i = 1 ∨ i = 2 ∨ i = 3) with rfl | rfl | rfl | rfl <;> exact ⟨by simp [sumK], by simp⟩⟩
    have HZ0 : Hid (SumAt (w2.alloc (Obj.cells #[.int .i64 0, .int .i64 0, .int .i64 0, .int .i64 0] 61)) w.heap.size 6 (fun _ => 0)) := HZ2.out.below (below_alloc _ _)
    have HB0 : Hid (Below w.heap.size w (w2.alloc (Obj.cells #[.int .i64 0, .int .i64 0, .int .i64 0, .int .i64 0] 61))) := chain HB2.out (below_alloc _ _)
    have hne : w.heap.size < w2.heap.size := HZ2.out.1
    go_wp2
    clear HZ2
    obtain ⟨sb, hsb⟩ : ∃ sb, sb = w2.heap.size := ⟨_, rfl⟩
    rw [← hsb] at HS0 hne ⊢
    clear hsb
    obtain ⟨pb, hpb⟩ : ∃ pb, pb = w.heap.size := ⟨_, rfl⟩
    have HPb : Hid (w.heap.size ≤ pb) := by rw [hpb]; exact Nat.le_refl _
    rw [← hpb] at HZ0 hne ⊢
    have hsb0 : w.heap.size ≤ sb := by omega
    clear hpb
    go_loopw [33] (fun c wr => ∃ k : Nat, k ≤ rs.length ∧ c = .int .i64 (k : Int) ∧ SumAt wr sb 4 (fun i => sumK (rs.take k) i) ∧ SumAt wr pb 6 (fun _ => 0) ∧ Below w.heap.size w wr) (fun c _ => rs.length - (intOf c).toNat)
    case atStart => exact ⟨0, Nat.zero_le _, rfl, HS0.out, HZ0.out, HB0.out⟩
    case round =>
      clear HS0 HZ0 HB0 HB2
      obtain ⟨k, hk, rfl, hs, hz, hb⟩ := hrel
      have HS : Hid (SumAt wr sb 4 (fun i => sumK (rs.take k) i)) := hs
      have HZ : Hid (SumAt wr pb 6 (fun _ => 0)) := hz
      have HB : Hid (Below w.heap.size w wr) := hb
      clear hs hz hb
      by_cases hlt : k < rs.length
      · have hlt' : (k : Int) < (rs.length : Int) := by omega
        rcases HR.out with h | ⟨b0, o0, ha, hB0, ia⟩
        · rw [h] at hlt; simp at hlt
        obtain ⟨c0, c1, c2, c3⟩ := (ia.below HB.out hB0) k hlt
        have htb := getTd HAll.out hlt
        have hC := fun w => counted_any (rs.getD k zTd) htb w
        obtain ⟨⟨hk1, hk2⟩, hv1, hv2⟩ := td_right htb
        have HNx : Hid (∀ i, sumK (rs.take (k + 1)) i = sumK (rs.take k) i + (if tdK (rs.getD k zTd) = i then tdV (rs.getD k zTd) else 0)) := fun i => sumK_next rs i k hlt
        have hsb1 := fun i => HBnd.out i k (by omega)
        subst ha
        clear ia htb
        generalize tdK (rs.getD k zTd) = kn at *
        generalize tdV (rs.getD k zTd) = vv at *
        generalize rs.getD k zTd = q at *
        obtain ⟨kd, am, n, d⟩ := q
        dsimp only at c0 c1 c2 c3 hC
        go_wp2_with fail
        (first | go_at_call 27 | skip)
        refine (hC _).mono ?_
        rintro e w3 ⟨rfl, hb3⟩
        have HB3 : Hid (Below wr.heap.size wr w3) := chain (below_alloc _ _) hb3
        have HS3 : Hid (SumAt w3 sb 4 (fun i => sumK (rs.take k) i)) := HS.out.below HB3.out
        have HZ3 : Hid (SumAt w3 pb 6 (fun _ => 0)) := HZ.out.below HB3.out
        have HW3 : Hid (Below w.heap.size w w3) := chain HB.out HB3.out
        obtain ⟨k5, k6⟩ := HS3.out.2 kn (by omega)
        have hs1 := hsb1 kn
        have hkk : (kn : Int) < 4 := by omega
        have HSn : Hid (SumAt (w3.setCell ⟨sb, kn, none⟩ (.int .i64 (sumK (rs.take k) kn + vv))) sb 4 (fun i => sumK (rs.take (k + 1)) i)) := HS3.out.put kn _ (by omega) (fun i hi => by
          rw [HNx.out i]
          by_cases e : i = kn
          · rw [if_pos e, e, if_pos rfl]
          · rw [if_neg e, if_neg (fun h => e h.symm)]; omega)
        have HZn : Hid (SumAt (w3.setCell ⟨sb, kn, none⟩ (.int .i64 (sumK (rs.take k) kn + vv))) pb 6 (fun _ => 0)) := HZ3.out.far (by omega) _
        have HWn : Hid (Below w.heap.size w (w3.setCell ⟨sb, kn, none⟩ (.int .i64 (sumK (rs.take k) kn + vv)))) := HW3.out.setCell hsb0 _
        dsimp only at k5
        clear hb3 HB3 HS3 HZ3 HW3 HS HZ HB hsb1 HNx c0 c1 c2 c3 hC
        generalize sumK (rs.take k) kn = s0 at *
        have g1 : IntKind.i64.wrap (s0 + vv) = s0 + vv := wrap_id _ (by omega) (by omega)
        go_wp2
        go_roundw
        case rel => exact ⟨k + 1, by omega, by go_num, HSn.out, HZn.out, HWn.out⟩
        case measure => simp [intOf]; omega
      · obtain rfl : k = rs.length := by omega
        have hs4 := HS.out
        rw [List.take_length] at hs4
        have j0 := (hs4.2 0 (by omega)).1
        have j1 := (hs4.2 1 (by omega)).1
        have j2 := (hs4.2 2 (by omega)).1
        have j3 := (hs4.2 3 (by omega)).1
        dsimp only at j0 j1 j2 j3
        have hPD := fun w => HPD.out (sumK rs 0) w
        generalize sumK rs 0 = s0 at *
        generalize sumK rs 1 = s1 at *
        generalize sumK rs 2 = s2 at *
        generalize sumK rs 3 = s3 at *
        clear hs4 HS
        go_wp2_with fail
        (first | go_at_call 28 | skip)
        refine (hPD _).mono ?_
        rintro e w4 ⟨rfl, hb4⟩
        obtain ⟨⟨y0, y1, y2, y3, y4, y5⟩, g0, g1, g2, g3, g4, g5⟩ := (HZ.out.below hb4).six
        have HB4 : Hid (Below w.heap.size w w4) := chain HB.out hb4
        clear hb4 j0 j1 j2 j3 hPD HZ HB
        go_wp2
        refine bodyPost_ret (v := .tuple #[.agg #[.int .i64 x0, .int .i64 x1, .int .i64 x2, .int .i64 x3, .int .i64 x4, .int .i64 x5], .int .i64 pc]) (by simp [results, Try.results14, go_sem, y0, y1, y2, y3, y4, y5]) rfl ⟨rfl, ?_⟩
        exact below_six HB4.out HPb.out _ _ _ _ _ _
end Go.Proofs.Ytgkbfkdokknedaa

/-
  Contract of the program's cutShort, for every need.
-/
import Derived.Test.YtbgjekhekjbcpaaOrA
namespace Go.Proofs.Ytbgjekhekjbcpaa
open Go.ChangeShapes Go.WideShapes Go.ChangeAt Go.RowKit Go.Joins Go.Deep
set_option linter.unusedVariables false

theorem keepNd {W w1 : World} {bk : Nat} {a b c d e f : Int} (hb : Below W.heap.size W w1) (h : W.cell? ⟨bk, 0, none⟩ = some (.int .i64 a) ∧ W.cell? ⟨bk, 1, none⟩ = some (.int .i64 b) ∧ W.cell? ⟨bk, 2, none⟩ = some (.int .i64 c) ∧ W.cell? ⟨bk, 3, none⟩ = some (.int .i64 d) ∧ W.cell? ⟨bk, 4, none⟩ = some (.int .i64 e) ∧ W.cell? ⟨bk, 5, none⟩ = some (.int .i64 f) ∧ bk < W.heap.size) : w1.cell? ⟨bk, 0, none⟩ = some (.int .i64 a) ∧ w1.cell? ⟨bk, 1, none⟩ = some (.int .i64 b) ∧ w1.cell? ⟨bk, 2, none⟩ = some (.int .i64 c) ∧ w1.cell? ⟨bk, 3, none⟩ = some (.int .i64 d) ∧ w1.cell? ⟨bk, 4, none⟩ = some (.int .i64 e) ∧ w1.cell? ⟨bk, 5, none⟩ = some (.int .i64 f) ∧ bk < w1.heap.size := NdAt.later h hb
def AnsO (B : Nat) (u : Int) (t : Bool) (c : Int) (w : World) (e : Ending) (w' : World) : Prop := e = .returned (.tuple #[.int .i64 u, .bool t, .int .i64 c]) ∧ Below B w w'
theorem chainD {B : Nat} {w a b : World} (h : Below B w a) (hB : B ≤ a.heap.size) (k : Below a.drew.heap.size a.drew b) : Below B w b := h.drew.trans (k.mono hB)
set_option maxHeartbeats 2000000 in
theorem cutShort_any (a b c d e f : Int) (hb : 0 ≤ b ∧ b ≤ 100000) (hc : 0 ≤ c ∧ c ≤ 100000) (hd : 1 ≤ d ∧ d ≤ 100000) (he : 0 ≤ e ∧ e ≤ 100000) (hf : 0 ≤ f ∧ f ≤ 100000) (ha : b + c < a ∧ a ≤ 100000) (w : World) :
    Calls Try.prog 35 #[.agg #[.int .i64 a, .int .i64 b, .int .i64 c, .int .i64 d, .int .i64 e, .int .i64 f]] w (AnsO w.heap.size (if odR (b + c) d f * d < max e 1 then 0 else odR (b + c) d f * d) (if odR (b + c) d f * d < max e 1 then false else true) (if odR (b + c) d f * d < max e 1 then 14 else 0) w) := by
  have HT : Hid (∀ W, Calls Try.prog 33 #[.agg #[.int .i64 a, .int .i64 b, .int .i64 c, .int .i64 d, .int .i64 e, .int .i64 f]] W fun e' w' => e' = .returned (.int .i64 (b + c)) ∧ Below W.heap.size W w') := fun W => there_any a b c d e f hb hc W
  obtain ⟨n1, n2, n3, n4, n5, n6, ⟨n7, n8, n10⟩, n9, n11⟩ := od_nums (a := a) (th := b + c) (d := d) (e := e) (f := f) (by omega) (by omega) hd he hf
  obtain ⟨d1, d2⟩ := hd
  obtain ⟨e1, e2⟩ := he
  obtain ⟨f1, f2⟩ := hf
  obtain ⟨df, hdf⟩ : ∃ df, f - (b + c) = df := ⟨_, rfl⟩
  have w1 : IntKind.i64.wrap (f - (b + c)) = df := by rw [← hdf]; exact wrap_id _ (by omega) (by omega)
  have z0 : (d == 0) = false := by simp; omega
  have z1 : ¬ d = 0 := by omega
  have w2 : IntKind.i64.wrap ((max (f - (b + c)) 0).tmod d) = (max (f - (b + c)) 0).tmod d := wrap_id _ (by rw [n11]; omega) (by rw [n11]; omega)
  have w3 : IntKind.i64.wrap (max (f - (b + c)) 0 - (max (f - (b + c)) 0).tmod d) = odR (b + c) d f * d := by rw [n3]; exact wrap_id _ (by omega) (by omega)
  have n12 : odR (b + c) d f * d ≤ 100000 := by omega
  have n13 : f - (b + c) ≤ 0 → odR (b + c) d f * d = 0 := fun h => by omega
  clear n1 n2 n3 n4 n5 n6 n8 n9 n10 n11 ha hb hc
  rw [hdf] at w2 w3 n13
  clear hdf
  generalize odR (b + c) d f * d = u at *
  generalize hth2 : b + c = th at *
  clear hth2
  have HU : Hid (u < max e 1 ↔ (u = 0 ∨ u < e)) := by show _ ↔ _; omega
  have z64 : wrap64 0 = 0 := by unfold wrap64; omega
  by_cases hs : df < 0
  · have hz : u = 0 := n13 (by omega)
    have hu : u < max e 1 := HU.out.2 (.inl hz)
    simp only [if_pos hu]
    clear hz hu HU n7 n12 n13 w2 w3
    have HN0 : Hid (NdAt (w.alloc (Obj.cells #[.int .i64 a, .int .i64 b, .int .i64 c, .int .i64 d, .int .i64 e, .int .i64 f] 24)) w.heap.size a b c d e f) := ndNew w a b c d e f _
    have HB0 : Hid (Below w.heap.size w (w.alloc (Obj.cells #[.int .i64 a, .int .i64 b, .int .i64 c, .int .i64 d, .int .i64 e, .int .i64 f] 24))) := below_alloc _ _
    go_enter Try.func35, Try.ntmps35
    go_upto_region 1 with fail
    generalize (w.alloc (Obj.cells #[.int .i64 a, .int .i64 b, .int .i64 c, .int .i64 d, .int .i64 e, .int .i64 f] 24)) = W0 at *
    generalize w.heap.size = bk at *
    obtain ⟨c0, c1, c2, c3, c4, c5, lt⟩ := HN0.out
    go_region_held3 (fun W => W.cell? ⟨bk, 0, none⟩ = some (.int .i64 a) ∧ W.cell? ⟨bk, 1, none⟩ = some (.int .i64 b) ∧ W.cell? ⟨bk, 2, none⟩ = some (.int .i64 c) ∧ W.cell? ⟨bk, 3, none⟩ = some (.int .i64 d) ∧ W.cell? ⟨bk, 4, none⟩ = some (.int .i64 e) ∧ W.cell? ⟨bk, 5, none⟩ = some (.int .i64 f) ∧ bk < W.heap.size) (first | exact keepNd (below_drew _) ⟨c0, c1, c2, c3, c4, c5, lt⟩ | exact keepNd (by assumption) (by assumption)) (first | (go_at_call 33; refine (HT.out _).mono ?_; rintro e' w5 ⟨rfl, hb5⟩))
    have HN5 : Hid (NdAt w5 bk a b c d e f) := (NdAt.later ⟨c0, c1, c2, c3, c4, c5, lt⟩ (below_drew _)).later hb5
    have HB5 : Hid (Below bk w w5) := chainD HB0.out (Nat.le_of_lt lt) hb5
    clear c0 c1 c2 c3 c4 c5 lt hb5 HN0 HB0
    obtain ⟨c0, c1, c2, c3, c4, c5, lt⟩ := HN5.out
    go_wp2
    go_ret3
    exact ⟨rfl, HB5.out⟩
  have hs' : 0 ≤ df := by omega
  rw [show max df 0 = df by omega] at w2 w3
  obtain ⟨q, hq⟩ : ∃ q, Int.tmod df d = q := ⟨_, rfl⟩
  have hq2 : df % d = q := by rw [← hq]; exact (Int.tmod_eq_emod_of_nonneg (by omega)).symm
  rw [hq] at w2 w3
  clear n13 hs
  rcases (by omega : u = 0 ∨ (u ≠ 0 ∧ u < e) ∨ (u ≠ 0 ∧ e ≤ u)) with hz | ⟨hz, hz2⟩ | ⟨hz, hz2⟩
  · have hu : u < max e 1 := HU.out.2 (.inl hz)
    have hz' : (u == 0) = true := by simp [hz]
    simp only [if_pos hu]
    clear hz hu HU n7 n12
    have HN0 : Hid (NdAt (w.alloc (Obj.cells #[.int .i64 a, .int .i64 b, .int .i64 c, .int .i64 d, .int .i64 e, .int .i64 f] 24)) w.heap.size a b c d e f) := ndNew w a b c d e f _
    have HB0 : Hid (Below w.heap.size w (w.alloc (Obj.cells #[.int .i64 a, .int .i64 b, .int .i64 c, .int .i64 d, .int .i64 e, .int .i64 f] 24))) := below_alloc _ _
    go_enter Try.func35, Try.ntmps35
    go_upto_region 1 with fail
    generalize (w.alloc (Obj.cells #[.int .i64 a, .int .i64 b, .int .i64 c, .int .i64 d, .int .i64 e, .int .i64 f] 24)) = W0 at *
    generalize w.heap.size = bk at *
    obtain ⟨c0, c1, c2, c3, c4, c5, lt⟩ := HN0.out
    go_region_held3 (fun W => W.cell? ⟨bk, 0, none⟩ = some (.int .i64 a) ∧ W.cell? ⟨bk, 1, none⟩ = some (.int .i64 b) ∧ W.cell? ⟨bk, 2, none⟩ = some (.int .i64 c) ∧ W.cell? ⟨bk, 3, none⟩ = some (.int .i64 d) ∧ W.cell? ⟨bk, 4, none⟩ = some (.int .i64 e) ∧ W.cell? ⟨bk, 5, none⟩ = some (.int .i64 f) ∧ bk < W.heap.size) (first | exact keepNd (below_drew _) ⟨c0, c1, c2, c3, c4, c5, lt⟩ | exact keepNd (by assumption) (by assumption)) (first | (go_at_call 33; refine (HT.out _).mono ?_; rintro e' w5 ⟨rfl, hb5⟩))
    have HN5 : Hid (NdAt w5 bk a b c d e f) := (NdAt.later ⟨c0, c1, c2, c3, c4, c5, lt⟩ (below_drew _)).later hb5
    have HB5 : Hid (Below bk w w5) := chainD HB0.out (Nat.le_of_lt lt) hb5
    clear c0 c1 c2 c3 c4 c5 lt hb5 HN0 HB0
    obtain ⟨c0, c1, c2, c3, c4, c5, lt⟩ := HN5.out
    go_wp2
    go_ret3
    exact ⟨rfl, HB5.out⟩
  · have hu : u < max e 1 := HU.out.2 (.inr hz2)
    have hz' : (u == 0) = false := by simp [hz]
    simp only [if_pos hu]
    clear hz hu HU n7 n12
    have HN0 : Hid (NdAt (w.alloc (Obj.cells #[.int .i64 a, .int .i64 b, .int .i64 c, .int .i64 d, .int .i64 e, .int .i64 f] 24)) w.heap.size a b c d e f) := ndNew w a b c d e f _
    have HB0 : Hid (Below w.heap.size w (w.alloc (Obj.cells #[.int .i64 a, .int .i64 b, .int .i64 c, .int .i64 d, .int .i64 e, .int .i64 f] 24))) := below_alloc _ _
    go_enter Try.func35, Try.ntmps35
    go_upto_region 1 with fail
    generalize (w.alloc (Obj.cells #[.int .i64 a, .int .i64 b, .int .i64 c, .int .i64 d, .int .i64 e, .int .i64 f] 24)) = W0 at *
    generalize w.heap.size = bk at *
    obtain ⟨c0, c1, c2, c3, c4, c5, lt⟩ := HN0.out
    go_region_held3 (fun W => W.cell? ⟨bk, 0, none⟩ = some (.int .i64 a) ∧ W.cell? ⟨bk, 1, none⟩ = some (.int .i64 b) ∧ W.cell? ⟨bk, 2, none⟩ = some (.int .i64 c) ∧ W.cell? ⟨bk, 3, none⟩ = some (.int .i64 d) ∧ W.cell? ⟨bk, 4, none⟩ = some (.int .i64 e) ∧ W.cell? ⟨bk, 5, none⟩ = some (.int .i64 f) ∧ bk < W.heap.size) (first | exact keepNd (below_drew _) ⟨c0, c1, c2, c3, c4, c5, lt⟩ | exact keepNd (by assumption) (by assumption)) (first | (go_at_call 33; refine (HT.out _).mono ?_; rintro e' w5 ⟨rfl, hb5⟩))
    have HN5 : Hid (NdAt w5 bk a b c d e f) := (NdAt.later ⟨c0, c1, c2, c3, c4, c5, lt⟩ (below_drew _)).later hb5
    have HB5 : Hid (Below bk w w5) := chainD HB0.out (Nat.le_of_lt lt) hb5
    clear c0 c1 c2 c3 c4 c5 lt hb5 HN0 HB0
    obtain ⟨c0, c1, c2, c3, c4, c5, lt⟩ := HN5.out
    go_wp2
    go_ret3
    exact ⟨rfl, HB5.out⟩
  · have hu : ¬ u < max e 1 := fun h => by rcases HU.out.1 h with h | h <;> omega
    have hz' : (u == 0) = false := by simp [hz]
    have hz3 : ¬ u < e := by omega
    simp only [if_neg hu]
    clear hz hu HU n7 n12
    have HN0 : Hid (NdAt (w.alloc (Obj.cells #[.int .i64 a, .int .i64 b, .int .i64 c, .int .i64 d, .int .i64 e, .int .i64 f] 24)) w.heap.size a b c d e f) := ndNew w a b c d e f _
    have HB0 : Hid (Below w.heap.size w (w.alloc (Obj.cells #[.int .i64 a, .int .i64 b, .int .i64 c, .int .i64 d, .int .i64 e, .int .i64 f] 24))) := below_alloc _ _
    go_enter Try.func35, Try.ntmps35
    go_upto_region 1 with fail
    generalize (w.alloc (Obj.cells #[.int .i64 a, .int .i64 b, .int .i64 c, .int .i64 d, .int .i64 e, .int .i64 f] 24)) = W0 at *
    generalize w.heap.size = bk at *
    obtain ⟨c0, c1, c2, c3, c4, c5, lt⟩ := HN0.out
    go_region_held3 (fun W => W.cell? ⟨bk, 0, none⟩ = some (.int .i64 a) ∧ W.cell? ⟨bk, 1, none⟩ = some (.int .i64 b) ∧ W.cell? ⟨bk, 2, none⟩ = some (.int .i64 c) ∧ W.cell? ⟨bk, 3, none⟩ = some (.int .i64 d) ∧ W.cell? ⟨bk, 4, none⟩ = some (.int .i64 e) ∧ W.cell? ⟨bk, 5, none⟩ = some (.int .i64 f) ∧ bk < W.heap.size) (first | exact keepNd (below_drew _) ⟨c0, c1, c2, c3, c4, c5, lt⟩ | exact keepNd (by assumption) (by assumption)) (first | (go_at_call 33; refine (HT.out _).mono ?_; rintro e' w5 ⟨rfl, hb5⟩))
    have HN5 : Hid (NdAt w5 bk a b c d e f) := (NdAt.later ⟨c0, c1, c2, c3, c4, c5, lt⟩ (below_drew _)).later hb5
    have HB5 : Hid (Below bk w w5) := chainD HB0.out (Nat.le_of_lt lt) hb5
    clear c0 c1 c2 c3 c4 c5 lt hb5 HN0 HB0
    obtain ⟨c0, c1, c2, c3, c4, c5, lt⟩ := HN5.out
    go_wp2
    go_ret3
    exact ⟨rfl, HB5.out⟩
end Go.Proofs.Ytbgjekhekjbcpaa

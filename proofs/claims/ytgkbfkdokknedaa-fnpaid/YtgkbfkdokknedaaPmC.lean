/-
  Contracts of the specification's l09Tender and PayMix, for every total and every list of tenders.
-/
import Derived.Test.YtgkbfkdokknedaaPmB
namespace Go.Proofs.Ytgkbfkdokknedaa
open Go.ChangeShapes Go.WideShapes Go.ChangeAt Go.RowKit
set_option linter.unusedVariables false

def sx (x0 x1 x2 x3 x4 x5 : Int) (i : Nat) : Int := if i = 0 then x0 else if i = 1 then x1 else if i = 2 then x2 else if i = 3 then x3 else if i = 4 then x4 else x5
/-- Six numbers in a block. -/
def Six (w : World) (b : Nat) (x0 x1 x2 x3 x4 x5 : Int) : Prop := SumAt w b 6 (sx x0 x1 x2 x3 x4 x5)
theorem Six.cells {w : World} {b : Nat} {x0 x1 x2 x3 x4 x5 : Int} (h : Six w b x0 x1 x2 x3 x4 x5) : w.cell? ⟨b, 0, none⟩ = some (.int .i64 x0) ∧ w.cell? ⟨b, 1, none⟩ = some (.int .i64 x1) ∧ w.cell? ⟨b, 2, none⟩ = some (.int .i64 x2) ∧ w.cell? ⟨b, 3, none⟩ = some (.int .i64 x3) ∧ w.cell? ⟨b, 4, none⟩ = some (.int .i64 x4) ∧ w.cell? ⟨b, 5, none⟩ = some (.int .i64 x5) :=
  ⟨(h.2 0 (by omega)).1, (h.2 1 (by omega)).1, (h.2 2 (by omega)).1, (h.2 3 (by omega)).1, (h.2 4 (by omega)).1, (h.2 5 (by omega)).1⟩
theorem six_of {w : World} {b : Nat} (h : SumAt w b 6 (fun _ => 0)) : Six w b 0 0 0 0 0 0 := ⟨h.1, fun i hi => by
  have := h.2 i hi
  rcases (by omega : i = 0 ∨ i = 1 ∨ i = 2 ∨ i = 3 ∨ i = 4 ∨ i = 5) with rfl | rfl | rfl | rfl | rfl | rfl <;> exact this⟩

set_option maxHeartbeats 2000000 in
theorem specTender_any (r : RTd) (w : World) :
    Calls Try.prog 29 #[.agg #[.int .i64 r.kd, .int .i64 r.am, .int .i64 r.n, .int .i64 r.d]] w fun e w' => e = .returned (.bool (tdB r)) ∧ Below w.heap.size w w' := by
  have hw := td_ways r _ rfl
  have hR := fun w => specRate_any r.n r.d w
  have hA := in_any r.am 1 1000000000
  have hK := in_any r.kd 1 3
  unfold inB at hA hK
  generalize tdB r = b at *
  obtain ⟨k, a, n, d⟩ := r
  dsimp only at *
  rcases hw with ⟨h1, rfl⟩ | ⟨h1, h2, rfl⟩ | ⟨h1, rfl, rfl⟩ | ⟨h1, h2, rfl⟩ | ⟨h1, h2, rfl⟩
  · rw [decide_eq_false (by omega)] at hA
    clear hK hR
    go_enter Try.func29, Try.ntmps29
    go_wp2_with (go_at_call 24; refine (hA _).mono ?_; rintro e w1 ⟨rfl, hq⟩; rw [hq]; clear hq w1)
    go_ret
    exact ⟨rfl, below_alloc _ _⟩
  · rw [decide_eq_false (by omega)] at hA
    clear hK hR
    go_enter Try.func29, Try.ntmps29
    go_wp2_with (go_at_call 24; refine (hA _).mono ?_; rintro e w1 ⟨rfl, hq⟩; rw [hq]; clear hq w1)
    go_ret
    exact ⟨rfl, below_alloc _ _⟩
  · rw [decide_eq_true h1] at hA
    clear hK
    generalize rateB n d = rb at *
    go_enter Try.func29, Try.ntmps29
    go_wp2_with fail
    (first | go_at_call 24 | skip)
    refine (hA _).mono ?_
    rintro e w1 ⟨rfl, hq⟩
    rw [hq]
    clear hq w1
    go_wp2_with (go_at_call 40; refine (hR _).mono ?_; rintro e w1 ⟨rfl, hb1⟩)
    go_ret
    exact ⟨rfl, chain (below_alloc _ _) hb1⟩
  · rw [decide_eq_true h1] at hA
    rw [decide_eq_true (by omega)] at hK
    have k4 : (k == 4) = false := by simp; omega
    clear hR h2
    rcases (by omega : (n = 0 ∧ d = 0) ∨ (n = 0 ∧ d ≠ 0) ∨ n ≠ 0) with ⟨rfl, rfl⟩ | ⟨rfl, hd⟩ | hn
    · go_enter Try.func29, Try.ntmps29
      go_wp2_with fail
      (first | go_at_call 24 | skip)
      refine (hA _).mono ?_
      rintro e w1 ⟨rfl, hq⟩
      rw [hq]
      clear hq w1
      go_wp2_with fail
      (first | go_at_call 24 | skip)
      refine (hK _).mono ?_
      rintro e w1 ⟨rfl, hq⟩
      rw [hq]
      clear hq w1
      go_wp2
      go_ret
      exact ⟨ret_bool (by simp), below_alloc _ _⟩
    · have hd2 : (d == 0) = false := by simpa using hd
      go_enter Try.func29, Try.ntmps29
      go_wp2_with fail
      (first | go_at_call 24 | skip)
      refine (hA _).mono ?_
      rintro e w1 ⟨rfl, hq⟩
      rw [hq]
      clear hq w1
      go_wp2_with fail
      (first | go_at_call 24 | skip)
      refine (hK _).mono ?_
      rintro e w1 ⟨rfl, hq⟩
      rw [hq]
      clear hq w1
      go_wp2
      go_ret
      exact ⟨ret_bool (by simp [hd]), below_alloc _ _⟩
    · have hn2 : (n == 0) = false := by simpa using hn
      go_enter Try.func29, Try.ntmps29
      go_wp2_with fail
      (first | go_at_call 24 | skip)
      refine (hA _).mono ?_
      rintro e w1 ⟨rfl, hq⟩
      rw [hq]
      clear hq w1
      go_wp2_with fail
      (first | go_at_call 24 | skip)
      refine (hK _).mono ?_
      rintro e w1 ⟨rfl, hq⟩
      rw [hq]
      clear hq w1
      go_wp2
      go_ret
      exact ⟨ret_bool (by simp [hn]), below_alloc _ _⟩
  · rw [decide_eq_true h1] at hA
    rw [decide_eq_false (by omega)] at hK
    have k4 : (k == 4) = false := by simp; omega
    clear hR h2
    go_enter Try.func29, Try.ntmps29
    go_wp2_with fail
    (first | go_at_call 24 | skip)
    refine (hA _).mono ?_
    rintro e w1 ⟨rfl, hq⟩
    rw [hq]
    clear hq w1
    go_wp2_with fail
    (first | go_at_call 24 | skip)
    refine (hK _).mono ?_
    rintro e w1 ⟨rfl, hq⟩
    rw [hq]
    clear hq w1
    go_wp2
    go_ret
    exact ⟨rfl, below_alloc _ _⟩

set_option maxHeartbeats 8000000 in
set_option maxRecDepth 4000 in
theorem specPay_any (total : Int) (a : Option Addr) (cap : Nat) (rs : List RTd) (hl : rs.length ≤ 100000000) (w : World) (hr : ReadsTd w.heap.size w a rs) :
    Calls Try.prog 15 #[.int .i64 total, .slice a rs.length cap] w fun e w' => e = .returned (.tuple #[pmVal total rs, .int .i64 (pmCode total rs)]) ∧ Below w.heap.size w w' := by
  have HR : Hid (ReadsTd w.heap.size w a rs) := hr
  have hin := in_any total 0 1000000000
  unfold inB at hin
  clear hr
  have hways := pm_ways total rs
  by_cases hbig : 4096 < rs.length
  · have hcv : pmCode total rs = 2 ∧ pmVal total rs = z6 := by rcases hways with ⟨_, hc, hv⟩ | ⟨h, _⟩ | ⟨h, _⟩ | ⟨h, _⟩ | ⟨h, _⟩ <;> first | exact ⟨hc, hv⟩ | omega
    rw [hcv.1, hcv.2]
    unfold z6
    have h1' : 4096 < (rs.length : Int) := by omega
    clear hways hcv hin
    go_enter Try.func15, Try.ntmps15
    go_wp2
    refine bodyPost_ret (v := .tuple #[.agg #[.int .i64 0, .int .i64 0, .int .i64 0, .int .i64 0, .int .i64 0, .int .i64 0], .int .i64 2]) (by simp [results, Try.results15, go_sem]) rfl ⟨rfl, ?_⟩
    repeat (first | exact Below.refl _ _ | refine chain ?_ (below_alloc _ _) | refine Below.setCell ?_ (by dsimp only; omega) _)
  by_cases hmany : 20 < rs.length
  · have hcv : pmCode total rs = 9 ∧ pmVal total rs = z6 := by rcases hways with ⟨h, _⟩ | ⟨_, _, hc, hv⟩ | ⟨h, _⟩ | ⟨h, _⟩ | ⟨h, _⟩ <;> first | exact ⟨hc, hv⟩ | omega
    rw [hcv.1, hcv.2]
    unfold z6
    have h1' : (rs.length : Int) ≤ 4096 := by omega
    have h2' : 20 < (rs.length : Int) := by omega
    clear hways hcv hin
    go_enter Try.func15, Try.ntmps15
    go_wp2
    refine bodyPost_ret (v := .tuple #[.agg #[.int .i64 0, .int .i64 0, .int .i64 0, .int .i64 0, .int .i64 0, .int .i64 0], .int .i64 9]) (by simp [results, Try.results15, go_sem]) rfl ⟨rfl, ?_⟩
    repeat (first | exact Below.refl _ _ | refine chain ?_ (below_alloc _ _) | refine Below.setCell ?_ (by dsimp only; omega) _)
  have h1' : (rs.length : Int) ≤ 4096 := by omega
  have h2' : (rs.length : Int) ≤ 20 := by omega
  by_cases htot : total < 0 ∨ 1000000000 < total
  · have hcv : pmCode total rs = 1 ∧ pmVal total rs = z6 := by rcases hways with ⟨h, _⟩ | ⟨_, h, _⟩ | ⟨_, _, hc, hv⟩ | ⟨_, h, _⟩ | ⟨_, h, _⟩ <;> first | exact ⟨hc, hv⟩ | omega
    rw [hcv.1, hcv.2]
    unfold z6
    rw [decide_eq_false (by omega)] at hin
    clear hways hcv htot
    go_enter Try.func15, Try.ntmps15
    go_wp2_with (go_at_call 24; refine (hin _).mono ?_; rintro e w1 ⟨rfl, hq⟩; rw [hq]; clear hq w1)
    refine bodyPost_ret (v := .tuple #[.agg #[.int .i64 0, .int .i64 0, .int .i64 0, .int .i64 0, .int .i64 0, .int .i64 0], .int .i64 1]) (by simp [results, Try.results15, go_sem]) rfl ⟨rfl, ?_⟩
    repeat (first | exact Below.refl _ _ | refine chain ?_ (below_alloc _ _) | refine Below.setCell ?_ (by dsimp only; omega) _)
  have ht0 : 0 ≤ total := by omega
  have ht1 : total ≤ 1000000000 := by omega
  rw [decide_eq_true ⟨ht0, ht1⟩] at hin
  have HF : Hid (rs.all tdB = false → pmCode total rs = 1 ∧ pmVal total rs = z6) := fun he => by rcases hways with ⟨h, _⟩ | ⟨_, h, _⟩ | ⟨_, h, _⟩ | ⟨_, _, h, hc, hv⟩ | ⟨_, _, h, hc, hv⟩ <;> first | exact ⟨hc, hv⟩ | omega | (rw [he] at h; simp at h)
  have HG : Hid (rs.all tdB = true → pmCode total rs = paidC (sumK rs 1) (sumK rs 2) (sumK rs 3) total ∧ pmVal total rs = paid6 (sumK rs 1) (sumK rs 2) (sumK rs 3) total) := fun he => by rcases hways with ⟨h, _⟩ | ⟨_, h, _⟩ | ⟨_, h, _⟩ | ⟨_, _, h, hc, hv⟩ | ⟨_, _, h, hc, hv⟩ <;> first | exact ⟨hc, hv⟩ | omega | (rw [he] at h; simp at h)
  have hmk := fun w => run_make_row' (P := Try.prog) 24 3 (.int .i64 0) 8 Try.underlying24 intInfo rfl .i64 .i64 5 (by omega) (by omega) w
  have hmk5 : ∀ w, (Instr.makeSlice 24 (.int .i64 5) (.int .i64 5)).run Try.prog w = .ok (.slice (some ⟨w.heap.size, 0, none⟩) 5 5) (w.alloc (.cells (madeCells #[.int .i64 0] 5) 3)) := fun w => hmk w
  have hd3 : decide (4096 < (rs.length : Int)) = false := decide_eq_false (by omega)
  have hd4 : decide (20 < (rs.length : Int)) = false := decide_eq_false (by omega)
  have hmk2 : ∀ W : World, SumAt (W.alloc (Obj.cells (madeCells #[.int .i64 0] 5) 3)) W.heap.size 5 (fun _ => 0) := fun W => ⟨(World.rowIs_made W (.int .i64 0) 5 3).lt, fun i hi => ⟨(World.rowIs_made W (.int .i64 0) 5 3).cell hi, (World.rowIs_made W (.int .i64 0) 5 3).frozen i⟩⟩
  clear hways htot hbig hmany
  go_enter Try.func15, Try.ntmps15
  go_wp2_with (go_at_call 24; refine (hin _).mono ?_; rintro e w1 ⟨rfl, hq⟩; rw [hq]; clear hq w1)
  obtain ⟨w0, hw0⟩ : ∃ w0, w0 = w.alloc (Obj.cells #[.int .i64 0, .int .i64 0, .int .i64 0, .int .i64 0, .int .i64 0, .int .i64 0] 41) := ⟨_, rfl⟩
  have h6 := six_new w w0 41 (by rw [hw0]; exact Below.refl _ _)
  have HZ0 : Hid (Six (w0.alloc (Obj.cells (madeCells #[.int .i64 0] 5) 3)) w.heap.size 0 0 0 0 0 0) := (six_of h6.1).below (below_alloc _ _)
  have HB0 : Hid (Below w.heap.size w (w0.alloc (Obj.cells (madeCells #[.int .i64 0] 5) 3))) := chain h6.2 (below_alloc _ _)
  have HS0 : Hid (SumAt (w0.alloc (Obj.cells (madeCells #[.int .i64 0] 5) 3)) w0.heap.size 5 (fun i => sumK (rs.take 0) i)) := hmk2 w0
  have hne : w.heap.size < w0.heap.size := h6.1.1
  have hszw : w0.heap.size = w.heap.size + 1 := by rw [hw0]; simp
  have hwx : (w.alloc (Obj.cells #[.int .i64 0, .int .i64 0, .int .i64 0, .int .i64 0, .int .i64 0, .int .i64 0] 41)) = w0 := hw0.symm
  rw [hszw] at HS0 hne
  rw [hw0] at HS0 HZ0 HB0
  clear hmk hin hmk2 h6 hwx
  go_wp2
  rw [← hw0] at HS0 HZ0 HB0 ⊢
  clear hw0 hmk5 hszw
  obtain ⟨sb, hsb⟩ : ∃ sb, sb = w.heap.size + 1 := ⟨_, rfl⟩
  rw [← hsb] at HS0 hne ⊢
  obtain ⟨pb, hpb⟩ : ∃ pb, pb = w.heap.size := ⟨_, rfl⟩
  have hpb0 : w.heap.size ≤ pb := by omega
  rw [← hpb] at HZ0 hne ⊢
  have hsb0 : w.heap.size ≤ sb := by omega
  clear hpb hsb
  go_loopw [7] (fun c wr => ∃ k : Nat, k ≤ rs.length ∧ c = .int .i64 (k : Int) ∧ (rs.take k).all tdB = true ∧ SumAt wr sb 5 (fun i => sumK (rs.take k) i) ∧ Six wr pb 0 0 0 0 0 0 ∧ Below w.heap.size w wr) (fun c _ => rs.length - (intOf c).toNat)
  case atStart => exact ⟨0, Nat.zero_le _, rfl, rfl, HS0.out, HZ0.out, HB0.out⟩
  case round =>
    clear HS0 HZ0 HB0
    obtain ⟨k, hk, rfl, hall, hs, hz, hb⟩ := hrel
    have HA : Hid ((rs.take k).all tdB = true) := hall
    have HS : Hid (SumAt wr sb 5 (fun i => sumK (rs.take k) i)) := hs
    have HZ : Hid (Six wr pb 0 0 0 0 0 0) := hz
    have HB : Hid (Below w.heap.size w wr) := hb
    clear hs hz hb hall
    by_cases hlt : k < rs.length
    · have hlt' : (k : Int) < (rs.length : Int) := by omega
      rcases HR.out with h | ⟨b0, o0, ha, hB0, ia⟩
      · rw [h] at hlt; simp at hlt
      obtain ⟨c0, c1, c2, c3⟩ := (ia.below HB.out hB0) k hlt
      have HX : Hid (tdB (rs.getD k zTd) = false → rs.all tdB = false) := fun h => tds_fail hlt h
      have HN : Hid ((rs.take (k + 1)).all tdB = ((rs.take k).all tdB && tdB (rs.getD k zTd))) := tds_take tdB rs k hlt
      have HNx : Hid (∀ i, sumK (rs.take (k + 1)) i = sumK (rs.take k) i + (if tdK (rs.getD k zTd) = i then tdV (rs.getD k zTd) else 0)) := fun i => sumK_next rs i k hlt
      have hm := fun w => specTender_any (rs.getD k zTd) w
      have HTr : Hid (tdB (rs.getD k zTd) = true → ((1 ≤ tdK (rs.getD k zTd) ∧ tdK (rs.getD k zTd) ≤ 3) ∧ 0 ≤ tdV (rs.getD k zTd) ∧ tdV (rs.getD k zTd) ≤ 10000000000000)) := fun h => td_right h
      have HTw := td_ways (rs.getD k zTd) _ rfl
      have HBn : Hid (∀ i, 0 ≤ sumK (rs.take k) i ∧ sumK (rs.take k) i ≤ (k : Int) * 10000000000000) := fun i => by
        have h20 : ∀ r ∈ rs.take k, tdB r = true := fun r hr => by have := HA.out; rw [List.all_eq_true] at this; exact this r hr
        have := sumK_bound (rs.take k) h20 i (rs.take k).length (Nat.le_refl _)
        rw [List.take_length, List.length_take] at this
        have e : min k rs.length = k := by omega
        rw [e] at this; exact this
      subst ha
      clear ia
      generalize hq : rs.getD k zTd = q at *
      clear hq
      generalize htq : tdB q = mb at *
      cases mb
      · have HE : Hid (pmCode total rs = 1 ∧ pmVal total rs = z6) := HF.out (HX.out rfl)
        clear HTr HTw HNx HN HX htq
        obtain ⟨kd, am, n, d⟩ := q
        dsimp only at c0 c1 c2 c3 hm
        go_wp2_with fail
        (first | go_at_call 29 | skip)
        refine (hm _).mono ?_
        rintro e w3 ⟨rfl, hb3⟩
        have HB3 : Hid (Below wr.heap.size wr w3) := chain (below_alloc _ _) hb3
        have hz3 : Six w3 pb 0 0 0 0 0 0 := HZ.out.below HB3.out
        obtain ⟨y0, y1, y2, y3, y4, y5⟩ := hz3.cells
        have fz0 : w3.frozen? ⟨pb, 0, none⟩ = false := (hz3.2 0 (by omega)).2
        have fz1 : w3.frozen? ⟨pb, 1, none⟩ = false := (hz3.2 1 (by omega)).2
        have fz2 : w3.frozen? ⟨pb, 2, none⟩ = false := (hz3.2 2 (by omega)).2
        have fz3 : w3.frozen? ⟨pb, 3, none⟩ = false := (hz3.2 3 (by omega)).2
        have fz4 : w3.frozen? ⟨pb, 4, none⟩ = false := (hz3.2 4 (by omega)).2
        have fz5 : w3.frozen? ⟨pb, 5, none⟩ = false := (hz3.2 5 (by omega)).2
        have HW3 : Hid (Below w.heap.size w w3) := chain HB.out HB3.out
        clear hb3 HB3 hz3 c0 c1 c2 c3 hm
        go_wp2
        refine bodyPost_ret (v := .tuple #[.agg #[.int .i64 0, .int .i64 0, .int .i64 0, .int .i64 0, .int .i64 0, .int .i64 0], .int .i64 1]) (by simp [results, Try.results15, go_sem, y0, y1, y2, y3, y4, y5]) rfl ⟨by rw [HE.out.1, HE.out.2]; rfl, ?_⟩
        exact below_six HW3.out hpb0 _ _ _ _ _ _
      · obtain ⟨⟨hk1, hk2⟩, hv1, hv2⟩ := HTr.out rfl
        clear HX HTr
        have HAn : Hid ((rs.take (k + 1)).all tdB = true) := by show _ = _; rw [HN.out, HA.out]; rfl
        have hkd : (q.kd = 4 ∧ tdK q = 3 ∧ tdV q = rq (q.am * q.n / q.d) (q.am * q.n % q.d) q.d 1 ∧ (1 ≤ q.am ∧ q.am ≤ 1000000000) ∧ rateB q.n q.d = true) ∨ ((1 ≤ q.kd ∧ q.kd ≤ 3) ∧ tdK q = q.kd.toNat ∧ tdV q = q.am) := by
          unfold tdK tdV
          rcases HTw with ⟨_, e⟩ | ⟨_, _, e⟩ | ⟨h1, h2, e⟩ | ⟨h1, h2, e⟩ | ⟨_, _, e⟩
          · simp at e
          · simp at e
          · exact .inl ⟨h2, by rw [if_pos h2], by rw [if_pos h2], h1, e.symm⟩
          · exact .inr ⟨by omega, by rw [if_neg (by omega)], by rw [if_neg (by omega)]⟩
          · simp at e
        clear HTw HN htq
        generalize tdK q = kn at *
        generalize tdV q = vv at *
        obtain ⟨kd, am, n, d⟩ := q
        dsimp only at c0 c1 c2 c3 hm hkd
        go_wp2_with fail
        (first | go_at_call 29 | skip)
        refine (hm _).mono ?_
        rintro e w3 ⟨rfl, hb3⟩
        have HB3 : Hid (Below wr.heap.size wr w3) := chain (below_alloc _ _) hb3
        have t0 : w3.cell? ⟨wr.heap.size, 0, none⟩ = some (.int .i64 kd) := (hb3.cell (p := ⟨wr.heap.size, 0, none⟩) (by simp)).trans (by simp)
        have t1 : w3.cell? ⟨wr.heap.size, 1, none⟩ = some (.int .i64 am) := (hb3.cell (p := ⟨wr.heap.size, 1, none⟩) (by simp)).trans (by simp)
        have t2 : w3.cell? ⟨wr.heap.size, 2, none⟩ = some (.int .i64 n) := (hb3.cell (p := ⟨wr.heap.size, 2, none⟩) (by simp)).trans (by simp)
        have t3 : w3.cell? ⟨wr.heap.size, 3, none⟩ = some (.int .i64 d) := (hb3.cell (p := ⟨wr.heap.size, 3, none⟩) (by simp)).trans (by simp)
        have HS3 : Hid (SumAt w3 sb 5 (fun i => sumK (rs.take k) i)) := HS.out.below HB3.out
        have HZ3 : Hid (Six w3 pb 0 0 0 0 0 0) := HZ.out.below HB3.out
        have HW3 : Hid (Below w.heap.size w w3) := chain HB.out HB3.out
        have hsl : sb < wr.heap.size := HS.out.1
        generalize htb : wr.heap.size = tb at *
        have hs1 := HBn.out kn
        have HCur : Hid (w3.drew.cell? ⟨sb, kn, none⟩ = some (.int .i64 (sumK (rs.take k) kn))) := (HS3.out.2 kn (by omega)).1
        have HFz : Hid (w3.drew.frozen? ⟨sb, kn, none⟩ = false) := (HS3.out.2 kn (by omega)).2
        have HSn : Hid (SumAt (w3.drew.setCell ⟨sb, kn, none⟩ (.int .i64 (sumK (rs.take k) kn + vv))) sb 5 (fun i => sumK (rs.take (k + 1)) i)) := SumAt.put (w := w3.drew) HS3.out kn _ (by omega) (fun i hi => by
          rw [HNx.out i]
          by_cases e : i = kn
          · rw [if_pos e, e, if_pos rfl]
          · rw [if_neg e, if_neg (fun h => e h.symm)]; omega)
        have HZn : Hid (Six (w3.drew.setCell ⟨sb, kn, none⟩ (.int .i64 (sumK (rs.take k) kn + vv))) pb 0 0 0 0 0 0) := SumAt.far (w := w3.drew) HZ3.out (by omega) _
        have HWn : Hid (Below w.heap.size w (w3.drew.setCell ⟨sb, kn, none⟩ (.int .i64 (sumK (rs.take k) kn + vv)))) := (chain HW3.out (below_drew _)).setCell hsb0 _
        have HT3 : Hid (w3.drew.cell? ⟨tb, 0, none⟩ = some (.int .i64 kd) ∧ w3.drew.cell? ⟨tb, 1, none⟩ = some (.int .i64 am) ∧ w3.drew.cell? ⟨tb, 2, none⟩ = some (.int .i64 n) ∧ w3.drew.cell? ⟨tb, 3, none⟩ = some (.int .i64 d)) := ⟨t0, t1, t2, t3⟩
        have HTn : Hid (∀ z : Int, (w3.drew.setCell ⟨sb, kn, none⟩ (.int .i64 z)).cell? ⟨tb, 0, none⟩ = some (.int .i64 kd) ∧ (w3.drew.setCell ⟨sb, kn, none⟩ (.int .i64 z)).cell? ⟨tb, 1, none⟩ = some (.int .i64 am) ∧ (w3.drew.setCell ⟨sb, kn, none⟩ (.int .i64 z)).cell? ⟨tb, 2, none⟩ = some (.int .i64 n) ∧ (w3.drew.setCell ⟨sb, kn, none⟩ (.int .i64 z)).cell? ⟨tb, 3, none⟩ = some (.int .i64 d)) := fun z => ⟨(World.cell?_setCell_far _ _ _ _ (by show sb ≠ tb; omega)).trans t0, (World.cell?_setCell_far _ _ _ _ (by show sb ≠ tb; omega)).trans t1, (World.cell?_setCell_far _ _ _ _ (by show sb ≠ tb; omega)).trans t2, (World.cell?_setCell_far _ _ _ _ (by show sb ≠ tb; omega)).trans t3⟩
        clear hb3 HB3 HS3 HZ3 HW3 HS HZ HB HNx c0 c1 c2 c3 hm htb
        generalize sumK (rs.take k) kn = s0 at *
        have g1 : IntKind.i64.wrap (s0 + vv) = s0 + vv := wrap_id _ (by omega) (by omega)
        rcases hkd with ⟨rfl, rfl, hvv, ⟨a1, a2⟩, hR⟩ | ⟨hkd, hkn, rfl⟩
        · obtain ⟨⟨n1, n2⟩, d1, d2⟩ := (rateB_iff n d).mp hR
          obtain ⟨b1, b2⟩ := mul_bound am n 1000000000 10000 (by omega) a2 n1 n2 (by omega)
          have hrd := fun w => round_any (am * n) d 1 w (by omega) (by omega) d1 (by omega) (.inl rfl)
          rw [← hvv] at hrd
          have g2 : IntKind.i64.wrap (am * n) = am * n := wrap_id _ (by omega) (by omega)
          clear hvv hR
          go_wp2
          clear t0 t1 t2 t3
          refine wp_region_held_drew (S := fun W => W.cell? ⟨tb, 0, none⟩ = some (.int .i64 4) ∧ W.cell? ⟨tb, 1, none⟩ = some (.int .i64 am) ∧ W.cell? ⟨tb, 2, none⟩ = some (.int .i64 n) ∧ W.cell? ⟨tb, 3, none⟩ = some (.int .i64 d)) (by kernel_rfl) HT3.out (fun hH => ?_)
          refine wpAnyH_take (i := 0) (v := .slice (some ⟨sb, 0, none⟩) 5 5) rfl (by kernel_rfl) (by kernel_rfl) (by kernel_rfl) (fun _ _ _ h => h) (Or.inl ⟨by rfl, fun w hSw => by go_simp⟩) hH ?_
          refine wpAnyH_take (i := 1) (v := .pointer (some ⟨sb, 3, none⟩)) rfl (by kernel_rfl) (by kernel_rfl) (by kernel_rfl) (fun _ _ _ h => h) (Or.inl ⟨by rfl, fun w hSw => by go_simp⟩) hH ?_
          try simp only [Act.put, List.setIfInBounds_toArray, List.set_cons_zero, List.set_cons_succ, List.getElem_toArray, List.getElem_cons_succ, List.getElem_cons_zero]
          refine wpAnyH_take (i := 3) (v := .pointer (some ⟨tb, 1, none⟩)) rfl (by kernel_rfl) (by kernel_rfl) (by kernel_rfl) (fun _ _ _ h => h) (Or.inl ⟨by rfl, fun w hSw => by go_simp⟩) hH ?_
          try simp only [Act.put, List.setIfInBounds_toArray, List.set_cons_zero, List.set_cons_succ, List.getElem_toArray, List.getElem_cons_succ, List.getElem_cons_zero]
          refine wpAnyH_take (i := 4) (v := .int .i64 am) rfl (by kernel_rfl) (by kernel_rfl) (by kernel_rfl) (fun _ _ _ h => h) (Or.inl ⟨by rfl, fun w hSw => by obtain ⟨u0, u1, u2, u3⟩ := hSw; go_simp⟩) hH ?_
          try simp only [Act.put, List.setIfInBounds_toArray, List.set_cons_zero, List.set_cons_succ, List.getElem_toArray, List.getElem_cons_succ, List.getElem_cons_zero]
          refine wpAnyH_take (i := 5) (v := .pointer (some ⟨tb, 2, none⟩)) rfl (by kernel_rfl) (by kernel_rfl) (by kernel_rfl) (fun _ _ _ h => h) (Or.inl ⟨by rfl, fun w hSw => by go_simp⟩) hH ?_
          try simp only [Act.put, List.setIfInBounds_toArray, List.set_cons_zero, List.set_cons_succ, List.getElem_toArray, List.getElem_cons_succ, List.getElem_cons_zero]
          refine wpAnyH_take (i := 6) (v := .pointer (some ⟨tb, 2, none⟩)) rfl (by kernel_rfl) (by kernel_rfl) (by kernel_rfl) (fun _ _ _ h => h) (Or.inl ⟨by rfl, fun w hSw => by go_simp⟩) hH ?_
          try simp only [Act.put, List.setIfInBounds_toArray, List.set_cons_zero, List.set_cons_succ, List.getElem_toArray, List.getElem_cons_succ, List.getElem_cons_zero]
          refine wpAnyH_take (i := 7) (v := .int .i64 n) rfl (by kernel_rfl) (by kernel_rfl) (by kernel_rfl) (fun _ _ _ h => h) (Or.inl ⟨by rfl, fun w hSw => by obtain ⟨u0, u1, u2, u3⟩ := hSw; go_simp⟩) hH ?_
          try simp only [Act.put, List.setIfInBounds_toArray, List.set_cons_zero, List.set_cons_succ, List.getElem_toArray, List.getElem_cons_succ, List.getElem_cons_zero]
          refine wpAnyH_take (i := 8) (v := .int .i64 (am * n)) rfl (by kernel_rfl) (by kernel_rfl) (by kernel_rfl) (fun _ _ _ h => h) (Or.inl ⟨by rfl, fun w hSw => by go_simp⟩) hH ?_
          try simp only [Act.put, List.setIfInBounds_toArray, List.set_cons_zero, List.set_cons_succ, List.getElem_toArray, List.getElem_cons_succ, List.getElem_cons_zero]
          refine wpAnyH_take (i := 9) (v := .pointer (some ⟨tb, 2, none⟩)) rfl (by kernel_rfl) (by kernel_rfl) (by kernel_rfl) (fun _ _ _ h => h) (Or.inl ⟨by rfl, fun w hSw => by go_simp⟩) hH ?_
          try simp only [Act.put, List.setIfInBounds_toArray, List.set_cons_zero, List.set_cons_succ, List.getElem_toArray, List.getElem_cons_succ, List.getElem_cons_zero]
          refine wpAnyH_take (i := 10) (v := .pointer (some ⟨tb, 3, none⟩)) rfl (by kernel_rfl) (by kernel_rfl) (by kernel_rfl) (fun _ _ _ h => h) (Or.inl ⟨by rfl, fun w hSw => by go_simp⟩) hH ?_
          try simp only [Act.put, List.setIfInBounds_toArray, List.set_cons_zero, List.set_cons_succ, List.getElem_toArray, List.getElem_cons_succ, List.getElem_cons_zero]
          refine wpAnyH_take (i := 11) (v := .int .i64 d) rfl (by kernel_rfl) (by kernel_rfl) (by kernel_rfl) (fun _ _ _ h => h) (Or.inl ⟨by rfl, fun w hSw => by obtain ⟨u0, u1, u2, u3⟩ := hSw; go_simp⟩) hH ?_
          try simp only [Act.put, List.setIfInBounds_toArray, List.set_cons_zero, List.set_cons_succ, List.getElem_toArray, List.getElem_cons_succ, List.getElem_cons_zero]
          refine wpAnyH_ready (rs := [2, 12]) (by kernel_rfl) (by simp) ?_
          refine AllReadyH.cons rfl (fun K hK => ?_) (AllReadyH.cons rfl (fun K hK => ?_) AllReadyH.nil)
          · have q5 := HCur.out
            go_simp
            clear q5
            refine hK.out _ _ hH (fun _ => ?_)
            clear hK K
            try simp only [Act.put, List.setIfInBounds_toArray, List.set_cons_zero, List.set_cons_succ, List.getElem_toArray, List.getElem_cons_succ, List.getElem_cons_zero]
            refine wpAnyH_ready (rs := [12]) (by kernel_rfl) (by simp) ?_
            refine AllReadyH.cons rfl (fun K hK => ?_) AllReadyH.nil
            go_simp
            go_at_call 30
            refine (hrd _).mono ?_
            rintro e w4 ⟨rfl, hq⟩
            rw [hq]
            clear hq w4
            refine hK.out _ _ hH (fun _ => ?_)
            clear hK K
            try simp only [Act.put, List.setIfInBounds_toArray, List.set_cons_zero, List.set_cons_succ, List.getElem_toArray, List.getElem_cons_succ, List.getElem_cons_zero]
            refine wpAnyH_take (i := 13) (v := .int .i64 (s0 + vv)) rfl (by kernel_rfl) (by kernel_rfl) (by kernel_rfl) (fun _ _ _ h => h) (Or.inl ⟨by rfl, fun w hSw => by go_simp⟩) hH ?_
            try simp only [Act.put, List.setIfInBounds_toArray, List.set_cons_zero, List.set_cons_succ, List.getElem_toArray, List.getElem_cons_succ, List.getElem_cons_zero]
            refine wpAnyH_take (i := 14) (v := .pointer (some ⟨sb, 3, none⟩)) rfl (by kernel_rfl) (by kernel_rfl) (by kernel_rfl) (fun _ _ _ h => h) (Or.inl ⟨by rfl, fun w hSw => by go_simp⟩) hH ?_
            try simp only [Act.put, List.setIfInBounds_toArray, List.set_cons_zero, List.set_cons_succ, List.getElem_toArray, List.getElem_cons_succ, List.getElem_cons_zero]
            refine wpAnyH_ready (rs := [15]) (by kernel_rfl) (by simp) ?_
            refine AllReadyH.cons rfl (fun K hK => ?_) AllReadyH.nil
            have q5 := HCur.out
            have qf := HFz.out
            go_simp
            clear q5 qf
            have hH2 := HTn.out (s0 + vv)
            refine hK.out _ _ hH2 (fun _ => ?_)
            clear hK K
            try simp only [Act.put, List.setIfInBounds_toArray, List.set_cons_zero, List.set_cons_succ, List.getElem_toArray, List.getElem_cons_succ, List.getElem_cons_zero]
            refine wpAnyH_done (by kernel_rfl) ?_ _
            try simp
            go_wp2
            go_roundw
            case rel => exact ⟨k + 1, by omega, by go_num, HAn.out, HSn.out, HZn.out, HWn.out⟩
            case measure => simp [intOf]; omega
          · go_simp
            go_at_call 30
            refine (hrd _).mono ?_
            rintro e w4 ⟨rfl, hq⟩
            rw [hq]
            clear hq w4
            refine hK.out _ _ hH (fun _ => ?_)
            clear hK K
            try simp only [Act.put, List.setIfInBounds_toArray, List.set_cons_zero, List.set_cons_succ, List.getElem_toArray, List.getElem_cons_succ, List.getElem_cons_zero]
            refine wpAnyH_ready (rs := [2]) (by kernel_rfl) (by simp) ?_
            refine AllReadyH.cons rfl (fun K hK => ?_) AllReadyH.nil
            have q5 := HCur.out
            go_simp
            clear q5
            refine hK.out _ _ hH (fun _ => ?_)
            clear hK K
            try simp only [Act.put, List.setIfInBounds_toArray, List.set_cons_zero, List.set_cons_succ, List.getElem_toArray, List.getElem_cons_succ, List.getElem_cons_zero]
            refine wpAnyH_take (i := 13) (v := .int .i64 (s0 + vv)) rfl (by kernel_rfl) (by kernel_rfl) (by kernel_rfl) (fun _ _ _ h => h) (Or.inl ⟨by rfl, fun w hSw => by go_simp⟩) hH ?_
            try simp only [Act.put, List.setIfInBounds_toArray, List.set_cons_zero, List.set_cons_succ, List.getElem_toArray, List.getElem_cons_succ, List.getElem_cons_zero]
            refine wpAnyH_take (i := 14) (v := .pointer (some ⟨sb, 3, none⟩)) rfl (by kernel_rfl) (by kernel_rfl) (by kernel_rfl) (fun _ _ _ h => h) (Or.inl ⟨by rfl, fun w hSw => by go_simp⟩) hH ?_
            try simp only [Act.put, List.setIfInBounds_toArray, List.set_cons_zero, List.set_cons_succ, List.getElem_toArray, List.getElem_cons_succ, List.getElem_cons_zero]
            refine wpAnyH_ready (rs := [15]) (by kernel_rfl) (by simp) ?_
            refine AllReadyH.cons rfl (fun K hK => ?_) AllReadyH.nil
            have q5 := HCur.out
            have qf := HFz.out
            go_simp
            clear q5 qf
            have hH2 := HTn.out (s0 + vv)
            refine hK.out _ _ hH2 (fun _ => ?_)
            clear hK K
            try simp only [Act.put, List.setIfInBounds_toArray, List.set_cons_zero, List.set_cons_succ, List.getElem_toArray, List.getElem_cons_succ, List.getElem_cons_zero]
            refine wpAnyH_done (by kernel_rfl) ?_ _
            try simp
            go_wp2
            go_roundw
            case rel => exact ⟨k + 1, by omega, by go_num, HAn.out, HSn.out, HZn.out, HWn.out⟩
            case measure => simp [intOf]; omega
        · have hkk : kd = (kn : Int) := by omega
          subst hkk
          have k4 : ((kn : Int) == 4) = false := by simp; omega
          have hk5 : (kn : Int) < 5 := by omega
          clear hkn
          go_wp2
          clear t0 t1 t2 t3
          refine wp_region_held_drew (S := fun W => W.cell? ⟨tb, 0, none⟩ = some (.int .i64 (kn : Int)) ∧ W.cell? ⟨tb, 1, none⟩ = some (.int .i64 vv) ∧ W.cell? ⟨tb, 2, none⟩ = some (.int .i64 n) ∧ W.cell? ⟨tb, 3, none⟩ = some (.int .i64 d)) (by kernel_rfl) HT3.out (fun hH => ?_)
          refine wpAnyH_take (i := 0) (v := .slice (some ⟨sb, 0, none⟩) 5 5) rfl (by kernel_rfl) (by kernel_rfl) (by kernel_rfl) (fun _ _ _ h => h) (Or.inl ⟨by rfl, fun w hSw => by go_simp⟩) hH ?_
          refine wpAnyH_take (i := 1) (v := .pointer (some ⟨tb, 0, none⟩)) rfl (by kernel_rfl) (by kernel_rfl) (by kernel_rfl) (fun _ _ _ h => h) (Or.inl ⟨by rfl, fun w hSw => by go_simp⟩) hH ?_
          try simp only [Act.put, List.setIfInBounds_toArray, List.set_cons_zero, List.set_cons_succ, List.getElem_toArray, List.getElem_cons_succ, List.getElem_cons_zero]
          refine wpAnyH_take (i := 2) (v := .int .i64 (kn : Int)) rfl (by kernel_rfl) (by kernel_rfl) (by kernel_rfl) (fun _ _ _ h => h) (Or.inl ⟨by rfl, fun w hSw => by obtain ⟨u0, u1, u2, u3⟩ := hSw; go_simp⟩) hH ?_
          try simp only [Act.put, List.setIfInBounds_toArray, List.set_cons_zero, List.set_cons_succ, List.getElem_toArray, List.getElem_cons_succ, List.getElem_cons_zero]
          refine wpAnyH_take (i := 3) (v := .pointer (some ⟨sb, kn, none⟩)) rfl (by kernel_rfl) (by kernel_rfl) (by kernel_rfl) (fun _ _ _ h => h) (Or.inl ⟨by rfl, fun w hSw => by go_simp⟩) hH ?_
          try simp only [Act.put, List.setIfInBounds_toArray, List.set_cons_zero, List.set_cons_succ, List.getElem_toArray, List.getElem_cons_succ, List.getElem_cons_zero]
          refine wpAnyH_take (i := 5) (v := .pointer (some ⟨tb, 1, none⟩)) rfl (by kernel_rfl) (by kernel_rfl) (by kernel_rfl) (fun _ _ _ h => h) (Or.inl ⟨by rfl, fun w hSw => by go_simp⟩) hH ?_
          try simp only [Act.put, List.setIfInBounds_toArray, List.set_cons_zero, List.set_cons_succ, List.getElem_toArray, List.getElem_cons_succ, List.getElem_cons_zero]
          refine wpAnyH_take (i := 6) (v := .int .i64 vv) rfl (by kernel_rfl) (by kernel_rfl) (by kernel_rfl) (fun _ _ _ h => h) (Or.inl ⟨by rfl, fun w hSw => by obtain ⟨u0, u1, u2, u3⟩ := hSw; go_simp⟩) hH ?_
          try simp only [Act.put, List.setIfInBounds_toArray, List.set_cons_zero, List.set_cons_succ, List.getElem_toArray, List.getElem_cons_succ, List.getElem_cons_zero]
          refine wpAnyH_ready (rs := [4]) (by kernel_rfl) (by simp) ?_
          refine AllReadyH.cons rfl (fun K hK => ?_) AllReadyH.nil
          have q5 := HCur.out
          go_simp
          clear q5
          refine hK.out _ _ hH (fun _ => ?_)
          clear hK K
          try simp only [Act.put, List.setIfInBounds_toArray, List.set_cons_zero, List.set_cons_succ, List.getElem_toArray, List.getElem_cons_succ, List.getElem_cons_zero]
          refine wpAnyH_take (i := 7) (v := .int .i64 (s0 + vv)) rfl (by kernel_rfl) (by kernel_rfl) (by kernel_rfl) (fun _ _ _ h => h) (Or.inl ⟨by rfl, fun w hSw => by go_simp⟩) hH ?_
          try simp only [Act.put, List.setIfInBounds_toArray, List.set_cons_zero, List.set_cons_succ, List.getElem_toArray, List.getElem_cons_succ, List.getElem_cons_zero]
          refine wpAnyH_take (i := 8) (v := .pointer (some ⟨sb, kn, none⟩)) rfl (by kernel_rfl) (by kernel_rfl) (by kernel_rfl) (fun _ _ _ h => h) (Or.inl ⟨by rfl, fun w hSw => by go_simp⟩) hH ?_
          try simp only [Act.put, List.setIfInBounds_toArray, List.set_cons_zero, List.set_cons_succ, List.getElem_toArray, List.getElem_cons_succ, List.getElem_cons_zero]
          refine wpAnyH_ready (rs := [9]) (by kernel_rfl) (by simp) ?_
          refine AllReadyH.cons rfl (fun K hK => ?_) AllReadyH.nil
          have q5 := HCur.out
          have qf := HFz.out
          go_simp
          clear q5 qf
          have hH2 := HTn.out (s0 + vv)
          refine hK.out _ _ hH2 (fun _ => ?_)
          clear hK K
          try simp only [Act.put, List.setIfInBounds_toArray, List.set_cons_zero, List.set_cons_succ, List.getElem_toArray, List.getElem_cons_succ, List.getElem_cons_zero]
          refine wpAnyH_done (by kernel_rfl) ?_ _
          try simp
          go_wp2
          go_roundw
          case rel => exact ⟨k + 1, by omega, by go_num, HAn.out, HSn.out, HZn.out, HWn.out⟩
          case measure => simp [intOf]; omega
    · obtain rfl : k = rs.length := by omega
      have hall : rs.all tdB = true := by have := HA.out; rwa [List.take_length] at this
      have hE := HG.out hall
      have HAl : ∀ r ∈ rs, tdB r = true := fun r hr => by rw [List.all_eq_true] at hall; exact hall r hr
      have b1 := sumK_bound rs HAl 1 rs.length (Nat.le_refl _)
      have b2 := sumK_bound rs HAl 2 rs.length (Nat.le_refl _)
      have b3 := sumK_bound rs HAl 3 rs.length (Nat.le_refl _)
      rw [List.take_length] at b1 b2 b3
      have HS9 : Hid (SumAt wr sb 5 (fun i => sumK rs i)) := by have := HS.out; rwa [List.take_length] at this
      clear HS HA hall HAl HF HG
      obtain ⟨s1, hs1⟩ : ∃ s1, s1 = sumK rs 1 := ⟨_, rfl⟩
      obtain ⟨s2, hs2⟩ : ∃ s2, s2 = sumK rs 2 := ⟨_, rfl⟩
      obtain ⟨s3, hs3⟩ : ∃ s3, s3 = sumK rs 3 := ⟨_, rfl⟩
      have HE1 : Hid (s1 = sumK rs 1) := hs1
      have HE2 : Hid (s2 = sumK rs 2) := hs2
      have HE3 : Hid (s3 = sumK rs 3) := hs3
      rw [← hs1] at b1
      rw [← hs2] at b2
      rw [← hs3] at b3
      rw [← hs1, ← hs2, ← hs3] at hE
      have HEt : Hid (pmCode total rs = paidC s1 s2 s3 total ∧ pmVal total rs = paid6 s1 s2 s3 total) := hE
      clear hs1 hs2 hs3 hE
      have a1 : wr.cell? ⟨sb, 1, none⟩ = some (.int .i64 s1) := (HS9.out.2 1 (by omega)).1.trans (by rw [HE1.out])
      obtain ⟨qb, hqb⟩ : ∃ qb, qb = wr.heap.size := ⟨_, rfl⟩
      have hsq : sb < qb := by rw [hqb]; exact HS9.out.1
      have hqb0 : w.heap.size ≤ qb := by omega
      have hqp : (qb = pb) = False := eq_false (by omega)
      have HQa : Hid (∀ z : Int, Six (wr.alloc (Obj.cells #[.int .i64 z, .int .i64 0, .int .i64 0, .int .i64 0, .int .i64 0, .int .i64 0] 41)) qb z 0 0 0 0 0) := fun z => by
        rw [hqb]
        refine ⟨by simp, fun i hi => ?_⟩
        rcases (by omega : i = 0 ∨ i = 1 ∨ i = 2 ∨ i = 3 ∨ i = 4 ∨ i = 5) with rfl | rfl | rfl | rfl | rfl | rfl <;> exact ⟨by simp [sx], by simp⟩
      obtain ⟨p, hp⟩ : ∃ p, p = min s1 total := ⟨_, rfl⟩
      have HPm : Hid (p = min s1 total) := hp
      have hpb1 : 0 ≤ p ∧ p ≤ total ∧ p ≤ s1 := by omega
      rcases (by omega : s1 ≤ total ∨ total < s1) with hw1 | hw1
      · have hpz : p = s1 := by omega
        have hmf : (total < s1) = False := eq_false (by omega)
        have HPZ : Hid (p = s1) := hpz
        have HQ0 := HQa.out s1
        have HS0 : Hid (SumAt (wr.alloc (Obj.cells #[.int .i64 s1, .int .i64 0, .int .i64 0, .int .i64 0, .int .i64 0, .int .i64 0] 41)) sb 5 (fun i => sumK rs i)) := HS9.out.below (below_alloc _ _)
        have HZ0 : Hid (Six (wr.alloc (Obj.cells #[.int .i64 s1, .int .i64 0, .int .i64 0, .int .i64 0, .int .i64 0, .int .i64 0] 41)) pb 0 0 0 0 0 0) := HZ.out.below (below_alloc _ _)
        have HB0 : Hid (Below w.heap.size w (wr.alloc (Obj.cells #[.int .i64 s1, .int .i64 0, .int .i64 0, .int .i64 0, .int .i64 0, .int .i64 0] 41))) := chain HB.out (below_alloc _ _)
        clear hpz hp HQa HZ HB HS9
        go_wp2
        clear a1
        rw [← hqb]
        obtain ⟨W1, hW1⟩ : ∃ W1, W1 = wr.alloc (Obj.cells #[.int .i64 s1, .int .i64 0, .int .i64 0, .int .i64 0, .int .i64 0, .int .i64 0] 41) := ⟨_, rfl⟩
        rw [← hW1] at HQ0 HS0 HZ0 HB0 ⊢
        rw [← HPZ.out] at HQ0
        have HQ1 : Hid (Six W1 qb p 0 0 0 0 0) := HQ0
        have HS1 : Hid (SumAt W1 sb 5 (fun i => sumK rs i)) := HS0
        have HZ1 : Hid (Six W1 pb 0 0 0 0 0 0) := HZ0
        have HB1 : Hid (Below w.heap.size w W1) := HB0
        clear HQ0 HS0 HZ0 HB0 hW1 hqb hw1 hmf
        have g1 : IntKind.i64.wrap (s1 - p) = s1 - p := wrap_id _ (by omega) (by omega)
        have HQd : Hid (Six W1.drew qb p 0 0 0 0 0) := HQ1.out
        have HSd : Hid (SumAt W1.drew sb 5 (fun i => sumK rs i)) := HS1.out
        have HZd : Hid (Six W1.drew pb 0 0 0 0 0 0) := HZ1.out
        have HBd : Hid (Below w.heap.size w W1.drew) := chain HB1.out (below_drew _)
        refine wp_region_held_drew (S := fun W => W.cell? ⟨sb, 1, none⟩ = some (.int .i64 s1) ∧ W.cell? ⟨qb, 0, none⟩ = some (.int .i64 p)) (by kernel_rfl) ⟨(HSd.out.2 1 (by omega)).1.trans (by rw [HE1.out]), HQd.out.cells.1⟩ (fun hH => ?_)
        generalize W1.drew = WD at *
        refine wpAnyH_take (i := 0) (v := .slice (some ⟨sb, 0, none⟩) 5 5) rfl (by kernel_rfl) (by kernel_rfl) (by kernel_rfl) (fun _ _ _ h => h) (Or.inl ⟨by rfl, fun w hSw => by go_simp⟩) hH ?_
        refine wpAnyH_take (i := 1) (v := .pointer (some ⟨sb, 1, none⟩)) rfl (by kernel_rfl) (by kernel_rfl) (by kernel_rfl) (fun _ _ _ h => h) (Or.inl ⟨by rfl, fun w hSw => by go_simp⟩) hH ?_
        try simp only [Act.put, List.setIfInBounds_toArray, List.set_cons_zero, List.set_cons_succ, List.getElem_toArray, List.getElem_cons_succ, List.getElem_cons_zero]
        refine wpAnyH_take (i := 2) (v := .int .i64 s1) rfl (by kernel_rfl) (by kernel_rfl) (by kernel_rfl) (fun _ _ _ h => h) (Or.inl ⟨by rfl, fun w hSw => by obtain ⟨u1, u2⟩ := hSw; go_simp⟩) hH ?_
        try simp only [Act.put, List.setIfInBounds_toArray, List.set_cons_zero, List.set_cons_succ, List.getElem_toArray, List.getElem_cons_succ, List.getElem_cons_zero]
        refine wpAnyH_take (i := 3) (v := .pointer (some ⟨qb, 0, none⟩)) rfl (by kernel_rfl) (by kernel_rfl) (by kernel_rfl) (fun _ _ _ h => h) (Or.inl ⟨by rfl, fun w hSw => by go_simp⟩) hH ?_
        try simp only [Act.put, List.setIfInBounds_toArray, List.set_cons_zero, List.set_cons_succ, List.getElem_toArray, List.getElem_cons_succ, List.getElem_cons_zero]
        refine wpAnyH_take (i := 4) (v := .int .i64 p) rfl (by kernel_rfl) (by kernel_rfl) (by kernel_rfl) (fun _ _ _ h => h) (Or.inl ⟨by rfl, fun w hSw => by obtain ⟨u1, u2⟩ := hSw; go_simp⟩) hH ?_
        try simp only [Act.put, List.setIfInBounds_toArray, List.set_cons_zero, List.set_cons_succ, List.getElem_toArray, List.getElem_cons_succ, List.getElem_cons_zero]
        refine wpAnyH_take (i := 5) (v := .int .i64 (s1 - p)) rfl (by kernel_rfl) (by kernel_rfl) (by kernel_rfl) (fun _ _ _ h => h) (Or.inl ⟨by rfl, fun w hSw => by go_simp⟩) hH ?_
        try simp only [Act.put, List.setIfInBounds_toArray, List.set_cons_zero, List.set_cons_succ, List.getElem_toArray, List.getElem_cons_succ, List.getElem_cons_zero]
        refine wpAnyH_take (i := 6) (v := .pointer (some ⟨qb, 3, none⟩)) rfl (by kernel_rfl) (by kernel_rfl) (by kernel_rfl) (fun _ _ _ h => h) (Or.inl ⟨by rfl, fun w hSw => by go_simp⟩) hH ?_
        try simp only [Act.put, List.setIfInBounds_toArray, List.set_cons_zero, List.set_cons_succ, List.getElem_toArray, List.getElem_cons_succ, List.getElem_cons_zero]
        refine wpAnyH_ready (rs := [7]) (by kernel_rfl) (by simp) ?_
        refine AllReadyH.cons rfl (fun K hK => ?_) AllReadyH.nil
        have q5 : WD.cell? ⟨qb, 3, none⟩ = some (.int .i64 0) := HQd.out.cells.2.2.2.1
        have qf : WD.frozen? ⟨qb, 3, none⟩ = false := (HQd.out.2 3 (by omega)).2
        have HQn : Hid (Six (WD.setCell ⟨qb, 3, none⟩ (.int .i64 (s1 - p))) qb p 0 0 (s1 - p) 0 0) := HQd.out.put 3 _ (by omega) (fun i hi => by rcases (by omega : i = 0 ∨ i = 1 ∨ i = 2 ∨ i = 3 ∨ i = 4 ∨ i = 5) with rfl | rfl | rfl | rfl | rfl | rfl <;> rfl)
        have HSn : Hid (SumAt (WD.setCell ⟨qb, 3, none⟩ (.int .i64 (s1 - p))) sb 5 (fun i => sumK rs i)) := SumAt.far HSd.out (by omega) _
        have HZn : Hid (Six (WD.setCell ⟨qb, 3, none⟩ (.int .i64 (s1 - p))) pb 0 0 0 0 0 0) := SumAt.far HZd.out (by omega) _
        have HBn : Hid (Below w.heap.size w (WD.setCell ⟨qb, 3, none⟩ (.int .i64 (s1 - p)))) := HBd.out.setCell hqb0 _
        have hS2 : (WD.setCell ⟨qb, 3, none⟩ (.int .i64 (s1 - p))).cell? ⟨sb, 1, none⟩ = some (.int .i64 s1) ∧ (WD.setCell ⟨qb, 3, none⟩ (.int .i64 (s1 - p))).cell? ⟨qb, 0, none⟩ = some (.int .i64 p) := ⟨(HSn.out.2 1 (by omega)).1.trans (by rw [HE1.out]), HQn.out.cells.1⟩
        go_simp
        clear q5 qf
        refine hK.out _ _ hS2 (fun _ => ?_)
        clear hK K
        try simp only [Act.put, List.setIfInBounds_toArray, List.set_cons_zero, List.set_cons_succ, List.getElem_toArray, List.getElem_cons_succ, List.getElem_cons_zero]
        refine wpAnyH_done (by kernel_rfl) ?_ _
        clear hS2 hH HQd HSd HZd HBd
        generalize WD.setCell ⟨qb, 3, none⟩ (.int .i64 (s1 - p)) = W2 at *
        try simp
        have HQ2 : Hid (Six W2 qb p 0 0 (s1 - p) 0 0) := HQn
        have HS2 : Hid (SumAt W2 sb 5 (fun i => sumK rs i)) := HSn
        have HZ2 : Hid (Six W2 pb 0 0 0 0 0 0) := HZn
        have HB2 : Hid (Below w.heap.size w W2) := HBn
        clear HQn HSn HZn HBn HQ1 HS1 HZ1 HB1
        obtain ⟨v0, v1, v2, v3, v4, v5⟩ := HQ2.out.cells
        obtain ⟨r0, r1, r2, r3, r4, r5⟩ := HZ2.out.cells
        have a2 : W2.cell? ⟨sb, 2, none⟩ = some (.int .i64 s2) := (HS2.out.2 2 (by omega)).1.trans (by rw [HE2.out])
        have a3 : W2.cell? ⟨sb, 3, none⟩ = some (.int .i64 s3) := (HS2.out.2 3 (by omega)).1.trans (by rw [HE3.out])
        have f1 : W2.frozen? ⟨qb, 1, none⟩ = false := (HQ2.out.2 1 (by omega)).2
        have f2 : W2.frozen? ⟨qb, 2, none⟩ = false := (HQ2.out.2 2 (by omega)).2
        have fz0 : W2.frozen? ⟨pb, 0, none⟩ = false := (HZ2.out.2 0 (by omega)).2
        have fz1 : W2.frozen? ⟨pb, 1, none⟩ = false := (HZ2.out.2 1 (by omega)).2
        have fz2 : W2.frozen? ⟨pb, 2, none⟩ = false := (HZ2.out.2 2 (by omega)).2
        have fz3 : W2.frozen? ⟨pb, 3, none⟩ = false := (HZ2.out.2 3 (by omega)).2
        have fz4 : W2.frozen? ⟨pb, 4, none⟩ = false := (HZ2.out.2 4 (by omega)).2
        have fz5 : W2.frozen? ⟨pb, 5, none⟩ = false := (HZ2.out.2 5 (by omega)).2
        have g2 : IntKind.i64.wrap (total - p) = total - p := wrap_id _ (by omega) (by omega)
        by_cases hov : total - p < s2
        · have HV : Hid (paid6 s1 s2 s3 total = z6 ∧ paidC s1 s2 s3 total = 5) := by
            show _ ∧ _
            unfold paid6 paidC
            rw [← HPm.out, if_pos hov, if_pos hov]; exact ⟨rfl, rfl⟩
          go_wp2
          refine bodyPost_ret (v := .tuple #[.agg #[.int .i64 0, .int .i64 0, .int .i64 0, .int .i64 0, .int .i64 0, .int .i64 0], .int .i64 5]) (by simp [results, Try.results15, go_sem, r0, r1, r2, r3, r4, r5]) rfl ⟨by rw [HEt.out.1, HEt.out.2, HV.out.1, HV.out.2]; rfl, ?_⟩
          exact below_six HB2.out hpb0 _ _ _ _ _ _
        have hov' : s2 ≤ total - p := by omega
        have g3 : IntKind.i64.wrap (total - p - s2) = total - p - s2 := wrap_id _ (by omega) (by omega)
        obtain ⟨q, hq⟩ : ∃ q, q = min s3 (total - p - s2) := ⟨_, rfl⟩
        have HQm : Hid (q = min s3 (total - p - s2)) := hq
        have HV : Hid (paid6 s1 s2 s3 total = .agg #[.int .i64 p, .int .i64 s2, .int .i64 q, .int .i64 (s1 - p), .int .i64 (s3 - q), .int .i64 (total - p - s2 - q)] ∧ paidC s1 s2 s3 total = 0) := by
          show _ ∧ _
          unfold paid6 paidC
          rw [← HPm.out, if_neg hov, if_neg hov, ← HQm.out]; exact ⟨rfl, rfl⟩
        have hqb : 0 ≤ q ∧ q ≤ total - p - s2 ∧ q ≤ s3 := by omega
        have g4 : IntKind.i64.wrap (s3 - q) = s3 - q := wrap_id _ (by omega) (by omega)
        have g5 : IntKind.i64.wrap (total - p - s2 - q) = total - p - s2 - q := wrap_id _ (by omega) (by omega)
        have HQ2b : Hid (∀ z, Six ((W2.setCell ⟨qb, 1, none⟩ (.int .i64 s2)).setCell ⟨qb, 2, none⟩ (.int .i64 z)) qb p s2 z (s1 - p) 0 0) := fun z => SumAt.put (SumAt.put HQ2.out 1 s2 (by omega) (fun i hi => rfl)) 2 z (by omega) (fun i hi => by rcases (by omega : i = 0 ∨ i = 1 ∨ i = 2 ∨ i = 3 ∨ i = 4 ∨ i = 5) with rfl | rfl | rfl | rfl | rfl | rfl <;> rfl)
        have HS2b : Hid (∀ z, SumAt ((W2.setCell ⟨qb, 1, none⟩ (.int .i64 s2)).setCell ⟨qb, 2, none⟩ (.int .i64 z)) sb 5 (fun i => sumK rs i)) := fun z => SumAt.far (SumAt.far HS2.out (by omega) _) (by omega) _
        have HZ2b : Hid (∀ z, Six ((W2.setCell ⟨qb, 1, none⟩ (.int .i64 s2)).setCell ⟨qb, 2, none⟩ (.int .i64 z)) pb 0 0 0 0 0 0) := fun z => SumAt.far (SumAt.far HZ2.out (by omega) _) (by omega) _
        have HB2b : Hid (∀ z : Int, Below w.heap.size w ((W2.setCell ⟨qb, 1, none⟩ (.int .i64 s2)).setCell ⟨qb, 2, none⟩ (.int .i64 z))) := fun z => (HB2.out.setCell hqb0 _).setCell hqb0 _
        rcases (by omega : s3 ≤ total - p - s2 ∨ total - p - s2 < s3) with hm | hm
        · have hqz : q = s3 := by omega
          have HQ3 := HQ2b.out s3
          have HS3 := HS2b.out s3
          have HZ3 := HZ2b.out s3
          have HB3 := HB2b.out s3
          have hmf : (total - p - s2 < s3) = False := eq_false (by omega)
          have HQZ : Hid (q = s3) := hqz
          clear hqz hq HQ2b HS2b HZ2b HB2b HQ2 HS2 HZ2 HB2 hov HQm
          go_wp2
          clear v0 v1 v2 v3 v4 v5 r0 r1 r2 r3 r4 r5 a2 a3 f1 f2 fz0 fz1 fz2 fz3 fz4 fz5
          obtain ⟨W3, hW3⟩ : ∃ W3, W3 = (W2.setCell ⟨qb, 1, none⟩ (.int .i64 s2)).setCell ⟨qb, 2, none⟩ (.int .i64 s3) := ⟨_, rfl⟩
          rw [← hW3] at HQ3 HS3 HZ3 HB3 ⊢
          rw [← HQZ.out] at HQ3
          have HQ3' : Hid (Six W3 qb p s2 q (s1 - p) 0 0) := HQ3
          have HS3' : Hid (SumAt W3 sb 5 (fun i => sumK rs i)) := HS3
          have HZ3' : Hid (Six W3 pb 0 0 0 0 0 0) := HZ3
          have HB3' : Hid (Below w.heap.size w W3) := HB3
          clear HQ3 HS3 HZ3 HB3 hW3 hm hmf
          have HQd : Hid (Six W3.drew qb p s2 q (s1 - p) 0 0) := HQ3'.out
          have HSd : Hid (SumAt W3.drew sb 5 (fun i => sumK rs i)) := HS3'.out
          have HZd : Hid (Six W3.drew pb 0 0 0 0 0 0) := HZ3'.out
          have HBd : Hid (Below w.heap.size w W3.drew) := chain HB3'.out (below_drew _)
          refine wp_region_held_drew (S := fun W => W.cell? ⟨sb, 3, none⟩ = some (.int .i64 s3) ∧ W.cell? ⟨qb, 2, none⟩ = some (.int .i64 q)) (by kernel_rfl) ⟨(HSd.out.2 3 (by omega)).1.trans (by rw [HE3.out]), HQd.out.cells.2.2.1⟩ (fun hH => ?_)
          generalize W3.drew = WD3 at *
          refine wpAnyH_take (i := 0) (v := .slice (some ⟨sb, 0, none⟩) 5 5) rfl (by kernel_rfl) (by kernel_rfl) (by kernel_rfl) (fun _ _ _ h => h) (Or.inl ⟨by rfl, fun w hSw => by go_simp⟩) hH ?_
          refine wpAnyH_take (i := 1) (v := .pointer (some ⟨sb, 3, none⟩)) rfl (by kernel_rfl) (by kernel_rfl) (by kernel_rfl) (fun _ _ _ h => h) (Or.inl ⟨by rfl, fun w hSw => by go_simp⟩) hH ?_
          try simp only [Act.put, List.setIfInBounds_toArray, List.set_cons_zero, List.set_cons_succ, List.getElem_toArray, List.getElem_cons_succ, List.getElem_cons_zero]
          refine wpAnyH_take (i := 2) (v := .int .i64 s3) rfl (by kernel_rfl) (by kernel_rfl) (by kernel_rfl) (fun _ _ _ h => h) (Or.inl ⟨by rfl, fun w hSw => by obtain ⟨u1, u2⟩ := hSw; go_simp⟩) hH ?_
          try simp only [Act.put, List.setIfInBounds_toArray, List.set_cons_zero, List.set_cons_succ, List.getElem_toArray, List.getElem_cons_succ, List.getElem_cons_zero]
          refine wpAnyH_take (i := 3) (v := .pointer (some ⟨qb, 2, none⟩)) rfl (by kernel_rfl) (by kernel_rfl) (by kernel_rfl) (fun _ _ _ h => h) (Or.inl ⟨by rfl, fun w hSw => by go_simp⟩) hH ?_
          try simp only [Act.put, List.setIfInBounds_toArray, List.set_cons_zero, List.set_cons_succ, List.getElem_toArray, List.getElem_cons_succ, List.getElem_cons_zero]
          refine wpAnyH_take (i := 4) (v := .int .i64 q) rfl (by kernel_rfl) (by kernel_rfl) (by kernel_rfl) (fun _ _ _ h => h) (Or.inl ⟨by rfl, fun w hSw => by obtain ⟨u1, u2⟩ := hSw; go_simp⟩) hH ?_
          try simp only [Act.put, List.setIfInBounds_toArray, List.set_cons_zero, List.set_cons_succ, List.getElem_toArray, List.getElem_cons_succ, List.getElem_cons_zero]
          refine wpAnyH_take (i := 5) (v := .int .i64 (s3 - q)) rfl (by kernel_rfl) (by kernel_rfl) (by kernel_rfl) (fun _ _ _ h => h) (Or.inl ⟨by rfl, fun w hSw => by go_simp⟩) hH ?_
          try simp only [Act.put, List.setIfInBounds_toArray, List.set_cons_zero, List.set_cons_succ, List.getElem_toArray, List.getElem_cons_succ, List.getElem_cons_zero]
          refine wpAnyH_take (i := 6) (v := .pointer (some ⟨qb, 4, none⟩)) rfl (by kernel_rfl) (by kernel_rfl) (by kernel_rfl) (fun _ _ _ h => h) (Or.inl ⟨by rfl, fun w hSw => by go_simp⟩) hH ?_
          try simp only [Act.put, List.setIfInBounds_toArray, List.set_cons_zero, List.set_cons_succ, List.getElem_toArray, List.getElem_cons_succ, List.getElem_cons_zero]
          refine wpAnyH_ready (rs := [7]) (by kernel_rfl) (by simp) ?_
          refine AllReadyH.cons rfl (fun K hK => ?_) AllReadyH.nil
          have q5 : WD3.cell? ⟨qb, 4, none⟩ = some (.int .i64 0) := HQd.out.cells.2.2.2.2.1
          have qf : WD3.frozen? ⟨qb, 4, none⟩ = false := (HQd.out.2 4 (by omega)).2
          have HQn : Hid (Six (WD3.setCell ⟨qb, 4, none⟩ (.int .i64 (s3 - q))) qb p s2 q (s1 - p) (s3 - q) 0) := HQd.out.put 4 _ (by omega) (fun i hi => by rcases (by omega : i = 0 ∨ i = 1 ∨ i = 2 ∨ i = 3 ∨ i = 4 ∨ i = 5) with rfl | rfl | rfl | rfl | rfl | rfl <;> rfl)
          have HSn : Hid (SumAt (WD3.setCell ⟨qb, 4, none⟩ (.int .i64 (s3 - q))) sb 5 (fun i => sumK rs i)) := SumAt.far HSd.out (by omega) _
          have HZn : Hid (Six (WD3.setCell ⟨qb, 4, none⟩ (.int .i64 (s3 - q))) pb 0 0 0 0 0 0) := SumAt.far HZd.out (by omega) _
          have HBn : Hid (Below w.heap.size w (WD3.setCell ⟨qb, 4, none⟩ (.int .i64 (s3 - q)))) := HBd.out.setCell hqb0 _
          have hS2 : (WD3.setCell ⟨qb, 4, none⟩ (.int .i64 (s3 - q))).cell? ⟨sb, 3, none⟩ = some (.int .i64 s3) ∧ (WD3.setCell ⟨qb, 4, none⟩ (.int .i64 (s3 - q))).cell? ⟨qb, 2, none⟩ = some (.int .i64 q) := ⟨(HSn.out.2 3 (by omega)).1.trans (by rw [HE3.out]), HQn.out.cells.2.2.1⟩
          go_simp
          clear q5 qf
          refine hK.out _ _ hS2 (fun _ => ?_)
          clear hK K
          try simp only [Act.put, List.setIfInBounds_toArray, List.set_cons_zero, List.set_cons_succ, List.getElem_toArray, List.getElem_cons_succ, List.getElem_cons_zero]
          refine wpAnyH_done (by kernel_rfl) ?_ _
          clear hS2 hH HQd HSd HZd HBd
          generalize WD3.setCell ⟨qb, 4, none⟩ (.int .i64 (s3 - q)) = W4 at *
          try simp
          obtain ⟨v0, v1, v2, v3, v4, v5⟩ := HQn.out.cells
          obtain ⟨r0, r1, r2, r3, r4, r5⟩ := HZn.out.cells
          have f5 : W4.frozen? ⟨qb, 5, none⟩ = false := (HQn.out.2 5 (by omega)).2
          have fz0 : W4.frozen? ⟨pb, 0, none⟩ = false := (HZn.out.2 0 (by omega)).2
          have fz1 : W4.frozen? ⟨pb, 1, none⟩ = false := (HZn.out.2 1 (by omega)).2
          have fz2 : W4.frozen? ⟨pb, 2, none⟩ = false := (HZn.out.2 2 (by omega)).2
          have fz3 : W4.frozen? ⟨pb, 3, none⟩ = false := (HZn.out.2 3 (by omega)).2
          have fz4 : W4.frozen? ⟨pb, 4, none⟩ = false := (HZn.out.2 4 (by omega)).2
          have fz5 : W4.frozen? ⟨pb, 5, none⟩ = false := (HZn.out.2 5 (by omega)).2
          go_wp2
          refine bodyPost_ret (v := .tuple #[.agg #[.int .i64 p, .int .i64 s2, .int .i64 q, .int .i64 (s1 - p), .int .i64 (s3 - q), .int .i64 (total - p - s2 - q)], .int .i64 0]) (by simp [results, Try.results15, go_sem, r0, r1, r2, r3, r4, r5]) rfl ⟨by rw [HEt.out.1, HEt.out.2, HV.out.1, HV.out.2], ?_⟩
          exact below_six (HBn.out.setCell hqb0 _) hpb0 _ _ _ _ _ _
        · have hqz : q = (total - p - s2) := by omega
          have HQ3 := HQ2b.out (total - p - s2)
          have HS3 := HS2b.out (total - p - s2)
          have HZ3 := HZ2b.out (total - p - s2)
          have HB3 := HB2b.out (total - p - s2)
          have HQZ : Hid (q = (total - p - s2)) := hqz
          clear hqz hq HQ2b HS2b HZ2b HB2b HQ2 HS2 HZ2 HB2 hov HQm
          go_wp2
          clear v0 v1 v2 v3 v4 v5 r0 r1 r2 r3 r4 r5 a2 a3 f1 f2 fz0 fz1 fz2 fz3 fz4 fz5
          obtain ⟨W3, hW3⟩ : ∃ W3, W3 = (W2.setCell ⟨qb, 1, none⟩ (.int .i64 s2)).setCell ⟨qb, 2, none⟩ (.int .i64 (total - p - s2)) := ⟨_, rfl⟩
          rw [← hW3] at HQ3 HS3 HZ3 HB3 ⊢
          rw [← HQZ.out] at HQ3
          have HQ3' : Hid (Six W3 qb p s2 q (s1 - p) 0 0) := HQ3
          have HS3' : Hid (SumAt W3 sb 5 (fun i => sumK rs i)) := HS3
          have HZ3' : Hid (Six W3 pb 0 0 0 0 0 0) := HZ3
          have HB3' : Hid (Below w.heap.size w W3) := HB3
          clear HQ3 HS3 HZ3 HB3 hW3 hm
          have HQd : Hid (Six W3.drew qb p s2 q (s1 - p) 0 0) := HQ3'.out
          have HSd : Hid (SumAt W3.drew sb 5 (fun i => sumK rs i)) := HS3'.out
          have HZd : Hid (Six W3.drew pb 0 0 0 0 0 0) := HZ3'.out
          have HBd : Hid (Below w.heap.size w W3.drew) := chain HB3'.out (below_drew _)
          refine wp_region_held_drew (S := fun W => W.cell? ⟨sb, 3, none⟩ = some (.int .i64 s3) ∧ W.cell? ⟨qb, 2, none⟩ = some (.int .i64 q)) (by kernel_rfl) ⟨(HSd.out.2 3 (by omega)).1.trans (by rw [HE3.out]), HQd.out.cells.2.2.1⟩ (fun hH => ?_)
          generalize W3.drew = WD3 at *
          refine wpAnyH_take (i := 0) (v := .slice (some ⟨sb, 0, none⟩) 5 5) rfl (by kernel_rfl) (by kernel_rfl) (by kernel_rfl) (fun _ _ _ h => h) (Or.inl ⟨by rfl, fun w hSw => by go_simp⟩) hH ?_
          refine wpAnyH_take (i := 1) (v := .pointer (some ⟨sb, 3, none⟩)) rfl (by kernel_rfl) (by kernel_rfl) (by kernel_rfl) (fun _ _ _ h => h) (Or.inl ⟨by rfl, fun w hSw => by go_simp⟩) hH ?_
          try simp only [Act.put, List.setIfInBounds_toArray, List.set_cons_zero, List.set_cons_succ, List.getElem_toArray, List.getElem_cons_succ, List.getElem_cons_zero]
          refine wpAnyH_take (i := 2) (v := .int .i64 s3) rfl (by kernel_rfl) (by kernel_rfl) (by kernel_rfl) (fun _ _ _ h => h) (Or.inl ⟨by rfl, fun w hSw => by obtain ⟨u1, u2⟩ := hSw; go_simp⟩) hH ?_
          try simp only [Act.put, List.setIfInBounds_toArray, List.set_cons_zero, List.set_cons_succ, List.getElem_toArray, List.getElem_cons_succ, List.getElem_cons_zero]
          refine wpAnyH_take (i := 3) (v := .pointer (some ⟨qb, 2, none⟩)) rfl (by kernel_rfl) (by kernel_rfl) (by kernel_rfl) (fun _ _ _ h => h) (Or.inl ⟨by rfl, fun w hSw => by go_simp⟩) hH ?_
          try simp only [Act.put, List.setIfInBounds_toArray, List.set_cons_zero, List.set_cons_succ, List.getElem_toArray, List.getElem_cons_succ, List.getElem_cons_zero]
          refine wpAnyH_take (i := 4) (v := .int .i64 q) rfl (by kernel_rfl) (by kernel_rfl) (by kernel_rfl) (fun _ _ _ h => h) (Or.inl ⟨by rfl, fun w hSw => by obtain ⟨u1, u2⟩ := hSw; go_simp⟩) hH ?_
          try simp only [Act.put, List.setIfInBounds_toArray, List.set_cons_zero, List.set_cons_succ, List.getElem_toArray, List.getElem_cons_succ, List.getElem_cons_zero]
          refine wpAnyH_take (i := 5) (v := .int .i64 (s3 - q)) rfl (by kernel_rfl) (by kernel_rfl) (by kernel_rfl) (fun _ _ _ h => h) (Or.inl ⟨by rfl, fun w hSw => by go_simp⟩) hH ?_
          try simp only [Act.put, List.setIfInBounds_toArray, List.set_cons_zero, List.set_cons_succ, List.getElem_toArray, List.getElem_cons_succ, List.getElem_cons_zero]
          refine wpAnyH_take (i := 6) (v := .pointer (some ⟨qb, 4, none⟩)) rfl (by kernel_rfl) (by kernel_rfl) (by kernel_rfl) (fun _ _ _ h => h) (Or.inl ⟨by rfl, fun w hSw => by go_simp⟩) hH ?_
          try simp only [Act.put, List.setIfInBounds_toArray, List.set_cons_zero, List.set_cons_succ, List.getElem_toArray, List.getElem_cons_succ, List.getElem_cons_zero]
          refine wpAnyH_ready (rs := [7]) (by kernel_rfl) (by simp) ?_
          refine AllReadyH.cons rfl (fun K hK => ?_) AllReadyH.nil
          have q5 : WD3.cell? ⟨qb, 4, none⟩ = some (.int .i64 0) := HQd.out.cells.2.2.2.2.1
          have qf : WD3.frozen? ⟨qb, 4, none⟩ = false := (HQd.out.2 4 (by omega)).2
          have HQn : Hid (Six (WD3.setCell ⟨qb, 4, none⟩ (.int .i64 (s3 - q))) qb p s2 q (s1 - p) (s3 - q) 0) := HQd.out.put 4 _ (by omega) (fun i hi => by rcases (by omega : i = 0 ∨ i = 1 ∨ i = 2 ∨ i = 3 ∨ i = 4 ∨ i = 5) with rfl | rfl | rfl | rfl | rfl | rfl <;> rfl)
          have HSn : Hid (SumAt (WD3.setCell ⟨qb, 4, none⟩ (.int .i64 (s3 - q))) sb 5 (fun i => sumK rs i)) := SumAt.far HSd.out (by omega) _
          have HZn : Hid (Six (WD3.setCell ⟨qb, 4, none⟩ (.int .i64 (s3 - q))) pb 0 0 0 0 0 0) := SumAt.far HZd.out (by omega) _
          have HBn : Hid (Below w.heap.size w (WD3.setCell ⟨qb, 4, none⟩ (.int .i64 (s3 - q)))) := HBd.out.setCell hqb0 _
          have hS2 : (WD3.setCell ⟨qb, 4, none⟩ (.int .i64 (s3 - q))).cell? ⟨sb, 3, none⟩ = some (.int .i64 s3) ∧ (WD3.setCell ⟨qb, 4, none⟩ (.int .i64 (s3 - q))).cell? ⟨qb, 2, none⟩ = some (.int .i64 q) := ⟨(HSn.out.2 3 (by omega)).1.trans (by rw [HE3.out]), HQn.out.cells.2.2.1⟩
          go_simp
          clear q5 qf
          refine hK.out _ _ hS2 (fun _ => ?_)
          clear hK K
          try simp only [Act.put, List.setIfInBounds_toArray, List.set_cons_zero, List.set_cons_succ, List.getElem_toArray, List.getElem_cons_succ, List.getElem_cons_zero]
          refine wpAnyH_done (by kernel_rfl) ?_ _
          clear hS2 hH HQd HSd HZd HBd
          generalize WD3.setCell ⟨qb, 4, none⟩ (.int .i64 (s3 - q)) = W4 at *
          try simp
          obtain ⟨v0, v1, v2, v3, v4, v5⟩ := HQn.out.cells
          obtain ⟨r0, r1, r2, r3, r4, r5⟩ := HZn.out.cells
          have f5 : W4.frozen? ⟨qb, 5, none⟩ = false := (HQn.out.2 5 (by omega)).2
          have fz0 : W4.frozen? ⟨pb, 0, none⟩ = false := (HZn.out.2 0 (by omega)).2
          have fz1 : W4.frozen? ⟨pb, 1, none⟩ = false := (HZn.out.2 1 (by omega)).2
          have fz2 : W4.frozen? ⟨pb, 2, none⟩ = false := (HZn.out.2 2 (by omega)).2
          have fz3 : W4.frozen? ⟨pb, 3, none⟩ = false := (HZn.out.2 3 (by omega)).2
          have fz4 : W4.frozen? ⟨pb, 4, none⟩ = false := (HZn.out.2 4 (by omega)).2
          have fz5 : W4.frozen? ⟨pb, 5, none⟩ = false := (HZn.out.2 5 (by omega)).2
          go_wp2
          refine bodyPost_ret (v := .tuple #[.agg #[.int .i64 p, .int .i64 s2, .int .i64 q, .int .i64 (s1 - p), .int .i64 (s3 - q), .int .i64 (total - p - s2 - q)], .int .i64 0]) (by simp [results, Try.results15, go_sem, r0, r1, r2, r3, r4, r5]) rfl ⟨by rw [HEt.out.1, HEt.out.2, HV.out.1, HV.out.2], ?_⟩
          exact below_six (HBn.out.setCell hqb0 _) hpb0 _ _ _ _ _ _
      · have hpz : p = total := by omega
        have HPZ : Hid (p = total) := hpz
        have HQ0 := HQa.out total
        have HS0 : Hid (SumAt (wr.alloc (Obj.cells #[.int .i64 total, .int .i64 0, .int .i64 0, .int .i64 0, .int .i64 0, .int .i64 0] 41)) sb 5 (fun i => sumK rs i)) := HS9.out.below (below_alloc _ _)
        have HZ0 : Hid (Six (wr.alloc (Obj.cells #[.int .i64 total, .int .i64 0, .int .i64 0, .int .i64 0, .int .i64 0, .int .i64 0] 41)) pb 0 0 0 0 0 0) := HZ.out.below (below_alloc _ _)
        have HB0 : Hid (Below w.heap.size w (wr.alloc (Obj.cells #[.int .i64 total, .int .i64 0, .int .i64 0, .int .i64 0, .int .i64 0, .int .i64 0] 41))) := chain HB.out (below_alloc _ _)
        clear hpz hp HQa HZ HB HS9
        go_wp2
        clear a1
        rw [← hqb]
        obtain ⟨W1, hW1⟩ : ∃ W1, W1 = wr.alloc (Obj.cells #[.int .i64 total, .int .i64 0, .int .i64 0, .int .i64 0, .int .i64 0, .int .i64 0] 41) := ⟨_, rfl⟩
        rw [← hW1] at HQ0 HS0 HZ0 HB0 ⊢
        rw [← HPZ.out] at HQ0
        have HQ1 : Hid (Six W1 qb p 0 0 0 0 0) := HQ0
        have HS1 : Hid (SumAt W1 sb 5 (fun i => sumK rs i)) := HS0
        have HZ1 : Hid (Six W1 pb 0 0 0 0 0 0) := HZ0
        have HB1 : Hid (Below w.heap.size w W1) := HB0
        clear HQ0 HS0 HZ0 HB0 hW1 hqb hw1
        have g1 : IntKind.i64.wrap (s1 - p) = s1 - p := wrap_id _ (by omega) (by omega)
        have HQd : Hid (Six W1.drew qb p 0 0 0 0 0) := HQ1.out
        have HSd : Hid (SumAt W1.drew sb 5 (fun i => sumK rs i)) := HS1.out
        have HZd : Hid (Six W1.drew pb 0 0 0 0 0 0) := HZ1.out
        have HBd : Hid (Below w.heap.size w W1.drew) := chain HB1.out (below_drew _)
        refine wp_region_held_drew (S := fun W => W.cell? ⟨sb, 1, none⟩ = some (.int .i64 s1) ∧ W.cell? ⟨qb, 0, none⟩ = some (.int .i64 p)) (by kernel_rfl) ⟨(HSd.out.2 1 (by omega)).1.trans (by rw [HE1.out]), HQd.out.cells.1⟩ (fun hH => ?_)
        generalize W1.drew = WD at *
        refine wpAnyH_take (i := 0) (v := .slice (some ⟨sb, 0, none⟩) 5 5) rfl (by kernel_rfl) (by kernel_rfl) (by kernel_rfl) (fun _ _ _ h => h) (Or.inl ⟨by rfl, fun w hSw => by go_simp⟩) hH ?_
        refine wpAnyH_take (i := 1) (v := .pointer (some ⟨sb, 1, none⟩)) rfl (by kernel_rfl) (by kernel_rfl) (by kernel_rfl) (fun _ _ _ h => h) (Or.inl ⟨by rfl, fun w hSw => by go_simp⟩) hH ?_
        try simp only [Act.put, List.setIfInBounds_toArray, List.set_cons_zero, List.set_cons_succ, List.getElem_toArray, List.getElem_cons_succ, List.getElem_cons_zero]
        refine wpAnyH_take (i := 2) (v := .int .i64 s1) rfl (by kernel_rfl) (by kernel_rfl) (by kernel_rfl) (fun _ _ _ h => h) (Or.inl ⟨by rfl, fun w hSw => by obtain ⟨u1, u2⟩ := hSw; go_simp⟩) hH ?_
        try simp only [Act.put, List.setIfInBounds_toArray, List.set_cons_zero, List.set_cons_succ, List.getElem_toArray, List.getElem_cons_succ, List.getElem_cons_zero]
        refine wpAnyH_take (i := 3) (v := .pointer (some ⟨qb, 0, none⟩)) rfl (by kernel_rfl) (by kernel_rfl) (by kernel_rfl) (fun _ _ _ h => h) (Or.inl ⟨by rfl, fun w hSw => by go_simp⟩) hH ?_
        try simp only [Act.put, List.setIfInBounds_toArray, List.set_cons_zero, List.set_cons_succ, List.getElem_toArray, List.getElem_cons_succ, List.getElem_cons_zero]
        refine wpAnyH_take (i := 4) (v := .int .i64 p) rfl (by kernel_rfl) (by kernel_rfl) (by kernel_rfl) (fun _ _ _ h => h) (Or.inl ⟨by rfl, fun w hSw => by obtain ⟨u1, u2⟩ := hSw; go_simp⟩) hH ?_
        try simp only [Act.put, List.setIfInBounds_toArray, List.set_cons_zero, List.set_cons_succ, List.getElem_toArray, List.getElem_cons_succ, List.getElem_cons_zero]
        refine wpAnyH_take (i := 5) (v := .int .i64 (s1 - p)) rfl (by kernel_rfl) (by kernel_rfl) (by kernel_rfl) (fun _ _ _ h => h) (Or.inl ⟨by rfl, fun w hSw => by go_simp⟩) hH ?_
        try simp only [Act.put, List.setIfInBounds_toArray, List.set_cons_zero, List.set_cons_succ, List.getElem_toArray, List.getElem_cons_succ, List.getElem_cons_zero]
        refine wpAnyH_take (i := 6) (v := .pointer (some ⟨qb, 3, none⟩)) rfl (by kernel_rfl) (by kernel_rfl) (by kernel_rfl) (fun _ _ _ h => h) (Or.inl ⟨by rfl, fun w hSw => by go_simp⟩) hH ?_
        try simp only [Act.put, List.setIfInBounds_toArray, List.set_cons_zero, List.set_cons_succ, List.getElem_toArray, List.getElem_cons_succ, List.getElem_cons_zero]
        refine wpAnyH_ready (rs := [7]) (by kernel_rfl) (by simp) ?_
        refine AllReadyH.cons rfl (fun K hK => ?_) AllReadyH.nil
        have q5 : WD.cell? ⟨qb, 3, none⟩ = some (.int .i64 0) := HQd.out.cells.2.2.2.1
        have qf : WD.frozen? ⟨qb, 3, none⟩ = false := (HQd.out.2 3 (by omega)).2
        have HQn : Hid (Six (WD.setCell ⟨qb, 3, none⟩ (.int .i64 (s1 - p))) qb p 0 0 (s1 - p) 0 0) := HQd.out.put 3 _ (by omega) (fun i hi => by rcases (by omega : i = 0 ∨ i = 1 ∨ i = 2 ∨ i = 3 ∨ i = 4 ∨ i = 5) with rfl | rfl | rfl | rfl | rfl | rfl <;> rfl)
        have HSn : Hid (SumAt (WD.setCell ⟨qb, 3, none⟩ (.int .i64 (s1 - p))) sb 5 (fun i => sumK rs i)) := SumAt.far HSd.out (by omega) _
        have HZn : Hid (Six (WD.setCell ⟨qb, 3, none⟩ (.int .i64 (s1 - p))) pb 0 0 0 0 0 0) := SumAt.far HZd.out (by omega) _
        have HBn : Hid (Below w.heap.size w (WD.setCell ⟨qb, 3, none⟩ (.int .i64 (s1 - p)))) := HBd.out.setCell hqb0 _
        have hS2 : (WD.setCell ⟨qb, 3, none⟩ (.int .i64 (s1 - p))).cell? ⟨sb, 1, none⟩ = some (.int .i64 s1) ∧ (WD.setCell ⟨qb, 3, none⟩ (.int .i64 (s1 - p))).cell? ⟨qb, 0, none⟩ = some (.int .i64 p) := ⟨(HSn.out.2 1 (by omega)).1.trans (by rw [HE1.out]), HQn.out.cells.1⟩
        go_simp
        clear q5 qf
        refine hK.out _ _ hS2 (fun _ => ?_)
        clear hK K
        try simp only [Act.put, List.setIfInBounds_toArray, List.set_cons_zero, List.set_cons_succ, List.getElem_toArray, List.getElem_cons_succ, List.getElem_cons_zero]
        refine wpAnyH_done (by kernel_rfl) ?_ _
        clear hS2 hH HQd HSd HZd HBd
        generalize WD.setCell ⟨qb, 3, none⟩ (.int .i64 (s1 - p)) = W2 at *
        try simp
        have HQ2 : Hid (Six W2 qb p 0 0 (s1 - p) 0 0) := HQn
        have HS2 : Hid (SumAt W2 sb 5 (fun i => sumK rs i)) := HSn
        have HZ2 : Hid (Six W2 pb 0 0 0 0 0 0) := HZn
        have HB2 : Hid (Below w.heap.size w W2) := HBn
        clear HQn HSn HZn HBn HQ1 HS1 HZ1 HB1
        obtain ⟨v0, v1, v2, v3, v4, v5⟩ := HQ2.out.cells
        obtain ⟨r0, r1, r2, r3, r4, r5⟩ := HZ2.out.cells
        have a2 : W2.cell? ⟨sb, 2, none⟩ = some (.int .i64 s2) := (HS2.out.2 2 (by omega)).1.trans (by rw [HE2.out])
        have a3 : W2.cell? ⟨sb, 3, none⟩ = some (.int .i64 s3) := (HS2.out.2 3 (by omega)).1.trans (by rw [HE3.out])
        have f1 : W2.frozen? ⟨qb, 1, none⟩ = false := (HQ2.out.2 1 (by omega)).2
        have f2 : W2.frozen? ⟨qb, 2, none⟩ = false := (HQ2.out.2 2 (by omega)).2
        have fz0 : W2.frozen? ⟨pb, 0, none⟩ = false := (HZ2.out.2 0 (by omega)).2
        have fz1 : W2.frozen? ⟨pb, 1, none⟩ = false := (HZ2.out.2 1 (by omega)).2
        have fz2 : W2.frozen? ⟨pb, 2, none⟩ = false := (HZ2.out.2 2 (by omega)).2
        have fz3 : W2.frozen? ⟨pb, 3, none⟩ = false := (HZ2.out.2 3 (by omega)).2
        have fz4 : W2.frozen? ⟨pb, 4, none⟩ = false := (HZ2.out.2 4 (by omega)).2
        have fz5 : W2.frozen? ⟨pb, 5, none⟩ = false := (HZ2.out.2 5 (by omega)).2
        have g2 : IntKind.i64.wrap (total - p) = total - p := wrap_id _ (by omega) (by omega)
        by_cases hov : total - p < s2
        · have HV : Hid (paid6 s1 s2 s3 total = z6 ∧ paidC s1 s2 s3 total = 5) := by
            show _ ∧ _
            unfold paid6 paidC
            rw [← HPm.out, if_pos hov, if_pos hov]; exact ⟨rfl, rfl⟩
          go_wp2
          refine bodyPost_ret (v := .tuple #[.agg #[.int .i64 0, .int .i64 0, .int .i64 0, .int .i64 0, .int .i64 0, .int .i64 0], .int .i64 5]) (by simp [results, Try.results15, go_sem, r0, r1, r2, r3, r4, r5]) rfl ⟨by rw [HEt.out.1, HEt.out.2, HV.out.1, HV.out.2]; rfl, ?_⟩
          exact below_six HB2.out hpb0 _ _ _ _ _ _
        have hov' : s2 ≤ total - p := by omega
        have g3 : IntKind.i64.wrap (total - p - s2) = total - p - s2 := wrap_id _ (by omega) (by omega)
        obtain ⟨q, hq⟩ : ∃ q, q = min s3 (total - p - s2) := ⟨_, rfl⟩
        have HQm : Hid (q = min s3 (total - p - s2)) := hq
        have HV : Hid (paid6 s1 s2 s3 total = .agg #[.int .i64 p, .int .i64 s2, .int .i64 q, .int .i64 (s1 - p), .int .i64 (s3 - q), .int .i64 (total - p - s2 - q)] ∧ paidC s1 s2 s3 total = 0) := by
          show _ ∧ _
          unfold paid6 paidC
          rw [← HPm.out, if_neg hov, if_neg hov, ← HQm.out]; exact ⟨rfl, rfl⟩
        have hqb : 0 ≤ q ∧ q ≤ total - p - s2 ∧ q ≤ s3 := by omega
        have g4 : IntKind.i64.wrap (s3 - q) = s3 - q := wrap_id _ (by omega) (by omega)
        have g5 : IntKind.i64.wrap (total - p - s2 - q) = total - p - s2 - q := wrap_id _ (by omega) (by omega)
        have HQ2b : Hid (∀ z, Six ((W2.setCell ⟨qb, 1, none⟩ (.int .i64 s2)).setCell ⟨qb, 2, none⟩ (.int .i64 z)) qb p s2 z (s1 - p) 0 0) := fun z => SumAt.put (SumAt.put HQ2.out 1 s2 (by omega) (fun i hi => rfl)) 2 z (by omega) (fun i hi => by rcases (by omega : i = 0 ∨ i = 1 ∨ i = 2 ∨ i = 3 ∨ i = 4 ∨ i = 5) with rfl | rfl | rfl | rfl | rfl | rfl <;> rfl)
        have HS2b : Hid (∀ z, SumAt ((W2.setCell ⟨qb, 1, none⟩ (.int .i64 s2)).setCell ⟨qb, 2, none⟩ (.int .i64 z)) sb 5 (fun i => sumK rs i)) := fun z => SumAt.far (SumAt.far HS2.out (by omega) _) (by omega) _
        have HZ2b : Hid (∀ z, Six ((W2.setCell ⟨qb, 1, none⟩ (.int .i64 s2)).setCell ⟨qb, 2, none⟩ (.int .i64 z)) pb 0 0 0 0 0 0) := fun z => SumAt.far (SumAt.far HZ2.out (by omega) _) (by omega) _
        have HB2b : Hid (∀ z : Int, Below w.heap.size w ((W2.setCell ⟨qb, 1, none⟩ (.int .i64 s2)).setCell ⟨qb, 2, none⟩ (.int .i64 z))) := fun z => (HB2.out.setCell hqb0 _).setCell hqb0 _
        rcases (by omega : s3 ≤ total - p - s2 ∨ total - p - s2 < s3) with hm | hm
        · have hqz : q = s3 := by omega
          have HQ3 := HQ2b.out s3
          have HS3 := HS2b.out s3
          have HZ3 := HZ2b.out s3
          have HB3 := HB2b.out s3
          have hmf : (total - p - s2 < s3) = False := eq_false (by omega)
          have HQZ : Hid (q = s3) := hqz
          clear hqz hq HQ2b HS2b HZ2b HB2b HQ2 HS2 HZ2 HB2 hov HQm
          go_wp2
          clear v0 v1 v2 v3 v4 v5 r0 r1 r2 r3 r4 r5 a2 a3 f1 f2 fz0 fz1 fz2 fz3 fz4 fz5
          obtain ⟨W3, hW3⟩ : ∃ W3, W3 = (W2.setCell ⟨qb, 1, none⟩ (.int .i64 s2)).setCell ⟨qb, 2, none⟩ (.int .i64 s3) := ⟨_, rfl⟩
          rw [← hW3] at HQ3 HS3 HZ3 HB3 ⊢
          rw [← HQZ.out] at HQ3
          have HQ3' : Hid (Six W3 qb p s2 q (s1 - p) 0 0) := HQ3
          have HS3' : Hid (SumAt W3 sb 5 (fun i => sumK rs i)) := HS3
          have HZ3' : Hid (Six W3 pb 0 0 0 0 0 0) := HZ3
          have HB3' : Hid (Below w.heap.size w W3) := HB3
          clear HQ3 HS3 HZ3 HB3 hW3 hm hmf
          have HQd : Hid (Six W3.drew qb p s2 q (s1 - p) 0 0) := HQ3'.out
          have HSd : Hid (SumAt W3.drew sb 5 (fun i => sumK rs i)) := HS3'.out
          have HZd : Hid (Six W3.drew pb 0 0 0 0 0 0) := HZ3'.out
          have HBd : Hid (Below w.heap.size w W3.drew) := chain HB3'.out (below_drew _)
          refine wp_region_held_drew (S := fun W => W.cell? ⟨sb, 3, none⟩ = some (.int .i64 s3) ∧ W.cell? ⟨qb, 2, none⟩ = some (.int .i64 q)) (by kernel_rfl) ⟨(HSd.out.2 3 (by omega)).1.trans (by rw [HE3.out]), HQd.out.cells.2.2.1⟩ (fun hH => ?_)
          generalize W3.drew = WD3 at *
          refine wpAnyH_take (i := 0) (v := .slice (some ⟨sb, 0, none⟩) 5 5) rfl (by kernel_rfl) (by kernel_rfl) (by kernel_rfl) (fun _ _ _ h => h) (Or.inl ⟨by rfl, fun w hSw => by go_simp⟩) hH ?_
          refine wpAnyH_take (i := 1) (v := .pointer (some ⟨sb, 3, none⟩)) rfl (by kernel_rfl) (by kernel_rfl) (by kernel_rfl) (fun _ _ _ h => h) (Or.inl ⟨by rfl, fun w hSw => by go_simp⟩) hH ?_
          try simp only [Act.put, List.setIfInBounds_toArray, List.set_cons_zero, List.set_cons_succ, List.getElem_toArray, List.getElem_cons_succ, List.getElem_cons_zero]
          refine wpAnyH_take (i := 2) (v := .int .i64 s3) rfl (by kernel_rfl) (by kernel_rfl) (by kernel_rfl) (fun _ _ _ h => h) (Or.inl ⟨by rfl, fun w hSw => by obtain ⟨u1, u2⟩ := hSw; go_simp⟩) hH ?_
          try simp only [Act.put, List.setIfInBounds_toArray, List.set_cons_zero, List.set_cons_succ, List.getElem_toArray, List.getElem_cons_succ, List.getElem_cons_zero]
          refine wpAnyH_take (i := 3) (v := .pointer (some ⟨qb, 2, none⟩)) rfl (by kernel_rfl) (by kernel_rfl) (by kernel_rfl) (fun _ _ _ h => h) (Or.inl ⟨by rfl, fun w hSw => by go_simp⟩) hH ?_
          try simp only [Act.put, List.setIfInBounds_toArray, List.set_cons_zero, List.set_cons_succ, List.getElem_toArray, List.getElem_cons_succ, List.getElem_cons_zero]
          refine wpAnyH_take (i := 4) (v := .int .i64 q) rfl (by kernel_rfl) (by kernel_rfl) (by kernel_rfl) (fun _ _ _ h => h) (Or.inl ⟨by rfl, fun w hSw => by obtain ⟨u1, u2⟩ := hSw; go_simp⟩) hH ?_
          try simp only [Act.put, List.setIfInBounds_toArray, List.set_cons_zero, List.set_cons_succ, List.getElem_toArray, List.getElem_cons_succ, List.getElem_cons_zero]
          refine wpAnyH_take (i := 5) (v := .int .i64 (s3 - q)) rfl (by kernel_rfl) (by kernel_rfl) (by kernel_rfl) (fun _ _ _ h => h) (Or.inl ⟨by rfl, fun w hSw => by go_simp⟩) hH ?_
          try simp only [Act.put, List.setIfInBounds_toArray, List.set_cons_zero, List.set_cons_succ, List.getElem_toArray, List.getElem_cons_succ, List.getElem_cons_zero]
          refine wpAnyH_take (i := 6) (v := .pointer (some ⟨qb, 4, none⟩)) rfl (by kernel_rfl) (by kernel_rfl) (by kernel_rfl) (fun _ _ _ h => h) (Or.inl ⟨by rfl, fun w hSw => by go_simp⟩) hH ?_
          try simp only [Act.put, List.setIfInBounds_toArray, List.set_cons_zero, List.set_cons_succ, List.getElem_toArray, List.getElem_cons_succ, List.getElem_cons_zero]
          refine wpAnyH_ready (rs := [7]) (by kernel_rfl) (by simp) ?_
          refine AllReadyH.cons rfl (fun K hK => ?_) AllReadyH.nil
          have q5 : WD3.cell? ⟨qb, 4, none⟩ = some (.int .i64 0) := HQd.out.cells.2.2.2.2.1
          have qf : WD3.frozen? ⟨qb, 4, none⟩ = false := (HQd.out.2 4 (by omega)).2
          have HQn : Hid (Six (WD3.setCell ⟨qb, 4, none⟩ (.int .i64 (s3 - q))) qb p s2 q (s1 - p) (s3 - q) 0) := HQd.out.put 4 _ (by omega) (fun i hi => by rcases (by omega : i = 0 ∨ i = 1 ∨ i = 2 ∨ i = 3 ∨ i = 4 ∨ i = 5) with rfl | rfl | rfl | rfl | rfl | rfl <;> rfl)
          have HSn : Hid (SumAt (WD3.setCell ⟨qb, 4, none⟩ (.int .i64 (s3 - q))) sb 5 (fun i => sumK rs i)) := SumAt.far HSd.out (by omega) _
          have HZn : Hid (Six (WD3.setCell ⟨qb, 4, none⟩ (.int .i64 (s3 - q))) pb 0 0 0 0 0 0) := SumAt.far HZd.out (by omega) _
          have HBn : Hid (Below w.heap.size w (WD3.setCell ⟨qb, 4, none⟩ (.int .i64 (s3 - q)))) := HBd.out.setCell hqb0 _
          have hS2 : (WD3.setCell ⟨qb, 4, none⟩ (.int .i64 (s3 - q))).cell? ⟨sb, 3, none⟩ = some (.int .i64 s3) ∧ (WD3.setCell ⟨qb, 4, none⟩ (.int .i64 (s3 - q))).cell? ⟨qb, 2, none⟩ = some (.int .i64 q) := ⟨(HSn.out.2 3 (by omega)).1.trans (by rw [HE3.out]), HQn.out.cells.2.2.1⟩
          go_simp
          clear q5 qf
          refine hK.out _ _ hS2 (fun _ => ?_)
          clear hK K
          try simp only [Act.put, List.setIfInBounds_toArray, List.set_cons_zero, List.set_cons_succ, List.getElem_toArray, List.getElem_cons_succ, List.getElem_cons_zero]
          refine wpAnyH_done (by kernel_rfl) ?_ _
          clear hS2 hH HQd HSd HZd HBd
          generalize WD3.setCell ⟨qb, 4, none⟩ (.int .i64 (s3 - q)) = W4 at *
          try simp
          obtain ⟨v0, v1, v2, v3, v4, v5⟩ := HQn.out.cells
          obtain ⟨r0, r1, r2, r3, r4, r5⟩ := HZn.out.cells
          have f5 : W4.frozen? ⟨qb, 5, none⟩ = false := (HQn.out.2 5 (by omega)).2
          have fz0 : W4.frozen? ⟨pb, 0, none⟩ = false := (HZn.out.2 0 (by omega)).2
          have fz1 : W4.frozen? ⟨pb, 1, none⟩ = false := (HZn.out.2 1 (by omega)).2
          have fz2 : W4.frozen? ⟨pb, 2, none⟩ = false := (HZn.out.2 2 (by omega)).2
          have fz3 : W4.frozen? ⟨pb, 3, none⟩ = false := (HZn.out.2 3 (by omega)).2
          have fz4 : W4.frozen? ⟨pb, 4, none⟩ = false := (HZn.out.2 4 (by omega)).2
          have fz5 : W4.frozen? ⟨pb, 5, none⟩ = false := (HZn.out.2 5 (by omega)).2
          go_wp2
          refine bodyPost_ret (v := .tuple #[.agg #[.int .i64 p, .int .i64 s2, .int .i64 q, .int .i64 (s1 - p), .int .i64 (s3 - q), .int .i64 (total - p - s2 - q)], .int .i64 0]) (by simp [results, Try.results15, go_sem, r0, r1, r2, r3, r4, r5]) rfl ⟨by rw [HEt.out.1, HEt.out.2, HV.out.1, HV.out.2], ?_⟩
          exact below_six (HBn.out.setCell hqb0 _) hpb0 _ _ _ _ _ _
        · have hqz : q = (total - p - s2) := by omega
          have HQ3 := HQ2b.out (total - p - s2)
          have HS3 := HS2b.out (total - p - s2)
          have HZ3 := HZ2b.out (total - p - s2)
          have HB3 := HB2b.out (total - p - s2)
          have HQZ : Hid (q = (total - p - s2)) := hqz
          clear hqz hq HQ2b HS2b HZ2b HB2b HQ2 HS2 HZ2 HB2 hov HQm
          go_wp2
          clear v0 v1 v2 v3 v4 v5 r0 r1 r2 r3 r4 r5 a2 a3 f1 f2 fz0 fz1 fz2 fz3 fz4 fz5
          obtain ⟨W3, hW3⟩ : ∃ W3, W3 = (W2.setCell ⟨qb, 1, none⟩ (.int .i64 s2)).setCell ⟨qb, 2, none⟩ (.int .i64 (total - p - s2)) := ⟨_, rfl⟩
          rw [← hW3] at HQ3 HS3 HZ3 HB3 ⊢
          rw [← HQZ.out] at HQ3
          have HQ3' : Hid (Six W3 qb p s2 q (s1 - p) 0 0) := HQ3
          have HS3' : Hid (SumAt W3 sb 5 (fun i => sumK rs i)) := HS3
          have HZ3' : Hid (Six W3 pb 0 0 0 0 0 0) := HZ3
          have HB3' : Hid (Below w.heap.size w W3) := HB3
          clear HQ3 HS3 HZ3 HB3 hW3 hm
          have HQd : Hid (Six W3.drew qb p s2 q (s1 - p) 0 0) := HQ3'.out
          have HSd : Hid (SumAt W3.drew sb 5 (fun i => sumK rs i)) := HS3'.out
          have HZd : Hid (Six W3.drew pb 0 0 0 0 0 0) := HZ3'.out
          have HBd : Hid (Below w.heap.size w W3.drew) := chain HB3'.out (below_drew _)
          refine wp_region_held_drew (S := fun W => W.cell? ⟨sb, 3, none⟩ = some (.int .i64 s3) ∧ W.cell? ⟨qb, 2, none⟩ = some (.int .i64 q)) (by kernel_rfl) ⟨(HSd.out.2 3 (by omega)).1.trans (by rw [HE3.out]), HQd.out.cells.2.2.1⟩ (fun hH => ?_)
          generalize W3.drew = WD3 at *
          refine wpAnyH_take (i := 0) (v := .slice (some ⟨sb, 0, none⟩) 5 5) rfl (by kernel_rfl) (by kernel_rfl) (by kernel_rfl) (fun _ _ _ h => h) (Or.inl ⟨by rfl, fun w hSw => by go_simp⟩) hH ?_
          refine wpAnyH_take (i := 1) (v := .pointer (some ⟨sb, 3, none⟩)) rfl (by kernel_rfl) (by kernel_rfl) (by kernel_rfl) (fun _ _ _ h => h) (Or.inl ⟨by rfl, fun w hSw => by go_simp⟩) hH ?_
          try simp only [Act.put, List.setIfInBounds_toArray, List.set_cons_zero, List.set_cons_succ, List.getElem_toArray, List.getElem_cons_succ, List.getElem_cons_zero]
          refine wpAnyH_take (i := 2) (v := .int .i64 s3) rfl (by kernel_rfl) (by kernel_rfl) (by kernel_rfl) (fun _ _ _ h => h) (Or.inl ⟨by rfl, fun w hSw => by obtain ⟨u1, u2⟩ := hSw; go_simp⟩) hH ?_
          try simp only [Act.put, List.setIfInBounds_toArray, List.set_cons_zero, List.set_cons_succ, List.getElem_toArray, List.getElem_cons_succ, List.getElem_cons_zero]
          refine wpAnyH_take (i := 3) (v := .pointer (some ⟨qb, 2, none⟩)) rfl (by kernel_rfl) (by kernel_rfl) (by kernel_rfl) (fun _ _ _ h => h) (Or.inl ⟨by rfl, fun w hSw => by go_simp⟩) hH ?_
          try simp only [Act.put, List.setIfInBounds_toArray, List.set_cons_zero, List.set_cons_succ, List.getElem_toArray, List.getElem_cons_succ, List.getElem_cons_zero]
          refine wpAnyH_take (i := 4) (v := .int .i64 q) rfl (by kernel_rfl) (by kernel_rfl) (by kernel_rfl) (fun _ _ _ h => h) (Or.inl ⟨by rfl, fun w hSw => by obtain ⟨u1, u2⟩ := hSw; go_simp⟩) hH ?_
          try simp only [Act.put, List.setIfInBounds_toArray, List.set_cons_zero, List.set_cons_succ, List.getElem_toArray, List.getElem_cons_succ, List.getElem_cons_zero]
          refine wpAnyH_take (i := 5) (v := .int .i64 (s3 - q)) rfl (by kernel_rfl) (by kernel_rfl) (by kernel_rfl) (fun _ _ _ h => h) (Or.inl ⟨by rfl, fun w hSw => by go_simp⟩) hH ?_
          try simp only [Act.put, List.setIfInBounds_toArray, List.set_cons_zero, List.set_cons_succ, List.getElem_toArray, List.getElem_cons_succ, List.getElem_cons_zero]
          refine wpAnyH_take (i := 6) (v := .pointer (some ⟨qb, 4, none⟩)) rfl (by kernel_rfl) (by kernel_rfl) (by kernel_rfl) (fun _ _ _ h => h) (Or.inl ⟨by rfl, fun w hSw => by go_simp⟩) hH ?_
          try simp only [Act.put, List.setIfInBounds_toArray, List.set_cons_zero, List.set_cons_succ, List.getElem_toArray, List.getElem_cons_succ, List.getElem_cons_zero]
          refine wpAnyH_ready (rs := [7]) (by kernel_rfl) (by simp) ?_
          refine AllReadyH.cons rfl (fun K hK => ?_) AllReadyH.nil
          have q5 : WD3.cell? ⟨qb, 4, none⟩ = some (.int .i64 0) := HQd.out.cells.2.2.2.2.1
          have qf : WD3.frozen? ⟨qb, 4, none⟩ = false := (HQd.out.2 4 (by omega)).2
          have HQn : Hid (Six (WD3.setCell ⟨qb, 4, none⟩ (.int .i64 (s3 - q))) qb p s2 q (s1 - p) (s3 - q) 0) := HQd.out.put 4 _ (by omega) (fun i hi => by rcases (by omega : i = 0 ∨ i = 1 ∨ i = 2 ∨ i = 3 ∨ i = 4 ∨ i = 5) with rfl | rfl | rfl | rfl | rfl | rfl <;> rfl)
          have HSn : Hid (SumAt (WD3.setCell ⟨qb, 4, none⟩ (.int .i64 (s3 - q))) sb 5 (fun i => sumK rs i)) := SumAt.far HSd.out (by omega) _
          have HZn : Hid (Six (WD3.setCell ⟨qb, 4, none⟩ (.int .i64 (s3 - q))) pb 0 0 0 0 0 0) := SumAt.far HZd.out (by omega) _
          have HBn : Hid (Below w.heap.size w (WD3.setCell ⟨qb, 4, none⟩ (.int .i64 (s3 - q)))) := HBd.out.setCell hqb0 _
          have hS2 : (WD3.setCell ⟨qb, 4, none⟩ (.int .i64 (s3 - q))).cell? ⟨sb, 3, none⟩ = some (.int .i64 s3) ∧ (WD3.setCell ⟨qb, 4, none⟩ (.int .i64 (s3 - q))).cell? ⟨qb, 2, none⟩ = some (.int .i64 q) := ⟨(HSn.out.2 3 (by omega)).1.trans (by rw [HE3.out]), HQn.out.cells.2.2.1⟩
          go_simp
          clear q5 qf
          refine hK.out _ _ hS2 (fun _ => ?_)
          clear hK K
          try simp only [Act.put, List.setIfInBounds_toArray, List.set_cons_zero, List.set_cons_succ, List.getElem_toArray, List.getElem_cons_succ, List.getElem_cons_zero]
          refine wpAnyH_done (by kernel_rfl) ?_ _
          clear hS2 hH HQd HSd HZd HBd
          generalize WD3.setCell ⟨qb, 4, none⟩ (.int .i64 (s3 - q)) = W4 at *
          try simp
          obtain ⟨v0, v1, v2, v3, v4, v5⟩ := HQn.out.cells
          obtain ⟨r0, r1, r2, r3, r4, r5⟩ := HZn.out.cells
          have f5 : W4.frozen? ⟨qb, 5, none⟩ = false := (HQn.out.2 5 (by omega)).2
          have fz0 : W4.frozen? ⟨pb, 0, none⟩ = false := (HZn.out.2 0 (by omega)).2
          have fz1 : W4.frozen? ⟨pb, 1, none⟩ = false := (HZn.out.2 1 (by omega)).2
          have fz2 : W4.frozen? ⟨pb, 2, none⟩ = false := (HZn.out.2 2 (by omega)).2
          have fz3 : W4.frozen? ⟨pb, 3, none⟩ = false := (HZn.out.2 3 (by omega)).2
          have fz4 : W4.frozen? ⟨pb, 4, none⟩ = false := (HZn.out.2 4 (by omega)).2
          have fz5 : W4.frozen? ⟨pb, 5, none⟩ = false := (HZn.out.2 5 (by omega)).2
          go_wp2
          refine bodyPost_ret (v := .tuple #[.agg #[.int .i64 p, .int .i64 s2, .int .i64 q, .int .i64 (s1 - p), .int .i64 (s3 - q), .int .i64 (total - p - s2 - q)], .int .i64 0]) (by simp [results, Try.results15, go_sem, r0, r1, r2, r3, r4, r5]) rfl ⟨by rw [HEt.out.1, HEt.out.2, HV.out.1, HV.out.2], ?_⟩
          exact below_six (HBn.out.setCell hqb0 _) hpb0 _ _ _ _ _ _
end Go.Proofs.Ytgkbfkdokknedaa

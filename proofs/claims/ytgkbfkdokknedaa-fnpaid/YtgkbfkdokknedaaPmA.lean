/-
  Tenders as mathematics; contracts of the program's tenderOK, tendersOK, counted, pays, paidBy and PayMix, for every total and every list of tenders.
-/
import Derived.Test.YtgkbfkdokknedaaTdA
import Derived.Test.YtgkbfkdokknedaaTold
namespace Go.Proofs.Ytgkbfkdokknedaa
open Go.ChangeShapes Go.WideShapes Go.ChangeAt Go.RowKit
set_option linter.unusedVariables false

def tdB (r : RTd) : Bool := decide (1 ≤ r.am ∧ r.am ≤ 1000000000) && (if r.kd = 4 then rateB r.n r.d else decide ((1 ≤ r.kd ∧ r.kd ≤ 3) ∧ r.n = 0 ∧ r.d = 0))
/-- What a tender counts as: its kind, its money. -/
def tdK (r : RTd) : Nat := if r.kd = 4 then 3 else r.kd.toNat
def tdV (r : RTd) : Int := if r.kd = 4 then rq (r.am * r.n / r.d) (r.am * r.n % r.d) r.d 1 else r.am
def sumK (rs : List RTd) (k : Nat) : Int := (rs.map fun r => if tdK r = k then tdV r else 0).sum
theorem td_ways (r : RTd) (b : Bool) (h : b = tdB r) : (r.am < 1 ∧ b = false) ∨ (1 ≤ r.am ∧ 1000000000 < r.am ∧ b = false) ∨ ((1 ≤ r.am ∧ r.am ≤ 1000000000) ∧ r.kd = 4 ∧ b = rateB r.n r.d) ∨ ((1 ≤ r.am ∧ r.am ≤ 1000000000) ∧ (r.kd = 1 ∨ r.kd = 2 ∨ r.kd = 3) ∧ b = decide (r.n = 0 ∧ r.d = 0)) ∨ ((1 ≤ r.am ∧ r.am ≤ 1000000000) ∧ (r.kd < 1 ∨ 4 < r.kd) ∧ b = false) := by
  subst h
  unfold tdB
  rcases (by omega : r.am < 1 ∨ (1 ≤ r.am ∧ 1000000000 < r.am) ∨ (1 ≤ r.am ∧ r.am ≤ 1000000000)) with h1 | h1 | h1
  · exact .inl ⟨h1, by rw [decide_eq_false (by omega)]; rfl⟩
  · exact .inr (.inl ⟨h1.1, h1.2, by rw [decide_eq_false (by omega)]; rfl⟩)
  · rw [decide_eq_true h1, Bool.true_and]
    by_cases h4 : r.kd = 4
    · exact .inr (.inr (.inl ⟨h1, h4, by rw [if_pos h4]⟩))
    · rw [if_neg h4]
      rcases (by omega : (r.kd = 1 ∨ r.kd = 2 ∨ r.kd = 3) ∨ (r.kd < 1 ∨ 4 < r.kd)) with h5 | h5
      · exact .inr (.inr (.inr (.inl ⟨h1, h5, decide_eq_decide.mpr ⟨fun h => h.2, fun h => ⟨by omega, h⟩⟩⟩)))
      · exact .inr (.inr (.inr (.inr ⟨h1, h5, decide_eq_false (by omega)⟩)))
theorem rq_one (q r d : Int) : rq q r d 1 = q := by
  unfold rq upB
  simp
theorem td_right {r : RTd} (h : tdB r = true) : (1 ≤ tdK r ∧ tdK r ≤ 3) ∧ 0 ≤ tdV r ∧ tdV r ≤ 10000000000000 := by
  rcases td_ways r _ rfl with ⟨_, e⟩ | ⟨_, _, e⟩ | ⟨h1, h2, e⟩ | ⟨h1, h2, e⟩ | ⟨_, _, e⟩
  · rw [e] at h; simp at h
  · rw [e] at h; simp at h
  · rw [h] at e
    obtain ⟨⟨n1, n2⟩, d1, d2⟩ := (rateB_iff r.n r.d).mp e.symm
    unfold tdK tdV
    rw [if_pos h2, if_pos h2, rq_one]
    obtain ⟨b1, b2⟩ := mul_bound r.am r.n 1000000000 10000 (by omega) h1.2 n1 n2 (by omega)
    have h0 : 0 ≤ r.am * r.n := Int.mul_nonneg (by omega) n1
    obtain ⟨e1, e2⟩ := ediv_bound (r.am * r.n) r.d d1 10000000000000 (by omega) (by omega)
    exact ⟨by omega, Int.ediv_nonneg h0 (by omega), e2⟩
  · unfold tdK tdV
    rw [if_neg (by omega), if_neg (by omega)]
    omega
  · rw [e] at h; simp at h
theorem sumK_next (rs : List RTd) (k i : Nat) (h : i < rs.length) : sumK (rs.take (i + 1)) k = sumK (rs.take i) k + (if tdK (rs.getD i zTd) = k then tdV (rs.getD i zTd) else 0) := by
  have e : rs.getD i zTd = rs[i] := by simp [List.getD_eq_getElem?_getD, h]
  unfold sumK
  rw [List.take_succ_eq_append_getElem h, List.map_append, List.sum_append, e]
  simp
theorem sumK_bound (rs : List RTd) (hr : ∀ r ∈ rs, tdB r = true) (k : Nat) : ∀ i, i ≤ rs.length → 0 ≤ sumK (rs.take i) k ∧ sumK (rs.take i) k ≤ (i : Int) * 10000000000000
  | 0, _ => by simp [sumK]
  | i + 1, hi => by
    have ih := sumK_bound rs hr k i (by omega)
    rw [sumK_next rs k i (by omega)]
    have := (td_right (getTd hr (show i < rs.length by omega))).2
    split <;> omega
theorem tds_take (p : RTd → Bool) (rs : List RTd) (k : Nat) (h : k < rs.length) : (rs.take (k + 1)).all p = ((rs.take k).all p && p (rs.getD k zTd)) := by
  rw [List.take_succ_eq_append_getElem h, List.all_append]
  have e : rs.getD k zTd = rs[k] := by simp [List.getD_eq_getElem?_getD, h]
  rw [e]; simp
theorem tds_fail {p : RTd → Bool} {rs : List RTd} {k : Nat} (h : k < rs.length) (hp : p (rs.getD k zTd) = false) : rs.all p = false := by
  have e : rs.getD k zTd = rs[k] := by simp [List.getD_eq_getElem?_getD, h]
  rw [e] at hp
  rw [List.all_eq_false]
  exact ⟨rs[k], List.getElem_mem _, by simp [hp]⟩
/-- What PayMix answers, of what vouchers, cards and cash are together. -/
def paid6 (s1 s2 s3 total : Int) : Value :=
  if total - min s1 total < s2 then .agg #[.int .i64 0, .int .i64 0, .int .i64 0, .int .i64 0, .int .i64 0, .int .i64 0]
  else .agg #[.int .i64 (min s1 total), .int .i64 s2, .int .i64 (min s3 (total - min s1 total - s2)), .int .i64 (s1 - min s1 total), .int .i64 (s3 - min s3 (total - min s1 total - s2)), .int .i64 (total - min s1 total - s2 - min s3 (total - min s1 total - s2))]
def paidC (s1 s2 s3 total : Int) : Int := if total - min s1 total < s2 then 5 else 0
def pmCode (total : Int) (rs : List RTd) : Int := if 4096 < rs.length then 2 else if 20 < rs.length then 9 else if total < 0 ∨ 1000000000 < total ∨ rs.all tdB = false then 1 else paidC (sumK rs 1) (sumK rs 2) (sumK rs 3) total
def pmVal (total : Int) (rs : List RTd) : Value := if 4096 < rs.length then .agg #[.int .i64 0, .int .i64 0, .int .i64 0, .int .i64 0, .int .i64 0, .int .i64 0] else if 20 < rs.length then .agg #[.int .i64 0, .int .i64 0, .int .i64 0, .int .i64 0, .int .i64 0, .int .i64 0] else if total < 0 ∨ 1000000000 < total ∨ rs.all tdB = false then .agg #[.int .i64 0, .int .i64 0, .int .i64 0, .int .i64 0, .int .i64 0, .int .i64 0] else paid6 (sumK rs 1) (sumK rs 2) (sumK rs 3) total
def PmAns (total : Int) (rs : List RTd) : Ending := .returned (.tuple #[pmVal total rs, .int .i64 (pmCode total rs)])

set_option maxHeartbeats 2000000 in
theorem tenderOK_any (r : RTd) (w : World) :
    Calls Try.prog 35 #[.agg #[.int .i64 r.kd, .int .i64 r.am, .int .i64 r.n, .int .i64 r.d]] w fun e w' => e = .returned (.bool (tdB r)) ∧ Below w.heap.size w w' := by
  have hw := td_ways r _ rfl
  have hR := fun w => implRate_any r.n r.d w
  generalize tdB r = b at *
  obtain ⟨k, a, n, d⟩ := r
  dsimp only at *
  rcases hw with ⟨h1, rfl⟩ | ⟨h1, h2, rfl⟩ | ⟨⟨h1, h1'⟩, rfl, rfl⟩ | ⟨⟨h1, h1'⟩, h2, rfl⟩ | ⟨⟨h1, h1'⟩, h2, rfl⟩
  · go_enter Try.func35, Try.ntmps35
    go_wp2
    go_ret
    exact ⟨rfl, below_alloc _ _⟩
  · go_enter Try.func35, Try.ntmps35
    go_wp2
    go_ret
    exact ⟨rfl, below_alloc _ _⟩
  · generalize rateB n d = rb at *
    go_enter Try.func35, Try.ntmps35
    go_wp2_with (go_at_call 43; refine (hR _).mono ?_; rintro e w1 ⟨rfl, hb1⟩)
    go_ret
    exact ⟨rfl, chain (below_alloc _ _) hb1⟩
  · clear hR
    rcases (by omega : (n = 0 ∧ d = 0) ∨ (n = 0 ∧ d ≠ 0) ∨ n ≠ 0) with ⟨rfl, rfl⟩ | ⟨rfl, hd⟩ | hn
    · rcases h2 with rfl | rfl | rfl
      all_goals
        go_enter Try.func35, Try.ntmps35
        go_wp2
        go_ret
        exact ⟨ret_bool (by simp), below_alloc _ _⟩
    · have hd2 : (d == 0) = false := by simpa using hd
      rcases h2 with rfl | rfl | rfl
      all_goals
        go_enter Try.func35, Try.ntmps35
        go_wp2
        go_ret
        exact ⟨ret_bool (by simp [hd]), below_alloc _ _⟩
    · have hn2 : (n == 0) = false := by simpa using hn
      rcases h2 with rfl | rfl | rfl
      all_goals
        go_enter Try.func35, Try.ntmps35
        go_wp2
        go_ret
        exact ⟨ret_bool (by simp [hn]), below_alloc _ _⟩
  · clear hR
    have k1 : (k == 1) = false := by simp; omega
    have k2 : (k == 2) = false := by simp; omega
    have k3 : (k == 3) = false := by simp; omega
    have k4 : (k == 4) = false := by simp; omega
    clear h2
    go_enter Try.func35, Try.ntmps35
    go_wp2
    go_ret
    exact ⟨rfl, below_alloc _ _⟩

set_option maxHeartbeats 2000000 in
theorem tendersOK_any (a : Option Addr) (cap : Nat) (rs : List RTd) (hl : rs.length ≤ 100000000) (w : World) (hr : ReadsTd w.heap.size w a rs) :
    Calls Try.prog 26 #[.slice a rs.length cap] w fun e w' => e = .returned (.bool (rs.all tdB)) ∧ Below w.heap.size w w' := by
  have HR : Hid (ReadsTd w.heap.size w a rs) := hr
  clear hr
  go_enter Try.func26, Try.ntmps26
  go_wp2
  go_loopw [7] (fun c wr => ∃ k : Nat, k ≤ rs.length ∧ c = .int .i64 (k : Int) ∧ (rs.take k).all tdB = true ∧ Below w.heap.size w wr) (fun c _ => rs.length - (intOf c).toNat)
  case atStart => exact ⟨0, Nat.zero_le _, rfl, rfl, Below.refl _ _⟩
  case round =>
    obtain ⟨k, hk, rfl, hf, hb⟩ := hrel
    have HF : Hid ((rs.take k).all tdB = true) := hf
    have HB : Hid (Below w.heap.size w wr) := hb
    clear hf hb
    by_cases hlt : k < rs.length
    · have hlt' : (k : Int) < (rs.length : Int) := by omega
      rcases HR.out with h | ⟨b0, o0, ha, hB0, ia⟩
      · rw [h] at hlt; simp at hlt
      obtain ⟨c0, c1, c2, c3⟩ := (ia.below HB.out hB0) k hlt
      have HX : Hid (tdB (rs.getD k zTd) = false → rs.all tdB = false) := fun h => tds_fail hlt h
      have HN : Hid ((rs.take (k + 1)).all tdB = ((rs.take k).all tdB && tdB (rs.getD k zTd))) := tds_take tdB rs k hlt
      have hm := fun w => tenderOK_any (rs.getD k zTd) w
      rw [ha]
      clear ia
      generalize rs.getD k zTd = q at *
      generalize tdB q = mb at *
      obtain ⟨kd, am, n, d⟩ := q
      dsimp only at c0 c1 c2 c3 hm
      cases mb
      · have HE : Hid (rs.all tdB = false) := HX.out rfl
        go_wp2_with (go_at_call 35; refine (hm _).mono ?_; rintro e w2 ⟨rfl, hb2⟩)
        go_ret
        exact ⟨ret_bool HE.out.symm, chain (chain HB.out (below_alloc _ _)) hb2⟩
      · go_wp2_with (go_at_call 35; refine (hm _).mono ?_; rintro e w2 ⟨rfl, hb2⟩)
        exact ⟨⟨k + 1, by omega, by go_num, by rw [HN.out, HF.out]; rfl, chain (chain HB.out (below_alloc _ _)) hb2⟩, by simp [intOf]; omega⟩
    · have hle : (rs.length : Int) ≤ (k : Int) := by omega
      have HE : Hid (rs.all tdB = true) := by have := HF.out; rwa [List.take_of_length_le (by omega)] at this
      go_wp2
      go_ret
      exact ⟨ret_bool HE.out.symm, HB.out⟩

set_option maxHeartbeats 2000000 in
theorem counted_any (r : RTd) (hr : tdB r = true) (w : World) :
    Calls Try.prog 27 #[.agg #[.int .i64 r.kd, .int .i64 r.am, .int .i64 r.n, .int .i64 r.d]] w fun e w' => e = .returned (.tuple #[.int .i64 (tdK r : Int), .int .i64 (tdV r)]) ∧ Below w.heap.size w w' := by
  have hw := td_ways r _ rfl
  rw [hr] at hw
  unfold tdK tdV
  obtain ⟨k, a, n, d⟩ := r
  dsimp only at *
  by_cases h4 : k = 4
  · subst h4
    rw [if_pos rfl, if_pos rfl]
    obtain ⟨⟨h1, h1'⟩, hR⟩ : (1 ≤ a ∧ a ≤ 1000000000) ∧ rateB n d = true := by
      rcases hw with ⟨_, e⟩ | ⟨_, _, e⟩ | ⟨h1, h2, e⟩ | ⟨h1, h2, e⟩ | ⟨_, _, e⟩
      · simp at e
      · simp at e
      · exact ⟨h1, e.symm⟩
      · omega
      · simp at e
    clear hw hr
    obtain ⟨⟨n1, n2⟩, d1, d2⟩ := (rateB_iff n d).mp hR
    obtain ⟨b1, b2⟩ := mul_bound a n 1000000000 10000 (by omega) h1' n1 n2 (by omega)
    have hdv := fun w => divide_any (a * n) d w (by omega) (by omega) d1 (by omega)
    have hem := Int.emod_nonneg (a * n) (b := d) (by omega)
    have hem' := Int.emod_lt_of_pos (a * n) (b := d) (by omega)
    obtain ⟨e1, e2⟩ := ediv_bound (a * n) d d1 1000000000000000000 (by omega) (by omega)
    have hrn : ∀ w, Calls Try.prog 37 #[.agg #[.int .i64 (a * n / d), .int .i64 (a * n % d), .int .i64 d], .agg #[.func (.func 44) #[] #[]]] w fun e w' => e = .returned (.int .i64 (rq (a * n / d) (a * n % d) d 1)) ∧ Below w.heap.size w w' := fun w =>
      rounded_fn1 _ _ _ _ w e1 e2 (fun w => by first | exact mode1_any _ _ _ w | exact mode1_any _ _ _ w hem hem' (by omega))
    have hix : ∀ w, (Instr.index 79 (.agg #[.nilFunc, .func (.func 44) #[] #[], .func (.func 45) #[] #[], .func (.func 46) #[] #[], .func (.func 48) #[] #[]]) (.int .i64 1)).run Try.prog w = .ok (.agg #[.func (.func 44) #[] #[]]) w := fun _ => by kernel_rfl
    go_enter Try.func27, Try.ntmps27
    go_wp2_with (first | (go_at_call 36; refine (hdv _).mono ?_; rintro e w2 ⟨rfl, hb2⟩; obtain ⟨hc2, hf2, hz2⟩ := bfacts hb2) | (go_at_call 38; refine (roundings_any _).mono ?_; rintro e w3 ⟨rfl, hb3⟩; obtain ⟨hc3, hf3, hz3⟩ := bfacts hb3) | (go_at_call 37; refine (hrn _).mono ?_; rintro e w4 ⟨rfl, hb4⟩; obtain ⟨hc4, hf4, hz4⟩ := bfacts hb4))
    go_ret2
    exact ⟨rfl, by repeat (first | exact Below.refl _ _ | refine chain ?_ (by assumption) | refine chain ?_ (below_alloc _ _) | refine chain ?_ (below_drew _))⟩
  · rw [if_neg h4, if_neg h4]
    have hk : 1 ≤ k ∧ k ≤ 3 := by
      rcases hw with ⟨_, e⟩ | ⟨_, _, e⟩ | ⟨h1, h2, e⟩ | ⟨h1, h2, e⟩ | ⟨_, _, e⟩
      · simp at e
      · simp at e
      · omega
      · omega
      · simp at e
    have hk4 : (k == 4) = false := by simpa using h4
    have hkt : (k.toNat : Int) = k := by omega
    rw [hkt]
    clear hw hr hkt h4
    go_enter Try.func27, Try.ntmps27
    go_wp2
    go_quiet (fail)
    go_wp2
    go_ret2
    exact ⟨rfl, by repeat (first | exact Below.refl _ _ | refine below_drewN ?_ _ | refine chain ?_ (below_alloc _ _) | refine chain ?_ (below_drew _))⟩
theorem pays_any (m d : Int) (h1 : 0 ≤ m) (h2 : m ≤ 1000000000000000) (h3 : 0 ≤ d) (h4 : d ≤ 1000000000) (w : World) :
    Calls Try.prog 39 #[.int .i64 m, .int .i64 d] w fun e w' => e = .returned (.tuple #[.int .i64 (min m d), .int .i64 (m - min m d)]) ∧ w' = w := by
  rcases (by omega : m ≤ d ∨ d < m) with h | h
  · rw [show min m d = m by omega]
    have hx : (d < m) = False := eq_false (by omega)
    go_enter Try.func39, Try.ntmps39
    go_wp2
    go_ret2
    exact ⟨by simp, rfl⟩
  · rw [show min m d = d by omega]
    go_enter Try.func39, Try.ntmps39
    go_wp2
    go_ret2
    exact ⟨rfl, rfl⟩
end Go.Proofs.Ytgkbfkdokknedaa

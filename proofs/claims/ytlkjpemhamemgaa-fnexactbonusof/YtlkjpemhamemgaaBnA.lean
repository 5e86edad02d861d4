/-
  Rungs and bonuses as mathematics; contracts of the program's Rung.right, rungsOK and BonusOf.
-/
import Derived.Test.YtlkjpemhamemgaaRgF
import Derived.Test.YtlkjpemhamemgaaDyA
import Derived.Test.YtlkjpemhamemgaaPart
import Derived.Test.YtlkjpemhamemgaaRow1
namespace Go.Proofs.Ytlkjpemhamemgaa
open Go.ChangeShapes Go.WideShapes Go.ChangeAt Go.RowKit Go.Joins Go.Deep
set_option linter.unusedVariables false

def rgB (r : RRg) : Bool := inB r.fr 0 1000000000 && (rateB r.n r.d && decide (r.n ≤ r.d))
def rgsB (rs : List RRg) : Bool := rs.all rgB
theorem rgs_take (r : List RRg) (k : Nat) (h : k < r.length) : rgsB (r.take (k + 1)) = (rgsB (r.take k) && rgB (r.getD k zRg)) := by
  unfold rgsB
  rw [List.take_succ_eq_append_getElem h, List.all_append]
  have e : r.getD k zRg = r[k] := by simp [List.getD_eq_getElem?_getD, h]
  rw [e]; simp
theorem rgs_fail {r : List RRg} {k : Nat} (h : k < r.length) (hp : rgB (r.getD k zRg) = false) : rgsB r = false := by
  have e : r.getD k zRg = r[k] := by simp [List.getD_eq_getElem?_getD, h]
  rw [e] at hp
  unfold rgsB
  rw [List.all_eq_false]
  exact ⟨r[k], List.getElem_mem _, by simp [hp]⟩
theorem rg_facts {r : RRg} (h : rgB r = true) : (0 ≤ r.fr ∧ r.fr ≤ 1000000000) ∧ (0 ≤ r.n ∧ r.n ≤ 10000) ∧ (1 ≤ r.d ∧ r.d ≤ 10000) ∧ r.n ≤ r.d := by
  unfold rgB inB rateB at h
  simp only [Bool.and_eq_true, decide_eq_true_eq] at h
  omega
theorem rgs_at {rs : List RRg} (h : rgsB rs = true) {k : Nat} (hk : k < rs.length) : rgB (rs.getD k zRg) = true := by
  unfold rgsB at h
  rw [List.all_eq_true] at h
  exact getRg h hk
def frL (rs : List RRg) : List Int := rs.map RRg.fr
theorem frL_len (rs : List RRg) : (frL rs).length = rs.length := by simp [frL]
theorem frL_at (rs : List RRg) (k : Nat) (h : k < rs.length) : (frL rs).getD k 0 = (rs.getD k zRg).fr := by simp [frL, List.getD_eq_getElem?_getD, h]
theorem frL_take (rs : List RRg) (k : Nat) (h : k < rs.length) : frL (rs.take (k + 1)) = frL (rs.take k) ++ [(rs.getD k zRg).fr] := by
  unfold frL
  rw [List.take_succ_eq_append_getElem h, List.map_append]
  have e : rs.getD k zRg = rs[k] := by simp [List.getD_eq_getElem?_getD, h]
  rw [e]; rfl
/-- The rungs are right. -/
def bnR (rs : List RRg) : Bool := decide (rs.length ≤ 12) && (rgsB rs && rsN (frL rs) rs.length)
def bnC (rs : List RRg) (t : Int) : Int := if 4096 < rs.length then 2 else if (bnR rs && inB t 0 1000000000) = true then 0 else 1
/-- The last of the first k rungs that t reaches, or -1; its rate, or 0. -/
def lsR (rs : List RRg) (t : Int) : Nat → Int
  | 0 => -1
  | k + 1 => if (rs.getD k zRg).fr ≤ t then (k : Int) else lsR rs t k
def rtN (rs : List RRg) (t : Int) (k : Nat) : Int := if lsR rs t k < 0 then 0 else (rs.getD (lsR rs t k).toNat zRg).n
def rtD (rs : List RRg) (t : Int) (k : Nat) : Int := if lsR rs t k < 0 then 1 else (rs.getD (lsR rs t k).toNat zRg).d
def bnV (rs : List RRg) (t : Int) : Int := if bnC rs t = 0 then t * rtN rs t rs.length / rtD rs t rs.length else 0
theorem lsR_range (rs : List RRg) (t : Int) : ∀ k, -1 ≤ lsR rs t k ∧ lsR rs t k < (k : Int)
  | 0 => by simp [lsR]
  | k + 1 => by
    have ih := lsR_range rs t k
    rw [lsR]; split <;> omega
theorem rt_next (rs : List RRg) (t : Int) (k : Nat) : ((rs.getD k zRg).fr ≤ t → lsR rs t (k + 1) = (k : Int) ∧ rtN rs t (k + 1) = (rs.getD k zRg).n ∧ rtD rs t (k + 1) = (rs.getD k zRg).d) ∧ (¬ (rs.getD k zRg).fr ≤ t → lsR rs t (k + 1) = lsR rs t k ∧ rtN rs t (k + 1) = rtN rs t k ∧ rtD rs t (k + 1) = rtD rs t k) := by
  constructor
  · intro h
    have e : lsR rs t (k + 1) = (k : Int) := by rw [lsR, if_pos h]
    refine ⟨e, ?_, ?_⟩
    · unfold rtN; rw [e, if_neg (by omega)]; rfl
    · unfold rtD; rw [e, if_neg (by omega)]; rfl
  · intro h
    have e : lsR rs t (k + 1) = lsR rs t k := by rw [lsR, if_neg h]
    exact ⟨e, by unfold rtN; rw [e], by unfold rtD; rw [e]⟩
theorem rt_right {rs : List RRg} (h : rgsB rs = true) (t : Int) : (0 ≤ rtN rs t rs.length ∧ rtN rs t rs.length ≤ 10000) ∧ (1 ≤ rtD rs t rs.length ∧ rtD rs t rs.length ≤ 10000) ∧ rtN rs t rs.length ≤ rtD rs t rs.length := by
  have hr := lsR_range rs t rs.length
  unfold rtN rtD
  by_cases h0 : lsR rs t rs.length < 0
  · rw [if_pos h0, if_pos h0]; omega
  · rw [if_neg h0, if_neg h0]
    obtain ⟨_, h1, h2, h3⟩ := rg_facts (rgs_at h (k := (lsR rs t rs.length).toNat) (by omega))
    exact ⟨h1, h2, h3⟩
theorem bn_num {t n d : Int} (ht : 0 ≤ t ∧ t ≤ 1000000000) (hn : 0 ≤ n ∧ n ≤ 10000) (hd : 1 ≤ d ∧ d ≤ 10000) (h : n ≤ d) : (0 ≤ t * n ∧ t * n ≤ 10000000000000) ∧ 0 ≤ t * n / d ∧ t * n / d ≤ 1000000000 := by
  have h1 : 0 ≤ t * n := Int.mul_nonneg ht.1 hn.1
  have h2 : t * n ≤ 1000000000 * 10000 := Int.mul_le_mul ht.2 hn.2 hn.1 (by omega)
  have h3 : t * n ≤ 1000000000 * d := Int.mul_le_mul ht.2 h hn.1 (by omega)
  refine ⟨⟨h1, by omega⟩, Int.ediv_nonneg h1 (by omega), ?_⟩
  have := Int.ediv_le_ediv (c := d) (by omega) h3
  rwa [Int.mul_ediv_cancel _ (by omega)] at this
theorem rq_down (q r d : Int) : rq q r d 1 = q := by
  unfold rq upB; simp
theorem pv_down {t n d : Int} (ht : 0 ≤ t ∧ t ≤ 1000000000) (hn : 0 ≤ n ∧ n ≤ 10000) (hd : 1 ≤ d ∧ d ≤ 10000) (h : n ≤ d) : pv1 t n d 1 = t * n / d ∧ pv2 t n d 1 = 0 := by
  obtain ⟨_, h1, h2⟩ := bn_num ht hn hd h
  have a1 : amtB t = true := (amtB_iff t).mpr (by omega)
  have a2 : rateB n d = true := (rateB_iff n d).mpr ⟨hn, hd⟩
  have a3 : amtB (t * n / d) = true := (amtB_iff _).mpr (by omega)
  have a4 : modeB 1 = true := by decide
  unfold pv1 pv2 told1 told2
  rw [rq_down, a1, a2, a3, a4]
  exact ⟨rfl, rfl⟩
theorem bn_ways (rs : List RRg) (t : Int) : (4096 < rs.length ∧ bnC rs t = 2 ∧ bnV rs t = 0) ∨ (rs.length ≤ 4096 ∧ (bnR rs = false ∨ inB t 0 1000000000 = false) ∧ bnC rs t = 1 ∧ bnV rs t = 0) ∨ (rs.length ≤ 12 ∧ bnR rs = true ∧ rgsB rs = true ∧ rsN (frL rs) rs.length = true ∧ (0 ≤ t ∧ t ≤ 1000000000) ∧ bnC rs t = 0 ∧ bnV rs t = t * rtN rs t rs.length / rtD rs t rs.length) := by
  by_cases h1 : 4096 < rs.length
  · have e : bnC rs t = 2 := by unfold bnC; rw [if_pos h1]
    exact .inl ⟨h1, e, by unfold bnV; rw [e]; rfl⟩
  · by_cases h2 : (bnR rs && inB t 0 1000000000) = true
    · have e : bnC rs t = 0 := by unfold bnC; rw [if_neg h1, if_pos h2]
      simp only [Bool.and_eq_true] at h2
      have h3 := h2.1
      unfold bnR at h3
      simp only [Bool.and_eq_true, decide_eq_true_eq] at h3
      have h4 := h2.2
      unfold inB at h4
      simp only [decide_eq_true_eq] at h4
      exact .inr (.inr ⟨h3.1, h2.1, h3.2.1, h3.2.2, h4, e, by unfold bnV; rw [if_pos e]⟩)
    · have e : bnC rs t = 1 := by unfold bnC; rw [if_neg h1, if_neg h2]
      refine .inr (.inl ⟨by omega, ?_, e, by unfold bnV; rw [e]; rfl⟩)
      cases h3 : bnR rs
      · exact .inl rfl
      · rw [h3] at h2; exact .inr (by simpa using h2)
theorem bnR_bad {rs : List RRg} (h : 12 < rs.length ∨ rgsB rs = false ∨ rsN (frL rs) rs.length = false) : bnR rs = false := by
  unfold bnR
  rcases h with h | h | h
  · rw [decide_eq_false (by omega)]; rfl
  · rw [h]; simp
  · rw [h]; simp
theorem span_any (x lo hi : Int) (w : World) :
    Calls Try.prog 125 #[.agg #[.int .i64 lo, .int .i64 hi], .int .i64 x] w fun e' w' => e' = .returned (.bool (inB x lo hi)) ∧ Below w.heap.size w w' := by
  rcases in_ways x lo hi with h | ⟨h1, h2⟩ | ⟨h1, h2⟩
  all_goals
    go_enter Try.func125, Try.ntmps125
    go_wp2
    go_ret
    exact ⟨ret_bool (by unfold inB; first | exact (decide_eq_false (by omega)).symm | exact (decide_eq_true (by omega)).symm | exact decide_eq_decide.mpr (by omega)), below_alloc _ _⟩
theorem rgRight_any (a n d : Int) (w : World) :
    Calls Try.prog 107 #[.agg #[.int .i64 a, .int .i64 n, .int .i64 d]] w fun e' w' => e' = .returned (.bool (rgB ⟨a, n, d⟩)) ∧ Below w.heap.size w w' := by
  have H1 : Hid (∀ X, Calls Try.prog 125 #[.agg #[.int .i64 0, .int .i64 1000000000], .int .i64 a] X fun e' w' => e' = .returned (.bool (inB a 0 1000000000)) ∧ Below X.heap.size X w') := fun X => span_any a 0 1000000000 X
  have H2 : Hid (∀ X, Calls Try.prog 110 #[.agg #[.int .i64 n, .int .i64 d]] X fun e' w' => e' = .returned (.bool (rateB n d)) ∧ Below X.heap.size X w') := fun X => implRate_any n d X
  show Calls Try.prog 107 #[.agg #[.int .i64 a, .int .i64 n, .int .i64 d]] w fun e' w' => e' = .returned (.bool (inB a 0 1000000000 && (rateB n d && decide (n ≤ d)))) ∧ Below w.heap.size w w'
  generalize inB a 0 1000000000 = b1 at *
  generalize rateB n d = b2 at *
  cases b1
  · go_enter Try.func107, Try.ntmps107
    go_wp2_with fail
    (first | go_at_call 125 | skip)
    refine (H1.out _).mono ?_
    rintro e' w2 ⟨rfl, hb2⟩
    have HB2 : Hid (Below w.heap.size w w2) := chain (below_alloc _ _) hb2
    obtain ⟨hc2, hf2, hz2⟩ := bfacts hb2
    clear hb2
    go_wp2_with fail
    go_ret
    exact ⟨rfl, HB2.out⟩
  · cases b2
    · go_enter Try.func107, Try.ntmps107
      go_wp2_with fail
      (first | go_at_call 125 | skip)
      refine (H1.out _).mono ?_
      rintro e' w2 ⟨rfl, hb2⟩
      have HB2 : Hid (Below w.heap.size w w2) := chain (below_alloc _ _) hb2
      obtain ⟨hc2, hf2, hz2⟩ := bfacts hb2
      clear hb2
      go_wp2_with fail
      (first | go_at_call 110 | skip)
      refine (H2.out _).mono ?_
      rintro e' w3 ⟨rfl, hb3⟩
      have HB3 : Hid (Below w.heap.size w w3) := chain HB2.out hb3
      clear hb3
      go_wp2_with fail
      go_ret
      exact ⟨rfl, HB3.out⟩
    · go_enter Try.func107, Try.ntmps107
      go_wp2_with fail
      (first | go_at_call 125 | skip)
      refine (H1.out _).mono ?_
      rintro e' w2 ⟨rfl, hb2⟩
      have HB2 : Hid (Below w.heap.size w w2) := chain (below_alloc _ _) hb2
      have k0 : w2.cell? ⟨w.heap.size, 0, none⟩ = some (.int .i64 a) := (hb2.cell (p := ⟨w.heap.size, 0, none⟩) (by simp)).trans (by simp)
      have k1 : w2.cell? ⟨w.heap.size, 1, none⟩ = some (.int .i64 n) := (hb2.cell (p := ⟨w.heap.size, 1, none⟩) (by simp)).trans (by simp)
      have k2 : w2.cell? ⟨w.heap.size, 2, none⟩ = some (.int .i64 d) := (hb2.cell (p := ⟨w.heap.size, 2, none⟩) (by simp)).trans (by simp)
      have hz : w.heap.size < w2.heap.size := by have := hb2.size; simp at this; omega
      clear hb2
      go_wp2_with fail
      (first | go_at_call 110 | skip)
      refine (H2.out _).mono ?_
      rintro e' w3 ⟨rfl, hb3⟩
      have HB3 : Hid (Below w.heap.size w w3) := chain HB2.out hb3
      have m1 : w3.cell? ⟨w.heap.size, 1, none⟩ = some (.int .i64 n) := (hb3.cell (p := ⟨w.heap.size, 1, none⟩) hz).trans k1
      have m2 : w3.cell? ⟨w.heap.size, 2, none⟩ = some (.int .i64 d) := (hb3.cell (p := ⟨w.heap.size, 2, none⟩) hz).trans k2
      clear hb3
      go_wp2_with fail
      go_ret
      exact ⟨ret_bool (by simp), HB3.out⟩
theorem rgNot_any (a n d : Int) (w : World) :
    Calls Try.prog 106 #[.agg #[.int .i64 a, .int .i64 n, .int .i64 d]] w fun e' w' => e' = .returned (.bool (!rgB ⟨a, n, d⟩)) ∧ Below w.heap.size w w' := by
  have HC : Hid (∀ X, Calls Try.prog 107 #[.agg #[.int .i64 a, .int .i64 n, .int .i64 d]] X fun e' w' => e' = .returned (.bool (rgB ⟨a, n, d⟩)) ∧ Below X.heap.size X w') := fun X => rgRight_any a n d X
  generalize rgB ⟨a, n, d⟩ = b1 at *
  go_enter Try.func106, Try.ntmps106
  go_wp2_with (go_at_call 107; refine (HC.out _).mono ?_; rintro e' w2 ⟨rfl, hb2⟩)
  go_ret
  exact ⟨rfl, chain (below_alloc _ _) hb2⟩
set_option maxHeartbeats 2000000 in
theorem rgIndex_any (a : Option Addr) (cap : Nat) (rs : List RRg) (hl : rs.length ≤ 100000000) (w : World) (hr : ReadsRg w.heap.size w a rs) :
    Calls Try.prog 130 #[.slice a rs.length cap, .func (.func 106) #[] #[]] w fun e w' => (∃ x : Int, e = .returned (.int .i64 x) ∧ decide (0 ≤ x) = !rgsB rs) ∧ Below w.heap.size w w' := by
  have HR : Hid (ReadsRg w.heap.size w a rs) := hr
  clear hr
  go_enter Try.func130, Try.ntmps130
  go_wp2
  go_loopw [5, 8] (fun _ c wr => ∃ k : Nat, k ≤ rs.length ∧ c = .int .i64 (k : Int) ∧ rgsB (rs.take k) = true ∧ Below w.heap.size w wr) (fun _ c _ => rs.length - (intOf c).toNat)
  case atStart => exact ⟨0, Nat.zero_le _, rfl, rfl, Below.refl _ _⟩
  case round =>
    obtain ⟨k, hk, rfl, hf, hb⟩ := hrel
    have HF : Hid (rgsB (rs.take k) = true) := hf
    have HB : Hid (Below w.heap.size w wr) := hb
    clear hf hb
    by_cases hlt : k < rs.length
    · have hlt' : (k : Int) < (rs.length : Int) := by omega
      rcases HR.out with h | ⟨b0, o0, ha, hB0, ia⟩
      · rw [h] at hlt; simp at hlt
      obtain ⟨c0, c1, c2⟩ := (ia.below HB.out hB0) k hlt
      have HX : Hid (rgB (rs.getD k zRg) = false → rgsB rs = false) := fun h => rgs_fail hlt h
      have HN : Hid (rgsB (rs.take (k + 1)) = (rgsB (rs.take k) && rgB (rs.getD k zRg))) := rgs_take rs k hlt
      have hm : Hid (∀ W, Calls Try.prog 106 #[.agg #[.int .i64 (rs.getD k zRg).fr, .int .i64 (rs.getD k zRg).n, .int .i64 (rs.getD k zRg).d]] W fun e' w' => e' = .returned (.bool (!rgB (rs.getD k zRg))) ∧ Below W.heap.size W w') := fun W => rgNot_any _ _ _ W
      rw [ha]
      clear ia
      generalize rgB (rs.getD k zRg) = mb at *
      generalize (rs.getD k zRg).fr = p at *
      generalize (rs.getD k zRg).n = q at *
      generalize (rs.getD k zRg).d = s at *
      cases mb
      · go_wp2_with (go_at_call 106; refine (hm.out _).mono ?_; rintro e w2 ⟨rfl, hb2⟩)
        go_ret
        exact ⟨⟨(k : Int), rfl, by rw [HX.out trivial]; exact decide_eq_true (by omega)⟩, chain HB.out hb2⟩
      · go_wp2_with (go_at_call 106; refine (hm.out _).mono ?_; rintro e w2 ⟨rfl, hb2⟩)
        exact ⟨⟨k + 1, by omega, by go_num, by rw [HN.out, HF.out]; rfl, chain HB.out hb2⟩, by simp [intOf]; omega⟩
    · have hle : (rs.length : Int) ≤ (k : Int) := by omega
      have HE : Hid (rgsB rs = true) := by have := HF.out; rwa [List.take_of_length_le (by omega)] at this
      go_wp2
      go_ret
      exact ⟨⟨-1, rfl, by rw [HE.out]; rfl⟩, HB.out⟩
theorem rgContains_any (a : Option Addr) (cap : Nat) (rs : List RRg) (hl : rs.length ≤ 100000000) (w : World) (hr : ReadsRg w.heap.size w a rs) :
    Calls Try.prog 105 #[.slice a rs.length cap, .func (.func 106) #[] #[]] w fun e w' => e = .returned (.bool (!rgsB rs)) ∧ Below w.heap.size w w' := by
  have hi := rgIndex_any a cap rs hl w hr
  clear hr
  go_enter Try.func105, Try.ntmps105
  go_wp2_with (go_at_call 130; refine hi.mono ?_; rintro e w2 ⟨⟨x, rfl, hx⟩, hb2⟩; have HX : Hid (decide (0 ≤ x) = !rgsB rs) := hx; clear hx)
  go_ret
  exact ⟨ret_bool HX.out, hb2⟩
set_option maxHeartbeats 2000000 in
theorem rungsOK_any (a : Option Addr) (cap : Nat) (rs : List RRg) (hl : rs.length ≤ 100000000) (w : World) (hr : ReadsRg w.heap.size w a rs) :
    Calls Try.prog 68 #[.slice a rs.length cap] w fun e w' => e = .returned (.bool (bnR rs)) ∧ Below w.heap.size w w' := by
  have HR : Hid (ReadsRg w.heap.size w a rs) := hr
  have hCF := rgContains_any a cap rs hl w hr
  clear hr
  by_cases h12 : 12 < rs.length
  · have l1 : (12 : Int) < (rs.length : Int) := by omega
    rw [bnR_bad (.inl h12)]
    clear hCF
    go_enter Try.func68, Try.ntmps68
    go_wp2
    go_ret
    exact ⟨rfl, Below.refl _ _⟩
  have l1 : ¬ (12 : Int) < (rs.length : Int) := by omega
  cases hall : rgsB rs
  · rw [hall] at hCF
    rw [bnR_bad (.inr (.inl hall))]
    go_enter Try.func68, Try.ntmps68
    go_wp2_with (go_at_call 105; refine hCF.mono ?_; rintro e w2 ⟨rfl, hb2⟩)
    go_ret
    exact ⟨rfl, hb2⟩
  rw [hall] at hCF
  have HG : Hid (bnR rs = rsN (frL rs) (frL rs).length) := by
    show bnR rs = _
    unfold bnR; rw [hall, decide_eq_true (by omega), frL_len]; simp
  have hmk : ∀ w, (Instr.makeSlice 135 (.int .i64 0) (.int .i64 (rs.length : Int))).run Try.prog w = .ok (.slice (some ⟨w.heap.size, 0, none⟩) 0 rs.length) (w.alloc (.cells (madeCells #[.int .i64 0] rs.length) 3)) := fun w => run_make_cap rs.length (by omega) w
  obtain ⟨i0, hi, hzz⟩ := Option.map_eq_some_iff.1 intInfo1
  simp only [Prod.mk.injEq] at hzz
  obtain ⟨hi0, hi1, hi2⟩ := hzz
  go_enter Try.func68, Try.ntmps68
  go_wp2_with fail
  (first | go_at_call 105 | skip)
  refine hCF.mono ?_
  rintro e w2 ⟨rfl, hb2⟩
  have HB2 : Hid (Below w.heap.size w w2) := hb2
  have H0 : Hid (One w2 w2.heap.size (.slice (some ⟨w2.heap.size, 0, none⟩) 0 rs.length) [] (w2.alloc (Obj.cells (madeCells #[.int .i64 0] rs.length) 3))) := One.made w2 w2.heap.size rfl rs.length (by omega)
  clear hb2 hCF
  go_wp2
  go_loopw [3, 5, 18] (fun v _ c wr => ∃ k g cp : Nat, k ≤ rs.length ∧ c = .int .i64 (k : Int) ∧ v = .slice (some ⟨g, 0, none⟩) k cp ∧ One w2 w2.heap.size (.slice (some ⟨g, 0, none⟩) k cp) (frL (rs.take k)) wr) (fun _ _ c _ => rs.length - (intOf c).toNat)
  case atStart => exact ⟨0, w2.heap.size, rs.length, Nat.zero_le _, rfl, rfl, by simpa [frL] using H0.out⟩
  case round =>
    clear H0 hmk
    obtain ⟨k, g, cp, hk, rfl, rfl, hO⟩ := hrel
    have HO : Hid (One w2 w2.heap.size (.slice (some ⟨g, 0, none⟩) k cp) (frL (rs.take k)) wr) := hO
    have HB : Hid (Below w.heap.size w wr) := chain HB2.out hO.2.2
    clear hO
    by_cases hlt : k < rs.length
    · have hlt' : (k : Int) < (rs.length : Int) := by omega
      rcases HR.out with h | ⟨b0, o0, ha, hB0, ia⟩
      · rw [h] at hlt; simp at hlt
      obtain ⟨c0, c1, c2⟩ := (ia.below HB.out hB0) k hlt
      have hlen : (frL (rs.take k)).length = k := by rw [frL_len, List.length_take]; omega
      have HN : Hid (frL (rs.take k) ++ [(rs.getD k zRg).fr] = frL (rs.take (k + 1))) := (frL_take rs k hlt).symm
      rw [ha]
      clear ia
      generalize rs.getD k zRg = r at *
      obtain ⟨p, q, s⟩ := r
      dsimp only at c0 c1 c2 HN
      generalize frL (rs.take k) = L at *
      obtain rfl : L.length = k := hlen
      obtain ⟨W1, hW1⟩ : ∃ W1, W1 = wr.alloc (Obj.cells #[.int .i64 p, .int .i64 q, .int .i64 s] 104) := ⟨_, rfl⟩
      have hz1 : W1.heap.size = wr.heap.size + 1 := by rw [hW1]; simp
      have HW5 : Hid (One w2 w2.heap.size (.slice (some ⟨g, 0, none⟩) L.length cp) L (W1.alloc (Obj.cells #[.int .i64 p] 3))) := by
        show One _ _ _ _ _
        rw [hW1]; exact (HO.out.alloc _).alloc _
      have HNw : Hid (∀ j u, [Value.int .i64 p][j]? = some u → (W1.alloc (Obj.cells #[.int .i64 p] 3)).cell? ((⟨wr.heap.size + 1, 0, none⟩ : Addr).add j) = some u) := by
        show ∀ j u, _
        rw [← hz1]; exact newsOne W1 (.int .i64 p) 3
      rw [hW1] at HW5 HNw
      clear hz1 hW1 W1
      go_wp2_with (at_builtin; refine wpList_append_lies _ rfl _ _ 135 rfl w2.heap.size 3 i0 (.int .i64 0) 1 8 Try.underlying135 hi hi0 hi1 hi2 rfl (by decide) _ _ _ rfl HW5.out.1 ⟨wr.heap.size + 1, 0, none⟩ 1 1 [.int .i64 p] rfl rfl HNw.out (by intro u hu; simp at hu; rcases hu with rfl; rfl) (by omega) (by unfold maxLen; omega) (by omega) HW5.out.2.1 _ rfl ?_; intro g1 cp1 w7 hown1 hgrow1 hat1 hglt1; have HO7 : Hid (One w2 w2.heap.size (.slice (some ⟨g1, 0, none⟩) (L.length + 1) cp1) (L ++ [p]) w7) := HW5.out.push hown1 hgrow1; clear hown1 hgrow1 hat1)
      have HO8 : Hid (One w2 w2.heap.size (.slice (some ⟨g1, 0, none⟩) (L.length + 1) cp1) (frL (rs.take (L.length + 1))) w7) := by have := HO7.out; rwa [HN.out] at this
      go_roundw
      case rel => exact ⟨L.length + 1, g1, cp1, by omega, by go_num, rfl, HO8.out⟩
      case measure => simp [intOf]; omega
    · have hle : ¬ (k : Int) < (rs.length : Int) := by omega
      obtain rfl : k = rs.length := by omega
      have hO := HO.out
      rw [List.take_of_length_le (Nat.le_refl _)] at hO
      have hRs := rises_any (some ⟨g, 0, none⟩) cp (frL rs) (by rw [frL_len]; exact hl) wr (hO.own2 (frL_len rs).symm).reads
      rw [frL_len] at hRs
      clear hO
      have HRs : Hid (Calls Try.prog 108 #[.slice (some ⟨g, 0, none⟩) rs.length cp] wr fun e w' => e = .returned (.bool (rsN (frL rs) rs.length)) ∧ Below wr.heap.size wr w') := hRs
      clear hRs
      rw [frL_len] at HG
      go_wp2_with (go_at_call 108; refine HRs.out.mono ?_; rintro e w3 ⟨rfl, hb3⟩)
      go_ret
      exact ⟨ret_bool HG.out.symm, chain HB.out hb3⟩
theorem cellOldR (w : World) (o : Obj) {b j : Nat} (h : b < w.heap.size) : (w.alloc o).cell? ⟨b, j, none⟩ = w.cell? ⟨b, j, none⟩ := (below_alloc w o).cell (p := ⟨b, j, none⟩) h
theorem frozenOldR (w : World) (o : Obj) {b j : Nat} (h : b < w.heap.size) : (w.alloc o).frozen? ⟨b, j, none⟩ = w.frozen? ⟨b, j, none⟩ := (below_alloc w o).frozen (p := ⟨b, j, none⟩) h
set_option maxHeartbeats 2000000 in
theorem implBonus_any (a : Option Addr) (cap : Nat) (rs : List RRg) (t : Int) (hl : rs.length ≤ 100000000) (w : World) (hr : ReadsRg w.heap.size w a rs) :
    Calls Try.prog 34 #[.slice a rs.length cap, .int .i64 t] w fun e w' => e = .returned (.tuple #[.int .i64 (bnV rs t), .int .i64 (bnC rs t)]) ∧ Below w.heap.size w w' := by
  have HR : Hid (ReadsRg w.heap.size w a rs) := hr
  have hOK := rungsOK_any a cap rs hl w hr
  clear hr
  rcases bn_ways rs t with ⟨h1, e1, e2⟩ | ⟨h1, h2, e1, e2⟩ | ⟨h1, h2, h3, h4, ht, e1, e2⟩ <;> rw [e1, e2] <;> clear e1 e2
  · have l1 : (4096 : Int) < (rs.length : Int) := by omega
    clear hOK
    go_enter Try.func34, Try.ntmps34
    go_wp2
    go_ret2
    exact ⟨rfl, Below.refl _ _⟩
  · have l1 : ¬ (4096 : Int) < (rs.length : Int) := by omega
    cases hR : bnR rs
    · rw [hR] at hOK
      clear h2 hR
      go_enter Try.func34, Try.ntmps34
      go_wp2_with (go_at_call 68; refine hOK.mono ?_; rintro e w2 ⟨rfl, hb2⟩)
      go_ret2
      exact ⟨rfl, hb2⟩
    · rw [hR] at hOK h2
      have h3 : inB t 0 1000000000 = false := by rcases h2 with h | h; cases h; exact h
      unfold inB at h3
      simp only [decide_eq_false_iff_not] at h3
      clear h2 hR
      rcases (by omega : t < 0 ∨ (0 ≤ t ∧ 1000000000 < t)) with g | ⟨g1, g2⟩
      all_goals
        clear h3
        go_enter Try.func34, Try.ntmps34
        go_wp2_with (go_at_call 68; refine hOK.mono ?_; rintro e w2 ⟨rfl, hb2⟩)
        go_ret2
        exact ⟨rfl, hb2⟩
  · have l1 : ¬ (4096 : Int) < (rs.length : Int) := by omega
    rw [h2] at hOK
    obtain ⟨r1, r2, r3⟩ := rt_right h3 t
    obtain ⟨p1, p2⟩ := pv_down ht r1 r2 r3
    have HP : Hid (∀ W, Calls Try.prog 69 #[.int .i64 t, .agg #[.int .i64 (rtN rs t rs.length), .int .i64 (rtD rs t rs.length)], .int .i64 1] W fun e w' => e = .returned (.tuple #[.int .i64 (t * rtN rs t rs.length / rtD rs t rs.length), .int .i64 0]) ∧ Below W.heap.size W w') := fun W => by
      have := implPart_any t (rtN rs t rs.length) (rtD rs t rs.length) 1 W
      rwa [p1, p2] at this
    obtain ⟨t1, t2⟩ := ht
    have l2 : ¬ t < 0 := by omega
    have l3 : ¬ 1000000000 < t := by omega
    clear h2 h3 h4 r1 r2 r3 p1 p2 h1
    go_enter Try.func34, Try.ntmps34
    go_wp2_with fail
    (first | go_at_call 68 | skip)
    refine hOK.mono ?_
    rintro e w2 ⟨rfl, hb2⟩
    have HB2 : Hid (Below w.heap.size w w2) := hb2
    have hz2 : w.heap.size ≤ w2.heap.size := hb2.size
    clear hb2 hOK
    go_wp2
    obtain ⟨R, hR⟩ : ∃ R, R = w2.heap.size := ⟨_, rfl⟩
    have HRw : Hid (w.heap.size ≤ R) := by show _ ≤ _; rw [hR]; exact hz2
    rw [← hR]
    have HW3 : Hid (Below w.heap.size w (w2.alloc (Obj.cells #[.int .i64 0, .int .i64 1] 102)) ∧ R < (w2.alloc (Obj.cells #[.int .i64 0, .int .i64 1] 102)).heap.size ∧ (w2.alloc (Obj.cells #[.int .i64 0, .int .i64 1] 102)).cell? ⟨R, 0, none⟩ = some (.int .i64 (rtN rs t 0)) ∧ (w2.alloc (Obj.cells #[.int .i64 0, .int .i64 1] 102)).cell? ⟨R, 1, none⟩ = some (.int .i64 (rtD rs t 0)) ∧ ∀ i, (w2.alloc (Obj.cells #[.int .i64 0, .int .i64 1] 102)).frozen? ⟨R, i, none⟩ = false) := by
      rw [hR]
      exact ⟨chain HB2.out (below_alloc _ _), by simp, by simp [rtN, lsR], by simp [rtD, lsR], fun i => by simp⟩
    clear hR hz2
    go_loopw [8, 26] (fun _ c wr => ∃ k : Nat, k ≤ rs.length ∧ c = .int .i64 (k : Int) ∧ Below w.heap.size w wr ∧ R < wr.heap.size ∧ wr.cell? ⟨R, 0, none⟩ = some (.int .i64 (rtN rs t k)) ∧ wr.cell? ⟨R, 1, none⟩ = some (.int .i64 (rtD rs t k)) ∧ ∀ i, wr.frozen? ⟨R, i, none⟩ = false) (fun _ c _ => rs.length - (intOf c).toNat)
    case atStart => exact ⟨0, Nat.zero_le _, rfl, HW3.out⟩
    case round =>
      clear HW3
      obtain ⟨k, hk, rfl, hb, hlR, x0, x1, xf⟩ := hrel
      have HB : Hid (Below w.heap.size w wr) := hb
      clear hb
      have xf0 := xf 0
      have xf1 := xf 1
      by_cases hlt : k < rs.length
      · have hlt' : (k : Int) < (rs.length : Int) := by omega
        rcases HR.out with h | ⟨b0, o0, ha, hB0, ia⟩
        · rw [h] at hlt; simp at hlt
        obtain ⟨c0, c1, c2⟩ := (ia.below HB.out hB0) k hlt
        obtain ⟨hY, hN⟩ := rt_next rs t k
        have HY : Hid ((rs.getD k zRg).fr ≤ t → lsR rs t (k + 1) = (k : Int) ∧ rtN rs t (k + 1) = (rs.getD k zRg).n ∧ rtD rs t (k + 1) = (rs.getD k zRg).d) := hY
        have HN : Hid (¬ (rs.getD k zRg).fr ≤ t → lsR rs t (k + 1) = lsR rs t k ∧ rtN rs t (k + 1) = rtN rs t k ∧ rtD rs t (k + 1) = rtD rs t k) := hN
        rw [ha]
        clear ia hY hN HP
        have XF : Hid (∀ i, wr.frozen? ⟨R, i, none⟩ = false) := xf
        clear xf
        have l9 : R ≠ wr.heap.size := by omega
        generalize rs.getD k zRg = r at *
        obtain ⟨p, q, s⟩ := r
        dsimp only at c0 c1 c2 HY HN
        by_cases hpt : p ≤ t
        · have l7 : decide (p ≤ t) = true := decide_eq_true hpt
          obtain ⟨_, e1, e2⟩ := HY.out hpt
          have E12 : Hid (rtN rs t (k + 1) = q ∧ rtD rs t (k + 1) = s) := ⟨e1, e2⟩
          clear HY HN e1 e2
          go_wp2
          go_roundw
          case rel =>
            refine ⟨k + 1, by omega, by go_num, ?_, ?_, ?_, ?_, fun i => ?_⟩
            · refine chain ?_ (below_alloc _ _)
              refine Below.setCell ?_ (show w.heap.size ≤ R from HRw.out) _
              refine Below.setCell ?_ (show w.heap.size ≤ R from HRw.out) _
              exact HB.out
            · simp [World.size_setCell]; omega
            · rw [E12.out.1, cellOldR _ _ (by rw [World.size_setCell, World.size_setCell]; exact hlR), World.cell?_setCell_other _ _ _ _ (by simp)]; exact World.cell?_setCell_same _ _ _ x0
            · rw [E12.out.2, cellOldR _ _ (by rw [World.size_setCell, World.size_setCell]; exact hlR)]; exact World.cell?_setCell_same _ _ _ ((World.cell?_setCell_other _ _ _ _ (by simp)).trans x1)
            · rw [frozenOldR _ _ (by rw [World.size_setCell, World.size_setCell]; exact hlR), World.frozen?_setCell, World.frozen?_setCell]; exact XF.out i
          case measure => simp [intOf]; omega
        · have l7 : decide (p ≤ t) = false := decide_eq_false hpt
          obtain ⟨_, e1, e2⟩ := HN.out hpt
          have E12 : Hid (rtN rs t (k + 1) = rtN rs t k ∧ rtD rs t (k + 1) = rtD rs t k) := ⟨e1, e2⟩
          clear HY HN e1 e2
          go_wp2
          go_roundw
          case rel =>
            refine ⟨k + 1, by omega, by go_num, chain HB.out (below_alloc _ _), by simp; omega, ?_, ?_, fun i => ?_⟩
            · rw [E12.out.1]; exact (cellOldR _ _ hlR).trans x0
            · rw [E12.out.2]; exact (cellOldR _ _ hlR).trans x1
            · exact (frozenOldR _ _ hlR).trans (XF.out i)
          case measure => simp [intOf]; omega
      · have hle : ¬ (k : Int) < (rs.length : Int) := by omega
        obtain rfl : k = rs.length := by omega
        have hP := HP.out
        clear HP
        go_wp2_with (go_at_call 69; refine (hP _).mono ?_; rintro e w3 ⟨rfl, hb3⟩)
        go_ret2
        exact ⟨rfl, chain HB.out hb3⟩
end Go.Proofs.Ytlkjpemhamemgaa

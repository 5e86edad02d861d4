/-
  Powers as mathematics: which are right, what is bridged, what a product of two is; each rounding is told.
-/
import Derived.Test.YtillkllkekhmfaaFlP
import Derived.Test.YtillkllkekhmfaaFlW
import Derived.Test.YtillkllkekhmfaaPwA
namespace Go.Proofs.Ytillkllkekhmfaa
open Go.ChangeShapes Go.WideShapes Go.ChangeAt Go.RowKit Go.Joins Go.Deep
set_option linter.unusedVariables false
open Ieee

section
variable (f : Format)
theorem low_log {m k K : Nat} (h : 2 ^ K ≤ m * 2 ^ k) : K ≤ m.log2 + k := by
  have h1 : m < 2 ^ (m.log2 + 1) := Nat.lt_log2_self
  have h2 : 2 ^ K < 2 ^ (m.log2 + 1 + k) := by
    rw [Nat.pow_add 2 (m.log2 + 1)]
    exact Nat.lt_of_le_of_lt h (Nat.mul_lt_mul_of_pos_right h1 (Nat.two_pow_pos _))
  have h3 := (Nat.pow_lt_pow_iff_right (a := 2) (by omega)).1 h2
  omega
theorem low_ne {m k K : Nat} (h : 2 ^ K ≤ m * 2 ^ k) : m ≠ 0 := fun e => by
  rw [e, Nat.zero_mul] at h
  have := Nat.two_pow_pos K
  omega
/-- A square is not below a nought; of a number that is not too small it isn't either. -/
theorem sq_num {L M x : Nat} (hM : f.fractionBits + 1 ≤ M) (hE : M + 2 < 2 ^ f.exponentBits + f.fractionBits) (hL : (2 * L : Nat) + f.leastPlace ≤ M) (hx : FinW f L x) : ∃ r m i, f.mul x x = some r ∧ f.read r = .number false m i ∧ m * 2 ^ (i - f.leastPlace).toNat < 2 ^ (M + 1) ∧
    ∀ K s n j, f.read x = .number s n j → n ≠ 0 → f.fractionBits ≤ K → (K : Nat) + f.leastPlace ≤ (j + j) + (n.log2 + n.log2 : Nat) → 2 ^ K ≤ m * 2 ^ (i - f.leastPlace).toNat := by
  obtain ⟨s, n, j, h1, h2⟩ := hx
  have hj := (read_number f h1).1
  by_cases h0 : n = 0
  · obtain ⟨m', i', h7, h8⟩ := near_fin f (s ^^ s) (n * n) (j + j) M hM hE (.inl (by rw [h0]))
    rw [Bool.xor_self] at h7
    refine ⟨_, m', i', by unfold Format.mul; rw [h1]; show Option.map f.write (some (.number (s ^^ s) (n * n) (j + j))) = _; rw [Bool.xor_self]; rfl, h7, h8, fun K s' n' j' h hn _ _ => ?_⟩
    rw [h1] at h
    injection h with _ h _
    exact absurd h0 (by rw [h]; exact hn)
  · have h5 := log_le h0 h2
    have h7 := log_mul h0 h0
    have hlog : (j + j) + (n * n).log2 < (M : Nat) + f.leastPlace := by omega
    have hnn : n * n ≠ 0 := Nat.mul_ne_zero h0 h0
    obtain ⟨m', i', h9, h10⟩ := near_fin f false (n * n) (j + j) M hM hE (.inr hlog)
    refine ⟨_, m', i', by unfold Format.mul; rw [h1]; show Option.map f.write (some (.number (s ^^ s) (n * n) (j + j))) = _; rw [Bool.xor_self]; rfl, h9, h10, fun K s' n' j' h hn hK hk => ?_⟩
    rw [h1] at h
    injection h with _ e1 e2
    subst e1 e2
    obtain ⟨m2, i2, k1, _, k3⟩ := near_low f false (n * n) (j + j) M K hK hM hE hnn hlog (by omega)
    rw [h9] at k1
    injection k1 with _ e3 e4
    rw [e3, e4]
    exact k3
/-- A sum of two that are not below a nought is no less than either. -/
theorem add_low {L x y : Nat} {m n : Nat} {i j : Int} (hL : f.fractionBits + 1 ≤ L) (hE : L + 3 < 2 ^ f.exponentBits + f.fractionBits) (hx : f.read x = .number false m i) (hm : m * 2 ^ (i - f.leastPlace).toNat < 2 ^ L) (hy : f.read y = .number false n j) (hn : n * 2 ^ (j - f.leastPlace).toNat < 2 ^ L) :
    ∃ r m' i', f.add x y = some r ∧ f.read r = .number false m' i' ∧ m' * 2 ^ (i' - f.leastPlace).toNat < 2 ^ (L + 2) ∧
      ∀ K, f.fractionBits ≤ K → 2 ^ K ≤ m * 2 ^ (i - f.leastPlace).toNat + n * 2 ^ (j - f.leastPlace).toNat → 2 ^ K ≤ m' * 2 ^ (i' - f.leastPlace).toNat := by
  have hi := (read_number f hx).1
  have hj := (read_number f hy).1
  obtain ⟨k, hk⟩ : ∃ k : Nat, min i j = f.leastPlace + (k : Nat) := ⟨(min i j - f.leastPlace).toNat, by omega⟩
  have e1 : (i - f.leastPlace).toNat = (i - min i j).toNat + k := by omega
  have e2 : (j - f.leastPlace).toNat = (j - min i j).toNat + k := by omega
  obtain ⟨T, hT⟩ : ∃ T, T = m * 2 ^ (i - min i j).toNat + n * 2 ^ (j - min i j).toNat := ⟨_, rfl⟩
  have hTk : T * 2 ^ k = m * 2 ^ (i - f.leastPlace).toNat + n * 2 ^ (j - f.leastPlace).toNat := by
    rw [hT, e1, e2, Nat.add_mul, Nat.pow_add, Nat.pow_add, Nat.mul_assoc, Nat.mul_assoc]
  have hs : (Datum.number false m i).sum (.number false n j) = some (.number false T (min i j)) := by
    have h1 : signed false m (i - min i j).toNat + signed false n (j - min i j).toNat = (T : Int) := by
      unfold signed
      rw [if_neg (by simp), if_neg (by simp), Nat.shiftLeft_eq, Nat.shiftLeft_eq, hT]
      omega
    show some (Datum.number (if signed false m (i - min i j).toNat + signed false n (j - min i j).toNat = 0 then false && false else decide (signed false m (i - min i j).toNat + signed false n (j - min i j).toNat < 0)) (signed false m (i - min i j).toNat + signed false n (j - min i j).toNat).natAbs (min i j)) = _
    rw [h1, Int.natAbs_natCast]
    congr 2
    split
    · rfl
    · exact decide_eq_false (by omega)
  have hlog : T = 0 ∨ min i j + T.log2 < (L + 1 : Nat) + f.leastPlace := by
    by_cases h0 : T = 0
    · exact .inl h0
    · right
      have h3 : T * 2 ^ k < 2 ^ (L + 1) := by rw [hTk, Nat.pow_succ]; omega
      have h6 := log_le h0 h3
      omega
  obtain ⟨m', i', h7, h8⟩ := near_fin f false T (min i j) (L + 1) (by omega) (by omega) hlog
  refine ⟨_, m', i', by unfold Format.add; rw [hx, hy, hs]; rfl, h7, h8, fun K hK hl => ?_⟩
  rw [← hTk] at hl
  have h0 := low_ne hl
  have h9 := low_log hl
  obtain ⟨m2, i2, k1, _, k3⟩ := near_low f false T (min i j) (L + 1) K hK (by omega) (by omega) h0 (by
    rcases hlog with h | h
    · exact absurd h h0
    · exact h) (by omega)
  rw [h7] at k1
  injection k1 with _ e3 e4
  rw [e3, e4]
  exact k3
end
def fmul (x y : Nat) : Nat := (floatBits .mul .f64 x y).getD 0
def negF (x : Nat) : Nat := Op.negFloat .f64 x
theorem neg_run {P : Program} (x : Nat) (W : World) : (Op.unary .neg (.float .f64 x)).run P W = .ok (.float .f64 (negF x)) W := rfl
theorem negF_fin {L x : Nat} (h : FinW (FloatKind.format .f64) L x) : FinW (FloatKind.format .f64) L (negF x) := fin_neg _ h
/-- -1000000 and 1000000. -/
def loP : Nat := 13920209183539462144
def hiP : Nat := 4696837146684686336
theorem loP_key : kF loP = some (-(1000000 * (oneS : Int))) := by decide +kernel
theorem hiP_key : kF hiP = some (1000000 * (oneS : Int)) := by decide +kernel
theorem oneS_1048576 : (2 : Nat) ^ 1094 = 1048576 * oneS := by decide +kernel
theorem pt_fin {x : Nat} (h : inF x loP hiP = true) : FinW (FloatKind.format .f64) 1094 x := by
  have h2 := h
  unfold inF at h2
  rw [Bool.and_eq_true] at h2
  obtain ⟨h3, h4⟩ := h2
  have hx := in_there h
  unfold msF at hx
  cases hk : kF x with
  | none => rw [hk] at hx; cases hx
  | some a =>
    unfold leF at h3 h4
    rw [hk, loP_key] at h3
    rw [hk, hiP_key] at h4
    have h5 := of_decide_eq_true h3
    have h6 := of_decide_eq_true h4
    refine fin_key _ (by decide) hk ?_
    rw [oneS_1048576]
    have h7 := oneS_pos
    generalize oneS = Q at *
    omega
def pwB (r : RPw) : Bool := inF r.re loP hiP && inF r.im loP hiP
def pwsB (rs : List RPw) : Bool := rs.all pwB
def pwR (rs : List RPw) : Bool := decide (rs.length ≤ 12) && pwsB rs
theorem pw_fin {r : RPw} (h : pwB r = true) : FinW (FloatKind.format .f64) 1094 r.re ∧ FinW (FloatKind.format .f64) 1094 r.im := by
  unfold pwB at h
  rw [Bool.and_eq_true] at h
  exact ⟨pt_fin h.1, pt_fin h.2⟩
theorem pws_take (rs : List RPw) (k : Nat) (h : k < rs.length) : pwsB (rs.take (k + 1)) = (pwsB (rs.take k) && pwB (rs.getD k zPw)) := by
  unfold pwsB
  rw [List.take_succ_eq_append_getElem h, List.all_append]
  have e : rs.getD k zPw = rs[k] := by simp [List.getD_eq_getElem?_getD, h]
  rw [e]; simp
theorem pws_fail {rs : List RPw} {k : Nat} (h : k < rs.length) (hf : pwB (rs.getD k zPw) = false) : pwsB rs = false := by
  rw [Bool.eq_false_iff]
  intro ht
  have e : rs.getD k zPw = rs[k] := by simp [List.getD_eq_getElem?_getD, h]
  unfold pwsB at ht
  rw [List.all_eq_true] at ht
  rw [e] at hf
  rw [ht _ (List.getElem_mem h)] at hf
  cases hf
theorem pws_get {rs : List RPw} (h : pwsB rs = true) {k : Nat} (hk : k < rs.length) : pwB (rs.getD k zPw) = true := by
  cases hf : pwB (rs.getD k zPw)
  · rw [pws_fail hk hf] at h; cases h
  · rfl
theorem pwR_right {rs : List RPw} (h : pwR rs = true) : rs.length ≤ 12 ∧ pwsB rs = true := by
  unfold pwR at h
  rw [Bool.and_eq_true, decide_eq_true_eq] at h
  exact h
theorem pwR_bad {rs : List RPw} (h : 12 < rs.length ∨ pwsB rs = false) : pwR rs = false := by
  unfold pwR
  rcases h with h | h
  · rw [decide_eq_false (by omega)]; rfl
  · rw [h, Bool.and_false]

/-! ### What is bridged -/
def brN (r : RPw) : Nat := fadd (fmul r.re r.re) (fmul r.im r.im)
theorem lp64 : (FloatKind.format .f64).leastPlace = -1074 := by decide +kernel
theorem br_quo {x n : Nat} {nn : Nat} {jn : Int} (hx : FinW (FloatKind.format .f64) 1094 x) (hn : (FloatKind.format .f64).read n = .number false nn jn) (hne : nn ≠ 0)
    (hlow : ∀ s m i, (FloatKind.format .f64).read x = .number s m i → m ≠ 0 → (-100 : Int) ≤ i + m.log2 → 2 ^ 874 ≤ nn * 2 ^ (jn - (FloatKind.format .f64).leastPlace).toNat) :
    floatBits .quo .f64 x n = some (fdiv x n) ∧ FinW (FloatKind.format .f64) 2049 (fdiv x n) := by
  obtain ⟨s, m, i, h1, h2⟩ := hx
  have hjn := (read_number _ hn).1
  have hi := (read_number _ h1).1
  have hb : m = 0 ∨ (i + m.log2) - (jn + nn.log2) < (2048 : Nat) + (FloatKind.format .f64).leastPlace := by
    by_cases h0 : m = 0
    · exact .inl h0
    · right
      have h3 := log_le h0 h2
      by_cases hs : (-100 : Int) ≤ i + m.log2
      · have h4 := low_log (hlow s m i h1 h0 hs)
        rw [lp64] at *
        omega
      · rw [lp64] at *
        omega
  obtain ⟨r, h5, h6⟩ := div_fin (FloatKind.format .f64) (L := 2048) (by decide) (by decide) h1 hn hne hb
  have e1 : floatBits .quo .f64 x n = some r := h5
  have e2 : fdiv x n = r := by unfold fdiv; rw [e1]; rfl
  rw [e2]
  exact ⟨e1, h6⟩
/-- One part: each step is told. -/
theorem br_some {r : RPw} (h : pwB r = true) : floatBits .mul .f64 r.re r.re = some (fmul r.re r.re) ∧ floatBits .mul .f64 r.im r.im = some (fmul r.im r.im) ∧ floatBits .add .f64 (fmul r.re r.re) (fmul r.im r.im) = some (brN r) ∧
    (eqF (brN r) 0 = false → (floatBits .quo .f64 r.re (brN r) = some (fdiv r.re (brN r)) ∧ FinW (FloatKind.format .f64) 2049 (fdiv r.re (brN r))) ∧ floatBits .quo .f64 (negF r.im) (brN r) = some (fdiv (negF r.im) (brN r)) ∧ FinW (FloatKind.format .f64) 2049 (fdiv (negF r.im) (brN r))) := by
  obtain ⟨f1, f2⟩ := pw_fin h
  obtain ⟨a, m1, i1, a1, a2, a3, a4⟩ := sq_num (FloatKind.format .f64) (M := 1114) (by decide) (by decide) (by rw [lp64]; omega) f1
  obtain ⟨b, m2, i2, b1, b2, b3, b4⟩ := sq_num (FloatKind.format .f64) (M := 1114) (by decide) (by decide) (by rw [lp64]; omega) f2
  have ea : floatBits .mul .f64 r.re r.re = some a := a1
  have eb : floatBits .mul .f64 r.im r.im = some b := b1
  have ea2 : fmul r.re r.re = a := by unfold fmul; rw [ea]; rfl
  have eb2 : fmul r.im r.im = b := by unfold fmul; rw [eb]; rfl
  obtain ⟨c, m3, i3, c1, c2, c3, c4⟩ := add_low (FloatKind.format .f64) (L := 1114 + 1) (by decide) (by decide) a2 a3 b2 b3
  have ec : floatBits .add .f64 a b = some c := c1
  have ec2 : brN r = c := by unfold brN; rw [ea2, eb2]; unfold fadd; rw [ec]; rfl
  rw [ea2, eb2, ec2]
  refine ⟨ea, eb, ec, fun hz => ?_⟩
  have hne : m3 ≠ 0 := fun e => by
    have hk : kF c = some 0 := by
      unfold kF keyW
      rw [c2, e]
      show some (signed false 0 _) = _
      unfold signed
      rw [if_neg (by simp), Nat.zero_shiftLeft]
      rfl
    have h0 : kF 0 = some 0 := by decide +kernel
    unfold eqF at hz
    rw [hk, h0] at hz
    cases hz
  have lowA : ∀ s m i, (FloatKind.format .f64).read r.re = .number s m i → m ≠ 0 → (-100 : Int) ≤ i + m.log2 → 2 ^ 874 ≤ m3 * 2 ^ (i3 - (FloatKind.format .f64).leastPlace).toNat := fun s m i h1 h2 h3 => by
    have := a4 874 s m i h1 h2 (by decide) (by rw [lp64]; omega)
    exact c4 874 (by decide) (Nat.le_trans this (Nat.le_add_right _ _))
  have lowB : ∀ s m i, (FloatKind.format .f64).read (negF r.im) = .number s m i → m ≠ 0 → (-100 : Int) ≤ i + m.log2 → 2 ^ 874 ≤ m3 * 2 ^ (i3 - (FloatKind.format .f64).leastPlace).toNat := fun s m i h1 h2 h3 => by
    have h4 : (FloatKind.format .f64).read r.im = .number (!s) m i := by
      obtain ⟨t, n, j, k1, k2⟩ := f2
      have k3 : (FloatKind.format .f64).read (negF r.im) = ((FloatKind.format .f64).read r.im).opposite := read_neg _ _
      rw [h1, k1] at k3
      injection k3 with k4 k5 k6
      rw [k1, k4, k5, k6, Bool.not_not]
    have := b4 874 _ m i h4 h2 (by decide) (by rw [lp64]; omega)
    exact c4 874 (by decide) (Nat.le_trans this (Nat.le_add_left _ _))
  exact ⟨br_quo f1 c2 hne lowA, br_quo (negF_fin f2) c2 hne lowB⟩
/-- What k parts come to. -/
def brT (rs : List RPw) : Nat → Nat × Nat
  | 0 => (0, 0)
  | k + 1 => (fadd (brT rs k).1 (fdiv (rs.getD k zPw).re (brN (rs.getD k zPw))), fadd (brT rs k).2 (fdiv (negF (rs.getD k zPw).im) (brN (rs.getD k zPw))))
def nzB (rs : List RPw) : Bool := rs.all fun r => !eqF (brN r) 0
theorem nz_take (rs : List RPw) (k : Nat) (h : k < rs.length) : nzB (rs.take (k + 1)) = (nzB (rs.take k) && !eqF (brN (rs.getD k zPw)) 0) := by
  unfold nzB
  rw [List.take_succ_eq_append_getElem h, List.all_append]
  have e : rs.getD k zPw = rs[k] := by simp [List.getD_eq_getElem?_getD, h]
  rw [e]; simp
theorem nz_fail {rs : List RPw} {k : Nat} (h : k < rs.length) (hf : eqF (brN (rs.getD k zPw)) 0 = true) : nzB rs = false := by
  rw [Bool.eq_false_iff]
  intro ht
  have e : rs.getD k zPw = rs[k] := by simp [List.getD_eq_getElem?_getD, h]
  unfold nzB at ht
  rw [List.all_eq_true] at ht
  rw [e] at hf
  have := ht _ (List.getElem_mem h)
  rw [hf] at this
  cases this
theorem brT_fin {rs : List RPw} (hp : pwsB rs = true) : ∀ k, k ≤ rs.length → k ≤ 12 → nzB (rs.take k) = true → FinW (FloatKind.format .f64) (2049 + 2 * k) (brT rs k).1 ∧ FinW (FloatKind.format .f64) (2049 + 2 * k) (brT rs k).2
  | 0, _, _, _ => ⟨fin_zero _ _, fin_zero _ _⟩
  | k + 1, h1, h2, h3 => by
    rw [nz_take rs k (by omega), Bool.and_eq_true] at h3
    have hz : eqF (brN (rs.getD k zPw)) 0 = false := by simpa using h3.2
    obtain ⟨i1, i2⟩ := brT_fin hp k (by omega) (by omega) h3.1
    obtain ⟨_, _, _, q⟩ := br_some (pws_get hp (show k < rs.length by omega))
    obtain ⟨⟨_, q1⟩, _, q2⟩ := q hz
    exact ⟨(fadd_some (by omega) (by omega) i1 (q1.mono _ (by omega))).2.mono _ (by omega), (fadd_some (by omega) (by omega) i2 (q2.mono _ (by omega))).2.mono _ (by omega)⟩
/-- A part more: its sums are told. -/
theorem brT_add {rs : List RPw} (hp : pwsB rs = true) {k : Nat} (h1 : k < rs.length) (h2 : k < 12) (h3 : nzB (rs.take k) = true) (hz : eqF (brN (rs.getD k zPw)) 0 = false) :
    cSumBits .add .f64 (brT rs k).1 (brT rs k).2 (fdiv (rs.getD k zPw).re (brN (rs.getD k zPw))) (fdiv (negF (rs.getD k zPw).im) (brN (rs.getD k zPw))) = some (brT rs (k + 1)) ∧
    floatBits .add .f64 (brT rs k).1 (fdiv (rs.getD k zPw).re (brN (rs.getD k zPw))) = some (brT rs (k + 1)).1 ∧ floatBits .add .f64 (brT rs k).2 (fdiv (negF (rs.getD k zPw).im) (brN (rs.getD k zPw))) = some (brT rs (k + 1)).2 := by
  obtain ⟨i1, i2⟩ := brT_fin hp k (by omega) (by omega) h3
  obtain ⟨_, _, _, q⟩ := br_some (pws_get hp h1)
  obtain ⟨⟨_, q1⟩, _, q2⟩ := q hz
  have a1 := (fadd_some (by omega) (by omega) i1 (q1.mono _ (by omega))).1
  have a2 := (fadd_some (by omega) (by omega) i2 (q2.mono _ (by omega))).1
  refine ⟨?_, a1, a2⟩
  unfold cSumBits
  rw [a1, a2]
  rfl
/-- What a bridge answers: two numbers and a code. -/
def brC (rs : List RPw) : Int := if 4096 < rs.length then 2 else if pwR rs = true then (if nzB rs = true then 0 else 10) else 1
def brA (rs : List RPw) : Nat × Nat := if brC rs = 0 then brT rs rs.length else (0, 0)
end Go.Proofs.Ytillkllkekhmfaa

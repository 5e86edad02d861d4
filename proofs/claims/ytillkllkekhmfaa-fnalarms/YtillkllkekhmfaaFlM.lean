/-
  Floating-point words as whole numbers: how two of them stand to each other, and how great what is rounded can be. Nothing of the program is in it.
-/
import Derived.Test.YtillkllkekhmfaaBase
import Derived.WalkLawsBesides
namespace Go.Proofs.Ytillkllkekhmfaa
set_option linter.unusedVariables false
open Ieee

theorem signed_add (s : Bool) (m p q : Nat) : signed s m (p + q) = signed s m p * (2 ^ q : Nat) := by
  unfold signed
  simp only [Nat.shiftLeft_eq, Nat.pow_add, ← Nat.mul_assoc]
  cases s <;> simp [Int.neg_mul]
theorem signed_abs (s : Bool) (m p : Nat) : (signed s m p).natAbs = m * 2 ^ p := by
  unfold signed
  simp only [Nat.shiftLeft_eq]
  cases s <;> simp [Int.natAbs_mul, Int.natAbs_pow]
theorem cmp_mul (a b : Int) (c : Nat) (hc : 0 < c) : compare (a * (c : Int)) (b * (c : Int)) = compare a b := by
  have h1 : a * (c : Int) < b * (c : Int) ↔ a < b := Int.mul_lt_mul_right (by omega)
  have h2 : a * (c : Int) = b * (c : Int) ↔ a = b := ⟨fun h => Int.eq_of_mul_eq_mul_right (by omega) h, fun h => by rw [h]⟩
  simp only [compare, compareOfLessAndEq, h1, h2]
theorem cmp_lt {a b : Int} (h : a < b) : compare a b = .lt := by simp [compare, compareOfLessAndEq, h]
theorem cmp_eq {a b : Int} (h : a = b) : compare a b = .eq := by subst h; simp [compare, compareOfLessAndEq]
theorem cmp_gt {a b : Int} (h : b < a) : compare a b = .gt := by
  have h1 : ¬ a < b := by omega
  have h2 : ¬ a = b := by omega
  simp [compare, compareOfLessAndEq, h1, h2]
section
variable (f : Format)
/-- Beyond all numbers of the format. -/
def bigF : Nat := 2 ^ (f.fractionBits + 1 + 2 ^ f.exponentBits)
def keyD : Datum → Option Int
  | .nan .. => none
  | .infinity s => some (if s then -(bigF f : Int) else bigF f)
  | .number s m i => some (signed s m (i - f.leastPlace).toNat)
/-- A word as a whole number of the least steps; an infinity is beyond all numbers. -/
def keyW (x : Nat) : Option Int := keyD f (f.read x)

theorem read_number {x : Nat} {s : Bool} {m : Nat} {i : Int} (h : f.read x = .number s m i) : f.leastPlace ≤ i ∧ m < 2 ^ (f.fractionBits + 1) ∧ (i - f.leastPlace).toNat < 2 ^ f.exponentBits := by
  unfold Format.read at h
  dsimp only at h
  have hb : f.binade = 2 ^ f.fractionBits := rfl
  have hp : 0 < 2 ^ f.fractionBits := Nat.two_pow_pos _
  have he : 0 < 2 ^ f.exponentBits := Nat.two_pow_pos _
  have h2 : 2 ^ (f.fractionBits + 1) = 2 * 2 ^ f.fractionBits := by rw [Nat.pow_succ, Nat.mul_comm]
  split at h
  · rename_i h1
    cases h
    exact ⟨Int.le_refl _, by omega, by simp [he]⟩
  · split at h
    · rename_i h1 h3
      cases h
      have h4 : x % f.signWeight / f.binade < 2 ^ f.exponentBits - 1 := Nat.div_lt_of_lt_mul (by rw [Nat.mul_comm]; exact h3)
      have h5 : x % f.signWeight % f.binade < f.binade := Nat.mod_lt _ (by omega)
      refine ⟨by omega, by omega, by omega⟩
    · split at h <;> cases h
theorem key_number {x : Nat} {s : Bool} {m : Nat} {i : Int} (h : f.read x = .number s m i) : (signed s m (i - f.leastPlace).toNat).natAbs < bigF f := by
  obtain ⟨_, h2, h3⟩ := read_number f h
  rw [signed_abs]
  unfold bigF
  have h4 : 2 ^ (i - f.leastPlace).toNat ≤ 2 ^ 2 ^ f.exponentBits := Nat.pow_le_pow_right (by omega) (by omega)
  calc m * 2 ^ (i - f.leastPlace).toNat ≤ m * 2 ^ 2 ^ f.exponentBits := Nat.mul_le_mul_left _ h4
    _ < 2 ^ (f.fractionBits + 1) * 2 ^ 2 ^ f.exponentBits := Nat.mul_lt_mul_of_pos_right h2 (Nat.two_pow_pos _)
    _ = _ := (Nat.pow_add _ _ _).symm
theorem key_none {x : Nat} : keyW f x = none ↔ ∃ s t, f.read x = .nan s t := by
  unfold keyW
  cases f.read x <;> simp [keyD]
theorem order_num (s : Bool) (m : Nat) (i : Int) (t : Bool) (n : Nat) (j : Int) (l : Int) (hi : l ≤ i) (hj : l ≤ j) :
    (Datum.number s m i).order (.number t n j) = some (compare (signed s m (i - l).toNat) (signed t n (j - l).toNat)) := by
  show some (compare (signed s m (i - min i j).toNat) (signed t n (j - min i j).toNat)) = _
  have e1 : (i - l).toNat = (i - min i j).toNat + (min i j - l).toNat := by omega
  have e2 : (j - l).toNat = (j - min i j).toNat + (min i j - l).toNat := by omega
  rw [e1, e2, signed_add, signed_add, cmp_mul _ _ _ (Nat.two_pow_pos _)]
theorem big_pos : 0 < bigF f := Nat.two_pow_pos _
/-- How two words stand to each other: as their whole numbers. -/
theorem order_key (x y : Nat) : f.order x y = match keyW f x, keyW f y with
    | some a, some b => some (compare a b)
    | _, _ => none := by
  unfold Format.order keyW
  have hb := big_pos f
  cases hx : f.read x with
  | nan s t => rfl
  | infinity s =>
    cases hy : f.read y with
    | nan s t => rfl
    | infinity t =>
      cases s <;> cases t
      · exact congrArg some (cmp_eq rfl).symm
      · exact congrArg some (cmp_gt (by simp; omega)).symm
      · exact congrArg some (cmp_lt (by simp; omega)).symm
      · exact congrArg some (cmp_eq rfl).symm
    | number t n j =>
      have h := key_number f hy
      cases s
      · exact congrArg some (cmp_gt (by simp; omega)).symm
      · exact congrArg some (cmp_lt (by simp; omega)).symm
  | number s m i =>
    have hxk := key_number f hx
    have hxi := (read_number f hx).1
    cases hy : f.read y with
    | nan s t => rfl
    | infinity t =>
      cases t
      · exact congrArg some (cmp_lt (by simp; omega)).symm
      · exact congrArg some (cmp_gt (by simp; omega)).symm
    | number t n j => exact order_num s m i t n j _ hxi (read_number f hy).1

/-! ### How great what is rounded can be -/
theorem cut_even (neg : Bool) (n drop L : Nat) (h : n < 2 ^ (drop + L)) : Toward.even.cut neg n drop ≤ 2 ^ L := by
  unfold Toward.cut
  dsimp only
  have hp : 0 < 1 <<< min drop (n.log2 + 2) := by rw [Nat.shiftLeft_eq, Nat.one_mul]; exact Nat.two_pow_pos _
  have h1 : ∀ b : Bool, b.toNat ≤ 1 := fun b => by cases b <;> decide
  have hlow : n / (1 <<< min drop (n.log2 + 2)) < 2 ^ L := by
    rw [Nat.shiftLeft_eq, Nat.one_mul]
    by_cases hd : drop ≤ n.log2 + 2
    · rw [Nat.min_eq_left hd]
      exact Nat.div_lt_of_lt_mul (by rw [← Nat.pow_add]; exact h)
    · rw [Nat.min_eq_right (by omega)]
      have h2 : n < 2 ^ (n.log2 + 2) := Nat.lt_of_lt_of_le Nat.lt_log2_self (Nat.pow_le_pow_right (by omega) (by omega))
      rw [Nat.div_eq_of_lt h2]
      exact Nat.two_pow_pos _
  exact Nat.le_trans (Nat.add_le_add_left (h1 _) _) hlow

theorem read_word {neg : Bool} {r : Nat} (h : r < f.infRung) : ∃ m i, f.read (f.word neg r) = .number neg m i ∧ m * 2 ^ (i - f.leastPlace).toNat < 2 ^ (f.fractionBits + r / f.binade) ∧ (r ≠ 0 → m ≠ 0) := by
  have hi := f.infRung_lt
  have h1 : f.word neg r / f.signWeight % 2 = neg.toNat := by
    unfold Format.word
    cases neg
    · rw [if_neg (by simp), Nat.div_eq_of_lt (by omega)]; rfl
    · rw [if_pos rfl, Nat.add_div_left _ (by omega), Nat.div_eq_of_lt (by omega)]; rfl
  have h2 : f.word neg r % f.signWeight = r := by
    unfold Format.word
    cases neg
    · rw [if_neg (by simp), Nat.mod_eq_of_lt (by omega)]
    · rw [if_pos rfl, Nat.add_mod_left, Nat.mod_eq_of_lt (by omega)]
  have hs : (f.word neg r / f.signWeight % 2 == 1) = neg := by rw [h1]; cases neg <;> rfl
  have hb : f.binade = 2 ^ f.fractionBits := rfl
  have hp : 0 < 2 ^ f.fractionBits := Nat.two_pow_pos _
  unfold Format.read
  dsimp only
  rw [h2, hs]
  by_cases h3 : r < f.binade
  · rw [if_pos h3]
    exact ⟨r, _, rfl, by rw [Nat.div_eq_of_lt h3]; simp; omega, fun h => h⟩
  · rw [if_neg h3, if_pos h]
    refine ⟨_, _, rfl, ?_, by omega⟩
    have h4 : 1 ≤ r / f.binade := (Nat.le_div_iff_mul_le (by omega)).2 (by omega)
    have h5 : r % f.binade < f.binade := Nat.mod_lt _ (by omega)
    have e : (f.leastPlace + ((r / f.binade - 1 : Nat) : Int) - f.leastPlace).toNat = r / f.binade - 1 := by omega
    rw [e]
    have e2 : f.fractionBits + r / f.binade = f.fractionBits + 1 + (r / f.binade - 1) := by omega
    rw [e2, Nat.pow_add]
    refine Nat.mul_lt_mul_of_pos_right ?_ (Nat.two_pow_pos _)
    rw [Nat.pow_succ]
    omega
/-- What is less than 2 ^ L steps is rounded to a number that is less than 2 ^ (L + 1) steps. -/
theorem near_fin (neg : Bool) (m : Nat) (p : Int) (L : Nat) (hL : f.fractionBits + 1 ≤ L) (hE : L + 2 < 2 ^ f.exponentBits + f.fractionBits) (h : m = 0 ∨ p + m.log2 < L + f.leastPlace) :
    ∃ m' i, f.read (f.nearest neg m p) = .number neg m' i ∧ m' * 2 ^ (i - f.leastPlace).toNat < 2 ^ (L + 1) := by
  have hb : f.binade = 2 ^ f.fractionBits := rfl
  have hp : 0 < 2 ^ f.fractionBits := Nat.two_pow_pos _
  have he : 0 < 2 ^ f.exponentBits := Nat.two_pow_pos _
  have hinf : ∀ r, r / f.binade + 1 < 2 ^ f.exponentBits → r < f.infRung := fun r h => by
    unfold Format.infRung
    exact (Nat.div_lt_iff_lt_mul (by omega)).1 (by omega)
  have pack : ∀ r, r / f.binade ≤ L + 1 - f.fractionBits → ∃ m' i, f.read (f.word neg (min r f.infRung)) = .number neg m' i ∧ m' * 2 ^ (i - f.leastPlace).toNat < 2 ^ (L + 1) := fun r hr => by
    have h1 := hinf r (by omega)
    rw [Nat.min_eq_left (by omega)]
    obtain ⟨m', i, h2, h3, _⟩ := read_word f (neg := neg) h1
    exact ⟨m', i, h2, Nat.lt_of_lt_of_le h3 (Nat.pow_le_pow_right (by omega) (by omega))⟩
  unfold Format.nearest
  by_cases h0 : m = 0
  · rw [if_pos h0]
    have := pack 0 (by rw [Nat.zero_div]; omega)
    rwa [Nat.zero_min] at this
  · rw [if_neg h0]
    have h1 : p + m.log2 < L + f.leastPlace := by
      rcases h with h | h
      · exact absurd h h0
      · exact h
    obtain ⟨last, hl⟩ : ∃ last, last = max (p + m.log2 - f.fractionBits) f.leastPlace := ⟨_, rfl⟩
    dsimp only
    rw [← hl]
    apply pack
    have hk : Toward.even.cut neg (m <<< (p - last).toNat) (last - p).toNat ≤ 2 ^ (f.fractionBits + 1) := by
      apply cut_even
      rw [Nat.shiftLeft_eq]
      have h2 : m < 2 ^ (m.log2 + 1) := Nat.lt_log2_self
      calc m * 2 ^ (p - last).toNat < 2 ^ (m.log2 + 1) * 2 ^ (p - last).toNat := Nat.mul_lt_mul_of_pos_right h2 (Nat.two_pow_pos _)
        _ = 2 ^ (m.log2 + 1 + (p - last).toNat) := (Nat.pow_add _ _ _).symm
        _ ≤ _ := Nat.pow_le_pow_right (by omega) (by omega)
    generalize Toward.even.cut neg (m <<< (p - last).toNat) (last - p).toNat = kept at *
    rw [hb]
    have h3 : ((last - f.leastPlace).toNat * 2 ^ f.fractionBits + kept) / 2 ^ f.fractionBits = (last - f.leastPlace).toNat + kept / 2 ^ f.fractionBits := by rw [Nat.add_comm, Nat.add_mul_div_right _ _ hp, Nat.add_comm]
    have h4 : kept / 2 ^ f.fractionBits ≤ 2 := by
      apply Nat.div_le_of_le_mul
      rw [Nat.pow_succ] at hk
      exact hk
    rw [h3]
    omega
/-- A word that stands for a number of less than 2 ^ L steps. -/
def FinW (L x : Nat) : Prop := ∃ s m i, f.read x = .number s m i ∧ m * 2 ^ (i - f.leastPlace).toNat < 2 ^ L
theorem FinW.mono {L M x : Nat} (h : FinW f L x) (hl : L ≤ M) : FinW f M x := by
  obtain ⟨s, m, i, h1, h2⟩ := h
  exact ⟨s, m, i, h1, Nat.lt_of_lt_of_le h2 (Nat.pow_le_pow_right (by omega) hl)⟩
theorem fin_key {L x : Nat} (hL : L ≤ f.fractionBits + 1 + 2 ^ f.exponentBits) {a : Int} (h : keyW f x = some a) (ha : a.natAbs < 2 ^ L) : FinW f L x := by
  unfold keyW at h
  cases hx : f.read x with
  | nan s t => rw [hx] at h; cases h
  | infinity s =>
    rw [hx] at h
    simp only [keyD, Option.some.injEq] at h
    have h2 : 2 ^ L ≤ bigF f := Nat.pow_le_pow_right (by omega) hL
    have h3 : a.natAbs = bigF f := by rw [← h]; cases s <;> simp
    omega
  | number s m i =>
    rw [hx] at h
    simp only [keyD, Option.some.injEq] at h
    rw [← h, signed_abs] at ha
    exact ⟨s, m, i, hx, ha⟩
theorem fin_some {L x : Nat} (h : FinW f L x) : ∃ a, keyW f x = some a ∧ a.natAbs < 2 ^ L := by
  obtain ⟨s, m, i, h1, h2⟩ := h
  refine ⟨signed s m (i - f.leastPlace).toNat, by unfold keyW; rw [h1]; rfl, by rw [signed_abs]; exact h2⟩
theorem log_le {m k L : Nat} (h0 : m ≠ 0) (h : m * 2 ^ k < 2 ^ L) : m.log2 + k < L := by
  have h1 : 2 ^ m.log2 ≤ m := Nat.log2_self_le h0
  have h2 : 2 ^ (m.log2 + k) < 2 ^ L := by
    rw [Nat.pow_add]
    exact Nat.lt_of_le_of_lt (Nat.mul_le_mul_right _ h1) h
  exact (Nat.pow_lt_pow_iff_right (by omega)).1 h2
theorem sum_fin {L : Nat} (s : Bool) (m : Nat) (i : Int) (t : Bool) (n : Nat) (j : Int) (hi : f.leastPlace ≤ i) (hj : f.leastPlace ≤ j) (hm : m * 2 ^ (i - f.leastPlace).toNat < 2 ^ L) (hn : n * 2 ^ (j - f.leastPlace).toNat < 2 ^ L) :
    ∃ u M b, (Datum.number s m i).sum (.number t n j) = some (.number u M b) ∧ (M = 0 ∨ b + M.log2 < (L + 1 : Nat) + f.leastPlace) := by
  refine ⟨_, _, _, rfl, ?_⟩
  by_cases h0 : (signed s m (i - min i j).toNat + signed t n (j - min i j).toNat).natAbs = 0
  · exact .inl h0
  right
  have hb : ∃ k, min i j = f.leastPlace + (k : Nat) := ⟨(min i j - f.leastPlace).toNat, by omega⟩
  obtain ⟨k, hk⟩ := hb
  have e1 : (i - f.leastPlace).toNat = (i - min i j).toNat + k := by omega
  have e2 : (j - f.leastPlace).toNat = (j - min i j).toNat + k := by omega
  have h1 := signed_abs s m (i - min i j).toNat
  have h2 := signed_abs t n (j - min i j).toNat
  rw [e1, Nat.pow_add, ← Nat.mul_assoc] at hm
  rw [e2, Nat.pow_add, ← Nat.mul_assoc] at hn
  have h3 : (signed s m (i - min i j).toNat + signed t n (j - min i j).toNat).natAbs * 2 ^ k < 2 ^ (L + 1) := by
    have h4 := Int.natAbs_add_le (signed s m (i - min i j).toNat) (signed t n (j - min i j).toNat)
    rw [h1, h2] at h4
    have h5 := Nat.mul_le_mul_right (2 ^ k) h4
    rw [Nat.add_mul] at h5
    rw [Nat.pow_succ]
    omega
  have h6 := log_le h0 h3
  omega
theorem add_fin {L x y : Nat} (hL : f.fractionBits + 1 ≤ L) (hE : L + 3 < 2 ^ f.exponentBits + f.fractionBits) (hx : FinW f L x) (hy : FinW f L y) : ∃ r, f.add x y = some r ∧ FinW f (L + 2) r := by
  obtain ⟨s, m, i, h1, h2⟩ := hx
  obtain ⟨t, n, j, h3, h4⟩ := hy
  obtain ⟨u, M, b, h5, h6⟩ := sum_fin f s m i t n j (read_number f h1).1 (read_number f h3).1 h2 h4
  obtain ⟨m', i', h7, h8⟩ := near_fin f u M b (L + 1) (by omega) (by omega) h6
  exact ⟨_, by unfold Format.add; rw [h1, h3, h5]; rfl, u, m', i', h7, h8⟩
theorem sub_fin {L x y : Nat} (hL : f.fractionBits + 1 ≤ L) (hE : L + 3 < 2 ^ f.exponentBits + f.fractionBits) (hx : FinW f L x) (hy : FinW f L y) : ∃ r, f.sub x y = some r ∧ FinW f (L + 2) r := by
  obtain ⟨s, m, i, h1, h2⟩ := hx
  obtain ⟨t, n, j, h3, h4⟩ := hy
  obtain ⟨u, M, b, h5, h6⟩ := sum_fin f s m i (!t) n j (read_number f h1).1 (read_number f h3).1 h2 h4
  obtain ⟨m', i', h7, h8⟩ := near_fin f u M b (L + 1) (by omega) (by omega) h6
  exact ⟨_, by unfold Format.sub; rw [h1, h3]; show Option.map _ (Datum.sum _ (Datum.opposite (.number t n j))) = _; rw [show Datum.opposite (.number t n j) = .number (!t) n j from rfl, h5]; rfl, u, m', i', h7, h8⟩
end
end Go.Proofs.Ytillkllkekhmfaa

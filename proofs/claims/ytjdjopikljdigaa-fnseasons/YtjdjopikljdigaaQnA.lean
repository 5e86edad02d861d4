/-
  Seasons, as mathematics: the sales of a season and how many they are, ratios in lowest terms; nothing of the program is in it.
-/
import Derived.Test.YtjdjopikljdigaaQsA
namespace Go.Proofs.Ytjdjopikljdigaa
set_option linter.unusedVariables false

/-- Of the first j places those that are k by n: their sales, and how many they are. -/
def smP (xs : List Int) (n k : Nat) : Nat → Int
  | 0 => 0
  | j + 1 => smP xs n k j + if j % n = k then xs.getD j 0 else 0
def ctP (n k : Nat) : Nat → Int
  | 0 => 0
  | j + 1 => ctP n k j + if j % n = k then 1 else 0
theorem mod_hop {n k p t : Nat} (hk : k < n) (hp : p % n = k) (h1 : 1 ≤ t) (h2 : t < n) : (p + t) % n ≠ k := by
  rw [Nat.add_mod, hp, Nat.mod_eq_of_lt h2]
  by_cases h : k + t < n
  · rw [Nat.mod_eq_of_lt h]; omega
  · rw [Nat.mod_eq_sub_mod (by omega), Nat.mod_eq_of_lt (by omega)]; omega
theorem smP_hop (xs : List Int) {n k p : Nat} (hk : k < n) (hp : p % n = k) : ∀ t, 1 ≤ t → t ≤ n → smP xs n k (p + t) = smP xs n k p + xs.getD p 0
  | 1, _, _ => by show smP xs n k p + _ = _; rw [if_pos hp]
  | t + 2, _, h2 => by
    have i := smP_hop xs hk hp (t + 1) (by omega) (by omega)
    rw [show p + (t + 2) = p + (t + 1) + 1 by omega, smP]
    rw [if_neg (mod_hop hk hp (by omega) (by omega)), i]; omega
theorem ctP_hop {n k p : Nat} (hk : k < n) (hp : p % n = k) : ∀ t, 1 ≤ t → t ≤ n → ctP n k (p + t) = ctP n k p + 1
  | 1, _, _ => by show ctP n k p + _ = _; rw [if_pos hp]
  | t + 2, _, h2 => by
    have i := ctP_hop hk hp (t + 1) (by omega) (by omega)
    rw [show p + (t + 2) = p + (t + 1) + 1 by omega, ctP]
    rw [if_neg (mod_hop hk hp (by omega) (by omega)), i]; omega
theorem smP_start (xs : List Int) {n k : Nat} (hk : k < n) : ∀ j, j ≤ k → smP xs n k j = 0
  | 0, _ => rfl
  | j + 1, h => by
    show smP xs n k j + _ = 0
    rw [smP_start xs hk j (by omega), Nat.mod_eq_of_lt (by omega), if_neg (by omega)]; rfl
theorem ctP_start {n k : Nat} (hk : k < n) : ∀ j, j ≤ k → ctP n k j = 0
  | 0, _ => rfl
  | j + 1, h => by
    show ctP n k j + _ = 0
    rw [ctP_start hk j (by omega), Nat.mod_eq_of_lt (by omega), if_neg (by omega)]; rfl
theorem smP_bound {xs : List Int} {n k : Nat} (h : ∀ i, 0 ≤ xs.getD i 0 ∧ xs.getD i 0 ≤ 100000) : ∀ j, 0 ≤ smP xs n k j ∧ smP xs n k j ≤ 100000 * (j : Int)
  | 0 => by simp [smP]
  | j + 1 => by
    have i := smP_bound (n := n) (k := k) h j
    have := h j
    rw [smP]
    split <;> omega
theorem ctP_bound {n k : Nat} : ∀ j, 0 ≤ ctP n k j ∧ ctP n k j ≤ (j : Int)
  | 0 => by simp [ctP]
  | j + 1 => by
    have i := ctP_bound (n := n) (k := k) j
    rw [ctP]
    split <;> omega
theorem ctP_mono {n k : Nat} {i : Nat} : ∀ {j : Nat}, i ≤ j → ctP n k i ≤ ctP n k j
  | 0, h => by obtain rfl : i = 0 := by omega
               exact Int.le_refl _
  | j + 1, h => by
    by_cases e : i = j + 1
    · rw [e]; exact Int.le_refl _
    · have := ctP_mono (n := n) (k := k) (i := i) (j := j) (by omega)
      rw [ctP]
      split <;> omega
theorem ctP_pos {n k len : Nat} (hk : k < n) (hn : n ≤ len) : 1 ≤ ctP n k len := by
  have h1 : ctP n k (k + 1) = 1 := by rw [ctP, ctP_start hk k (Nat.le_refl _), Nat.mod_eq_of_lt hk, if_pos rfl]; rfl
  have := ctP_mono (n := n) (k := k) (i := k + 1) (j := len) (by omega)
  omega
/-- Of r rounds from place k on, n apart, the last below len: all is met. -/
theorem smP_end (xs : List Int) {n k r len : Nat} (hk : k < n) (h1 : k + r * n < len + n) (h2 : len ≤ k + r * n) (h3 : k < len) : smP xs n k len = smP xs n k (k + r * n) ∧ ctP n k len = ctP n k (k + r * n) := by
  cases r with
  | zero => omega
  | succ r =>
    have e : k + (r + 1) * n = k + r * n + n := by rw [Nat.add_mul]; omega
    have hp : (k + r * n) % n = k := by rw [Nat.add_mul_mod_self_right, Nat.mod_eq_of_lt hk]
    obtain ⟨t, ht⟩ : ∃ t, len = k + r * n + t := ⟨len - (k + r * n), by omega⟩
    rw [e] at h1 h2 ⊢
    rw [ht, smP_hop xs hk hp t (by omega) (by omega), smP_hop xs hk hp n (by omega) (Nat.le_refl _), ctP_hop hk hp t (by omega) (by omega), ctP_hop hk hp n (by omega) (Nat.le_refl _)]
    exact ⟨rfl, rfl⟩
theorem smP_one (xs : List Int) (j : Nat) : smP xs 1 0 (j + 1) = smP xs 1 0 j + xs.getD j 0 := by rw [smP, Nat.mod_one, if_pos rfl]
theorem ctP_one : ∀ j, ctP 1 0 j = (j : Int)
  | 0 => rfl
  | j + 1 => by rw [ctP, Nat.mod_one, if_pos rfl, ctP_one j]; omega
/-- Two numbers in lowest terms. -/
def lowT (a b : Int) : Int × Int := (((a.toNat / Nat.gcd a.toNat b.toNat : Nat) : Int), ((b.toNat / Nat.gcd a.toNat b.toNat : Nat) : Int))
/-- The ratio of season k. -/
def seR (xs : List Int) (n k : Nat) : Int × Int := lowT (smP xs n k xs.length * (xs.length : Int)) (ctP n k xs.length * smP xs 1 0 xs.length)
def seM (xs : List Int) (n k : Nat) : Int × Int := (smP xs n k xs.length, ctP n k xs.length)
def seRs (xs : List Int) (n m : Nat) : List (Int × Int) := (List.range m).map (seR xs n)
theorem seRs_length (xs : List Int) (n m : Nat) : (seRs xs n m).length = m := by simp [seRs]
theorem seRs_next (xs : List Int) (n m : Nat) : seRs xs n (m + 1) = seRs xs n m ++ [seR xs n m] := by simp [seRs, List.range_succ]
def seB (xs : List Int) (n : Int) : Bool := alB 0 100000 xs && inB n 1 60
def seC (xs : List Int) (n : Int) : Int := if 4096 < xs.length then 2 else if seB xs n = true then (if (xs.length : Int) < n then 19 else if smP xs 1 0 xs.length = 0 then 10 else 0) else 1
def seL (xs : List Int) (n : Int) : List (Int × Int) := if seC xs n = 0 then seRs xs n.toNat n.toNat else []
theorem se_ways (xs : List Int) (n : Int) : (4096 < xs.length ∧ seC xs n = 2 ∧ seL xs n = []) ∨ (¬ 4096 < xs.length ∧ seB xs n = false ∧ seC xs n = 1 ∧ seL xs n = []) ∨
    (¬ 4096 < xs.length ∧ seB xs n = true ∧ (xs.length : Int) < n ∧ seC xs n = 19 ∧ seL xs n = []) ∨ (¬ 4096 < xs.length ∧ seB xs n = true ∧ ¬ (xs.length : Int) < n ∧ smP xs 1 0 xs.length = 0 ∧ seC xs n = 10 ∧ seL xs n = []) ∨
    (¬ 4096 < xs.length ∧ seB xs n = true ∧ ¬ (xs.length : Int) < n ∧ smP xs 1 0 xs.length ≠ 0 ∧ seC xs n = 0 ∧ seL xs n = seRs xs n.toNat n.toNat) := by
  unfold seL seC
  by_cases h : 4096 < xs.length
  · exact .inl ⟨h, by rw [if_pos h], by rw [if_pos h]; rfl⟩
  rw [if_neg h]
  cases hb : seB xs n
  · exact .inr (.inl ⟨h, rfl, rfl, rfl⟩)
  rw [if_pos rfl]
  by_cases h1 : (xs.length : Int) < n
  · exact .inr (.inr (.inl ⟨h, rfl, h1, by rw [if_pos h1], by rw [if_pos h1]; rfl⟩))
  rw [if_neg h1]
  by_cases h2 : smP xs 1 0 xs.length = 0
  · exact .inr (.inr (.inr (.inl ⟨h, rfl, h1, h2, by rw [if_pos h2], by rw [if_pos h2]; rfl⟩)))
  · exact .inr (.inr (.inr (.inr ⟨h, rfl, h1, h2, by rw [if_neg h2], by rw [if_neg h2]; rfl⟩)))
theorem se_right {xs : List Int} {n : Int} (h : seB xs n = true) : alB 0 100000 xs = true ∧ 1 ≤ n ∧ n ≤ 60 := by
  unfold seB inB at h
  simp only [Bool.and_eq_true, decide_eq_true_eq] at h
  exact ⟨h.1, h.2⟩
theorem se_le (xs : List Int) (n : Int) : (seL xs n).length ≤ 60 := by
  rcases se_ways xs n with ⟨_, _, h⟩ | ⟨_, _, _, h⟩ | ⟨_, _, _, _, h⟩ | ⟨_, _, _, _, _, h⟩ | ⟨_, hb, _, _, _, h⟩ <;> rw [h]
  · simp
  · simp
  · simp
  · simp
  · rw [seRs_length]; have := se_right hb; omega
/-- A list of ratios as cells. -/
def raCells : List (Int × Int) → List Value
  | [] => []
  | r :: rs => .int .i64 r.1 :: .int .i64 r.2 :: raCells rs
theorem raCells_length : ∀ L, (raCells L).length = L.length * 2
  | [] => rfl
  | r :: rs => by rw [raCells, List.length_cons, List.length_cons, raCells_length rs, List.length_cons]; omega
theorem raCells_append : ∀ L M, raCells (L ++ M) = raCells L ++ raCells M
  | [], _ => rfl
  | r :: rs, M => by rw [List.cons_append, raCells, raCells_append rs M, raCells]; rfl
theorem raCells_at : ∀ (L : List (Int × Int)) (i : Nat), i < L.length → (raCells L)[i * 2]? = some (.int .i64 (L.getD i (0, 0)).1) ∧ (raCells L)[i * 2 + 1]? = some (.int .i64 (L.getD i (0, 0)).2)
  | r :: rs, 0, _ => ⟨rfl, rfl⟩
  | r :: rs, i + 1, h => by
    have q := raCells_at rs i (by simpa using h)
    rw [raCells, show (i + 1) * 2 = i * 2 + 1 + 1 by omega]
    exact q
end Go.Proofs.Ytjdjopikljdigaa

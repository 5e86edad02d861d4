/-
  What a code that tells a value is made of: pure facts on digits; and the library's table of powers, out of what a row lays.
-/
import Derived.Test.YtlejmjpjlbiojaaDoorRows
import Derived.Test.YtlejmjpjlbiojaaDoorMake3
import Derived.Deep.DeepHandedRow
namespace Go.Proofs.YtlejmjpjlbiojaaDoor
open Go.ChangeShapes Go.WideShapes Go.ChangeAt Go.RowKit Go.Joins
set_option linter.unusedVariables false

theorem dec_len : ∀ (n u : Nat), 10 ^ n ≤ u → u < 10 ^ (n + 1) → (Lib.decDigits u).length = n + 1 := by
  intro n
  induction n with
  | zero => intro u h1 h2; rw [Lib.decDigits_one (by simpa using h2)]; rfl
  | succ n ih =>
    intro u h1 h2
    have e : (10 : Nat) ^ (n + 1) = 10 * 10 ^ n := by rw [Nat.pow_succ, Nat.mul_comm]
    have e2 : (10 : Nat) ^ (n + 1 + 1) = 10 * 10 ^ (n + 1) := by rw [Nat.pow_succ, Nat.mul_comm]
    have hp : 0 < 10 ^ n := Nat.pow_pos (by omega)
    rw [Lib.decDigits, dif_neg (by omega)]
    simp only [List.length_append, List.length_cons, List.length_nil]
    rw [ih (u / 10) (by omega) (by omega)]
theorem dec_digits : ∀ u : Nat, allD (Lib.decDigits u) = true := by
  intro u
  induction u using Nat.strongRecOn with
  | _ u ih =>
    by_cases h : u < 10
    · rw [Lib.decDigits_one h]
      have : dg (UInt8.ofNat (48 + u)) = true := (dg_iff _).mpr (by rw [u8_toNat _ (by omega)]; omega)
      unfold allD; rw [List.all_cons, this]; rfl
    · rw [Lib.decDigits, dif_neg h, allD_append, ih (u / 10) (by omega)]
      have : dg (UInt8.ofNat (48 + u % 10)) = true := (dg_iff _).mpr (by rw [u8_toNat _ (by omega)]; omega)
      unfold allD; rw [List.all_cons, this]; rfl

theorem chk_snoc (m : List UInt8) (h : m.length = 12) : chk (m ++ [48]) = m ++ [UInt8.ofNat (48 + (cd m).toNat)] := by
  unfold chk
  rw [List.take_left' h, List.set_append_right _ _ (by omega), h]; rfl

theorem make_text (c1 : UInt8) (a D : ByteArray) (ha : a.size = 5) (hD : D.size = 5) (x : Nat) (hx : cd (⟨#[50, c1]⟩ ++ (a ++ D) : ByteArray).data.toList = (x : Int)) (hx9 : x < 10) :
    (⟨((chk (pad (⟨#[50, c1]⟩ ++ a ++ D ++ ⟨#[48]⟩))).take 13).toArray⟩ : ByteArray) = ⟨#[50, c1]⟩ ++ (a ++ D) ++ decS x := by
  have hsz : (⟨#[50, c1]⟩ : ByteArray).size = 2 := rfl
  have hs1 : (⟨#[48]⟩ : ByteArray).size = 1 := rfl
  have h13 : (⟨#[50, c1]⟩ ++ a ++ D ++ ⟨#[48]⟩ : ByteArray).size = 13 := by simp only [ByteArray.size_append, hsz, hs1]; omega
  rw [pad13 _ h13]
  have e1 : (⟨#[50, c1]⟩ ++ a ++ D ++ ⟨#[48]⟩ : ByteArray).data.toList = (⟨#[50, c1]⟩ ++ (a ++ D) : ByteArray).data.toList ++ [48] := by simp [ByteArray.data_append]
  have hm : (⟨#[50, c1]⟩ ++ (a ++ D) : ByteArray).data.toList.length = 12 := by
    have : (⟨#[50, c1]⟩ ++ (a ++ D) : ByteArray).size = 12 := by simp only [ByteArray.size_append, hsz]; omega
    rw [Array.length_toList]; exact this
  rw [e1, chk_snoc _ hm, hx]
  refine bytes_of _ _ ?_
  rw [List.take_of_length_le (by simp only [List.length_append, hm, List.length_cons, List.length_nil]; omega)]
  have e2 : (decS x).data.toList = [UInt8.ofNat (48 + x)] := by unfold decS; rw [Lib.decDigits_one hx9]
  simp only [ByteArray.data_append, Array.toList_append, e2]
  rfl

theorem cellsPow : Tryd.prog.cellsOf 94 = 20 := by kernel_rfl
theorem cellsU64 : Tryd.prog.cellsOf 80 = 1 := by kernel_rfl
theorem gPowType : (Tryd.prog.globals[(Tryd.prog.globalNamed "internal/strconv.uint64pow10").get!]?).map (·.type) = some 94 := by kernel_rfl
theorem powData : Rows.laid_internal_strconv_uint64pow10 = Lib.tabData (H := Unit) .u64 Lib.pow10Tab := by kernel_rfl

theorem tab_third {n1 n2 : String} {d1 d2 : DataW Unit} {rest : List (String × DataW Unit)} {W : World}
    (h : laidMet Tryd.prog ((n1, d1) :: (n2, d2) :: ("internal/strconv.uint64pow10", Lib.tabData .u64 Lib.pow10Tab) :: rest) W) : Tab W := by
  obtain ⟨ps, ⟨g1, t1, cs1, f1, p1, q1, _, _, _, _, h2, _⟩, _⟩ := h
  obtain ⟨g2, t2, cs2, f2, p2, q2, _, _, _, _, h3, _⟩ := h2
  obtain ⟨g', t', cs, fuel, p, q, hg', ht', hvar, hd, _, _⟩ := h3
  obtain rfl := Option.some.inj (gPow.symm.trans hg')
  obtain rfl := Option.some.inj (gPowType.symm.trans ht')
  unfold Tab Lib.TabIs
  rw [hvar, ← Lib.cells_of_tab Tryd.underlying94 Tryd.underlying80 cellsU64 cellsPow hd]


end Go.Proofs.YtlejmjpjlbiojaaDoor

/-
  The text of a rule, as bytes; nothing of the program is in it.
-/
import Derived.Test.YthkfaiokigmjeaaDoorRuA
import Derived.Test.YthkfaiokigmjeaaDoorDec
import Derived.Lib.Join
namespace Go.Proofs.YthkfaiokigmjeaaDoor
open Go.ChangeShapes Go.WideShapes Go.ChangeAt Go.RowKit Go.Deep
set_option linter.unusedVariables false

def bl (s : ByteArray) : List UInt8 := s.data.toList
theorem bl_mk (l : List UInt8) : bl ⟨l.toArray⟩ = l := rfl
theorem bl_append (a b : ByteArray) : bl (a ++ b) = bl a ++ bl b := by simp [bl]
theorem bl_size (a : ByteArray) : (bl a).length = a.size := by simp [bl]
theorem ba_of {a : ByteArray} {l : List UInt8} (h : bl a = l) : a = ⟨l.toArray⟩ := by
  subst h
  cases a
  rfl
theorem bl_dec (u : Nat) : bl (decS u) = Lib.decDigits u := rfl
def ruleL : List UInt8 := [114, 117, 108, 101]
def whenL : List UInt8 := [119, 104, 101, 110]
def andL : List UInt8 := [97, 110, 100]
def thenL : List UInt8 := [116, 104, 101, 110]
def fwL (f : Nat) : List UInt8 := if f = 1 then [113, 116, 121] else if f = 2 then [97, 109, 111, 117, 110, 116] else if f = 3 then [104, 111, 117, 114] else if f = 4 then [100, 97, 121] else if f = 5 then [97, 103, 101] else []
def owL (o : Nat) : List UInt8 := if o = 1 then [62, 61] else if o = 2 then [60, 61] else if o = 3 then [61] else []
def awL (a : Nat) : List UInt8 := if a = 1 then [112, 101, 114, 99, 101, 110, 116] else if a = 2 then [111, 102, 102] else if a = 3 then [100, 101, 110, 121] else []
def jointL (k : Nat) : List UInt8 := if k = 0 then whenL else andL
def tmL (k : Nat) (t : RTm) : List (List UInt8) := [jointL k, fwL t.fd.toNat, owL t.op.toNat, Lib.decDigits t.nu.toNat]
/-- The words of the first k terms. -/
def tsL (ts : List RTm) : Nat → List (List UInt8)
  | 0 => []
  | k + 1 => tsL ts k ++ tmL k (ts.getD k zTm)
def endL (c : CCl) : List (List UInt8) := if c.ac = 3 then [thenL, awL 3] else [thenL, awL c.ac.toNat, Lib.decDigits c.nu.toNat]
def rlW (c : CCl) : List (List UInt8) := ruleL :: bl c.nm :: (tsL c.ts c.ts.length ++ endL c)
def lineL (c : CCl) : List UInt8 := Lib.join (rlW c) [32] ++ [10]
/-- What stands behind k terms. -/
def rtL (c : CCl) (k : Nat) : List UInt8 := ruleL ++ Lib.joinTail [32] (bl c.nm :: tsL c.ts k)
theorem tail_append (u v : List (List UInt8)) : Lib.joinTail [32] (u ++ v) = Lib.joinTail [32] u ++ Lib.joinTail [32] v := by simp [Lib.joinTail]
theorem rtL_zero (c : CCl) : rtL c 0 = ruleL ++ ([32] ++ bl c.nm) := by simp [rtL, tsL, Lib.joinTail]
theorem rtL_next (c : CCl) (k : Nat) : rtL c (k + 1) = rtL c k ++ Lib.joinTail [32] (tmL k (c.ts.getD k zTm)) := by
  unfold rtL
  rw [show tsL c.ts (k + 1) = tsL c.ts k ++ tmL k (c.ts.getD k zTm) from rfl, ← List.cons_append, tail_append, List.append_assoc]
theorem lineL_is (c : CCl) : lineL c = rtL c c.ts.length ++ Lib.joinTail [32] (endL c) ++ [10] := by
  unfold lineL rlW rtL
  rw [Lib.join_cons, ← List.cons_append, tail_append, List.append_assoc, List.append_assoc]
  simp
theorem tm_tail (k : Nat) (t : RTm) : Lib.joinTail [32] (tmL k t) = (if k = 0 then [32, 119, 104, 101, 110, 32] else [32, 97, 110, 100, 32]) ++ fwL t.fd.toNat ++ [32] ++ owL t.op.toNat ++ [32] ++ Lib.decDigits t.nu.toNat := by
  unfold tmL jointL whenL andL
  by_cases h : k = 0 <;> simp [h, Lib.joinTail]
theorem fwL_len (f : Nat) : (fwL f).length ≤ 6 := by unfold fwL; (repeat' split) <;> decide
theorem owL_len (f : Nat) : (owL f).length ≤ 2 := by unfold owL; (repeat' split) <;> decide
theorem awL_len (f : Nat) : (awL f).length ≤ 7 := by unfold awL; (repeat' split) <;> decide
theorem dec_len (u : Nat) : (Lib.decDigits u).length ≤ u + 1 := by
  have := decS_size u
  rw [← bl_size, bl_dec] at this
  exact this
theorem tm_len {t : RTm} (h : tmB t = true) (k : Nat) : (Lib.joinTail [32] (tmL k t)).length ≤ 1000100 := by
  rw [tm_tail]
  have h1 := fwL_len t.fd.toNat
  have h2 := owL_len t.op.toNat
  have h3 := dec_len t.nu.toNat
  have h4 := (tmB_iff.mp h).2.2.2
  have h5 : hiF t.fd ≤ 1000000 := by unfold hiF; (repeat' split) <;> omega
  split <;> simp <;> omega
theorem rtL_len {c : CCl} (hok : c.ts.all tmB = true) (hn : c.nm.size ≤ 40) : ∀ k, k ≤ c.ts.length → (rtL c k).length ≤ 45 + 1000100 * k
  | 0, _ => by rw [rtL_zero]; have := bl_size c.nm; simp [ruleL]; omega
  | k + 1, hk => by
    have ih := rtL_len hok hn k (by omega)
    have hm : c.ts.getD k zTm ∈ c.ts := by
      rw [show c.ts.getD k zTm = c.ts[k] by simp [List.getD_eq_getElem?_getD, show k < c.ts.length by omega]]; exact List.getElem_mem _
    have := tm_len (List.all_eq_true.mp hok _ hm) k
    rw [rtL_next, List.length_append]
    omega
theorem end_len {c : CCl} (h : c.nu ≤ 1000000000) : (Lib.joinTail [32] (endL c)).length ≤ 1000000100 := by
  have h1 := awL_len c.ac.toNat
  have h3 := dec_len c.nu.toNat
  unfold endL
  split
  · decide
  · simp [Lib.joinTail, thenL]; omega
theorem nameB_size {s : ByteArray} (h : nameB s = true) : s.size ≤ 40 := by
  unfold nameB at h
  simp only [Bool.and_eq_true, decide_eq_true_eq] at h
  exact h.1.2
theorem clOne_all {c : CCl} (h : clOne c = true) : c.ts.length ≤ 8 ∧ c.ts.all tmB = true ∧ c.nm.size ≤ 40 ∧ (1 ≤ c.ac ∧ c.ac ≤ 3) ∧ 0 ≤ c.nu ∧ c.nu ≤ 1000000000 := by
  unfold clOne sayB at h
  simp only [Bool.and_eq_true, decide_eq_true_eq] at h
  obtain ⟨⟨h1, h2⟩, h3, h4⟩ := h
  have h5 : c.nm.size ≤ 40 := nameB_size h2
  unfold actB at h3
  simp only [decide_eq_true_eq] at h3
  exact ⟨h1, h4, h5, by omega, by omega, by omega⟩
/-- The text of the first k rules. -/
def textL (rs : List CCl) : Nat → List UInt8
  | 0 => []
  | k + 1 => textL rs k ++ lineL (rs.getD k zCl)
theorem line_len {c : CCl} (h : clOne c = true) : (lineL c).length ≤ 1100000000 := by
  obtain ⟨h1, h2, h3, h4, h5, h6⟩ := clOne_all h
  have := rtL_len h2 h3 c.ts.length (Nat.le_refl _)
  have := end_len h6
  rw [lineL_is]
  simp
  omega
theorem text_len {rs : List CCl} (h : ∀ r ∈ rs, clOne r = true) : ∀ k, k ≤ rs.length → (textL rs k).length ≤ 1100000000 * k
  | 0, _ => by simp [textL]
  | k + 1, hk => by
    have ih := text_len h k (by omega)
    have hm : rs.getD k zCl ∈ rs := by
      rw [show rs.getD k zCl = rs[k] by simp [List.getD_eq_getElem?_getD, show k < rs.length by omega]]; exact List.getElem_mem _
    have := line_len (h _ hm)
    show (textL rs k ++ lineL (rs.getD k zCl)).length ≤ _
    rw [List.length_append]
    omega
/-- What RulesText answers. -/
def rtS (rs : List CCl) : List UInt8 := if clAll rs = true then textL rs rs.length else []
end Go.Proofs.YthkfaiokigmjeaaDoor

/-
  Stock as mathematics: lots, sums of units, what ends first; nothing of the program is in it.
-/
import Derived.Test.YtlfcaijhlgldnaaRowG
import Derived.Test.YtlfcaijhlgldnaaSlA
import Derived.Test.YtlfcaijhlgldnaaSkA
import Derived.Test.YtlfcaijhlgldnaaNameAny
namespace Go.Proofs.Ytlfcaijhlgldnaa
open Go.ChangeShapes Go.WideShapes Go.ChangeAt Go.RowKit Go.Deep
set_option linter.unusedVariables false

theorem bytesEq (x y : ByteArray) : (x.toList == y.toList) = decide (x = y) := by
  rw [Bool.eq_iff_iff, decide_eq_true_iff]
  refine ⟨fun h => ?_, fun h => by subst h; simp⟩
  have h' : x.toList = y.toList := by simpa using h
  rw [ByteArray.toList_eq, ByteArray.toList_eq] at h'
  have : x.data = y.data := Array.toList_inj.mp h'
  cases x; cases y; simp at this; rw [this]
structure StS where
  day : Int
  rc : Int
  sd : Int
  wa : Int
  sh : Int
  L : List RSl
def st0 : StS := ⟨0, 0, 0, 0, 0, []⟩
def gl (L : List RSl) (i : Nat) : RSl := L.getD i zSl
def keyB (ar : ByteArray) (lt : Int) (r : RSl) : Bool := (r.ar.toList == ar.toList) && (r.lt == lt)
theorem keyB_iff {ar : ByteArray} {lt : Int} {r : RSl} : keyB ar lt r = true ↔ r.ar = ar ∧ r.lt = lt := by
  unfold keyB
  rw [bytesEq, Bool.and_eq_true, decide_eq_true_iff, beq_iff_eq]
def fdI (L : List RSl) (ar : ByteArray) (lt : Int) : Option Nat := L.findIdx? (keyB ar lt)
theorem gl_get {L : List RSl} {i : Nat} (h : i < L.length) : gl L i = L[i] := by simp [gl, List.getD_eq_getElem?_getD, h]
theorem fd_at {L : List RSl} {ar : ByteArray} {lt : Int} {k : Nat} (hk : k < L.length) (h0 : ∀ j, j < k → keyB ar lt (gl L j) = false) (h1 : keyB ar lt (gl L k) = true) : fdI L ar lt = some k := by
  unfold fdI
  rw [List.findIdx?_eq_some_iff_getElem]
  refine ⟨hk, by rw [← gl_get hk]; exact h1, fun j hj => ?_⟩
  rw [← gl_get (by omega)]
  simpa using h0 j hj
theorem fd_none {L : List RSl} {ar : ByteArray} {lt : Int} (h0 : ∀ j, j < L.length → keyB ar lt (gl L j) = false) : fdI L ar lt = none := by
  unfold fdI
  rw [List.findIdx?_eq_none_iff]
  intro r hr
  obtain ⟨i, hi, rfl⟩ := List.getElem_of_mem hr
  rw [← gl_get hi]
  exact h0 i hi
theorem fd_some {L : List RSl} {ar : ByteArray} {lt : Int} {k : Nat} (h : fdI L ar lt = some k) : k < L.length ∧ (gl L k).ar = ar ∧ (gl L k).lt = lt := by
  unfold fdI at h
  rw [List.findIdx?_eq_some_iff_getElem] at h
  obtain ⟨hk, h1, _⟩ := h
  rw [← gl_get hk] at h1
  exact ⟨hk, keyB_iff.1 h1⟩
theorem fd_no {L : List RSl} {ar : ByteArray} {lt : Int} (h : fdI L ar lt = none) : ∀ j, j < L.length → ¬ ((gl L j).ar = ar ∧ (gl L j).lt = lt) := fun j hj e => by
  unfold fdI at h
  rw [List.findIdx?_eq_none_iff] at h
  have := h L[j] (List.getElem_mem hj)
  rw [← gl_get hj, keyB_iff.2 e] at this
  cases this
/-- A right lot. -/
structure SlN (r : RSl) : Prop where
  nu : 1 ≤ r.nu
  nu' : r.nu ≤ 100000
  ar : r.ar.size ≤ 1000
  lt : 1 ≤ r.lt
  lt' : r.lt ≤ 1000000
  un : 0 ≤ r.un
  un' : r.un ≤ 100000
/-- No two lots have both in common. -/
def Dst (L : List RSl) : Prop := ∀ i j, i < L.length → j < L.length → (gl L i).ar = (gl L j).ar → (gl L i).lt = (gl L j).lt → i = j
theorem getN {p : RSl → Prop} {L : List RSl} (h : ∀ r ∈ L, p r) {k : Nat} (hk : k < L.length) : p (gl L k) := by
  rw [gl_get hk]; exact h _ (List.getElem_mem hk)
theorem memN {p : RSl → Prop} {L : List RSl} (h : ∀ k, k < L.length → p (gl L k)) : ∀ r ∈ L, p r := fun r hr => by
  obtain ⟨i, hi, rfl⟩ := List.getElem_of_mem hr
  rw [← gl_get hi]; exact h i hi
def uN (p : RSl → Bool) : List RSl → Int
  | [] => 0
  | r :: L => (if p r = true then r.nu else 0) + uN p L
theorem uN_append (p : RSl → Bool) : ∀ a b, uN p (a ++ b) = uN p a + uN p b
  | [], b => by simp [uN]
  | r :: a, b => by rw [List.cons_append, uN, uN, uN_append p a b]; omega
theorem uN_next (p : RSl → Bool) (L : List RSl) (k : Nat) (h : k < L.length) : uN p (L.take (k + 1)) = uN p (L.take k) + if p (gl L k) = true then (gl L k).nu else 0 := by
  rw [List.take_succ_eq_append_getElem h, uN_append, gl_get h]
  simp [uN]
theorem uN_bound {p : RSl → Bool} {L : List RSl} (h : ∀ r ∈ L, SlN r) : 0 ≤ uN p L ∧ uN p L ≤ 100000 * (L.length : Int) := by
  induction L with
  | nil => simp [uN]
  | cons r L ih =>
    have h1 := ih (fun x hx => h x (List.mem_cons_of_mem _ hx))
    have h2 := (h r List.mem_cons_self).nu
    have h3 := (h r List.mem_cons_self).nu'
    rw [uN, List.length_cons]
    push_cast
    split <;> omega
theorem uN_take {p : RSl → Bool} {L : List RSl} (h : ∀ r ∈ L, SlN r) (k : Nat) (hk : k ≤ L.length) : 0 ≤ uN p (L.take k) ∧ uN p (L.take k) ≤ 100000 * (k : Int) := by
  have := uN_bound (p := p) (L := L.take k) (fun r hr => h r (List.mem_of_mem_take hr))
  rw [List.length_take, Nat.min_eq_left hk] at this
  exact this
theorem uN_congr {p q : RSl → Bool} {L : List RSl} (h : ∀ r ∈ L, p r = q r) : uN p L = uN q L := by
  induction L with
  | nil => rfl
  | cons r L ih => rw [uN, uN, h r List.mem_cons_self, ih (fun x hx => h x (List.mem_cons_of_mem _ hx))]
theorem uN_or {p q s : RSl → Bool} (h : ∀ r, s r = (p r || q r)) (h2 : ∀ r, (p r && q r) = false) : ∀ L, uN s L = uN p L + uN q L
  | [] => by simp [uN]
  | r :: L => by
    rw [uN, uN, uN, uN_or h h2 L, h r]
    have := h2 r
    cases hp : p r <;> cases hq : q r <;> simp_all <;> omega
theorem uN_le {p q : RSl → Bool} {L : List RSl} (hN : ∀ r ∈ L, SlN r) (h : ∀ r ∈ L, p r = true → q r = true) : uN p L ≤ uN q L := by
  induction L with
  | nil => simp [uN]
  | cons r L ih =>
    have h1 := ih (fun x hx => hN x (List.mem_cons_of_mem _ hx)) (fun x hx => h x (List.mem_cons_of_mem _ hx))
    have h2 := (hN r List.mem_cons_self).nu
    have h3 := h r List.mem_cons_self
    rw [uN, uN]
    by_cases hp : p r = true
    · rw [if_pos hp, if_pos (h3 hp)]; omega
    · rw [if_neg hp]; split <;> omega
def allB (_ : RSl) : Bool := true
/-- On sale; in date; all. -/
def pS (ar : ByteArray) (d : Int) (r : RSl) : Bool := (r.ar.toList == ar.toList) && (decide (d ≤ r.un) && !r.hd)
def pD (ar : ByteArray) (d : Int) (r : RSl) : Bool := (r.ar.toList == ar.toList) && decide (d ≤ r.un)
def pA (ar : ByteArray) (r : RSl) : Bool := r.ar.toList == ar.toList
/-- What stands against a sale of a lot. -/
def cA (d : Int) (r : RSl) : Int := if d ≤ r.un then (if r.hd = true then 18 else 0) else 17
def pC (ar : ByteArray) (d c : Int) (r : RSl) : Bool := (r.ar.toList == ar.toList) && (cA d r == c)
theorem cA_ways (d : Int) (r : RSl) : cA d r = 0 ∨ cA d r = 18 ∨ cA d r = 17 := by
  unfold cA; split
  · split <;> simp
  · simp
theorem pC_zero (ar : ByteArray) (d : Int) (r : RSl) : pC ar d 0 r = pS ar d r := by
  unfold pC pS cA
  by_cases h : d ≤ r.un
  · cases hh : r.hd <;> simp [h]
  · simp [h]
theorem sum_date (ar : ByteArray) (d : Int) (L : List RSl) : uN (pD ar d) L = uN (pC ar d 0) L + uN (pC ar d 18) L := by
  refine uN_or (fun r => ?_) (fun r => ?_) L
  · unfold pD pC cA
    by_cases h : d ≤ r.un
    · cases hh : r.hd <;> cases ha : (r.ar.toList == ar.toList) <;> simp [h]
    · cases ha : (r.ar.toList == ar.toList) <;> simp [h]
  · unfold pC
    cases ha : (r.ar.toList == ar.toList)
    · rfl
    · rcases cA_ways d r with e | e | e <;> rw [e] <;> rfl
theorem sum_all (ar : ByteArray) (d : Int) (L : List RSl) : uN (pA ar) L = uN (pD ar d) L + uN (pC ar d 17) L := by
  refine uN_or (fun r => ?_) (fun r => ?_) L
  · unfold pA pD pC cA
    by_cases h : d ≤ r.un
    · cases hh : r.hd <;> cases ha : (r.ar.toList == ar.toList) <;> simp [h]
    · cases ha : (r.ar.toList == ar.toList) <;> simp [h]
  · unfold pD pC cA
    by_cases h : d ≤ r.un
    · cases hh : r.hd <;> cases ha : (r.ar.toList == ar.toList) <;> simp [h]
    · cases ha : (r.ar.toList == ar.toList) <;> simp [h]
/-! ### What ends first -/
def mnS (acc : Option RSl) (r : RSl) : Option RSl := match acc with
  | none => some r
  | some m => if r.un < m.un then some r else some m
def mn (F : List RSl) : Option RSl := F.foldl mnS none
theorem mn_snoc (F : List RSl) (r : RSl) : mn (F ++ [r]) = mnS (mn F) r := by simp [mn]
def bs (L : List RSl) (p : RSl → Bool) : Nat → Option Nat
  | 0 => none
  | k + 1 => match bs L p k with
    | none => if p (gl L k) = true then some k else none
    | some b => if p (gl L k) = true ∧ (gl L k).un < (gl L b).un then some k else some b
theorem bs_mn (L : List RSl) (p : RSl → Bool) : ∀ k, k ≤ L.length → (bs L p k).map (gl L) = mn ((L.take k).filter p)
  | 0, _ => rfl
  | k + 1, h => by
    have ih := bs_mn L p k (by omega)
    rw [List.take_succ_eq_append_getElem (by omega), List.filter_append, ← gl_get (by omega : k < L.length)]
    rw [bs]
    by_cases hp : p (gl L k) = true
    · rw [List.filter_cons_of_pos hp, List.filter_nil, mn_snoc, ← ih]
      cases hb : bs L p k with
      | none => dsimp only; rw [if_pos hp]; rfl
      | some b =>
        simp only [Option.map_some, mnS]
        by_cases hl : (gl L k).un < (gl L b).un
        · rw [if_pos hl, if_pos ⟨hp, hl⟩]; rfl
        · rw [if_neg hl, if_neg (fun e => hl e.2)]; rfl
    · rw [List.filter_cons_of_neg hp, List.filter_nil, List.append_nil, ← ih]
      cases hb : bs L p k with
      | none => dsimp only; rw [if_neg hp]
      | some b => dsimp only; rw [if_neg (fun e => hp e.1)]
theorem bs_lt (L : List RSl) (p : RSl → Bool) : ∀ k b, bs L p k = some b → b < k ∧ p (gl L b) = true
  | 0, b, h => by cases h
  | k + 1, b, h => by
    rw [bs] at h
    cases hb : bs L p k with
    | none =>
      rw [hb] at h
      dsimp only at h
      by_cases hp : p (gl L k) = true
      · rw [if_pos hp] at h; cases h; exact ⟨by omega, hp⟩
      · rw [if_neg hp] at h; cases h
    | some c =>
      rw [hb] at h
      dsimp only at h
      have ih := bs_lt L p k c hb
      by_cases hp : p (gl L k) = true ∧ (gl L k).un < (gl L c).un
      · rw [if_pos hp] at h; cases h; exact ⟨by omega, hp.1⟩
      · rw [if_neg hp] at h; cases h; exact ⟨by omega, ih.2⟩
theorem bs_none (L : List RSl) (p : RSl → Bool) : ∀ k, bs L p k = none → ∀ j, j < k → p (gl L j) = false
  | 0, _, j, hj => by omega
  | k + 1, h, j, hj => by
    rw [bs] at h
    cases hb : bs L p k with
    | none =>
      rw [hb] at h
      dsimp only at h
      by_cases hp : p (gl L k) = true
      · rw [if_pos hp] at h; cases h
      · rcases Nat.lt_or_ge j k with q | q
        · exact bs_none L p k hb j q
        · have : j = k := by omega
          subst this; simpa using hp
    | some c =>
      rw [hb] at h
      dsimp only at h
      split at h <;> cases h
theorem bs_least (L : List RSl) (p : RSl → Bool) : ∀ k b, bs L p k = some b → ∀ j, j < k → p (gl L j) = true → (gl L b).un ≤ (gl L j).un
  | 0, b, h, j, hj, _ => by omega
  | k + 1, b, h, j, hj, hpj => by
    rw [bs] at h
    cases hb : bs L p k with
    | none =>
      have hn := bs_none L p k hb
      rw [hb] at h
      dsimp only at h
      by_cases hp : p (gl L k) = true
      · rw [if_pos hp] at h; cases h
        rcases Nat.lt_or_ge j k with q | q
        · rw [hn j q] at hpj; cases hpj
        · have : j = k := by omega
          subst this; omega
      · rw [if_neg hp] at h; cases h
    | some c =>
      have ih := bs_least L p k c hb
      rw [hb] at h
      dsimp only at h
      by_cases hp : p (gl L k) = true ∧ (gl L k).un < (gl L c).un
      · rw [if_pos hp] at h; cases h
        rcases Nat.lt_or_ge j k with q | q
        · have := ih j q hpj; omega
        · have : j = k := by omega
          subst this; omega
      · rw [if_neg hp] at h; cases h
        rcases Nat.lt_or_ge j k with q | q
        · exact ih j q hpj
        · have : j = k := by omega
          subst this
          by_cases hl : (gl L j).un < (gl L b).un
          · exact absurd ⟨hpj, hl⟩ hp
          · omega
theorem uN_none {p : RSl → Bool} {L : List RSl} (h : ∀ r ∈ L, p r = false) : uN p L = 0 := by
  induction L with
  | nil => rfl
  | cons r L ih => rw [uN, h r List.mem_cons_self, ih (fun x hx => h x (List.mem_cons_of_mem _ hx))]; simp
theorem bs_there {p : RSl → Bool} {L : List RSl} (h : 1 ≤ uN p L) : ∃ b, bs L p L.length = some b ∧ b < L.length ∧ p (gl L b) = true := by
  cases hb : bs L p L.length with
  | none =>
    have := uN_none (p := p) (L := L) (memN (p := fun r => p r = false) (bs_none L p _ hb))
    omega
  | some b => exact ⟨b, rfl, bs_lt L p _ b hb⟩
/-! ### A lot that is left with n units -/
def lv (L : List RSl) (i : Nat) (n : Int) : List RSl := if 0 < n then L.set i { gl L i with nu := n } else L.take i ++ L.drop (i + 1)
theorem gl_set {L : List RSl} {i j : Nat} {r : RSl} (hi : i < L.length) : gl (L.set i r) j = if j = i then r else gl L j := by
  unfold gl
  simp only [List.getD_eq_getElem?_getD, List.getElem?_set]
  by_cases h : i = j
  · subst h; simp [hi]
  · rw [if_neg h, if_neg (Ne.symm h)]
theorem gl_cut {L : List RSl} {i j : Nat} (hi : i < L.length) : gl (L.take i ++ L.drop (i + 1)) j = if j < i then gl L j else gl L (j + 1) := by
  unfold gl
  simp only [List.getD_eq_getElem?_getD]
  by_cases h : j < i
  · rw [if_pos h, List.getElem?_append_left (by rw [List.length_take]; omega), List.getElem?_take_of_lt h]
  · rw [if_neg h, List.getElem?_append_right (by rw [List.length_take]; omega), List.getElem?_drop, List.length_take, Nat.min_eq_left (by omega)]
    congr 2; omega
theorem cut_len {L : List RSl} {i : Nat} (hi : i < L.length) : (L.take i ++ L.drop (i + 1)).length = L.length - 1 := by
  rw [List.length_append, List.length_take, List.length_drop]; omega
theorem uN_split (p : RSl → Bool) {L : List RSl} {i : Nat} (hi : i < L.length) : uN p L = uN p (L.take i) + (if p (gl L i) = true then (gl L i).nu else 0) + uN p (L.drop (i + 1)) := by
  have e2 : L.take i ++ L[i] :: L.drop (i + 1) = L := by rw [List.getElem_cons_drop hi, List.take_append_drop]
  have h := congrArg (uN p) e2
  rw [uN_append, uN] at h
  rw [gl_get hi]; omega
theorem uN_set (p : RSl → Bool) {L : List RSl} {i : Nat} {r : RSl} (hi : i < L.length) : uN p (L.set i r) = uN p L - (if p (gl L i) = true then (gl L i).nu else 0) + (if p r = true then r.nu else 0) := by
  have hi2 : i < (L.set i r).length := by rw [List.length_set]; exact hi
  rw [uN_split p hi2, uN_split p hi, gl_set hi, if_pos rfl]
  have e1 : (L.set i r).take i = L.take i := by rw [List.take_set]; exact List.set_eq_of_length_le (by simp; omega)
  have e2 : (L.set i r).drop (i + 1) = L.drop (i + 1) := by rw [List.drop_set, if_pos (by omega)]
  rw [e1, e2]; omega
theorem uN_cut (p : RSl → Bool) {L : List RSl} {i : Nat} (hi : i < L.length) : uN p (L.take i ++ L.drop (i + 1)) = uN p L - (if p (gl L i) = true then (gl L i).nu else 0) := by
  rw [uN_append, uN_split p hi]; omega
theorem Dst.set {L : List RSl} (h : Dst L) {i : Nat} {r : RSl} (hi : i < L.length) (ha : r.ar = (gl L i).ar) (hl : r.lt = (gl L i).lt) : Dst (L.set i r) := fun a b ha' hb' e1 e2 => by
  rw [List.length_set] at ha' hb'
  rw [gl_set hi, gl_set hi] at e1 e2
  have k : ∀ c, (if c = i then r else gl L c).ar = (gl L c).ar ∧ (if c = i then r else gl L c).lt = (gl L c).lt := fun c => by
    by_cases q : c = i
    · subst q; rw [if_pos rfl]; exact ⟨ha, hl⟩
    · rw [if_neg q]; exact ⟨rfl, rfl⟩
  rw [(k a).1, (k b).1] at e1
  rw [(k a).2, (k b).2] at e2
  exact h a b ha' hb' e1 e2
theorem Dst.cut {L : List RSl} (h : Dst L) {i : Nat} (hi : i < L.length) : Dst (L.take i ++ L.drop (i + 1)) := fun a b ha hb e1 e2 => by
  rw [cut_len hi] at ha hb
  rw [gl_cut hi, gl_cut hi] at e1 e2
  by_cases qa : a < i <;> by_cases qb : b < i <;> simp only [qa, qb, if_true, if_false] at e1 e2
  · exact h a b (by omega) (by omega) e1 e2
  · have := h a (b + 1) (by omega) (by omega) e1 e2; omega
  · have := h (a + 1) b (by omega) (by omega) e1 e2; omega
  · have := h (a + 1) (b + 1) (by omega) (by omega) e1 e2; omega
theorem Dst.push {L : List RSl} (h : Dst L) {r : RSl} (hn : ∀ j, j < L.length → ¬ ((gl L j).ar = r.ar ∧ (gl L j).lt = r.lt)) : Dst (L ++ [r]) := fun a b ha hb e1 e2 => by
  rw [List.length_append, List.length_singleton] at ha hb
  have k1 : ∀ c, c < L.length → gl (L ++ [r]) c = gl L c := fun c hc => by unfold gl; simp [List.getD_eq_getElem?_getD, List.getElem?_append_left hc]
  have k2 : gl (L ++ [r]) L.length = r := by unfold gl; simp [List.getD_eq_getElem?_getD]
  rcases Nat.lt_or_ge a L.length with qa | qa <;> rcases Nat.lt_or_ge b L.length with qb | qb
  · rw [k1 a qa, k1 b qb] at e1 e2; exact h a b qa qb e1 e2
  · obtain rfl : b = L.length := by omega
    rw [k1 a qa, k2] at e1 e2; exact absurd ⟨e1, e2⟩ (hn a qa)
  · obtain rfl : a = L.length := by omega
    rw [k1 b qb, k2] at e1 e2; exact absurd ⟨e1.symm, e2.symm⟩ (hn b qb)
  · omega
theorem gl_push {L : List RSl} {r : RSl} {j : Nat} : gl (L ++ [r]) j = if j < L.length then gl L j else if j = L.length then r else zSl := by
  unfold gl
  simp only [List.getD_eq_getElem?_getD]
  by_cases h : j < L.length
  · rw [if_pos h, List.getElem?_append_left h]
  · rw [if_neg h, List.getElem?_append_right (by omega)]
    by_cases e : j = L.length
    · subst e; simp
    · rw [if_neg e, List.getElem?_eq_none (by simp; omega)]; rfl
structure LvF (L : List RSl) (i : Nat) (n : Int) : Prop where
  good : ∀ r ∈ lv L i n, SlN r
  dst : Dst (lv L i n)
  len : (lv L i n).length ≤ L.length
  all : uN allB (lv L i n) = uN allB L - ((gl L i).nu - n)
theorem lv_facts {L : List RSl} (hN : ∀ r ∈ L, SlN r) (hd : Dst L) {i : Nat} (hi : i < L.length) {n : Int} (h0 : 0 ≤ n) (h1 : n ≤ (gl L i).nu) : LvF L i n := by
  have hr := getN hN hi
  by_cases h : 0 < n
  · have e : lv L i n = L.set i { gl L i with nu := n } := if_pos h
    have hn2 := hr.nu'
    refine ⟨?_, ?_, ?_, ?_⟩ <;> rw [e]
    · intro r hrm
      rcases List.mem_or_eq_of_mem_set hrm with q | q
      · exact hN r q
      · rw [q]; exact ⟨by show 1 ≤ n; omega, by show n ≤ _; omega, hr.ar, hr.lt, hr.lt', hr.un, hr.un'⟩
    · exact hd.set hi rfl rfl
    · rw [List.length_set]; exact Nat.le_refl _
    · rw [uN_set allB hi]; simp [allB]; omega
  · have e : lv L i n = L.take i ++ L.drop (i + 1) := if_neg h
    refine ⟨?_, ?_, ?_, ?_⟩ <;> rw [e]
    · intro r hrm
      rcases List.mem_append.1 hrm with q | q
      · exact hN r (List.mem_of_mem_take q)
      · exact hN r (List.mem_of_mem_drop q)
    · exact hd.cut hi
    · rw [cut_len hi]; omega
    · rw [uN_cut allB hi]; simp [allB]; omega
end Go.Proofs.Ytlfcaijhlgldnaa

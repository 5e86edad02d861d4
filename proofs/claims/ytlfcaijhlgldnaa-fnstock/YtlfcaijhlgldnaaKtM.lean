/-
  The mathematics of a sale, lot by lot: lots that are touched are on sale, and those that end sooner are gone; nothing of the program is in it.
-/
import Derived.Test.YtlfcaijhlgldnaaKmB
namespace Go.Proofs.Ytlfcaijhlgldnaa
open Go.ChangeShapes Go.WideShapes Go.ChangeAt Go.RowKit Go.Deep
set_option linter.unusedVariables false

/-- The units of a lot, 0 if it is not there. -/
def fU (L : List RSl) (ar : ByteArray) (lt : Int) : Int := match fdI L ar lt with
  | none => 0
  | some i => (gl L i).nu
def Key (r : RSl) (ar : ByteArray) (lt : Int) : Prop := r.ar = ar ∧ r.lt = lt
theorem fU_ways (L : List RSl) (ar : ByteArray) (lt : Int) : (∃ j, j < L.length ∧ Key (gl L j) ar lt ∧ fU L ar lt = (gl L j).nu) ∨ ((∀ j, j < L.length → ¬ Key (gl L j) ar lt) ∧ fU L ar lt = 0) := by
  unfold fU
  cases h : fdI L ar lt with
  | none => exact .inr ⟨fd_no h, rfl⟩
  | some i => exact .inl ⟨i, (fd_some h).1, (fd_some h).2, rfl⟩
theorem fU_eq {L : List RSl} (hd : Dst L) {j : Nat} (hj : j < L.length) {ar : ByteArray} {lt : Int} (hk : Key (gl L j) ar lt) : fU L ar lt = (gl L j).nu := by
  rcases fU_ways L ar lt with ⟨i, hi, hki, e⟩ | ⟨h, _⟩
  · have := hd i j hi hj (hki.1.trans hk.1.symm) (hki.2.trans hk.2.symm)
    rw [e, this]
  · exact absurd hk (h j hj)
theorem fU_no {L : List RSl} {ar : ByteArray} {lt : Int} (h : ∀ j, j < L.length → ¬ Key (gl L j) ar lt) : fU L ar lt = 0 := by
  rcases fU_ways L ar lt with ⟨i, hi, hki, e⟩ | ⟨_, e⟩
  · exact absurd hki (h i hi)
  · exact e
/-- What a lot is but for its units. -/
def Same (r s : RSl) : Prop := r.ar = s.ar ∧ r.lt = s.lt ∧ r.un = s.un ∧ r.hd = s.hd
theorem lv_mem {L : List RSl} {b : Nat} (hb : b < L.length) (n : Int) : ∀ j, j < (lv L b n).length → ∃ i, i < L.length ∧ Same (gl L i) (gl (lv L b n) j) := fun j hj => by
  unfold lv at hj ⊢
  by_cases h : 0 < n
  · rw [if_pos h] at hj ⊢
    rw [List.length_set] at hj
    rw [gl_set hb]
    by_cases e : j = b
    · rw [if_pos e]; exact ⟨b, hb, rfl, rfl, rfl, rfl⟩
    · rw [if_neg e]; exact ⟨j, hj, rfl, rfl, rfl, rfl⟩
  · rw [if_neg h] at hj ⊢
    rw [cut_len hb] at hj
    rw [gl_cut hb]
    by_cases e : j < b
    · rw [if_pos e]; exact ⟨j, by omega, rfl, rfl, rfl, rfl⟩
    · rw [if_neg e]; exact ⟨j + 1, by omega, rfl, rfl, rfl, rfl⟩
theorem fU_lv {L : List RSl} (hd : Dst L) {b : Nat} (hb : b < L.length) {n : Int} (hn : 0 ≤ n) (hd' : Dst (lv L b n)) (ar : ByteArray) (lt : Int) : (Key (gl L b) ar lt → fU (lv L b n) ar lt = n) ∧ (¬ Key (gl L b) ar lt → fU (lv L b n) ar lt = fU L ar lt) := by
  by_cases h : 0 < n
  · have e0 : lv L b n = L.set b { gl L b with nu := n } := if_pos h
    have hl : (lv L b n).length = L.length := by rw [e0, List.length_set]
    have hg : ∀ j, gl (lv L b n) j = if j = b then { gl L b with nu := n } else gl L j := fun j => by rw [e0, gl_set hb]
    refine ⟨fun hk => ?_, fun hk => ?_⟩
    · have e1 := fU_eq hd' (j := b) (by omega) (ar := ar) (lt := lt) (by rw [hg, if_pos rfl]; exact hk)
      rw [e1, hg, if_pos rfl]
    · rcases fU_ways L ar lt with ⟨i, hi, hki, e⟩ | ⟨hno, e⟩
      · have hib : i ≠ b := fun q => hk (by rw [← q]; exact hki)
        rw [e, fU_eq hd' (j := i) (by omega) (ar := ar) (lt := lt) (by rw [hg, if_neg hib]; exact hki), hg, if_neg hib]
      · rw [e]
        refine fU_no (fun j hj => ?_)
        rw [hg]
        by_cases q : j = b
        · rw [if_pos q]; exact hk
        · rw [if_neg q]; exact hno j (by omega)
  · have hz : n = 0 := by omega
    have e0 : lv L b n = L.take b ++ L.drop (b + 1) := if_neg h
    have hl : (lv L b n).length = L.length - 1 := by rw [e0, cut_len hb]
    have hg : ∀ j, gl (lv L b n) j = if j < b then gl L j else gl L (j + 1) := fun j => by rw [e0, gl_cut hb]
    refine ⟨fun hk => ?_, fun hk => ?_⟩
    · rw [hz] at hl hg ⊢
      refine fU_no (fun j hj hkj => ?_)
      rw [hg] at hkj
      by_cases q : j < b
      · rw [if_pos q] at hkj
        have := hd j b (by omega) hb (hkj.1.trans hk.1.symm) (hkj.2.trans hk.2.symm)
        omega
      · rw [if_neg q] at hkj
        have := hd (j + 1) b (by omega) hb (hkj.1.trans hk.1.symm) (hkj.2.trans hk.2.symm)
        omega
    · rcases fU_ways L ar lt with ⟨i, hi, hki, e⟩ | ⟨hno, e⟩
      · have hib : i ≠ b := fun q => hk (by rw [← q]; exact hki)
        rw [e]
        by_cases q : i < b
        · rw [fU_eq hd' (j := i) (by omega) (ar := ar) (lt := lt) (by rw [hg, if_pos q]; exact hki), hg, if_pos q]
        · have e2 : gl (lv L b n) (i - 1) = gl L i := by rw [hg, if_neg (by omega), show i - 1 + 1 = i by omega]
          rw [fU_eq hd' (j := i - 1) (by omega) (ar := ar) (lt := lt) (by rw [e2]; exact hki), e2]
      · rw [e]
        refine fU_no (fun j hj => ?_)
        rw [hg]
        by_cases q : j < b
        · rw [if_pos q]; exact hno j (by omega)
        · rw [if_neg q]; exact hno (j + 1) (by omega)
/-- What is left of a lot of L in M. -/
def lf (L M : List RSl) (i : Nat) : Int := fU M (gl L i).ar (gl L i).lt
structure SvI (p : RSl → Bool) (L M : List RSl) : Prop where
  mem : ∀ j, j < M.length → ∃ i, i < L.length ∧ Same (gl L i) (gl M j)
  low : ∀ i, i < L.length → 0 ≤ lf L M i
  le : ∀ i, i < L.length → lf L M i ≤ (gl L i).nu
  on : ∀ i, i < L.length → lf L M i < (gl L i).nu → p (gl L i) = true
  ord : ∀ i j, i < L.length → j < L.length → lf L M i < (gl L i).nu → p (gl L j) = true → (gl L j).un < (gl L i).un → lf L M j = 0
theorem SvI.start {p : RSl → Bool} {L : List RSl} (hN : ∀ r ∈ L, SlN r) (hd : Dst L) : SvI p L L := by
  have e : ∀ i, i < L.length → lf L L i = (gl L i).nu := fun i hi => fU_eq hd hi ⟨rfl, rfl⟩
  refine ⟨fun j hj => ⟨j, hj, rfl, rfl, rfl, rfl⟩, fun i hi => ?_, fun i hi => ?_, fun i hi h => ?_, fun i j hi hj h => ?_⟩
  · rw [e i hi]; have := (getN hN hi).nu; omega
  · rw [e i hi]; exact Int.le_refl _
  · rw [e i hi] at h; omega
  · rw [e i hi] at h; omega
theorem SvI.step {p : RSl → Bool} (hp : ∀ r s, Same r s → p r = p s) {L M : List RSl} (hdL : Dst L) (hN : ∀ r ∈ M, SlN r) (hd : Dst M) (h : SvI p L M) {b : Nat} (hb : b < M.length) (hpb : p (gl M b) = true) (hleast : ∀ j, j < M.length → p (gl M j) = true → (gl M b).un ≤ (gl M j).un) {n : Int} (hn0 : 0 ≤ n) (hn1 : n ≤ (gl M b).nu) (hd' : Dst (lv M b n)) : SvI p L (lv M b n) := by
  obtain ⟨i0, hi0, s1, s2, s3, s4⟩ := h.mem b hb
  have hp0 : p (gl L i0) = true := (hp _ _ ⟨s1, s2, s3, s4⟩).trans hpb
  have hnu := (getN hN hb).nu
  have e0 : lf L M i0 = (gl M b).nu := fU_eq hd hb ⟨s1.symm, s2.symm⟩
  have hyes : lf L (lv M b n) i0 = n := (fU_lv hd hb hn0 hd' _ _).1 ⟨s1.symm, s2.symm⟩
  have hno : ∀ i, i < L.length → i ≠ i0 → lf L (lv M b n) i = lf L M i := fun i hi e => (fU_lv hd hb hn0 hd' _ _).2 (fun k => e (hdL i i0 hi hi0 (k.1.symm.trans s1.symm) (k.2.symm.trans s2.symm)))
  have hle0 := h.le i0 hi0
  refine ⟨fun j hj => ?_, fun i hi => ?_, fun i hi => ?_, fun i hi q => ?_, fun i j hi hj q hpj hu => ?_⟩
  · obtain ⟨k, hk, t1, t2, t3, t4⟩ := lv_mem hb n j hj
    obtain ⟨i, hi, u1, u2, u3, u4⟩ := h.mem k hk
    exact ⟨i, hi, u1.trans t1, u2.trans t2, u3.trans t3, u4.trans t4⟩
  · by_cases e : i = i0
    · rw [e, hyes]; exact hn0
    · rw [hno i hi e]; exact h.low i hi
  · by_cases e : i = i0
    · rw [e, hyes]; omega
    · rw [hno i hi e]; exact h.le i hi
  · by_cases e : i = i0
    · rw [e]; exact hp0
    · rw [hno i hi e] at q; exact h.on i hi q
  · have hold : lf L M i < (gl L i).nu → lf L (lv M b n) j = 0 := fun q2 => by
      have z := h.ord i j hi hj q2 hpj hu
      have hj0 : j ≠ i0 := fun e => by rw [e, e0] at z; omega
      rw [hno j hj hj0]; exact z
    by_cases e : i = i0
    · have hj0 : j ≠ i0 := fun e2 => by rw [e, e2] at hu; omega
      rw [hno j hj hj0]
      refine fU_no (fun k hk hkk => ?_)
      obtain ⟨i2, hi2, u1, u2, u3, u4⟩ := h.mem k hk
      have e2 : i2 = j := hdL i2 j hi2 hj (u1.trans hkk.1) (u2.trans hkk.2)
      rw [e2] at u1 u2 u3 u4
      have hpk : p (gl M k) = true := (hp _ _ ⟨u1, u2, u3, u4⟩).symm.trans hpj
      have := hleast k hk hpk
      rw [e] at hu
      omega
    · rw [hno i hi e] at q; exact hold q
theorem slT_sv {p : RSl → Bool} (hp : ∀ r s, Same r s → p r = p s) {m : Int} {L : List RSl} (hN : ∀ r ∈ L, SlN r) (hd : Dst L) (hm : 0 ≤ m) (hs : m ≤ uN p L) : ∀ k, SvI p L (slT p m L k).2.1
  | 0 => SvI.start hN hd
  | k + 1 => by
    have hpn : ∀ (r : RSl) n, p { r with nu := n } = p r := fun r n => hp _ _ ⟨rfl, rfl, rfl, rfl⟩
    have ih := slT_sv hp hN hd hm hs k
    have iv := slT_inv hpn hN hd hm hs k
    rw [slT]
    generalize slT p m L k = s at *
    unfold slS
    by_cases h : s.1 ≤ 0
    · rw [if_pos h]; exact ih
    · rw [if_neg h]
      obtain ⟨i1, i2, i3, i4, i5, i6, i7, i8⟩ := iv
      obtain ⟨b, hb, hbl, hpb⟩ := bs_there (p := p) (L := s.2.1) (by omega)
      rw [hb]
      have f := pt_facts hpn i4 i5 (by omega : 1 ≤ s.1) hbl hpb
      have f1 := f.one
      have f2 := f.nu
      exact ih.step hp hd i4 i5 hbl hpb (fun j hj hpj => bs_least _ _ _ _ hb j hj hpj) (by omega) (by omega) f.f.dst
theorem pS_same (ar : ByteArray) (d : Int) (r s : RSl) (h : Same r s) : pS ar d r = pS ar d s := by
  unfold pS
  rw [h.1, h.2.2.1, h.2.2.2]
/-- A sale that is made: what the law asks of it. -/
theorem sale_facts {i : Nat} {σ : StS} (h : StOK i σ) (ar : ByteArray) (m : Int) (hc : selE σ ar m = 0) : SvI (pS ar σ.day) σ.L (selS σ ar m).L ∧ (selS σ ar m).sd = σ.sd + m ∧ 1 ≤ m := by
  have hm : ¬ m < 1 := fun e => by unfold selE at hc; rw [if_pos e] at hc; simp at hc
  have hs : m ≤ uN (pS ar σ.day) σ.L := by
    unfold selE at hc
    rw [if_neg hm] at hc
    unfold selC at hc
    by_cases q : m ≤ uN (pS ar σ.day) σ.L
    · exact q
    · rw [if_neg q] at hc
      split at hc
      · cases hc
      · split at hc <;> cases hc
  unfold selS
  rw [if_pos hc]
  exact ⟨slT_sv (pS_same ar σ.day) h.good h.dst (by omega) hs m.toNat, rfl, by omega⟩
/-- The first acts alone. -/
theorem stR_take (rs : List RSk) : ∀ (n k : Nat), k ≤ n → stR (rs.take n) k = stR rs k
  | n, 0, _ => rfl
  | n, k + 1, h => by
    have e : (rs.take n).getD k zSk = rs.getD k zSk := by
      simp [List.getD_eq_getElem?_getD, show k < n by omega]
    rw [stR, stR, stR_take rs n k (by omega), e]
theorem stO_take (rs : List RSk) : ∀ (n k : Nat), k ≤ n → stO (rs.take n) k = stO rs k
  | n, 0, _ => rfl
  | n, k + 1, h => by
    have e : (rs.take n).getD k zSk = rs.getD k zSk := by
      simp [List.getD_eq_getElem?_getD, show k < n by omega]
    rw [stO, stO, stO_take rs n k (by omega), stR_take rs n k (by omega), e]
end Go.Proofs.Ytlfcaijhlgldnaa

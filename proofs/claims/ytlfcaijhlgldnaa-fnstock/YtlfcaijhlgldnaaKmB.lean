/-
  A sale, an act and a run of acts on stock as mathematics; nothing of the program is in it.
-/
import Derived.Test.YtlfcaijhlgldnaaKmA
namespace Go.Proofs.Ytlfcaijhlgldnaa
open Go.ChangeShapes Go.WideShapes Go.ChangeAt Go.RowKit Go.Deep
set_option linter.unusedVariables false

/-- What a sale takes of a lot; what is left of the lots. -/
def ptN (m : Int) (L : List RSl) (b : Nat) : Int := min m (gl L b).nu
def ptL (m : Int) (L : List RSl) (b : Nat) : List RSl := lv L b ((gl L b).nu - ptN m L b)
def slS (p : RSl → Bool) (s : Int × List RSl × Nat) : Int × List RSl × Nat :=
  if s.1 ≤ 0 then s else match bs s.2.1 p s.2.1.length with
    | none => s
    | some b => (s.1 - ptN s.1 s.2.1 b, ptL s.1 s.2.1 b, s.2.2 + 1)
def slT (p : RSl → Bool) (m : Int) (L : List RSl) : Nat → Int × List RSl × Nat
  | 0 => (m, L, 0)
  | k + 1 => slS p (slT p m L k)
structure SlI (p : RSl → Bool) (m : Int) (L : List RSl) (s : Int × List RSl × Nat) : Prop where
  low : 0 ≤ s.1
  high : s.1 ≤ m
  top : s.1 ≤ uN p s.2.1
  good : ∀ r ∈ s.2.1, SlN r
  dst : Dst s.2.1
  len : s.2.1.length ≤ L.length
  all : uN allB s.2.1 = uN allB L - (m - s.1)
  cnt : (s.2.2 : Int) ≤ m - s.1
structure PtF (p : RSl → Bool) (m : Int) (L : List RSl) (b : Nat) : Prop where
  one : 1 ≤ ptN m L b
  le : ptN m L b ≤ m
  nu : ptN m L b ≤ (gl L b).nu
  f : LvF L b ((gl L b).nu - ptN m L b)
  sum : uN p (ptL m L b) = uN p L - ptN m L b
theorem pt_facts {p : RSl → Bool} (hp : ∀ (r : RSl) n, p { r with nu := n } = p r) {m : Int} {L : List RSl} (hN : ∀ r ∈ L, SlN r) (hd : Dst L) (hm : 1 ≤ m) {b : Nat} (hb : b < L.length) (hpb : p (gl L b) = true) : PtF p m L b := by
  have hr := getN hN hb
  have h1 := hr.nu
  have hx : ptN m L b = min m (gl L b).nu := rfl
  refine ⟨by omega, by omega, by omega, lv_facts hN hd hb (by omega) (by omega), ?_⟩
  unfold ptL lv
  split
  · rw [uN_set p hb]; dsimp only; rw [hp (gl L b) ((gl L b).nu - ptN m L b), if_pos hpb, if_pos hpb]; omega
  · rw [uN_cut p hb, if_pos hpb]; omega
theorem slT_inv {p : RSl → Bool} (hp : ∀ (r : RSl) n, p { r with nu := n } = p r) {m : Int} {L : List RSl} (hN : ∀ r ∈ L, SlN r) (hd : Dst L) (hm : 0 ≤ m) (hs : m ≤ uN p L) : ∀ k, SlI p m L (slT p m L k)
  | 0 => ⟨hm, Int.le_refl _, hs, hN, hd, Nat.le_refl _, by simp [slT], by simp [slT]⟩
  | k + 1 => by
    have ih := slT_inv hp hN hd hm hs k
    rw [slT]
    generalize slT p m L k = s at *
    unfold slS
    by_cases h : s.1 ≤ 0
    · rw [if_pos h]; exact ih
    · rw [if_neg h]
      obtain ⟨i1, i2, i3, i4, i5, i6, i7, i8⟩ := ih
      obtain ⟨b, hb, hbl, hpb⟩ := bs_there (p := p) (L := s.2.1) (by omega)
      rw [hb]
      have f := pt_facts hp i4 i5 (by omega : 1 ≤ s.1) hbl hpb
      have f1 := f.one
      have f2 := f.le
      have f3 := f.sum
      have f4 := f.f.all
      refine ⟨by dsimp only; omega, by dsimp only; omega, by dsimp only; omega, f.f.good, f.f.dst, Nat.le_trans f.f.len i6, ?_, ?_⟩
      · dsimp only; unfold ptL; omega
      · dsimp only; push_cast; omega
theorem slT_fst {p : RSl → Bool} (hp : ∀ (r : RSl) n, p { r with nu := n } = p r) {m : Int} {L : List RSl} (hN : ∀ r ∈ L, SlN r) (hd : Dst L) (hm : 0 ≤ m) (hs : m ≤ uN p L) : ∀ k : Nat, (slT p m L k).1 ≤ max 0 (m - (k : Int))
  | 0 => by simp [slT]; omega
  | k + 1 => by
    have ih := slT_fst hp hN hd hm hs k
    have iv := slT_inv hp hN hd hm hs k
    rw [slT]
    generalize slT p m L k = s at *
    unfold slS
    by_cases h : s.1 ≤ 0
    · rw [if_pos h]; omega
    · rw [if_neg h]
      have := iv.top
      obtain ⟨b, hb, hbl, hpb⟩ := bs_there (p := p) (L := s.2.1) (by omega)
      rw [hb]
      have h1 := (pt_facts hp iv.good iv.dst (by omega : 1 ≤ s.1) hbl hpb).one
      dsimp only
      push_cast
      omega
theorem slT_still {p : RSl → Bool} {m : Int} {L : List RSl} {k : Nat} (h : (slT p m L k).1 ≤ 0) : ∀ j, slT p m L (k + j) = slT p m L k
  | 0 => rfl
  | j + 1 => by
    rw [← Nat.add_assoc, slT, slT_still h j]
    unfold slS
    rw [if_pos h]
def slL (p : RSl → Bool) (m : Int) (L : List RSl) : List RSl := (slT p m L m.toNat).2.1
def slK (p : RSl → Bool) (m : Int) (L : List RSl) : Nat := (slT p m L m.toNat).2.2
theorem slT_end {p : RSl → Bool} (hp : ∀ (r : RSl) n, p { r with nu := n } = p r) {m : Int} {L : List RSl} (hN : ∀ r ∈ L, SlN r) (hd : Dst L) (hm : 0 ≤ m) (hs : m ≤ uN p L) {k : Nat} (h : (slT p m L k).1 ≤ 0) : (slT p m L k).2.1 = slL p m L ∧ (slT p m L k).2.2 = slK p m L := by
  have hz : (slT p m L m.toNat).1 ≤ 0 := by have := slT_fst hp hN hd hm hs m.toNat; omega
  have e : slT p m L k = slT p m L m.toNat := by
    rcases Nat.le_total k m.toNat with q | q
    · have := slT_still h (m.toNat - k)
      rw [show k + (m.toNat - k) = m.toNat by omega] at this
      exact this.symm
    · have := slT_still hz (k - m.toNat)
      rw [show m.toNat + (k - m.toNat) = k by omega] at this
      exact this
  unfold slL slK
  rw [e]
  exact ⟨rfl, rfl⟩
structure SlF (p : RSl → Bool) (m : Int) (L : List RSl) : Prop where
  good : ∀ r ∈ slL p m L, SlN r
  dst : Dst (slL p m L)
  len : (slL p m L).length ≤ L.length
  all : uN allB (slL p m L) = uN allB L - m
  cnt : (slK p m L : Int) ≤ m
theorem sl_facts {p : RSl → Bool} (hp : ∀ (r : RSl) n, p { r with nu := n } = p r) {m : Int} {L : List RSl} (hN : ∀ r ∈ L, SlN r) (hd : Dst L) (hm : 0 ≤ m) (hs : m ≤ uN p L) : SlF p m L := by
  have h := slT_inv hp hN hd hm hs m.toNat
  have hz : (slT p m L m.toNat).1 ≤ 0 := by have := slT_fst hp hN hd hm hs m.toNat; omega
  have h0 := h.low
  have h1 := h.all
  have h2 := h.cnt
  exact ⟨h.good, h.dst, h.len, by unfold slL; omega, by unfold slK; omega⟩
theorem pS_nu (ar : ByteArray) (d : Int) (r : RSl) (n : Int) : pS ar d { r with nu := n } = pS ar d r := rfl
/-! ### Acts -/
def rcvOK (σ : StS) (x : RSk) : Bool := decide ((1 ≤ x.lt ∧ x.lt ≤ 1000000) ∧ (1 ≤ x.nu ∧ x.nu ≤ 100000) ∧ σ.day ≤ x.un ∧ x.un ≤ 100000)
def rcvC (σ : StS) (x : RSk) : Int := if nameB x.ar = false then 6 else if rcvOK σ x = false then 5 else if (fdI σ.L x.ar x.lt).isSome = true then 7 else if σ.L.length = 60 then 14 else 0
def rcvS (σ : StS) (x : RSk) : StS := if rcvC σ x = 0 then { σ with L := σ.L ++ [⟨x.ar, x.lt, x.nu, x.un, false⟩], rc := σ.rc + x.nu } else σ
def rcvN (σ : StS) (x : RSk) : Int := if rcvC σ x = 0 then x.nu else 0
def selC (σ : StS) (ar : ByteArray) (m : Int) : Int := if m ≤ uN (pS ar σ.day) σ.L then 0 else if m ≤ uN (pD ar σ.day) σ.L then 18 else if m ≤ uN (pA ar) σ.L then 17 else 19
def selE (σ : StS) (ar : ByteArray) (m : Int) : Int := if m < 1 then 5 else selC σ ar m
def selS (σ : StS) (ar : ByteArray) (m : Int) : StS := if selE σ ar m = 0 then { σ with L := slL (pS ar σ.day) m σ.L, sd := σ.sd + m } else σ
def selN (σ : StS) (ar : ByteArray) (m : Int) : Int := if selE σ ar m = 0 then (slK (pS ar σ.day) m σ.L : Int) else 0
def dayE (σ : StS) (n : Int) : Int := if σ.day ≤ n ∧ n ≤ 100000 then 0 else 5
def dayS (σ : StS) (n : Int) : StS := if dayE σ n = 0 then { σ with day := n } else σ
def dayN (σ : StS) (n : Int) : Int := if dayE σ n = 0 then n else 0
/-- What an act on the lot i does: kind, number; the code, the number told, the stock. -/
def lotE (σ : StS) (kd n : Int) (i : Nat) : Int := if kd = 4 then (if (gl σ.L i).hd = true then 12 else 0) else if kd = 5 then (if (gl σ.L i).hd = true then 0 else 12) else if kd = 6 then 0 else if 0 ≤ n ∧ n ≤ (gl σ.L i).nu then 0 else 5
def lotN (σ : StS) (kd n : Int) (i : Nat) : Int := if lotE σ kd n i = 0 then (if kd = 7 then (gl σ.L i).nu - n else (gl σ.L i).nu) else 0
def lotS (σ : StS) (kd n : Int) (i : Nat) : StS := if lotE σ kd n i = 0 then
    (if kd = 4 then { σ with L := σ.L.set i { gl σ.L i with hd := true } } else if kd = 5 then { σ with L := σ.L.set i { gl σ.L i with hd := false } } else if kd = 6 then { σ with L := lv σ.L i 0, wa := σ.wa + (gl σ.L i).nu } else { σ with L := lv σ.L i n, sh := σ.sh + ((gl σ.L i).nu - n) })
  else σ
def toE (σ : StS) (x : RSk) : Int := match fdI σ.L x.ar x.lt with | none => 8 | some i => lotE σ x.kd x.nu i
def toN (σ : StS) (x : RSk) : Int := match fdI σ.L x.ar x.lt with | none => 0 | some i => lotN σ x.kd x.nu i
def toS (σ : StS) (x : RSk) : StS := match fdI σ.L x.ar x.lt with | none => σ | some i => lotS σ x.kd x.nu i
def actE (σ : StS) (x : RSk) : Int := if x.kd = 1 then rcvC σ x else if x.kd = 2 then selE σ x.ar x.nu else if x.kd = 3 then dayE σ x.nu else if 4 ≤ x.kd ∧ x.kd ≤ 7 then toE σ x else 13
def actN (σ : StS) (x : RSk) : Int := if x.kd = 1 then rcvN σ x else if x.kd = 2 then selN σ x.ar x.nu else if x.kd = 3 then dayN σ x.nu else if 4 ≤ x.kd ∧ x.kd ≤ 7 then toN σ x else 0
def actS (σ : StS) (x : RSk) : StS := if x.kd = 1 then rcvS σ x else if x.kd = 2 then selS σ x.ar x.nu else if x.kd = 3 then dayS σ x.nu else if 4 ≤ x.kd ∧ x.kd ≤ 7 then toS σ x else σ
structure StOK (i : Nat) (σ : StS) : Prop where
  good : ∀ r ∈ σ.L, SlN r
  dst : Dst σ.L
  len : σ.L.length ≤ 60
  d0 : 0 ≤ σ.day
  d1 : σ.day ≤ 100000
  s0 : 0 ≤ σ.sd
  w0 : 0 ≤ σ.wa
  h0 : 0 ≤ σ.sh
  bal : uN allB σ.L + σ.sd + σ.wa + σ.sh = σ.rc
  top : σ.rc ≤ 100000 * (i : Int)
theorem st0_ok : StOK 0 st0 := ⟨by simp [st0], fun i j h => by simp [st0] at h, by simp [st0], by simp [st0], by simp [st0], by simp [st0], by simp [st0], by simp [st0], by simp [st0, uN], by simp [st0]⟩
theorem StOK.up {i : Nat} {σ : StS} (h : StOK i σ) : StOK (i + 1) σ := ⟨h.good, h.dst, h.len, h.d0, h.d1, h.s0, h.w0, h.h0, h.bal, by have := h.top; push_cast; omega⟩
theorem StOK.rc0 {i : Nat} {σ : StS} (h : StOK i σ) : 0 ≤ uN allB σ.L ∧ 0 ≤ σ.rc := by
  have h1 := uN_bound (p := allB) h.good
  have h2 := h.bal
  have h3 := h.s0
  have h4 := h.w0
  have h5 := h.h0
  omega
theorem nameB_size {s : ByteArray} (h : nameB s = true) : s.size ≤ 40 := by
  unfold nameB at h
  rw [Bool.and_eq_true, decide_eq_true_iff] at h
  exact h.1.2
theorem rcv_ok {i : Nat} {σ : StS} (h : StOK i σ) (x : RSk) : StOK (i + 1) (rcvS σ x) := by
  unfold rcvS
  by_cases hc : rcvC σ x = 0
  · rw [if_pos hc]
    unfold rcvC at hc
    have hn : nameB x.ar = true := by
      cases hb : nameB x.ar with
      | true => rfl
      | false => rw [hb] at hc; simp at hc
    rw [hn] at hc
    have ho : rcvOK σ x = true := by
      cases hb : rcvOK σ x with
      | true => rfl
      | false => rw [hb] at hc; simp at hc
    rw [ho] at hc
    have hf : fdI σ.L x.ar x.lt = none := by
      cases hb : fdI σ.L x.ar x.lt with
      | none => rfl
      | some j => rw [hb] at hc; simp at hc
    rw [hf] at hc
    have hl : σ.L.length ≠ 60 := fun e => by rw [e] at hc; simp at hc
    have hlen := h.len
    unfold rcvOK at ho
    rw [decide_eq_true_iff] at ho
    obtain ⟨⟨o1, o2⟩, ⟨o3, o4⟩, o5, o6⟩ := ho
    have hs := nameB_size hn
    have hd0 := h.d0
    refine ⟨fun r hr => ?_, h.dst.push (fd_no hf), by dsimp only; rw [List.length_append]; simp; omega, h.d0, h.d1, h.s0, h.w0, h.h0, ?_, ?_⟩
    · rcases List.mem_append.1 hr with q | q
      · exact h.good r q
      · rw [List.mem_singleton.1 q]; exact ⟨o3, o4, by dsimp only; omega, o1, o2, by dsimp only; omega, o6⟩
    · have := h.bal
      dsimp only
      rw [uN_append]
      simp [uN, allB]; omega
    · have := h.top
      dsimp only
      push_cast; omega
  · rw [if_neg hc]; exact h.up
theorem sel_ok {i : Nat} {σ : StS} (h : StOK i σ) (ar : ByteArray) (m : Int) : StOK (i + 1) (selS σ ar m) := by
  unfold selS
  by_cases hc : selE σ ar m = 0
  · rw [if_pos hc]
    have hm : ¬ m < 1 := fun e => by unfold selE at hc; rw [if_pos e] at hc; simp at hc
    have hs : m ≤ uN (pS ar σ.day) σ.L := by
      unfold selE at hc
      rw [if_neg hm] at hc
      unfold selC at hc
      by_cases q : m ≤ uN (pS ar σ.day) σ.L
      · exact q
      · rw [if_neg q] at hc
        split at hc
        · cases hc
        · split at hc <;> cases hc
    have f := sl_facts (pS_nu ar σ.day) h.good h.dst (by omega) hs
    have fa := f.all
    have hb := h.bal
    have hs0 := h.s0
    have ht := h.top
    exact ⟨f.good, f.dst, Nat.le_trans f.len h.len, h.d0, h.d1, by dsimp only; omega, h.w0, h.h0, by dsimp only; omega, by dsimp only; push_cast; omega⟩
  · rw [if_neg hc]; exact h.up
theorem day_ok {i : Nat} {σ : StS} (h : StOK i σ) (n : Int) : StOK (i + 1) (dayS σ n) := by
  unfold dayS dayE
  by_cases hc : σ.day ≤ n ∧ n ≤ 100000
  · rw [if_pos hc, if_pos rfl]
    have := h.up
    have hd := h.d0
    exact ⟨this.good, this.dst, this.len, by dsimp only; omega, hc.2, this.s0, this.w0, this.h0, this.bal, this.top⟩
  · rw [if_neg hc, if_neg (by omega)]; exact h.up
theorem heldSet {L : List RSl} (hN : ∀ r ∈ L, SlN r) (hd : Dst L) {j : Nat} (hj : j < L.length) (b : Bool) : (∀ r ∈ L.set j { gl L j with hd := b }, SlN r) ∧ Dst (L.set j { gl L j with hd := b }) ∧ uN allB (L.set j { gl L j with hd := b }) = uN allB L := by
  have hr := getN hN hj
  refine ⟨fun r q => ?_, hd.set hj rfl rfl, ?_⟩
  · rcases List.mem_or_eq_of_mem_set q with q | q
    · exact hN r q
    · rw [q]; exact ⟨hr.nu, hr.nu', hr.ar, hr.lt, hr.lt', hr.un, hr.un'⟩
  · rw [uN_set allB hj]; simp [allB]
theorem lot_ok {i : Nat} {σ : StS} (h : StOK i σ) (kd n : Int) {j : Nat} (hj : j < σ.L.length) : StOK (i + 1) (lotS σ kd n j) := by
  unfold lotS
  by_cases hc : lotE σ kd n j = 0
  · rw [if_pos hc]
    have hu := h.up
    have hb := h.bal
    have hr := getN h.good hj
    have h1 := hr.nu
    have hw := h.w0
    have hsh := h.h0
    have ht := h.top
    by_cases k4 : kd = 4
    · rw [if_pos k4]
      obtain ⟨a1, a2, a3⟩ := heldSet h.good h.dst hj true
      exact ⟨a1, a2, by dsimp only; rw [List.length_set]; exact h.len, h.d0, h.d1, h.s0, h.w0, h.h0, by dsimp only; rw [a3]; exact hb, hu.top⟩
    rw [if_neg k4]
    by_cases k5 : kd = 5
    · rw [if_pos k5]
      obtain ⟨a1, a2, a3⟩ := heldSet h.good h.dst hj false
      exact ⟨a1, a2, by dsimp only; rw [List.length_set]; exact h.len, h.d0, h.d1, h.s0, h.w0, h.h0, by dsimp only; rw [a3]; exact hb, hu.top⟩
    rw [if_neg k5]
    by_cases k6 : kd = 6
    · rw [if_pos k6]
      have f := lv_facts h.good h.dst hj (n := 0) (by omega) (by omega)
      have fa := f.all
      exact ⟨f.good, f.dst, Nat.le_trans f.len h.len, h.d0, h.d1, h.s0, by dsimp only; omega, h.h0, by dsimp only; omega, by dsimp only; push_cast; omega⟩
    rw [if_neg k6]
    have hn : 0 ≤ n ∧ n ≤ (gl σ.L j).nu := by
      unfold lotE at hc
      rw [if_neg k4, if_neg k5, if_neg k6] at hc
      by_cases q : 0 ≤ n ∧ n ≤ (gl σ.L j).nu
      · exact q
      · rw [if_neg q] at hc; cases hc
    have f := lv_facts h.good h.dst hj hn.1 hn.2
    have fa := f.all
    exact ⟨f.good, f.dst, Nat.le_trans f.len h.len, h.d0, h.d1, h.s0, h.w0, by dsimp only; omega, by dsimp only; omega, by dsimp only; push_cast; omega⟩
  · rw [if_neg hc]; exact h.up
theorem act_ok {i : Nat} {σ : StS} (h : StOK i σ) (x : RSk) : StOK (i + 1) (actS σ x) := by
  unfold actS
  split
  · exact rcv_ok h x
  split
  · exact sel_ok h _ _
  split
  · exact day_ok h _
  split
  · unfold toS
    cases hf : fdI σ.L x.ar x.lt with
    | none => exact h.up
    | some j => exact lot_ok h _ _ (fd_some hf).1
  · exact h.up
/-- The stock behind k acts; what was told of them. -/
def stR (rs : List RSk) : Nat → StS
  | 0 => st0
  | k + 1 => actS (stR rs k) (rs.getD k zSk)
def stO (rs : List RSk) : Nat → List (Int × Int)
  | 0 => []
  | k + 1 => stO rs k ++ [(actE (stR rs k) (rs.getD k zSk), actN (stR rs k) (rs.getD k zSk))]
theorem stR_ok (rs : List RSk) : ∀ k, StOK k (stR rs k)
  | 0 => st0_ok
  | k + 1 => act_ok (stR_ok rs k) _
theorem stO_len (rs : List RSk) : ∀ k, (stO rs k).length = k
  | 0 => rfl
  | k + 1 => by rw [stO, List.length_append, stO_len rs k]; rfl
end Go.Proofs.Ytlfcaijhlgldnaa

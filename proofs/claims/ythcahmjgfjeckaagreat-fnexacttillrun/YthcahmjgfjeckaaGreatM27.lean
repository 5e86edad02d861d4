/-
  Texts of this claim laid together: ThB.
-/
import Derived.Test.YthcahmjgfjeckaaGreatM26
/-
  Baskets that are marked and held: a row of baskets, each with a row of lines of its own.
-/
namespace Go.Proofs.YthcahmjgfjeckaaGreat
open Go.ChangeShapes Go.WideShapes Go.ChangeAt Go.RowKit Go.Deep
set_option linter.unusedVariables false

/-- The cells of n baskets. -/
def bkC (vs : Nat → Value) (sh : Nat → Int) : Nat → List Value
  | 0 => []
  | n + 1 => bkC vs sh n ++ [vs n, .int .i64 (sh n)]
theorem bkC_length (vs : Nat → Value) (sh : Nat → Int) : ∀ n, (bkC vs sh n).length = n * 2
  | 0 => rfl
  | n + 1 => by rw [bkC, List.length_append, bkC_length vs sh n]; simp; omega
theorem bkC_get (vs : Nat → Value) (sh : Nat → Int) : ∀ n i, i < n → (bkC vs sh n)[i * 2]? = some (vs i) ∧ (bkC vs sh n)[i * 2 + 1]? = some (.int .i64 (sh i))
  | 0, i, h => by omega
  | n + 1, i, h => by
    have hl := bkC_length vs sh n
    by_cases e : i = n
    · subst e
      refine ⟨?_, ?_⟩
      · rw [bkC, List.getElem?_append_right (by omega), hl]; simp
      · rw [bkC, List.getElem?_append_right (by omega), hl, show i * 2 + 1 - i * 2 = 1 by omega]; rfl
    · have ih := bkC_get vs sh n i (by omega)
      refine ⟨?_, ?_⟩
      · rw [bkC, List.getElem?_append_left (by omega)]; exact ih.1
      · rw [bkC, List.getElem?_append_left (by omega)]; exact ih.2
theorem bkC_ext {vs vs' : Nat → Value} {sh sh' : Nat → Int} : ∀ n, (∀ i, i < n → vs i = vs' i ∧ sh i = sh' i) → bkC vs sh n = bkC vs' sh' n
  | 0, _ => rfl
  | n + 1, h => by rw [bkC, bkC, bkC_ext n (fun i hi => h i (by omega)), (h n (by omega)).1, (h n (by omega)).2]
theorem bkC_set (vs : Nat → Value) (sh : Nat → Int) (n j : Nat) (hj : j < n) (x : Int) : (bkC vs sh n).set (j * 2 + 1) (.int .i64 x) = bkC vs (fun i => if i = j then x else sh i) n := by
  apply List.ext_getElem?
  intro q
  by_cases hq : q < n * 2
  · rw [List.getElem?_set]
    rcases (by omega : q = (q / 2) * 2 ∨ q = (q / 2) * 2 + 1) with e | e
    · rw [if_neg (by omega), e, (bkC_get vs sh n (q / 2) (by omega)).1, (bkC_get vs _ n (q / 2) (by omega)).1]
    · by_cases e2 : q / 2 = j
      · rw [if_pos (by omega), if_pos (by rw [bkC_length]; omega), e, (bkC_get vs _ n (q / 2) (by omega)).2, if_pos e2]
      · rw [if_neg (by omega), e, (bkC_get vs sh n (q / 2) (by omega)).2, (bkC_get vs _ n (q / 2) (by omega)).2, if_neg e2]
  · rw [List.getElem?_eq_none (by rw [List.length_set, bkC_length]; omega), List.getElem?_eq_none (by rw [bkC_length]; omega)]
theorem bkC_of (ks : List Kb) : ks.flatMap kbC = bkC (fun i => (ks.getD i zKb).v) (fun i => (ks.getD i zKb).sh) ks.length := by
  apply List.ext_getElem?
  intro q
  by_cases hq : q < ks.length * 2
  · have hb := bkC_get (fun i => (ks.getD i zKb).v) (fun i => (ks.getD i zKb).sh) ks.length (q / 2) (by omega)
    rcases (by omega : q = (q / 2) * 2 + 0 ∨ q = (q / 2) * 2 + 1) with e | e
    · rw [e, kbCells_at ks (q / 2) 0 (by omega) (by omega), Nat.add_zero, hb.1]; rfl
    · rw [e, kbCells_at ks (q / 2) 1 (by omega) (by omega), hb.2]; rfl
  · have h1 : (ks.flatMap kbC).length = ks.length * 2 := kbCells_len ks
    rw [List.getElem?_eq_none (by omega), List.getElem?_eq_none (by rw [bkC_length]; omega)]
/-- Baskets in memory of their own: vs their lines' rows, ns how many, sh what was shown, C the lines' cells. -/
structure BkM (B : Nat) (kv : Value) (n : Nat) (vs : Nat → Value) (ns : Nat → Nat) (sh : Nat → Int) (C : Nat → List Value) (W : World) : Prop where
  row : W.ownsRow B 29 2 kv n (bkC vs sh n)
  each : ∀ i, i < n → W.ownsRow B 85 4 (vs i) (ns i) (C i)
  far : ∀ i j, i < n → j < n → i ≠ j → Far (vs i).ownBlock (vs j).ownBlock
/-- The blocks of baskets. -/
def BkX (kv : Value) (n : Nat) (vs : Nat → Value) (q : Nat) : Prop := kv.ownBlock = some q ∨ ∃ i, i < n ∧ (vs i).ownBlock = some q
theorem BkM.same {B : Nat} {kv : Value} {n : Nat} {vs : Nat → Value} {ns : Nat → Nat} {sh : Nat → Int} {C : Nat → List Value} {W W' : World} (h : BkM B kv n vs ns sh C W) (hk : ∀ q, BkX kv n vs q → W'.heap[q]? = W.heap[q]?) : BkM B kv n vs ns sh C W' :=
  ⟨row_of h.row (fun q hq => hk q (.inl hq)), fun i hi => row_of (h.each i hi) (fun q hq => hk q (.inr ⟨i, hi, hq⟩)), h.far⟩
theorem BkM.lt {B : Nat} {kv : Value} {n : Nat} {vs : Nat → Value} {ns : Nat → Nat} {sh : Nat → Int} {C : Nat → List Value} {W : World} (h : BkM B kv n vs ns sh C W) : ∀ q, BkX kv n vs q → B ≤ q ∧ q < W.heap.size := by
  rintro q (hq | ⟨i, hi, hq⟩)
  · exact row_lt h.row q hq
  · exact row_lt (h.each i hi) q hq
theorem BkM.later {B : Nat} {kv : Value} {n : Nat} {vs : Nat → Value} {ns : Nat → Nat} {sh : Nat → Int} {C : Nat → List Value} {W W' : World} (h : BkM B kv n vs ns sh C W) (hb : Below W.heap.size W W') : BkM B kv n vs ns sh C W' := h.same (fun q hq => hb.block q (h.lt q hq).2)
theorem BkM.congr {B : Nat} {kv : Value} {n : Nat} {vs : Nat → Value} {ns : Nat → Nat} {sh sh' : Nat → Int} {C C' : Nat → List Value} {W : World} (h : BkM B kv n vs ns sh C W) (h1 : ∀ i, i < n → sh i = sh' i) (h2 : ∀ i, i < n → C i = C' i) : BkM B kv n vs ns sh' C' W :=
  ⟨by rw [← bkC_ext n (fun i hi => ⟨rfl, h1 i hi⟩)]; exact h.row, fun i hi => by rw [← h2 i hi]; exact h.each i hi, h.far⟩
theorem apartBL {B : Nat} {v v' : Value} {n n' k k' : Nat} {xs xs' : List Value} {W : World} {e e' : TypeId} (h : W.ownsRow B e k v n xs) (h' : W.ownsRow B e' k' v' n' xs') (hne : e ≠ e') : ∀ q, v.ownBlock = some q → v'.ownBlock ≠ some q := fun q h1 h2 => by
  obtain ⟨c1, e1⟩ := row_type h h1
  obtain ⟨c2, e2⟩ := row_type h' h2
  rw [e1] at e2
  simp at e2
  exact hne e2.2
/-- The mark with which basket i begins. -/
def kBs (k0 : Nat) (ns : Nat → Nat) : Nat → Nat
  | 0 => k0
  | i + 1 => kBs k0 ns i + ns i * 4 + 1
theorem kBs_le (k0 : Nat) (ns : Nat → Nat) : ∀ i j, i ≤ j → kBs k0 ns i ≤ kBs k0 ns j := fun i j h => by
  induction j with
  | zero => rw [show i = 0 by omega]; exact Nat.le_refl _
  | succ j ih =>
    by_cases e : i = j + 1
    · rw [e]; exact Nat.le_refl _
    · have := ih (by omega)
      rw [kBs]; omega
def shM (k0 : Nat) (ns : Nat → Nat) (i : Nat) : Int := ((kBs k0 ns i + ns i * 4 : Nat) : Int)
def cM (k0 : Nat) (ns : Nat → Nat) (i : Nat) : List Value := mkV (kBs k0 ns i) (ns i * 4)
theorem BkM.step {B : Nat} {kv : Value} {n : Nat} {vs : Nat → Value} {ns : Nat → Nat} {sh : Nat → Int} {C : Nat → List Value} {k0 j g cp : Nat} {W W1 : World} (hkv : kv = .slice (some ⟨g, 0, none⟩) n cp) (hj : j < n)
    (h : BkM B kv n vs ns (fun i => if i < j then shM k0 ns i else sh i) (fun i => if i < j then cM k0 ns i else C i) W) (hf : Fr (fun q => (vs j).ownBlock = some q) W W1) (hr : W1.ownsRow B 85 4 (vs j) (ns j) (cM k0 ns j)) :
    BkM B kv n vs ns (fun i => if i < j + 1 then shM k0 ns i else sh i) (fun i => if i < j + 1 then cM k0 ns i else C i) (W1.setCell ⟨g, j * 2 + 1, none⟩ (.int .i64 (shM k0 ns j))) := by
  subst hkv
  have hx : ∀ i, i < n → (vs i).ownBlock ≠ some g := fun i hi => apartBL h.row (h.each i hi) (by decide) g rfl
  have h1 : W1.ownsRow B 29 2 (.slice (some ⟨g, 0, none⟩) n cp) n (bkC vs (fun i => if i < j then shM k0 ns i else sh i) n) := row_of h.row (fun q hq => hf.block q (row_lt h.row q hq).2 (by cases hq; exact hx j hj))
  have h2 := rowPut h1 (j * 2 + 1) (by omega) (.int .i64 (shM k0 ns j))
  rw [bkC_set _ _ _ _ hj] at h2
  refine ⟨?_, fun i hi => ?_, h.far⟩
  · refine (bkC_ext n (fun i hi => ⟨rfl, ?_⟩)) ▸ h2
    by_cases e : i = j
    · subst e; rw [if_pos rfl, if_pos (by omega)]
    · rw [if_neg e]
      by_cases e2 : i < j
      · rw [if_pos e2, if_pos (by omega)]
      · rw [if_neg e2, if_neg (by omega)]
  · by_cases e : i = j
    · subst e
      rw [if_pos (by omega)]
      exact row_of hr (fun q hq => Below.heap_setCell _ _ _ _ (fun e => hx i hi (by rw [hq, e])))
    · have h3 : W1.ownsRow B 85 4 (vs i) (ns i) (if i < j + 1 then cM k0 ns i else C i) := by
        have := h.each i hi
        have e3 : (if i < j + 1 then cM k0 ns i else C i) = (if i < j then cM k0 ns i else C i) := by
          by_cases e2 : i < j
          · rw [if_pos e2, if_pos (by omega)]
          · rw [if_neg e2, if_neg (by omega)]
        rw [e3]
        exact row_of this (fun q hq => hf.block q (row_lt this q hq).2 (fun e4 => h.far i j hi hj e q hq e4))
      exact row_of h3 (fun q hq => Below.heap_setCell _ _ _ _ (fun e => hx i hi (by rw [hq, e])))
set_option maxHeartbeats 4000000 in
theorem markBks_any (B : Nat) (kv : Value) (n : Nat) (hn : n ≤ 1000) (vs : Nat → Value) (ns : Nat → Nat) (hns : ∀ i, i < n → ns i ≤ 1000) (sh : Nat → Int) (C : Nat → List Value) (k0 : Nat) (hk : kBs k0 ns n ≤ 10000000) (w : World) (h : BkM B kv n vs ns sh C w) :
    Calls Tryz.prog 37 #[kv, .int .i64 (k0 : Int)] w fun e w' => e = .returned (.int .i64 ((kBs k0 ns n : Nat) : Int)) ∧ Fr (BkX kv n vs) w w' ∧ BkM B kv n vs ns (shM k0 ns) (cM k0 ns) w' := by
  obtain ⟨a, cap, hv⟩ := row_slice h.row
  have HKl : Hid (∀ i, i ≤ n → kBs k0 ns i ≤ 10000000) := fun i hi => Nat.le_trans (kBs_le k0 ns i n hi) hk
  have HNs : Hid (∀ i, i < n → ns i ≤ 1000) := hns
  have H0 : Hid (BkM B kv n vs ns (fun i => if i < 0 then shM k0 ns i else sh i) (fun i => if i < 0 then cM k0 ns i else C i) w) := h.congr (fun i hi => by simp) (fun i hi => by simp)
  have HML : Hid (∀ j W xs, j < n → W.ownsRow B 85 4 (vs j) (ns j) xs → Calls Tryz.prog 54 #[vs j, .int .i64 ((kBs k0 ns j : Nat) : Int)] W fun e w' => e = .returned (.int .i64 ((kBs k0 ns j + ns j * 4 : Nat) : Int)) ∧ Fr (fun q => (vs j).ownBlock = some q) W w' ∧ w'.ownsRow B 85 4 (vs j) (ns j) (mkV (kBs k0 ns j) (ns j * 4))) := fun j W xs hj hr => markLn_row B (vs j) (ns j) (by have := hns j hj; omega) (kBs k0 ns j) (by have := HKl.out j (by omega); omega) xs W hr
  clear h hk hns
  subst hv
  go_enter Tryz.func37, Tryz.ntmps37
  go_wp2
  go_loopw [1, 5] (fun k i wr => ∃ j : Nat, j ≤ n ∧ i = .int .i64 (j : Int) ∧ k = .int .i64 ((kBs k0 ns j : Nat) : Int) ∧ Fr (BkX (.slice a n cap) n vs) w wr ∧ BkM B (.slice a n cap) n vs ns (fun i => if i < j then shM k0 ns i else sh i) (fun i => if i < j then cM k0 ns i else C i) wr) (fun _ i _ => n - (intOf i).toNat)
  case atStart => exact ⟨0, Nat.zero_le _, rfl, rfl, Fr.refl _ _, H0.out⟩
  case round =>
    obtain ⟨j, hj, rfl, rfl, hf, hm⟩ := hrel
    have HF : Hid (Fr (BkX (.slice a n cap) n vs) w wr) := hf
    have HM : Hid (BkM B (.slice a n cap) n vs ns (fun i => if i < j then shM k0 ns i else sh i) (fun i => if i < j then cM k0 ns i else C i) wr) := hm
    clear hf hm H0
    by_cases hlt : j < n
    · have hlt' : (j : Int) < (n : Int) := by omega
      obtain ⟨g, cp, hq⟩ := row_some HM.out.row (by omega)
      simp only [Value.slice.injEq, true_and] at hq
      obtain ⟨rfl, rfl⟩ := hq
      have q0 : wr.cell? ⟨g, j * 2, none⟩ = some (vs j) := by rw [HM.out.row.cellAt (j * 2) (by omega)]; exact (bkC_get vs _ n j hlt).1
      have HQ1 : Hid (wr.cell? ⟨g, j * 2 + 1, none⟩ = some (.int .i64 (if j < j then shM k0 ns j else sh j)) ∧ wr.frozen? ⟨g, j * 2 + 1, none⟩ = false) := ⟨by rw [HM.out.row.cellAt (j * 2 + 1) (by omega)]; exact (bkC_get vs _ n j hlt).2, HM.out.row.frozenAt _⟩
      have hgx : (vs j).ownBlock ≠ some g := apartBL HM.out.row (HM.out.each j hlt) (by decide) g rfl
      have HC := HML.out j wr _ hlt (HM.out.each j hlt)
      obtain ⟨va, vc, hvj⟩ := row_slice (HM.out.each j hlt)
      have HVj : Hid (vs j = .slice va (ns j) vc) := hvj
      have hkj := HKl.out (j + 1) (by omega)
      rw [kBs] at hkj
      rw [hvj] at q0
      rw [show #[vs j, Value.int .i64 ((kBs k0 ns j : Nat) : Int)] = #[.slice va (ns j) vc, Value.int .i64 ((kBs k0 ns j : Nat) : Int)] by rw [hvj]] at HC
      clear hvj
      have HKn : Hid (((kBs k0 ns (j + 1) : Nat) : Int) = ((kBs k0 ns j + ns j * 4 : Nat) : Int) + 1) := by show _ = _; rw [kBs]; omega
      have HSm : Hid (shM k0 ns j = ((kBs k0 ns j + ns j * 4 : Nat) : Int)) := rfl
      generalize hK1 : kBs k0 ns j + ns j * 4 = K1 at *
      clear hK1
      go_wp2_with fail
      (first | go_at_call 54 | skip)
      refine HC.mono ?_
      rintro e w1 ⟨rfl, hf1, hr1⟩
      have q1 : w1.cell? ⟨g, j * 2 + 1, none⟩ = some (.int .i64 (if j < j then shM k0 ns j else sh j)) := (World.cell?_of_block (w := wr) (a := ⟨g, j * 2 + 1, none⟩) (hf1.block g (row_lt HM.out.row g rfl).2 hgx)).trans HQ1.out.1
      have f1 : w1.frozen? ⟨g, j * 2 + 1, none⟩ = false := (World.frozen?_of_block (w := wr) (a := ⟨g, j * 2 + 1, none⟩) (hf1.block g (row_lt HM.out.row g rfl).2 hgx)).trans HQ1.out.2
      generalize (if j < j then shM k0 ns j else sh j) = os at *
      have HN : Hid (Fr (BkX (.slice (some ⟨g, 0, none⟩) n cap) n vs) w (w1.setCell ⟨g, j * 2 + 1, none⟩ (.int .i64 (K1 : Int))) ∧ BkM B (.slice (some ⟨g, 0, none⟩) n cap) n vs ns (fun i => if i < j + 1 then shM k0 ns i else sh i) (fun i => if i < j + 1 then cM k0 ns i else C i) (w1.setCell ⟨g, j * 2 + 1, none⟩ (.int .i64 (K1 : Int)))) := by
        refine ⟨(HF.out.trans (hf1.mono (fun q hq => .inr ⟨j, hlt, hq⟩))).set (b := g) (.inl rfl) _ _, ?_⟩
        rw [← HSm.out]
        exact HM.out.step rfl hlt hf1 hr1
      clear hf1 hr1 HC q0
      go_wp2
      exact ⟨⟨j + 1, by omega, by go_num, by rw [HKn.out], HN.out.1, HN.out.2⟩, by simp [intOf]; omega⟩
    · obtain rfl : j = n := by omega
      have HE : Hid (BkM B (.slice a j cap) j vs ns (shM k0 ns) (cM k0 ns) wr) := HM.out.congr (fun i hi => by rw [if_pos hi]) (fun i hi => by rw [if_pos hi])
      clear HM
      go_wp2
      go_ret
      exact ⟨rfl, HF.out, HE.out⟩
set_option maxHeartbeats 4000000 in
theorem heldBks_any (B : Nat) (kv : Value) (n : Nat) (hn : n ≤ 1000) (vs : Nat → Value) (ns : Nat → Nat) (hns : ∀ i, i < n → ns i ≤ 1000) (k0 : Nat) (hk : kBs k0 ns n ≤ 10000000) (w : World) (h : BkM B kv n vs ns (shM k0 ns) (cM k0 ns) w) :
    Calls Tryz.prog 40 #[kv, .int .i64 (k0 : Int)] w fun e w' => e = .returned (.int .i64 ((kBs k0 ns n : Nat) : Int)) ∧ Below w.heap.size w w' := by
  obtain ⟨a, cap, hv⟩ := row_slice h.row
  have HKl : Hid (∀ i, i ≤ n → kBs k0 ns i ≤ 10000000) := fun i hi => Nat.le_trans (kBs_le k0 ns i n hi) hk
  have H0 : Hid (BkM B kv n vs ns (shM k0 ns) (cM k0 ns) w) := h
  have HML : Hid (∀ j W, j < n → W.ownsRow B 85 4 (vs j) (ns j) (cM k0 ns j) → Calls Tryz.prog 55 #[vs j, .int .i64 ((kBs k0 ns j : Nat) : Int)] W fun e w' => e = .returned (.int .i64 ((kBs k0 ns j + ns j * 4 : Nat) : Int)) ∧ Below W.heap.size W w') := fun j W hj hr => heldLn_row B (vs j) (ns j) (by have := hns j hj; omega) (kBs k0 ns j) (by have := HKl.out j (by omega); omega) W hr
  have hne : ∀ x : Int, (x != x) = false := fun x => by simp
  clear h hk hns
  subst hv
  go_enter Tryz.func40, Tryz.ntmps40
  go_wp2
  go_loopw [1, 4, 5] (fun k _ i wr => ∃ j : Nat, j ≤ n ∧ i = .int .i64 (j : Int) ∧ k = .int .i64 ((kBs k0 ns j : Nat) : Int) ∧ Below w.heap.size w wr) (fun _ _ i _ => n - (intOf i).toNat)
  case atStart => exact ⟨0, Nat.zero_le _, rfl, rfl, Below.refl _ _⟩
  case round =>
    obtain ⟨j, hj, rfl, rfl, hf⟩ := hrel
    have HF : Hid (Below w.heap.size w wr) := hf
    have HM : Hid (BkM B (.slice a n cap) n vs ns (shM k0 ns) (cM k0 ns) wr) := H0.out.later hf
    clear hf
    by_cases hlt : j < n
    · have hlt' : (j : Int) < (n : Int) := by omega
      obtain ⟨g, cp, hq⟩ := row_some HM.out.row (by omega)
      simp only [Value.slice.injEq, true_and] at hq
      obtain ⟨rfl, rfl⟩ := hq
      have q0 : wr.cell? ⟨g, j * 2, none⟩ = some (vs j) := by rw [HM.out.row.cellAt (j * 2) (by omega)]; exact (bkC_get vs _ n j hlt).1
      have HQ1 : Hid (∀ W, Below wr.heap.size wr W → W.cell? ⟨g, j * 2 + 1, none⟩ = some (.int .i64 (shM k0 ns j))) := fun W hW => by rw [(HM.out.later hW).row.cellAt (j * 2 + 1) (by omega)]; exact (bkC_get vs _ n j hlt).2
      have HC := HML.out j wr hlt (HM.out.each j hlt)
      obtain ⟨va, vc, hvj⟩ := row_slice (HM.out.each j hlt)
      have hkj := HKl.out (j + 1) (by omega)
      rw [kBs] at hkj
      rw [hvj] at q0
      rw [show #[vs j, Value.int .i64 ((kBs k0 ns j : Nat) : Int)] = #[.slice va (ns j) vc, Value.int .i64 ((kBs k0 ns j : Nat) : Int)] by rw [hvj]] at HC
      clear hvj
      have HKn : Hid (((kBs k0 ns (j + 1) : Nat) : Int) = ((kBs k0 ns j + ns j * 4 : Nat) : Int) + 1) := by show _ = _; rw [kBs]; omega
      have hsm : shM k0 ns j = ((kBs k0 ns j + ns j * 4 : Nat) : Int) := rfl
      rw [hsm] at HQ1
      clear hsm
      generalize hK1 : kBs k0 ns j + ns j * 4 = K1 at *
      clear hK1
      have hxx := hne (K1 : Int)
      have hk0 : ¬ ((K1 : Int) < 0) := by omega
      go_wp2_with fail
      (first | go_at_call 55 | skip)
      refine HC.mono ?_
      rintro e w1 ⟨rfl, hb1⟩
      have q1 := HQ1.out w1 hb1
      have HB1 : Hid (Below w.heap.size w w1) := chain HF.out hb1
      clear hb1 HC q0
      go_wp2
      first
      | exact ⟨⟨j + 1, by omega, by go_num, by rw [HKn.out], HB1.out⟩, by simp [intOf]; omega⟩
      | (go_roundw
         case rel => exact ⟨j + 1, by omega, by go_num, by rw [HKn.out], HB1.out⟩
         case measure => simp [intOf]; omega)
    · obtain rfl : j = n := by omega
      go_wp2
      go_ret
      exact ⟨rfl, HF.out⟩
end Go.Proofs.YthcahmjgfjeckaaGreat

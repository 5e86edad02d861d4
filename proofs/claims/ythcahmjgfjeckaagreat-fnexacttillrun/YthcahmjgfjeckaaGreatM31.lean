/-
  Texts of this claim laid together: ThC.
-/
import Derived.Test.YthcahmjgfjeckaaGreatM27
import Derived.Test.YthcahmjgfjeckaaGreatM29
import Derived.Test.YthcahmjgfjeckaaGreatM30
/-
  The laws' own helpers on tills: eqTill, markTill, heldTill.
-/
namespace Go.Proofs.YthcahmjgfjeckaaGreat
open Go.ChangeShapes Go.WideShapes Go.ChangeAt Go.RowKit Go.Deep
set_option linter.unusedVariables false

/-- All rows of an answer, whatever they hold. -/
structure RwT (B : Nat) (tv : Value) (no : Nat) (Co : List Value) (lv : Value) (nl : Nat) (Cl : List Value) (kv : Value) (n : Nat) (vs : Nat → Value) (ns : Nat → Nat) (sh : Nat → Int) (Cb : Nat → List Value) (cv : Value) (nc : Nat) (Cc : List Value) (W : World) : Prop where
  told : W.ownsRow B 63 2 tv no Co
  lrow : W.ownsRow B 85 4 lv nl Cl
  bk : BkM B kv n vs ns sh Cb W
  crow : W.ownsRow B 3 1 cv nc Cc
  far : ∀ i, i < n → Far lv.ownBlock (vs i).ownBlock
def RwX (tv lv kv : Value) (n : Nat) (vs : Nat → Value) (cv : Value) (q : Nat) : Prop := tv.ownBlock = some q ∨ lv.ownBlock = some q ∨ BkX kv n vs q ∨ cv.ownBlock = some q
theorem RwT.lt {B : Nat} {tv : Value} {no : Nat} {Co : List Value} {lv : Value} {nl : Nat} {Cl : List Value} {kv : Value} {n : Nat} {vs : Nat → Value} {ns : Nat → Nat} {sh : Nat → Int} {Cb : Nat → List Value} {cv : Value} {nc : Nat} {Cc : List Value} {W : World} (h : RwT B tv no Co lv nl Cl kv n vs ns sh Cb cv nc Cc W) : ∀ q, RwX tv lv kv n vs cv q → B ≤ q ∧ q < W.heap.size := by
  rintro q (hq | hq | hq | hq)
  · exact row_lt h.told q hq
  · exact row_lt h.lrow q hq
  · exact h.bk.lt q hq
  · exact row_lt h.crow q hq
theorem RwT.same {B : Nat} {tv : Value} {no : Nat} {Co : List Value} {lv : Value} {nl : Nat} {Cl : List Value} {kv : Value} {n : Nat} {vs : Nat → Value} {ns : Nat → Nat} {sh : Nat → Int} {Cb : Nat → List Value} {cv : Value} {nc : Nat} {Cc : List Value} {W W' : World} (h : RwT B tv no Co lv nl Cl kv n vs ns sh Cb cv nc Cc W) (hk : ∀ q, RwX tv lv kv n vs cv q → W'.heap[q]? = W.heap[q]?) : RwT B tv no Co lv nl Cl kv n vs ns sh Cb cv nc Cc W' :=
  ⟨row_of h.told (fun q hq => hk q (.inl hq)), row_of h.lrow (fun q hq => hk q (.inr (.inl hq))), h.bk.same (fun q hq => hk q (.inr (.inr (.inl hq)))), row_of h.crow (fun q hq => hk q (.inr (.inr (.inr hq)))), h.far⟩
theorem RwT.later {B : Nat} {tv : Value} {no : Nat} {Co : List Value} {lv : Value} {nl : Nat} {Cl : List Value} {kv : Value} {n : Nat} {vs : Nat → Value} {ns : Nat → Nat} {sh : Nat → Int} {Cb : Nat → List Value} {cv : Value} {nc : Nat} {Cc : List Value} {W W' : World} (h : RwT B tv no Co lv nl Cl kv n vs ns sh Cb cv nc Cc W) (hb : Below W.heap.size W W') : RwT B tv no Co lv nl Cl kv n vs ns sh Cb cv nc Cc W' := h.same (fun q hq => hb.block q (h.lt q hq).2)
def ksV (ks : List Kb) (i : Nat) : Value := (ks.getD i zKb).v
def ksN (ks : List Kb) (i : Nat) : Nat := (ks.getD i zKb).ls.length
def ksS (ks : List Kb) (i : Nat) : Int := (ks.getD i zKb).sh
def ksC (ks : List Kb) (i : Nat) : List Value := lnCells (ks.getD i zKb).ls
theorem AnsT.rows' {B : Nat} {os : List (Int × Int)} {t : Tl} {tv lv kv cv : Value} {ks : List Kb} {W : World} (h : AnsT B os t tv lv kv cv ks W) : RwT B tv os.length (obCells os) lv t.ls.length (lnCells t.ls) kv ks.length (ksV ks) (ksN ks) (ksS ks) (ksC ks) cv t.cs.length (t.cs.map (Value.int .i64)) W := by
  obtain ⟨h1, h2⟩ := List.pairwise_cons.1 h.dist
  have hm : ∀ i, i < ks.length → (ks.getD i zKb) ∈ ks := fun i hi => by
    rw [show ks.getD i zKb = ks[i] by simp [List.getD_eq_getElem?_getD, hi]]
    exact List.getElem_mem hi
  refine ⟨h.told, h.lrow, ⟨by have := h.krow; rw [bkC_of] at this; exact this, fun i hi => getKb (fun k hk => h.rows k hk) hi, fun i j hi hj hne => ?_⟩, h.crow, fun i hi => h1 _ (List.mem_map.2 ⟨_, hm i hi, rfl⟩)⟩
  have hp := List.pairwise_iff_getElem.1 h2
  unfold ksV
  rw [show ks.getD i zKb = ks[i] by simp [List.getD_eq_getElem?_getD, hi], show ks.getD j zKb = ks[j] by simp [List.getD_eq_getElem?_getD, hj]]
  rcases Nat.lt_or_gt_of_ne hne with e | e
  · have := hp i j (by simpa using hi) (by simpa using hj) e
    simpa using this
  · have := hp j i (by simpa using hj) (by simpa using hi) e
    simp only [List.getElem_map] at this
    exact fun q h1 h2 => this q h2 h1
/-- An answer that was given at W0 is there as long as its blocks are. -/
theorem AnsT.same {B : Nat} {os : List (Int × Int)} {t : Tl} {tv lv kv cv : Value} {ks : List Kb} {W W' : World} (h : AnsT B os t tv lv kv cv ks W) (hk : ∀ q, B ≤ q → q < W.heap.size → W'.heap[q]? = W.heap[q]?) : AnsT B os t tv lv kv cv ks W' :=
  ⟨row_of h.told (fun q hq => hk q (row_lt h.told q hq).1 (row_lt h.told q hq).2), h.kept, row_of h.lrow (fun q hq => hk q (row_lt h.lrow q hq).1 (row_lt h.lrow q hq).2), row_of h.krow (fun q hq => hk q (row_lt h.krow q hq).1 (row_lt h.krow q hq).2), fun k hk' => row_of (h.rows k hk') (fun q hq => hk q (row_lt (h.rows k hk') q hq).1 (row_lt (h.rows k hk') q hq).2), row_of h.crow (fun q hq => hk q (row_lt h.crow q hq).1 (row_lt h.crow q hq).2), h.dist⟩
theorem AnsT.later {B : Nat} {os : List (Int × Int)} {t : Tl} {tv lv kv cv : Value} {ks : List Kb} {W W' : World} (h : AnsT B os t tv lv kv cv ks W) (hb : Below W.heap.size W W') : AnsT B os t tv lv kv cv ks W' := h.same (fun q _ hq => hb.block q hq)
def obR (os : List (Int × Int)) : List ROb := os.map fun o => ⟨o.1, o.2⟩
theorem obCells_at : ∀ (os : List (Int × Int)) (i : Nat), i < os.length → (obCells os)[i * 2]? = some (.int .i64 ((obR os).getD i zOb).cd) ∧ (obCells os)[i * 2 + 1]? = some (.int .i64 ((obR os).getD i zOb).nm)
  | o :: os, 0, h => ⟨rfl, rfl⟩
  | o :: os, i + 1, h => by
    have := obCells_at os i (by simpa using h)
    rw [show (i + 1) * 2 = i * 2 + 1 + 1 by omega]
    exact this
theorem told_reads {B : Nat} {W : World} {a : Option Addr} {cp : Nat} {os : List (Int × Int)} (h : W.ownsRow B 63 2 (.slice a os.length cp) os.length (obCells os)) : ReadsOb W.heap.size W a (obR os) := by
  by_cases h0 : os.length = 0
  · have : os = [] := List.eq_nil_of_length_eq_zero h0
    subst this
    exact .inl rfl
  · obtain ⟨g, c, hq⟩ := row_some h (by omega)
    simp only [Value.slice.injEq, true_and] at hq
    obtain ⟨rfl, rfl⟩ := hq
    refine .inr ⟨g, 0, rfl, (row_lt h g rfl).2, fun i hi => ?_⟩
    have hi' : i < os.length := by simpa [obR] using hi
    obtain ⟨q0, q1⟩ := obCells_at os i hi'
    refine ⟨?_, ?_⟩
    · rw [h.cellAt (0 + i * 2) (by omega), show 0 + i * 2 = i * 2 by omega, q0]
    · rw [h.cellAt (0 + i * 2 + 1) (by omega), show 0 + i * 2 + 1 = i * 2 + 1 by omega, q1]
theorem ints_reads {B : Nat} {W : World} {a : Option Addr} {cp : Nat} {cs : List Int} (h : W.ownsRow B 3 1 (.slice a cs.length cp) cs.length (cs.map (Value.int .i64))) : Reads W.heap.size W a cs := by
  by_cases h0 : cs.length = 0
  · exact .inl (List.eq_nil_of_length_eq_zero h0)
  · obtain ⟨g, c, hq⟩ := row_some h (by omega)
    simp only [Value.slice.injEq, true_and] at hq
    obtain ⟨rfl, rfl⟩ := hq
    refine .inr ⟨g, 0, rfl, (row_lt h g rfl).2, fun i hi => ?_⟩
    rw [h.cellAt (0 + i) (by omega), Nat.zero_add]
    simp [List.getD_eq_getElem?_getD, hi]
set_option maxHeartbeats 2000000 in
theorem eqBk_any (a b : Option Addr) (ca cb : Nat) (ls : List RLi) (hl : ls.length ≤ 1000) (sh : Int) (w : World) (ra : ReadsLi w.heap.size w a ls) (rb : ReadsLi w.heap.size w b ls) :
    Calls Tryz.prog 30 #[.agg #[.slice a ls.length ca, .int .i64 sh], .agg #[.slice b ls.length cb, .int .i64 sh]] w fun e w' => e = .returned (.bool true) ∧ Below w.heap.size w w' := by
  have hsz : ∀ o o', ((w.alloc o).alloc o').heap.size = w.heap.size + 2 := fun o o' => by simp
  have hb2 : ∀ o o', Below w.heap.size w ((w.alloc o).alloc o') := fun o o' => chain (below_alloc _ _) (below_alloc _ _)
  have HE : Hid (∀ o o', Calls Tryz.prog 53 #[.slice a ls.length ca, .slice b ls.length cb] ((w.alloc o).alloc o') fun e w' => e = .returned (.bool true) ∧ Below ((w.alloc o).alloc o').heap.size ((w.alloc o).alloc o') w') := fun o o' => eqLis_any a b ca cb ls (by omega) _ ((ra.below (hb2 o o')).mono (hb2 o o').size) ((rb.below (hb2 o o')).mono (hb2 o o').size)
  have hxx : (sh != sh) = false := by simp
  clear ra rb hsz hb2
  go_enter Tryz.func30, Tryz.ntmps30
  go_wp2_with fail
  (first | go_at_call 53 | skip)
  refine (HE.out _ _).mono ?_
  rintro e w1 ⟨rfl, hb1⟩
  have c0 := hb1.cell (p := ⟨w.heap.size, 1, none⟩) (by first | (simp; done) | (simp; omega))
  have c1 := hb1.cell (p := ⟨w.heap.size + 1, 1, none⟩) (by first | (simp; done) | (simp; omega))
  simp [go_sem] at c0 c1
  have HB1 : Hid (Below w.heap.size w w1) := chain (chain (below_alloc _ _) (below_alloc _ _)) hb1
  clear hb1
  go_wp2
  go_ret
  exact ⟨rfl, HB1.out⟩
/-- Baskets that can be read. -/
def RdBk (W : World) (a : Option Addr) (kk : List (List RLi × Int)) : Prop := kk = [] ∨ ∃ g, a = some ⟨g, 0, none⟩ ∧ g < W.heap.size ∧ ∀ i, i < kk.length → ∃ la lc, W.cell? ⟨g, i * 2, none⟩ = some (.slice la (kk.getD i ([], 0)).1.length lc) ∧ W.cell? ⟨g, i * 2 + 1, none⟩ = some (.int .i64 (kk.getD i ([], 0)).2) ∧ ReadsLi W.heap.size W la (kk.getD i ([], 0)).1
theorem RdBk.later {W W' : World} {a : Option Addr} {kk : List (List RLi × Int)} (h : RdBk W a kk) (hb : Below W.heap.size W W') : RdBk W' a kk := by
  rcases h with h | ⟨g, ha, hg, h⟩
  · exact .inl h
  · refine .inr ⟨g, ha, Nat.lt_of_lt_of_le hg hb.size, fun i hi => ?_⟩
    obtain ⟨la, lc, h1, h2, h3⟩ := h i hi
    exact ⟨la, lc, (hb.cell (p := ⟨g, i * 2, none⟩) hg).trans h1, (hb.cell (p := ⟨g, i * 2 + 1, none⟩) hg).trans h2, (h3.below hb).mono hb.size⟩
theorem AnsT.rdBk {B : Nat} {os : List (Int × Int)} {t : Tl} {tv lv cv : Value} {a : Option Addr} {cp : Nat} {ks : List Kb} {W : World} (h : AnsT B os t tv lv (.slice a t.kept.length cp) cv ks W) : RdBk W a t.kept := by
  have hl : ks.length = t.kept.length := by rw [← h.kept, List.length_map]
  by_cases h0 : ks.length = 0
  · exact .inl (List.eq_nil_of_length_eq_zero (by omega))
  · have hkr := h.krow
    rw [hl] at hkr
    obtain ⟨g, c, hq⟩ := row_some hkr (by omega)
    simp only [Value.slice.injEq, true_and] at hq
    obtain ⟨rfl, rfl⟩ := hq
    refine .inr ⟨g, rfl, (row_lt hkr g rfl).2, fun i hi => ?_⟩
    have hi' : i < ks.length := by omega
    have e : t.kept.getD i ([], 0) = ((ks.getD i zKb).ls, (ks.getD i zKb).sh) := by
      rw [← h.kept]
      simp [List.getD_eq_getElem?_getD, hi']
    rw [e]
    have hrow := getKb (fun k hk => h.rows k hk) hi'
    obtain ⟨la, lc, hv⟩ := row_slice hrow
    refine ⟨la, lc, ?_, ?_, ?_⟩
    · rw [hkr.cellAt (i * 2) (by omega)]
      have := kbCells_at ks i 0 hi' (by omega)
      rw [Nat.add_zero] at this
      rw [this]
      show some (ks.getD i zKb).v = _
      rw [hv]
    · rw [hkr.cellAt (i * 2 + 1) (by omega), kbCells_at ks i 1 hi' (by omega)]; rfl
    · rw [hv] at hrow
      exact (rowLn_reads hrow).2
set_option maxHeartbeats 4000000 in
theorem eqBks_any (a b : Option Addr) (ca cb : Nat) (kk : List (List RLi × Int)) (hn : kk.length ≤ 1000) (hl : ∀ k ∈ kk, k.1.length ≤ 1000) (w : World) (ra : RdBk w a kk) (rb : RdBk w b kk) :
    Calls Tryz.prog 31 #[.slice a kk.length ca, .slice b kk.length cb] w fun e w' => e = .returned (.bool true) ∧ Below w.heap.size w w' := by
  have HA : Hid (RdBk w a kk) := ra
  have HB : Hid (RdBk w b kk) := rb
  have HL : Hid (∀ i, i < kk.length → (kk.getD i ([], 0)).1.length ≤ 1000) := fun i hi => by
    rw [show kk.getD i ([], 0) = kk[i] by simp [List.getD_eq_getElem?_getD, hi]]
    exact hl _ (List.getElem_mem hi)
  clear ra rb hl
  have hne : ((kk.length : Int) != (kk.length : Int)) = false := by simp
  go_enter Tryz.func31, Tryz.ntmps31
  go_wp2
  go_loopw [4, 5] (fun _ c wr => ∃ k : Nat, k ≤ kk.length ∧ c = .int .i64 (k : Int) ∧ Below w.heap.size w wr) (fun _ c _ => kk.length - (intOf c).toNat)
  case atStart => exact ⟨0, Nat.zero_le _, rfl, Below.refl _ _⟩
  case round =>
    obtain ⟨k, hk, rfl, hb⟩ := hrel
    have HK : Hid (Below w.heap.size w wr) := hb
    clear hb
    by_cases hlt : k < kk.length
    · have hlt' : (k : Int) < (kk.length : Int) := by omega
      rcases HA.out.later HK.out with h | ⟨g, ha, hg, hA⟩
      · rw [h] at hlt; simp at hlt
      rcases HB.out.later HK.out with h | ⟨g', hb, hg', hB⟩
      · rw [h] at hlt; simp at hlt
      obtain ⟨la, lc, p0, p1, p2⟩ := hA k hlt
      obtain ⟨la', lc', q0, q1, q2⟩ := hB k hlt
      have HLk := HL.out k hlt
      subst ha hb
      clear hA hB
      generalize kk.getD k ([], 0) = z at *
      obtain ⟨ls, sh⟩ := z
      dsimp only at p0 p1 p2 q0 q1 q2 HLk
      have HE : Hid (∀ W, Below wr.heap.size wr W → Calls Tryz.prog 30 #[.agg #[.slice la ls.length lc, .int .i64 sh], .agg #[.slice la' ls.length lc', .int .i64 sh]] W fun e w' => e = .returned (.bool true) ∧ Below W.heap.size W w') := fun W hW => eqBk_any la la' lc lc' ls HLk sh W ((p2.below hW).mono hW.size) ((q2.below hW).mono hW.size)
      have HC : Hid (∀ W, Below wr.heap.size wr W → W.cell? ⟨g, k * 2, none⟩ = some (.slice la ls.length lc) ∧ W.cell? ⟨g, k * 2 + 1, none⟩ = some (.int .i64 sh) ∧ W.cell? ⟨g', k * 2, none⟩ = some (.slice la' ls.length lc') ∧ W.cell? ⟨g', k * 2 + 1, none⟩ = some (.int .i64 sh)) := fun W hW => ⟨(hW.cell (p := ⟨g, k * 2, none⟩) hg).trans p0, (hW.cell (p := ⟨g, k * 2 + 1, none⟩) hg).trans p1, (hW.cell (p := ⟨g', k * 2, none⟩) hg').trans q0, (hW.cell (p := ⟨g', k * 2 + 1, none⟩) hg').trans q1⟩
      clear p0 p1 p2 q0 q1 q2
      go_wp2
      refine wp_region_held_drew (S := fun W => Below wr.heap.size wr W) (by kernel_rfl) (below_drew _) (fun hH => ?_)
      refine wpAnyH_take (i := 0) (v := .slice (some ⟨g, 0, none⟩) kk.length ca) rfl (by kernel_rfl) (by kernel_rfl) (by kernel_rfl) (fun _ _ _ h => h) (Or.inl ⟨by rfl, fun w hSw => by go_simp⟩) hH ?_
      refine wpAnyH_take (i := 1) (v := .int .i64 (k : Int)) rfl (by kernel_rfl) (by kernel_rfl) (by kernel_rfl) (fun _ _ _ h => h) (Or.inl ⟨by rfl, fun w hSw => by go_simp⟩) hH ?_
      try simp only [Act.put, List.setIfInBounds_toArray, List.set_cons_zero, List.set_cons_succ, List.getElem_toArray, List.getElem_cons_succ, List.getElem_cons_zero]
      refine wpAnyH_take (i := 2) (v := .pointer (some ⟨g, k * 2, none⟩)) rfl (by kernel_rfl) (by kernel_rfl) (by kernel_rfl) (fun _ _ _ h => h) (Or.inl ⟨by rfl, fun w hSw => by go_simp⟩) hH ?_
      try simp only [Act.put, List.setIfInBounds_toArray, List.set_cons_zero, List.set_cons_succ, List.getElem_toArray, List.getElem_cons_succ, List.getElem_cons_zero]
      refine wpAnyH_take (i := 3) (v := .agg #[.slice la ls.length lc, .int .i64 sh]) rfl (by kernel_rfl) (by kernel_rfl) (by kernel_rfl) (fun _ _ _ h => h) (Or.inl ⟨by rfl, fun w hSw => by obtain ⟨f0, f1, f2, f3⟩ := HC.out w hSw; go_simp⟩) hH ?_
      try simp only [Act.put, List.setIfInBounds_toArray, List.set_cons_zero, List.set_cons_succ, List.getElem_toArray, List.getElem_cons_succ, List.getElem_cons_zero]
      refine wpAnyH_take (i := 4) (v := .slice (some ⟨g', 0, none⟩) kk.length cb) rfl (by kernel_rfl) (by kernel_rfl) (by kernel_rfl) (fun _ _ _ h => h) (Or.inl ⟨by rfl, fun w hSw => by go_simp⟩) hH ?_
      try simp only [Act.put, List.setIfInBounds_toArray, List.set_cons_zero, List.set_cons_succ, List.getElem_toArray, List.getElem_cons_succ, List.getElem_cons_zero]
      refine wpAnyH_take (i := 5) (v := .int .i64 (k : Int)) rfl (by kernel_rfl) (by kernel_rfl) (by kernel_rfl) (fun _ _ _ h => h) (Or.inl ⟨by rfl, fun w hSw => by go_simp⟩) hH ?_
      try simp only [Act.put, List.setIfInBounds_toArray, List.set_cons_zero, List.set_cons_succ, List.getElem_toArray, List.getElem_cons_succ, List.getElem_cons_zero]
      refine wpAnyH_take (i := 6) (v := .pointer (some ⟨g', k * 2, none⟩)) rfl (by kernel_rfl) (by kernel_rfl) (by kernel_rfl) (fun _ _ _ h => h) (Or.inl ⟨by rfl, fun w hSw => by go_simp⟩) hH ?_
      try simp only [Act.put, List.setIfInBounds_toArray, List.set_cons_zero, List.set_cons_succ, List.getElem_toArray, List.getElem_cons_succ, List.getElem_cons_zero]
      refine wpAnyH_take (i := 7) (v := .agg #[.slice la' ls.length lc', .int .i64 sh]) rfl (by kernel_rfl) (by kernel_rfl) (by kernel_rfl) (fun _ _ _ h => h) (Or.inl ⟨by rfl, fun w hSw => by obtain ⟨f0, f1, f2, f3⟩ := HC.out w hSw; go_simp⟩) hH ?_
      try simp only [Act.put, List.setIfInBounds_toArray, List.set_cons_zero, List.set_cons_succ, List.getElem_toArray, List.getElem_cons_succ, List.getElem_cons_zero]
      refine wpAnyH_ready (rs := [8]) (by kernel_rfl) (by simp) ?_
      refine AllReadyH.cons rfl (fun K hK => ?_) AllReadyH.nil
      go_simp
      go_at_call 30
      refine (HE.out _ hH).mono ?_
      rintro e w3 ⟨rfl, hb3⟩
      have hS3 : Below wr.heap.size wr w3 := chain hH hb3
      refine hK.out _ _ hS3 (fun _ => ?_)
      clear hK K
      try simp only [Act.put, List.setIfInBounds_toArray, List.set_cons_zero, List.set_cons_succ, List.getElem_toArray, List.getElem_cons_succ, List.getElem_cons_zero]
      refine wpAnyH_take (i := 9) (v := .bool false) rfl (by kernel_rfl) (by kernel_rfl) (by kernel_rfl) (fun _ _ _ h => h) (Or.inl ⟨by rfl, fun w hSw => by go_simp⟩) hS3 ?_
      try simp only [Act.put, List.setIfInBounds_toArray, List.set_cons_zero, List.set_cons_succ, List.getElem_toArray, List.getElem_cons_succ, List.getElem_cons_zero]
      refine wpAnyH_done (by kernel_rfl) ?_ _
      try simp
      have H3 : Hid (Below w.heap.size w w3) := chain HK.out hS3
      clear hb3 hS3 hH
      go_wp2
      first
      | exact ⟨⟨k + 1, by omega, by go_num, H3.out⟩, by simp [intOf]; omega⟩
      | (go_roundw
         case rel => exact ⟨k + 1, by omega, by go_num, H3.out⟩
         case measure => simp [intOf]; omega)
    · have hle : (kk.length : Int) ≤ (k : Int) := by omega
      go_wp2
      go_ret
      exact ⟨rfl, HK.out⟩
end Go.Proofs.YthcahmjgfjeckaaGreat

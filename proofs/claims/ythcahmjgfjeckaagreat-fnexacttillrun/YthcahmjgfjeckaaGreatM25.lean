/-
  Texts of this claim laid together: TlQ, MkR.
-/
import Derived.Test.YthcahmjgfjeckaaGreatM24
/-
  The program's do is the step of the till.
-/
namespace Go.Proofs.YthcahmjgfjeckaaGreat
open Go.ChangeShapes Go.WideShapes Go.ChangeAt Go.RowKit Go.Deep
set_option linter.unusedVariables false

theorem nine {cs : List Int} (h : cs.length = 9) : ∃ c0 c1 c2 c3 c4 c5 c6 c7 c8, cs = [c0, c1, c2, c3, c4, c5, c6, c7, c8] := by
  match cs, h with
  | [c0, c1, c2, c3, c4, c5, c6, c7, c8], _ => exact ⟨c0, c1, c2, c3, c4, c5, c6, c7, c8, rfl⟩
/-- The till t in memory, its register in block rb. -/
def RgT (B rb : Nat) (iv : Value) (t : Tl) (W : World) : Prop := ∃ lv kv ks, ks.map (fun k : Kb => (k.ls, k.sh)) = t.kept ∧ Rg B rb iv lv t.ls t.sh kv ks t.sl t.tk t.dp t.cs W
theorem RgT.later {B rb : Nat} {iv : Value} {t : Tl} {W W' : World} (h : RgT B rb iv t W) (hb : Below W.heap.size W W') : RgT B rb iv t W' := by
  obtain ⟨lv, kv, ks, h1, h2⟩ := h
  exact ⟨lv, kv, ks, h1, h2.later hb⟩
theorem RgT.aside {B rb : Nat} {iv : Value} {t : Tl} : Aside2 (RgT B rb iv t) := fun W W' bo V h hb hf => by
  obtain ⟨lv, kv, ks, h1, h2⟩ := h
  exact ⟨lv, kv, ks, h1, h2.aside hb hf⟩
theorem row_some {w : World} {B : Nat} {e : TypeId} {k : Nat} {v : Value} {n : Nat} {xs : List Value} (h : w.ownsRow B e k v n xs) (hn : 0 < n) : ∃ g cp, v = .slice (some ⟨g, 0, none⟩) n cp := by
  rcases h.2 with ⟨rfl, rfl⟩ | ⟨g, cap, cur, rfl, _⟩
  · omega
  · exact ⟨g, cap, rfl⟩
theorem kb_at {ks : List Kb} {t : Tl} (h : ks.map (fun k : Kb => (k.ls, k.sh)) = t.kept) (i : Nat) (hi : i < ks.length) : ((ks.getD i zKb).ls, (ks.getD i zKb).sh) = t.kAt i := by
  unfold Tl.kAt
  rw [← h]
  simp [List.getD_eq_getElem?_getD, hi]
/-- A block of a register, of lines or of baskets, from B on. -/
def TX (B : Nat) (w : World) : Nat → Prop := fun k => B ≤ k ∧ ∃ cur T, w.heap[k]? = some (.cells cur T (0, 0)) ∧ (T = 69 ∨ T = 85 ∨ T = 29)
theorem RgX_TX {B rb : Nat} {iv lv : Value} {ls : List RLi} {sh : Int} {kv : Value} {ks : List Kb} {sl tk dp : Int} {cs : List Int} {W : World} (h : Rg B rb iv lv ls sh kv ks sl tk dp cs W) : ∀ k, RgX rb lv kv k → TX B W k := by
  rintro k (e | e | e)
  · rw [e]; exact ⟨h.low, _, _, h.reg, .inl rfl⟩
  · obtain ⟨cur, hc⟩ := row_type h.lrow e; exact ⟨(row_lt h.lrow k e).1, cur, _, hc, .inr (.inl rfl)⟩
  · obtain ⟨cur, hc⟩ := row_type h.krow e; exact ⟨(row_lt h.krow k e).1, cur, _, hc, .inr (.inr rfl)⟩
set_option maxHeartbeats 4000000 in
theorem implDo_any (R : ByteArray → Int × ByteArray × Int × Int) (hR : RsI R) (hv : ∀ s, 0 ≤ (R s).2.2.1 ∧ (R s).2.2.1 ≤ 99999) (ia : Option Addr) (ic : Nat) (its : List RIt) (hok : ∀ r ∈ its, ItN r) (hil : its.length ≤ 40) (B rb m : Nat) (hm : m ≤ 200) (t : Tl) (ht : TlOK its m t) (a : RTa) (w : World) (hg : RgT B rb (.slice ia its.length ic) t w) (hI : ReadsIt B w ia its) (hB : B ≤ w.heap.size) :
    Calls Tryz.prog 27 #[.pointer (some ⟨rb, 0, none⟩), .agg #[.int .i64 a.kd, .string a.tx, .int .i64 a.nm]] w fun e w' => e = .returned (.agg #[.int .i64 (stepO R its a t).1, .int .i64 (stepO R its a t).2]) ∧ Fr (TX B w) w w' ∧ RgT B rb (.slice ia its.length ic) (stepT R its a t) w' := by
  obtain ⟨lv, kv, ks, hks, hg⟩ := hg
  obtain ⟨kd, tx, n⟩ := a
  dsimp only
  have hcs := ht.cs.1
  have hkl : ks.length = t.kept.length := by rw [← hks, List.length_map]
  obtain ⟨la, lc, rfl⟩ := row_slice hg.lrow
  obtain ⟨ka, kc, rfl⟩ := row_slice hg.krow
  have hN := ht.now.nn
  have hl50 := ht.now.len
  by_cases hE : deedE R its kd tx n = 0
  · have key : ∀ (ac num : Int) (t' : Tl), actE R its ⟨kd, tx, n⟩ t = ac → actN R its ⟨kd, tx, n⟩ t = num → actT R its ⟨kd, tx, n⟩ t = t' → ∀ (e : Ending) (w' : World), ((ac ≠ 0 ∧ e = .returned (.agg #[.int .i64 ac, .int .i64 0]) ∧ Below w.heap.size w w') ∨ (ac = 0 ∧ e = .returned (.agg #[.int .i64 0, .int .i64 num]) ∧ Fr (RgX rb (.slice la t.ls.length lc) (.slice ka ks.length kc)) w w' ∧ RgT B rb (.slice ia its.length ic) t' w')) → e = .returned (.agg #[.int .i64 (stepO R its ⟨kd, tx, n⟩ t).1, .int .i64 (stepO R its ⟨kd, tx, n⟩ t).2]) ∧ Fr (TX B w) w w' ∧ RgT B rb (.slice ia its.length ic) (stepT R its ⟨kd, tx, n⟩ t) w' := fun ac num t' h1 h2 h3 e w' h => by
      unfold stepO stepT
      rw [h1, h2, h3]
      rcases h with ⟨hne, he, hb⟩ | ⟨h0, he, hf, hq⟩
      · rw [if_neg hne, if_neg hne]
        exact ⟨he, Fr.of hb, RgT.later ⟨_, _, ks, hks, hg⟩ hb⟩
      · rw [if_pos h0, if_pos h0]
        exact ⟨he, hf.mono (RgX_TX hg), hq⟩
    have hae : ∀ c, (if kd = 1 then scanC t.ls t.sh (scanL R its tx n).am (scanL R its tx n).dp (scanG R its tx n) else if kd = 2 then voidC t.ls n else if kd = 3 then showC n else if kd = 4 then suspC t.ls t.kept.length else if kd = 5 then resC t.ls t.kept.length n else payC t.ls n) = c → actE R its ⟨kd, tx, n⟩ t = c := fun c h => by unfold actE; rw [if_neg (by simp [hE])]; exact h
    obtain ⟨c0, c1, c2, c3, c4, c5, c6, c7, c8, hc9⟩ := nine hcs
    have hrl : (regL (.slice la t.ls.length lc) t.sh (.slice ia its.length ic) (.slice ka ks.length kc) t.sl t.tk t.dp t.cs).toArray = #[.slice la t.ls.length lc, .int .i64 t.sh, .slice ia its.length ic, .slice ka ks.length kc, .int .i64 t.sl, .int .i64 t.tk, .int .i64 t.dp, .int .i64 c0, .int .i64 c1, .int .i64 c2, .int .i64 c3, .int .i64 c4, .int .i64 c5, .int .i64 c6, .int .i64 c7, .int .i64 c8] := by rw [hc9]; rfl
    have hrd : ∀ W, Below w.heap.size w W → ReadsLi W.heap.size W la t.ls := fun W hW => (rowLn_reads (hg.later hW).lrow).2
    rcases deedE_kind hE with ⟨rfl, hs⟩ | rfl | rfl | rfl | rfl | rfl
    · have hl := scanL_OK hv hok tx n hs
      refine (do_scanning R hR ia ic its hok hil B rb _ t.ls t.sh _ ks t.sl t.tk t.dp t.cs hcs tx n w hg hI hB (scanL R its tx n).it (scanL R its tx n).ct (scanL R its tx n).am (scanL R its tx n).dp (scanG R its tx n) ⟨rfl, hE⟩ (scanC t.ls t.sh (scanL R its tx n).am (scanL R its tx n).dp (scanG R its tx n)) ((scanL R its tx n).am + (scanL R its tx n).dp) (RgT B rb (.slice ia its.length ic) { t with ls := t.ls ++ [scanL R its tx n] }) RgT.aside (fun W hW => ?_) (fun h0 W hW => ?_)).mono (fun e w' h => key _ _ _ (hae _ rfl) rfl rfl e w' h)
      · rw [hrl]
        exact scanAgainst_any _ _ _ _ _ ⟨hl.1.1, hl.1.2.2.1, hl.1.2.1, hl.1.2.2.2⟩ la lc t.ls t.sh _ _ _ _ _ _ _ _ _ _ _ _ _ _ hN (by omega) W (hrd W hW)
      · refine (carryScan B rb _ la lc t.ls hl50 t.sh _ ks t.sl t.tk t.dp t.cs _ _ _ _ _ hl.1 W (hg.later hW) (Nat.le_trans hB hW.size)).mono ?_
        rintro e w' ⟨h1, h2, lv', h3⟩
        exact ⟨h1, h2, lv', _, ks, hks, h3⟩
    · refine (do_voiding R hR ia ic its hok hil B rb _ t.ls t.sh _ ks t.sl t.tk t.dp t.cs hcs tx n w hg hI hB (voidC t.ls n) ((t.ls.getD n.toNat zLi).am + (t.ls.getD n.toNat zLi).dp) (RgT B rb (.slice ia its.length ic) { t with ls := t.ls.take n.toNat ++ t.ls.drop (n.toNat + 1) }) RgT.aside (fun W hW => ?_) (fun h0 W hW => ?_)).mono (fun e w' h => key _ _ _ (hae _ rfl) rfl rfl e w' h)
      · rw [hrl]
        exact voidAgainst_any n la lc t.ls t.sh _ _ _ _ _ _ _ _ _ _ _ _ _ _ (by omega) W
      · have hin : 0 ≤ n ∧ n < (t.ls.length : Int) := by
          unfold voidC at h0
          split at h0
          · rename_i q; exact q
          · cases h0
        obtain ⟨i, rfl⟩ : ∃ i : Nat, n = (i : Int) := ⟨n.toNat, by omega⟩
        rw [Int.toNat_natCast]
        have hi : i < t.ls.length := by omega
        obtain ⟨g, cp, hq⟩ := row_some hg.lrow (by omega)
        simp only [Value.slice.injEq] at hq
        obtain ⟨rfl, _, rfl⟩ := hq
        refine (carryVoid B rb _ g lc t.ls hN hl50 t.sh _ ks t.sl t.tk t.dp t.cs i hi W (hg.later hW)).mono ?_
        rintro e w' ⟨h1, h2, h3⟩
        exact ⟨h1, h2, _, _, ks, hks, h3⟩
    · refine (do_showing R hR ia ic its hok hil B rb _ t.ls t.sh _ ks t.sl t.tk t.dp t.cs hcs tx n w hg hI hB (showC n) n (RgT B rb (.slice ia its.length ic) { t with sh := n }) RgT.aside (fun W hW => ?_) (fun h0 W hW => ?_)).mono (fun e w' h => key _ _ _ (hae _ rfl) rfl rfl e w' h)
      · rw [hrl]
        exact showAgainst_any n la lc t.ls t.sh _ _ _ _ _ _ _ _ _ _ _ _ _ _ W
      · refine (carryShow B rb _ _ t.ls t.sh _ ks t.sl t.tk t.dp t.cs n W (hg.later hW)).mono ?_
        rintro e w' ⟨h1, h2, h3⟩
        exact ⟨h1, h2, _, _, ks, hks, h3⟩
    · refine (do_suspending R hR ia ic its hok hil B rb _ t.ls t.sh _ ks t.sl t.tk t.dp t.cs hcs tx n w hg hI hB (suspC t.ls t.kept.length) ((t.kept.length : Int) + 1) (RgT B rb (.slice ia its.length ic) { t with ls := [], sh := 0, kept := t.kept ++ [(t.ls, t.sh)] }) RgT.aside (fun W hW => ?_) (fun h0 W hW => ?_)).mono (fun e w' h => key _ _ _ (hae _ rfl) rfl rfl e w' h)
      · rw [hrl, ← hkl]
        exact suspAgainst_any la lc t.ls t.sh _ ka ks.length kc _ _ _ _ _ _ _ _ _ _ _ _ W
      · rw [← hkl]
        refine (carrySusp B rb _ la lc t.ls t.sh ka kc ks (by have := ht.many; omega) t.sl t.tk t.dp t.cs W (hg.later hW) (Nat.le_trans hB hW.size)).mono ?_
        rintro e w' ⟨h1, h2, kv', h3⟩
        exact ⟨h1, h2, _, kv', _, by rw [List.map_append, hks]; rfl, h3⟩
    · refine (do_resuming R hR ia ic its hok hil B rb _ t.ls t.sh _ ks t.sl t.tk t.dp t.cs hcs tx n w hg hI hB (resC t.ls t.kept.length n) (totL (t.kAt n.toNat).1) (RgT B rb (.slice ia its.length ic) { t with ls := (t.kAt n.toNat).1, sh := (t.kAt n.toNat).2, kept := t.kept.take n.toNat ++ t.kept.drop (n.toNat + 1) }) RgT.aside (fun W hW => ?_) (fun h0 W hW => ?_)).mono (fun e w' h => key _ _ _ (hae _ rfl) rfl rfl e w' h)
      · rw [hrl, ← hkl]
        exact resAgainst_any n la lc t.ls t.sh _ ka ks.length kc _ _ _ _ _ _ _ _ _ _ _ _ W
      · have hin : 0 ≤ n ∧ n < (t.kept.length : Int) := by
          unfold resC at h0
          split at h0
          · rename_i q; exact q
          · cases h0
        obtain ⟨i, rfl⟩ : ∃ i : Nat, n = (i : Int) := ⟨n.toNat, by omega⟩
        rw [Int.toNat_natCast]
        have hi : i < ks.length := by omega
        obtain ⟨g, cp, hq⟩ := row_some hg.krow (by omega)
        simp only [Value.slice.injEq] at hq
        obtain ⟨rfl, _, rfl⟩ := hq
        have hka := kb_at hks i hi
        have hbk := kAt_mem ht.kept i
        rw [← hka] at hbk ⊢
        dsimp only at hbk ⊢
        refine (carryRes B rb _ _ t.ls t.sh g kc ks (by have := ht.many; omega) t.sl t.tk t.dp t.cs i hi hbk.nn (by have := hbk.len; omega) W (hg.later hW)).mono ?_
        rintro e w' ⟨h1, h2, h3⟩
        exact ⟨h1, h2, _, _, _, by rw [List.map_append, List.map_take, List.map_drop, hks], h3⟩
    · refine (do_paying R hR ia ic its hok hil B rb _ t.ls t.sh _ ks t.sl t.tk t.dp t.cs hcs tx n w hg hI hB (payC t.ls n) (n - totL t.ls) (RgT B rb (.slice ia its.length ic) { t with ls := [], sh := 0, sl := t.sl + 1, tk := t.tk + totL t.ls, dp := depM t.dp t.ls, cs := clsM its t.cs t.ls }) RgT.aside (fun W hW => ?_) (fun h0 W hW => ?_)).mono (fun e w' h => key _ _ _ (hae _ rfl) rfl rfl e w' h)
      · rw [hrl]
        exact payAgainst_any n la lc t.ls t.sh _ _ _ _ _ _ _ _ _ _ _ _ _ _ hN (by omega) W (hrd W hW)
      · have hin : totL t.ls ≤ n ∧ n ≤ 1000000000 := by
          unfold payC at h0
          split at h0
          · cases h0
          · split at h0
            · cases h0
            · split at h0
              · cases h0
              · omega
        have htn := totL_nn hN
        have h4 := ht.sl
        have h5 := ht.tk
        have h6 := ht.dp
        refine (carryPay its hok hil ia ic B rb la lc t.ls ht.now.each hl50 t.sh _ ks t.sl t.tk t.dp t.cs ⟨by omega, by omega⟩ ⟨by omega, by omega⟩ ⟨by omega, by omega⟩ (ht.cs.mono (by omega)) n ⟨by omega, by omega⟩ W (hg.later hW) (hI.below (hW.mono hB))).mono ?_
        rintro e w' ⟨h1, h2, h3⟩
        exact ⟨h1, h2, _, _, ks, hks, h3⟩
  · refine (do_code R hR ia ic its hok hil B rb _ t.ls t.sh _ ks t.sl t.tk t.dp t.cs hcs tx n w hg hI hB kd hE).mono ?_
    rintro e w' ⟨h1, h2⟩
    have hA : actE R its ⟨kd, tx, n⟩ t = deedE R its kd tx n := by unfold actE; rw [if_pos hE]
    unfold stepO stepT
    rw [hA, if_neg hE, if_neg hE]
    exact ⟨h1, Fr.of h2, RgT.later ⟨_, _, ks, hks, hg⟩ h2⟩
end Go.Proofs.YthcahmjgfjeckaaGreat

/-
  Rows of their own whose cells are turned into marks, one by one; nothing of the program is in it.
-/
namespace Go.Proofs.YthcahmjgfjeckaaGreat
open Go.ChangeShapes Go.WideShapes Go.ChangeAt Go.RowKit Go.Deep
set_option linter.unusedVariables false

/-- m marks from k on. -/
def mkV (k m : Nat) : List Value := (List.range m).map fun (j : Nat) => Value.int .i64 ((k : Int) + (j : Int))
/-- Cells of which the first m are marks. -/
def mkC (k m : Nat) (xs : List Value) : List Value := (List.range xs.length).map fun (j : Nat) => if j < m then Value.int .i64 ((k : Int) + (j : Int)) else (xs[j]?).getD undef
theorem mkC_length (k m : Nat) (xs : List Value) : (mkC k m xs).length = xs.length := by simp [mkC]
theorem mkC_get (k m : Nat) (xs : List Value) (j : Nat) (h : j < xs.length) : (mkC k m xs)[j]? = some (if j < m then Value.int .i64 ((k : Int) + (j : Int)) else (xs[j]?).getD undef) := by simp [mkC, h]
theorem mkV_get (k m j : Nat) (h : j < m) : (mkV k m)[j]? = some (Value.int .i64 ((k : Int) + (j : Int))) := by simp [mkV, h]
theorem mkV_length (k m : Nat) : (mkV k m).length = m := by simp [mkV]
theorem mkC_zero (k : Nat) (xs : List Value) : mkC k 0 xs = xs := by
  apply List.ext_getElem?
  intro j
  by_cases h : j < xs.length
  · rw [mkC_get k 0 xs j h]; simp [h]
  · rw [List.getElem?_eq_none (by rw [mkC_length]; omega), List.getElem?_eq_none (by omega)]
theorem mkC_all (k : Nat) (xs : List Value) : mkC k xs.length xs = mkV k xs.length := by
  apply List.ext_getElem?
  intro j
  by_cases h : j < xs.length
  · rw [mkC_get k _ xs j h, mkV_get k _ j h, if_pos h]
  · rw [List.getElem?_eq_none (by rw [mkC_length]; omega), List.getElem?_eq_none (by rw [mkV_length]; omega)]
theorem mkC_set (k m : Nat) (xs : List Value) (h : m < xs.length) : (mkC k m xs).set m (.int .i64 ((k : Int) + (m : Int))) = mkC k (m + 1) xs := by
  apply List.ext_getElem?
  intro j
  by_cases hj : j < xs.length
  · rw [mkC_get k _ xs j hj, List.getElem?_set]
    by_cases e : m = j
    · subst e
      rw [if_pos rfl, if_pos (by rw [mkC_length]; exact h), if_pos (by omega)]
    · rw [if_neg e, mkC_get k m xs j hj]
      by_cases e2 : j < m
      · rw [if_pos e2, if_pos (by omega)]
      · rw [if_neg e2, if_neg (by omega)]
  · rw [List.getElem?_eq_none (by rw [List.length_set, mkC_length]; omega), List.getElem?_eq_none (by rw [mkC_length]; omega)]
/-- Of a row of its own one cell has turned. -/
theorem rowPut {W : World} {B g c n k : Nat} {e : TypeId} {xs : List Value} (h : W.ownsRow B e k (.slice (some ⟨g, 0, none⟩) n c) n xs) (j : Nat) (hj : j < n * k) (u : Value) : (W.setCell ⟨g, j, none⟩ u).ownsRow B e k (.slice (some ⟨g, 0, none⟩) n c) n (xs.set j u) := by
  obtain ⟨h1, h2⟩ := h
  refine ⟨by rw [List.length_set]; exact h1, ?_⟩
  rcases h2 with ⟨q, _⟩ | ⟨g', cap, cur, q, hB, hg, hc, hm, hs, ht⟩
  · simp at q
  · simp at q
    obtain ⟨rfl, rfl⟩ := q
    refine .inr ⟨g, c, cur.setIfInBounds j u, rfl, hB, heap_setCell_same _ _ _ _ _ _ hg, hc, hm, by simpa using hs, ?_⟩
    rw [Array.toList_setIfInBounds, List.take_set, ht]
theorem rowMark {W : World} {B g c n k k0 m : Nat} {e : TypeId} {v : Value} {xs : List Value} (h : W.ownsRow B e k v n (mkC k0 m xs)) (hv : v = .slice (some ⟨g, 0, none⟩) n c) (o : Nat) (ho : o = m ∧ m < n * k) (x : Int) (hx : x = (k0 : Int) + (m : Int)) : (W.setCell ⟨g, o, none⟩ (.int .i64 x)).ownsRow B e k v n (mkC k0 (o + 1) xs) := by
  obtain ⟨rfl, hm⟩ := ho
  subst hv hx
  have hl : xs.length = n * k := by have := h.1; rwa [mkC_length] at this
  have := rowPut h o hm (.int .i64 ((k0 : Int) + (o : Int)))
  rwa [mkC_set k0 o xs (by omega)] at this
theorem rowMarked {W : World} {B g c n k k0 : Nat} {e : TypeId} {v : Value} (h : W.ownsRow B e k v n (mkV k0 (n * k))) (hv : v = .slice (some ⟨g, 0, none⟩) n c) (o : Nat) (ho : o < n * k) (x : Int) (hx : x = (k0 : Int) + (o : Int)) : W.cell? ⟨g, o, none⟩ = some (.int .i64 x) := by
  subst hv hx
  rw [h.cellAt o ho, mkV_get k0 _ o ho]
theorem ownsRow_some {W : World} {B g c n k : Nat} {e : TypeId} {xs : List Value} (h : W.ownsRow B e k (.slice (some ⟨g, 0, none⟩) n c) n xs) (j : Nat) (hj : j < n * k) : ∃ u, W.cell? ⟨g, j, none⟩ = some u := by
  have h1 := h.1
  exact ⟨xs[j]'(by omega), by rw [h.cellAt j hj]; simp [show j < xs.length by omega]⟩
end Go.Proofs.YthcahmjgfjeckaaGreat

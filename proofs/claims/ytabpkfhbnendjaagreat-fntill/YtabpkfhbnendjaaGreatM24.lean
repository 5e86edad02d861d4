/-
  Texts of this claim laid together: TaA, TlP, TlQ.
-/
import Derived.Test.YtabpkfhbnendjaaGreatM1
import Derived.Deep.Slices
import Derived.Test.YtabpkfhbnendjaaGreatM23
/-
  Lists of TillAct in memory.
-/
namespace Go.Proofs.YtabpkfhbnendjaaGreat
open Go.ChangeShapes Go.WideShapes Go.ChangeAt Go.RowKit Go.Deep
set_option linter.unusedVariables false

structure RTa where
  kd : Int
  tx : ByteArray
  nm : Int
def zTa : RTa := ⟨0, ByteArray.empty, 0⟩
/-- One lies in block b from off on, 3 cells. -/
def TaAt (w : World) (b off : Nat) (r : RTa) : Prop :=
  w.cell? ⟨b, off, none⟩ = some (.int .i64 r.kd) ∧ w.cell? ⟨b, off + 1, none⟩ = some (.string r.tx) ∧ w.cell? ⟨b, off + 2, none⟩ = some (.int .i64 r.nm)
def TasAt (w : World) (b off : Nat) (rs : List RTa) : Prop := ∀ i, i < rs.length → TaAt w b (off + i * 3) (rs.getD i zTa)
def ReadsTa (B : Nat) (w : World) (a : Option Addr) (rs : List RTa) : Prop := rs = [] ∨ ∃ b off, a = some ⟨b, off, none⟩ ∧ b < B ∧ TasAt w b off rs
theorem TaAt.below {B : Nat} {w w' : World} {b off : Nat} {r : RTa} (h : TaAt w b off r) (hb : Below B w w') (hB : b < B) : TaAt w' b off r := by
  obtain ⟨h0, h1, h2⟩ := h
  exact ⟨(hb.cell (p := ⟨b, off, none⟩) hB).trans h0, (hb.cell (p := ⟨b, off + 1, none⟩) hB).trans h1, (hb.cell (p := ⟨b, off + 2, none⟩) hB).trans h2⟩
theorem TasAt.below {B : Nat} {w w' : World} {b off : Nat} {rs : List RTa} (h : TasAt w b off rs) (hb : Below B w w') (hB : b < B) : TasAt w' b off rs := fun i hi => (h i hi).below hb hB
theorem ReadsTa.below {B : Nat} {w w' : World} {a : Option Addr} {rs : List RTa} (h : ReadsTa B w a rs) (hb : Below B w w') : ReadsTa B w' a rs := by
  rcases h with h | ⟨b, off, ha, hB, hi⟩
  · exact .inl h
  · exact .inr ⟨b, off, ha, hB, hi.below hb hB⟩
theorem ReadsTa.mono {B B' : Nat} {w : World} {a : Option Addr} {rs : List RTa} (h : ReadsTa B w a rs) (hb : B ≤ B') : ReadsTa B' w a rs := by
  rcases h with h | ⟨b, off, ha, hB, hi⟩
  · exact .inl h
  · exact .inr ⟨b, off, ha, by omega, hi⟩
theorem getTa {p : RTa → Prop} {rs : List RTa} (h : ∀ r ∈ rs, p r) {k : Nat} (hk : k < rs.length) : p (rs.getD k zTa) := by
  have e : rs.getD k zTa = rs[k] := by simp [List.getD_eq_getElem?_getD, hk]
  rw [e]; exact h _ (List.getElem_mem _)
theorem taNew (w : World) (r0 : Int) (r1 : ByteArray) (r2 : Int) : TaAt (w.alloc (Obj.cells #[.int .i64 r0, .string r1, .int .i64 r2] 42)) w.heap.size 0 ⟨r0, r1, r2⟩ :=
  ⟨by simp, by simp, by simp⟩
def TaOK (r : RTa) : Prop := r.tx.size ≤ 2000000
def TaWide (r : RTa) : Prop := (Lit.int .i64 r.kd).wf = true ∧ r.tx.size ≤ maxLen ∧ (Lit.int .i64 r.nm).wf = true
end Go.Proofs.YtabpkfhbnendjaaGreat

/-
  A till and its acts, as mathematics; what is right of a till behind each act.
-/
namespace Go.Proofs.YtabpkfhbnendjaaGreat
open Go.ChangeShapes Go.WideShapes Go.ChangeAt Go.RowKit Go.Deep
set_option linter.unusedVariables false

structure Tl where
  ls : List RLi
  sh : Int
  kept : List (List RLi × Int)
  sl : Int
  tk : Int
  dp : Int
  cs : List Int
def Tl.kAt (t : Tl) (i : Nat) : List RLi × Int := t.kept.getD i ([], 0)
/-- What stands against an act. -/
def actE (R : ByteArray → Int × ByteArray × Int × Int) (its : List RIt) (a : RTa) (t : Tl) : Int :=
  if deedE R its a.kd a.tx a.nm ≠ 0 then deedE R its a.kd a.tx a.nm
  else if a.kd = 1 then scanC t.ls t.sh (scanL R its a.tx a.nm).am (scanL R its a.tx a.nm).dp (scanG R its a.tx a.nm)
  else if a.kd = 2 then voidC t.ls a.nm
  else if a.kd = 3 then showC a.nm
  else if a.kd = 4 then suspC t.ls t.kept.length
  else if a.kd = 5 then resC t.ls t.kept.length a.nm
  else payC t.ls a.nm
/-- Its number, if nothing does. -/
def actN (R : ByteArray → Int × ByteArray × Int × Int) (its : List RIt) (a : RTa) (t : Tl) : Int :=
  if a.kd = 1 then (scanL R its a.tx a.nm).am + (scanL R its a.tx a.nm).dp
  else if a.kd = 2 then (t.ls.getD a.nm.toNat zLi).am + (t.ls.getD a.nm.toNat zLi).dp
  else if a.kd = 3 then a.nm
  else if a.kd = 4 then (t.kept.length : Int) + 1
  else if a.kd = 5 then totL (t.kAt a.nm.toNat).1
  else a.nm - totL t.ls
/-- The till behind it, if nothing does. -/
def actT (R : ByteArray → Int × ByteArray × Int × Int) (its : List RIt) (a : RTa) (t : Tl) : Tl :=
  if a.kd = 1 then { t with ls := t.ls ++ [scanL R its a.tx a.nm] }
  else if a.kd = 2 then { t with ls := t.ls.take a.nm.toNat ++ t.ls.drop (a.nm.toNat + 1) }
  else if a.kd = 3 then { t with sh := a.nm }
  else if a.kd = 4 then { t with ls := [], sh := 0, kept := t.kept ++ [(t.ls, t.sh)] }
  else if a.kd = 5 then { t with ls := (t.kAt a.nm.toNat).1, sh := (t.kAt a.nm.toNat).2, kept := t.kept.take a.nm.toNat ++ t.kept.drop (a.nm.toNat + 1) }
  else { t with ls := [], sh := 0, sl := t.sl + 1, tk := t.tk + totL t.ls, dp := depM t.dp t.ls, cs := clsM its t.cs t.ls }
def stepO (R : ByteArray → Int × ByteArray × Int × Int) (its : List RIt) (a : RTa) (t : Tl) : Int × Int := if actE R its a t = 0 then (0, actN R its a t) else (actE R its a t, 0)
def stepT (R : ByteArray → Int × ByteArray × Int × Int) (its : List RIt) (a : RTa) (t : Tl) : Tl := if actE R its a t = 0 then actT R its a t else t
/-- A right basket. -/
structure BkOK (its : List RIt) (ls : List RLi) : Prop where
  each : ∀ l ∈ ls, LiI its l
  len : ls.length ≤ 50
  tot : totL ls ≤ 1000000000
/-- A right till behind m acts. -/
structure TlOK (its : List RIt) (m : Nat) (t : Tl) : Prop where
  now : BkOK its t.ls
  kept : ∀ b ∈ t.kept, BkOK its b.1
  many : t.kept.length ≤ 5
  sl : 0 ≤ t.sl ∧ t.sl ≤ (m : Int)
  tk : 0 ≤ t.tk ∧ t.tk ≤ 1000000000 * (m : Int)
  dp : 0 ≤ t.dp ∧ t.dp ≤ 1000000000 * (m : Int)
  cs : CsB t.cs (1000000000 * (m : Int))
theorem BkOK.nil (its : List RIt) : BkOK its [] := ⟨fun _ h => by simp at h, by simp, by simp [totL]⟩
theorem BkOK.nn {its : List RIt} {ls : List RLi} (h : BkOK its ls) : ∀ l ∈ ls, LiN l := fun l hl => (h.each l hl).1
theorem totL_cut {ls : List RLi} (h : ∀ l ∈ ls, LiN l) (i : Nat) : totL (ls.take i ++ ls.drop (i + 1)) ≤ totL ls := by
  have e : totL ls = totL (ls.take i) + totL (ls.drop i) := by rw [← totL_append, List.take_append_drop]
  rw [totL_append, e]
  by_cases hi : i < ls.length
  · have e2 : ls.drop i = ls[i] :: ls.drop (i + 1) := List.drop_eq_getElem_cons hi
    have e3 : totL (ls[i] :: ls.drop (i + 1)) = ls[i].am + ls[i].dp + totL (ls.drop (i + 1)) := by unfold totL; rw [List.map_cons, List.sum_cons]; rfl
    obtain ⟨n1, n2, _⟩ := h ls[i] (List.getElem_mem hi)
    rw [e2, e3]; omega
  · rw [List.drop_of_length_le (by omega), List.drop_of_length_le (by omega)]; omega
theorem BkOK.cut {its : List RIt} {ls : List RLi} (h : BkOK its ls) (i : Nat) : BkOK its (ls.take i ++ ls.drop (i + 1)) :=
  ⟨fun l hl => by rcases List.mem_append.1 hl with q | q; exact h.each l (List.mem_of_mem_take q); exact h.each l (List.mem_of_mem_drop q), by rw [List.length_append, List.length_take, List.length_drop]; have := h.len; omega, Int.le_trans (totL_cut h.nn i) h.tot⟩
theorem depM_tot {ls : List RLi} (h : ∀ l ∈ ls, LiN l) : ∀ dp : Int, dp ≤ depM dp ls ∧ depM dp ls ≤ dp + totL ls := by
  induction ls with
  | nil => intro dp; simp [depM, totL]
  | cons l r ih =>
    intro dp
    obtain ⟨n1, n2, _⟩ := h l List.mem_cons_self
    have := ih (fun x hx => h x (List.mem_cons_of_mem _ hx)) (dp + l.dp)
    have e : totL (l :: r) = l.am + l.dp + totL r := by unfold totL; rw [List.map_cons, List.sum_cons]; rfl
    rw [e]
    show dp ≤ depM (dp + l.dp) r ∧ depM (dp + l.dp) r ≤ _
    omega
theorem clsM_tot {its : List RIt} (hok : ∀ r ∈ its, ItN r) {ls : List RLi} (h : ∀ l ∈ ls, LiI its l) : ∀ {cs : List Int} {M : Int}, CsB cs M → CsB (clsM its cs ls) (M + totL ls) := by
  induction ls with
  | nil => intro cs M hc; simpa [clsM, totL] using hc
  | cons l r ih =>
    intro cs M hc
    have hl := h l List.mem_cons_self
    obtain ⟨n1, n2, n3, n4⟩ := hl.1
    have h9 := (clN_lt hok hl).1
    have hg := hc.get _ h9
    have hA : CsB (addCl its cs l) (M + (l.am + l.dp)) := by
      refine ⟨by unfold addCl; rw [List.length_set]; exact hc.1, fun c hq => ?_⟩
      unfold addCl at hq
      rcases List.mem_or_eq_of_mem_set hq with q | q
      · have := hc.2 c q; omega
      · rw [q]; omega
    have e : totL (l :: r) = l.am + l.dp + totL r := by unfold totL; rw [List.map_cons, List.sum_cons]; rfl
    have := ih (fun x hx => h x (List.mem_cons_of_mem _ hx)) hA
    rw [e, ← Int.add_assoc]
    exact this
theorem CsB.mono {cs : List Int} {M M' : Int} (h : CsB cs M) (hm : M ≤ M') : CsB cs M' := ⟨h.1, fun c hc => by have := h.2 c hc; omega⟩
theorem scanL_OK {R : ByteArray → Int × ByteArray × Int × Int} (hv : ∀ s, 0 ≤ (R s).2.2.1 ∧ (R s).2.2.1 ≤ 99999) {its : List RIt} (hok : ∀ r ∈ its, ItN r) (tx : ByteArray) (ct : Int) (h : scanE R its tx ct = 0) : LiI its (scanL R its tx ct) := by
  rcases scan_ways R its tx ct with ⟨h1, h2, _⟩ | ⟨_, _, h2, _⟩ | ⟨_, _, _, h2, _⟩ | ⟨_, h2, ⟨g1, g2, _⟩, _, h3, _⟩
  · rw [h] at h2; exact absurd h2.symm h1
  · rw [h] at h2; cases h2
  · rw [h] at h2; cases h2
  · rw [h3]
    have hr := itIx_range (R tx).2.1 its
    have hm : (itIx (R tx).2.1 its).toNat < its.length := by omega
    obtain ⟨⟨p1, p2⟩, ⟨p3, p4⟩, _⟩ := getIt hok hm
    have ha := amtM_nn (R tx).1 (R tx).2.2.1 (scanIt R its tx).pr ct (hv tx) ⟨p1, p2⟩ ⟨g1, g2⟩
    have hd1 : 0 ≤ (scanIt R its tx).dp * ct := Int.mul_nonneg p3 (by omega)
    have hd2 : (scanIt R its tx).dp * ct ≤ 1000000 * 99 := Int.mul_le_mul p4 g2 (by omega) (by omega)
    exact ⟨⟨ha.1, hd1, ha.2, by dsimp only; omega⟩, h2, hr.2⟩
theorem deedE_kind {R : ByteArray → Int × ByteArray × Int × Int} {its : List RIt} {kd : Int} {tx : ByteArray} {n : Int} (h : deedE R its kd tx n = 0) : (kd = 1 ∧ scanE R its tx n = 0) ∨ kd = 2 ∨ kd = 3 ∨ kd = 4 ∨ kd = 5 ∨ kd = 6 := by
  unfold deedE at h
  split at h
  · rename_i e; exact .inl ⟨e, h⟩
  · split at h
    · omega
    · cases h
theorem kAt_mem {its : List RIt} {t : Tl} (h : ∀ b ∈ t.kept, BkOK its b.1) (i : Nat) : BkOK its (t.kAt i).1 := by
  unfold Tl.kAt
  by_cases hi : i < t.kept.length
  · rw [show t.kept.getD i ([], 0) = t.kept[i] by simp [List.getD_eq_getElem?_getD, hi]]
    exact h _ (List.getElem_mem hi)
  · rw [show t.kept.getD i ([], 0) = ([], 0) by simp [List.getD_eq_getElem?_getD, hi]]
    exact BkOK.nil its
theorem stepT_OK {R : ByteArray → Int × ByteArray × Int × Int} (hv : ∀ s, 0 ≤ (R s).2.2.1 ∧ (R s).2.2.1 ≤ 99999) {its : List RIt} (hok : ∀ r ∈ its, ItN r) {m : Nat} {t : Tl} (h : TlOK its m t) (a : RTa) : TlOK its (m + 1) (stepT R its a t) := by
  obtain ⟨h1, h2, h3, h4, h5, h6, h7⟩ := h
  have hm : TlOK its (m + 1) t := ⟨h1, h2, h3, by push_cast; omega, by push_cast; omega, by push_cast; omega, h7.mono (by push_cast; omega)⟩
  unfold stepT
  split
  · rename_i hE
    have hd : deedE R its a.kd a.tx a.nm = 0 := by
      unfold actE at hE
      split at hE
      · rename_i q; exact absurd hE q
      · rename_i q; exact Classical.not_not.1 q
    unfold actE at hE
    rw [if_neg (by simp [hd])] at hE
    unfold actT
    rcases deedE_kind hd with ⟨e, hs⟩ | e | e | e | e | e
    · rw [if_pos e] at hE ⊢
      have hl := scanL_OK hv hok a.tx a.nm hs
      unfold scanC at hE
      split at hE
      · cases hE
      · split at hE
        · cases hE
        · rename_i hlen
          split at hE
          · cases hE
          · rename_i htot
            refine ⟨⟨fun l hq => ?_, by rw [List.length_append]; have := h1.len; simp; omega, by rw [totL_append, totL_one]; omega⟩, hm.kept, hm.many, hm.sl, hm.tk, hm.dp, hm.cs⟩
            rcases List.mem_append.1 hq with q | q
            · exact h1.each l q
            · rw [List.mem_singleton.1 q]; exact hl
    · rw [if_neg (by omega), if_pos e]
      exact ⟨h1.cut _, hm.kept, hm.many, hm.sl, hm.tk, hm.dp, hm.cs⟩
    · rw [if_neg (by omega), if_neg (by omega), if_pos e]
      exact ⟨hm.now, hm.kept, hm.many, hm.sl, hm.tk, hm.dp, hm.cs⟩
    · rw [if_neg (by omega), if_neg (by omega), if_neg (by omega), if_pos e] at hE ⊢
      unfold suspC at hE
      split at hE
      · cases hE
      · split at hE
        · cases hE
        · refine ⟨BkOK.nil its, fun b hb => ?_, by rw [List.length_append]; simp; omega, hm.sl, hm.tk, hm.dp, hm.cs⟩
          rcases List.mem_append.1 hb with q | q
          · exact h2 b q
          · rw [List.mem_singleton.1 q]; exact h1
    · rw [if_neg (by omega), if_neg (by omega), if_neg (by omega), if_neg (by omega), if_pos e]
      refine ⟨kAt_mem h2 _, fun b hb => ?_, by rw [List.length_append, List.length_take, List.length_drop]; omega, hm.sl, hm.tk, hm.dp, hm.cs⟩
      rcases List.mem_append.1 hb with q | q
      · exact h2 b (List.mem_of_mem_take q)
      · exact h2 b (List.mem_of_mem_drop q)
    · rw [if_neg (by omega), if_neg (by omega), if_neg (by omega), if_neg (by omega), if_neg (by omega)]
      have ht := totL_nn h1.nn
      have htt := h1.tot
      have hdd := depM_tot h1.nn t.dp
      refine ⟨BkOK.nil its, hm.kept, hm.many, by dsimp only; push_cast; omega, by dsimp only; push_cast; omega, by dsimp only; push_cast; omega, (clsM_tot hok h1.each h7).mono (by push_cast; omega)⟩
  · exact hm
end Go.Proofs.YtabpkfhbnendjaaGreat

/-
  The program's do is the step of the till.
-/
namespace Go.Proofs.YtabpkfhbnendjaaGreat
open Go.ChangeShapes Go.WideShapes Go.ChangeAt Go.RowKit Go.Deep
set_option linter.unusedVariables false

theorem nine {cs : List Int} (h : cs.length = 9) : ∃ c0 c1 c2 c3 c4 c5 c6 c7 c8, cs = [c0, c1, c2, c3, c4, c5, c6, c7, c8] := by
  match cs, h with
  | [c0, c1, c2, c3, c4, c5, c6, c7, c8], _ => exact ⟨c0, c1, c2, c3, c4, c5, c6, c7, c8, rfl⟩
/-- The till t in memory, its register in block rb. -/
def RgT (B rb : Nat) (iv : Value) (t : Tl) (W : World) : Prop := ∃ lv kv ks, ks.map (fun k : Kb => (k.ls, k.sh)) = t.kept ∧ Rg B rb iv lv t.ls t.sh kv ks t.sl t.tk t.dp t.cs W
theorem RgT.later {B rb : Nat} {iv : Value} {t : Tl} {W W' : World} (h : RgT B rb iv t W) (hb : Below W.heap.size W W') : RgT B rb iv t W' := by
  obtain ⟨lv, kv, ks, h1, h2⟩ := h
  exact ⟨lv, kv, ks, h1, h2.later hb⟩
theorem RgT.aside {B rb : Nat} {iv : Value} {t : Tl} : Aside2 (RgT B rb iv t) := fun W W' bo V h hb hf => by
  obtain ⟨lv, kv, ks, h1, h2⟩ := h
  exact ⟨lv, kv, ks, h1, h2.aside hb hf⟩
theorem row_some {w : World} {B : Nat} {e : TypeId} {k : Nat} {v : Value} {n : Nat} {xs : List Value} (h : w.ownsRow B e k v n xs) (hn : 0 < n) : ∃ g cp, v = .slice (some ⟨g, 0, none⟩) n cp := by
  rcases h.2 with ⟨rfl, rfl⟩ | ⟨g, cap, cur, rfl, _⟩
  · omega
  · exact ⟨g, cap, rfl⟩
theorem kb_at {ks : List Kb} {t : Tl} (h : ks.map (fun k : Kb => (k.ls, k.sh)) = t.kept) (i : Nat) (hi : i < ks.length) : ((ks.getD i zKb).ls, (ks.getD i zKb).sh) = t.kAt i := by
  unfold Tl.kAt
  rw [← h]
  simp [List.getD_eq_getElem?_getD, hi]
/-- A block of a register, of lines or of baskets, from B on. -/
def TX (B : Nat) (w : World) : Nat → Prop := fun k => B ≤ k ∧ ∃ cur T, w.heap[k]? = some (.cells cur T (0, 0)) ∧ (T = 51 ∨ T = 82 ∨ T = 30)
theorem RgX_TX {B rb : Nat} {iv lv : Value} {ls : List RLi} {sh : Int} {kv : Value} {ks : List Kb} {sl tk dp : Int} {cs : List Int} {W : World} (h : Rg B rb iv lv ls sh kv ks sl tk dp cs W) : ∀ k, RgX rb lv kv k → TX B W k := by
  rintro k (e | e | e)
  · rw [e]; exact ⟨h.low, _, _, h.reg, .inl rfl⟩
  · obtain ⟨cur, hc⟩ := row_type h.lrow e; exact ⟨(row_lt h.lrow k e).1, cur, _, hc, .inr (.inl rfl)⟩
  · obtain ⟨cur, hc⟩ := row_type h.krow e; exact ⟨(row_lt h.krow k e).1, cur, _, hc, .inr (.inr rfl)⟩
set_option maxHeartbeats 4000000 in
theorem implDo_any (R : ByteArray → Int × ByteArray × Int × Int) (hR : RsI R) (hv : ∀ s, 0 ≤ (R s).2.2.1 ∧ (R s).2.2.1 ≤ 99999) (ia : Option Addr) (ic : Nat) (its : List RIt) (hok : ∀ r ∈ its, ItN r) (hil : its.length ≤ 40) (B rb m : Nat) (hm : m ≤ 200) (t : Tl) (ht : TlOK its m t) (a : RTa) (w : World) (hg : RgT B rb (.slice ia its.length ic) t w) (hI : ReadsIt B w ia its) (hB : B ≤ w.heap.size) :
    Calls Tryz.prog 13 #[.pointer (some ⟨rb, 0, none⟩), .agg #[.int .i64 a.kd, .string a.tx, .int .i64 a.nm]] w fun e w' => e = .returned (.agg #[.int .i64 (stepO R its a t).1, .int .i64 (stepO R its a t).2]) ∧ Fr (TX B w) w w' ∧ RgT B rb (.slice ia its.length ic) (stepT R its a t) w' := by
  obtain ⟨lv, kv, ks, hks, hg⟩ := hg
  obtain ⟨kd, tx, n⟩ := a
  dsimp only
  have hcs := ht.cs.1
  have hkl : ks.length = t.kept.length := by rw [← hks, List.length_map]
  obtain ⟨la, lc, rfl⟩ := row_slice hg.lrow
  obtain ⟨ka, kc, rfl⟩ := row_slice hg.krow
  have hN := ht.now.nn
  have hl50 := ht.now.len
  by_cases hE : deedE R its kd tx n = 0
  · have key : ∀ (ac num : Int) (t' : Tl), actE R its ⟨kd, tx, n⟩ t = ac → actN R its ⟨kd, tx, n⟩ t = num → actT R its ⟨kd, tx, n⟩ t = t' → ∀ (e : Ending) (w' : World), ((ac ≠ 0 ∧ e = .returned (.agg #[.int .i64 ac, .int .i64 0]) ∧ Below w.heap.size w w') ∨ (ac = 0 ∧ e = .returned (.agg #[.int .i64 0, .int .i64 num]) ∧ Fr (RgX rb (.slice la t.ls.length lc) (.slice ka ks.length kc)) w w' ∧ RgT B rb (.slice ia its.length ic) t' w')) → e = .returned (.agg #[.int .i64 (stepO R its ⟨kd, tx, n⟩ t).1, .int .i64 (stepO R its ⟨kd, tx, n⟩ t).2]) ∧ Fr (TX B w) w w' ∧ RgT B rb (.slice ia its.length ic) (stepT R its ⟨kd, tx, n⟩ t) w' := fun ac num t' h1 h2 h3 e w' h => by
      unfold stepO stepT
      rw [h1, h2, h3]
      rcases h with ⟨hne, he, hb⟩ | ⟨h0, he, hf, hq⟩
      · rw [if_neg hne, if_neg hne]
        exact ⟨he, Fr.of hb, RgT.later ⟨_, _, ks, hks, hg⟩ hb⟩
      · rw [if_pos h0, if_pos h0]
        exact ⟨he, hf.mono (RgX_TX hg), hq⟩
    have hae : ∀ c, (if kd = 1 then scanC t.ls t.sh (scanL R its tx n).am (scanL R its tx n).dp (scanG R its tx n) else if kd = 2 then voidC t.ls n else if kd = 3 then showC n else if kd = 4 then suspC t.ls t.kept.length else if kd = 5 then resC t.ls t.kept.length n else payC t.ls n) = c → actE R its ⟨kd, tx, n⟩ t = c := fun c h => by unfold actE; rw [if_neg (by simp [hE])]; exact h
    obtain ⟨c0, c1, c2, c3, c4, c5, c6, c7, c8, hc9⟩ := nine hcs
    have hrl : (regL (.slice la t.ls.length lc) t.sh (.slice ia its.length ic) (.slice ka ks.length kc) t.sl t.tk t.dp t.cs).toArray = #[.slice la t.ls.length lc, .int .i64 t.sh, .slice ia its.length ic, .slice ka ks.length kc, .int .i64 t.sl, .int .i64 t.tk, .int .i64 t.dp, .int .i64 c0, .int .i64 c1, .int .i64 c2, .int .i64 c3, .int .i64 c4, .int .i64 c5, .int .i64 c6, .int .i64 c7, .int .i64 c8] := by rw [hc9]; rfl
    have hrd : ∀ W, Below w.heap.size w W → ReadsLi W.heap.size W la t.ls := fun W hW => (rowLn_reads (hg.later hW).lrow).2
    rcases deedE_kind hE with ⟨rfl, hs⟩ | rfl | rfl | rfl | rfl | rfl
    · have hl := scanL_OK hv hok tx n hs
      refine (do_scanning R hR ia ic its hok hil B rb _ t.ls t.sh _ ks t.sl t.tk t.dp t.cs hcs tx n w hg hI hB (scanL R its tx n).it (scanL R its tx n).ct (scanL R its tx n).am (scanL R its tx n).dp (scanG R its tx n) ⟨rfl, hE⟩ (scanC t.ls t.sh (scanL R its tx n).am (scanL R its tx n).dp (scanG R its tx n)) ((scanL R its tx n).am + (scanL R its tx n).dp) (RgT B rb (.slice ia its.length ic) { t with ls := t.ls ++ [scanL R its tx n] }) RgT.aside (fun W hW => ?_) (fun h0 W hW => ?_)).mono (fun e w' h => key _ _ _ (hae _ rfl) rfl rfl e w' h)
      · rw [hrl]
        exact scanAgainst_any _ _ _ _ _ ⟨hl.1.1, hl.1.2.2.1, hl.1.2.1, hl.1.2.2.2⟩ la lc t.ls t.sh _ _ _ _ _ _ _ _ _ _ _ _ _ _ hN (by omega) W (hrd W hW)
      · refine (carryScan B rb _ la lc t.ls hl50 t.sh _ ks t.sl t.tk t.dp t.cs _ _ _ _ _ hl.1 W (hg.later hW) (Nat.le_trans hB hW.size)).mono ?_
        rintro e w' ⟨h1, h2, lv', h3⟩
        exact ⟨h1, h2, lv', _, ks, hks, h3⟩
    · refine (do_voiding R hR ia ic its hok hil B rb _ t.ls t.sh _ ks t.sl t.tk t.dp t.cs hcs tx n w hg hI hB (voidC t.ls n) ((t.ls.getD n.toNat zLi).am + (t.ls.getD n.toNat zLi).dp) (RgT B rb (.slice ia its.length ic) { t with ls := t.ls.take n.toNat ++ t.ls.drop (n.toNat + 1) }) RgT.aside (fun W hW => ?_) (fun h0 W hW => ?_)).mono (fun e w' h => key _ _ _ (hae _ rfl) rfl rfl e w' h)
      · rw [hrl]
        exact voidAgainst_any n la lc t.ls t.sh _ _ _ _ _ _ _ _ _ _ _ _ _ _ (by omega) W
      · have hin : 0 ≤ n ∧ n < (t.ls.length : Int) := by
          unfold voidC at h0
          split at h0
          · rename_i q; exact q
          · cases h0
        obtain ⟨i, rfl⟩ : ∃ i : Nat, n = (i : Int) := ⟨n.toNat, by omega⟩
        rw [Int.toNat_natCast]
        have hi : i < t.ls.length := by omega
        obtain ⟨g, cp, hq⟩ := row_some hg.lrow (by omega)
        simp only [Value.slice.injEq] at hq
        obtain ⟨rfl, _, rfl⟩ := hq
        refine (carryVoid B rb _ g lc t.ls hN hl50 t.sh _ ks t.sl t.tk t.dp t.cs i hi W (hg.later hW)).mono ?_
        rintro e w' ⟨h1, h2, h3⟩
        exact ⟨h1, h2, _, _, ks, hks, h3⟩
    · refine (do_showing R hR ia ic its hok hil B rb _ t.ls t.sh _ ks t.sl t.tk t.dp t.cs hcs tx n w hg hI hB (showC n) n (RgT B rb (.slice ia its.length ic) { t with sh := n }) RgT.aside (fun W hW => ?_) (fun h0 W hW => ?_)).mono (fun e w' h => key _ _ _ (hae _ rfl) rfl rfl e w' h)
      · rw [hrl]
        exact showAgainst_any n la lc t.ls t.sh _ _ _ _ _ _ _ _ _ _ _ _ _ _ W
      · refine (carryShow B rb _ _ t.ls t.sh _ ks t.sl t.tk t.dp t.cs n W (hg.later hW)).mono ?_
        rintro e w' ⟨h1, h2, h3⟩
        exact ⟨h1, h2, _, _, ks, hks, h3⟩
    · refine (do_suspending R hR ia ic its hok hil B rb _ t.ls t.sh _ ks t.sl t.tk t.dp t.cs hcs tx n w hg hI hB (suspC t.ls t.kept.length) ((t.kept.length : Int) + 1) (RgT B rb (.slice ia its.length ic) { t with ls := [], sh := 0, kept := t.kept ++ [(t.ls, t.sh)] }) RgT.aside (fun W hW => ?_) (fun h0 W hW => ?_)).mono (fun e w' h => key _ _ _ (hae _ rfl) rfl rfl e w' h)
      · rw [hrl, ← hkl]
        exact suspAgainst_any la lc t.ls t.sh _ ka ks.length kc _ _ _ _ _ _ _ _ _ _ _ _ W
      · rw [← hkl]
        refine (carrySusp B rb _ la lc t.ls t.sh ka kc ks (by have := ht.many; omega) t.sl t.tk t.dp t.cs W (hg.later hW) (Nat.le_trans hB hW.size)).mono ?_
        rintro e w' ⟨h1, h2, kv', h3⟩
        exact ⟨h1, h2, _, kv', _, by rw [List.map_append, hks]; rfl, h3⟩
    · refine (do_resuming R hR ia ic its hok hil B rb _ t.ls t.sh _ ks t.sl t.tk t.dp t.cs hcs tx n w hg hI hB (resC t.ls t.kept.length n) (totL (t.kAt n.toNat).1) (RgT B rb (.slice ia its.length ic) { t with ls := (t.kAt n.toNat).1, sh := (t.kAt n.toNat).2, kept := t.kept.take n.toNat ++ t.kept.drop (n.toNat + 1) }) RgT.aside (fun W hW => ?_) (fun h0 W hW => ?_)).mono (fun e w' h => key _ _ _ (hae _ rfl) rfl rfl e w' h)
      · rw [hrl, ← hkl]
        exact resAgainst_any n la lc t.ls t.sh _ ka ks.length kc _ _ _ _ _ _ _ _ _ _ _ _ W
      · have hin : 0 ≤ n ∧ n < (t.kept.length : Int) := by
          unfold resC at h0
          split at h0
          · rename_i q; exact q
          · cases h0
        obtain ⟨i, rfl⟩ : ∃ i : Nat, n = (i : Int) := ⟨n.toNat, by omega⟩
        rw [Int.toNat_natCast]
        have hi : i < ks.length := by omega
        obtain ⟨g, cp, hq⟩ := row_some hg.krow (by omega)
        simp only [Value.slice.injEq] at hq
        obtain ⟨rfl, _, rfl⟩ := hq
        have hka := kb_at hks i hi
        have hbk := kAt_mem ht.kept i
        rw [← hka] at hbk ⊢
        dsimp only at hbk ⊢
        refine (carryRes B rb _ _ t.ls t.sh g kc ks (by have := ht.many; omega) t.sl t.tk t.dp t.cs i hi hbk.nn (by have := hbk.len; omega) W (hg.later hW)).mono ?_
        rintro e w' ⟨h1, h2, h3⟩
        exact ⟨h1, h2, _, _, _, by rw [List.map_append, List.map_take, List.map_drop, hks], h3⟩
    · refine (do_paying R hR ia ic its hok hil B rb _ t.ls t.sh _ ks t.sl t.tk t.dp t.cs hcs tx n w hg hI hB (payC t.ls n) (n - totL t.ls) (RgT B rb (.slice ia its.length ic) { t with ls := [], sh := 0, sl := t.sl + 1, tk := t.tk + totL t.ls, dp := depM t.dp t.ls, cs := clsM its t.cs t.ls }) RgT.aside (fun W hW => ?_) (fun h0 W hW => ?_)).mono (fun e w' h => key _ _ _ (hae _ rfl) rfl rfl e w' h)
      · rw [hrl]
        exact payAgainst_any n la lc t.ls t.sh _ _ _ _ _ _ _ _ _ _ _ _ _ _ hN (by omega) W (hrd W hW)
      · have hin : totL t.ls ≤ n ∧ n ≤ 1000000000 := by
          unfold payC at h0
          split at h0
          · cases h0
          · split at h0
            · cases h0
            · split at h0
              · cases h0
              · omega
        have htn := totL_nn hN
        have h4 := ht.sl
        have h5 := ht.tk
        have h6 := ht.dp
        refine (carryPay its hok hil ia ic B rb la lc t.ls ht.now.each hl50 t.sh _ ks t.sl t.tk t.dp t.cs ⟨by omega, by omega⟩ ⟨by omega, by omega⟩ ⟨by omega, by omega⟩ (ht.cs.mono (by omega)) n ⟨by omega, by omega⟩ W (hg.later hW) (hI.below (hW.mono hB))).mono ?_
        rintro e w' ⟨h1, h2, h3⟩
        exact ⟨h1, h2, _, _, ks, hks, h3⟩
  · refine (do_code R hR ia ic its hok hil B rb _ t.ls t.sh _ ks t.sl t.tk t.dp t.cs hcs tx n w hg hI hB kd hE).mono ?_
    rintro e w' ⟨h1, h2⟩
    have hA : actE R its ⟨kd, tx, n⟩ t = deedE R its kd tx n := by unfold actE; rw [if_pos hE]
    unfold stepO stepT
    rw [hA, if_neg hE, if_neg hE]
    exact ⟨h1, Fr.of h2, RgT.later ⟨_, _, ks, hks, hg⟩ h2⟩
end Go.Proofs.YtabpkfhbnendjaaGreat

/-
  Texts of this claim laid together: BeA.
-/
import Derived.Test.YtkfmifbffgbiiaaM34
import Derived.Test.YtkfmifbffgbiiaaM35
/-
  What the search has in memory: lists of numbers and of uses that nothing changes, the ways that are known.
-/
namespace Go.Proofs.Ytkfmifbffgbiiaa
open Go.ChangeShapes Go.WideShapes Go.ChangeAt Go.RowKit Go.Deep
set_option linter.unusedVariables false

/-- Numbers in memory: a piece of a row of numbers. -/
def RI (W : World) (a : Option Addr) (xs : List Nat) : Prop := xs = [] ∨ ∃ (b off : Nat) (cur : Array Value), a = some ⟨b, off, none⟩ ∧ W.heap[b]? = some (.cells cur 3 (0, 0)) ∧ ∀ i, i < xs.length → cur[off + i]? = some (.int .i64 ((xs.getD i 0 : Nat) : Int))
theorem RI.reads {W : World} {a : Option Addr} {xs : List Nat} (h : RI W a xs) : Reads W.heap.size W a (zN xs) := by
  rcases h with h | ⟨b, off, cur, ha, hb, hc⟩
  · left; rw [h]; rfl
  · right
    refine ⟨b, off, ha, blkLt hb, fun i hi => ?_⟩
    rw [zN_len] at hi
    rw [zN_get]
    exact blkCell hb _ _ (hc i hi)
theorem RI.of {W W' : World} {a : Option Addr} {xs : List Nat} (h : RI W a xs) (hk : ∀ (q : Nat) (cur : Array Value), W.heap[q]? = some (.cells cur 3 (0, 0)) → W'.heap[q]? = W.heap[q]?) : RI W' a xs := by
  rcases h with h | ⟨b, off, cur, ha, hb, hc⟩
  · exact .inl h
  · exact .inr ⟨b, off, cur, ha, (hk b cur hb).trans hb, hc⟩
def useAt (W : World) (cur : Array Value) (o : Nat) (u : Nat × List Nat) : Prop := ∃ h c, cur[o]? = some (.int .i64 (u.1 : Int)) ∧ cur[o + 1]? = some (.int .i64 0) ∧ cur[o + 2]? = some (.slice h u.2.length c) ∧ u.2.length ≤ c ∧ RI W h u.2
/-- Uses in memory. -/
def RU (W : World) (a : Option Addr) (U : List (Nat × List Nat)) : Prop := U = [] ∨ ∃ (b off : Nat) (cur : Array Value), a = some ⟨b, off, none⟩ ∧ W.heap[b]? = some (.cells cur 36 (0, 0)) ∧ ∀ i, i < U.length → useAt W cur (off + i * 3) (U.getD i (0, []))
theorem cu_get (U : List (Nat × List Nat)) (i : Nat) (hi : i < U.length) : (U.map cuOf).getD i zUs = cuOf (U.getD i (0, [])) := by simp [List.getD_eq_getElem?_getD, hi]
theorem RU.reads {W : World} {a : Option Addr} {U : List (Nat × List Nat)} (h : RU W a U) : ReadsUs W.heap.size W a (U.map cuOf) := by
  rcases h with h | ⟨b, off, cur, ha, hb, hc⟩
  · left; rw [h]; rfl
  · right
    refine ⟨b, off, ha, blkLt hb, fun i hi => ?_⟩
    rw [List.length_map] at hi
    obtain ⟨h, c, h0, h1, h2, h3, h4⟩ := hc i hi
    rw [cu_get U i hi]
    refine ⟨h, c, ⟨blkCell hb _ _ h0, blkCell hb _ _ h1, ?_⟩, ?_, ?_⟩
    · show W.cell? _ = some (.slice h (zN _).length c)
      rw [zN_len]; exact blkCell hb _ _ h2
    · show (zN _).length ≤ c
      rw [zN_len]; exact h3
    · exact h4.reads
theorem RU.of {W W' : World} {a : Option Addr} {U : List (Nat × List Nat)} (h : RU W a U) (hk : ∀ (q : Nat) (cur : Array Value), W.heap[q]? = some (.cells cur 3 (0, 0)) → W'.heap[q]? = W.heap[q]?) (hu : ∀ (q : Nat) (cur : Array Value), W.heap[q]? = some (.cells cur 36 (0, 0)) → W'.heap[q]? = W.heap[q]?) : RU W' a U := by
  rcases h with h | ⟨b, off, cur, ha, hb, hc⟩
  · exact .inl h
  · refine .inr ⟨b, off, cur, ha, (hu b cur hb).trans hb, fun i hi => ?_⟩
    obtain ⟨h, c, h0, h1, h2, h3, h4⟩ := hc i hi
    exact ⟨h, c, h0, h1, h2, h3, h4.of hk⟩
/-- X holds of no block of numbers, uses or such: at most of ways and of maps. -/
def Typ (W : World) (X : Nat → Prop) : Prop := ∀ (q : Nat) (cur : Array Value) (t : TypeId), W.heap[q]? = some (.cells cur t (0, 0)) → t ≠ 73 → ¬ X q
theorem Typ.keep {W W' : World} {X : Nat → Prop} (h : Typ W X) (hf : Fr X W W') {q : Nat} {cur : Array Value} {t : TypeId} (hq : W.heap[q]? = some (.cells cur t (0, 0))) (ht : t ≠ 73) : W'.heap[q]? = W.heap[q]? := hf.block q (blkLt hq) (h q cur t hq ht)
theorem RI.fr {W W' : World} {X : Nat → Prop} {a : Option Addr} {xs : List Nat} (h : RI W a xs) (ht : Typ W X) (hf : Fr X W W') : RI W' a xs := h.of (fun q cur hq => ht.keep hf hq (by decide))
theorem RU.fr {W W' : World} {X : Nat → Prop} {a : Option Addr} {U : List (Nat × List Nat)} (h : RU W a U) (ht : Typ W X) (hf : Fr X W W') : RU W' a U := h.of (fun q cur hq => ht.keep hf hq (by decide)) (fun q cur hq => ht.keep hf hq (by decide))
theorem RI.later {W W' : World} {a : Option Addr} {xs : List Nat} (h : RI W a xs) (hb : Below W.heap.size W W') : RI W' a xs := h.of (fun q cur hq => hb.block q (blkLt hq))
theorem RU.later {W W' : World} {a : Option Addr} {U : List (Nat × List Nat)} (h : RU W a U) (hb : Below W.heap.size W W') : RU W' a U := h.of (fun q cur hq => hb.block q (blkLt hq)) (fun q cur hq => hb.block q (blkLt hq))
/-- A way as a value. -/
def HoldsW (W : World) (v : Value) (y : Wy) : Prop := ∃ a c, v = .agg #[.int .i64 y.sv, .slice a y.us.length c] ∧ RU W a y.us
theorem HoldsW.fr {W W' : World} {X : Nat → Prop} {v : Value} {y : Wy} (h : HoldsW W v y) (ht : Typ W X) (hf : Fr X W W') : HoldsW W' v y := by
  obtain ⟨a, c, h1, h2⟩ := h
  exact ⟨a, c, h1, h2.fr ht hf⟩
def bitsN (l : List Nat) : Nat := l.foldl (fun b x => b ||| 2 ^ x) 0
def zWay : Value := .agg #[.int .i64 0, .slice none 0 0]
def cntF (f : Nat → Nat → Option Value) : Nat := ((List.range 16384).filter fun c => (f (c % 256) (c / 256)).isSome).length
theorem cnt_put (g : Nat → Bool) (c0 : Nat) (hg : g c0 = false) : ∀ N, ((List.range N).filter fun c => decide (c = c0) || g c).length = ((List.range N).filter g).length + if c0 < N then 1 else 0
  | 0 => rfl
  | N + 1 => by
    rw [List.range_succ, List.filter_append, List.filter_append, List.length_append, List.length_append, cnt_put g c0 hg N]
    by_cases h : N = c0
    · subst h
      rw [if_neg (by omega), if_pos (by omega)]
      simp [hg]
    · have e2 : ([N].filter fun c => decide (c = c0) || g c) = [N].filter g := List.filter_congr (fun c hc => by
        rw [List.mem_singleton.1 hc, decide_eq_false h, Bool.false_or])
      rw [e2]
      by_cases hl : c0 < N
      · rw [if_pos hl, if_pos (show c0 < N + 1 by omega)]; omega
      · rw [if_neg hl, if_neg (show ¬ c0 < N + 1 by omega)]; omega
theorem cntF_put {f : Nat → Nat → Option Value} {l s : Nat} (hl : l < 256) (hs : s < 64) (hf : f l s = none) (v : Value) : cntF (fun l' s' => if l' = l ∧ s' = s then some v else f l' s') = cntF f + 1 := by
  have h := cnt_put (fun c => (f (c % 256) (c / 256)).isSome) (l + 256 * s) (by
    rw [show (l + 256 * s) % 256 = l by omega, show (l + 256 * s) / 256 = s by omega, hf]; rfl) 16384
  rw [if_pos (by omega)] at h
  unfold cntF
  rw [← h]
  refine congrArg List.length (List.filter_congr (fun c hc => ?_))
  by_cases e : c = l + 256 * s
  · subst e
    rw [show (l + 256 * s) % 256 = l by omega, show (l + 256 * s) / 256 = s by omega]
    simp
  · have hne : ¬ (c % 256 = l ∧ c / 256 = s) := by omega
    dsimp only
    rw [if_neg hne, decide_eq_false e, Bool.false_or]
theorem cntF_le (f : Nat → Nat → Option Value) : cntF f ≤ 16384 := by
  unfold cntF
  have := List.length_filter_le (fun c => (f (c % 256) (c / 256)).isSome) (List.range 16384)
  rwa [List.length_range] at this
/-- The ways that are known. -/
def Memo (us : List RUn) (ds : List CDl) (W : World) (kb : Nat) : Prop := ∃ n f, MapS zWay W kb n f ∧ n ≤ cntF f ∧ ∀ l s v, f l s = some v → ∀ left, Ris us.length left → bitsN left = l → HoldsW W v (sr us ds left s)
theorem Memo.is {us : List RUn} {ds : List CDl} {W : World} {kb : Nat} (h : Memo us ds W kb) : ∃ es ck, W.heap[kb]? = some (.map es ck) := by
  obtain ⟨n, f, h1, _⟩ := h
  exact h1.is
theorem Memo.fr {us : List RUn} {ds : List CDl} {W W' : World} {kb : Nat} {X : Nat → Prop} (h : Memo us ds W kb) (ht : Typ W X) (hf : Fr X W W') (hx : ¬ X kb) : Memo us ds W' kb := by
  obtain ⟨n, f, h1, h2, h3⟩ := h
  exact ⟨n, f, h1.block (hf.block kb h1.lt hx), h2, fun l s v hv left hr hb => (h3 l s v hv left hr hb).fr ht hf⟩
theorem typ_map {W : World} {kb : Nat} (h : ∃ es ck, W.heap[kb]? = some (.map es ck)) : Typ W (fun q => q = kb) := fun q cur t hq _ e => by
  obtain ⟨es, ck, h⟩ := h
  rw [e, h] at hq
  simp at hq
theorem typ_both {W : World} {kb bb : Nat} (h : ∃ es ck, W.heap[kb]? = some (.map es ck)) (hb : ∃ cur, W.heap[bb]? = some (.cells cur 73 (0, 0))) : Typ W (fun q => q = kb ∨ q = bb) := fun q cur t hq ht e => by
  rcases e with e | e
  · exact typ_map h q cur t hq ht e
  · obtain ⟨c2, hb⟩ := hb
    rw [e, hb] at hq
    simp at hq
    exact ht hq.2.symm
/-- Where the search's things are. -/
structure Cx where
  B0 : Nat
  w0 : World
  us : List RUn
  ds : List CDl
  ua : Option Addr
  da : Option Addr
  uc : Nat
  dc : Nat
  ub : Nat
  db : Nat
  kx : Nat
  sb : Nat
  kb : Nat
/-- The search itself, as a value. -/
def Cx.fn (C : Cx) : Value := .func (.func 36) #[] #[.pointer (some ⟨C.kx, 0, none⟩), .pointer (some ⟨C.sb, 0, none⟩), .pointer (some ⟨C.db, 0, none⟩), .pointer (some ⟨C.ub, 0, none⟩)]
structure CxOK (C : Cx) : Prop where
  hu : unAll C.us = true
  hd : dlAll C.ds = true
  uk : ∀ r ∈ C.us, UnOK r
  dk : ∀ r ∈ C.ds, DlOK r
  ru : ReadsUn C.B0 C.w0 C.ua C.us
  rd : ReadsDl C.B0 C.w0 C.da C.ds
  lkb : C.B0 ≤ C.kb
/-- What the search finds in memory. -/
structure Env (C : Cx) (W : World) : Prop where
  ubx : W.heap[C.ub]? = some (.cells #[.slice C.ua C.us.length C.uc] 23 (0, 0))
  dbx : W.heap[C.db]? = some (.cells #[.slice C.da C.ds.length C.dc] 24 (0, 0))
  kbx : W.heap[C.kx]? = some (.cells #[.map (some C.kb)] 69 (0, 0))
  sbx : W.heap[C.sb]? = some (.cells #[C.fn] 70 (0, 0))
  low : Below C.B0 C.w0 W
  top : C.B0 ≤ W.heap.size
  memo : Memo C.us C.ds W C.kb
theorem Env.fr {C : Cx} {W W' : World} {X : Nat → Prop} (h : Env C W) (ht : Typ W X) (hf : Fr X W W') (hX : ∀ q, X q → C.B0 ≤ q) (hm : Memo C.us C.ds W' C.kb) : Env C W' :=
  ⟨(ht.keep hf h.ubx (by decide)).trans h.ubx, (ht.keep hf h.dbx (by decide)).trans h.dbx, (ht.keep hf h.kbx (by decide)).trans h.kbx, (ht.keep hf h.sbx (by decide)).trans h.sbx, Fr.below h.low hf h.top hX, Nat.le_trans h.top hf.size, hm⟩
theorem Env.later {C : Cx} {W W' : World} (h : Env C W) (hb : Below W.heap.size W W') : Env C W' :=
  h.fr (X := fun _ => False) (fun _ _ _ _ _ e => e) (Fr.of hb) (fun _ e => e.elim) (h.memo.fr (X := fun _ => False) (fun _ _ _ _ _ e => e) (Fr.of hb) (fun e => e))
end Go.Proofs.Ytkfmifbffgbiiaa

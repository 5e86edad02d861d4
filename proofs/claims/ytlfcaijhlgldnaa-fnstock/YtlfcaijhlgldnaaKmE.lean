/-
  Stock in the midst of its acts, as the program keeps it in memory.
-/
import Derived.Test.YtlfcaijhlgldnaaKmB
import Derived.Test.YtlfcaijhlgldnaaKmD
namespace Go.Proofs.Ytlfcaijhlgldnaa
open Go.ChangeShapes Go.WideShapes Go.ChangeAt Go.RowKit Go.Deep
set_option linter.unusedVariables false

/-- Block mb is the map of the lots L. -/
def LotsIs (W : World) (mb : Nat) (L : List RSl) : Prop :=
  ∃ f, MapL W mb L.length f ∧ (∀ i, i < L.length → f (gl L i).ar (gl L i).lt = some (lotV (gl L i))) ∧ ∀ s c, (∀ i, i < L.length → ¬ ((gl L i).ar = s ∧ (gl L i).lt = c)) → f s c = none
theorem LotsIs.block {W W' : World} {mb : Nat} {L : List RSl} (h : LotsIs W mb L) (e : W'.heap[mb]? = W.heap[mb]?) : LotsIs W' mb L := by
  obtain ⟨f, h1, h2, h3⟩ := h
  exact ⟨f, h1.block e, h2, h3⟩
theorem LotsIs.lt {W : World} {mb : Nat} {L : List RSl} (h : LotsIs W mb L) : mb < W.heap.size := by obtain ⟨f, h1, _⟩ := h; exact h1.lt
theorem LotsIs.is {W : World} {mb : Nat} {L : List RSl} (h : LotsIs W mb L) : ∃ es clock, W.heap[mb]? = some (.map es clock) := by obtain ⟨f, h1, _⟩ := h; exact h1.is
theorem SlN.key {r : RSl} (h : SlN r) : KeyOK r.ar r.lt := ⟨wfI_of _ (by have := h.lt; omega) (by have := h.lt'; omega), by have := h.ar; unfold maxLen; omega⟩
theorem LotsIs.get {W : World} {mb : Nat} {L : List RSl} (h : LotsIs W mb L) {i : Nat} (hi : i < L.length) (hk : KeyOK (gl L i).ar (gl L i).lt) :
    (Instr.lookup 54 (.map (some mb)) (.agg #[.string (gl L i).ar, .int .i64 (gl L i).lt]) false).run Try.prog W = .ok (lotV (gl L i)) W := by
  obtain ⟨f, h1, h2, _⟩ := h
  have := h1.get hk
  rw [h2 i hi] at this
  exact this
theorem LotsIs.look {W : World} {mb : Nat} {L : List RSl} (h : LotsIs W mb L) {i : Nat} (hi : i < L.length) (hk : KeyOK (gl L i).ar (gl L i).lt) :
    (Instr.lookup 54 (.map (some mb)) (.agg #[.string (gl L i).ar, .int .i64 (gl L i).lt]) true).run Try.prog W = .ok (.tuple #[lotV (gl L i), .bool true]) W := by
  obtain ⟨f, h1, h2, _⟩ := h
  have := h1.look hk
  rw [h2 i hi] at this
  exact this
theorem LotsIs.none {W : World} {mb : Nat} {L : List RSl} (h : LotsIs W mb L) {s : ByteArray} {c : Int} (hn : ∀ i, i < L.length → ¬ ((gl L i).ar = s ∧ (gl L i).lt = c)) (hk : KeyOK s c) :
    (Instr.lookup 54 (.map (some mb)) (.agg #[.string s, .int .i64 c]) true).run Try.prog W = .ok (.tuple #[.nilIface, .bool false]) W := by
  obtain ⟨f, h1, _, h3⟩ := h
  have := h1.look hk
  rw [h3 s c hn] at this
  exact this
theorem LotsIs.len {W : World} {mb : Nat} {L : List RSl} (h : LotsIs W mb L) (ty : TypeId) : (Builtin.len_ #[54] ty #[.map (some mb)]).run Try.prog W = .ok (.int .i64 (L.length : Int)) W := by
  obtain ⟨f, h1, _⟩ := h
  exact h1.len ty
theorem LotsIs.put {W : World} {mb : Nat} {L : List RSl} (h : LotsIs W mb L) (hd : Dst L) (hl : L.length ≤ 1000) {i : Nat} (hi : i < L.length) (hk : KeyOK (gl L i).ar (gl L i).lt) {r : RSl} (ha : r.ar = (gl L i).ar) (hlt : r.lt = (gl L i).lt) :
    ∃ w', (Instr.mapUpdate 54 (.map (some mb)) (.agg #[.string (gl L i).ar, .int .i64 (gl L i).lt]) (lotV r)).run Try.prog W = .ok () w' ∧ LotsIs w' mb (L.set i r) ∧ W.grownBy w' (some mb) := by
  obtain ⟨f, h1, h2, h3⟩ := h
  obtain ⟨w', hrun, hm, hg⟩ := h1.put (by unfold maxLen; omega) hk (lotV r)
  rw [h2 i hi] at hm
  refine ⟨w', hrun, ⟨fun s' c' => if s' = (gl L i).ar ∧ c' = (gl L i).lt then some (lotV r) else f s' c', by rw [List.length_set]; exact hm, fun j hj => ?_, fun s c hn => ?_⟩, hg⟩
  · rw [List.length_set] at hj
    rw [gl_set hi]
    dsimp only
    by_cases e : j = i
    · subst e
      rw [if_pos rfl, if_pos ⟨ha, hlt⟩]
    · rw [if_neg e, if_neg (fun q => e (hd j i hj hi q.1 q.2))]
      exact h2 j hj
  · dsimp only
    have hne : ¬ (s = (gl L i).ar ∧ c = (gl L i).lt) := fun q => by
      have := hn i (by rw [List.length_set]; exact hi)
      rw [gl_set hi, if_pos rfl] at this
      exact this ⟨ha.trans q.1.symm, hlt.trans q.2.symm⟩
    rw [if_neg hne]
    refine h3 s c (fun j hj q => ?_)
    by_cases e : j = i
    · subst e; exact hne ⟨q.1.symm, q.2.symm⟩
    · have := hn j (by rw [List.length_set]; exact hj)
      rw [gl_set hi, if_neg e] at this
      exact this q
theorem LotsIs.add {W : World} {mb : Nat} {L : List RSl} (h : LotsIs W mb L) (hl : L.length ≤ 1000) {r : RSl} (hk : KeyOK r.ar r.lt) (hn : ∀ i, i < L.length → ¬ ((gl L i).ar = r.ar ∧ (gl L i).lt = r.lt)) :
    ∃ w', (Instr.mapUpdate 54 (.map (some mb)) (.agg #[.string r.ar, .int .i64 r.lt]) (lotV r)).run Try.prog W = .ok () w' ∧ LotsIs w' mb (L ++ [r]) ∧ W.grownBy w' (some mb) := by
  obtain ⟨f, h1, h2, h3⟩ := h
  obtain ⟨w', hrun, hm, hg⟩ := h1.put (by unfold maxLen; omega) hk (lotV r)
  rw [h3 r.ar r.lt hn] at hm
  refine ⟨w', hrun, ⟨fun s' c' => if s' = r.ar ∧ c' = r.lt then some (lotV r) else f s' c', by rw [List.length_append]; exact hm, fun j hj => ?_, fun s c hq => ?_⟩, hg⟩
  · rw [gl_push]
    dsimp only
    by_cases e : j < L.length
    · rw [if_pos e, if_neg (hn j e)]
      exact h2 j e
    · rw [List.length_append, List.length_singleton] at hj
      obtain rfl : j = L.length := by omega
      simp only [Nat.lt_irrefl, if_false, if_true, and_self]
  · dsimp only
    have hne : ¬ (s = r.ar ∧ c = r.lt) := fun q => by
      have := hq L.length (by rw [List.length_append]; simp)
      rw [gl_push, if_neg (by omega), if_pos rfl] at this
      exact this ⟨q.1.symm, q.2.symm⟩
    rw [if_neg hne]
    refine h3 s c (fun j hj q => ?_)
    have := hq j (by rw [List.length_append]; simp; omega)
    rw [gl_push, if_pos hj] at this
    exact this q
theorem LotsIs.del' {W : World} {mb : Nat} {L : List RSl} (h : LotsIs W mb L) (hd : Dst L) {i : Nat} (hi : i < L.length) (hk : KeyOK (gl L i).ar (gl L i).lt) :
    ∃ w', (∀ ty, (Builtin.delete_ #[54, 82] ty #[.map (some mb), .agg #[.string (gl L i).ar, .int .i64 (gl L i).lt]]).run Try.prog W = .ok (.tuple #[]) w') ∧ LotsIs w' mb (L.take i ++ L.drop (i + 1)) ∧ W.grownBy w' (some mb) := by
  obtain ⟨f, h1, h2, h3⟩ := h
  obtain ⟨w', hrun, hm, hg⟩ := h1.del hk (by rw [h2 i hi]; rfl)
  refine ⟨w', hrun, ⟨fun s' c' => if s' = (gl L i).ar ∧ c' = (gl L i).lt then Option.none else f s' c', by rw [cut_len hi]; exact hm, fun j hj => ?_, fun s c hq => ?_⟩, hg⟩
  · rw [cut_len hi] at hj
    rw [gl_cut hi]
    dsimp only
    by_cases e : j < i
    · rw [if_pos e, if_neg (fun q => by have := hd j i (by omega) hi q.1 q.2; omega)]
      exact h2 j (by omega)
    · rw [if_neg e, if_neg (fun q => by have := hd (j + 1) i (by omega) hi q.1 q.2; omega)]
      exact h2 (j + 1) (by omega)
  · dsimp only
    by_cases e : s = (gl L i).ar ∧ c = (gl L i).lt
    · rw [if_pos e]
    · rw [if_neg e]
      refine h3 s c (fun j hj q => ?_)
      rcases Nat.lt_trichotomy j i with g | g | g
      · have := hq j (by rw [cut_len hi]; omega)
        rw [gl_cut hi, if_pos g] at this
        exact this q
      · subst g; exact e ⟨q.1.symm, q.2.symm⟩
      · have := hq (j - 1) (by rw [cut_len hi]; omega)
        rw [gl_cut hi, if_neg (by omega), show j - 1 + 1 = j by omega] at this
        exact this q
/-! ### The whole -/
def runV (σ : StS) (mb ub : Nat) (ov : Value) : Array Value := #[.int .i64 σ.day, .int .i64 σ.rc, .int .i64 σ.sd, .int .i64 σ.wa, .int .i64 σ.sh, .slice none 0 0, .map (some mb), ov, .map (some ub)]
structure Rn (B rb mb ub : Nat) (σ : StS) (ov : Value) (W : World) : Prop where
  blk : W.heap[rb]? = some (.cells (runV σ mb ub ov) 58 (0, 0))
  ord : W.ownsRow B 82 2 ov σ.L.length (kyCells σ.L)
  map : LotsIs W mb σ.L
  uni : ∃ n g, MapI W ub n g
  ne : mb ≠ ub
  low : B ≤ rb ∧ B ≤ mb ∧ B ≤ ub
/-- The blocks that an act may turn. -/
def RnX (rb mb ub : Nat) (ov : Value) (k : Nat) : Prop := k = rb ∨ k = mb ∨ k = ub ∨ ov.ownBlock = some k
theorem Rn.lt {B rb mb ub : Nat} {σ : StS} {ov : Value} {W : World} (h : Rn B rb mb ub σ ov W) : ∀ k, RnX rb mb ub ov k → B ≤ k ∧ k < W.heap.size := by
  rintro k (rfl | rfl | rfl | q)
  · exact ⟨h.low.1, blkLt h.blk⟩
  · exact ⟨h.low.2.1, h.map.lt⟩
  · obtain ⟨n, g, hg⟩ := h.uni
    exact ⟨h.low.2.2, hg.lt⟩
  · exact row_lt h.ord k q
theorem Rn.same {B rb mb ub : Nat} {σ : StS} {ov : Value} {W W' : World} (h : Rn B rb mb ub σ ov W) (hk : ∀ k, RnX rb mb ub ov k → W'.heap[k]? = W.heap[k]?) : Rn B rb mb ub σ ov W' := by
  obtain ⟨n, g, hg⟩ := h.uni
  exact ⟨(hk rb (.inl rfl)).trans h.blk, row_of h.ord (fun q hq => hk q (.inr (.inr (.inr hq)))), h.map.block (hk mb (.inr (.inl rfl))), ⟨n, g, hg.block (hk ub (.inr (.inr (.inl rfl))))⟩, h.ne, h.low⟩
theorem Rn.later {B rb mb ub : Nat} {σ : StS} {ov : Value} {W W' : World} (h : Rn B rb mb ub σ ov W) (hb : Below W.heap.size W W') : Rn B rb mb ub σ ov W' := h.same (fun k hk => hb.block k (h.lt k hk).2)
structure RnD (rb mb ub : Nat) (ov : Value) : Prop where
  rm : rb ≠ mb
  ru : rb ≠ ub
  mu : mb ≠ ub
  ro : ov.ownBlock ≠ some rb
  mo : ov.ownBlock ≠ some mb
  uo : ov.ownBlock ≠ some ub
theorem Rn.dis {B rb mb ub : Nat} {σ : StS} {ov : Value} {W : World} (h : Rn B rb mb ub σ ov W) : RnD rb mb ub ov := by
  obtain ⟨n, g, hg⟩ := h.uni
  obtain ⟨es, ck, hm⟩ := h.map.is
  obtain ⟨es2, ck2, hu⟩ := hg.is
  have hb := h.blk
  refine ⟨fun e => ?_, fun e => ?_, h.ne, fun e => ?_, fun e => ?_, fun e => ?_⟩
  · rw [e, hm] at hb; cases hb
  · rw [e, hu] at hb; cases hb
  · obtain ⟨cur, hc⟩ := row_type h.ord e
    rw [hb] at hc
    simp at hc
  · obtain ⟨cur, hc⟩ := row_type h.ord e
    rw [hm] at hc; cases hc
  · obtain ⟨cur, hc⟩ := row_type h.ord e
    rw [hu] at hc; cases hc
/-- Cells of the struct have turned, no list. -/
theorem Rn.cells {B rb mb ub : Nat} {σ σ' : StS} {ov : Value} {W W' : World} (h : Rn B rb mb ub σ ov W) (hf : Fr (fun k => k = rb) W W') (hb : W'.heap[rb]? = some (.cells (runV σ' mb ub ov) 58 (0, 0))) (hL : σ'.L = σ.L) : Rn B rb mb ub σ' ov W' := by
  have d := h.dis
  obtain ⟨n, g, hg⟩ := h.uni
  refine ⟨hb, ?_, ?_, ⟨n, g, hg.block (hf.block ub hg.lt (Ne.symm d.ru))⟩, h.ne, h.low⟩
  · rw [hL]; exact row_of h.ord (fun q hq => hf.block q (row_lt h.ord q hq).2 (fun e => d.ro (by rw [hq, e])))
  · rw [hL]; exact h.map.block (hf.block mb h.map.lt (Ne.symm d.rm))
theorem frSet (W : World) (rb j : Nat) (v : Value) : Fr (fun k => k = rb) W (W.setCell ⟨rb, j, none⟩ v) := (Fr.refl (fun k => k = rb) W).set (b := rb) rfl _ _
theorem Rn.setDay {B rb mb ub : Nat} {σ : StS} {ov : Value} {W : World} (h : Rn B rb mb ub σ ov W) (x : Int) : Rn B rb mb ub { σ with day := x } ov (W.setCell ⟨rb, 0, none⟩ (.int .i64 x)) :=
  h.cells (frSet _ _ _ _) (heap_setCell_same _ _ _ _ _ _ h.blk) rfl
theorem Rn.setRc {B rb mb ub : Nat} {σ : StS} {ov : Value} {W : World} (h : Rn B rb mb ub σ ov W) (x : Int) : Rn B rb mb ub { σ with rc := x } ov (W.setCell ⟨rb, 1, none⟩ (.int .i64 x)) :=
  h.cells (frSet _ _ _ _) (heap_setCell_same _ _ _ _ _ _ h.blk) rfl
theorem Rn.setSd {B rb mb ub : Nat} {σ : StS} {ov : Value} {W : World} (h : Rn B rb mb ub σ ov W) (x : Int) : Rn B rb mb ub { σ with sd := x } ov (W.setCell ⟨rb, 2, none⟩ (.int .i64 x)) :=
  h.cells (frSet _ _ _ _) (heap_setCell_same _ _ _ _ _ _ h.blk) rfl
theorem Rn.setWa {B rb mb ub : Nat} {σ : StS} {ov : Value} {W : World} (h : Rn B rb mb ub σ ov W) (x : Int) : Rn B rb mb ub { σ with wa := x } ov (W.setCell ⟨rb, 3, none⟩ (.int .i64 x)) :=
  h.cells (frSet _ _ _ _) (heap_setCell_same _ _ _ _ _ _ h.blk) rfl
theorem Rn.setSh {B rb mb ub : Nat} {σ : StS} {ov : Value} {W : World} (h : Rn B rb mb ub σ ov W) (x : Int) : Rn B rb mb ub { σ with sh := x } ov (W.setCell ⟨rb, 4, none⟩ (.int .i64 x)) :=
  h.cells (frSet _ _ _ _) (heap_setCell_same _ _ _ _ _ _ h.blk) rfl
theorem Rn.free {B rb mb ub : Nat} {σ : StS} {ov : Value} {W : World} (h : Rn B rb mb ub σ ov W) (j : Nat) : W.frozen? ⟨rb, j, none⟩ = false := blkFree h.blk j
structure RnC (rb mb ub : Nat) (σ : StS) (ov : Value) (W : World) : Prop where
  c0 : W.cell? ⟨rb, 0, none⟩ = some (.int .i64 σ.day)
  c1 : W.cell? ⟨rb, 1, none⟩ = some (.int .i64 σ.rc)
  c2 : W.cell? ⟨rb, 2, none⟩ = some (.int .i64 σ.sd)
  c3 : W.cell? ⟨rb, 3, none⟩ = some (.int .i64 σ.wa)
  c4 : W.cell? ⟨rb, 4, none⟩ = some (.int .i64 σ.sh)
  c5 : W.cell? ⟨rb, 5, none⟩ = some (.slice none 0 0)
  c6 : W.cell? ⟨rb, 6, none⟩ = some (.map (some mb))
  c7 : W.cell? ⟨rb, 7, none⟩ = some ov
  c8 : W.cell? ⟨rb, 8, none⟩ = some (.map (some ub))
theorem Rn.at {B rb mb ub : Nat} {σ : StS} {ov : Value} {W : World} (h : Rn B rb mb ub σ ov W) : RnC rb mb ub σ ov W :=
  ⟨blkCell h.blk 0 _ rfl, blkCell h.blk 1 _ rfl, blkCell h.blk 2 _ rfl, blkCell h.blk 3 _ rfl, blkCell h.blk 4 _ rfl, blkCell h.blk 5 _ rfl, blkCell h.blk 6 _ rfl, blkCell h.blk 7 _ rfl, blkCell h.blk 8 _ rfl⟩
/-- The map alone has turned; the keys are the same. -/
theorem Rn.turned {B rb mb ub : Nat} {σ : StS} {ov : Value} {W W' : World} (h : Rn B rb mb ub σ ov W) {L' : List RSl} (hf : Fr (fun k => k = mb) W W') (hm : LotsIs W' mb L') (hl : L'.length = σ.L.length) (hk : kyCells L' = kyCells σ.L) : Rn B rb mb ub { σ with L := L' } ov W' := by
  have d := h.dis
  obtain ⟨n, g, hg⟩ := h.uni
  refine ⟨(hf.block rb (blkLt h.blk) d.rm).trans h.blk, ?_, hm, ⟨n, g, hg.block (hf.block ub hg.lt (Ne.symm d.mu))⟩, h.ne, h.low⟩
  show W'.ownsRow B 82 2 ov L'.length (kyCells L')
  rw [hl, hk]; exact row_of h.ord (fun q hq => hf.block q (row_lt h.ord q hq).2 (fun e => d.mo (by rw [hq, e])))
theorem Rn.frX {B rb mb ub : Nat} {σ : StS} {ov : Value} {W : World} (h : Rn B rb mb ub σ ov W) {w W' : World} (hf : Fr (RnX rb mb ub ov) W W') (hb : Below w.heap.size w W) : Fr (RnX rb mb ub ov) w W' := (Fr.of hb).trans hf
end Go.Proofs.Ytlfcaijhlgldnaa

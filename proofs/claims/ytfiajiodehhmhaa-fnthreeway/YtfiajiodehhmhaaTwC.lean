/-
  Contracts of the library's Grow and Concat at lines, of Sort and Compact at texts, of the program's articlesOf.
-/
import Derived.Test.YtfiajiodehhmhaaTwB
import Derived.Test.YtfiajiodehhmhaaShelfT
import Derived.Lib.AppendZerosOnto
import Derived.Lib.OwnBridge
import Derived.Lib.RowBridge
import Derived.Laws.OwnMore
namespace Go.Proofs.Ytfiajiodehhmhaa
open Go.ChangeShapes Go.WideShapes Go.ChangeAt Go.RowKit Go.Joins Go.Deep Go.Sort Go.Shelf
set_option linter.unusedVariables false

/-- The cells of lines. -/
def dcC (rs : List RDc) : List Value := (rs.map fun r => [Value.string r.ar, .int .i64 r.un, .int .i64 r.am]).flatten
theorem dcC_len (rs : List RDc) : (dcC rs).length = rs.length * 3 := by
  induction rs with
  | nil => rfl
  | cons r rs ih => unfold dcC at *; simp only [List.map_cons, List.flatten_cons, List.length_append, List.length_cons, List.length_nil, ih]; omega
theorem dcC_app (a b : List RDc) : dcC (a ++ b) = dcC a ++ dcC b := by unfold dcC; rw [List.map_append, List.flatten_append]
theorem dcC_one (rs : List RDc) : ∀ u ∈ dcC rs, u.oneCell' = true := by
  intro u hu
  unfold dcC at hu
  simp only [List.mem_flatten, List.mem_map] at hu
  obtain ⟨l, ⟨r, _, rfl⟩, hu⟩ := hu
  simp at hu
  rcases hu with rfl | rfl | rfl <;> rfl
theorem dcC_news {w : World} {b : Nat} : ∀ (rs : List RDc) (o : Nat), DcsAt w b o rs → ∀ j u, (dcC rs)[j]? = some u → w.cell? ((⟨b, o, none⟩ : Addr).add j) = some u
  | [], o, _, j, u, hu => by simp [dcC] at hu
  | r :: rs, o, h, j, u, hu => by
    have e : dcC (r :: rs) = Value.string r.ar :: .int .i64 r.un :: .int .i64 r.am :: dcC rs := by unfold dcC; simp
    rw [e] at hu
    obtain ⟨h0, h1, h2⟩ := h 0 (by simp)
    simp at h0 h1 h2
    match j, hu with
    | 0, hu => simp at hu; subst hu; simpa [Addr.add] using h0
    | 1, hu => simp at hu; subst hu; simpa [Addr.add] using h1
    | 2, hu => simp at hu; subst hu; simpa [Addr.add] using h2
    | j + 3, hu =>
      have ht : DcsAt w b (o + 3) rs := fun i hi => by
        have := h (i + 1) (by simpa using hi)
        have e2 : o + (i + 1) * 3 = o + 3 + i * 3 := by omega
        rw [e2] at this
        simpa using this
      have := dcC_news rs (o + 3) ht j u (by simpa using hu)
      rw [Go.WideShapes.add_plain] at this ⊢
      rwa [show o + (j + 3) = o + 3 + j by omega]
def OneD (w : World) (B : Nat) (v : Value) (L : List RDc) (wr : World) : Prop :=
  wr.ownsRow B 80 3 v L.length (dcC L) ∧ B ≤ wr.heap.size ∧ Below B w wr
theorem wpList_pushD {ops : Array Oper} {rest : List Oper} {o : Oper} {a : Act} {Q : Exit → Act → World → Prop} (hgd : o.guard = none) (s x : Operand)
    (ho : o.op = .call { callee := .builtin .append, args := #[s, x], argTypes := #[31, 31] }) (w0 : World) (B : Nat) (v : Value) (L : List RDc) (wr : World) (b off c : Nat) (rs : List RDc) (h : OneD w0 B v L wr) (hr : DcsAt wr b off rs) (hL : L.length + rs.length ≤ 1000000) (hs : a.eval s = v) (hx : a.eval x = .slice (some ⟨b, off, none⟩) rs.length c)
    (K : ∀ v' w', OneD w0 B v' (L ++ rs) w' → wpList Try.prog ops Q rest (a.put o.dst v') w') : wpList Try.prog ops Q (o :: rest) a wr := by
  obtain ⟨i0, hi, hzz⟩ := Option.map_eq_some_iff.1 dcInfo
  simp only [Prod.mk.injEq] at hzz
  obtain ⟨hi0, hi1, hi2⟩ := hzz
  refine wpList_append_own_at _ hgd s x 31 ho B 80 i0 _ 3 32 Try.underlying31 hi hi0 hi1 hi2 rfl (by decide) v L.length _ hs h.1 ⟨b, off, none⟩ rs.length c (dcC rs) hx (dcC_len rs) (dcC_news rs off hr) (dcC_one rs) (by unfold maxLen; omega) (by omega) h.2.1 ?_
  intro v' w' h1 h2 _ _
  refine K v' w' ⟨?_, Nat.le_trans h.2.1 h2.size, h.2.2.grown h2 h.2.1 (fun q hq => (h.1.lt q hq).1)⟩
  rw [List.length_append, dcC_app]; exact h1
set_option maxHeartbeats 4000000 in
set_option maxRecDepth 100000 in
theorem growNil_any (n : Nat) (hn : n ≤ 100000) (w : World) :
    Calls Try.prog 126 #[.slice none 0 0, .int .i64 (n : Int)] w fun e w' => ∃ v, e = .returned v ∧ OneD w w.heap.size v [] w' := by
  by_cases h0 : n = 0
  · subst h0
    go_enter Try.func126, Try.ntmps126
    go_wp2
    go_ret
    exact ⟨_, rfl, ⟨rfl, .inl ⟨rfl, rfl⟩⟩, Nat.le_refl _, Below.refl _ _⟩
  · obtain ⟨i0, hi, hzz⟩ := Option.map_eq_some_iff.1 dcInfo
    simp only [Prod.mk.injEq] at hzz
    obtain ⟨hi0, hi1, hi2⟩ := hzz
    have hold : (Builtin.firstCells i0.size 0 (.slice none 0 0)).run Try.prog w.drew = .ok ([] : List Value).toArray w.drew := run_firstCells_none w.drew i0.size 0 0 0
    have hrz := fun ty => Lib.run_append_grow_zeros w 31 3 ty 80 i0 (.agg #[.string ⟨#[]⟩, .int .i64 0, .int .i64 0]) .i64 .i64 Try.underlying31 Try.underlying3 hi hi0 none 0 0 [] hold n (by omega) (by omega) (by omega) (by omega) (by rw [hi2]; omega) (growslice_fits (by omega) (by rw [hi2]; omega))
    have hG1 : n ≤ grownCap w (0 + n) 0 80 := by have := grownCap_ge w (0 + n) 0 80; omega
    have hG2 : grownCap w (0 + n) 0 80 ≤ maxLen := grownCap_le_maxLen w (0 + n) 0 80 (by unfold maxLen; omega)
    generalize grownCap w (0 + n) 0 80 = G at *
    have hsz : (#[] ++ Builtin.zeroCells (Value.agg #[.string ⟨#[]⟩, .int .i64 0, .int .i64 0]).cells n ++ Builtin.zeroCells (Value.agg #[.string ⟨#[]⟩, .int .i64 0, .int .i64 0]).cells (G - (0 + n)) : Array Value).size = G * 3 := by
      rw [Array.size_append, Array.size_append, size_zeroCells, size_zeroCells]
      show 0 + n * 3 + (G - (0 + n)) * 3 = G * 3
      omega
    obtain ⟨cur, hcur⟩ : ∃ cur, cur = (#[] ++ Builtin.zeroCells (Value.agg #[.string ⟨#[]⟩, .int .i64 0, .int .i64 0]).cells n ++ Builtin.zeroCells (Value.agg #[.string ⟨#[]⟩, .int .i64 0, .int .i64 0]).cells (G - (0 + n)) : Array Value) := ⟨_, rfl⟩
    have hrz' : ∀ ty, (Builtin.append_ #[31, 3] ty #[.slice none 0 0, .int .i64 (n : Int)]).run Try.prog w = .ok (.slice (some ⟨w.heap.size, 0, none⟩) n G) (w.drew.alloc (.cells cur 80)) := fun ty => by
      have := hrz ty
      rw [Nat.zero_add] at this
      rw [hcur, Nat.zero_add]; exact this
    rw [← hcur] at hsz
    clear hrz hcur hold
    have hw1 : IntKind.i64.wrap (n : Int) = (n : Int) := wrap_id _ (by omega) (by omega)
    have l1 : ¬ (n : Int) < 0 := by omega
    have l2 : (0 : Int) < (n : Int) := by omega
    unfold maxLen at hG2
    go_enter Try.func126, Try.ntmps126
    go_wp2_with (at_builtin; refine Lib.wpList_append_run _ rfl _ _ _ _ rfl _ _ rfl rfl _ _ (hrz' _) ?_)
    all_goals
      go_ret
      refine ⟨_, rfl, ⟨rfl, .inr ⟨w.heap.size, G, cur, rfl, Nat.le_refl _, heapNew w.drew _, Nat.zero_le _, by unfold maxLen; omega, hsz, by simp [dcC]⟩⟩, ?_, ?_⟩
      · simp
      · exact (below_drew w).trans ((below_alloc w.drew _).mono (Nat.le_refl _))
end Go.Proofs.Ytfiajiodehhmhaa

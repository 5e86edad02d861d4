/-
  Texts of this claim laid together: AppTl, TvL.
-/
import Derived.Test.YtabpkfhbnendjaaGreatM24
import Derived.Deep.AppendLies
import Derived.Laws.AppendOwnNone
import Derived.Test.YtabpkfhbnendjaaGreatM26
/-
  'append(us, xs...)' whatever the number of xs, none too, and whether one of them is nil or not; nothing of the program is in it.
-/
namespace Go.Proofs.YtabpkfhbnendjaaGreat
open Go.ChangeShapes Go.WideShapes Go.ChangeAt Go.RowKit Go.Deep
set_option linter.unusedVariables false

theorem run_append_zero {P : Program} {w : World} (base : Nat) (t ty e : TypeId) (i : TypeInfo) (size : Nat) (ht : P.underlying t = some (.slice e)) (hi : P.info? e = some i) (v : Value) (n : Nat) (xs : List Value) (hown : w.ownsRow base e size v n xs) (xa : Option Addr) (c : Nat) :
    (Builtin.append_ #[t, t] ty #[v, .slice xa 0 c]).run P w = .ok v w := by
  obtain ⟨_, hf⟩ := hown
  rcases hf with ⟨rfl, rfl⟩ | ⟨g, cap, cur, rfl, _, hg, hc, _⟩
  · cases xa <;> simp [Builtin.append_, run_underlying ht, sizeOf, typeInfo, hi, Builtin.lenOf, Builtin.firstCells, loadCells, loadCellsFrom]
  · cases xa <;> simp [Builtin.append_, run_underlying ht, sizeOf, typeInfo, hi, Builtin.lenOf, Builtin.firstCells, storeCells, loadCells, loadCellsFrom, hc]
theorem wp_append_any {P : Program} {w : World} {o : Oper} {a : Act} {K : Act → World → Prop} {Q : Exit → Act → World → Prop} (s x : Operand) (t : TypeId)
    (ho : o.op = .call { callee := .builtin .append, args := #[s, x], argTypes := #[t, t] })
    (base : Nat) (e : TypeId) (i : TypeInfo) (z : Value) (size bytes : Nat) (ht : P.underlying t = some (.slice e)) (hi : P.info? e = some i) (hz : i.zero = some z)
    (hsize : i.size = size) (hby : i.bytes = bytes) (hzs : z.cells.size = size) (hsz : 0 < size)
    (v : Value) (n : Nat) (xs : List Value) (hs : a.eval s = v) (hown : w.ownsRow base e size v n xs)
    (xa : Option Addr) (m c : Nat) (news : List Value) (hx : a.eval x = .slice xa m c) (hl : news.length = m * size) (hnews : 0 < m → ∃ ad, xa = some ad ∧ ∀ j u, news[j]? = some u → w.cell? (ad.add j) = some u) (h1 : ∀ u ∈ news, u.oneCell' = true)
    (h63 : n + m ≤ maxLen) (hbytes : (n + m) * bytes ≤ 140737488355328) (hbase : base ≤ w.heap.size)
    (h : ∀ va vc w', w'.ownsRow base e size (.slice va (n + m) vc) (n + m) (xs ++ news) → w.grownBy w' v.ownBlock → (∀ q, Value.ownBlock (.slice va (n + m) vc) = some q → v.ownBlock = some q ∨ w.heap.size ≤ q) → K (a.put o.dst (.slice va (n + m) vc)) w') :
    Oper.wp P o a w K Q := by
  rcases Nat.eq_zero_or_pos m with h0 | h0
  · subst h0
    have e0 : news = [] := List.eq_nil_of_length_eq_zero (by simpa using hl)
    subst e0
    obtain ⟨ga, gc, rfl⟩ := row_slice hown
    have hrun := run_append_zero base t o.type e i size ht hi _ n xs hown xa c
    have hh := h ga gc w (by simpa using hown) (World.grownBy.refl _ _) (fun q hq => .inl hq)
    unfold Oper.wp execOp
    simp only [ho, resolve, invoke, builtin, Sem.run_bind, Sem.run_pure, Result.andThen_ok, List.map_toArray, List.map_cons, List.map_nil, hs, hx, hrun]
    exact hh
  · obtain ⟨ad, rfl, hn⟩ := hnews h0
    refine wp_append_lies w s x t ho base e i z size bytes ht hi hz hsize hby hzs hsz v n xs hs hown ad m c news hx hl hn h1 h0 h63 hbytes hbase _ rfl (fun g1 c1 w' a1 a2 a3 a4 => h _ _ w' a1 a2 (fun q hq => ?_))
    have hq2 : g1 = q := by simpa [Value.ownBlock] using hq
    subst hq2
    rcases a3 with r | r
    · exact .inl r
    · exact .inr (by omega)
theorem wpList_append_any {P : Program} {w : World} {ops : Array Oper} {rest : List Oper} {o : Oper} {a : Act} {Q : Exit → Act → World → Prop} (hgd : o.guard = none) (s x : Operand) (t : TypeId)
    (ho : o.op = .call { callee := .builtin .append, args := #[s, x], argTypes := #[t, t] })
    (base : Nat) (e : TypeId) (i : TypeInfo) (z : Value) (size bytes : Nat) (ht : P.underlying t = some (.slice e)) (hi : P.info? e = some i) (hz : i.zero = some z)
    (hsize : i.size = size) (hby : i.bytes = bytes) (hzs : z.cells.size = size) (hsz : 0 < size)
    (v : Value) (n : Nat) (xs : List Value) (hs : a.eval s = v) (hown : w.ownsRow base e size v n xs)
    (xa : Option Addr) (m c : Nat) (news : List Value) (hx : a.eval x = .slice xa m c) (hl : news.length = m * size) (hnews : 0 < m → ∃ ad, xa = some ad ∧ ∀ j u, news[j]? = some u → w.cell? (ad.add j) = some u) (h1 : ∀ u ∈ news, u.oneCell' = true)
    (h63 : n + m ≤ maxLen) (hbytes : (n + m) * bytes ≤ 140737488355328) (hbase : base ≤ w.heap.size)
    (h : ∀ va vc w', w'.ownsRow base e size (.slice va (n + m) vc) (n + m) (xs ++ news) → w.grownBy w' v.ownBlock → (∀ q, Value.ownBlock (.slice va (n + m) vc) = some q → v.ownBlock = some q ∨ w.heap.size ≤ q) → wpList P ops Q rest (a.put o.dst (.slice va (n + m) vc)) w') : wpList P ops Q (o :: rest) a w :=
  wpList_plain hgd fun _ hK => wp_append_any s x t ho base e i z size bytes ht hi hz hsize hby hzs hsz v n xs hs hown xa m c news hx hl hnews h1 h63 hbytes hbase fun va vc w' h2 h3 h4 => hK _ _ (h va vc w' h2 h3 h4)
theorem step_append_any {P : Program} {w : World} {ops : Array Oper} {o : Oper} {a : Act} {K : Act → World → Prop} {Q : Exit → Act → World → Prop} {E : Prop} (hgd : o.guard = none) (s x : Operand) (t : TypeId)
    (ho : o.op = .call { callee := .builtin .append, args := #[s, x], argTypes := #[t, t] })
    (base : Nat) (e : TypeId) (i : TypeInfo) (z : Value) (size bytes : Nat) (ht : P.underlying t = some (.slice e)) (hi : P.info? e = some i) (hz : i.zero = some z)
    (hsize : i.size = size) (hby : i.bytes = bytes) (hzs : z.cells.size = size) (hsz : 0 < size)
    (v : Value) (n : Nat) (xs : List Value) (hs : a.eval s = v) (hown : w.ownsRow base e size v n xs)
    (xa : Option Addr) (m c : Nat) (news : List Value) (hx : a.eval x = .slice xa m c) (hl : news.length = m * size) (hnews : 0 < m → ∃ ad, xa = some ad ∧ ∀ j u, news[j]? = some u → w.cell? (ad.add j) = some u) (h1 : ∀ u ∈ news, u.oneCell' = true)
    (h63 : n + m ≤ maxLen) (hbytes : (n + m) * bytes ≤ 140737488355328) (hbase : base ≤ w.heap.size)
    (h : ∀ va vc w', w'.ownsRow base e size (.slice va (n + m) vc) (n + m) (xs ++ news) → w.grownBy w' v.ownBlock → (∀ q, Value.ownBlock (.slice va (n + m) vc) = some q → v.ownBlock = some q ∨ w.heap.size ≤ q) → K (a.put o.dst (.slice va (n + m) vc)) w') :
    if Region.wanted o (yielded ops a.tmps) = true then Oper.wp P o a w K Q else E := by
  have hw : Region.wanted o (yielded ops a.tmps) = true := by simp [Region.wanted, hgd]
  rw [if_pos hw]
  exact wp_append_any s x t ho base e i z size bytes ht hi hz hsize hby hzs hsz v n xs hs hown xa m c news hx hl hnews h1 h63 hbytes hbase h
/-- What an owned row lays for an append. -/
theorem row_news {w : World} {B : Nat} {e : TypeId} {k : Nat} {xa : Option Addr} {m c : Nat} {ys : List Value} (h : w.ownsRow B e k (.slice xa m c) m ys) : 0 < m → ∃ ad, xa = some ad ∧ ∀ j u, ys[j]? = some u → w.cell? (ad.add j) = some u := fun h0 => by
  obtain ⟨g, c2, hq⟩ := row_some h h0
  simp only [Value.slice.injEq, true_and] at hq
  obtain ⟨rfl, rfl⟩ := hq
  exact ⟨_, rfl, h.cells (g := g) rfl⟩
/-- A piece of an owned row. -/
theorem row_part {w : World} {B : Nat} {e : TypeId} {k g n c : Nat} {xs : List Value} (h : w.ownsRow B e k (.slice (some ⟨g, 0, none⟩) n c) n xs) (o : Nat) (ys : List Value) (hy : ∀ j u, ys[j]? = some u → xs[o + j]? = some u) : ∀ j u, ys[j]? = some u → w.cell? ((⟨g, o, none⟩ : Addr).add j) = some u := fun j u hj => by
  have h1 := hy j u hj
  have h2 := (List.getElem?_eq_some_iff.1 h1).1
  rw [h.1] at h2
  rw [Go.WideShapes.add_plain, h.cellAt _ h2, h1]
theorem row_cap {w : World} {B : Nat} {e : TypeId} {k g n c : Nat} {xs : List Value} (h : w.ownsRow B e k (.slice (some ⟨g, 0, none⟩) n c) n xs) : n ≤ c := by
  rcases h.2 with ⟨q, _⟩ | ⟨g', cap, cur, q, _, _, hc, _⟩
  · simp at q
  · simp only [Value.slice.injEq] at q
    omega
end Go.Proofs.YtabpkfhbnendjaaGreat

/-
  What the law of a till reads: what was told of each act, the sums of the classes, and how what is reckoned beside it goes on.
-/
namespace Go.Proofs.YtabpkfhbnendjaaGreat
open Go.ChangeShapes Go.WideShapes Go.ChangeAt Go.RowKit Go.Deep
set_option linter.unusedVariables false

/-- How what is reckoned goes on behind an act that was answered by o. -/
def LwWay (a : RTa) (o : Int × Int) (L L' : Lw) : Prop :=
  (o.1 ≠ 0 ∧ L' = L) ∨ (o.1 = 0 ∧ ((a.kd = 1 ∧ L' = ⟨L.op + o.2, L.kp, L.tk⟩) ∨ (a.kd = 2 ∧ L' = ⟨L.op - o.2, L.kp, L.tk⟩) ∨ (a.kd = 4 ∧ L' = ⟨0, L.kp ++ [L.op], L.tk⟩) ∨
  (a.kd = 5 ∧ 0 ≤ a.nm ∧ a.nm < (L.kp.length : Int) ∧ o.2 = L.kp.getD a.nm.toNat 0 ∧ L' = ⟨L.kp.getD a.nm.toNat 0, L.kp.take a.nm.toNat ++ L.kp.drop (a.nm.toNat + 1), L.tk⟩) ∨
  (a.kd = 6 ∧ o.2 = a.nm - L.op ∧ L.op ≤ a.nm ∧ a.nm ≤ 1000000000 ∧ L' = ⟨0, L.kp, L.tk + L.op⟩) ∨ ((a.kd ≠ 1 ∧ a.kd ≠ 2 ∧ a.kd ≠ 4 ∧ a.kd ≠ 5 ∧ a.kd ≠ 6) ∧ L' = L)))
theorem lw_way (R : ByteArray → Int × ByteArray × Int × Int) (its : List RIt) (a : RTa) (t : Tl) : LwWay a (stepO R its a t) (lwOf t) (lwOf (stepT R its a t)) := by
  have hs := lw_step R its a t
  unfold LwWay
  rw [← hs]
  by_cases h0 : (stepO R its a t).1 = 0
  · obtain ⟨g5, g6⟩ := lw_told h0
    refine .inr ⟨h0, ?_⟩
    unfold lwStep
    rw [if_neg (by simp [h0])]
    by_cases e1 : a.kd = 1
    · rw [if_pos e1]; exact .inl ⟨e1, rfl⟩
    rw [if_neg e1]
    by_cases e2 : a.kd = 2
    · rw [if_pos e2]; exact .inr (.inl ⟨e2, rfl⟩)
    rw [if_neg e2]
    by_cases e4 : a.kd = 4
    · rw [if_pos e4]; exact .inr (.inr (.inl ⟨e4, rfl⟩))
    rw [if_neg e4]
    by_cases e5 : a.kd = 5
    · rw [if_pos e5]; exact .inr (.inr (.inr (.inl ⟨e5, (g5 e5).1, (g5 e5).2.1, (g5 e5).2.2, rfl⟩)))
    rw [if_neg e5]
    by_cases e6 : a.kd = 6
    · rw [if_pos e6]; exact .inr (.inr (.inr (.inr (.inl ⟨e6, (g6 e6).1, (g6 e6).2.1, (g6 e6).2.2, rfl⟩))))
    rw [if_neg e6]
    exact .inr (.inr (.inr (.inr (.inr ⟨⟨e1, e2, e4, e5, e6⟩, rfl⟩))))
  · refine .inl ⟨h0, ?_⟩
    unfold lwStep
    rw [if_pos h0]
theorem runO_get (R : ByteArray → Int × ByteArray × Int × Int) (its : List RIt) (acts : List RTa) (k : Nat) : ∀ n, k < n → (runO R its acts n).getD k (0, 0) = stepO R its (acts.getD k zTa) (runT R its acts k)
  | 0, h => by omega
  | n + 1, h => by
    have hl := runO_len R its acts n
    rw [runO, List.getD_eq_getElem?_getD]
    by_cases e : k < n
    · rw [List.getElem?_append_left (by omega), ← List.getD_eq_getElem?_getD]
      exact runO_get R its acts k n e
    · obtain rfl : k = n := by omega
      rw [List.getElem?_append_right (by omega), hl, Nat.sub_self]
      rfl
theorem own_some {w : World} {B : Nat} {e : TypeId} {size n c : Nat} {a : Option Addr} {xs : List Value} (h : w.ownsRow B e size (.slice a n c) n xs) (hn : 0 < n) : ∃ g, a = some ⟨g, 0, none⟩ := by
  rcases h.2 with ⟨q, _⟩ | ⟨g, cap', cur, q, _⟩
  · cases q; omega
  · cases q; exact ⟨g, rfl⟩
theorem obCells_get : ∀ (os : List (Int × Int)) (i : Nat), i < os.length → (obCells os)[i * 2]? = some (.int .i64 (os.getD i (0, 0)).1) ∧ (obCells os)[i * 2 + 1]? = some (.int .i64 (os.getD i (0, 0)).2)
  | r :: rs, 0, h => ⟨rfl, rfl⟩
  | r :: rs, i + 1, h => by
    have := obCells_get rs i (by simpa using h)
    rw [show (i + 1) * 2 = i * 2 + 1 + 1 by omega]
    exact this
theorem obs_at {w : World} {B : Nat} {ta : Option Addr} {tc : Nat} {os : List (Int × Int)} (h : w.ownsRow B 40 2 (.slice ta os.length tc) os.length (obCells os)) (k : Nat) (hk : k < os.length) : ∃ g, ta = some ⟨g, 0, none⟩ ∧ g < w.heap.size ∧ w.cell? ⟨g, k * 2, none⟩ = some (.int .i64 (os.getD k (0, 0)).1) ∧ w.cell? ⟨g, k * 2 + 1, none⟩ = some (.int .i64 (os.getD k (0, 0)).2) := by
  obtain ⟨g, rfl⟩ := own_some h (by omega)
  obtain ⟨q0, q1⟩ := obCells_get os k hk
  exact ⟨g, rfl, (h.lt g rfl).2, by rw [h.cellAt (k * 2) (by omega), q0], by rw [h.cellAt (k * 2 + 1) (by omega), q1]⟩
theorem ints_own {w : World} {B : Nat} {a : Option Addr} {c : Nat} {L : List Int} (h : w.ownsRow B 3 1 (.slice a L.length c) L.length (L.map (Value.int .i64))) : Reads w.heap.size w a L := by
  rcases Nat.eq_zero_or_pos L.length with h0 | h0
  · exact .inl (List.eq_nil_of_length_eq_zero h0)
  · obtain ⟨g, rfl⟩ := own_some h h0
    refine .inr ⟨g, 0, rfl, (h.lt g rfl).2, fun i hi => ?_⟩
    rw [h.cellAt (0 + i) (by omega), Nat.zero_add]
    simp [List.getD_eq_getElem?_getD, hi]
theorem obNeq_run (a b : Int) (w : World) : (binOp BinOp.neq 40 (.agg #[.int .i64 a, .int .i64 b]) (.agg #[.int .i64 a, .int .i64 b])).run Tryz.prog w = .ok (.bool false) w := by
  go_simp
def pfS (L : List Int) (k : Nat) : Int := (L.take k).sum
theorem pfS_next (L : List Int) (k : Nat) (h : k < L.length) : pfS L (k + 1) = pfS L k + L.getD k 0 := by
  unfold pfS
  rw [List.take_succ_eq_append_getElem h, List.sum_append]
  simp [List.getD_eq_getElem?_getD, h]
theorem pfS_bound {L : List Int} (hx : ∀ x ∈ L, 0 ≤ x ∧ x ≤ 100000000000) : ∀ k, k ≤ L.length → 0 ≤ pfS L k ∧ pfS L k ≤ 100000000000 * (k : Int)
  | 0, _ => by simp [pfS]
  | k + 1, h => by
    have ih := pfS_bound hx k (by omega)
    have hm := hx (L.getD k 0) (by rw [List.getD_eq_getElem?_getD]; simp [show k < L.length by omega])
    rw [pfS_next L k (by omega)]
    push_cast
    omega
theorem sumT_any (a : Option Addr) (cap : Nat) (L : List Int) (hl : L.length ≤ 1000) (hx : ∀ x ∈ L, 0 ≤ x ∧ x ≤ 100000000000) (w : World) (hr : Reads w.heap.size w a L) :
    Calls Tryz.prog 9 #[.slice a L.length cap] w fun e w' => e = .returned (.int .i64 L.sum) ∧ w = w' := by
  have HR : Hid (Reads w.heap.size w a L) := hr
  have HB : Hid (∀ j, j ≤ L.length → 0 ≤ pfS L j ∧ pfS L j ≤ 100000000000000) := fun j hj => by
    have a1 := pfS_bound hx j hj
    exact ⟨a1.1, by omega⟩
  obtain ⟨s0, hs0⟩ : ∃ s0, s0 = L.sum := ⟨_, rfl⟩
  have HS0 : Hid (pfS L L.length = s0) := by show _ = _; rw [hs0]; unfold pfS; rw [List.take_length]
  rw [← hs0]
  clear hr hx hs0
  go_enter Tryz.func9, Tryz.ntmps9
  go_wp2
  go_loopw [3, 4] (fun s c wr => ∃ k : Nat, k ≤ L.length ∧ c = .int .i64 (k : Int) ∧ s = .int .i64 (pfS L k) ∧ w = wr) (fun _ c _ => L.length - (intOf c).toNat)
  case atStart => exact ⟨0, Nat.zero_le _, rfl, rfl, rfl⟩
  case round =>
    obtain ⟨k, hk, rfl, rfl, rfl⟩ := hrel
    by_cases hlt : k < L.length
    · have hlt' : (k : Int) < (L.length : Int) := by omega
      rcases HR.out with h | ⟨b0, o0, ha, hB0, ia⟩
      · rw [h] at hlt; simp at hlt
      have c0 := ia k hlt
      have h1 := HB.out k hk
      have h2 := HB.out (k + 1) hlt
      have HN : Hid (pfS L (k + 1) = pfS L k + L.getD k 0) := pfS_next L k hlt
      rw [HN.out] at h2
      rw [ha]
      clear ia
      generalize pfS L k = s at *
      generalize L.getD k 0 = x at *
      have hwr : IntKind.i64.wrap (s + x) = s + x := wrap_id _ (by omega) (by omega)
      go_wp2_with fail
      exact ⟨⟨k + 1, by omega, by go_num, by rw [HN.out], by first | rfl | trivial⟩, by simp [intOf]; omega⟩
    · have hlt' : ¬ (k : Int) < (L.length : Int) := by omega
      obtain rfl : k = L.length := by omega
      rw [HS0.out]
      go_wp2_with fail
      go_ret
      exact ⟨rfl, by first | rfl | trivial⟩
end Go.Proofs.YtabpkfhbnendjaaGreat

/-
  bringBack of the program.
-/
import Derived.Test.YtodncihjenlnjaaPpH
import Derived.Laws.AppendOwnNone
namespace Go.Proofs.Ytodncihjenlnjaa
open Go.ChangeShapes Go.WideShapes Go.ChangeAt Go.RowKit Go.Deep
set_option linter.unusedVariables false

/-- A row behind a row: nil or not. -/
theorem wpList_append_row {P : Program} {w : World} {ops : Array Oper} {rest : List Oper} {o : Oper} {a : Act} {Q : Exit → Act → World → Prop} (hgd : o.guard = none) (s x : Operand) (t : TypeId)
    (ho : o.op = .call { callee := .builtin .append, args := #[s, x], argTypes := #[t, t] })
    (base : Nat) (e : TypeId) (i : TypeInfo) (z : Value) (size bytes : Nat) (ht : P.underlying t = some (.slice e)) (hi : P.info? e = some i) (hz : i.zero = some z)
    (hsize : i.size = size) (hby : i.bytes = bytes) (hzs : z.cells.size = size) (hsz : 0 < size)
    (v : Value) (n : Nat) (xs : List Value) (hs : a.eval s = v) (hown : w.ownsRow base e size v n xs)
    (base2 : Nat) (ka : Option Addr) (m kc : Nat) (ys : List Value) (hx : a.eval x = .slice ka m kc) (hrow : w.ownsRow base2 e size (.slice ka m kc) m ys) (h1 : ∀ u ∈ ys, u.oneCell' = true) (hem : m = 0 → ka = none ∧ kc = 0)
    (h63 : n + m ≤ maxLen) (hbytes : (n + m) * bytes ≤ 140737488355328) (hbase : base ≤ w.heap.size)
    (h : ∀ va vc w', w'.ownsRow base e size (.slice va (n + m) vc) (n + m) (xs ++ ys) → w.grownBy w' v.ownBlock → (∀ q, Value.ownBlock (.slice va (n + m) vc) = some q → v.ownBlock = some q ∨ w.heap.size ≤ q) → wpList P ops Q rest (a.put o.dst (.slice va (n + m) vc)) w') : wpList P ops Q (o :: rest) a w := by
  rcases Nat.eq_zero_or_pos m with h0 | h0
  · obtain ⟨rfl, rfl⟩ := hem h0
    subst h0
    have hy : ys = [] := List.eq_nil_of_length_eq_zero (by simpa using hrow.1)
    subst hy
    obtain ⟨ga, gc, rfl⟩ := row_slice hown
    refine wpList_append_own_none hgd s x t ho base e i size ht hi _ n xs hs hown hx ?_
    have := h ga gc w (by simpa using hown) (World.grownBy.refl _ _) (fun q hq => .inl hq)
    simpa using this
  · obtain ⟨g, c, hq⟩ := row_some hrow h0
    simp only [Value.slice.injEq, true_and] at hq
    obtain ⟨rfl, rfl⟩ := hq
    refine wpList_append_lies w hgd s x t ho base e i z size bytes ht hi hz hsize hby hzs hsz v n xs hs hown ⟨g, 0, none⟩ m kc ys hx hrow.1 (hrow.cells (g := g) rfl) h1 h0 h63 hbytes hbase _ rfl (fun g1 c1 w' a1 a2 a3 a4 => h _ _ w' a1 a2 (fun q hq => ?_))
    have hq2 : g1 = q := by simpa [Value.ownBlock] using hq
    subst hq2
    rcases a3 with r | r
    · exact .inl r
    · exact .inr (by omega)
theorem zero25 (w : World) : (zeroValue 25).run Try.prog w = .ok zSl w := by kernel_rfl
set_option maxHeartbeats 4000000 in
theorem back_none (B rb mb n : Nat) (nm : Int) (σ : PSt) (kd i un : Int) (hwi : WfI i) (hT : σ.T i = none) (w : World) (hM : PgM B rb mb n nm σ w) :
    Calls Try.prog 33 #[.pointer (some ⟨rb, 0, none⟩), .agg #[.int .i64 kd, .int .i64 i, .int .i64 un]] w fun e w' => e = .returned (.int .i64 8) ∧ Below w.heap.size w w' := by
  obtain ⟨lv, fv, hg, hr, hmv, htk⟩ := hM
  have hfi : fv i = none := (htk i).1 hT
  obtain ⟨W1, hW1⟩ : ∃ W1, W1 = w.alloc (Obj.cells #[.int .i64 kd, .int .i64 i, .int .i64 un] 46) := ⟨_, rfl⟩
  have hz1 : W1.heap.size = w.heap.size + 1 := by rw [hW1]; simp
  have HW1 : Hid (Below w.heap.size w W1 ∧ W1.heap[w.heap.size]? = some (.cells #[.int .i64 kd, .int .i64 i, .int .i64 un] 46 (0, 0))) := by
    subst hW1
    exact ⟨below_alloc _ _, heapNew _ _⟩
  have HQ : Hid (∀ W : World, Below W1.heap.size W1 W → W.cell? ⟨w.heap.size, 1, none⟩ = some (.int .i64 i) ∧ W.cell? ⟨rb, 5, none⟩ = some (.map (some mb)) ∧ (Instr.lookup 52 (.map (some mb)) (.int .i64 i) true).run Try.prog W = .ok (.tuple #[.slice none 0 0, .bool false]) W ∧ Below w.heap.size w W) := fun W hW => by
    have h0 := chain HW1.out.1 hW
    have hl := MapV.look (t := 52) (e := 25) (hmv.block (h0.block mb hmv.lt)) Try.underlying52 (zero25 W) hwi
    rw [hfi] at hl
    exact ⟨blkCell ((hW.block _ (by omega)).trans HW1.out.2) 1 _ rfl, (hg.later h0).cells.2.2.2.2.2, hl, h0⟩
  clear hg hr hmv htk hfi
  go_enter Try.func33, Try.ntmps33
  go_wp2_with fail
  rw [← hW1]
  clear hW1
  refine wp_region_held_drew (S := fun W => Below W1.heap.size W1 W) (by kernel_rfl) (below_drew _) (fun hH => ?_)
  refine wpAnyH_take (i := 0) (v := .pointer (some ⟨rb, 0, none⟩)) rfl (by kernel_rfl) (by kernel_rfl) (by kernel_rfl) (fun _ _ _ h => h) (Or.inl ⟨by rfl, fun w hSw => by go_simp⟩) hH ?_
  refine wpAnyH_take (i := 1) (v := .pointer (some ⟨rb, 0, none⟩)) rfl (by kernel_rfl) (by kernel_rfl) (by kernel_rfl) (fun _ _ _ h => h) (Or.inl ⟨by rfl, fun w hSw => by go_simp⟩) hH ?_
  try simp only [Act.put, List.setIfInBounds_toArray, List.set_cons_zero, List.set_cons_succ, List.getElem_toArray, List.getElem_cons_succ, List.getElem_cons_zero]
  refine wpAnyH_take (i := 2) (v := .pointer (some ⟨rb, 5, none⟩)) rfl (by kernel_rfl) (by kernel_rfl) (by kernel_rfl) (fun _ _ _ h => h) (Or.inl ⟨by rfl, fun w hSw => by go_simp⟩) hH ?_
  try simp only [Act.put, List.setIfInBounds_toArray, List.set_cons_zero, List.set_cons_succ, List.getElem_toArray, List.getElem_cons_succ, List.getElem_cons_zero]
  refine wpAnyH_take (i := 3) (v := .map (some mb)) rfl (by kernel_rfl) (by kernel_rfl) (by kernel_rfl) (fun _ _ _ h => h) (Or.inl ⟨by rfl, fun w hSw => by have f0 := (HQ.out w hSw).2.1; go_simp⟩) hH ?_
  try simp only [Act.put, List.setIfInBounds_toArray, List.set_cons_zero, List.set_cons_succ, List.getElem_toArray, List.getElem_cons_succ, List.getElem_cons_zero]
  refine wpAnyH_take (i := 4) (v := .pointer (some ⟨w.heap.size, 1, none⟩)) rfl (by kernel_rfl) (by kernel_rfl) (by kernel_rfl) (fun _ _ _ h => h) (Or.inl ⟨by rfl, fun w hSw => by go_simp⟩) hH ?_
  try simp only [Act.put, List.setIfInBounds_toArray, List.set_cons_zero, List.set_cons_succ, List.getElem_toArray, List.getElem_cons_succ, List.getElem_cons_zero]
  refine wpAnyH_take (i := 5) (v := .int .i64 i) rfl (by kernel_rfl) (by kernel_rfl) (by kernel_rfl) (fun _ _ _ h => h) (Or.inl ⟨by rfl, fun w hSw => by have f0 := (HQ.out w hSw).1; go_simp⟩) hH ?_
  try simp only [Act.put, List.setIfInBounds_toArray, List.set_cons_zero, List.set_cons_succ, List.getElem_toArray, List.getElem_cons_succ, List.getElem_cons_zero]
  refine wpAnyH_take (i := 6) (v := .tuple #[.slice none 0 0, .bool false]) rfl (by kernel_rfl) (by kernel_rfl) (by kernel_rfl) (fun _ _ _ h => h) (Or.inl ⟨by rfl, fun w hSw => by have f0 := (HQ.out w hSw).2.2.1; go_simp⟩) hH ?_
  try simp only [Act.put, List.setIfInBounds_toArray, List.set_cons_zero, List.set_cons_succ, List.getElem_toArray, List.getElem_cons_succ, List.getElem_cons_zero]
  refine wpAnyH_take (i := 7) (v := .tuple #[.slice none 0 0, .bool false]) rfl (by kernel_rfl) (by kernel_rfl) (by kernel_rfl) (fun _ _ _ h => h) (Or.inl ⟨by rfl, fun w hSw => by go_simp⟩) hH ?_
  try simp only [Act.put, List.setIfInBounds_toArray, List.set_cons_zero, List.set_cons_succ, List.getElem_toArray, List.getElem_cons_succ, List.getElem_cons_zero]
  refine wpAnyH_take (i := 8) (v := .slice none 0 0) rfl (by kernel_rfl) (by kernel_rfl) (by kernel_rfl) (fun _ _ _ h => h) (Or.inl ⟨by rfl, fun w hSw => by go_simp⟩) hH ?_
  try simp only [Act.put, List.setIfInBounds_toArray, List.set_cons_zero, List.set_cons_succ, List.getElem_toArray, List.getElem_cons_succ, List.getElem_cons_zero]
  refine wpAnyH_take (i := 9) (v := .bool false) rfl (by kernel_rfl) (by kernel_rfl) (by kernel_rfl) (fun _ _ _ h => h) (Or.inl ⟨by rfl, fun w hSw => by go_simp⟩) hH ?_
  try simp only [Act.put, List.setIfInBounds_toArray, List.set_cons_zero, List.set_cons_succ, List.getElem_toArray, List.getElem_cons_succ, List.getElem_cons_zero]
  refine wpAnyH_take (i := 10) (v := .slice none 0 0) rfl (by kernel_rfl) (by kernel_rfl) (by kernel_rfl) (fun _ _ _ h => h) (Or.inl ⟨by rfl, fun w hSw => by go_simp⟩) hH ?_
  try simp only [Act.put, List.setIfInBounds_toArray, List.set_cons_zero, List.set_cons_succ, List.getElem_toArray, List.getElem_cons_succ, List.getElem_cons_zero]
  refine wpAnyH_take (i := 11) (v := .bool false) rfl (by kernel_rfl) (by kernel_rfl) (by kernel_rfl) (fun _ _ _ h => h) (Or.inl ⟨by rfl, fun w hSw => by go_simp⟩) hH ?_
  try simp only [Act.put, List.setIfInBounds_toArray, List.set_cons_zero, List.set_cons_succ, List.getElem_toArray, List.getElem_cons_succ, List.getElem_cons_zero]
  refine wpAnyH_done (by kernel_rfl) ?_ _
  have HE : Hid (Below w.heap.size w W1.drew) := (HQ.out _ hH).2.2.2
  clear HQ hH
  generalize W1.drew = W2 at *
  go_wp2
  go_ret
  exact ⟨rfl, HE.out⟩
/-- What bringing back comes to, where the lots are taken back one way or not. -/
structure BkI (B rb mb n : Nat) (nm : Int) (σ : PSt) (la : Option Addr) (lc : Nat) (fv : Int → Option Value) (i : Int) (K : List RLo) (va : Option Addr) (vc : Nat) (w : World) : Prop where
  pg : PgIs w rb σ.day σ.sp σ.ex (.slice la σ.L.length lc) nm (.map (some mb))
  row : w.ownsRow B 67 2 (.slice la σ.L.length lc) σ.L.length (loCells σ.L)
  map : MapV zSl w mb n fv
  tk : TkOk B w (.slice la σ.L.length lc) σ.T fv
  out : fv i = some (.slice va K.length vc)
  orow : w.ownsRow B 67 2 (.slice va K.length vc) K.length (loCells K)
  apart : ∀ q, Value.ownBlock (.slice va K.length vc) = some q → Value.ownBlock (.slice la σ.L.length lc) ≠ some q
theorem BkI.later {B rb mb n : Nat} {nm : Int} {σ : PSt} {la : Option Addr} {lc : Nat} {fv : Int → Option Value} {i : Int} {K : List RLo} {va : Option Addr} {vc : Nat} {w w' : World} (h : BkI B rb mb n nm σ la lc fv i K va vc w) (hb : Below w.heap.size w w') : BkI B rb mb n nm σ la lc fv i K va vc w' :=
  ⟨h.pg.later hb, row_of h.row (fun q hq => hb.block q (row_lt h.row q hq).2), h.map.block (hb.block mb h.map.lt), h.tk.of (fun c K v hK b q hq hne => ⟨hb.block q (row_lt b q hq).2, hne⟩), h.out, row_of h.orow (fun q hq => hb.block q (row_lt h.orow q hq).2), h.apart⟩
/-- An account on its way, and what was touched. -/
structure BkE (B rb mb n : Nat) (day sp ex nm : Int) (lv : Value) (L2 : List RLo) (T2 : Int → Option (List RLo)) (fv2 : Int → Option Value) (gl : Option Nat) (ov : Value) (K : List RLo) (w W : World) : Prop where
  pg : PgIs W rb day sp ex lv nm (.map (some mb))
  row : W.ownsRow B 67 2 lv L2.length (loCells L2)
  map : MapV zSl W mb n fv2
  tk : TkOk B W lv T2 fv2
  fr : Fr (fun q => q = rb ∨ q = mb ∨ gl = some q) w W
  orow : W.ownsRow B 67 2 ov K.length (loCells K)
theorem BkE.later {B rb mb n : Nat} {day sp ex nm : Int} {lv : Value} {L2 : List RLo} {T2 : Int → Option (List RLo)} {fv2 : Int → Option Value} {gl : Option Nat} {ov : Value} {K : List RLo} {w W W' : World} (h : BkE B rb mb n day sp ex nm lv L2 T2 fv2 gl ov K w W) (hb : Below W.heap.size W W') : BkE B rb mb n day sp ex nm lv L2 T2 fv2 gl ov K w W' :=
  ⟨h.pg.later hb, row_of h.row (fun q hq => hb.block q (row_lt h.row q hq).2), h.map.block (hb.block mb h.map.lt), h.tk.of (fun c K v hK b q hq hne => ⟨hb.block q (row_lt b q hq).2, hne⟩), h.fr.trans (Fr.of hb), row_of h.orow (fun q hq => hb.block q (row_lt h.orow q hq).2)⟩
theorem BkE.set1 {B rb mb n : Nat} {day sp ex nm : Int} {lv : Value} {L2 : List RLo} {T2 : Int → Option (List RLo)} {fv2 : Int → Option Value} {gl : Option Nat} {ov : Value} {K : List RLo} {w W : World} (h : BkE B rb mb n day sp ex nm lv L2 T2 fv2 gl ov K w W) (x : Int) : BkE B rb mb n day x ex nm lv L2 T2 fv2 gl ov K w (W.setCell ⟨rb, 1, none⟩ (.int .i64 x)) :=
  ⟨h.pg.set1 x, row_of h.row (fun q hq => Below.heap_setCell _ _ _ _ (tk_ne h.pg h.map h.row hq).1), h.map.block (Below.heap_setCell _ _ _ _ (rb_ne h.pg h.map)), h.tk.of (fun c K v hK b q hq hne => ⟨Below.heap_setCell _ _ _ _ (tk_ne h.pg h.map b hq).1, hne⟩), h.fr.set (b := rb) (.inl rfl) _ _, row_of h.orow (fun q hq => Below.heap_setCell _ _ _ _ (tk_ne h.pg h.map h.orow hq).1)⟩
theorem bkEnd {B rb mb n : Nat} {nm : Int} {σ : PSt} {la : Option Addr} {lc : Nat} {fv : Int → Option Value} {i : Int} {K kp : List RLo} {va : Option Addr} {vc : Nat} {w w3 w4 w5 : World} (hP : Below w.heap.size w w3 ∧ BkI B rb mb n nm σ la lc fv i K va vc w3)
    (h4 : Fr (fun q => q = mb) w3 w4) (hm4 : MapV zSl w4 mb n (fun c => if c = i then none else fv c)) (hp4 : PgIs w4 rb σ.day σ.sp σ.ex (.slice la σ.L.length lc) nm (.map (some mb))) (hr4 : w4.ownsRow B 67 2 (.slice la σ.L.length lc) σ.L.length (loCells σ.L))
    {ga : Option Addr} {gc : Nat} (ho : w5.ownsRow B 67 2 (.slice ga (σ.L.length + kp.length) gc) (σ.L.length + kp.length) (loCells σ.L ++ loCells kp)) (hg : w4.grownBy w5 (Value.ownBlock (.slice la σ.L.length lc)))
    (hat : ∀ q, Value.ownBlock (.slice ga (σ.L.length + kp.length) gc) = some q → Value.ownBlock (.slice la σ.L.length lc) = some q ∨ w4.heap.size ≤ q) (x : Int) :
    PgIs w5 rb σ.day σ.sp σ.ex (.slice la σ.L.length lc) nm (.map (some mb)) ∧ BkE B rb mb n σ.day σ.sp x nm (.slice ga (σ.L.length + kp.length) gc) (σ.L ++ kp) (fun c => if c = i then none else σ.T c) (fun c => if c = i then none else fv c) (Value.ownBlock (.slice la σ.L.length lc)) (.slice va K.length vc) K w ((w5.setCell ⟨rb, 3, none⟩ (.slice ga (σ.L.length + kp.length) gc)).setCell ⟨rb, 2, none⟩ (.int .i64 x)) := by
  obtain ⟨hb3, hI⟩ := hP
  have hgf := fr_grown hg
  have pg5 : PgIs w5 rb σ.day σ.sp σ.ex (.slice la σ.L.length lc) nm (.map (some mb)) := hp4.of (hgf.block rb hp4.lt (fun e => (tk_ne hp4 hm4 hr4 e).1 rfl))
  have map5 : MapV zSl w5 mb n (fun c => if c = i then none else fv c) := hm4.block (hgf.block mb hm4.lt (fun e => (tk_ne hp4 hm4 hr4 e).2.1 rfl))
  have hk : ∀ q, q ≠ rb → ((w5.setCell ⟨rb, 3, none⟩ (.slice ga (σ.L.length + kp.length) gc)).setCell ⟨rb, 2, none⟩ (.int .i64 x)).heap[q]? = w5.heap[q]? := fun q hq => (Below.heap_setCell _ _ _ _ hq).trans (Below.heap_setCell _ _ _ _ hq)
  have hold : ∀ (v : Value) (k : Nat) (xs : List Value), w3.ownsRow B 67 2 v k xs → ∀ q, v.ownBlock = some q → Value.ownBlock (.slice la σ.L.length lc) ≠ some q → ((w5.setCell ⟨rb, 3, none⟩ (.slice ga (σ.L.length + kp.length) gc)).setCell ⟨rb, 2, none⟩ (.int .i64 x)).heap[q]? = w3.heap[q]? := fun v k xs hv q hq hne => by
    have hn := tk_ne hI.pg hI.map hv hq
    have e4 := h4.block q hn.2.2 hn.2.1
    exact (hk q hn.1).trans ((hgf.block q (by have := h4.size; omega) hne).trans e4)
  refine ⟨pg5, (pg5.set3 _).set2 _, ?_, map5.block (hk mb (rb_ne hp4 hm4)), fun c => ⟨fun hc => ?_, fun K' hc => ?_⟩, ?_, row_of hI.orow (fun q hq => hold _ _ _ hI.orow q hq (hI.apart q hq))⟩
  · rw [List.length_append, loCells_append]
    exact row_of ho (fun q hq => hk q (tk_ne pg5 map5 ho hq).1)
  · try dsimp only at hc ⊢
    split at hc
    · rename_i e; rw [if_pos e]
    · rename_i e; rw [if_neg e]; exact (hI.tk c).1 hc
  · try dsimp only at hc ⊢
    split at hc
    · cases hc
    · rename_i e
      obtain ⟨v, a, b, d⟩ := (hI.tk c).2 K' hc
      refine ⟨v, by rw [if_neg e]; exact a, row_of b (fun q hq => hold _ _ _ b q hq (d q hq)), fun q hq he => ?_⟩
      rcases hat q he with r | r
      · exact d q hq r
      · have := (tk_ne hI.pg hI.map b hq).2.2
        have := h4.size
        omega
  · exact ((((Fr.of hb3).trans (h4.mono (fun q hq => .inr (.inl hq)))).trans (hgf.mono (fun q hq => .inr (.inr hq)))).set (b := rb) (.inl rfl) _ _).set (b := rb) (.inl rfl) _ _
set_option maxHeartbeats 8000000 in
theorem back_some (B rb mb n : Nat) (nm : Int) (σ : PSt) (j : Nat) (hj : j ≤ 1000) (hok : PsOk j σ) (kd i un : Int) (hwi : WfI i) (K : List RLo) (hT : σ.T i = some K) (la : Option Addr) (lc : Nat) (fv : Int → Option Value) (va : Option Addr) (vc : Nat) (w : World) (hBw : B ≤ w.heap.size) (hI : BkI B rb mb n nm σ la lc fv i K va vc w) :
    Calls Try.prog 33 #[.pointer (some ⟨rb, 0, none⟩), .agg #[.int .i64 kd, .int .i64 i, .int .i64 un]] w fun e w' => e = .returned (.int .i64 (stBack i σ).1) ∧ PgF B rb mb w w' ∧ ∃ n', n' ≤ n + 1 ∧ PgM B rb mb n' nm (stBack i σ).2 w' := by
  have HSb : Hid (stBack i σ = if 100 < σ.L.length + (keptL σ.day K).length then (14, σ) else (0, { σ with sp := σ.sp - sumP K, ex := σ.ex + (sumP K - sumP (keptL σ.day K)), L := σ.L ++ keptL σ.day K, T := fun c => if c = i then none else σ.T c })) := by
    show _ = _
    unfold stBack
    rw [hT]
  obtain ⟨hKN, hKs⟩ := hok.tk i K hT
  have hKb := sumP_bound hKN
  have hk := sumP_kept σ.day hKN
  have he1 := hok.ex1
  have he2 := hok.ex2
  have hp1 := hok.sp1
  have hp2 := hok.sp2
  have hll := hok.len
  obtain ⟨i0, hi, hzz⟩ := Option.map_eq_some_iff.1 loInfo
  simp only [Prod.mk.injEq] at hzz
  obtain ⟨hi0, hi1, hi2⟩ := hzz
  have HI : Hid (BkI B rb mb n nm σ la lc fv i K va vc w) := hI
  have HIn : Hid (∀ W : World, BkI B rb mb n nm σ la lc fv i K va vc W → Calls Try.prog 39 #[.slice va K.length vc, .int .i64 σ.day] W fun e w' => ∃ ka kc, e = .returned (.tuple #[.slice ka (keptL σ.day K).length kc, .int .i64 (sumP K - sumP (keptL σ.day K))]) ∧ LoRow W W.heap.size (.slice ka (keptL σ.day K).length kc) (keptL σ.day K) w' ∧ (keptL σ.day K = [] → ka = none ∧ kc = 0)) := fun W hW => inTime_any va vc K (by omega) hKN σ.day W (lo_reads hW.orow)
  have HPt : Hid (∀ W : World, W.ownsRow B 67 2 (.slice va K.length vc) K.length (loCells K) → Calls Try.prog 20 #[.slice va K.length vc] W fun e w' => e = .returned (.int .i64 (sumP K)) ∧ Below W.heap.size W w') := fun W hW => pointsIn_any va vc K (by omega) hKN W (lo_reads hW)
  have hrl := hI.pg.lt
  obtain ⟨W1, hW1⟩ : ∃ W1, W1 = w.alloc (Obj.cells #[.int .i64 kd, .int .i64 i, .int .i64 un] 46) := ⟨_, rfl⟩
  have hz1 : W1.heap.size = w.heap.size + 1 := by rw [hW1]; simp
  have HW1 : Hid (Below w.heap.size w W1 ∧ W1.heap[w.heap.size]? = some (.cells #[.int .i64 kd, .int .i64 i, .int .i64 un] 46 (0, 0))) := by
    subst hW1
    exact ⟨below_alloc _ _, heapNew _ _⟩
  have HQ : Hid (∀ W : World, Below W1.heap.size W1 W → W.cell? ⟨w.heap.size, 1, none⟩ = some (.int .i64 i) ∧ W.cell? ⟨rb, 5, none⟩ = some (.map (some mb)) ∧ (Instr.lookup 52 (.map (some mb)) (.int .i64 i) true).run Try.prog W = .ok (.tuple #[.slice va K.length vc, .bool true]) W ∧ Below w.heap.size w W ∧ BkI B rb mb n nm σ la lc fv i K va vc W) := fun W hW => by
    have h0 := chain HW1.out.1 hW
    have hl := MapV.look (t := 52) (e := 25) (HI.out.later h0).map Try.underlying52 (zero25 W) hwi
    rw [HI.out.out] at hl
    exact ⟨blkCell ((hW.block _ (by omega)).trans HW1.out.2) 1 _ rfl, (HI.out.later h0).pg.cells.2.2.2.2.2, hl, h0, HI.out.later h0⟩
  clear hI
  go_enter Try.func33, Try.ntmps33
  go_wp2_with fail
  rw [← hW1]
  clear hW1
  refine wp_region_held_drew (S := fun W => Below W1.heap.size W1 W) (by kernel_rfl) (below_drew _) (fun hH => ?_)
  refine wpAnyH_take (i := 0) (v := .pointer (some ⟨rb, 0, none⟩)) rfl (by kernel_rfl) (by kernel_rfl) (by kernel_rfl) (fun _ _ _ h => h) (Or.inl ⟨by rfl, fun w hSw => by go_simp⟩) hH ?_
  refine wpAnyH_take (i := 1) (v := .pointer (some ⟨rb, 0, none⟩)) rfl (by kernel_rfl) (by kernel_rfl) (by kernel_rfl) (fun _ _ _ h => h) (Or.inl ⟨by rfl, fun w hSw => by go_simp⟩) hH ?_
  try simp only [Act.put, List.setIfInBounds_toArray, List.set_cons_zero, List.set_cons_succ, List.getElem_toArray, List.getElem_cons_succ, List.getElem_cons_zero]
  refine wpAnyH_take (i := 2) (v := .pointer (some ⟨rb, 5, none⟩)) rfl (by kernel_rfl) (by kernel_rfl) (by kernel_rfl) (fun _ _ _ h => h) (Or.inl ⟨by rfl, fun w hSw => by go_simp⟩) hH ?_
  try simp only [Act.put, List.setIfInBounds_toArray, List.set_cons_zero, List.set_cons_succ, List.getElem_toArray, List.getElem_cons_succ, List.getElem_cons_zero]
  refine wpAnyH_take (i := 3) (v := .map (some mb)) rfl (by kernel_rfl) (by kernel_rfl) (by kernel_rfl) (fun _ _ _ h => h) (Or.inl ⟨by rfl, fun w hSw => by have f0 := (HQ.out w hSw).2.1; go_simp⟩) hH ?_
  try simp only [Act.put, List.setIfInBounds_toArray, List.set_cons_zero, List.set_cons_succ, List.getElem_toArray, List.getElem_cons_succ, List.getElem_cons_zero]
  refine wpAnyH_take (i := 4) (v := .pointer (some ⟨w.heap.size, 1, none⟩)) rfl (by kernel_rfl) (by kernel_rfl) (by kernel_rfl) (fun _ _ _ h => h) (Or.inl ⟨by rfl, fun w hSw => by go_simp⟩) hH ?_
  try simp only [Act.put, List.setIfInBounds_toArray, List.set_cons_zero, List.set_cons_succ, List.getElem_toArray, List.getElem_cons_succ, List.getElem_cons_zero]
  refine wpAnyH_take (i := 5) (v := .int .i64 i) rfl (by kernel_rfl) (by kernel_rfl) (by kernel_rfl) (fun _ _ _ h => h) (Or.inl ⟨by rfl, fun w hSw => by have f0 := (HQ.out w hSw).1; go_simp⟩) hH ?_
  try simp only [Act.put, List.setIfInBounds_toArray, List.set_cons_zero, List.set_cons_succ, List.getElem_toArray, List.getElem_cons_succ, List.getElem_cons_zero]
  refine wpAnyH_take (i := 6) (v := .tuple #[.slice va K.length vc, .bool true]) rfl (by kernel_rfl) (by kernel_rfl) (by kernel_rfl) (fun _ _ _ h => h) (Or.inl ⟨by rfl, fun w hSw => by have f0 := (HQ.out w hSw).2.2.1; go_simp⟩) hH ?_
  try simp only [Act.put, List.setIfInBounds_toArray, List.set_cons_zero, List.set_cons_succ, List.getElem_toArray, List.getElem_cons_succ, List.getElem_cons_zero]
  refine wpAnyH_take (i := 7) (v := .tuple #[.slice va K.length vc, .bool true]) rfl (by kernel_rfl) (by kernel_rfl) (by kernel_rfl) (fun _ _ _ h => h) (Or.inl ⟨by rfl, fun w hSw => by go_simp⟩) hH ?_
  try simp only [Act.put, List.setIfInBounds_toArray, List.set_cons_zero, List.set_cons_succ, List.getElem_toArray, List.getElem_cons_succ, List.getElem_cons_zero]
  refine wpAnyH_take (i := 8) (v := .slice va K.length vc) rfl (by kernel_rfl) (by kernel_rfl) (by kernel_rfl) (fun _ _ _ h => h) (Or.inl ⟨by rfl, fun w hSw => by go_simp⟩) hH ?_
  try simp only [Act.put, List.setIfInBounds_toArray, List.set_cons_zero, List.set_cons_succ, List.getElem_toArray, List.getElem_cons_succ, List.getElem_cons_zero]
  refine wpAnyH_take (i := 9) (v := .bool true) rfl (by kernel_rfl) (by kernel_rfl) (by kernel_rfl) (fun _ _ _ h => h) (Or.inl ⟨by rfl, fun w hSw => by go_simp⟩) hH ?_
  try simp only [Act.put, List.setIfInBounds_toArray, List.set_cons_zero, List.set_cons_succ, List.getElem_toArray, List.getElem_cons_succ, List.getElem_cons_zero]
  refine wpAnyH_take (i := 10) (v := .slice va K.length vc) rfl (by kernel_rfl) (by kernel_rfl) (by kernel_rfl) (fun _ _ _ h => h) (Or.inl ⟨by rfl, fun w hSw => by go_simp⟩) hH ?_
  try simp only [Act.put, List.setIfInBounds_toArray, List.set_cons_zero, List.set_cons_succ, List.getElem_toArray, List.getElem_cons_succ, List.getElem_cons_zero]
  refine wpAnyH_take (i := 11) (v := .bool true) rfl (by kernel_rfl) (by kernel_rfl) (by kernel_rfl) (fun _ _ _ h => h) (Or.inl ⟨by rfl, fun w hSw => by go_simp⟩) hH ?_
  try simp only [Act.put, List.setIfInBounds_toArray, List.set_cons_zero, List.set_cons_succ, List.getElem_toArray, List.getElem_cons_succ, List.getElem_cons_zero]
  refine wpAnyH_done (by kernel_rfl) ?_ _
  have HE : Hid (Below W1.heap.size W1 W1.drew) := hH
  have hz2 : W1.drew.heap.size = w.heap.size + 1 := hz1
  clear hH
  generalize W1.drew = W2 at *
  have y0 := (HQ.out W2 HE.out).2.2.2.2.pg.cells.1
  go_wp2_with fail
  (first | go_at_call 39 | skip)
  refine (HIn.out W2 (HQ.out W2 HE.out).2.2.2.2).mono ?_
  rintro e w3 ⟨ka, kc, rfl, ⟨hr3, hs3, hb3⟩, hem⟩
  have hB3 : Below W1.heap.size W1 w3 := chain HE.out hb3
  have HR3 : Hid (w3.ownsRow (w.heap.size + 1) 67 2 (.slice ka (keptL σ.day K).length kc) (keptL σ.day K).length (loCells (keptL σ.day K)) ∧ (keptL σ.day K = [] → ka = none ∧ kc = 0) ∧ Below W1.heap.size W1 w3) := ⟨row_base hr3 (by omega), hem, hB3⟩
  have x3 := (HQ.out w3 hB3).2.2.2.2.pg.cells.2.2.2.1
  have hkl := keptL_len σ.day K
  clear hr3 hs3 hb3 hB3 hem y0 HIn
  generalize hkp : keptL σ.day K = kp at *
  have HKp : Hid (keptL σ.day K = kp) := hkp
  clear hkp
  by_cases hfull : 100 < σ.L.length + kp.length
  · have hf' : (100 : Int) < (σ.L.length : Int) + (kp.length : Int) := by omega
    have HSb2 : Hid (stBack i σ = (14, σ)) := by show _ = _; rw [HSb.out, if_pos hfull]
    clear HSb
    go_wp2
    go_ret
    rw [HSb2.out]
    have hb := (HQ.out w3 HR3.out.2.2).2.2.2
    exact ⟨rfl, PgF.of hb.1, n, by omega, _, fv, hb.2.pg, hb.2.row, hb.2.map, hb.2.tk⟩
  have hf' : ¬ (100 : Int) < (σ.L.length : Int) + (kp.length : Int) := by omega
  go_wp2_with fail
  -- it is off the list of what was taken
  have hP3 := (HQ.out w3 HR3.out.2.2)
  obtain ⟨w4, hrun4, hmap4, hg4⟩ := MapV.del (w := w3.drew) (t := 52) (hP3.2.2.2.2.map.block rfl) Try.underlying52 hwi 0
  have hf4 : Fr (fun q => q = mb) w3 w4 := (Fr.of (below_drew w3)).trans ((fr_grown hg4).mono (fun k hk => by simpa using hk.symm))
  have HQ4 : Hid (∀ W : World, W = w3.drew → W.cell? ⟨w.heap.size, 1, none⟩ = some (.int .i64 i) ∧ W.cell? ⟨rb, 5, none⟩ = some (.map (some mb))) := fun W hW => by subst hW; exact ⟨hP3.1, hP3.2.1⟩
  have hmr := rb_ne hP3.2.2.2.2.pg hP3.2.2.2.2.map
  have H4 : Hid (Fr (fun q => q = mb) w3 w4 ∧ MapV zSl w4 mb n (fun c => if c = i then none else fv c) ∧ PgIs w4 rb σ.day σ.sp σ.ex (.slice la σ.L.length lc) nm (.map (some mb)) ∧ w4.ownsRow B 67 2 (.slice la σ.L.length lc) σ.L.length (loCells σ.L) ∧ w4.ownsRow (w.heap.size + 1) 67 2 (.slice ka kp.length kc) kp.length (loCells kp)) :=
    ⟨hf4, hmap4, hP3.2.2.2.2.pg.of (hf4.block rb hP3.2.2.2.2.pg.lt (Ne.symm hmr)), row_of hP3.2.2.2.2.row (fun q hq => hf4.block q (row_lt hP3.2.2.2.2.row q hq).2 (tk_ne hP3.2.2.2.2.pg hP3.2.2.2.2.map hP3.2.2.2.2.row hq).2.1), row_of HR3.out.1 (fun q hq => hf4.block q (row_lt HR3.out.1 q hq).2 (tk_ne hP3.2.2.2.2.pg hP3.2.2.2.2.map HR3.out.1 hq).2.1)⟩
  have HP3 : Hid (Below w.heap.size w w3 ∧ BkI B rb mb n nm σ la lc fv i K va vc w3) := hP3.2.2.2
  clear hP3 hmap4 hg4 hf4 x3
  refine wp_region_z (S := fun W => W = w3.drew) 6 (by kernel_rfl) rfl (fun hH => ?_)
  generalize w3.drew = Wd at *
  refine wpAnyZ_take (i := 0) (v := .pointer (some ⟨rb, 0, none⟩)) rfl (by kernel_rfl) (by kernel_rfl) (by kernel_rfl) (by kernel_rfl) (fun _ _ _ h => h) (Or.inl ⟨by rfl, fun w hSw => by go_simp⟩) hH ?_
  refine wpAnyZ_take (i := 1) (v := .pointer (some ⟨rb, 0, none⟩)) rfl (by kernel_rfl) (by kernel_rfl) (by kernel_rfl) (by kernel_rfl) (fun _ _ _ h => h) (Or.inl ⟨by rfl, fun w hSw => by go_simp⟩) hH ?_
  try simp only [Act.put, List.setIfInBounds_toArray, List.set_cons_zero, List.set_cons_succ, List.getElem_toArray, List.getElem_cons_succ, List.getElem_cons_zero]
  refine wpAnyZ_take (i := 2) (v := .pointer (some ⟨rb, 5, none⟩)) rfl (by kernel_rfl) (by kernel_rfl) (by kernel_rfl) (by kernel_rfl) (fun _ _ _ h => h) (Or.inl ⟨by rfl, fun w hSw => by go_simp⟩) hH ?_
  try simp only [Act.put, List.setIfInBounds_toArray, List.set_cons_zero, List.set_cons_succ, List.getElem_toArray, List.getElem_cons_succ, List.getElem_cons_zero]
  refine wpAnyZ_take (i := 3) (v := .map (some mb)) rfl (by kernel_rfl) (by kernel_rfl) (by kernel_rfl) (by kernel_rfl) (fun _ _ _ h => h) (Or.inl ⟨by rfl, fun w hSw => by have f0 := (HQ4.out w hSw).2; clear hSw; go_simp⟩) hH ?_
  try simp only [Act.put, List.setIfInBounds_toArray, List.set_cons_zero, List.set_cons_succ, List.getElem_toArray, List.getElem_cons_succ, List.getElem_cons_zero]
  refine wpAnyZ_take (i := 4) (v := .pointer (some ⟨w.heap.size, 1, none⟩)) rfl (by kernel_rfl) (by kernel_rfl) (by kernel_rfl) (by kernel_rfl) (fun _ _ _ h => h) (Or.inl ⟨by rfl, fun w hSw => by go_simp⟩) hH ?_
  try simp only [Act.put, List.setIfInBounds_toArray, List.set_cons_zero, List.set_cons_succ, List.getElem_toArray, List.getElem_cons_succ, List.getElem_cons_zero]
  refine wpAnyZ_take (i := 5) (v := .int .i64 i) rfl (by kernel_rfl) (by kernel_rfl) (by kernel_rfl) (by kernel_rfl) (fun _ _ _ h => h) (Or.inl ⟨by rfl, fun w hSw => by have f0 := (HQ4.out w hSw).1; clear hSw; go_simp⟩) hH ?_
  try simp only [Act.put, List.setIfInBounds_toArray, List.set_cons_zero, List.set_cons_succ, List.getElem_toArray, List.getElem_cons_succ, List.getElem_cons_zero]
  refine wpAnyZ_ready (rs := [6]) (by kernel_rfl) (by simp) ?_
  refine AllReadyZ.cons rfl (fun K hK => ?_) AllReadyZ.nil
  go_simp
  refine hK.out _ _ (Or.inl rfl) (fun _ => ?_)
  clear hK K
  try simp only [Act.put, List.setIfInBounds_toArray, List.set_cons_zero, List.set_cons_succ, List.getElem_toArray, List.getElem_cons_succ, List.getElem_cons_zero]
  refine wpAnyZ_done (by kernel_rfl) ?_ _
  clear hH HQ4 hrun4
  have c3 := H4.out.2.2.1.cells.2.2.2.1
  have hz4 : w3.heap.size ≤ w4.heap.size := H4.out.1.size
  have hz3 : w.heap.size + 1 ≤ w3.heap.size := by have := HR3.out.2.2.size; omega
  have hwx : IntKind.i64.wrap (σ.ex + (sumP K - sumP kp)) = σ.ex + (sumP K - sumP kp) := wrap_id _ (by omega) (by omega)
  have hws : IntKind.i64.wrap (σ.sp - sumP K) = σ.sp - sumP K := wrap_id _ (by omega) (by omega)
  -- the lots
  go_wp2_with (at_builtin; refine wpList_append_row rfl _ _ 25 rfl B 67 i0 (.agg #[.int .i64 0, .int .i64 0]) 2 16 Try.underlying25 hi hi0 hi1 hi2 rfl (by decide) _ _ _ rfl H4.out.2.2.2.1 (w.heap.size + 1) ka kp.length kc _ rfl H4.out.2.2.2.2 (loCells_one kp) (fun h => HR3.out.2.1 (List.eq_nil_of_length_eq_zero h)) (by unfold maxLen; omega) (by omega) (by omega) ?_; intro ga gc w5 hown5 hgr5 hat5; have hbk := bkEnd HP3.out H4.out.1 H4.out.2.1 H4.out.2.2.1 H4.out.2.2.2.1 hown5 hgr5 hat5 (σ.ex + (sumP K - sumP kp)); have HBk : Hid (BkE B rb mb n σ.day σ.sp (σ.ex + (sumP K - sumP kp)) nm (.slice ga (σ.L.length + kp.length) gc) (σ.L ++ kp) (fun c => if c = i then none else σ.T c) (fun c => if c = i then none else fv c) (Value.ownBlock (.slice la σ.L.length lc)) (.slice va K.length vc) K w ((w5.setCell ⟨rb, 3, none⟩ (.slice ga (σ.L.length + kp.length) gc)).setCell ⟨rb, 2, none⟩ (.int .i64 (σ.ex + (sumP K - sumP kp))))) := hbk.2; have e3 := hbk.1.cells.2.2.2.1; have ef := hbk.1.free 3; have e2 := (hbk.1.set3 (.slice ga (σ.L.length + kp.length) gc)).cells.2.2.1; have ef2 := (hbk.1.set3 (.slice ga (σ.L.length + kp.length) gc)).free 2; clear hbk hown5 hgr5 hat5)
  generalize ((w5.setCell ⟨rb, 3, none⟩ (.slice ga (σ.L.length + kp.length) gc)).setCell ⟨rb, 2, none⟩ (.int .i64 (σ.ex + (sumP K - sumP kp)))) = W7 at *
  clear e3 ef e2 ef2 H4
  -- what is spent
  have HQ7 : Hid (∀ W : World, Below W7.heap.size W7 W → W.cell? ⟨rb, 1, none⟩ = some (.int .i64 σ.sp) ∧ W.frozen? ⟨rb, 1, none⟩ = false ∧ W.ownsRow B 67 2 (.slice va K.length vc) K.length (loCells K)) := fun W hW => ⟨(HBk.out.later hW).pg.cells.2.1, (HBk.out.later hW).pg.free 1, (HBk.out.later hW).orow⟩
  refine wp_region_z (S := fun W => Below W7.heap.size W7 W) 11 (by kernel_rfl) (below_drew _) (fun hH => ?_)
  refine wpAnyZ_take (i := 0) (v := .pointer (some ⟨rb, 0, none⟩)) rfl (by kernel_rfl) (by kernel_rfl) (by kernel_rfl) (by kernel_rfl) (fun _ _ _ h => h) (Or.inl ⟨by rfl, fun w hSw => by go_simp⟩) hH ?_
  refine wpAnyZ_take (i := 1) (v := .pointer (some ⟨rb, 0, none⟩)) rfl (by kernel_rfl) (by kernel_rfl) (by kernel_rfl) (by kernel_rfl) (fun _ _ _ h => h) (Or.inl ⟨by rfl, fun w hSw => by go_simp⟩) hH ?_
  try simp only [Act.put, List.setIfInBounds_toArray, List.set_cons_zero, List.set_cons_succ, List.getElem_toArray, List.getElem_cons_succ, List.getElem_cons_zero]
  refine wpAnyZ_take (i := 2) (v := .pointer (some ⟨rb, 0, none⟩)) rfl (by kernel_rfl) (by kernel_rfl) (by kernel_rfl) (by kernel_rfl) (fun _ _ _ h => h) (Or.inl ⟨by rfl, fun w hSw => by go_simp⟩) hH ?_
  try simp only [Act.put, List.setIfInBounds_toArray, List.set_cons_zero, List.set_cons_succ, List.getElem_toArray, List.getElem_cons_succ, List.getElem_cons_zero]
  refine wpAnyZ_take (i := 3) (v := .pointer (some ⟨rb, 1, none⟩)) rfl (by kernel_rfl) (by kernel_rfl) (by kernel_rfl) (by kernel_rfl) (fun _ _ _ h => h) (Or.inl ⟨by rfl, fun w hSw => by go_simp⟩) hH ?_
  try simp only [Act.put, List.setIfInBounds_toArray, List.set_cons_zero, List.set_cons_succ, List.getElem_toArray, List.getElem_cons_succ, List.getElem_cons_zero]
  refine wpAnyZ_take (i := 4) (v := .int .i64 σ.sp) rfl (by kernel_rfl) (by kernel_rfl) (by kernel_rfl) (by kernel_rfl) (fun _ _ _ h => h) (Or.inl ⟨by rfl, fun w hSw => by have f0 := (HQ7.out w hSw).1; go_simp⟩) hH ?_
  try simp only [Act.put, List.setIfInBounds_toArray, List.set_cons_zero, List.set_cons_succ, List.getElem_toArray, List.getElem_cons_succ, List.getElem_cons_zero]
  refine wpAnyZ_take (i := 5) (v := .slice va K.length vc) rfl (by kernel_rfl) (by kernel_rfl) (by kernel_rfl) (by kernel_rfl) (fun _ _ _ h => h) (Or.inl ⟨by rfl, fun w hSw => by go_simp⟩) hH ?_
  try simp only [Act.put, List.setIfInBounds_toArray, List.set_cons_zero, List.set_cons_succ, List.getElem_toArray, List.getElem_cons_succ, List.getElem_cons_zero]
  refine wpAnyZ_ready (rs := [6]) (by kernel_rfl) (by simp) ?_
  refine AllReadyZ.cons rfl (fun K hK => ?_) AllReadyZ.nil
  go_simp
  go_at_call 20
  refine (HPt.out _ (HQ7.out _ hH).2.2).mono ?_
  rintro e w8 ⟨rfl, hb8⟩
  have hw8 := chain hH hb8
  refine hK.out _ _ (Or.inr hw8) (fun _ => ?_)
  clear hK K
  try simp only [Act.put, List.setIfInBounds_toArray, List.set_cons_zero, List.set_cons_succ, List.getElem_toArray, List.getElem_cons_succ, List.getElem_cons_zero]
  refine wpAnyZ_take (i := 7) (v := .int .i64 (σ.sp - sumP K)) rfl (by kernel_rfl) (by kernel_rfl) (by kernel_rfl) (by kernel_rfl) (fun _ _ _ h => h) (Or.inl ⟨by rfl, fun w hSw => by go_simp⟩) hw8 ?_
  try simp only [Act.put, List.setIfInBounds_toArray, List.set_cons_zero, List.set_cons_succ, List.getElem_toArray, List.getElem_cons_succ, List.getElem_cons_zero]
  refine wpAnyZ_take (i := 8) (v := .pointer (some ⟨rb, 0, none⟩)) rfl (by kernel_rfl) (by kernel_rfl) (by kernel_rfl) (by kernel_rfl) (fun _ _ _ h => h) (Or.inl ⟨by rfl, fun w hSw => by go_simp⟩) hw8 ?_
  try simp only [Act.put, List.setIfInBounds_toArray, List.set_cons_zero, List.set_cons_succ, List.getElem_toArray, List.getElem_cons_succ, List.getElem_cons_zero]
  refine wpAnyZ_take (i := 9) (v := .pointer (some ⟨rb, 0, none⟩)) rfl (by kernel_rfl) (by kernel_rfl) (by kernel_rfl) (by kernel_rfl) (fun _ _ _ h => h) (Or.inl ⟨by rfl, fun w hSw => by go_simp⟩) hw8 ?_
  try simp only [Act.put, List.setIfInBounds_toArray, List.set_cons_zero, List.set_cons_succ, List.getElem_toArray, List.getElem_cons_succ, List.getElem_cons_zero]
  refine wpAnyZ_take (i := 10) (v := .pointer (some ⟨rb, 1, none⟩)) rfl (by kernel_rfl) (by kernel_rfl) (by kernel_rfl) (by kernel_rfl) (fun _ _ _ h => h) (Or.inl ⟨by rfl, fun w hSw => by go_simp⟩) hw8 ?_
  try simp only [Act.put, List.setIfInBounds_toArray, List.set_cons_zero, List.set_cons_succ, List.getElem_toArray, List.getElem_cons_succ, List.getElem_cons_zero]
  have HEnd : Hid (BkE B rb mb n σ.day (σ.sp - sumP K) (σ.ex + (sumP K - sumP kp)) nm (.slice ga (σ.L.length + kp.length) gc) (σ.L ++ kp) (fun c => if c = i then none else σ.T c) (fun c => if c = i then none else fv c) (Value.ownBlock (.slice la σ.L.length lc)) (.slice va K.length vc) K w (w8.setCell ⟨rb, 1, none⟩ (.int .i64 (σ.sp - sumP K)))) := (HBk.out.later hw8).set1 _
  refine wpAnyZ_ready (rs := [11]) (by kernel_rfl) (by simp) ?_
  refine AllReadyZ.cons rfl (fun K hK => ?_) AllReadyZ.nil
  obtain ⟨y0, y1, y2⟩ := HQ7.out w8 hw8
  go_simp
  refine hK.out _ _ (Or.inl rfl) (fun _ => ?_)
  clear hK K
  try simp only [Act.put, List.setIfInBounds_toArray, List.set_cons_zero, List.set_cons_succ, List.getElem_toArray, List.getElem_cons_succ, List.getElem_cons_zero]
  refine wpAnyZ_done (by kernel_rfl) ?_ _
  clear y0 y1 y2 hH hb8 hw8 HQ7 HPt HBk
  have HSb2 : Hid (stBack i σ = (0, { σ with sp := σ.sp - sumP K, ex := σ.ex + (sumP K - sumP kp), L := σ.L ++ kp, T := fun c => if c = i then none else σ.T c })) := by
    show _ = _
    rw [HSb.out, if_neg hfull]
  clear HSb
  generalize w8.setCell ⟨rb, 1, none⟩ (.int .i64 (σ.sp - sumP K)) = W9 at *
  go_wp2
  go_ret
  rw [HSb2.out]
  refine ⟨rfl, HEnd.out.fr.mono (fun q hq => ?_), n, by omega, _, _, HEnd.out.pg, HEnd.out.row, HEnd.out.map, HEnd.out.tk⟩
  rcases hq with r | r | r
  · exact .inl r
  · exact .inr (.inl r)
  · exact .inr (.inr ⟨(row_lt HI.out.row q r).1, row_type HI.out.row r⟩)
theorem back_any (B rb mb n : Nat) (nm : Int) (σ : PSt) (j : Nat) (hj : j ≤ 1000) (hok : PsOk j σ) (kd i un : Int) (hwi : WfI i) (w : World) (hBw : B ≤ w.heap.size) (hM : PgM B rb mb n nm σ w) :
    Calls Try.prog 33 #[.pointer (some ⟨rb, 0, none⟩), .agg #[.int .i64 kd, .int .i64 i, .int .i64 un]] w fun e w' => e = .returned (.int .i64 (stBack i σ).1) ∧ PgF B rb mb w w' ∧ ∃ n', n' ≤ n + 1 ∧ PgM B rb mb n' nm (stBack i σ).2 w' := by
  cases hT : σ.T i with
  | none =>
    refine (back_none B rb mb n nm σ kd i un hwi hT w hM).mono ?_
    rintro e w' ⟨rfl, hb⟩
    have e : stBack i σ = (8, σ) := by unfold stBack; rw [hT]
    rw [e]
    exact ⟨rfl, PgF.of hb, n, by omega, hM.later hb⟩
  | some K =>
    obtain ⟨lv, fv, h1, h2, h3, h4⟩ := hM
    obtain ⟨la, lc, rfl⟩ := row_slice h2
    obtain ⟨v, a, b, d⟩ := (h4 i).2 K hT
    obtain ⟨va, vc, rfl⟩ := row_slice b
    exact back_some B rb mb n nm σ j hj hok kd i un hwi K hT la lc fv va vc w hBw ⟨h1, h2, h3, h4, a, b, d⟩
end Go.Proofs.Ytodncihjenlnjaa

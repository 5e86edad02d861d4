/-
  Texts of this claim laid together: TlK, TlL.
-/
import Derived.Test.YtabpkfhbnendjaaGreatM19
/-
  The register with all its baskets in memory; the program's carryOut where an age is shown.
-/
namespace Go.Proofs.YtabpkfhbnendjaaGreat
open Go.ChangeShapes Go.WideShapes Go.ChangeAt Go.RowKit Go.Deep
set_option linter.unusedVariables false

/-- A basket that is kept: its slice, its lines, what was shown. -/
structure Kb where
  v : Value
  ls : List RLi
  sh : Int
def kbC (k : Kb) : List Value := [k.v, .int .i64 k.sh]
def Far (a b : Option Nat) : Prop := ∀ q, a = some q → b ≠ some q
structure Rg (B rb : Nat) (iv lv : Value) (ls : List RLi) (sh : Int) (kv : Value) (ks : List Kb) (sl tk dp : Int) (cs : List Int) (W : World) : Prop where
  reg : RegIs W rb lv sh iv kv sl tk dp cs
  lrow : W.ownsRow B 82 4 lv ls.length (lnCells ls)
  krow : W.ownsRow B 30 2 kv ks.length (ks.flatMap kbC)
  rows : ∀ k ∈ ks, W.ownsRow B 82 4 k.v k.ls.length (lnCells k.ls)
  dist : (some rb :: kv.ownBlock :: lv.ownBlock :: ks.map (·.v.ownBlock)).Pairwise Far
  low : B ≤ rb
theorem Rg.later {B rb : Nat} {iv lv : Value} {ls : List RLi} {sh : Int} {kv : Value} {ks : List Kb} {sl tk dp : Int} {cs : List Int} {W W' : World} (h : Rg B rb iv lv ls sh kv ks sl tk dp cs W) (hb : Below W.heap.size W W') : Rg B rb iv lv ls sh kv ks sl tk dp cs W' :=
  ⟨h.reg.later hb, row_of h.lrow (fun q hq => hb.block q (row_lt h.lrow q hq).2), row_of h.krow (fun q hq => hb.block q (row_lt h.krow q hq).2), fun k hk => row_of (h.rows k hk) (fun q hq => hb.block q (row_lt (h.rows k hk) q hq).2), h.dist, h.low⟩
theorem far_none (b : Option Nat) : Far none b := fun q h => by cases h
theorem far_none' (a : Option Nat) : Far a none := fun q _ h => by cases h
theorem Rg.far {B rb : Nat} {iv lv : Value} {ls : List RLi} {sh : Int} {kv : Value} {ks : List Kb} {sl tk dp : Int} {cs : List Int} {W : World} (h : Rg B rb iv lv ls sh kv ks sl tk dp cs W) : lv.ownBlock ≠ some rb ∧ kv.ownBlock ≠ some rb ∧ (∀ k ∈ ks, k.v.ownBlock ≠ some rb) ∧ Far kv.ownBlock lv.ownBlock ∧ (∀ k ∈ ks, Far kv.ownBlock k.v.ownBlock) ∧ (∀ k ∈ ks, Far lv.ownBlock k.v.ownBlock) ∧ (ks.map (·.v.ownBlock)).Pairwise Far := by
  obtain ⟨h1, h2⟩ := List.pairwise_cons.1 h.dist
  obtain ⟨h3, h4⟩ := List.pairwise_cons.1 h2
  obtain ⟨h5, h6⟩ := List.pairwise_cons.1 h4
  refine ⟨h1 _ (by simp) rb rfl, h1 _ (by simp) rb rfl, fun k hk => h1 _ (by simp; exact .inr (.inr ⟨k, hk, rfl⟩)) rb rfl, h3 _ (by simp), fun k hk => h3 _ (by simp; exact .inr ⟨k, hk, rfl⟩), fun k hk => h5 _ (by simp; exact ⟨k, hk, rfl⟩), h6⟩
theorem dist_mk {rb : Nat} {kv lv : Option Nat} {ks : List (Option Nat)} (h1 : lv ≠ some rb) (h2 : kv ≠ some rb) (h3 : ∀ k ∈ ks, k ≠ some rb) (h4 : Far kv lv) (h5 : ∀ k ∈ ks, Far kv k) (h6 : ∀ k ∈ ks, Far lv k) (h7 : ks.Pairwise Far) : (some rb :: kv :: lv :: ks).Pairwise Far := by
  refine List.pairwise_cons.2 ⟨fun b hb q hq => ?_, List.pairwise_cons.2 ⟨fun b hb => ?_, List.pairwise_cons.2 ⟨h6, h7⟩⟩⟩
  · cases hq
    simp at hb
    rcases hb with rfl | rfl | hb
    · exact h2
    · exact h1
    · exact h3 b hb
  · simp at hb
    rcases hb with rfl | hb
    · exact h4
    · exact h5 b hb
/-- The register's own cells have turned, no row. -/
theorem Rg.cells {B rb : Nat} {iv lv : Value} {ls : List RLi} {sh : Int} {kv : Value} {ks : List Kb} {sl tk dp : Int} {cs : List Int} {W W' : World} {sh' sl' tk' dp' : Int} {cs' : List Int} (h : Rg B rb iv lv ls sh kv ks sl tk dp cs W) (hf : Fr (fun k => k = rb) W W') (hr : RegIs W' rb lv sh' iv kv sl' tk' dp' cs') : Rg B rb iv lv ls sh' kv ks sl' tk' dp' cs' W' := by
  obtain ⟨f1, f2, f3, _⟩ := h.far
  exact ⟨hr, row_of h.lrow (fun q hq => hf.block q (row_lt h.lrow q hq).2 (fun e => f1 (by rw [hq, e]))), row_of h.krow (fun q hq => hf.block q (row_lt h.krow q hq).2 (fun e => f2 (by rw [hq, e]))), fun k hk => row_of (h.rows k hk) (fun q hq => hf.block q (row_lt (h.rows k hk) q hq).2 (fun e => f3 k hk (by rw [hq, e]))), h.dist, h.low⟩
/-- The basket that is now is empty and has no memory. -/
theorem Rg.blank {B rb : Nat} {iv lv : Value} {ls : List RLi} {sh : Int} {kv : Value} {ks : List Kb} {sl tk dp : Int} {cs : List Int} {W W' : World} {sh' sl' tk' dp' : Int} {cs' : List Int} (h : Rg B rb iv lv ls sh kv ks sl tk dp cs W) (hf : Fr (fun k => k = rb) W W') (hr : RegIs W' rb (.slice none 0 0) sh' iv kv sl' tk' dp' cs') : Rg B rb iv (.slice none 0 0) [] sh' kv ks sl' tk' dp' cs' W' := by
  obtain ⟨f1, f2, f3, f4, f5, f6, f7⟩ := h.far
  exact ⟨hr, World.ownsRow_nil _ _ _ _, row_of h.krow (fun q hq => hf.block q (row_lt h.krow q hq).2 (fun e => f2 (by rw [hq, e]))), fun k hk => row_of (h.rows k hk) (fun q hq => hf.block q (row_lt (h.rows k hk) q hq).2 (fun e => f3 k hk (by rw [hq, e]))), dist_mk (by simp [Value.ownBlock]) f2 (by intro k hk; obtain ⟨x, hx, rfl⟩ := List.mem_map.1 hk; exact f3 x hx) (far_none' _) (by intro k hk; obtain ⟨x, hx, rfl⟩ := List.mem_map.1 hk; exact f5 x hx) (fun k _ => far_none _) f7, h.low⟩
inductive Dd where
  | scan (l : RLi) (ag : Int)
  | void (n : Int)
  | show (n : Int)
  | susp
  | res (n : Int)
  | pay (n : Int)
def ddV : Dd → Value
  | .scan l g => .iface 91 (.agg #[.int .i64 l.it, .int .i64 l.ct, .int .i64 l.am, .int .i64 l.dp, .int .i64 g])
  | .void n => .iface 95 (.agg #[.int .i64 n])
  | .show n => .iface 97 (.agg #[.int .i64 n])
  | .susp => .iface 99 (.agg #[])
  | .res n => .iface 101 (.agg #[.int .i64 n])
  | .pay n => .iface 103 (.agg #[.int .i64 n])
def deedV (R : ByteArray → Int × ByteArray × Int × Int) (its : List RIt) (a : Int) (tx : ByteArray) (n : Int) : Value :=
  if a = 1 then ddV (.scan (scanL R its tx n) (scanG R its tx n)) else if a = 2 then ddV (.void n) else if a = 3 then ddV (.show n) else if a = 4 then ddV .susp else if a = 5 then ddV (.res n) else if a = 6 then ddV (.pay n) else .nilIface
def deedE (R : ByteArray → Int × ByteArray × Int × Int) (its : List RIt) (a : Int) (tx : ByteArray) (n : Int) : Int :=
  if a = 1 then scanE R its tx n else if 2 ≤ a ∧ a ≤ 6 then 0 else 13
set_option maxHeartbeats 4000000 in
theorem deedOf_any (R : ByteArray → Int × ByteArray × Int × Int) (hR : RsI R) (ia : Option Addr) (ic : Nat) (its : List RIt) (hok : ∀ r ∈ its, ItN r) (hl : its.length ≤ 40) (a : Int) (tx : ByteArray) (n : Int) (w : World) (hr : ReadsIt w.heap.size w ia its) :
    Calls Tryz.prog 28 #[.slice ia its.length ic, .agg #[.int .i64 a, .string tx, .int .i64 n]] w fun e w' => e = .returned (.tuple #[deedV R its a tx n, .int .i64 (deedE R its a tx n)]) ∧ Below w.heap.size w w' := by
  have HS : Hid (∀ W, Below w.heap.size w W → Calls Tryz.prog 43 #[.slice ia its.length ic, .string tx, .int .i64 n] W fun e w' => e = .returned (.tuple #[.agg #[.int .i64 (scanL R its tx n).it, .int .i64 (scanL R its tx n).ct, .int .i64 (scanL R its tx n).am, .int .i64 (scanL R its tx n).dp, .int .i64 (scanG R its tx n)], .int .i64 (scanE R its tx n)]) ∧ Below W.heap.size W w') := fun W hW => scanOf_any R hR ia ic its hok hl tx n W (readsIt_later hr hW)
  clear hr hok hR
  rcases (by omega : a = 1 ∨ a = 2 ∨ a = 3 ∨ a = 4 ∨ a = 5 ∨ a = 6 ∨ (¬ a = 1 ∧ ¬ a = 2 ∧ ¬ a = 3 ∧ ¬ a = 4 ∧ ¬ a = 5 ∧ ¬ a = 6)) with rfl | rfl | rfl | rfl | rfl | rfl | ⟨n1, n2, n3, n4, n5, n6⟩
  · have e1 : deedV R its 1 tx n = .iface 91 (.agg #[.int .i64 (scanL R its tx n).it, .int .i64 (scanL R its tx n).ct, .int .i64 (scanL R its tx n).am, .int .i64 (scanL R its tx n).dp, .int .i64 (scanG R its tx n)]) := rfl
    have e2 : deedE R its 1 tx n = scanE R its tx n := rfl
    rw [e1, e2]
    clear e1 e2
    generalize scanE R its tx n = ce at *
    generalize scanL R its tx n = ln at *
    generalize scanG R its tx n = ag at *
    go_enter Tryz.func28, Tryz.ntmps28
    go_wp2_with (go_at_call 43; refine (HS.out _ (below_alloc _ _)).mono ?_; rintro e w2 ⟨rfl, hb2⟩)
    go_ret2
    exact ⟨rfl, chain (below_alloc _ _) hb2⟩
  iterate 5
    · show Calls _ _ _ _ _
      go_enter Tryz.func28, Tryz.ntmps28
      go_wp2
      go_ret2
      exact ⟨rfl, below_alloc _ _⟩
  · have e1 : deedV R its a tx n = .nilIface := by unfold deedV; rw [if_neg n1, if_neg n2, if_neg n3, if_neg n4, if_neg n5, if_neg n6]
    have e2 : deedE R its a tx n = 13 := by unfold deedE; rw [if_neg n1, if_neg (by omega)]
    have b1 : (a == 1) = false := by simpa using n1
    have b2 : (a == 2) = false := by simpa using n2
    have b3 : (a == 3) = false := by simpa using n3
    have b4 : (a == 4) = false := by simpa using n4
    have b5 : (a == 5) = false := by simpa using n5
    have b6 : (a == 6) = false := by simpa using n6
    rw [e1, e2]
    go_enter Tryz.func28, Tryz.ntmps28
    go_wp2
    go_ret2
    exact ⟨rfl, below_alloc _ _⟩
/-- The blocks that an act may turn. -/
def RgX (rb : Nat) (lv kv : Value) : Nat → Prop := fun k => k = rb ∨ lv.ownBlock = some k ∨ kv.ownBlock = some k
theorem ta_scanning_scanning (v : Value) (w : World) : (Instr.typeAssert (.iface 91 v) 75 91 true).run Tryz.prog w = .ok (.tuple #[v, .bool true]) w := by kernel_rfl
theorem ta_voiding_scanning (v : Value) (w : World) : (Instr.typeAssert (.iface 95 v) 75 91 true).run Tryz.prog w = .ok (.tuple #[.agg #[.int .i64 0, .int .i64 0, .int .i64 0, .int .i64 0, .int .i64 0], .bool false]) w := by kernel_rfl
theorem ta_voiding_voiding (v : Value) (w : World) : (Instr.typeAssert (.iface 95 v) 75 95 true).run Tryz.prog w = .ok (.tuple #[v, .bool true]) w := by kernel_rfl
theorem ta_showing_scanning (v : Value) (w : World) : (Instr.typeAssert (.iface 97 v) 75 91 true).run Tryz.prog w = .ok (.tuple #[.agg #[.int .i64 0, .int .i64 0, .int .i64 0, .int .i64 0, .int .i64 0], .bool false]) w := by kernel_rfl
theorem ta_showing_voiding (v : Value) (w : World) : (Instr.typeAssert (.iface 97 v) 75 95 true).run Tryz.prog w = .ok (.tuple #[.agg #[.int .i64 0], .bool false]) w := by kernel_rfl
theorem ta_showing_showing (v : Value) (w : World) : (Instr.typeAssert (.iface 97 v) 75 97 true).run Tryz.prog w = .ok (.tuple #[v, .bool true]) w := by kernel_rfl
theorem ta_suspending_scanning (v : Value) (w : World) : (Instr.typeAssert (.iface 99 v) 75 91 true).run Tryz.prog w = .ok (.tuple #[.agg #[.int .i64 0, .int .i64 0, .int .i64 0, .int .i64 0, .int .i64 0], .bool false]) w := by kernel_rfl
theorem ta_suspending_voiding (v : Value) (w : World) : (Instr.typeAssert (.iface 99 v) 75 95 true).run Tryz.prog w = .ok (.tuple #[.agg #[.int .i64 0], .bool false]) w := by kernel_rfl
theorem ta_suspending_showing (v : Value) (w : World) : (Instr.typeAssert (.iface 99 v) 75 97 true).run Tryz.prog w = .ok (.tuple #[.agg #[.int .i64 0], .bool false]) w := by kernel_rfl
theorem ta_suspending_suspending (v : Value) (w : World) : (Instr.typeAssert (.iface 99 v) 75 99 true).run Tryz.prog w = .ok (.tuple #[v, .bool true]) w := by kernel_rfl
theorem ta_resuming_scanning (v : Value) (w : World) : (Instr.typeAssert (.iface 101 v) 75 91 true).run Tryz.prog w = .ok (.tuple #[.agg #[.int .i64 0, .int .i64 0, .int .i64 0, .int .i64 0, .int .i64 0], .bool false]) w := by kernel_rfl
theorem ta_resuming_voiding (v : Value) (w : World) : (Instr.typeAssert (.iface 101 v) 75 95 true).run Tryz.prog w = .ok (.tuple #[.agg #[.int .i64 0], .bool false]) w := by kernel_rfl
theorem ta_resuming_showing (v : Value) (w : World) : (Instr.typeAssert (.iface 101 v) 75 97 true).run Tryz.prog w = .ok (.tuple #[.agg #[.int .i64 0], .bool false]) w := by kernel_rfl
theorem ta_resuming_suspending (v : Value) (w : World) : (Instr.typeAssert (.iface 101 v) 75 99 true).run Tryz.prog w = .ok (.tuple #[.agg #[], .bool false]) w := by kernel_rfl
theorem ta_resuming_resuming (v : Value) (w : World) : (Instr.typeAssert (.iface 101 v) 75 101 true).run Tryz.prog w = .ok (.tuple #[v, .bool true]) w := by kernel_rfl
theorem ta_paying_scanning (v : Value) (w : World) : (Instr.typeAssert (.iface 103 v) 75 91 true).run Tryz.prog w = .ok (.tuple #[.agg #[.int .i64 0, .int .i64 0, .int .i64 0, .int .i64 0, .int .i64 0], .bool false]) w := by kernel_rfl
theorem ta_paying_voiding (v : Value) (w : World) : (Instr.typeAssert (.iface 103 v) 75 95 true).run Tryz.prog w = .ok (.tuple #[.agg #[.int .i64 0], .bool false]) w := by kernel_rfl
theorem ta_paying_showing (v : Value) (w : World) : (Instr.typeAssert (.iface 103 v) 75 97 true).run Tryz.prog w = .ok (.tuple #[.agg #[.int .i64 0], .bool false]) w := by kernel_rfl
theorem ta_paying_suspending (v : Value) (w : World) : (Instr.typeAssert (.iface 103 v) 75 99 true).run Tryz.prog w = .ok (.tuple #[.agg #[], .bool false]) w := by kernel_rfl
theorem ta_paying_resuming (v : Value) (w : World) : (Instr.typeAssert (.iface 103 v) 75 101 true).run Tryz.prog w = .ok (.tuple #[.agg #[.int .i64 0], .bool false]) w := by kernel_rfl
theorem ta_paying_paying (v : Value) (w : World) : (Instr.typeAssert (.iface 103 v) 75 103 true).run Tryz.prog w = .ok (.tuple #[v, .bool true]) w := by kernel_rfl
set_option maxHeartbeats 4000000 in
set_option maxRecDepth 8000 in
theorem carryShow (B rb : Nat) (iv lv : Value) (ls : List RLi) (sh : Int) (kv : Value) (ks : List Kb) (sl tk dp : Int) (cs : List Int) (n : Int) (w : World) (hg : Rg B rb iv lv ls sh kv ks sl tk dp cs w) :
    Calls Tryz.prog 29 #[.pointer (some ⟨rb, 0, none⟩), .iface 97 (.agg #[.int .i64 n])] w fun e w' => e = .returned (.int .i64 n) ∧ Fr (RgX rb lv kv) w w' ∧ Rg B rb iv lv ls n kv ks sl tk dp cs w' := by
  have r1 := hg.reg.cells.2.1
  have rf := hg.reg.free 1
  have rl := hg.reg.lt
  have HG : Hid (Rg B rb iv lv ls sh kv ks sl tk dp cs w) := hg
  clear hg
  have t1 := ta_showing_scanning
  have t2 := ta_showing_voiding
  have t3 := ta_showing_showing
  go_enter Tryz.func29, Tryz.ntmps29
  go_wp2
  have hr := (HG.out.reg.set1 n)
  have hf : Fr (fun k => k = rb) w (w.setCell ⟨rb, 1, none⟩ (.int .i64 n)) := (Fr.refl (fun k => k = rb) w).set (b := rb) rfl _ _
  have hG := HG.out.cells hf hr
  have hF : Fr (RgX rb lv kv) w (w.setCell ⟨rb, 1, none⟩ (.int .i64 n)) := hf.mono (fun k hk => .inl hk)
  go_ret
  exact ⟨rfl, hF.alloc _, hG.later (below_alloc _ _)⟩
end Go.Proofs.YtabpkfhbnendjaaGreat

/-
  The register behind acts; the program's carryOut where a line is void and where a basket is paid.
-/
namespace Go.Proofs.YtabpkfhbnendjaaGreat
open Go.ChangeShapes Go.WideShapes Go.ChangeAt Go.RowKit Go.Deep
set_option linter.unusedVariables false

theorem far_new {a : Option Nat} {q n : Nat} (h : ∀ p, a = some p → p < n) (hq : n ≤ q) : Far a (some q) := fun p hp e => by
  have := h p hp
  simp only [Option.some.injEq] at e
  omega
theorem far_new' {a : Option Nat} {q n : Nat} (h : ∀ p, a = some p → p < n) (hq : n ≤ q) : Far (some q) a := fun p hp e => by
  simp only [Option.some.injEq] at hp
  have := h p e
  omega
/-- The row of the basket that is now has turned, within its block or to a new one. -/
theorem Rg.now {B rb : Nat} {iv lv : Value} {ls : List RLi} {sh : Int} {kv : Value} {ks : List Kb} {sl tk dp : Int} {cs : List Int} {W W' : World} {lv' : Value} {ls' : List RLi} (h : Rg B rb iv lv ls sh kv ks sl tk dp cs W) (hf : Fr (fun k => k = rb ∨ lv.ownBlock = some k) W W') (hr : RegIs W' rb lv' sh iv kv sl tk dp cs) (hl : W'.ownsRow B 82 4 lv' ls'.length (lnCells ls')) (hv : lv'.ownBlock = lv.ownBlock ∨ ∃ q, lv'.ownBlock = some q ∧ W.heap.size ≤ q) : Rg B rb iv lv' ls' sh kv ks sl tk dp cs W' := by
  obtain ⟨f1, f2, f3, f4, f5, f6, f7⟩ := h.far
  have bk : ∀ p, kv.ownBlock = some p → p < W.heap.size := fun p hp => (row_lt h.krow p hp).2
  have bs : ∀ k ∈ ks, ∀ p, k.v.ownBlock = some p → p < W.heap.size := fun k hk p hp => (row_lt (h.rows k hk) p hp).2
  refine ⟨hr, hl, row_of h.krow (fun q hq => hf.block q (bk q hq) ?_), fun k hk => row_of (h.rows k hk) (fun q hq => hf.block q (bs k hk q hq) ?_), ?_, h.low⟩
  · rintro (e | e)
    · exact f2 (by rw [hq, e])
    · exact f4 q hq e
  · rintro (e | e)
    · exact f3 k hk (by rw [hq, e])
    · exact f6 k hk q e hq
  · rcases hv with e | ⟨q, e, hq⟩
    · rw [e]; exact h.dist
    · rw [e]
      exact dist_mk (by simp; have := h.reg.lt; omega) f2 (by intro k hk; obtain ⟨x, hx, rfl⟩ := List.mem_map.1 hk; exact f3 x hx) (far_new bk hq) (by intro k hk; obtain ⟨x, hx, rfl⟩ := List.mem_map.1 hk; exact f5 x hx) (by intro k hk; obtain ⟨x, hx, rfl⟩ := List.mem_map.1 hk; exact far_new' (bs x hx) hq) f7
/-- The basket that is now has been put behind the kept ones. -/
theorem Rg.susp {B rb : Nat} {iv lv : Value} {ls : List RLi} {sh : Int} {kv : Value} {ks : List Kb} {sl tk dp : Int} {cs : List Int} {W W' : World} {kv' : Value} (h : Rg B rb iv lv ls sh kv ks sl tk dp cs W) (hf : Fr (fun k => k = rb ∨ kv.ownBlock = some k) W W') (hr : RegIs W' rb (.slice none 0 0) 0 iv kv' sl tk dp cs) (hk' : W'.ownsRow B 30 2 kv' (ks.length + 1) (ks.flatMap kbC ++ kbC ⟨lv, ls, sh⟩)) (hv : kv'.ownBlock = kv.ownBlock ∨ ∃ q, kv'.ownBlock = some q ∧ W.heap.size ≤ q) : Rg B rb iv (.slice none 0 0) [] 0 kv' (ks ++ [Kb.mk lv ls sh]) sl tk dp cs W' := by
  obtain ⟨f1, f2, f3, f4, f5, f6, f7⟩ := h.far
  have bl : ∀ p, lv.ownBlock = some p → p < W.heap.size := fun p hp => (row_lt h.lrow p hp).2
  have bs : ∀ k ∈ ks, ∀ p, k.v.ownBlock = some p → p < W.heap.size := fun k hk p hp => (row_lt (h.rows k hk) p hp).2
  have hrows : ∀ k ∈ ks ++ [Kb.mk lv ls sh], W'.ownsRow B 82 4 k.v k.ls.length (lnCells k.ls) := fun k hk => by
    rcases List.mem_append.1 hk with hk | hk
    · refine row_of (h.rows k hk) (fun q hq => hf.block q (bs k hk q hq) ?_)
      rintro (e | e)
      · exact f3 k hk (by rw [hq, e])
      · exact f5 k hk q e hq
    · rw [List.mem_singleton.1 hk]
      refine row_of h.lrow (fun q hq => hf.block q (bl q hq) ?_)
      rintro (e | e)
      · exact f1 (by rw [hq, e])
      · exact f4 q e hq
  refine ⟨hr, World.ownsRow_nil _ _ _ _, ?_, hrows, ?_, h.low⟩
  · rw [List.length_append, List.flatMap_append]; simpa using hk'
  · have p1 : ((ks ++ [Kb.mk lv ls sh]).map (·.v.ownBlock)).Pairwise Far := by
      rw [List.map_append, List.pairwise_append]
      refine ⟨f7, by simp, fun a ha b hb => ?_⟩
      obtain ⟨x, hx, rfl⟩ := List.mem_map.1 ha
      simp at hb
      subst hb
      exact fun q hq e => f6 x hx q e hq
    have p2 : ∀ a ∈ (ks ++ [Kb.mk lv ls sh]).map (·.v.ownBlock), a ≠ some rb := fun a ha => by
      obtain ⟨x, hx, rfl⟩ := List.mem_map.1 ha
      rcases List.mem_append.1 hx with hx | hx
      · exact f3 x hx
      · rw [List.mem_singleton.1 hx]; exact f1
    have p3 : ∀ a ∈ (ks ++ [Kb.mk lv ls sh]).map (·.v.ownBlock), Far kv.ownBlock a := fun a ha => by
      obtain ⟨x, hx, rfl⟩ := List.mem_map.1 ha
      rcases List.mem_append.1 hx with hx | hx
      · exact f5 x hx
      · rw [List.mem_singleton.1 hx]; exact f4
    have p4 : ∀ a ∈ (ks ++ [Kb.mk lv ls sh]).map (·.v.ownBlock), ∀ p, a = some p → p < W.heap.size := fun a ha p hp => by
      obtain ⟨x, hx, rfl⟩ := List.mem_map.1 ha
      rcases List.mem_append.1 hx with hx | hx
      · exact bs x hx p hp
      · rw [List.mem_singleton.1 hx] at hp; exact bl p hp
    rcases hv with e | ⟨q, e, hq⟩
    · rw [e]; exact dist_mk (by simp [Value.ownBlock]) f2 p2 (far_none' _) p3 (fun _ _ => far_none _) p1
    · rw [e]; exact dist_mk (by simp [Value.ownBlock]) (by simp; have := h.reg.lt; omega) p2 (far_none' _) (fun a ha => far_new' (p4 a ha) hq) (fun _ _ => far_none _) p1
set_option maxHeartbeats 4000000 in
set_option maxRecDepth 8000 in
theorem carryPay (its : List RIt) (hok : ∀ r ∈ its, ItN r) (hil : its.length ≤ 40) (ia : Option Addr) (ic B rb : Nat) (la : Option Addr) (lc : Nat) (ls : List RLi) (hls : ∀ l ∈ ls, LiI its l) (hl : ls.length ≤ 50) (sh : Int) (kv : Value) (ks : List Kb) (sl tk dp : Int) (cs : List Int) (hb1 : 0 ≤ sl ∧ sl ≤ 1000000) (hb2 : 0 ≤ tk ∧ tk ≤ 1000000000000) (hb3 : 0 ≤ dp ∧ dp ≤ 1000000000000) (hcs : CsB cs 1000000000000) (n : Int) (hn : -1000000000000 ≤ n ∧ n ≤ 1000000000000) (w : World) (hg : Rg B rb (.slice ia its.length ic) (.slice la ls.length lc) ls sh kv ks sl tk dp cs w) (hI : ReadsIt B w ia its) :
    Calls Tryz.prog 29 #[.pointer (some ⟨rb, 0, none⟩), .iface 103 (.agg #[.int .i64 n])] w fun e w' => e = .returned (.int .i64 (n - totL ls)) ∧ Fr (RgX rb (.slice la ls.length lc) kv) w w' ∧ Rg B rb (.slice ia its.length ic) (.slice none 0 0) [] 0 kv ks (sl + 1) (tk + totL ls) (depM dp ls) (clsM its cs ls) w' := by
  have hlow := hg.low
  have hlt := hg.reg.lt
  have HG : Hid (Rg B rb (.slice ia its.length ic) (.slice la ls.length lc) ls sh kv ks sl tk dp cs w) := hg
  have HSe : Hid (∀ W, Below w.heap.size w W → Calls Tryz.prog 49 #[.pointer (some ⟨rb, 0, none⟩)] W fun e w' => e = .returned (.int .i64 (totL ls)) ∧ Fr (fun k => k = rb) W w' ∧ RegIs w' rb (.slice none 0 0) 0 (.slice ia its.length ic) kv (sl + 1) (tk + totL ls) (depM dp ls) (clsM its cs ls)) := fun W hW => by
    have hgW := hg.later hW
    refine sell_any its hok hil ia ic rb la lc ls hls hl sh kv sl tk dp cs hb1 hb2 hb3 hcs W hgW.reg (fun W' hf => ?_) (fun W' hf => ?_)
    · exact (rowLn_reads (row_of hgW.lrow (fun q hq => hf.block q (row_lt hgW.lrow q hq).2 (fun e => hgW.far.1 (by rw [hq, e]))))).2
    · have hBW : Below B w W' := Fr.below (X := fun k => k = rb) (hW.mono (by omega)) hf (Nat.le_trans (Nat.le_of_lt (Nat.lt_of_le_of_lt hlow hlt)) hW.size) (fun k hk => by rw [hk]; exact hlow)
      exact (hI.below hBW).mono (by have := hf.size; have := hW.size; omega)
  obtain ⟨t1, t2⟩ := totL_nn (fun l h => (hls l h).1)
  have hw : IntKind.i64.wrap (n - totL ls) = n - totL ls := wrap_id _ (by omega) (by omega)
  clear hg hI hok hls hcs
  generalize totL ls = tot at *
  have t1' := ta_paying_scanning
  have t2' := ta_paying_voiding
  have t3' := ta_paying_showing
  have t4' := ta_paying_suspending
  have t5' := ta_paying_resuming
  have t6' := ta_paying_paying
  go_enter Tryz.func29, Tryz.ntmps29
  go_wp2_with fail
  have hbx := heapNew w (Obj.cells #[.int .i64 n] 103)
  have hW2 : Below w.heap.size w (w.alloc (Obj.cells #[.int .i64 n] 103)) := below_alloc _ _
  generalize (w.alloc (Obj.cells #[.int .i64 n] 103)) = W2 at *
  refine wp_region_held_drew (S := fun W => W.heap[w.heap.size]? = some (.cells #[.int .i64 n] 103 (0, 0))) (by kernel_rfl) hbx (fun hH => ?_)
  refine wpAnyH_take (i := 0) (v := .pointer (some ⟨w.heap.size, 0, none⟩)) rfl (by kernel_rfl) (by kernel_rfl) (by kernel_rfl) (fun _ _ _ h => h) (Or.inl ⟨by rfl, fun w hSw => by go_simp⟩) hH ?_
  refine wpAnyH_take (i := 1) (v := .int .i64 n) rfl (by kernel_rfl) (by kernel_rfl) (by kernel_rfl) (fun _ _ _ h => h) (Or.inl ⟨by rfl, fun w hSw => by have f0 := blkCell hSw 0 _ rfl; go_simp⟩) hH ?_
  try simp only [Act.put, List.setIfInBounds_toArray, List.set_cons_zero, List.set_cons_succ, List.getElem_toArray, List.getElem_cons_succ, List.getElem_cons_zero]
  refine wpAnyH_take (i := 2) (v := .pointer (some ⟨rb, 0, none⟩)) rfl (by kernel_rfl) (by kernel_rfl) (by kernel_rfl) (fun _ _ _ h => h) (Or.inl ⟨by rfl, fun w hSw => by go_simp⟩) hH ?_
  try simp only [Act.put, List.setIfInBounds_toArray, List.set_cons_zero, List.set_cons_succ, List.getElem_toArray, List.getElem_cons_succ, List.getElem_cons_zero]
  refine wpAnyH_ready (rs := [3]) (by kernel_rfl) (by simp) ?_
  refine AllReadyH.cons rfl (fun K hK => ?_) AllReadyH.nil
  go_simp
  go_at_call 49
  refine (HSe.out _ (chain hW2 (below_drew _))).mono ?_
  rintro e w5 ⟨rfl, hf5, hr5⟩
  have hH5 : w5.heap[w.heap.size]? = some (.cells #[.int .i64 n] 103 (0, 0)) := (hf5.block _ (blkLt hH) (by omega)).trans hH
  refine hK.out _ _ hH5 (fun _ => ?_)
  clear hK K
  try simp only [Act.put, List.setIfInBounds_toArray, List.set_cons_zero, List.set_cons_succ, List.getElem_toArray, List.getElem_cons_succ, List.getElem_cons_zero]
  refine wpAnyH_take (i := 4) (v := .int .i64 (n - tot)) rfl (by kernel_rfl) (by kernel_rfl) (by kernel_rfl) (fun _ _ _ h => h) (Or.inl ⟨by rfl, fun w hSw => by go_simp⟩) hH5 ?_
  try simp only [Act.put, List.setIfInBounds_toArray, List.set_cons_zero, List.set_cons_succ, List.getElem_toArray, List.getElem_cons_succ, List.getElem_cons_zero]
  refine wpAnyH_take (i := 5) (v := .int .i64 (n - tot)) rfl (by kernel_rfl) (by kernel_rfl) (by kernel_rfl) (fun _ _ _ h => h) (Or.inl ⟨by rfl, fun w hSw => by go_simp⟩) hH5 ?_
  try simp only [Act.put, List.setIfInBounds_toArray, List.set_cons_zero, List.set_cons_succ, List.getElem_toArray, List.getElem_cons_succ, List.getElem_cons_zero]
  refine wpAnyH_done (by kernel_rfl) ?_ _
  try simp
  have HFi : Hid (Fr (RgX rb (.slice la ls.length lc) kv) w w5 ∧ Rg B rb (.slice ia its.length ic) (.slice none 0 0) [] 0 kv ks (sl + 1) (tk + tot) (depM dp ls) (clsM its cs ls) w5) := ⟨(Fr.of (chain hW2 (below_drew _))).trans (hf5.mono (fun k hk => .inl hk)), (HG.out.later (chain hW2 (below_drew _))).blank hf5 hr5⟩
  clear hf5 hr5 hH5 hH hbx
  go_wp2
  go_ret
  exact ⟨rfl, HFi.out⟩
end Go.Proofs.YtabpkfhbnendjaaGreat

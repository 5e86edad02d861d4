/-
  Communication in one goroutine within the ordinary walk: a judgement of code for frames that are not early, its rules, and regions in which a value is sent or a select chooses. Nothing of the program is in it.
-/
import Derived.Test.YthmhpgbkapjjkaaBase
import Derived.Conc.LoneCalls
import Derived.Conc.LoneSelect
namespace Go.Proofs.Ythmhpgbkapjjkaa
open Go.ChangeShapes Go.WideShapes Go.ChangeAt Go.RowKit Go.Deep Go.Conc
set_option linter.unusedVariables false

/-- From the code's begin it comes to an exit of which Q holds, in whatever frame that is not early. -/
def wpN (P : Program) (c : Code) (Q : Exit → Act → World → Prop) (a : Act) (w : World) : Prop :=
  ∀ (b : Frame) (k : List Item) (cs : List Frame), b.kind ≠ .early → ∃ e a' w', Q e a' w' ∧ Arrives P (lone (b.at a (.code c :: k)) cs w) b k cs e a' w'
/-- Within a region, the operations of l still to come. -/
def RunL (P : Program) (ops : Array Oper) (Q : Exit → Act → World → Prop) (l : List Nat) (a : Act) (w : World) : Prop :=
  ∀ (b : Frame) (k : List Item) (cs : List Frame), b.kind ≠ .early → ∃ e a' w', Q e a' w' ∧ Arrives P (lone (b.at a (.inRegion ops l :: k)) cs w) b k cs e a' w'
/-- Operation i comes up: one step. -/
def OneTo (P : Program) (ops : Array Oper) (i : Nat) (a : Act) (w : World) (a' : Act) (w' : World) : Prop :=
  ∀ (b : Frame) (k : List Item) (cs : List Frame) (rest : List Nat), b.kind ≠ .early → step P (lone (b.at a (.inRegion ops (i :: rest) :: k)) cs w) = .next (lone (b.at a' (.inRegion ops rest :: k)) cs w')

section
variable {P : Program} {Q : Exit → Act → World → Prop} {a a' : Act} {w w' : World} {ops : Array Oper} {i : Nat} {rest : List Nat} {o : Oper}
theorem wpN_of {c : Code} (h : c.wp P Q a w) : wpN P c Q a w := fun b k cs _ => h b k cs
theorem wpN_mono {c : Code} {Q' : Exit → Act → World → Prop} (h : wpN P c Q a w) (hq : ∀ e a w, Q e a w → Q' e a w) : wpN P c Q' a w :=
  fun b k cs hb => let ⟨e, a', w', q, r⟩ := h b k cs hb; ⟨e, a', w', hq _ _ _ q, r⟩
theorem wpN_seq {x y : Code} (h : wpN P x (Exit.then (wpN P y Q) Q) a w) : wpN P (.seq x y) Q a w := fun b k cs hb => by
  obtain ⟨e, a₁, w₁, hq, har⟩ := h b (.code y :: k) cs hb
  by_cases he : e = .normal
  · subst he
    obtain ⟨e₂, a₂, w₂, hq₂, har₂⟩ := hq b k cs hb
    exact ⟨e₂, a₂, w₂, hq₂, .of_steps (.head step_seq har) har₂⟩
  · refine ⟨e, a₁, w₁, ?_, .of_steps (.one step_seq) (.pass (x := .code y) rfl (fun _ _ => .inl he) har)⟩
    cases e <;> first | exact hq | exact absurd rfl he
theorem wpN_seq_of {x y : Code} (h : x.wp P (Exit.then (wpN P y Q) Q) a w) : wpN P (.seq x y) Q a w := wpN_seq (wpN_of h)
theorem wpN_seq_mid {x y : Code} (M : Act → World → Prop) (h : x.wp P (Exit.then M Q) a w) (hy : ∀ a w, M a w → wpN P y Q a w) : wpN P (.seq x y) Q a w :=
  wpN_seq_of (wp_mono h fun e a w q => by cases e <;> first | exact hy _ _ q | exact q)
theorem wpN_cond {c : Operand} {x y : Code} {t : Bool} (hc : a.eval c = .bool t) (h : wpN P (if t then x else y) Q a w) : wpN P (.cond c x y) Q a w :=
  fun b k cs hb => let ⟨e, a', w', q, r⟩ := h b k cs hb; ⟨e, a', w', q, .of_steps (.one (step_cond hc)) r⟩
theorem wpN_block {id : Nat} {c : Code} (h : wpN P c (Exit.inBlock id Q) a w) : wpN P (.block id c) Q a w := fun b k cs hb => by
  obtain ⟨e, a₁, w₁, hq, har⟩ := h b (.inBlock id :: k) cs hb
  have hst : Steps P (lone (b.at a (.code (.block id c) :: k)) cs w) (lone (b.at a (.code c :: .inBlock id :: k)) cs w) := .one step_block
  cases e with
  | normal => exact ⟨.normal, a₁, w₁, hq, hst.trans (Steps.trans har (.one step_inBlock))⟩
  | exit id' =>
    by_cases hid : id' = id
    · subst hid
      have hq' : Q .normal a₁ w₁ := by simpa [Exit.inBlock] using hq
      exact ⟨.normal, a₁, w₁, hq', hst.trans (har k (by simp [exitTo]))⟩
    · have hq' : Q (.exit id') a₁ w₁ := by simpa [Exit.inBlock, hid] using hq
      refine ⟨.exit id', a₁, w₁, hq', fun k' hk => hst.trans (har k' ?_)⟩
      have hne : (id == id') = false := by simp; exact fun h => hid h.symm
      simp [exitTo, hne, hk]
  | goto l => exact ⟨_, a₁, w₁, hq, fun k' hk => hst.trans (har k' (by simp [gotoIn, hk]))⟩
  | ret => exact ⟨_, a₁, w₁, hq, .of_steps hst har⟩
  | panic ch => exact ⟨_, a₁, w₁, hq, .of_steps hst har⟩
  | outgrown => exact ⟨_, a₁, w₁, hq, .of_steps (b := b) (k := k) (cs := cs) (e := .outgrown) hst har⟩
theorem wpN_loop {c : Code} (I : Act → World → Prop) (μ : Act → World → Nat) (h₀ : I a w)
    (round : ∀ a w, I a w → wpN P c (Exit.then (fun a' w' => I a' w' ∧ μ a' w' < μ a w) Q) a w) : wpN P (.loop c) Q a w := fun b k cs hb => by
  have key : ∀ n a w, μ a w < n → I a w → ∃ e a' w', Q e a' w' ∧ Arrives P (lone (b.at a (.code c :: .inLoop c :: k)) cs w) b k cs e a' w' := by
    intro n
    induction n with
    | zero => intro a w h; omega
    | succ n ih =>
      intro a w hn hI
      obtain ⟨e, a₁, w₁, hq, har⟩ := round a w hI b (.inLoop c :: k) cs hb
      by_cases he : e = .normal
      · subst he
        have hq2 : I a₁ w₁ ∧ μ a₁ w₁ < μ a w := hq
        obtain ⟨e₂, a₂, w₂, hq₂, har₂⟩ := ih a₁ w₁ (by omega) hq2.1
        exact ⟨e₂, a₂, w₂, hq₂, .of_steps (Steps.trans har (.one step_inLoop)) har₂⟩
      · refine ⟨e, a₁, w₁, ?_, .pass (x := .inLoop c) rfl (fun _ _ => .inl he) har⟩
        cases e <;> first | exact hq | exact absurd rfl he
  obtain ⟨e, a', w', hq, har⟩ := key (μ a w + 1) a w (by omega) h₀
  exact ⟨e, a', w', hq, .of_steps (.one step_loop) har⟩
/-- A loop whose measure stands in no slot. -/
theorem wpN_loopG {c : Code} (I : Nat → Act → World → Prop) (n₀ : Nat) (h₀ : I n₀ a w)
    (round : ∀ n a w, I n a w → wpN P c (Exit.then (fun a' w' => ∃ n', n' < n ∧ I n' a' w') Q) a w) : wpN P (.loop c) Q a w := fun b k cs hb => by
  have key : ∀ m n a w, n < m → I n a w → ∃ e a' w', Q e a' w' ∧ Arrives P (lone (b.at a (.code c :: .inLoop c :: k)) cs w) b k cs e a' w' := by
    intro m
    induction m with
    | zero => intro n a w h; omega
    | succ m ih =>
      intro n a w hn hI
      obtain ⟨e, a₁, w₁, hq, har⟩ := round n a w hI b (.inLoop c :: k) cs hb
      by_cases he : e = .normal
      · subst he
        obtain ⟨n', hn', hI'⟩ : ∃ n', n' < n ∧ I n' a₁ w₁ := hq
        obtain ⟨e₂, a₂, w₂, hq₂, har₂⟩ := ih n' a₁ w₁ (by omega) hI'
        exact ⟨e₂, a₂, w₂, hq₂, .of_steps (Steps.trans har (.one step_inLoop)) har₂⟩
      · refine ⟨e, a₁, w₁, ?_, .pass (x := .inLoop c) rfl (fun _ _ => .inl he) har⟩
        cases e <;> first | exact hq | exact absurd rfl he
  obtain ⟨e, a', w', hq, har⟩ := key (n₀ + 1) n₀ a w (by omega) h₀
  exact ⟨e, a', w', hq, .of_steps (.one step_loop) har⟩
theorem calls_of_wpN {f : FuncId} {fn : Func} {c : Code} {args : Array Value} {R : Ending → World → Prop} (hf : P.funcs[f]? = some fn) (hb : fn.body = some c)
    (h : wpN P c (bodyPost P fn R) { tmps := args ++ Array.replicate (fn.ntmps - args.size) undef, defers := [] } w) : Calls P f args w R := fun cs => by
  obtain ⟨b, hbd⟩ : ∃ b : Frame, b = { (default : Frame) with fn := f, kind := .normal } := ⟨_, rfl⟩
  have hbk : b.kind = .normal := by rw [hbd]
  have hbf : b.fn = f := by rw [hbd]
  have hen : Frame.enter P f args .normal = b.at { tmps := args ++ Array.replicate (fn.ntmps - args.size) undef, defers := [] } [.code c] := by
    rw [hbd]; simp [Frame.enter, Frame.at, hf, hb]
  obtain ⟨e, a', w', hq, har⟩ := h b [] cs (by rw [hbk]; decide)
  rw [← hen] at har
  have hfn : ∀ t, (b.at a' t).fn = f := fun _ => hbf
  have hkd : ∀ t, (b.at a' t).kind = .normal := fun _ => hbk
  cases e with
  | normal =>
    obtain ⟨hd, v, hr, hR⟩ := hq
    exact ⟨.returned v, w', { b.at a' [] with mode := .returning }, hR, Steps.trans har (.one step_end), hbf, ⟨rfl, hd, hbk, fn, by show P.funcs[b.fn]? = _; rw [hbf]; exact hf, hr⟩⟩
  | ret =>
    obtain ⟨hd, v, hr, hR⟩ := hq
    obtain ⟨todo, hs⟩ := har
    exact ⟨.returned v, w', _, hR, hs, hbf, ⟨rfl, hd, hbk, fn, by show P.funcs[b.fn]? = _; rw [hbf]; exact hf, hr⟩⟩
  | panic chain =>
    obtain ⟨hd, hR⟩ := hq
    obtain ⟨todo, hs⟩ := har
    exact ⟨.panicked chain, w', _, hR, hs, hbf, ⟨rfl, hd, fn, by show P.funcs[b.fn]? = _; rw [hbf]; exact hf⟩⟩
  | exit id => exact hq.elim
  | goto l => exact hq.elim
  | outgrown => exact ⟨.outgrown, w', b, hq, har.resolve_left (by rw [hbk]; decide), hbf, trivial⟩

/-! ### operations -/
theorem fin_at {b : Frame} {k : List Item} (ho : ops[i]? = some o) (v : Value) : (b.at a (.inRegion ops (i :: rest) :: k)).finish v = b.at (a.put o.dst v) (.inRegion ops rest :: k) := by
  rw [Frame.finish_at, ho]; rfl
theorem OneTo.val {v : Value} (ho : ops[i]? = some o) (hw : Region.wanted o (yielded ops a.tmps) = true) (hr : (execOp a.eval o).run P w = .ok (.value v) w') : OneTo P ops i a w (a.put o.dst v) w' := fun b k cs rest _ => by
  refine step_lone_go ?_
  rw [stepG_op ho hw, ← fin_at ho]
  simp [stepG.apply, hr]
theorem OneTo.skip (ho : ops[i]? = some o) (hw : Region.wanted o (yielded ops a.tmps) = true) (hr : (execOp a.eval o).run P w = .ok .skip w') : OneTo P ops i a w (a.put o.dst undef) w' := fun b k cs rest _ => by
  refine step_lone_go ?_
  rw [stepG_op ho hw, ← fin_at ho]
  simp [stepG.apply, hr]
theorem OneTo.send {c cap s r : Nat} {buf : Array Value} {tm : Bool} {v z' : Value} (ho : ops[i]? = some o) (hw : Region.wanted o (yielded ops a.tmps) = true)
    (hr : (execOp a.eval o).run P w = .ok (.comm #[scase c v z'] true .send) w) (hc : w.heap[c]? = some (.chan cap buf false s r tm)) (hroom : buf.size < cap) :
    OneTo P ops i a w (a.put o.dst undef) (w.setChan c cap (buf.push v) false (s + 1) r tm) := fun b k cs rest hb => by
  have h := step_lone_send_room (P := P) (fr := b.at a (.inRegion ops (i :: rest) :: k)) (cs := cs) (stepG_comm (main := true) ho hw hb hr) hc hroom
  rw [fin_at ho] at h
  exact h
theorem OneTo.first {c cap s r : Nat} {buf : Array Value} {tm cl : Bool} {z : Value} (ho : ops[i]? = some o) (hw : Region.wanted o (yielded ops a.tmps) = true)
    (hr : (execOp a.eval o).run P w = .ok (.comm #[rcase c z] false .select) w) (hc : w.heap[c]? = some (.chan cap buf cl s r tm)) (hs : 0 < buf.size) :
    OneTo P ops i a w (a.put o.dst (.tuple #[goInt 0, .bool true, buf.getD 0 undef])) (w.setChan c cap (buf.extract 1 buf.size) cl s (r + 1) tm) := fun b k cs rest hb => by
  have h := step_lone_select_recv_buf (P := P) (fr := b.at a (.inRegion ops (i :: rest) :: k)) (cs := cs) (stepG_comm (main := true) ho hw hb hr) hc hs
  rw [fin_at ho] at h
  exact h
theorem OneTo.default {c cap s r : Nat} {tm : Bool} {z : Value} (ho : ops[i]? = some o) (hw : Region.wanted o (yielded ops a.tmps) = true)
    (hr : (execOp a.eval o).run P w = .ok (.comm #[rcase c z] false .select) w) (hc : w.heap[c]? = some (.chan cap #[] false s r tm)) :
    OneTo P ops i a w (a.put o.dst (.tuple #[goInt (-1), .bool false, z])) w := fun b k cs rest hb => by
  have h := step_lone_select_default (P := P) (fr := b.at a (.inRegion ops (i :: rest) :: k)) (cs := cs) (stepG_comm (main := true) ho hw hb hr) hc
  rw [fin_at ho] at h
  exact h

/-! ### regions -/
theorem RunL.nil (h : Q .normal a w) : RunL P ops Q [] a w := fun _ _ _ _ => ⟨.normal, a, w, h, .one step_region_end⟩
theorem RunL.cons (h1 : OneTo P ops i a w a' w') (h : RunL P ops Q rest a' w') : RunL P ops Q (i :: rest) a w := fun b k cs hb => by
  obtain ⟨e, a₂, w₂, hq, har⟩ := h b k cs hb
  exact ⟨e, a₂, w₂, hq, .of_steps (.one (h1 b k cs rest hb)) har⟩
theorem wpN_region {id : Nat} (h : RunL P ops Q (List.range ops.size) a w) : wpN P (.region id ops false) Q a w := fun b k cs hb =>
  let ⟨e, a', w', q, r⟩ := h b k cs hb; ⟨e, a', w', q, .of_steps (.one step_region) r⟩
theorem lin_succ (fuel t : Nat) (listed : Array Bool) (acc : List Nat) : Region.linearise.go .any ops (fuel + 1) t listed acc = match (Region.ready .any ops listed)[t % (Region.ready .any ops listed).length]? with
    | some i => Region.linearise.go .any ops fuel (t / (Region.ready .any ops listed).length) (listed.setIfInBounds i true) (i :: acc)
    | none => acc.reverse := rfl
/-- Whatever order is drawn from here on. -/
def RunA (P : Program) (ops : Array Oper) (Q : Exit → Act → World → Prop) (fuel : Nat) (listed : Array Bool) (a : Act) (w : World) : Prop :=
  ∀ t, RunL P ops Q (Region.linearise.go .any ops fuel t listed []) a w
theorem RunA.done {listed : Array Bool} (hr : Region.ready .any ops listed = []) (h : Q .normal a w) : ∀ fuel, RunA P ops Q fuel listed a w
  | 0, t => by simpa [Region.linearise.go] using RunL.nil h
  | fuel + 1, t => by
    have : Region.linearise.go .any ops (fuel + 1) t listed [] = [] := by rw [lin_succ, hr]; rfl
    rw [this]; exact RunL.nil h
theorem RunA.next {listed : Array Bool} {rs : List Nat} {fuel : Nat} (hr : Region.ready .any ops listed = rs) (hne : rs ≠ [])
    (h : ∀ i ∈ rs, ∃ a' w', OneTo P ops i a w a' w' ∧ RunA P ops Q fuel (listed.setIfInBounds i true) a' w') : RunA P ops Q (fuel + 1) listed a w := fun t => by
  have hlt : t % rs.length < rs.length := Nat.mod_lt _ (List.length_pos_iff.2 hne)
  have hi : (Region.ready .any ops listed)[t % (Region.ready .any ops listed).length]? = some rs[t % rs.length] := by subst hr; exact List.getElem?_eq_getElem hlt
  have hgo : Region.linearise.go .any ops (fuel + 1) t listed [] = rs[t % rs.length] :: Region.linearise.go .any ops fuel (t / rs.length) (listed.setIfInBounds rs[t % rs.length] true) [] := by
    have e : Region.linearise.go .any ops (fuel + 1) t listed [] = Region.linearise.go .any ops fuel (t / rs.length) (listed.setIfInBounds rs[t % rs.length] true) [rs[t % rs.length]] := by
      rw [lin_succ, hi, hr]
    rw [e, linearise_go_acc]
    rfl
  obtain ⟨a', w', h1, h2⟩ := h _ (List.getElem_mem hlt)
  rw [hgo]
  exact RunL.cons h1 (h2 _)
theorem wpN_region_draw {id : Nat} (hm : P.follows .mixedOrders = true) (h : RunA P ops Q ops.size (Array.replicate ops.size false) a w.drew) : wpN P (.region id ops true) Q a w := fun b k cs hb => by
  obtain ⟨e, a', w', q, r⟩ := h (w.tape w.drawn (.order b.fn id)) b k cs hb
  refine ⟨e, a', w', q, .of_steps (.one step_region_draw) ?_⟩
  simp only [Region.schedule, hm, Bool.true_or, if_true]
  exact r
end
end Go.Proofs.Ythmhpgbkapjjkaa

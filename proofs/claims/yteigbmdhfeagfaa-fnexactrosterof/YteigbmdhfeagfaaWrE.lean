/-
  Contract of the program's given: a rota with the next shift given to a worker, or what stands against that.
-/
import Derived.Test.YteigbmdhfeagfaaWrD
import Derived.Test.YteigbmdhfeagfaaRegZ
import Derived.Deep.DeepCutAuto
import Derived.Deep.CutRange
import Derived.Laws.CopyOwn
namespace Go.Proofs.Yteigbmdhfeagfaa
open Go.ChangeShapes Go.WideShapes Go.ChangeAt Go.RowKit Go.Deep
set_option linter.unusedVariables false

section
variable {w : World} {cb rb qb : Nat} {CB : Array Value} {R : Nat → Int} {W W' : World}
theorem GvI.later (h : GvI w cb rb qb CB R W) (hb : Below W.heap.size W W') : GvI w cb rb qb CB R W' :=
  ⟨chain h.low hb, (hb.block cb (blkLt h.cr)).trans h.cr, h.rt.later hb, h.rs.later hb, h.lo⟩
theorem GvI.set (h : GvI w cb rb qb CB R W) {k : Nat} (hk : k < 20) (v : Int) : GvI w cb rb qb CB (rtS R k v) (W.setCell ⟨rb, k, none⟩ (.int .i64 v)) := by
  have hne : cb ≠ rb := fun e => by
    have h1 := h.cr
    have h2 := h.rt
    unfold RtAt at h2
    rw [e, h2] at h1
    simp at h1
  exact ⟨h.low.setCell h.lo.1 _, (heap_setCell_other _ _ _ _ hne).trans h.cr, h.rt.set hk v, (heap_setCell_other _ _ _ _ (by show qb ≠ rb; exact h.lo.2.2.symm)).trans h.rs, h.lo⟩
theorem gv_other {k o : Nat} {v : Value} {V : Array Value} {t : TypeId} (h : GvI w cb rb qb CB R W) (hk : W.heap[k]? = some (.cells V t (0, 0))) (ht : t ≠ 83) : (W.setCell ⟨rb, o, none⟩ v).heap[k]? = some (.cells V t (0, 0)) := by
  refine (heap_setCell_other _ _ _ _ (fun e => ?_)).trans hk
  have e : k = rb := e
  have h2 := h.rt
  unfold RtAt at h2
  rw [e, h2] at hk
  simp at hk
  exact ht hk.2.symm
end
theorem set_three {W : World} {b : Nat} {u0 u1 u2 : Value} {t : TypeId} (h : W.heap[b]? = some (.cells #[u0, u1, u2] t (0, 0))) (x0 x1 x2 : Value) : (((W.setCell ⟨b, 0, none⟩ x0).setCell ⟨b, 1, none⟩ x1).setCell ⟨b, 2, none⟩ x2).heap[b]? = some (.cells #[x0, x1, x2] t (0, 0)) ∧ ∀ d, d ≠ b → (((W.setCell ⟨b, 0, none⟩ x0).setCell ⟨b, 1, none⟩ x1).setCell ⟨b, 2, none⟩ x2).heap[d]? = W.heap[d]? := by
  have h0 := heap_setCell_same W b 0 _ t x0 h
  have h1 := heap_setCell_same _ b 1 _ t x1 h0
  have h2 := heap_setCell_same _ b 2 _ t x2 h1
  refine ⟨by rw [h2]; simp only [List.setIfInBounds_toArray, List.set_cons_zero, List.set_cons_succ], fun d hd => ?_⟩
  rw [heap_setCell_other _ _ _ _ hd, heap_setCell_other _ _ _ _ hd, heap_setCell_other _ _ _ _ hd]
theorem set_five {W : World} {b : Nat} {u0 u1 u2 u3 u4 : Value} {t : TypeId} (h : W.heap[b]? = some (.cells #[u0, u1, u2, u3, u4] t (0, 0))) (x0 x1 x2 x3 x4 : Value) : (((((W.setCell ⟨b, 0, none⟩ x0).setCell ⟨b, 1, none⟩ x1).setCell ⟨b, 2, none⟩ x2).setCell ⟨b, 3, none⟩ x3).setCell ⟨b, 4, none⟩ x4).heap[b]? = some (.cells #[x0, x1, x2, x3, x4] t (0, 0)) ∧ ∀ d, d ≠ b → (((((W.setCell ⟨b, 0, none⟩ x0).setCell ⟨b, 1, none⟩ x1).setCell ⟨b, 2, none⟩ x2).setCell ⟨b, 3, none⟩ x3).setCell ⟨b, 4, none⟩ x4).heap[d]? = W.heap[d]? := by
  have h0 := heap_setCell_same W b 0 _ t x0 h
  have h1 := heap_setCell_same _ b 1 _ t x1 h0
  have h2 := heap_setCell_same _ b 2 _ t x2 h1
  have h3 := heap_setCell_same _ b 3 _ t x3 h2
  have h4 := heap_setCell_same _ b 4 _ t x4 h3
  refine ⟨by rw [h4]; simp only [List.setIfInBounds_toArray, List.set_cons_zero, List.set_cons_succ], fun d hd => ?_⟩
  rw [heap_setCell_other _ _ _ _ hd, heap_setCell_other _ _ _ _ hd, heap_setCell_other _ _ _ _ hd, heap_setCell_other _ _ _ _ hd, heap_setCell_other _ _ _ _ hd]
/-- The shift's block and the worker's, being made: none, empty, or with what they hold. -/
structure TwI (W0 : World) (ps px : Option (Nat × Array Value)) (W : World) : Prop where
  low : Below W0.heap.size W0 W
  sh : ∀ b V, ps = some (b, V) → W.heap[b]? = some (.cells V 54 (0, 0)) ∧ W0.heap.size ≤ b
  wk : ∀ b V, px = some (b, V) → W.heap[b]? = some (.cells V 56 (0, 0)) ∧ W0.heap.size ≤ b
section
variable {W0 W W' : World} {ps px : Option (Nat × Array Value)}
theorem TwI.later (h : TwI W0 ps px W) (hb : Below W.heap.size W W') : TwI W0 ps px W' :=
  ⟨chain h.low hb, fun b V e => ⟨(hb.block b (blkLt (h.sh b V e).1)).trans (h.sh b V e).1, (h.sh b V e).2⟩, fun b V e => ⟨(hb.block b (blkLt (h.wk b V e).1)).trans (h.wk b V e).1, (h.wk b V e).2⟩⟩
theorem TwI.mkS (h : TwI W0 none px W) (V : Array Value) : TwI W0 (some (W.heap.size, V)) px (W.alloc (Obj.cells V 54)) := by
  have k := h.later (below_alloc W (Obj.cells V 54))
  refine ⟨k.low, fun b V e => ?_, k.wk⟩
  cases e
  exact ⟨heapNew _ _, h.low.size⟩
theorem TwI.mkW (h : TwI W0 ps none W) (V : Array Value) : TwI W0 ps (some (W.heap.size, V)) (W.alloc (Obj.cells V 56)) := by
  have k := h.later (below_alloc W (Obj.cells V 56))
  refine ⟨k.low, k.sh, fun b V e => ?_⟩
  cases e
  exact ⟨heapNew _ _, h.low.size⟩
theorem TwI.setS {b : Nat} {u0 u1 u2 : Value} (h : TwI W0 (some (b, #[u0, u1, u2])) px W) (x0 x1 x2 : Value) : TwI W0 (some (b, #[x0, x1, x2])) px (((W.setCell ⟨b, 0, none⟩ x0).setCell ⟨b, 1, none⟩ x1).setCell ⟨b, 2, none⟩ x2) := by
  obtain ⟨hb, hl⟩ := h.sh _ _ rfl
  obtain ⟨e1, e2⟩ := set_three hb x0 x1 x2
  refine ⟨((h.low.setCell hl _).setCell hl _).setCell hl _, fun b' V e => ?_, fun b' V e => ⟨(e2 b' (fun q => ?_)).trans (h.wk _ _ e).1, (h.wk _ _ e).2⟩⟩
  · cases e
    exact ⟨e1, hl⟩
  · have := (h.wk _ _ e).1
    rw [q, hb] at this
    simp at this
theorem TwI.setW {b : Nat} {u0 u1 u2 u3 u4 : Value} (h : TwI W0 ps (some (b, #[u0, u1, u2, u3, u4])) W) (x0 x1 x2 x3 x4 : Value) : TwI W0 ps (some (b, #[x0, x1, x2, x3, x4])) (((((W.setCell ⟨b, 0, none⟩ x0).setCell ⟨b, 1, none⟩ x1).setCell ⟨b, 2, none⟩ x2).setCell ⟨b, 3, none⟩ x3).setCell ⟨b, 4, none⟩ x4) := by
  obtain ⟨hb, hl⟩ := h.wk _ _ rfl
  obtain ⟨e1, e2⟩ := set_five hb x0 x1 x2 x3 x4
  refine ⟨((((h.low.setCell hl _).setCell hl _).setCell hl _).setCell hl _).setCell hl _, fun b' V e => ⟨(e2 b' (fun q => ?_)).trans (h.sh _ _ e).1, (h.sh _ _ e).2⟩, fun b' V e => ?_⟩
  · have := (h.sh _ _ e).1
    rw [q, hb] at this
    simp at this
  · cases e
    exact ⟨e1, hl⟩
end
theorem rtZ_lit : rtA rtZ = #[.int .i64 0, .int .i64 0, .int .i64 0, .int .i64 0, .int .i64 0, .int .i64 0, .int .i64 0, .int .i64 0, .int .i64 0, .int .i64 0, .int .i64 0, .int .i64 0, .int .i64 0, .int .i64 0, .int .i64 0, .int .i64 0, .int .i64 0, .int .i64 0, .int .i64 0, .int .i64 0] := rfl
theorem rotaZero : Try.prog.built 83 (#[] : Array (Nat × Value)).toList = some (rtA rtZ) := by kernel_rfl
theorem wpList_builtR {P : Program} {ops : Array Oper} {rest : List Oper} {o : Oper} {a : Act} {w : World} {Q : Exit → Act → World → Prop} (hg : o.guard = none) (t : TypeId) (parts : Array (Nat × Operand)) (ho : o.op = .build t parts)
    (pv : Array (Nat × Value)) (V : Array Value) (hp : (parts.map fun (i, x) => (i, a.eval x)).toList = pv.toList) (hb : P.built t pv.toList = some V)
    (h : wpList P ops Q rest (a.put o.dst (.agg V)) w) : wpList P ops Q (o :: rest) a w :=
  wpList_build hg t parts ho (by rw [hp, hb]; rfl) (by rw [hp, hb]; exact h)
theorem givenRun (tmps : Array Value) (w : World) (g : Nat) (cs : Array Value) (v : Value) (hp : tmps.getD 6 undef = .pointer (some ⟨g, 0, none⟩)) (hq : tmps.getD 7 undef = v) (hg : w.heap[g]? = some (.cells cs 83 (0, 0))) (hsz : cs.size = 20) : (results Try.f45 tmps).run Try.prog w = .ok (.tuple #[.agg cs, v]) w := by
  have h1 := run_loadVar_row w g 83 83 cs (0, 0) _ hg Try.underlying83 rfl (by rw [hsz]; exact rota_size)
  have hp' : tmps[6]?.getD undef = .pointer (some ⟨g, 0, none⟩) := by simpa using hp
  have hq' : tmps[7]?.getD undef = v := by simpa using hq
  simp [results, hp', hq', asAddr, h1]
def GvQ (code : Int) (R : Nat → Int) (w : World) (e : Ending) (w' : World) : Prop := e = .returned (.tuple #[.agg (rtA R), .int .i64 code]) ∧ Below w.heap.size w w'
set_option maxHeartbeats 16000000 in
set_option maxRecDepth 8000 in
theorem given_any (ad : Option Addr) (cap : Nat) (rs : List RSf) (aw : Option Addr) (cw : Nat) (ws : List CWk) (R : Nat → Int) (k m : Nat) (hs : sfsB rs = true) (hws : ws.all wkOne = true) (hok : ∀ c ∈ ws, WkOK c) (hk : k < rs.length) (h8 : rs.length ≤ 8) (hm : m < ws.length) (h5 : ws.length ≤ 5) (hR8 : R 8 = (k : Int)) (hmn : 0 ≤ R (9 + 2 * m) ∧ R (9 + 2 * m) ≤ 1000000) (hco : 0 ≤ R 19 ∧ R 19 ≤ 1000000000) (code : Int) (hcd : code = agC (ws.getD m zWk) (rs.getD k zSf) (R (9 + 2 * m)) (decide ((rs.getD k zSf).fr < R (9 + 2 * m + 1)))) (w : World) (hr : ReadsSf w.heap.size w ad rs) (hw : ReadsWk w.heap.size w aw ws) :
    Calls Try.prog 45 #[.agg #[.slice ad rs.length cap, .slice aw ws.length cw], .agg (rtA R), .int .i64 (m : Int)] w (GvQ code (if code = 0 then rtN R k m (rs.getD k zSf) (ws.getD m zWk) else rtZ) w) := by
  rcases hr with h0 | ⟨b0, o0, ha0, hB0, ia⟩
  · rw [h0] at hk; simp at hk
  rcases hw with h0 | ⟨b1, o1, ha1, hB1, ib⟩
  · rw [h0] at hm; simp at hm
  subst ha0 ha1
  have hsb := sf_bd hs k
  have hwb := wk_bd hws m
  have hwok : WkOK (ws.getD m zWk) := getWk hok hm
  obtain ⟨h, cp, hxw, _, hS⟩ := ib m hm
  have HX : Hid (∀ W, Below w.heap.size w W → SfAt W b0 (o0 + k * 3) (rs.getD k zSf) ∧ WkAt W b1 (o1 + m * 5) h cp (ws.getD m zWk)) := fun W hW => ⟨(ia k hk).below hW hB0, hxw.below hW hB1⟩
  have HAg : Hid (∀ W, Below w.heap.size w W → Calls Try.prog 66 #[.agg #[.string (ws.getD m zWk).nm, .int .i64 (ws.getD m zWk).ms, .int .i64 (ws.getD m zWk).rt, .int .i64 (ws.getD m zWk).co, .slice h (ws.getD m zWk).sk.length cp], .agg #[.int .i64 (rs.getD k zSf).fr, .int .i64 (rs.getD k zSf).to, .string (rs.getD k zSf).sk], .agg #[.int .i64 (R (9 + 2 * m)), .int .i64 (R (9 + 2 * m + 1))]] W fun e w' => e = .returned (.int .i64 code) ∧ Below W.heap.size W w') := fun W hW => by
    rw [hcd]
    exact against_any (ws.getD m zWk) h cp (rs.getD k zSf) _ _ (by have := hwok.2; unfold maxLen at this; omega) hmn (by omega) W ((hS.below hW).mono hW.size)
  have hdm := du_mul ⟨hsb.1, hsb.2.1⟩ ⟨hwb.2.2.1, hwb.2.2.2⟩
  clear ia ib hxw hS hwok hok hs hws
  generalize rs.getD k zSf = s at *
  generalize ws.getD m zWk = c at *
  obtain ⟨du, hdu⟩ : ∃ du, duB s = du := ⟨_, rfl⟩
  have HMi : Hid (∀ W, Calls Try.prog 67 #[.agg #[.int .i64 s.fr, .int .i64 s.to, .string s.sk]] W fun e w' => e = .returned (.int .i64 du) ∧ Below W.heap.size W w') := fun W => by
    rw [← hdu]
    exact impMin_any s.fr s.to s.sk (by unfold duB at hsb; omega) W
  have HFin : Hid (rtN R k m s c = rtS (rtS (rtS (rtS (rtS R k m) 8 (k + 1)) (9 + 2 * m) (R (9 + 2 * m) + du)) (9 + 2 * m + 1) (s.to + c.rt)) 19 (R 19 + du * c.co)) := by show _ = _; unfold rtN; rw [hdu]
  rw [hdu] at hsb hdm
  generalize hNx : rtN R k m s c = RN at *
  clear hNx hdu hcd
  obtain ⟨RX, hRX⟩ : ∃ RX, (if code = 0 then RN else rtZ) = RX := ⟨_, rfl⟩
  have HRX : Hid ((if code = 0 then RN else rtZ) = RX) := hRX
  rw [hRX]
  clear hRX
  obtain ⟨f, t, sn⟩ := s
  obtain ⟨nm, ms, rt, co, sk⟩ := c
  dsimp only at *
  obtain ⟨n, hn⟩ : ∃ n, sk.length = n := ⟨_, rfl⟩
  have HNk : Hid (sk.length = n) := hn
  rw [hn] at HAg
  clear hn
  have hlr : (k : Int) < (rs.length : Int) := by omega
  have hlw : (m : Int) < (ws.length : Int) := by omega
  have hk8 : k < 8 := by omega
  have hm5 : m < 5 := by omega
  clear hk hm h8 h5
  generalize rs.length = nr at *
  generalize ws.length = nw at *
  obtain ⟨cb, hcb⟩ : ∃ cb, cb = w.heap.size := ⟨_, rfl⟩
  obtain ⟨rb, hrb⟩ : ∃ rb, rb = w.heap.size + 1 := ⟨_, rfl⟩
  obtain ⟨qb, hqb⟩ : ∃ qb, qb = w.heap.size + 1 + 1 := ⟨_, rfl⟩
  obtain ⟨W0, hW0⟩ : ∃ W0, W0 = ((w.alloc (Obj.cells #[.slice (some ⟨b0, o0, none⟩) nr cap, .slice (some ⟨b1, o1, none⟩) nw cw] 75)).alloc (Obj.cells (rtA R) 83)).alloc (Obj.cells (rtA rtZ) 83) := ⟨_, rfl⟩
  have HE : Hid (W0 = ((w.alloc (Obj.cells #[.slice (some ⟨b0, o0, none⟩) nr cap, .slice (some ⟨b1, o1, none⟩) nw cw] 75)).alloc (Obj.cells (rtA R) 83)).alloc (Obj.cells (rtA rtZ) 83) ∧ cb = w.heap.size ∧ rb = w.heap.size + 1 ∧ qb = w.heap.size + 1 + 1) := ⟨hW0, hcb, hrb, hqb⟩
  have HG0 : Hid (GvI w cb rb qb #[.slice (some ⟨b0, o0, none⟩) nr cap, .slice (some ⟨b1, o1, none⟩) nw cw] R W0) := by
    show GvI _ _ _ _ _ _ _
    have g1 : W0.heap[cb]? = some (.cells #[.slice (some ⟨b0, o0, none⟩) nr cap, .slice (some ⟨b1, o1, none⟩) nw cw] 75 (0, 0)) := by rw [hW0, hcb, Below.heap_alloc _ _ _ (by simp; omega), Below.heap_alloc _ _ _ (by simp)]; exact heapNew _ _
    have g2 : W0.heap[rb]? = some (.cells (rtA R) 83 (0, 0)) := by
      rw [hW0, hrb, Below.heap_alloc _ _ _ (by simp)]
      have := heapNew (w.alloc (Obj.cells #[.slice (some ⟨b0, o0, none⟩) nr cap, .slice (some ⟨b1, o1, none⟩) nw cw] 75)) (Obj.cells (rtA R) 83)
      simpa using this
    have g3 : W0.heap[qb]? = some (.cells (rtA rtZ) 83 (0, 0)) := by
      rw [hW0, hqb]
      have := heapNew ((w.alloc (Obj.cells #[.slice (some ⟨b0, o0, none⟩) nr cap, .slice (some ⟨b1, o1, none⟩) nw cw] 75)).alloc (Obj.cells (rtA R) 83)) (Obj.cells (rtA rtZ) 83)
      simpa using this
    refine ⟨by rw [hW0]; exact chain (chain (below_alloc _ _) (below_alloc _ _)) (below_alloc _ _), g1, g2, g3, by omega, by omega, by omega⟩
  clear hW0 hcb hrb hqb
  go_enter Try.func45, Try.ntmps45
  go_upto_region 1 with fail
  rw [← rtZ_lit, ← HE.out.2.2.2, ← HE.out.2.2.1, ← HE.out.2.1, ← HE.out.1]
  clear HE
  go_cut [8, 9] from 12 to 22 (fun t8 t9 wx => ∃ sb xb, t8 = .pointer (some ⟨sb, 0, none⟩) ∧ t9 = .pointer (some ⟨xb, 0, none⟩) ∧ TwI W0 (some (sb, #[.int .i64 f, .int .i64 t, .string sn])) (some (xb, #[.string nm, .int .i64 ms, .int .i64 rt, .int .i64 co, .slice h n cp])) wx)
  case first =>
    have R0 : Hid (TwI W0 none none W0.drew) := ⟨below_drew _, (fun b V e => by cases e), (fun b V e => by cases e)⟩
    have HK : Hid (∀ W, Below W0.heap.size W0 W → (W.cell? ⟨cb, 0, none⟩ = some (.slice (some ⟨b0, o0, none⟩) nr cap) ∧ W.cell? ⟨cb, 1, none⟩ = some (.slice (some ⟨b1, o1, none⟩) nw cw)) ∧ W.cell? ⟨rb, 8, none⟩ = some (.int .i64 (k : Int)) ∧ (SfAt W b0 (o0 + k * 3) ⟨f, t, sn⟩ ∧ WkAt W b1 (o1 + m * 5) h cp ⟨nm, ms, rt, co, sk⟩)) := fun W hW => by
      have g := HG0.out.later hW
      refine ⟨⟨blkCell g.cr 0 _ rfl, blkCell g.cr 1 _ rfl⟩, ?_, HX.out W g.low⟩
      have := g.rt.cell (k := 8) (by omega)
      rw [hR8] at this
      exact this
    refine wp_region_held_drew (S := fun W => Below W0.heap.size W0 W) (by kernel_rfl) (below_drew _) (fun hH => ?_)
    generalize W0.drew = V0 at *
    refine wpAnyH_take (i := 0) (v := .pointer (some ⟨cb, 0, none⟩)) rfl (by kernel_rfl) (by kernel_rfl) (by kernel_rfl) (fun _ _ _ h => h) (Or.inl ⟨by rfl, fun w hSw => by clear hSw; go_simp⟩) hH ?_
    refine wpAnyH_take (i := 1) (v := .slice (some ⟨b0, o0, none⟩) nr cap) rfl (by kernel_rfl) (by kernel_rfl) (by kernel_rfl) (fun _ _ _ h => h) (Or.inl ⟨by rfl, fun w hSw => by obtain ⟨⟨f0, f1⟩, f2, f3⟩ := HK.out w hSw; clear hSw f3; go_simp⟩) hH ?_
    try simp only [Act.put, List.setIfInBounds_toArray, List.set_cons_zero, List.set_cons_succ, List.getElem_toArray, List.getElem_cons_succ, List.getElem_cons_zero]
    refine wpAnyH_take (i := 2) (v := .pointer (some ⟨rb, 8, none⟩)) rfl (by kernel_rfl) (by kernel_rfl) (by kernel_rfl) (fun _ _ _ h => h) (Or.inl ⟨by rfl, fun w hSw => by clear hSw; go_simp⟩) hH ?_
    try simp only [Act.put, List.setIfInBounds_toArray, List.set_cons_zero, List.set_cons_succ, List.getElem_toArray, List.getElem_cons_succ, List.getElem_cons_zero]
    refine wpAnyH_take (i := 3) (v := .int .i64 (k : Int)) rfl (by kernel_rfl) (by kernel_rfl) (by kernel_rfl) (fun _ _ _ h => h) (Or.inl ⟨by rfl, fun w hSw => by obtain ⟨⟨f0, f1⟩, f2, f3⟩ := HK.out w hSw; clear hSw f3; go_simp⟩) hH ?_
    try simp only [Act.put, List.setIfInBounds_toArray, List.set_cons_zero, List.set_cons_succ, List.getElem_toArray, List.getElem_cons_succ, List.getElem_cons_zero]
    refine wpAnyH_take (i := 4) (v := .pointer (some ⟨b0, o0 + k * 3, none⟩)) rfl (by kernel_rfl) (by kernel_rfl) (by kernel_rfl) (fun _ _ _ h => h) (Or.inl ⟨by rfl, fun w hSw => by clear hSw; go_simp⟩) hH ?_
    try simp only [Act.put, List.setIfInBounds_toArray, List.set_cons_zero, List.set_cons_succ, List.getElem_toArray, List.getElem_cons_succ, List.getElem_cons_zero]
    refine wpAnyH_take (i := 5) (v := .agg #[.int .i64 f, .int .i64 t, .string sn]) rfl (by kernel_rfl) (by kernel_rfl) (by kernel_rfl) (fun _ _ _ h => h) (Or.inl ⟨by rfl, fun w hSw => by obtain ⟨_, _, ⟨e0, e1, e2⟩, _⟩ := HK.out w hSw; clear hSw; go_simp⟩) hH ?_
    try simp only [Act.put, List.setIfInBounds_toArray, List.set_cons_zero, List.set_cons_succ, List.getElem_toArray, List.getElem_cons_succ, List.getElem_cons_zero]
    refine wpAnyH_take (i := 6) (v := .pointer (some ⟨cb, 1, none⟩)) rfl (by kernel_rfl) (by kernel_rfl) (by kernel_rfl) (fun _ _ _ h => h) (Or.inl ⟨by rfl, fun w hSw => by clear hSw; go_simp⟩) hH ?_
    try simp only [Act.put, List.setIfInBounds_toArray, List.set_cons_zero, List.set_cons_succ, List.getElem_toArray, List.getElem_cons_succ, List.getElem_cons_zero]
    refine wpAnyH_take (i := 7) (v := .slice (some ⟨b1, o1, none⟩) nw cw) rfl (by kernel_rfl) (by kernel_rfl) (by kernel_rfl) (fun _ _ _ h => h) (Or.inl ⟨by rfl, fun w hSw => by obtain ⟨⟨f0, f1⟩, f2, f3⟩ := HK.out w hSw; clear hSw f3; go_simp⟩) hH ?_
    try simp only [Act.put, List.setIfInBounds_toArray, List.set_cons_zero, List.set_cons_succ, List.getElem_toArray, List.getElem_cons_succ, List.getElem_cons_zero]
    refine wpAnyH_take (i := 8) (v := .int .i64 (m : Int)) rfl (by kernel_rfl) (by kernel_rfl) (by kernel_rfl) (fun _ _ _ h => h) (Or.inl ⟨by rfl, fun w hSw => by clear hSw; go_simp⟩) hH ?_
    try simp only [Act.put, List.setIfInBounds_toArray, List.set_cons_zero, List.set_cons_succ, List.getElem_toArray, List.getElem_cons_succ, List.getElem_cons_zero]
    refine wpAnyH_take (i := 9) (v := .pointer (some ⟨b1, o1 + m * 5, none⟩)) rfl (by kernel_rfl) (by kernel_rfl) (by kernel_rfl) (fun _ _ _ h => h) (Or.inl ⟨by rfl, fun w hSw => by clear hSw; go_simp⟩) hH ?_
    try simp only [Act.put, List.setIfInBounds_toArray, List.set_cons_zero, List.set_cons_succ, List.getElem_toArray, List.getElem_cons_succ, List.getElem_cons_zero]
    refine wpAnyH_take (i := 10) (v := .agg #[.string nm, .int .i64 ms, .int .i64 rt, .int .i64 co, .slice h n cp]) rfl (by kernel_rfl) (by kernel_rfl) (by kernel_rfl) (fun _ _ _ h => h) (Or.inl ⟨by rfl, fun w hSw => by obtain ⟨_, _, _, ⟨e0, e1, e2, e3, e4⟩⟩ := HK.out w hSw; dsimp only at e0 e1 e2 e3 e4; rw [HNk.out] at e4; clear hSw; go_simp⟩) hH ?_
    try simp only [Act.put, List.setIfInBounds_toArray, List.set_cons_zero, List.set_cons_succ, List.getElem_toArray, List.getElem_cons_succ, List.getElem_cons_zero]
    refine wpAnyH_ready (rs := [11, 12]) (by kernel_rfl) (by simp) ?_
    refine AllReadyH.cons rfl (fun K hK => ?_) (AllReadyH.cons rfl (fun K hK => ?_) AllReadyH.nil)
    · skip
      go_simp
      have H1x := R0.out.mkS #[.int .i64 0, .int .i64 0, .string ⟨#[]⟩]
      obtain ⟨V1, hV1⟩ : ∃ V1, V1 = V0.alloc (Obj.cells #[.int .i64 0, .int .i64 0, .string ⟨#[]⟩] 54) := ⟨_, rfl⟩
      obtain ⟨sb, hsb⟩ : ∃ sb, sb = V0.heap.size := ⟨_, rfl⟩
      rw [← hV1, ← hsb] at H1x ⊢
      have H1 : Hid (TwI W0 (some (sb, #[.int .i64 0, .int .i64 0, .string ⟨#[]⟩])) none V1) := H1x
      clear hV1 hsb H1x
      refine hK.out _ _ H1.out.low (fun _ => ?_)
      clear hK K
      try simp only [Act.put, List.setIfInBounds_toArray, List.set_cons_zero, List.set_cons_succ, List.getElem_toArray, List.getElem_cons_succ, List.getElem_cons_zero]
      refine wpAnyH_ready (rs := [12]) (by kernel_rfl) (by simp) ?_
      refine AllReadyH.cons rfl (fun K hK => ?_) AllReadyH.nil
      go_simp
      have H2x := H1.out.mkW #[.string ⟨#[]⟩, .int .i64 0, .int .i64 0, .int .i64 0, .slice none 0 0]
      obtain ⟨V2, hV2⟩ : ∃ V2, V2 = V1.alloc (Obj.cells #[.string ⟨#[]⟩, .int .i64 0, .int .i64 0, .int .i64 0, .slice none 0 0] 56) := ⟨_, rfl⟩
      obtain ⟨xb, hxb⟩ : ∃ xb, xb = V1.heap.size := ⟨_, rfl⟩
      rw [← hV2, ← hxb] at H2x ⊢
      have H2 : Hid (TwI W0 (some (sb, #[.int .i64 0, .int .i64 0, .string ⟨#[]⟩])) (some (xb, #[.string ⟨#[]⟩, .int .i64 0, .int .i64 0, .int .i64 0, .slice none 0 0])) V2) := H2x
      clear hV2 hxb H2x
      refine hK.out _ _ H2.out.low (fun _ => ?_)
      clear hK K
      try simp only [Act.put, List.setIfInBounds_toArray, List.set_cons_zero, List.set_cons_succ, List.getElem_toArray, List.getElem_cons_succ, List.getElem_cons_zero]
      refine wpAnyH_ready (rs := [13]) (by kernel_rfl) (by simp) ?_
      refine AllReadyH.cons rfl (fun K hK => ?_) AllReadyH.nil
      obtain ⟨q0, q1, q2⟩ := (show V2.cell? ⟨sb, 0, none⟩ = some (.int .i64 0) ∧ V2.cell? ⟨sb, 1, none⟩ = some (.int .i64 0) ∧ V2.cell? ⟨sb, 2, none⟩ = some (.string ⟨#[]⟩) from ⟨blkCell (H2.out.sh _ _ rfl).1 0 _ rfl, blkCell (H2.out.sh _ _ rfl).1 1 _ rfl, blkCell (H2.out.sh _ _ rfl).1 2 _ rfl⟩)
      have z0 := blkFree (H2.out.sh _ _ rfl).1 0
      have z1 := blkFree (H2.out.sh _ _ rfl).1 1
      have z2 := blkFree (H2.out.sh _ _ rfl).1 2
      go_simp
      have H3x := H2.out.setS (.int .i64 f) (.int .i64 t) (.string sn)
      obtain ⟨V3, hV3⟩ : ∃ V3, V3 = ((V2.setCell ⟨sb, 0, none⟩ (.int .i64 f)).setCell ⟨sb, 1, none⟩ (.int .i64 t)).setCell ⟨sb, 2, none⟩ (.string sn) := ⟨_, rfl⟩
      rw [← hV3] at H3x ⊢
      have H3 : Hid (TwI W0 (some (sb, #[.int .i64 f, .int .i64 t, .string sn])) (some (xb, #[.string ⟨#[]⟩, .int .i64 0, .int .i64 0, .int .i64 0, .slice none 0 0])) V3) := H3x
      clear hV3 H3x q0 q1 q2 z0 z1 z2
      refine hK.out _ _ H3.out.low (fun _ => ?_)
      clear hK K
      try simp only [Act.put, List.setIfInBounds_toArray, List.set_cons_zero, List.set_cons_succ, List.getElem_toArray, List.getElem_cons_succ, List.getElem_cons_zero]
      refine wpAnyH_ready (rs := [14]) (by kernel_rfl) (by simp) ?_
      refine AllReadyH.cons rfl (fun K hK => ?_) AllReadyH.nil
      obtain ⟨q0, q1, q2, q3, q4⟩ := (show V3.cell? ⟨xb, 0, none⟩ = some (.string ⟨#[]⟩) ∧ V3.cell? ⟨xb, 1, none⟩ = some (.int .i64 0) ∧ V3.cell? ⟨xb, 2, none⟩ = some (.int .i64 0) ∧ V3.cell? ⟨xb, 3, none⟩ = some (.int .i64 0) ∧ V3.cell? ⟨xb, 4, none⟩ = some (.slice none 0 0) from ⟨blkCell (H3.out.wk _ _ rfl).1 0 _ rfl, blkCell (H3.out.wk _ _ rfl).1 1 _ rfl, blkCell (H3.out.wk _ _ rfl).1 2 _ rfl, blkCell (H3.out.wk _ _ rfl).1 3 _ rfl, blkCell (H3.out.wk _ _ rfl).1 4 _ rfl⟩)
      have z0 := blkFree (H3.out.wk _ _ rfl).1 0
      have z1 := blkFree (H3.out.wk _ _ rfl).1 1
      have z2 := blkFree (H3.out.wk _ _ rfl).1 2
      have z3 := blkFree (H3.out.wk _ _ rfl).1 3
      have z4 := blkFree (H3.out.wk _ _ rfl).1 4
      go_simp
      have H4x := H3.out.setW (.string nm) (.int .i64 ms) (.int .i64 rt) (.int .i64 co) (.slice h n cp)
      obtain ⟨V4, hV4⟩ : ∃ V4, V4 = ((((V3.setCell ⟨xb, 0, none⟩ (.string nm)).setCell ⟨xb, 1, none⟩ (.int .i64 ms)).setCell ⟨xb, 2, none⟩ (.int .i64 rt)).setCell ⟨xb, 3, none⟩ (.int .i64 co)).setCell ⟨xb, 4, none⟩ (.slice h n cp) := ⟨_, rfl⟩
      rw [← hV4] at H4x ⊢
      have H4 : Hid (TwI W0 (some (sb, #[.int .i64 f, .int .i64 t, .string sn])) (some (xb, #[.string nm, .int .i64 ms, .int .i64 rt, .int .i64 co, .slice h n cp])) V4) := H4x
      clear hV4 H4x q0 q1 q2 q3 q4 z0 z1 z2 z3 z4
      refine hK.out _ _ H4.out.low (fun _ => ?_)
      clear hK K
      try simp only [Act.put, List.setIfInBounds_toArray, List.set_cons_zero, List.set_cons_succ, List.getElem_toArray, List.getElem_cons_succ, List.getElem_cons_zero]
      refine wpAnyH_done (by kernel_rfl) ?_ _
      clear hH
      go_wp2_with fail
      go_meet
      exact ⟨sb, xb, rfl, rfl, H4.out⟩
    · skip
      go_simp
      have H1x := R0.out.mkW #[.string ⟨#[]⟩, .int .i64 0, .int .i64 0, .int .i64 0, .slice none 0 0]
      obtain ⟨V1, hV1⟩ : ∃ V1, V1 = V0.alloc (Obj.cells #[.string ⟨#[]⟩, .int .i64 0, .int .i64 0, .int .i64 0, .slice none 0 0] 56) := ⟨_, rfl⟩
      obtain ⟨xb, hxb⟩ : ∃ xb, xb = V0.heap.size := ⟨_, rfl⟩
      rw [← hV1, ← hxb] at H1x ⊢
      have H1 : Hid (TwI W0 none (some (xb, #[.string ⟨#[]⟩, .int .i64 0, .int .i64 0, .int .i64 0, .slice none 0 0])) V1) := H1x
      clear hV1 hxb H1x
      refine hK.out _ _ H1.out.low (fun _ => ?_)
      clear hK K
      try simp only [Act.put, List.setIfInBounds_toArray, List.set_cons_zero, List.set_cons_succ, List.getElem_toArray, List.getElem_cons_succ, List.getElem_cons_zero]
      refine wpAnyH_ready (rs := [11]) (by kernel_rfl) (by simp) ?_
      refine AllReadyH.cons rfl (fun K hK => ?_) AllReadyH.nil
      go_simp
      have H2x := H1.out.mkS #[.int .i64 0, .int .i64 0, .string ⟨#[]⟩]
      obtain ⟨V2, hV2⟩ : ∃ V2, V2 = V1.alloc (Obj.cells #[.int .i64 0, .int .i64 0, .string ⟨#[]⟩] 54) := ⟨_, rfl⟩
      obtain ⟨sb, hsb⟩ : ∃ sb, sb = V1.heap.size := ⟨_, rfl⟩
      rw [← hV2, ← hsb] at H2x ⊢
      have H2 : Hid (TwI W0 (some (sb, #[.int .i64 0, .int .i64 0, .string ⟨#[]⟩])) (some (xb, #[.string ⟨#[]⟩, .int .i64 0, .int .i64 0, .int .i64 0, .slice none 0 0])) V2) := H2x
      clear hV2 hsb H2x
      refine hK.out _ _ H2.out.low (fun _ => ?_)
      clear hK K
      try simp only [Act.put, List.setIfInBounds_toArray, List.set_cons_zero, List.set_cons_succ, List.getElem_toArray, List.getElem_cons_succ, List.getElem_cons_zero]
      refine wpAnyH_ready (rs := [13]) (by kernel_rfl) (by simp) ?_
      refine AllReadyH.cons rfl (fun K hK => ?_) AllReadyH.nil
      obtain ⟨q0, q1, q2⟩ := (show V2.cell? ⟨sb, 0, none⟩ = some (.int .i64 0) ∧ V2.cell? ⟨sb, 1, none⟩ = some (.int .i64 0) ∧ V2.cell? ⟨sb, 2, none⟩ = some (.string ⟨#[]⟩) from ⟨blkCell (H2.out.sh _ _ rfl).1 0 _ rfl, blkCell (H2.out.sh _ _ rfl).1 1 _ rfl, blkCell (H2.out.sh _ _ rfl).1 2 _ rfl⟩)
      have z0 := blkFree (H2.out.sh _ _ rfl).1 0
      have z1 := blkFree (H2.out.sh _ _ rfl).1 1
      have z2 := blkFree (H2.out.sh _ _ rfl).1 2
      go_simp
      have H3x := H2.out.setS (.int .i64 f) (.int .i64 t) (.string sn)
      obtain ⟨V3, hV3⟩ : ∃ V3, V3 = ((V2.setCell ⟨sb, 0, none⟩ (.int .i64 f)).setCell ⟨sb, 1, none⟩ (.int .i64 t)).setCell ⟨sb, 2, none⟩ (.string sn) := ⟨_, rfl⟩
      rw [← hV3] at H3x ⊢
      have H3 : Hid (TwI W0 (some (sb, #[.int .i64 f, .int .i64 t, .string sn])) (some (xb, #[.string ⟨#[]⟩, .int .i64 0, .int .i64 0, .int .i64 0, .slice none 0 0])) V3) := H3x
      clear hV3 H3x q0 q1 q2 z0 z1 z2
      refine hK.out _ _ H3.out.low (fun _ => ?_)
      clear hK K
      try simp only [Act.put, List.setIfInBounds_toArray, List.set_cons_zero, List.set_cons_succ, List.getElem_toArray, List.getElem_cons_succ, List.getElem_cons_zero]
      refine wpAnyH_ready (rs := [14]) (by kernel_rfl) (by simp) ?_
      refine AllReadyH.cons rfl (fun K hK => ?_) AllReadyH.nil
      obtain ⟨q0, q1, q2, q3, q4⟩ := (show V3.cell? ⟨xb, 0, none⟩ = some (.string ⟨#[]⟩) ∧ V3.cell? ⟨xb, 1, none⟩ = some (.int .i64 0) ∧ V3.cell? ⟨xb, 2, none⟩ = some (.int .i64 0) ∧ V3.cell? ⟨xb, 3, none⟩ = some (.int .i64 0) ∧ V3.cell? ⟨xb, 4, none⟩ = some (.slice none 0 0) from ⟨blkCell (H3.out.wk _ _ rfl).1 0 _ rfl, blkCell (H3.out.wk _ _ rfl).1 1 _ rfl, blkCell (H3.out.wk _ _ rfl).1 2 _ rfl, blkCell (H3.out.wk _ _ rfl).1 3 _ rfl, blkCell (H3.out.wk _ _ rfl).1 4 _ rfl⟩)
      have z0 := blkFree (H3.out.wk _ _ rfl).1 0
      have z1 := blkFree (H3.out.wk _ _ rfl).1 1
      have z2 := blkFree (H3.out.wk _ _ rfl).1 2
      have z3 := blkFree (H3.out.wk _ _ rfl).1 3
      have z4 := blkFree (H3.out.wk _ _ rfl).1 4
      go_simp
      have H4x := H3.out.setW (.string nm) (.int .i64 ms) (.int .i64 rt) (.int .i64 co) (.slice h n cp)
      obtain ⟨V4, hV4⟩ : ∃ V4, V4 = ((((V3.setCell ⟨xb, 0, none⟩ (.string nm)).setCell ⟨xb, 1, none⟩ (.int .i64 ms)).setCell ⟨xb, 2, none⟩ (.int .i64 rt)).setCell ⟨xb, 3, none⟩ (.int .i64 co)).setCell ⟨xb, 4, none⟩ (.slice h n cp) := ⟨_, rfl⟩
      rw [← hV4] at H4x ⊢
      have H4 : Hid (TwI W0 (some (sb, #[.int .i64 f, .int .i64 t, .string sn])) (some (xb, #[.string nm, .int .i64 ms, .int .i64 rt, .int .i64 co, .slice h n cp])) V4) := H4x
      clear hV4 H4x q0 q1 q2 q3 q4 z0 z1 z2 z3 z4
      refine hK.out _ _ H4.out.low (fun _ => ?_)
      clear hK K
      try simp only [Act.put, List.setIfInBounds_toArray, List.set_cons_zero, List.set_cons_succ, List.getElem_toArray, List.getElem_cons_succ, List.getElem_cons_zero]
      refine wpAnyH_done (by kernel_rfl) ?_ _
      clear hH
      go_wp2_with fail
      go_meet
      exact ⟨sb, xb, rfl, rfl, H4.out⟩
  case rest =>
    obtain ⟨sb, xb, rfl, rfl, hTw⟩ := hcut
    have HTw : Hid (TwI W0 (some (sb, #[.int .i64 f, .int .i64 t, .string sn])) (some (xb, #[.string nm, .int .i64 ms, .int .i64 rt, .int .i64 co, .slice h n cp])) wc) := hTw
    have HG1 : Hid (GvI w cb rb qb #[.slice (some ⟨b0, o0, none⟩) nr cap, .slice (some ⟨b1, o1, none⟩) nw cw] R wc) := HG0.out.later hTw.low
    clear hTw HX HG0
    have HSX : Hid (∀ W, Below wc.heap.size wc W → (W.heap[sb]? = some (.cells #[.int .i64 f, .int .i64 t, .string sn] 54 (0, 0)) ∧ W.heap[xb]? = some (.cells #[.string nm, .int .i64 ms, .int .i64 rt, .int .i64 co, .slice h n cp] 56 (0, 0)))) := fun W hW => ⟨(hW.block sb (blkLt (HTw.out.sh _ _ rfl).1)).trans (HTw.out.sh _ _ rfl).1, (hW.block xb (blkLt (HTw.out.wk _ _ rfl).1)).trans (HTw.out.wk _ _ rfl).1⟩
    have hm5' : (m : Int) < 5 := by omega
    have e2m : 9 + m * 2 = 9 + 2 * m := by omega
    have x0 : wc.cell? ⟨rb, 9 + m * 2, none⟩ = some (.int .i64 (R (9 + 2 * m))) := by rw [e2m]; exact HG1.out.rt.cell (by omega)
    have x1 : wc.cell? ⟨rb, 9 + m * 2 + 1, none⟩ = some (.int .i64 (R (9 + 2 * m + 1))) := by rw [e2m]; exact HG1.out.rt.cell (by omega)
    obtain ⟨mn, hmnv⟩ : ∃ mn, R (9 + 2 * m) = mn := ⟨_, rfl⟩
    obtain ⟨rd, hrdv⟩ : ∃ rd, R (9 + 2 * m + 1) = rd := ⟨_, rfl⟩
    have HMn : Hid (R (9 + 2 * m) = mn ∧ R (9 + 2 * m + 1) = rd) := ⟨hmnv, hrdv⟩
    rw [hmnv] at x0 hmn HAg
    rw [hrdv] at x1 HAg
    clear hmnv hrdv e2m
    go_upto_region 3 with fail
    obtain ⟨W2, hW2⟩ : ∃ W2, W2 = wc.alloc (Obj.cells #[.int .i64 mn, .int .i64 rd] 80) := ⟨_, rfl⟩
    obtain ⟨db, hdb⟩ : ∃ db, db = wc.heap.size := ⟨_, rfl⟩
    rw [← hW2, ← hdb]
    have HG2 : Hid (GvI w cb rb qb #[.slice (some ⟨b0, o0, none⟩) nr cap, .slice (some ⟨b1, o1, none⟩) nw cw] R W2) := by rw [hW2]; exact HG1.out.later (below_alloc _ _)
    have HS2 : Hid (W2.heap[sb]? = some (.cells #[.int .i64 f, .int .i64 t, .string sn] 54 (0, 0)) ∧ W2.heap[xb]? = some (.cells #[.string nm, .int .i64 ms, .int .i64 rt, .int .i64 co, .slice h n cp] 56 (0, 0)) ∧ W2.heap[db]? = some (.cells #[.int .i64 mn, .int .i64 rd] 80 (0, 0))) := by
      have h1 := HSX.out W2 (by rw [hW2]; exact below_alloc _ _)
      exact ⟨h1.1, h1.2, by rw [hW2, hdb]; exact heapNew _ _⟩
    clear x0 x1 hW2 hdb HSX HTw HG1
    obtain ⟨s0, s1, s2⟩ := (show W2.cell? ⟨sb, 0, none⟩ = some (.int .i64 f) ∧ W2.cell? ⟨sb, 1, none⟩ = some (.int .i64 t) ∧ W2.cell? ⟨sb, 2, none⟩ = some (.string sn) from ⟨blkCell HS2.out.1 0 _ rfl, blkCell HS2.out.1 1 _ rfl, blkCell HS2.out.1 2 _ rfl⟩)
    obtain ⟨y0, y1, y2, y3, y4⟩ := (show W2.cell? ⟨xb, 0, none⟩ = some (.string nm) ∧ W2.cell? ⟨xb, 1, none⟩ = some (.int .i64 ms) ∧ W2.cell? ⟨xb, 2, none⟩ = some (.int .i64 rt) ∧ W2.cell? ⟨xb, 3, none⟩ = some (.int .i64 co) ∧ W2.cell? ⟨xb, 4, none⟩ = some (.slice h n cp) from ⟨blkCell HS2.out.2.1 0 _ rfl, blkCell HS2.out.2.1 1 _ rfl, blkCell HS2.out.2.1 2 _ rfl, blkCell HS2.out.2.1 3 _ rfl, blkCell HS2.out.2.1 4 _ rfl⟩)
    obtain ⟨d0, d1⟩ := (show W2.cell? ⟨db, 0, none⟩ = some (.int .i64 mn) ∧ W2.cell? ⟨db, 1, none⟩ = some (.int .i64 rd) from ⟨blkCell HS2.out.2.2 0 _ rfl, blkCell HS2.out.2.2 1 _ rfl⟩)
    go_wp2_with fail
    (first | go_at_call 66 | skip)
    refine (HAg.out W2 HG2.out.low).mono ?_
    rintro e w3 ⟨rfl, hb3⟩
    have HG3 : Hid (GvI w cb rb qb #[.slice (some ⟨b0, o0, none⟩) nr cap, .slice (some ⟨b1, o1, none⟩) nw cw] R w3) := HG2.out.later hb3
    have HS3 : Hid (w3.heap[sb]? = some (.cells #[.int .i64 f, .int .i64 t, .string sn] 54 (0, 0)) ∧ w3.heap[xb]? = some (.cells #[.string nm, .int .i64 ms, .int .i64 rt, .int .i64 co, .slice h n cp] 56 (0, 0)) ∧ w3.heap[db]? = some (.cells #[.int .i64 mn, .int .i64 rd] 80 (0, 0))) := ⟨(hb3.block _ (blkLt HS2.out.1)).trans HS2.out.1, (hb3.block _ (blkLt HS2.out.2.1)).trans HS2.out.2.1, (hb3.block _ (blkLt HS2.out.2.2)).trans HS2.out.2.2⟩
    clear hb3 HAg HG2 HS2 s0 s1 s2 y0 y1 y2 y3 y4 d0 d1
    by_cases h0 : code = 0
    · skip
      subst h0
      have HY : Hid (RX = RN) := by show _ = _; rw [← HRX.out, if_pos rfl]
      have x8 : w3.cell? ⟨rb, 8, none⟩ = some (.int .i64 (k : Int)) := by have := HG3.out.rt.cell (k := 8) (by omega); rw [hR8] at this; exact this
      have xk : w3.cell? ⟨rb, k, none⟩ = some (.int .i64 (R k)) := HG3.out.rt.cell (by omega)
      have zk := HG3.out.rt.free k
      have hk8' : (k : Int) < 8 := by omega
      go_upto_region 7 with fail
      obtain ⟨W4, hW4⟩ : ∃ W4, W4 = w3.setCell ⟨rb, k, none⟩ (.int .i64 (m : Int)) := ⟨_, rfl⟩
      rw [← hW4]
      have HG4 : Hid (GvI w cb rb qb #[.slice (some ⟨b0, o0, none⟩) nr cap, .slice (some ⟨b1, o1, none⟩) nw cw] (rtS R k m) W4) := by rw [hW4]; exact HG3.out.set (by omega) _
      have HS4 : Hid (W4.heap[sb]? = some (.cells #[.int .i64 f, .int .i64 t, .string sn] 54 (0, 0)) ∧ W4.heap[xb]? = some (.cells #[.string nm, .int .i64 ms, .int .i64 rt, .int .i64 co, .slice h n cp] 56 (0, 0)) ∧ W4.heap[db]? = some (.cells #[.int .i64 mn, .int .i64 rd] 80 (0, 0))) := by
        rw [hW4]
        exact ⟨gv_other HG3.out HS3.out.1 (by decide), gv_other HG3.out HS3.out.2.1 (by decide), gv_other HG3.out HS3.out.2.2 (by decide)⟩
      clear hW4 HG3 HS3 x8 xk zk
      have x8 : W4.cell? ⟨rb, 8, none⟩ = some (.int .i64 (k : Int)) := by
        have := HG4.out.rt.cell (k := 8) (by omega)
        rw [rtS_other _ _ (by omega), hR8] at this
        exact this
      have z8 := HG4.out.rt.free 8
      have hwk : IntKind.i64.wrap ((k : Int) + 1) = (k : Int) + 1 := wrap_id _ (by omega) (by omega)
      go_upto_region 8 with fail
      obtain ⟨W5, hW5⟩ : ∃ W5, W5 = W4.setCell ⟨rb, 8, none⟩ (.int .i64 ((k : Int) + 1)) := ⟨_, rfl⟩
      rw [← hW5]
      have HG5 : Hid (GvI w cb rb qb #[.slice (some ⟨b0, o0, none⟩) nr cap, .slice (some ⟨b1, o1, none⟩) nw cw] (rtS (rtS R k m) 8 (k + 1)) W5) := by rw [hW5]; exact HG4.out.set (by omega) _
      have HS5 : Hid (W5.heap[sb]? = some (.cells #[.int .i64 f, .int .i64 t, .string sn] 54 (0, 0)) ∧ W5.heap[xb]? = some (.cells #[.string nm, .int .i64 ms, .int .i64 rt, .int .i64 co, .slice h n cp] 56 (0, 0)) ∧ W5.heap[db]? = some (.cells #[.int .i64 mn, .int .i64 rd] 80 (0, 0))) := by
        rw [hW5]
        exact ⟨gv_other HG4.out HS4.out.1 (by decide), gv_other HG4.out HS4.out.2.1 (by decide), gv_other HG4.out HS4.out.2.2 (by decide)⟩
      clear hW5 HG4 HS4 x8 z8 hwk
      have hw1 : IntKind.i64.wrap (mn + du) = mn + du := wrap_id _ (by omega) (by omega)
      have hw2 : IntKind.i64.wrap (t + rt) = t + rt := wrap_id _ (by omega) (by omega)
      refine wp_region_z (S := fun W => Below W5.heap.size W5 W) 14 (by kernel_rfl) (below_drew _) (fun hH => ?_)
      generalize W5.drew = V5 at *
      refine wpAnyZ_take (i := 0) (v := .int .i64 (m : Int)) rfl (by kernel_rfl) (by kernel_rfl) (by kernel_rfl) (by kernel_rfl) (fun _ _ _ h => h) (Or.inl ⟨by rfl, fun w hSw => by clear hSw; go_simp⟩) hH ?_
      refine wpAnyZ_take (i := 1) (v := .pointer (some ⟨db, 0, none⟩)) rfl (by kernel_rfl) (by kernel_rfl) (by kernel_rfl) (by kernel_rfl) (fun _ _ _ h => h) (Or.inl ⟨by rfl, fun w hSw => by clear hSw; go_simp⟩) hH ?_
      try simp only [Act.put, List.setIfInBounds_toArray, List.set_cons_zero, List.set_cons_succ, List.getElem_toArray, List.getElem_cons_succ, List.getElem_cons_zero]
      refine wpAnyZ_take (i := 2) (v := .int .i64 mn) rfl (by kernel_rfl) (by kernel_rfl) (by kernel_rfl) (by kernel_rfl) (fun _ _ _ h => h) (Or.inl ⟨by rfl, fun w hSw => by have e0 := blkCell ((hSw.block db (blkLt HS5.out.2.2)).trans HS5.out.2.2) 0 _ rfl; clear hSw; go_simp⟩) hH ?_
      try simp only [Act.put, List.setIfInBounds_toArray, List.set_cons_zero, List.set_cons_succ, List.getElem_toArray, List.getElem_cons_succ, List.getElem_cons_zero]
      refine wpAnyZ_take (i := 3) (v := .agg #[.int .i64 f, .int .i64 t, .string sn]) rfl (by kernel_rfl) (by kernel_rfl) (by kernel_rfl) (by kernel_rfl) (fun _ _ _ h => h) (Or.inl ⟨by rfl, fun w hSw => by have h9 := (hSw.block sb (blkLt HS5.out.1)).trans HS5.out.1; obtain ⟨e0, e1, e2⟩ := (show w.cell? ⟨sb, 0, none⟩ = some (.int .i64 f) ∧ w.cell? ⟨sb, 1, none⟩ = some (.int .i64 t) ∧ w.cell? ⟨sb, 2, none⟩ = some (.string sn) from ⟨blkCell h9 0 _ rfl, blkCell h9 1 _ rfl, blkCell h9 2 _ rfl⟩); clear hSw h9; go_simp⟩) hH ?_
      try simp only [Act.put, List.setIfInBounds_toArray, List.set_cons_zero, List.set_cons_succ, List.getElem_toArray, List.getElem_cons_succ, List.getElem_cons_zero]
      refine wpAnyZ_take (i := 6) (v := .pointer (some ⟨sb, 1, none⟩)) rfl (by kernel_rfl) (by kernel_rfl) (by kernel_rfl) (by kernel_rfl) (fun _ _ _ h => h) (Or.inl ⟨by rfl, fun w hSw => by clear hSw; go_simp⟩) hH ?_
      try simp only [Act.put, List.setIfInBounds_toArray, List.set_cons_zero, List.set_cons_succ, List.getElem_toArray, List.getElem_cons_succ, List.getElem_cons_zero]
      refine wpAnyZ_take (i := 7) (v := .int .i64 t) rfl (by kernel_rfl) (by kernel_rfl) (by kernel_rfl) (by kernel_rfl) (fun _ _ _ h => h) (Or.inl ⟨by rfl, fun w hSw => by have e0 := blkCell ((hSw.block sb (blkLt HS5.out.1)).trans HS5.out.1) 1 _ rfl; clear hSw; go_simp⟩) hH ?_
      try simp only [Act.put, List.setIfInBounds_toArray, List.set_cons_zero, List.set_cons_succ, List.getElem_toArray, List.getElem_cons_succ, List.getElem_cons_zero]
      refine wpAnyZ_take (i := 8) (v := .pointer (some ⟨xb, 2, none⟩)) rfl (by kernel_rfl) (by kernel_rfl) (by kernel_rfl) (by kernel_rfl) (fun _ _ _ h => h) (Or.inl ⟨by rfl, fun w hSw => by clear hSw; go_simp⟩) hH ?_
      try simp only [Act.put, List.setIfInBounds_toArray, List.set_cons_zero, List.set_cons_succ, List.getElem_toArray, List.getElem_cons_succ, List.getElem_cons_zero]
      refine wpAnyZ_take (i := 9) (v := .int .i64 rt) rfl (by kernel_rfl) (by kernel_rfl) (by kernel_rfl) (by kernel_rfl) (fun _ _ _ h => h) (Or.inl ⟨by rfl, fun w hSw => by have e0 := blkCell ((hSw.block xb (blkLt HS5.out.2.1)).trans HS5.out.2.1) 2 _ rfl; clear hSw; go_simp⟩) hH ?_
      try simp only [Act.put, List.setIfInBounds_toArray, List.set_cons_zero, List.set_cons_succ, List.getElem_toArray, List.getElem_cons_succ, List.getElem_cons_zero]
      refine wpAnyZ_take (i := 10) (v := .int .i64 (t + rt)) rfl (by kernel_rfl) (by kernel_rfl) (by kernel_rfl) (by kernel_rfl) (fun _ _ _ h => h) (Or.inl ⟨by rfl, fun w hSw => by clear hSw; go_simp⟩) hH ?_
      try simp only [Act.put, List.setIfInBounds_toArray, List.set_cons_zero, List.set_cons_succ, List.getElem_toArray, List.getElem_cons_succ, List.getElem_cons_zero]
      refine wpAnyZ_take (i := 12) (v := .pointer (some ⟨rb, 9, none⟩)) rfl (by kernel_rfl) (by kernel_rfl) (by kernel_rfl) (by kernel_rfl) (fun _ _ _ h => h) (Or.inl ⟨by rfl, fun w hSw => by clear hSw; go_simp⟩) hH ?_
      try simp only [Act.put, List.setIfInBounds_toArray, List.set_cons_zero, List.set_cons_succ, List.getElem_toArray, List.getElem_cons_succ, List.getElem_cons_zero]
      have HV5 : Hid (Below W5.heap.size W5 V5) := hH
      refine wpAnyZ_ready (rs := [4]) (by kernel_rfl) (by simp) ?_
      refine AllReadyZ.cons rfl (fun K hK => ?_) AllReadyZ.nil
      go_simp
      go_at_call 67
      refine (HMi.out _).mono ?_
      rintro e w6 ⟨rfl, hb6⟩
      have H6 : Hid (Below W5.heap.size W5 w6) := chain HV5.out hb6
      clear hb6
      refine hK.out _ _ (Or.inr H6.out) (fun _ => ?_)
      clear hK K
      try simp only [Act.put, List.setIfInBounds_toArray, List.set_cons_zero, List.set_cons_succ, List.getElem_toArray, List.getElem_cons_succ, List.getElem_cons_zero]
      refine wpAnyZ_take (i := 5) (v := .int .i64 (mn + du)) rfl (by kernel_rfl) (by kernel_rfl) (by kernel_rfl) (by kernel_rfl) (fun _ _ _ h => h) (Or.inl ⟨by rfl, fun w hSw => by clear hSw; go_simp⟩) H6.out ?_
      try simp only [Act.put, List.setIfInBounds_toArray, List.set_cons_zero, List.set_cons_succ, List.getElem_toArray, List.getElem_cons_succ, List.getElem_cons_zero]
      refine wpAnyZ_take (i := 11) (v := .agg #[.int .i64 (mn + du), .int .i64 (t + rt)]) rfl (by kernel_rfl) (by kernel_rfl) (by kernel_rfl) (by kernel_rfl) (fun _ _ _ h => h) (Or.inl ⟨by rfl, fun w hSw => by clear hSw; go_simp⟩) H6.out ?_
      try simp only [Act.put, List.setIfInBounds_toArray, List.set_cons_zero, List.set_cons_succ, List.getElem_toArray, List.getElem_cons_succ, List.getElem_cons_zero]
      refine wpAnyZ_take (i := 13) (v := .pointer (some ⟨rb, 9 + m * 2, none⟩)) rfl (by kernel_rfl) (by kernel_rfl) (by kernel_rfl) (by kernel_rfl) (fun _ _ _ h => h) (Or.inl ⟨by rfl, fun w hSw => by clear hSw; go_simp⟩) H6.out ?_
      try simp only [Act.put, List.setIfInBounds_toArray, List.set_cons_zero, List.set_cons_succ, List.getElem_toArray, List.getElem_cons_succ, List.getElem_cons_zero]
      have HG6 : Hid (GvI w cb rb qb #[.slice (some ⟨b0, o0, none⟩) nr cap, .slice (some ⟨b1, o1, none⟩) nw cw] (rtS (rtS R k m) 8 (k + 1)) w6) := HG5.out.later H6.out
      have HS6 : Hid (w6.heap[sb]? = some (.cells #[.int .i64 f, .int .i64 t, .string sn] 54 (0, 0)) ∧ w6.heap[xb]? = some (.cells #[.string nm, .int .i64 ms, .int .i64 rt, .int .i64 co, .slice h n cp] 56 (0, 0))) := ⟨(H6.out.block _ (blkLt HS5.out.1)).trans HS5.out.1, (H6.out.block _ (blkLt HS5.out.2.1)).trans HS5.out.2.1⟩
      clear HG5 HS5
      have y0 := HG6.out.rt.cell (k := 9 + m * 2) (by omega)
      have y1 := HG6.out.rt.cell (k := 9 + m * 2 + 1) (by omega)
      have z0 := HG6.out.rt.free (9 + m * 2)
      have z1 := HG6.out.rt.free (9 + m * 2 + 1)
      refine wpAnyZ_ready (rs := [14]) (by kernel_rfl) (by simp) ?_
      refine AllReadyZ.cons rfl (fun K hK => ?_) AllReadyZ.nil
      go_simp
      refine hK.out _ _ (Or.inl rfl) (fun _ => ?_)
      clear hK K
      try simp only [Act.put, List.setIfInBounds_toArray, List.set_cons_zero, List.set_cons_succ, List.getElem_toArray, List.getElem_cons_succ, List.getElem_cons_zero]
      refine wpAnyZ_done (by kernel_rfl) ?_ _
      clear hH y0 y1 z0 z1 H6 HV5
      obtain ⟨W7, hW7⟩ : ∃ W7, W7 = (w6.setCell ⟨rb, 9 + m * 2, none⟩ (.int .i64 (mn + du))).setCell ⟨rb, 9 + m * 2 + 1, none⟩ (.int .i64 (t + rt)) := ⟨_, rfl⟩
      rw [← hW7]
      have HG7 : Hid (GvI w cb rb qb #[.slice (some ⟨b0, o0, none⟩) nr cap, .slice (some ⟨b1, o1, none⟩) nw cw] (rtS (rtS (rtS (rtS R k m) 8 (k + 1)) (9 + 2 * m) (mn + du)) (9 + 2 * m + 1) (t + rt)) W7) := by
        rw [hW7, show 9 + 2 * m = 9 + m * 2 by omega]
        exact (HG6.out.set (by omega) _).set (by omega) _
      have HS7 : Hid (W7.heap[sb]? = some (.cells #[.int .i64 f, .int .i64 t, .string sn] 54 (0, 0)) ∧ W7.heap[xb]? = some (.cells #[.string nm, .int .i64 ms, .int .i64 rt, .int .i64 co, .slice h n cp] 56 (0, 0))) := by
        have g1 := HG6.out.set (k := 9 + m * 2) (by omega) (mn + du)
        rw [hW7]
        exact ⟨gv_other g1 (gv_other HG6.out HS6.out.1 (by decide)) (by decide), gv_other g1 (gv_other HG6.out HS6.out.2 (by decide)) (by decide)⟩
      clear hW7 HG6 HS6 hw1 hw2
      obtain ⟨c19, h19⟩ : ∃ c19, R 19 = c19 := ⟨_, rfl⟩
      have HC19 : Hid (R 19 = c19) := h19
      rw [h19] at hco
      have x19 : Hid (∀ W, Below W7.heap.size W7 W → W.cell? ⟨rb, 19, none⟩ = some (.int .i64 c19) ∧ W.heap[sb]? = some (.cells #[.int .i64 f, .int .i64 t, .string sn] 54 (0, 0)) ∧ W.heap[xb]? = some (.cells #[.string nm, .int .i64 ms, .int .i64 rt, .int .i64 co, .slice h n cp] 56 (0, 0))) := fun W hW => by
        have := (HG7.out.later hW).rt.cell (k := 19) (by omega)
        rw [rtS_other _ _ (by omega), rtS_other _ _ (by omega), rtS_other _ _ (by omega), rtS_other _ _ (by omega), h19] at this
        exact ⟨this, (hW.block _ (blkLt HS7.out.1)).trans HS7.out.1, (hW.block _ (blkLt HS7.out.2)).trans HS7.out.2⟩
      clear h19
      have hw1 : IntKind.i64.wrap (du * co) = du * co := wrap_id _ (by omega) (by omega)
      have hw2 : IntKind.i64.wrap (c19 + du * co) = c19 + du * co := wrap_id _ (by omega) (by omega)
      obtain ⟨dc, hdc⟩ : ∃ dc, du * co = dc := ⟨_, rfl⟩
      have HDc : Hid (du * co = dc) := hdc
      rw [hdc] at hw1 hw2 hdm
      go_upto_region 9 with fail
      refine wp_region_z (S := fun W => Below W7.heap.size W7 W) 9 (by kernel_rfl) (below_drew _) (fun hH => ?_)
      generalize W7.drew = V7 at *
      refine wpAnyZ_take (i := 0) (v := .pointer (some ⟨rb, 19, none⟩)) rfl (by kernel_rfl) (by kernel_rfl) (by kernel_rfl) (by kernel_rfl) (fun _ _ _ h => h) (Or.inl ⟨by rfl, fun w hSw => by clear hSw; go_simp⟩) hH ?_
      refine wpAnyZ_take (i := 1) (v := .int .i64 c19) rfl (by kernel_rfl) (by kernel_rfl) (by kernel_rfl) (by kernel_rfl) (fun _ _ _ h => h) (Or.inl ⟨by rfl, fun w hSw => by have e0 := (x19.out w hSw).1; clear hSw; go_simp⟩) hH ?_
      try simp only [Act.put, List.setIfInBounds_toArray, List.set_cons_zero, List.set_cons_succ, List.getElem_toArray, List.getElem_cons_succ, List.getElem_cons_zero]
      refine wpAnyZ_take (i := 2) (v := .agg #[.int .i64 f, .int .i64 t, .string sn]) rfl (by kernel_rfl) (by kernel_rfl) (by kernel_rfl) (by kernel_rfl) (fun _ _ _ h => h) (Or.inl ⟨by rfl, fun w hSw => by have h9 := (x19.out w hSw).2.1; obtain ⟨e0, e1, e2⟩ := (show w.cell? ⟨sb, 0, none⟩ = some (.int .i64 f) ∧ w.cell? ⟨sb, 1, none⟩ = some (.int .i64 t) ∧ w.cell? ⟨sb, 2, none⟩ = some (.string sn) from ⟨blkCell h9 0 _ rfl, blkCell h9 1 _ rfl, blkCell h9 2 _ rfl⟩); clear hSw h9; go_simp⟩) hH ?_
      try simp only [Act.put, List.setIfInBounds_toArray, List.set_cons_zero, List.set_cons_succ, List.getElem_toArray, List.getElem_cons_succ, List.getElem_cons_zero]
      refine wpAnyZ_take (i := 4) (v := .pointer (some ⟨xb, 3, none⟩)) rfl (by kernel_rfl) (by kernel_rfl) (by kernel_rfl) (by kernel_rfl) (fun _ _ _ h => h) (Or.inl ⟨by rfl, fun w hSw => by clear hSw; go_simp⟩) hH ?_
      try simp only [Act.put, List.setIfInBounds_toArray, List.set_cons_zero, List.set_cons_succ, List.getElem_toArray, List.getElem_cons_succ, List.getElem_cons_zero]
      refine wpAnyZ_take (i := 5) (v := .int .i64 co) rfl (by kernel_rfl) (by kernel_rfl) (by kernel_rfl) (by kernel_rfl) (fun _ _ _ h => h) (Or.inl ⟨by rfl, fun w hSw => by have e0 := blkCell (x19.out w hSw).2.2 3 _ rfl; clear hSw; go_simp⟩) hH ?_
      try simp only [Act.put, List.setIfInBounds_toArray, List.set_cons_zero, List.set_cons_succ, List.getElem_toArray, List.getElem_cons_succ, List.getElem_cons_zero]
      have HV7 : Hid (Below W7.heap.size W7 V7) := hH
      refine wpAnyZ_ready (rs := [3]) (by kernel_rfl) (by simp) ?_
      refine AllReadyZ.cons rfl (fun K hK => ?_) AllReadyZ.nil
      go_simp
      go_at_call 67
      refine (HMi.out _).mono ?_
      rintro e w8 ⟨rfl, hb8⟩
      have H8 : Hid (Below W7.heap.size W7 w8) := chain HV7.out hb8
      clear hb8
      refine hK.out _ _ (Or.inr H8.out) (fun _ => ?_)
      clear hK K
      try simp only [Act.put, List.setIfInBounds_toArray, List.set_cons_zero, List.set_cons_succ, List.getElem_toArray, List.getElem_cons_succ, List.getElem_cons_zero]
      refine wpAnyZ_take (i := 6) (v := .int .i64 dc) rfl (by kernel_rfl) (by kernel_rfl) (by kernel_rfl) (by kernel_rfl) (fun _ _ _ h => h) (Or.inl ⟨by rfl, fun w hSw => by clear hSw; go_simp⟩) H8.out ?_
      try simp only [Act.put, List.setIfInBounds_toArray, List.set_cons_zero, List.set_cons_succ, List.getElem_toArray, List.getElem_cons_succ, List.getElem_cons_zero]
      refine wpAnyZ_take (i := 7) (v := .int .i64 (c19 + dc)) rfl (by kernel_rfl) (by kernel_rfl) (by kernel_rfl) (by kernel_rfl) (fun _ _ _ h => h) (Or.inl ⟨by rfl, fun w hSw => by clear hSw; go_simp⟩) H8.out ?_
      try simp only [Act.put, List.setIfInBounds_toArray, List.set_cons_zero, List.set_cons_succ, List.getElem_toArray, List.getElem_cons_succ, List.getElem_cons_zero]
      refine wpAnyZ_take (i := 8) (v := .pointer (some ⟨rb, 19, none⟩)) rfl (by kernel_rfl) (by kernel_rfl) (by kernel_rfl) (by kernel_rfl) (fun _ _ _ h => h) (Or.inl ⟨by rfl, fun w hSw => by clear hSw; go_simp⟩) H8.out ?_
      try simp only [Act.put, List.setIfInBounds_toArray, List.set_cons_zero, List.set_cons_succ, List.getElem_toArray, List.getElem_cons_succ, List.getElem_cons_zero]
      have HG8 : Hid (GvI w cb rb qb #[.slice (some ⟨b0, o0, none⟩) nr cap, .slice (some ⟨b1, o1, none⟩) nw cw] (rtS (rtS (rtS (rtS R k m) 8 (k + 1)) (9 + 2 * m) (mn + du)) (9 + 2 * m + 1) (t + rt)) w8) := HG7.out.later H8.out
      have y0 := HG8.out.rt.cell (k := 19) (by omega)
      have z0 := HG8.out.rt.free 19
      refine wpAnyZ_ready (rs := [9]) (by kernel_rfl) (by simp) ?_
      refine AllReadyZ.cons rfl (fun K hK => ?_) AllReadyZ.nil
      go_simp
      refine hK.out _ _ (Or.inl rfl) (fun _ => ?_)
      clear hK K
      try simp only [Act.put, List.setIfInBounds_toArray, List.set_cons_zero, List.set_cons_succ, List.getElem_toArray, List.getElem_cons_succ, List.getElem_cons_zero]
      refine wpAnyZ_done (by kernel_rfl) ?_ _
      clear hH y0 z0 H8 HV7 x19 hw1 hw2 HG7 HS7
      obtain ⟨W9, hW9⟩ : ∃ W9, W9 = w8.setCell ⟨rb, 19, none⟩ (.int .i64 (c19 + dc)) := ⟨_, rfl⟩
      rw [← hW9]
      have HG9 : Hid (GvI w cb rb qb #[.slice (some ⟨b0, o0, none⟩) nr cap, .slice (some ⟨b1, o1, none⟩) nw cw] RX W9) := by
        have e : RX = rtS (rtS (rtS (rtS (rtS R k m) 8 (k + 1)) (9 + 2 * m) (mn + du)) (9 + 2 * m + 1) (t + rt)) 19 (c19 + dc) := by rw [HY.out, HFin.out, HMn.out.1, HC19.out, HDc.out]
        rw [hW9, e]
        exact HG8.out.set (by omega) _
      clear hW9 HG8
      have hall := rtA_one RX
      go_wp2_with (first | (refine wpList_load_row rfl 83 (.tmp 4) rfl rb rfl 83 (rtA RX) (0, 0) _ HG9.out.rt Try.underlying83 rfl (by rw [rtA_size]; exact rota_size) ?_) | (refine wpList_store_row rfl 83 (.tmp 6) (.tmp 67) rfl qb (rtA RX) rfl rfl 83 _ HG9.out.rs (by rw [rtA_size]; exact rota_size) rfl hall ?_))
      refine bodyPost_ret (givenRun _ _ qb (rtA RX) (.int .i64 0) rfl rfl (setRow_heap _ _ _ _ _ _ HG9.out.rs) (rtA_size _)) rfl ?_
      exact ⟨rfl, below_setRow HG9.out.low HG9.out.lo.2.1 _⟩
    · skip
      have HZ : Hid (RX = rtZ) := by show _ = _; rw [← HRX.out, if_neg h0]
      have hcb : (code != 0) = true := by simpa using h0
      have hall := rtA_one rtZ
      go_upto_region 5 with fail
      go_wp2_with (first | (refine wpList_builtR rfl 83 _ rfl #[] (rtA rtZ) (by rfl) rotaZero ?_) | (refine wpList_store_row rfl 83 (.tmp 6) (.tmp 33) rfl qb (rtA rtZ) rfl rfl 83 _ HG3.out.rs (by rw [rtA_size]; exact rota_size) rfl hall ?_))
      rw [HZ.out]
      refine bodyPost_ret (givenRun _ _ qb (rtA rtZ) (.int .i64 code) rfl rfl (setRow_heap _ _ _ _ _ _ HG3.out.rs) (rtA_size _)) rfl ?_
      exact ⟨rfl, below_setRow HG3.out.low HG3.out.lo.2.1 _⟩
end Go.Proofs.Yteigbmdhfeagfaa

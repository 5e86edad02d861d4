/-
  The program's search for the route that is back first, in memory: its block, the best route so far in rows that no way writes, what goOn leaves.
-/
import Derived.Test.YtoogphkojofkfaaRwN
import Derived.Test.YtoogphkojofkfaaRwQ
namespace Go.Proofs.Ytoogphkojofkfaa
open Go.ChangeShapes Go.WideShapes Go.ChangeAt Go.RowKit Go.Joins Go.Deep
set_option linter.unusedVariables false

theorem rowI_takeR {w : World} {B g n c : Nat} {xs : List Value} (h : w.ownsRow B 3 1 (.slice (some ⟨g, 0, none⟩) n c) n xs) (p : Nat) (hp : p ≤ n) : w.ownsRow B 3 1 (.slice (some ⟨g, 0, none⟩) p c) p (xs.take p) := by
  obtain ⟨h1, h2⟩ := h
  rcases h2 with ⟨h2, _⟩ | ⟨g', cap, cur, e, r0, r1, r2, r3, r4, r5⟩
  · cases h2
  simp at e
  obtain ⟨rfl, rfl⟩ := e
  refine ⟨by rw [List.length_take, h1]; omega, .inr ⟨g, c, cur, rfl, r0, r1, by omega, r3, r4, ?_⟩⟩
  rw [← r5, List.take_take]
  congr 1
  omega
theorem fr_typeR {wr w' : World} {X : Nat → Prop} {k : Nat} {V : Array Value} {t : TypeId} (hf : Fr X wr w') (hk : wr.heap[k]? = some (.cells V t (0, 0))) (ht : t ≠ 3) (hX : ∀ x, X x → ∃ cur, wr.heap[x]? = some (.cells cur 3 (0, 0))) : w'.heap[k]? = some (.cells V t (0, 0)) :=
  (hf.block k (blkLt hk) (fun q => by
    obtain ⟨cur, hc⟩ := hX k q
    exact type_ne hk hc ht rfl)).trans hk
theorem RowI.keep {lo hi : Nat} {W W' : World} {g : Option Addr} {L : List Int} (h : RowI lo hi W g L) (hs : W.heap.size ≤ W'.heap.size) (hk : L ≠ [] → ∀ c, g = some ⟨c, 0, none⟩ → c < W.heap.size → W'.heap[c]? = W.heap[c]?) : RowI lo hi W' g L := by
  by_cases hL : L = []
  · exact .inl hL
  · rcases h with h | ⟨c, h1, ⟨h2, h3, h4⟩, h5, h6⟩
    · exact .inl h
    · have hk := hk hL c h1 (by omega)
      refine .inr ⟨c, h1, ⟨h2, h3, Nat.le_trans h4 hs⟩, fun i hi => ?_, fun i hi => ?_⟩
      · have := h5 i hi
        unfold World.cell? at this ⊢
        rw [hk]; exact this
      · have := h6 i hi
        unfold World.frozen? at this ⊢
        rw [hk]; exact this
theorem RowI.blk {lo hi : Nat} {W : World} {g : Option Addr} {L : List Int} (h : RowI lo hi W g L) (hL : L ≠ []) {c : Nat} (hg : g = some ⟨c, 0, none⟩) : lo ≤ c ∧ c < hi ∧ hi ≤ W.heap.size := by
  rcases h with h | ⟨c2, h1, h2, _, _⟩
  · exact absurd h hL
  · rw [hg] at h1; simp at h1; rw [h1]; exact h2
/-- The search's block, and the best route so far: its rows lie in none of the blocks X. -/
def PsR (lo sb : Nat) (ad : Option Addr) (cap : Nat) (bd : Int) (rs : List RHp) (b : Int) (X : Nat → Prop) (B : Option (List Int)) (W : World) : Prop :=
  (B = none ∧ W.heap[sb]? = some (.cells #[.slice ad rs.length cap, .int .i64 bd, .pointer none] 53 (0, 0))) ∨
  ∃ o bb q cq s cs mid, B = some o ∧ W.heap[sb]? = some (.cells #[.slice ad rs.length cap, .int .i64 bd, .pointer (some ⟨bb, 0, none⟩)] 53 (0, 0)) ∧ W.heap[bb]? = some (.cells #[.slice q o.length cq, .slice s (trp rs b o).A.length cs, .int .i64 (trp rs b o).wt, .int .i64 (enR rs b o)] 28 (0, 0)) ∧ (lo ≤ mid ∧ mid ≤ W.heap.size) ∧ RowI lo mid W q o ∧ RowI mid W.heap.size W s (trp rs b o).A ∧ ∀ x, X x → (o ≠ [] → q ≠ some ⟨x, 0, none⟩) ∧ ((trp rs b o).A ≠ [] → s ≠ some ⟨x, 0, none⟩)
section
variable {lo sb : Nat} {ad : Option Addr} {cap : Nat} {bd : Int} {rs : List RHp} {b : Int} {X Y : Nat → Prop} {B : Option (List Int)} {W w' : World}
theorem PsR.dn (h : PsR lo sb ad cap bd rs b X B W) : DnI lo sb rs b B W := by
  rcases h with ⟨h1, h2⟩ | ⟨o, bb, q, cq, s, cs, mid, h1, h2, h3, h4, h5, h6, _⟩
  · exact ⟨_, _, .inl ⟨h1, h2⟩⟩
  · exact ⟨_, _, .inr ⟨o, bb, q, cq, s, cs, mid, h1, h2, h3, h4, h5, h6⟩⟩
theorem PsR.sbk (h : PsR lo sb ad cap bd rs b X B W) : ∃ v, W.heap[sb]? = some (.cells #[.slice ad rs.length cap, .int .i64 bd, v] 53 (0, 0)) := by
  rcases h with ⟨h1, h2⟩ | ⟨o, bb, q, cq, s, cs, mid, h1, h2, _⟩
  · exact ⟨_, h2⟩
  · exact ⟨_, h2⟩
theorem PsR.keep (h : PsR lo sb ad cap bd rs b X B W) (hf : Fr Y W w') (hY : ∀ x, Y x → X x) (hT : ∀ x, Y x → ∃ cur, W.heap[x]? = some (.cells cur 3 (0, 0))) : PsR lo sb ad cap bd rs b X B w' := by
  have hk : ∀ {d : Nat} {V : Array Value} {t : TypeId}, W.heap[d]? = some (.cells V t (0, 0)) → t ≠ 3 → w'.heap[d]? = W.heap[d]? := fun {d V t} hd ht => hf.block d (blkLt hd) (fun hx => by
    obtain ⟨cur, hc⟩ := hT d hx
    rw [hd] at hc
    simp at hc
    exact ht hc.2)
  rcases h with ⟨h1, h2⟩ | ⟨o, bb, q, cq, s, cs, mid, h1, h2, h3, ⟨h4, h4'⟩, h5, h6, h7⟩
  · exact .inl ⟨h1, (hk h2 (by decide)).trans h2⟩
  · refine .inr ⟨o, bb, q, cq, s, cs, mid, h1, (hk h2 (by decide)).trans h2, (hk h3 (by decide)).trans h3, ⟨h4, Nat.le_trans h4' hf.size⟩, ?_, ?_, h7⟩
    · exact h5.keep hf.size (fun hn c hc hl => hf.block c hl (fun hx => (h7 c (hY c hx)).1 hn hc))
    · exact (h6.keep hf.size (fun hn c hc hl => hf.block c hl (fun hx => (h7 c (hY c hx)).2 hn hc))).wide (Nat.le_refl _) hf.size (Nat.le_refl _)
theorem PsR.later (h : PsR lo sb ad cap bd rs b X B W) (hb : Below W.heap.size W w') : PsR lo sb ad cap bd rs b X B w' :=
  h.keep (Y := fun _ => False) (Fr.of hb) (fun x hx => hx.elim) (fun x hx => hx.elim)
theorem PsR.mono (h : PsR lo sb ad cap bd rs b X B W) (hXY : ∀ x, Y x → X x ∨ W.heap.size ≤ x) : PsR lo sb ad cap bd rs b Y B W := by
  rcases h with h | ⟨o, bb, q, cq, s, cs, mid, h1, h2, h3, h4, h5, h6, h7⟩
  · exact .inl h
  · refine .inr ⟨o, bb, q, cq, s, cs, mid, h1, h2, h3, h4, h5, h6, fun x hx => ?_⟩
    rcases hXY x hx with k | k
    · exact h7 x k
    · refine ⟨fun hn hq => ?_, fun hn hq => ?_⟩
      · have := h5.blk hn hq; have := h4.2; omega
      · have := h6.blk hn hq; omega
/-- A route is kept. -/
theorem PsR.put {o : List Int} {w0 V : World} {q s : Option Addr} {cq cs mid : Nat} (hK : KpI sb (.slice ad rs.length cap) bd q s o.length cq (trp rs b o).A.length cs (trp rs b o).wt (enR rs b o) V w') (hlo : lo ≤ w0.heap.size) (hsb : sb < w0.heap.size) (hm : w0.heap.size ≤ mid ∧ mid ≤ V.heap.size) (h1 : RowI w0.heap.size mid V q o) (h2 : RowI mid V.heap.size V s (trp rs b o).A) (hX : ∀ x, X x → x < w0.heap.size) : PsR lo sb ad cap bd rs b X (some o) w' := by
  obtain ⟨bb, k1, k2, k3, k4⟩ := hK
  refine .inr ⟨o, bb, q, cq, s, cs, mid, rfl, k2, k3, ⟨by omega, Nat.le_trans hm.2 k4.size⟩, ?_, ?_, fun x hx => ⟨fun hn hq => ?_, fun hn hq => ?_⟩⟩
  · exact (h1.fr k4 (fun x hx => by rw [hx]; exact hsb)).wide hlo (Nat.le_refl _) (Nat.le_trans hm.2 k4.size)
  · exact (h2.fr k4 (fun x hx => by rw [hx]; omega)).wide (Nat.le_refl _) k4.size (Nat.le_refl _)
  · have := h1.blk hn hq; have := hX x hx; omega
  · have := h2.blk hn hq; have := hX x hx; omega
end
/-- The blocks of a way's two rows. -/
def wyX (ga : Option Addr) (gc n : Nat) (ha : Option Addr) (hc m : Nat) (x : Nat) : Prop := Value.ownBlock (.slice ga n gc) = some x ∨ Value.ownBlock (.slice ha m hc) = some x
/-- What goOn leaves. -/
def GoQ (D lo sb : Nat) (ad : Option Addr) (cap : Nat) (bd : Int) (rs : List RHp) (b : Int) (X : Nat → Prop) (ga : Option Addr) (gc : Nat) (L : List Int) (ha : Option Addr) (hc : Nat) (M : List Int) (B' : Option (List Int)) (W : World) (e : Ending) (w' : World) : Prop :=
  (e = .returned (.tuple #[]) ∨ ((∃ u pv, e = .panicked [{ v := .iface u pv, recovered := false }]) ∧ ∃ o, B' = some o ∧ enR rs b o ≤ bd)) ∧ PsR lo sb ad cap bd rs b X B' w' ∧ w'.ownsRow D 3 1 (.slice ga L.length gc) L.length (inV L) ∧ w'.ownsRow D 3 1 (.slice ha M.length hc) M.length (inV M) ∧ Fr (fun x => x = sb ∨ wyX ga gc L.length ha hc M.length x) W w'
/-- In the midst of goOn: the way lies in block wb. -/
structure GoI (D lo sb wb : Nat) (ad : Option Addr) (cap : Nat) (bd : Int) (rs : List RHp) (b : Int) (X : Nat → Prop) (ga : Option Addr) (gc : Nat) (L : List Int) (ha : Option Addr) (hc : Nat) (M : List Int) (wt lv : Int) (h : RHp) (B : Option (List Int)) (W wr : World) : Prop where
  ps : PsR lo sb ad cap bd rs b X B wr
  box : wr.heap[wb]? = some (.cells #[.slice ga L.length gc, .slice ha M.length hc, .int .i64 wt, .int .i64 lv, .int .i64 h.x, .int .i64 h.y, .int .i64 h.fr, .int .i64 h.to, .int .i64 h.sy] 57 (0, 0))
  rowL : wr.ownsRow D 3 1 (.slice ga L.length gc) L.length (inV L)
  rowM : wr.ownsRow D 3 1 (.slice ha M.length hc) M.length (inV M)
  fr : Fr (fun x => x = sb ∨ wyX ga gc L.length ha hc M.length x) W wr
/-- What holds of the way throughout. -/
structure GoS (lo sb : Nat) (X : Nat → Prop) (ga : Option Addr) (gc : Nat) (L : List Int) (ha : Option Addr) (hc : Nat) (M : List Int) (W : World) : Prop where
  sep : ∀ x, Value.ownBlock (.slice ga L.length gc) = some x → Value.ownBlock (.slice ha M.length hc) ≠ some x
  inX : ∀ x, wyX ga gc L.length ha hc M.length x → X x
  ltX : ∀ x, X x → x < W.heap.size
  sb : sb < W.heap.size
  lo : lo ≤ W.heap.size
section
variable {D lo sb wb : Nat} {ad : Option Addr} {cap : Nat} {bd : Int} {rs : List RHp} {b : Int} {X : Nat → Prop} {ga : Option Addr} {gc : Nat} {L : List Int} {ha : Option Addr} {hc : Nat} {M : List Int} {wt lv : Int} {h : RHp} {B B2 : Option (List Int)} {W wr w2 w0 : World}
theorem GoI.xt (q : GoI D lo sb wb ad cap bd rs b X ga gc L ha hc M wt lv h B W wr) : ∀ x, wyX ga gc L.length ha hc M.length x → ∃ cur, wr.heap[x]? = some (.cells cur 3 (0, 0)) := fun x hx => by
  rcases hx with e | e
  · exact row_type q.rowL e
  · exact row_type q.rowM e
theorem GoI.start (hp : PsR lo sb ad cap bd rs b X B W) (h1 : W.ownsRow D 3 1 (.slice ga L.length gc) L.length (inV L)) (h2 : W.ownsRow D 3 1 (.slice ha M.length hc) M.length (inV M)) : GoI D lo sb W.heap.size ad cap bd rs b X ga gc L ha hc M wt lv h B W (W.alloc (Obj.cells #[.slice ga L.length gc, .slice ha M.length hc, .int .i64 wt, .int .i64 lv, .int .i64 h.x, .int .i64 h.y, .int .i64 h.fr, .int .i64 h.to, .int .i64 h.sy] 57)) :=
  ⟨hp.later (below_alloc _ _), heapNew _ _, h1.alloc _, h2.alloc _, Fr.of (below_alloc _ _)⟩
theorem GoI.later (q : GoI D lo sb wb ad cap bd rs b X ga gc L ha hc M wt lv h B W wr) (hb : Below wr.heap.size wr w2) : GoI D lo sb wb ad cap bd rs b X ga gc L ha hc M wt lv h B W w2 :=
  ⟨q.ps.later hb, (hb.block wb (blkLt q.box)).trans q.box, row_of q.rowL (fun x hx => hb.block x (row_lt q.rowL x hx).2), row_of q.rowM (fun x hx => hb.block x (row_lt q.rowM x hx).2), q.fr.trans (Fr.of hb)⟩
theorem GoI.bx (q : GoI D lo sb wb ad cap bd rs b X ga gc L ha hc M wt lv h B W wr) : wr.cell? ⟨wb, 0, none⟩ = some (.slice ga L.length gc) ∧ wr.cell? ⟨wb, 1, none⟩ = some (.slice ha M.length hc) ∧ wr.cell? ⟨wb, 2, none⟩ = some (.int .i64 wt) ∧ wr.cell? ⟨wb, 3, none⟩ = some (.int .i64 lv) ∧ wr.cell? ⟨wb, 4, none⟩ = some (.int .i64 h.x) ∧ wr.cell? ⟨wb, 5, none⟩ = some (.int .i64 h.y) ∧ wr.cell? ⟨wb, 6, none⟩ = some (.int .i64 h.fr) ∧ wr.cell? ⟨wb, 7, none⟩ = some (.int .i64 h.to) ∧ wr.cell? ⟨wb, 8, none⟩ = some (.int .i64 h.sy) :=
  ⟨blkCell q.box 0 _ rfl, blkCell q.box 1 _ rfl, blkCell q.box 2 _ rfl, blkCell q.box 3 _ rfl, blkCell q.box 4 _ rfl, blkCell q.box 5 _ rfl, blkCell q.box 6 _ rfl, blkCell q.box 7 _ rfl, blkCell q.box 8 _ rfl⟩
theorem GoI.sc (q : GoI D lo sb wb ad cap bd rs b X ga gc L ha hc M wt lv h B W wr) : wr.cell? ⟨sb, 0, none⟩ = some (.slice ad rs.length cap) ∧ wr.cell? ⟨sb, 1, none⟩ = some (.int .i64 bd) := by
  obtain ⟨v, h1⟩ := q.ps.sbk
  exact ⟨blkCell h1 0 _ rfl, blkCell h1 1 _ rfl⟩
/-- The best route, as the test at goOn's head reads it. -/
theorem GoI.best (q : GoI D lo sb wb ad cap bd rs b X ga gc L ha hc M wt lv h B W wr) : (B = none ∧ wr.cell? ⟨sb, 2, none⟩ = some (.pointer none)) ∨ ∃ o bb, B = some o ∧ wr.cell? ⟨sb, 2, none⟩ = some (.pointer (some ⟨bb, 0, none⟩)) ∧ wr.cell? ⟨bb, 3, none⟩ = some (.int .i64 (enR rs b o)) := by
  rcases q.ps with ⟨h1, h2⟩ | ⟨o, bb, g, cq, s, cs, mid, h1, h2, h3, _⟩
  · exact .inl ⟨h1, blkCell h2 2 _ rfl⟩
  · exact .inr ⟨o, bb, h1, blkCell h2 2 _ rfl, blkCell h3 3 _ rfl⟩
theorem GoI.size (q : GoI D lo sb wb ad cap bd rs b X ga gc L ha hc M wt lv h B W wr) : W.heap.size ≤ wr.heap.size := q.fr.size
theorem GoI.fin (q : GoI D lo sb wb ad cap bd rs b X ga gc L ha hc M wt lv h B W wr) : GoQ D lo sb ad cap bd rs b X ga gc L ha hc M B W (.returned (.tuple #[])) wr :=
  ⟨.inl rfl, q.ps, q.rowL, q.rowM, q.fr⟩
theorem GoI.low (q : GoI D lo sb wb ad cap bd rs b X ga gc L ha hc M wt lv h B W wr) (hlow : Below D w0 W) (hB : w0.heap.size = D) (hsb : D ≤ sb) : Below D w0 wr := Fr.below hlow q.fr (by rw [← hB]; exact hlow.size) (fun k hk => by
  rcases hk with rfl | hk | hk
  · exact hsb
  · exact (row_lt q.rowL k hk).1
  · exact (row_lt q.rowM k hk).1)
theorem GoI.two (q : GoI D lo sb wb ad cap bd rs b X ga gc L ha hc M wt lv h B W wr) : wb ≠ sb := fun e => by
  obtain ⟨v, h1⟩ := q.ps.sbk
  have := q.box
  rw [e, h1] at this; simp at this
theorem GoI.notRow (q : GoI D lo sb wb ad cap bd rs b X ga gc L ha hc M wt lv h B W wr) {x : Nat} {cur : Array Value} (hc : wr.heap[x]? = some (.cells cur 3 (0, 0))) : wb ≠ x ∧ sb ≠ x := by
  obtain ⟨v, h1⟩ := q.ps.sbk
  refine ⟨fun e => ?_, fun e => ?_⟩
  · have := q.box; rw [e, hc] at this; simp at this
  · rw [e, hc] at h1; simp at h1
/-- A route is kept in the midst of goOn: that ends it. -/
theorem GoI.put {o : List Int} {V w3 : World} {g s : Option Addr} {cq cs mid : Nat} {e : Ending} (st : GoS lo sb X ga gc L ha hc M W) (q : GoI D lo sb wb ad cap bd rs b X ga gc L ha hc M wt lv h B W wr) (hb : Below wr.heap.size wr V) (hm : wr.heap.size ≤ mid ∧ mid ≤ V.heap.size) (h1 : RowI wr.heap.size mid V g o) (h2 : RowI mid V.heap.size V s (trp rs b o).A) (hK : KpI sb (.slice ad rs.length cap) bd g s o.length cq (trp rs b o).A.length cs (trp rs b o).wt (enR rs b o) V w3) (he : e = .returned (.tuple #[]) ∨ ((∃ u pv, e = .panicked [{ v := .iface u pv, recovered := false }]) ∧ enR rs b o ≤ bd)) : GoQ D lo sb ad cap bd rs b X ga gc L ha hc M (some o) W e w3 := by
  have hp : PsR lo sb ad cap bd rs b X (some o) w3 := PsR.put (w0 := wr) hK (Nat.le_trans st.lo q.size) (Nat.lt_of_lt_of_le st.sb q.size) hm h1 h2 (fun x hx => Nat.lt_of_lt_of_le (st.ltX x hx) q.size)
  obtain ⟨bb, k1, k2, k3, k4⟩ := hK
  have q2 := q.later hb
  have hrow : ∀ {v : Value} {n : Nat} {xs : List Value}, V.ownsRow D 3 1 v n xs → w3.ownsRow D 3 1 v n xs := fun {v n xs} hv => row_of hv (fun x hx => k4.block x (row_lt hv x hx).2 (fun e => by
    obtain ⟨cur, hc⟩ := row_type hv hx
    exact (q2.notRow hc).2 e.symm))
  refine ⟨he.imp id (fun k => ⟨k.1, o, rfl, k.2⟩), hp, hrow q2.rowL, hrow q2.rowM, q2.fr.trans (k4.mono (fun k hk => .inl hk))⟩
/-- Behind a trip's step. -/
theorem GoI.step (st : GoS lo sb X ga gc L ha hc M W) (q : GoI D lo sb wb ad cap bd rs b X ga gc L ha hc M wt lv h B W wr) (hf : Fr (fun x => Value.ownBlock (.slice ga L.length gc) = some x ∨ Value.ownBlock (.slice ha M.length hc) = some x) wr w2) (h1 : w2.ownsRow D 3 1 (.slice ga L.length gc) L.length (inV L)) (h2 : w2.ownsRow D 3 1 (.slice ha M.length hc) M.length (inV M)) : GoI D lo sb wb ad cap bd rs b X ga gc L ha hc M wt lv h B W w2 :=
  ⟨q.ps.keep hf (fun x hx => st.inX x hx) q.xt, fr_typeR hf q.box (by decide) q.xt, h1, h2, q.fr.trans (hf.mono (fun k hk => .inr hk))⟩
/-- Behind a try of the next place: the trip's rows (g1, g2) lie where the way's do, or are new. -/
theorem GoI.child {p ar : Int} {g1 c1 g2 c2 : Nat} {e : Ending} (st : GoS lo sb X ga gc L ha hc M W) (q : GoI D lo sb wb ad cap bd rs b X ga gc L ha hc M wt lv h B W wr)
    (r1 : wr.ownsRow D 3 1 (.slice (some ⟨g1, 0, none⟩) (L.length + 1) c1) (L.length + 1) (inV (L ++ [p]))) (r2 : wr.ownsRow D 3 1 (.slice (some ⟨g2, 0, none⟩) (M.length + 1) c2) (M.length + 1) (inV (M ++ [ar])))
    (n1 : (ga = some ⟨g1, 0, none⟩ ∧ c1 = gc) ∨ W.heap.size ≤ g1) (n2 : (ha = some ⟨g2, 0, none⟩ ∧ c2 = hc) ∨ W.heap.size ≤ g2) (ne : g1 ≠ g2)
    (hq : GoQ D lo sb ad cap bd rs b (fun x => X x ∨ x = g1 ∨ x = g2) (some ⟨g1, 0, none⟩) c1 (L ++ [p]) (some ⟨g2, 0, none⟩) c2 (M ++ [ar]) B2 wr e w2) :
    (e = .returned (.tuple #[]) ∨ ((∃ u pv, e = .panicked [{ v := .iface u pv, recovered := false }]) ∧ ∃ o, B2 = some o ∧ enR rs b o ≤ bd)) ∧ GoI D lo sb wb ad cap bd rs b X ga gc L ha hc M wt lv h B2 W w2 := by
  obtain ⟨he, q1, q2, q3, q4⟩ := hq
  obtain ⟨cu1, hc1⟩ := row_type r1 (q := g1) rfl
  obtain ⟨cu2, hc2⟩ := row_type r2 (q := g2) rfl
  obtain ⟨m1, m2⟩ := q.notRow hc1
  obtain ⟨m3, m4⟩ := q.notRow hc2
  have hold : ∀ x, x < wr.heap.size → x ≠ sb → x ≠ g1 → x ≠ g2 → w2.heap[x]? = wr.heap[x]? := fun x hx k1 k2 k3 => q4.block x hx (fun k => by
    rcases k with k | k | k
    · exact k1 k
    · exact k2 (by simpa [Value.ownBlock] using k.symm)
    · exact k3 (by simpa [Value.ownBlock] using k.symm))
  have hW : ∀ x, wyX ga gc L.length ha hc M.length x → x < W.heap.size := fun x hx => st.ltX x (st.inX x hx)
  refine ⟨he, q1.mono (fun x hx => .inl (.inl hx)), (hold wb (blkLt q.box) q.two m1 m3).trans q.box, ?_, ?_, ⟨q4.os.trans q.fr.os, q4.tape.trans q.fr.tape, q4.output.trans q.fr.output, Nat.le_trans q.fr.size q4.size, fun x hx hX => ?_⟩⟩
  · rcases n1 with ⟨rfl, rfl⟩ | n1
    · rw [List.length_append] at q2
      have := rowI_takeR (p := L.length) q2 (by simp)
      have e2 : (inV (L ++ [p])).take L.length = inV L := by simp [inV]
      rw [e2] at this
      exact this
    · refine row_of q.rowL (fun x hx => ?_)
      have h9 := hW x (.inl hx)
      have hx2 := row_lt q.rowL x hx
      obtain ⟨cu, hcu⟩ := row_type q.rowL hx
      refine hold x hx2.2 (fun k => (q.notRow hcu).2 k.symm) (by omega) (fun k => ?_)
      rcases n2 with ⟨k2, _⟩ | n2
      · refine st.sep x hx ?_
        rw [k2, k]; rfl
      · omega
  · rcases n2 with ⟨rfl, rfl⟩ | n2
    · rw [List.length_append] at q3
      have := rowI_takeR (p := M.length) q3 (by simp)
      have e2 : (inV (M ++ [ar])).take M.length = inV M := by simp [inV]
      rw [e2] at this
      exact this
    · refine row_of q.rowM (fun x hx => ?_)
      have h9 := hW x (.inr hx)
      have hx2 := row_lt q.rowM x hx
      obtain ⟨cu, hcu⟩ := row_type q.rowM hx
      refine hold x hx2.2 (fun k => (q.notRow hcu).2 k.symm) (fun k => ?_) (by omega)
      rcases n1 with ⟨k2, _⟩ | n1
      · refine st.sep x ?_ hx
        rw [k2, k]; rfl
      · omega
  · refine (hold x (Nat.lt_of_lt_of_le hx q.fr.size) (fun k => hX (.inl k)) (fun k => ?_) (fun k => ?_)).trans (q.fr.block x hx hX)
    · rcases n1 with ⟨k2, _⟩ | n1
      · exact hX (.inr (.inl (by rw [k2, k]; rfl)))
      · omega
    · rcases n2 with ⟨k2, _⟩ | n2
      · exact hX (.inr (.inr (by rw [k2, k]; rfl)))
      · omega
/-- What the next place's try asks. -/
theorem GoI.kid {p ar : Int} {g1 c1 g2 c2 : Nat} (st : GoS lo sb X ga gc L ha hc M W) (q : GoI D lo sb wb ad cap bd rs b X ga gc L ha hc M wt lv h B W wr)
    (r1 : wr.ownsRow D 3 1 (.slice (some ⟨g1, 0, none⟩) (L.length + 1) c1) (L.length + 1) (inV (L ++ [p]))) (r2 : wr.ownsRow D 3 1 (.slice (some ⟨g2, 0, none⟩) (M.length + 1) c2) (M.length + 1) (inV (M ++ [ar])))
    (ne : g1 ≠ g2) (hps : PsR lo sb ad cap bd rs b (fun x => X x ∨ x = g1 ∨ x = g2) B wr) : GoS lo sb (fun x => X x ∨ x = g1 ∨ x = g2) (some ⟨g1, 0, none⟩) c1 (L ++ [p]) (some ⟨g2, 0, none⟩) c2 (M ++ [ar]) wr := by
  refine ⟨fun x hx hy => ?_, fun x hx => ?_, fun x hx => ?_, Nat.lt_of_lt_of_le st.sb q.size, Nat.le_trans st.lo q.size⟩
  · simp only [Value.ownBlock, Option.some.injEq] at hx hy
    exact ne (hx.trans hy.symm)
  · rcases hx with hx | hx
    · exact .inr (.inl (by simpa [Value.ownBlock] using hx.symm))
    · exact .inr (.inr (by simpa [Value.ownBlock] using hx.symm))
  · rcases hx with hx | rfl | rfl
    · exact Nat.lt_of_lt_of_le (st.ltX x hx) q.size
    · exact (row_lt r1 _ rfl).2
    · exact (row_lt r2 _ rfl).2
end
end Go.Proofs.Ytoogphkojofkfaa

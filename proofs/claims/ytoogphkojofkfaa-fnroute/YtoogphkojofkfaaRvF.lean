/-
  Contracts of the specification's l20Route and RouteOf, for all arguments.
-/
import Derived.Test.YtoogphkojofkfaaRvD
namespace Go.Proofs.Ytoogphkojofkfaa
open Go.ChangeShapes Go.WideShapes Go.ChangeAt Go.RowKit Go.Joins Go.Deep
set_option linter.unusedVariables false

/-- In the midst of l20Route: the route so far in block r8, where it is in block a9, the answer's block rb. -/
structure LrI (w : World) (rb r8 a9 : Nat) (ga : Option Addr) (gc : Nat) (L : List Int) (ha : Option Addr) (hc : Nat) (M : List Int) (wt en : Int) (h : RHp) (wr : World) : Prop where
  low : Below w.heap.size w wr
  res : w.heap.size ≤ rb ∧ wr.heap[rb]? = some (.cells #[.slice none 0 0, .slice none 0 0, .int .i64 0, .int .i64 0] 28 (0, 0)) ∧ rb ≠ r8
  r : w.heap.size ≤ r8 ∧ wr.heap[r8]? = some (.cells #[.slice ga L.length gc, .slice ha M.length hc, .int .i64 wt, .int .i64 en] 28 (0, 0))
  a : w.heap.size ≤ a9 ∧ wr.heap[a9]? = some (.cells #[.int .i64 h.x, .int .i64 h.y, .int .i64 h.fr, .int .i64 h.to, .int .i64 h.sy] 37 (0, 0))
  rowL : wr.ownsRow w.heap.size 3 1 (.slice ga L.length gc) L.length (inV L)
  rowM : wr.ownsRow w.heap.size 3 1 (.slice ha M.length hc) M.length (inV M)
  sep : ∀ x, Value.ownBlock (.slice ga L.length gc) = some x → Value.ownBlock (.slice ha M.length hc) ≠ some x
section
variable {w : World} {rb r8 a9 : Nat} {ga : Option Addr} {gc : Nat} {L : List Int} {ha : Option Addr} {hc : Nat} {M : List Int} {wt en : Int} {h : RHp} {wr w' : World} {p : Int} {g1 c1 : Nat}
theorem LrI.later (q : LrI w rb r8 a9 ga gc L ha hc M wt en h wr) (hb : Below wr.heap.size wr w') : LrI w rb r8 a9 ga gc L ha hc M wt en h w' :=
  ⟨chain q.low hb, ⟨q.res.1, (hb.block _ (blkLt q.res.2.1)).trans q.res.2.1, q.res.2.2⟩, ⟨q.r.1, (hb.block _ (blkLt q.r.2)).trans q.r.2⟩, ⟨q.a.1, (hb.block _ (blkLt q.a.2)).trans q.a.2⟩, row_of q.rowL (fun x hx => hb.block x (row_lt q.rowL x hx).2), row_of q.rowM (fun x hx => hb.block x (row_lt q.rowM x hx).2), q.sep⟩
/-- A block of the route or of where it is is written: what stays. -/
theorem LrI.rows (q : LrI w rb r8 a9 ga gc L ha hc M wt en h wr) {d : Nat} {V : Array Value} {t : TypeId} (hd : wr.heap[d]? = some (.cells V t (0, 0))) (ht : t ≠ 3) (hk : ∀ x, x ≠ d → w'.heap[x]? = wr.heap[x]?) {v : Value} {n : Nat} {xs : List Value} (hv : wr.ownsRow w.heap.size 3 1 v n xs) : w'.ownsRow w.heap.size 3 1 v n xs := row_of hv (fun x hx => hk x (fun e => by
  obtain ⟨cur, hc⟩ := row_type hv hx
  rw [e] at hc
  exact type_ne hd hc ht rfl))
theorem LrI.pushL (q : LrI w rb r8 a9 ga gc L ha hc M wt en h wr) (hr : w'.ownsRow w.heap.size 3 1 (.slice (some ⟨g1, 0, none⟩) (L.length + 1) c1) (L.length + 1) (inV (L ++ [p]))) (hg : wr.grownBy w' (Value.ownBlock (.slice ga L.length gc))) (hw : (ga = some ⟨g1, 0, none⟩ ∧ c1 = gc) ∨ wr.heap.size ≤ g1) : LrI w rb r8 a9 (some ⟨g1, 0, none⟩) c1 (L ++ [p]) ha hc M wt en h (w'.setCell ⟨r8, 0, none⟩ (.slice (some ⟨g1, 0, none⟩) (L.length + 1) c1)) := by
  have e1 : (L ++ [p]).length = L.length + 1 := by simp
  have hk : ∀ k, k < wr.heap.size → Value.ownBlock (.slice ga L.length gc) ≠ some k → w'.heap[k]? = wr.heap[k]? := fun k h1 h2 => hg.block k h1 (fun e => h2 e.symm)
  have hkt : ∀ {k : Nat} {V : Array Value} {t : TypeId}, wr.heap[k]? = some (.cells V t (0, 0)) → t ≠ 3 → w'.heap[k]? = some (.cells V t (0, 0)) := fun {k V t} h1 h2 => (hk k (blkLt h1) (fun e => by
    obtain ⟨cur, hc⟩ := row_type q.rowL e
    exact type_ne h1 hc h2 rfl)).trans h1
  have k8 := hkt q.r.2 (by decide)
  have ko : ∀ x, x ≠ r8 → (w'.setCell ⟨r8, 0, none⟩ (.slice (some ⟨g1, 0, none⟩) (L.length + 1) c1)).heap[x]? = w'.heap[x]? := fun x hx => heap_setCell_other _ _ _ _ hx
  have hrow : ∀ {v : Value} {n : Nat} {xs : List Value}, w'.ownsRow w.heap.size 3 1 v n xs → (w'.setCell ⟨r8, 0, none⟩ (.slice (some ⟨g1, 0, none⟩) (L.length + 1) c1)).ownsRow w.heap.size 3 1 v n xs := fun {v n xs} hv => row_of hv (fun x hx => ko x (fun e => by
    obtain ⟨cur, hc⟩ := row_type hv hx
    rw [e] at hc
    exact type_ne k8 hc (by decide) rfl))
  have hlow : Below w.heap.size w w' := Fr.below q.low (fr_grown hg) q.low.size (fun k hk => (row_lt q.rowL k hk).1)
  have kM := row_of q.rowM (fun x hx => hk x (row_lt q.rowM x hx).2 (fun e => q.sep x e hx))
  refine ⟨hlow.setCell q.r.1 _, ⟨q.res.1, (ko _ q.res.2.2).trans (hkt q.res.2.1 (by decide)), q.res.2.2⟩, ⟨q.r.1, ?_⟩, ⟨q.a.1, (ko _ (fun e => type_ne q.a.2 q.r.2 (by decide) e)).trans (hkt q.a.2 (by decide))⟩, by rw [e1]; exact hrow hr, hrow kM, fun x hx hy => ?_⟩
  · rw [e1]
    have := heap_setCell_same w' r8 0 _ _ (.slice (some ⟨g1, 0, none⟩) (L.length + 1) c1) k8
    rw [this]
    simp only [List.setIfInBounds_toArray, List.set_cons_zero]
  · simp only [Value.ownBlock, Option.some.injEq] at hx
    subst hx
    rcases hw with ⟨e, _⟩ | e
    · exact q.sep g1 (by rw [e]; rfl) hy
    · have := (row_lt q.rowM g1 hy).2
      omega
theorem LrI.pushM (q : LrI w rb r8 a9 ga gc L ha hc M wt en h wr) (hr : w'.ownsRow w.heap.size 3 1 (.slice (some ⟨g1, 0, none⟩) (M.length + 1) c1) (M.length + 1) (inV (M ++ [p]))) (hg : wr.grownBy w' (Value.ownBlock (.slice ha M.length hc))) (hw : (ha = some ⟨g1, 0, none⟩ ∧ c1 = hc) ∨ wr.heap.size ≤ g1) : LrI w rb r8 a9 ga gc L (some ⟨g1, 0, none⟩) c1 (M ++ [p]) wt en h (w'.setCell ⟨r8, 1, none⟩ (.slice (some ⟨g1, 0, none⟩) (M.length + 1) c1)) := by
  have e1 : (M ++ [p]).length = M.length + 1 := by simp
  have hk : ∀ k, k < wr.heap.size → Value.ownBlock (.slice ha M.length hc) ≠ some k → w'.heap[k]? = wr.heap[k]? := fun k h1 h2 => hg.block k h1 (fun e => h2 e.symm)
  have hkt : ∀ {k : Nat} {V : Array Value} {t : TypeId}, wr.heap[k]? = some (.cells V t (0, 0)) → t ≠ 3 → w'.heap[k]? = some (.cells V t (0, 0)) := fun {k V t} h1 h2 => (hk k (blkLt h1) (fun e => by
    obtain ⟨cur, hc⟩ := row_type q.rowM e
    exact type_ne h1 hc h2 rfl)).trans h1
  have k8 := hkt q.r.2 (by decide)
  have ko : ∀ x, x ≠ r8 → (w'.setCell ⟨r8, 1, none⟩ (.slice (some ⟨g1, 0, none⟩) (M.length + 1) c1)).heap[x]? = w'.heap[x]? := fun x hx => heap_setCell_other _ _ _ _ hx
  have hrow : ∀ {v : Value} {n : Nat} {xs : List Value}, w'.ownsRow w.heap.size 3 1 v n xs → (w'.setCell ⟨r8, 1, none⟩ (.slice (some ⟨g1, 0, none⟩) (M.length + 1) c1)).ownsRow w.heap.size 3 1 v n xs := fun {v n xs} hv => row_of hv (fun x hx => ko x (fun e => by
    obtain ⟨cur, hc⟩ := row_type hv hx
    rw [e] at hc
    exact type_ne k8 hc (by decide) rfl))
  have hlow : Below w.heap.size w w' := Fr.below q.low (fr_grown hg) q.low.size (fun k hk => (row_lt q.rowM k hk).1)
  have kL := row_of q.rowL (fun x hx => hk x (row_lt q.rowL x hx).2 (fun e => q.sep x hx e))
  refine ⟨hlow.setCell q.r.1 _, ⟨q.res.1, (ko _ q.res.2.2).trans (hkt q.res.2.1 (by decide)), q.res.2.2⟩, ⟨q.r.1, ?_⟩, ⟨q.a.1, (ko _ (fun e => type_ne q.a.2 q.r.2 (by decide) e)).trans (hkt q.a.2 (by decide))⟩, hrow kL, by rw [e1]; exact hrow hr, fun x hx hy => ?_⟩
  · rw [e1]
    have := heap_setCell_same w' r8 1 _ _ (.slice (some ⟨g1, 0, none⟩) (M.length + 1) c1) k8
    rw [this]
    simp only [List.setIfInBounds_toArray, List.set_cons_zero, List.set_cons_succ]
  · simp only [Value.ownBlock, Option.some.injEq] at hy
    subst hy
    rcases hw with ⟨e, _⟩ | e
    · exact q.sep g1 hx (by rw [e]; rfl)
    · have := (row_lt q.rowL g1 hx).2
      omega
/-- Behind a push every block of a stop is as it was. -/
theorem LrI.stopL (q : LrI w rb r8 a9 ga gc L ha hc M wt en h wr) (hg : wr.grownBy w' (Value.ownBlock (.slice ga L.length gc))) {d : Nat} {V : Array Value} (hd : wr.heap[d]? = some (.cells V 37 (0, 0))) (v : Value) : (w'.setCell ⟨r8, 0, none⟩ v).heap[d]? = some (.cells V 37 (0, 0)) := by
  rw [heap_setCell_other _ _ _ _ (show d ≠ r8 from fun e => type_ne hd q.r.2 (by decide) e)]
  refine (hg.block d (blkLt hd) (fun e => ?_)).trans hd
  obtain ⟨cur, hc⟩ := row_type q.rowL e.symm
  exact type_ne hd hc (by decide) rfl
theorem LrI.stopM (q : LrI w rb r8 a9 ga gc L ha hc M wt en h wr) (hg : wr.grownBy w' (Value.ownBlock (.slice ha M.length hc))) {d : Nat} {V : Array Value} (hd : wr.heap[d]? = some (.cells V 37 (0, 0))) (v : Value) : (w'.setCell ⟨r8, 1, none⟩ v).heap[d]? = some (.cells V 37 (0, 0)) := by
  rw [heap_setCell_other _ _ _ _ (show d ≠ r8 from fun e => type_ne hd q.r.2 (by decide) e)]
  refine (hg.block d (blkLt hd) (fun e => ?_)).trans hd
  obtain ⟨cur, hc⟩ := row_type q.rowM e.symm
  exact type_ne hd hc (by decide) rfl
theorem LrI.appM {pb : Nat} {V : Array Value} {ar : Int} (q : LrI w rb r8 a9 ga gc L ha hc M wt en h wr) (hp : wr.heap[pb]? = some (.cells V 37 (0, 0))) (hr : w'.ownsRow w.heap.size 3 1 (.slice (some ⟨g1, 0, none⟩) (M.length + 1) c1) (M.length + 1) (inV (M ++ [ar]))) (hg : (wr.alloc (Obj.cells #[.int .i64 ar] 3)).grownBy w' (Value.ownBlock (.slice ha M.length hc))) (hw : (ha = some ⟨g1, 0, none⟩ ∧ c1 = hc) ∨ (wr.alloc (Obj.cells #[.int .i64 ar] 3)).heap.size ≤ g1) :
    (LrI w rb r8 a9 ga gc L (some ⟨g1, 0, none⟩) c1 (M ++ [ar]) wt en h (w'.setCell ⟨r8, 1, none⟩ (.slice (some ⟨g1, 0, none⟩) (M.length + 1) c1)) ∧ (w'.setCell ⟨r8, 1, none⟩ (.slice (some ⟨g1, 0, none⟩) (M.length + 1) c1)).heap[pb]? = some (.cells V 37 (0, 0))) ∧ (∃ z, w'.cell? ⟨r8, 1, none⟩ = some z) ∧ w'.frozen? ⟨r8, 1, none⟩ = false := by
  have hb := below_alloc wr (Obj.cells #[.int .i64 ar] 3)
  have q2 := q.later hb
  have hp2 := (hb.block pb (blkLt hp)).trans hp
  have h8 : w'.heap[r8]? = some (.cells #[.slice ga L.length gc, .slice ha M.length hc, .int .i64 wt, .int .i64 en] 28 (0, 0)) := (hg.block r8 (blkLt q2.r.2) (fun e => by
    obtain ⟨cur, hc⟩ := row_type q2.rowM e.symm
    exact type_ne q2.r.2 hc (by decide) rfl)).trans q2.r.2
  exact ⟨⟨q2.pushM hr hg hw, q2.stopM hg hp2 _⟩, ⟨_, blkCell h8 1 _ rfl⟩, blkFree h8 1⟩
theorem LrI.setW (q : LrI w rb r8 a9 ga gc L ha hc M wt en h wr) (x : Int) : LrI w rb r8 a9 ga gc L ha hc M x en h (wr.setCell ⟨r8, 2, none⟩ (.int .i64 x)) := by
  have ko : ∀ d, d ≠ r8 → (wr.setCell ⟨r8, 2, none⟩ (.int .i64 x)).heap[d]? = wr.heap[d]? := fun d hd => heap_setCell_other _ _ _ _ hd
  refine ⟨q.low.setCell q.r.1 _, ⟨q.res.1, (ko _ q.res.2.2).trans q.res.2.1, q.res.2.2⟩, ⟨q.r.1, ?_⟩, ⟨q.a.1, (ko _ (fun e => type_ne q.a.2 q.r.2 (by decide) e)).trans q.a.2⟩, q.rows q.r.2 (by decide) ko q.rowL, q.rows q.r.2 (by decide) ko q.rowM, q.sep⟩
  rw [heap_setCell_same wr r8 2 _ _ (.int .i64 x) q.r.2]
  simp only [List.setIfInBounds_toArray, List.set_cons_zero, List.set_cons_succ]
theorem LrI.setE (q : LrI w rb r8 a9 ga gc L ha hc M wt en h wr) (x : Int) : LrI w rb r8 a9 ga gc L ha hc M wt x h (wr.setCell ⟨r8, 3, none⟩ (.int .i64 x)) := by
  have ko : ∀ d, d ≠ r8 → (wr.setCell ⟨r8, 3, none⟩ (.int .i64 x)).heap[d]? = wr.heap[d]? := fun d hd => heap_setCell_other _ _ _ _ hd
  refine ⟨q.low.setCell q.r.1 _, ⟨q.res.1, (ko _ q.res.2.2).trans q.res.2.1, q.res.2.2⟩, ⟨q.r.1, ?_⟩, ⟨q.a.1, (ko _ (fun e => type_ne q.a.2 q.r.2 (by decide) e)).trans q.a.2⟩, q.rows q.r.2 (by decide) ko q.rowL, q.rows q.r.2 (by decide) ko q.rowM, q.sep⟩
  rw [heap_setCell_same wr r8 3 _ _ (.int .i64 x) q.r.2]
  simp only [List.setIfInBounds_toArray, List.set_cons_zero, List.set_cons_succ]
theorem LrI.setA (q : LrI w rb r8 a9 ga gc L ha hc M wt en h wr) (s : RHp) : LrI w rb r8 a9 ga gc L ha hc M wt en s (((((wr.setCell ⟨a9, 0, none⟩ (.int .i64 s.x)).setCell ⟨a9, 1, none⟩ (.int .i64 s.y)).setCell ⟨a9, 2, none⟩ (.int .i64 s.fr)).setCell ⟨a9, 3, none⟩ (.int .i64 s.to)).setCell ⟨a9, 4, none⟩ (.int .i64 s.sy)) := by
  have ko : ∀ d, d ≠ a9 → (((((wr.setCell ⟨a9, 0, none⟩ (.int .i64 s.x)).setCell ⟨a9, 1, none⟩ (.int .i64 s.y)).setCell ⟨a9, 2, none⟩ (.int .i64 s.fr)).setCell ⟨a9, 3, none⟩ (.int .i64 s.to)).setCell ⟨a9, 4, none⟩ (.int .i64 s.sy)).heap[d]? = wr.heap[d]? := fun d hd => by
    rw [heap_setCell_other _ _ _ _ hd, heap_setCell_other _ _ _ _ hd, heap_setCell_other _ _ _ _ hd, heap_setCell_other _ _ _ _ hd, heap_setCell_other _ _ _ _ hd]
  have h4 := heap_setCell_same _ _ 4 _ _ (.int .i64 s.sy) (heap_setCell_same _ _ 3 _ _ (.int .i64 s.to) (heap_setCell_same _ _ 2 _ _ (.int .i64 s.fr) (heap_setCell_same _ _ 1 _ _ (.int .i64 s.y) (heap_setCell_same _ _ 0 _ _ (.int .i64 s.x) q.a.2))))
  simp only [List.setIfInBounds_toArray, List.set_cons_zero, List.set_cons_succ] at h4
  exact ⟨((((q.low.setCell q.a.1 _).setCell q.a.1 _).setCell q.a.1 _).setCell q.a.1 _).setCell q.a.1 _, ⟨q.res.1, (ko _ (fun e => type_ne q.res.2.1 q.a.2 (by decide) e)).trans q.res.2.1, q.res.2.2⟩, ⟨q.r.1, (ko _ (fun e => type_ne q.r.2 q.a.2 (by decide) e)).trans q.r.2⟩, ⟨q.a.1, h4⟩, q.rows q.a.2 (by decide) ko q.rowL, q.rows q.a.2 (by decide) ko q.rowM, q.sep⟩
theorem LrI.rc (q : LrI w rb r8 a9 ga gc L ha hc M wt en h wr) : (wr.cell? ⟨r8, 0, none⟩ = some (.slice ga L.length gc) ∧ wr.cell? ⟨r8, 1, none⟩ = some (.slice ha M.length hc) ∧ wr.cell? ⟨r8, 2, none⟩ = some (.int .i64 wt) ∧ wr.cell? ⟨r8, 3, none⟩ = some (.int .i64 en)) ∧ wr.frozen? ⟨r8, 0, none⟩ = false ∧ wr.frozen? ⟨r8, 1, none⟩ = false ∧ wr.frozen? ⟨r8, 2, none⟩ = false ∧ wr.frozen? ⟨r8, 3, none⟩ = false :=
  ⟨⟨blkCell q.r.2 0 _ rfl, blkCell q.r.2 1 _ rfl, blkCell q.r.2 2 _ rfl, blkCell q.r.2 3 _ rfl⟩, blkFree q.r.2 0, blkFree q.r.2 1, blkFree q.r.2 2, blkFree q.r.2 3⟩
theorem LrI.ac (q : LrI w rb r8 a9 ga gc L ha hc M wt en h wr) : (wr.cell? ⟨a9, 0, none⟩ = some (.int .i64 h.x) ∧ wr.cell? ⟨a9, 1, none⟩ = some (.int .i64 h.y) ∧ wr.cell? ⟨a9, 2, none⟩ = some (.int .i64 h.fr) ∧ wr.cell? ⟨a9, 3, none⟩ = some (.int .i64 h.to) ∧ wr.cell? ⟨a9, 4, none⟩ = some (.int .i64 h.sy)) ∧ wr.frozen? ⟨a9, 0, none⟩ = false ∧ wr.frozen? ⟨a9, 1, none⟩ = false ∧ wr.frozen? ⟨a9, 2, none⟩ = false ∧ wr.frozen? ⟨a9, 3, none⟩ = false ∧ wr.frozen? ⟨a9, 4, none⟩ = false :=
  ⟨⟨blkCell q.a.2 0 _ rfl, blkCell q.a.2 1 _ rfl, blkCell q.a.2 2 _ rfl, blkCell q.a.2 3 _ rfl, blkCell q.a.2 4 _ rfl⟩, blkFree q.a.2 0, blkFree q.a.2 1, blkFree q.a.2 2, blkFree q.a.2 3, blkFree q.a.2 4⟩
end
/-- What l20Route answers. -/
def LrQ (rs : List RHp) (b : Int) (os : List Int) (w : World) (e : Ending) (w' : World) : Prop := Below w.heap.size w w' ∧ (((trp rs b os).ok = true ∧ ∃ q cq s cs, e = .returned (.tuple #[.agg #[.slice q os.length cq, .slice s (trp rs b os).A.length cs, .int .i64 (trp rs b os).wt, .int .i64 (endT (trp rs b os))], .bool true]) ∧ RowI w.heap.size w'.heap.size w' q os ∧ RowI w.heap.size w'.heap.size w' s (trp rs b os).A) ∨ ((trp rs b os).ok = false ∧ e = .returned (.tuple #[.agg #[.slice none 0 0, .slice none 0 0, .int .i64 0, .int .i64 0], .bool false])))
set_option maxHeartbeats 16000000 in
set_option maxRecDepth 8000 in
theorem specLr_any (ad : Option Addr) (cap : Nat) (rs : List RHp) (b : Int) (ao : Option Addr) (co : Nat) (os : List Int) (h7 : rs.length ≤ 7) (hs : hpsB rs = true) (hb : 0 ≤ b ∧ b ≤ 100000) (ho7 : os.length ≤ 7) (hin : ∀ k, k < os.length → ∃ m : Nat, m < rs.length ∧ os.getD k 0 = (m : Int)) (w : World) (hr : ReadsHp w.heap.size w ad rs) (hro : Reads w.heap.size w ao os) :
    Calls Try.prog 57 #[.slice ad rs.length cap, .int .i64 b, .slice ao os.length co] w (LrQ rs b os w) := by
  have HIn : Hid (∀ k, k < os.length → ∃ m : Nat, m < rs.length ∧ os.getD k 0 = (m : Int)) := hin
  have HLate : Hid (∀ k, (trp rs b (os.take k)).ok = false → ∀ w', Below w.heap.size w w' → LrQ rs b os w (.returned (.tuple #[.agg #[.slice none 0 0, .slice none 0 0, .int .i64 0, .int .i64 0], .bool false])) w') := fun k h w' hb => ⟨hb, .inr ⟨trp_late_take rs b os k h, rfl⟩⟩
  have HYes : Hid ((trp rs b os).ok = true → ∀ (q s : Option Addr) (cq cs : Nat) w', Below w.heap.size w w' → RowI w.heap.size w'.heap.size w' q os → RowI w.heap.size w'.heap.size w' s (trp rs b os).A → LrQ rs b os w (.returned (.tuple #[.agg #[.slice q os.length cq, .slice s (trp rs b os).A.length cs, .int .i64 (trp rs b os).wt, .int .i64 (endT (trp rs b os))], .bool true])) w') := fun h q s cq cs w' hb h1 h2 => ⟨hb, .inl ⟨h, q, cq, s, cs, rfl, h1, h2⟩⟩
  have HBd : Hid (∀ k, k ≤ os.length → TrpB (k : Int) (trp rs b (os.take k))) := fun k hk => trp_bd hs hb k _ (by simp; omega)
  have HSt : Hid (∀ k, k < os.length → trp rs b (os.take (k + 1)) = stepT rs (trp rs b (os.take k)) (os.getD k 0)) := fun k hk => trp_take rs b hk
  have HAl : Hid (∀ k, k ≤ os.length → (trp rs b (os.take k)).A.length = k) := fun k hk => by rw [trp_len]; simp; omega
  have HOk : Hid (∀ m, m < rs.length → hpB (rs.getD m zHp) = true) := fun m hm => hps_getD hs hm
  have HTk : Hid (∀ k, k < os.length → os.take (k + 1) = os.take k ++ [os.getD k 0]) := fun k hk => by
    have e : os.getD k 0 = os[k] := by simp [List.getD_eq_getElem?_getD, hk]
    rw [List.take_succ_eq_append_getElem hk, e]
  have HAll : Hid (trp rs b os = trp rs b (os.take os.length)) := by show _ = _; rw [List.take_length]
  have HT0 : Hid (trp rs b (os.take 0) = ⟨b, 0, zHp, [], true⟩) := rfl
  have HR : Hid (ReadsHp w.heap.size w ad rs) := hr
  have HRo : Hid (Reads w.heap.size w ao os) := hro
  have HFar : Hid (∀ (h s : RHp), hpIn h → hpIn s → ∀ W, Calls Try.prog 65 #[.agg #[.int .i64 h.x, .int .i64 h.y, .int .i64 h.fr, .int .i64 h.to, .int .i64 h.sy], .agg #[.int .i64 s.x, .int .i64 s.y, .int .i64 s.fr, .int .i64 s.to, .int .i64 s.sy]] W fun e w' => e = .returned (.int .i64 (farH h s)) ∧ Below W.heap.size W w') := fun h s hh hs W => specFarH_any h s hh hs W
  obtain ⟨W3, hW3⟩ : ∃ W3, W3 = ((w.alloc (Obj.cells #[.slice none 0 0, .slice none 0 0, .int .i64 0, .int .i64 0] 28)).alloc (Obj.cells #[.slice none 0 0, .slice none 0 0, .int .i64 0, .int .i64 0] 28)).alloc (Obj.cells #[.int .i64 0, .int .i64 0, .int .i64 0, .int .i64 0, .int .i64 0] 37) := ⟨_, rfl⟩
  obtain ⟨rb, hrb⟩ : ∃ rb, rb = w.heap.size := ⟨_, rfl⟩
  obtain ⟨r8, hr8⟩ : ∃ r8, r8 = w.heap.size + 1 := ⟨_, rfl⟩
  obtain ⟨a9, ha9⟩ : ∃ a9, a9 = w.heap.size + 1 + 1 := ⟨_, rfl⟩
  have HW3 : Hid (W3 = ((w.alloc (Obj.cells #[.slice none 0 0, .slice none 0 0, .int .i64 0, .int .i64 0] 28)).alloc (Obj.cells #[.slice none 0 0, .slice none 0 0, .int .i64 0, .int .i64 0] 28)).alloc (Obj.cells #[.int .i64 0, .int .i64 0, .int .i64 0, .int .i64 0, .int .i64 0] 37) ∧ rb = w.heap.size ∧ r8 = w.heap.size + 1 ∧ a9 = w.heap.size + 1 + 1) := ⟨hW3, hrb, hr8, ha9⟩
  have HI0 : Hid (LrI w rb r8 a9 none 0 [] none 0 [] 0 0 zHp W3) := by
    refine (show LrI w rb r8 a9 none 0 [] none 0 [] 0 0 zHp W3 from ⟨?_, ⟨?_, ?_, ?_⟩, ⟨?_, ?_⟩, ⟨?_, ?_⟩, World.ownsRow_nil _ _ _ _, World.ownsRow_nil _ _ _ _, fun x hx => by simp [Value.ownBlock] at hx⟩)
    · rw [hW3]; exact chain (chain (below_alloc _ _) (below_alloc _ _)) (below_alloc _ _)
    · omega
    · rw [hW3, hrb]; exact (Below.heap_alloc _ _ _ (by simp only [World.size_alloc]; omega)).trans ((Below.heap_alloc _ _ _ (by simp only [World.size_alloc]; omega)).trans (heapNew _ _))
    · omega
    · omega
    · rw [hW3, hr8]; exact (Below.heap_alloc _ _ _ (by simp only [World.size_alloc]; omega)).trans (by have := heapNew (w.alloc (Obj.cells #[.slice none 0 0, .slice none 0 0, .int .i64 0, .int .i64 0] 28)) (Obj.cells #[.slice none 0 0, .slice none 0 0, .int .i64 0, .int .i64 0] 28); simpa using this)
    · omega
    · rw [hW3, ha9]; have := heapNew ((w.alloc (Obj.cells #[.slice none 0 0, .slice none 0 0, .int .i64 0, .int .i64 0] 28)).alloc (Obj.cells #[.slice none 0 0, .slice none 0 0, .int .i64 0, .int .i64 0] 28)) (Obj.cells #[.int .i64 0, .int .i64 0, .int .i64 0, .int .i64 0, .int .i64 0] 37); simp only [World.size_alloc] at this; exact this
  clear hr hro hin hW3 hrb hr8 ha9 hs
  go_enter Try.func57, Try.ntmps57
  go_upto_region 3 with fail
  rw [← HW3.out.2.2.2, ← HW3.out.2.2.1, ← HW3.out.2.1, ← HW3.out.1]
  clear HW3
  go_wp2
  go_loopw [10, 11, 12] (fun n c _ wr => ∃ (k : Nat) (ga ha : Option Addr) (gc hc : Nat), k ≤ os.length ∧ c = .int .i64 (k : Int) ∧ n = .int .i64 (trp rs b (os.take k)).lv ∧ (trp rs b (os.take k)).ok = true ∧ LrI w rb r8 a9 ga gc (os.take k) ha hc (trp rs b (os.take k)).A (trp rs b (os.take k)).wt 0 (trp rs b (os.take k)).h wr) (fun _ c _ _ => os.length - (intOf c).toNat)
  case atStart => exact ⟨0, none, none, 0, 0, Nat.zero_le _, rfl, by rw [HT0.out], by rw [HT0.out], by rw [HT0.out]; exact HI0.out⟩
  case round =>
    clear HI0 HT0
    obtain ⟨k, ga, ha, gc, hc, hk, rfl, rfl, hok, hI⟩ := hrel
    have HI : Hid (LrI w rb r8 a9 ga gc (os.take k) ha hc (trp rs b (os.take k)).A (trp rs b (os.take k)).wt 0 (trp rs b (os.take k)).h wr) := hI
    have HOkk : Hid ((trp rs b (os.take k)).ok = true) := hok
    have hbd := HBd.out k hk
    have hAl := HAl.out k hk
    clear hI hok
    by_cases hlt : k < os.length
    · have hlt' : (k : Int) < (os.length : Int) := by omega
      obtain ⟨m, hm, hmk⟩ := HIn.out k hlt
      have hm' : (m : Int) < (rs.length : Int) := by omega
      rcases HRo.out with h | ⟨b1, o1, hb, hB1, ib⟩
      · rw [h] at hlt; simp at hlt
      rcases HR.out with h | ⟨b0, o0, ha2, hB0, ia⟩
      · rw [h] at hm; simp at hm
      subst ha2 hb
      have HD : Hid (∀ W, Below w.heap.size w W → W.cell? ⟨b1, o1 + k, none⟩ = some (.int .i64 (m : Int))) := fun W hW => by rw [(ib.below hW hB1) k hlt, hmk]
      have d1 := HD.out wr HI.out.low
      have hstep := HSt.out k hlt
      have htk := HTk.out k hlt
      rw [hmk] at hstep htk
      have hst : stepT rs (trp rs b (os.take k)) (m : Int) = ⟨lvN (trp rs b (os.take k)).lv (trp rs b (os.take k)).h (rs.getD m zHp), wtN (trp rs b (os.take k)).wt (trp rs b (os.take k)).lv (trp rs b (os.take k)).h (rs.getD m zHp), rs.getD m zHp, (trp rs b (os.take k)).A ++ [arN (trp rs b (os.take k)).lv (trp rs b (os.take k)).h (rs.getD m zHp)], (trp rs b (os.take k)).ok && decide (arN (trp rs b (os.take k)).lv (trp rs b (os.take k)).h (rs.getD m zHp) ≤ (rs.getD m zHp).to)⟩ := by unfold stepT; rw [Int.toNat_natCast]
      rw [hst, HOkk.out, Bool.true_and] at hstep
      have HStep : Hid (trp rs b (os.take (k + 1)) = ⟨lvN (trp rs b (os.take k)).lv (trp rs b (os.take k)).h (rs.getD m zHp), wtN (trp rs b (os.take k)).wt (trp rs b (os.take k)).lv (trp rs b (os.take k)).h (rs.getD m zHp), rs.getD m zHp, (trp rs b (os.take k)).A ++ [arN (trp rs b (os.take k)).lv (trp rs b (os.take k)).h (rs.getD m zHp)], decide (arN (trp rs b (os.take k)).lv (trp rs b (os.take k)).h (rs.getD m zHp) ≤ (rs.getD m zHp).to)⟩) := hstep
      have HTk2 : Hid (os.take (k + 1) = os.take k ++ [(m : Int)]) := htk
      have hLl : (os.take k).length = k := by simp; omega
      have HCs := (ia m hm).below HI.out.low hB0
      have hq := HOk.out m hm
      have hFar := fun W => HFar.out (trp rs b (os.take k)).h (rs.getD m zHp) hbd.h (hp_in hq) W
      have hfb := farH_bd hbd.h (hp_in hq)
      have hqf := hp_facts hq
      obtain ⟨c0, c1, c2, c3, c4⟩ := HCs
      clear ib ia hstep htk hst hmk HSt HTk HIn HFar hq
      have hlv := hbd.lv
      have hwt := hbd.wt
      have hLM : (trp rs b (os.take k)).A.length ≤ 1000 ∧ (os.take k).length ≤ 1000 := ⟨by omega, by omega⟩
      have HLM : Hid ((trp rs b (os.take k)).A.length ≤ 1000 ∧ (os.take k).length ≤ 1000) := hLM
      have HLt : Hid (∀ w', (trp rs b (os.take (k + 1))).ok = false → Below w.heap.size w w' → LrQ rs b os w (.returned (.tuple #[.agg #[.slice none 0 0, .slice none 0 0, .int .i64 0, .int .i64 0], .bool false])) w') := fun w' h hb => HLate.out (k + 1) h w' hb
      clear HLate HYes HBd HAl HAll hbd hAl hLl hLM
      generalize trp rs b (os.take k) = t at *
      obtain ⟨lv, wt, h, M, tok⟩ := t
      dsimp only at *
      generalize rs.getD m zHp = s at *
      unfold lvN wtN stN arN at HStep
      generalize farH h s = far at *
      generalize os.take k = L at *
      generalize LrQ rs b os w = Post at *
      obtain ⟨ar, har⟩ : ∃ ar, lv + far = ar := ⟨_, rfl⟩
      obtain ⟨sn, hsn⟩ : ∃ sn, max ar s.fr = sn := ⟨_, rfl⟩
      rw [har, hsn] at HStep
      have hwr1 : IntKind.i64.wrap (lv + far) = ar := by rw [wrap_id _ (by omega) (by omega)]; exact har
      have hwr2 : IntKind.i64.wrap (s.fr - ar) = s.fr - ar := wrap_id _ (by omega) (by omega)
      obtain ⟨wn, hwn⟩ : ∃ wn, wt + sn - ar = wn := ⟨_, rfl⟩
      obtain ⟨ln, hln⟩ : ∃ ln, sn + s.sy = ln := ⟨_, rfl⟩
      rw [hwn, hln] at HStep
      have hwr3 : IntKind.i64.wrap (wt + max 0 (s.fr - ar)) = wn := by rw [wrap_id _ (by omega) (by omega)]; omega
      have hwr4 : IntKind.i64.wrap (sn + s.sy) = ln := by rw [wrap_id _ (by omega) (by omega)]; exact hln
      have HWr : Hid ((IntKind.i64.wrap (s.fr - ar) = s.fr - ar ∧ IntKind.i64.wrap (wt + max 0 (s.fr - ar)) = wn) ∧ max ar s.fr = sn ∧ IntKind.i64.wrap (sn + s.sy) = ln) := ⟨⟨hwr2, hwr3⟩, hsn, hwr4⟩
      have HF : Hid (∀ W, Calls Try.prog 65 #[.agg #[.int .i64 h.x, .int .i64 h.y, .int .i64 h.fr, .int .i64 h.to, .int .i64 h.sy], .agg #[.int .i64 s.x, .int .i64 s.y, .int .i64 s.fr, .int .i64 s.to, .int .i64 s.sy]] W fun e w' => e = .returned (.int .i64 far) ∧ Below W.heap.size W w') := hFar
      clear hFar har hsn hwn hln hwr2 hwr3 hwr4 hlv hwt hfb hqf
      go_upto_region 8 with fail
      obtain ⟨⟨x0, x1, x2, x3, x4⟩, _⟩ := (HI.out.later (below_alloc wr (Obj.cells #[.int .i64 s.x, .int .i64 s.y, .int .i64 s.fr, .int .i64 s.to, .int .i64 s.sy] 37))).ac
      go_wp2_with fail
      (first | go_at_call 65 | skip)
      refine (HF.out _).mono ?_
      rintro e w4 ⟨rfl, hb4⟩
      have hp4 := (hb4.block wr.heap.size (by simp)).trans (heapNew wr _)
      have H4 : Hid (LrI w rb r8 a9 ga gc L ha hc M wt 0 h w4) := (HI.out.later (below_alloc _ _)).later hb4
      obtain ⟨pb, hpb⟩ : ∃ pb, pb = wr.heap.size := ⟨_, rfl⟩
      have HP4 : Hid (w4.heap[pb]? = some (.cells #[.int .i64 s.x, .int .i64 s.y, .int .i64 s.fr, .int .i64 s.to, .int .i64 s.sy] 37 (0, 0)) ∧ pb ≠ a9) := by
        rw [hpb]
        exact ⟨hp4, fun e => by have := blkLt HI.out.a.2; omega⟩
      rw [← hpb]
      clear hp4 hb4 hpb HI HF c0 c1 c2 c3 c4 x0 x1 x2 x3 x4 d1
      have p3 := blkCell HP4.out.1 3 _ rfl
      simp only [List.getElem_toArray, List.getElem_cons_zero, List.getElem_cons_succ] at p3
      by_cases hok : ar ≤ s.to
      case neg =>
        have hbad : s.to < ar := by omega
        have HBad : Hid (∀ w', Below w.heap.size w w' → Post (.returned (.tuple #[.agg #[.slice none 0 0, .slice none 0 0, .int .i64 0, .int .i64 0], .bool false])) w') := fun w' hb => HLt.out w' (by rw [HStep.out]; exact decide_eq_false hok) hb
        have hrx := H4.out.res.2.1
        have z0 := blkCell hrx 0 _ rfl
        have z1 := blkCell hrx 1 _ rfl
        have z2 := blkCell hrx 2 _ rfl
        have z3 := blkCell hrx 3 _ rfl
        have y0 := blkFree hrx 0
        have y1 := blkFree hrx 1
        have y2 := blkFree hrx 2
        have y3 := blkFree hrx 3
        simp only [List.getElem_toArray, List.getElem_cons_zero, List.getElem_cons_succ] at z0 z1 z2 z3
        clear hrx hok
        go_wp2_with fail
        refine bodyPost_ret (v := .tuple #[.agg #[.slice none 0 0, .slice none 0 0, .int .i64 0, .int .i64 0], .bool false]) (by simp [results, Try.results57, go_sem, z0, z1, z2, z3]) rfl ?_
        refine HBad.out _ ?_
        have hrb := H4.out.res.1
        repeat refine Below.setCell ?_ (by dsimp only; omega) _
        exact H4.out.low
      have HStep2 : Hid (trp rs b (os.take (k + 1)) = ⟨ln, wn, s, M ++ [ar], true⟩) := by show _ = _; rw [HStep.out, decide_eq_true hok]
      clear HLt HStep
      go_upto_region 11 with fail
      clear p3 hwr1
      -- the order grows
      have HS : Hid (∀ W : World, LrI w rb r8 a9 ga gc L ha hc M wt 0 h W → W.cell? ⟨r8, 0, none⟩ = some (.slice ga L.length gc) ∧ W.cell? ⟨b1, o1 + k, none⟩ = some (.int .i64 (m : Int))) := fun W hW => ⟨hW.rc.1.1, HD.out W hW.low⟩
      refine wp_region_z (S := fun W => LrI w rb r8 a9 ga gc L ha hc M wt 0 h W) 9 (by kernel_rfl) (H4.out.later (below_drew _)) (fun hH => ?_)
      have H5 : Hid (LrI w rb r8 a9 ga gc L ha hc M wt 0 h w4.drew ∧ w4.drew.heap[pb]? = some (.cells #[.int .i64 s.x, .int .i64 s.y, .int .i64 s.fr, .int .i64 s.to, .int .i64 s.sy] 37 (0, 0))) := ⟨H4.out.later (below_drew _), HP4.out.1⟩
      clear H4
      generalize w4.drew = V0 at *
      refine wpAnyZ_take (i := 0) (v := .pointer (some ⟨r8, 0, none⟩)) rfl (by kernel_rfl) (by kernel_rfl) (by kernel_rfl) (by kernel_rfl) (fun _ _ _ h => h) (Or.inl ⟨by rfl, fun w hSw => by clear hSw; go_simp⟩) hH ?_
      refine wpAnyZ_take (i := 1) (v := .slice ga L.length gc) rfl (by kernel_rfl) (by kernel_rfl) (by kernel_rfl) (by kernel_rfl) (fun _ _ _ h => h) (Or.inl ⟨by rfl, fun w hSw => by obtain ⟨f0, f1⟩ := HS.out w hSw; clear hSw; go_simp⟩) hH ?_
      try simp only [Act.put, List.setIfInBounds_toArray, List.set_cons_zero, List.set_cons_succ, List.getElem_toArray, List.getElem_cons_succ, List.getElem_cons_zero]
      refine wpAnyZ_take (i := 2) (v := .slice (some ⟨b1, o1, none⟩) os.length co) rfl (by kernel_rfl) (by kernel_rfl) (by kernel_rfl) (by kernel_rfl) (fun _ _ _ h => h) (Or.inl ⟨by rfl, fun w hSw => by clear hSw; go_simp⟩) hH ?_
      try simp only [Act.put, List.setIfInBounds_toArray, List.set_cons_zero, List.set_cons_succ, List.getElem_toArray, List.getElem_cons_succ, List.getElem_cons_zero]
      refine wpAnyZ_take (i := 3) (v := .int .i64 (k : Int)) rfl (by kernel_rfl) (by kernel_rfl) (by kernel_rfl) (by kernel_rfl) (fun _ _ _ h => h) (Or.inl ⟨by rfl, fun w hSw => by clear hSw; go_simp⟩) hH ?_
      try simp only [Act.put, List.setIfInBounds_toArray, List.set_cons_zero, List.set_cons_succ, List.getElem_toArray, List.getElem_cons_succ, List.getElem_cons_zero]
      refine wpAnyZ_take (i := 4) (v := .pointer (some ⟨b1, o1 + k, none⟩)) rfl (by kernel_rfl) (by kernel_rfl) (by kernel_rfl) (by kernel_rfl) (fun _ _ _ h => h) (Or.inl ⟨by rfl, fun w hSw => by clear hSw; go_simp⟩) hH ?_
      try simp only [Act.put, List.setIfInBounds_toArray, List.set_cons_zero, List.set_cons_succ, List.getElem_toArray, List.getElem_cons_succ, List.getElem_cons_zero]
      refine wpAnyZ_take (i := 5) (v := .int .i64 (m : Int)) rfl (by kernel_rfl) (by kernel_rfl) (by kernel_rfl) (by kernel_rfl) (fun _ _ _ h => h) (Or.inl ⟨by rfl, fun w hSw => by obtain ⟨f0, f1⟩ := HS.out w hSw; clear hSw; go_simp⟩) hH ?_
      try simp only [Act.put, List.setIfInBounds_toArray, List.set_cons_zero, List.set_cons_succ, List.getElem_toArray, List.getElem_cons_succ, List.getElem_cons_zero]
      refine wpAnyZ_ready (rs := [6]) (by kernel_rfl) (by simp) ?_
      refine AllReadyZ.cons rfl (fun K hK => ?_) AllReadyZ.nil
      go_simp
      obtain ⟨V1, hV⟩ : ∃ V, V = V0.alloc (Obj.cells #[.int .i64 (m : Int)] 3) := ⟨_, rfl⟩
      obtain ⟨nb, hn⟩ : ∃ n, n = V0.heap.size := ⟨_, rfl⟩
      rw [← hV, ← hn]
      have H6 : Hid ((LrI w rb r8 a9 ga gc L ha hc M wt 0 h V1 ∧ V1.heap[pb]? = some (.cells #[.int .i64 s.x, .int .i64 s.y, .int .i64 s.fr, .int .i64 s.to, .int .i64 s.sy] 37 (0, 0))) ∧ V1.cell? ⟨nb, 0, none⟩ = some (.int .i64 (m : Int))) := by
        rw [hV, hn]
        exact ⟨⟨H5.out.1.later (below_alloc _ _), ((below_alloc V0 _).block pb (blkLt H5.out.2)).trans H5.out.2⟩, blkCell (heapNew _ _) 0 _ rfl⟩
      clear hV hn H5
      refine hK.out _ _ (Or.inr H6.out.1.1) (fun _ => ?_)
      clear hK K
      try simp only [Act.put, List.setIfInBounds_toArray, List.set_cons_zero, List.set_cons_succ, List.getElem_toArray, List.getElem_cons_succ, List.getElem_cons_zero]
      refine wpAnyZ_ready (rs := [7]) (by kernel_rfl) (by simp) ?_
      refine AllReadyZ.cons rfl (fun K hK => ?_) AllReadyZ.nil
      refine step_int1 rfl _ _ rfl w.heap.size ga gc L (m : Int) V1 rfl H6.out.1.1.rowL nb rfl H6.out.2 HLM.out.2 H6.out.1.1.low.size ?_
      intro g1 v1 V2 hr1 hr2 hg hg1
      have H7 : Hid (LrI w rb r8 a9 (some ⟨g1, 0, none⟩) v1 (L ++ [(m : Int)]) ha hc M wt 0 h (V2.setCell ⟨r8, 0, none⟩ (.slice (some ⟨g1, 0, none⟩) (L.length + 1) v1)) ∧ (V2.setCell ⟨r8, 0, none⟩ (.slice (some ⟨g1, 0, none⟩) (L.length + 1) v1)).heap[pb]? = some (.cells #[.int .i64 s.x, .int .i64 s.y, .int .i64 s.fr, .int .i64 s.to, .int .i64 s.sy] 37 (0, 0))) := ⟨H6.out.1.1.pushL hr1 hg hg1, H6.out.1.1.stopL hg H6.out.1.2 _⟩
      have hr8 : V2.heap[r8]? = some (.cells #[.slice ga L.length gc, .slice ha M.length hc, .int .i64 wt, .int .i64 0] 28 (0, 0)) := (hg.block r8 (blkLt H6.out.1.1.r.2) (fun e => by
        obtain ⟨cur, hc⟩ := row_type H6.out.1.1.rowL e.symm
        exact type_ne H6.out.1.1.r.2 hc (by decide) rfl)).trans H6.out.1.1.r.2
      have HR8 : Hid (V2.heap[r8]? = some (.cells #[.slice ga L.length gc, .slice ha M.length hc, .int .i64 wt, .int .i64 0] 28 (0, 0))) := hr8
      have hS2 : LrI w rb r8 a9 ga gc L ha hc M wt 0 h V2 := by
        have q := H6.out.1.1
        have hk : ∀ x, x < V1.heap.size → Value.ownBlock (.slice ga L.length gc) ≠ some x → V2.heap[x]? = V1.heap[x]? := fun x h1 h2 => hg.block x h1 (fun e => h2 e.symm)
        have hkt : ∀ {x : Nat} {V : Array Value} {t : TypeId}, V1.heap[x]? = some (.cells V t (0, 0)) → t ≠ 3 → V2.heap[x]? = some (.cells V t (0, 0)) := fun {x V t} h1 h2 => (hk x (blkLt h1) (fun e => by
          obtain ⟨cur, hc⟩ := row_type q.rowL e
          exact type_ne h1 hc h2 rfl)).trans h1
        exact ⟨Fr.below q.low (fr_grown hg) q.low.size (fun x hx => (row_lt q.rowL x hx).1), ⟨q.res.1, hkt q.res.2.1 (by decide), q.res.2.2⟩, ⟨q.r.1, hr8⟩, ⟨q.a.1, hkt q.a.2 (by decide)⟩, hr2, row_of q.rowM (fun x hx => hk x (row_lt q.rowM x hx).2 (fun e => q.sep x e hx)), q.sep⟩
      clear hr1 hr2 hg hg1 H6 hr8
      refine hK.out _ _ (Or.inr hS2) (fun _ => ?_)
      clear hK K
      try simp only [Act.put, List.setIfInBounds_toArray, List.set_cons_zero, List.set_cons_succ, List.getElem_toArray, List.getElem_cons_succ, List.getElem_cons_zero]
      refine wpAnyZ_take (i := 8) (v := .pointer (some ⟨r8, 0, none⟩)) rfl (by kernel_rfl) (by kernel_rfl) (by kernel_rfl) (by kernel_rfl) (fun _ _ _ h => h) (Or.inl ⟨by rfl, fun w hSw => by clear hSw; go_simp⟩) hS2 ?_
      try simp only [Act.put, List.setIfInBounds_toArray, List.set_cons_zero, List.set_cons_succ, List.getElem_toArray, List.getElem_cons_succ, List.getElem_cons_zero]
      have q0 := blkCell HR8.out 0 _ rfl
      have z0 := blkFree HR8.out 0
      clear hS2
      refine wpAnyZ_ready (rs := [9]) (by kernel_rfl) (by simp) ?_
      refine AllReadyZ.cons rfl (fun K hK => ?_) AllReadyZ.nil
      go_simp
      refine hK.out _ _ (Or.inl rfl) (fun _ => ?_)
      clear hK K
      try simp only [Act.put, List.setIfInBounds_toArray, List.set_cons_zero, List.set_cons_succ, List.getElem_toArray, List.getElem_cons_succ, List.getElem_cons_zero]
      refine wpAnyZ_done (by kernel_rfl) ?_ _
      clear q0 z0 HR8 HS hH
      obtain ⟨V3, hV3⟩ : ∃ V3, V3 = V2.setCell ⟨r8, 0, none⟩ (.slice (some ⟨g1, 0, none⟩) (L.length + 1) v1) := ⟨_, rfl⟩
      rw [← hV3]
      have H8 : Hid (LrI w rb r8 a9 (some ⟨g1, 0, none⟩) v1 (L ++ [(m : Int)]) ha hc M wt 0 h V3 ∧ V3.heap[pb]? = some (.cells #[.int .i64 s.x, .int .i64 s.y, .int .i64 s.fr, .int .i64 s.to, .int .i64 s.sy] 37 (0, 0))) := by rw [hV3]; exact H7.out
      clear hV3 H7
      obtain ⟨⟨r0, r1, r2, r3⟩, y0, y1, y2, y3⟩ := H8.out.1.rc
      have HBa : Hid (∀ x : Int, (LrI w rb r8 a9 (some ⟨g1, 0, none⟩) v1 (L ++ [(m : Int)]) ha hc M wt 0 h (V3.alloc (Obj.cells #[.int .i64 x] 3)))) := fun x => H8.out.1.later (below_alloc V3 (Obj.cells #[.int .i64 x] 3))
      go_upto_region 13 with (at_builtin; refine wpList_int1 rfl _ _ rfl w.heap.size ha hc M ar (V3.alloc (Obj.cells #[.int .i64 ar] 3)) rfl (HBa.out ar).rowM V3.heap.size rfl (cellNew _ _ _ _ rfl rfl) HLM.out.1 (HBa.out ar).low.size ?_; intro g2 v2 V4 hr1 hr2 hg hg1; have HA9 := H8.out.1.appM H8.out.2 hr1 hg hg1; obtain ⟨hh9, ⟨z9, r1b⟩, y1b⟩ := HA9; have H9 : Hid (LrI w rb r8 a9 (some ⟨g1, 0, none⟩) v1 (L ++ [(m : Int)]) (some ⟨g2, 0, none⟩) v2 (M ++ [ar]) wt 0 h (V4.setCell ⟨r8, 1, none⟩ (.slice (some ⟨g2, 0, none⟩) (M.length + 1) v2)) ∧ (V4.setCell ⟨r8, 1, none⟩ (.slice (some ⟨g2, 0, none⟩) (M.length + 1) v2)).heap[pb]? = some (.cells #[.int .i64 s.x, .int .i64 s.y, .int .i64 s.fr, .int .i64 s.to, .int .i64 s.sy] 37 (0, 0))) := hh9; clear r0 r1 r2 r3 y0 y1 y2 y3 hr1 hr2 hg hg1 hh9)
      clear r1b y1b HBa
      obtain ⟨V5, hV5⟩ : ∃ V5, V5 = V4.setCell ⟨r8, 1, none⟩ (.slice (some ⟨g2, 0, none⟩) (M.length + 1) v2) := ⟨_, rfl⟩
      rw [← hV5]
      have H10 : Hid (LrI w rb r8 a9 (some ⟨g1, 0, none⟩) v1 (L ++ [(m : Int)]) (some ⟨g2, 0, none⟩) v2 (M ++ [ar]) wt 0 h V5 ∧ V5.heap[pb]? = some (.cells #[.int .i64 s.x, .int .i64 s.y, .int .i64 s.fr, .int .i64 s.to, .int .i64 s.sy] 37 (0, 0))) := by rw [hV5]; exact H9.out
      clear hV5 H9 H8
      obtain ⟨⟨r0, r1, r2, r3⟩, y0, y1, y2, y3⟩ := H10.out.1.rc
      have p2 := blkCell H10.out.2 2 _ rfl
      simp only [List.getElem_toArray, List.getElem_cons_zero, List.getElem_cons_succ] at p2
      obtain ⟨⟨hwr2, hwr3⟩, hwr5, hwr4⟩ := HWr.out
      go_upto_region 14 with fail
      clear r0 r1 r2 r3 y0 y1 y2 y3 p2
      obtain ⟨V6, hV6⟩ : ∃ V6, V6 = V5.setCell ⟨r8, 2, none⟩ (.int .i64 wn) := ⟨_, rfl⟩
      rw [← hV6]
      have H11 : Hid (LrI w rb r8 a9 (some ⟨g1, 0, none⟩) v1 (L ++ [(m : Int)]) (some ⟨g2, 0, none⟩) v2 (M ++ [ar]) wn 0 h V6 ∧ V6.heap[pb]? = some (.cells #[.int .i64 s.x, .int .i64 s.y, .int .i64 s.fr, .int .i64 s.to, .int .i64 s.sy] 37 (0, 0))) := by
        rw [hV6]
        exact ⟨H10.out.1.setW wn, (heap_setCell_other _ _ _ _ (fun e => type_ne H10.out.2 H10.out.1.r.2 (by decide) e)).trans H10.out.2⟩
      clear hV6 H10
      have p0 := blkCell H11.out.2 0 _ rfl
      have p1 := blkCell H11.out.2 1 _ rfl
      have p2 := blkCell H11.out.2 2 _ rfl
      have p3 := blkCell H11.out.2 3 _ rfl
      have p4 := blkCell H11.out.2 4 _ rfl
      simp only [List.getElem_toArray, List.getElem_cons_zero, List.getElem_cons_succ] at p0 p1 p2 p3 p4
      obtain ⟨⟨x0, x1, x2, x3, x4⟩, y0, y1, y2, y3, y4⟩ := H11.out.1.ac
      have H12 : Hid (LrI w rb r8 a9 (some ⟨g1, 0, none⟩) v1 (L ++ [(m : Int)]) (some ⟨g2, 0, none⟩) v2 (M ++ [ar]) wn 0 s (((((V6.setCell ⟨a9, 0, none⟩ (.int .i64 s.x)).setCell ⟨a9, 1, none⟩ (.int .i64 s.y)).setCell ⟨a9, 2, none⟩ (.int .i64 s.fr)).setCell ⟨a9, 3, none⟩ (.int .i64 s.to)).setCell ⟨a9, 4, none⟩ (.int .i64 s.sy))) := H11.out.1.setA s
      clear H11
      go_wp2
      have hFin : ∃ (k' : Nat) (ga ha : Option Addr) (gc hc : Nat), k' ≤ os.length ∧ Value.int IntKind.i64 ((k : Int) + 1) = .int .i64 (k' : Int) ∧ Value.int IntKind.i64 ln = .int .i64 (trp rs b (os.take k')).lv ∧ (trp rs b (os.take k')).ok = true ∧ LrI w rb r8 a9 ga gc (os.take k') ha hc (trp rs b (os.take k')).A (trp rs b (os.take k')).wt 0 (trp rs b (os.take k')).h (((((V6.setCell ⟨a9, 0, none⟩ (.int .i64 s.x)).setCell ⟨a9, 1, none⟩ (.int .i64 s.y)).setCell ⟨a9, 2, none⟩ (.int .i64 s.fr)).setCell ⟨a9, 3, none⟩ (.int .i64 s.to)).setCell ⟨a9, 4, none⟩ (.int .i64 s.sy)) := ⟨k + 1, _, _, _, _, by omega, by go_num, by rw [HStep2.out], by rw [HStep2.out], by rw [HStep2.out, HTk2.out]; exact H12.out⟩
      exact ⟨hFin, by simp [intOf]; omega⟩
    · have hle : (os.length : Int) ≤ (k : Int) := by omega
      obtain rfl : k = os.length := by omega
      rw [← HAll.out] at HI HOkk
      rw [← HAll.out] at hbd hAl
      have hyes := HYes.out HOkk.out
      have HYs : Hid (∀ (q s : Option Addr) (cq cs : Nat) w', Below w.heap.size w w' → RowI w.heap.size w'.heap.size w' q os → RowI w.heap.size w'.heap.size w' s (trp rs b os).A → LrQ rs b os w (.returned (.tuple #[.agg #[.slice q os.length cq, .slice s (trp rs b os).A.length cs, .int .i64 (trp rs b os).wt, .int .i64 (endT (trp rs b os))], .bool true])) w') := hyes
      rw [List.take_length] at HI
      have hfb := farH_bd hbd.h hp_in_z
      have hlv := hbd.lv
      have hFar := fun W => HFar.out (trp rs b os).h zHp hbd.h hp_in_z W
      unfold endT at HYs
      rw [← HAll.out]
      clear HSt HTk HLate HIn HBd HAl HAll HYes HOkk hyes HFar hbd hAl
      generalize LrQ rs b os w = Post at *
      generalize trp rs b os = t at *
      obtain ⟨lv, wt, h, M, tok⟩ := t
      dsimp only at *
      generalize farH h zHp = far at *
      obtain ⟨en, hen⟩ : ∃ en, lv + far = en := ⟨_, rfl⟩
      have hwe : IntKind.i64.wrap (lv + far) = en := by rw [wrap_id _ (by omega) (by omega)]; exact hen
      rw [hen] at HYs
      have HF : Hid (∀ W, Calls Try.prog 65 #[.agg #[.int .i64 h.x, .int .i64 h.y, .int .i64 h.fr, .int .i64 h.to, .int .i64 h.sy], .agg #[.int .i64 0, .int .i64 0, .int .i64 0, .int .i64 0, .int .i64 0]] W fun e w' => e = .returned (.int .i64 far) ∧ Below W.heap.size W w') := hFar
      clear hFar hen hfb hlv
      obtain ⟨⟨x0, x1, x2, x3, x4⟩, _⟩ := HI.out.ac
      go_wp2_with fail
      (first | go_at_call 65 | skip)
      refine (HF.out _).mono ?_
      rintro e w4 ⟨rfl, hb4⟩
      have H4 : Hid (LrI w rb r8 a9 ga gc os ha hc M wt 0 h w4) := HI.out.later hb4
      clear hb4 HI HF x0 x1 x2 x3 x4
      obtain ⟨⟨r0, r1, r2, r3⟩, y0, y1, y2, y3⟩ := H4.out.rc
      go_upto_region 17 with fail
      clear r0 r1 r2 r3 y0 y1 y2 y3 hwe
      obtain ⟨V5, hV5⟩ : ∃ V5, V5 = w4.setCell ⟨r8, 3, none⟩ (.int .i64 en) := ⟨_, rfl⟩
      rw [← hV5]
      have H5 : Hid (LrI w rb r8 a9 ga gc os ha hc M wt en h V5) := by rw [hV5]; exact H4.out.setE en
      clear hV5 H4
      obtain ⟨⟨r0, r1, r2, r3⟩, _⟩ := H5.out.rc
      have hrx := H5.out.res.2.1
      have z0 := blkCell hrx 0 _ rfl
      have z1 := blkCell hrx 1 _ rfl
      have z2 := blkCell hrx 2 _ rfl
      have z3 := blkCell hrx 3 _ rfl
      have y0 := blkFree hrx 0
      have y1 := blkFree hrx 1
      have y2 := blkFree hrx 2
      have y3 := blkFree hrx 3
      simp only [List.getElem_toArray, List.getElem_cons_zero, List.getElem_cons_succ] at z0 z1 z2 z3
      clear hrx
      go_wp2_with fail
      refine bodyPost_ret (v := .tuple #[.agg #[.slice ga os.length gc, .slice ha M.length hc, .int .i64 wt, .int .i64 en], .bool true]) (by simp [results, Try.results57, go_sem, z0, z1, z2, z3]) rfl ?_
      have hrb := H5.out.res.1
      have hk : ∀ d, d ≠ rb → ((((V5.setCell ⟨rb, 0, none⟩ (.slice ga os.length gc)).setCell ⟨rb, 1, none⟩ (.slice ha M.length hc)).setCell ⟨rb, 2, none⟩ (.int .i64 wt)).setCell ⟨rb, 3, none⟩ (.int .i64 en)).heap[d]? = V5.heap[d]? := fun d hd => by rw [heap_setCell_other _ _ _ _ hd, heap_setCell_other _ _ _ _ hd, heap_setCell_other _ _ _ _ hd, heap_setCell_other _ _ _ _ hd]
      have hl : Below w.heap.size w ((((V5.setCell ⟨rb, 0, none⟩ (.slice ga os.length gc)).setCell ⟨rb, 1, none⟩ (.slice ha M.length hc)).setCell ⟨rb, 2, none⟩ (.int .i64 wt)).setCell ⟨rb, 3, none⟩ (.int .i64 en)) := (((H5.out.low.setCell hrb _).setCell hrb _).setCell hrb _).setCell hrb _
      refine HYs.out _ _ _ _ _ hl ?_ ?_
      · exact (rowV_own (H5.out.rows H5.out.res.2.1 (by decide) hk H5.out.rowL) hl).rowI
      · exact (rowV_own (H5.out.rows H5.out.res.2.1 (by decide) hk H5.out.rowM) hl).rowI
end Go.Proofs.Ytoogphkojofkfaa

/-
  The specification's StockRun.
-/
import Derived.Test.YtdhdecbdcfdmeaaKsE
import Derived.Test.YtdhdecbdcfdmeaaKmU
import Derived.Deep.DeepCutAuto
import Derived.Deep.CutRange
namespace Go.Proofs.Ytdhdecbdcfdmeaa
open Go.ChangeShapes Go.WideShapes Go.ChangeAt Go.RowKit Go.Deep
set_option linter.unusedVariables false

/-- In the midst of a run: what was told, the lots, the stock's box; the boxes of one act. -/
structure SqR (w : World) (k : Nat) (os : List (Int × Int)) (g cp : Nat) (τ : StS) (lv : Value) (σ : StS) (lv0 : Value) (p q : Option (Nat × Array Value)) (W : World) : Prop where
  low : Below w.heap.size w W
  res : W.heap[w.heap.size]? = some (.cells #[.int .i64 0, .int .i64 0, .int .i64 0, .int .i64 0, .int .i64 0, .slice none 0 0] 29 (0, 0))
  box : W.heap[w.heap.size + 1]? = some (.cells #[.int .i64 σ.day, .int .i64 σ.rc, .int .i64 σ.sd, .int .i64 σ.wa, .int .i64 σ.sh, lv0] 29 (0, 0))
  told : W.ownsRow w.heap.size 36 2 (.slice (some ⟨g, 0, none⟩) k cp) k (obCells os)
  lots : W.ownsRow w.heap.size 38 5 lv τ.L.length (slCells τ.L)
  pp : ∀ b v, p = some (b, v) → W.heap[b]? = some (.cells v 29 (0, 0)) ∧ w.heap.size + 1 < b
  qq : ∀ b v, q = some (b, v) → W.heap[b]? = some (.cells v 36 (0, 0)) ∧ g ≠ b ∧ w.heap.size ≤ b
section
variable {w : World} {k : Nat} {os : List (Int × Int)} {g cp : Nat} {τ σ τ' : StS} {lv lv0 lv' : Value} {p q : Option (Nat × Array Value)} {W W' : World}
theorem SqR.keep (h : SqR w k os g cp τ lv σ lv0 p q W) (hb : Below w.heap.size w W') (hk : ∀ b, b < W.heap.size → W'.heap[b]? = W.heap[b]?) : SqR w k os g cp τ lv σ lv0 p q W' :=
  ⟨hb, (hk _ (blkLt h.res)).trans h.res, (hk _ (blkLt h.box)).trans h.box, row_of h.told (fun q hq => hk q (row_lt h.told q hq).2), row_of h.lots (fun q hq => hk q (row_lt h.lots q hq).2), fun b v e => ⟨(hk _ (blkLt (h.pp b v e).1)).trans (h.pp b v e).1, (h.pp b v e).2⟩, fun b v e => ⟨(hk _ (blkLt (h.qq b v e).1)).trans (h.qq b v e).1, (h.qq b v e).2⟩⟩
theorem SqR.later (h : SqR w k os g cp τ lv σ lv0 p q W) (hb : Below W.heap.size W W') : SqR w k os g cp τ lv σ lv0 p q W' := h.keep (chain h.low hb) (fun b hbl => hb.block b hbl)
theorem SqR.mkP (h : SqR w k os g cp τ lv σ lv0 none q W) (v : Array Value) : SqR w k os g cp τ lv σ lv0 (some (W.heap.size, v)) q (W.alloc (Obj.cells v 29)) := by
  have h1 := h.later (below_alloc W (Obj.cells v 29))
  have hb := blkLt h.box
  refine ⟨h1.low, h1.res, h1.box, h1.told, h1.lots, fun b u e => ?_, h1.qq⟩
  simp only [Option.some.injEq, Prod.mk.injEq] at e
  obtain ⟨rfl, rfl⟩ := e
  exact ⟨heapNew _ _, hb⟩
theorem SqR.mkQ (h : SqR w k os g cp τ lv σ lv0 p none W) (v : Array Value) : SqR w k os g cp τ lv σ lv0 p (some (W.heap.size, v)) (W.alloc (Obj.cells v 36)) := by
  have h1 := h.later (below_alloc W (Obj.cells v 36))
  have hb := (row_lt h.told g rfl).2
  have hz := h.low.size
  refine ⟨h1.low, h1.res, h1.box, h1.told, h1.lots, h1.pp, fun b u e => ?_⟩
  simp only [Option.some.injEq, Prod.mk.injEq] at e
  obtain ⟨rfl, rfl⟩ := e
  exact ⟨heapNew _ _, by omega, hz⟩
theorem SqR.call (h : SqR w k os g cp τ lv σ lv0 p q W) (hk : StkP w.heap.size lv W τ' lv' W') : SqR w k os g cp τ' lv' σ lv0 p q W' := by
  have hne : ∀ {b : Nat} {V : Array Value} {t : TypeId}, W.heap[b]? = some (.cells V t (0, 0)) → t ≠ 38 → W'.heap[b]? = some (.cells V t (0, 0)) := fun {b V t} hb ht => (hk.fr.block _ (blkLt hb) (fun e => by
    obtain ⟨cur, hc⟩ := row_type h.lots e
    rw [hb] at hc
    simp at hc
    exact ht hc.2)).trans hb
  have hlow : Below w.heap.size w W' := Fr.below h.low hk.fr h.low.size (fun b hb => (row_lt h.lots b hb).1)
  refine ⟨hlow, hne h.res (by decide), hne h.box (by decide), row_of h.told (fun b hb => ?_), hk.row, fun b v e => ⟨hne (h.pp b v e).1 (by decide), (h.pp b v e).2⟩, fun b v e => ⟨hne (h.qq b v e).1 (by decide), (h.qq b v e).2⟩⟩
  obtain ⟨cur, hc⟩ := row_type h.told hb
  exact (hne hc (by decide)).trans hc.symm
theorem SqR.stP {b : Nat} {u0 u1 u2 u3 u4 u5 : Value} (h : SqR w k os g cp τ lv σ lv0 (some (b, #[u0, u1, u2, u3, u4, u5])) q W) (x0 x1 x2 x3 x4 x5 : Value) : SqR w k os g cp τ lv σ lv0 (some (b, #[x0, x1, x2, x3, x4, x5])) q ((((((W.setCell ⟨b, 0, none⟩ (x0)).setCell ⟨b, 1, none⟩ (x1)).setCell ⟨b, 2, none⟩ (x2)).setCell ⟨b, 3, none⟩ (x3)).setCell ⟨b, 4, none⟩ (x4)).setCell ⟨b, 5, none⟩ (x5)) := by
  obtain ⟨hb, hl⟩ := h.pp b _ rfl
  obtain ⟨a1, a2⟩ := six hb x0 x1 x2 x3 x4 x5
  have hne : ∀ {d : Nat}, d < W.heap.size → d ≠ b → ((((((W.setCell ⟨b, 0, none⟩ (x0)).setCell ⟨b, 1, none⟩ (x1)).setCell ⟨b, 2, none⟩ (x2)).setCell ⟨b, 3, none⟩ (x3)).setCell ⟨b, 4, none⟩ (x4)).setCell ⟨b, 5, none⟩ (x5)).heap[d]? = W.heap[d]? := fun hd e => a2.block _ hd e
  refine ⟨Fr.below h.low a2 h.low.size (fun d hd => by omega), (hne (blkLt h.res) (by omega)).trans h.res, (hne (blkLt h.box) (by omega)).trans h.box, row_of h.told (fun d hd => hne (row_lt h.told d hd).2 (fun e => ?_)), row_of h.lots (fun d hd => hne (row_lt h.lots d hd).2 (fun e => ?_)), fun d v e => ?_, fun d v e => ⟨(hne (blkLt (h.qq d v e).1) (fun e2 => ?_)).trans (h.qq d v e).1, (h.qq d v e).2⟩⟩
  · obtain ⟨cur, hc⟩ := row_type h.told hd
    rw [e, hb] at hc; simp at hc
  · obtain ⟨cur, hc⟩ := row_type h.lots hd
    rw [e, hb] at hc; simp at hc
  · simp only [Option.some.injEq, Prod.mk.injEq] at e
    obtain ⟨rfl, rfl⟩ := e
    exact ⟨a1, hl⟩
  · have hc := (h.qq d v e).1
    rw [e2, hb] at hc; simp at hc
theorem SqR.stQ {b : Nat} {u0 u1 : Value} (h : SqR w k os g cp τ lv σ lv0 p (some (b, #[u0, u1])) W) (x0 x1 : Value) : SqR w k os g cp τ lv σ lv0 p (some (b, #[x0, x1])) ((W.setCell ⟨b, 0, none⟩ x0).setCell ⟨b, 1, none⟩ x1) := by
  obtain ⟨hb, hg, hl⟩ := h.qq b _ rfl
  obtain ⟨a1, a2⟩ := two hb x0 x1
  have hne : ∀ {d : Nat}, d < W.heap.size → d ≠ b → ((W.setCell ⟨b, 0, none⟩ x0).setCell ⟨b, 1, none⟩ x1).heap[d]? = W.heap[d]? := fun hd e => a2.block _ hd e
  have hty : ∀ {d : Nat} {V : Array Value} {t : TypeId}, W.heap[d]? = some (.cells V t (0, 0)) → t ≠ 36 → d ≠ b := fun {d V t} hd ht e => by
    rw [e, hb] at hd
    simp at hd
    exact ht hd.2.symm
  refine ⟨Fr.below h.low a2 h.low.size (fun d hd => by omega), (hne (blkLt h.res) (hty h.res (by decide))).trans h.res, (hne (blkLt h.box) (hty h.box (by decide))).trans h.box, row_of h.told (fun d hd => hne (row_lt h.told d hd).2 (fun e => ?_)), row_of h.lots (fun d hd => hne (row_lt h.lots d hd).2 (fun e => ?_)), fun d v e => ⟨(hne (blkLt (h.pp d v e).1) (hty (h.pp d v e).1 (by decide))).trans (h.pp d v e).1, (h.pp d v e).2⟩, fun d v e => ?_⟩
  · cases hd; exact hg e
  · obtain ⟨cur, hc⟩ := row_type h.lots hd
    exact hty hc (by decide) e
  · simp only [Option.some.injEq, Prod.mk.injEq] at e
    obtain ⟨rfl, rfl⟩ := e
    exact ⟨a1, hg, hl⟩
/-- The stock's box is the act's stock. -/
theorem SqR.turn (h : SqR w k os g cp τ lv σ lv0 p q W) : SqR w k os g cp τ lv τ lv none q ((((((W.setCell ⟨w.heap.size + 1, 0, none⟩ (.int .i64 τ.day)).setCell ⟨w.heap.size + 1, 1, none⟩ (.int .i64 τ.rc)).setCell ⟨w.heap.size + 1, 2, none⟩ (.int .i64 τ.sd)).setCell ⟨w.heap.size + 1, 3, none⟩ (.int .i64 τ.wa)).setCell ⟨w.heap.size + 1, 4, none⟩ (.int .i64 τ.sh)).setCell ⟨w.heap.size + 1, 5, none⟩ (lv)) := by
  obtain ⟨a1, a2⟩ := six h.box (.int .i64 τ.day) (.int .i64 τ.rc) (.int .i64 τ.sd) (.int .i64 τ.wa) (.int .i64 τ.sh) lv
  have hb := h.box
  have hne : ∀ {d : Nat}, d < W.heap.size → d ≠ w.heap.size + 1 → ((((((W.setCell ⟨w.heap.size + 1, 0, none⟩ (.int .i64 τ.day)).setCell ⟨w.heap.size + 1, 1, none⟩ (.int .i64 τ.rc)).setCell ⟨w.heap.size + 1, 2, none⟩ (.int .i64 τ.sd)).setCell ⟨w.heap.size + 1, 3, none⟩ (.int .i64 τ.wa)).setCell ⟨w.heap.size + 1, 4, none⟩ (.int .i64 τ.sh)).setCell ⟨w.heap.size + 1, 5, none⟩ (lv)).heap[d]? = W.heap[d]? := fun hd e => a2.block _ hd e
  have hty : ∀ {d : Nat} {V : Array Value} {t : TypeId}, W.heap[d]? = some (.cells V t (0, 0)) → t ≠ 29 → d ≠ w.heap.size + 1 := fun {d V t} hd ht e => by
    rw [e, hb] at hd
    simp at hd
    exact ht hd.2.symm
  refine ⟨Fr.below h.low a2 h.low.size (fun d hd => by omega), (hne (blkLt h.res) (by omega)).trans h.res, a1, row_of h.told (fun d hd => hne (row_lt h.told d hd).2 ?_), row_of h.lots (fun d hd => hne (row_lt h.lots d hd).2 ?_), fun d v e => (by cases e), fun d v e => ⟨(hne (blkLt (h.qq d v e).1) (hty (h.qq d v e).1 (by decide))).trans (h.qq d v e).1, (h.qq d v e).2⟩⟩
  · obtain ⟨cur, hc⟩ := row_type h.told hd
    exact hty hc (by decide)
  · obtain ⟨cur, hc⟩ := row_type h.lots hd
    exact hty hc (by decide)
theorem SqR.push {w9 : World} {g1 cp1 : Nat} {c n : Int} (h : SqR w k os g cp τ lv σ lv0 p q W) (ho : w9.ownsRow w.heap.size 36 2 (.slice (some ⟨g1, 0, none⟩) (k + 1) cp1) (k + 1) (obCells os ++ [.int .i64 c, .int .i64 n])) (hg : W.grownBy w9 (Value.ownBlock (.slice (some ⟨g, 0, none⟩) k cp))) : SqR w (k + 1) (os ++ [(c, n)]) g1 cp1 τ lv σ lv0 none none w9 := by
  have hf := fr_grown hg
  obtain ⟨cur, hc⟩ := row_type h.told (q := g) rfl
  have hne : ∀ {d : Nat} {V : Array Value} {t : TypeId}, W.heap[d]? = some (.cells V t (0, 0)) → t ≠ 36 → w9.heap[d]? = some (.cells V t (0, 0)) := fun {d V t} hd ht => (hf.block d (blkLt hd) (fun e => by
    have e2 : g = d := by simpa [Value.ownBlock] using e
    rw [← e2, hc] at hd
    simp at hd
    exact ht hd.2.symm)).trans hd
  have hlow : Below w.heap.size w w9 := h.low.grown hg h.low.size (fun d hd => (row_lt h.told d hd).1)
  refine ⟨hlow, hne h.res (by decide), hne h.box (by decide), by rw [obCells_append]; exact ho, row_of h.lots (fun d hd => ?_), fun b v e => (by cases e), fun b v e => (by cases e)⟩
  obtain ⟨c2, h2⟩ := row_type h.lots hd
  exact (hne h2 (by decide)).trans h2.symm
end
set_option maxHeartbeats 8000000 in
theorem stockRunS_no (a : Option Addr) (n cap : Nat) (hn : 200 < n) (w : World) :
    Calls Try.prog 11 #[.slice a n cap] w fun e w' => ∃ b, e = .returned (.tuple #[.slice (some ⟨b, 0, none⟩) 0 0, .agg #[.int .i64 0, .int .i64 0, .int .i64 0, .int .i64 0, .int .i64 0, .slice none 0 0], .int .i64 (if 4096 < n then 2 else 9)]) ∧ w.heap.size ≤ b ∧ w'.heap[b]? = some (.cells #[] 36 (0, 0)) ∧ Below w.heap.size w w' := by
  obtain ⟨Q, hQ⟩ : ∃ Q : Ending → World → Prop, Q = fun e w' => ∃ b, e = .returned (.tuple #[.slice (some ⟨b, 0, none⟩) 0 0, .agg #[.int .i64 0, .int .i64 0, .int .i64 0, .int .i64 0, .int .i64 0, .slice none 0 0], .int .i64 (if 4096 < n then 2 else 9)]) ∧ w.heap.size ≤ b ∧ w'.heap[b]? = some (.cells #[] 36 (0, 0)) ∧ Below w.heap.size w w' := ⟨_, rfl⟩
  rw [← hQ]
  have HQ : Hid (∀ (c : Int) b w', c = (if 4096 < n then 2 else 9) → w.heap.size ≤ b → w'.heap[b]? = some (.cells #[] 36 (0, 0)) → Below w.heap.size w w' → Q (.returned (.tuple #[.slice (some ⟨b, 0, none⟩) 0 0, .agg #[.int .i64 0, .int .i64 0, .int .i64 0, .int .i64 0, .int .i64 0, .slice none 0 0], .int .i64 c])) w') := fun c b w' hc h1 h2 h3 => by
    rw [hQ]; subst hc; exact ⟨b, rfl, h1, h2, h3⟩
  clear hQ
  obtain ⟨W2, hW2⟩ : ∃ W2, W2 = (w.alloc (Obj.cells #[.int .i64 0, .int .i64 0, .int .i64 0, .int .i64 0, .int .i64 0, .slice none 0 0] 29)).alloc (Obj.cells #[] 36) := ⟨_, rfl⟩
  have hb : Below w.heap.size w W2 := by rw [hW2]; exact chain (below_alloc _ _) (below_alloc _ _)
  have h0 : W2.heap[w.heap.size]? = some (.cells #[.int .i64 0, .int .i64 0, .int .i64 0, .int .i64 0, .int .i64 0, .slice none 0 0] 29 (0, 0)) := by rw [hW2]; exact ((below_alloc _ _).block _ (by simp)).trans (heapNew _ _)
  have h1 : W2.heap[w.heap.size + 1]? = some (.cells #[] 36 (0, 0)) := by
    rw [hW2]
    have := heapNew (w.alloc (Obj.cells #[.int .i64 0, .int .i64 0, .int .i64 0, .int .i64 0, .int .i64 0, .slice none 0 0] 29)) (Obj.cells #[] 36)
    simpa using this
  have H0 : Hid (Below w.heap.size w W2 ∧ W2.heap[w.heap.size]? = some (.cells #[.int .i64 0, .int .i64 0, .int .i64 0, .int .i64 0, .int .i64 0, .slice none 0 0] 29 (0, 0)) ∧ W2.heap[w.heap.size + 1]? = some (.cells #[] 36 (0, 0))) := ⟨hb, h0, h1⟩
  clear hb h0 h1
  by_cases h : 4096 < n
  · have hi : (4096 : Int) < (n : Int) := by omega
    have HQ2 : Hid (Q (.returned (.tuple #[.slice (some ⟨w.heap.size + 1, 0, none⟩) 0 0, .agg #[.int .i64 0, .int .i64 0, .int .i64 0, .int .i64 0, .int .i64 0, .slice none 0 0], .int .i64 2])) W2) := HQ.out 2 _ _ (by rw [if_pos h]) (by omega) H0.out.2.2 H0.out.1
    clear h HQ
    go_enter Try.func11, Try.ntmps11
    go_wp2
    rw [← hW2]
    have q0 := blkCell H0.out.2.1 0 _ rfl
    have q1 := blkCell H0.out.2.1 1 _ rfl
    have q2 := blkCell H0.out.2.1 2 _ rfl
    have q3 := blkCell H0.out.2.1 3 _ rfl
    have q4 := blkCell H0.out.2.1 4 _ rfl
    have q5 := blkCell H0.out.2.1 5 _ rfl
    exact bodyPost_ret (v := .tuple #[.slice (some ⟨w.heap.size + 1, 0, none⟩) 0 0, .agg #[.int .i64 0, .int .i64 0, .int .i64 0, .int .i64 0, .int .i64 0, .slice none 0 0], .int .i64 2]) (by simp [results, Try.results11, go_sem, q0, q1, q2, q3, q4, q5]) rfl HQ2.out
  · have hi : ¬ (4096 : Int) < (n : Int) := by omega
    have hi2 : (200 : Int) < (n : Int) := by omega
    have HQ2 : Hid (Q (.returned (.tuple #[.slice (some ⟨w.heap.size + 1, 0, none⟩) 0 0, .agg #[.int .i64 0, .int .i64 0, .int .i64 0, .int .i64 0, .int .i64 0, .slice none 0 0], .int .i64 9])) W2) := HQ.out 9 _ _ (by rw [if_neg h]) (by omega) H0.out.2.2 H0.out.1
    clear h HQ
    go_enter Try.func11, Try.ntmps11
    go_wp2
    rw [← hW2]
    have q0 := blkCell H0.out.2.1 0 _ rfl
    have q1 := blkCell H0.out.2.1 1 _ rfl
    have q2 := blkCell H0.out.2.1 2 _ rfl
    have q3 := blkCell H0.out.2.1 3 _ rfl
    have q4 := blkCell H0.out.2.1 4 _ rfl
    have q5 := blkCell H0.out.2.1 5 _ rfl
    exact bodyPost_ret (v := .tuple #[.slice (some ⟨w.heap.size + 1, 0, none⟩) 0 0, .agg #[.int .i64 0, .int .i64 0, .int .i64 0, .int .i64 0, .int .i64 0, .slice none 0 0], .int .i64 9]) (by simp [results, Try.results11, go_sem, q0, q1, q2, q3, q4, q5]) rfl HQ2.out
set_option maxHeartbeats 16000000 in
set_option maxRecDepth 8000 in
theorem stockRunS_ok (a : Option Addr) (cap : Nat) (rs : List RSk) (hl : rs.length ≤ 200) (hok : ∀ r ∈ rs, SkOK r) (w : World) (hr : ReadsSk w.heap.size w a rs) :
    Calls Try.prog 11 #[.slice a rs.length cap] w fun e w' => ∃ tv lv, e = .returned (.tuple #[tv, .agg (stkV (stR rs rs.length) lv), .int .i64 0]) ∧ AnsK w.heap.size (stO rs rs.length) (stR rs rs.length).L tv lv w' ∧ Below w.heap.size w w' := by
  have HR : Hid (ReadsSk w.heap.size w a rs) := hr
  have HOk : Hid (∀ r ∈ rs, SkOK r) := hok
  have h1i : ¬ (4096 : Int) < (rs.length : Int) := by omega
  have h2i : ¬ (200 : Int) < (rs.length : Int) := by omega
  obtain ⟨W3, hW3⟩ : ∃ W3, W3 = ((w.alloc (Obj.cells #[.int .i64 0, .int .i64 0, .int .i64 0, .int .i64 0, .int .i64 0, .slice none 0 0] 29)).alloc (Obj.cells #[.int .i64 0, .int .i64 0, .int .i64 0, .int .i64 0, .int .i64 0, .slice none 0 0] 29)).alloc (Obj.cells #[] 36) := ⟨_, rfl⟩
  have H3 : Hid (SqR w 0 [] (w.heap.size + 2) 0 st0 (.slice none 0 0) st0 (.slice none 0 0) none none W3) := by
    obtain ⟨k1, k2, k3⟩ := heapThree w (Obj.cells #[.int .i64 0, .int .i64 0, .int .i64 0, .int .i64 0, .int .i64 0, .slice none 0 0] 29) (Obj.cells #[.int .i64 0, .int .i64 0, .int .i64 0, .int .i64 0, .int .i64 0, .slice none 0 0] 29) (Obj.cells #[] 36)
    rw [← hW3] at k1 k2 k3
    have hb : Below w.heap.size w W3 := by rw [hW3]; exact chain (chain (below_alloc _ _) (below_alloc _ _)) (below_alloc _ _)
    exact ⟨hb, k1, k2, ⟨rfl, .inr ⟨w.heap.size + 2, 0, #[], rfl, by omega, k3, Nat.le_refl _, by unfold maxLen; omega, rfl, rfl⟩⟩, World.ownsRow_nil _ _ _ _, fun b v e => (by cases e), fun b v e => (by cases e)⟩
  obtain ⟨j0, hj, hzy⟩ := Option.map_eq_some_iff.1 soInfo
  simp only [Prod.mk.injEq] at hzy
  obtain ⟨hj0, hj1, hj2⟩ := hzy
  unfold stkV
  clear hr hok
  go_enter Try.func11, Try.ntmps11
  go_wp2_with fail
  rw [← hW3]
  clear hW3
  go_loopw [6, 7, 8, 9] (fun tv iv _ _ wr => ∃ (k g cp : Nat) (la : Option Addr) (lc : Nat), k ≤ rs.length ∧ iv = .int .i64 (k : Int) ∧ tv = .slice (some ⟨g, 0, none⟩) k cp ∧ SqR w k (stO rs k) g cp (stR rs k) (.slice la (stR rs k).L.length lc) (stR rs k) (.slice la (stR rs k).L.length lc) none none wr) (fun _ iv _ _ _ => rs.length - (intOf iv).toNat)
  case atStart => exact ⟨0, _, _, none, 0, Nat.zero_le _, rfl, rfl, H3.out⟩
  case round =>
    clear H3
    obtain ⟨k, g, cp, la, lc, hk, rfl, rfl, hS⟩ := hrel
    have HS : Hid (SqR w k (stO rs k) g cp (stR rs k) (.slice la (stR rs k).L.length lc) (stR rs k) (.slice la (stR rs k).L.length lc) none none wr) := hS
    clear hS
    by_cases hlt : k < rs.length
    · have hlt' : (k : Int) < (rs.length : Int) := by omega
      obtain ⟨b0, o0, ha, -⟩ := readsSk_at HR.out HS.out.low k hlt
      subst ha
      have HAt : Hid (∀ W, Below w.heap.size w W → SkAt W b0 (o0 + k * 5) (rs.getD k zSk)) := fun W hb => by
        obtain ⟨b1, o1, e, h⟩ := readsSk_at HR.out hb k hlt
        simp only [Option.some.injEq, Addr.mk.injEq] at e
        obtain ⟨rfl, rfl, -⟩ := e
        exact h
      have HAc : Hid (∀ W, w.heap.size ≤ W.heap.size → W.ownsRow w.heap.size 38 5 (.slice la (stR rs k).L.length lc) (stR rs k).L.length (slCells (stR rs k).L) → Calls Try.prog 27 #[.agg (stkV (stR rs k) (.slice la (stR rs k).L.length lc)), .agg #[.int .i64 (rs.getD k zSk).kd, .string (rs.getD k zSk).ar, .int .i64 (rs.getD k zSk).lt, .int .i64 (rs.getD k zSk).nu, .int .i64 (rs.getD k zSk).un]] W (ActP w.heap.size (.slice la (stR rs k).L.length lc) W (actE (stR rs k) (rs.getD k zSk)) (actN (stR rs k) (rs.getD k zSk)) (actS (stR rs k) (rs.getD k zSk)))) := fun W hb h => sAct_any (stR rs k) la lc k (by omega) (stR_ok rs k) (rs.getD k zSk) (getSk HOk.out hlt) W hb h
      have HNs : Hid (actS (stR rs k) (rs.getD k zSk) = stR rs (k + 1)) := rfl
      have HNo : Hid (stO rs k ++ [(actE (stR rs k) (rs.getD k zSk), actN (stR rs k) (rs.getD k zSk))] = stO rs (k + 1)) := rfl
      unfold stkV at HAc
      generalize actS (stR rs k) (rs.getD k zSk) = τ at *
      generalize actE (stR rs k) (rs.getD k zSk) = ce at *
      generalize actN (stR rs k) (rs.getD k zSk) = cn at *
      generalize rs.getD k zSk = r at *
      obtain ⟨kd, ar, lt, nu, un⟩ := r
      dsimp only at HAc
      generalize stR rs k = σ at *
      generalize stO rs k = os at *
      go_upto_region 10 with fail
      go_cut [8, 9] from 22 to 41 (fun s8 s9 wx => ∃ pb qb va vc, s8 = .pointer (some ⟨pb, 0, none⟩) ∧ s9 = .pointer (some ⟨qb, 0, none⟩) ∧ SqR w k os g cp τ (.slice va τ.L.length vc) σ (.slice la σ.L.length lc) (some (pb, #[.int .i64 τ.day, .int .i64 τ.rc, .int .i64 τ.sd, .int .i64 τ.wa, .int .i64 τ.sh, .slice va τ.L.length vc])) (some (qb, #[.int .i64 ce, .int .i64 cn])) wx)
      case first =>
        refine wp_region_held_drew (S := fun W' => Below w.heap.size w W' ∧ W'.heap[w.heap.size + 1]? = some (.cells #[.int .i64 σ.day, .int .i64 σ.rc, .int .i64 σ.sd, .int .i64 σ.wa, .int .i64 σ.sh, .slice la σ.L.length lc] 29 (0, 0))) (by kernel_rfl) ⟨chain HS.out.low (below_drew _), (HS.out.later (below_drew _)).box⟩ (fun hH => ?_)
        refine wpAnyH_take (i := 0) (v := .agg #[.int .i64 σ.day, .int .i64 σ.rc, .int .i64 σ.sd, .int .i64 σ.wa, .int .i64 σ.sh, .slice la σ.L.length lc]) rfl (by kernel_rfl) (by kernel_rfl) (by kernel_rfl) (fun _ _ _ h => h) (Or.inl ⟨by rfl, fun w hSw => by have f0 := blkCell hSw.2 0 _ rfl; have f1 := blkCell hSw.2 1 _ rfl; have f2 := blkCell hSw.2 2 _ rfl; have f3 := blkCell hSw.2 3 _ rfl; have f4 := blkCell hSw.2 4 _ rfl; have f5 := blkCell hSw.2 5 _ rfl; clear hSw; go_simp⟩) hH ?_
        refine wpAnyH_take (i := 1) (v := .slice (some ⟨b0, o0, none⟩) rs.length cap) rfl (by kernel_rfl) (by kernel_rfl) (by kernel_rfl) (fun _ _ _ h => h) (Or.inl ⟨by rfl, fun w hSw => by go_simp⟩) hH ?_
        try simp only [Act.put, List.setIfInBounds_toArray, List.set_cons_zero, List.set_cons_succ, List.getElem_toArray, List.getElem_cons_succ, List.getElem_cons_zero]
        refine wpAnyH_take (i := 2) (v := .int .i64 (k : Int)) rfl (by kernel_rfl) (by kernel_rfl) (by kernel_rfl) (fun _ _ _ h => h) (Or.inl ⟨by rfl, fun w hSw => by go_simp⟩) hH ?_
        try simp only [Act.put, List.setIfInBounds_toArray, List.set_cons_zero, List.set_cons_succ, List.getElem_toArray, List.getElem_cons_succ, List.getElem_cons_zero]
        refine wpAnyH_take (i := 3) (v := .pointer (some ⟨b0, o0 + k * 5, none⟩)) rfl (by kernel_rfl) (by kernel_rfl) (by kernel_rfl) (fun _ _ _ h => h) (Or.inl ⟨by rfl, fun w hSw => by go_simp⟩) hH ?_
        try simp only [Act.put, List.setIfInBounds_toArray, List.set_cons_zero, List.set_cons_succ, List.getElem_toArray, List.getElem_cons_succ, List.getElem_cons_zero]
        refine wpAnyH_take (i := 4) (v := .agg #[.int .i64 kd, .string ar, .int .i64 lt, .int .i64 nu, .int .i64 un]) rfl (by kernel_rfl) (by kernel_rfl) (by kernel_rfl) (fun _ _ _ h => h) (Or.inl ⟨by rfl, fun w hSw => by obtain ⟨f0, f1, f2, f3, f4⟩ := HAt.out w hSw.1; clear hSw; go_simp⟩) hH ?_
        try simp only [Act.put, List.setIfInBounds_toArray, List.set_cons_zero, List.set_cons_succ, List.getElem_toArray, List.getElem_cons_succ, List.getElem_cons_zero]
        have R0 : Hid (SqR w k os g cp σ (.slice la σ.L.length lc) σ (.slice la σ.L.length lc) none none wr.drew) := HS.out.later (below_drew _)
        clear hH HS HAt
        generalize wr.drew = W5 at *
        refine wpAnyH_ready (rs := [5, 9, 10]) (by kernel_rfl) (by simp) ?_
        refine AllReadyH.cons rfl (fun K hK => ?_) (AllReadyH.cons rfl (fun K hK => ?_) (AllReadyH.cons rfl (fun K hK => ?_) AllReadyH.nil))
        · skip
          go_simp
          go_at_call 27
          refine (HAc.out _ R0.out.low.size R0.out.lots).mono ?_
          rintro e V1 ⟨va1, vc1, rfl, hk⟩
          have R1 : Hid (SqR w k os g cp τ (.slice va1 τ.L.length vc1) σ (.slice la σ.L.length lc) none none V1) := R0.out.call hk
          clear hk
          unfold stkV
          refine hK.out _ _ ⟨R1.out.low, R1.out.box⟩ (fun _ => ?_)
          clear hK K
          try simp only [Act.put, List.setIfInBounds_toArray, List.set_cons_zero, List.set_cons_succ, List.getElem_toArray, List.getElem_cons_succ, List.getElem_cons_zero]
          refine wpAnyH_take (i := 6) (v := .tuple #[.agg #[.int .i64 τ.day, .int .i64 τ.rc, .int .i64 τ.sd, .int .i64 τ.wa, .int .i64 τ.sh, .slice va1 τ.L.length vc1], .agg #[.int .i64 ce, .int .i64 cn]]) rfl (by kernel_rfl) (by kernel_rfl) (by kernel_rfl) (fun _ _ _ h => h) (Or.inl ⟨by rfl, fun w hSw => by go_simp⟩) ⟨R1.out.low, R1.out.box⟩ ?_
          try simp only [Act.put, List.setIfInBounds_toArray, List.set_cons_zero, List.set_cons_succ, List.getElem_toArray, List.getElem_cons_succ, List.getElem_cons_zero]
          refine wpAnyH_take (i := 7) (v := .agg #[.int .i64 τ.day, .int .i64 τ.rc, .int .i64 τ.sd, .int .i64 τ.wa, .int .i64 τ.sh, .slice va1 τ.L.length vc1]) rfl (by kernel_rfl) (by kernel_rfl) (by kernel_rfl) (fun _ _ _ h => h) (Or.inl ⟨by rfl, fun w hSw => by go_simp⟩) ⟨R1.out.low, R1.out.box⟩ ?_
          try simp only [Act.put, List.setIfInBounds_toArray, List.set_cons_zero, List.set_cons_succ, List.getElem_toArray, List.getElem_cons_succ, List.getElem_cons_zero]
          refine wpAnyH_take (i := 8) (v := .agg #[.int .i64 ce, .int .i64 cn]) rfl (by kernel_rfl) (by kernel_rfl) (by kernel_rfl) (fun _ _ _ h => h) (Or.inl ⟨by rfl, fun w hSw => by go_simp⟩) ⟨R1.out.low, R1.out.box⟩ ?_
          try simp only [Act.put, List.setIfInBounds_toArray, List.set_cons_zero, List.set_cons_succ, List.getElem_toArray, List.getElem_cons_succ, List.getElem_cons_zero]
          refine wpAnyH_ready (rs := [9, 10]) (by kernel_rfl) (by simp) ?_
          refine AllReadyH.cons rfl (fun K hK => ?_) (AllReadyH.cons rfl (fun K hK => ?_) AllReadyH.nil)
          · skip
            go_simp
            obtain ⟨V2, hV2⟩ : ∃ V2, V2 = V1.alloc (Obj.cells #[.int .i64 0, .int .i64 0, .int .i64 0, .int .i64 0, .int .i64 0, .slice none 0 0] 29) := ⟨_, rfl⟩
            rw [← hV2]
            have R2 : Hid (SqR w k os g cp τ (.slice va1 τ.L.length vc1) σ (.slice la σ.L.length lc) (some (V1.heap.size, #[.int .i64 0, .int .i64 0, .int .i64 0, .int .i64 0, .int .i64 0, .slice none 0 0])) none V2) := by rw [hV2]; exact R1.out.mkP _
            clear hV2
            refine hK.out _ _ ⟨R2.out.low, R2.out.box⟩ (fun _ => ?_)
            clear hK K
            try simp only [Act.put, List.setIfInBounds_toArray, List.set_cons_zero, List.set_cons_succ, List.getElem_toArray, List.getElem_cons_succ, List.getElem_cons_zero]
            refine wpAnyH_ready (rs := [10]) (by kernel_rfl) (by simp) ?_
            refine AllReadyH.cons rfl (fun K hK => ?_) AllReadyH.nil
            go_simp
            obtain ⟨V3, hV3⟩ : ∃ V3, V3 = V2.alloc (Obj.cells #[.int .i64 0, .int .i64 0] 36) := ⟨_, rfl⟩
            rw [← hV3]
            have R3 : Hid (SqR w k os g cp τ (.slice va1 τ.L.length vc1) σ (.slice la σ.L.length lc) (some (V1.heap.size, #[.int .i64 0, .int .i64 0, .int .i64 0, .int .i64 0, .int .i64 0, .slice none 0 0])) (some (V2.heap.size, #[.int .i64 0, .int .i64 0])) V3) := by rw [hV3]; exact R2.out.mkQ _
            clear hV3
            refine hK.out _ _ ⟨R3.out.low, R3.out.box⟩ (fun _ => ?_)
            clear hK K
            try simp only [Act.put, List.setIfInBounds_toArray, List.set_cons_zero, List.set_cons_succ, List.getElem_toArray, List.getElem_cons_succ, List.getElem_cons_zero]
            refine wpAnyH_ready (rs := [11]) (by kernel_rfl) (by simp) ?_
            refine AllReadyH.cons rfl (fun K hK => ?_) AllReadyH.nil
            have hbb := (R3.out.pp _ _ rfl).1
            have r0 := blkCell hbb 0 _ rfl
            have gg0 := blkFree hbb 0
            have r1 := blkCell hbb 1 _ rfl
            have gg1 := blkFree hbb 1
            have r2 := blkCell hbb 2 _ rfl
            have gg2 := blkFree hbb 2
            have r3 := blkCell hbb 3 _ rfl
            have gg3 := blkFree hbb 3
            have r4 := blkCell hbb 4 _ rfl
            have gg4 := blkFree hbb 4
            have r5 := blkCell hbb 5 _ rfl
            have gg5 := blkFree hbb 5
            clear hbb
            go_simp
            clear r0 r1 r2 r3 r4 r5 gg0 gg1 gg2 gg3 gg4 gg5
            obtain ⟨V4, hV4⟩ : ∃ V4, V4 = ((((((V3.setCell ⟨V1.heap.size, 0, none⟩ (.int .i64 τ.day)).setCell ⟨V1.heap.size, 1, none⟩ (.int .i64 τ.rc)).setCell ⟨V1.heap.size, 2, none⟩ (.int .i64 τ.sd)).setCell ⟨V1.heap.size, 3, none⟩ (.int .i64 τ.wa)).setCell ⟨V1.heap.size, 4, none⟩ (.int .i64 τ.sh)).setCell ⟨V1.heap.size, 5, none⟩ (.slice va1 τ.L.length vc1)) := ⟨_, rfl⟩
            rw [← hV4]
            have R4 : Hid (SqR w k os g cp τ (.slice va1 τ.L.length vc1) σ (.slice la σ.L.length lc) (some (V1.heap.size, #[.int .i64 τ.day, .int .i64 τ.rc, .int .i64 τ.sd, .int .i64 τ.wa, .int .i64 τ.sh, .slice va1 τ.L.length vc1])) (some (V2.heap.size, #[.int .i64 0, .int .i64 0])) V4) := by rw [hV4]; exact R3.out.stP (.int .i64 τ.day) (.int .i64 τ.rc) (.int .i64 τ.sd) (.int .i64 τ.wa) (.int .i64 τ.sh) (.slice va1 τ.L.length vc1)
            clear hV4
            refine hK.out _ _ ⟨R4.out.low, R4.out.box⟩ (fun _ => ?_)
            clear hK K
            try simp only [Act.put, List.setIfInBounds_toArray, List.set_cons_zero, List.set_cons_succ, List.getElem_toArray, List.getElem_cons_succ, List.getElem_cons_zero]
            refine wpAnyH_ready (rs := [12]) (by kernel_rfl) (by simp) ?_
            refine AllReadyH.cons rfl (fun K hK => ?_) AllReadyH.nil
            have hbb := (R4.out.qq _ _ rfl).1
            have r0 := blkCell hbb 0 _ rfl
            have r1 := blkCell hbb 1 _ rfl
            have gg0 := blkFree hbb 0
            have gg1 := blkFree hbb 1
            clear hbb
            go_simp
            clear r0 r1 gg0 gg1
            obtain ⟨V5, hV5⟩ : ∃ V5, V5 = ((V4.setCell ⟨V2.heap.size, 0, none⟩ (.int .i64 ce)).setCell ⟨V2.heap.size, 1, none⟩ (.int .i64 cn)) := ⟨_, rfl⟩
            rw [← hV5]
            have R5 : Hid (SqR w k os g cp τ (.slice va1 τ.L.length vc1) σ (.slice la σ.L.length lc) (some (V1.heap.size, #[.int .i64 τ.day, .int .i64 τ.rc, .int .i64 τ.sd, .int .i64 τ.wa, .int .i64 τ.sh, .slice va1 τ.L.length vc1])) (some (V2.heap.size, #[.int .i64 ce, .int .i64 cn])) V5) := by rw [hV5]; exact R4.out.stQ (.int .i64 ce) (.int .i64 cn)
            clear hV5
            refine hK.out _ _ ⟨R5.out.low, R5.out.box⟩ (fun _ => ?_)
            clear hK K
            try simp only [Act.put, List.setIfInBounds_toArray, List.set_cons_zero, List.set_cons_succ, List.getElem_toArray, List.getElem_cons_succ, List.getElem_cons_zero]
            refine wpAnyH_done (by kernel_rfl) ?_ _
            go_wp2_with fail
            go_meet
            exact ⟨_, _, _, _, rfl, rfl, R5.out⟩
          · skip
            go_simp
            obtain ⟨V6, hV6⟩ : ∃ V6, V6 = V1.alloc (Obj.cells #[.int .i64 0, .int .i64 0] 36) := ⟨_, rfl⟩
            rw [← hV6]
            have R6 : Hid (SqR w k os g cp τ (.slice va1 τ.L.length vc1) σ (.slice la σ.L.length lc) none (some (V1.heap.size, #[.int .i64 0, .int .i64 0])) V6) := by rw [hV6]; exact R1.out.mkQ _
            clear hV6
            refine hK.out _ _ ⟨R6.out.low, R6.out.box⟩ (fun _ => ?_)
            clear hK K
            try simp only [Act.put, List.setIfInBounds_toArray, List.set_cons_zero, List.set_cons_succ, List.getElem_toArray, List.getElem_cons_succ, List.getElem_cons_zero]
            refine wpAnyH_ready (rs := [9]) (by kernel_rfl) (by simp) ?_
            refine AllReadyH.cons rfl (fun K hK => ?_) AllReadyH.nil
            go_simp
            obtain ⟨V7, hV7⟩ : ∃ V7, V7 = V6.alloc (Obj.cells #[.int .i64 0, .int .i64 0, .int .i64 0, .int .i64 0, .int .i64 0, .slice none 0 0] 29) := ⟨_, rfl⟩
            rw [← hV7]
            have R7 : Hid (SqR w k os g cp τ (.slice va1 τ.L.length vc1) σ (.slice la σ.L.length lc) (some (V6.heap.size, #[.int .i64 0, .int .i64 0, .int .i64 0, .int .i64 0, .int .i64 0, .slice none 0 0])) (some (V1.heap.size, #[.int .i64 0, .int .i64 0])) V7) := by rw [hV7]; exact R6.out.mkP _
            clear hV7
            refine hK.out _ _ ⟨R7.out.low, R7.out.box⟩ (fun _ => ?_)
            clear hK K
            try simp only [Act.put, List.setIfInBounds_toArray, List.set_cons_zero, List.set_cons_succ, List.getElem_toArray, List.getElem_cons_succ, List.getElem_cons_zero]
            refine wpAnyH_ready (rs := [11]) (by kernel_rfl) (by simp) ?_
            refine AllReadyH.cons rfl (fun K hK => ?_) AllReadyH.nil
            have hbb := (R7.out.pp _ _ rfl).1
            have r0 := blkCell hbb 0 _ rfl
            have gg0 := blkFree hbb 0
            have r1 := blkCell hbb 1 _ rfl
            have gg1 := blkFree hbb 1
            have r2 := blkCell hbb 2 _ rfl
            have gg2 := blkFree hbb 2
            have r3 := blkCell hbb 3 _ rfl
            have gg3 := blkFree hbb 3
            have r4 := blkCell hbb 4 _ rfl
            have gg4 := blkFree hbb 4
            have r5 := blkCell hbb 5 _ rfl
            have gg5 := blkFree hbb 5
            clear hbb
            go_simp
            clear r0 r1 r2 r3 r4 r5 gg0 gg1 gg2 gg3 gg4 gg5
            obtain ⟨V8, hV8⟩ : ∃ V8, V8 = ((((((V7.setCell ⟨V6.heap.size, 0, none⟩ (.int .i64 τ.day)).setCell ⟨V6.heap.size, 1, none⟩ (.int .i64 τ.rc)).setCell ⟨V6.heap.size, 2, none⟩ (.int .i64 τ.sd)).setCell ⟨V6.heap.size, 3, none⟩ (.int .i64 τ.wa)).setCell ⟨V6.heap.size, 4, none⟩ (.int .i64 τ.sh)).setCell ⟨V6.heap.size, 5, none⟩ (.slice va1 τ.L.length vc1)) := ⟨_, rfl⟩
            rw [← hV8]
            have R8 : Hid (SqR w k os g cp τ (.slice va1 τ.L.length vc1) σ (.slice la σ.L.length lc) (some (V6.heap.size, #[.int .i64 τ.day, .int .i64 τ.rc, .int .i64 τ.sd, .int .i64 τ.wa, .int .i64 τ.sh, .slice va1 τ.L.length vc1])) (some (V1.heap.size, #[.int .i64 0, .int .i64 0])) V8) := by rw [hV8]; exact R7.out.stP (.int .i64 τ.day) (.int .i64 τ.rc) (.int .i64 τ.sd) (.int .i64 τ.wa) (.int .i64 τ.sh) (.slice va1 τ.L.length vc1)
            clear hV8
            refine hK.out _ _ ⟨R8.out.low, R8.out.box⟩ (fun _ => ?_)
            clear hK K
            try simp only [Act.put, List.setIfInBounds_toArray, List.set_cons_zero, List.set_cons_succ, List.getElem_toArray, List.getElem_cons_succ, List.getElem_cons_zero]
            refine wpAnyH_ready (rs := [12]) (by kernel_rfl) (by simp) ?_
            refine AllReadyH.cons rfl (fun K hK => ?_) AllReadyH.nil
            have hbb := (R8.out.qq _ _ rfl).1
            have r0 := blkCell hbb 0 _ rfl
            have r1 := blkCell hbb 1 _ rfl
            have gg0 := blkFree hbb 0
            have gg1 := blkFree hbb 1
            clear hbb
            go_simp
            clear r0 r1 gg0 gg1
            obtain ⟨V9, hV9⟩ : ∃ V9, V9 = ((V8.setCell ⟨V1.heap.size, 0, none⟩ (.int .i64 ce)).setCell ⟨V1.heap.size, 1, none⟩ (.int .i64 cn)) := ⟨_, rfl⟩
            rw [← hV9]
            have R9 : Hid (SqR w k os g cp τ (.slice va1 τ.L.length vc1) σ (.slice la σ.L.length lc) (some (V6.heap.size, #[.int .i64 τ.day, .int .i64 τ.rc, .int .i64 τ.sd, .int .i64 τ.wa, .int .i64 τ.sh, .slice va1 τ.L.length vc1])) (some (V1.heap.size, #[.int .i64 ce, .int .i64 cn])) V9) := by rw [hV9]; exact R8.out.stQ (.int .i64 ce) (.int .i64 cn)
            clear hV9
            refine hK.out _ _ ⟨R9.out.low, R9.out.box⟩ (fun _ => ?_)
            clear hK K
            try simp only [Act.put, List.setIfInBounds_toArray, List.set_cons_zero, List.set_cons_succ, List.getElem_toArray, List.getElem_cons_succ, List.getElem_cons_zero]
            refine wpAnyH_done (by kernel_rfl) ?_ _
            go_wp2_with fail
            go_meet
            exact ⟨_, _, _, _, rfl, rfl, R9.out⟩
        · skip
          go_simp
          obtain ⟨V10, hV10⟩ : ∃ V10, V10 = W5.alloc (Obj.cells #[.int .i64 0, .int .i64 0, .int .i64 0, .int .i64 0, .int .i64 0, .slice none 0 0] 29) := ⟨_, rfl⟩
          rw [← hV10]
          have R10 : Hid (SqR w k os g cp σ (.slice la σ.L.length lc) σ (.slice la σ.L.length lc) (some (W5.heap.size, #[.int .i64 0, .int .i64 0, .int .i64 0, .int .i64 0, .int .i64 0, .slice none 0 0])) none V10) := by rw [hV10]; exact R0.out.mkP _
          clear hV10
          refine hK.out _ _ ⟨R10.out.low, R10.out.box⟩ (fun _ => ?_)
          clear hK K
          try simp only [Act.put, List.setIfInBounds_toArray, List.set_cons_zero, List.set_cons_succ, List.getElem_toArray, List.getElem_cons_succ, List.getElem_cons_zero]
          refine wpAnyH_ready (rs := [5, 10]) (by kernel_rfl) (by simp) ?_
          refine AllReadyH.cons rfl (fun K hK => ?_) (AllReadyH.cons rfl (fun K hK => ?_) AllReadyH.nil)
          · skip
            go_simp
            go_at_call 27
            refine (HAc.out _ R10.out.low.size R10.out.lots).mono ?_
            rintro e V11 ⟨va11, vc11, rfl, hk⟩
            have R11 : Hid (SqR w k os g cp τ (.slice va11 τ.L.length vc11) σ (.slice la σ.L.length lc) (some (W5.heap.size, #[.int .i64 0, .int .i64 0, .int .i64 0, .int .i64 0, .int .i64 0, .slice none 0 0])) none V11) := R10.out.call hk
            clear hk
            unfold stkV
            refine hK.out _ _ ⟨R11.out.low, R11.out.box⟩ (fun _ => ?_)
            clear hK K
            try simp only [Act.put, List.setIfInBounds_toArray, List.set_cons_zero, List.set_cons_succ, List.getElem_toArray, List.getElem_cons_succ, List.getElem_cons_zero]
            refine wpAnyH_take (i := 6) (v := .tuple #[.agg #[.int .i64 τ.day, .int .i64 τ.rc, .int .i64 τ.sd, .int .i64 τ.wa, .int .i64 τ.sh, .slice va11 τ.L.length vc11], .agg #[.int .i64 ce, .int .i64 cn]]) rfl (by kernel_rfl) (by kernel_rfl) (by kernel_rfl) (fun _ _ _ h => h) (Or.inl ⟨by rfl, fun w hSw => by go_simp⟩) ⟨R11.out.low, R11.out.box⟩ ?_
            try simp only [Act.put, List.setIfInBounds_toArray, List.set_cons_zero, List.set_cons_succ, List.getElem_toArray, List.getElem_cons_succ, List.getElem_cons_zero]
            refine wpAnyH_take (i := 7) (v := .agg #[.int .i64 τ.day, .int .i64 τ.rc, .int .i64 τ.sd, .int .i64 τ.wa, .int .i64 τ.sh, .slice va11 τ.L.length vc11]) rfl (by kernel_rfl) (by kernel_rfl) (by kernel_rfl) (fun _ _ _ h => h) (Or.inl ⟨by rfl, fun w hSw => by go_simp⟩) ⟨R11.out.low, R11.out.box⟩ ?_
            try simp only [Act.put, List.setIfInBounds_toArray, List.set_cons_zero, List.set_cons_succ, List.getElem_toArray, List.getElem_cons_succ, List.getElem_cons_zero]
            refine wpAnyH_take (i := 8) (v := .agg #[.int .i64 ce, .int .i64 cn]) rfl (by kernel_rfl) (by kernel_rfl) (by kernel_rfl) (fun _ _ _ h => h) (Or.inl ⟨by rfl, fun w hSw => by go_simp⟩) ⟨R11.out.low, R11.out.box⟩ ?_
            try simp only [Act.put, List.setIfInBounds_toArray, List.set_cons_zero, List.set_cons_succ, List.getElem_toArray, List.getElem_cons_succ, List.getElem_cons_zero]
            refine wpAnyH_ready (rs := [10]) (by kernel_rfl) (by simp) ?_
            refine AllReadyH.cons rfl (fun K hK => ?_) AllReadyH.nil
            go_simp
            obtain ⟨V12, hV12⟩ : ∃ V12, V12 = V11.alloc (Obj.cells #[.int .i64 0, .int .i64 0] 36) := ⟨_, rfl⟩
            rw [← hV12]
            have R12 : Hid (SqR w k os g cp τ (.slice va11 τ.L.length vc11) σ (.slice la σ.L.length lc) (some (W5.heap.size, #[.int .i64 0, .int .i64 0, .int .i64 0, .int .i64 0, .int .i64 0, .slice none 0 0])) (some (V11.heap.size, #[.int .i64 0, .int .i64 0])) V12) := by rw [hV12]; exact R11.out.mkQ _
            clear hV12
            refine hK.out _ _ ⟨R12.out.low, R12.out.box⟩ (fun _ => ?_)
            clear hK K
            try simp only [Act.put, List.setIfInBounds_toArray, List.set_cons_zero, List.set_cons_succ, List.getElem_toArray, List.getElem_cons_succ, List.getElem_cons_zero]
            refine wpAnyH_ready (rs := [11]) (by kernel_rfl) (by simp) ?_
            refine AllReadyH.cons rfl (fun K hK => ?_) AllReadyH.nil
            have hbb := (R12.out.pp _ _ rfl).1
            have r0 := blkCell hbb 0 _ rfl
            have gg0 := blkFree hbb 0
            have r1 := blkCell hbb 1 _ rfl
            have gg1 := blkFree hbb 1
            have r2 := blkCell hbb 2 _ rfl
            have gg2 := blkFree hbb 2
            have r3 := blkCell hbb 3 _ rfl
            have gg3 := blkFree hbb 3
            have r4 := blkCell hbb 4 _ rfl
            have gg4 := blkFree hbb 4
            have r5 := blkCell hbb 5 _ rfl
            have gg5 := blkFree hbb 5
            clear hbb
            go_simp
            clear r0 r1 r2 r3 r4 r5 gg0 gg1 gg2 gg3 gg4 gg5
            obtain ⟨V13, hV13⟩ : ∃ V13, V13 = ((((((V12.setCell ⟨W5.heap.size, 0, none⟩ (.int .i64 τ.day)).setCell ⟨W5.heap.size, 1, none⟩ (.int .i64 τ.rc)).setCell ⟨W5.heap.size, 2, none⟩ (.int .i64 τ.sd)).setCell ⟨W5.heap.size, 3, none⟩ (.int .i64 τ.wa)).setCell ⟨W5.heap.size, 4, none⟩ (.int .i64 τ.sh)).setCell ⟨W5.heap.size, 5, none⟩ (.slice va11 τ.L.length vc11)) := ⟨_, rfl⟩
            rw [← hV13]
            have R13 : Hid (SqR w k os g cp τ (.slice va11 τ.L.length vc11) σ (.slice la σ.L.length lc) (some (W5.heap.size, #[.int .i64 τ.day, .int .i64 τ.rc, .int .i64 τ.sd, .int .i64 τ.wa, .int .i64 τ.sh, .slice va11 τ.L.length vc11])) (some (V11.heap.size, #[.int .i64 0, .int .i64 0])) V13) := by rw [hV13]; exact R12.out.stP (.int .i64 τ.day) (.int .i64 τ.rc) (.int .i64 τ.sd) (.int .i64 τ.wa) (.int .i64 τ.sh) (.slice va11 τ.L.length vc11)
            clear hV13
            refine hK.out _ _ ⟨R13.out.low, R13.out.box⟩ (fun _ => ?_)
            clear hK K
            try simp only [Act.put, List.setIfInBounds_toArray, List.set_cons_zero, List.set_cons_succ, List.getElem_toArray, List.getElem_cons_succ, List.getElem_cons_zero]
            refine wpAnyH_ready (rs := [12]) (by kernel_rfl) (by simp) ?_
            refine AllReadyH.cons rfl (fun K hK => ?_) AllReadyH.nil
            have hbb := (R13.out.qq _ _ rfl).1
            have r0 := blkCell hbb 0 _ rfl
            have r1 := blkCell hbb 1 _ rfl
            have gg0 := blkFree hbb 0
            have gg1 := blkFree hbb 1
            clear hbb
            go_simp
            clear r0 r1 gg0 gg1
            obtain ⟨V14, hV14⟩ : ∃ V14, V14 = ((V13.setCell ⟨V11.heap.size, 0, none⟩ (.int .i64 ce)).setCell ⟨V11.heap.size, 1, none⟩ (.int .i64 cn)) := ⟨_, rfl⟩
            rw [← hV14]
            have R14 : Hid (SqR w k os g cp τ (.slice va11 τ.L.length vc11) σ (.slice la σ.L.length lc) (some (W5.heap.size, #[.int .i64 τ.day, .int .i64 τ.rc, .int .i64 τ.sd, .int .i64 τ.wa, .int .i64 τ.sh, .slice va11 τ.L.length vc11])) (some (V11.heap.size, #[.int .i64 ce, .int .i64 cn])) V14) := by rw [hV14]; exact R13.out.stQ (.int .i64 ce) (.int .i64 cn)
            clear hV14
            refine hK.out _ _ ⟨R14.out.low, R14.out.box⟩ (fun _ => ?_)
            clear hK K
            try simp only [Act.put, List.setIfInBounds_toArray, List.set_cons_zero, List.set_cons_succ, List.getElem_toArray, List.getElem_cons_succ, List.getElem_cons_zero]
            refine wpAnyH_done (by kernel_rfl) ?_ _
            go_wp2_with fail
            go_meet
            exact ⟨_, _, _, _, rfl, rfl, R14.out⟩
          · skip
            go_simp
            obtain ⟨V15, hV15⟩ : ∃ V15, V15 = V10.alloc (Obj.cells #[.int .i64 0, .int .i64 0] 36) := ⟨_, rfl⟩
            rw [← hV15]
            have R15 : Hid (SqR w k os g cp σ (.slice la σ.L.length lc) σ (.slice la σ.L.length lc) (some (W5.heap.size, #[.int .i64 0, .int .i64 0, .int .i64 0, .int .i64 0, .int .i64 0, .slice none 0 0])) (some (V10.heap.size, #[.int .i64 0, .int .i64 0])) V15) := by rw [hV15]; exact R10.out.mkQ _
            clear hV15
            refine hK.out _ _ ⟨R15.out.low, R15.out.box⟩ (fun _ => ?_)
            clear hK K
            try simp only [Act.put, List.setIfInBounds_toArray, List.set_cons_zero, List.set_cons_succ, List.getElem_toArray, List.getElem_cons_succ, List.getElem_cons_zero]
            refine wpAnyH_ready (rs := [5]) (by kernel_rfl) (by simp) ?_
            refine AllReadyH.cons rfl (fun K hK => ?_) AllReadyH.nil
            go_simp
            go_at_call 27
            refine (HAc.out _ R15.out.low.size R15.out.lots).mono ?_
            rintro e V16 ⟨va16, vc16, rfl, hk⟩
            have R16 : Hid (SqR w k os g cp τ (.slice va16 τ.L.length vc16) σ (.slice la σ.L.length lc) (some (W5.heap.size, #[.int .i64 0, .int .i64 0, .int .i64 0, .int .i64 0, .int .i64 0, .slice none 0 0])) (some (V10.heap.size, #[.int .i64 0, .int .i64 0])) V16) := R15.out.call hk
            clear hk
            unfold stkV
            refine hK.out _ _ ⟨R16.out.low, R16.out.box⟩ (fun _ => ?_)
            clear hK K
            try simp only [Act.put, List.setIfInBounds_toArray, List.set_cons_zero, List.set_cons_succ, List.getElem_toArray, List.getElem_cons_succ, List.getElem_cons_zero]
            refine wpAnyH_take (i := 6) (v := .tuple #[.agg #[.int .i64 τ.day, .int .i64 τ.rc, .int .i64 τ.sd, .int .i64 τ.wa, .int .i64 τ.sh, .slice va16 τ.L.length vc16], .agg #[.int .i64 ce, .int .i64 cn]]) rfl (by kernel_rfl) (by kernel_rfl) (by kernel_rfl) (fun _ _ _ h => h) (Or.inl ⟨by rfl, fun w hSw => by go_simp⟩) ⟨R16.out.low, R16.out.box⟩ ?_
            try simp only [Act.put, List.setIfInBounds_toArray, List.set_cons_zero, List.set_cons_succ, List.getElem_toArray, List.getElem_cons_succ, List.getElem_cons_zero]
            refine wpAnyH_take (i := 7) (v := .agg #[.int .i64 τ.day, .int .i64 τ.rc, .int .i64 τ.sd, .int .i64 τ.wa, .int .i64 τ.sh, .slice va16 τ.L.length vc16]) rfl (by kernel_rfl) (by kernel_rfl) (by kernel_rfl) (fun _ _ _ h => h) (Or.inl ⟨by rfl, fun w hSw => by go_simp⟩) ⟨R16.out.low, R16.out.box⟩ ?_
            try simp only [Act.put, List.setIfInBounds_toArray, List.set_cons_zero, List.set_cons_succ, List.getElem_toArray, List.getElem_cons_succ, List.getElem_cons_zero]
            refine wpAnyH_take (i := 8) (v := .agg #[.int .i64 ce, .int .i64 cn]) rfl (by kernel_rfl) (by kernel_rfl) (by kernel_rfl) (fun _ _ _ h => h) (Or.inl ⟨by rfl, fun w hSw => by go_simp⟩) ⟨R16.out.low, R16.out.box⟩ ?_
            try simp only [Act.put, List.setIfInBounds_toArray, List.set_cons_zero, List.set_cons_succ, List.getElem_toArray, List.getElem_cons_succ, List.getElem_cons_zero]
            refine wpAnyH_ready (rs := [11]) (by kernel_rfl) (by simp) ?_
            refine AllReadyH.cons rfl (fun K hK => ?_) AllReadyH.nil
            have hbb := (R16.out.pp _ _ rfl).1
            have r0 := blkCell hbb 0 _ rfl
            have gg0 := blkFree hbb 0
            have r1 := blkCell hbb 1 _ rfl
            have gg1 := blkFree hbb 1
            have r2 := blkCell hbb 2 _ rfl
            have gg2 := blkFree hbb 2
            have r3 := blkCell hbb 3 _ rfl
            have gg3 := blkFree hbb 3
            have r4 := blkCell hbb 4 _ rfl
            have gg4 := blkFree hbb 4
            have r5 := blkCell hbb 5 _ rfl
            have gg5 := blkFree hbb 5
            clear hbb
            go_simp
            clear r0 r1 r2 r3 r4 r5 gg0 gg1 gg2 gg3 gg4 gg5
            obtain ⟨V17, hV17⟩ : ∃ V17, V17 = ((((((V16.setCell ⟨W5.heap.size, 0, none⟩ (.int .i64 τ.day)).setCell ⟨W5.heap.size, 1, none⟩ (.int .i64 τ.rc)).setCell ⟨W5.heap.size, 2, none⟩ (.int .i64 τ.sd)).setCell ⟨W5.heap.size, 3, none⟩ (.int .i64 τ.wa)).setCell ⟨W5.heap.size, 4, none⟩ (.int .i64 τ.sh)).setCell ⟨W5.heap.size, 5, none⟩ (.slice va16 τ.L.length vc16)) := ⟨_, rfl⟩
            rw [← hV17]
            have R17 : Hid (SqR w k os g cp τ (.slice va16 τ.L.length vc16) σ (.slice la σ.L.length lc) (some (W5.heap.size, #[.int .i64 τ.day, .int .i64 τ.rc, .int .i64 τ.sd, .int .i64 τ.wa, .int .i64 τ.sh, .slice va16 τ.L.length vc16])) (some (V10.heap.size, #[.int .i64 0, .int .i64 0])) V17) := by rw [hV17]; exact R16.out.stP (.int .i64 τ.day) (.int .i64 τ.rc) (.int .i64 τ.sd) (.int .i64 τ.wa) (.int .i64 τ.sh) (.slice va16 τ.L.length vc16)
            clear hV17
            refine hK.out _ _ ⟨R17.out.low, R17.out.box⟩ (fun _ => ?_)
            clear hK K
            try simp only [Act.put, List.setIfInBounds_toArray, List.set_cons_zero, List.set_cons_succ, List.getElem_toArray, List.getElem_cons_succ, List.getElem_cons_zero]
            refine wpAnyH_ready (rs := [12]) (by kernel_rfl) (by simp) ?_
            refine AllReadyH.cons rfl (fun K hK => ?_) AllReadyH.nil
            have hbb := (R17.out.qq _ _ rfl).1
            have r0 := blkCell hbb 0 _ rfl
            have r1 := blkCell hbb 1 _ rfl
            have gg0 := blkFree hbb 0
            have gg1 := blkFree hbb 1
            clear hbb
            go_simp
            clear r0 r1 gg0 gg1
            obtain ⟨V18, hV18⟩ : ∃ V18, V18 = ((V17.setCell ⟨V10.heap.size, 0, none⟩ (.int .i64 ce)).setCell ⟨V10.heap.size, 1, none⟩ (.int .i64 cn)) := ⟨_, rfl⟩
            rw [← hV18]
            have R18 : Hid (SqR w k os g cp τ (.slice va16 τ.L.length vc16) σ (.slice la σ.L.length lc) (some (W5.heap.size, #[.int .i64 τ.day, .int .i64 τ.rc, .int .i64 τ.sd, .int .i64 τ.wa, .int .i64 τ.sh, .slice va16 τ.L.length vc16])) (some (V10.heap.size, #[.int .i64 ce, .int .i64 cn])) V18) := by rw [hV18]; exact R17.out.stQ (.int .i64 ce) (.int .i64 cn)
            clear hV18
            refine hK.out _ _ ⟨R18.out.low, R18.out.box⟩ (fun _ => ?_)
            clear hK K
            try simp only [Act.put, List.setIfInBounds_toArray, List.set_cons_zero, List.set_cons_succ, List.getElem_toArray, List.getElem_cons_succ, List.getElem_cons_zero]
            refine wpAnyH_done (by kernel_rfl) ?_ _
            go_wp2_with fail
            go_meet
            exact ⟨_, _, _, _, rfl, rfl, R18.out⟩
        · skip
          go_simp
          obtain ⟨V19, hV19⟩ : ∃ V19, V19 = W5.alloc (Obj.cells #[.int .i64 0, .int .i64 0] 36) := ⟨_, rfl⟩
          rw [← hV19]
          have R19 : Hid (SqR w k os g cp σ (.slice la σ.L.length lc) σ (.slice la σ.L.length lc) none (some (W5.heap.size, #[.int .i64 0, .int .i64 0])) V19) := by rw [hV19]; exact R0.out.mkQ _
          clear hV19
          refine hK.out _ _ ⟨R19.out.low, R19.out.box⟩ (fun _ => ?_)
          clear hK K
          try simp only [Act.put, List.setIfInBounds_toArray, List.set_cons_zero, List.set_cons_succ, List.getElem_toArray, List.getElem_cons_succ, List.getElem_cons_zero]
          refine wpAnyH_ready (rs := [5, 9]) (by kernel_rfl) (by simp) ?_
          refine AllReadyH.cons rfl (fun K hK => ?_) (AllReadyH.cons rfl (fun K hK => ?_) AllReadyH.nil)
          · skip
            go_simp
            go_at_call 27
            refine (HAc.out _ R19.out.low.size R19.out.lots).mono ?_
            rintro e V20 ⟨va20, vc20, rfl, hk⟩
            have R20 : Hid (SqR w k os g cp τ (.slice va20 τ.L.length vc20) σ (.slice la σ.L.length lc) none (some (W5.heap.size, #[.int .i64 0, .int .i64 0])) V20) := R19.out.call hk
            clear hk
            unfold stkV
            refine hK.out _ _ ⟨R20.out.low, R20.out.box⟩ (fun _ => ?_)
            clear hK K
            try simp only [Act.put, List.setIfInBounds_toArray, List.set_cons_zero, List.set_cons_succ, List.getElem_toArray, List.getElem_cons_succ, List.getElem_cons_zero]
            refine wpAnyH_take (i := 6) (v := .tuple #[.agg #[.int .i64 τ.day, .int .i64 τ.rc, .int .i64 τ.sd, .int .i64 τ.wa, .int .i64 τ.sh, .slice va20 τ.L.length vc20], .agg #[.int .i64 ce, .int .i64 cn]]) rfl (by kernel_rfl) (by kernel_rfl) (by kernel_rfl) (fun _ _ _ h => h) (Or.inl ⟨by rfl, fun w hSw => by go_simp⟩) ⟨R20.out.low, R20.out.box⟩ ?_
            try simp only [Act.put, List.setIfInBounds_toArray, List.set_cons_zero, List.set_cons_succ, List.getElem_toArray, List.getElem_cons_succ, List.getElem_cons_zero]
            refine wpAnyH_take (i := 7) (v := .agg #[.int .i64 τ.day, .int .i64 τ.rc, .int .i64 τ.sd, .int .i64 τ.wa, .int .i64 τ.sh, .slice va20 τ.L.length vc20]) rfl (by kernel_rfl) (by kernel_rfl) (by kernel_rfl) (fun _ _ _ h => h) (Or.inl ⟨by rfl, fun w hSw => by go_simp⟩) ⟨R20.out.low, R20.out.box⟩ ?_
            try simp only [Act.put, List.setIfInBounds_toArray, List.set_cons_zero, List.set_cons_succ, List.getElem_toArray, List.getElem_cons_succ, List.getElem_cons_zero]
            refine wpAnyH_take (i := 8) (v := .agg #[.int .i64 ce, .int .i64 cn]) rfl (by kernel_rfl) (by kernel_rfl) (by kernel_rfl) (fun _ _ _ h => h) (Or.inl ⟨by rfl, fun w hSw => by go_simp⟩) ⟨R20.out.low, R20.out.box⟩ ?_
            try simp only [Act.put, List.setIfInBounds_toArray, List.set_cons_zero, List.set_cons_succ, List.getElem_toArray, List.getElem_cons_succ, List.getElem_cons_zero]
            refine wpAnyH_ready (rs := [9]) (by kernel_rfl) (by simp) ?_
            refine AllReadyH.cons rfl (fun K hK => ?_) AllReadyH.nil
            go_simp
            obtain ⟨V21, hV21⟩ : ∃ V21, V21 = V20.alloc (Obj.cells #[.int .i64 0, .int .i64 0, .int .i64 0, .int .i64 0, .int .i64 0, .slice none 0 0] 29) := ⟨_, rfl⟩
            rw [← hV21]
            have R21 : Hid (SqR w k os g cp τ (.slice va20 τ.L.length vc20) σ (.slice la σ.L.length lc) (some (V20.heap.size, #[.int .i64 0, .int .i64 0, .int .i64 0, .int .i64 0, .int .i64 0, .slice none 0 0])) (some (W5.heap.size, #[.int .i64 0, .int .i64 0])) V21) := by rw [hV21]; exact R20.out.mkP _
            clear hV21
            refine hK.out _ _ ⟨R21.out.low, R21.out.box⟩ (fun _ => ?_)
            clear hK K
            try simp only [Act.put, List.setIfInBounds_toArray, List.set_cons_zero, List.set_cons_succ, List.getElem_toArray, List.getElem_cons_succ, List.getElem_cons_zero]
            refine wpAnyH_ready (rs := [11]) (by kernel_rfl) (by simp) ?_
            refine AllReadyH.cons rfl (fun K hK => ?_) AllReadyH.nil
            have hbb := (R21.out.pp _ _ rfl).1
            have r0 := blkCell hbb 0 _ rfl
            have gg0 := blkFree hbb 0
            have r1 := blkCell hbb 1 _ rfl
            have gg1 := blkFree hbb 1
            have r2 := blkCell hbb 2 _ rfl
            have gg2 := blkFree hbb 2
            have r3 := blkCell hbb 3 _ rfl
            have gg3 := blkFree hbb 3
            have r4 := blkCell hbb 4 _ rfl
            have gg4 := blkFree hbb 4
            have r5 := blkCell hbb 5 _ rfl
            have gg5 := blkFree hbb 5
            clear hbb
            go_simp
            clear r0 r1 r2 r3 r4 r5 gg0 gg1 gg2 gg3 gg4 gg5
            obtain ⟨V22, hV22⟩ : ∃ V22, V22 = ((((((V21.setCell ⟨V20.heap.size, 0, none⟩ (.int .i64 τ.day)).setCell ⟨V20.heap.size, 1, none⟩ (.int .i64 τ.rc)).setCell ⟨V20.heap.size, 2, none⟩ (.int .i64 τ.sd)).setCell ⟨V20.heap.size, 3, none⟩ (.int .i64 τ.wa)).setCell ⟨V20.heap.size, 4, none⟩ (.int .i64 τ.sh)).setCell ⟨V20.heap.size, 5, none⟩ (.slice va20 τ.L.length vc20)) := ⟨_, rfl⟩
            rw [← hV22]
            have R22 : Hid (SqR w k os g cp τ (.slice va20 τ.L.length vc20) σ (.slice la σ.L.length lc) (some (V20.heap.size, #[.int .i64 τ.day, .int .i64 τ.rc, .int .i64 τ.sd, .int .i64 τ.wa, .int .i64 τ.sh, .slice va20 τ.L.length vc20])) (some (W5.heap.size, #[.int .i64 0, .int .i64 0])) V22) := by rw [hV22]; exact R21.out.stP (.int .i64 τ.day) (.int .i64 τ.rc) (.int .i64 τ.sd) (.int .i64 τ.wa) (.int .i64 τ.sh) (.slice va20 τ.L.length vc20)
            clear hV22
            refine hK.out _ _ ⟨R22.out.low, R22.out.box⟩ (fun _ => ?_)
            clear hK K
            try simp only [Act.put, List.setIfInBounds_toArray, List.set_cons_zero, List.set_cons_succ, List.getElem_toArray, List.getElem_cons_succ, List.getElem_cons_zero]
            refine wpAnyH_ready (rs := [12]) (by kernel_rfl) (by simp) ?_
            refine AllReadyH.cons rfl (fun K hK => ?_) AllReadyH.nil
            have hbb := (R22.out.qq _ _ rfl).1
            have r0 := blkCell hbb 0 _ rfl
            have r1 := blkCell hbb 1 _ rfl
            have gg0 := blkFree hbb 0
            have gg1 := blkFree hbb 1
            clear hbb
            go_simp
            clear r0 r1 gg0 gg1
            obtain ⟨V23, hV23⟩ : ∃ V23, V23 = ((V22.setCell ⟨W5.heap.size, 0, none⟩ (.int .i64 ce)).setCell ⟨W5.heap.size, 1, none⟩ (.int .i64 cn)) := ⟨_, rfl⟩
            rw [← hV23]
            have R23 : Hid (SqR w k os g cp τ (.slice va20 τ.L.length vc20) σ (.slice la σ.L.length lc) (some (V20.heap.size, #[.int .i64 τ.day, .int .i64 τ.rc, .int .i64 τ.sd, .int .i64 τ.wa, .int .i64 τ.sh, .slice va20 τ.L.length vc20])) (some (W5.heap.size, #[.int .i64 ce, .int .i64 cn])) V23) := by rw [hV23]; exact R22.out.stQ (.int .i64 ce) (.int .i64 cn)
            clear hV23
            refine hK.out _ _ ⟨R23.out.low, R23.out.box⟩ (fun _ => ?_)
            clear hK K
            try simp only [Act.put, List.setIfInBounds_toArray, List.set_cons_zero, List.set_cons_succ, List.getElem_toArray, List.getElem_cons_succ, List.getElem_cons_zero]
            refine wpAnyH_done (by kernel_rfl) ?_ _
            go_wp2_with fail
            go_meet
            exact ⟨_, _, _, _, rfl, rfl, R23.out⟩
          · skip
            go_simp
            obtain ⟨V24, hV24⟩ : ∃ V24, V24 = V19.alloc (Obj.cells #[.int .i64 0, .int .i64 0, .int .i64 0, .int .i64 0, .int .i64 0, .slice none 0 0] 29) := ⟨_, rfl⟩
            rw [← hV24]
            have R24 : Hid (SqR w k os g cp σ (.slice la σ.L.length lc) σ (.slice la σ.L.length lc) (some (V19.heap.size, #[.int .i64 0, .int .i64 0, .int .i64 0, .int .i64 0, .int .i64 0, .slice none 0 0])) (some (W5.heap.size, #[.int .i64 0, .int .i64 0])) V24) := by rw [hV24]; exact R19.out.mkP _
            clear hV24
            refine hK.out _ _ ⟨R24.out.low, R24.out.box⟩ (fun _ => ?_)
            clear hK K
            try simp only [Act.put, List.setIfInBounds_toArray, List.set_cons_zero, List.set_cons_succ, List.getElem_toArray, List.getElem_cons_succ, List.getElem_cons_zero]
            refine wpAnyH_ready (rs := [5]) (by kernel_rfl) (by simp) ?_
            refine AllReadyH.cons rfl (fun K hK => ?_) AllReadyH.nil
            go_simp
            go_at_call 27
            refine (HAc.out _ R24.out.low.size R24.out.lots).mono ?_
            rintro e V25 ⟨va25, vc25, rfl, hk⟩
            have R25 : Hid (SqR w k os g cp τ (.slice va25 τ.L.length vc25) σ (.slice la σ.L.length lc) (some (V19.heap.size, #[.int .i64 0, .int .i64 0, .int .i64 0, .int .i64 0, .int .i64 0, .slice none 0 0])) (some (W5.heap.size, #[.int .i64 0, .int .i64 0])) V25) := R24.out.call hk
            clear hk
            unfold stkV
            refine hK.out _ _ ⟨R25.out.low, R25.out.box⟩ (fun _ => ?_)
            clear hK K
            try simp only [Act.put, List.setIfInBounds_toArray, List.set_cons_zero, List.set_cons_succ, List.getElem_toArray, List.getElem_cons_succ, List.getElem_cons_zero]
            refine wpAnyH_take (i := 6) (v := .tuple #[.agg #[.int .i64 τ.day, .int .i64 τ.rc, .int .i64 τ.sd, .int .i64 τ.wa, .int .i64 τ.sh, .slice va25 τ.L.length vc25], .agg #[.int .i64 ce, .int .i64 cn]]) rfl (by kernel_rfl) (by kernel_rfl) (by kernel_rfl) (fun _ _ _ h => h) (Or.inl ⟨by rfl, fun w hSw => by go_simp⟩) ⟨R25.out.low, R25.out.box⟩ ?_
            try simp only [Act.put, List.setIfInBounds_toArray, List.set_cons_zero, List.set_cons_succ, List.getElem_toArray, List.getElem_cons_succ, List.getElem_cons_zero]
            refine wpAnyH_take (i := 7) (v := .agg #[.int .i64 τ.day, .int .i64 τ.rc, .int .i64 τ.sd, .int .i64 τ.wa, .int .i64 τ.sh, .slice va25 τ.L.length vc25]) rfl (by kernel_rfl) (by kernel_rfl) (by kernel_rfl) (fun _ _ _ h => h) (Or.inl ⟨by rfl, fun w hSw => by go_simp⟩) ⟨R25.out.low, R25.out.box⟩ ?_
            try simp only [Act.put, List.setIfInBounds_toArray, List.set_cons_zero, List.set_cons_succ, List.getElem_toArray, List.getElem_cons_succ, List.getElem_cons_zero]
            refine wpAnyH_take (i := 8) (v := .agg #[.int .i64 ce, .int .i64 cn]) rfl (by kernel_rfl) (by kernel_rfl) (by kernel_rfl) (fun _ _ _ h => h) (Or.inl ⟨by rfl, fun w hSw => by go_simp⟩) ⟨R25.out.low, R25.out.box⟩ ?_
            try simp only [Act.put, List.setIfInBounds_toArray, List.set_cons_zero, List.set_cons_succ, List.getElem_toArray, List.getElem_cons_succ, List.getElem_cons_zero]
            refine wpAnyH_ready (rs := [11]) (by kernel_rfl) (by simp) ?_
            refine AllReadyH.cons rfl (fun K hK => ?_) AllReadyH.nil
            have hbb := (R25.out.pp _ _ rfl).1
            have r0 := blkCell hbb 0 _ rfl
            have gg0 := blkFree hbb 0
            have r1 := blkCell hbb 1 _ rfl
            have gg1 := blkFree hbb 1
            have r2 := blkCell hbb 2 _ rfl
            have gg2 := blkFree hbb 2
            have r3 := blkCell hbb 3 _ rfl
            have gg3 := blkFree hbb 3
            have r4 := blkCell hbb 4 _ rfl
            have gg4 := blkFree hbb 4
            have r5 := blkCell hbb 5 _ rfl
            have gg5 := blkFree hbb 5
            clear hbb
            go_simp
            clear r0 r1 r2 r3 r4 r5 gg0 gg1 gg2 gg3 gg4 gg5
            obtain ⟨V26, hV26⟩ : ∃ V26, V26 = ((((((V25.setCell ⟨V19.heap.size, 0, none⟩ (.int .i64 τ.day)).setCell ⟨V19.heap.size, 1, none⟩ (.int .i64 τ.rc)).setCell ⟨V19.heap.size, 2, none⟩ (.int .i64 τ.sd)).setCell ⟨V19.heap.size, 3, none⟩ (.int .i64 τ.wa)).setCell ⟨V19.heap.size, 4, none⟩ (.int .i64 τ.sh)).setCell ⟨V19.heap.size, 5, none⟩ (.slice va25 τ.L.length vc25)) := ⟨_, rfl⟩
            rw [← hV26]
            have R26 : Hid (SqR w k os g cp τ (.slice va25 τ.L.length vc25) σ (.slice la σ.L.length lc) (some (V19.heap.size, #[.int .i64 τ.day, .int .i64 τ.rc, .int .i64 τ.sd, .int .i64 τ.wa, .int .i64 τ.sh, .slice va25 τ.L.length vc25])) (some (W5.heap.size, #[.int .i64 0, .int .i64 0])) V26) := by rw [hV26]; exact R25.out.stP (.int .i64 τ.day) (.int .i64 τ.rc) (.int .i64 τ.sd) (.int .i64 τ.wa) (.int .i64 τ.sh) (.slice va25 τ.L.length vc25)
            clear hV26
            refine hK.out _ _ ⟨R26.out.low, R26.out.box⟩ (fun _ => ?_)
            clear hK K
            try simp only [Act.put, List.setIfInBounds_toArray, List.set_cons_zero, List.set_cons_succ, List.getElem_toArray, List.getElem_cons_succ, List.getElem_cons_zero]
            refine wpAnyH_ready (rs := [12]) (by kernel_rfl) (by simp) ?_
            refine AllReadyH.cons rfl (fun K hK => ?_) AllReadyH.nil
            have hbb := (R26.out.qq _ _ rfl).1
            have r0 := blkCell hbb 0 _ rfl
            have r1 := blkCell hbb 1 _ rfl
            have gg0 := blkFree hbb 0
            have gg1 := blkFree hbb 1
            clear hbb
            go_simp
            clear r0 r1 gg0 gg1
            obtain ⟨V27, hV27⟩ : ∃ V27, V27 = ((V26.setCell ⟨W5.heap.size, 0, none⟩ (.int .i64 ce)).setCell ⟨W5.heap.size, 1, none⟩ (.int .i64 cn)) := ⟨_, rfl⟩
            rw [← hV27]
            have R27 : Hid (SqR w k os g cp τ (.slice va25 τ.L.length vc25) σ (.slice la σ.L.length lc) (some (V19.heap.size, #[.int .i64 τ.day, .int .i64 τ.rc, .int .i64 τ.sd, .int .i64 τ.wa, .int .i64 τ.sh, .slice va25 τ.L.length vc25])) (some (W5.heap.size, #[.int .i64 ce, .int .i64 cn])) V27) := by rw [hV27]; exact R26.out.stQ (.int .i64 ce) (.int .i64 cn)
            clear hV27
            refine hK.out _ _ ⟨R27.out.low, R27.out.box⟩ (fun _ => ?_)
            clear hK K
            try simp only [Act.put, List.setIfInBounds_toArray, List.set_cons_zero, List.set_cons_succ, List.getElem_toArray, List.getElem_cons_succ, List.getElem_cons_zero]
            refine wpAnyH_done (by kernel_rfl) ?_ _
            go_wp2_with fail
            go_meet
            exact ⟨_, _, _, _, rfl, rfl, R27.out⟩
      case rest =>
        obtain ⟨pb, qb, va, vc, rfl, rfl, hR⟩ := hcut
        have HP : Hid (SqR w k os g cp τ (.slice va τ.L.length vc) τ (.slice va τ.L.length vc) none (some (qb, #[.int .i64 ce, .int .i64 cn])) ((((((wc.setCell ⟨w.heap.size + 1, 0, none⟩ (.int .i64 τ.day)).setCell ⟨w.heap.size + 1, 1, none⟩ (.int .i64 τ.rc)).setCell ⟨w.heap.size + 1, 2, none⟩ (.int .i64 τ.sd)).setCell ⟨w.heap.size + 1, 3, none⟩ (.int .i64 τ.wa)).setCell ⟨w.heap.size + 1, 4, none⟩ (.int .i64 τ.sh)).setCell ⟨w.heap.size + 1, 5, none⟩ (.slice va τ.L.length vc))) := hR.turn
        have hpb := (hR.pp _ _ rfl).1
        have hbx := hR.box
        have p0 := blkCell hpb 0 _ rfl
        have r0 := blkCell hbx 0 _ rfl
        have gg0 := blkFree hbx 0
        have p1 := blkCell hpb 1 _ rfl
        have r1 := blkCell hbx 1 _ rfl
        have gg1 := blkFree hbx 1
        have p2 := blkCell hpb 2 _ rfl
        have r2 := blkCell hbx 2 _ rfl
        have gg2 := blkFree hbx 2
        have p3 := blkCell hpb 3 _ rfl
        have r3 := blkCell hbx 3 _ rfl
        have gg3 := blkFree hbx 3
        have p4 := blkCell hpb 4 _ rfl
        have r4 := blkCell hbx 4 _ rfl
        have gg4 := blkFree hbx 4
        have p5 := blkCell hpb 5 _ rfl
        have r5 := blkCell hbx 5 _ rfl
        have gg5 := blkFree hbx 5
        clear hpb hbx hR
        obtain ⟨We, hWe⟩ : ∃ We, We = ((((((wc.setCell ⟨w.heap.size + 1, 0, none⟩ (.int .i64 τ.day)).setCell ⟨w.heap.size + 1, 1, none⟩ (.int .i64 τ.rc)).setCell ⟨w.heap.size + 1, 2, none⟩ (.int .i64 τ.sd)).setCell ⟨w.heap.size + 1, 3, none⟩ (.int .i64 τ.wa)).setCell ⟨w.heap.size + 1, 4, none⟩ (.int .i64 τ.sh)).setCell ⟨w.heap.size + 1, 5, none⟩ (.slice va τ.L.length vc)) := ⟨_, rfl⟩
        rw [← hWe] at HP
        go_upto_region 12 with fail
        rw [← hWe]
        clear hWe p0 p1 p2 p3 p4 p5 r0 r1 r2 r3 r4 r5 gg0 gg1 gg2 gg3 gg4 gg5
        have hqb := (HP.out.qq _ _ rfl).1
        have q0 := blkCell hqb 0 _ rfl
        have q1 := blkCell hqb 1 _ rfl
        clear hqb
        have H6 : Hid (SqR w k os g cp τ (.slice va τ.L.length vc) τ (.slice va τ.L.length vc) none (some (qb, #[.int .i64 ce, .int .i64 cn])) (We.alloc (Obj.cells #[.int .i64 ce, .int .i64 cn] 36)) ∧ (We.alloc (Obj.cells #[.int .i64 ce, .int .i64 cn] 36)).heap[We.heap.size]? = some (.cells #[.int .i64 ce, .int .i64 cn] 36 (0, 0))) := ⟨HP.out.later (below_alloc _ _), heapNew _ _⟩
        clear HP
        go_wp2_with (at_builtin; refine wpList_append_lies _ rfl _ _ 26 rfl w.heap.size 36 j0 (.agg #[.int .i64 0, .int .i64 0]) 2 16 Try.underlying26 hj hj0 hj1 hj2 rfl (by decide) _ _ _ rfl H6.out.1.told ⟨We.heap.size, 0, none⟩ 1 1 [.int .i64 ce, .int .i64 cn] rfl rfl (World.news_of_block H6.out.2) (by simp [Value.oneCell']) (by omega) (by unfold maxLen; omega) (by omega) H6.out.1.low.size _ rfl ?_; intro g1 cp1 w9 hown1 hgrow1 hat1 hglt1; have HX : Hid (SqR w (k + 1) (os ++ [(ce, cn)]) g1 cp1 τ (.slice va τ.L.length vc) τ (.slice va τ.L.length vc) none none w9) := H6.out.1.push hown1 hgrow1; clear hown1 hgrow1 hat1 hglt1 H6 q0 q1)
        (try go_roundw)
        first
        | (refine ⟨⟨k + 1, g1, cp1, va, vc, by omega, by go_num, rfl, ?_⟩, by simp [intOf]; omega⟩
           rw [← HNo.out, ← HNs.out]
           exact HX.out)
        | (case rel =>
             refine ⟨k + 1, g1, cp1, va, vc, by omega, by go_num, rfl, ?_⟩
             rw [← HNo.out, ← HNs.out]
             exact HX.out
           case measure => simp [intOf]; omega)
    · skip
      obtain rfl : k = rs.length := by omega
      have hol := stO_len rs rs.length
      have HT0 := HS.out
      obtain ⟨⟨sd, src, ssd, swa, ssh, sL⟩, hσ⟩ : ∃ σ', stR rs rs.length = σ' := ⟨_, rfl⟩
      obtain ⟨os, hos⟩ : ∃ os, stO rs rs.length = os := ⟨_, rfl⟩
      have HSg : Hid (stR rs rs.length = ⟨sd, src, ssd, swa, ssh, sL⟩) := hσ
      have HOs : Hid (stO rs rs.length = os) := hos
      rw [hσ, hos] at HT0
      rw [hos] at hol
      dsimp only at HT0
      have HT : Hid (SqR w rs.length os g cp ⟨sd, src, ssd, swa, ssh, sL⟩ (.slice la sL.length lc) ⟨sd, src, ssd, swa, ssh, sL⟩ (.slice la sL.length lc) none none wr.drew) := HT0.later (below_drew _)
      clear hσ hos HT0 HS HR HOk
      go_wp2_with fail
      refine wp_region_held_drew (S := fun W => W.heap[w.heap.size + 1]? = some (.cells #[.int .i64 sd, .int .i64 src, .int .i64 ssd, .int .i64 swa, .int .i64 ssh, .slice la sL.length lc] 29 (0, 0))) (by kernel_rfl) HT.out.box (fun hH => ?_)
      generalize wr.drew = Wd at *
      refine wpAnyH_take (i := 0) (v := .slice (some ⟨g, 0, none⟩) rs.length cp) rfl (by kernel_rfl) (by kernel_rfl) (by kernel_rfl) (fun _ _ _ h => h) (Or.inl ⟨by rfl, fun w hSw => by go_simp⟩) hH ?_
      refine wpAnyH_take (i := 1) (v := .agg #[.int .i64 sd, .int .i64 src, .int .i64 ssd, .int .i64 swa, .int .i64 ssh, .slice la sL.length lc]) rfl (by kernel_rfl) (by kernel_rfl) (by kernel_rfl) (fun _ _ _ h => h) (Or.inl ⟨by rfl, fun w hSw => by have f0 := blkCell hSw 0 _ rfl; have f1 := blkCell hSw 1 _ rfl; have f2 := blkCell hSw 2 _ rfl; have f3 := blkCell hSw 3 _ rfl; have f4 := blkCell hSw 4 _ rfl; have f5 := blkCell hSw 5 _ rfl; clear hSw; go_simp⟩) hH ?_
      try simp only [Act.put, List.setIfInBounds_toArray, List.set_cons_zero, List.set_cons_succ, List.getElem_toArray, List.getElem_cons_succ, List.getElem_cons_zero]
      refine wpAnyH_take (i := 2) (v := .slice (some ⟨g, 0, none⟩) rs.length cp) rfl (by kernel_rfl) (by kernel_rfl) (by kernel_rfl) (fun _ _ _ h => h) (Or.inl ⟨by rfl, fun w hSw => by go_simp⟩) hH ?_
      try simp only [Act.put, List.setIfInBounds_toArray, List.set_cons_zero, List.set_cons_succ, List.getElem_toArray, List.getElem_cons_succ, List.getElem_cons_zero]
      have hres := HT.out.res
      have y0 := blkCell hres 0 _ rfl
      have z0 := blkFree hres 0
      have y1 := blkCell hres 1 _ rfl
      have z1 := blkFree hres 1
      have y2 := blkCell hres 2 _ rfl
      have z2 := blkFree hres 2
      have y3 := blkCell hres 3 _ rfl
      have z3 := blkFree hres 3
      have y4 := blkCell hres 4 _ rfl
      have z4 := blkFree hres 4
      have y5 := blkCell hres 5 _ rfl
      have z5 := blkFree hres 5

      obtain ⟨e1, e2⟩ := six hres (.int .i64 sd) (.int .i64 src) (.int .i64 ssd) (.int .i64 swa) (.int .i64 ssh) (.slice la sL.length lc)
      have hbx := (e2.block _ (blkLt HT.out.box) (by omega)).trans HT.out.box
      have HEnd : Hid (((((((Wd.setCell ⟨w.heap.size, 0, none⟩ (.int .i64 sd)).setCell ⟨w.heap.size, 1, none⟩ (.int .i64 src)).setCell ⟨w.heap.size, 2, none⟩ (.int .i64 ssd)).setCell ⟨w.heap.size, 3, none⟩ (.int .i64 swa)).setCell ⟨w.heap.size, 4, none⟩ (.int .i64 ssh)).setCell ⟨w.heap.size, 5, none⟩ (.slice la sL.length lc)).heap[w.heap.size]? = some (.cells #[.int .i64 sd, .int .i64 src, .int .i64 ssd, .int .i64 swa, .int .i64 ssh, .slice la sL.length lc] 29 (0, 0)) ∧ AnsK w.heap.size os sL (.slice (some ⟨g, 0, none⟩) rs.length cp) (.slice la sL.length lc) ((((((Wd.setCell ⟨w.heap.size, 0, none⟩ (.int .i64 sd)).setCell ⟨w.heap.size, 1, none⟩ (.int .i64 src)).setCell ⟨w.heap.size, 2, none⟩ (.int .i64 ssd)).setCell ⟨w.heap.size, 3, none⟩ (.int .i64 swa)).setCell ⟨w.heap.size, 4, none⟩ (.int .i64 ssh)).setCell ⟨w.heap.size, 5, none⟩ (.slice la sL.length lc)) ∧ Below w.heap.size w ((((((Wd.setCell ⟨w.heap.size, 0, none⟩ (.int .i64 sd)).setCell ⟨w.heap.size, 1, none⟩ (.int .i64 src)).setCell ⟨w.heap.size, 2, none⟩ (.int .i64 ssd)).setCell ⟨w.heap.size, 3, none⟩ (.int .i64 swa)).setCell ⟨w.heap.size, 4, none⟩ (.int .i64 ssh)).setCell ⟨w.heap.size, 5, none⟩ (.slice la sL.length lc))) := by
        have hT := HT.out
        refine ⟨e1, ⟨?_, row_of hT.lots (fun q hq => e2.block q (row_lt hT.lots q hq).2 (fun e => ?_))⟩, Fr.below hT.low e2 hT.low.size (fun q hq => by omega)⟩
        · rw [hol]
          refine row_of hT.told (fun q hq => e2.block q (row_lt hT.told q hq).2 (fun e => ?_))
          obtain ⟨cur, hc⟩ := row_type hT.told hq
          rw [e, hres] at hc
          simp at hc
        · obtain ⟨cur, hc⟩ := row_type hT.lots hq
          rw [e, hres] at hc
          simp at hc
      clear e1 e2 hres
      refine wpAnyH_ready (rs := [3]) (by kernel_rfl) (by simp) ?_
      refine AllReadyH.cons rfl (fun K hK => ?_) AllReadyH.nil
      go_simp
      refine hK.out _ _ hbx (fun _ => ?_)
      clear hK K
      try simp only [Act.put, List.setIfInBounds_toArray, List.set_cons_zero, List.set_cons_succ, List.getElem_toArray, List.getElem_cons_succ, List.getElem_cons_zero]
      refine wpAnyH_take (i := 4) (v := .int .i64 0) rfl (by kernel_rfl) (by kernel_rfl) (by kernel_rfl) (fun _ _ _ h => h) (Or.inl ⟨by rfl, fun w hSw => by go_simp⟩) hbx ?_
      try simp only [Act.put, List.setIfInBounds_toArray, List.set_cons_zero, List.set_cons_succ, List.getElem_toArray, List.getElem_cons_succ, List.getElem_cons_zero]
      refine wpAnyH_done (by kernel_rfl) ?_ _
      clear hbx hH HT y0 y1 y2 y3 y4 y5 z0 z1 z2 z3 z4 z5
      obtain ⟨k1, k2, k3⟩ := HEnd.out
      clear HEnd
      generalize ((((((Wd.setCell ⟨w.heap.size, 0, none⟩ (.int .i64 sd)).setCell ⟨w.heap.size, 1, none⟩ (.int .i64 src)).setCell ⟨w.heap.size, 2, none⟩ (.int .i64 ssd)).setCell ⟨w.heap.size, 3, none⟩ (.int .i64 swa)).setCell ⟨w.heap.size, 4, none⟩ (.int .i64 ssh)).setCell ⟨w.heap.size, 5, none⟩ (.slice la sL.length lc)) = W9 at *
      have p0 := blkCell k1 0 _ rfl
      have p1 := blkCell k1 1 _ rfl
      have p2 := blkCell k1 2 _ rfl
      have p3 := blkCell k1 3 _ rfl
      have p4 := blkCell k1 4 _ rfl
      have p5 := blkCell k1 5 _ rfl
      have K2 : Hid (AnsK w.heap.size os sL (.slice (some ⟨g, 0, none⟩) rs.length cp) (.slice la sL.length lc) W9 ∧ Below w.heap.size w W9) := ⟨k2, k3⟩
      clear k1 k2 k3
      go_wp2
      exact bodyPost_ret (v := .tuple #[.slice (some ⟨g, 0, none⟩) rs.length cp, .agg #[.int .i64 sd, .int .i64 src, .int .i64 ssd, .int .i64 swa, .int .i64 ssh, .slice la sL.length lc], .int .i64 0]) (by simp [results, Try.results11, go_sem, p0, p1, p2, p3, p4, p5]) rfl (by rw [HSg.out, HOs.out]; exact ⟨_, _, rfl, K2.out.1, K2.out.2⟩)
end Go.Proofs.Ytdhdecbdcfdmeaa

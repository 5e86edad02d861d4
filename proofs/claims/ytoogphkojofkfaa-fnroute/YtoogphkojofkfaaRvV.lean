/-
  Contract of a trip's step, the program's visit, for all trips and stops that are right.
-/
import Derived.Test.YtoogphkojofkfaaRvB
import Derived.Deep.DeepCutAuto
namespace Go.Proofs.Ytoogphkojofkfaa
open Go.ChangeShapes Go.WideShapes Go.ChangeAt Go.RowKit Go.Joins Go.Deep
set_option linter.unusedVariables false

/-- A trip's step is made: the new trip lies in block nb. -/
def VtE (B tb sb rb : Nat) (TB SB : Array Value) (ga : Option Addr) (gc : Nat) (L : List Int) (ha : Option Addr) (hc : Nat) (M : List Int) (p q : Int) (W1 : World) (s : RHp) (wn ln : Int) (nb : Nat) (wx : World) : Prop :=
  ∃ g1 c1 g2 c2, VtI B tb sb rb TB SB ga gc L ha hc M p q W1 none none (some (g1, c1)) (some (g2, c2)) none wx ∧ wx.heap[nb]? = some (.cells #[.slice (some ⟨g1, 0, none⟩) (L.length + 1) c1, .slice (some ⟨g2, 0, none⟩) (M.length + 1) c2, .int .i64 wn, .int .i64 ln, .int .i64 s.x, .int .i64 s.y, .int .i64 s.fr, .int .i64 s.to, .int .i64 s.sy] 57 (0, 0)) ∧ nb ≠ rb
theorem VtI.drop {B tb sb rb : Nat} {TB SB : Array Value} {ga : Option Addr} {gc : Nat} {L : List Int} {ha : Option Addr} {hc : Nat} {M : List Int} {p q : Int} {W0 : World} {o3 o8 : Option Nat} {r4 r9 : Option (Nat × Nat)} {bx : Option Nat} {wr : World} (h : VtI B tb sb rb TB SB ga gc L ha hc M p q W0 o3 o8 r4 r9 bx wr) : VtI B tb sb rb TB SB ga gc L ha hc M p q W0 none none r4 r9 none wr :=
  { h with a3 := fun b e => (by cases e), a8 := fun b e => (by cases e), a22 := fun b e => (by cases e) }
/-- A block of a trip that none of the rest speaks of is written. -/
theorem VtI.put {B tb sb rb : Nat} {TB SB : Array Value} {ga : Option Addr} {gc : Nat} {L : List Int} {ha : Option Addr} {hc : Nat} {M : List Int} {p q : Int} {W0 : World} {r4 r9 : Option (Nat × Nat)} {wr w' : World} {nb : Nat} {V : Array Value} (h : VtI B tb sb rb TB SB ga gc L ha hc M p q W0 none none r4 r9 none wr) (hb : wr.heap[nb]? = some (.cells V 57 (0, 0))) (hn : W0.heap.size ≤ nb) (ht : nb ≠ tb) (hr : nb ≠ rb) (hk : ∀ d, d ≠ nb → w'.heap[d]? = wr.heap[d]?) (hf : Fr (fun x => Value.ownBlock (.slice ga L.length gc) = some x ∨ Value.ownBlock (.slice ha M.length hc) = some x) W0 w') : VtI B tb sb rb TB SB ga gc L ha hc M p q W0 none none r4 r9 none w' := by
  have hrow : ∀ {v : Value} {n : Nat} {xs : List Value}, wr.ownsRow B 3 1 v n xs → w'.ownsRow B 3 1 v n xs := fun {v n xs} hv => row_of hv (fun x hx => hk x (fun e => by
    obtain ⟨cur, hc⟩ := row_type hv hx
    rw [e] at hc
    exact type_ne hb hc (by decide) rfl))
  exact { low := h.low, ltL := h.ltL, ltM := h.ltM, sep := h.sep, fr := hf, t := (hk _ ht.symm).trans h.t, s := (hk _ (fun e => type_ne hb h.s (by decide) e.symm)).trans h.s, r := (hk _ hr.symm).trans h.r, rowL := hrow h.rowL, rowM := hrow h.rowM, a3 := fun b e => (by cases e), a8 := fun b e => (by cases e), a4 := fun g c e => ⟨hrow (h.a4 g c e).1, (h.a4 g c e).2⟩, a9 := fun g c e => ⟨hrow (h.a9 g c e).1, (h.a9 g c e).2⟩, a22 := fun b e => (by cases e) }
theorem VtI.fin {B tb sb rb : Nat} {TB SB : Array Value} {ga : Option Addr} {gc : Nat} {L : List Int} {ha : Option Addr} {hc : Nat} {M : List Int} {p q : Int} {W1 : World} {o3 o8 : Option Nat} {g1 c1 g2 c2 nb : Nat} {V : World} (s : RHp) (wn ln : Int) (h : VtI B tb sb rb TB SB ga gc L ha hc M p q W1 o3 o8 (some (g1, c1)) (some (g2, c2)) (some nb) V) (ht : tb < W1.heap.size) :
    VtE B tb sb rb TB SB ga gc L ha hc M p q W1 s wn ln nb (((((((((V.setCell ⟨nb, 0, none⟩ (.slice (some ⟨g1, 0, none⟩) (L.length + 1) c1)).setCell ⟨nb, 1, none⟩ (.slice (some ⟨g2, 0, none⟩) (M.length + 1) c2)).setCell ⟨nb, 2, none⟩ (.int .i64 wn)).setCell ⟨nb, 3, none⟩ (.int .i64 ln)).setCell ⟨nb, 4, none⟩ (.int .i64 s.x)).setCell ⟨nb, 5, none⟩ (.int .i64 s.y)).setCell ⟨nb, 6, none⟩ (.int .i64 s.fr)).setCell ⟨nb, 7, none⟩ (.int .i64 s.to)).setCell ⟨nb, 8, none⟩ (.int .i64 s.sy)) := by
  obtain ⟨k1, k2, k3⟩ := h.a22 nb rfl
  obtain ⟨e1, e2⟩ := set_nine k2 (.slice (some ⟨g1, 0, none⟩) (L.length + 1) c1) (.slice (some ⟨g2, 0, none⟩) (M.length + 1) c2) (.int .i64 wn) (.int .i64 ln) (.int .i64 s.x) (.int .i64 s.y) (.int .i64 s.fr) (.int .i64 s.to) (.int .i64 s.sy)
  exact ⟨g1, c1, g2, c2, h.drop.put k2 k1 (by omega) k3 e2 (((((((((h.fr.setNew k1 _ _).setNew k1 _ _).setNew k1 _ _).setNew k1 _ _).setNew k1 _ _).setNew k1 _ _).setNew k1 _ _).setNew k1 _ _).setNew k1 _ _), e1, k3⟩
/-- What a trip's step answers. -/
def VtQ (B : Nat) (ga : Option Addr) (gc : Nat) (L : List Int) (ha : Option Addr) (hc : Nat) (M : List Int) (p : Int) (s : RHp) (ar wn ln : Int) (W : World) (e : Ending) (w' : World) : Prop :=
  ∃ g1 c1 g2 c2, e = .returned (.tuple #[.agg #[.slice (some ⟨g1, 0, none⟩) (L.length + 1) c1, .slice (some ⟨g2, 0, none⟩) (M.length + 1) c2, .int .i64 wn, .int .i64 ln, .int .i64 s.x, .int .i64 s.y, .int .i64 s.fr, .int .i64 s.to, .int .i64 s.sy], .bool (decide (ar ≤ s.to))]) ∧
    w'.ownsRow B 3 1 (.slice (some ⟨g1, 0, none⟩) (L.length + 1) c1) (L.length + 1) (inV (L ++ [p])) ∧ ((ga = some ⟨g1, 0, none⟩ ∧ c1 = gc) ∨ W.heap.size ≤ g1) ∧
    w'.ownsRow B 3 1 (.slice (some ⟨g2, 0, none⟩) (M.length + 1) c2) (M.length + 1) (inV (M ++ [ar])) ∧ ((ha = some ⟨g2, 0, none⟩ ∧ c2 = hc) ∨ W.heap.size ≤ g2) ∧ g1 ≠ g2 ∧
    w'.ownsRow B 3 1 (.slice ga L.length gc) L.length (inV L) ∧ w'.ownsRow B 3 1 (.slice ha M.length hc) M.length (inV M) ∧
    Fr (fun x => Value.ownBlock (.slice ga L.length gc) = some x ∨ Value.ownBlock (.slice ha M.length hc) = some x) W w'
def arN (lv : Int) (h s : RHp) : Int := lv + farH h s
def stN (lv : Int) (h s : RHp) : Int := max (arN lv h s) s.fr
def lvN (lv : Int) (h s : RHp) : Int := stN lv h s + s.sy
def wtN (wt lv : Int) (h s : RHp) : Int := wt + stN lv h s - arN lv h s
set_option maxHeartbeats 16000000 in
set_option maxRecDepth 8000 in
theorem visit_any (B : Nat) (ga : Option Addr) (gc : Nat) (L : List Int) (ha : Option Addr) (hc : Nat) (M : List Int) (wt lv : Int) (h s : RHp) (p : Int) (hh : hpIn h) (hs : hpB s = true) (hlL : L.length ≤ 1000) (hlM : M.length ≤ 1000) (hlv : 0 ≤ lv ∧ lv ≤ 100000000) (hwt : 0 ≤ wt ∧ wt ≤ 100000000) (W : World) (hB : B ≤ W.heap.size) (hL : W.ownsRow B 3 1 (.slice ga L.length gc) L.length (inV L)) (hM : W.ownsRow B 3 1 (.slice ha M.length hc) M.length (inV M)) (hsep : ∀ x, Value.ownBlock (.slice ga L.length gc) = some x → Value.ownBlock (.slice ha M.length hc) ≠ some x) :
    Calls Try.prog 29 #[.agg #[.slice ga L.length gc, .slice ha M.length hc, .int .i64 wt, .int .i64 lv, .int .i64 h.x, .int .i64 h.y, .int .i64 h.fr, .int .i64 h.to, .int .i64 h.sy], .int .i64 p, .agg #[.int .i64 s.x, .int .i64 s.y, .int .i64 s.fr, .int .i64 s.to, .int .i64 s.sy]] W (VtQ B ga gc L ha hc M p s (arN lv h s) (wtN wt lv h s) (lvN lv h s) W) := by
  have hsf := hp_facts hs
  have hbd := farH_bd hh (hp_in hs)
  have HTo : Hid (∀ W, Calls Try.prog 51 #[.agg #[.int .i64 h.x, .int .i64 h.y, .int .i64 h.fr, .int .i64 h.to, .int .i64 h.sy], .int .i64 s.x, .int .i64 s.y] W fun e w' => e = .returned (.int .i64 (farH h s)) ∧ Below W.heap.size W w') := fun W => impTo_any h s hh (hp_in hs) W
  obtain ⟨ar, har⟩ : ∃ ar, arN lv h s = ar := ⟨_, rfl⟩
  obtain ⟨sn, hsn⟩ : ∃ sn, stN lv h s = sn := ⟨_, rfl⟩
  obtain ⟨ln, hln⟩ : ∃ ln, lvN lv h s = ln := ⟨_, rfl⟩
  obtain ⟨wn, hwn⟩ : ∃ wn, wtN wt lv h s = wn := ⟨_, rfl⟩
  rw [har, hln, hwn]
  unfold wtN at hwn
  unfold lvN at hln
  rw [hsn] at hln hwn
  unfold stN at hsn
  rw [har] at hsn hwn
  unfold arN at har
  generalize farH h s = far at *
  have w1 : IntKind.i64.wrap (lv + far) = ar := by rw [wrap_id _ (by omega) (by omega)]; exact har
  have w2 : max ar s.fr = sn := hsn
  have w3 : IntKind.i64.wrap (wt + sn) = wt + sn := wrap_id _ (by omega) (by omega)
  have w4 : IntKind.i64.wrap (wt + sn - ar) = wn := by rw [wrap_id _ (by omega) (by omega)]; exact hwn
  have w5 : IntKind.i64.wrap (sn + s.sy) = ln := by rw [wrap_id _ (by omega) (by omega)]; exact hln
  have w6 : (if ar < s.fr then s.fr else ar) = sn := by rw [← hsn]; split <;> omega
  have HlL : Hid (L.length ≤ 1000) := hlL
  have HlM : Hid (M.length ≤ 1000) := hlM
  have HWr : Hid ((IntKind.i64.wrap (lv + far) = ar ∧ max ar s.fr = sn) ∧ IntKind.i64.wrap (wt + sn) = wt + sn ∧ IntKind.i64.wrap (wt + sn - ar) = wn ∧ IntKind.i64.wrap (sn + s.sy) = ln ∧ (if ar < s.fr then s.fr else ar) = sn) := ⟨⟨w1, w2⟩, w3, w4, w5, w6⟩
  clear har hsn hln hwn hsf hbd hh hs hlL hlM hlv hwt w1 w2 w3 w4 w5 w6
  obtain ⟨tb, htb⟩ : ∃ tb, tb = W.heap.size := ⟨_, rfl⟩
  obtain ⟨sb, hsb⟩ : ∃ sb, sb = W.heap.size + 1 := ⟨_, rfl⟩
  obtain ⟨rb, hrb⟩ : ∃ rb, rb = W.heap.size + 1 + 1 := ⟨_, rfl⟩
  obtain ⟨W1, hW1⟩ : ∃ W1, W1 = ((W.alloc (Obj.cells #[.slice ga L.length gc, .slice ha M.length hc, .int .i64 wt, .int .i64 lv, .int .i64 h.x, .int .i64 h.y, .int .i64 h.fr, .int .i64 h.to, .int .i64 h.sy] 57)).alloc (Obj.cells #[.int .i64 s.x, .int .i64 s.y, .int .i64 s.fr, .int .i64 s.to, .int .i64 s.sy] 37)).alloc (Obj.cells #[.slice none 0 0, .slice none 0 0, .int .i64 0, .int .i64 0, .int .i64 0, .int .i64 0, .int .i64 0, .int .i64 0, .int .i64 0] 57) := ⟨_, rfl⟩
  have HE : Hid (W1 = ((W.alloc (Obj.cells #[.slice ga L.length gc, .slice ha M.length hc, .int .i64 wt, .int .i64 lv, .int .i64 h.x, .int .i64 h.y, .int .i64 h.fr, .int .i64 h.to, .int .i64 h.sy] 57)).alloc (Obj.cells #[.int .i64 s.x, .int .i64 s.y, .int .i64 s.fr, .int .i64 s.to, .int .i64 s.sy] 37)).alloc (Obj.cells #[.slice none 0 0, .slice none 0 0, .int .i64 0, .int .i64 0, .int .i64 0, .int .i64 0, .int .i64 0, .int .i64 0, .int .i64 0] 57) ∧ tb = W.heap.size ∧ sb = W.heap.size + 1 ∧ rb = W.heap.size + 1 + 1) := ⟨hW1, htb, hsb, hrb⟩
  have HL1 : Hid (Below W.heap.size W W1) := by rw [hW1]; exact chain (chain (below_alloc _ _) (below_alloc _ _)) (below_alloc _ _)
  have HTb : Hid (tb < W1.heap.size) := by show tb < W1.heap.size; rw [hW1, htb]; simp only [World.size_alloc]; omega
  have HTr : Hid (rb < W1.heap.size ∧ rb ≠ tb) := by refine (show rb < W1.heap.size ∧ rb ≠ tb from ⟨?_, by omega⟩); rw [hW1, hrb]; simp only [World.size_alloc]; omega
  have HI1 : Hid (VtI B tb sb rb #[.slice ga L.length gc, .slice ha M.length hc, .int .i64 wt, .int .i64 lv, .int .i64 h.x, .int .i64 h.y, .int .i64 h.fr, .int .i64 h.to, .int .i64 h.sy] #[.int .i64 s.x, .int .i64 s.y, .int .i64 s.fr, .int .i64 s.to, .int .i64 s.sy] ga gc L ha hc M p ar W1 none none none none none W1) := {
    low := Nat.le_trans hB HL1.out.size
    ltL := fun x hx => Nat.lt_of_lt_of_le (row_lt hL x hx).2 HL1.out.size
    ltM := fun x hx => Nat.lt_of_lt_of_le (row_lt hM x hx).2 HL1.out.size
    sep := hsep
    fr := Fr.refl _ _
    t := by rw [hW1, htb]; exact (Below.heap_alloc _ _ _ (by simp only [World.size_alloc]; omega)).trans ((Below.heap_alloc _ _ _ (by simp only [World.size_alloc]; omega)).trans (heapNew _ _))
    s := by rw [hW1, hsb]; exact (Below.heap_alloc _ _ _ (by simp only [World.size_alloc]; omega)).trans (by have := heapNew (W.alloc (Obj.cells #[.slice ga L.length gc, .slice ha M.length hc, .int .i64 wt, .int .i64 lv, .int .i64 h.x, .int .i64 h.y, .int .i64 h.fr, .int .i64 h.to, .int .i64 h.sy] 57)) (Obj.cells #[.int .i64 s.x, .int .i64 s.y, .int .i64 s.fr, .int .i64 s.to, .int .i64 s.sy] 37); simpa using this)
    r := by rw [hW1, hrb]; have := heapNew ((W.alloc (Obj.cells #[.slice ga L.length gc, .slice ha M.length hc, .int .i64 wt, .int .i64 lv, .int .i64 h.x, .int .i64 h.y, .int .i64 h.fr, .int .i64 h.to, .int .i64 h.sy] 57)).alloc (Obj.cells #[.int .i64 s.x, .int .i64 s.y, .int .i64 s.fr, .int .i64 s.to, .int .i64 s.sy] 37)) (Obj.cells #[.slice none 0 0, .slice none 0 0, .int .i64 0, .int .i64 0, .int .i64 0, .int .i64 0, .int .i64 0, .int .i64 0, .int .i64 0] 57); simpa using this
    rowL := row_of hL (fun x hx => HL1.out.block x (row_lt hL x hx).2)
    rowM := row_of hM (fun x hx => HL1.out.block x (row_lt hM x hx).2)
    a3 := fun b e => (by cases e)
    a8 := fun b e => (by cases e)
    a4 := fun g c e => (by cases e)
    a9 := fun g c e => (by cases e)
    a22 := fun b e => (by cases e) }
  have HC : Hid (∀ W : World, (W.heap[tb]? = some (.cells #[.slice ga L.length gc, .slice ha M.length hc, .int .i64 wt, .int .i64 lv, .int .i64 h.x, .int .i64 h.y, .int .i64 h.fr, .int .i64 h.to, .int .i64 h.sy] 57 (0, 0)) ∧ W.heap[sb]? = some (.cells #[.int .i64 s.x, .int .i64 s.y, .int .i64 s.fr, .int .i64 s.to, .int .i64 s.sy] 37 (0, 0))) → (W.cell? ⟨tb, 0, none⟩ = some (.slice ga L.length gc) ∧ W.cell? ⟨tb, 1, none⟩ = some (.slice ha M.length hc) ∧ W.cell? ⟨tb, 2, none⟩ = some (.int .i64 wt) ∧ W.cell? ⟨tb, 3, none⟩ = some (.int .i64 lv) ∧ W.cell? ⟨tb, 4, none⟩ = some (.int .i64 h.x) ∧ W.cell? ⟨tb, 5, none⟩ = some (.int .i64 h.y) ∧ W.cell? ⟨tb, 6, none⟩ = some (.int .i64 h.fr) ∧ W.cell? ⟨tb, 7, none⟩ = some (.int .i64 h.to) ∧ W.cell? ⟨tb, 8, none⟩ = some (.int .i64 h.sy)) ∧ (W.cell? ⟨sb, 0, none⟩ = some (.int .i64 s.x) ∧ W.cell? ⟨sb, 1, none⟩ = some (.int .i64 s.y) ∧ W.cell? ⟨sb, 2, none⟩ = some (.int .i64 s.fr) ∧ W.cell? ⟨sb, 3, none⟩ = some (.int .i64 s.to) ∧ W.cell? ⟨sb, 4, none⟩ = some (.int .i64 s.sy))) := fun W hW => ⟨⟨blkCell hW.1 0 _ rfl, blkCell hW.1 1 _ rfl, blkCell hW.1 2 _ rfl, blkCell hW.1 3 _ rfl, blkCell hW.1 4 _ rfl, blkCell hW.1 5 _ rfl, blkCell hW.1 6 _ rfl, blkCell hW.1 7 _ rfl, blkCell hW.1 8 _ rfl⟩, ⟨blkCell hW.2 0 _ rfl, blkCell hW.2 1 _ rfl, blkCell hW.2 2 _ rfl, blkCell hW.2 3 _ rfl, blkCell hW.2 4 _ rfl⟩⟩
  clear hB hL hM hsep hW1 htb hsb hrb
  go_enter Try.func29, Try.ntmps29
  go_upto_region 1 with fail
  rw [← HE.out.2.2.2, ← HE.out.2.2.1, ← HE.out.2.1, ← HE.out.1]
  obtain ⟨⟨w1, w2⟩, w3, w4, w5, w6⟩ := HWr.out
  refine wp_region_held_drew (S := fun W => (W.heap[tb]? = some (.cells #[.slice ga L.length gc, .slice ha M.length hc, .int .i64 wt, .int .i64 lv, .int .i64 h.x, .int .i64 h.y, .int .i64 h.fr, .int .i64 h.to, .int .i64 h.sy] 57 (0, 0)) ∧ W.heap[sb]? = some (.cells #[.int .i64 s.x, .int .i64 s.y, .int .i64 s.fr, .int .i64 s.to, .int .i64 s.sy] 37 (0, 0)))) (by kernel_rfl) ⟨HI1.out.t, HI1.out.s⟩ (fun hH => ?_)
  refine wpAnyH_take (i := 0) (v := .pointer (some ⟨tb, 3, none⟩)) rfl (by kernel_rfl) (by kernel_rfl) (by kernel_rfl) (fun _ _ _ h => h) (Or.inl ⟨by rfl, fun w hSw => by clear hSw; go_simp⟩) hH ?_
  refine wpAnyH_take (i := 1) (v := .int .i64 lv) rfl (by kernel_rfl) (by kernel_rfl) (by kernel_rfl) (fun _ _ _ h => h) (Or.inl ⟨by rfl, fun w hSw => by obtain ⟨f0, f1, f2, f3, f4, f5, f6, f7, f8⟩ := (HC.out w hSw).1; clear hSw; go_simp⟩) hH ?_
  try simp only [Act.put, List.setIfInBounds_toArray, List.set_cons_zero, List.set_cons_succ, List.getElem_toArray, List.getElem_cons_succ, List.getElem_cons_zero]
  refine wpAnyH_take (i := 2) (v := .pointer (some ⟨tb, 4, none⟩)) rfl (by kernel_rfl) (by kernel_rfl) (by kernel_rfl) (fun _ _ _ h => h) (Or.inl ⟨by rfl, fun w hSw => by clear hSw; go_simp⟩) hH ?_
  try simp only [Act.put, List.setIfInBounds_toArray, List.set_cons_zero, List.set_cons_succ, List.getElem_toArray, List.getElem_cons_succ, List.getElem_cons_zero]
  refine wpAnyH_take (i := 3) (v := .agg #[.int .i64 h.x, .int .i64 h.y, .int .i64 h.fr, .int .i64 h.to, .int .i64 h.sy]) rfl (by kernel_rfl) (by kernel_rfl) (by kernel_rfl) (fun _ _ _ h => h) (Or.inl ⟨by rfl, fun w hSw => by obtain ⟨f0, f1, f2, f3, f4, f5, f6, f7, f8⟩ := (HC.out w hSw).1; clear hSw; go_simp⟩) hH ?_
  try simp only [Act.put, List.setIfInBounds_toArray, List.set_cons_zero, List.set_cons_succ, List.getElem_toArray, List.getElem_cons_succ, List.getElem_cons_zero]
  refine wpAnyH_take (i := 4) (v := .pointer (some ⟨sb, 0, none⟩)) rfl (by kernel_rfl) (by kernel_rfl) (by kernel_rfl) (fun _ _ _ h => h) (Or.inl ⟨by rfl, fun w hSw => by clear hSw; go_simp⟩) hH ?_
  try simp only [Act.put, List.setIfInBounds_toArray, List.set_cons_zero, List.set_cons_succ, List.getElem_toArray, List.getElem_cons_succ, List.getElem_cons_zero]
  refine wpAnyH_take (i := 5) (v := .int .i64 s.x) rfl (by kernel_rfl) (by kernel_rfl) (by kernel_rfl) (fun _ _ _ h => h) (Or.inl ⟨by rfl, fun w hSw => by obtain ⟨f0, f1, f2, f3, f4⟩ := (HC.out w hSw).2; clear hSw; go_simp⟩) hH ?_
  try simp only [Act.put, List.setIfInBounds_toArray, List.set_cons_zero, List.set_cons_succ, List.getElem_toArray, List.getElem_cons_succ, List.getElem_cons_zero]
  refine wpAnyH_take (i := 6) (v := .pointer (some ⟨sb, 1, none⟩)) rfl (by kernel_rfl) (by kernel_rfl) (by kernel_rfl) (fun _ _ _ h => h) (Or.inl ⟨by rfl, fun w hSw => by clear hSw; go_simp⟩) hH ?_
  try simp only [Act.put, List.setIfInBounds_toArray, List.set_cons_zero, List.set_cons_succ, List.getElem_toArray, List.getElem_cons_succ, List.getElem_cons_zero]
  refine wpAnyH_take (i := 7) (v := .int .i64 s.y) rfl (by kernel_rfl) (by kernel_rfl) (by kernel_rfl) (fun _ _ _ h => h) (Or.inl ⟨by rfl, fun w hSw => by obtain ⟨f0, f1, f2, f3, f4⟩ := (HC.out w hSw).2; clear hSw; go_simp⟩) hH ?_
  try simp only [Act.put, List.setIfInBounds_toArray, List.set_cons_zero, List.set_cons_succ, List.getElem_toArray, List.getElem_cons_succ, List.getElem_cons_zero]
  refine wpAnyH_ready (rs := [8]) (by kernel_rfl) (by simp) ?_
  refine AllReadyH.cons rfl (fun K hK => ?_) AllReadyH.nil
  go_simp
  go_at_call 51
  refine (HTo.out _).mono ?_
  rintro e w9 ⟨rfl, hb9⟩
  have HI2 : Hid (VtI B tb sb rb #[.slice ga L.length gc, .slice ha M.length hc, .int .i64 wt, .int .i64 lv, .int .i64 h.x, .int .i64 h.y, .int .i64 h.fr, .int .i64 h.to, .int .i64 h.sy] #[.int .i64 s.x, .int .i64 s.y, .int .i64 s.fr, .int .i64 s.to, .int .i64 s.sy] ga gc L ha hc M p ar W1 none none none none none w9) := (HI1.out.later (below_drew _)).later hb9
  clear hb9
  refine hK.out _ _ ⟨HI2.out.t, HI2.out.s⟩ (fun _ => ?_)
  clear hK K
  try simp only [Act.put, List.setIfInBounds_toArray, List.set_cons_zero, List.set_cons_succ, List.getElem_toArray, List.getElem_cons_succ, List.getElem_cons_zero]
  refine wpAnyH_take (i := 9) (v := .int .i64 ar) rfl (by kernel_rfl) (by kernel_rfl) (by kernel_rfl) (fun _ _ _ h => h) (Or.inl ⟨by rfl, fun w hSw => by clear hSw; go_simp⟩) ⟨HI2.out.t, HI2.out.s⟩ ?_
  try simp only [Act.put, List.setIfInBounds_toArray, List.set_cons_zero, List.set_cons_succ, List.getElem_toArray, List.getElem_cons_succ, List.getElem_cons_zero]
  refine wpAnyH_take (i := 10) (v := .int .i64 ar) rfl (by kernel_rfl) (by kernel_rfl) (by kernel_rfl) (fun _ _ _ h => h) (Or.inl ⟨by rfl, fun w hSw => by clear hSw; go_simp⟩) ⟨HI2.out.t, HI2.out.s⟩ ?_
  try simp only [Act.put, List.setIfInBounds_toArray, List.set_cons_zero, List.set_cons_succ, List.getElem_toArray, List.getElem_cons_succ, List.getElem_cons_zero]
  refine wpAnyH_done (by kernel_rfl) ?_ _
  clear hH HI1 HTo
  obtain ⟨f0, f1, f2, f3, f4⟩ := (HC.out w9 ⟨HI2.out.t, HI2.out.s⟩).2
  go_upto_region 3 with fail
  clear f0 f1 f2 f3 f4
  go_cut [10] from 25 to 46 (fun t10 wx => ∃ nb, t10 = .pointer (some ⟨nb, 0, none⟩) ∧ VtE B tb sb rb #[.slice ga L.length gc, .slice ha M.length hc, .int .i64 wt, .int .i64 lv, .int .i64 h.x, .int .i64 h.y, .int .i64 h.fr, .int .i64 h.to, .int .i64 h.sy] #[.int .i64 s.x, .int .i64 s.y, .int .i64 s.fr, .int .i64 s.to, .int .i64 s.sy] ga gc L ha hc M p ar W1 s wn ln nb wx)
  case first =>
    have R0 : Hid (VtI B tb sb rb #[.slice ga L.length gc, .slice ha M.length hc, .int .i64 wt, .int .i64 lv, .int .i64 h.x, .int .i64 h.y, .int .i64 h.fr, .int .i64 h.to, .int .i64 h.sy] #[.int .i64 s.x, .int .i64 s.y, .int .i64 s.fr, .int .i64 s.to, .int .i64 s.sy] ga gc L ha hc M p ar W1 none none none none none w9.drew) := HI2.out.later (below_drew _)
    clear HI2
    refine wp_region_held_drew (S := fun W => (W.heap[tb]? = some (.cells #[.slice ga L.length gc, .slice ha M.length hc, .int .i64 wt, .int .i64 lv, .int .i64 h.x, .int .i64 h.y, .int .i64 h.fr, .int .i64 h.to, .int .i64 h.sy] 57 (0, 0)) ∧ W.heap[sb]? = some (.cells #[.int .i64 s.x, .int .i64 s.y, .int .i64 s.fr, .int .i64 s.to, .int .i64 s.sy] 37 (0, 0)))) (by kernel_rfl) ⟨R0.out.t, R0.out.s⟩ (fun hH => ?_)
    generalize w9.drew = V0 at *
    refine wpAnyH_take (i := 0) (v := .pointer (some ⟨tb, 0, none⟩)) rfl (by kernel_rfl) (by kernel_rfl) (by kernel_rfl) (fun _ _ _ h => h) (Or.inl ⟨by rfl, fun w hSw => by clear hSw; go_simp⟩) hH ?_
    refine wpAnyH_take (i := 1) (v := .slice ga L.length gc) rfl (by kernel_rfl) (by kernel_rfl) (by kernel_rfl) (fun _ _ _ h => h) (Or.inl ⟨by rfl, fun w hSw => by obtain ⟨f0, f1, f2, f3, f4, f5, f6, f7, f8⟩ := (HC.out w hSw).1; clear hSw; go_simp⟩) hH ?_
    try simp only [Act.put, List.setIfInBounds_toArray, List.set_cons_zero, List.set_cons_succ, List.getElem_toArray, List.getElem_cons_succ, List.getElem_cons_zero]
    refine wpAnyH_take (i := 2) (v := .int .i64 p) rfl (by kernel_rfl) (by kernel_rfl) (by kernel_rfl) (fun _ _ _ h => h) (Or.inl ⟨by rfl, fun w hSw => by clear hSw; go_simp⟩) hH ?_
    try simp only [Act.put, List.setIfInBounds_toArray, List.set_cons_zero, List.set_cons_succ, List.getElem_toArray, List.getElem_cons_succ, List.getElem_cons_zero]
    refine wpAnyH_take (i := 5) (v := .pointer (some ⟨tb, 1, none⟩)) rfl (by kernel_rfl) (by kernel_rfl) (by kernel_rfl) (fun _ _ _ h => h) (Or.inl ⟨by rfl, fun w hSw => by clear hSw; go_simp⟩) hH ?_
    try simp only [Act.put, List.setIfInBounds_toArray, List.set_cons_zero, List.set_cons_succ, List.getElem_toArray, List.getElem_cons_succ, List.getElem_cons_zero]
    refine wpAnyH_take (i := 6) (v := .slice ha M.length hc) rfl (by kernel_rfl) (by kernel_rfl) (by kernel_rfl) (fun _ _ _ h => h) (Or.inl ⟨by rfl, fun w hSw => by obtain ⟨f0, f1, f2, f3, f4, f5, f6, f7, f8⟩ := (HC.out w hSw).1; clear hSw; go_simp⟩) hH ?_
    try simp only [Act.put, List.setIfInBounds_toArray, List.set_cons_zero, List.set_cons_succ, List.getElem_toArray, List.getElem_cons_succ, List.getElem_cons_zero]
    refine wpAnyH_take (i := 7) (v := .int .i64 ar) rfl (by kernel_rfl) (by kernel_rfl) (by kernel_rfl) (fun _ _ _ h => h) (Or.inl ⟨by rfl, fun w hSw => by clear hSw; go_simp⟩) hH ?_
    try simp only [Act.put, List.setIfInBounds_toArray, List.set_cons_zero, List.set_cons_succ, List.getElem_toArray, List.getElem_cons_succ, List.getElem_cons_zero]
    refine wpAnyH_take (i := 10) (v := .pointer (some ⟨tb, 2, none⟩)) rfl (by kernel_rfl) (by kernel_rfl) (by kernel_rfl) (fun _ _ _ h => h) (Or.inl ⟨by rfl, fun w hSw => by clear hSw; go_simp⟩) hH ?_
    try simp only [Act.put, List.setIfInBounds_toArray, List.set_cons_zero, List.set_cons_succ, List.getElem_toArray, List.getElem_cons_succ, List.getElem_cons_zero]
    refine wpAnyH_take (i := 11) (v := .int .i64 wt) rfl (by kernel_rfl) (by kernel_rfl) (by kernel_rfl) (fun _ _ _ h => h) (Or.inl ⟨by rfl, fun w hSw => by obtain ⟨f0, f1, f2, f3, f4, f5, f6, f7, f8⟩ := (HC.out w hSw).1; clear hSw; go_simp⟩) hH ?_
    try simp only [Act.put, List.setIfInBounds_toArray, List.set_cons_zero, List.set_cons_succ, List.getElem_toArray, List.getElem_cons_succ, List.getElem_cons_zero]
    refine wpAnyH_take (i := 12) (v := .int .i64 sn) rfl (by kernel_rfl) (by kernel_rfl) (by kernel_rfl) (fun _ _ _ h => h) (Or.inl ⟨by rfl, fun w hSw => by clear hSw; go_simp⟩) hH ?_
    try simp only [Act.put, List.setIfInBounds_toArray, List.set_cons_zero, List.set_cons_succ, List.getElem_toArray, List.getElem_cons_succ, List.getElem_cons_zero]
    refine wpAnyH_take (i := 13) (v := .int .i64 (wt + sn)) rfl (by kernel_rfl) (by kernel_rfl) (by kernel_rfl) (fun _ _ _ h => h) (Or.inl ⟨by rfl, fun w hSw => by clear hSw; go_simp⟩) hH ?_
    try simp only [Act.put, List.setIfInBounds_toArray, List.set_cons_zero, List.set_cons_succ, List.getElem_toArray, List.getElem_cons_succ, List.getElem_cons_zero]
    refine wpAnyH_take (i := 14) (v := .int .i64 ar) rfl (by kernel_rfl) (by kernel_rfl) (by kernel_rfl) (fun _ _ _ h => h) (Or.inl ⟨by rfl, fun w hSw => by clear hSw; go_simp⟩) hH ?_
    try simp only [Act.put, List.setIfInBounds_toArray, List.set_cons_zero, List.set_cons_succ, List.getElem_toArray, List.getElem_cons_succ, List.getElem_cons_zero]
    refine wpAnyH_take (i := 15) (v := .int .i64 wn) rfl (by kernel_rfl) (by kernel_rfl) (by kernel_rfl) (fun _ _ _ h => h) (Or.inl ⟨by rfl, fun w hSw => by clear hSw; go_simp⟩) hH ?_
    try simp only [Act.put, List.setIfInBounds_toArray, List.set_cons_zero, List.set_cons_succ, List.getElem_toArray, List.getElem_cons_succ, List.getElem_cons_zero]
    refine wpAnyH_take (i := 16) (v := .int .i64 sn) rfl (by kernel_rfl) (by kernel_rfl) (by kernel_rfl) (fun _ _ _ h => h) (Or.inl ⟨by rfl, fun w hSw => by clear hSw; go_simp⟩) hH ?_
    try simp only [Act.put, List.setIfInBounds_toArray, List.set_cons_zero, List.set_cons_succ, List.getElem_toArray, List.getElem_cons_succ, List.getElem_cons_zero]
    refine wpAnyH_take (i := 17) (v := .pointer (some ⟨sb, 4, none⟩)) rfl (by kernel_rfl) (by kernel_rfl) (by kernel_rfl) (fun _ _ _ h => h) (Or.inl ⟨by rfl, fun w hSw => by clear hSw; go_simp⟩) hH ?_
    try simp only [Act.put, List.setIfInBounds_toArray, List.set_cons_zero, List.set_cons_succ, List.getElem_toArray, List.getElem_cons_succ, List.getElem_cons_zero]
    refine wpAnyH_take (i := 18) (v := .int .i64 s.sy) rfl (by kernel_rfl) (by kernel_rfl) (by kernel_rfl) (fun _ _ _ h => h) (Or.inl ⟨by rfl, fun w hSw => by obtain ⟨f0, f1, f2, f3, f4⟩ := (HC.out w hSw).2; clear hSw; go_simp⟩) hH ?_
    try simp only [Act.put, List.setIfInBounds_toArray, List.set_cons_zero, List.set_cons_succ, List.getElem_toArray, List.getElem_cons_succ, List.getElem_cons_zero]
    refine wpAnyH_take (i := 19) (v := .int .i64 ln) rfl (by kernel_rfl) (by kernel_rfl) (by kernel_rfl) (fun _ _ _ h => h) (Or.inl ⟨by rfl, fun w hSw => by clear hSw; go_simp⟩) hH ?_
    try simp only [Act.put, List.setIfInBounds_toArray, List.set_cons_zero, List.set_cons_succ, List.getElem_toArray, List.getElem_cons_succ, List.getElem_cons_zero]
    refine wpAnyH_take (i := 20) (v := .agg #[.int .i64 s.x, .int .i64 s.y, .int .i64 s.fr, .int .i64 s.to, .int .i64 s.sy]) rfl (by kernel_rfl) (by kernel_rfl) (by kernel_rfl) (fun _ _ _ h => h) (Or.inl ⟨by rfl, fun w hSw => by obtain ⟨f0, f1, f2, f3, f4⟩ := (HC.out w hSw).2; clear hSw; go_simp⟩) hH ?_
    try simp only [Act.put, List.setIfInBounds_toArray, List.set_cons_zero, List.set_cons_succ, List.getElem_toArray, List.getElem_cons_succ, List.getElem_cons_zero]
    clear w1 w2 w3 w4 w5 w6
    refine wpAnyH_ready (rs := [3, 8, 22]) (by kernel_rfl) (by simp) ?_
    refine AllReadyH.cons rfl (fun K hK => ?_) (AllReadyH.cons rfl (fun K hK => ?_) (AllReadyH.cons rfl (fun K hK => ?_) AllReadyH.nil))
    · skip
      go_simp
      obtain ⟨V1, hV⟩ : ∃ V, V = V0.alloc (Obj.cells #[.int .i64 p] 3) := ⟨_, rfl⟩
      obtain ⟨n1, hn⟩ : ∃ n, n = V0.heap.size := ⟨_, rfl⟩
      rw [← hV, ← hn]
      have R1 : Hid (VtI B tb sb rb #[.slice ga L.length gc, .slice ha M.length hc, .int .i64 wt, .int .i64 lv, .int .i64 h.x, .int .i64 h.y, .int .i64 h.fr, .int .i64 h.to, .int .i64 h.sy] #[.int .i64 s.x, .int .i64 s.y, .int .i64 s.fr, .int .i64 s.to, .int .i64 s.sy] ga gc L ha hc M p ar W1 (some n1) none none none none V1) := by rw [hV, hn]; exact R0.out.mk3
      clear hV hn
      refine hK.out _ _ ⟨R1.out.t, R1.out.s⟩ (fun _ => ?_)
      clear hK K
      try simp only [Act.put, List.setIfInBounds_toArray, List.set_cons_zero, List.set_cons_succ, List.getElem_toArray, List.getElem_cons_succ, List.getElem_cons_zero]
      refine wpAnyH_ready (rs := [4, 8, 22]) (by kernel_rfl) (by simp) ?_
      refine AllReadyH.cons rfl (fun K hK => ?_) (AllReadyH.cons rfl (fun K hK => ?_) (AllReadyH.cons rfl (fun K hK => ?_) AllReadyH.nil))
      · skip
        refine step_int1 rfl _ _ rfl B ga gc L p V1 rfl R1.out.rowL n1 rfl (blkCell (R1.out.a3 _ rfl).2 0 _ rfl) HlL.out (Nat.le_trans R1.out.low R1.out.fr.size) ?_
        intro xg2 xc2 V2 hr1 hr2 hg hg1
        have R2 : Hid (VtI B tb sb rb #[.slice ga L.length gc, .slice ha M.length hc, .int .i64 wt, .int .i64 lv, .int .i64 h.x, .int .i64 h.y, .int .i64 h.fr, .int .i64 h.to, .int .i64 h.sy] #[.int .i64 s.x, .int .i64 s.y, .int .i64 s.fr, .int .i64 s.to, .int .i64 s.sy] ga gc L ha hc M p ar W1 (some n1) none (some (xg2, xc2)) none none V2) := R1.out.ap4 hr1 hr2 hg hg1
        clear hr1 hr2 hg hg1
        refine hK.out _ _ ⟨R2.out.t, R2.out.s⟩ (fun _ => ?_)
        clear hK K
        try simp only [Act.put, List.setIfInBounds_toArray, List.set_cons_zero, List.set_cons_succ, List.getElem_toArray, List.getElem_cons_succ, List.getElem_cons_zero]
        refine wpAnyH_ready (rs := [8, 22]) (by kernel_rfl) (by simp) ?_
        refine AllReadyH.cons rfl (fun K hK => ?_) (AllReadyH.cons rfl (fun K hK => ?_) AllReadyH.nil)
        · skip
          go_simp
          obtain ⟨V3, hV⟩ : ∃ V, V = V2.alloc (Obj.cells #[.int .i64 ar] 3) := ⟨_, rfl⟩
          obtain ⟨n3, hn⟩ : ∃ n, n = V2.heap.size := ⟨_, rfl⟩
          rw [← hV, ← hn]
          have R3 : Hid (VtI B tb sb rb #[.slice ga L.length gc, .slice ha M.length hc, .int .i64 wt, .int .i64 lv, .int .i64 h.x, .int .i64 h.y, .int .i64 h.fr, .int .i64 h.to, .int .i64 h.sy] #[.int .i64 s.x, .int .i64 s.y, .int .i64 s.fr, .int .i64 s.to, .int .i64 s.sy] ga gc L ha hc M p ar W1 (some n1) (some n3) (some (xg2, xc2)) none none V3) := by rw [hV, hn]; exact R2.out.mk8
          clear hV hn
          refine hK.out _ _ ⟨R3.out.t, R3.out.s⟩ (fun _ => ?_)
          clear hK K
          try simp only [Act.put, List.setIfInBounds_toArray, List.set_cons_zero, List.set_cons_succ, List.getElem_toArray, List.getElem_cons_succ, List.getElem_cons_zero]
          refine wpAnyH_ready (rs := [9, 22]) (by kernel_rfl) (by simp) ?_
          refine AllReadyH.cons rfl (fun K hK => ?_) (AllReadyH.cons rfl (fun K hK => ?_) AllReadyH.nil)
          · skip
            refine step_int1 rfl _ _ rfl B ha hc M ar V3 rfl R3.out.rowM n3 rfl (blkCell (R3.out.a8 _ rfl).2 0 _ rfl) HlM.out (Nat.le_trans R3.out.low R3.out.fr.size) ?_
            intro xg4 xc4 V4 hr1 hr2 hg hg1
            have R4 : Hid (VtI B tb sb rb #[.slice ga L.length gc, .slice ha M.length hc, .int .i64 wt, .int .i64 lv, .int .i64 h.x, .int .i64 h.y, .int .i64 h.fr, .int .i64 h.to, .int .i64 h.sy] #[.int .i64 s.x, .int .i64 s.y, .int .i64 s.fr, .int .i64 s.to, .int .i64 s.sy] ga gc L ha hc M p ar W1 (some n1) (some n3) (some (xg2, xc2)) (some (xg4, xc4)) none V4) := R3.out.ap9 hr1 hr2 hg hg1
            clear hr1 hr2 hg hg1
            refine hK.out _ _ ⟨R4.out.t, R4.out.s⟩ (fun _ => ?_)
            clear hK K
            try simp only [Act.put, List.setIfInBounds_toArray, List.set_cons_zero, List.set_cons_succ, List.getElem_toArray, List.getElem_cons_succ, List.getElem_cons_zero]
            refine wpAnyH_take (i := 21) (v := .agg #[.slice (some ⟨xg2, 0, none⟩) (L.length + 1) xc2, .slice (some ⟨xg4, 0, none⟩) (M.length + 1) xc4, .int .i64 wn, .int .i64 ln, .int .i64 s.x, .int .i64 s.y, .int .i64 s.fr, .int .i64 s.to, .int .i64 s.sy]) rfl (by kernel_rfl) (by kernel_rfl) (by kernel_rfl) (fun _ _ _ h => h) (Or.inl ⟨by rfl, fun w hSw => by clear hSw; go_simp⟩) ⟨R4.out.t, R4.out.s⟩ ?_
            try simp only [Act.put, List.setIfInBounds_toArray, List.set_cons_zero, List.set_cons_succ, List.getElem_toArray, List.getElem_cons_succ, List.getElem_cons_zero]
            refine wpAnyH_ready (rs := [22]) (by kernel_rfl) (by simp) ?_
            refine AllReadyH.cons rfl (fun K hK => ?_) AllReadyH.nil
            go_simp
            obtain ⟨V5, hV⟩ : ∃ V, V = V4.alloc (Obj.cells #[.slice none 0 0, .slice none 0 0, .int .i64 0, .int .i64 0, .int .i64 0, .int .i64 0, .int .i64 0, .int .i64 0, .int .i64 0] 57) := ⟨_, rfl⟩
            obtain ⟨n5, hn⟩ : ∃ n, n = V4.heap.size := ⟨_, rfl⟩
            rw [← hV, ← hn]
            have R5 : Hid (VtI B tb sb rb #[.slice ga L.length gc, .slice ha M.length hc, .int .i64 wt, .int .i64 lv, .int .i64 h.x, .int .i64 h.y, .int .i64 h.fr, .int .i64 h.to, .int .i64 h.sy] #[.int .i64 s.x, .int .i64 s.y, .int .i64 s.fr, .int .i64 s.to, .int .i64 s.sy] ga gc L ha hc M p ar W1 (some n1) (some n3) (some (xg2, xc2)) (some (xg4, xc4)) (some n5) V5) := by rw [hV, hn]; exact R4.out.mk22
            clear hV hn
            refine hK.out _ _ ⟨R5.out.t, R5.out.s⟩ (fun _ => ?_)
            clear hK K
            try simp only [Act.put, List.setIfInBounds_toArray, List.set_cons_zero, List.set_cons_succ, List.getElem_toArray, List.getElem_cons_succ, List.getElem_cons_zero]
            have HE : Hid _ := R5.out.fin s wn ln HTb.out
            obtain ⟨k1, k2, k3⟩ := R5.out.a22 _ rfl
            have q0 := blkCell k2 0 _ rfl
            have z0 := blkFree k2 0
            have q1 := blkCell k2 1 _ rfl
            have z1 := blkFree k2 1
            have q2 := blkCell k2 2 _ rfl
            have z2 := blkFree k2 2
            have q3 := blkCell k2 3 _ rfl
            have z3 := blkFree k2 3
            have q4 := blkCell k2 4 _ rfl
            have z4 := blkFree k2 4
            have q5 := blkCell k2 5 _ rfl
            have z5 := blkFree k2 5
            have q6 := blkCell k2 6 _ rfl
            have z6 := blkFree k2 6
            have q7 := blkCell k2 7 _ rfl
            have z7 := blkFree k2 7
            have q8 := blkCell k2 8 _ rfl
            have z8 := blkFree k2 8
            clear k1 k2 k3
            refine wpAnyH_ready (rs := [23]) (by kernel_rfl) (by simp) ?_
            refine AllReadyH.cons rfl (fun K hK => ?_) AllReadyH.nil
            go_simp
            have HE2 := HE.out
            obtain ⟨_, _, _, _, hx1, _⟩ := HE2
            have HX1 : Hid (_ ∧ _) := ⟨hx1.t, hx1.s⟩
            clear hx1 q0 z0 q1 z1 q2 z2 q3 z3 q4 z4 q5 z5 q6 z6 q7 z7 q8 z8
            refine hK.out _ _ HX1.out (fun _ => ?_)
            clear hK K
            try simp only [Act.put, List.setIfInBounds_toArray, List.set_cons_zero, List.set_cons_succ, List.getElem_toArray, List.getElem_cons_succ, List.getElem_cons_zero]
            refine wpAnyH_done (by kernel_rfl) ?_ _
            clear hH
            go_wp2_with fail
            go_meet
            exact ⟨_, rfl, HE.out⟩
          · skip
            go_simp
            obtain ⟨V6, hV⟩ : ∃ V, V = V3.alloc (Obj.cells #[.slice none 0 0, .slice none 0 0, .int .i64 0, .int .i64 0, .int .i64 0, .int .i64 0, .int .i64 0, .int .i64 0, .int .i64 0] 57) := ⟨_, rfl⟩
            obtain ⟨n6, hn⟩ : ∃ n, n = V3.heap.size := ⟨_, rfl⟩
            rw [← hV, ← hn]
            have R6 : Hid (VtI B tb sb rb #[.slice ga L.length gc, .slice ha M.length hc, .int .i64 wt, .int .i64 lv, .int .i64 h.x, .int .i64 h.y, .int .i64 h.fr, .int .i64 h.to, .int .i64 h.sy] #[.int .i64 s.x, .int .i64 s.y, .int .i64 s.fr, .int .i64 s.to, .int .i64 s.sy] ga gc L ha hc M p ar W1 (some n1) (some n3) (some (xg2, xc2)) none (some n6) V6) := by rw [hV, hn]; exact R3.out.mk22
            clear hV hn
            refine hK.out _ _ ⟨R6.out.t, R6.out.s⟩ (fun _ => ?_)
            clear hK K
            try simp only [Act.put, List.setIfInBounds_toArray, List.set_cons_zero, List.set_cons_succ, List.getElem_toArray, List.getElem_cons_succ, List.getElem_cons_zero]
            refine wpAnyH_ready (rs := [9]) (by kernel_rfl) (by simp) ?_
            refine AllReadyH.cons rfl (fun K hK => ?_) AllReadyH.nil
            refine step_int1 rfl _ _ rfl B ha hc M ar V6 rfl R6.out.rowM n3 rfl (blkCell (R6.out.a8 _ rfl).2 0 _ rfl) HlM.out (Nat.le_trans R6.out.low R6.out.fr.size) ?_
            intro xg7 xc7 V7 hr1 hr2 hg hg1
            have R7 : Hid (VtI B tb sb rb #[.slice ga L.length gc, .slice ha M.length hc, .int .i64 wt, .int .i64 lv, .int .i64 h.x, .int .i64 h.y, .int .i64 h.fr, .int .i64 h.to, .int .i64 h.sy] #[.int .i64 s.x, .int .i64 s.y, .int .i64 s.fr, .int .i64 s.to, .int .i64 s.sy] ga gc L ha hc M p ar W1 (some n1) (some n3) (some (xg2, xc2)) (some (xg7, xc7)) (some n6) V7) := R6.out.ap9 hr1 hr2 hg hg1
            clear hr1 hr2 hg hg1
            refine hK.out _ _ ⟨R7.out.t, R7.out.s⟩ (fun _ => ?_)
            clear hK K
            try simp only [Act.put, List.setIfInBounds_toArray, List.set_cons_zero, List.set_cons_succ, List.getElem_toArray, List.getElem_cons_succ, List.getElem_cons_zero]
            refine wpAnyH_take (i := 21) (v := .agg #[.slice (some ⟨xg2, 0, none⟩) (L.length + 1) xc2, .slice (some ⟨xg7, 0, none⟩) (M.length + 1) xc7, .int .i64 wn, .int .i64 ln, .int .i64 s.x, .int .i64 s.y, .int .i64 s.fr, .int .i64 s.to, .int .i64 s.sy]) rfl (by kernel_rfl) (by kernel_rfl) (by kernel_rfl) (fun _ _ _ h => h) (Or.inl ⟨by rfl, fun w hSw => by clear hSw; go_simp⟩) ⟨R7.out.t, R7.out.s⟩ ?_
            try simp only [Act.put, List.setIfInBounds_toArray, List.set_cons_zero, List.set_cons_succ, List.getElem_toArray, List.getElem_cons_succ, List.getElem_cons_zero]
            have HE : Hid _ := R7.out.fin s wn ln HTb.out
            obtain ⟨k1, k2, k3⟩ := R7.out.a22 _ rfl
            have q0 := blkCell k2 0 _ rfl
            have z0 := blkFree k2 0
            have q1 := blkCell k2 1 _ rfl
            have z1 := blkFree k2 1
            have q2 := blkCell k2 2 _ rfl
            have z2 := blkFree k2 2
            have q3 := blkCell k2 3 _ rfl
            have z3 := blkFree k2 3
            have q4 := blkCell k2 4 _ rfl
            have z4 := blkFree k2 4
            have q5 := blkCell k2 5 _ rfl
            have z5 := blkFree k2 5
            have q6 := blkCell k2 6 _ rfl
            have z6 := blkFree k2 6
            have q7 := blkCell k2 7 _ rfl
            have z7 := blkFree k2 7
            have q8 := blkCell k2 8 _ rfl
            have z8 := blkFree k2 8
            clear k1 k2 k3
            refine wpAnyH_ready (rs := [23]) (by kernel_rfl) (by simp) ?_
            refine AllReadyH.cons rfl (fun K hK => ?_) AllReadyH.nil
            go_simp
            have HE2 := HE.out
            obtain ⟨_, _, _, _, hx1, _⟩ := HE2
            have HX1 : Hid (_ ∧ _) := ⟨hx1.t, hx1.s⟩
            clear hx1 q0 z0 q1 z1 q2 z2 q3 z3 q4 z4 q5 z5 q6 z6 q7 z7 q8 z8
            refine hK.out _ _ HX1.out (fun _ => ?_)
            clear hK K
            try simp only [Act.put, List.setIfInBounds_toArray, List.set_cons_zero, List.set_cons_succ, List.getElem_toArray, List.getElem_cons_succ, List.getElem_cons_zero]
            refine wpAnyH_done (by kernel_rfl) ?_ _
            clear hH
            go_wp2_with fail
            go_meet
            exact ⟨_, rfl, HE.out⟩
        · skip
          go_simp
          obtain ⟨V8, hV⟩ : ∃ V, V = V2.alloc (Obj.cells #[.slice none 0 0, .slice none 0 0, .int .i64 0, .int .i64 0, .int .i64 0, .int .i64 0, .int .i64 0, .int .i64 0, .int .i64 0] 57) := ⟨_, rfl⟩
          obtain ⟨n8, hn⟩ : ∃ n, n = V2.heap.size := ⟨_, rfl⟩
          rw [← hV, ← hn]
          have R8 : Hid (VtI B tb sb rb #[.slice ga L.length gc, .slice ha M.length hc, .int .i64 wt, .int .i64 lv, .int .i64 h.x, .int .i64 h.y, .int .i64 h.fr, .int .i64 h.to, .int .i64 h.sy] #[.int .i64 s.x, .int .i64 s.y, .int .i64 s.fr, .int .i64 s.to, .int .i64 s.sy] ga gc L ha hc M p ar W1 (some n1) none (some (xg2, xc2)) none (some n8) V8) := by rw [hV, hn]; exact R2.out.mk22
          clear hV hn
          refine hK.out _ _ ⟨R8.out.t, R8.out.s⟩ (fun _ => ?_)
          clear hK K
          try simp only [Act.put, List.setIfInBounds_toArray, List.set_cons_zero, List.set_cons_succ, List.getElem_toArray, List.getElem_cons_succ, List.getElem_cons_zero]
          refine wpAnyH_ready (rs := [8]) (by kernel_rfl) (by simp) ?_
          refine AllReadyH.cons rfl (fun K hK => ?_) AllReadyH.nil
          go_simp
          obtain ⟨V9, hV⟩ : ∃ V, V = V8.alloc (Obj.cells #[.int .i64 ar] 3) := ⟨_, rfl⟩
          obtain ⟨n9, hn⟩ : ∃ n, n = V8.heap.size := ⟨_, rfl⟩
          rw [← hV, ← hn]
          have R9 : Hid (VtI B tb sb rb #[.slice ga L.length gc, .slice ha M.length hc, .int .i64 wt, .int .i64 lv, .int .i64 h.x, .int .i64 h.y, .int .i64 h.fr, .int .i64 h.to, .int .i64 h.sy] #[.int .i64 s.x, .int .i64 s.y, .int .i64 s.fr, .int .i64 s.to, .int .i64 s.sy] ga gc L ha hc M p ar W1 (some n1) (some n9) (some (xg2, xc2)) none (some n8) V9) := by rw [hV, hn]; exact R8.out.mk8
          clear hV hn
          refine hK.out _ _ ⟨R9.out.t, R9.out.s⟩ (fun _ => ?_)
          clear hK K
          try simp only [Act.put, List.setIfInBounds_toArray, List.set_cons_zero, List.set_cons_succ, List.getElem_toArray, List.getElem_cons_succ, List.getElem_cons_zero]
          refine wpAnyH_ready (rs := [9]) (by kernel_rfl) (by simp) ?_
          refine AllReadyH.cons rfl (fun K hK => ?_) AllReadyH.nil
          refine step_int1 rfl _ _ rfl B ha hc M ar V9 rfl R9.out.rowM n9 rfl (blkCell (R9.out.a8 _ rfl).2 0 _ rfl) HlM.out (Nat.le_trans R9.out.low R9.out.fr.size) ?_
          intro xg10 xc10 V10 hr1 hr2 hg hg1
          have R10 : Hid (VtI B tb sb rb #[.slice ga L.length gc, .slice ha M.length hc, .int .i64 wt, .int .i64 lv, .int .i64 h.x, .int .i64 h.y, .int .i64 h.fr, .int .i64 h.to, .int .i64 h.sy] #[.int .i64 s.x, .int .i64 s.y, .int .i64 s.fr, .int .i64 s.to, .int .i64 s.sy] ga gc L ha hc M p ar W1 (some n1) (some n9) (some (xg2, xc2)) (some (xg10, xc10)) (some n8) V10) := R9.out.ap9 hr1 hr2 hg hg1
          clear hr1 hr2 hg hg1
          refine hK.out _ _ ⟨R10.out.t, R10.out.s⟩ (fun _ => ?_)
          clear hK K
          try simp only [Act.put, List.setIfInBounds_toArray, List.set_cons_zero, List.set_cons_succ, List.getElem_toArray, List.getElem_cons_succ, List.getElem_cons_zero]
          refine wpAnyH_take (i := 21) (v := .agg #[.slice (some ⟨xg2, 0, none⟩) (L.length + 1) xc2, .slice (some ⟨xg10, 0, none⟩) (M.length + 1) xc10, .int .i64 wn, .int .i64 ln, .int .i64 s.x, .int .i64 s.y, .int .i64 s.fr, .int .i64 s.to, .int .i64 s.sy]) rfl (by kernel_rfl) (by kernel_rfl) (by kernel_rfl) (fun _ _ _ h => h) (Or.inl ⟨by rfl, fun w hSw => by clear hSw; go_simp⟩) ⟨R10.out.t, R10.out.s⟩ ?_
          try simp only [Act.put, List.setIfInBounds_toArray, List.set_cons_zero, List.set_cons_succ, List.getElem_toArray, List.getElem_cons_succ, List.getElem_cons_zero]
          have HE : Hid _ := R10.out.fin s wn ln HTb.out
          obtain ⟨k1, k2, k3⟩ := R10.out.a22 _ rfl
          have q0 := blkCell k2 0 _ rfl
          have z0 := blkFree k2 0
          have q1 := blkCell k2 1 _ rfl
          have z1 := blkFree k2 1
          have q2 := blkCell k2 2 _ rfl
          have z2 := blkFree k2 2
          have q3 := blkCell k2 3 _ rfl
          have z3 := blkFree k2 3
          have q4 := blkCell k2 4 _ rfl
          have z4 := blkFree k2 4
          have q5 := blkCell k2 5 _ rfl
          have z5 := blkFree k2 5
          have q6 := blkCell k2 6 _ rfl
          have z6 := blkFree k2 6
          have q7 := blkCell k2 7 _ rfl
          have z7 := blkFree k2 7
          have q8 := blkCell k2 8 _ rfl
          have z8 := blkFree k2 8
          clear k1 k2 k3
          refine wpAnyH_ready (rs := [23]) (by kernel_rfl) (by simp) ?_
          refine AllReadyH.cons rfl (fun K hK => ?_) AllReadyH.nil
          go_simp
          have HE2 := HE.out
          obtain ⟨_, _, _, _, hx1, _⟩ := HE2
          have HX1 : Hid (_ ∧ _) := ⟨hx1.t, hx1.s⟩
          clear hx1 q0 z0 q1 z1 q2 z2 q3 z3 q4 z4 q5 z5 q6 z6 q7 z7 q8 z8
          refine hK.out _ _ HX1.out (fun _ => ?_)
          clear hK K
          try simp only [Act.put, List.setIfInBounds_toArray, List.set_cons_zero, List.set_cons_succ, List.getElem_toArray, List.getElem_cons_succ, List.getElem_cons_zero]
          refine wpAnyH_done (by kernel_rfl) ?_ _
          clear hH
          go_wp2_with fail
          go_meet
          exact ⟨_, rfl, HE.out⟩
      · skip
        go_simp
        obtain ⟨V11, hV⟩ : ∃ V, V = V1.alloc (Obj.cells #[.int .i64 ar] 3) := ⟨_, rfl⟩
        obtain ⟨n11, hn⟩ : ∃ n, n = V1.heap.size := ⟨_, rfl⟩
        rw [← hV, ← hn]
        have R11 : Hid (VtI B tb sb rb #[.slice ga L.length gc, .slice ha M.length hc, .int .i64 wt, .int .i64 lv, .int .i64 h.x, .int .i64 h.y, .int .i64 h.fr, .int .i64 h.to, .int .i64 h.sy] #[.int .i64 s.x, .int .i64 s.y, .int .i64 s.fr, .int .i64 s.to, .int .i64 s.sy] ga gc L ha hc M p ar W1 (some n1) (some n11) none none none V11) := by rw [hV, hn]; exact R1.out.mk8
        clear hV hn
        refine hK.out _ _ ⟨R11.out.t, R11.out.s⟩ (fun _ => ?_)
        clear hK K
        try simp only [Act.put, List.setIfInBounds_toArray, List.set_cons_zero, List.set_cons_succ, List.getElem_toArray, List.getElem_cons_succ, List.getElem_cons_zero]
        refine wpAnyH_ready (rs := [4, 22]) (by kernel_rfl) (by simp) ?_
        refine AllReadyH.cons rfl (fun K hK => ?_) (AllReadyH.cons rfl (fun K hK => ?_) AllReadyH.nil)
        · skip
          refine step_int1 rfl _ _ rfl B ga gc L p V11 rfl R11.out.rowL n1 rfl (blkCell (R11.out.a3 _ rfl).2 0 _ rfl) HlL.out (Nat.le_trans R11.out.low R11.out.fr.size) ?_
          intro xg12 xc12 V12 hr1 hr2 hg hg1
          have R12 : Hid (VtI B tb sb rb #[.slice ga L.length gc, .slice ha M.length hc, .int .i64 wt, .int .i64 lv, .int .i64 h.x, .int .i64 h.y, .int .i64 h.fr, .int .i64 h.to, .int .i64 h.sy] #[.int .i64 s.x, .int .i64 s.y, .int .i64 s.fr, .int .i64 s.to, .int .i64 s.sy] ga gc L ha hc M p ar W1 (some n1) (some n11) (some (xg12, xc12)) none none V12) := R11.out.ap4 hr1 hr2 hg hg1
          clear hr1 hr2 hg hg1
          refine hK.out _ _ ⟨R12.out.t, R12.out.s⟩ (fun _ => ?_)
          clear hK K
          try simp only [Act.put, List.setIfInBounds_toArray, List.set_cons_zero, List.set_cons_succ, List.getElem_toArray, List.getElem_cons_succ, List.getElem_cons_zero]
          refine wpAnyH_ready (rs := [9, 22]) (by kernel_rfl) (by simp) ?_
          refine AllReadyH.cons rfl (fun K hK => ?_) (AllReadyH.cons rfl (fun K hK => ?_) AllReadyH.nil)
          · skip
            refine step_int1 rfl _ _ rfl B ha hc M ar V12 rfl R12.out.rowM n11 rfl (blkCell (R12.out.a8 _ rfl).2 0 _ rfl) HlM.out (Nat.le_trans R12.out.low R12.out.fr.size) ?_
            intro xg13 xc13 V13 hr1 hr2 hg hg1
            have R13 : Hid (VtI B tb sb rb #[.slice ga L.length gc, .slice ha M.length hc, .int .i64 wt, .int .i64 lv, .int .i64 h.x, .int .i64 h.y, .int .i64 h.fr, .int .i64 h.to, .int .i64 h.sy] #[.int .i64 s.x, .int .i64 s.y, .int .i64 s.fr, .int .i64 s.to, .int .i64 s.sy] ga gc L ha hc M p ar W1 (some n1) (some n11) (some (xg12, xc12)) (some (xg13, xc13)) none V13) := R12.out.ap9 hr1 hr2 hg hg1
            clear hr1 hr2 hg hg1
            refine hK.out _ _ ⟨R13.out.t, R13.out.s⟩ (fun _ => ?_)
            clear hK K
            try simp only [Act.put, List.setIfInBounds_toArray, List.set_cons_zero, List.set_cons_succ, List.getElem_toArray, List.getElem_cons_succ, List.getElem_cons_zero]
            refine wpAnyH_take (i := 21) (v := .agg #[.slice (some ⟨xg12, 0, none⟩) (L.length + 1) xc12, .slice (some ⟨xg13, 0, none⟩) (M.length + 1) xc13, .int .i64 wn, .int .i64 ln, .int .i64 s.x, .int .i64 s.y, .int .i64 s.fr, .int .i64 s.to, .int .i64 s.sy]) rfl (by kernel_rfl) (by kernel_rfl) (by kernel_rfl) (fun _ _ _ h => h) (Or.inl ⟨by rfl, fun w hSw => by clear hSw; go_simp⟩) ⟨R13.out.t, R13.out.s⟩ ?_
            try simp only [Act.put, List.setIfInBounds_toArray, List.set_cons_zero, List.set_cons_succ, List.getElem_toArray, List.getElem_cons_succ, List.getElem_cons_zero]
            refine wpAnyH_ready (rs := [22]) (by kernel_rfl) (by simp) ?_
            refine AllReadyH.cons rfl (fun K hK => ?_) AllReadyH.nil
            go_simp
            obtain ⟨V14, hV⟩ : ∃ V, V = V13.alloc (Obj.cells #[.slice none 0 0, .slice none 0 0, .int .i64 0, .int .i64 0, .int .i64 0, .int .i64 0, .int .i64 0, .int .i64 0, .int .i64 0] 57) := ⟨_, rfl⟩
            obtain ⟨n14, hn⟩ : ∃ n, n = V13.heap.size := ⟨_, rfl⟩
            rw [← hV, ← hn]
            have R14 : Hid (VtI B tb sb rb #[.slice ga L.length gc, .slice ha M.length hc, .int .i64 wt, .int .i64 lv, .int .i64 h.x, .int .i64 h.y, .int .i64 h.fr, .int .i64 h.to, .int .i64 h.sy] #[.int .i64 s.x, .int .i64 s.y, .int .i64 s.fr, .int .i64 s.to, .int .i64 s.sy] ga gc L ha hc M p ar W1 (some n1) (some n11) (some (xg12, xc12)) (some (xg13, xc13)) (some n14) V14) := by rw [hV, hn]; exact R13.out.mk22
            clear hV hn
            refine hK.out _ _ ⟨R14.out.t, R14.out.s⟩ (fun _ => ?_)
            clear hK K
            try simp only [Act.put, List.setIfInBounds_toArray, List.set_cons_zero, List.set_cons_succ, List.getElem_toArray, List.getElem_cons_succ, List.getElem_cons_zero]
            have HE : Hid _ := R14.out.fin s wn ln HTb.out
            obtain ⟨k1, k2, k3⟩ := R14.out.a22 _ rfl
            have q0 := blkCell k2 0 _ rfl
            have z0 := blkFree k2 0
            have q1 := blkCell k2 1 _ rfl
            have z1 := blkFree k2 1
            have q2 := blkCell k2 2 _ rfl
            have z2 := blkFree k2 2
            have q3 := blkCell k2 3 _ rfl
            have z3 := blkFree k2 3
            have q4 := blkCell k2 4 _ rfl
            have z4 := blkFree k2 4
            have q5 := blkCell k2 5 _ rfl
            have z5 := blkFree k2 5
            have q6 := blkCell k2 6 _ rfl
            have z6 := blkFree k2 6
            have q7 := blkCell k2 7 _ rfl
            have z7 := blkFree k2 7
            have q8 := blkCell k2 8 _ rfl
            have z8 := blkFree k2 8
            clear k1 k2 k3
            refine wpAnyH_ready (rs := [23]) (by kernel_rfl) (by simp) ?_
            refine AllReadyH.cons rfl (fun K hK => ?_) AllReadyH.nil
            go_simp
            have HE2 := HE.out
            obtain ⟨_, _, _, _, hx1, _⟩ := HE2
            have HX1 : Hid (_ ∧ _) := ⟨hx1.t, hx1.s⟩
            clear hx1 q0 z0 q1 z1 q2 z2 q3 z3 q4 z4 q5 z5 q6 z6 q7 z7 q8 z8
            refine hK.out _ _ HX1.out (fun _ => ?_)
            clear hK K
            try simp only [Act.put, List.setIfInBounds_toArray, List.set_cons_zero, List.set_cons_succ, List.getElem_toArray, List.getElem_cons_succ, List.getElem_cons_zero]
            refine wpAnyH_done (by kernel_rfl) ?_ _
            clear hH
            go_wp2_with fail
            go_meet
            exact ⟨_, rfl, HE.out⟩
          · skip
            go_simp
            obtain ⟨V15, hV⟩ : ∃ V, V = V12.alloc (Obj.cells #[.slice none 0 0, .slice none 0 0, .int .i64 0, .int .i64 0, .int .i64 0, .int .i64 0, .int .i64 0, .int .i64 0, .int .i64 0] 57) := ⟨_, rfl⟩
            obtain ⟨n15, hn⟩ : ∃ n, n = V12.heap.size := ⟨_, rfl⟩
            rw [← hV, ← hn]
            have R15 : Hid (VtI B tb sb rb #[.slice ga L.length gc, .slice ha M.length hc, .int .i64 wt, .int .i64 lv, .int .i64 h.x, .int .i64 h.y, .int .i64 h.fr, .int .i64 h.to, .int .i64 h.sy] #[.int .i64 s.x, .int .i64 s.y, .int .i64 s.fr, .int .i64 s.to, .int .i64 s.sy] ga gc L ha hc M p ar W1 (some n1) (some n11) (some (xg12, xc12)) none (some n15) V15) := by rw [hV, hn]; exact R12.out.mk22
            clear hV hn
            refine hK.out _ _ ⟨R15.out.t, R15.out.s⟩ (fun _ => ?_)
            clear hK K
            try simp only [Act.put, List.setIfInBounds_toArray, List.set_cons_zero, List.set_cons_succ, List.getElem_toArray, List.getElem_cons_succ, List.getElem_cons_zero]
            refine wpAnyH_ready (rs := [9]) (by kernel_rfl) (by simp) ?_
            refine AllReadyH.cons rfl (fun K hK => ?_) AllReadyH.nil
            refine step_int1 rfl _ _ rfl B ha hc M ar V15 rfl R15.out.rowM n11 rfl (blkCell (R15.out.a8 _ rfl).2 0 _ rfl) HlM.out (Nat.le_trans R15.out.low R15.out.fr.size) ?_
            intro xg16 xc16 V16 hr1 hr2 hg hg1
            have R16 : Hid (VtI B tb sb rb #[.slice ga L.length gc, .slice ha M.length hc, .int .i64 wt, .int .i64 lv, .int .i64 h.x, .int .i64 h.y, .int .i64 h.fr, .int .i64 h.to, .int .i64 h.sy] #[.int .i64 s.x, .int .i64 s.y, .int .i64 s.fr, .int .i64 s.to, .int .i64 s.sy] ga gc L ha hc M p ar W1 (some n1) (some n11) (some (xg12, xc12)) (some (xg16, xc16)) (some n15) V16) := R15.out.ap9 hr1 hr2 hg hg1
            clear hr1 hr2 hg hg1
            refine hK.out _ _ ⟨R16.out.t, R16.out.s⟩ (fun _ => ?_)
            clear hK K
            try simp only [Act.put, List.setIfInBounds_toArray, List.set_cons_zero, List.set_cons_succ, List.getElem_toArray, List.getElem_cons_succ, List.getElem_cons_zero]
            refine wpAnyH_take (i := 21) (v := .agg #[.slice (some ⟨xg12, 0, none⟩) (L.length + 1) xc12, .slice (some ⟨xg16, 0, none⟩) (M.length + 1) xc16, .int .i64 wn, .int .i64 ln, .int .i64 s.x, .int .i64 s.y, .int .i64 s.fr, .int .i64 s.to, .int .i64 s.sy]) rfl (by kernel_rfl) (by kernel_rfl) (by kernel_rfl) (fun _ _ _ h => h) (Or.inl ⟨by rfl, fun w hSw => by clear hSw; go_simp⟩) ⟨R16.out.t, R16.out.s⟩ ?_
            try simp only [Act.put, List.setIfInBounds_toArray, List.set_cons_zero, List.set_cons_succ, List.getElem_toArray, List.getElem_cons_succ, List.getElem_cons_zero]
            have HE : Hid _ := R16.out.fin s wn ln HTb.out
            obtain ⟨k1, k2, k3⟩ := R16.out.a22 _ rfl
            have q0 := blkCell k2 0 _ rfl
            have z0 := blkFree k2 0
            have q1 := blkCell k2 1 _ rfl
            have z1 := blkFree k2 1
            have q2 := blkCell k2 2 _ rfl
            have z2 := blkFree k2 2
            have q3 := blkCell k2 3 _ rfl
            have z3 := blkFree k2 3
            have q4 := blkCell k2 4 _ rfl
            have z4 := blkFree k2 4
            have q5 := blkCell k2 5 _ rfl
            have z5 := blkFree k2 5
            have q6 := blkCell k2 6 _ rfl
            have z6 := blkFree k2 6
            have q7 := blkCell k2 7 _ rfl
            have z7 := blkFree k2 7
            have q8 := blkCell k2 8 _ rfl
            have z8 := blkFree k2 8
            clear k1 k2 k3
            refine wpAnyH_ready (rs := [23]) (by kernel_rfl) (by simp) ?_
            refine AllReadyH.cons rfl (fun K hK => ?_) AllReadyH.nil
            go_simp
            have HE2 := HE.out
            obtain ⟨_, _, _, _, hx1, _⟩ := HE2
            have HX1 : Hid (_ ∧ _) := ⟨hx1.t, hx1.s⟩
            clear hx1 q0 z0 q1 z1 q2 z2 q3 z3 q4 z4 q5 z5 q6 z6 q7 z7 q8 z8
            refine hK.out _ _ HX1.out (fun _ => ?_)
            clear hK K
            try simp only [Act.put, List.setIfInBounds_toArray, List.set_cons_zero, List.set_cons_succ, List.getElem_toArray, List.getElem_cons_succ, List.getElem_cons_zero]
            refine wpAnyH_done (by kernel_rfl) ?_ _
            clear hH
            go_wp2_with fail
            go_meet
            exact ⟨_, rfl, HE.out⟩
        · skip
          go_simp
          obtain ⟨V17, hV⟩ : ∃ V, V = V11.alloc (Obj.cells #[.slice none 0 0, .slice none 0 0, .int .i64 0, .int .i64 0, .int .i64 0, .int .i64 0, .int .i64 0, .int .i64 0, .int .i64 0] 57) := ⟨_, rfl⟩
          obtain ⟨n17, hn⟩ : ∃ n, n = V11.heap.size := ⟨_, rfl⟩
          rw [← hV, ← hn]
          have R17 : Hid (VtI B tb sb rb #[.slice ga L.length gc, .slice ha M.length hc, .int .i64 wt, .int .i64 lv, .int .i64 h.x, .int .i64 h.y, .int .i64 h.fr, .int .i64 h.to, .int .i64 h.sy] #[.int .i64 s.x, .int .i64 s.y, .int .i64 s.fr, .int .i64 s.to, .int .i64 s.sy] ga gc L ha hc M p ar W1 (some n1) (some n11) none none (some n17) V17) := by rw [hV, hn]; exact R11.out.mk22
          clear hV hn
          refine hK.out _ _ ⟨R17.out.t, R17.out.s⟩ (fun _ => ?_)
          clear hK K
          try simp only [Act.put, List.setIfInBounds_toArray, List.set_cons_zero, List.set_cons_succ, List.getElem_toArray, List.getElem_cons_succ, List.getElem_cons_zero]
          refine wpAnyH_ready (rs := [4]) (by kernel_rfl) (by simp) ?_
          refine AllReadyH.cons rfl (fun K hK => ?_) AllReadyH.nil
          refine step_int1 rfl _ _ rfl B ga gc L p V17 rfl R17.out.rowL n1 rfl (blkCell (R17.out.a3 _ rfl).2 0 _ rfl) HlL.out (Nat.le_trans R17.out.low R17.out.fr.size) ?_
          intro xg18 xc18 V18 hr1 hr2 hg hg1
          have R18 : Hid (VtI B tb sb rb #[.slice ga L.length gc, .slice ha M.length hc, .int .i64 wt, .int .i64 lv, .int .i64 h.x, .int .i64 h.y, .int .i64 h.fr, .int .i64 h.to, .int .i64 h.sy] #[.int .i64 s.x, .int .i64 s.y, .int .i64 s.fr, .int .i64 s.to, .int .i64 s.sy] ga gc L ha hc M p ar W1 (some n1) (some n11) (some (xg18, xc18)) none (some n17) V18) := R17.out.ap4 hr1 hr2 hg hg1
          clear hr1 hr2 hg hg1
          refine hK.out _ _ ⟨R18.out.t, R18.out.s⟩ (fun _ => ?_)
          clear hK K
          try simp only [Act.put, List.setIfInBounds_toArray, List.set_cons_zero, List.set_cons_succ, List.getElem_toArray, List.getElem_cons_succ, List.getElem_cons_zero]
          refine wpAnyH_ready (rs := [9]) (by kernel_rfl) (by simp) ?_
          refine AllReadyH.cons rfl (fun K hK => ?_) AllReadyH.nil
          refine step_int1 rfl _ _ rfl B ha hc M ar V18 rfl R18.out.rowM n11 rfl (blkCell (R18.out.a8 _ rfl).2 0 _ rfl) HlM.out (Nat.le_trans R18.out.low R18.out.fr.size) ?_
          intro xg19 xc19 V19 hr1 hr2 hg hg1
          have R19 : Hid (VtI B tb sb rb #[.slice ga L.length gc, .slice ha M.length hc, .int .i64 wt, .int .i64 lv, .int .i64 h.x, .int .i64 h.y, .int .i64 h.fr, .int .i64 h.to, .int .i64 h.sy] #[.int .i64 s.x, .int .i64 s.y, .int .i64 s.fr, .int .i64 s.to, .int .i64 s.sy] ga gc L ha hc M p ar W1 (some n1) (some n11) (some (xg18, xc18)) (some (xg19, xc19)) (some n17) V19) := R18.out.ap9 hr1 hr2 hg hg1
          clear hr1 hr2 hg hg1
          refine hK.out _ _ ⟨R19.out.t, R19.out.s⟩ (fun _ => ?_)
          clear hK K
          try simp only [Act.put, List.setIfInBounds_toArray, List.set_cons_zero, List.set_cons_succ, List.getElem_toArray, List.getElem_cons_succ, List.getElem_cons_zero]
          refine wpAnyH_take (i := 21) (v := .agg #[.slice (some ⟨xg18, 0, none⟩) (L.length + 1) xc18, .slice (some ⟨xg19, 0, none⟩) (M.length + 1) xc19, .int .i64 wn, .int .i64 ln, .int .i64 s.x, .int .i64 s.y, .int .i64 s.fr, .int .i64 s.to, .int .i64 s.sy]) rfl (by kernel_rfl) (by kernel_rfl) (by kernel_rfl) (fun _ _ _ h => h) (Or.inl ⟨by rfl, fun w hSw => by clear hSw; go_simp⟩) ⟨R19.out.t, R19.out.s⟩ ?_
          try simp only [Act.put, List.setIfInBounds_toArray, List.set_cons_zero, List.set_cons_succ, List.getElem_toArray, List.getElem_cons_succ, List.getElem_cons_zero]
          have HE : Hid _ := R19.out.fin s wn ln HTb.out
          obtain ⟨k1, k2, k3⟩ := R19.out.a22 _ rfl
          have q0 := blkCell k2 0 _ rfl
          have z0 := blkFree k2 0
          have q1 := blkCell k2 1 _ rfl
          have z1 := blkFree k2 1
          have q2 := blkCell k2 2 _ rfl
          have z2 := blkFree k2 2
          have q3 := blkCell k2 3 _ rfl
          have z3 := blkFree k2 3
          have q4 := blkCell k2 4 _ rfl
          have z4 := blkFree k2 4
          have q5 := blkCell k2 5 _ rfl
          have z5 := blkFree k2 5
          have q6 := blkCell k2 6 _ rfl
          have z6 := blkFree k2 6
          have q7 := blkCell k2 7 _ rfl
          have z7 := blkFree k2 7
          have q8 := blkCell k2 8 _ rfl
          have z8 := blkFree k2 8
          clear k1 k2 k3
          refine wpAnyH_ready (rs := [23]) (by kernel_rfl) (by simp) ?_
          refine AllReadyH.cons rfl (fun K hK => ?_) AllReadyH.nil
          go_simp
          have HE2 := HE.out
          obtain ⟨_, _, _, _, hx1, _⟩ := HE2
          have HX1 : Hid (_ ∧ _) := ⟨hx1.t, hx1.s⟩
          clear hx1 q0 z0 q1 z1 q2 z2 q3 z3 q4 z4 q5 z5 q6 z6 q7 z7 q8 z8
          refine hK.out _ _ HX1.out (fun _ => ?_)
          clear hK K
          try simp only [Act.put, List.setIfInBounds_toArray, List.set_cons_zero, List.set_cons_succ, List.getElem_toArray, List.getElem_cons_succ, List.getElem_cons_zero]
          refine wpAnyH_done (by kernel_rfl) ?_ _
          clear hH
          go_wp2_with fail
          go_meet
          exact ⟨_, rfl, HE.out⟩
      · skip
        go_simp
        obtain ⟨V20, hV⟩ : ∃ V, V = V1.alloc (Obj.cells #[.slice none 0 0, .slice none 0 0, .int .i64 0, .int .i64 0, .int .i64 0, .int .i64 0, .int .i64 0, .int .i64 0, .int .i64 0] 57) := ⟨_, rfl⟩
        obtain ⟨n20, hn⟩ : ∃ n, n = V1.heap.size := ⟨_, rfl⟩
        rw [← hV, ← hn]
        have R20 : Hid (VtI B tb sb rb #[.slice ga L.length gc, .slice ha M.length hc, .int .i64 wt, .int .i64 lv, .int .i64 h.x, .int .i64 h.y, .int .i64 h.fr, .int .i64 h.to, .int .i64 h.sy] #[.int .i64 s.x, .int .i64 s.y, .int .i64 s.fr, .int .i64 s.to, .int .i64 s.sy] ga gc L ha hc M p ar W1 (some n1) none none none (some n20) V20) := by rw [hV, hn]; exact R1.out.mk22
        clear hV hn
        refine hK.out _ _ ⟨R20.out.t, R20.out.s⟩ (fun _ => ?_)
        clear hK K
        try simp only [Act.put, List.setIfInBounds_toArray, List.set_cons_zero, List.set_cons_succ, List.getElem_toArray, List.getElem_cons_succ, List.getElem_cons_zero]
        refine wpAnyH_ready (rs := [4, 8]) (by kernel_rfl) (by simp) ?_
        refine AllReadyH.cons rfl (fun K hK => ?_) (AllReadyH.cons rfl (fun K hK => ?_) AllReadyH.nil)
        · skip
          refine step_int1 rfl _ _ rfl B ga gc L p V20 rfl R20.out.rowL n1 rfl (blkCell (R20.out.a3 _ rfl).2 0 _ rfl) HlL.out (Nat.le_trans R20.out.low R20.out.fr.size) ?_
          intro xg21 xc21 V21 hr1 hr2 hg hg1
          have R21 : Hid (VtI B tb sb rb #[.slice ga L.length gc, .slice ha M.length hc, .int .i64 wt, .int .i64 lv, .int .i64 h.x, .int .i64 h.y, .int .i64 h.fr, .int .i64 h.to, .int .i64 h.sy] #[.int .i64 s.x, .int .i64 s.y, .int .i64 s.fr, .int .i64 s.to, .int .i64 s.sy] ga gc L ha hc M p ar W1 (some n1) none (some (xg21, xc21)) none (some n20) V21) := R20.out.ap4 hr1 hr2 hg hg1
          clear hr1 hr2 hg hg1
          refine hK.out _ _ ⟨R21.out.t, R21.out.s⟩ (fun _ => ?_)
          clear hK K
          try simp only [Act.put, List.setIfInBounds_toArray, List.set_cons_zero, List.set_cons_succ, List.getElem_toArray, List.getElem_cons_succ, List.getElem_cons_zero]
          refine wpAnyH_ready (rs := [8]) (by kernel_rfl) (by simp) ?_
          refine AllReadyH.cons rfl (fun K hK => ?_) AllReadyH.nil
          go_simp
          obtain ⟨V22, hV⟩ : ∃ V, V = V21.alloc (Obj.cells #[.int .i64 ar] 3) := ⟨_, rfl⟩
          obtain ⟨n22, hn⟩ : ∃ n, n = V21.heap.size := ⟨_, rfl⟩
          rw [← hV, ← hn]
          have R22 : Hid (VtI B tb sb rb #[.slice ga L.length gc, .slice ha M.length hc, .int .i64 wt, .int .i64 lv, .int .i64 h.x, .int .i64 h.y, .int .i64 h.fr, .int .i64 h.to, .int .i64 h.sy] #[.int .i64 s.x, .int .i64 s.y, .int .i64 s.fr, .int .i64 s.to, .int .i64 s.sy] ga gc L ha hc M p ar W1 (some n1) (some n22) (some (xg21, xc21)) none (some n20) V22) := by rw [hV, hn]; exact R21.out.mk8
          clear hV hn
          refine hK.out _ _ ⟨R22.out.t, R22.out.s⟩ (fun _ => ?_)
          clear hK K
          try simp only [Act.put, List.setIfInBounds_toArray, List.set_cons_zero, List.set_cons_succ, List.getElem_toArray, List.getElem_cons_succ, List.getElem_cons_zero]
          refine wpAnyH_ready (rs := [9]) (by kernel_rfl) (by simp) ?_
          refine AllReadyH.cons rfl (fun K hK => ?_) AllReadyH.nil
          refine step_int1 rfl _ _ rfl B ha hc M ar V22 rfl R22.out.rowM n22 rfl (blkCell (R22.out.a8 _ rfl).2 0 _ rfl) HlM.out (Nat.le_trans R22.out.low R22.out.fr.size) ?_
          intro xg23 xc23 V23 hr1 hr2 hg hg1
          have R23 : Hid (VtI B tb sb rb #[.slice ga L.length gc, .slice ha M.length hc, .int .i64 wt, .int .i64 lv, .int .i64 h.x, .int .i64 h.y, .int .i64 h.fr, .int .i64 h.to, .int .i64 h.sy] #[.int .i64 s.x, .int .i64 s.y, .int .i64 s.fr, .int .i64 s.to, .int .i64 s.sy] ga gc L ha hc M p ar W1 (some n1) (some n22) (some (xg21, xc21)) (some (xg23, xc23)) (some n20) V23) := R22.out.ap9 hr1 hr2 hg hg1
          clear hr1 hr2 hg hg1
          refine hK.out _ _ ⟨R23.out.t, R23.out.s⟩ (fun _ => ?_)
          clear hK K
          try simp only [Act.put, List.setIfInBounds_toArray, List.set_cons_zero, List.set_cons_succ, List.getElem_toArray, List.getElem_cons_succ, List.getElem_cons_zero]
          refine wpAnyH_take (i := 21) (v := .agg #[.slice (some ⟨xg21, 0, none⟩) (L.length + 1) xc21, .slice (some ⟨xg23, 0, none⟩) (M.length + 1) xc23, .int .i64 wn, .int .i64 ln, .int .i64 s.x, .int .i64 s.y, .int .i64 s.fr, .int .i64 s.to, .int .i64 s.sy]) rfl (by kernel_rfl) (by kernel_rfl) (by kernel_rfl) (fun _ _ _ h => h) (Or.inl ⟨by rfl, fun w hSw => by clear hSw; go_simp⟩) ⟨R23.out.t, R23.out.s⟩ ?_
          try simp only [Act.put, List.setIfInBounds_toArray, List.set_cons_zero, List.set_cons_succ, List.getElem_toArray, List.getElem_cons_succ, List.getElem_cons_zero]
          have HE : Hid _ := R23.out.fin s wn ln HTb.out
          obtain ⟨k1, k2, k3⟩ := R23.out.a22 _ rfl
          have q0 := blkCell k2 0 _ rfl
          have z0 := blkFree k2 0
          have q1 := blkCell k2 1 _ rfl
          have z1 := blkFree k2 1
          have q2 := blkCell k2 2 _ rfl
          have z2 := blkFree k2 2
          have q3 := blkCell k2 3 _ rfl
          have z3 := blkFree k2 3
          have q4 := blkCell k2 4 _ rfl
          have z4 := blkFree k2 4
          have q5 := blkCell k2 5 _ rfl
          have z5 := blkFree k2 5
          have q6 := blkCell k2 6 _ rfl
          have z6 := blkFree k2 6
          have q7 := blkCell k2 7 _ rfl
          have z7 := blkFree k2 7
          have q8 := blkCell k2 8 _ rfl
          have z8 := blkFree k2 8
          clear k1 k2 k3
          refine wpAnyH_ready (rs := [23]) (by kernel_rfl) (by simp) ?_
          refine AllReadyH.cons rfl (fun K hK => ?_) AllReadyH.nil
          go_simp
          have HE2 := HE.out
          obtain ⟨_, _, _, _, hx1, _⟩ := HE2
          have HX1 : Hid (_ ∧ _) := ⟨hx1.t, hx1.s⟩
          clear hx1 q0 z0 q1 z1 q2 z2 q3 z3 q4 z4 q5 z5 q6 z6 q7 z7 q8 z8
          refine hK.out _ _ HX1.out (fun _ => ?_)
          clear hK K
          try simp only [Act.put, List.setIfInBounds_toArray, List.set_cons_zero, List.set_cons_succ, List.getElem_toArray, List.getElem_cons_succ, List.getElem_cons_zero]
          refine wpAnyH_done (by kernel_rfl) ?_ _
          clear hH
          go_wp2_with fail
          go_meet
          exact ⟨_, rfl, HE.out⟩
        · skip
          go_simp
          obtain ⟨V24, hV⟩ : ∃ V, V = V20.alloc (Obj.cells #[.int .i64 ar] 3) := ⟨_, rfl⟩
          obtain ⟨n24, hn⟩ : ∃ n, n = V20.heap.size := ⟨_, rfl⟩
          rw [← hV, ← hn]
          have R24 : Hid (VtI B tb sb rb #[.slice ga L.length gc, .slice ha M.length hc, .int .i64 wt, .int .i64 lv, .int .i64 h.x, .int .i64 h.y, .int .i64 h.fr, .int .i64 h.to, .int .i64 h.sy] #[.int .i64 s.x, .int .i64 s.y, .int .i64 s.fr, .int .i64 s.to, .int .i64 s.sy] ga gc L ha hc M p ar W1 (some n1) (some n24) none none (some n20) V24) := by rw [hV, hn]; exact R20.out.mk8
          clear hV hn
          refine hK.out _ _ ⟨R24.out.t, R24.out.s⟩ (fun _ => ?_)
          clear hK K
          try simp only [Act.put, List.setIfInBounds_toArray, List.set_cons_zero, List.set_cons_succ, List.getElem_toArray, List.getElem_cons_succ, List.getElem_cons_zero]
          refine wpAnyH_ready (rs := [4]) (by kernel_rfl) (by simp) ?_
          refine AllReadyH.cons rfl (fun K hK => ?_) AllReadyH.nil
          refine step_int1 rfl _ _ rfl B ga gc L p V24 rfl R24.out.rowL n1 rfl (blkCell (R24.out.a3 _ rfl).2 0 _ rfl) HlL.out (Nat.le_trans R24.out.low R24.out.fr.size) ?_
          intro xg25 xc25 V25 hr1 hr2 hg hg1
          have R25 : Hid (VtI B tb sb rb #[.slice ga L.length gc, .slice ha M.length hc, .int .i64 wt, .int .i64 lv, .int .i64 h.x, .int .i64 h.y, .int .i64 h.fr, .int .i64 h.to, .int .i64 h.sy] #[.int .i64 s.x, .int .i64 s.y, .int .i64 s.fr, .int .i64 s.to, .int .i64 s.sy] ga gc L ha hc M p ar W1 (some n1) (some n24) (some (xg25, xc25)) none (some n20) V25) := R24.out.ap4 hr1 hr2 hg hg1
          clear hr1 hr2 hg hg1
          refine hK.out _ _ ⟨R25.out.t, R25.out.s⟩ (fun _ => ?_)
          clear hK K
          try simp only [Act.put, List.setIfInBounds_toArray, List.set_cons_zero, List.set_cons_succ, List.getElem_toArray, List.getElem_cons_succ, List.getElem_cons_zero]
          refine wpAnyH_ready (rs := [9]) (by kernel_rfl) (by simp) ?_
          refine AllReadyH.cons rfl (fun K hK => ?_) AllReadyH.nil
          refine step_int1 rfl _ _ rfl B ha hc M ar V25 rfl R25.out.rowM n24 rfl (blkCell (R25.out.a8 _ rfl).2 0 _ rfl) HlM.out (Nat.le_trans R25.out.low R25.out.fr.size) ?_
          intro xg26 xc26 V26 hr1 hr2 hg hg1
          have R26 : Hid (VtI B tb sb rb #[.slice ga L.length gc, .slice ha M.length hc, .int .i64 wt, .int .i64 lv, .int .i64 h.x, .int .i64 h.y, .int .i64 h.fr, .int .i64 h.to, .int .i64 h.sy] #[.int .i64 s.x, .int .i64 s.y, .int .i64 s.fr, .int .i64 s.to, .int .i64 s.sy] ga gc L ha hc M p ar W1 (some n1) (some n24) (some (xg25, xc25)) (some (xg26, xc26)) (some n20) V26) := R25.out.ap9 hr1 hr2 hg hg1
          clear hr1 hr2 hg hg1
          refine hK.out _ _ ⟨R26.out.t, R26.out.s⟩ (fun _ => ?_)
          clear hK K
          try simp only [Act.put, List.setIfInBounds_toArray, List.set_cons_zero, List.set_cons_succ, List.getElem_toArray, List.getElem_cons_succ, List.getElem_cons_zero]
          refine wpAnyH_take (i := 21) (v := .agg #[.slice (some ⟨xg25, 0, none⟩) (L.length + 1) xc25, .slice (some ⟨xg26, 0, none⟩) (M.length + 1) xc26, .int .i64 wn, .int .i64 ln, .int .i64 s.x, .int .i64 s.y, .int .i64 s.fr, .int .i64 s.to, .int .i64 s.sy]) rfl (by kernel_rfl) (by kernel_rfl) (by kernel_rfl) (fun _ _ _ h => h) (Or.inl ⟨by rfl, fun w hSw => by clear hSw; go_simp⟩) ⟨R26.out.t, R26.out.s⟩ ?_
          try simp only [Act.put, List.setIfInBounds_toArray, List.set_cons_zero, List.set_cons_succ, List.getElem_toArray, List.getElem_cons_succ, List.getElem_cons_zero]
          have HE : Hid _ := R26.out.fin s wn ln HTb.out
          obtain ⟨k1, k2, k3⟩ := R26.out.a22 _ rfl
          have q0 := blkCell k2 0 _ rfl
          have z0 := blkFree k2 0
          have q1 := blkCell k2 1 _ rfl
          have z1 := blkFree k2 1
          have q2 := blkCell k2 2 _ rfl
          have z2 := blkFree k2 2
          have q3 := blkCell k2 3 _ rfl
          have z3 := blkFree k2 3
          have q4 := blkCell k2 4 _ rfl
          have z4 := blkFree k2 4
          have q5 := blkCell k2 5 _ rfl
          have z5 := blkFree k2 5
          have q6 := blkCell k2 6 _ rfl
          have z6 := blkFree k2 6
          have q7 := blkCell k2 7 _ rfl
          have z7 := blkFree k2 7
          have q8 := blkCell k2 8 _ rfl
          have z8 := blkFree k2 8
          clear k1 k2 k3
          refine wpAnyH_ready (rs := [23]) (by kernel_rfl) (by simp) ?_
          refine AllReadyH.cons rfl (fun K hK => ?_) AllReadyH.nil
          go_simp
          have HE2 := HE.out
          obtain ⟨_, _, _, _, hx1, _⟩ := HE2
          have HX1 : Hid (_ ∧ _) := ⟨hx1.t, hx1.s⟩
          clear hx1 q0 z0 q1 z1 q2 z2 q3 z3 q4 z4 q5 z5 q6 z6 q7 z7 q8 z8
          refine hK.out _ _ HX1.out (fun _ => ?_)
          clear hK K
          try simp only [Act.put, List.setIfInBounds_toArray, List.set_cons_zero, List.set_cons_succ, List.getElem_toArray, List.getElem_cons_succ, List.getElem_cons_zero]
          refine wpAnyH_done (by kernel_rfl) ?_ _
          clear hH
          go_wp2_with fail
          go_meet
          exact ⟨_, rfl, HE.out⟩
    · skip
      go_simp
      obtain ⟨V27, hV⟩ : ∃ V, V = V0.alloc (Obj.cells #[.int .i64 ar] 3) := ⟨_, rfl⟩
      obtain ⟨n27, hn⟩ : ∃ n, n = V0.heap.size := ⟨_, rfl⟩
      rw [← hV, ← hn]
      have R27 : Hid (VtI B tb sb rb #[.slice ga L.length gc, .slice ha M.length hc, .int .i64 wt, .int .i64 lv, .int .i64 h.x, .int .i64 h.y, .int .i64 h.fr, .int .i64 h.to, .int .i64 h.sy] #[.int .i64 s.x, .int .i64 s.y, .int .i64 s.fr, .int .i64 s.to, .int .i64 s.sy] ga gc L ha hc M p ar W1 none (some n27) none none none V27) := by rw [hV, hn]; exact R0.out.mk8
      clear hV hn
      refine hK.out _ _ ⟨R27.out.t, R27.out.s⟩ (fun _ => ?_)
      clear hK K
      try simp only [Act.put, List.setIfInBounds_toArray, List.set_cons_zero, List.set_cons_succ, List.getElem_toArray, List.getElem_cons_succ, List.getElem_cons_zero]
      refine wpAnyH_ready (rs := [3, 22]) (by kernel_rfl) (by simp) ?_
      refine AllReadyH.cons rfl (fun K hK => ?_) (AllReadyH.cons rfl (fun K hK => ?_) AllReadyH.nil)
      · skip
        go_simp
        obtain ⟨V28, hV⟩ : ∃ V, V = V27.alloc (Obj.cells #[.int .i64 p] 3) := ⟨_, rfl⟩
        obtain ⟨n28, hn⟩ : ∃ n, n = V27.heap.size := ⟨_, rfl⟩
        rw [← hV, ← hn]
        have R28 : Hid (VtI B tb sb rb #[.slice ga L.length gc, .slice ha M.length hc, .int .i64 wt, .int .i64 lv, .int .i64 h.x, .int .i64 h.y, .int .i64 h.fr, .int .i64 h.to, .int .i64 h.sy] #[.int .i64 s.x, .int .i64 s.y, .int .i64 s.fr, .int .i64 s.to, .int .i64 s.sy] ga gc L ha hc M p ar W1 (some n28) (some n27) none none none V28) := by rw [hV, hn]; exact R27.out.mk3
        clear hV hn
        refine hK.out _ _ ⟨R28.out.t, R28.out.s⟩ (fun _ => ?_)
        clear hK K
        try simp only [Act.put, List.setIfInBounds_toArray, List.set_cons_zero, List.set_cons_succ, List.getElem_toArray, List.getElem_cons_succ, List.getElem_cons_zero]
        refine wpAnyH_ready (rs := [4, 22]) (by kernel_rfl) (by simp) ?_
        refine AllReadyH.cons rfl (fun K hK => ?_) (AllReadyH.cons rfl (fun K hK => ?_) AllReadyH.nil)
        · skip
          refine step_int1 rfl _ _ rfl B ga gc L p V28 rfl R28.out.rowL n28 rfl (blkCell (R28.out.a3 _ rfl).2 0 _ rfl) HlL.out (Nat.le_trans R28.out.low R28.out.fr.size) ?_
          intro xg29 xc29 V29 hr1 hr2 hg hg1
          have R29 : Hid (VtI B tb sb rb #[.slice ga L.length gc, .slice ha M.length hc, .int .i64 wt, .int .i64 lv, .int .i64 h.x, .int .i64 h.y, .int .i64 h.fr, .int .i64 h.to, .int .i64 h.sy] #[.int .i64 s.x, .int .i64 s.y, .int .i64 s.fr, .int .i64 s.to, .int .i64 s.sy] ga gc L ha hc M p ar W1 (some n28) (some n27) (some (xg29, xc29)) none none V29) := R28.out.ap4 hr1 hr2 hg hg1
          clear hr1 hr2 hg hg1
          refine hK.out _ _ ⟨R29.out.t, R29.out.s⟩ (fun _ => ?_)
          clear hK K
          try simp only [Act.put, List.setIfInBounds_toArray, List.set_cons_zero, List.set_cons_succ, List.getElem_toArray, List.getElem_cons_succ, List.getElem_cons_zero]
          refine wpAnyH_ready (rs := [9, 22]) (by kernel_rfl) (by simp) ?_
          refine AllReadyH.cons rfl (fun K hK => ?_) (AllReadyH.cons rfl (fun K hK => ?_) AllReadyH.nil)
          · skip
            refine step_int1 rfl _ _ rfl B ha hc M ar V29 rfl R29.out.rowM n27 rfl (blkCell (R29.out.a8 _ rfl).2 0 _ rfl) HlM.out (Nat.le_trans R29.out.low R29.out.fr.size) ?_
            intro xg30 xc30 V30 hr1 hr2 hg hg1
            have R30 : Hid (VtI B tb sb rb #[.slice ga L.length gc, .slice ha M.length hc, .int .i64 wt, .int .i64 lv, .int .i64 h.x, .int .i64 h.y, .int .i64 h.fr, .int .i64 h.to, .int .i64 h.sy] #[.int .i64 s.x, .int .i64 s.y, .int .i64 s.fr, .int .i64 s.to, .int .i64 s.sy] ga gc L ha hc M p ar W1 (some n28) (some n27) (some (xg29, xc29)) (some (xg30, xc30)) none V30) := R29.out.ap9 hr1 hr2 hg hg1
            clear hr1 hr2 hg hg1
            refine hK.out _ _ ⟨R30.out.t, R30.out.s⟩ (fun _ => ?_)
            clear hK K
            try simp only [Act.put, List.setIfInBounds_toArray, List.set_cons_zero, List.set_cons_succ, List.getElem_toArray, List.getElem_cons_succ, List.getElem_cons_zero]
            refine wpAnyH_take (i := 21) (v := .agg #[.slice (some ⟨xg29, 0, none⟩) (L.length + 1) xc29, .slice (some ⟨xg30, 0, none⟩) (M.length + 1) xc30, .int .i64 wn, .int .i64 ln, .int .i64 s.x, .int .i64 s.y, .int .i64 s.fr, .int .i64 s.to, .int .i64 s.sy]) rfl (by kernel_rfl) (by kernel_rfl) (by kernel_rfl) (fun _ _ _ h => h) (Or.inl ⟨by rfl, fun w hSw => by clear hSw; go_simp⟩) ⟨R30.out.t, R30.out.s⟩ ?_
            try simp only [Act.put, List.setIfInBounds_toArray, List.set_cons_zero, List.set_cons_succ, List.getElem_toArray, List.getElem_cons_succ, List.getElem_cons_zero]
            refine wpAnyH_ready (rs := [22]) (by kernel_rfl) (by simp) ?_
            refine AllReadyH.cons rfl (fun K hK => ?_) AllReadyH.nil
            go_simp
            obtain ⟨V31, hV⟩ : ∃ V, V = V30.alloc (Obj.cells #[.slice none 0 0, .slice none 0 0, .int .i64 0, .int .i64 0, .int .i64 0, .int .i64 0, .int .i64 0, .int .i64 0, .int .i64 0] 57) := ⟨_, rfl⟩
            obtain ⟨n31, hn⟩ : ∃ n, n = V30.heap.size := ⟨_, rfl⟩
            rw [← hV, ← hn]
            have R31 : Hid (VtI B tb sb rb #[.slice ga L.length gc, .slice ha M.length hc, .int .i64 wt, .int .i64 lv, .int .i64 h.x, .int .i64 h.y, .int .i64 h.fr, .int .i64 h.to, .int .i64 h.sy] #[.int .i64 s.x, .int .i64 s.y, .int .i64 s.fr, .int .i64 s.to, .int .i64 s.sy] ga gc L ha hc M p ar W1 (some n28) (some n27) (some (xg29, xc29)) (some (xg30, xc30)) (some n31) V31) := by rw [hV, hn]; exact R30.out.mk22
            clear hV hn
            refine hK.out _ _ ⟨R31.out.t, R31.out.s⟩ (fun _ => ?_)
            clear hK K
            try simp only [Act.put, List.setIfInBounds_toArray, List.set_cons_zero, List.set_cons_succ, List.getElem_toArray, List.getElem_cons_succ, List.getElem_cons_zero]
            have HE : Hid _ := R31.out.fin s wn ln HTb.out
            obtain ⟨k1, k2, k3⟩ := R31.out.a22 _ rfl
            have q0 := blkCell k2 0 _ rfl
            have z0 := blkFree k2 0
            have q1 := blkCell k2 1 _ rfl
            have z1 := blkFree k2 1
            have q2 := blkCell k2 2 _ rfl
            have z2 := blkFree k2 2
            have q3 := blkCell k2 3 _ rfl
            have z3 := blkFree k2 3
            have q4 := blkCell k2 4 _ rfl
            have z4 := blkFree k2 4
            have q5 := blkCell k2 5 _ rfl
            have z5 := blkFree k2 5
            have q6 := blkCell k2 6 _ rfl
            have z6 := blkFree k2 6
            have q7 := blkCell k2 7 _ rfl
            have z7 := blkFree k2 7
            have q8 := blkCell k2 8 _ rfl
            have z8 := blkFree k2 8
            clear k1 k2 k3
            refine wpAnyH_ready (rs := [23]) (by kernel_rfl) (by simp) ?_
            refine AllReadyH.cons rfl (fun K hK => ?_) AllReadyH.nil
            go_simp
            have HE2 := HE.out
            obtain ⟨_, _, _, _, hx1, _⟩ := HE2
            have HX1 : Hid (_ ∧ _) := ⟨hx1.t, hx1.s⟩
            clear hx1 q0 z0 q1 z1 q2 z2 q3 z3 q4 z4 q5 z5 q6 z6 q7 z7 q8 z8
            refine hK.out _ _ HX1.out (fun _ => ?_)
            clear hK K
            try simp only [Act.put, List.setIfInBounds_toArray, List.set_cons_zero, List.set_cons_succ, List.getElem_toArray, List.getElem_cons_succ, List.getElem_cons_zero]
            refine wpAnyH_done (by kernel_rfl) ?_ _
            clear hH
            go_wp2_with fail
            go_meet
            exact ⟨_, rfl, HE.out⟩
          · skip
            go_simp
            obtain ⟨V32, hV⟩ : ∃ V, V = V29.alloc (Obj.cells #[.slice none 0 0, .slice none 0 0, .int .i64 0, .int .i64 0, .int .i64 0, .int .i64 0, .int .i64 0, .int .i64 0, .int .i64 0] 57) := ⟨_, rfl⟩
            obtain ⟨n32, hn⟩ : ∃ n, n = V29.heap.size := ⟨_, rfl⟩
            rw [← hV, ← hn]
            have R32 : Hid (VtI B tb sb rb #[.slice ga L.length gc, .slice ha M.length hc, .int .i64 wt, .int .i64 lv, .int .i64 h.x, .int .i64 h.y, .int .i64 h.fr, .int .i64 h.to, .int .i64 h.sy] #[.int .i64 s.x, .int .i64 s.y, .int .i64 s.fr, .int .i64 s.to, .int .i64 s.sy] ga gc L ha hc M p ar W1 (some n28) (some n27) (some (xg29, xc29)) none (some n32) V32) := by rw [hV, hn]; exact R29.out.mk22
            clear hV hn
            refine hK.out _ _ ⟨R32.out.t, R32.out.s⟩ (fun _ => ?_)
            clear hK K
            try simp only [Act.put, List.setIfInBounds_toArray, List.set_cons_zero, List.set_cons_succ, List.getElem_toArray, List.getElem_cons_succ, List.getElem_cons_zero]
            refine wpAnyH_ready (rs := [9]) (by kernel_rfl) (by simp) ?_
            refine AllReadyH.cons rfl (fun K hK => ?_) AllReadyH.nil
            refine step_int1 rfl _ _ rfl B ha hc M ar V32 rfl R32.out.rowM n27 rfl (blkCell (R32.out.a8 _ rfl).2 0 _ rfl) HlM.out (Nat.le_trans R32.out.low R32.out.fr.size) ?_
            intro xg33 xc33 V33 hr1 hr2 hg hg1
            have R33 : Hid (VtI B tb sb rb #[.slice ga L.length gc, .slice ha M.length hc, .int .i64 wt, .int .i64 lv, .int .i64 h.x, .int .i64 h.y, .int .i64 h.fr, .int .i64 h.to, .int .i64 h.sy] #[.int .i64 s.x, .int .i64 s.y, .int .i64 s.fr, .int .i64 s.to, .int .i64 s.sy] ga gc L ha hc M p ar W1 (some n28) (some n27) (some (xg29, xc29)) (some (xg33, xc33)) (some n32) V33) := R32.out.ap9 hr1 hr2 hg hg1
            clear hr1 hr2 hg hg1
            refine hK.out _ _ ⟨R33.out.t, R33.out.s⟩ (fun _ => ?_)
            clear hK K
            try simp only [Act.put, List.setIfInBounds_toArray, List.set_cons_zero, List.set_cons_succ, List.getElem_toArray, List.getElem_cons_succ, List.getElem_cons_zero]
            refine wpAnyH_take (i := 21) (v := .agg #[.slice (some ⟨xg29, 0, none⟩) (L.length + 1) xc29, .slice (some ⟨xg33, 0, none⟩) (M.length + 1) xc33, .int .i64 wn, .int .i64 ln, .int .i64 s.x, .int .i64 s.y, .int .i64 s.fr, .int .i64 s.to, .int .i64 s.sy]) rfl (by kernel_rfl) (by kernel_rfl) (by kernel_rfl) (fun _ _ _ h => h) (Or.inl ⟨by rfl, fun w hSw => by clear hSw; go_simp⟩) ⟨R33.out.t, R33.out.s⟩ ?_
            try simp only [Act.put, List.setIfInBounds_toArray, List.set_cons_zero, List.set_cons_succ, List.getElem_toArray, List.getElem_cons_succ, List.getElem_cons_zero]
            have HE : Hid _ := R33.out.fin s wn ln HTb.out
            obtain ⟨k1, k2, k3⟩ := R33.out.a22 _ rfl
            have q0 := blkCell k2 0 _ rfl
            have z0 := blkFree k2 0
            have q1 := blkCell k2 1 _ rfl
            have z1 := blkFree k2 1
            have q2 := blkCell k2 2 _ rfl
            have z2 := blkFree k2 2
            have q3 := blkCell k2 3 _ rfl
            have z3 := blkFree k2 3
            have q4 := blkCell k2 4 _ rfl
            have z4 := blkFree k2 4
            have q5 := blkCell k2 5 _ rfl
            have z5 := blkFree k2 5
            have q6 := blkCell k2 6 _ rfl
            have z6 := blkFree k2 6
            have q7 := blkCell k2 7 _ rfl
            have z7 := blkFree k2 7
            have q8 := blkCell k2 8 _ rfl
            have z8 := blkFree k2 8
            clear k1 k2 k3
            refine wpAnyH_ready (rs := [23]) (by kernel_rfl) (by simp) ?_
            refine AllReadyH.cons rfl (fun K hK => ?_) AllReadyH.nil
            go_simp
            have HE2 := HE.out
            obtain ⟨_, _, _, _, hx1, _⟩ := HE2
            have HX1 : Hid (_ ∧ _) := ⟨hx1.t, hx1.s⟩
            clear hx1 q0 z0 q1 z1 q2 z2 q3 z3 q4 z4 q5 z5 q6 z6 q7 z7 q8 z8
            refine hK.out _ _ HX1.out (fun _ => ?_)
            clear hK K
            try simp only [Act.put, List.setIfInBounds_toArray, List.set_cons_zero, List.set_cons_succ, List.getElem_toArray, List.getElem_cons_succ, List.getElem_cons_zero]
            refine wpAnyH_done (by kernel_rfl) ?_ _
            clear hH
            go_wp2_with fail
            go_meet
            exact ⟨_, rfl, HE.out⟩
        · skip
          go_simp
          obtain ⟨V34, hV⟩ : ∃ V, V = V28.alloc (Obj.cells #[.slice none 0 0, .slice none 0 0, .int .i64 0, .int .i64 0, .int .i64 0, .int .i64 0, .int .i64 0, .int .i64 0, .int .i64 0] 57) := ⟨_, rfl⟩
          obtain ⟨n34, hn⟩ : ∃ n, n = V28.heap.size := ⟨_, rfl⟩
          rw [← hV, ← hn]
          have R34 : Hid (VtI B tb sb rb #[.slice ga L.length gc, .slice ha M.length hc, .int .i64 wt, .int .i64 lv, .int .i64 h.x, .int .i64 h.y, .int .i64 h.fr, .int .i64 h.to, .int .i64 h.sy] #[.int .i64 s.x, .int .i64 s.y, .int .i64 s.fr, .int .i64 s.to, .int .i64 s.sy] ga gc L ha hc M p ar W1 (some n28) (some n27) none none (some n34) V34) := by rw [hV, hn]; exact R28.out.mk22
          clear hV hn
          refine hK.out _ _ ⟨R34.out.t, R34.out.s⟩ (fun _ => ?_)
          clear hK K
          try simp only [Act.put, List.setIfInBounds_toArray, List.set_cons_zero, List.set_cons_succ, List.getElem_toArray, List.getElem_cons_succ, List.getElem_cons_zero]
          refine wpAnyH_ready (rs := [4]) (by kernel_rfl) (by simp) ?_
          refine AllReadyH.cons rfl (fun K hK => ?_) AllReadyH.nil
          refine step_int1 rfl _ _ rfl B ga gc L p V34 rfl R34.out.rowL n28 rfl (blkCell (R34.out.a3 _ rfl).2 0 _ rfl) HlL.out (Nat.le_trans R34.out.low R34.out.fr.size) ?_
          intro xg35 xc35 V35 hr1 hr2 hg hg1
          have R35 : Hid (VtI B tb sb rb #[.slice ga L.length gc, .slice ha M.length hc, .int .i64 wt, .int .i64 lv, .int .i64 h.x, .int .i64 h.y, .int .i64 h.fr, .int .i64 h.to, .int .i64 h.sy] #[.int .i64 s.x, .int .i64 s.y, .int .i64 s.fr, .int .i64 s.to, .int .i64 s.sy] ga gc L ha hc M p ar W1 (some n28) (some n27) (some (xg35, xc35)) none (some n34) V35) := R34.out.ap4 hr1 hr2 hg hg1
          clear hr1 hr2 hg hg1
          refine hK.out _ _ ⟨R35.out.t, R35.out.s⟩ (fun _ => ?_)
          clear hK K
          try simp only [Act.put, List.setIfInBounds_toArray, List.set_cons_zero, List.set_cons_succ, List.getElem_toArray, List.getElem_cons_succ, List.getElem_cons_zero]
          refine wpAnyH_ready (rs := [9]) (by kernel_rfl) (by simp) ?_
          refine AllReadyH.cons rfl (fun K hK => ?_) AllReadyH.nil
          refine step_int1 rfl _ _ rfl B ha hc M ar V35 rfl R35.out.rowM n27 rfl (blkCell (R35.out.a8 _ rfl).2 0 _ rfl) HlM.out (Nat.le_trans R35.out.low R35.out.fr.size) ?_
          intro xg36 xc36 V36 hr1 hr2 hg hg1
          have R36 : Hid (VtI B tb sb rb #[.slice ga L.length gc, .slice ha M.length hc, .int .i64 wt, .int .i64 lv, .int .i64 h.x, .int .i64 h.y, .int .i64 h.fr, .int .i64 h.to, .int .i64 h.sy] #[.int .i64 s.x, .int .i64 s.y, .int .i64 s.fr, .int .i64 s.to, .int .i64 s.sy] ga gc L ha hc M p ar W1 (some n28) (some n27) (some (xg35, xc35)) (some (xg36, xc36)) (some n34) V36) := R35.out.ap9 hr1 hr2 hg hg1
          clear hr1 hr2 hg hg1
          refine hK.out _ _ ⟨R36.out.t, R36.out.s⟩ (fun _ => ?_)
          clear hK K
          try simp only [Act.put, List.setIfInBounds_toArray, List.set_cons_zero, List.set_cons_succ, List.getElem_toArray, List.getElem_cons_succ, List.getElem_cons_zero]
          refine wpAnyH_take (i := 21) (v := .agg #[.slice (some ⟨xg35, 0, none⟩) (L.length + 1) xc35, .slice (some ⟨xg36, 0, none⟩) (M.length + 1) xc36, .int .i64 wn, .int .i64 ln, .int .i64 s.x, .int .i64 s.y, .int .i64 s.fr, .int .i64 s.to, .int .i64 s.sy]) rfl (by kernel_rfl) (by kernel_rfl) (by kernel_rfl) (fun _ _ _ h => h) (Or.inl ⟨by rfl, fun w hSw => by clear hSw; go_simp⟩) ⟨R36.out.t, R36.out.s⟩ ?_
          try simp only [Act.put, List.setIfInBounds_toArray, List.set_cons_zero, List.set_cons_succ, List.getElem_toArray, List.getElem_cons_succ, List.getElem_cons_zero]
          have HE : Hid _ := R36.out.fin s wn ln HTb.out
          obtain ⟨k1, k2, k3⟩ := R36.out.a22 _ rfl
          have q0 := blkCell k2 0 _ rfl
          have z0 := blkFree k2 0
          have q1 := blkCell k2 1 _ rfl
          have z1 := blkFree k2 1
          have q2 := blkCell k2 2 _ rfl
          have z2 := blkFree k2 2
          have q3 := blkCell k2 3 _ rfl
          have z3 := blkFree k2 3
          have q4 := blkCell k2 4 _ rfl
          have z4 := blkFree k2 4
          have q5 := blkCell k2 5 _ rfl
          have z5 := blkFree k2 5
          have q6 := blkCell k2 6 _ rfl
          have z6 := blkFree k2 6
          have q7 := blkCell k2 7 _ rfl
          have z7 := blkFree k2 7
          have q8 := blkCell k2 8 _ rfl
          have z8 := blkFree k2 8
          clear k1 k2 k3
          refine wpAnyH_ready (rs := [23]) (by kernel_rfl) (by simp) ?_
          refine AllReadyH.cons rfl (fun K hK => ?_) AllReadyH.nil
          go_simp
          have HE2 := HE.out
          obtain ⟨_, _, _, _, hx1, _⟩ := HE2
          have HX1 : Hid (_ ∧ _) := ⟨hx1.t, hx1.s⟩
          clear hx1 q0 z0 q1 z1 q2 z2 q3 z3 q4 z4 q5 z5 q6 z6 q7 z7 q8 z8
          refine hK.out _ _ HX1.out (fun _ => ?_)
          clear hK K
          try simp only [Act.put, List.setIfInBounds_toArray, List.set_cons_zero, List.set_cons_succ, List.getElem_toArray, List.getElem_cons_succ, List.getElem_cons_zero]
          refine wpAnyH_done (by kernel_rfl) ?_ _
          clear hH
          go_wp2_with fail
          go_meet
          exact ⟨_, rfl, HE.out⟩
      · skip
        go_simp
        obtain ⟨V37, hV⟩ : ∃ V, V = V27.alloc (Obj.cells #[.slice none 0 0, .slice none 0 0, .int .i64 0, .int .i64 0, .int .i64 0, .int .i64 0, .int .i64 0, .int .i64 0, .int .i64 0] 57) := ⟨_, rfl⟩
        obtain ⟨n37, hn⟩ : ∃ n, n = V27.heap.size := ⟨_, rfl⟩
        rw [← hV, ← hn]
        have R37 : Hid (VtI B tb sb rb #[.slice ga L.length gc, .slice ha M.length hc, .int .i64 wt, .int .i64 lv, .int .i64 h.x, .int .i64 h.y, .int .i64 h.fr, .int .i64 h.to, .int .i64 h.sy] #[.int .i64 s.x, .int .i64 s.y, .int .i64 s.fr, .int .i64 s.to, .int .i64 s.sy] ga gc L ha hc M p ar W1 none (some n27) none none (some n37) V37) := by rw [hV, hn]; exact R27.out.mk22
        clear hV hn
        refine hK.out _ _ ⟨R37.out.t, R37.out.s⟩ (fun _ => ?_)
        clear hK K
        try simp only [Act.put, List.setIfInBounds_toArray, List.set_cons_zero, List.set_cons_succ, List.getElem_toArray, List.getElem_cons_succ, List.getElem_cons_zero]
        refine wpAnyH_ready (rs := [3]) (by kernel_rfl) (by simp) ?_
        refine AllReadyH.cons rfl (fun K hK => ?_) AllReadyH.nil
        go_simp
        obtain ⟨V38, hV⟩ : ∃ V, V = V37.alloc (Obj.cells #[.int .i64 p] 3) := ⟨_, rfl⟩
        obtain ⟨n38, hn⟩ : ∃ n, n = V37.heap.size := ⟨_, rfl⟩
        rw [← hV, ← hn]
        have R38 : Hid (VtI B tb sb rb #[.slice ga L.length gc, .slice ha M.length hc, .int .i64 wt, .int .i64 lv, .int .i64 h.x, .int .i64 h.y, .int .i64 h.fr, .int .i64 h.to, .int .i64 h.sy] #[.int .i64 s.x, .int .i64 s.y, .int .i64 s.fr, .int .i64 s.to, .int .i64 s.sy] ga gc L ha hc M p ar W1 (some n38) (some n27) none none (some n37) V38) := by rw [hV, hn]; exact R37.out.mk3
        clear hV hn
        refine hK.out _ _ ⟨R38.out.t, R38.out.s⟩ (fun _ => ?_)
        clear hK K
        try simp only [Act.put, List.setIfInBounds_toArray, List.set_cons_zero, List.set_cons_succ, List.getElem_toArray, List.getElem_cons_succ, List.getElem_cons_zero]
        refine wpAnyH_ready (rs := [4]) (by kernel_rfl) (by simp) ?_
        refine AllReadyH.cons rfl (fun K hK => ?_) AllReadyH.nil
        refine step_int1 rfl _ _ rfl B ga gc L p V38 rfl R38.out.rowL n38 rfl (blkCell (R38.out.a3 _ rfl).2 0 _ rfl) HlL.out (Nat.le_trans R38.out.low R38.out.fr.size) ?_
        intro xg39 xc39 V39 hr1 hr2 hg hg1
        have R39 : Hid (VtI B tb sb rb #[.slice ga L.length gc, .slice ha M.length hc, .int .i64 wt, .int .i64 lv, .int .i64 h.x, .int .i64 h.y, .int .i64 h.fr, .int .i64 h.to, .int .i64 h.sy] #[.int .i64 s.x, .int .i64 s.y, .int .i64 s.fr, .int .i64 s.to, .int .i64 s.sy] ga gc L ha hc M p ar W1 (some n38) (some n27) (some (xg39, xc39)) none (some n37) V39) := R38.out.ap4 hr1 hr2 hg hg1
        clear hr1 hr2 hg hg1
        refine hK.out _ _ ⟨R39.out.t, R39.out.s⟩ (fun _ => ?_)
        clear hK K
        try simp only [Act.put, List.setIfInBounds_toArray, List.set_cons_zero, List.set_cons_succ, List.getElem_toArray, List.getElem_cons_succ, List.getElem_cons_zero]
        refine wpAnyH_ready (rs := [9]) (by kernel_rfl) (by simp) ?_
        refine AllReadyH.cons rfl (fun K hK => ?_) AllReadyH.nil
        refine step_int1 rfl _ _ rfl B ha hc M ar V39 rfl R39.out.rowM n27 rfl (blkCell (R39.out.a8 _ rfl).2 0 _ rfl) HlM.out (Nat.le_trans R39.out.low R39.out.fr.size) ?_
        intro xg40 xc40 V40 hr1 hr2 hg hg1
        have R40 : Hid (VtI B tb sb rb #[.slice ga L.length gc, .slice ha M.length hc, .int .i64 wt, .int .i64 lv, .int .i64 h.x, .int .i64 h.y, .int .i64 h.fr, .int .i64 h.to, .int .i64 h.sy] #[.int .i64 s.x, .int .i64 s.y, .int .i64 s.fr, .int .i64 s.to, .int .i64 s.sy] ga gc L ha hc M p ar W1 (some n38) (some n27) (some (xg39, xc39)) (some (xg40, xc40)) (some n37) V40) := R39.out.ap9 hr1 hr2 hg hg1
        clear hr1 hr2 hg hg1
        refine hK.out _ _ ⟨R40.out.t, R40.out.s⟩ (fun _ => ?_)
        clear hK K
        try simp only [Act.put, List.setIfInBounds_toArray, List.set_cons_zero, List.set_cons_succ, List.getElem_toArray, List.getElem_cons_succ, List.getElem_cons_zero]
        refine wpAnyH_take (i := 21) (v := .agg #[.slice (some ⟨xg39, 0, none⟩) (L.length + 1) xc39, .slice (some ⟨xg40, 0, none⟩) (M.length + 1) xc40, .int .i64 wn, .int .i64 ln, .int .i64 s.x, .int .i64 s.y, .int .i64 s.fr, .int .i64 s.to, .int .i64 s.sy]) rfl (by kernel_rfl) (by kernel_rfl) (by kernel_rfl) (fun _ _ _ h => h) (Or.inl ⟨by rfl, fun w hSw => by clear hSw; go_simp⟩) ⟨R40.out.t, R40.out.s⟩ ?_
        try simp only [Act.put, List.setIfInBounds_toArray, List.set_cons_zero, List.set_cons_succ, List.getElem_toArray, List.getElem_cons_succ, List.getElem_cons_zero]
        have HE : Hid _ := R40.out.fin s wn ln HTb.out
        obtain ⟨k1, k2, k3⟩ := R40.out.a22 _ rfl
        have q0 := blkCell k2 0 _ rfl
        have z0 := blkFree k2 0
        have q1 := blkCell k2 1 _ rfl
        have z1 := blkFree k2 1
        have q2 := blkCell k2 2 _ rfl
        have z2 := blkFree k2 2
        have q3 := blkCell k2 3 _ rfl
        have z3 := blkFree k2 3
        have q4 := blkCell k2 4 _ rfl
        have z4 := blkFree k2 4
        have q5 := blkCell k2 5 _ rfl
        have z5 := blkFree k2 5
        have q6 := blkCell k2 6 _ rfl
        have z6 := blkFree k2 6
        have q7 := blkCell k2 7 _ rfl
        have z7 := blkFree k2 7
        have q8 := blkCell k2 8 _ rfl
        have z8 := blkFree k2 8
        clear k1 k2 k3
        refine wpAnyH_ready (rs := [23]) (by kernel_rfl) (by simp) ?_
        refine AllReadyH.cons rfl (fun K hK => ?_) AllReadyH.nil
        go_simp
        have HE2 := HE.out
        obtain ⟨_, _, _, _, hx1, _⟩ := HE2
        have HX1 : Hid (_ ∧ _) := ⟨hx1.t, hx1.s⟩
        clear hx1 q0 z0 q1 z1 q2 z2 q3 z3 q4 z4 q5 z5 q6 z6 q7 z7 q8 z8
        refine hK.out _ _ HX1.out (fun _ => ?_)
        clear hK K
        try simp only [Act.put, List.setIfInBounds_toArray, List.set_cons_zero, List.set_cons_succ, List.getElem_toArray, List.getElem_cons_succ, List.getElem_cons_zero]
        refine wpAnyH_done (by kernel_rfl) ?_ _
        clear hH
        go_wp2_with fail
        go_meet
        exact ⟨_, rfl, HE.out⟩
    · skip
      go_simp
      obtain ⟨V41, hV⟩ : ∃ V, V = V0.alloc (Obj.cells #[.slice none 0 0, .slice none 0 0, .int .i64 0, .int .i64 0, .int .i64 0, .int .i64 0, .int .i64 0, .int .i64 0, .int .i64 0] 57) := ⟨_, rfl⟩
      obtain ⟨n41, hn⟩ : ∃ n, n = V0.heap.size := ⟨_, rfl⟩
      rw [← hV, ← hn]
      have R41 : Hid (VtI B tb sb rb #[.slice ga L.length gc, .slice ha M.length hc, .int .i64 wt, .int .i64 lv, .int .i64 h.x, .int .i64 h.y, .int .i64 h.fr, .int .i64 h.to, .int .i64 h.sy] #[.int .i64 s.x, .int .i64 s.y, .int .i64 s.fr, .int .i64 s.to, .int .i64 s.sy] ga gc L ha hc M p ar W1 none none none none (some n41) V41) := by rw [hV, hn]; exact R0.out.mk22
      clear hV hn
      refine hK.out _ _ ⟨R41.out.t, R41.out.s⟩ (fun _ => ?_)
      clear hK K
      try simp only [Act.put, List.setIfInBounds_toArray, List.set_cons_zero, List.set_cons_succ, List.getElem_toArray, List.getElem_cons_succ, List.getElem_cons_zero]
      refine wpAnyH_ready (rs := [3, 8]) (by kernel_rfl) (by simp) ?_
      refine AllReadyH.cons rfl (fun K hK => ?_) (AllReadyH.cons rfl (fun K hK => ?_) AllReadyH.nil)
      · skip
        go_simp
        obtain ⟨V42, hV⟩ : ∃ V, V = V41.alloc (Obj.cells #[.int .i64 p] 3) := ⟨_, rfl⟩
        obtain ⟨n42, hn⟩ : ∃ n, n = V41.heap.size := ⟨_, rfl⟩
        rw [← hV, ← hn]
        have R42 : Hid (VtI B tb sb rb #[.slice ga L.length gc, .slice ha M.length hc, .int .i64 wt, .int .i64 lv, .int .i64 h.x, .int .i64 h.y, .int .i64 h.fr, .int .i64 h.to, .int .i64 h.sy] #[.int .i64 s.x, .int .i64 s.y, .int .i64 s.fr, .int .i64 s.to, .int .i64 s.sy] ga gc L ha hc M p ar W1 (some n42) none none none (some n41) V42) := by rw [hV, hn]; exact R41.out.mk3
        clear hV hn
        refine hK.out _ _ ⟨R42.out.t, R42.out.s⟩ (fun _ => ?_)
        clear hK K
        try simp only [Act.put, List.setIfInBounds_toArray, List.set_cons_zero, List.set_cons_succ, List.getElem_toArray, List.getElem_cons_succ, List.getElem_cons_zero]
        refine wpAnyH_ready (rs := [4, 8]) (by kernel_rfl) (by simp) ?_
        refine AllReadyH.cons rfl (fun K hK => ?_) (AllReadyH.cons rfl (fun K hK => ?_) AllReadyH.nil)
        · skip
          refine step_int1 rfl _ _ rfl B ga gc L p V42 rfl R42.out.rowL n42 rfl (blkCell (R42.out.a3 _ rfl).2 0 _ rfl) HlL.out (Nat.le_trans R42.out.low R42.out.fr.size) ?_
          intro xg43 xc43 V43 hr1 hr2 hg hg1
          have R43 : Hid (VtI B tb sb rb #[.slice ga L.length gc, .slice ha M.length hc, .int .i64 wt, .int .i64 lv, .int .i64 h.x, .int .i64 h.y, .int .i64 h.fr, .int .i64 h.to, .int .i64 h.sy] #[.int .i64 s.x, .int .i64 s.y, .int .i64 s.fr, .int .i64 s.to, .int .i64 s.sy] ga gc L ha hc M p ar W1 (some n42) none (some (xg43, xc43)) none (some n41) V43) := R42.out.ap4 hr1 hr2 hg hg1
          clear hr1 hr2 hg hg1
          refine hK.out _ _ ⟨R43.out.t, R43.out.s⟩ (fun _ => ?_)
          clear hK K
          try simp only [Act.put, List.setIfInBounds_toArray, List.set_cons_zero, List.set_cons_succ, List.getElem_toArray, List.getElem_cons_succ, List.getElem_cons_zero]
          refine wpAnyH_ready (rs := [8]) (by kernel_rfl) (by simp) ?_
          refine AllReadyH.cons rfl (fun K hK => ?_) AllReadyH.nil
          go_simp
          obtain ⟨V44, hV⟩ : ∃ V, V = V43.alloc (Obj.cells #[.int .i64 ar] 3) := ⟨_, rfl⟩
          obtain ⟨n44, hn⟩ : ∃ n, n = V43.heap.size := ⟨_, rfl⟩
          rw [← hV, ← hn]
          have R44 : Hid (VtI B tb sb rb #[.slice ga L.length gc, .slice ha M.length hc, .int .i64 wt, .int .i64 lv, .int .i64 h.x, .int .i64 h.y, .int .i64 h.fr, .int .i64 h.to, .int .i64 h.sy] #[.int .i64 s.x, .int .i64 s.y, .int .i64 s.fr, .int .i64 s.to, .int .i64 s.sy] ga gc L ha hc M p ar W1 (some n42) (some n44) (some (xg43, xc43)) none (some n41) V44) := by rw [hV, hn]; exact R43.out.mk8
          clear hV hn
          refine hK.out _ _ ⟨R44.out.t, R44.out.s⟩ (fun _ => ?_)
          clear hK K
          try simp only [Act.put, List.setIfInBounds_toArray, List.set_cons_zero, List.set_cons_succ, List.getElem_toArray, List.getElem_cons_succ, List.getElem_cons_zero]
          refine wpAnyH_ready (rs := [9]) (by kernel_rfl) (by simp) ?_
          refine AllReadyH.cons rfl (fun K hK => ?_) AllReadyH.nil
          refine step_int1 rfl _ _ rfl B ha hc M ar V44 rfl R44.out.rowM n44 rfl (blkCell (R44.out.a8 _ rfl).2 0 _ rfl) HlM.out (Nat.le_trans R44.out.low R44.out.fr.size) ?_
          intro xg45 xc45 V45 hr1 hr2 hg hg1
          have R45 : Hid (VtI B tb sb rb #[.slice ga L.length gc, .slice ha M.length hc, .int .i64 wt, .int .i64 lv, .int .i64 h.x, .int .i64 h.y, .int .i64 h.fr, .int .i64 h.to, .int .i64 h.sy] #[.int .i64 s.x, .int .i64 s.y, .int .i64 s.fr, .int .i64 s.to, .int .i64 s.sy] ga gc L ha hc M p ar W1 (some n42) (some n44) (some (xg43, xc43)) (some (xg45, xc45)) (some n41) V45) := R44.out.ap9 hr1 hr2 hg hg1
          clear hr1 hr2 hg hg1
          refine hK.out _ _ ⟨R45.out.t, R45.out.s⟩ (fun _ => ?_)
          clear hK K
          try simp only [Act.put, List.setIfInBounds_toArray, List.set_cons_zero, List.set_cons_succ, List.getElem_toArray, List.getElem_cons_succ, List.getElem_cons_zero]
          refine wpAnyH_take (i := 21) (v := .agg #[.slice (some ⟨xg43, 0, none⟩) (L.length + 1) xc43, .slice (some ⟨xg45, 0, none⟩) (M.length + 1) xc45, .int .i64 wn, .int .i64 ln, .int .i64 s.x, .int .i64 s.y, .int .i64 s.fr, .int .i64 s.to, .int .i64 s.sy]) rfl (by kernel_rfl) (by kernel_rfl) (by kernel_rfl) (fun _ _ _ h => h) (Or.inl ⟨by rfl, fun w hSw => by clear hSw; go_simp⟩) ⟨R45.out.t, R45.out.s⟩ ?_
          try simp only [Act.put, List.setIfInBounds_toArray, List.set_cons_zero, List.set_cons_succ, List.getElem_toArray, List.getElem_cons_succ, List.getElem_cons_zero]
          have HE : Hid _ := R45.out.fin s wn ln HTb.out
          obtain ⟨k1, k2, k3⟩ := R45.out.a22 _ rfl
          have q0 := blkCell k2 0 _ rfl
          have z0 := blkFree k2 0
          have q1 := blkCell k2 1 _ rfl
          have z1 := blkFree k2 1
          have q2 := blkCell k2 2 _ rfl
          have z2 := blkFree k2 2
          have q3 := blkCell k2 3 _ rfl
          have z3 := blkFree k2 3
          have q4 := blkCell k2 4 _ rfl
          have z4 := blkFree k2 4
          have q5 := blkCell k2 5 _ rfl
          have z5 := blkFree k2 5
          have q6 := blkCell k2 6 _ rfl
          have z6 := blkFree k2 6
          have q7 := blkCell k2 7 _ rfl
          have z7 := blkFree k2 7
          have q8 := blkCell k2 8 _ rfl
          have z8 := blkFree k2 8
          clear k1 k2 k3
          refine wpAnyH_ready (rs := [23]) (by kernel_rfl) (by simp) ?_
          refine AllReadyH.cons rfl (fun K hK => ?_) AllReadyH.nil
          go_simp
          have HE2 := HE.out
          obtain ⟨_, _, _, _, hx1, _⟩ := HE2
          have HX1 : Hid (_ ∧ _) := ⟨hx1.t, hx1.s⟩
          clear hx1 q0 z0 q1 z1 q2 z2 q3 z3 q4 z4 q5 z5 q6 z6 q7 z7 q8 z8
          refine hK.out _ _ HX1.out (fun _ => ?_)
          clear hK K
          try simp only [Act.put, List.setIfInBounds_toArray, List.set_cons_zero, List.set_cons_succ, List.getElem_toArray, List.getElem_cons_succ, List.getElem_cons_zero]
          refine wpAnyH_done (by kernel_rfl) ?_ _
          clear hH
          go_wp2_with fail
          go_meet
          exact ⟨_, rfl, HE.out⟩
        · skip
          go_simp
          obtain ⟨V46, hV⟩ : ∃ V, V = V42.alloc (Obj.cells #[.int .i64 ar] 3) := ⟨_, rfl⟩
          obtain ⟨n46, hn⟩ : ∃ n, n = V42.heap.size := ⟨_, rfl⟩
          rw [← hV, ← hn]
          have R46 : Hid (VtI B tb sb rb #[.slice ga L.length gc, .slice ha M.length hc, .int .i64 wt, .int .i64 lv, .int .i64 h.x, .int .i64 h.y, .int .i64 h.fr, .int .i64 h.to, .int .i64 h.sy] #[.int .i64 s.x, .int .i64 s.y, .int .i64 s.fr, .int .i64 s.to, .int .i64 s.sy] ga gc L ha hc M p ar W1 (some n42) (some n46) none none (some n41) V46) := by rw [hV, hn]; exact R42.out.mk8
          clear hV hn
          refine hK.out _ _ ⟨R46.out.t, R46.out.s⟩ (fun _ => ?_)
          clear hK K
          try simp only [Act.put, List.setIfInBounds_toArray, List.set_cons_zero, List.set_cons_succ, List.getElem_toArray, List.getElem_cons_succ, List.getElem_cons_zero]
          refine wpAnyH_ready (rs := [4]) (by kernel_rfl) (by simp) ?_
          refine AllReadyH.cons rfl (fun K hK => ?_) AllReadyH.nil
          refine step_int1 rfl _ _ rfl B ga gc L p V46 rfl R46.out.rowL n42 rfl (blkCell (R46.out.a3 _ rfl).2 0 _ rfl) HlL.out (Nat.le_trans R46.out.low R46.out.fr.size) ?_
          intro xg47 xc47 V47 hr1 hr2 hg hg1
          have R47 : Hid (VtI B tb sb rb #[.slice ga L.length gc, .slice ha M.length hc, .int .i64 wt, .int .i64 lv, .int .i64 h.x, .int .i64 h.y, .int .i64 h.fr, .int .i64 h.to, .int .i64 h.sy] #[.int .i64 s.x, .int .i64 s.y, .int .i64 s.fr, .int .i64 s.to, .int .i64 s.sy] ga gc L ha hc M p ar W1 (some n42) (some n46) (some (xg47, xc47)) none (some n41) V47) := R46.out.ap4 hr1 hr2 hg hg1
          clear hr1 hr2 hg hg1
          refine hK.out _ _ ⟨R47.out.t, R47.out.s⟩ (fun _ => ?_)
          clear hK K
          try simp only [Act.put, List.setIfInBounds_toArray, List.set_cons_zero, List.set_cons_succ, List.getElem_toArray, List.getElem_cons_succ, List.getElem_cons_zero]
          refine wpAnyH_ready (rs := [9]) (by kernel_rfl) (by simp) ?_
          refine AllReadyH.cons rfl (fun K hK => ?_) AllReadyH.nil
          refine step_int1 rfl _ _ rfl B ha hc M ar V47 rfl R47.out.rowM n46 rfl (blkCell (R47.out.a8 _ rfl).2 0 _ rfl) HlM.out (Nat.le_trans R47.out.low R47.out.fr.size) ?_
          intro xg48 xc48 V48 hr1 hr2 hg hg1
          have R48 : Hid (VtI B tb sb rb #[.slice ga L.length gc, .slice ha M.length hc, .int .i64 wt, .int .i64 lv, .int .i64 h.x, .int .i64 h.y, .int .i64 h.fr, .int .i64 h.to, .int .i64 h.sy] #[.int .i64 s.x, .int .i64 s.y, .int .i64 s.fr, .int .i64 s.to, .int .i64 s.sy] ga gc L ha hc M p ar W1 (some n42) (some n46) (some (xg47, xc47)) (some (xg48, xc48)) (some n41) V48) := R47.out.ap9 hr1 hr2 hg hg1
          clear hr1 hr2 hg hg1
          refine hK.out _ _ ⟨R48.out.t, R48.out.s⟩ (fun _ => ?_)
          clear hK K
          try simp only [Act.put, List.setIfInBounds_toArray, List.set_cons_zero, List.set_cons_succ, List.getElem_toArray, List.getElem_cons_succ, List.getElem_cons_zero]
          refine wpAnyH_take (i := 21) (v := .agg #[.slice (some ⟨xg47, 0, none⟩) (L.length + 1) xc47, .slice (some ⟨xg48, 0, none⟩) (M.length + 1) xc48, .int .i64 wn, .int .i64 ln, .int .i64 s.x, .int .i64 s.y, .int .i64 s.fr, .int .i64 s.to, .int .i64 s.sy]) rfl (by kernel_rfl) (by kernel_rfl) (by kernel_rfl) (fun _ _ _ h => h) (Or.inl ⟨by rfl, fun w hSw => by clear hSw; go_simp⟩) ⟨R48.out.t, R48.out.s⟩ ?_
          try simp only [Act.put, List.setIfInBounds_toArray, List.set_cons_zero, List.set_cons_succ, List.getElem_toArray, List.getElem_cons_succ, List.getElem_cons_zero]
          have HE : Hid _ := R48.out.fin s wn ln HTb.out
          obtain ⟨k1, k2, k3⟩ := R48.out.a22 _ rfl
          have q0 := blkCell k2 0 _ rfl
          have z0 := blkFree k2 0
          have q1 := blkCell k2 1 _ rfl
          have z1 := blkFree k2 1
          have q2 := blkCell k2 2 _ rfl
          have z2 := blkFree k2 2
          have q3 := blkCell k2 3 _ rfl
          have z3 := blkFree k2 3
          have q4 := blkCell k2 4 _ rfl
          have z4 := blkFree k2 4
          have q5 := blkCell k2 5 _ rfl
          have z5 := blkFree k2 5
          have q6 := blkCell k2 6 _ rfl
          have z6 := blkFree k2 6
          have q7 := blkCell k2 7 _ rfl
          have z7 := blkFree k2 7
          have q8 := blkCell k2 8 _ rfl
          have z8 := blkFree k2 8
          clear k1 k2 k3
          refine wpAnyH_ready (rs := [23]) (by kernel_rfl) (by simp) ?_
          refine AllReadyH.cons rfl (fun K hK => ?_) AllReadyH.nil
          go_simp
          have HE2 := HE.out
          obtain ⟨_, _, _, _, hx1, _⟩ := HE2
          have HX1 : Hid (_ ∧ _) := ⟨hx1.t, hx1.s⟩
          clear hx1 q0 z0 q1 z1 q2 z2 q3 z3 q4 z4 q5 z5 q6 z6 q7 z7 q8 z8
          refine hK.out _ _ HX1.out (fun _ => ?_)
          clear hK K
          try simp only [Act.put, List.setIfInBounds_toArray, List.set_cons_zero, List.set_cons_succ, List.getElem_toArray, List.getElem_cons_succ, List.getElem_cons_zero]
          refine wpAnyH_done (by kernel_rfl) ?_ _
          clear hH
          go_wp2_with fail
          go_meet
          exact ⟨_, rfl, HE.out⟩
      · skip
        go_simp
        obtain ⟨V49, hV⟩ : ∃ V, V = V41.alloc (Obj.cells #[.int .i64 ar] 3) := ⟨_, rfl⟩
        obtain ⟨n49, hn⟩ : ∃ n, n = V41.heap.size := ⟨_, rfl⟩
        rw [← hV, ← hn]
        have R49 : Hid (VtI B tb sb rb #[.slice ga L.length gc, .slice ha M.length hc, .int .i64 wt, .int .i64 lv, .int .i64 h.x, .int .i64 h.y, .int .i64 h.fr, .int .i64 h.to, .int .i64 h.sy] #[.int .i64 s.x, .int .i64 s.y, .int .i64 s.fr, .int .i64 s.to, .int .i64 s.sy] ga gc L ha hc M p ar W1 none (some n49) none none (some n41) V49) := by rw [hV, hn]; exact R41.out.mk8
        clear hV hn
        refine hK.out _ _ ⟨R49.out.t, R49.out.s⟩ (fun _ => ?_)
        clear hK K
        try simp only [Act.put, List.setIfInBounds_toArray, List.set_cons_zero, List.set_cons_succ, List.getElem_toArray, List.getElem_cons_succ, List.getElem_cons_zero]
        refine wpAnyH_ready (rs := [3]) (by kernel_rfl) (by simp) ?_
        refine AllReadyH.cons rfl (fun K hK => ?_) AllReadyH.nil
        go_simp
        obtain ⟨V50, hV⟩ : ∃ V, V = V49.alloc (Obj.cells #[.int .i64 p] 3) := ⟨_, rfl⟩
        obtain ⟨n50, hn⟩ : ∃ n, n = V49.heap.size := ⟨_, rfl⟩
        rw [← hV, ← hn]
        have R50 : Hid (VtI B tb sb rb #[.slice ga L.length gc, .slice ha M.length hc, .int .i64 wt, .int .i64 lv, .int .i64 h.x, .int .i64 h.y, .int .i64 h.fr, .int .i64 h.to, .int .i64 h.sy] #[.int .i64 s.x, .int .i64 s.y, .int .i64 s.fr, .int .i64 s.to, .int .i64 s.sy] ga gc L ha hc M p ar W1 (some n50) (some n49) none none (some n41) V50) := by rw [hV, hn]; exact R49.out.mk3
        clear hV hn
        refine hK.out _ _ ⟨R50.out.t, R50.out.s⟩ (fun _ => ?_)
        clear hK K
        try simp only [Act.put, List.setIfInBounds_toArray, List.set_cons_zero, List.set_cons_succ, List.getElem_toArray, List.getElem_cons_succ, List.getElem_cons_zero]
        refine wpAnyH_ready (rs := [4]) (by kernel_rfl) (by simp) ?_
        refine AllReadyH.cons rfl (fun K hK => ?_) AllReadyH.nil
        refine step_int1 rfl _ _ rfl B ga gc L p V50 rfl R50.out.rowL n50 rfl (blkCell (R50.out.a3 _ rfl).2 0 _ rfl) HlL.out (Nat.le_trans R50.out.low R50.out.fr.size) ?_
        intro xg51 xc51 V51 hr1 hr2 hg hg1
        have R51 : Hid (VtI B tb sb rb #[.slice ga L.length gc, .slice ha M.length hc, .int .i64 wt, .int .i64 lv, .int .i64 h.x, .int .i64 h.y, .int .i64 h.fr, .int .i64 h.to, .int .i64 h.sy] #[.int .i64 s.x, .int .i64 s.y, .int .i64 s.fr, .int .i64 s.to, .int .i64 s.sy] ga gc L ha hc M p ar W1 (some n50) (some n49) (some (xg51, xc51)) none (some n41) V51) := R50.out.ap4 hr1 hr2 hg hg1
        clear hr1 hr2 hg hg1
        refine hK.out _ _ ⟨R51.out.t, R51.out.s⟩ (fun _ => ?_)
        clear hK K
        try simp only [Act.put, List.setIfInBounds_toArray, List.set_cons_zero, List.set_cons_succ, List.getElem_toArray, List.getElem_cons_succ, List.getElem_cons_zero]
        refine wpAnyH_ready (rs := [9]) (by kernel_rfl) (by simp) ?_
        refine AllReadyH.cons rfl (fun K hK => ?_) AllReadyH.nil
        refine step_int1 rfl _ _ rfl B ha hc M ar V51 rfl R51.out.rowM n49 rfl (blkCell (R51.out.a8 _ rfl).2 0 _ rfl) HlM.out (Nat.le_trans R51.out.low R51.out.fr.size) ?_
        intro xg52 xc52 V52 hr1 hr2 hg hg1
        have R52 : Hid (VtI B tb sb rb #[.slice ga L.length gc, .slice ha M.length hc, .int .i64 wt, .int .i64 lv, .int .i64 h.x, .int .i64 h.y, .int .i64 h.fr, .int .i64 h.to, .int .i64 h.sy] #[.int .i64 s.x, .int .i64 s.y, .int .i64 s.fr, .int .i64 s.to, .int .i64 s.sy] ga gc L ha hc M p ar W1 (some n50) (some n49) (some (xg51, xc51)) (some (xg52, xc52)) (some n41) V52) := R51.out.ap9 hr1 hr2 hg hg1
        clear hr1 hr2 hg hg1
        refine hK.out _ _ ⟨R52.out.t, R52.out.s⟩ (fun _ => ?_)
        clear hK K
        try simp only [Act.put, List.setIfInBounds_toArray, List.set_cons_zero, List.set_cons_succ, List.getElem_toArray, List.getElem_cons_succ, List.getElem_cons_zero]
        refine wpAnyH_take (i := 21) (v := .agg #[.slice (some ⟨xg51, 0, none⟩) (L.length + 1) xc51, .slice (some ⟨xg52, 0, none⟩) (M.length + 1) xc52, .int .i64 wn, .int .i64 ln, .int .i64 s.x, .int .i64 s.y, .int .i64 s.fr, .int .i64 s.to, .int .i64 s.sy]) rfl (by kernel_rfl) (by kernel_rfl) (by kernel_rfl) (fun _ _ _ h => h) (Or.inl ⟨by rfl, fun w hSw => by clear hSw; go_simp⟩) ⟨R52.out.t, R52.out.s⟩ ?_
        try simp only [Act.put, List.setIfInBounds_toArray, List.set_cons_zero, List.set_cons_succ, List.getElem_toArray, List.getElem_cons_succ, List.getElem_cons_zero]
        have HE : Hid _ := R52.out.fin s wn ln HTb.out
        obtain ⟨k1, k2, k3⟩ := R52.out.a22 _ rfl
        have q0 := blkCell k2 0 _ rfl
        have z0 := blkFree k2 0
        have q1 := blkCell k2 1 _ rfl
        have z1 := blkFree k2 1
        have q2 := blkCell k2 2 _ rfl
        have z2 := blkFree k2 2
        have q3 := blkCell k2 3 _ rfl
        have z3 := blkFree k2 3
        have q4 := blkCell k2 4 _ rfl
        have z4 := blkFree k2 4
        have q5 := blkCell k2 5 _ rfl
        have z5 := blkFree k2 5
        have q6 := blkCell k2 6 _ rfl
        have z6 := blkFree k2 6
        have q7 := blkCell k2 7 _ rfl
        have z7 := blkFree k2 7
        have q8 := blkCell k2 8 _ rfl
        have z8 := blkFree k2 8
        clear k1 k2 k3
        refine wpAnyH_ready (rs := [23]) (by kernel_rfl) (by simp) ?_
        refine AllReadyH.cons rfl (fun K hK => ?_) AllReadyH.nil
        go_simp
        have HE2 := HE.out
        obtain ⟨_, _, _, _, hx1, _⟩ := HE2
        have HX1 : Hid (_ ∧ _) := ⟨hx1.t, hx1.s⟩
        clear hx1 q0 z0 q1 z1 q2 z2 q3 z3 q4 z4 q5 z5 q6 z6 q7 z7 q8 z8
        refine hK.out _ _ HX1.out (fun _ => ?_)
        clear hK K
        try simp only [Act.put, List.setIfInBounds_toArray, List.set_cons_zero, List.set_cons_succ, List.getElem_toArray, List.getElem_cons_succ, List.getElem_cons_zero]
        refine wpAnyH_done (by kernel_rfl) ?_ _
        clear hH
        go_wp2_with fail
        go_meet
        exact ⟨_, rfl, HE.out⟩
  case rest =>
    obtain ⟨nb, rfl, g1, c1, g2, c2, hI, hnb, hne⟩ := hcut
    have HI : Hid (VtI B tb sb rb #[.slice ga L.length gc, .slice ha M.length hc, .int .i64 wt, .int .i64 lv, .int .i64 h.x, .int .i64 h.y, .int .i64 h.fr, .int .i64 h.to, .int .i64 h.sy] #[.int .i64 s.x, .int .i64 s.y, .int .i64 s.fr, .int .i64 s.to, .int .i64 s.sy] ga gc L ha hc M p ar W1 none none (some (g1, c1)) (some (g2, c2)) none wc) := hI
    have HNb : Hid (wc.heap[nb]? = some (.cells #[.slice (some ⟨g1, 0, none⟩) (L.length + 1) c1, .slice (some ⟨g2, 0, none⟩) (M.length + 1) c2, .int .i64 wn, .int .i64 ln, .int .i64 s.x, .int .i64 s.y, .int .i64 s.fr, .int .i64 s.to, .int .i64 s.sy] 57 (0, 0)) ∧ nb ≠ rb) := ⟨hnb, hne⟩
    clear hI hnb hne w1 w2 w3 w4 w5 w6
    obtain ⟨ok, hok⟩ : ∃ ok, decide (ar ≤ s.to) = ok := ⟨_, rfl⟩
    have HOk : Hid (decide (ar ≤ s.to) = ok) := hok
    clear hok HI2
    go_upto_region 4 with fail
    have HC2 : Hid (∀ W : World, (W.heap[nb]? = some (.cells #[.slice (some ⟨g1, 0, none⟩) (L.length + 1) c1, .slice (some ⟨g2, 0, none⟩) (M.length + 1) c2, .int .i64 wn, .int .i64 ln, .int .i64 s.x, .int .i64 s.y, .int .i64 s.fr, .int .i64 s.to, .int .i64 s.sy] 57 (0, 0)) ∧ W.heap[sb]? = some (.cells #[.int .i64 s.x, .int .i64 s.y, .int .i64 s.fr, .int .i64 s.to, .int .i64 s.sy] 37 (0, 0))) → (W.cell? ⟨nb, 0, none⟩ = some (.slice (some ⟨g1, 0, none⟩) (L.length + 1) c1) ∧ W.cell? ⟨nb, 1, none⟩ = some (.slice (some ⟨g2, 0, none⟩) (M.length + 1) c2) ∧ W.cell? ⟨nb, 2, none⟩ = some (.int .i64 wn) ∧ W.cell? ⟨nb, 3, none⟩ = some (.int .i64 ln) ∧ W.cell? ⟨nb, 4, none⟩ = some (.int .i64 s.x) ∧ W.cell? ⟨nb, 5, none⟩ = some (.int .i64 s.y) ∧ W.cell? ⟨nb, 6, none⟩ = some (.int .i64 s.fr) ∧ W.cell? ⟨nb, 7, none⟩ = some (.int .i64 s.to) ∧ W.cell? ⟨nb, 8, none⟩ = some (.int .i64 s.sy)) ∧ (W.cell? ⟨sb, 0, none⟩ = some (.int .i64 s.x) ∧ W.cell? ⟨sb, 1, none⟩ = some (.int .i64 s.y) ∧ W.cell? ⟨sb, 2, none⟩ = some (.int .i64 s.fr) ∧ W.cell? ⟨sb, 3, none⟩ = some (.int .i64 s.to) ∧ W.cell? ⟨sb, 4, none⟩ = some (.int .i64 s.sy))) := fun W hW => ⟨⟨blkCell hW.1 0 _ rfl, blkCell hW.1 1 _ rfl, blkCell hW.1 2 _ rfl, blkCell hW.1 3 _ rfl, blkCell hW.1 4 _ rfl, blkCell hW.1 5 _ rfl, blkCell hW.1 6 _ rfl, blkCell hW.1 7 _ rfl, blkCell hW.1 8 _ rfl⟩, ⟨blkCell hW.2 0 _ rfl, blkCell hW.2 1 _ rfl, blkCell hW.2 2 _ rfl, blkCell hW.2 3 _ rfl, blkCell hW.2 4 _ rfl⟩⟩
    have HI3 : Hid (VtI B tb sb rb #[.slice ga L.length gc, .slice ha M.length hc, .int .i64 wt, .int .i64 lv, .int .i64 h.x, .int .i64 h.y, .int .i64 h.fr, .int .i64 h.to, .int .i64 h.sy] #[.int .i64 s.x, .int .i64 s.y, .int .i64 s.fr, .int .i64 s.to, .int .i64 s.sy] ga gc L ha hc M p ar W1 none none (some (g1, c1)) (some (g2, c2)) none wc.drew) := HI.out.later (below_drew _)
    refine wp_region_held_drew (S := fun W => W.heap[nb]? = some (.cells #[.slice (some ⟨g1, 0, none⟩) (L.length + 1) c1, .slice (some ⟨g2, 0, none⟩) (M.length + 1) c2, .int .i64 wn, .int .i64 ln, .int .i64 s.x, .int .i64 s.y, .int .i64 s.fr, .int .i64 s.to, .int .i64 s.sy] 57 (0, 0)) ∧ W.heap[sb]? = some (.cells #[.int .i64 s.x, .int .i64 s.y, .int .i64 s.fr, .int .i64 s.to, .int .i64 s.sy] 37 (0, 0))) (by kernel_rfl) ⟨HNb.out.1, HI.out.s⟩ (fun hH => ?_)
    have hH2 : wc.drew.heap[nb]? = some (.cells #[.slice (some ⟨g1, 0, none⟩) (L.length + 1) c1, .slice (some ⟨g2, 0, none⟩) (M.length + 1) c2, .int .i64 wn, .int .i64 ln, .int .i64 s.x, .int .i64 s.y, .int .i64 s.fr, .int .i64 s.to, .int .i64 s.sy] 57 (0, 0)) := HNb.out.1
    have HN3 : Hid (wc.drew.heap[nb]? = some (.cells #[.slice (some ⟨g1, 0, none⟩) (L.length + 1) c1, .slice (some ⟨g2, 0, none⟩) (M.length + 1) c2, .int .i64 wn, .int .i64 ln, .int .i64 s.x, .int .i64 s.y, .int .i64 s.fr, .int .i64 s.to, .int .i64 s.sy] 57 (0, 0))) := hH2
    clear hH2
    generalize wc.drew = W3 at *
    refine wpAnyH_take (i := 0) (v := .agg #[.slice (some ⟨g1, 0, none⟩) (L.length + 1) c1, .slice (some ⟨g2, 0, none⟩) (M.length + 1) c2, .int .i64 wn, .int .i64 ln, .int .i64 s.x, .int .i64 s.y, .int .i64 s.fr, .int .i64 s.to, .int .i64 s.sy]) rfl (by kernel_rfl) (by kernel_rfl) (by kernel_rfl) (fun _ _ _ h => h) (Or.inl ⟨by rfl, fun w hSw => by obtain ⟨f0, f1, f2, f3, f4, f5, f6, f7, f8⟩ := (HC2.out w hSw).1; clear hSw; go_simp⟩) hH ?_
    refine wpAnyH_take (i := 1) (v := .int .i64 ar) rfl (by kernel_rfl) (by kernel_rfl) (by kernel_rfl) (fun _ _ _ h => h) (Or.inl ⟨by rfl, fun w hSw => by clear hSw; go_simp⟩) hH ?_
    try simp only [Act.put, List.setIfInBounds_toArray, List.set_cons_zero, List.set_cons_succ, List.getElem_toArray, List.getElem_cons_succ, List.getElem_cons_zero]
    refine wpAnyH_take (i := 2) (v := .pointer (some ⟨sb, 3, none⟩)) rfl (by kernel_rfl) (by kernel_rfl) (by kernel_rfl) (fun _ _ _ h => h) (Or.inl ⟨by rfl, fun w hSw => by clear hSw; go_simp⟩) hH ?_
    try simp only [Act.put, List.setIfInBounds_toArray, List.set_cons_zero, List.set_cons_succ, List.getElem_toArray, List.getElem_cons_succ, List.getElem_cons_zero]
    refine wpAnyH_take (i := 3) (v := .int .i64 s.to) rfl (by kernel_rfl) (by kernel_rfl) (by kernel_rfl) (fun _ _ _ h => h) (Or.inl ⟨by rfl, fun w hSw => by obtain ⟨f0, f1, f2, f3, f4⟩ := (HC2.out w hSw).2; clear hSw; go_simp⟩) hH ?_
    try simp only [Act.put, List.setIfInBounds_toArray, List.set_cons_zero, List.set_cons_succ, List.getElem_toArray, List.getElem_cons_succ, List.getElem_cons_zero]
    refine wpAnyH_take (i := 4) (v := .bool ok) rfl (by kernel_rfl) (by kernel_rfl) (by kernel_rfl) (fun _ _ _ h => h) (Or.inl ⟨by rfl, fun w hSw => by have f9 := HOk.out; clear hSw; go_simp⟩) hH ?_
    try simp only [Act.put, List.setIfInBounds_toArray, List.set_cons_zero, List.set_cons_succ, List.getElem_toArray, List.getElem_cons_succ, List.getElem_cons_zero]
    obtain ⟨k1, k2⟩ := set_nine HI3.out.r (.slice (some ⟨g1, 0, none⟩) (L.length + 1) c1) (.slice (some ⟨g2, 0, none⟩) (M.length + 1) c2) (.int .i64 wn) (.int .i64 ln) (.int .i64 s.x) (.int .i64 s.y) (.int .i64 s.fr) (.int .i64 s.to) (.int .i64 s.sy)
    obtain ⟨W4, hW4⟩ : ∃ W4, W4 = ((((((((W3.setCell ⟨rb, 0, none⟩ (.slice (some ⟨g1, 0, none⟩) (L.length + 1) c1)).setCell ⟨rb, 1, none⟩ (.slice (some ⟨g2, 0, none⟩) (M.length + 1) c2)).setCell ⟨rb, 2, none⟩ (.int .i64 wn)).setCell ⟨rb, 3, none⟩ (.int .i64 ln)).setCell ⟨rb, 4, none⟩ (.int .i64 s.x)).setCell ⟨rb, 5, none⟩ (.int .i64 s.y)).setCell ⟨rb, 6, none⟩ (.int .i64 s.fr)).setCell ⟨rb, 7, none⟩ (.int .i64 s.to)).setCell ⟨rb, 8, none⟩ (.int .i64 s.sy) := ⟨_, rfl⟩
    rw [← hW4] at k1 k2
    have HK : Hid (W4.heap[rb]? = some (.cells #[.slice (some ⟨g1, 0, none⟩) (L.length + 1) c1, .slice (some ⟨g2, 0, none⟩) (M.length + 1) c2, .int .i64 wn, .int .i64 ln, .int .i64 s.x, .int .i64 s.y, .int .i64 s.fr, .int .i64 s.to, .int .i64 s.sy] 57 (0, 0)) ∧ (∀ d, d ≠ rb → W4.heap[d]? = W3.heap[d]?) ∧ W4 = ((((((((W3.setCell ⟨rb, 0, none⟩ (.slice (some ⟨g1, 0, none⟩) (L.length + 1) c1)).setCell ⟨rb, 1, none⟩ (.slice (some ⟨g2, 0, none⟩) (M.length + 1) c2)).setCell ⟨rb, 2, none⟩ (.int .i64 wn)).setCell ⟨rb, 3, none⟩ (.int .i64 ln)).setCell ⟨rb, 4, none⟩ (.int .i64 s.x)).setCell ⟨rb, 5, none⟩ (.int .i64 s.y)).setCell ⟨rb, 6, none⟩ (.int .i64 s.fr)).setCell ⟨rb, 7, none⟩ (.int .i64 s.to)).setCell ⟨rb, 8, none⟩ (.int .i64 s.sy)) := ⟨k1, k2, hW4⟩
    clear k1 k2 hW4
    have q0 := blkCell HI3.out.r 0 _ rfl
    have z0 := blkFree HI3.out.r 0
    have q1 := blkCell HI3.out.r 1 _ rfl
    have z1 := blkFree HI3.out.r 1
    have q2 := blkCell HI3.out.r 2 _ rfl
    have z2 := blkFree HI3.out.r 2
    have q3 := blkCell HI3.out.r 3 _ rfl
    have z3 := blkFree HI3.out.r 3
    have q4 := blkCell HI3.out.r 4 _ rfl
    have z4 := blkFree HI3.out.r 4
    have q5 := blkCell HI3.out.r 5 _ rfl
    have z5 := blkFree HI3.out.r 5
    have q6 := blkCell HI3.out.r 6 _ rfl
    have z6 := blkFree HI3.out.r 6
    have q7 := blkCell HI3.out.r 7 _ rfl
    have z7 := blkFree HI3.out.r 7
    have q8 := blkCell HI3.out.r 8 _ rfl
    have z8 := blkFree HI3.out.r 8
    refine wpAnyH_ready (rs := [5]) (by kernel_rfl) (by simp) ?_
    refine AllReadyH.cons rfl (fun K hK => ?_) AllReadyH.nil
    go_simp
    rw [← HK.out.2.2]
    have HS4 : Hid (W4.heap[nb]? = some (.cells #[.slice (some ⟨g1, 0, none⟩) (L.length + 1) c1, .slice (some ⟨g2, 0, none⟩) (M.length + 1) c2, .int .i64 wn, .int .i64 ln, .int .i64 s.x, .int .i64 s.y, .int .i64 s.fr, .int .i64 s.to, .int .i64 s.sy] 57 (0, 0)) ∧ W4.heap[sb]? = some (.cells #[.int .i64 s.x, .int .i64 s.y, .int .i64 s.fr, .int .i64 s.to, .int .i64 s.sy] 37 (0, 0))) := ⟨(HK.out.2.1 _ HNb.out.2).trans HN3.out, (HK.out.2.1 _ (fun e => type_ne HI3.out.r HI3.out.s (by decide) e.symm)).trans HI3.out.s⟩
    clear q0 z0 q1 z1 q2 z2 q3 z3 q4 z4 q5 z5 q6 z6 q7 z7 q8 z8
    refine hK.out _ _ HS4.out (fun _ => ?_)
    clear hK K
    try simp only [Act.put, List.setIfInBounds_toArray, List.set_cons_zero, List.set_cons_succ, List.getElem_toArray, List.getElem_cons_succ, List.getElem_cons_zero]
    refine wpAnyH_take (i := 6) (v := .bool ok) rfl (by kernel_rfl) (by kernel_rfl) (by kernel_rfl) (fun _ _ _ h => h) (Or.inl ⟨by rfl, fun w hSw => by clear hSw; go_simp⟩) HS4.out ?_
    try simp only [Act.put, List.setIfInBounds_toArray, List.set_cons_zero, List.set_cons_succ, List.getElem_toArray, List.getElem_cons_succ, List.getElem_cons_zero]
    refine wpAnyH_done (by kernel_rfl) ?_ _
    clear hH HS4
    have HF : Hid (Fr (fun x => Value.ownBlock (.slice ga L.length gc) = some x ∨ Value.ownBlock (.slice ha M.length hc) = some x) W W4) := by
      show Fr _ W W4
      have k1 : W.heap.size ≤ rb := by have := HE.out.2.2.2; omega
      rw [HK.out.2.2]
      exact ((((((((((Fr.of HL1.out).trans HI3.out.fr).setNew k1 _ _).setNew k1 _ _).setNew k1 _ _).setNew k1 _ _).setNew k1 _ _).setNew k1 _ _).setNew k1 _ _).setNew k1 _ _).setNew k1 _ _
    have HR : Hid (∀ {v : Value} {n : Nat} {xs : List Value}, W3.ownsRow B 3 1 v n xs → W4.ownsRow B 3 1 v n xs) := fun {v n xs} hv => row_of hv (fun x hx => HK.out.2.1 x (fun e => by
      obtain ⟨cur, hc⟩ := row_type hv hx
      rw [e] at hc
      exact type_ne HI3.out.r hc (by decide) rfl))
    have q0 := blkCell HK.out.1 0 _ rfl
    have q1 := blkCell HK.out.1 1 _ rfl
    have q2 := blkCell HK.out.1 2 _ rfl
    have q3 := blkCell HK.out.1 3 _ rfl
    have q4 := blkCell HK.out.1 4 _ rfl
    have q5 := blkCell HK.out.1 5 _ rfl
    have q6 := blkCell HK.out.1 6 _ rfl
    have q7 := blkCell HK.out.1 7 _ rfl
    have q8 := blkCell HK.out.1 8 _ rfl
    simp only [List.getElem_toArray, List.getElem_cons_zero, List.getElem_cons_succ] at q0 q1 q2 q3 q4 q5 q6 q7 q8
    go_wp2
    refine bodyPost_ret (v := .tuple #[.agg #[.slice (some ⟨g1, 0, none⟩) (L.length + 1) c1, .slice (some ⟨g2, 0, none⟩) (M.length + 1) c2, .int .i64 wn, .int .i64 ln, .int .i64 s.x, .int .i64 s.y, .int .i64 s.fr, .int .i64 s.to, .int .i64 s.sy], .bool ok]) (by simp [results, Try.results29, go_sem, q0, q1, q2, q3, q4, q5, q6, q7, q8]) rfl ?_
    obtain ⟨a1, a2, a3⟩ := HI3.out.a4 _ _ rfl
    obtain ⟨b1, b2, b3⟩ := HI3.out.a9 _ _ rfl
    exact ⟨g1, c1, g2, c2, by rw [HOk.out], HR.out a1, a2.imp id (fun k => Nat.le_trans HL1.out.size k), HR.out b1, b2.imp id (fun k => Nat.le_trans HL1.out.size k), b3 _ _ rfl, HR.out HI3.out.rowL, HR.out HI3.out.rowM, HF.out⟩
end Go.Proofs.Ytoogphkojofkfaa

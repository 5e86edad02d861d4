/-
  Texts of this claim laid together: BgF.
-/
import Derived.Test.YtkfmifbffgbiiaaM24
import Derived.Test.YtkfmifbffgbiiaaM26
/-
  What the program's bargainOf tells.
-/
namespace Go.Proofs.Ytkfmifbffgbiiaa
open Go.ChangeShapes Go.WideShapes Go.ChangeAt Go.RowKit
set_option linter.unusedVariables false

/-- A use whose savings can be reckoned. -/
def Good (us : List RUn) (ds : List CDl) (u : CUs) : Prop := (0 ≤ u.dl ∧ u.dl < (ds.length : Int)) ∧ InR us u.us ∧ PsOK (u.us.map (prAt us)) ∧ TvOK (dlAt ds u.dl).kd (dlAt ds u.dl).vl
def told (us : List RUn) (ds : List CDl) (u : CUs) : CUs := ⟨u.dl, svB (dlAt ds u.dl).kd (dlAt ds u.dl).vl (u.us.map (prAt us)), u.us⟩
def sumU (us : List RUn) : Int := (us.map (·.pr)).sum
def savN (us : List RUn) (ds : List CDl) (cs : List CUs) (k : Nat) : Int := ((cs.take k).map fun u => (told us ds u).sv).sum
def savS (us : List RUn) (ds : List CDl) (cs : List CUs) : Int := (cs.map fun u => (told us ds u).sv).sum
theorem minN_bound (ps : List Int) (h : ∀ p ∈ ps, 0 ≤ p ∧ p ≤ 100000000) (h1 : 1 ≤ ps.length) : ∀ k, k ≤ ps.length → 0 ≤ minN ps k ∧ minN ps k ≤ 100000000 := fun k hk => by
  induction k with
  | zero => exact getD_bound h 0 h1
  | succ k ih =>
    have := ih (by omega)
    have := getD_bound h k hk
    unfold minN
    split <;> omega
theorem sv_bound {kd vl : Int} {ps : List Int} (hp : PsOK ps) (ht : TvOK kd vl) : 0 ≤ svB kd vl ps ∧ svB kd vl ps ≤ 400000000 := by
  have hb := sum_take_bound ps hp.2 ps.length
  rw [List.take_length] at hb
  have hl := hp.1
  have hm := minN_bound ps hp.2 hl.1 ps.length (Nat.le_refl _)
  obtain ⟨v0, v1, v2⟩ := ht
  rcases svB_ways kd vl _ _ ps rfl rfl with ⟨rfl, e⟩ | ⟨rfl, e⟩ | ⟨rfl, e⟩ | ⟨_, _, _, e⟩
  · rw [e]
    have h3 := v2 rfl
    have hsm := sv_small (s := ps.sum) (vl := vl) (by omega) (by omega) v0 h3
    rw [Int.tdiv_eq_ediv_of_nonneg hsm.1]
    omega
  · rw [e]; split <;> omega
  · rw [e]; omega
  · rw [e]; split <;> omega
theorem savN_next (us : List RUn) (ds : List CDl) (cs : List CUs) (k : Nat) (h : k < cs.length) : savN us ds cs (k + 1) = savN us ds cs k + (told us ds (cs.getD k zUs)).sv := by
  have e : cs.getD k zUs = cs[k] := by simp [List.getD_eq_getElem?_getD, h]
  unfold savN
  rw [List.take_succ_eq_append_getElem h, List.map_append, List.sum_append, e]; simp
theorem savN_bound {us : List RUn} {ds : List CDl} {cs : List CUs} (h : ∀ u ∈ cs, Good us ds u) : ∀ k, k ≤ cs.length → 0 ≤ savN us ds cs k ∧ savN us ds cs k ≤ 400000000 * (k : Int) := fun k hk => by
  induction k with
  | zero => simp [savN]
  | succ k ih =>
    have := ih (by omega)
    rw [savN_next us ds cs k hk]
    have hg := getUs h hk
    have hb : 0 ≤ (told us ds (cs.getD k zUs)).sv ∧ (told us ds (cs.getD k zUs)).sv ≤ 400000000 := sv_bound hg.2.2.1 hg.2.2.2
    push_cast
    omega
def UnPr (us : List RUn) : Prop := ∀ u ∈ us, 0 ≤ u.pr ∧ u.pr ≤ 100000000
theorem sumN_next (us : List RUn) (k : Nat) (h : k < us.length) : ((us.take (k + 1)).map (·.pr)).sum = ((us.take k).map (·.pr)).sum + (us.getD k zUn).pr := by
  have e : us.getD k zUn = us[k] := by simp [List.getD_eq_getElem?_getD, h]
  rw [List.take_succ_eq_append_getElem h, List.map_append, List.sum_append, e]; simp
theorem sumN_bound {us : List RUn} (h : UnPr us) (k : Nat) : 0 ≤ ((us.take k).map (·.pr)).sum ∧ ((us.take k).map (·.pr)).sum ≤ 100000000 * (us.length : Int) := by
  have := sum_bound ((us.take k).map (·.pr)) 0 100000000 (fun p hp => by obtain ⟨u, hu, rfl⟩ := List.mem_map.mp hp; exact h u (List.mem_of_mem_take hu))
  rw [List.length_map, List.length_take] at this
  omega

theorem keepB {W w1 wr : World} {b1 U p0 p1 p2 p3 p4 p5 : Nat} {u0 u2 c0 c1 c2 c3 c4 c5 : Value} (hb : Below W.heap.size W w1) (x : Below wr.heap.size wr W ∧ W.cell? ⟨U, 0, none⟩ = some u0 ∧ W.cell? ⟨U, 2, none⟩ = some u2 ∧ W.cell? ⟨b1, p0, none⟩ = some c0 ∧ W.cell? ⟨b1, p1, none⟩ = some c1 ∧ W.cell? ⟨b1, p2, none⟩ = some c2 ∧ W.cell? ⟨b1, p3, none⟩ = some c3 ∧ W.cell? ⟨b1, p4, none⟩ = some c4 ∧ W.cell? ⟨b1, p5, none⟩ = some c5 ∧ b1 < W.heap.size ∧ U < W.heap.size) :
    Below wr.heap.size wr w1 ∧ w1.cell? ⟨U, 0, none⟩ = some u0 ∧ w1.cell? ⟨U, 2, none⟩ = some u2 ∧ w1.cell? ⟨b1, p0, none⟩ = some c0 ∧ w1.cell? ⟨b1, p1, none⟩ = some c1 ∧ w1.cell? ⟨b1, p2, none⟩ = some c2 ∧ w1.cell? ⟨b1, p3, none⟩ = some c3 ∧ w1.cell? ⟨b1, p4, none⟩ = some c4 ∧ w1.cell? ⟨b1, p5, none⟩ = some c5 ∧ b1 < w1.heap.size ∧ U < w1.heap.size := by
  obtain ⟨hB, h0, h2, k0, k1, k2, k3, k4, k5, l0, l2⟩ := x
  exact ⟨chain hB hb, (hb.cell (p := ⟨U, 0, none⟩) l2).trans h0, (hb.cell (p := ⟨U, 2, none⟩) l2).trans h2, (hb.cell (p := ⟨b1, p0, none⟩) l0).trans k0, (hb.cell (p := ⟨b1, p1, none⟩) l0).trans k1, (hb.cell (p := ⟨b1, p2, none⟩) l0).trans k2, (hb.cell (p := ⟨b1, p3, none⟩) l0).trans k3, (hb.cell (p := ⟨b1, p4, none⟩) l0).trans k4, (hb.cell (p := ⟨b1, p5, none⟩) l0).trans k5, Nat.lt_of_lt_of_le l0 hb.size, Nat.lt_of_lt_of_le l2 hb.size⟩
theorem keepB0 {wr : World} {o : Obj} {b1 p0 p1 p2 p3 p4 p5 : Nat} {u0 u2 c0 c1 c2 c3 c4 c5 : Value} (l0 : b1 < wr.heap.size) (hB : Below wr.heap.size wr (wr.alloc o)) (h0 : (wr.alloc o).cell? ⟨wr.heap.size, 0, none⟩ = some u0) (h2 : (wr.alloc o).cell? ⟨wr.heap.size, 2, none⟩ = some u2) (k0 : wr.cell? ⟨b1, p0, none⟩ = some c0) (k1 : wr.cell? ⟨b1, p1, none⟩ = some c1) (k2 : wr.cell? ⟨b1, p2, none⟩ = some c2) (k3 : wr.cell? ⟨b1, p3, none⟩ = some c3) (k4 : wr.cell? ⟨b1, p4, none⟩ = some c4) (k5 : wr.cell? ⟨b1, p5, none⟩ = some c5) :
    Below wr.heap.size wr (wr.alloc o).drew ∧ (wr.alloc o).drew.cell? ⟨wr.heap.size, 0, none⟩ = some u0 ∧ (wr.alloc o).drew.cell? ⟨wr.heap.size, 2, none⟩ = some u2 ∧ (wr.alloc o).drew.cell? ⟨b1, p0, none⟩ = some c0 ∧ (wr.alloc o).drew.cell? ⟨b1, p1, none⟩ = some c1 ∧ (wr.alloc o).drew.cell? ⟨b1, p2, none⟩ = some c2 ∧ (wr.alloc o).drew.cell? ⟨b1, p3, none⟩ = some c3 ∧ (wr.alloc o).drew.cell? ⟨b1, p4, none⟩ = some c4 ∧ (wr.alloc o).drew.cell? ⟨b1, p5, none⟩ = some c5 ∧ b1 < (wr.alloc o).drew.heap.size ∧ wr.heap.size < (wr.alloc o).drew.heap.size :=
  ⟨hB.drew, h0, h2, (hB.cell (p := ⟨b1, p0, none⟩) l0).trans k0, (hB.cell (p := ⟨b1, p1, none⟩) l0).trans k1, (hB.cell (p := ⟨b1, p2, none⟩) l0).trans k2, (hB.cell (p := ⟨b1, p3, none⟩) l0).trans k3, (hB.cell (p := ⟨b1, p4, none⟩) l0).trans k4, (hB.cell (p := ⟨b1, p5, none⟩) l0).trans k5, Nat.lt_of_lt_of_le l0 hB.size, by show _ < (wr.alloc o).heap.size; rw [World.size_alloc]; omega⟩
theorem keepU {W w1 : World} {U P : Nat} {u0 u2 v : Value} (hb : Below W.heap.size W w1) (x : W.cell? ⟨U, 0, none⟩ = some u0 ∧ W.cell? ⟨U, 2, none⟩ = some u2 ∧ U < W.heap.size ∧ W.cell? ⟨P, 2, none⟩ = some v ∧ W.frozen? ⟨P, 2, none⟩ = false ∧ P < W.heap.size) : w1.cell? ⟨U, 0, none⟩ = some u0 ∧ w1.cell? ⟨U, 2, none⟩ = some u2 ∧ U < w1.heap.size ∧ w1.cell? ⟨P, 2, none⟩ = some v ∧ w1.frozen? ⟨P, 2, none⟩ = false ∧ P < w1.heap.size := by
  obtain ⟨h0, h2, l, p2, pf, pl⟩ := x
  exact ⟨(hb.cell (p := ⟨U, 0, none⟩) l).trans h0, (hb.cell (p := ⟨U, 2, none⟩) l).trans h2, Nat.lt_of_lt_of_le l hb.size, (hb.cell (p := ⟨P, 2, none⟩) pl).trans p2, (hb.frozen (p := ⟨P, 2, none⟩) pl).trans pf, Nat.lt_of_lt_of_le pl hb.size⟩
theorem keepUg {W w1 : World} {U q P : Nat} {u0 u2 v : Value} (hg : W.grownBy w1 (some q)) (hne : q ≠ U) (hnp : q ≠ P) (x : W.cell? ⟨U, 0, none⟩ = some u0 ∧ W.cell? ⟨U, 2, none⟩ = some u2 ∧ U < W.heap.size ∧ W.cell? ⟨P, 2, none⟩ = some v ∧ W.frozen? ⟨P, 2, none⟩ = false ∧ P < W.heap.size) : w1.cell? ⟨U, 0, none⟩ = some u0 ∧ w1.cell? ⟨U, 2, none⟩ = some u2 ∧ U < w1.heap.size ∧ w1.cell? ⟨P, 2, none⟩ = some v ∧ w1.frozen? ⟨P, 2, none⟩ = false ∧ P < w1.heap.size := by
  obtain ⟨h0, h2, l, p2, pf, pl⟩ := x
  have e := hg.block U l (fun h => hne (Option.some.inj h).symm)
  have f := hg.block P pl (fun h => hnp (Option.some.inj h).symm)
  exact ⟨(World.cell?_of_block (w := W) (a := ⟨U, 0, none⟩) e).trans h0, (World.cell?_of_block (w := W) (a := ⟨U, 2, none⟩) e).trans h2, Nat.lt_of_lt_of_le l hg.size, (World.cell?_of_block (w := W) (a := ⟨P, 2, none⟩) f).trans p2, (World.frozen?_of_block (w := W) (a := ⟨P, 2, none⟩) f).trans pf, Nat.lt_of_lt_of_le pl hg.size⟩
theorem bg_push {B P R q cq g1 cp1 gc cc : Nat} {w w3 w4 w5 : World} {E : List EU} {m sx : Int} {ns : List Int} {t s : Int} {o : Obj} (hE : RowE B P R w w3 (.slice (some ⟨q, 0, none⟩) E.length cq) E) (hP : w3.rowIs P 29 3 (bgF t s (.slice (some ⟨q, 0, none⟩) E.length cq))) (hZ : w3.rowIs R 29 3 (bgF 0 0 (.slice none 0 0))) (hBP : B ≤ P) (hPR : P ≠ R) (hb4 : Below w3.heap.size w3 w4) (hg1 : w3.heap.size ≤ gc) (hg2 : gc < w4.heap.size) (hcc : ns.length ≤ cc) (hci : IntsAt w4 gc 0 ns) (hcf : FreeAt w4 gc 0 ns.length)
    (hown : w5.ownsRow B 36 3 (.slice (some ⟨g1, 0, none⟩) (E.length + 1) cp1) (E.length + 1) (E.flatMap cellsU ++ cellsU (⟨m, sx, ns⟩, gc, cc))) (hgrow : (w4.alloc o).grownBy w5 (some q)) (hat : some q = some g1 ∨ g1 = w4.heap.size + 1) :
    RowE B P R w (w5.setCell ⟨P, 2, none⟩ (.slice (some ⟨g1, 0, none⟩) (E.length + 1) cp1)) (.slice (some ⟨g1, 0, none⟩) (E.length + 1) cp1) (E ++ [(⟨m, sx, ns⟩, gc, cc)]) ∧ (w5.setCell ⟨P, 2, none⟩ (.slice (some ⟨g1, 0, none⟩) (E.length + 1) cp1)).rowIs P 29 3 (bgF t s (.slice (some ⟨g1, 0, none⟩) (E.length + 1) cp1)) ∧ (w5.setCell ⟨P, 2, none⟩ (.slice (some ⟨g1, 0, none⟩) (E.length + 1) cp1)).rowIs R 29 3 (bgF 0 0 (.slice none 0 0)) := by
  have hz : (w4.alloc o).heap.size = w4.heap.size + 1 := World.size_alloc _ _
  have hPl := hP.lt
  have hRl := hZ.lt
  have hs4 := hb4.size
  have hq := (hE.row.lt q rfl).2
  have hoP := (hE.own q rfl).1
  have hoR := (hE.own q rfl).2.1
  have hba : Below w4.heap.size w4 (w4.alloc o) := below_alloc _ _
  have h5 := (hE.later (hb4.trans (hba.mono hs4))).push (e := (⟨m, sx, ns⟩, gc, cc)) hown hgrow (by rw [hz]; exact hat) (by omega) (by omega) ⟨by have := hE.base; show B ≤ gc; omega, by show gc < _; omega, by show gc ≠ P; omega, by show gc ≠ R; omega⟩ hcc (hci.below hba hg2) (hcf.below hba hg2) (fun x hx => by cases hx; show q ≠ gc; omega) (fun d hd => by have := (hE.ins d hd).1.2.1; show d.2.1 ≠ gc; omega)
  have bP : w5.heap[P]? = w3.heap[P]? := (hgrow.block P (by omega) (fun h => hoP (Option.some.inj h).symm)).trans ((hba.block P (by omega)).trans (hb4.block P hPl))
  have bR : w5.heap[R]? = w3.heap[R]? := (hgrow.block R (by omega) (fun h => hoR (Option.some.inj h).symm)).trans ((hba.block R (by omega)).trans (hb4.block R hRl))
  exact ⟨h5.setP hBP _ _, bg_set2 (hP.of_block bP), (hZ.of_block bR).setOther (Ne.symm hPR) _⟩

set_option maxHeartbeats 8000000 in
set_option maxRecDepth 4000 in
theorem bargainOf_any (a : Option Addr) (cap : Nat) (us : List RUn) (hl : us.length ≤ 8) (hup : UnPr us) (b : Option Addr) (cb : Nat) (ds : List CDl) (hd : ds.length ≤ 6) (hq : ∀ r ∈ ds, DlOK r) (g : Option Addr) (cg : Nat) (cs : List CUs) (hc : cs.length ≤ 4096) (hg : ∀ r ∈ cs, Good us ds r) (w : World) (hr : ReadsUn w.heap.size w a us) (ks : ReadsDl w.heap.size w b ds) (js : ReadsUs w.heap.size w g cs) :
    Calls Try.prog 14 #[.slice a us.length cap, .slice b ds.length cb, .slice g cs.length cg] w fun e w' => ∃ q cq, e = .returned (.agg #[.int .i64 (sumU us - savS us ds cs), .int .i64 (savS us ds cs), .slice q cs.length cq]) ∧ OwnUs w.heap.size w' q (cs.map (told us ds)) ∧ Below w.heap.size w w' := by
  have HR : Hid (ReadsUn w.heap.size w a us) := hr
  have HK : Hid (ReadsDl w.heap.size w b ds) := ks
  have HJ : Hid (ReadsUs w.heap.size w g cs) := js
  have HUp : Hid (UnPr us) := hup
  have HG : Hid (∀ r ∈ cs, Good us ds r) := hg
  have HQ : Hid (∀ r ∈ ds, DlOK r) := hq
  clear hr ks js hup hg hq
  have hmk : ∀ w, (Instr.makeSlice 25 (.int .i64 0) (.int .i64 (cs.length : Int))).run Try.prog w = .ok (.slice (some ⟨w.heap.size, 0, none⟩) 0 cs.length) (w.alloc (.cells (madeCells #[.int .i64 0, .int .i64 0, .slice none 0 0] (cs.length * 3)) 36)) := fun w => makeUss 0 cs.length (by omega) (by omega) w
  go_enter Try.func14, Try.ntmps14
  go_wp2
  have HW0 : Hid (∀ W, W = (((w.alloc (Obj.cells #[.int .i64 0, .int .i64 0, .slice none 0 0] 29)).alloc (Obj.cells (madeCells #[.int .i64 0, .int .i64 0, .slice none 0 0] (cs.length * 3)) 36)).alloc (Obj.cells #[.int .i64 0, .int .i64 0, .slice (some ⟨w.heap.size + 1, 0, none⟩) 0 cs.length] 29)) →
      RowE w.heap.size (w.heap.size + 1 + 1) w.heap.size w W (.slice (some ⟨w.heap.size + 1, 0, none⟩) 0 cs.length) [] ∧ W.rowIs (w.heap.size + 1 + 1) 29 3 (bgF 0 0 (.slice (some ⟨w.heap.size + 1, 0, none⟩) 0 cs.length)) ∧ W.rowIs w.heap.size 29 3 (bgF 0 0 (.slice none 0 0))) := fun W hW => by
    subst hW
    have r0 := bg_new w 0 0 (.slice none 0 0)
    refine ⟨⟨⟨rfl, .inr ⟨w.heap.size + 1, cs.length, madeCells #[.int .i64 0, .int .i64 0, .slice none 0 0] (cs.length * 3), rfl, by omega, ?_, Nat.zero_le _, by unfold maxLen; omega, size_madeCells _ _, by simp⟩⟩, by simp only [World.size_alloc]; omega, chain (chain (below_alloc _ _) (below_alloc _ _)) (below_alloc _ _), ?_, by simp, List.Pairwise.nil⟩, ?_, ?_⟩
    · rw [(below_alloc _ _).block _ (by simp)]
      have := heapNew (w.alloc (Obj.cells #[.int .i64 0, .int .i64 0, .slice none 0 0] 29)) (Obj.cells (madeCells #[.int .i64 0, .int .i64 0, .slice none 0 0] (cs.length * 3)) 36)
      rwa [World.size_alloc] at this
    · intro q hq
      cases hq
      exact ⟨by dsimp only; omega, by dsimp only; omega, by simp⟩
    · have := bg_new ((w.alloc (Obj.cells #[.int .i64 0, .int .i64 0, .slice none 0 0] 29)).alloc (Obj.cells (madeCells #[.int .i64 0, .int .i64 0, .slice none 0 0] (cs.length * 3)) 36)) 0 0 (.slice (some ⟨w.heap.size + 1, 0, none⟩) 0 cs.length)
      rwa [World.size_alloc, World.size_alloc] at this
    · exact r0.of_block ((chain (below_alloc _ _) (below_alloc _ _)).block _ r0.lt)
  go_loopw [9, 19] (fun _ c wr => ∃ k : Nat, k ≤ us.length ∧ c = .int .i64 (k : Int) ∧ RowE w.heap.size (w.heap.size + 1 + 1) w.heap.size w wr (.slice (some ⟨w.heap.size + 1, 0, none⟩) 0 cs.length) [] ∧ wr.rowIs (w.heap.size + 1 + 1) 29 3 (bgF ((us.take k).map (·.pr)).sum 0 (.slice (some ⟨w.heap.size + 1, 0, none⟩) 0 cs.length)) ∧ wr.rowIs w.heap.size 29 3 (bgF 0 0 (.slice none 0 0))) (fun _ c _ => us.length - (intOf c).toNat)
  case atStart =>
    obtain ⟨h1, h2, h3⟩ := HW0.out _ rfl
    exact ⟨0, Nat.zero_le _, rfl, h1, h2, h3⟩
  case round =>
    clear HW0 hmk
    obtain ⟨k, hk, rfl, h1, h2, h3⟩ := hrel
    have HE : Hid (RowE w.heap.size (w.heap.size + 1 + 1) w.heap.size w wr (.slice (some ⟨w.heap.size + 1, 0, none⟩) 0 cs.length) []) := h1
    have HP : Hid (wr.rowIs (w.heap.size + 1 + 1) 29 3 (bgF ((us.take k).map (·.pr)).sum 0 (.slice (some ⟨w.heap.size + 1, 0, none⟩) 0 cs.length))) := h2
    have HZ : Hid (wr.rowIs w.heap.size 29 3 (bgF 0 0 (.slice none 0 0))) := h3
    clear h1 h2 h3
    by_cases hlt : k < us.length
    · have hlt' : (k : Int) < (us.length : Int) := by omega
      rcases HR.out with h | ⟨b0, o0, ha, hB0, ia⟩
      · rw [h] at hlt; simp at hlt
      obtain ⟨c0, c1⟩ := (ia.below HE.out.below hB0) k hlt
      have hb1 := sumN_bound HUp.out k
      have hb2 := getUn HUp.out hlt
      have HNx : Hid (((us.take (k + 1)).map (·.pr)).sum = ((us.take k).map (·.pr)).sum + (us.getD k zUn).pr) := sumN_next us k hlt
      have p0 : wr.cell? ⟨w.heap.size + 1 + 1, 0, none⟩ = some (.int .i64 ((us.take k).map (·.pr)).sum) := HP.out.cell (i := 0) (by omega)
      have f0 := HP.out.frozen 0
      have hPl : w.heap.size + 1 + 1 < wr.heap.size := HP.out.lt
      rw [ha]
      clear ia
      generalize ((us.take k).map (·.pr)).sum = s at *
      generalize us.getD k zUn = q at *
      obtain ⟨qa, qp⟩ := q
      dsimp only at *
      have hwr : IntKind.i64.wrap (s + qp) = s + qp := wrap_id _ (by omega) (by omega)
      have hne : w.heap.size + 1 + 1 ≠ wr.heap.size := by omega
      have HN1 : Hid (RowE w.heap.size (w.heap.size + 1 + 1) w.heap.size w ((wr.setCell ⟨w.heap.size + 1 + 1, 0, none⟩ (.int .i64 (s + qp))).alloc (Obj.cells #[.string qa, .int .i64 qp] 41)) (.slice (some ⟨w.heap.size + 1, 0, none⟩) 0 cs.length) []) := (HE.out.setP (by omega) _ _).later (below_alloc _ _)
      have HN2 : Hid (((wr.setCell ⟨w.heap.size + 1 + 1, 0, none⟩ (.int .i64 (s + qp))).alloc (Obj.cells #[.string qa, .int .i64 qp] 41)).rowIs (w.heap.size + 1 + 1) 29 3 (bgF (s + qp) 0 (.slice (some ⟨w.heap.size + 1, 0, none⟩) 0 cs.length))) := by
        have q := bg_set0 (t' := s + qp) HP.out
        exact q.of_block ((below_alloc _ _).block _ q.lt)
      have HN3 : Hid (((wr.setCell ⟨w.heap.size + 1 + 1, 0, none⟩ (.int .i64 (s + qp))).alloc (Obj.cells #[.string qa, .int .i64 qp] 41)).rowIs w.heap.size 29 3 (bgF 0 0 (.slice none 0 0))) := by
        have q := HZ.out.setOther (a := ⟨w.heap.size + 1 + 1, 0, none⟩) (by dsimp only; omega) (.int .i64 (s + qp))
        exact q.of_block ((below_alloc _ _).block _ q.lt)
      go_wp2
      exact ⟨⟨k + 1, by omega, by go_num, HN1.out, by rw [HNx.out]; exact HN2.out, HN3.out⟩, by simp [intOf]; omega⟩
    · obtain rfl : k = us.length := by omega
      have HSu : Hid (((us.take us.length).map (·.pr)).sum = sumU us) := by show _ = _; rw [List.take_length]; rfl
      rw [HSu.out] at HP
      have hsb := sumN_bound HUp.out us.length
      rw [HSu.out] at hsb
      clear HSu
      have HS0 : Hid (savN us ds cs 0 = 0) := rfl
      obtain ⟨i0, hi, hzz⟩ := Option.map_eq_some_iff.1 usInfo
      simp only [Prod.mk.injEq] at hzz
      obtain ⟨hi0, hi1, hi2⟩ := hzz
      go_wp2
      go_loopw [11, 12, 32] (fun _ _ c wq => ∃ (k q cq : Nat) (E : List EU), k ≤ cs.length ∧ c = .int .i64 (k : Int) ∧ E.length = k ∧ E.map (·.1) = (cs.take k).map (told us ds) ∧ RowE w.heap.size (w.heap.size + 1 + 1) w.heap.size w wq (.slice (some ⟨q, 0, none⟩) k cq) E ∧ wq.rowIs (w.heap.size + 1 + 1) 29 3 (bgF (sumU us) (savN us ds cs k) (.slice (some ⟨q, 0, none⟩) k cq)) ∧ wq.rowIs w.heap.size 29 3 (bgF 0 0 (.slice none 0 0))) (fun _ _ c _ => cs.length - (intOf c).toNat)
      case atStart => exact ⟨0, w.heap.size + 1, cs.length, [], Nat.zero_le _, rfl, rfl, rfl, HE.out, HP.out, HZ.out⟩
      case round =>
        clear HE HP HZ
        obtain ⟨k, q, cq, E, hk, rfl, hEl, hEm, h1, h2, h3⟩ := hrel
        subst hEl
        have HE : Hid (RowE w.heap.size (w.heap.size + 1 + 1) w.heap.size w wr (.slice (some ⟨q, 0, none⟩) E.length cq) E) := h1
        have HP : Hid (wr.rowIs (w.heap.size + 1 + 1) 29 3 (bgF (sumU us) (savN us ds cs E.length) (.slice (some ⟨q, 0, none⟩) E.length cq))) := h2
        have HZ : Hid (wr.rowIs w.heap.size 29 3 (bgF 0 0 (.slice none 0 0))) := h3
        have HEm : Hid (E.map (·.1) = (cs.take E.length).map (told us ds)) := hEm
        clear h1 h2 h3 hEm
        by_cases hkc : E.length < cs.length
        · have hkc' : (E.length : Int) < (cs.length : Int) := by omega
          rcases HJ.out with h | ⟨b0, o0, ha, hB0, ia⟩
          · rw [h] at hkc; simp at hkc
          obtain ⟨h, cp, ⟨c0, c1, c2⟩, hcp, hRd⟩ := (ia.below HE.out.below hB0 (Nat.le_refl _)) E.length hkc
          have HGk : Hid (Good us ds (cs.getD E.length zUs)) := getUs HG.out hkc
          have HSn : Hid (savN us ds cs (E.length + 1) = savN us ds cs E.length + (told us ds (cs.getD E.length zUs)).sv) := savN_next us ds cs E.length hkc
          have HMn : Hid ((cs.take (E.length + 1)).map (told us ds) = (cs.take E.length).map (told us ds) ++ [told us ds (cs.getD E.length zUs)]) := by
            have e : cs.getD E.length zUs = cs[E.length] := by simp [List.getD_eq_getElem?_getD, hkc]
            show _ = _
            rw [List.take_succ_eq_append_getElem hkc, List.map_append, e]; rfl
          have hsv := savN_bound HG.out E.length (by omega)
          have HRd : Hid (Reads w.heap.size wr h (cs.getD E.length zUs).us) := hRd
          subst ha
          clear ia hRd
          generalize cs.getD E.length zUs = u at *
          obtain ⟨dl, sv, ns⟩ := u
          dsimp only at c0 c1 c2 hcp HRd
          obtain ⟨⟨g1, g2⟩, gIn, gPs, gTv⟩ := HGk.out
          dsimp only at g1 g2 gIn gPs gTv
          obtain ⟨m, rfl⟩ : ∃ m : Nat, dl = (m : Int) := ⟨dl.toNat, by omega⟩
          have hmd : m < ds.length := by omega
          have hdm : dlAt ds (m : Int) = ds.getD m zDl := by unfold dlAt; rw [Int.toNat_natCast]
          have hns : 1 ≤ ns.length ∧ ns.length ≤ 4 := by have := gPs.1; rwa [List.length_map] at this
          have HTo : Hid (told us ds ⟨(m : Int), sv, ns⟩ = ⟨(m : Int), svB (ds.getD m zDl).kd (ds.getD m zDl).vl (ns.map (prAt us)), ns⟩) := by show _ = _; unfold told; dsimp only; rw [hdm]
          rw [hdm] at gTv
          have hvb := sv_bound gPs gTv
          rw [HTo.out] at HSn HMn
          dsimp only at HSn
          rcases HK.out with hz | ⟨b1, o1, hb1, hB1, ic⟩
          · rw [hz] at hmd; simp at hmd
          obtain ⟨h0, cq0, hAt, _, _⟩ := (ic.below HE.out.below hB1 (Nat.le_refl _)) m hmd
          subst hb1
          have HPr : Hid (∀ W, Below wr.heap.size wr W → Calls Try.prog 34 #[.slice a us.length cap, .slice h ns.length cp] W fun e w' => ∃ g cp, e = .returned (.slice (some ⟨g, 0, none⟩) ns.length cp) ∧ Reads w'.heap.size w' (some ⟨g, 0, none⟩) (ns.map (prAt us)) ∧ Below W.heap.size W w') := fun W hb => pricesOf_any a cap us (by omega) h cp ns (by omega) gIn W (HR.out.later (chain HE.out.below hb)) ((HRd.out.mono HE.out.base).later hb)
          have HSv : Hid (∀ (x : Option Addr) (cx : Nat) (W : World), Reads W.heap.size W x (ns.map (prAt us)) → Calls Try.prog 33 #[.agg #[.string (ds.getD m zDl).nm, .int .i64 (ds.getD m zDl).kd, .slice h0 (ds.getD m zDl).arts.length cq0, .int .i64 (ds.getD m zDl).nd, .int .i64 (ds.getD m zDl).vl, .bool (ds.getD m zDl).on], .slice x ns.length cx] W fun e w' => e = .returned (.int .i64 (svB (ds.getD m zDl).kd (ds.getD m zDl).vl (ns.map (prAt us)))) ∧ Below W.heap.size W w') := fun x cx W q => by
            have := saves_any (ds.getD m zDl) h0 cq0 x cx (ns.map (prAt us)) gPs gTv W q
            rwa [List.length_map] at this
          clear ic gIn gPs gTv HGk hdm HTo
          generalize svB (ds.getD m zDl).kd (ds.getD m zDl).vl (ns.map (prAt us)) = sx at *
          generalize ds.getD m zDl = d at *
          obtain ⟨nm, kd, arts, nd, vl, on⟩ := d
          obtain ⟨d0, d1, d2, d3, d4, d5⟩ := hAt
          dsimp only at d0 d1 d2 d3 d4 d5 HSv
          generalize ns.map (prAt us) = ps at *
          generalize arts.length = an at *
          have lt1 : b1 < wr.heap.size := Nat.lt_of_lt_of_le hB1 HE.out.base
          have D0 : Hid (Below wr.heap.size wr (wr.alloc (Obj.cells #[.int .i64 (m : Int), .int .i64 sv, .slice h ns.length cp] 36))) := below_alloc _ _
          have U0 : Hid ((wr.alloc (Obj.cells #[.int .i64 (m : Int), .int .i64 sv, .slice h ns.length cp] 36)).cell? ⟨wr.heap.size, 0, none⟩ = some (.int .i64 (m : Int))) := cellNew _ _ _ _ rfl rfl
          have U2 : Hid ((wr.alloc (Obj.cells #[.int .i64 (m : Int), .int .i64 sv, .slice h ns.length cp] 36)).cell? ⟨wr.heap.size, 2, none⟩ = some (.slice h ns.length cp)) := cellNew _ _ _ _ rfl rfl
          go_wp2_with fail
          go_region_held3 (fun W => Below wr.heap.size wr W ∧ W.cell? ⟨wr.heap.size, 0, none⟩ = some (.int .i64 (m : Int)) ∧ W.cell? ⟨wr.heap.size, 2, none⟩ = some (.slice h ns.length cp) ∧ W.cell? ⟨b1, o1 + m * 6, none⟩ = some (.string nm) ∧ W.cell? ⟨b1, o1 + m * 6 + 1, none⟩ = some (.int .i64 kd) ∧ W.cell? ⟨b1, o1 + m * 6 + 2, none⟩ = some (.slice h0 an cq0) ∧ W.cell? ⟨b1, o1 + m * 6 + 3, none⟩ = some (.int .i64 nd) ∧ W.cell? ⟨b1, o1 + m * 6 + 4, none⟩ = some (.int .i64 vl) ∧ W.cell? ⟨b1, o1 + m * 6 + 5, none⟩ = some (.bool on) ∧ b1 < W.heap.size ∧ wr.heap.size < W.heap.size) (first | exact keepB0 lt1 D0.out U0.out U2.out d0 d1 d2 d3 d4 d5 | exact keepB (by assumption) (by assumption)) (first | (go_at_call 34; refine (HPr.out _ (by first | assumption | exact D0.out.drew)).mono ?_; rintro e w2 ⟨gq, cpq, rfl, hrp, hb2⟩) | (go_at_call 33; refine (HSv.out _ _ _ hrp).mono ?_; rintro e w3 ⟨rfl, hb3⟩))
          have HBw : Hid (Below (wr.alloc (Obj.cells #[.int .i64 (m : Int), .int .i64 sv, .slice h ns.length cp] 36)).heap.size (wr.alloc (Obj.cells #[.int .i64 (m : Int), .int .i64 sv, .slice h ns.length cp] 36)) w3) := chain (chain (Below.refl _ _).drew hb2) hb3
          have HB3 : Hid (Below wr.heap.size wr w3) := chain D0.out HBw.out
          have u0 : w3.cell? ⟨wr.heap.size, 0, none⟩ = some (.int .i64 (m : Int)) := (HBw.out.cell (p := ⟨wr.heap.size, 0, none⟩) (by simp)).trans U0.out
          have u2 : w3.cell? ⟨wr.heap.size, 2, none⟩ = some (.slice h ns.length cp) := (HBw.out.cell (p := ⟨wr.heap.size, 2, none⟩) (by simp)).trans U2.out
          have HE3 : Hid (RowE w.heap.size (w.heap.size + 1 + 1) w.heap.size w w3 (.slice (some ⟨q, 0, none⟩) E.length cq) E) := HE.out.later HB3.out
          have HP3 : Hid (w3.rowIs (w.heap.size + 1 + 1) 29 3 (bgF (sumU us) (savN us ds cs E.length) (.slice (some ⟨q, 0, none⟩) E.length cq))) := HP.out.of_block (HB3.out.block _ HP.out.lt)
          have HZ3 : Hid (w3.rowIs w.heap.size 29 3 (bgF 0 0 (.slice none 0 0))) := HZ.out.of_block (HB3.out.block _ HZ.out.lt)
          have HR3 : Hid (Reads w.heap.size w3 h ns) := HRd.out.below (HB3.out.mono HE.out.base)
          have hUw : wr.heap.size < w3.heap.size := Nat.lt_of_lt_of_le (by simp) HBw.out.size
          have hPw : w.heap.size + 1 + 1 < w3.heap.size := HP3.out.lt
          have hZw : w.heap.size < w3.heap.size := HZ3.out.lt
          have hqU : q ≠ wr.heap.size := by have := (HE.out.row.lt q rfl).2; omega
          have hPU : w.heap.size + 1 + 1 ≠ wr.heap.size := by have := HP.out.lt; omega
          have hqP : q ≠ w.heap.size + 1 + 1 := (HE.out.own q rfl).1
          clear hb2 hb3 hrp HBw HB3 HE HP HZ HRd HPr HSv U0 U2 D0 d0 d1 d2 d3 d4 d5 c0 c1 c2
          rcases HR3.out with hz | ⟨bh, oh, hhe, hBh, ih⟩
          · rw [hz] at hns; simp at hns
          subst hhe
          have HCl : Hid (∀ W, Below w3.heap.size w3 W → Calls Try.prog 35 #[.slice (some ⟨bh, oh, none⟩) ns.length cp] W fun e w' => ∃ g cp, e = .returned (.slice (some ⟨g, 0, none⟩) ns.length cp) ∧ (W.heap.size ≤ g ∧ g < w'.heap.size) ∧ ns.length ≤ cp ∧ IntsAt w' g 0 ns ∧ FreeAt w' g 0 ns.length ∧ Below W.heap.size W w') := fun W hb => clone_any bh oh cp ns (by omega) hns.1 W ((HR3.out.mono (Nat.le_of_lt hZw)).later hb)
          clear ih HR3
          generalize hUU : wr.heap.size = U at *
          have p2 : w3.cell? ⟨w.heap.size + 1 + 1, 2, none⟩ = some (.slice (some ⟨q, 0, none⟩) E.length cq) := HP3.out.cell (i := 2) (by omega)
          have pf : w3.frozen? ⟨w.heap.size + 1 + 1, 2, none⟩ = false := HP3.out.frozen 2
          clear hUU
          go_wp2_with fail
          go_region_law (first | (refine step_append_lies _ (by rfl) _ _ _ (by rfl) w.heap.size 36 i0 _ 3 40 Try.underlying25 hi hi0 hi1 hi2 rfl (by omega) (.slice (some ⟨q, 0, none⟩) E.length cq) E.length (E.flatMap cellsU) (by rfl) (HE4.out.later (below_alloc _ _)).row ⟨w4.heap.size, 0, none⟩ 1 1 [.int .i64 (m : Int), .int .i64 sx, .slice (some ⟨gc, 0, none⟩) ns.length cc] (by rfl) (by rfl) (World.news_of_block (cs := #[.int .i64 (m : Int), .int .i64 sx, .slice (some ⟨gc, 0, none⟩) ns.length cc]) (t := 36) (fr := (0, 0)) (heap_alloc_new w4 _)) (by simp [Value.oneCell']) (by omega) (by unfold maxLen; omega) (by omega) (by have := HE4.out.base; simp; omega) (w4.heap.size + 1) (by simp) ?_; intro g1 cp1 w5 hown hgrow hat hlt5; have p25 : w5.cell? ⟨w.heap.size + 1 + 1, 2, none⟩ = some (.slice (some ⟨q, 0, none⟩) E.length cq) := (World.cell?_of_block (a := ⟨w.heap.size + 1 + 1, 2, none⟩) (hgrow.block (w.heap.size + 1 + 1) (by have := HE4.out.base; have := hb4.size; simp; omega) (fun h => hqP (Option.some.inj h).symm))).trans ((cellOld _ _ (by have := hb4.size; omega)).trans p24); have pf5 : w5.frozen? ⟨w.heap.size + 1 + 1, 2, none⟩ = false := (World.frozen?_of_block (a := ⟨w.heap.size + 1 + 1, 2, none⟩) (hgrow.block (w.heap.size + 1 + 1) (by have := HE4.out.base; have := hb4.size; simp; omega) (fun h => hqP (Option.some.inj h).symm))).trans (((below_alloc _ _).frozen (p := ⟨w.heap.size + 1 + 1, 2, none⟩) (show w.heap.size + 1 + 1 < w4.heap.size by have := hb4.size; omega)).trans pf4)) | (go_simp; go_at_call 35; refine (HCl.out _ (Below.refl _ _).drew).mono ?_; rintro e w4 ⟨gc, cc, rfl, ⟨hg1, hg2⟩, hcc, hci, hcf, hb4'⟩; have hb4 : Below w3.heap.size w3 w4 := (Below.refl _ _).drew.trans hb4'; clear hb4'; have p24 : w4.cell? ⟨w.heap.size + 1 + 1, 2, none⟩ = some (.slice (some ⟨q, 0, none⟩) E.length cq) := (hb4.cell (p := ⟨w.heap.size + 1 + 1, 2, none⟩) hPw).trans p2; have pf4 : w4.frozen? ⟨w.heap.size + 1 + 1, 2, none⟩ = false := (hb4.frozen (p := ⟨w.heap.size + 1 + 1, 2, none⟩) hPw).trans pf; have u04 : w4.cell? ⟨U, 0, none⟩ = some (.int .i64 (m : Int)) := (hb4.cell (p := ⟨U, 0, none⟩) hUw).trans u0; have p24a : ∀ o : Obj, (w4.alloc o).cell? ⟨w.heap.size + 1 + 1, 2, none⟩ = some (.slice (some ⟨q, 0, none⟩) E.length cq) := fun o => (cellOld _ _ (by have := hb4.size; omega)).trans p24; have u04a : ∀ o : Obj, (w4.alloc o).cell? ⟨U, 0, none⟩ = some (.int .i64 (m : Int)) := fun o => (cellOld _ _ (by have := hb4.size; omega)).trans u04; have HE4 : Hid (RowE w.heap.size (w.heap.size + 1 + 1) w.heap.size w w4 (.slice (some ⟨q, 0, none⟩) E.length cq) E) := HE3.out.later hb4))
          all_goals
            obtain ⟨x1, x2, x3⟩ := bg_push (m := (m : Int)) (sx := sx) HE3.out HP3.out HZ3.out (by omega) (by omega) hb4 hg1 hg2 hcc hci hcf hown hgrow hat
            have X1 : Hid (RowE _ _ _ _ _ _ _) := x1
            have X2 : Hid (World.rowIs _ _ _ _ _) := x2
            have X3 : Hid (World.rowIs _ _ _ _ _) := x3
            clear x1 x2 x3 hown hgrow hat hlt5 p25 pf5 p24 pf4 u04 p24a u04a HE4 hb4 hg1 hg2 hcc hci hcf
            generalize w5.setCell ⟨w.heap.size + 1 + 1, 2, none⟩ (.slice (some ⟨g1, 0, none⟩) (E.length + 1) cp1) = W6 at *
            have q1 : W6.cell? ⟨w.heap.size + 1 + 1, 1, none⟩ = some (.int .i64 (savN us ds cs E.length)) := X2.out.cell (i := 1) (by omega)
            have qf := X2.out.frozen 1
            have Y1 : Hid (RowE w.heap.size (w.heap.size + 1 + 1) w.heap.size w (W6.setCell ⟨w.heap.size + 1 + 1, 1, none⟩ (.int .i64 (savN us ds cs E.length + sx))) (.slice (some ⟨g1, 0, none⟩) (E.length + 1) cp1) (E ++ [(⟨(m : Int), sx, ns⟩, gc, cc)])) := X1.out.setP (by omega) _ _
            have Y2 : Hid ((W6.setCell ⟨w.heap.size + 1 + 1, 1, none⟩ (.int .i64 (savN us ds cs E.length + sx))).rowIs (w.heap.size + 1 + 1) 29 3 (bgF (sumU us) (savN us ds cs E.length + sx) (.slice (some ⟨g1, 0, none⟩) (E.length + 1) cp1))) := bg_set1 X2.out
            have Y3 : Hid ((W6.setCell ⟨w.heap.size + 1 + 1, 1, none⟩ (.int .i64 (savN us ds cs E.length + sx))).rowIs w.heap.size 29 3 (bgF 0 0 (.slice none 0 0))) := X3.out.setOther (by dsimp only; omega) _
            have HM2 : Hid ((E ++ [((⟨(m : Int), sx, ns⟩ : CUs), gc, cc)]).map (·.1) = (cs.take (E.length + 1)).map (told us ds)) := by show _ = _; rw [List.map_append, HEm.out, HMn.out]; rfl
            clear X1 X2 X3 HE3 HP3 HZ3 HMn HEm
            generalize savN us ds cs E.length = sn at *
            have hwr : IntKind.i64.wrap (sn + sx) = sn + sx := wrap_id _ (by omega) (by omega)
            go_wp2
            exact ⟨⟨E.length + 1, g1, cp1, _, by omega, by go_num, by rw [List.length_append]; rfl, HM2.out, Y1.out, by rw [HSn.out]; exact Y2.out, Y3.out⟩, by simp [intOf]; omega⟩
        · have hEc : E.length = cs.length := by omega
          rw [hEc] at HE HP HEm ⊢
          have HEc : Hid (E.length = cs.length) := hEc
          clear hEc
          have hsv := savN_bound HG.out cs.length (Nat.le_refl _)
          have HSs : Hid (savN us ds cs cs.length = savS us ds cs) := by show _ = _; unfold savN savS; rw [List.take_length]
          have HMm : Hid (E.map (·.1) = cs.map (told us ds)) := by have := HEm.out; rwa [List.take_length] at this
          rw [HSs.out] at HP hsv
          clear HSs HEm
          have p0 : wr.cell? ⟨w.heap.size + 1 + 1, 0, none⟩ = some (.int .i64 (sumU us)) := HP.out.cell (i := 0) (by omega)
          have p1 : wr.cell? ⟨w.heap.size + 1 + 1, 1, none⟩ = some (.int .i64 (savS us ds cs)) := HP.out.cell (i := 1) (by omega)
          have p2 : wr.cell? ⟨w.heap.size + 1 + 1, 2, none⟩ = some (.slice (some ⟨q, 0, none⟩) cs.length cq) := HP.out.cell (i := 2) (by omega)
          have f0 := HP.out.frozen 0
          have z0 : wr.cell? ⟨w.heap.size, 0, none⟩ = some (.int .i64 0) := HZ.out.cell (i := 0) (by omega)
          have z1 : wr.cell? ⟨w.heap.size, 1, none⟩ = some (.int .i64 0) := HZ.out.cell (i := 1) (by omega)
          have z2 : wr.cell? ⟨w.heap.size, 2, none⟩ = some (.slice none 0 0) := HZ.out.cell (i := 2) (by omega)
          have y0 := HZ.out.frozen 0
          have y1 := HZ.out.frozen 1
          have y2 := HZ.out.frozen 2
          have HFn : Hid (∀ x v0 v1 v2, RowE w.heap.size (w.heap.size + 1 + 1) w.heap.size w ((((wr.setCell ⟨w.heap.size + 1 + 1, 0, none⟩ x).setCell ⟨w.heap.size, 0, none⟩ v0).setCell ⟨w.heap.size, 1, none⟩ v1).setCell ⟨w.heap.size, 2, none⟩ v2) (.slice (some ⟨q, 0, none⟩) cs.length cq) E) := fun x v0 v1 v2 => (((HE.out.setP (by omega) 0 x).setR (Nat.le_refl _) 0 v0).setR (Nat.le_refl _) 1 v1).setR (Nat.le_refl _) 2 v2
          generalize hsx : savS us ds cs = sx at *
          generalize htx : sumU us = tx at *
          have hwr : IntKind.i64.wrap (tx - sx) = tx - sx := wrap_id _ (by omega) (by omega)
          generalize hcl : cs.length = cl at *
          have HE3 : Hid (savS us ds cs = sx ∧ sumU us = tx ∧ cs.length = cl) := ⟨hsx, htx, hcl⟩
          clear hsx htx hcl
          go_wp2
          refine bodyPost_ret (v := .agg #[.int .i64 (tx - sx), .int .i64 sx, .slice (some ⟨q, 0, none⟩) cl cq]) (by simp [results, Try.results14, go_sem, z0, z1, z2]) rfl ?_
          have hF := HFn.out (.int .i64 (tx - sx)) (.int .i64 (tx - sx)) (.int .i64 sx) (.slice (some ⟨q, 0, none⟩) cl cq)
          have hO := hF.ownUs HEc.out.symm
          rw [HMm.out] at hO
          exact ⟨_, cq, by rw [HE3.out.1, HE3.out.2.1, HE3.out.2.2], hO, hF.below⟩

end Go.Proofs.Ytkfmifbffgbiiaa

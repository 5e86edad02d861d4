/-
  Contracts of the program's Facing.within, gainAhead, rowAhead, mostFor, for every facing that is right and every row that lies in memory.
-/
import Derived.Test.YtphefbaogfknoaaFeA
import Derived.Test.YtphefbaogfknoaaRegZ
namespace Go.Proofs.Ytphefbaogfknoaa
open Go.ChangeShapes Go.WideShapes Go.ChangeAt Go.RowKit Go.Deep
set_option linter.unusedVariables false

/-- A row of n numbers in a block. -/
def RwI (w : World) (b n : Nat) (f : Nat → Int) : Prop := w.rowIs b 3 n (fun i => .int .i64 (f i))
theorem RwI.below {B : Nat} {w w' : World} {b n : Nat} {f : Nat → Int} (h : RwI w b n f) (hb : Below B w w') (hB : b < B) : RwI w' b n f := World.rowIs.of_block h (hb.block b hB)
theorem RwI.later {w w' : World} {b n : Nat} {f : Nat → Int} (h : RwI w b n f) (hb : Below w.heap.size w w') : RwI w' b n f := h.below hb h.lt
theorem RwI.congr {w : World} {b n : Nat} {f g : Nat → Int} (h : RwI w b n f) (e : ∀ i, i < n → f i = g i) : RwI w b n g := World.rowIs.congr h (fun i hi => by rw [e i hi])
theorem RwI.put {w : World} {b n : Nat} {f : Nat → Int} (h : RwI w b n f) (i : Nat) (x : Int) : RwI (w.setCell ⟨b, i, none⟩ (.int .i64 x)) b n (fun j => if j = i then x else f j) := by
  refine World.rowIs.congr (World.rowIs.set h i (.int .i64 x)) (fun j hj => ?_)
  dsimp only
  split <;> rfl
theorem RwI.far {w : World} {b n : Nat} {f : Nat → Int} (h : RwI w b n f) {c : Nat} (hc : c ≠ b) (o : Nat) (v : Value) : RwI (w.setCell ⟨c, o, none⟩ v) b n f := World.rowIs.of_block h (Below.heap_setCell _ _ _ _ (Ne.symm hc))
theorem wi_int {r : CFc} (hr : FcR r) (s : Nat) : (wiN r s : Int) = min (r.gs.length : Int) ((s : Int) / r.wd) := by
  obtain ⟨vn, hvn⟩ : ∃ n : Nat, r.wd = (n : Int) := ⟨r.wd.toNat, by have := hr.2.1; omega⟩
  unfold wiN
  rw [hvn, ← Int.natCast_ediv, Int.toNat_natCast]
  generalize s / vn = q
  omega
theorem ediv_room (s : Nat) (v : Int) (h : 1 ≤ v) (hs : s ≤ 2000) : 0 ≤ (s : Int) / v ∧ (s : Int) / v ≤ 2000 := by
  obtain ⟨vn, rfl⟩ : ∃ n : Nat, v = (n : Int) := ⟨v.toNat, by omega⟩
  rw [← Int.natCast_ediv]
  have := Nat.div_le_self s vn
  generalize s / vn = q at *
  omega
set_option maxHeartbeats 2000000 in
theorem within_any (r : CFc) (hr : FcR r) (h : Option Addr) (cp : Nat) (s : Nat) (hs : s ≤ 2000) (w : World) :
    Calls Try.prog 65 #[.agg #[.string r.nm, .int .i64 r.wd, .int .i64 r.ls, .slice h r.gs.length cp], .int .i64 (s : Int)] w fun e w' => e = .returned (.int .i64 (wiN r s : Int)) ∧ Below w.heap.size w w' := by
  rw [wi_int hr s]
  have hq := ediv_room s r.wd hr.2.1.1 hs
  have hl6 := hr.1
  have hw2 := hr.2.1
  obtain ⟨nm, wd, ls, gs⟩ := r
  dsimp only at *
  clear hr
  generalize gs.length = n at *
  have hv0 : (wd == 0) = false := by simp; omega
  have hv1 : ¬ wd = 0 := by omega
  obtain ⟨q, hqe⟩ : ∃ q, (s : Int) / wd = q := ⟨_, rfl⟩
  rw [hqe] at hq ⊢
  have hwr1 : IntKind.i64.wrap q = q := wrap_id _ (by omega) (by omega)
  have hwr2 : wrap64 q = q := by unfold wrap64; omega
  go_enter Try.func65, Try.ntmps65
  go_wp2
  go_quiet (fail)
  go_wp2
  go_ret
  exact ⟨rfl, below_drewN (below_alloc _ _) _⟩
theorem boxAt {w W0 : World} {c : Array Value} {t : TypeId} (h : W0 = w.alloc (Obj.cells c t)) : W0.heap[w.heap.size]? = some (.cells c t (0, 0)) ∧ Below w.heap.size w W0 := by
  rw [h]; exact ⟨heapNew _ _, below_alloc _ _⟩
set_option maxHeartbeats 4000000 in
theorem gainAhead_any (r : CFc) (hr : FcR r) (h : Option Addr) (cp : Nat) (hcp : r.gs.length ≤ cp) (m room nn rb cb : Nat) (hm : m ≤ wiN r room) (hrm : room < nn) (hnn : nn ≤ 2001) (I : Nat → Int) (hI : ∀ i, -1 ≤ I i ∧ I i ≤ 7200000) (w : World) (hR : Reads w.heap.size w h r.gs) (hrow : RwI w rb nn I) :
    Calls Try.prog 66 #[.agg #[.string r.nm, .int .i64 r.wd, .int .i64 r.ls, .slice h r.gs.length cp], .int .i64 (m : Int), .int .i64 (room : Int), .slice (some ⟨rb, 0, none⟩) nn cb] w fun e w' => e = .returned (.int .i64 (gA r I room m)) ∧ Below w.heap.size w w' := by
  obtain ⟨hm1, hm2⟩ := wi_fits hr hm
  have h6 := wi_small hr room
  have hU : ∀ W, Calls Try.prog 53 #[.agg #[.string r.nm, .int .i64 r.wd, .int .i64 r.ls, .slice h r.gs.length cp], .int .i64 (m : Int)] W fun e w' => e = .returned (.int .i64 ((m : Int) * r.wd)) ∧ Below W.heap.size W w' := fun W => uses_any r hr h cp (m : Int) ⟨by omega, by omega⟩ W
  have hG : ∀ W, Below w.heap.size w W → Calls Try.prog 54 #[.agg #[.string r.nm, .int .i64 r.wd, .int .i64 r.ls, .slice h r.gs.length cp], .int .i64 (m : Int)] W fun e w' => e = .returned (.int .i64 (gnN r.gs m)) ∧ Below W.heap.size W w' := fun W hb => gains_any r hr h cp hcp m hm1 W (hR.later hb)
  have hgb := gnN_bound hr m
  have hcm := cast_mul (n := m) (wd := r.wd) (by have := hr.2.1; omega)
  obtain ⟨x, hx⟩ : ∃ x, x = room - m * r.wd.toNat := ⟨_, rfl⟩
  have hxi : (room : Int) - (m : Int) * r.wd = (x : Int) := by omega
  have hga : gA r I room m = if I x < 0 then -1 else gnN r.gs m + I x := by unfold gA; rw [hx]
  rw [hga]
  have hxn : x < nn := by omega
  have hIx := hI x
  have hmu := mul_small (c := (m : Int)) (wd := r.wd) ⟨by omega, by omega⟩ hr.2.1
  clear hga hR hm hm1 hm2 hr hcp hx hcm
  generalize gnN r.gs m = gv at *
  obtain ⟨nm, wd, ls, gs⟩ := r
  dsimp only at *
  generalize gs.length = n at *
  generalize (m : Int) * wd = mw at *
  have HU : Hid (∀ W, Calls Try.prog 53 #[.agg #[.string nm, .int .i64 wd, .int .i64 ls, .slice h n cp], .int .i64 (m : Int)] W fun e w' => e = .returned (.int .i64 mw) ∧ Below W.heap.size W w') := hU
  have HG : Hid (∀ W, Below w.heap.size w W → Calls Try.prog 54 #[.agg #[.string nm, .int .i64 wd, .int .i64 ls, .slice h n cp], .int .i64 (m : Int)] W fun e w' => e = .returned (.int .i64 gv) ∧ Below W.heap.size W w') := hG
  have HRow : Hid (RwI w rb nn I) := hrow
  clear hU hG hrow
  obtain ⟨W0, hW0⟩ : ∃ W0, W0 = w.alloc (Obj.cells #[.string nm, .int .i64 wd, .int .i64 ls, .slice h n cp] 51) := ⟨_, rfl⟩
  obtain ⟨D, hD⟩ : ∃ D, D = w.heap.size := ⟨_, rfl⟩
  have HW0 : Hid (W0 = w.alloc (Obj.cells #[.string nm, .int .i64 wd, .int .i64 ls, .slice h n cp] 51) ∧ D = w.heap.size) := ⟨hW0, hD⟩
  obtain ⟨hbx, hb0⟩ := boxAt hW0
  rw [← hD] at hbx
  have HBx : Hid (W0.heap[D]? = some (.cells #[.string nm, .int .i64 wd, .int .i64 ls, .slice h n cp] 51 (0, 0))) := hbx
  have HB0 : Hid (Below w.heap.size w W0) := hb0
  have HC : Hid (∀ W, Below W0.heap.size W0 W → W.cell? ⟨D, 0, none⟩ = some (.string nm) ∧ W.cell? ⟨D, 1, none⟩ = some (.int .i64 wd) ∧ W.cell? ⟨D, 2, none⟩ = some (.int .i64 ls) ∧ W.cell? ⟨D, 3, none⟩ = some (.slice h n cp)) := fun W hb => by
    have hq := (hb.block D (blkLt HBx.out)).trans HBx.out
    exact ⟨blkCell hq 0 _ rfl, blkCell hq 1 _ rfl, blkCell hq 2 _ rfl, blkCell hq 3 _ rfl⟩
  have hwr : IntKind.i64.wrap ((room : Int) - mw) = (x : Int) := by rw [hxi]; exact wrap_id _ (by omega) (by omega)
  have hxi' : (x : Int) < (nn : Int) := by omega
  clear hW0 hD hbx hb0
  by_cases hneg : I x < 0
  · rw [if_pos hneg]
    have hI1 : I x = -1 := by omega
    have HI1 : Hid (I x = -1) := hI1
    clear hneg hI1 hIx
    go_enter Try.func66, Try.ntmps66
    go_upto_region 1 with fail
    rw [← HW0.out.1, ← HW0.out.2]
    clear HW0
    obtain ⟨c0, c1, c2, c3⟩ := HC.out W0 (Below.refl _ _)
    go_wp2_with fail
    (first | go_at_call 53 | skip)
    refine (HU.out _).mono ?_
    rintro e w2 ⟨rfl, hb2⟩
    have d0 := ((HRow.out.later (chain HB0.out hb2)).cell (i := x) hxn)
    try dsimp only at d0
    rw [HI1.out] at d0
    have HB2 : Hid (Below w.heap.size w w2) := chain HB0.out hb2
    clear hb2 c0 c1 c2 c3
    go_wp2_with fail
    go_ret
    exact ⟨rfl, HB2.out⟩
  · rw [if_neg hneg]
    have hnb : (I x == -1) = false := by simp; omega
    have hI0 : 0 ≤ I x := by omega
    clear hneg
    obtain ⟨z, hz⟩ : ∃ z, z = I x := ⟨_, rfl⟩
    rw [← hz] at hnb hI0 hIx ⊢
    have HZ : Hid (z = I x) := hz
    clear hz
    have hwr2 : IntKind.i64.wrap (gv + z) = gv + z := wrap_id _ (by omega) (by omega)
    go_enter Try.func66, Try.ntmps66
    go_upto_region 1 with fail
    rw [← HW0.out.1, ← HW0.out.2]
    clear HW0
    obtain ⟨c0, c1, c2, c3⟩ := HC.out W0 (Below.refl _ _)
    go_wp2_with fail
    (first | go_at_call 53 | skip)
    refine (HU.out _).mono ?_
    rintro e w2 ⟨rfl, hb2⟩
    have d0 := ((HRow.out.later (chain HB0.out hb2)).cell (i := x) hxn)
    try dsimp only at d0
    rw [← HZ.out] at d0
    clear c0 c1 c2 c3
    obtain ⟨c0, c1, c2, c3⟩ := HC.out w2 hb2
    have HB2 : Hid (Below w.heap.size w w2) := chain HB0.out hb2
    clear hb2
    go_wp2_with fail
    (first | go_at_call 54 | skip)
    refine (HG.out w2 HB2.out).mono ?_
    rintro e w3 ⟨rfl, hb3⟩
    have HB3 : Hid (Below w.heap.size w w3) := chain HB2.out hb3
    clear hb3 c0 c1 c2 c3 d0
    go_wp2_with fail
    go_ret
    exact ⟨rfl, HB3.out⟩
theorem bF_next (r : CFc) (row : Nat → Int) (w j : Nat) : bF r row w (j + 1) = max (bF r row w j) (gA r row w (r.ls.toNat + j)) := rfl
/-- A row that is being made: the facing's box, the row behind, the new row. -/
structure RaSt (w : World) (rb nn : Nat) (I : Nat → Int) (D nb : Nat) (ce : Array Value) (f : Nat → Int) (W : World) : Prop where
  box : W.heap[D]? = some (.cells ce 51 (0, 0))
  beh : RwI W rb nn I
  row : RwI W nb nn f
  bel : Below w.heap.size w W
  nbw : w.heap.size ≤ nb
  ne : nb ≠ rb
theorem RaSt.later {w : World} {rb nn : Nat} {I : Nat → Int} {D nb : Nat} {ce : Array Value} {f : Nat → Int} {W W' : World} (h : RaSt w rb nn I D nb ce f W) (hb : Below W.heap.size W W') : RaSt w rb nn I D nb ce f W' :=
  ⟨(hb.block D (blkLt h.box)).trans h.box, h.beh.later hb, h.row.later hb, chain h.bel hb, h.nbw, h.ne⟩
theorem RaSt.put {w : World} {rb nn : Nat} {I : Nat → Int} {D nb : Nat} {ce : Array Value} {f g : Nat → Int} {W : World} (h : RaSt w rb nn I D nb ce f W) (i : Nat) (x : Int) (hg : ∀ j, j < nn → (if j = i then x else f j) = g j) : RaSt w rb nn I D nb ce g (W.setCell ⟨nb, i, none⟩ (.int .i64 x)) := by
  have hne : D ≠ nb := fun e => by
    obtain ⟨c, hc, _⟩ := h.row
    rw [← e, h.box] at hc
    simp at hc
  exact ⟨(Below.heap_setCell _ _ _ _ hne).trans h.box, h.beh.far h.ne _ _, (h.row.put i x).congr hg, h.bel.setCell h.nbw _, h.nbw, h.ne⟩
set_option maxHeartbeats 8000000 in
set_option maxRecDepth 4000 in
theorem rowAhead_any (r : CFc) (hr : FcR r) (h : Option Addr) (cp : Nat) (hcp : r.gs.length ≤ cp) (nn rb cb : Nat) (hn1 : 1 ≤ nn) (hnn : nn ≤ 2001) (I : Nat → Int) (hI : ∀ i, -1 ≤ I i ∧ I i ≤ 6600000) (w : World) (hR : Reads w.heap.size w h r.gs) (hrow : RwI w rb nn I) :
    Calls Try.prog 55 #[.agg #[.string r.nm, .int .i64 r.wd, .int .i64 r.ls, .slice h r.gs.length cp], .slice (some ⟨rb, 0, none⟩) nn cb] w fun e w' => ∃ nb, e = .returned (.slice (some ⟨nb, 0, none⟩) nn nn) ∧ w.heap.size ≤ nb ∧ RwI w' nb nn (dpR r I) ∧ Below w.heap.size w w' := by
  have hmk := fun w => run_make_row' (P := Try.prog) 24 3 (.int .i64 0) 8 Try.underlying24 intInfo rfl .i64 .i64 nn (by omega) (by omega) w
  have HWi : Hid (∀ (s : Nat) W, s ≤ 2000 → Calls Try.prog 65 #[.agg #[.string r.nm, .int .i64 r.wd, .int .i64 r.ls, .slice h r.gs.length cp], .int .i64 (s : Int)] W fun e w' => e = .returned (.int .i64 (wiN r s : Int)) ∧ Below W.heap.size W w') := fun s W hs => within_any r hr h cp s hs W
  have HGA0 : Hid (∀ (m room : Nat) W, m ≤ wiN r room → room < nn → Below w.heap.size w W → RwI W rb nn I → Calls Try.prog 66 #[.agg #[.string r.nm, .int .i64 r.wd, .int .i64 r.ls, .slice h r.gs.length cp], .int .i64 (m : Int), .int .i64 (room : Int), .slice (some ⟨rb, 0, none⟩) nn cb] W fun e w' => e = .returned (.int .i64 (gA r I room m)) ∧ Below W.heap.size W w') := fun m room W h1 h2 hb hw => gainAhead_any r hr h cp hcp m room nn rb cb h1 h2 hnn I (fun i => by have := hI i; omega) W (hR.later hb) hw
  have HW6 : Hid (∀ s, wiN r s ≤ 6) := fun s => wi_small hr s
  have HBd : Hid (∀ k j, -1 ≤ bF r I k j ∧ bF r I k j ≤ 7200000) := fun k j => by have := bF_bound hr (M := 6600000) hI (by omega) k j; omega
  have hls := hr.2.2.1
  have hl6 := hr.1
  have HRow : Hid (RwI w rb nn I) := hrow
  have HB1 : Hid (Below w.heap.size w w) := Below.refl _ _
  clear hR hrow hr
  obtain ⟨ln, hln⟩ : ∃ ln : Nat, r.ls = (ln : Int) := ⟨r.ls.toNat, by omega⟩
  have hlt2 : r.ls.toNat = ln := by rw [hln]; rfl
  have HN1 : Hid (∀ k j, bF r I k (j + 1) = max (bF r I k j) (gA r I k (ln + j))) := fun k j => by show _ = _; rw [bF_next, hlt2]
  have HNc : Hid (∀ k, nC r k = wiN r k + 1 - ln) := fun k => by show _ = _; unfold nC; rw [hlt2]
  have HDp : Hid (∀ k, dpR r I k = bF r I k (nC r k)) := fun k => rfl
  obtain ⟨r0, hr0⟩ : ∃ r0, r0 = r := ⟨_, rfl⟩
  rw [← hr0] at HN1 HNc HDp HBd HGA0 HW6 ⊢
  have hnm : r0.nm = r.nm ∧ r0.wd = r.wd ∧ r0.ls = r.ls ∧ r0.gs = r.gs := by rw [hr0]; exact ⟨rfl, rfl, rfl, rfl⟩
  have HWi2 : Hid (∀ (s : Nat) W, s ≤ 2000 → Calls Try.prog 65 #[.agg #[.string r.nm, .int .i64 r.wd, .int .i64 r.ls, .slice h r.gs.length cp], .int .i64 (s : Int)] W fun e w' => e = .returned (.int .i64 (wiN r0 s : Int)) ∧ Below W.heap.size W w') := by rw [hr0]; exact HWi.out
  rw [hnm.1, hnm.2.1, hnm.2.2.1, hnm.2.2.2] at HGA0 ⊢
  clear hr0 hnm HWi hlt2
  obtain ⟨nm, wd, ls, gs⟩ := r
  dsimp only at *
  subst hln
  generalize gs.length = n at *
  obtain ⟨ls, hls2⟩ : ∃ ls : Int, ls = (ln : Int) := ⟨_, rfl⟩
  rw [← hls2] at HGA0 HWi2 ⊢
  have HLs : Hid (ls = (ln : Int)) := hls2
  clear hls2
  obtain ⟨W0, hW0⟩ : ∃ W0, W0 = w.alloc (Obj.cells #[.string nm, .int .i64 wd, .int .i64 ls, .slice h n cp] 51) := ⟨_, rfl⟩
  obtain ⟨D, hD⟩ : ∃ D, D = w.heap.size := ⟨_, rfl⟩
  obtain ⟨W1, hW1⟩ : ∃ W1, W1 = W0.alloc (Obj.cells (madeCells #[.int .i64 0] nn) 3) := ⟨_, rfl⟩
  obtain ⟨nb, hnb⟩ : ∃ nb, nb = W0.heap.size := ⟨_, rfl⟩
  have HW1 : Hid (W1 = (w.alloc (Obj.cells #[.string nm, .int .i64 wd, .int .i64 ls, .slice h n cp] 51)).alloc (Obj.cells (madeCells #[.int .i64 0] nn) 3) ∧ D = w.heap.size ∧ nb = w.heap.size + 1) := ⟨by rw [hW1, hW0], hD, by rw [hnb, hW0]; simp⟩
  obtain ⟨hbx, hb0⟩ := boxAt hW0
  rw [← hD] at hbx
  have hb1 : Below W0.heap.size W0 W1 := by rw [hW1]; exact below_alloc _ _
  have HS0 : Hid (RaSt w rb nn I D nb #[.string nm, .int .i64 wd, .int .i64 ls, .slice h n cp] (fun i => if i < 0 then dpR r0 I i else 0) W1) := by
    refine ⟨(hb1.block D (blkLt hbx)).trans hbx, HRow.out.later (chain hb0 hb1), ?_, chain hb0 hb1, by rw [hnb]; exact hb0.size, ?_⟩
    · rw [hW1, hnb]
      exact RwI.congr (World.rowIs_made W0 (.int .i64 0) nn 3) (fun i _ => by rw [if_neg (by omega)])
    · have h1 := HRow.out.lt
      have h2 := hb0.size
      omega
  clear hW0 hD hW1 hnb hbx hb0 hb1 HRow HB1
  go_enter Try.func55, Try.ntmps55
  go_upto_region 3 with fail
  rw [← HW1.out.1]
  try rw [← HW1.out.2.2]
  try rw [← HW1.out.2.1]
  clear HW1 hmk
  go_loopw [6, 7, 13] (fun _ _ c wr => ∃ k : Nat, k ≤ nn ∧ c = .int .i64 (k : Int) ∧ RaSt w rb nn I D nb #[.string nm, .int .i64 wd, .int .i64 ls, .slice h n cp] (fun i => if i < k then dpR r0 I i else 0) wr) (fun _ _ c _ => nn - (intOf c).toNat)
  case atStart => exact ⟨0, Nat.zero_le _, rfl, HS0.out⟩
  case round =>
    clear HS0
    obtain ⟨k, hk, rfl, hst⟩ := hrel
    have HS : Hid (RaSt w rb nn I D nb #[.string nm, .int .i64 wd, .int .i64 ls, .slice h n cp] (fun i => if i < k then dpR r0 I i else 0) wr) := hst
    clear hst
    by_cases hlt : k < nn
    · have hlt' : (k : Int) < (nn : Int) := by omega
      have c0 := HS.out.row.cell (i := k) hlt
      have f0 : wr.frozen? ⟨nb, k, none⟩ = false := HS.out.row.frozen k
      have c2 := blkCell HS.out.box 2 _ rfl
      dsimp only at c0
      simp only [List.getElem_toArray, List.getElem_cons_zero, List.getElem_cons_succ] at c2
      have HS1 : Hid (RaSt w rb nn I D nb #[.string nm, .int .i64 wd, .int .i64 ls, .slice h n cp] (fun i => if i = k then bF r0 I k 0 else if i < k then dpR r0 I i else 0) (wr.setCell ⟨nb, k, none⟩ (.int .i64 (-1)))) := HS.out.put k (-1) (fun i _ => rfl)
      have hDn : D ≠ nb := fun e => by
        obtain ⟨c, hc, _⟩ := HS.out.row
        rw [← e, HS.out.box] at hc
        simp at hc
      have hDn' : nb ≠ D := Ne.symm hDn
      go_wp2_with fail
      clear c0 f0 c2
      generalize wr.setCell ⟨nb, k, none⟩ (.int .i64 (-1)) = wr1 at *
      clear HS
      go_loopw [7] (fun c wj => ∃ (j ct : Nat), ct = ln + j ∧ j ≤ nC r0 k ∧ c = .int .i64 (ct : Int) ∧ RaSt w rb nn I D nb #[.string nm, .int .i64 wd, .int .i64 ls, .slice h n cp] (fun i => if i = k then bF r0 I k j else if i < k then dpR r0 I i else 0) wj) (fun c _ => 2000 - (intOf c).toNat)
      case atStart => exact ⟨0, ln, rfl, Nat.zero_le _, by rw [HLs.out], HS1.out⟩
      case round =>
        clear HS1
        obtain ⟨j, ct, hct, hj, rfl, hst⟩ := hrel
        obtain ⟨wj, hwj⟩ : ∃ wj, wj = wr := ⟨_, rfl⟩
        rw [← hwj] at hst ⊢
        have HS : Hid (RaSt w rb nn I D nb #[.string nm, .int .i64 wd, .int .i64 ls, .slice h n cp] (fun i => if i = k then bF r0 I k j else if i < k then dpR r0 I i else 0) wj) := hst
        have HCt : Hid (ct = ln + j) := hct
        clear hst hct hwj
        have d0 := blkCell HS.out.box 0 _ rfl
        have d1 := blkCell HS.out.box 1 _ rfl
        have d2 := blkCell HS.out.box 2 _ rfl
        have d3 := blkCell HS.out.box 3 _ rfl
        simp only [List.getElem_toArray, List.getElem_cons_zero, List.getElem_cons_succ] at d0 d1 d2 d3
        have h6 := HW6.out k
        have hnc := HNc.out k
        go_wp2_with fail
        (first | go_at_call 65 | skip)
        refine (HWi2.out k wj (by omega)).mono ?_
        rintro e w2 ⟨rfl, hb2⟩
        have HS2 : Hid (RaSt w rb nn I D nb #[.string nm, .int .i64 wd, .int .i64 ls, .slice h n cp] (fun i => if i = k then bF r0 I k j else if i < k then dpR r0 I i else 0) w2) := HS.out.later hb2
        clear hb2 d0 d1 d2 d3 HS
        by_cases hle : ct ≤ wiN r0 k
        · have hle' : (ct : Int) ≤ (wiN r0 k : Int) := by omega
          have hct6 : ct ≤ 6 := by omega
          have hj2 : j + 1 ≤ nC r0 k := by have := HCt.out; omega
          go_upto_region 9 with fail
          obtain ⟨wj, hwj⟩ : ∃ wj, wj = w2 := ⟨_, rfl⟩
          rw [← hwj] at HS2 ⊢
          clear hwj
          obtain ⟨cu, hcu⟩ : ∃ cu, cu = bF r0 I k j := ⟨_, rfl⟩
          obtain ⟨gv, hgv⟩ : ∃ gv, gv = gA r0 I k ct := ⟨_, rfl⟩
          have hcb := HBd.out k j
          rw [← hcu] at hcb
          have HGA : Hid (∀ W, Below wj.heap.size wj W → Calls Try.prog 66 #[.agg #[.string nm, .int .i64 wd, .int .i64 ls, .slice h n cp], .int .i64 (ct : Int), .int .i64 (k : Int), .slice (some ⟨rb, 0, none⟩) nn cb] W fun e w' => e = .returned (.int .i64 gv) ∧ Below W.heap.size W w') := fun W hb => by
            rw [hgv]
            exact HGA0.out ct k W (by omega) hlt (HS2.out.later hb).bel (HS2.out.later hb).beh
          have HQ : Hid (∀ W, Below wj.heap.size wj W → (W.cell? ⟨D, 0, none⟩ = some (.string nm) ∧ W.cell? ⟨D, 1, none⟩ = some (.int .i64 wd) ∧ W.cell? ⟨D, 2, none⟩ = some (.int .i64 ls) ∧ W.cell? ⟨D, 3, none⟩ = some (.slice h n cp)) ∧ W.cell? ⟨nb, k, none⟩ = some (.int .i64 cu)) := fun W hb => by
            have h1 := HS2.out.later hb
            have h2 := h1.row.cell (i := k) hlt
            dsimp only at h2
            rw [if_pos rfl, ← hcu] at h2
            exact ⟨⟨blkCell h1.box 0 _ rfl, blkCell h1.box 1 _ rfl, blkCell h1.box 2 _ rfl, blkCell h1.box 3 _ rfl⟩, h2⟩
          have HFz : Hid (∀ W, Below wj.heap.size wj W → W.frozen? ⟨nb, k, none⟩ = false) := fun W hb => (HS2.out.later hb).row.frozen k
          have HPut : Hid (∀ W, Below wj.heap.size wj W → ∀ v, RaSt w rb nn I D nb #[.string nm, .int .i64 wd, .int .i64 ls, .slice h n cp] (fun i => if i = k then v else if i < k then dpR r0 I i else 0) (W.setCell ⟨nb, k, none⟩ (.int .i64 v))) := fun W hb v => (HS2.out.later hb).put k v (fun i _ => by
            by_cases e : i = k
            · rw [if_pos e, if_pos e]
            · rw [if_neg e, if_neg e, if_neg e])
          have HBn : Hid (bF r0 I k (j + 1) = max cu gv) := by show _ = _; rw [HN1.out, ← hcu, hgv, HCt.out]
          have hlt6 : ¬ (2000 : Int) < (ct : Int) := by omega
          clear hcu hgv HS2 hle hle'
          refine wp_region_z (S := fun W' => Below wj.heap.size wj W') 13 (by kernel_rfl) (below_drew _) (fun hH => ?_)
          refine wpAnyZ_take (i := 0) (v := .slice (some ⟨nb, 0, none⟩) nn nn) rfl (by kernel_rfl) (by kernel_rfl) (by kernel_rfl) (by kernel_rfl) (fun _ _ _ h => h) (Or.inl ⟨by rfl, fun w hSw => by clear hSw; go_simp⟩) hH ?_
          refine wpAnyZ_take (i := 1) (v := .int .i64 (k : Int)) rfl (by kernel_rfl) (by kernel_rfl) (by kernel_rfl) (by kernel_rfl) (fun _ _ _ h => h) (Or.inl ⟨by rfl, fun w hSw => by clear hSw; go_simp⟩) hH ?_
          try simp only [Act.put, List.setIfInBounds_toArray, List.set_cons_zero, List.set_cons_succ, List.getElem_toArray, List.getElem_cons_succ, List.getElem_cons_zero]
          refine wpAnyZ_take (i := 2) (v := .slice (some ⟨nb, 0, none⟩) nn nn) rfl (by kernel_rfl) (by kernel_rfl) (by kernel_rfl) (by kernel_rfl) (fun _ _ _ h => h) (Or.inl ⟨by rfl, fun w hSw => by clear hSw; go_simp⟩) hH ?_
          try simp only [Act.put, List.setIfInBounds_toArray, List.set_cons_zero, List.set_cons_succ, List.getElem_toArray, List.getElem_cons_succ, List.getElem_cons_zero]
          refine wpAnyZ_take (i := 3) (v := .int .i64 (k : Int)) rfl (by kernel_rfl) (by kernel_rfl) (by kernel_rfl) (by kernel_rfl) (fun _ _ _ h => h) (Or.inl ⟨by rfl, fun w hSw => by clear hSw; go_simp⟩) hH ?_
          try simp only [Act.put, List.setIfInBounds_toArray, List.set_cons_zero, List.set_cons_succ, List.getElem_toArray, List.getElem_cons_succ, List.getElem_cons_zero]
          refine wpAnyZ_take (i := 4) (v := .pointer (some ⟨nb, k, none⟩)) rfl (by kernel_rfl) (by kernel_rfl) (by kernel_rfl) (by kernel_rfl) (fun _ _ _ h => h) (Or.inl ⟨by rfl, fun w hSw => by clear hSw; go_simp⟩) hH ?_
          try simp only [Act.put, List.setIfInBounds_toArray, List.set_cons_zero, List.set_cons_succ, List.getElem_toArray, List.getElem_cons_succ, List.getElem_cons_zero]
          refine wpAnyZ_take (i := 5) (v := .int .i64 cu) rfl (by kernel_rfl) (by kernel_rfl) (by kernel_rfl) (by kernel_rfl) (fun _ _ _ h => h) (Or.inl ⟨by rfl, fun w hSw => by have f0 := (HQ.out w hSw).2; clear hSw; go_simp⟩) hH ?_
          try simp only [Act.put, List.setIfInBounds_toArray, List.set_cons_zero, List.set_cons_succ, List.getElem_toArray, List.getElem_cons_succ, List.getElem_cons_zero]
          refine wpAnyZ_take (i := 6) (v := .agg #[.string nm, .int .i64 wd, .int .i64 ls, .slice h n cp]) rfl (by kernel_rfl) (by kernel_rfl) (by kernel_rfl) (by kernel_rfl) (fun _ _ _ h => h) (Or.inl ⟨by rfl, fun w hSw => by obtain ⟨⟨f0, f1, f2, f3⟩, _⟩ := HQ.out w hSw; clear hSw; go_simp⟩) hH ?_
          try simp only [Act.put, List.setIfInBounds_toArray, List.set_cons_zero, List.set_cons_succ, List.getElem_toArray, List.getElem_cons_succ, List.getElem_cons_zero]
          refine wpAnyZ_take (i := 7) (v := .int .i64 (ct : Int)) rfl (by kernel_rfl) (by kernel_rfl) (by kernel_rfl) (by kernel_rfl) (fun _ _ _ h => h) (Or.inl ⟨by rfl, fun w hSw => by clear hSw; go_simp⟩) hH ?_
          try simp only [Act.put, List.setIfInBounds_toArray, List.set_cons_zero, List.set_cons_succ, List.getElem_toArray, List.getElem_cons_succ, List.getElem_cons_zero]
          refine wpAnyZ_take (i := 8) (v := .int .i64 (k : Int)) rfl (by kernel_rfl) (by kernel_rfl) (by kernel_rfl) (by kernel_rfl) (fun _ _ _ h => h) (Or.inl ⟨by rfl, fun w hSw => by clear hSw; go_simp⟩) hH ?_
          try simp only [Act.put, List.setIfInBounds_toArray, List.set_cons_zero, List.set_cons_succ, List.getElem_toArray, List.getElem_cons_succ, List.getElem_cons_zero]
          refine wpAnyZ_take (i := 9) (v := .slice (some ⟨rb, 0, none⟩) nn cb) rfl (by kernel_rfl) (by kernel_rfl) (by kernel_rfl) (by kernel_rfl) (fun _ _ _ h => h) (Or.inl ⟨by rfl, fun w hSw => by clear hSw; go_simp⟩) hH ?_
          try simp only [Act.put, List.setIfInBounds_toArray, List.set_cons_zero, List.set_cons_succ, List.getElem_toArray, List.getElem_cons_succ, List.getElem_cons_zero]
          refine wpAnyZ_ready (rs := [10]) (by kernel_rfl) (by simp) ?_
          refine AllReadyZ.cons rfl (fun K hK => ?_) AllReadyZ.nil
          go_simp
          go_at_call 66
          refine (HGA.out _ hH).mono ?_
          rintro e w3 ⟨rfl, hb3⟩
          have h3 : Below wj.heap.size wj w3 := chain hH hb3
          clear hb3
          refine hK.out _ _ (Or.inr h3) (fun _ => ?_)
          clear hK K
          try simp only [Act.put, List.setIfInBounds_toArray, List.set_cons_zero, List.set_cons_succ, List.getElem_toArray, List.getElem_cons_succ, List.getElem_cons_zero]
          refine wpAnyZ_take (i := 11) (v := .int .i64 (max cu gv)) rfl (by kernel_rfl) (by kernel_rfl) (by kernel_rfl) (by kernel_rfl) (fun _ _ _ h => h) (Or.inl ⟨by rfl, fun w hSw => by have f0 := hcb; clear hSw; go_simp⟩) h3 ?_
          try simp only [Act.put, List.setIfInBounds_toArray, List.set_cons_zero, List.set_cons_succ, List.getElem_toArray, List.getElem_cons_succ, List.getElem_cons_zero]
          refine wpAnyZ_take (i := 12) (v := .pointer (some ⟨nb, k, none⟩)) rfl (by kernel_rfl) (by kernel_rfl) (by kernel_rfl) (by kernel_rfl) (fun _ _ _ h => h) (Or.inl ⟨by rfl, fun w hSw => by clear hSw; go_simp⟩) h3 ?_
          try simp only [Act.put, List.setIfInBounds_toArray, List.set_cons_zero, List.set_cons_succ, List.getElem_toArray, List.getElem_cons_succ, List.getElem_cons_zero]
          refine wpAnyZ_ready (rs := [13]) (by kernel_rfl) (by simp) ?_
          refine AllReadyZ.cons rfl (fun K hK => ?_) AllReadyZ.nil
          have y0 := (HQ.out w3 h3).2
          have y1 := HFz.out w3 h3
          have HNx := HPut.out w3 h3 ((max cu gv))
          have HNx2 : Hid (RaSt w rb nn I D nb #[.string nm, .int .i64 wd, .int .i64 ls, .slice h n cp] (fun i => if i = k then (max cu gv) else if i < k then dpR r0 I i else 0) (w3.setCell ⟨nb, k, none⟩ (.int .i64 ((max cu gv))))) := HNx
          clear HNx h3 hH
          go_simp
          refine hK.out _ _ (Or.inl rfl) (fun _ => ?_)
          clear hK K
          try simp only [Act.put, List.setIfInBounds_toArray, List.set_cons_zero, List.set_cons_succ, List.getElem_toArray, List.getElem_cons_succ, List.getElem_cons_zero]
          refine wpAnyZ_done (by kernel_rfl) ?_ _
          clear y0 y1
          generalize w3.setCell ⟨nb, k, none⟩ (.int .i64 (max cu gv)) = wz at *
          go_wp2_with fail
          go_roundw
          case rel => exact ⟨j + 1, ct + 1, by have := HCt.out; omega, hj2, by go_num, by rw [HBn.out]; exact HNx2.out⟩
          case measure => simp [intOf]; omega
        · have hle' : ¬ (ct : Int) ≤ (wiN r0 k : Int) := by omega
          have HE : Hid (RaSt w rb nn I D nb #[.string nm, .int .i64 wd, .int .i64 ls, .slice h n cp] (fun i => if i < k + 1 then dpR r0 I i else 0) w2) := by
            have hjn : j = nC r0 k := by have := HCt.out; omega
            have h1 := HS2.out
            refine ⟨h1.box, h1.beh, h1.row.congr (fun i _ => ?_), h1.bel, h1.nbw, h1.ne⟩
            by_cases e : i = k
            · rw [if_pos e, if_pos (by omega), e, HDp.out, hjn]
            · rw [if_neg e]
              by_cases e2 : i < k
              · rw [if_pos e2, if_pos (by omega)]
              · rw [if_neg e2, if_neg (by omega)]
          clear HS2
          go_wp2_with fail
          go_roundw
          case rel => exact ⟨k + 1, by omega, by go_num, HE.out⟩
          case measure => simp [intOf]; omega
    · have hlt' : ¬ (k : Int) < (nn : Int) := by omega
      go_wp2_with fail
      go_ret
      exact ⟨nb, rfl, HS.out.nbw, HS.out.row.congr (fun i hi => by rw [if_pos (by omega)]), HS.out.bel⟩
theorem pkN_stop {r : CFc} {row : Nat → Int} {w : Nat} {best : Int} {c : Nat} (h : gA r row w c = best) : pkN r row w best c = c := by
  cases c with
  | zero => rfl
  | succ c => unfold pkN; rw [if_pos h]
theorem pkN_next {r : CFc} {row : Nat → Int} {w : Nat} {best : Int} {c : Nat} (h : gA r row w (c + 1) ≠ best) : pkN r row w best (c + 1) = pkN r row w best c := by
  unfold pkN; rw [if_neg h]; cases c <;> rfl
set_option maxHeartbeats 4000000 in
theorem mostFor_any (r : CFc) (hr : FcR r) (h : Option Addr) (cp : Nat) (hcp : r.gs.length ≤ cp) (room nn rb cb : Nat) (hrm : room < nn) (hnn : nn ≤ 2001) (I : Nat → Int) (hI : ∀ i, -1 ≤ I i ∧ I i ≤ 7200000) (best : Int) (hex : gA r I room (pkN r I room best (wiN r room)) = best) (w : World) (hR : Reads w.heap.size w h r.gs) (hrow : RwI w rb nn I) :
    Calls Try.prog 56 #[.agg #[.string r.nm, .int .i64 r.wd, .int .i64 r.ls, .slice h r.gs.length cp], .int .i64 best, .int .i64 (room : Int), .slice (some ⟨rb, 0, none⟩) nn cb] w fun e w' => e = .returned (.int .i64 (pkN r I room best (wiN r room) : Int)) ∧ Below w.heap.size w w' := by
  have HWi : Hid (∀ W, Calls Try.prog 65 #[.agg #[.string r.nm, .int .i64 r.wd, .int .i64 r.ls, .slice h r.gs.length cp], .int .i64 (room : Int)] W fun e w' => e = .returned (.int .i64 (wiN r room : Int)) ∧ Below W.heap.size W w') := fun W => within_any r hr h cp room (by omega) W
  have HGA : Hid (∀ (m : Nat) W, m ≤ wiN r room → Below w.heap.size w W → Calls Try.prog 66 #[.agg #[.string r.nm, .int .i64 r.wd, .int .i64 r.ls, .slice h r.gs.length cp], .int .i64 (m : Int), .int .i64 (room : Int), .slice (some ⟨rb, 0, none⟩) nn cb] W fun e w' => e = .returned (.int .i64 (gA r I room m)) ∧ Below W.heap.size W w') := fun m W h1 hb => gainAhead_any r hr h cp hcp m room nn rb cb h1 hrm hnn I hI W (hR.later hb) (hrow.later hb)
  have h6 := wi_small hr room
  obtain ⟨g, hg⟩ : ∃ g : Nat → Int, g = gA r I room := ⟨_, rfl⟩
  obtain ⟨pf, hpf⟩ : ∃ pf : Nat → Nat, pf = pkN r I room best := ⟨_, rfl⟩
  have HSt : Hid (∀ c, g c = best → pf c = c) := fun c q => by rw [hpf]; rw [hg] at q; exact pkN_stop q
  have HNx : Hid (∀ c, g (c + 1) ≠ best → pf (c + 1) = pf c) := fun c q => by rw [hpf]; rw [hg] at q; exact pkN_next q
  have HEx : Hid (g (pf (wiN r room)) = best) := by show _ = _; rw [hg, hpf]; exact hex
  have HP0 : Hid (pf 0 = 0) := by show _ = _; rw [hpf]; rfl
  have HGA2 : Hid (∀ (m : Nat) W, m ≤ wiN r room → Below w.heap.size w W → Calls Try.prog 66 #[.agg #[.string r.nm, .int .i64 r.wd, .int .i64 r.ls, .slice h r.gs.length cp], .int .i64 (m : Int), .int .i64 (room : Int), .slice (some ⟨rb, 0, none⟩) nn cb] W fun e w' => e = .returned (.int .i64 (g m)) ∧ Below W.heap.size W w') := by rw [hg]; exact HGA.out
  rw [← hpf]
  clear hg hpf hex hR hrow HGA hr hI hcp
  generalize wiN r room = wi at *
  obtain ⟨nm, wd, ls, gs⟩ := r
  dsimp only at *
  generalize gs.length = n at *
  obtain ⟨W0, hW0⟩ : ∃ W0, W0 = w.alloc (Obj.cells #[.string nm, .int .i64 wd, .int .i64 ls, .slice h n cp] 51) := ⟨_, rfl⟩
  obtain ⟨D, hD⟩ : ∃ D, D = w.heap.size := ⟨_, rfl⟩
  have HW0 : Hid (W0 = w.alloc (Obj.cells #[.string nm, .int .i64 wd, .int .i64 ls, .slice h n cp] 51) ∧ D = w.heap.size) := ⟨hW0, hD⟩
  obtain ⟨hbx, hb0⟩ := boxAt hW0
  rw [← hD] at hbx
  have HB0 : Hid (Below w.heap.size w W0) := hb0
  have HC : Hid (∀ W, Below W0.heap.size W0 W → W.cell? ⟨D, 0, none⟩ = some (.string nm) ∧ W.cell? ⟨D, 1, none⟩ = some (.int .i64 wd) ∧ W.cell? ⟨D, 2, none⟩ = some (.int .i64 ls) ∧ W.cell? ⟨D, 3, none⟩ = some (.slice h n cp)) := fun W hb => by
    have hq := (hb.block D (blkLt hbx)).trans hbx
    exact ⟨blkCell hq 0 _ rfl, blkCell hq 1 _ rfl, blkCell hq 2 _ rfl, blkCell hq 3 _ rfl⟩
  clear hW0 hD hb0
  go_enter Try.func56, Try.ntmps56
  go_upto_region 1 with fail
  rw [← HW0.out.1, ← HW0.out.2]
  clear HW0
  obtain ⟨c0, c1, c2, c3⟩ := HC.out W0 (Below.refl _ _)
  go_wp2_with fail
  (first | go_at_call 65 | skip)
  refine (HWi.out _).mono ?_
  rintro e w1 ⟨rfl, hb1⟩
  have HB1 : Hid (Below W0.heap.size W0 w1) := hb1
  clear hb1 c0 c1 c2 c3 hbx
  go_wp2_with fail
  go_loopw [9] (fun v wr => ∃ c : Nat, c ≤ wi ∧ v = .int .i64 (c : Int) ∧ pf wi = pf c ∧ Below W0.heap.size W0 wr) (fun v _ => (intOf v).toNat)
  case atStart => exact ⟨wi, Nat.le_refl _, rfl, rfl, HB1.out⟩
  case round =>
    clear HB1
    obtain ⟨c, hc, rfl, hp, hb⟩ := hrel
    have HP : Hid (pf wi = pf c) := hp
    have HB : Hid (Below W0.heap.size W0 wr) := hb
    clear hp hb
    obtain ⟨c0, c1, c2, c3⟩ := HC.out wr HB.out
    go_wp2_with fail
    (first | go_at_call 66 | skip)
    refine (HGA2.out c wr hc (chain HB0.out HB.out)).mono ?_
    rintro e w2 ⟨rfl, hb2⟩
    have HB2 : Hid (Below W0.heap.size W0 w2) := chain HB.out hb2
    clear hb2 c0 c1 c2 c3
    by_cases he : g c = best
    · have hnb : (g c != best) = false := by simpa using he
      have HE : Hid (pf wi = c) := by show _ = _; rw [HP.out]; exact HSt.out c he
      clear he
      go_wp2_with fail
      go_ret
      exact ⟨ret_int (by rw [HE.out]), chain HB0.out HB2.out⟩
    · have hnb : (g c != best) = true := by simpa using he
      have hc1 : 1 ≤ c := by
        rcases Nat.eq_zero_or_pos c with h0 | h0
        · have h1 := HEx.out
          rw [HP.out, h0, HP0.out] at h1
          rw [h0] at he
          exact absurd h1 he
        · exact h0
      obtain ⟨c', hc'⟩ : ∃ c', c = c' + 1 := ⟨c - 1, by omega⟩
      have HE : Hid (pf wi = pf c') := by show _ = _; rw [HP.out, hc']; exact HNx.out c' (by rw [← hc']; exact he)
      have hwc : (c : Int) - 1 = (c' : Int) := by omega
      have hwr : IntKind.i64.wrap ((c : Int) - 1) = (c' : Int) := by rw [hwc]; exact wrap_id _ (by omega) (by omega)
      have HCc : Hid (c = c' + 1) := hc'
      clear he hc'
      go_wp2_with fail
      go_roundw
      case rel => exact ⟨c', by have := HCc.out; omega, by first | rfl | rw [hwc], HE.out, HB2.out⟩
      case measure => have := HCc.out; simp [intOf]; omega
end Go.Proofs.Ytphefbaogfknoaa

/-
  The contract of the specification's BestMarks.
-/
import Derived.Test.YtlcnhkhkhlpghaaMrG
import Derived.Test.YtlcnhkhkhlpghaaMrF
import Derived.Test.YtlcnhkhkhlpghaaMqF
namespace Go.Proofs.Ytlcnhkhkhlpghaa
open Go.ChangeShapes Go.WideShapes Go.ChangeAt Go.RowKit Go.Deep
set_option linter.unusedVariables false

theorem own2_mono {B B' : Nat} {w : World} {g : Option Addr} {L : List Int} (h : Own2 B w g L) (hB : B' ≤ B) : Own2 B' w g L := by
  rcases h with h | ⟨b, h1, h2, h3⟩
  · exact .inl h
  · exact .inr ⟨b, h1, by omega, h3⟩
/-- The state of the specification's search for the best steps behind d days. -/
structure BgS (C : Sx) (w : World) (R : Nat) (st : Int) (v : Value) (d : Nat) (T : Nat → Int) (wr : World) : Prop where
  sx : SxS C T wr
  res : wr.heap[R]? = some (.cells #[.slice none 0 0, .slice none 0 0, .int .i64 0, .int .i64 0] 28 (0, 0))
  row : RwN w.heap.size (fun q => q = C.tb ∨ q = C.sb ∨ q = R) wr v (bsL C.prs C.cs C.N st d)
  bel : Below w.heap.size w wr
  low : w.heap.size ≤ C.tb ∧ C.tb ≠ R ∧ w.heap.size ≤ R
theorem BgS.fr {C : Sx} {w : World} {R : Nat} {st : Int} {v : Value} {d : Nat} {T T' : Nat → Int} {wr w' : World} (h : BgS C w R st v d T wr) (hf : Fr (fun q => q = C.tb) wr w') (hS : SxS C T' w') : BgS C w R st v d T' w' :=
  ⟨hS, (hf.block R (blkLt h.res) (Ne.symm h.low.2.1)).trans h.res, ⟨row_of h.row.1 (fun q hq => hf.block q (row_lt h.row.1 q hq).2 (fun e => h.row.2 q hq (.inl e))), h.row.2⟩, hf.below h.bel h.bel.size (fun q e => by rw [e]; exact h.low.1), h.low⟩
theorem BgS.later {C : Sx} {w : World} {R : Nat} {st : Int} {v : Value} {d : Nat} {T : Nat → Int} {wr w' : World} (h : BgS C w R st v d T wr) (hb : Below wr.heap.size wr w') : BgS C w R st v d T w' := h.fr (Fr.of hb) (h.sx.fr hb)
theorem SxS.grown {C : Sx} {T : Nat → Int} {W W' : World} (h : SxS C T W) {o : Option Nat} (hg : W.grownBy W' o) (ho : ∀ q, o = some q → C.tb < q ∧ q ≠ C.sb) : SxS C T W' := by
  have hb : Below C.tb W W' := (Below.refl _ _).grown hg (Nat.le_of_lt h.tab.lt) (fun q hq => Nat.le_of_lt (ho q hq).1)
  exact ⟨(hg.block _ (blkLt h.box) (fun e => (ho _ e.symm).2 rfl)).trans h.box, h.tab.of_block (hg.block _ h.tab.lt (fun e => by have := (ho _ e.symm).1; omega)), h.tok, h.rp.below hb, h.rd.below hb, h.low⟩
theorem BgS.push {C : Sx} {w : World} {R : Nat} {st : Int} {v : Value} {d : Nat} {T : Nat → Int} {wr w' : World} (h : BgS C w R st v d T wr) (hlo : ∀ q, v.ownBlock = some q → C.tb < q) {g cp : Nat}
    (ho : w'.ownsRow w.heap.size 3 1 (.slice (some ⟨g, 0, none⟩) (d + 1) cp) (d + 1) ((bsL C.prs C.cs C.N st d).map (Value.int .i64) ++ [.int .i64 ((bs C.prs C.cs C.N st (d + 1)).1 : Int)])) (hg : wr.grownBy w' v.ownBlock) (hat : v.ownBlock = some g ∨ g = wr.heap.size) :
    BgS C w R st (.slice (some ⟨g, 0, none⟩) (d + 1) cp) (d + 1) T w' ∧ C.tb < g := by
  have hlen := bsL_len C.prs C.cs C.N st d
  have hz1 := h.sx.tab.lt
  have hz2 := blkLt h.sx.box
  have hz3 := blkLt h.res
  have r := h.row.push (x := ((bs C.prs C.cs C.N st (d + 1)).1 : Int)) (g := g) (cp := cp) (w' := w') (by rw [hlen]; exact ho) hat (by show ¬ (_ ∨ _ ∨ _); omega)
  rw [hlen] at r
  refine ⟨⟨h.sx.grown hg (fun q hq => ⟨hlo q hq, fun e => h.row.2 q hq (.inr (.inl e))⟩), (hg.block R hz3 (fun e => h.row.2 R e.symm (.inr (.inr rfl)))).trans h.res, r, h.bel.grown hg h.bel.size (fun q hq => (row_lt h.row.1 q hq).1), h.low⟩, ?_⟩
  rcases hat with h1 | h1
  · exact hlo g h1
  · omega
set_option maxRecDepth 100000 in
set_option maxHeartbeats 16000000 in
theorem specBestMarks_any (price stock : Int) (a : Option Addr) (ca : Nat) (ps : List Int) (hl : ps.length ≤ 100000000) (b : Option Addr) (cb : Nat) (cs : LL) (hk : cs.length ≤ 100000000) (hp : ∀ r ∈ cs, DmOK r) (w : World) (hr : Reads w.heap.size w a ps) (ks : ReadsDm w.heap.size w b cs) :
    Calls Try.prog 24 #[.int .i64 price, .int .i64 stock, .slice a ps.length ca, .slice b cs.length cb] w (AnsWb price stock ps cs w) := by
  have HNo : Hid (∀ (c : Int) (w' : World), mkF price stock ps cs = c → c ≠ 0 → Below w.heap.size w w' → AnsWb price stock ps cs w (.returned (.tuple #[.agg #[.slice none 0 0, .slice none 0 0, .int .i64 0, .int .i64 0], .int .i64 c])) w') := fun c w' h1 h2 h3 => ansWb_none h1 h2 h3
  have HFe : Hid (mkF price stock ps cs = if 4096 < ps.length ∨ 4096 < cs.length then 2 else if mkR price stock ps cs = true then 0 else 1) := rfl
  have HLo : Hid (∀ W, Calls Try.prog 43 #[.slice a ps.length ca, .slice b cs.length cb] W fun e w' => e = .returned (.bool (decide (4096 < ps.length ∨ 4096 < cs.length))) ∧ w' = W) := fun W => l15Long_any a _ ca hl b _ cb hk W
  have HRi : Hid (∀ W, Below w.heap.size w W → Calls Try.prog 44 #[.int .i64 price, .int .i64 stock, .slice a ps.length ca, .slice b cs.length cb] W fun e w' => e = .returned (.bool (mkR price stock ps cs)) ∧ Below W.heap.size W w') := fun W hb => l15Right_any price stock a ca ps hl b cb cs hk hp W (hr.later hb) (ks.later hb)
  obtain ⟨W0, hW0⟩ : ∃ W0, W0 = w.alloc (Obj.cells #[.slice none 0 0, .slice none 0 0, .int .i64 0, .int .i64 0] 28) := ⟨_, rfl⟩
  obtain ⟨R, hR⟩ : ∃ R, R = w.heap.size := ⟨_, rfl⟩
  have HW0 : Hid (W0 = w.alloc (Obj.cells #[.slice none 0 0, .slice none 0 0, .int .i64 0, .int .i64 0] 28) ∧ R = w.heap.size) := ⟨hW0, hR⟩
  have HB0 : Hid (Below w.heap.size w W0) := by show Below _ _ _; rw [hW0]; exact below_alloc _ _
  have HRx : Hid (W0.heap[R]? = some (.cells #[.slice none 0 0, .slice none 0 0, .int .i64 0, .int .i64 0] 28 (0, 0))) := by show _ = _; rw [hW0, hR]; exact heapNew _ _
  have hRw : w.heap.size ≤ R := by rw [hR]; exact Nat.le_refl _
  have hRz : R < W0.heap.size := by rw [hW0, hR]; simp
  have HR : Hid (Reads w.heap.size w a ps) := hr
  have HK : Hid (ReadsDm w.heap.size w b cs) := ks
  have HDp : Hid (∀ r ∈ cs, DmOK r) := hp
  clear hr ks hp hW0 hR
  by_cases hlo : 4096 < ps.length ∨ 4096 < cs.length
  · have HC : Hid (mkF price stock ps cs = 2) := by show _ = _; rw [HFe.out, if_pos hlo]
    rw [decide_eq_true hlo] at HLo
    have z0 := blkCell HRx.out 0 _ rfl
    have z1 := blkCell HRx.out 1 _ rfl
    have z2 := blkCell HRx.out 2 _ rfl
    have z3 := blkCell HRx.out 3 _ rfl
    have y0 := blkFree HRx.out 0
    have y1 := blkFree HRx.out 1
    have y2 := blkFree HRx.out 2
    have y3 := blkFree HRx.out 3
    simp only [List.getElem_toArray, List.getElem_cons_zero, List.getElem_cons_succ] at z0 z1 z2 z3
    clear HFe HRi HR HK hlo
    go_enter Try.func24, Try.ntmps24
    go_upto_region 1 with fail
    rw [← HW0.out.1, ← HW0.out.2]
    clear HW0
    go_wp2_with (go_at_call 43; refine (HLo.out _).mono ?_; rintro e w1 ⟨rfl, rfl⟩)
    refine bodyPost_ret (v := .tuple #[.agg #[.slice none 0 0, .slice none 0 0, .int .i64 0, .int .i64 0], .int .i64 2]) (by simp [results, Try.results24, go_sem, z0, z1, z2, z3]) rfl ?_
    refine HNo.out 2 _ HC.out (by omega) ?_
    repeat refine Below.setCell ?_ (by dsimp only; omega) _
    exact HB0.out
  rw [decide_eq_false hlo] at HLo
  have HFe2 : Hid (mkF price stock ps cs = if mkR price stock ps cs = true then 0 else 1) := by show _ = _; rw [HFe.out, if_neg hlo]
  clear hlo HFe
  cases hri : mkR price stock ps cs
  · have HC : Hid (mkF price stock ps cs = 1) := by show _ = _; rw [HFe2.out, hri]; rfl
    rw [hri] at HRi
    clear HFe2 HR HK hri
    go_enter Try.func24, Try.ntmps24
    go_upto_region 1 with fail
    rw [← HW0.out.1, ← HW0.out.2]
    clear HW0
    go_wp2_with fail
    (first | go_at_call 43 | skip)
    refine (HLo.out _).mono ?_
    rintro e w1 ⟨rfl, rfl⟩
    go_wp2_with fail
    (first | go_at_call 44 | skip)
    refine (HRi.out _ HB0.out).mono ?_
    rintro e w2 ⟨rfl, hb2⟩
    have hrx := (hb2.block R hRz).trans HRx.out
    have z0 := blkCell hrx 0 _ rfl
    have z1 := blkCell hrx 1 _ rfl
    have z2 := blkCell hrx 2 _ rfl
    have z3 := blkCell hrx 3 _ rfl
    have y0 := blkFree hrx 0
    have y1 := blkFree hrx 1
    have y2 := blkFree hrx 2
    have y3 := blkFree hrx 3
    simp only [List.getElem_toArray, List.getElem_cons_zero, List.getElem_cons_succ] at z0 z1 z2 z3
    have HB2 : Hid (Below w.heap.size w w2) := chain HB0.out hb2
    clear hrx hb2
    go_wp2_with fail
    refine bodyPost_ret (v := .tuple #[.agg #[.slice none 0 0, .slice none 0 0, .int .i64 0, .int .i64 0], .int .i64 1]) (by simp [results, Try.results24, go_sem, z0, z1, z2, z3]) rfl ?_
    refine HNo.out 1 _ HC.out (by omega) ?_
    repeat refine Below.setCell ?_ (by dsimp only; omega) _
    exact HB2.out
  have hok := mkOK_of hri
  have HOK : Hid (MkOK price stock ps cs) := hok
  have HMr : Hid (MrOK (prL price ps) cs ps.length) := hok.mr
  have HC : Hid (mkF price stock ps cs = 0) := by show _ = _; rw [HFe2.out, hri]; rfl
  have hp5 := hok.pl.2
  have hc7 := hok.cl.2
  have hst := hok.st
  rw [hri] at HRi
  clear HFe2 hri hok HNo
  go_enter Try.func24, Try.ntmps24
  go_upto_region 1 with fail
  rw [← HW0.out.1, ← HW0.out.2]
  clear HW0
  go_wp2_with fail
  (first | go_at_call 43 | skip)
  refine (HLo.out _).mono ?_
  rintro e w1 ⟨rfl, rfl⟩
  go_wp2_with fail
  (first | go_at_call 44 | skip)
  refine (HRi.out _ HB0.out).mono ?_
  rintro e w2 ⟨rfl, hb2⟩
  have HRx2 : Hid (w2.heap[R]? = some (.cells #[.slice none 0 0, .slice none 0 0, .int .i64 0, .int .i64 0] 28 (0, 0))) := (hb2.block R hRz).trans HRx.out
  have HB2 : Hid (Below w.heap.size w w2) := chain HB0.out hb2
  clear hb2 HRi HLo HRx HB0 hRz
  have hmk : ∀ w, (Instr.makeSlice 23 (.int .i64 7035) (.int .i64 7035)).run Try.prog w = .ok (.slice (some ⟨w.heap.size, 0, none⟩) 7035 7035) (w.alloc (.cells (madeCells #[.int .i64 0] 7035) 3)) := fun w => run_make_row' (P := Try.prog) 23 3 (.int .i64 0) 8 Try.underlying23 intInfo rfl .i64 .i64 7035 (by omega) (by omega) w
  obtain ⟨W3, hW3⟩ : ∃ W3, W3 = w2.alloc (Obj.cells (madeCells #[.int .i64 0] 7035) 3) := ⟨_, rfl⟩
  obtain ⟨tb, htb⟩ : ∃ tb, tb = w2.heap.size := ⟨_, rfl⟩
  obtain ⟨W4, hW4⟩ : ∃ W4, W4 = W3.alloc (Obj.cells #[.int .i64 price, .slice a ps.length ca, .slice b cs.length cb, .slice (some ⟨tb, 0, none⟩) 7035 7035] 68) := ⟨_, rfl⟩
  obtain ⟨sb, hsb⟩ : ∃ sb, sb = W3.heap.size := ⟨_, rfl⟩
  have HW4 : Hid (W4 = (w2.alloc (Obj.cells (madeCells #[.int .i64 0] 7035) 3)).alloc (Obj.cells #[.int .i64 price, .slice a ps.length ca, .slice b cs.length cb, .slice (some ⟨tb, 0, none⟩) 7035 7035] 68) ∧ tb = w2.heap.size ∧ sb = w2.heap.size + 1) := ⟨by rw [hW4, hW3], htb, by rw [hsb, hW3]; simp⟩
  have HI0 : Hid (W4.heap[sb]? = some (.cells #[.int .i64 price, .slice a ps.length ca, .slice b cs.length cb, .slice (some ⟨tb, 0, none⟩) 7035 7035] 68 (0, 0)) ∧ W4.rowIs tb 3 7035 (fun i => .int .i64 (if i < 0 then -1 else 0)) ∧ Below w2.heap.size w2 W4 ∧ (tb < sb ∧ w2.heap.size ≤ tb)) := by
    have hb3 : Below w2.heap.size w2 W3 := by rw [hW3]; exact below_alloc _ _
    have hb4 : Below W3.heap.size W3 W4 := by rw [hW4]; exact below_alloc _ _
    have hz3 : W3.heap.size = w2.heap.size + 1 := by rw [hW3]; simp
    have hrow : W3.rowIs tb 3 7035 (fun _ => .int .i64 0) := by rw [hW3, htb]; exact World.rowIs_made w2 (.int .i64 0) 7035 3
    refine ⟨by rw [hW4, hsb]; exact heapNew _ _, (hrow.of_block (hb4.block tb hrow.lt)).congr (fun i _ => by rw [if_neg (by omega)]), chain hb3 hb4, by omega, by omega⟩
  clear hW3 htb hW4 hsb
  go_upto_region 6 with fail
  rw [← HW4.out.2.2, ← HW4.out.2.1, ← HW4.out.1]
  clear HW4 hmk
  go_wp2_with fail
  go_loopw [11] (fun c wr => ∃ k : Nat, k ≤ 7035 ∧ c = .int .i64 (k : Int) ∧ wr.heap[sb]? = some (.cells #[.int .i64 price, .slice a ps.length ca, .slice b cs.length cb, .slice (some ⟨tb, 0, none⟩) 7035 7035] 68 (0, 0)) ∧ wr.rowIs tb 3 7035 (fun i => .int .i64 (if i < k then -1 else 0)) ∧ Below w2.heap.size w2 wr) (fun c _ => 7035 - (intOf c).toNat)
  case atStart => exact ⟨0, by omega, rfl, HI0.out.1, HI0.out.2.1, HI0.out.2.2.1⟩
  case round =>
    obtain ⟨hts, htw⟩ := HI0.out.2.2.2
    clear HI0
    obtain ⟨k, hk7, rfl, hbx, hrw, hb⟩ := hrel
    have HBx : Hid (wr.heap[sb]? = some (.cells #[.int .i64 price, .slice a ps.length ca, .slice b cs.length cb, .slice (some ⟨tb, 0, none⟩) 7035 7035] 68 (0, 0))) := hbx
    have HRw : Hid (wr.rowIs tb 3 7035 (fun i => .int .i64 (if i < k then -1 else 0))) := hrw
    have HB : Hid (Below w2.heap.size w2 wr) := hb
    clear hbx hrw hb
    have x3 := blkCell HBx.out 3 _ rfl
    simp only [List.getElem_toArray, List.getElem_cons_zero, List.getElem_cons_succ] at x3
    by_cases hlt : k < 7035
    · have hlt' : (k : Int) < 7035 := by omega
      have c0 := HRw.out.cell (i := k) hlt
      have f0 : wr.frozen? ⟨tb, k, none⟩ = false := HRw.out.frozen k
      have hne : sb ≠ tb := by omega
      have HB1 : Hid ((wr.setCell ⟨tb, k, none⟩ (.int .i64 (-1))).heap[sb]? = some (.cells #[.int .i64 price, .slice a ps.length ca, .slice b cs.length cb, .slice (some ⟨tb, 0, none⟩) 7035 7035] 68 (0, 0))) := (Below.heap_setCell _ _ _ _ hne).trans HBx.out
      have HR1 : Hid ((wr.setCell ⟨tb, k, none⟩ (.int .i64 (-1))).rowIs tb 3 7035 (fun i => .int .i64 (if i < k + 1 then -1 else 0))) := (HRw.out.set k _).congr (fun i _ => by
        by_cases e : i = k
        · subst e; rw [if_pos rfl, if_pos (by omega)]
        · rw [if_neg e]
          by_cases e2 : i < k
          · rw [if_pos e2, if_pos (by omega)]
          · rw [if_neg e2, if_neg (by omega)])
      go_wp2_with fail
      go_roundw
      case rel => exact ⟨k + 1, by omega, by go_num, HB1.out, HR1.out, HB.out.setCell htw _⟩
      case measure => simp [intOf]; omega
    · obtain rfl : k = 7035 := by omega
      have hge : ¬ ((7035 : Nat) : Int) < 7035 := by omega
      have HC0 : Hid (SxOK ⟨price, ps, cs, a, ca, b, cb, sb, tb⟩) := ⟨HMr.out, HOK.out.pr, HOK.out.pv⟩
      obtain ⟨W5, hW5⟩ : ∃ W5, W5 = wr.alloc (Obj.cells #[] 3) := ⟨_, rfl⟩
      obtain ⟨G, hG⟩ : ∃ G, G = wr.heap.size := ⟨_, rfl⟩
      have HW5 : Hid (W5 = wr.alloc (Obj.cells #[] 3) ∧ G = wr.heap.size) := ⟨hW5, hG⟩
      have HJ0 : Hid (BgS ⟨price, ps, cs, a, ca, b, cb, sb, tb⟩ w R stock (.slice (some ⟨G, 0, none⟩) 0 0) 0 (fun i => if i < 7035 then -1 else 0) W5 ∧ tb < G) := by
        have hbw : Below w.heap.size w wr := HB2.out.trans (HB.out.mono HB2.out.size)
        have hb5 : Below wr.heap.size wr W5 := by rw [hW5]; exact below_alloc _ _
        have hwt : w.heap.size ≤ tb := Nat.le_trans HB2.out.size htw
        have hsx : SxS ⟨price, ps, cs, a, ca, b, cb, sb, tb⟩ (fun i => if i < 7035 then -1 else 0) wr := ⟨HBx.out, HRw.out, fun d s l h1 h2 h3 => .inl (by
          have h1' : d < cs.length := h1
          have h2' : s < ps.length := h2
          show (if plc d s l < 7035 then (-1 : Int) else 0) < 0
          rw [if_pos (plc_lt (by omega) (by omega) h3)]; omega), (HR.out.below hbw).mono hwt, (HK.out.below hbw).mono hwt, by show tb ≠ sb; omega⟩
        have hresx := (HB.out.block R (blkLt HRx2.out)).trans HRx2.out
        have o1 := One.start wr wr.heap.size rfl
        rw [← hW5] at o1
        have hz1 := HRw.out.lt
        have hz2 := blkLt HBx.out
        have hz3 := blkLt hresx
        refine ⟨⟨hsx.fr hb5, (hb5.block R hz3).trans hresx, ⟨?_, fun q hq => ?_⟩, hbw.trans (hb5.mono hbw.size), hwt, ?_, hRw⟩, by omega⟩
        · obtain ⟨r1, r2⟩ := o1.1
          refine ⟨r1, ?_⟩
          rcases r2 with r2 | ⟨g', cap, cur, e, hB, r⟩
          · exact .inl (by rw [hG]; exact r2)
          · exact .inr ⟨g', cap, cur, by rw [hG]; exact e, by have := hbw.size; omega, r⟩
        · have e : G = q := by simpa [Value.ownBlock] using hq
          show ¬ (q = tb ∨ q = sb ∨ q = R)
          omega
        · have := blkLt HRx2.out
          show tb ≠ R
          omega
      clear hW5 hG HRw HB HBx HB2 HRx2
      go_upto_region 11 with fail
      rw [← HW5.out.1, ← HW5.out.2]
      clear HW5 x3
      go_wp2_with fail
      have HMo : Hid (∀ (d : Nat) T W, d < cs.length → SxS ⟨price, ps, cs, a, ca, b, cb, sb, tb⟩ T W → Calls Try.prog 46 #[.pointer (some ⟨sb, 0, none⟩), .int .i64 (d : Int), .int .i64 ((bs (prL price ps) cs ps.length stock d).1 : Int), .int .i64 (bs (prL price ps) cs ps.length stock d).2] W fun e w' => e = .returned (.int .i64 (pick (fun t => wo (prL price ps) cs ps.length (cs.length - (d + 1)) t (bs (prL price ps) cs ps.length stock d).2) (bs (prL price ps) cs ps.length stock d).1 (ps.length - 1 - (bs (prL price ps) cs ps.length stock d).1)).2) ∧ ∃ T', SxS ⟨price, ps, cs, a, ca, b, cb, sb, tb⟩ T' w' ∧ Fr (fun q => q = tb) W w') := fun d T W hd hS => by
        obtain ⟨b1, b2, b3⟩ := bs_bounds HMr.out hst.1 hst.2 d (by omega)
        obtain ⟨l, hle⟩ : ∃ l : Nat, (bs (prL price ps) cs ps.length stock d).2 = (l : Int) := ⟨((bs (prL price ps) cs ps.length stock d).2).toNat, by omega⟩
        rw [hle] at b2 b3 ⊢
        have := most_all ⟨price, ps, cs, a, ca, b, cb, sb, tb⟩ HC0.out (cs.length - (d + 1) + 1) d (bs (prL price ps) cs ps.length stock d).1 l T W (by show d + (cs.length - (d + 1) + 1) = cs.length; omega) b1 (by omega) hS
        rw [chz_next] at this
        exact this
      have HWo : Hid (∀ (d t : Nat) T W, d < cs.length → t < ps.length → SxS ⟨price, ps, cs, a, ca, b, cb, sb, tb⟩ T W → Calls Try.prog 47 #[.pointer (some ⟨sb, 0, none⟩), .int .i64 (d : Int), .int .i64 (t : Int), .int .i64 (bs (prL price ps) cs ps.length stock d).2] W fun e w' => e = .returned (.int .i64 (wo (prL price ps) cs ps.length (cs.length - (d + 1)) t (bs (prL price ps) cs ps.length stock d).2)) ∧ ∃ T', SxS ⟨price, ps, cs, a, ca, b, cb, sb, tb⟩ T' w' ∧ Fr (fun q => q = tb) W w') := fun d t T W hd ht hS => by
        obtain ⟨b1, b2, b3⟩ := bs_bounds HMr.out hst.1 hst.2 d (by omega)
        obtain ⟨l, hle⟩ : ∃ l : Nat, (bs (prL price ps) cs ps.length stock d).2 = (l : Int) := ⟨((bs (prL price ps) cs ps.length stock d).2).toNat, by omega⟩
        rw [hle] at b2 b3 ⊢
        exact worth_of ⟨price, ps, cs, a, ca, b, cb, sb, tb⟩ HC0.out (cs.length - (d + 1)) (most_all _ HC0.out _) d t l T W (by show d + (cs.length - (d + 1) + 1) = cs.length; omega) ht (by omega) hS
      have HSo : Hid (∀ (d : Nat) T W, d < cs.length → SxS ⟨price, ps, cs, a, ca, b, cb, sb, tb⟩ T W → Calls Try.prog 48 #[.pointer (some ⟨sb, 0, none⟩), .int .i64 (d : Int), .int .i64 ((bs (prL price ps) cs ps.length stock (d + 1)).1 : Int), .int .i64 (bs (prL price ps) cs ps.length stock d).2] W fun e w' => e = .returned (.int .i64 (soA cs d (bs (prL price ps) cs ps.length stock (d + 1)).1 (bs (prL price ps) cs ps.length stock d).2)) ∧ w' = W) := fun d T W hd hS => by
        obtain ⟨c1, _, _⟩ := bs_bounds HMr.out hst.1 hst.2 (d + 1) (by omega)
        exact ssold_any ⟨price, ps, cs, a, ca, b, cb, sb, tb⟩ T d (bs (prL price ps) cs ps.length stock (d + 1)).1 hd hc7 (by show _ < (cs.getD d []).length; rw [HMr.out.cr d hd]; exact c1) (by show (cs.getD d []).length ≤ 5; rw [HMr.out.cr d hd]; exact hp5) _ W hS
      have HNx : Hid (∀ d, d < cs.length → (bs (prL price ps) cs ps.length stock (d + 1)).1 = (pick (fun t => wo (prL price ps) cs ps.length (cs.length - (d + 1)) t (bs (prL price ps) cs ps.length stock d).2) (bs (prL price ps) cs ps.length stock d).1 (ps.length - 1 - (bs (prL price ps) cs ps.length stock d).1)).1) := fun d hd => by
        show (chz _ _ _ (cs.length - d) _ _).1 = _
        rw [show cs.length - d = cs.length - (d + 1) + 1 by omega, chz_next]
      have HLn : Hid (∀ d, (bs (prL price ps) cs ps.length stock (d + 1)).2 = (bs (prL price ps) cs ps.length stock d).2 - soA cs d (bs (prL price ps) cs ps.length stock (d + 1)).1 (bs (prL price ps) cs ps.length stock d).2) := fun d => rfl
      obtain ⟨i0, hi, hzz⟩ := Option.map_eq_some_iff.1 intInfo1
      simp only [Prod.mk.injEq] at hzz
      obtain ⟨hi0, hi1, hi2⟩ := hzz
      go_loopw [12, 13, 14, 15, 16] (fun v sv lv c _ wr => ∃ (d g cp : Nat) (T : Nat → Int), d ≤ cs.length ∧ c = .int .i64 (d : Int) ∧ v = .slice (some ⟨g, 0, none⟩) d cp ∧ sv = .int .i64 ((bs (prL price ps) cs ps.length stock d).1 : Int) ∧ lv = .int .i64 (bs (prL price ps) cs ps.length stock d).2 ∧ tb < g ∧ BgS ⟨price, ps, cs, a, ca, b, cb, sb, tb⟩ w R stock (.slice (some ⟨g, 0, none⟩) d cp) d T wr) (fun _ _ _ c _ _ => cs.length - (intOf c).toNat)
      case atStart => exact ⟨0, G, 0, _, Nat.zero_le _, rfl, rfl, rfl, rfl, HJ0.out.2, HJ0.out.1⟩
      case round =>
        clear HJ0
        obtain ⟨d, g, cp, T, hd', rfl, rfl, rfl, rfl, htg, hst'⟩ := hrel
        obtain ⟨v, hv⟩ : ∃ v, v = wr := ⟨_, rfl⟩
        rw [← hv] at hst' ⊢
        have HI : Hid (BgS ⟨price, ps, cs, a, ca, b, cb, sb, tb⟩ w R stock (.slice (some ⟨g, 0, none⟩) d cp) d T v) := hst'
        clear hst' hv
        by_cases hlt : d < cs.length
        · have hlt' : (d : Int) < (cs.length : Int) := by omega
          obtain ⟨b1, b2, b3⟩ := bs_bounds HMr.out hst.1 hst.2 d (by omega)
          obtain ⟨c1, c2, c3⟩ := bs_bounds HMr.out hst.1 hst.2 (d + 1) (by omega)
          have hmo := HMo.out d T v hlt HI.out.sx
          have HWd : Hid (∀ t T W, t < ps.length → SxS ⟨price, ps, cs, a, ca, b, cb, sb, tb⟩ T W → _) := fun t T W h1 h2 => HWo.out d t T W hlt h1 h2
          have HSd : Hid (∀ T W, SxS ⟨price, ps, cs, a, ca, b, cb, sb, tb⟩ T W → _) := fun T W h => HSo.out d T W hlt h
          have hnx := HNx.out d hlt
          have hln := HLn.out d
          have HPf : Hid (∀ i, (bs (prL price ps) cs ps.length stock d).1 ≤ i → i < (bs (prL price ps) cs ps.length stock (d + 1)).1 → wo (prL price ps) cs ps.length (cs.length - (d + 1)) i (bs (prL price ps) cs ps.length stock d).2 < (pick (fun t => wo (prL price ps) cs ps.length (cs.length - (d + 1)) t (bs (prL price ps) cs ps.length stock d).2) (bs (prL price ps) cs ps.length stock d).1 (ps.length - 1 - (bs (prL price ps) cs ps.length stock d).1)).2) := fun i h1 h2 => pick_first (fun t => wo (prL price ps) cs ps.length (cs.length - (d + 1)) t (bs (prL price ps) cs ps.length stock d).2) _ _ i h1 (by rw [← hnx]; exact h2)
          have HPv : Hid (wo (prL price ps) cs ps.length (cs.length - (d + 1)) (bs (prL price ps) cs ps.length stock (d + 1)).1 (bs (prL price ps) cs ps.length stock d).2 = (pick (fun t => wo (prL price ps) cs ps.length (cs.length - (d + 1)) t (bs (prL price ps) cs ps.length stock d).2) (bs (prL price ps) cs ps.length stock d).1 (ps.length - 1 - (bs (prL price ps) cs ps.length stock d).1)).2) := by show _ = _; rw [pick_val, ← hnx]
          have hle := bs_rise HMr.out hst.1 hst.2 hlt
          clear hnx
          obtain ⟨g', hg'⟩ : ∃ g' : Nat → Int, g' = fun t => wo (prL price ps) cs ps.length (cs.length - (d + 1)) t (bs (prL price ps) cs ps.length stock d).2 := ⟨_, rfl⟩
          have hgt : ∀ t, wo (prL price ps) cs ps.length (cs.length - (d + 1)) t (bs (prL price ps) cs ps.length stock d).2 = g' t := fun t => by rw [hg']
          simp only [hgt] at HPf HPv hmo HWd
          obtain ⟨nx, hnxe⟩ : ∃ nx, nx = (bs (prL price ps) cs ps.length stock (d + 1)).1 := ⟨_, rfl⟩
          obtain ⟨f, hfe⟩ : ∃ f, f = (bs (prL price ps) cs ps.length stock d).1 := ⟨_, rfl⟩
          obtain ⟨l, hle2⟩ : ∃ l, l = (bs (prL price ps) cs ps.length stock d).2 := ⟨_, rfl⟩
          rw [← hnxe] at HPf HPv HSd c1 hle hln
          rw [← hfe] at HPf HPv hmo b1 hle ⊢
          rw [← hle2] at hmo HWd HSd b2 b3 hln ⊢
          obtain ⟨mv, hmv⟩ : ∃ mv, mv = (pick g' f (ps.length - 1 - f)).2 := ⟨_, rfl⟩
          rw [← hmv] at HPf HPv hmo
          have HNe : Hid (nx = (bs (prL price ps) cs ps.length stock (d + 1)).1) := hnxe
          have HLe : Hid ((bs (prL price ps) cs ps.length stock (d + 1)).2 = l - soA cs d nx l) := hln
          obtain ⟨⟨so1, so2⟩, _⟩ := HMr.out.so hlt c1 b2 b3
          clear hgt hg' hnxe hfe hle2 hmv hln c2 c3
          go_wp2_with fail
          (first | go_at_call 46 | skip)
          refine hmo.mono ?_
          rintro e w3 ⟨rfl, T3, hT3, hf3⟩
          have HI3 : Hid (BgS ⟨price, ps, cs, a, ca, b, cb, sb, tb⟩ w R stock (.slice (some ⟨g, 0, none⟩) d cp) d T3 w3) := HI.out.fr hf3 hT3
          clear hmo hT3 hf3 HI
          go_wp2_with fail
          go_loopw [13] (fun sv wq => ∃ (t : Nat) (T4 : Nat → Int), f ≤ t ∧ t ≤ nx ∧ sv = .int .i64 (t : Int) ∧ BgS ⟨price, ps, cs, a, ca, b, cb, sb, tb⟩ w R stock (.slice (some ⟨g, 0, none⟩) d cp) d T4 wq) (fun sv _ => nx - (intOf sv).toNat)
          case atStart => exact ⟨f, T3, Nat.le_refl _, hle, rfl, HI3.out⟩
          case round =>
            clear HI3
            obtain ⟨t, T4, ht1, ht2, rfl, hI4⟩ := hrel
            obtain ⟨u, hu⟩ : ∃ u, u = wr := ⟨_, rfl⟩
            rw [← hu] at hI4 ⊢
            have HI4 : Hid (BgS ⟨price, ps, cs, a, ca, b, cb, sb, tb⟩ w R stock (.slice (some ⟨g, 0, none⟩) d cp) d T4 u) := hI4
            clear hI4 hu
            have hwo := HWd.out t T4 u (by omega) HI4.out.sx
            by_cases htn : t < nx
            · have hneq := HPf.out t ht1 htn
              have hne1 : ¬ g' t = mv := by omega
              have hne2 : (g' t != mv) = true := by simpa using hne1
              have hwt : IntKind.i64.wrap ((t : Int) + 1) = ((t + 1 : Nat) : Int) := by rw [wrap_id _ (by omega) (by omega)]; omega
              generalize g' t = gt at *
              go_wp2_with fail
              (first | go_at_call 47 | skip)
              refine hwo.mono ?_
              rintro e w5 ⟨rfl, T5, hT5, hf5⟩
              have HI5 : Hid (BgS ⟨price, ps, cs, a, ca, b, cb, sb, tb⟩ w R stock (.slice (some ⟨g, 0, none⟩) d cp) d T5 w5) := HI4.out.fr hf5 hT5
              clear hT5 hf5 hwo
              go_wp2_with fail
              go_roundw
              case rel => exact ⟨t + 1, T5, by omega, by omega, by go_num, HI5.out⟩
              case measure => simp [intOf]; omega
            · obtain rfl : t = nx := by omega
              have heq1 : g' t = mv := HPv.out
              have hne2 : (g' t != mv) = false := by simpa using heq1
              generalize g' t = gt at *
              go_wp2_with fail
              (first | go_at_call 47 | skip)
              refine hwo.mono ?_
              rintro e w5 ⟨rfl, T5, hT5, hf5⟩
              have HI5 : Hid (BgS ⟨price, ps, cs, a, ca, b, cb, sb, tb⟩ w R stock (.slice (some ⟨g, 0, none⟩) d cp) d T5 w5) := HI4.out.fr hf5 hT5
              clear hT5 hf5 hwo HI4
              have hlen := bsL_len (prL price ps) cs ps.length stock d
              have HI6 : Hid (BgS ⟨price, ps, cs, a, ca, b, cb, sb, tb⟩ w R stock (.slice (some ⟨g, 0, none⟩) d cp) d T5 (w5.alloc (Obj.cells #[.int .i64 (t : Int)] 3))) := HI5.out.later (below_alloc _ _)
              have HOw : Hid ((w5.alloc (Obj.cells #[.int .i64 (t : Int)] 3)).ownsRow w.heap.size 3 1 (.slice (some ⟨g, 0, none⟩) d cp) d ((bsL (prL price ps) cs ps.length stock d).map (Value.int .i64))) := by have := HI6.out.row.1; change World.ownsRow _ _ _ _ _ (bsL (prL price ps) cs ps.length stock d).length _ at this; rwa [hlen] at this
              have HNw : Hid (∀ j u, [Value.int .i64 (t : Int)][j]? = some u → (w5.alloc (Obj.cells #[.int .i64 (t : Int)] 3)).cell? ((⟨w5.heap.size, 0, none⟩ : Addr).add j) = some u) := newsOne w5 (.int .i64 (t : Int)) 3
              have HFz : Hid (∀ g1 cp1 w7, w7.ownsRow w.heap.size 3 1 (.slice (some ⟨g1, 0, none⟩) (d + 1) cp1) (d + 1) ((bsL (prL price ps) cs ps.length stock d).map (Value.int .i64) ++ [.int .i64 (t : Int)]) → (w5.alloc (Obj.cells #[.int .i64 (t : Int)] 3)).grownBy w7 (some g) → (some g = some g1 ∨ g1 = (w5.alloc (Obj.cells #[.int .i64 (t : Int)] 3)).heap.size) → BgS ⟨price, ps, cs, a, ca, b, cb, sb, tb⟩ w R stock (.slice (some ⟨g1, 0, none⟩) (d + 1) cp1) (d + 1) T5 w7 ∧ tb < g1) := fun g1 cp1 w7 q1 q2 q3 => by
                rw [HNe.out] at q1 q2 q3
                have h6 := HI6.out
                rw [HNe.out] at h6
                exact h6.push (fun q hq => by have e : g = q := by simpa [Value.ownBlock] using hq
                                              show tb < q
                                              omega) q1 q2 q3
              clear hlen HI5
              have hws : IntKind.i64.wrap (l - soA cs d t l) = l - soA cs d t l := wrap_id _ (by omega) (by omega)
              go_upto_region 20 with (at_builtin; refine wpList_append_lies _ rfl _ _ 23 rfl w.heap.size 3 i0 (.int .i64 0) 1 8 Try.underlying23 hi hi0 hi1 hi2 rfl (by decide) _ _ _ rfl HOw.out ⟨w5.heap.size, 0, none⟩ 1 1 [.int .i64 (t : Int)] rfl rfl HNw.out (by intro u hu; simp at hu; rcases hu with rfl; rfl) (by omega) (by unfold maxLen; omega) (by omega) HI6.out.bel.size _ rfl ?_; intro g1 cp1 w7 hown1 hgrow1 hat1 hglt1; obtain ⟨e1, e2⟩ := HFz.out g1 cp1 w7 hown1 hgrow1 hat1; have HI7 : Hid (BgS ⟨price, ps, cs, a, ca, b, cb, sb, tb⟩ w R stock (.slice (some ⟨g1, 0, none⟩) (d + 1) cp1) (d + 1) T5 w7 ∧ tb < g1) := ⟨e1, e2⟩; clear hown1 hgrow1 hat1 e1 e2)
              clear HFz HOw HNw HI6
              have hso := HSd.out T5 w7 HI7.out.1.sx
              generalize soA cs d t l = so at *
              go_wp2_with fail
              (first | go_at_call 48 | skip)
              refine hso.mono ?_
              rintro e w8 ⟨rfl, h8⟩
              rw [h8]
              go_wp2_with fail
              go_roundw
              case rel => exact ⟨d + 1, g1, cp1, T5, by omega, by go_num, rfl, by rw [← HNe.out], by rw [HLe.out], HI7.out.2, HI7.out.1⟩
              case measure => simp [intOf]; omega
        · obtain rfl : d = cs.length := by omega
          have HSp : Hid (Calls Try.prog 14 #[.int .i64 price, .int .i64 stock, .slice a ps.length ca, .slice b cs.length cb, .slice (some ⟨g, 0, none⟩) cs.length cp] v (AnsWb price stock ps cs v)) := by
            have hz := HI.out.bel.size
            have hlen : (bmT price stock ps cs).length = cs.length := bmT_len _ _ _ _
            have hrd : Reads v.heap.size v (some ⟨g, 0, none⟩) (bmT price stock ps cs) := (HI.out.row.own2 (bsL_len (prL price ps) cs ps.length stock cs.length).symm).reads
            have := specMarks_any price stock a ca ps hl b cb cs hk HDp.out g 0 cp (bmT price stock ps cs) (by rw [hlen]; exact hk) v ((HR.out.below HI.out.bel).mono hz) ((HK.out.below HI.out.bel).mono hz) hrd
            rw [hlen] at this
            exact this.mono fun e w' k => ansWb_of HC.out k
          clear HMo HWo HSo HNx HLn
          unfold AnsWb AnsW at HSp
          have HYe : Hid (∀ q cq s ds w', RowI w.heap.size w'.heap.size w' q (bmL price stock ps cs) → RowI w.heap.size w'.heap.size w' s (bmS price stock ps cs) → Below w.heap.size w w' → AnsWb price stock ps cs w (.returned (.tuple #[.agg #[.slice q (bmL price stock ps cs).length cq, .slice s (bmS price stock ps cs).length ds, .int .i64 (bmV price stock ps cs), .int .i64 (bmE price stock ps cs)], .int .i64 (mkF price stock ps cs)])) w') := fun q cq s ds w' h1 h2 h3 => ⟨q, cq, s, ds, rfl, h1, h2, h3⟩
          generalize bmL price stock ps cs = L at *
          generalize bmS price stock ps cs = SL at *
          generalize bmV price stock ps cs = rv at *
          generalize bmE price stock ps cs = lf at *
          generalize mkF price stock ps cs = fc at *
          go_wp2_with fail
          (first | go_at_call 14 | skip)
          refine HSp.out.mono ?_
          rintro e w6 ⟨q, cq, s, ds, rfl, r1, r2, hb6⟩
          have HR1 : Hid (RowI v.heap.size w6.heap.size w6 q L) := r1
          have HR2 : Hid (RowI v.heap.size w6.heap.size w6 s SL) := r2
          have HB6 : Hid (Below w.heap.size w w6) := HI.out.bel.trans (hb6.mono HI.out.bel.size)
          have hrx := (hb6.block R (blkLt HI.out.res)).trans HI.out.res
          have hRv := blkLt HI.out.res
          have hzv := HI.out.bel.size
          have hz6 := hb6.size
          have z0 := blkCell hrx 0 _ rfl
          have z1 := blkCell hrx 1 _ rfl
          have z2 := blkCell hrx 2 _ rfl
          have z3 := blkCell hrx 3 _ rfl
          have y0 := blkFree hrx 0
          have y1 := blkFree hrx 1
          have y2 := blkFree hrx 2
          have y3 := blkFree hrx 3
          simp only [List.getElem_toArray, List.getElem_cons_zero, List.getElem_cons_succ] at z0 z1 z2 z3
          clear hrx r1 r2 hb6 HSp
          go_wp2_with fail
          refine bodyPost_ret (v := .tuple #[.agg #[.slice q L.length cq, .slice s SL.length ds, .int .i64 rv, .int .i64 lf], .int .i64 fc]) (by simp [results, Try.results24, go_sem, z0, z1, z2, z3]) rfl ?_
          refine HYe.out _ _ _ _ _ ?_ ?_ ?_
          · refine RowI.wide (lo := v.heap.size) (hi := w6.heap.size) ?_ hzv (by simp) (Nat.le_refl _)
            repeat (first | exact HR1.out | refine RowI.set ?_ (by omega) _ _)
          · refine RowI.wide (lo := v.heap.size) (hi := w6.heap.size) ?_ hzv (by simp) (Nat.le_refl _)
            repeat (first | exact HR2.out | refine RowI.set ?_ (by omega) _ _)
          · repeat refine Below.setCell ?_ (by dsimp only; omega) _
            exact HB6.out
end Go.Proofs.Ytlcnhkhkhlpghaa

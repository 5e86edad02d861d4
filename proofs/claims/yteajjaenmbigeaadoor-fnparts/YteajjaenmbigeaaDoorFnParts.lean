/-
  For every list of bytes the law FnParts answers true: parts of a drawn amount lie as the modes say, an exchange from a rate to itself changes nothing, and the amount's text is read back; the library's tables hold what its text lays (the card ties them to the program's text).
-/
import Derived.Test.YteajjaenmbigeaaDoorCards
import Derived.Test.YteajjaenmbigeaaDoorTie
import Derived.Test.YteajjaenmbigeaaDoorPartsFacts
import Derived.Deep.AppendLies
import Derived.OwnWalk
import Derived.LoopTactic
import Derived.Deep.DeepHandedRow
namespace Go.Proofs.YteajjaenmbigeaaDoor
open Go.ChangeShapes Go.WideShapes Go.ChangeAt Go.RowKit Go.Joins
set_option linter.unusedVariables false

theorem cellsPow : Tryd.prog.cellsOf 79 = 20 := by kernel_rfl
theorem cellsU64 : Tryd.prog.cellsOf 71 = 1 := by kernel_rfl
theorem gPowType : (Tryd.prog.globals[(Tryd.prog.globalNamed "internal/strconv.uint64pow10").get!]?).map (·.type) = some 79 := by kernel_rfl
theorem powData : Rows.laid_internal_strconv_uint64pow10 = Lib.tabData (H := Unit) .u64 Lib.pow10Tab := by kernel_rfl

theorem tab_third {n1 n2 : String} {d1 d2 : DataW Unit} {rest : List (String × DataW Unit)} {W : World}
    (h : laidMet Tryd.prog ((n1, d1) :: (n2, d2) :: ("internal/strconv.uint64pow10", Lib.tabData .u64 Lib.pow10Tab) :: rest) W) : Tab W := by
  obtain ⟨ps, ⟨g1, t1, cs1, f1, p1, q1, _, _, _, _, h2, _⟩, _⟩ := h
  obtain ⟨g2, t2, cs2, f2, p2, q2, _, _, _, _, h3, _⟩ := h2
  obtain ⟨g', t', cs, fuel, p, q, hg', ht', hvar, hd, _, _⟩ := h3
  obtain rfl := Option.some.inj (gPow.symm.trans hg')
  obtain rfl := Option.some.inj (gPowType.symm.trans ht')
  unfold Tab Lib.TabIs
  rw [hvar, ← Lib.cells_of_tab Tryd.underlying79 Tryd.underlying71 cellsU64 cellsPow hd]


namespace FnParts
theorem own_below {w w' : World} {B : Nat} {e : TypeId} {s : Nat} {v : Value} {n : Nat} {xs : List Value} (h : w.ownsRow B e s v n xs) (hb : Below w.heap.size w w') : w'.ownsRow B e s v n xs := by
  obtain ⟨h1, h2⟩ := h
  refine ⟨h1, ?_⟩
  rcases h2 with h2 | ⟨g, cap, cur, hv, hB, hg, r⟩
  · exact .inl h2
  · exact .inr ⟨g, cap, cur, hv, hB, (hb.block g (Array.getElem?_eq_some_iff.1 hg).1).trans hg, r⟩
theorem own_low {w : World} {B : Nat} {e : TypeId} {s : Nat} {v : Value} {n : Nat} {xs : List Value} (h : w.ownsRow B e s v n xs) {b : Nat} (hb : b < B) : some b ≠ v.ownBlock := fun e1 => by
  have := (h.lt b e1.symm).1; omega
theorem intInfo : (Tryd.prog.info? 3).map (fun i => (i.zero, i.size, i.bytes)) = some (some (.int .i64 0), 1, 8) := by kernel_rfl

theorem news_one (w : World) (v : Value) (t : TypeId) : ∀ j u, [v][j]? = some u → (w.alloc (Obj.cells #[v] t)).cell? ((⟨w.heap.size, 0, none⟩ : Addr).add j) = some u := by
  intro j u hj
  match j, hj with
  | 0, hj => simp at hj; subst hj; simp [Addr.add]
/-- What has been gathered behind k rounds. -/
def Got (w : World) (B b : Nat) (N D : Int) (ps : List Int) (k : Nat) (v : Value) (wr : World) : Prop :=
  wr.ownsRow B 3 1 v k ((ps.take k).map (Value.int .i64)) ∧ wr.cell? ⟨b, 0, none⟩ = some (.int .i64 N) ∧ wr.cell? ⟨b, 1, none⟩ = some (.int .i64 D) ∧ b < B ∧ B ≤ wr.heap.size ∧ Below w.heap.size w wr
theorem Got.below {w : World} {B b : Nat} {N D : Int} {ps : List Int} {k : Nat} {v : Value} {wr w' : World} (h : Got w B b N D ps k v wr) (hb : Below wr.heap.size wr w') : Got w B b N D ps k v w' := by
  obtain ⟨h1, h2, h3, h4, h5, h6⟩ := h
  exact ⟨own_below h1 hb, (hb.cell (p := ⟨b, 0, none⟩) (by show b < _; omega)).trans h2, (hb.cell (p := ⟨b, 1, none⟩) (by show b < _; omega)).trans h3, h4, Nat.le_trans h5 hb.size, h6.trans (hb.mono h6.size)⟩
theorem Got.more {w : World} {B b : Nat} {N D : Int} {ps : List Int} {k : Nat} {v v' : Value} {wr w' : World} (h : Got w B b N D ps k v wr) (hk : k < ps.length) (hw : w.heap.size ≤ B)
    (ho : w'.ownsRow B 3 1 v' (k + 1) ((ps.take k).map (Value.int .i64) ++ [.int .i64 (ps.getD k 0)])) (hg : wr.grownBy w' v.ownBlock) : Got w B b N D ps (k + 1) v' w' := by
  obtain ⟨h1, h2, h3, h4, h5, h6⟩ := h
  refine ⟨?_, hg.cell h2 (own_low h1 h4), hg.cell h3 (own_low h1 h4), h4, ?_, h6.grown hg h6.size (fun q hq => by have := (h1.lt q hq).1; omega)⟩
  · rw [List.take_succ_eq_append_getElem hk, List.map_append]
    have e : ps.getD k 0 = ps[k] := by simp [List.getD_eq_getElem?_getD, hk]
    rw [← e]; exact ho
  · exact Nat.le_trans h5 hg.size

set_option maxRecDepth 20000 in
set_option maxHeartbeats 8000000 in
theorem walk (a0 : Option Addr) (len0 cap0 : Nat) (z0 : List Int) (w : World) (r0 : RowB w.heap.size w a0 len0 z0) (hL : laidMetH Tryd.prog Rows.fnPartsRow.laid w) :
    Calls Tryd.prog 3 #[.slice a0 len0 cap0] w fun e w' => e = .returned (.bool true) ∧ Below w.heap.size w w' := by
  have hL' : laidMet Tryd.prog [("math/bits.deBruijn32tab", Rows.laid_math_bits_deBruijn32tab), ("math/bits.deBruijn64tab", Rows.laid_math_bits_deBruijn64tab), ("internal/strconv.uint64pow10", Rows.laid_internal_strconv_uint64pow10)] w := hL
  rw [powData] at hL'
  have hT : Hid (Tab w) := tab_third hL'
  clear hL hL'
  have hl0 := r0.1
  unfold maxLen at hl0
  by_cases h : (1048576 : Int) < (len0 : Int)
  · go_enter Tryd.func3, Tryd.ntmps3
    go_wp2
    go_ret
    exact ⟨rfl, Below.refl _ _⟩
  · have hamt := amountOf_any a0 len0 cap0 z0 w r0
    clear r0
    obtain ⟨i0, hi, hz0, hz1, hz2⟩ := info_parts intInfo
    go_enter Tryd.func3, Tryd.ntmps3
    go_wp2_with fail
    go_at_call 4
    refine hamt.mono ?_
    rintro e w1 ⟨n, N, D, rfl, hn1, hn2, hN1, hN2, hD1, hD2, hb1⟩
    clear hamt
    obtain ⟨hPO, hc1, hc2, hc3, hc4, hP1, hP2⟩ := parts_any n N D hn1 hn2 hN1 (by omega) hD1 hD2
    have HI : Hid (∀ (k : Nat), k < 4 → ∀ w, Calls Tryd.prog 5 #[.int .i64 n, .agg #[.int .i64 N, .int .i64 D], .int .i64 ((k : Int) + 1)] w fun e w' => e = .returned (.tuple #[.int .i64 ([pv1 n N D 1, pv1 n N D 2, pv1 n N D 3, pv1 n N D 4].getD k 0), .int .i64 0]) ∧ Below w.heap.size w w') := fun k hk w => by
      have := implPart_any n N D ((k : Int) + 1) w
      match k, hk with
      | 0, _ => rw [show (((0 : Nat) : Int) + 1) = 1 from rfl, hc1] at this; exact this
      | 1, _ => rw [show (((1 : Nat) : Int) + 1) = 2 from rfl, hc2] at this; exact this
      | 2, _ => rw [show (((2 : Nat) : Int) + 1) = 3 from rfl, hc3] at this; exact this
      | 3, _ => rw [show (((3 : Nat) : Int) + 1) = 4 from rfl, hc4] at this; exact this
    have HS : Hid (∀ (k : Nat), k < 4 → ∀ w, Calls Tryd.prog 6 #[.int .i64 n, .agg #[.int .i64 N, .int .i64 D], .int .i64 ((k : Int) + 1)] w fun e w' => e = .returned (.tuple #[.int .i64 ([pv1 n N D 1, pv1 n N D 2, pv1 n N D 3, pv1 n N D 4].getD k 0), .int .i64 0]) ∧ Below w.heap.size w w') := fun k hk w => by
      have := specPart_any n N D ((k : Int) + 1) w
      match k, hk with
      | 0, _ => rw [show (((0 : Nat) : Int) + 1) = 1 from rfl, hc1] at this; exact this
      | 1, _ => rw [show (((1 : Nat) : Int) + 1) = 2 from rfl, hc2] at this; exact this
      | 2, _ => rw [show (((2 : Nat) : Int) + 1) = 3 from rfl, hc3] at this; exact this
      | 3, _ => rw [show (((3 : Nat) : Int) + 1) = 4 from rfl, hc4] at this; exact this
    clear hc1 hc2 hc3 hc4
    have HPO : Hid (PartsOf (n * N) D (pv1 n N D 1) (pv1 n N D 2) (pv1 n N D 3) (pv1 n N D 4)) := hPO
    clear hPO
    generalize pv1 n N D 1 = lo at *
    generalize pv1 n N D 2 = hi' at *
    generalize pv1 n N D 3 = g3 at *
    generalize pv1 n N D 4 = g4 at *
    have hbs : w.heap.size ≤ w1.heap.size := hb1.size
    go_wp2_with fail
    go_loopw [5, 6, 7, 8, 9, 10] (fun v m _ _ _ _ wr => ∃ k : Nat, k ≤ 4 ∧ m = .int .i64 ((k : Int) + 1) ∧ Got w (w1.heap.size + 1) w1.heap.size N D [lo, hi', g3, g4] k v wr) (fun _ m _ _ _ _ _ => 5 - (intOf m).toNat)
    case atStart =>
      refine ⟨0, by omega, rfl, ⟨⟨rfl, .inr ⟨w1.heap.size + 1, 0, #[], rfl, Nat.le_refl _, heap_alloc2_new w1 _ _, Nat.le_refl _, by unfold maxLen; omega, rfl, rfl⟩⟩, ?_, ?_, by omega, by simp, ?_⟩⟩
      · exact cell_of_row _ _ 0 _ _ _ (heap_alloc2_old w1 _ _)
      · exact cell_of_row _ _ 1 _ _ _ (heap_alloc2_old w1 _ _)
      · exact hb1.trans ((chain (below_alloc w1 _) (below_alloc _ _)).mono hbs)
    case round =>
      obtain ⟨k, hk, rfl, hGot⟩ := hrel
      have HG : Hid (Got w (w1.heap.size + 1) w1.heap.size N D [lo, hi', g3, g4] k u5 wr) := hGot
      have c0 := hGot.2.1
      have c1 := hGot.2.2.1
      clear hGot
      by_cases hlt : k < 4
      · have hle : (k : Int) + 1 ≤ 4 := by omega
        obtain ⟨p, hp⟩ : ∃ p, [lo, hi', g3, g4].getD k 0 = p := ⟨_, rfl⟩
        have hIk := HI.out k hlt
        have hSk := HS.out k hlt
        have HPk : Hid ([lo, hi', g3, g4].getD k 0 = p) := hp
        rw [hp] at hIk hSk
        clear hp
        go_wp2_with fail
        go_at_call 5
        refine (hIk _).mono ?_
        rintro e wA ⟨rfl, hbA⟩
        have HGA : Hid (Got w (w1.heap.size + 1) w1.heap.size N D [lo, hi', g3, g4] k u5 wA) := HG.out.below hbA
        have c0A := HGA.out.2.1
        have c1A := HGA.out.2.2.1
        clear hbA c0 c1 hIk
        go_wp2_with fail
        go_at_call 6
        refine (hSk _).mono ?_
        rintro e wB ⟨rfl, hbB⟩
        have HGB : Hid (Got w (w1.heap.size + 1) w1.heap.size N D [lo, hi', g3, g4] k u5 wB) := HGA.out.below hbB
        clear hbB c0A c1A hSk
        go_wp2_with (at_builtin; refine wpList_append_lies _ rfl _ _ 27 rfl (w1.heap.size + 1) 3 i0 (.int .i64 0) 1 8 Tryd.underlying27 hi hz0 hz1 hz2 rfl (by decide) _ _ _ rfl (HGB.out.1.alloc _) ⟨wB.heap.size, 0, none⟩ 1 1 [.int .i64 p] rfl rfl (news_one wB _ _) (by intro u hu; simp at hu; subst hu; rfl) (by omega) (by unfold maxLen; omega) (by omega) (by have := HGB.out.2.2.2.2.1; simp; omega) _ rfl ?_; intro g cap w' hown hgrow hat hglt)
        go_roundw
        case rel => exact ⟨k + 1, by omega, by go_num, Got.more (HGB.out.below (below_alloc _ _)) (by simp; omega) (by omega) (by rw [HPk.out]; exact hown) hgrow⟩
        case measure => simp [intOf]; omega
      · obtain rfl : k = 4 := by omega
        obtain ⟨g, cap, hv5, hBg, hglt⟩ := HG.out.1.form (by omega)
        subst hv5
        have q0 : wr.cell? ⟨g, 0, none⟩ = some (.int .i64 lo) := by simpa [Addr.add] using HG.out.1.cells rfl 0 _ rfl
        have q1 : wr.cell? ⟨g, 1, none⟩ = some (.int .i64 hi') := by simpa [Addr.add] using HG.out.1.cells rfl 1 _ rfl
        have q2 : wr.cell? ⟨g, 2, none⟩ = some (.int .i64 g3) := by simpa [Addr.add] using HG.out.1.cells rfl 2 _ rfl
        have q3 : wr.cell? ⟨g, 3, none⟩ = some (.int .i64 g4) := by simpa [Addr.add] using HG.out.1.cells rfl 3 _ rfl
        have BEL : Hid (Below w.heap.size w wr) := HG.out.2.2.2.2.2
        obtain ⟨x1, x2, x3, x4, x5, x6, x7, x8, x9, x10, x11, x12⟩ := HPO.out
        have hlh : hi' * D = lo * D ∨ hi' * D = lo * D + D := by
          rcases (by omega : hi' = lo ∨ hi' = lo + 1) with e | e
          · left; rw [e]
          · right; rw [e, Int.add_mul, Int.one_mul]
        have h3 : g3 * D = lo * D ∨ g3 * D = hi' * D := by rcases x5 with e | e <;> rw [e] <;> simp
        have h4 : g4 * D = lo * D ∨ g4 * D = hi' * D := by rcases x6 with e | e <;> rw [e] <;> simp
        have HX5 : Hid (g3 = lo ∨ g3 = hi') := x5
        have HX6 : Hid (g4 = lo ∨ g4 = hi') := x6
        clear HG HI HS x5 x6 HPO
        generalize hlD : lo * D = lD at *
        generalize hhD : hi' * D = hD at *
        generalize he3 : g3 * D = e3 at *
        generalize he4 : g4 * D = e4 at *
        generalize hnN : n * N = P at *
        have b1 : -61000000 ≤ lD ∧ lD ≤ 61000000 := by omega
        have b2 : -61000000 ≤ hD ∧ hD ≤ 61000000 := by omega
        have b3 : -61000000 ≤ e3 ∧ e3 ≤ 61000000 := by omega
        have b4 : -61000000 ≤ e4 ∧ e4 ≤ 61000000 := by omega
        obtain ⟨b11, b12⟩ := b1
        obtain ⟨b21, b22⟩ := b2
        obtain ⟨b31, b32⟩ := b3
        obtain ⟨b41, b42⟩ := b4
        have HH3 : Hid (e3 = lD ∨ e3 = hD) := h3
        have HH4 : Hid (e4 = lD ∨ e4 = hD) := h4
        have hge : hi' - lo ≤ 1 := x1
        clear hlh h3 h4 hi hz0 hz1 hz2
        go_wp2_with fail
        go_loopw [13, 14] (fun i _ wq => ∃ k m : Nat, 2 ≤ k ∧ k ≤ 4 ∧ i = .int .i64 (k : Int) ∧ wq = wr.drewN m) (fun i _ _ => 4 - (intOf i).toNat)
        case atStart => exact ⟨2, 0, by omega, by omega, rfl, rfl⟩
        case round =>
          obtain ⟨k, m, hk2, hk4, rfl, rfl⟩ := hrel
          rcases (by omega : k = 2 ∨ k = 3 ∨ k = 4) with hk' | hk' | hk'
          · obtain rfl : k = 2 := by omega
            have w1' : IntKind.i64.wrap e3 = e3 := wrap_id _ (by omega) (by omega)
            have w2' : IntKind.i64.wrap (e3 - P) = e3 - P := wrap_id _ (by omega) (by omega)
            have w3' : IntKind.i64.wrap (2 * (e3 - P)) = 2 * (e3 - P) := wrap_id _ (by omega) (by omega)
            have w4' : IntKind.i64.wrap P = P := wrap_id _ (by omega) (by omega)
            have w5' : IntKind.i64.wrap (-(2 * (e3 - P))) = -(2 * (e3 - P)) := wrap_id _ (by omega) (by omega)
            by_cases hgl : g3 = lo
            · have t1 : (g3 != lo) = false := by rw [hgl]; simp
              have HGL : Hid (g3 = lo) := hgl
              clear hgl
              go_wp2_with fail
              go_quiet (fail)
              go_wp2
              go_roundw
              case rel => exact ⟨3, _, by omega, by omega, by go_num, rfl⟩
              case measure => simp [intOf]
            · have t1 : (g3 != lo) = true := by rw [bne_iff_ne]; exact hgl
              have t2 : (g3 != hi') = false := by
                rcases HX5.out with e | e
                · exact absurd e hgl
                · rw [e]; simp
              clear hgl
              go_wp2_with fail
              go_quiet (fail)
              go_wp2
              go_roundw
              case rel => exact ⟨3, _, by omega, by omega, by go_num, rfl⟩
              case measure => simp [intOf]
          · obtain rfl : k = 3 := by omega
            have w1' : IntKind.i64.wrap e4 = e4 := wrap_id _ (by omega) (by omega)
            have w2' : IntKind.i64.wrap (e4 - P) = e4 - P := wrap_id _ (by omega) (by omega)
            have w3' : IntKind.i64.wrap (2 * (e4 - P)) = 2 * (e4 - P) := wrap_id _ (by omega) (by omega)
            have w4' : IntKind.i64.wrap P = P := wrap_id _ (by omega) (by omega)
            have w5' : IntKind.i64.wrap (-(2 * (e4 - P))) = -(2 * (e4 - P)) := wrap_id _ (by omega) (by omega)
            by_cases hgl : g4 = lo
            · have t1 : (g4 != lo) = false := by rw [hgl]; simp
              have HGL : Hid (g4 = lo) := hgl
              clear hgl
              go_wp2_with fail
              go_quiet (fail)
              go_wp2
              go_roundw
              case rel => exact ⟨4, _, by omega, by omega, by go_num, rfl⟩
              case measure => simp [intOf]
            · have t1 : (g4 != lo) = true := by rw [bne_iff_ne]; exact hgl
              have t2 : (g4 != hi') = false := by
                rcases HX6.out with e | e
                · exact absurd e hgl
                · rw [e]; simp
              clear hgl
              go_wp2_with fail
              go_quiet (fail)
              go_wp2
              go_roundw
              case rel => exact ⟨4, _, by omega, by omega, by go_num, rfl⟩
              case measure => simp [intOf]
          · obtain rfl : k = 4 := by omega
            have BD : Hid (Below w.heap.size w (wr.drewN m)) := below_drewN BEL.out m
            by_cases hN : N ≤ 0
            · go_wp2_with fail
              have BZ := BD.out
              go_at_call 8
              refine (implMT_any n _ (hT.out.below BZ)).mono ?_
              rintro e wM ⟨rfl, hbM⟩
              have BM : Hid (Below w.heap.size w wM) := BZ.trans (hbM.mono BZ.size)
              clear hbM
              obtain ⟨y1, y2, y3, y4⟩ := back_any n hn1 hn2
              have hRd := fun w => implRead_any (mt1 n) (by unfold maxLen; omega) w
              rw [y2, y3] at hRd
              rw [y1]
              clear y1 y2 y3 y4
              generalize mt1 n = txt at *
              go_wp2_with fail
              go_at_call 9
              refine (hRd _).mono ?_
              rintro e wR ⟨rfl, hbR⟩
              go_wp2
              go_ret
              exact ⟨rfl, BM.out.trans (hbR.mono BM.out.size)⟩
            · have hN0 : (0 : Int) < N := by omega
              obtain ⟨z1, z2⟩ := same_rate n N D hn1 hn2 (by omega) (by omega) hD1 hD2
              have hX := fun w => implX_any n N D N D 3 w
              rw [z1, z2] at hX
              clear z1 z2
              go_wp2_with fail
              go_at_call 7
              refine (hX _).mono ?_
              rintro e wX ⟨rfl, hbX⟩
              have BZ : Below w.heap.size w wX := BD.out.trans (hbX.mono BD.out.size)
              clear hbX hX
              go_wp2_with fail
              go_at_call 8
              refine (implMT_any n _ (hT.out.below BZ)).mono ?_
              rintro e wM ⟨rfl, hbM⟩
              have BM : Hid (Below w.heap.size w wM) := BZ.trans (hbM.mono BZ.size)
              clear hbM
              obtain ⟨y1, y2, y3, y4⟩ := back_any n hn1 hn2
              have hRd := fun w => implRead_any (mt1 n) (by unfold maxLen; omega) w
              rw [y2, y3] at hRd
              rw [y1]
              clear y1 y2 y3 y4
              generalize mt1 n = txt at *
              go_wp2_with fail
              go_at_call 9
              refine (hRd _).mono ?_
              rintro e wR ⟨rfl, hbR⟩
              go_wp2
              go_ret
              exact ⟨rfl, BM.out.trans (hbR.mono BM.out.size)⟩

theorem own : ownKnob Tryd.prog.godebug = none := by kernel_rfl
theorem laidOut : laidOutB Tryd.prog = true := by kernel_rfl

set_option maxRecDepth 100000 in
theorem contract (H : Type) (enc : TypeId × Value → H) (W : World) (base : Nat) (args : Array Value) (ds gs : List (DataW H)) (before : List MemPlace)
    (hval : ∀ (j : Nat) t v, Tryd.f3.params[j]? = some t → args[j]? = some v → Value.okWide Tryd.prog W .any base t v)
    (hW : DataW.Whole enc Tryd.prog Tryd.f3.params.toList Rows.fnPartsSpec.vars false W args.toList ds gs before) (hL : laidMetH Tryd.prog Rows.fnPartsRow.laid W) :
    Calls Tryd.prog 3 args W fun e W' => ∃ v, e = .returned v ∧ Rows.fnPartsSpec.post enc Tryd.prog Tryd.f3 false true false false W args v W' := by
  have hW' := hW
  obtain ⟨p, q, hA0, hV, rfl, hfz, hnd⟩ := hW
  have hA : DataW.TrodAll enc Tryd.prog W 0 (fun _ => true) true Tryd.f3.params.toList args.toList ds p := hA0
  rw [Tryd.params3] at hA hval
  obtain ⟨v0, vs0, d0, ds0, p0, q0, hargs, rfl, rfl, h0, r0⟩ := trodAll_cons hA
  obtain ⟨rfl, rfl, rfl⟩ := trodAll_nil r0
  obtain rfl : args = #[v0] := by cases args; simp_all
  obtain ⟨rfl, rfl⟩ := trodVars_none hV
  have k0 := h0
  have lt0 : ∀ x ∈ p0, x.block < W.heap.size := by obtain ⟨m, hm⟩ := k0; exact DataW.trod_lt m _ _ _ hm
  obtain ⟨a0, len0, cap0, rfl⟩ := okWide_slice Tryd.underlying22 (hval 0 22 v0 rfl rfl)
  obtain ⟨z0, w0⟩ : ∃ zs, IsRow .u8 W a0 len0 cap0 zs := by
    obtain ⟨fuel, hf⟩ := h0
    rcases open_ints Tryd.underlying22 Tryd.underlying5 (by kernel_rfl) hf with ⟨hcs, _⟩ | ⟨x, l, c, zs, hcs, _, hl, hm, hz, _, hcell, hwz⟩
    · simp [Value.cells] at hcs
      obtain ⟨rfl, rfl, rfl⟩ := hcs
      exact ⟨[], .inl ⟨rfl, rfl, rfl, rfl⟩⟩
    · simp [Value.cells] at hcs
      obtain ⟨rfl, rfl, rfl⟩ := hcs
      exact ⟨zs, .inr ⟨_, rfl, hl, hm, by simpa using hz, hcell, hwz⟩⟩
  clear hA0
  refine (walk a0 len0 cap0 z0 W (rowB_of _ _ _ _ _ w0) hL).mono fun e W' ⟨he, bel⟩ => ?_
  subst he
  exact ⟨_, rfl, _, _, _, [], _, [], hW', trodAll_mk1 (shut_bool Tryd.underlying4 _), (trodAll_cons_mk (Below.trod laidOut (by kernel_rfl) (of_decide_eq_true (by kernel_rfl)) k0 bel lt0) trodAll_mk0), rfl, bel.frame _, fun h => by cases h⟩


def valsOf (d : DataW Unit) : Array Value := match d with
  | .agg l => (l.map fun | .lit (.int k n) => Value.int k n | _ => .int .i64 0).toArray
  | _ => #[]
theorem laid_met (os : Os) : laidMet Tryd.prog Rows.fnPartsRow.laid (({ (World.holding Tryd.prog os ⟨#[], #[], []⟩) with heap := ((((World.holding Tryd.prog os ⟨#[], #[], []⟩).heap.modify 2 fun | .cells _ t frozen => .cells (valsOf Rows.laid_math_bits_deBruijn32tab) t frozen | o => o).modify 3 fun | .cells _ t frozen => .cells (valsOf Rows.laid_math_bits_deBruijn64tab) t frozen | o => o).modify 1 fun | .cells _ t frozen => .cells (valsOf Rows.laid_internal_strconv_uint64pow10) t frozen | o => o) }).forCall (fun _ _ => 0) ⟨#[], #[.slice none 0 0], []⟩).memory :=
  laidMet_of_run' 8 (by kernel_rfl) (by kernel_rfl)
theorem reads (os : Os) {H : Type} (enc : TypeId × Value → H) : ∃ places, DataW.whole enc Tryd.prog (({ (World.holding Tryd.prog os ⟨#[], #[], []⟩) with heap := ((((World.holding Tryd.prog os ⟨#[], #[], []⟩).heap.modify 2 fun | .cells _ t frozen => .cells (valsOf Rows.laid_math_bits_deBruijn32tab) t frozen | o => o).modify 3 fun | .cells _ t frozen => .cells (valsOf Rows.laid_math_bits_deBruijn64tab) t frozen | o => o).modify 1 fun | .cells _ t frozen => .cells (valsOf Rows.laid_internal_strconv_uint64pow10) t frozen | o => o) }).forCall (fun _ _ => 0) ⟨#[], #[.slice none 0 0], []⟩).memory Tryd.f3.params.toList Rows.fnPartsSpec.vars false #[.slice none 0 0].toList 8 = some ([.nil], [], places) :=
  ⟨[], by kernel_rfl⟩

set_option maxRecDepth 100000 in
theorem lifted (os : Os) (started : os.Started) (H : Type) (enc : TypeId × Value → H) (F : Stop.Interp) :
    ReturnsInHanded {} Tryd.checked os 3 .any ((OpenSpec.ofChange Rows.fnPartsSpec).preRow enc Tryd.prog Tryd.f3 Rows.fnPartsRow.domain false Rows.fnPartsRow.laid) (((OpenSpec.ofChange Rows.fnPartsSpec).at F).post enc Tryd.prog Tryd.f3 false true false false) := by
  obtain ⟨places, hx⟩ := reads os enc
  refine returnsInHanded_of_row (C := Tryd.checked) (s := OpenSpec.ofChange Rows.fnPartsSpec) own started (by kernel_rfl) Tryd.func3
    (witness_row_at (enc := enc) (C := Tryd.checked) false ({ (World.holding Tryd.prog os ⟨#[], #[], []⟩) with heap := ((((World.holding Tryd.prog os ⟨#[], #[], []⟩).heap.modify 2 fun | .cells _ t frozen => .cells (valsOf Rows.laid_math_bits_deBruijn32tab) t frozen | o => o).modify 3 fun | .cells _ t frozen => .cells (valsOf Rows.laid_math_bits_deBruijn64tab) t frozen | o => o).modify 1 fun | .cells _ t frozen => .cells (valsOf Rows.laid_internal_strconv_uint64pow10) t frozen | o => o) }) #[.slice none 0 0] rfl (by kernel_rfl) (by kernel_rfl) (by kernel_rfl)
      (OpenSpec.preRow_of_cond 8 hx (by kernel_rfl) (fun k hk => by cases hk) (by kernel_rfl) (laid_met os))) ?_
  intro W base args ds gs before hval hW _ _ _ hL _ _
  exact contract H enc W base args ds gs before hval hW hL

theorem said : Rows.FnPartsSaid :=
  OpenClaim.holds_of_cond 3 Tryd.f3 rfl rfl rfl rfl rfl rfl rfl ⟨rfl, rfl, rfl, rfl, rfl⟩ rfl rfl rfl rfl rfl (by kernel_rfl) Tryd.func3 (by kernel_rfl)
    (of_decide_eq_true (by kernel_rfl)) (by unfold Func.isWrapper; first | (rw [if_pos (by decide +kernel)]; kernel_rfl) | (rw [if_neg (by decide +kernel)]; exact ⟨rfl, rfl⟩))
    (fun os started H enc _ F => by rw [OpenClaim.pre_eq_preRow]; exact lifted os started H enc F)

theorem plain (f : FuncId) (fn : Func) (hf : Tryd.pinned.checked.prog.funcNamed "loop.example/g00067/laws.FnParts" = some f) (hfn : Tryd.pinned.checked.prog.funcs[f]? = some fn) :
    false = Tryd.pinned.checked.prog.looks [] ∧ ∀ (j : Nat) t, fn.params[j]? = some t → Tryd.pinned.checked.prog.wantsStandIn t = false := by
  obtain rfl : f = 3 := Option.some.inj ((show Tryd.prog.funcNamed "loop.example/g00067/laws.FnParts" = some 3 by kernel_rfl).symm.trans hf) |>.symm
  obtain rfl : fn = Tryd.f3 := (Option.some.inj (Tryd.func3.symm.trans hfn)).symm
  refine ⟨by kernel_rfl, fun j t ht => ?_⟩
  rw [Tryd.params3] at ht
  have ht' : t = 22 := by simpa using Array.mem_of_getElem? ht
  obtain rfl := ht'
  all_goals first | exact (show Tryd.prog.wantsStandIn 22 = false by kernel_rfl)

theorem card : Rows.FnPartsCardSaid :=
  Claim7.holds_tied_plain_at .later [] _ _ _ _ said (fun _ h => by cases h) (by kernel_rfl) (fun _ h => by cases h) fnParts_row_tie rfl ⟨rfl, rfl⟩ (by kernel_rfl) rfl plain (by kernel_rfl)
end FnParts

theorem fnParts_holds : Rows.FnPartsCardSaid := FnParts.card
end Go.Proofs.YteajjaenmbigeaaDoor

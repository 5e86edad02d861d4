/-
  Contract of the specification's Witness.
-/
import Derived.Test.YthkmgccmeoigpaaRwG
import Derived.Test.YthkmgccmeoigpaaRuD
import Derived.Test.YthkmgccmeoigpaaRcB
namespace Go.Proofs.Ythkmgccmeoigpaa
open Go.ChangeShapes Go.WideShapes Go.ChangeAt Go.RowKit Go.Deep
set_option linter.unusedVariables false

theorem OneT.startAt {w w1 : World} (h : Below w.heap.size w w1) : OneT w w.heap.size (.slice (some ⟨w1.heap.size, 0, none⟩) 0 0) [] (w1.alloc (Obj.cells #[] 37)) :=
  ⟨ownEmptyTm w1 _ h.size, by have := h.size; simp; omega, h.alloc h.size _⟩
theorem One.startW {w w1 : World} (h : Below w.heap.size w w1) : One w w.heap.size (.slice (some ⟨w1.heap.size, 0, none⟩) 0 0) [] (w1.alloc (Obj.cells #[] 3)) :=
  ⟨⟨rfl, .inr ⟨w1.heap.size, 0, #[], rfl, h.size, heapNew w1 _, Nat.le_refl _, by unfold maxLen; omega, rfl, rfl⟩⟩, by have := h.size; simp; omega, h.alloc h.size _⟩
theorem set5_alloc {W : World} {b : Nat} {x0 x1 x2 x3 x4 : Int} {o : Obj} {u0 u1 u2 u3 u4 : Value} (p0 : W.cell? ⟨b, 0, none⟩ = some u0) (p1 : W.cell? ⟨b, 1, none⟩ = some u1) (p2 : W.cell? ⟨b, 2, none⟩ = some u2) (p3 : W.cell? ⟨b, 3, none⟩ = some u3) (p4 : W.cell? ⟨b, 4, none⟩ = some u4) (hlt : b < W.heap.size) :
    (((((W.setCell ⟨b, 0, none⟩ (.int .i64 x0)).setCell ⟨b, 1, none⟩ (.int .i64 x1)).setCell ⟨b, 2, none⟩ (.int .i64 x2)).setCell ⟨b, 3, none⟩ (.int .i64 x3)).setCell ⟨b, 4, none⟩ (.int .i64 x4) |>.alloc o).cell? ⟨b, 0, none⟩ = some (.int .i64 x0) ∧
    (((((W.setCell ⟨b, 0, none⟩ (.int .i64 x0)).setCell ⟨b, 1, none⟩ (.int .i64 x1)).setCell ⟨b, 2, none⟩ (.int .i64 x2)).setCell ⟨b, 3, none⟩ (.int .i64 x3)).setCell ⟨b, 4, none⟩ (.int .i64 x4) |>.alloc o).cell? ⟨b, 1, none⟩ = some (.int .i64 x1) ∧
    (((((W.setCell ⟨b, 0, none⟩ (.int .i64 x0)).setCell ⟨b, 1, none⟩ (.int .i64 x1)).setCell ⟨b, 2, none⟩ (.int .i64 x2)).setCell ⟨b, 3, none⟩ (.int .i64 x3)).setCell ⟨b, 4, none⟩ (.int .i64 x4) |>.alloc o).cell? ⟨b, 2, none⟩ = some (.int .i64 x2) ∧
    (((((W.setCell ⟨b, 0, none⟩ (.int .i64 x0)).setCell ⟨b, 1, none⟩ (.int .i64 x1)).setCell ⟨b, 2, none⟩ (.int .i64 x2)).setCell ⟨b, 3, none⟩ (.int .i64 x3)).setCell ⟨b, 4, none⟩ (.int .i64 x4) |>.alloc o).cell? ⟨b, 3, none⟩ = some (.int .i64 x3) ∧
    (((((W.setCell ⟨b, 0, none⟩ (.int .i64 x0)).setCell ⟨b, 1, none⟩ (.int .i64 x1)).setCell ⟨b, 2, none⟩ (.int .i64 x2)).setCell ⟨b, 3, none⟩ (.int .i64 x3)).setCell ⟨b, 4, none⟩ (.int .i64 x4) |>.alloc o).cell? ⟨b, 4, none⟩ = some (.int .i64 x4) := by
  have hs : b < (((((W.setCell ⟨b, 0, none⟩ (.int .i64 x0)).setCell ⟨b, 1, none⟩ (.int .i64 x1)).setCell ⟨b, 2, none⟩ (.int .i64 x2)).setCell ⟨b, 3, none⟩ (.int .i64 x3)).setCell ⟨b, 4, none⟩ (.int .i64 x4)).heap.size := by simpa using hlt
  refine ⟨?_, ?_, ?_, ?_, ?_⟩ <;> (rw [cellOld _ _ hs]; simp [go_sem, p0, p1, p2, p3, p4])
/-- Where the specification's search stands, d numbers having been tried. -/
def KpInv (X0 : World) (ts : List RTm) (d : Nat) (v : Value) (wr : World) : Prop := ∃ (g : Option Addr) (cp : Nat), v = .slice g (leftN ts d).length cp ∧ Own2 X0.heap.size wr g (zs (leftN ts d)) ∧ (leftN ts d).length ≤ cp ∧ Below X0.heap.size X0 wr
theorem least5b (ts : List RTm) : ∃ y1 y2 y3 y4 y5 : Int, leastV ts = #[.int .i64 y1, .int .i64 y2, .int .i64 y3, .int .i64 y4, .int .i64 y5] := by
  unfold leastV
  split
  · exact ⟨_, _, _, _, _, rfl⟩
  · exact ⟨_, _, _, _, _, rfl⟩
set_option maxHeartbeats 16000000 in
set_option maxRecDepth 8000 in
theorem specWitness_any (c : CCl) (h : Option Addr) (cp : Nat) (ok : ClOK c) (w : World) (hr : ReadsTm w.heap.size w h c.ts) :
    Calls Try.prog 18 #[.agg #[.string c.nm, .slice h c.ts.length cp, .int .i64 c.ac, .int .i64 c.nu]] w fun e w' => ∃ g cp', e = .returned (.tuple #[.agg (wtV c), .int .i64 (wtC c), .slice g (wtL c).length cp']) ∧ Own2 w.heap.size w' g (wtL c) ∧ Below w.heap.size w w' := by
  have HO : Hid (∀ W, Below w.heap.size w W → Calls Try.prog 47 #[.agg #[.string c.nm, .slice h c.ts.length cp, .int .i64 c.ac, .int .i64 c.nu]] W fun e w' => e = .returned (.bool (clOne c)) ∧ Below W.heap.size W w') := fun W hb => specClause_any c h cp ok W (hr.later hb)
  have HLe : Hid (∀ W, Below w.heap.size w W → Calls Try.prog 44 #[.slice h c.ts.length cp] W fun e w' => e = .returned (.tuple #[.agg (leastV c.ts), .bool (canT c.ts)]) ∧ Below W.heap.size W w') := fun W hb => least_any h cp c.ts (by have := ok.2; omega) W (hr.later hb)
  have HR : Hid (ReadsTm w.heap.size w h c.ts) := hr
  have H8 : Hid (clOne c = true → c.ts.length ≤ 8) := fun q => (clOne_len q).1
  have HNo : Hid (canT c.ts = false → leastV c.ts = #[.int .i64 0, .int .i64 0, .int .i64 0, .int .i64 0, .int .i64 0]) := leastV_no
  obtain ⟨y1, y2, y3, y4, y5, hy⟩ := least5b c.ts
  have hw := wt_ways c
  rw [hy] at hw HLe HNo
  clear hy hr ok
  obtain ⟨i0, hi, hzz⟩ := Option.map_eq_some_iff.1 intInfo1
  simp only [Prod.mk.injEq] at hzz
  obtain ⟨hi0, hi1, hi2⟩ := hzz
  obtain ⟨j0, hj, hzy⟩ := Option.map_eq_some_iff.1 tmInfoR
  simp only [Prod.mk.injEq] at hzy
  obtain ⟨hj0, hj1, hj2⟩ := hzy
  generalize wtV c = wv at *
  generalize wtC c = wc at *
  generalize wtL c = wl at *
  generalize clOne c = oc at *
  obtain ⟨nm, ts, ac, nu⟩ := c
  dsimp only at *
  generalize hcb : canT ts = cb at *
  clear hcb
  rcases hw with ⟨rfl, rfl, rfl, rfl⟩ | ⟨rfl, rfl, rfl, rfl, rfl⟩ | ⟨rfl, rfl, rfl, rfl, rfl⟩
  · generalize ts.length = n at *
    go_enter Try.func18, Try.ntmps18
    go_wp2_with fail
    (first | go_at_call 47 | skip)
    refine (HO.out _ (chain (below_alloc _ _) (below_alloc _ _))).mono ?_
    rintro e v1 ⟨rfl, hv1⟩
    obtain ⟨⟨s0, s1, s2, s3⟩, ⟨p0, p1, p2, p3, p4⟩, ⟨f0, f1, f2, f3, f4⟩, hlt⟩ := wtAt hv1
    have HV1 : Hid _ := hv1
    have m1 : w.heap.size < v1.heap.size := by omega
    have m2 : w.heap.size + 1 < v1.heap.size + 1 := by omega
    go_wp2
    have hq := set5_alloc (b := w.heap.size + 1) (x0 := 0) (x1 := 0) (x2 := 0) (x3 := 0) (x4 := 0) (o := Obj.cells #[] 3) p0 p1 p2 p3 p4 hlt
    have hb5 : Below w.heap.size w ((((((v1.setCell ⟨w.heap.size + 1, 0, none⟩ (.int .i64 0)).setCell ⟨w.heap.size + 1, 1, none⟩ (.int .i64 0)).setCell ⟨w.heap.size + 1, 2, none⟩ (.int .i64 0)).setCell ⟨w.heap.size + 1, 3, none⟩ (.int .i64 0)).setCell ⟨w.heap.size + 1, 4, none⟩ (.int .i64 0)).alloc (Obj.cells #[] 3)) := by
      refine chain ?_ (below_alloc _ _)
      repeat refine Below.setCell ?_ (by dsimp only; omega) _
      exact chain (chain (below_alloc _ _) (below_alloc _ _)) HV1.out
    generalize ((((((v1.setCell ⟨w.heap.size + 1, 0, none⟩ (.int .i64 0)).setCell ⟨w.heap.size + 1, 1, none⟩ (.int .i64 0)).setCell ⟨w.heap.size + 1, 2, none⟩ (.int .i64 0)).setCell ⟨w.heap.size + 1, 3, none⟩ (.int .i64 0)).setCell ⟨w.heap.size + 1, 4, none⟩ (.int .i64 0)).alloc (Obj.cells #[] 3)) = Wx at *
    obtain ⟨q0, q1, q2, q3, q4⟩ := hq
    refine bodyPost_ret (v := .tuple #[.agg #[.int .i64 0, .int .i64 0, .int .i64 0, .int .i64 0, .int .i64 0], .int .i64 1, .slice (some ⟨v1.heap.size, 0, none⟩) 0 0]) (by simp [results, Try.results18, go_sem, q0, q1, q2, q3, q4]) rfl ⟨_, _, rfl, .inl rfl, hb5⟩
  · have hn8 : ts.length ≤ 8 := H8.out rfl
    obtain ⟨rfl, rfl, rfl, rfl, rfl⟩ : y1 = 0 ∧ y2 = 0 ∧ y3 = 0 ∧ y4 = 0 ∧ y5 = 0 := by simpa using HNo.out rfl
    go_enter Try.func18, Try.ntmps18
    go_wp2_with fail
    (first | go_at_call 47 | skip)
    refine (HO.out _ (chain (below_alloc _ _) (below_alloc _ _))).mono ?_
    rintro e v1 ⟨rfl, hv1⟩
    obtain ⟨⟨s0, s1, s2, s3⟩, ⟨p0, p1, p2, p3, p4⟩, ⟨f0, f1, f2, f3, f4⟩, hlt⟩ := wtAt hv1
    have HV1 : Hid _ := hv1
    go_wp2_with fail
    (first | go_at_call 44 | skip)
    refine (HLe.out _ (chain (chain (below_alloc _ _) (below_alloc _ _)) HV1.out)).mono ?_
    rintro e v2 ⟨rfl, hv2⟩
    have HV2 : Hid (Below ((w.alloc (Obj.cells #[.string nm, .slice h ts.length cp, .int .i64 ac, .int .i64 nu] 25)).alloc (Obj.cells #[.int .i64 0, .int .i64 0, .int .i64 0, .int .i64 0, .int .i64 0] 28)).heap.size ((w.alloc (Obj.cells #[.string nm, .slice h ts.length cp, .int .i64 ac, .int .i64 nu] 25)).alloc (Obj.cells #[.int .i64 0, .int .i64 0, .int .i64 0, .int .i64 0, .int .i64 0] 28)) (v2.alloc (Obj.cells #[.int .i64 0, .int .i64 0, .int .i64 0, .int .i64 0, .int .i64 0] 28))) := chain (chain HV1.out hv2) (below_alloc _ _)
    have HWt : Hid (∀ W, Below ((w.alloc (Obj.cells #[.string nm, .slice h ts.length cp, .int .i64 ac, .int .i64 nu] 25)).alloc (Obj.cells #[.int .i64 0, .int .i64 0, .int .i64 0, .int .i64 0, .int .i64 0] 28)).heap.size ((w.alloc (Obj.cells #[.string nm, .slice h ts.length cp, .int .i64 ac, .int .i64 nu] 25)).alloc (Obj.cells #[.int .i64 0, .int .i64 0, .int .i64 0, .int .i64 0, .int .i64 0] 28)) W → WtAt w nm h ts.length cp ac nu W ∧ Below w.heap.size w W) := fun W hb => ⟨wtAt hb, chain (chain (below_alloc _ _) (below_alloc _ _)) hb⟩
    have hX0 : w.heap.size + 1 < ((w.alloc (Obj.cells #[.string nm, .slice h ts.length cp, .int .i64 ac, .int .i64 nu] 25)).alloc (Obj.cells #[.int .i64 0, .int .i64 0, .int .i64 0, .int .i64 0, .int .i64 0] 28)).heap.size := by simp
    clear s0 s1 s2 s3 p0 p1 p2 p3 p4 f0 f1 f2 f3 f4 hlt hv1 hv2 HV1 HO HLe HNo H8
    have hsz1 : (v2.alloc (Obj.cells #[.int .i64 0, .int .i64 0, .int .i64 0, .int .i64 0, .int .i64 0] 28)).heap.size = v2.heap.size + 1 := by simp
    have HS1 : Hid _ := hsz1
    clear hsz1
    go_wp2
    generalize (v2.alloc (Obj.cells #[.int .i64 0, .int .i64 0, .int .i64 0, .int .i64 0, .int .i64 0] 28)) = W1 at *
    generalize ((w.alloc (Obj.cells #[.string nm, .slice h ts.length cp, .int .i64 ac, .int .i64 nu] 25)).alloc (Obj.cells #[.int .i64 0, .int .i64 0, .int .i64 0, .int .i64 0, .int .i64 0] 28)) = X0 at *
    go_loopw [7, 8] (fun v c wr => ∃ k : Nat, k ≤ ts.length ∧ c = .int .i64 (k : Int) ∧ One X0 X0.heap.size v (numsZ k) wr) (fun _ c _ => ts.length - (intOf c).toNat)
    case atStart => exact ⟨0, Nat.zero_le _, rfl, HS1.out ▸ One.startW HV2.out⟩
    case round =>
      clear HV2
      obtain ⟨k, hk, rfl, hO⟩ := hrel
      obtain ⟨gv, cv, rfl⟩ := rowVal hO.1
      have HOk : Hid (One X0 X0.heap.size (.slice gv (numsZ k).length cv) (numsZ k) wr) := hO
      clear hO
      obtain ⟨⟨⟨s0, s1, s2, s3⟩, _⟩, _⟩ := HWt.out wr HOk.out.2.2
      by_cases hlt : k < ts.length
      · have hlt' : (k : Int) < (ts.length : Int) := by omega
        have HN : Hid (numsZ k ++ [(k : Int)] = numsZ (k + 1)) := numsZ_next k
        have HL : Hid ((numsZ k).length = k) := numsZ_length k
        generalize numsZ k = L at *
        go_wp2_with (at_builtin; refine wpList_append_lies _ rfl _ _ 29 rfl X0.heap.size 3 i0 (.int .i64 0) 1 8 Try.underlying29 hi hi0 hi1 hi2 rfl (by decide) _ _ _ rfl (HOk.out.alloc _).1 ⟨wr.heap.size, 0, none⟩ 1 1 [.int .i64 (k : Int)] rfl rfl (newsOne wr _ _) (by intro u hu; simp at hu; subst hu; rfl) (by omega) (by unfold maxLen; have := HL.out; omega) (by have := HL.out; omega) (HOk.out.alloc _).2.1 _ rfl ?_; intro g1 cp1 w5 hown1 hgrow1 hat1 hglt1; have HT5 : Hid _ := (HOk.out.alloc _).push hown1 hgrow1; clear hown1 hgrow1 hat1 hglt1)
        exact ⟨⟨k + 1, by omega, by go_num, by rw [← HN.out]; exact HT5.out⟩, by simp [intOf]; omega⟩
      · have hle : (ts.length : Int) ≤ (k : Int) := by omega
        obtain rfl : k = ts.length := by omega
        have HKp : Hid (KpInv X0 ts 0 (.slice gv (leftN ts 0).length cv) wr) := ⟨gv, cv, rfl, by
          rw [leftN_zero, zs_nums]
          exact HOk.out.own2 rfl, by
          have := HOk.out.1.2
          rw [leftN_zero, List.length_range]
          rcases this with ⟨_, h0⟩ | ⟨g', cap, cur, e, _, _, hle, _⟩
          · rw [numsZ_length] at h0; omega
          · simp at e; rw [numsZ_length] at hle; omega, HOk.out.2.2⟩
        have he : (numsZ ts.length).length = (leftN ts 0).length := by rw [leftN_zero, numsZ_length, List.length_range]
        have he2 : (leftN ts 0).length = ts.length := by rw [leftN_zero, List.length_range]
        rw [he]
        clear he HOk hle hlt
        have HE2 : Hid ((leftN ts 0).length = ts.length) := he2
        go_wp2
        go_loopw [7, 9, 10, 11, 12, 13] (fun kv c _ _ _ _ wr => ∃ d : Nat, d ≤ ts.length ∧ c = .int .i64 ((ts.length : Int) - 1 - (d : Int)) ∧ KpInv X0 ts d kv wr) (fun _ c _ _ _ _ _ => (intOf c + 1).toNat)
        case atStart => exact ⟨0, Nat.zero_le _, congrArg (Value.int .i64) (by have := HE2.out; omega), HKp.out⟩
        case round =>
          clear HKp HE2 he2 hk
          obtain ⟨d, hd, rfl, gk, ck, rfl, hok, hck, hbk⟩ := hrel
          have HO : Hid (Own2 X0.heap.size wr gk (zs (leftN ts d))) := hok
          have HB : Hid (Below X0.heap.size X0 wr) := hbk
          clear hok hbk s0 s1 s2 s3
          by_cases hlt : d < ts.length
          · obtain ⟨i, hidef⟩ : ∃ i : Nat, i = ts.length - 1 - d := ⟨_, rfl⟩
            have ei : (ts.length : Int) - 1 - (d : Int) = (i : Int) := by omega
            rw [ei]
            have HI : Hid (i = ts.length - 1 - d) := hidef
            have hi8 : i ≤ 8 := by omega
            have hlen := leftN_len ts d hd
            rcases HO.out with h0 | ⟨b, rfl, hbB, hblt, hbi, hbf⟩
            · have := zs_length (leftN ts d); rw [h0] at this; simp at this; omega
            have HBi : Hid (b < wr.heap.size ∧ IntsAt wr b 0 (zs (leftN ts d))) := ⟨hblt, hbi⟩
            have hil : i < (leftN ts d).length := by omega
            have hl8 : (leftN ts d).length ≤ 8 := by omega
            clear hbi hbf hbB hblt ei hidef
            obtain ⟨wB, rfl⟩ : ∃ wB, wB = wr := ⟨_, rfl⟩
            go_wp2
            go_loopw [10, 11] (fun v c wi => ∃ k : Nat, k ≤ (leftN ts d).length ∧ c = .int .i64 (k : Int) ∧ OneT wB wB.heap.size v (pickT ts (lsU ts d k)) wi) (fun _ c _ => (leftN ts d).length - (intOf c).toNat)
            case atStart => exact ⟨0, Nat.zero_le _, rfl, by rw [lsU_zero]; exact OneT.startAt (Below.refl _ _)⟩
            case round =>
              obtain ⟨k, hk, rfl, hT⟩ := hrel
              obtain ⟨gv2, cv2, rfl⟩ := hT.form
              have HT : Hid (OneT wB wB.heap.size (.slice gv2 (pickT ts (lsU ts d k)).length cv2) (pickT ts (lsU ts d k)) wr) := hT
              clear hT
              by_cases hkl : k < (leftN ts d).length
              · have hkl' : (k : Int) < ((leftN ts d).length : Int) := by omega
                by_cases hki : k = i
                · subst hki
                  have H1 : Hid (lsU ts d (k + 1) = lsU ts d k) := by have := lsU_skip hlt; rw [← HI.out] at this; exact this
                  go_wp2
                  exact ⟨⟨k + 1, by omega, by go_num, by rw [H1.out]; exact HT.out⟩, by simp [intOf]; omega⟩
                · have hki' : ((k : Int) == (i : Int)) = false := by simp; omega
                  have hmem : (leftN ts d).getD k 0 ∈ leftN ts d := by
                    rw [show (leftN ts d).getD k 0 = (leftN ts d)[k] by simp [List.getD_eq_getElem?_getD, hkl]]; exact List.getElem_mem _
                  have hx := leftN_in ts d hd _ hmem
                  have hx' : (((leftN ts d).getD k 0 : Nat) : Int) < (ts.length : Int) := by omega
                  rcases HR.out with h0 | ⟨bt, ot, hht, hBt, it⟩
                  · rw [h0] at hlt; simp at hlt
                  subst hht
                  have HSm : Hid (∀ W, Below wB.heap.size wB W → W.cell? ⟨w.heap.size, 1, none⟩ = some (.slice (some ⟨bt, ot, none⟩) ts.length cp) ∧ W.cell? ⟨b, k, none⟩ = some (.int .i64 (((leftN ts d).getD k 0 : Nat) : Int)) ∧ TmAt W bt (ot + ((leftN ts d).getD k 0) * 3) (ts.getD ((leftN ts d).getD k 0) zTm)) := fun W hW => by
                    have hXW : Below X0.heap.size X0 W := HB.out.trans (hW.mono HB.out.size)
                    have hww := HWt.out W hXW
                    refine ⟨hww.1.1.2.1, ?_, (it.below hww.2 hBt) _ hx⟩
                    have := HBi.out.2.below hW HBi.out.1 k (by rw [zs_length]; exact hkl)
                    rw [Nat.zero_add, zs_at] at this
                    exact this
                  have hN0 : pickT ts (lsU ts d k) ++ [ts.getD ((leftN ts d).getD k 0) zTm] = pickT ts (lsU ts d (k + 1)) := by
                    rw [← lsU_next hlt hkl (by rw [← HI.out]; exact hki)]
                    simp [pickT]
                  have hL0 : (pickT ts (lsU ts d k)).length ≤ k := by rw [pickT_len]; exact lsU_len ts d k
                  have HN : Hid _ := hN0
                  have HL : Hid _ := hL0
                  clear hN0 hL0 it hmem
                  generalize pickT ts (lsU ts d k) = L at *
                  generalize ts.getD ((leftN ts d).getD k 0) zTm = r at *
                  generalize (leftN ts d).getD k 0 = x at *
                  obtain ⟨f, o, nn⟩ := r
                  go_wp2_with fail
                  have HTd : Hid (OneT wB wB.heap.size (.slice gv2 L.length cv2) L wr.drew) := HT.out.later (below_drew _)
                  refine wp_region_held_drew (S := fun W => Below wB.heap.size wB W) (by kernel_rfl) HTd.out.2.2 (fun hH => ?_)
                  refine wpAnyH_take (i := 0) (v := .slice gv2 L.length cv2) rfl (by kernel_rfl) (by kernel_rfl) (by kernel_rfl) (fun _ _ _ h => h) (Or.inl ⟨by rfl, fun w hSw => by go_simp⟩) hH ?_
                  refine wpAnyH_take (i := 1) (v := .pointer (some ⟨w.heap.size, 1, none⟩)) rfl (by kernel_rfl) (by kernel_rfl) (by kernel_rfl) (fun _ _ _ h => h) (Or.inl ⟨by rfl, fun w hSw => by go_simp⟩) hH ?_
                  try simp only [Act.put, List.setIfInBounds_toArray, List.set_cons_zero, List.set_cons_succ, List.getElem_toArray, List.getElem_cons_succ, List.getElem_cons_zero]
                  refine wpAnyH_take (i := 2) (v := .slice (some ⟨bt, ot, none⟩) ts.length cp) rfl (by kernel_rfl) (by kernel_rfl) (by kernel_rfl) (fun _ _ _ h => h) (Or.inl ⟨by rfl, fun w hSw => by obtain ⟨s0, s1, s2, s3, s4⟩ := HSm.out w hSw; go_simp⟩) hH ?_
                  try simp only [Act.put, List.setIfInBounds_toArray, List.set_cons_zero, List.set_cons_succ, List.getElem_toArray, List.getElem_cons_succ, List.getElem_cons_zero]
                  refine wpAnyH_take (i := 3) (v := .slice (some ⟨b, 0, none⟩) (leftN ts d).length ck) rfl (by kernel_rfl) (by kernel_rfl) (by kernel_rfl) (fun _ _ _ h => h) (Or.inl ⟨by rfl, fun w hSw => by go_simp⟩) hH ?_
                  try simp only [Act.put, List.setIfInBounds_toArray, List.set_cons_zero, List.set_cons_succ, List.getElem_toArray, List.getElem_cons_succ, List.getElem_cons_zero]
                  refine wpAnyH_take (i := 4) (v := .int .i64 (k : Int)) rfl (by kernel_rfl) (by kernel_rfl) (by kernel_rfl) (fun _ _ _ h => h) (Or.inl ⟨by rfl, fun w hSw => by go_simp⟩) hH ?_
                  try simp only [Act.put, List.setIfInBounds_toArray, List.set_cons_zero, List.set_cons_succ, List.getElem_toArray, List.getElem_cons_succ, List.getElem_cons_zero]
                  refine wpAnyH_take (i := 5) (v := .pointer (some ⟨b, k, none⟩)) rfl (by kernel_rfl) (by kernel_rfl) (by kernel_rfl) (fun _ _ _ h => h) (Or.inl ⟨by rfl, fun w hSw => by go_simp⟩) hH ?_
                  try simp only [Act.put, List.setIfInBounds_toArray, List.set_cons_zero, List.set_cons_succ, List.getElem_toArray, List.getElem_cons_succ, List.getElem_cons_zero]
                  refine wpAnyH_take (i := 6) (v := .int .i64 (x : Int)) rfl (by kernel_rfl) (by kernel_rfl) (by kernel_rfl) (fun _ _ _ h => h) (Or.inl ⟨by rfl, fun w hSw => by obtain ⟨s0, s1, s2, s3, s4⟩ := HSm.out w hSw; go_simp⟩) hH ?_
                  try simp only [Act.put, List.setIfInBounds_toArray, List.set_cons_zero, List.set_cons_succ, List.getElem_toArray, List.getElem_cons_succ, List.getElem_cons_zero]
                  refine wpAnyH_take (i := 7) (v := .pointer (some ⟨bt, ot + x * 3, none⟩)) rfl (by kernel_rfl) (by kernel_rfl) (by kernel_rfl) (fun _ _ _ h => h) (Or.inl ⟨by rfl, fun w hSw => by go_simp⟩) hH ?_
                  try simp only [Act.put, List.setIfInBounds_toArray, List.set_cons_zero, List.set_cons_succ, List.getElem_toArray, List.getElem_cons_succ, List.getElem_cons_zero]
                  refine wpAnyH_take (i := 8) (v := .agg #[.int .i64 f, .int .i64 o, .int .i64 nn]) rfl (by kernel_rfl) (by kernel_rfl) (by kernel_rfl) (fun _ _ _ h => h) (Or.inl ⟨by rfl, fun w hSw => by obtain ⟨s0, s1, s2, s3, s4⟩ := HSm.out w hSw; go_simp⟩) hH ?_
                  try simp only [Act.put, List.setIfInBounds_toArray, List.set_cons_zero, List.set_cons_succ, List.getElem_toArray, List.getElem_cons_succ, List.getElem_cons_zero]
                  refine wpAnyH_ready (rs := [9]) (by kernel_rfl) (by simp) ?_
                  refine AllReadyH.cons rfl (fun K hK => ?_) AllReadyH.nil
                  go_simp
                  have hS9 := (HTd.out.later (below_alloc _ (Obj.cells #[.int .i64 f, .int .i64 o, .int .i64 nn] 37))).2.2
                  refine hK.out _ _ hS9 (fun _ => ?_)
                  clear hK K
                  try simp only [Act.put, List.setIfInBounds_toArray, List.set_cons_zero, List.set_cons_succ, List.getElem_toArray, List.getElem_cons_succ, List.getElem_cons_zero]
                  refine wpAnyH_ready (rs := [10]) (by kernel_rfl) (by simp) ?_
                  refine AllReadyH.cons rfl (fun K hK => ?_) AllReadyH.nil
                  refine step_append_lies _ rfl _ _ 23 rfl wB.heap.size 37 j0 (.agg #[.int .i64 0, .int .i64 0, .int .i64 0]) 3 24 Try.underlying23 hj hj0 hj1 hj2 rfl (by decide) _ _ _ rfl (HTd.out.later (below_alloc _ _)).1 ⟨wr.drew.heap.size, 0, none⟩ 1 1 [.int .i64 f, .int .i64 o, .int .i64 nn] rfl rfl (World.news_of_block (heapNew wr.drew _)) (by simp [Value.oneCell']) (by omega) (by unfold maxLen; have := HL.out; omega) (by have := HL.out; omega) (HTd.out.later (below_alloc _ _)).2.1 _ rfl ?_
                  intro g1 cp1 w5 hown1 hgrow1 hat1 hglt1
                  have HT5 : Hid _ := (HTd.out.later (below_alloc _ _)).push (t := ⟨f, o, nn⟩) hown1 hgrow1
                  have hS5 := HT5.out.2.2
                  clear hown1 hgrow1 hat1 hglt1
                  refine hK.out _ _ hS5 (fun _ => ?_)
                  clear hK K
                  try simp only [Act.put, List.setIfInBounds_toArray, List.set_cons_zero, List.set_cons_succ, List.getElem_toArray, List.getElem_cons_succ, List.getElem_cons_zero]
                  refine wpAnyH_take (i := 11) (v := .slice (some ⟨g1, 0, none⟩) (L.length + 1) cp1) rfl (by kernel_rfl) (by kernel_rfl) (by kernel_rfl) (fun _ _ _ h => h) (Or.inl ⟨by rfl, fun w hSw => by go_simp⟩) hS5 ?_
                  try simp only [Act.put, List.setIfInBounds_toArray, List.set_cons_zero, List.set_cons_succ, List.getElem_toArray, List.getElem_cons_succ, List.getElem_cons_zero]
                  refine wpAnyH_done (by kernel_rfl) ?_ _
                  try simp
                  go_wp2
                  exact ⟨⟨k + 1, by omega, by go_num, by rw [← HN.out]; exact HT5.out⟩, by simp [intOf]; omega⟩
              · have hkl' : ((leftN ts d).length : Int) ≤ (k : Int) := by omega
                obtain rfl : k = (leftN ts d).length := by omega
                have hU := lsU_all hlt
                rw [hU] at HT
                rw [hU]
                have hll := lessN_len ts d hlt
                have hLs := least_any gv2 cv2 (pickT ts (lessN ts d)) (by rw [pickT_len]; omega) wr (HT.out.reads rfl)
                obtain ⟨z1, z2, z3, z4, z5, hz⟩ := least5b (pickT ts (lessN ts d))
                rw [hz] at hLs
                have HY : Hid (canT (pickT ts (lessN ts d)) = true → leftN ts (d + 1) = leftN ts d) := leftN_yes hlt
                have HNo2 : Hid (canT (pickT ts (lessN ts d)) = false → leftN ts (d + 1) = lessN ts d) := leftN_no hlt
                have HBt : Hid (Below wB.heap.size wB wr ∧ wB.heap.size ≤ wr.heap.size) := ⟨HT.out.2.2, HT.out.2.1⟩
                have HIe : Hid ((i : Int) - 1 = (ts.length : Int) - 1 - ((d + 1 : Nat) : Int)) := (by have := HI.out; omega : (i : Int) - 1 = (ts.length : Int) - 1 - ((d + 1 : Nat) : Int))
                have HLl : Hid _ := hll
                clear hz hU hk hkl hkl' HT hll
                generalize canT (pickT ts (lessN ts d)) = cb at *
                generalize (pickT ts (lessN ts d)).length = pn at *
                go_wp2_with fail
                (first | go_at_call 44 | skip)
                refine hLs.mono ?_
                rintro e w5 ⟨rfl, hb5⟩
                have HB6 : Hid (Below wB.heap.size wB (w5.alloc (Obj.cells #[.int .i64 z1, .int .i64 z2, .int .i64 z3, .int .i64 z4, .int .i64 z5] 28))) := (HBt.out.1.trans (hb5.mono HBt.out.2)).trans ((below_alloc _ _).mono (Nat.le_trans HBt.out.2 hb5.size))
                clear hb5 hLs HBt
                cases cb
                · have H1 : Hid _ := HNo2.out rfl
                  clear HY HNo2
                  go_wp2_with fail
                  generalize (w5.alloc (Obj.cells #[.int .i64 z1, .int .i64 z2, .int .i64 z3, .int .i64 z4, .int .i64 z5] 28)) = W6 at *
                  have hsp := less_split hlt
                  rw [← HI.out] at hsp
                  have HSp : Hid _ := hsp
                  have el : ((zs (leftN ts d)).take i).length = i := by rw [List.length_take, zs_length]; omega
                  have ed : ((zs (leftN ts d)).drop (i + 1)).length = (leftN ts d).length - (i + 1) := by rw [List.length_drop, zs_length]
                  have HEl : Hid _ := el
                  have HEd : Hid _ := ed
                  have hick : i ≤ ck := by omega
                  have hi1 : i + 1 ≤ (leftN ts d).length := by omega
                  have hwi : IntKind.i64.wrap ((i : Int) + 1) = (i : Int) + 1 := wrap_id _ (by omega) (by omega)
                  obtain ⟨o8, ho8⟩ : ∃ o8 : Nat, o8 = if ck = i + 1 then 0 else i + 1 := ⟨_, rfl⟩
                  have hof : (if ck = i + 1 then (some (⟨b, 0, none⟩ : Addr)) else some ⟨b, i + 1, none⟩) = some ⟨b, o8, none⟩ := by rw [ho8]; split <;> rfl
                  have hi2' : (i : Int) + 1 ≤ ((leftN ts d).length : Int) := by omega
                  have hi3' : (0 : Int) ≤ (i : Int) + 1 := by omega
                  have hi4' : ¬ ((i : Int) + 1 < 0) := by omega
                  have HDr : Hid (∀ W, IntsAt W b 0 (zs (leftN ts d)) → IntsAt W b o8 ((zs (leftN ts d)).drop (i + 1))) := fun W hW => by
                    rw [ho8]
                    split
                    · intro q hq
                      rw [List.length_drop, zs_length] at hq
                      omega
                    · exact intsAt_drop hW (i + 1)
                  clear ho8
                  have HIn : Hid (∀ W, Below W6.heap.size W6 W → IntsAt W b 0 (zs (leftN ts d))) := fun W hW => (HBi.out.2.below HB6.out HBi.out.1).below hW (Nat.lt_of_lt_of_le HBi.out.1 HB6.out.size)
                  have HO0 : Hid (One W6 W6.heap.size (.slice (some ⟨W6.heap.size, 0, none⟩) 0 0) [] (W6.drew.alloc (Obj.cells #[] 3))) := One.startW (w := W6) (w1 := W6.drew) (below_drew W6)
                  clear hsp el ed
                  refine wp_region_held_drew (S := fun W => Below W6.heap.size W6 W) (by kernel_rfl) (below_drew _) (fun hH => ?_)
                  refine wpAnyH_take (i := 1) (v := .slice (some ⟨b, 0, none⟩) (leftN ts d).length ck) rfl (by kernel_rfl) (by kernel_rfl) (by kernel_rfl) (fun _ _ _ h => h) (Or.inl ⟨by rfl, fun w hSw => by go_simp⟩) hH ?_
                  refine wpAnyH_take (i := 2) (v := .int .i64 (i : Int)) rfl (by kernel_rfl) (by kernel_rfl) (by kernel_rfl) (fun _ _ _ h => h) (Or.inl ⟨by rfl, fun w hSw => by go_simp⟩) hH ?_
                  try simp only [Act.put, List.setIfInBounds_toArray, List.set_cons_zero, List.set_cons_succ, List.getElem_toArray, List.getElem_cons_succ, List.getElem_cons_zero]
                  refine wpAnyH_take (i := 3) (v := .slice (some ⟨b, 0, none⟩) i ck) rfl (by kernel_rfl) (by kernel_rfl) (by kernel_rfl) (fun _ _ _ h => h) (Or.inl ⟨by rfl, fun w hSw => by go_simp⟩) hH ?_
                  try simp only [Act.put, List.setIfInBounds_toArray, List.set_cons_zero, List.set_cons_succ, List.getElem_toArray, List.getElem_cons_succ, List.getElem_cons_zero]
                  refine wpAnyH_take (i := 5) (v := .slice (some ⟨b, 0, none⟩) (leftN ts d).length ck) rfl (by kernel_rfl) (by kernel_rfl) (by kernel_rfl) (fun _ _ _ h => h) (Or.inl ⟨by rfl, fun w hSw => by go_simp⟩) hH ?_
                  try simp only [Act.put, List.setIfInBounds_toArray, List.set_cons_zero, List.set_cons_succ, List.getElem_toArray, List.getElem_cons_succ, List.getElem_cons_zero]
                  refine wpAnyH_take (i := 6) (v := .int .i64 (i : Int)) rfl (by kernel_rfl) (by kernel_rfl) (by kernel_rfl) (fun _ _ _ h => h) (Or.inl ⟨by rfl, fun w hSw => by go_simp⟩) hH ?_
                  try simp only [Act.put, List.setIfInBounds_toArray, List.set_cons_zero, List.set_cons_succ, List.getElem_toArray, List.getElem_cons_succ, List.getElem_cons_zero]
                  refine wpAnyH_take (i := 7) (v := .int .i64 ((i : Int) + 1)) rfl (by kernel_rfl) (by kernel_rfl) (by kernel_rfl) (fun _ _ _ h => h) (Or.inl ⟨by rfl, fun w hSw => by go_simp⟩) hH ?_
                  try simp only [Act.put, List.setIfInBounds_toArray, List.set_cons_zero, List.set_cons_succ, List.getElem_toArray, List.getElem_cons_succ, List.getElem_cons_zero]
                  refine wpAnyH_take (i := 8) (v := .slice (some ⟨b, o8, none⟩) ((leftN ts d).length - (i + 1)) (ck - (i + 1))) rfl (by kernel_rfl) (by kernel_rfl) (by kernel_rfl) (fun _ _ _ h => h) (Or.inl ⟨by rfl, fun w hSw => by go_simp⟩) hH ?_
                  try simp only [Act.put, List.setIfInBounds_toArray, List.set_cons_zero, List.set_cons_succ, List.getElem_toArray, List.getElem_cons_succ, List.getElem_cons_zero]
                  refine wpAnyH_ready (rs := [0]) (by kernel_rfl) (by simp) ?_
                  refine AllReadyH.cons rfl (fun K hK => ?_) AllReadyH.nil
                  go_simp
                  have hS0 := HO0.out.2.2
                  refine hK.out _ _ hS0 (fun _ => ?_)
                  clear hK K
                  try simp only [Act.put, List.setIfInBounds_toArray, List.set_cons_zero, List.set_cons_succ, List.getElem_toArray, List.getElem_cons_succ, List.getElem_cons_zero]
                  refine wpAnyH_ready (rs := [4]) (by kernel_rfl) (by simp) ?_
                  refine AllReadyH.cons rfl (fun K hK => ?_) AllReadyH.nil
                  refine step_ints rfl _ _ rfl W6.heap.size W6.heap.size 0 [] rfl HO0.out.1 b 0 ck ((zs (leftN ts d)).take i) (by rw [HEl.out]; simp; omega) (by rw [HEl.out]; rfl) (intsAt_take (HIn.out _ hS0) i) HO0.out.2.1 ?_
                  intro g1 c1 u1 own1 grow1 hat1 glt1
                  rw [List.nil_append] at own1 ⊢
                  have HO1 : Hid (One W6 W6.heap.size (.slice (some ⟨g1, 0, none⟩) ((zs (leftN ts d)).take i).length c1) ((zs (leftN ts d)).take i) u1) := ⟨own1, Nat.le_trans HO0.out.2.1 grow1.size, HO0.out.2.2.grown grow1 HO0.out.2.1 (fun q hq => by cases hq; exact Nat.le_refl _)⟩
                  have hS1 := HO1.out.2.2
                  clear own1 grow1 hat1 glt1
                  refine hK.out _ _ hS1 (fun _ => ?_)
                  clear hK K
                  try simp only [Act.put, List.setIfInBounds_toArray, List.set_cons_zero, List.set_cons_succ, List.getElem_toArray, List.getElem_cons_succ, List.getElem_cons_zero]
                  refine wpAnyH_ready (rs := [9]) (by kernel_rfl) (by simp) ?_
                  refine AllReadyH.cons rfl (fun K hK => ?_) AllReadyH.nil
                  refine step_ints rfl _ _ rfl W6.heap.size g1 c1 ((zs (leftN ts d)).take i) rfl HO1.out.1 b o8 (ck - (i + 1)) ((zs (leftN ts d)).drop (i + 1)) (by rw [HEl.out, HEd.out]; omega) (by rw [HEd.out]; rfl) (HDr.out _ (HIn.out _ hS1)) HO1.out.2.1 ?_
                  intro g2 c2 u2 own2 grow2 hat2 glt2
                  rw [← HSp.out] at own2 ⊢
                  have HO2 : Hid (One W6 W6.heap.size (.slice (some ⟨g2, 0, none⟩) (zs (lessN ts d)).length c2) (zs (lessN ts d)) u2) := ⟨own2, Nat.le_trans HO1.out.2.1 grow2.size, HO1.out.2.2.grown grow2 HO1.out.2.1 (fun q hq => by cases hq; exact (HO1.out.1.lt g1 rfl).1)⟩
                  have hS2 := HO2.out.2.2
                  clear own2 grow2 hat2 glt2
                  refine hK.out _ _ hS2 (fun _ => ?_)
                  clear hK K
                  try simp only [Act.put, List.setIfInBounds_toArray, List.set_cons_zero, List.set_cons_succ, List.getElem_toArray, List.getElem_cons_succ, List.getElem_cons_zero]
                  refine wpAnyH_take (i := 10) (v := .slice (some ⟨g2, 0, none⟩) (zs (lessN ts d)).length c2) rfl (by kernel_rfl) (by kernel_rfl) (by kernel_rfl) (fun _ _ _ h => h) (Or.inl ⟨by rfl, fun w hSw => by go_simp⟩) hS2 ?_
                  try simp only [Act.put, List.setIfInBounds_toArray, List.set_cons_zero, List.set_cons_succ, List.getElem_toArray, List.getElem_cons_succ, List.getElem_cons_zero]
                  refine wpAnyH_done (by kernel_rfl) ?_ _
                  try simp
                  go_wp2
                  refine ⟨⟨d + 1, hlt, by rw [HIe.out], some ⟨g2, 0, none⟩, c2, by rw [H1.out, zs_length], ?_, ?_, (HB.out.trans (HB6.out.mono HB.out.size)).trans (hS2.mono (Nat.le_trans HB.out.size HB6.out.size))⟩, ?_⟩
                  · rw [H1.out]
                    exact own2_mono (HO2.out.own2 rfl) (Nat.le_trans HB.out.size HB6.out.size)
                  · rw [H1.out, ← zs_length]
                    rcases HO2.out.1.2 with ⟨q, _⟩ | ⟨g', cap', cur, q, _, _, hq, _⟩
                    · simp at q
                    · simp at q; omega
                  · simp [intOf]
                · have H1 : Hid _ := HY.out rfl
                  clear HY HNo2
                  go_wp2
                  generalize (w5.alloc (Obj.cells #[.int .i64 z1, .int .i64 z2, .int .i64 z3, .int .i64 z4, .int .i64 z5] 28)) = W6 at *
                  refine ⟨⟨d + 1, hlt, by rw [HIe.out], some ⟨b, 0, none⟩, ck, by rw [H1.out], ?_, by rw [H1.out]; exact hck, HB.out.trans (HB6.out.mono HB.out.size)⟩, ?_⟩
                  · rw [H1.out]
                    exact HO.out.below HB6.out (Nat.le_refl _)
                  · simp [intOf]
          · obtain rfl : d = ts.length := by omega
            have ei : (ts.length : Int) - 1 - (ts.length : Int) = -1 := by omega
            rw [ei]
            rw [leftN_all] at hck HO ⊢
            obtain ⟨⟨⟨s0, s1, s2, s3⟩, ⟨p0, p1, p2, p3, p4⟩, ⟨f0, f1, f2, f3, f4⟩, hltw⟩, hbw⟩ := HWt.out wr HB.out
            have HBw : Hid _ := hbw
            clear ei hbw
            go_wp2
            refine bodyPost_ret (v := .tuple #[.agg #[.int .i64 0, .int .i64 0, .int .i64 0, .int .i64 0, .int .i64 0], .int .i64 8, .slice gk (coreR ts ts.length).length ck]) (by simp [results, Try.results18, go_sem, p0, p1, p2, p3, p4]) rfl ⟨gk, ck, by rw [zs_length], ?_, ?_⟩
            · refine own2_mono (B := X0.heap.size) ?_ (by omega)
              repeat refine own2_set ?_ hX0 _ _
              exact HO.out
            · repeat refine Below.setCell ?_ (by dsimp only; omega) _
              exact HBw.out
  · generalize ts.length = n at *
    go_enter Try.func18, Try.ntmps18
    go_wp2_with fail
    (first | go_at_call 47 | skip)
    refine (HO.out _ (chain (below_alloc _ _) (below_alloc _ _))).mono ?_
    rintro e v1 ⟨rfl, hv1⟩
    obtain ⟨⟨s0, s1, s2, s3⟩, ⟨p0, p1, p2, p3, p4⟩, ⟨f0, f1, f2, f3, f4⟩, hlt⟩ := wtAt hv1
    have HV1 : Hid _ := hv1
    go_wp2_with fail
    (first | go_at_call 44 | skip)
    refine (HLe.out _ (chain (chain (below_alloc _ _) (below_alloc _ _)) HV1.out)).mono ?_
    rintro e v2 ⟨rfl, hv2⟩
    have gF : (v2.alloc (Obj.cells #[.int .i64 y1, .int .i64 y2, .int .i64 y3, .int .i64 y4, .int .i64 y5] 28)).heap[v2.heap.size]? = some (.cells #[.int .i64 y1, .int .i64 y2, .int .i64 y3, .int .i64 y4, .int .i64 y5] 28 (0, 0)) := heapNew _ _
    have HV2 : Hid (Below ((w.alloc (Obj.cells #[.string nm, .slice h n cp, .int .i64 ac, .int .i64 nu] 25)).alloc (Obj.cells #[.int .i64 0, .int .i64 0, .int .i64 0, .int .i64 0, .int .i64 0] 28)).heap.size ((w.alloc (Obj.cells #[.string nm, .slice h n cp, .int .i64 ac, .int .i64 nu] 25)).alloc (Obj.cells #[.int .i64 0, .int .i64 0, .int .i64 0, .int .i64 0, .int .i64 0] 28)) (v2.alloc (Obj.cells #[.int .i64 y1, .int .i64 y2, .int .i64 y3, .int .i64 y4, .int .i64 y5] 28))) := chain (chain HV1.out hv2) (below_alloc _ _)
    clear s0 s1 s2 s3 p0 p1 p2 p3 p4 f0 f1 f2 f3 f4 hlt hv1 hv2
    have hsF : (Try.prog.info? 28).map (·.size) = some (#[Value.int .i64 y1, .int .i64 y2, .int .i64 y3, .int .i64 y4, .int .i64 y5] : Array Value).size := by kernel_rfl
    go_wp2_with (refine wpList_load_row rfl 28 (.tmp 5) rfl v2.heap.size rfl 28 _ (0, 0) _ gF Try.underlying28 rfl hsF ?_; clear gF hsF; generalize (v2.alloc (Obj.cells #[.int .i64 y1, .int .i64 y2, .int .i64 y3, .int .i64 y4, .int .i64 y5] 28)) = W1 at *; obtain ⟨⟨s0, s1, s2, s3⟩, ⟨p0, p1, p2, p3, p4⟩, ⟨f0, f1, f2, f3, f4⟩, hlt⟩ := wtAt HV2.out; have m1 : w.heap.size < W1.heap.size := by omega)
    have hq := set5_alloc (b := w.heap.size + 1) (x0 := y1) (x1 := y2) (x2 := y3) (x3 := y4) (x4 := y5) (o := Obj.cells #[] 3) p0 p1 p2 p3 p4 hlt
    have hb5 : Below w.heap.size w ((((((W1.setCell ⟨w.heap.size + 1, 0, none⟩ (.int .i64 y1)).setCell ⟨w.heap.size + 1, 1, none⟩ (.int .i64 y2)).setCell ⟨w.heap.size + 1, 2, none⟩ (.int .i64 y3)).setCell ⟨w.heap.size + 1, 3, none⟩ (.int .i64 y4)).setCell ⟨w.heap.size + 1, 4, none⟩ (.int .i64 y5)).alloc (Obj.cells #[] 3)) := by
      refine chain ?_ (below_alloc _ _)
      repeat refine Below.setCell ?_ (by dsimp only; omega) _
      exact chain (chain (below_alloc _ _) (below_alloc _ _)) HV2.out
    generalize ((((((W1.setCell ⟨w.heap.size + 1, 0, none⟩ (.int .i64 y1)).setCell ⟨w.heap.size + 1, 1, none⟩ (.int .i64 y2)).setCell ⟨w.heap.size + 1, 2, none⟩ (.int .i64 y3)).setCell ⟨w.heap.size + 1, 3, none⟩ (.int .i64 y4)).setCell ⟨w.heap.size + 1, 4, none⟩ (.int .i64 y5)).alloc (Obj.cells #[] 3)) = Wx at *
    obtain ⟨q0, q1, q2, q3, q4⟩ := hq
    refine bodyPost_ret (v := .tuple #[.agg #[.int .i64 y1, .int .i64 y2, .int .i64 y3, .int .i64 y4, .int .i64 y5], .int .i64 0, .slice (some ⟨W1.heap.size, 0, none⟩) 0 0]) (by simp [results, Try.results18, go_sem, q0, q1, q2, q3, q4]) rfl ⟨_, _, rfl, .inl rfl, hb5⟩
end Go.Proofs.Ythkmgccmeoigpaa

/-
  Texts of this claim laid together: BeK.
-/
import Derived.Test.YtkfmifbffgbiiaaM44
import Derived.Test.YtkfmifbffgbiiaaM28
/-
  The program's Best.
-/
namespace Go.Proofs.Ytkfmifbffgbiiaa
open Go.ChangeShapes Go.WideShapes Go.ChangeAt Go.RowKit Go.Deep
set_option linter.unusedVariables false

/-- The uses of least total; none where the basket is wrong. -/
def bsU (us : List RUn) (ds : List CDl) : List CUs := if faultOf us ds = 0 then (sr us ds (List.range us.length) 0).us.map cuOf else []
theorem fault_both {us : List RUn} {ds : List CDl} (h : faultOf us ds = 0) : unAll us = true ∧ dlAll ds = true := by
  rcases fault_ways us ds with ⟨_, e⟩ | ⟨_, _, e⟩ | ⟨_, _, _, e⟩ | ⟨_, _, _, _, e⟩ | ⟨_, _, e1, e2, _⟩
  · rw [e] at h; cases h
  · rw [e] at h; cases h
  · rw [e] at h; cases h
  · rw [e] at h; cases h
  · exact ⟨e1, e2⟩
theorem bsU_len {us : List RUn} {ds : List CDl} : (bsU us ds).length ≤ 8 := by
  unfold bsU
  split
  · rename_i h
    obtain ⟨h1, h2⟩ := fault_both h
    have := sr_len (us := us) h2 0 (ris_range us.length)
    have := (unAll_yes h1).1
    simp at *
    omega
  · simp
theorem bsU_fit {us : List RUn} {ds : List CDl} (h : faultOf us ds = 0) : fitB us ds (bsU us ds) = true := by
  obtain ⟨h1, h2⟩ := fault_both h
  unfold bsU
  rw [if_pos h]
  exact fit_valid h2 (ris_range us.length) (sr_valid h2 _ _ 0 (Nat.le_refl _) (ris_range us.length))
theorem bsU_good {us : List RUn} {ds : List CDl} : ∀ r ∈ bsU us ds, faultOf us ds = 0 ∧ Good us ds r := fun r hr => by
  have h : faultOf us ds = 0 := by
    by_cases h : faultOf us ds = 0
    · exact h
    · unfold bsU at hr; rw [if_neg h] at hr; cases hr
  obtain ⟨h1, h2⟩ := fault_both h
  exact ⟨h, good_of_fit h1 h2 (bsU_fit h) r hr⟩
theorem bsU_ok {us : List RUn} {ds : List CDl} : ∀ r ∈ bsU us ds, UsOK r := fun r hr => by
  have := ((bsU_good r hr).2.2.2.1).1
  rw [List.length_map] at this
  unfold UsOK
  omega
theorem bsU_code {us : List RUn} {ds : List CDl} : pcode us ds (bsU us ds) = faultOf us ds := by
  unfold pcode
  have := bsU_len (us := us) (ds := ds)
  rw [if_neg (by omega)]
  by_cases h : faultOf us ds = 0
  · rw [if_pos h, if_pos (bsU_fit h), h]
  · rw [if_neg h]
set_option maxHeartbeats 4000000 in
theorem implBest_any (a : Option Addr) (cap : Nat) (us : List RUn) (hl : us.length ≤ 100000000) (hp : ∀ r ∈ us, UnOK r) (b : Option Addr) (cb : Nat) (ds : List CDl) (hd : ds.length ≤ 100000000) (hq : ∀ r ∈ ds, DlOK r) (w : World) (hr : ReadsUn w.heap.size w a us) (ks : ReadsDl w.heap.size w b ds) :
    Calls Try.prog 5 #[.slice a us.length cap, .slice b ds.length cb] w (AnsP us ds (bsU us ds) w) := by
  have HFa : Hid (∀ W, Below w.heap.size w W → Calls Try.prog 13 #[.slice a us.length cap, .slice b ds.length cb] W fun e w' => e = .returned (.int .i64 (faultOf us ds)) ∧ Below W.heap.size W w') := fun W hb => fault_any a cap us hl hp b cb ds hd hq W (hr.later hb) (ks.later hb)
  have HNo : Hid (∀ (c : Int) (w' : World), pcode us ds (bsU us ds) = c → c ≠ 0 → Below w.heap.size w w' → AnsP us ds (bsU us ds) w (.returned (.tuple #[.agg #[.int .i64 0, .int .i64 0, .slice none 0 0], .int .i64 c])) w') := fun c w' h1 h2 h3 => ansNone h1 h2 h3
  have HYe : Hid (∀ (q : Option Addr) (cq : Nat) (w' : World), pcode us ds (bsU us ds) = 0 → OwnUs w.heap.size w' q ((bsU us ds).map (told us ds)) → Below w.heap.size w w' → AnsP us ds (bsU us ds) w (.returned (.tuple #[.agg #[.int .i64 (sumU us - savS us ds (bsU us ds)), .int .i64 (savS us ds (bsU us ds)), .slice q (bsU us ds).length cq], .int .i64 0])) w') := fun q cq w' h1 h2 h3 => ansSome h1 h2 h3
  have HCd : Hid (pcode us ds (bsU us ds) = faultOf us ds) := bsU_code
  by_cases hf : faultOf us ds = 0
  · obtain ⟨hua, hda⟩ := fault_both hf
    have HBu : Hid (∀ W, Below w.heap.size w W → Calls Try.prog 15 #[.slice a us.length cap, .slice b ds.length cb] W fun e w' => ∃ g c, e = .returned (.slice g (bsU us ds).length c) ∧ ReadsUs w'.heap.size w' g (bsU us ds) ∧ Below W.heap.size W w') := fun W hb => by
      refine (bestUses_any a cap us b cb ds hua hda hp hq W (hr.later hb) (ks.later hb)).mono ?_
      rintro e w' ⟨g, c, rfl, h1, h2⟩
      have he : bsU us ds = (sr us ds (List.range us.length) 0).us.map cuOf := by unfold bsU; rw [if_pos hf]
      refine ⟨g, c, ?_, ?_, h2⟩
      · rw [he, List.length_map]
      · rw [he]; exact h1.reads
    have HBg : Hid (∀ W g cg, ReadsUs W.heap.size W g (bsU us ds) → Below w.heap.size w W → Calls Try.prog 14 #[.slice a us.length cap, .slice b ds.length cb, .slice g (bsU us ds).length cg] W fun e w' => ∃ q cq, e = .returned (.agg #[.int .i64 (sumU us - savS us ds (bsU us ds)), .int .i64 (savS us ds (bsU us ds)), .slice q (bsU us ds).length cq]) ∧ OwnUs W.heap.size w' q ((bsU us ds).map (told us ds)) ∧ Below W.heap.size W w') := fun W g cg h1 hb => bargainOf_any a cap us (unAll_yes hua).1 (unAll_yes hua).2 b cb ds (dlAll_yes hda).1 hq g cg (bsU us ds) (by have := bsU_len (us := us) (ds := ds); omega) (fun r h => (bsU_good r h).2) W (hr.later hb) (ks.later hb) h1
    rw [hf] at HFa HCd
    clear hr ks hp hq hua hda hf
    generalize bsU us ds = cs at *
    go_enter Try.func5, Try.ntmps5
    go_wp2_with fail
    (first | go_at_call 13 | skip)
    refine (HFa.out _ (below_alloc _ _)).mono ?_
    rintro e w2 ⟨rfl, hb2⟩
    have B2 : Hid (Below w.heap.size w w2) := chain (below_alloc _ _) hb2
    have R2 : Hid (w2.rowIs w.heap.size 29 3 (bgF 0 0 (.slice none 0 0))) := (bg_new w 0 0 (.slice none 0 0)).of_block (hb2.block _ (by simp))
    clear hb2 HFa
    go_wp2_with fail
    (first | go_at_call 15 | skip)
    refine (HBu.out _ B2.out).mono ?_
    rintro e w3 ⟨g, cg, rfl, hu3, hb3⟩
    have B3 : Hid (Below w.heap.size w w3) := chain B2.out hb3
    have R3 : Hid (w3.rowIs w.heap.size 29 3 (bgF 0 0 (.slice none 0 0))) := R2.out.of_block (hb3.block _ R2.out.lt)
    have HBg2 := HBg.out w3 g cg hu3 B3.out
    have HBg3 : Hid (Calls Try.prog 14 #[.slice a us.length cap, .slice b ds.length cb, .slice g cs.length cg] w3 fun e w' => ∃ q cq, e = .returned (.agg #[.int .i64 (sumU us - savS us ds cs), .int .i64 (savS us ds cs), .slice q cs.length cq]) ∧ OwnUs w3.heap.size w' q (cs.map (told us ds)) ∧ Below w3.heap.size w3 w') := HBg2
    clear hb3 HBu R2 HBg HBg2 hu3
    go_wp2_with fail
    (first | go_at_call 14 | skip)
    refine HBg3.out.mono ?_
    rintro e w4 ⟨q, cq, rfl, ho4, hb4⟩
    have B4 : Hid (Below w.heap.size w w4) := chain B3.out hb4
    have R4 : Hid (w4.rowIs w.heap.size 29 3 (bgF 0 0 (.slice none 0 0))) := R3.out.of_block (hb4.block _ R3.out.lt)
    have hlo : w.heap.size < w3.heap.size := R3.out.lt
    have HO4 : Hid (∀ v0 v1 v2, OwnUs w.heap.size (((w4.setCell ⟨w.heap.size, 0, none⟩ v0).setCell ⟨w.heap.size, 1, none⟩ v1).setCell ⟨w.heap.size, 2, none⟩ v2) q (cs.map (told us ds))) := fun v0 v1 v2 => ownUs_low (ownUs_low (ownUs_low ho4 hlo 0 v0) hlo 1 v1) hlo 2 v2 |>.mono (by omega)
    have z0 : w4.cell? ⟨w.heap.size, 0, none⟩ = some (.int .i64 0) := R4.out.cell (i := 0) (by omega)
    have z1 : w4.cell? ⟨w.heap.size, 1, none⟩ = some (.int .i64 0) := R4.out.cell (i := 1) (by omega)
    have z2 : w4.cell? ⟨w.heap.size, 2, none⟩ = some (.slice none 0 0) := R4.out.cell (i := 2) (by omega)
    have y0 := R4.out.frozen 0
    have y1 := R4.out.frozen 1
    have y2 := R4.out.frozen 2
    have HYe2 : Hid (∀ w', OwnUs w.heap.size w' q (cs.map (told us ds)) → Below w.heap.size w w' → _) := fun w' x y => HYe.out q cq w' HCd.out x y
    clear hb4 HBg3 R3 ho4 HYe HNo
    generalize sumU us - savS us ds cs = t0 at *
    generalize savS us ds cs = s0 at *
    go_wp2
    refine bodyPost_ret (v := .tuple #[.agg #[.int .i64 t0, .int .i64 s0, .slice q cs.length cq], .int .i64 0]) (by simp [results, Try.results5, go_sem, z0, z1, z2]) rfl ?_
    refine HYe2.out _ (HO4.out _ _ _) ?_
    repeat refine Below.setCell ?_ (by dsimp only; omega) _
    exact B4.out
  · have hfb : (faultOf us ds != 0) = true := by simpa using hf
    have HNz : Hid (faultOf us ds ≠ 0) := hf
    clear hf HYe hr ks hp hq
    generalize bsU us ds = cs at *
    generalize faultOf us ds = fc at *
    go_enter Try.func5, Try.ntmps5
    go_wp2_with fail
    (first | go_at_call 13 | skip)
    refine (HFa.out _ (below_alloc _ _)).mono ?_
    rintro e w2 ⟨rfl, hb2⟩
    have B2 : Hid (Below w.heap.size w w2) := chain (below_alloc _ _) hb2
    have R2 : Hid (w2.rowIs w.heap.size 29 3 (bgF 0 0 (.slice none 0 0))) := (bg_new w 0 0 (.slice none 0 0)).of_block (hb2.block _ (by simp))
    have z0 : w2.cell? ⟨w.heap.size, 0, none⟩ = some (.int .i64 0) := R2.out.cell (i := 0) (by omega)
    have z1 : w2.cell? ⟨w.heap.size, 1, none⟩ = some (.int .i64 0) := R2.out.cell (i := 1) (by omega)
    have z2 : w2.cell? ⟨w.heap.size, 2, none⟩ = some (.slice none 0 0) := R2.out.cell (i := 2) (by omega)
    have y0 := R2.out.frozen 0
    have y1 := R2.out.frozen 1
    have y2 := R2.out.frozen 2
    clear hb2 HFa
    go_wp2
    refine bodyPost_ret (v := .tuple #[.agg #[.int .i64 0, .int .i64 0, .slice none 0 0], .int .i64 fc]) (by simp [results, Try.results5, go_sem, z0, z1, z2]) rfl ?_
    refine HNo.out fc _ HCd.out HNz.out ?_
    repeat refine Below.setCell ?_ (by dsimp only; omega) _
    exact B2.out
end Go.Proofs.Ytkfmifbffgbiiaa

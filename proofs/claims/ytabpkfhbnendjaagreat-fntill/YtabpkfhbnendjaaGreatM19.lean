/-
  Texts of this claim laid together: TlJ.
-/
import Derived.Test.YtabpkfhbnendjaaGreatM18
/-
  The program's sell.
-/
namespace Go.Proofs.YtabpkfhbnendjaaGreat
open Go.ChangeShapes Go.WideShapes Go.ChangeAt Go.RowKit Go.Deep
set_option linter.unusedVariables false

set_option maxHeartbeats 16000000 in
set_option maxRecDepth 8000 in
theorem sell_any (its : List RIt) (hok : ∀ r ∈ its, ItN r) (hil : its.length ≤ 40) (ia : Option Addr) (ic rb : Nat) (la : Option Addr) (lc : Nat) (ls : List RLi) (hls : ∀ l ∈ ls, LiI its l) (hl : ls.length ≤ 50) (sh : Int) (kv : Value) (sl tk dp : Int) (cs : List Int) (hb1 : 0 ≤ sl ∧ sl ≤ 1000000) (hb2 : 0 ≤ tk ∧ tk ≤ 1000000000000) (hb3 : 0 ≤ dp ∧ dp ≤ 1000000000000) (hcs : CsB cs 1000000000000) (w : World)
    (hreg : RegIs w rb (.slice la ls.length lc) sh (.slice ia its.length ic) kv sl tk dp cs) (hL : ∀ W, Fr (fun k => k = rb) w W → ReadsLi W.heap.size W la ls) (hI : ∀ W, Fr (fun k => k = rb) w W → ReadsIt W.heap.size W ia its) :
    Calls Tryz.prog 49 #[.pointer (some ⟨rb, 0, none⟩)] w fun e w' => e = .returned (.int .i64 (totL ls)) ∧ Fr (fun k => k = rb) w w' ∧ RegIs w' rb (.slice none 0 0) 0 (.slice ia its.length ic) kv (sl + 1) (tk + totL ls) (depM dp ls) (clsM its cs ls) := by
  have hN : ∀ l ∈ ls, LiN l := fun l h => (hls l h).1
  have HT : Hid (∀ W, Fr (fun k => k = rb) w W → Calls Tryz.prog 48 #[.agg #[.slice la ls.length lc, .int .i64 sh]] W fun e w' => e = .returned (.int .i64 (totL ls)) ∧ Below W.heap.size W w') := fun W hW => total_any la lc ls hN (by omega) sh W (hL W hW)
  obtain ⟨t1, t2⟩ := totL_nn hN
  have HH := handOver_any rb _ _ (.slice la ls.length lc) sh w hreg rfl rfl la ls.length lc rfl
  rw [regC_set0, regC_set1] at HH
  have HL : Hid (∀ W, Fr (fun k => k = rb) w W → ReadsLi W.heap.size W la ls) := hL
  have HI : Hid (∀ W, Fr (fun k => k = rb) w W → ReadsIt W.heap.size W ia its) := hI
  have HOK : Hid (∀ r ∈ its, ItN r) := hok
  have HLs : Hid (∀ l ∈ ls, LiI its l) := hls
  have HDb : Hid (∀ k, k ≤ ls.length → dp ≤ depM dp (ls.take k) ∧ depM dp (ls.take k) ≤ dp + 1000000000 * (k : Int)) := depM_B hN dp
  have HCb : Hid (∀ k, k ≤ ls.length → CsB (clsM its cs (ls.take k)) (1000000000000 + 1000000000 * (k : Int))) := clsM_B hok hcs ls hls
  have hw1 : IntKind.i64.wrap (sl + 1) = sl + 1 := wrap_id _ (by omega) (by omega)
  have hw2 : IntKind.i64.wrap (tk + totL ls) = tk + totL ls := wrap_id _ (by omega) (by omega)
  have HE1 : Hid (depM dp (ls.take ls.length) = depM dp ls ∧ clsM its cs (ls.take ls.length) = clsM its cs ls) := by rw [List.take_length]; exact ⟨rfl, rfl⟩
  clear hL hI hok hls hN hreg hcs
  generalize totL ls = tot at *
  go_enter Tryz.func49, Tryz.ntmps49
  go_wp2_with fail
  (first | go_at_call 46 | skip)
  refine HH.mono ?_
  rintro e w1 ⟨rfl, fr1, reg1⟩
  clear HH
  have reg1 : RegIs w1 rb (.slice none 0 0) 0 (.slice ia its.length ic) kv sl tk dp cs := reg1
  obtain ⟨r0, r1, r2, r3, r4, r5, r6⟩ := reg1.cells
  have rf := reg1.free 4
  have rl := reg1.lt
  have HA : Hid (RegIs ((w1.setCell ⟨rb, 4, none⟩ (.int .i64 (sl + 1))).alloc (Obj.cells #[.slice la ls.length lc, .int .i64 sh] 30)) rb (.slice none 0 0) 0 (.slice ia its.length ic) kv (sl + 1) tk dp cs ∧ Fr (fun k => k = rb) w ((w1.setCell ⟨rb, 4, none⟩ (.int .i64 (sl + 1))).alloc (Obj.cells #[.slice la ls.length lc, .int .i64 sh] 30)) ∧ ((w1.setCell ⟨rb, 4, none⟩ (.int .i64 (sl + 1))).alloc (Obj.cells #[.slice la ls.length lc, .int .i64 sh] 30)).heap[w1.heap.size]? = some (.cells #[.slice la ls.length lc, .int .i64 sh] 30 (0, 0))) := by
    refine ⟨(reg1.set4 (sl + 1)).later (below_alloc _ _), (fr1.set (b := rb) rfl _ _).alloc _, ?_⟩
    have := heapNew (w1.setCell ⟨rb, 4, none⟩ (.int .i64 (sl + 1))) (Obj.cells #[.slice la ls.length lc, .int .i64 sh] 30)
    rwa [World.size_setCell] at this
  go_wp2_with fail
  clear r0 r1 r2 r3 r4 r5 r6 rf reg1 fr1
  generalize ((w1.setCell ⟨rb, 4, none⟩ (.int .i64 (sl + 1))).alloc (Obj.cells #[.slice la ls.length lc, .int .i64 sh] 30)) = WA at *
  have hne : ¬ w1.heap.size = rb := by omega
  generalize w1.heap.size = b3 at *
  have HA3 : Hid (∀ W, Fr (fun k => k = rb) WA W → Fr (fun k => k = rb) w W ∧ W.heap[b3]? = some (.cells #[.slice la ls.length lc, .int .i64 sh] 30 (0, 0))) := fun W hW => ⟨HA.out.2.1.trans hW, (hW.block b3 (blkLt HA.out.2.2) hne).trans HA.out.2.2⟩
  refine wp_region_held_drew (S := fun W => Fr (fun k => k = rb) WA W) (by kernel_rfl) (Fr.of (below_drew _)) (fun hH => ?_)
  refine wpAnyH_take (i := 0) (v := .pointer (some ⟨rb, 0, none⟩)) rfl (by kernel_rfl) (by kernel_rfl) (by kernel_rfl) (fun _ _ _ h => h) (Or.inl ⟨by rfl, fun w hSw => by go_simp⟩) hH ?_
  refine wpAnyH_take (i := 1) (v := .pointer (some ⟨rb, 0, none⟩)) rfl (by kernel_rfl) (by kernel_rfl) (by kernel_rfl) (fun _ _ _ h => h) (Or.inl ⟨by rfl, fun w hSw => by go_simp⟩) hH ?_
  try simp only [Act.put, List.setIfInBounds_toArray, List.set_cons_zero, List.set_cons_succ, List.getElem_toArray, List.getElem_cons_succ, List.getElem_cons_zero]
  refine wpAnyH_take (i := 2) (v := .pointer (some ⟨rb, 5, none⟩)) rfl (by kernel_rfl) (by kernel_rfl) (by kernel_rfl) (fun _ _ _ h => h) (Or.inl ⟨by rfl, fun w hSw => by go_simp⟩) hH ?_
  try simp only [Act.put, List.setIfInBounds_toArray, List.set_cons_zero, List.set_cons_succ, List.getElem_toArray, List.getElem_cons_succ, List.getElem_cons_zero]
  refine wpAnyH_take (i := 4) (v := .agg #[.slice la ls.length lc, .int .i64 sh]) rfl (by kernel_rfl) (by kernel_rfl) (by kernel_rfl) (fun _ _ _ h => h) (Or.inl ⟨by rfl, fun w hSw => by have f0 := blkCell (HA3.out w hSw).2 0 _ rfl; have f1 := blkCell (HA3.out w hSw).2 1 _ rfl; go_simp⟩) hH ?_
  try simp only [Act.put, List.setIfInBounds_toArray, List.set_cons_zero, List.set_cons_succ, List.getElem_toArray, List.getElem_cons_succ, List.getElem_cons_zero]
  refine wpAnyH_ready (rs := [3, 5]) (by kernel_rfl) (by simp) ?_
  refine AllReadyH.cons rfl (fun K hK => ?_) (AllReadyH.cons rfl (fun K hK => ?_) AllReadyH.nil)
  · skip
    have q5 := (HA.out.1.later (below_drew _)).cells.2.2.2.2.2.1
    go_simp
    clear q5
    refine hK.out _ _ hH (fun _ => ?_)
    clear hK K
    try simp only [Act.put, List.setIfInBounds_toArray, List.set_cons_zero, List.set_cons_succ, List.getElem_toArray, List.getElem_cons_succ, List.getElem_cons_zero]
    refine wpAnyH_ready (rs := [5]) (by kernel_rfl) (by simp) ?_
    refine AllReadyH.cons rfl (fun K hK => ?_) AllReadyH.nil
    go_simp
    go_at_call 48
    refine (HT.out _ (HA3.out _ hH).1).mono ?_
    rintro e w5 ⟨rfl, hb5⟩
    have HG5 : Hid (RegIs w5 rb (.slice none 0 0) 0 (.slice ia its.length ic) kv (sl + 1) tk dp cs) := HA.out.1.later (chain (below_drew _) hb5)
    have hw5 := hH.trans (Fr.of hb5)
    clear hb5
    refine hK.out _ _ hw5 (fun _ => ?_)
    clear hK K
    try simp only [Act.put, List.setIfInBounds_toArray, List.set_cons_zero, List.set_cons_succ, List.getElem_toArray, List.getElem_cons_succ, List.getElem_cons_zero]
    refine wpAnyH_take (i := 6) (v := .int .i64 (tk + tot)) rfl (by kernel_rfl) (by kernel_rfl) (by kernel_rfl) (fun _ _ _ h => h) (Or.inl ⟨by rfl, fun w hSw => by go_simp⟩) hw5 ?_
    try simp only [Act.put, List.setIfInBounds_toArray, List.set_cons_zero, List.set_cons_succ, List.getElem_toArray, List.getElem_cons_succ, List.getElem_cons_zero]
    refine wpAnyH_take (i := 7) (v := .pointer (some ⟨rb, 0, none⟩)) rfl (by kernel_rfl) (by kernel_rfl) (by kernel_rfl) (fun _ _ _ h => h) (Or.inl ⟨by rfl, fun w hSw => by go_simp⟩) hw5 ?_
    try simp only [Act.put, List.setIfInBounds_toArray, List.set_cons_zero, List.set_cons_succ, List.getElem_toArray, List.getElem_cons_succ, List.getElem_cons_zero]
    refine wpAnyH_take (i := 8) (v := .pointer (some ⟨rb, 5, none⟩)) rfl (by kernel_rfl) (by kernel_rfl) (by kernel_rfl) (fun _ _ _ h => h) (Or.inl ⟨by rfl, fun w hSw => by go_simp⟩) hw5 ?_
    try simp only [Act.put, List.setIfInBounds_toArray, List.set_cons_zero, List.set_cons_succ, List.getElem_toArray, List.getElem_cons_succ, List.getElem_cons_zero]
    refine wpAnyH_ready (rs := [9]) (by kernel_rfl) (by simp) ?_
    refine AllReadyH.cons rfl (fun K hK => ?_) AllReadyH.nil
    have q5 := HG5.out.cells.2.2.2.2.2.1
    have qf := HG5.out.free 5
    have HG6 : Hid (RegIs (w5.setCell ⟨rb, 5, none⟩ (.int .i64 (tk + tot))) rb (.slice none 0 0) 0 (.slice ia its.length ic) kv (sl + 1) (tk + tot) dp cs) := HG5.out.set5 _
    have hw6 : Fr (fun k => k = rb) WA (w5.setCell ⟨rb, 5, none⟩ (.int .i64 (tk + tot))) := hw5.set (b := rb) rfl _ _
    go_simp
    clear q5 qf
    generalize (w5.setCell ⟨rb, 5, none⟩ (.int .i64 (tk + tot))) = W6 at *
    refine hK.out _ _ hw6 (fun _ => ?_)
    clear hK K
    try simp only [Act.put, List.setIfInBounds_toArray, List.set_cons_zero, List.set_cons_succ, List.getElem_toArray, List.getElem_cons_succ, List.getElem_cons_zero]
    refine wpAnyH_done (by kernel_rfl) ?_ _
    try simp
    have f0 := blkCell (HA3.out W6 hw6).2 0 _ rfl
    have HW6 : Hid (Fr (fun k => k = rb) WA W6) := hw6
    clear hw6 hw5 HG5
    go_wp2
    go_loopw [5, 29] (fun _ iv wr => ∃ k : Nat, k ≤ ls.length ∧ iv = .int .i64 (k : Int) ∧ Fr (fun k => k = rb) WA wr ∧ RegIs wr rb (.slice none 0 0) 0 (.slice ia its.length ic) kv (sl + 1) (tk + tot) (depM dp (ls.take k)) (clsM its cs (ls.take k))) (fun _ iv _ => ls.length - (intOf iv).toNat)
    case atStart => exact ⟨0, Nat.zero_le _, rfl, HW6.out, HG6.out⟩
    case round =>
      clear HG6 HW6 f0
      obtain ⟨k, hk, rfl, hfr, hrg⟩ := hrel
      have HF : Hid (Fr (fun k => k = rb) WA wr) := hfr
      have HG : Hid (RegIs wr rb (.slice none 0 0) 0 (.slice ia its.length ic) kv (sl + 1) (tk + tot) (depM dp (ls.take k)) (clsM its cs (ls.take k))) := hrg
      clear hfr hrg
      by_cases hlt : k < ls.length
      · have hlt' : (k : Int) < (ls.length : Int) := by omega
        rcases HL.out wr (HA3.out wr HF.out).1 with h | ⟨b1, o1, ha, hB1, il⟩
        · rw [h] at hlt; simp at hlt
        obtain ⟨c0, c1, c2, c3⟩ := il k hlt
        have hq := getLi HLs.out hlt
        obtain ⟨j9, jcl⟩ := clN_lt HOK.out hq
        obtain ⟨⟨n1, n2, n3, n4⟩, m1, m2⟩ := hq
        have hD := HDb.out k hk
        have hC := (HCb.out k hk).get _ j9
        have hCl := (HCb.out k hk).1
        have HNd : Hid (depM dp (ls.take k) + (ls.getD k zLi).dp = depM dp (ls.take (k + 1))) := (depM_next dp ls k hlt).symm
        have HNc : Hid ((clsM its cs (ls.take k)).set (clN its (ls.getD k zLi)) ((clsM its cs (ls.take k)).getD (clN its (ls.getD k zLi)) 0 + (ls.getD k zLi).am) = clsM its cs (ls.take (k + 1))) := (clsM_next its cs ls k hlt).symm
        subst ha
        clear il
        generalize clN its (ls.getD k zLi) = j at *
        generalize ls.getD k zLi = q at *
        obtain ⟨x1, x2, x3, x4⟩ := q
        dsimp only at c0 c1 c2 c3 n1 n2 n3 n4 m1 m2 jcl HNd HNc
        obtain ⟨m, rfl⟩ : ∃ m : Nat, x1 = (m : Int) := ⟨x1.toNat, by omega⟩
        rw [Int.toNat_natCast] at jcl
        have hm : m < its.length := by omega
        have hm' : (m : Int) < (its.length : Int) := by omega
        generalize depM dp (ls.take k) = dk at *
        generalize clsM its cs (ls.take k) = ck at *
        generalize hcj : ck.getD j 0 = cj at *
        have hwd : IntKind.i64.wrap (dk + x4) = dk + x4 := wrap_id _ (by omega) (by omega)
        have hwc : IntKind.i64.wrap (cj + x3) = cj + x3 := wrap_id _ (by omega) (by omega)
        have HIt : Hid (∀ W, Fr (fun k => k = rb) w W → ∃ b0 o0, ia = some ⟨b0, o0, none⟩ ∧ W.cell? ⟨b0, o0 + m * 5 + 3, none⟩ = some (.int .i64 (its.getD m zIt).cl)) := fun W hW => by
          rcases HI.out W hW with h | ⟨b0, o0, ha, _, ii⟩
          · rw [h] at hm; simp at hm
          · exact ⟨b0, o0, ha, (ii m hm).2.2.2.1⟩
        obtain ⟨b0, o0, hia, _⟩ := HIt.out wr (HA3.out wr HF.out).1
        subst hia
        have HIt : Hid (∀ W, Fr (fun k => k = rb) w W → W.cell? ⟨b0, o0 + m * 5 + 3, none⟩ = some (.int .i64 (its.getD m zIt).cl)) := fun W hW => by
          obtain ⟨b', o', e, h⟩ := HIt.out W hW
          simp only [Option.some.injEq, Addr.mk.injEq] at e
          obtain ⟨rfl, rfl, _⟩ := e
          exact h
        generalize (its.getD m zIt).cl = cl at *
        have hwj : IntKind.i64.wrap (cl - 1) = (j : Int) := by rw [wrap_id _ (by omega) (by omega)]; omega
        have hj9 : (j : Int) < 9 := by omega
        clear jcl
        have hHB : Fr (fun k => k = rb) WA (wr.alloc (Obj.cells #[.int .i64 (m : Int), .int .i64 x2, .int .i64 x3, .int .i64 x4] 82)) := HF.out.alloc _
        have HGB : Hid (RegIs (wr.alloc (Obj.cells #[.int .i64 (m : Int), .int .i64 x2, .int .i64 x3, .int .i64 x4] 82)) rb (.slice none 0 0) 0 (.slice (some ⟨b0, o0, none⟩) its.length ic) kv (sl + 1) (tk + tot) dk ck) := HG.out.later (below_alloc _ _)
        have hblk := heapNew wr (Obj.cells #[.int .i64 (m : Int), .int .i64 x2, .int .i64 x3, .int .i64 x4] 82)
        have hrl := HG.out.lt
        go_wp2_with fail
        clear c0 c1 c2 c3
        generalize (wr.alloc (Obj.cells #[.int .i64 (m : Int), .int .i64 x2, .int .i64 x3, .int .i64 x4] 82)) = WB at *
        have hneB : ¬ wr.heap.size = rb := by omega
        clear HF HG
        generalize wr.heap.size = bl at *
        have HB3 : Hid (∀ W, Fr (fun k => k = rb) WB W → Fr (fun k => k = rb) WA W ∧ W.heap[bl]? = some (.cells #[.int .i64 (m : Int), .int .i64 x2, .int .i64 x3, .int .i64 x4] 82 (0, 0))) := fun W hW => ⟨hHB.trans hW, (hW.block bl (blkLt hblk) hneB).trans hblk⟩
        clear hHB hblk
        refine wp_region_held_drew (S := fun W => Fr (fun k => k = rb) WB W) (by kernel_rfl) (Fr.of (below_drew _)) (fun hH2 => ?_)
        have HGd : Hid (RegIs WB.drew rb (.slice none 0 0) 0 (.slice (some ⟨b0, o0, none⟩) its.length ic) kv (sl + 1) (tk + tot) dk ck) := HGB.out.later (below_drew _)
        generalize WB.drew = Wd at *
        refine wpAnyH_take (i := 0) (v := .pointer (some ⟨rb, 0, none⟩)) rfl (by kernel_rfl) (by kernel_rfl) (by kernel_rfl) (fun _ _ _ h => h) (Or.inl ⟨by rfl, fun w hSw => by go_simp⟩) hH2 ?_
        refine wpAnyH_take (i := 1) (v := .pointer (some ⟨rb, 0, none⟩)) rfl (by kernel_rfl) (by kernel_rfl) (by kernel_rfl) (fun _ _ _ h => h) (Or.inl ⟨by rfl, fun w hSw => by go_simp⟩) hH2 ?_
        try simp only [Act.put, List.setIfInBounds_toArray, List.set_cons_zero, List.set_cons_succ, List.getElem_toArray, List.getElem_cons_succ, List.getElem_cons_zero]
        refine wpAnyH_take (i := 2) (v := .pointer (some ⟨rb, 6, none⟩)) rfl (by kernel_rfl) (by kernel_rfl) (by kernel_rfl) (fun _ _ _ h => h) (Or.inl ⟨by rfl, fun w hSw => by go_simp⟩) hH2 ?_
        try simp only [Act.put, List.setIfInBounds_toArray, List.set_cons_zero, List.set_cons_succ, List.getElem_toArray, List.getElem_cons_succ, List.getElem_cons_zero]
        refine wpAnyH_take (i := 4) (v := .pointer (some ⟨bl, 3, none⟩)) rfl (by kernel_rfl) (by kernel_rfl) (by kernel_rfl) (fun _ _ _ h => h) (Or.inl ⟨by rfl, fun w hSw => by go_simp⟩) hH2 ?_
        try simp only [Act.put, List.setIfInBounds_toArray, List.set_cons_zero, List.set_cons_succ, List.getElem_toArray, List.getElem_cons_succ, List.getElem_cons_zero]
        refine wpAnyH_take (i := 5) (v := .int .i64 x4) rfl (by kernel_rfl) (by kernel_rfl) (by kernel_rfl) (fun _ _ _ h => h) (Or.inl ⟨by rfl, fun w hSw => by have f3 := blkCell (HB3.out w hSw).2 3 _ rfl; go_simp⟩) hH2 ?_
        try simp only [Act.put, List.setIfInBounds_toArray, List.set_cons_zero, List.set_cons_succ, List.getElem_toArray, List.getElem_cons_succ, List.getElem_cons_zero]
        refine wpAnyH_ready (rs := [3]) (by kernel_rfl) (by simp) ?_
        refine AllReadyH.cons rfl (fun K hK => ?_) AllReadyH.nil
        have q6 := HGd.out.cells.2.2.2.2.2.2
        go_simp
        refine hK.out _ _ hH2 (fun _ => ?_)
        clear hK K
        try simp only [Act.put, List.setIfInBounds_toArray, List.set_cons_zero, List.set_cons_succ, List.getElem_toArray, List.getElem_cons_succ, List.getElem_cons_zero]
        refine wpAnyH_take (i := 6) (v := .int .i64 (dk + x4)) rfl (by kernel_rfl) (by kernel_rfl) (by kernel_rfl) (fun _ _ _ h => h) (Or.inl ⟨by rfl, fun w hSw => by go_simp⟩) hH2 ?_
        try simp only [Act.put, List.setIfInBounds_toArray, List.set_cons_zero, List.set_cons_succ, List.getElem_toArray, List.getElem_cons_succ, List.getElem_cons_zero]
        refine wpAnyH_take (i := 7) (v := .pointer (some ⟨rb, 0, none⟩)) rfl (by kernel_rfl) (by kernel_rfl) (by kernel_rfl) (fun _ _ _ h => h) (Or.inl ⟨by rfl, fun w hSw => by go_simp⟩) hH2 ?_
        try simp only [Act.put, List.setIfInBounds_toArray, List.set_cons_zero, List.set_cons_succ, List.getElem_toArray, List.getElem_cons_succ, List.getElem_cons_zero]
        refine wpAnyH_take (i := 8) (v := .pointer (some ⟨rb, 6, none⟩)) rfl (by kernel_rfl) (by kernel_rfl) (by kernel_rfl) (fun _ _ _ h => h) (Or.inl ⟨by rfl, fun w hSw => by go_simp⟩) hH2 ?_
        try simp only [Act.put, List.setIfInBounds_toArray, List.set_cons_zero, List.set_cons_succ, List.getElem_toArray, List.getElem_cons_succ, List.getElem_cons_zero]
        refine wpAnyH_ready (rs := [9]) (by kernel_rfl) (by simp) ?_
        refine AllReadyH.cons rfl (fun K hK => ?_) AllReadyH.nil
        have qf := HGd.out.free 6
        have HGC : Hid (RegIs (Wd.setCell ⟨rb, 6, none⟩ (.int .i64 (dk + x4))) rb (.slice none 0 0) 0 (.slice (some ⟨b0, o0, none⟩) its.length ic) kv (sl + 1) (tk + tot) (dk + x4) ck) := HGd.out.set6 _
        have hw7 : Fr (fun k => k = rb) WB (Wd.setCell ⟨rb, 6, none⟩ (.int .i64 (dk + x4))) := hH2.set (b := rb) rfl _ _
        go_simp
        clear q6 qf
        generalize (Wd.setCell ⟨rb, 6, none⟩ (.int .i64 (dk + x4))) = WC at *
        refine hK.out _ _ hw7 (fun _ => ?_)
        clear hK K
        try simp only [Act.put, List.setIfInBounds_toArray, List.set_cons_zero, List.set_cons_succ, List.getElem_toArray, List.getElem_cons_succ, List.getElem_cons_zero]
        refine wpAnyH_done (by kernel_rfl) ?_ _
        try simp
        go_wp2_with fail
        have HW7 : Hid (Fr (fun k => k = rb) WB WC) := hw7
        clear hw7 hH2 HGd HGB
        refine wp_region_held_drew (S := fun W => Fr (fun k => k = rb) WC W ∧ W.cell? ⟨rb, 2, none⟩ = some (.slice (some ⟨b0, o0, none⟩) its.length ic)) (by kernel_rfl) ⟨Fr.of (below_drew _), (HGC.out.later (below_drew _)).cells.2.2.1⟩ (fun hH3 => ?_)
        have HGe : Hid (RegIs WC.drew rb (.slice none 0 0) 0 (.slice (some ⟨b0, o0, none⟩) its.length ic) kv (sl + 1) (tk + tot) (dk + x4) ck) := HGC.out.later (below_drew _)
        generalize WC.drew = We at *
        refine wpAnyH_take (i := 0) (v := .pointer (some ⟨rb, 0, none⟩)) rfl (by kernel_rfl) (by kernel_rfl) (by kernel_rfl) (fun _ _ _ h => h) (Or.inl ⟨by rfl, fun w hSw => by go_simp⟩) hH3 ?_
        refine wpAnyH_take (i := 1) (v := .pointer (some ⟨rb, 0, none⟩)) rfl (by kernel_rfl) (by kernel_rfl) (by kernel_rfl) (fun _ _ _ h => h) (Or.inl ⟨by rfl, fun w hSw => by go_simp⟩) hH3 ?_
        try simp only [Act.put, List.setIfInBounds_toArray, List.set_cons_zero, List.set_cons_succ, List.getElem_toArray, List.getElem_cons_succ, List.getElem_cons_zero]
        refine wpAnyH_take (i := 2) (v := .pointer (some ⟨rb, 0, none⟩)) rfl (by kernel_rfl) (by kernel_rfl) (by kernel_rfl) (fun _ _ _ h => h) (Or.inl ⟨by rfl, fun w hSw => by go_simp⟩) hH3 ?_
        try simp only [Act.put, List.setIfInBounds_toArray, List.set_cons_zero, List.set_cons_succ, List.getElem_toArray, List.getElem_cons_succ, List.getElem_cons_zero]
        refine wpAnyH_take (i := 3) (v := .pointer (some ⟨rb, 2, none⟩)) rfl (by kernel_rfl) (by kernel_rfl) (by kernel_rfl) (fun _ _ _ h => h) (Or.inl ⟨by rfl, fun w hSw => by go_simp⟩) hH3 ?_
        try simp only [Act.put, List.setIfInBounds_toArray, List.set_cons_zero, List.set_cons_succ, List.getElem_toArray, List.getElem_cons_succ, List.getElem_cons_zero]
        refine wpAnyH_take (i := 4) (v := (.slice (some ⟨b0, o0, none⟩) its.length ic)) rfl (by kernel_rfl) (by kernel_rfl) (by kernel_rfl) (fun _ _ _ h => h) (Or.inl ⟨by rfl, fun w hSw => by have f3 := hSw.2; go_simp⟩) hH3 ?_
        try simp only [Act.put, List.setIfInBounds_toArray, List.set_cons_zero, List.set_cons_succ, List.getElem_toArray, List.getElem_cons_succ, List.getElem_cons_zero]
        refine wpAnyH_take (i := 5) (v := .pointer (some ⟨bl, 0, none⟩)) rfl (by kernel_rfl) (by kernel_rfl) (by kernel_rfl) (fun _ _ _ h => h) (Or.inl ⟨by rfl, fun w hSw => by go_simp⟩) hH3 ?_
        try simp only [Act.put, List.setIfInBounds_toArray, List.set_cons_zero, List.set_cons_succ, List.getElem_toArray, List.getElem_cons_succ, List.getElem_cons_zero]
        refine wpAnyH_take (i := 6) (v := .int .i64 (m : Int)) rfl (by kernel_rfl) (by kernel_rfl) (by kernel_rfl) (fun _ _ _ h => h) (Or.inl ⟨by rfl, fun w hSw => by have f0 := blkCell (HB3.out w (HW7.out.trans hSw.1)).2 0 _ rfl; go_simp⟩) hH3 ?_
        try simp only [Act.put, List.setIfInBounds_toArray, List.set_cons_zero, List.set_cons_succ, List.getElem_toArray, List.getElem_cons_succ, List.getElem_cons_zero]
        refine wpAnyH_take (i := 7) (v := .pointer (some ⟨b0, o0 + m * 5, none⟩)) rfl (by kernel_rfl) (by kernel_rfl) (by kernel_rfl) (fun _ _ _ h => h) (Or.inl ⟨by rfl, fun w hSw => by go_simp⟩) hH3 ?_
        try simp only [Act.put, List.setIfInBounds_toArray, List.set_cons_zero, List.set_cons_succ, List.getElem_toArray, List.getElem_cons_succ, List.getElem_cons_zero]
        refine wpAnyH_take (i := 8) (v := .pointer (some ⟨b0, o0 + m * 5 + 3, none⟩)) rfl (by kernel_rfl) (by kernel_rfl) (by kernel_rfl) (fun _ _ _ h => h) (Or.inl ⟨by rfl, fun w hSw => by go_simp⟩) hH3 ?_
        try simp only [Act.put, List.setIfInBounds_toArray, List.set_cons_zero, List.set_cons_succ, List.getElem_toArray, List.getElem_cons_succ, List.getElem_cons_zero]
        refine wpAnyH_take (i := 9) (v := .int .i64 cl) rfl (by kernel_rfl) (by kernel_rfl) (by kernel_rfl) (fun _ _ _ h => h) (Or.inl ⟨by rfl, fun w hSw => by have f0 := HIt.out w (HA3.out w (HB3.out w (HW7.out.trans hSw.1)).1).1; go_simp⟩) hH3 ?_
        try simp only [Act.put, List.setIfInBounds_toArray, List.set_cons_zero, List.set_cons_succ, List.getElem_toArray, List.getElem_cons_succ, List.getElem_cons_zero]
        refine wpAnyH_take (i := 10) (v := .int .i64 (j : Int)) rfl (by kernel_rfl) (by kernel_rfl) (by kernel_rfl) (fun _ _ _ h => h) (Or.inl ⟨by rfl, fun w hSw => by go_simp⟩) hH3 ?_
        try simp only [Act.put, List.setIfInBounds_toArray, List.set_cons_zero, List.set_cons_succ, List.getElem_toArray, List.getElem_cons_succ, List.getElem_cons_zero]
        refine wpAnyH_take (i := 11) (v := .pointer (some ⟨rb, 0, none⟩)) rfl (by kernel_rfl) (by kernel_rfl) (by kernel_rfl) (fun _ _ _ h => h) (Or.inl ⟨by rfl, fun w hSw => by go_simp⟩) hH3 ?_
        try simp only [Act.put, List.setIfInBounds_toArray, List.set_cons_zero, List.set_cons_succ, List.getElem_toArray, List.getElem_cons_succ, List.getElem_cons_zero]
        refine wpAnyH_take (i := 12) (v := .pointer (some ⟨rb, 7, none⟩)) rfl (by kernel_rfl) (by kernel_rfl) (by kernel_rfl) (fun _ _ _ h => h) (Or.inl ⟨by rfl, fun w hSw => by go_simp⟩) hH3 ?_
        try simp only [Act.put, List.setIfInBounds_toArray, List.set_cons_zero, List.set_cons_succ, List.getElem_toArray, List.getElem_cons_succ, List.getElem_cons_zero]
        refine wpAnyH_take (i := 13) (v := .pointer (some ⟨rb, 7 + j, none⟩)) rfl (by kernel_rfl) (by kernel_rfl) (by kernel_rfl) (fun _ _ _ h => h) (Or.inl ⟨by rfl, fun w hSw => by go_simp⟩) hH3 ?_
        try simp only [Act.put, List.setIfInBounds_toArray, List.set_cons_zero, List.set_cons_succ, List.getElem_toArray, List.getElem_cons_succ, List.getElem_cons_zero]
        refine wpAnyH_take (i := 15) (v := .pointer (some ⟨bl, 2, none⟩)) rfl (by kernel_rfl) (by kernel_rfl) (by kernel_rfl) (fun _ _ _ h => h) (Or.inl ⟨by rfl, fun w hSw => by go_simp⟩) hH3 ?_
        try simp only [Act.put, List.setIfInBounds_toArray, List.set_cons_zero, List.set_cons_succ, List.getElem_toArray, List.getElem_cons_succ, List.getElem_cons_zero]
        refine wpAnyH_take (i := 16) (v := .int .i64 x3) rfl (by kernel_rfl) (by kernel_rfl) (by kernel_rfl) (fun _ _ _ h => h) (Or.inl ⟨by rfl, fun w hSw => by have f2 := blkCell (HB3.out w (HW7.out.trans hSw.1)).2 2 _ rfl; go_simp⟩) hH3 ?_
        try simp only [Act.put, List.setIfInBounds_toArray, List.set_cons_zero, List.set_cons_succ, List.getElem_toArray, List.getElem_cons_succ, List.getElem_cons_zero]
        refine wpAnyH_take (i := 18) (v := .pointer (some ⟨rb, 0, none⟩)) rfl (by kernel_rfl) (by kernel_rfl) (by kernel_rfl) (fun _ _ _ h => h) (Or.inl ⟨by rfl, fun w hSw => by go_simp⟩) hH3 ?_
        try simp only [Act.put, List.setIfInBounds_toArray, List.set_cons_zero, List.set_cons_succ, List.getElem_toArray, List.getElem_cons_succ, List.getElem_cons_zero]
        refine wpAnyH_take (i := 19) (v := .pointer (some ⟨rb, 7, none⟩)) rfl (by kernel_rfl) (by kernel_rfl) (by kernel_rfl) (fun _ _ _ h => h) (Or.inl ⟨by rfl, fun w hSw => by go_simp⟩) hH3 ?_
        try simp only [Act.put, List.setIfInBounds_toArray, List.set_cons_zero, List.set_cons_succ, List.getElem_toArray, List.getElem_cons_succ, List.getElem_cons_zero]
        refine wpAnyH_ready (rs := [14]) (by kernel_rfl) (by simp) ?_
        refine AllReadyH.cons rfl (fun K hK => ?_) AllReadyH.nil
        have q7 := HGe.out.class j (by omega)
        rw [hcj] at q7
        go_simp
        refine hK.out _ _ hH3 (fun _ => ?_)
        clear hK K
        try simp only [Act.put, List.setIfInBounds_toArray, List.set_cons_zero, List.set_cons_succ, List.getElem_toArray, List.getElem_cons_succ, List.getElem_cons_zero]
        refine wpAnyH_take (i := 17) (v := .int .i64 (cj + x3)) rfl (by kernel_rfl) (by kernel_rfl) (by kernel_rfl) (fun _ _ _ h => h) (Or.inl ⟨by rfl, fun w hSw => by go_simp⟩) hH3 ?_
        try simp only [Act.put, List.setIfInBounds_toArray, List.set_cons_zero, List.set_cons_succ, List.getElem_toArray, List.getElem_cons_succ, List.getElem_cons_zero]
        refine wpAnyH_take (i := 20) (v := .pointer (some ⟨rb, 7 + j, none⟩)) rfl (by kernel_rfl) (by kernel_rfl) (by kernel_rfl) (fun _ _ _ h => h) (Or.inl ⟨by rfl, fun w hSw => by go_simp⟩) hH3 ?_
        try simp only [Act.put, List.setIfInBounds_toArray, List.set_cons_zero, List.set_cons_succ, List.getElem_toArray, List.getElem_cons_succ, List.getElem_cons_zero]
        refine wpAnyH_ready (rs := [21]) (by kernel_rfl) (by simp) ?_
        refine AllReadyH.cons rfl (fun K hK => ?_) AllReadyH.nil
        have qf := HGe.out.free (7 + j)
        have HGF : Hid (RegIs (We.setCell ⟨rb, 7 + j, none⟩ (.int .i64 (cj + x3))) rb (.slice none 0 0) 0 (.slice (some ⟨b0, o0, none⟩) its.length ic) kv (sl + 1) (tk + tot) (dk + x4) (ck.set j (cj + x3))) := HGe.out.set7 _ _
        have hw8 : Fr (fun k => k = rb) WC (We.setCell ⟨rb, 7 + j, none⟩ (.int .i64 (cj + x3))) := hH3.1.set (b := rb) rfl _ _
        go_simp
        clear q7 qf
        generalize (We.setCell ⟨rb, 7 + j, none⟩ (.int .i64 (cj + x3))) = WD at *
        have hS8 : Fr (fun k => k = rb) WC WD ∧ WD.cell? ⟨rb, 2, none⟩ = some (.slice (some ⟨b0, o0, none⟩) its.length ic) := ⟨hw8, HGF.out.cells.2.2.1⟩
        refine hK.out _ _ hS8 (fun _ => ?_)
        clear hK K
        try simp only [Act.put, List.setIfInBounds_toArray, List.set_cons_zero, List.set_cons_succ, List.getElem_toArray, List.getElem_cons_succ, List.getElem_cons_zero]
        refine wpAnyH_done (by kernel_rfl) ?_ _
        try simp
        have HFin : Hid (Fr (fun k => k = rb) WA WD) := (HB3.out WD (HW7.out.trans hw8)).1
        clear hw8 hH3 hS8
        go_wp2
        exact ⟨⟨k + 1, by omega, by go_num, HFin.out, by rw [← HNd.out, ← HNc.out]; exact HGF.out⟩, by simp [intOf]; omega⟩
      · have hle : (ls.length : Int) ≤ (k : Int) := by omega
        obtain rfl : k = ls.length := by omega
        have f0 := blkCell (HA3.out wr HF.out).2 0 _ rfl
        have f1 := blkCell (HA3.out wr HF.out).2 1 _ rfl
        go_wp2_with fail
        (first | go_at_call 48 | skip)
        refine (HT.out wr (HA3.out wr HF.out).1).mono ?_
        rintro e w7 ⟨rfl, hb7⟩
        have HFr7 : Hid (Fr (fun k => k = rb) w w7) := (HA3.out wr HF.out).1.trans (Fr.of hb7)
        have HG7 : Hid (RegIs w7 rb (.slice none 0 0) 0 (.slice ia its.length ic) kv (sl + 1) (tk + tot) (depM dp ls) (clsM its cs ls)) := by
          have := HG.out.later hb7
          rwa [HE1.out.1, HE1.out.2] at this
        clear f0 f1 hb7
        go_wp2
        go_ret
        exact ⟨rfl, HFr7.out, HG7.out⟩
  · skip
    go_simp
    go_at_call 48
    refine (HT.out _ (HA3.out _ hH).1).mono ?_
    rintro e w5 ⟨rfl, hb5⟩
    have HG5 : Hid (RegIs w5 rb (.slice none 0 0) 0 (.slice ia its.length ic) kv (sl + 1) tk dp cs) := HA.out.1.later (chain (below_drew _) hb5)
    have hw5 := hH.trans (Fr.of hb5)
    clear hb5
    refine hK.out _ _ hw5 (fun _ => ?_)
    clear hK K
    try simp only [Act.put, List.setIfInBounds_toArray, List.set_cons_zero, List.set_cons_succ, List.getElem_toArray, List.getElem_cons_succ, List.getElem_cons_zero]
    refine wpAnyH_ready (rs := [3]) (by kernel_rfl) (by simp) ?_
    refine AllReadyH.cons rfl (fun K hK => ?_) AllReadyH.nil
    have q5 := HG5.out.cells.2.2.2.2.2.1
    go_simp
    clear q5
    refine hK.out _ _ hw5 (fun _ => ?_)
    clear hK K
    try simp only [Act.put, List.setIfInBounds_toArray, List.set_cons_zero, List.set_cons_succ, List.getElem_toArray, List.getElem_cons_succ, List.getElem_cons_zero]
    refine wpAnyH_take (i := 6) (v := .int .i64 (tk + tot)) rfl (by kernel_rfl) (by kernel_rfl) (by kernel_rfl) (fun _ _ _ h => h) (Or.inl ⟨by rfl, fun w hSw => by go_simp⟩) hw5 ?_
    try simp only [Act.put, List.setIfInBounds_toArray, List.set_cons_zero, List.set_cons_succ, List.getElem_toArray, List.getElem_cons_succ, List.getElem_cons_zero]
    refine wpAnyH_take (i := 7) (v := .pointer (some ⟨rb, 0, none⟩)) rfl (by kernel_rfl) (by kernel_rfl) (by kernel_rfl) (fun _ _ _ h => h) (Or.inl ⟨by rfl, fun w hSw => by go_simp⟩) hw5 ?_
    try simp only [Act.put, List.setIfInBounds_toArray, List.set_cons_zero, List.set_cons_succ, List.getElem_toArray, List.getElem_cons_succ, List.getElem_cons_zero]
    refine wpAnyH_take (i := 8) (v := .pointer (some ⟨rb, 5, none⟩)) rfl (by kernel_rfl) (by kernel_rfl) (by kernel_rfl) (fun _ _ _ h => h) (Or.inl ⟨by rfl, fun w hSw => by go_simp⟩) hw5 ?_
    try simp only [Act.put, List.setIfInBounds_toArray, List.set_cons_zero, List.set_cons_succ, List.getElem_toArray, List.getElem_cons_succ, List.getElem_cons_zero]
    refine wpAnyH_ready (rs := [9]) (by kernel_rfl) (by simp) ?_
    refine AllReadyH.cons rfl (fun K hK => ?_) AllReadyH.nil
    have q5 := HG5.out.cells.2.2.2.2.2.1
    have qf := HG5.out.free 5
    have HG6 : Hid (RegIs (w5.setCell ⟨rb, 5, none⟩ (.int .i64 (tk + tot))) rb (.slice none 0 0) 0 (.slice ia its.length ic) kv (sl + 1) (tk + tot) dp cs) := HG5.out.set5 _
    have hw6 : Fr (fun k => k = rb) WA (w5.setCell ⟨rb, 5, none⟩ (.int .i64 (tk + tot))) := hw5.set (b := rb) rfl _ _
    go_simp
    clear q5 qf
    generalize (w5.setCell ⟨rb, 5, none⟩ (.int .i64 (tk + tot))) = W6 at *
    refine hK.out _ _ hw6 (fun _ => ?_)
    clear hK K
    try simp only [Act.put, List.setIfInBounds_toArray, List.set_cons_zero, List.set_cons_succ, List.getElem_toArray, List.getElem_cons_succ, List.getElem_cons_zero]
    refine wpAnyH_done (by kernel_rfl) ?_ _
    try simp
    have f0 := blkCell (HA3.out W6 hw6).2 0 _ rfl
    have HW6 : Hid (Fr (fun k => k = rb) WA W6) := hw6
    clear hw6 hw5 HG5
    go_wp2
    go_loopw [5, 29] (fun _ iv wr => ∃ k : Nat, k ≤ ls.length ∧ iv = .int .i64 (k : Int) ∧ Fr (fun k => k = rb) WA wr ∧ RegIs wr rb (.slice none 0 0) 0 (.slice ia its.length ic) kv (sl + 1) (tk + tot) (depM dp (ls.take k)) (clsM its cs (ls.take k))) (fun _ iv _ => ls.length - (intOf iv).toNat)
    case atStart => exact ⟨0, Nat.zero_le _, rfl, HW6.out, HG6.out⟩
    case round =>
      clear HG6 HW6 f0
      obtain ⟨k, hk, rfl, hfr, hrg⟩ := hrel
      have HF : Hid (Fr (fun k => k = rb) WA wr) := hfr
      have HG : Hid (RegIs wr rb (.slice none 0 0) 0 (.slice ia its.length ic) kv (sl + 1) (tk + tot) (depM dp (ls.take k)) (clsM its cs (ls.take k))) := hrg
      clear hfr hrg
      by_cases hlt : k < ls.length
      · have hlt' : (k : Int) < (ls.length : Int) := by omega
        rcases HL.out wr (HA3.out wr HF.out).1 with h | ⟨b1, o1, ha, hB1, il⟩
        · rw [h] at hlt; simp at hlt
        obtain ⟨c0, c1, c2, c3⟩ := il k hlt
        have hq := getLi HLs.out hlt
        obtain ⟨j9, jcl⟩ := clN_lt HOK.out hq
        obtain ⟨⟨n1, n2, n3, n4⟩, m1, m2⟩ := hq
        have hD := HDb.out k hk
        have hC := (HCb.out k hk).get _ j9
        have hCl := (HCb.out k hk).1
        have HNd : Hid (depM dp (ls.take k) + (ls.getD k zLi).dp = depM dp (ls.take (k + 1))) := (depM_next dp ls k hlt).symm
        have HNc : Hid ((clsM its cs (ls.take k)).set (clN its (ls.getD k zLi)) ((clsM its cs (ls.take k)).getD (clN its (ls.getD k zLi)) 0 + (ls.getD k zLi).am) = clsM its cs (ls.take (k + 1))) := (clsM_next its cs ls k hlt).symm
        subst ha
        clear il
        generalize clN its (ls.getD k zLi) = j at *
        generalize ls.getD k zLi = q at *
        obtain ⟨x1, x2, x3, x4⟩ := q
        dsimp only at c0 c1 c2 c3 n1 n2 n3 n4 m1 m2 jcl HNd HNc
        obtain ⟨m, rfl⟩ : ∃ m : Nat, x1 = (m : Int) := ⟨x1.toNat, by omega⟩
        rw [Int.toNat_natCast] at jcl
        have hm : m < its.length := by omega
        have hm' : (m : Int) < (its.length : Int) := by omega
        generalize depM dp (ls.take k) = dk at *
        generalize clsM its cs (ls.take k) = ck at *
        generalize hcj : ck.getD j 0 = cj at *
        have hwd : IntKind.i64.wrap (dk + x4) = dk + x4 := wrap_id _ (by omega) (by omega)
        have hwc : IntKind.i64.wrap (cj + x3) = cj + x3 := wrap_id _ (by omega) (by omega)
        have HIt : Hid (∀ W, Fr (fun k => k = rb) w W → ∃ b0 o0, ia = some ⟨b0, o0, none⟩ ∧ W.cell? ⟨b0, o0 + m * 5 + 3, none⟩ = some (.int .i64 (its.getD m zIt).cl)) := fun W hW => by
          rcases HI.out W hW with h | ⟨b0, o0, ha, _, ii⟩
          · rw [h] at hm; simp at hm
          · exact ⟨b0, o0, ha, (ii m hm).2.2.2.1⟩
        obtain ⟨b0, o0, hia, _⟩ := HIt.out wr (HA3.out wr HF.out).1
        subst hia
        have HIt : Hid (∀ W, Fr (fun k => k = rb) w W → W.cell? ⟨b0, o0 + m * 5 + 3, none⟩ = some (.int .i64 (its.getD m zIt).cl)) := fun W hW => by
          obtain ⟨b', o', e, h⟩ := HIt.out W hW
          simp only [Option.some.injEq, Addr.mk.injEq] at e
          obtain ⟨rfl, rfl, _⟩ := e
          exact h
        generalize (its.getD m zIt).cl = cl at *
        have hwj : IntKind.i64.wrap (cl - 1) = (j : Int) := by rw [wrap_id _ (by omega) (by omega)]; omega
        have hj9 : (j : Int) < 9 := by omega
        clear jcl
        have hHB : Fr (fun k => k = rb) WA (wr.alloc (Obj.cells #[.int .i64 (m : Int), .int .i64 x2, .int .i64 x3, .int .i64 x4] 82)) := HF.out.alloc _
        have HGB : Hid (RegIs (wr.alloc (Obj.cells #[.int .i64 (m : Int), .int .i64 x2, .int .i64 x3, .int .i64 x4] 82)) rb (.slice none 0 0) 0 (.slice (some ⟨b0, o0, none⟩) its.length ic) kv (sl + 1) (tk + tot) dk ck) := HG.out.later (below_alloc _ _)
        have hblk := heapNew wr (Obj.cells #[.int .i64 (m : Int), .int .i64 x2, .int .i64 x3, .int .i64 x4] 82)
        have hrl := HG.out.lt
        go_wp2_with fail
        clear c0 c1 c2 c3
        generalize (wr.alloc (Obj.cells #[.int .i64 (m : Int), .int .i64 x2, .int .i64 x3, .int .i64 x4] 82)) = WB at *
        have hneB : ¬ wr.heap.size = rb := by omega
        clear HF HG
        generalize wr.heap.size = bl at *
        have HB3 : Hid (∀ W, Fr (fun k => k = rb) WB W → Fr (fun k => k = rb) WA W ∧ W.heap[bl]? = some (.cells #[.int .i64 (m : Int), .int .i64 x2, .int .i64 x3, .int .i64 x4] 82 (0, 0))) := fun W hW => ⟨hHB.trans hW, (hW.block bl (blkLt hblk) hneB).trans hblk⟩
        clear hHB hblk
        refine wp_region_held_drew (S := fun W => Fr (fun k => k = rb) WB W) (by kernel_rfl) (Fr.of (below_drew _)) (fun hH2 => ?_)
        have HGd : Hid (RegIs WB.drew rb (.slice none 0 0) 0 (.slice (some ⟨b0, o0, none⟩) its.length ic) kv (sl + 1) (tk + tot) dk ck) := HGB.out.later (below_drew _)
        generalize WB.drew = Wd at *
        refine wpAnyH_take (i := 0) (v := .pointer (some ⟨rb, 0, none⟩)) rfl (by kernel_rfl) (by kernel_rfl) (by kernel_rfl) (fun _ _ _ h => h) (Or.inl ⟨by rfl, fun w hSw => by go_simp⟩) hH2 ?_
        refine wpAnyH_take (i := 1) (v := .pointer (some ⟨rb, 0, none⟩)) rfl (by kernel_rfl) (by kernel_rfl) (by kernel_rfl) (fun _ _ _ h => h) (Or.inl ⟨by rfl, fun w hSw => by go_simp⟩) hH2 ?_
        try simp only [Act.put, List.setIfInBounds_toArray, List.set_cons_zero, List.set_cons_succ, List.getElem_toArray, List.getElem_cons_succ, List.getElem_cons_zero]
        refine wpAnyH_take (i := 2) (v := .pointer (some ⟨rb, 6, none⟩)) rfl (by kernel_rfl) (by kernel_rfl) (by kernel_rfl) (fun _ _ _ h => h) (Or.inl ⟨by rfl, fun w hSw => by go_simp⟩) hH2 ?_
        try simp only [Act.put, List.setIfInBounds_toArray, List.set_cons_zero, List.set_cons_succ, List.getElem_toArray, List.getElem_cons_succ, List.getElem_cons_zero]
        refine wpAnyH_take (i := 4) (v := .pointer (some ⟨bl, 3, none⟩)) rfl (by kernel_rfl) (by kernel_rfl) (by kernel_rfl) (fun _ _ _ h => h) (Or.inl ⟨by rfl, fun w hSw => by go_simp⟩) hH2 ?_
        try simp only [Act.put, List.setIfInBounds_toArray, List.set_cons_zero, List.set_cons_succ, List.getElem_toArray, List.getElem_cons_succ, List.getElem_cons_zero]
        refine wpAnyH_take (i := 5) (v := .int .i64 x4) rfl (by kernel_rfl) (by kernel_rfl) (by kernel_rfl) (fun _ _ _ h => h) (Or.inl ⟨by rfl, fun w hSw => by have f3 := blkCell (HB3.out w hSw).2 3 _ rfl; go_simp⟩) hH2 ?_
        try simp only [Act.put, List.setIfInBounds_toArray, List.set_cons_zero, List.set_cons_succ, List.getElem_toArray, List.getElem_cons_succ, List.getElem_cons_zero]
        refine wpAnyH_ready (rs := [3]) (by kernel_rfl) (by simp) ?_
        refine AllReadyH.cons rfl (fun K hK => ?_) AllReadyH.nil
        have q6 := HGd.out.cells.2.2.2.2.2.2
        go_simp
        refine hK.out _ _ hH2 (fun _ => ?_)
        clear hK K
        try simp only [Act.put, List.setIfInBounds_toArray, List.set_cons_zero, List.set_cons_succ, List.getElem_toArray, List.getElem_cons_succ, List.getElem_cons_zero]
        refine wpAnyH_take (i := 6) (v := .int .i64 (dk + x4)) rfl (by kernel_rfl) (by kernel_rfl) (by kernel_rfl) (fun _ _ _ h => h) (Or.inl ⟨by rfl, fun w hSw => by go_simp⟩) hH2 ?_
        try simp only [Act.put, List.setIfInBounds_toArray, List.set_cons_zero, List.set_cons_succ, List.getElem_toArray, List.getElem_cons_succ, List.getElem_cons_zero]
        refine wpAnyH_take (i := 7) (v := .pointer (some ⟨rb, 0, none⟩)) rfl (by kernel_rfl) (by kernel_rfl) (by kernel_rfl) (fun _ _ _ h => h) (Or.inl ⟨by rfl, fun w hSw => by go_simp⟩) hH2 ?_
        try simp only [Act.put, List.setIfInBounds_toArray, List.set_cons_zero, List.set_cons_succ, List.getElem_toArray, List.getElem_cons_succ, List.getElem_cons_zero]
        refine wpAnyH_take (i := 8) (v := .pointer (some ⟨rb, 6, none⟩)) rfl (by kernel_rfl) (by kernel_rfl) (by kernel_rfl) (fun _ _ _ h => h) (Or.inl ⟨by rfl, fun w hSw => by go_simp⟩) hH2 ?_
        try simp only [Act.put, List.setIfInBounds_toArray, List.set_cons_zero, List.set_cons_succ, List.getElem_toArray, List.getElem_cons_succ, List.getElem_cons_zero]
        refine wpAnyH_ready (rs := [9]) (by kernel_rfl) (by simp) ?_
        refine AllReadyH.cons rfl (fun K hK => ?_) AllReadyH.nil
        have qf := HGd.out.free 6
        have HGC : Hid (RegIs (Wd.setCell ⟨rb, 6, none⟩ (.int .i64 (dk + x4))) rb (.slice none 0 0) 0 (.slice (some ⟨b0, o0, none⟩) its.length ic) kv (sl + 1) (tk + tot) (dk + x4) ck) := HGd.out.set6 _
        have hw7 : Fr (fun k => k = rb) WB (Wd.setCell ⟨rb, 6, none⟩ (.int .i64 (dk + x4))) := hH2.set (b := rb) rfl _ _
        go_simp
        clear q6 qf
        generalize (Wd.setCell ⟨rb, 6, none⟩ (.int .i64 (dk + x4))) = WC at *
        refine hK.out _ _ hw7 (fun _ => ?_)
        clear hK K
        try simp only [Act.put, List.setIfInBounds_toArray, List.set_cons_zero, List.set_cons_succ, List.getElem_toArray, List.getElem_cons_succ, List.getElem_cons_zero]
        refine wpAnyH_done (by kernel_rfl) ?_ _
        try simp
        go_wp2_with fail
        have HW7 : Hid (Fr (fun k => k = rb) WB WC) := hw7
        clear hw7 hH2 HGd HGB
        refine wp_region_held_drew (S := fun W => Fr (fun k => k = rb) WC W ∧ W.cell? ⟨rb, 2, none⟩ = some (.slice (some ⟨b0, o0, none⟩) its.length ic)) (by kernel_rfl) ⟨Fr.of (below_drew _), (HGC.out.later (below_drew _)).cells.2.2.1⟩ (fun hH3 => ?_)
        have HGe : Hid (RegIs WC.drew rb (.slice none 0 0) 0 (.slice (some ⟨b0, o0, none⟩) its.length ic) kv (sl + 1) (tk + tot) (dk + x4) ck) := HGC.out.later (below_drew _)
        generalize WC.drew = We at *
        refine wpAnyH_take (i := 0) (v := .pointer (some ⟨rb, 0, none⟩)) rfl (by kernel_rfl) (by kernel_rfl) (by kernel_rfl) (fun _ _ _ h => h) (Or.inl ⟨by rfl, fun w hSw => by go_simp⟩) hH3 ?_
        refine wpAnyH_take (i := 1) (v := .pointer (some ⟨rb, 0, none⟩)) rfl (by kernel_rfl) (by kernel_rfl) (by kernel_rfl) (fun _ _ _ h => h) (Or.inl ⟨by rfl, fun w hSw => by go_simp⟩) hH3 ?_
        try simp only [Act.put, List.setIfInBounds_toArray, List.set_cons_zero, List.set_cons_succ, List.getElem_toArray, List.getElem_cons_succ, List.getElem_cons_zero]
        refine wpAnyH_take (i := 2) (v := .pointer (some ⟨rb, 0, none⟩)) rfl (by kernel_rfl) (by kernel_rfl) (by kernel_rfl) (fun _ _ _ h => h) (Or.inl ⟨by rfl, fun w hSw => by go_simp⟩) hH3 ?_
        try simp only [Act.put, List.setIfInBounds_toArray, List.set_cons_zero, List.set_cons_succ, List.getElem_toArray, List.getElem_cons_succ, List.getElem_cons_zero]
        refine wpAnyH_take (i := 3) (v := .pointer (some ⟨rb, 2, none⟩)) rfl (by kernel_rfl) (by kernel_rfl) (by kernel_rfl) (fun _ _ _ h => h) (Or.inl ⟨by rfl, fun w hSw => by go_simp⟩) hH3 ?_
        try simp only [Act.put, List.setIfInBounds_toArray, List.set_cons_zero, List.set_cons_succ, List.getElem_toArray, List.getElem_cons_succ, List.getElem_cons_zero]
        refine wpAnyH_take (i := 4) (v := (.slice (some ⟨b0, o0, none⟩) its.length ic)) rfl (by kernel_rfl) (by kernel_rfl) (by kernel_rfl) (fun _ _ _ h => h) (Or.inl ⟨by rfl, fun w hSw => by have f3 := hSw.2; go_simp⟩) hH3 ?_
        try simp only [Act.put, List.setIfInBounds_toArray, List.set_cons_zero, List.set_cons_succ, List.getElem_toArray, List.getElem_cons_succ, List.getElem_cons_zero]
        refine wpAnyH_take (i := 5) (v := .pointer (some ⟨bl, 0, none⟩)) rfl (by kernel_rfl) (by kernel_rfl) (by kernel_rfl) (fun _ _ _ h => h) (Or.inl ⟨by rfl, fun w hSw => by go_simp⟩) hH3 ?_
        try simp only [Act.put, List.setIfInBounds_toArray, List.set_cons_zero, List.set_cons_succ, List.getElem_toArray, List.getElem_cons_succ, List.getElem_cons_zero]
        refine wpAnyH_take (i := 6) (v := .int .i64 (m : Int)) rfl (by kernel_rfl) (by kernel_rfl) (by kernel_rfl) (fun _ _ _ h => h) (Or.inl ⟨by rfl, fun w hSw => by have f0 := blkCell (HB3.out w (HW7.out.trans hSw.1)).2 0 _ rfl; go_simp⟩) hH3 ?_
        try simp only [Act.put, List.setIfInBounds_toArray, List.set_cons_zero, List.set_cons_succ, List.getElem_toArray, List.getElem_cons_succ, List.getElem_cons_zero]
        refine wpAnyH_take (i := 7) (v := .pointer (some ⟨b0, o0 + m * 5, none⟩)) rfl (by kernel_rfl) (by kernel_rfl) (by kernel_rfl) (fun _ _ _ h => h) (Or.inl ⟨by rfl, fun w hSw => by go_simp⟩) hH3 ?_
        try simp only [Act.put, List.setIfInBounds_toArray, List.set_cons_zero, List.set_cons_succ, List.getElem_toArray, List.getElem_cons_succ, List.getElem_cons_zero]
        refine wpAnyH_take (i := 8) (v := .pointer (some ⟨b0, o0 + m * 5 + 3, none⟩)) rfl (by kernel_rfl) (by kernel_rfl) (by kernel_rfl) (fun _ _ _ h => h) (Or.inl ⟨by rfl, fun w hSw => by go_simp⟩) hH3 ?_
        try simp only [Act.put, List.setIfInBounds_toArray, List.set_cons_zero, List.set_cons_succ, List.getElem_toArray, List.getElem_cons_succ, List.getElem_cons_zero]
        refine wpAnyH_take (i := 9) (v := .int .i64 cl) rfl (by kernel_rfl) (by kernel_rfl) (by kernel_rfl) (fun _ _ _ h => h) (Or.inl ⟨by rfl, fun w hSw => by have f0 := HIt.out w (HA3.out w (HB3.out w (HW7.out.trans hSw.1)).1).1; go_simp⟩) hH3 ?_
        try simp only [Act.put, List.setIfInBounds_toArray, List.set_cons_zero, List.set_cons_succ, List.getElem_toArray, List.getElem_cons_succ, List.getElem_cons_zero]
        refine wpAnyH_take (i := 10) (v := .int .i64 (j : Int)) rfl (by kernel_rfl) (by kernel_rfl) (by kernel_rfl) (fun _ _ _ h => h) (Or.inl ⟨by rfl, fun w hSw => by go_simp⟩) hH3 ?_
        try simp only [Act.put, List.setIfInBounds_toArray, List.set_cons_zero, List.set_cons_succ, List.getElem_toArray, List.getElem_cons_succ, List.getElem_cons_zero]
        refine wpAnyH_take (i := 11) (v := .pointer (some ⟨rb, 0, none⟩)) rfl (by kernel_rfl) (by kernel_rfl) (by kernel_rfl) (fun _ _ _ h => h) (Or.inl ⟨by rfl, fun w hSw => by go_simp⟩) hH3 ?_
        try simp only [Act.put, List.setIfInBounds_toArray, List.set_cons_zero, List.set_cons_succ, List.getElem_toArray, List.getElem_cons_succ, List.getElem_cons_zero]
        refine wpAnyH_take (i := 12) (v := .pointer (some ⟨rb, 7, none⟩)) rfl (by kernel_rfl) (by kernel_rfl) (by kernel_rfl) (fun _ _ _ h => h) (Or.inl ⟨by rfl, fun w hSw => by go_simp⟩) hH3 ?_
        try simp only [Act.put, List.setIfInBounds_toArray, List.set_cons_zero, List.set_cons_succ, List.getElem_toArray, List.getElem_cons_succ, List.getElem_cons_zero]
        refine wpAnyH_take (i := 13) (v := .pointer (some ⟨rb, 7 + j, none⟩)) rfl (by kernel_rfl) (by kernel_rfl) (by kernel_rfl) (fun _ _ _ h => h) (Or.inl ⟨by rfl, fun w hSw => by go_simp⟩) hH3 ?_
        try simp only [Act.put, List.setIfInBounds_toArray, List.set_cons_zero, List.set_cons_succ, List.getElem_toArray, List.getElem_cons_succ, List.getElem_cons_zero]
        refine wpAnyH_take (i := 15) (v := .pointer (some ⟨bl, 2, none⟩)) rfl (by kernel_rfl) (by kernel_rfl) (by kernel_rfl) (fun _ _ _ h => h) (Or.inl ⟨by rfl, fun w hSw => by go_simp⟩) hH3 ?_
        try simp only [Act.put, List.setIfInBounds_toArray, List.set_cons_zero, List.set_cons_succ, List.getElem_toArray, List.getElem_cons_succ, List.getElem_cons_zero]
        refine wpAnyH_take (i := 16) (v := .int .i64 x3) rfl (by kernel_rfl) (by kernel_rfl) (by kernel_rfl) (fun _ _ _ h => h) (Or.inl ⟨by rfl, fun w hSw => by have f2 := blkCell (HB3.out w (HW7.out.trans hSw.1)).2 2 _ rfl; go_simp⟩) hH3 ?_
        try simp only [Act.put, List.setIfInBounds_toArray, List.set_cons_zero, List.set_cons_succ, List.getElem_toArray, List.getElem_cons_succ, List.getElem_cons_zero]
        refine wpAnyH_take (i := 18) (v := .pointer (some ⟨rb, 0, none⟩)) rfl (by kernel_rfl) (by kernel_rfl) (by kernel_rfl) (fun _ _ _ h => h) (Or.inl ⟨by rfl, fun w hSw => by go_simp⟩) hH3 ?_
        try simp only [Act.put, List.setIfInBounds_toArray, List.set_cons_zero, List.set_cons_succ, List.getElem_toArray, List.getElem_cons_succ, List.getElem_cons_zero]
        refine wpAnyH_take (i := 19) (v := .pointer (some ⟨rb, 7, none⟩)) rfl (by kernel_rfl) (by kernel_rfl) (by kernel_rfl) (fun _ _ _ h => h) (Or.inl ⟨by rfl, fun w hSw => by go_simp⟩) hH3 ?_
        try simp only [Act.put, List.setIfInBounds_toArray, List.set_cons_zero, List.set_cons_succ, List.getElem_toArray, List.getElem_cons_succ, List.getElem_cons_zero]
        refine wpAnyH_ready (rs := [14]) (by kernel_rfl) (by simp) ?_
        refine AllReadyH.cons rfl (fun K hK => ?_) AllReadyH.nil
        have q7 := HGe.out.class j (by omega)
        rw [hcj] at q7
        go_simp
        refine hK.out _ _ hH3 (fun _ => ?_)
        clear hK K
        try simp only [Act.put, List.setIfInBounds_toArray, List.set_cons_zero, List.set_cons_succ, List.getElem_toArray, List.getElem_cons_succ, List.getElem_cons_zero]
        refine wpAnyH_take (i := 17) (v := .int .i64 (cj + x3)) rfl (by kernel_rfl) (by kernel_rfl) (by kernel_rfl) (fun _ _ _ h => h) (Or.inl ⟨by rfl, fun w hSw => by go_simp⟩) hH3 ?_
        try simp only [Act.put, List.setIfInBounds_toArray, List.set_cons_zero, List.set_cons_succ, List.getElem_toArray, List.getElem_cons_succ, List.getElem_cons_zero]
        refine wpAnyH_take (i := 20) (v := .pointer (some ⟨rb, 7 + j, none⟩)) rfl (by kernel_rfl) (by kernel_rfl) (by kernel_rfl) (fun _ _ _ h => h) (Or.inl ⟨by rfl, fun w hSw => by go_simp⟩) hH3 ?_
        try simp only [Act.put, List.setIfInBounds_toArray, List.set_cons_zero, List.set_cons_succ, List.getElem_toArray, List.getElem_cons_succ, List.getElem_cons_zero]
        refine wpAnyH_ready (rs := [21]) (by kernel_rfl) (by simp) ?_
        refine AllReadyH.cons rfl (fun K hK => ?_) AllReadyH.nil
        have qf := HGe.out.free (7 + j)
        have HGF : Hid (RegIs (We.setCell ⟨rb, 7 + j, none⟩ (.int .i64 (cj + x3))) rb (.slice none 0 0) 0 (.slice (some ⟨b0, o0, none⟩) its.length ic) kv (sl + 1) (tk + tot) (dk + x4) (ck.set j (cj + x3))) := HGe.out.set7 _ _
        have hw8 : Fr (fun k => k = rb) WC (We.setCell ⟨rb, 7 + j, none⟩ (.int .i64 (cj + x3))) := hH3.1.set (b := rb) rfl _ _
        go_simp
        clear q7 qf
        generalize (We.setCell ⟨rb, 7 + j, none⟩ (.int .i64 (cj + x3))) = WD at *
        have hS8 : Fr (fun k => k = rb) WC WD ∧ WD.cell? ⟨rb, 2, none⟩ = some (.slice (some ⟨b0, o0, none⟩) its.length ic) := ⟨hw8, HGF.out.cells.2.2.1⟩
        refine hK.out _ _ hS8 (fun _ => ?_)
        clear hK K
        try simp only [Act.put, List.setIfInBounds_toArray, List.set_cons_zero, List.set_cons_succ, List.getElem_toArray, List.getElem_cons_succ, List.getElem_cons_zero]
        refine wpAnyH_done (by kernel_rfl) ?_ _
        try simp
        have HFin : Hid (Fr (fun k => k = rb) WA WD) := (HB3.out WD (HW7.out.trans hw8)).1
        clear hw8 hH3 hS8
        go_wp2
        exact ⟨⟨k + 1, by omega, by go_num, HFin.out, by rw [← HNd.out, ← HNc.out]; exact HGF.out⟩, by simp [intOf]; omega⟩
      · have hle : (ls.length : Int) ≤ (k : Int) := by omega
        obtain rfl : k = ls.length := by omega
        have f0 := blkCell (HA3.out wr HF.out).2 0 _ rfl
        have f1 := blkCell (HA3.out wr HF.out).2 1 _ rfl
        go_wp2_with fail
        (first | go_at_call 48 | skip)
        refine (HT.out wr (HA3.out wr HF.out).1).mono ?_
        rintro e w7 ⟨rfl, hb7⟩
        have HFr7 : Hid (Fr (fun k => k = rb) w w7) := (HA3.out wr HF.out).1.trans (Fr.of hb7)
        have HG7 : Hid (RegIs w7 rb (.slice none 0 0) 0 (.slice ia its.length ic) kv (sl + 1) (tk + tot) (depM dp ls) (clsM its cs ls)) := by
          have := HG.out.later hb7
          rwa [HE1.out.1, HE1.out.2] at this
        clear f0 f1 hb7
        go_wp2
        go_ret
        exact ⟨rfl, HFr7.out, HG7.out⟩
end Go.Proofs.YtabpkfhbnendjaaGreat

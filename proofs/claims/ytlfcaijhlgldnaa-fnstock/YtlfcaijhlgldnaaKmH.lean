/-
  The program's receive.
-/
import Derived.Test.YtlfcaijhlgldnaaKmG
import Derived.Deep.DeepCutAuto
namespace Go.Proofs.Ytlfcaijhlgldnaa
open Go.ChangeShapes Go.WideShapes Go.ChangeAt Go.RowKit Go.Deep
set_option linter.unusedVariables false

theorem rcvRow {B rb mb ub : Nat} {σ : StS} {ov : Value} {W5 W6 W7 w9 : World} {g1 cp1 : Nat} {r : RSl} (h : Rn B rb mb ub σ ov W5) (hm : LotsIs W6 mb (σ.L ++ [r])) (hf6 : Fr (fun k => k = mb) W5 W6) (hb7 : Below W6.heap.size W6 W7)
    (ho : w9.ownsRow B 82 2 (.slice (some ⟨g1, 0, none⟩) (σ.L.length + 1) cp1) (σ.L.length + 1) (kyCells σ.L ++ [.string r.ar, .int .i64 r.lt])) (hg : W7.grownBy w9 ov.ownBlock) (hat : ov.ownBlock = some g1 ∨ W7.heap.size ≤ g1) :
    Rn B rb mb ub { σ with L := σ.L ++ [r] } (.slice (some ⟨g1, 0, none⟩) (σ.L.length + 1) cp1) (w9.setCell ⟨rb, 7, none⟩ (.slice (some ⟨g1, 0, none⟩) (σ.L.length + 1) cp1)) ∧ Fr (RnX rb mb ub ov) W5 (w9.setCell ⟨rb, 7, none⟩ (.slice (some ⟨g1, 0, none⟩) (σ.L.length + 1) cp1)) ∧ (∀ k, k < W5.heap.size → ¬ RnX rb mb ub ov k → w9.heap[k]? = W5.heap[k]?) ∧ w9.cell? ⟨rb, 7, none⟩ = some ov ∧ w9.frozen? ⟨rb, 7, none⟩ = false := by
  have d := h.dis
  obtain ⟨n, g, hu⟩ := h.uni
  have hgf := fr_grown hg
  have hrl := blkLt h.blk
  have hs67 := hb7.size
  have hs56 := hf6.size
  have hml := hm.lt
  have erb : w9.heap[rb]? = W5.heap[rb]? := ((hgf.block rb (by omega) d.ro).trans (hb7.block rb (by omega))).trans (hf6.block rb hrl d.rm)
  have emb : w9.heap[mb]? = W6.heap[mb]? := (hgf.block mb (by omega) d.mo).trans (hb7.block mb hml)
  have eub : w9.heap[ub]? = W5.heap[ub]? := ((hgf.block ub (by have := hu.lt; omega) d.uo).trans (hb7.block ub (by have := hu.lt; omega))).trans (hf6.block ub hu.lt (Ne.symm d.mu))
  have hgr : g1 ≠ rb := fun e => by
    rcases hat with q | q
    · exact d.ro (by rw [q, e])
    · omega
  have hblk : w9.heap[rb]? = some (.cells (runV σ mb ub ov) 58 (0, 0)) := erb.trans h.blk
  have hfr : Fr (RnX rb mb ub ov) W5 w9 := ((hf6.mono (Y := RnX rb mb ub ov) (fun k hk => .inr (.inl hk))).trans (Fr.of hb7)).trans (hgf.mono (fun k hk => .inr (.inr (.inr hk))))
  refine ⟨⟨heap_setCell_same _ _ _ _ _ _ hblk, ?_, hm.block ((Below.heap_setCell _ _ _ _ (Ne.symm d.rm)).trans emb), ⟨n, g, hu.block ((Below.heap_setCell _ _ _ _ (Ne.symm d.ru)).trans eub)⟩, h.ne, h.low⟩, hfr.set (b := rb) (.inl rfl) _ _, fun k hk hx => hfr.block k hk hx, blkCell hblk 7 _ rfl, blkFree hblk 7⟩
  show World.ownsRow _ B 82 2 _ (σ.L ++ [r]).length (kyCells (σ.L ++ [r]))
  rw [List.length_append, kyCells_append]
  refine row_of (w := w9) ho (fun q hq => Below.heap_setCell _ _ _ _ ?_)
  have hq2 : g1 = q := by simpa [Value.ownBlock] using hq
  rw [← hq2]; exact hgr
set_option maxHeartbeats 16000000 in
set_option maxRecDepth 8000 in
theorem receive_any {B rb mb ub : Nat} {σ : StS} {ov : Value} {w : World} (h : Rn B rb mb ub σ ov w) (hB : B ≤ w.heap.size) (i : Nat) (hi' : i ≤ 1000) (hok : StOK i σ) (kd : Int) (ar : ByteArray) (lt nu un : Int) (har : ar.size ≤ 2000000) (hlt : WfI lt) :
    Calls Try.prog 38 #[.pointer (some ⟨rb, 0, none⟩), .agg #[.int .i64 kd, .string ar, .int .i64 lt, .int .i64 nu, .int .i64 un]] w (ObP B rb mb ub ov w (rcvC σ ⟨kd, ar, lt, nu, un⟩) (rcvN σ ⟨kd, ar, lt, nu, un⟩) (rcvS σ ⟨kd, ar, lt, nu, un⟩)) := by
  obtain ⟨oa, oc, rfl⟩ := row_slice h.ord
  obtain ⟨W2, hW2⟩ : ∃ W2, W2 = (w.alloc (Obj.cells #[.int .i64 kd, .string ar, .int .i64 lt, .int .i64 nu, .int .i64 un] 34)).alloc (Obj.cells #[.int .i64 0, .int .i64 0] 36) := ⟨_, rfl⟩
  have HW : Hid (Below w.heap.size w W2 ∧ W2.heap[w.heap.size]? = some (.cells #[.int .i64 kd, .string ar, .int .i64 lt, .int .i64 nu, .int .i64 un] 34 (0, 0)) ∧ W2.heap[w.heap.size + 1]? = some (.cells #[.int .i64 0, .int .i64 0] 36 (0, 0))) := by
    rw [hW2]
    exact ⟨chain (below_alloc _ _) (below_alloc _ _), heapTwo _ _ _⟩
  have HR : Hid (∀ W, Below W2.heap.size W2 W → Rn B rb mb ub σ (.slice oa σ.L.length oc) W ∧ Below w.heap.size w W ∧ W.heap[w.heap.size]? = some (.cells #[.int .i64 kd, .string ar, .int .i64 lt, .int .i64 nu, .int .i64 un] 34 (0, 0)) ∧ W.heap[w.heap.size + 1]? = some (.cells #[.int .i64 0, .int .i64 0] 36 (0, 0))) := fun W hW => by
    obtain ⟨k0, k1, k2⟩ := HW.out
    exact ⟨h.later (chain k0 hW), chain k0 hW, (hW.block _ (blkLt k1)).trans k1, (hW.block _ (blkLt k2)).trans k2⟩
  have HAg := againstReceipt_any (HR.out W2 (Below.refl _ _)).1 hok.len hok.good kd ar lt nu un har hlt
  have HSt : Hid (StOK i σ) := hok
  have HDj : Hid (rcvS σ ⟨kd, ar, lt, nu, un⟩ = if rcvC σ ⟨kd, ar, lt, nu, un⟩ = 0 then { σ with L := σ.L ++ [⟨ar, lt, nu, un, false⟩], rc := σ.rc + nu } else σ) := rfl
  have HDn : Hid (rcvN σ ⟨kd, ar, lt, nu, un⟩ = if rcvC σ ⟨kd, ar, lt, nu, un⟩ = 0 then nu else 0) := rfl
  have HC0 : Hid (rcvC σ ⟨kd, ar, lt, nu, un⟩ = 0 → fdI σ.L ar lt = none ∧ 1 ≤ nu ∧ nu ≤ 100000) := fun hc => by
    unfold rcvC at hc
    have hn : nameB ar = true := by
      cases hb : nameB ar with
      | true => rfl
      | false => dsimp only at hc; rw [hb] at hc; simp at hc
    dsimp only at hc
    rw [hn] at hc
    have ho : rcvOK σ ⟨kd, ar, lt, nu, un⟩ = true := by
      cases hb : rcvOK σ ⟨kd, ar, lt, nu, un⟩ with
      | true => rfl
      | false => rw [hb] at hc; simp at hc
    rw [ho] at hc
    have hf : fdI σ.L ar lt = none := by
      cases hb : fdI σ.L ar lt with
      | none => rfl
      | some j => rw [hb] at hc; simp at hc
    unfold rcvOK at ho
    rw [decide_eq_true_iff] at ho
    exact ⟨hf, ho.2.1⟩
  generalize rcvC σ ⟨kd, ar, lt, nu, un⟩ = rc at *
  generalize rcvN σ ⟨kd, ar, lt, nu, un⟩ = rn at *
  generalize rcvS σ ⟨kd, ar, lt, nu, un⟩ = rs at *
  have a0 := blkCell HW.out.2.1 0 _ rfl
  have a1 := blkCell HW.out.2.1 1 _ rfl
  have a2 := blkCell HW.out.2.1 2 _ rfl
  have a3 := blkCell HW.out.2.1 3 _ rfl
  have a4 := blkCell HW.out.2.1 4 _ rfl
  have HAg2 : Hid (Calls Try.prog 50 #[.pointer (some ⟨rb, 0, none⟩), .agg #[.int .i64 kd, .string ar, .int .i64 lt, .int .i64 nu, .int .i64 un]] W2 fun e w' => e = .returned (.int .i64 rc) ∧ Below W2.heap.size W2 w') := HAg
  have HCl := fun w => skClone_any ar har w
  have HK : Hid (KeyOK ar lt) := ⟨hlt, by unfold maxLen; omega⟩
  clear h HAg hok
  go_enter Try.func38, Try.ntmps38
  go_wp2_with fail
  (first | go_at_call 50 | skip)
  rw [← hW2]
  clear hW2
  refine HAg2.out.mono ?_
  rintro e w1 ⟨rfl, hb1⟩
  have HB1 : Hid (Below W2.heap.size W2 w1) := hb1
  clear hb1 HAg2 a0 a1 a2 a3 a4
  by_cases hc : rc = 0
  · subst hc
    rw [if_pos rfl] at HDj HDn
    obtain ⟨hf, hn1, hn2⟩ := HC0.out rfl
    have HFd : Hid (fdI σ.L ar lt = none) := hf
    clear hf HC0
    go_upto_region 4 with fail
    go_cut [6] from 15 to 24 (fun b6 wx => ∃ lb, b6 = .pointer (some ⟨lb, 0, none⟩) ∧ W2.heap.size ≤ lb ∧ wx.heap[lb]? = some (.cells #[.string ar, .int .i64 lt, .int .i64 nu, .int .i64 un, .bool false] 38 (0, 0)) ∧ Below W2.heap.size W2 wx)
    case first =>
      refine wp_region_z (S := fun W => Below W2.heap.size W2 W) 11 (by kernel_rfl) (chain HB1.out (below_drew _)) (fun hH => ?_)
      refine wpAnyZ_take (i := 0) (v := .pointer (some ⟨w.heap.size, 1, none⟩)) rfl (by kernel_rfl) (by kernel_rfl) (by kernel_rfl) (by kernel_rfl) (fun _ _ _ h => h) (Or.inl ⟨by rfl, fun w hSw => by go_simp⟩) hH ?_
      refine wpAnyZ_take (i := 1) (v := .string ar) rfl (by kernel_rfl) (by kernel_rfl) (by kernel_rfl) (by kernel_rfl) (fun _ _ _ h => h) (Or.inl ⟨by rfl, fun w hSw => by have f0 := blkCell (HR.out w hSw).2.2.1 1 _ rfl; go_simp⟩) hH ?_
      try simp only [Act.put, List.setIfInBounds_toArray, List.set_cons_zero, List.set_cons_succ, List.getElem_toArray, List.getElem_cons_succ, List.getElem_cons_zero]
      refine wpAnyZ_take (i := 3) (v := .pointer (some ⟨w.heap.size, 2, none⟩)) rfl (by kernel_rfl) (by kernel_rfl) (by kernel_rfl) (by kernel_rfl) (fun _ _ _ h => h) (Or.inl ⟨by rfl, fun w hSw => by go_simp⟩) hH ?_
      try simp only [Act.put, List.setIfInBounds_toArray, List.set_cons_zero, List.set_cons_succ, List.getElem_toArray, List.getElem_cons_succ, List.getElem_cons_zero]
      refine wpAnyZ_take (i := 4) (v := .int .i64 lt) rfl (by kernel_rfl) (by kernel_rfl) (by kernel_rfl) (by kernel_rfl) (fun _ _ _ h => h) (Or.inl ⟨by rfl, fun w hSw => by have f0 := blkCell (HR.out w hSw).2.2.1 2 _ rfl; go_simp⟩) hH ?_
      try simp only [Act.put, List.setIfInBounds_toArray, List.set_cons_zero, List.set_cons_succ, List.getElem_toArray, List.getElem_cons_succ, List.getElem_cons_zero]
      refine wpAnyZ_take (i := 5) (v := .pointer (some ⟨w.heap.size, 3, none⟩)) rfl (by kernel_rfl) (by kernel_rfl) (by kernel_rfl) (by kernel_rfl) (fun _ _ _ h => h) (Or.inl ⟨by rfl, fun w hSw => by go_simp⟩) hH ?_
      try simp only [Act.put, List.setIfInBounds_toArray, List.set_cons_zero, List.set_cons_succ, List.getElem_toArray, List.getElem_cons_succ, List.getElem_cons_zero]
      refine wpAnyZ_take (i := 6) (v := .int .i64 nu) rfl (by kernel_rfl) (by kernel_rfl) (by kernel_rfl) (by kernel_rfl) (fun _ _ _ h => h) (Or.inl ⟨by rfl, fun w hSw => by have f0 := blkCell (HR.out w hSw).2.2.1 3 _ rfl; go_simp⟩) hH ?_
      try simp only [Act.put, List.setIfInBounds_toArray, List.set_cons_zero, List.set_cons_succ, List.getElem_toArray, List.getElem_cons_succ, List.getElem_cons_zero]
      refine wpAnyZ_take (i := 7) (v := .pointer (some ⟨w.heap.size, 4, none⟩)) rfl (by kernel_rfl) (by kernel_rfl) (by kernel_rfl) (by kernel_rfl) (fun _ _ _ h => h) (Or.inl ⟨by rfl, fun w hSw => by go_simp⟩) hH ?_
      try simp only [Act.put, List.setIfInBounds_toArray, List.set_cons_zero, List.set_cons_succ, List.getElem_toArray, List.getElem_cons_succ, List.getElem_cons_zero]
      refine wpAnyZ_take (i := 8) (v := .int .i64 un) rfl (by kernel_rfl) (by kernel_rfl) (by kernel_rfl) (by kernel_rfl) (fun _ _ _ h => h) (Or.inl ⟨by rfl, fun w hSw => by have f0 := blkCell (HR.out w hSw).2.2.1 4 _ rfl; go_simp⟩) hH ?_
      try simp only [Act.put, List.setIfInBounds_toArray, List.set_cons_zero, List.set_cons_succ, List.getElem_toArray, List.getElem_cons_succ, List.getElem_cons_zero]
      refine wpAnyZ_ready (rs := [2, 10]) (by kernel_rfl) (by simp) ?_
      refine AllReadyZ.cons rfl (fun K hK => ?_) (AllReadyZ.cons rfl (fun K hK => ?_) AllReadyZ.nil)
      · go_simp
        go_at_call 51
        refine (HCl _).mono ?_
        rintro e w2 ⟨rfl, hb2⟩
        have h2 := chain hH hb2
        clear hb2 hH
        refine hK.out _ _ (Or.inr h2) (fun _ => ?_)
        clear hK K
        try simp only [Act.put, List.setIfInBounds_toArray, List.set_cons_zero, List.set_cons_succ, List.getElem_toArray, List.getElem_cons_succ, List.getElem_cons_zero]
        refine wpAnyZ_take (i := 9) (v := .agg #[.string ar, .int .i64 lt, .int .i64 nu, .int .i64 un, .bool false]) rfl (by kernel_rfl) (by kernel_rfl) (by kernel_rfl) (by kernel_rfl) (fun _ _ _ h => h) (Or.inl ⟨by rfl, fun w hSw => by go_simp⟩) h2 ?_
        try simp only [Act.put, List.setIfInBounds_toArray, List.set_cons_zero, List.set_cons_succ, List.getElem_toArray, List.getElem_cons_succ, List.getElem_cons_zero]
        refine wpAnyZ_ready (rs := [10]) (by kernel_rfl) (by simp) ?_
        refine AllReadyZ.cons rfl (fun K hK => ?_) AllReadyZ.nil
        go_simp
        have h3 : Below W2.heap.size W2 (w2.alloc (Obj.cells #[.string ⟨#[]⟩, .int .i64 0, .int .i64 0, .int .i64 0, .bool false] 38)) := chain h2 (below_alloc _ _)
        have HE : Hid (W2.heap.size ≤ w2.heap.size ∧ (w2.alloc (Obj.cells #[.string ar, .int .i64 lt, .int .i64 nu, .int .i64 un, .bool false] 38)).heap[w2.heap.size]? = some (.cells #[.string ar, .int .i64 lt, .int .i64 nu, .int .i64 un, .bool false] 38 (0, 0)) ∧ Below W2.heap.size W2 (w2.alloc (Obj.cells #[.string ar, .int .i64 lt, .int .i64 nu, .int .i64 un, .bool false] 38))) := ⟨h2.size, heapNew _ _, chain h2 (below_alloc _ _)⟩
        refine hK.out _ _ (Or.inr h3) (fun _ => ?_)
        clear hK K
        try simp only [Act.put, List.setIfInBounds_toArray, List.set_cons_zero, List.set_cons_succ, List.getElem_toArray, List.getElem_cons_succ, List.getElem_cons_zero]
        refine wpAnyZ_ready (rs := [11]) (by kernel_rfl) (by simp) ?_
        refine AllReadyZ.cons rfl (fun K hK => ?_) AllReadyZ.nil
        clear h2 h3
        go_simp
        refine hK.out _ _ (Or.inl rfl) (fun _ => ?_)
        clear hK K
        try simp only [Act.put, List.setIfInBounds_toArray, List.set_cons_zero, List.set_cons_succ, List.getElem_toArray, List.getElem_cons_succ, List.getElem_cons_zero]
        refine wpAnyZ_done (by kernel_rfl) ?_ _
        go_wp2_with fail
        go_meet
        exact ⟨_, rfl, HE.out⟩
      · go_simp
        obtain ⟨Wd, hWd⟩ : ∃ Wd, Wd = w1.drew := ⟨_, rfl⟩
        obtain ⟨Wa, hWa⟩ : ∃ Wa, Wa = (w1.alloc (Obj.cells #[.string ⟨#[]⟩, .int .i64 0, .int .i64 0, .int .i64 0, .bool false] 38)).drew := ⟨_, rfl⟩
        have h3 : Below W2.heap.size W2 Wa := by rw [hWa]; exact chain HB1.out (chain (below_alloc _ _) (below_drew _))
        have hn3 : Wa.heap[w1.heap.size]? = some (.cells #[.string ⟨#[]⟩, .int .i64 0, .int .i64 0, .int .i64 0, .bool false] 38 (0, 0)) := by rw [hWa]; exact heapNew w1 _
        rw [← hWa]
        clear hWa hWd hH
        refine hK.out _ _ (Or.inr h3) (fun _ => ?_)
        clear hK K
        try simp only [Act.put, List.setIfInBounds_toArray, List.set_cons_zero, List.set_cons_succ, List.getElem_toArray, List.getElem_cons_succ, List.getElem_cons_zero]
        refine wpAnyZ_ready (rs := [2]) (by kernel_rfl) (by simp) ?_
        refine AllReadyZ.cons rfl (fun K hK => ?_) AllReadyZ.nil
        go_simp
        go_at_call 51
        refine (HCl _).mono ?_
        rintro e w2 ⟨rfl, hb2⟩
        have h2 := chain h3 hb2
        have hn2 := (hb2.block _ (blkLt hn3)).trans hn3
        clear hb2 h3
        refine hK.out _ _ (Or.inr h2) (fun _ => ?_)
        clear hK K
        try simp only [Act.put, List.setIfInBounds_toArray, List.set_cons_zero, List.set_cons_succ, List.getElem_toArray, List.getElem_cons_succ, List.getElem_cons_zero]
        refine wpAnyZ_take (i := 9) (v := .agg #[.string ar, .int .i64 lt, .int .i64 nu, .int .i64 un, .bool false]) rfl (by kernel_rfl) (by kernel_rfl) (by kernel_rfl) (by kernel_rfl) (fun _ _ _ h => h) (Or.inl ⟨by rfl, fun w hSw => by go_simp⟩) h2 ?_
        try simp only [Act.put, List.setIfInBounds_toArray, List.set_cons_zero, List.set_cons_succ, List.getElem_toArray, List.getElem_cons_succ, List.getElem_cons_zero]
        have q0 := blkCell hn2 0 _ rfl
        have q1 := blkCell hn2 1 _ rfl
        have q2 := blkCell hn2 2 _ rfl
        have q3 := blkCell hn2 3 _ rfl
        have q4 := blkCell hn2 4 _ rfl
        have g0 := blkFree hn2 0
        have g1 := blkFree hn2 1
        have g2 := blkFree hn2 2
        have g3 := blkFree hn2 3
        have g4 := blkFree hn2 4
        have HE : Hid (W2.heap.size ≤ w1.heap.size ∧ (((((w2.setCell ⟨w1.heap.size, 0, none⟩ (.string ar)).setCell ⟨w1.heap.size, 1, none⟩ (.int .i64 lt)).setCell ⟨w1.heap.size, 2, none⟩ (.int .i64 nu)).setCell ⟨w1.heap.size, 3, none⟩ (.int .i64 un)).setCell ⟨w1.heap.size, 4, none⟩ (.bool false)).heap[w1.heap.size]? = some (.cells #[.string ar, .int .i64 lt, .int .i64 nu, .int .i64 un, .bool false] 38 (0, 0)) ∧ Below W2.heap.size W2 (((((w2.setCell ⟨w1.heap.size, 0, none⟩ (.string ar)).setCell ⟨w1.heap.size, 1, none⟩ (.int .i64 lt)).setCell ⟨w1.heap.size, 2, none⟩ (.int .i64 nu)).setCell ⟨w1.heap.size, 3, none⟩ (.int .i64 un)).setCell ⟨w1.heap.size, 4, none⟩ (.bool false))) := by
          have hz := HB1.out.size
          refine ⟨hz, ?_, ((((h2.setCell hz _).setCell hz _).setCell hz _).setCell hz _).setCell hz _⟩
          have e0 := heap_setCell_same _ _ 4 _ _ (.bool false) (heap_setCell_same _ _ 3 _ _ (.int .i64 un) (heap_setCell_same _ _ 2 _ _ (.int .i64 nu) (heap_setCell_same _ _ 1 _ _ (.int .i64 lt) (heap_setCell_same _ _ 0 _ _ (.string ar) hn2))))
          simp only [List.setIfInBounds_toArray, List.set_cons_zero, List.set_cons_succ] at e0
          exact e0
        refine wpAnyZ_ready (rs := [11]) (by kernel_rfl) (by simp) ?_
        refine AllReadyZ.cons rfl (fun K hK => ?_) AllReadyZ.nil
        clear h2
        go_simp
        refine hK.out _ _ (Or.inl rfl) (fun _ => ?_)
        clear hK K
        try simp only [Act.put, List.setIfInBounds_toArray, List.set_cons_zero, List.set_cons_succ, List.getElem_toArray, List.getElem_cons_succ, List.getElem_cons_zero]
        refine wpAnyZ_done (by kernel_rfl) ?_ _
        go_wp2_with fail
        go_meet
        exact ⟨_, rfl, HE.out⟩
    case rest =>
      obtain ⟨lb, rfl, hlb, hlk, hbx⟩ := hcut
      have HX : Hid (Below W2.heap.size W2 wc ∧ wc.heap[lb]? = some (.cells #[.string ar, .int .i64 lt, .int .i64 nu, .int .i64 un, .bool false] 38 (0, 0))) := ⟨hbx, hlk⟩
      have l0 := blkCell hlk 0 _ rfl
      have l1 := blkCell hlk 1 _ rfl
      clear hbx hlk HB1 HCl
      obtain ⟨W4, hW4⟩ : ∃ W4, W4 = wc.alloc (Obj.cells #[.string ar, .int .i64 lt] 82) := ⟨_, rfl⟩
      obtain ⟨kb, hkb⟩ : ∃ kb, kb = wc.heap.size := ⟨_, rfl⟩
      have H4 : Hid (Rn B rb mb ub σ (.slice oa σ.L.length oc) W4 ∧ Below w.heap.size w W4 ∧ W4.heap[w.heap.size + 1]? = some (.cells #[.int .i64 0, .int .i64 0] 36 (0, 0)) ∧ W4.heap[lb]? = some (.cells #[.string ar, .int .i64 lt, .int .i64 nu, .int .i64 un, .bool false] 38 (0, 0)) ∧ W4.heap[kb]? = some (.cells #[.string ar, .int .i64 lt] 82 (0, 0)) ∧ ¬ RnX rb mb ub (.slice oa σ.L.length oc) kb) := by
        have hb4 : Below W2.heap.size W2 W4 := by rw [hW4]; exact chain HX.out.1 (below_alloc _ _)
        obtain ⟨k1, k2, k3, k4⟩ := HR.out W4 hb4
        refine ⟨k1, k2, k4, ?_, ?_, fun e => ?_⟩
        · rw [hW4]; exact (Below.heap_alloc _ _ _ (blkLt HX.out.2)).trans HX.out.2
        · rw [hW4, hkb]; exact heapNew _ _
        · have := (HR.out wc HX.out.1).1.lt kb e; omega
      clear HX HR HW
      go_upto_region 6 with fail
      rw [← hW4, ← hkb]
      clear hW4 hkb l0 l1
      -- the map
      obtain ⟨W5, hrun5, hm5, hg5⟩ := LotsIs.add (W := W4.drew) (r := ⟨ar, lt, nu, un, false⟩) (H4.out.1.map.block rfl) (by have := HSt.out.len; omega) HK.out (fd_no HFd.out)
      have hrun5' : (Instr.mapUpdate 54 (.map (some mb)) (.agg #[.string ar, .int .i64 lt]) (.iface 97 (.agg #[.string ar, .int .i64 lt, .int .i64 nu, .int .i64 un, .bool false]))).run Try.prog W4.drew = .ok () W5 := hrun5
      have HF5 : Hid (Fr (fun k => k = mb) W4 W5) := (Fr.of (below_drew W4)).trans ((fr_grown hg5).mono (fun k hk => by simpa using hk.symm))
      have HM5 : Hid (LotsIs W5 mb (σ.L ++ [⟨ar, lt, nu, un, false⟩])) := hm5
      have HQ : Hid (∀ W : World, W = W4.drew → RnC rb mb ub σ (.slice oa σ.L.length oc) W ∧ W.heap[lb]? = some (.cells #[.string ar, .int .i64 lt, .int .i64 nu, .int .i64 un, .bool false] 38 (0, 0)) ∧ W.heap[kb]? = some (.cells #[.string ar, .int .i64 lt] 82 (0, 0))) := fun W hW => by subst hW; exact ⟨(H4.out.1.later (below_drew _)).at, H4.out.2.2.2.1, H4.out.2.2.2.2.1⟩
      clear hm5 hg5 hrun5
      refine wp_region_z (S := fun W => W = W4.drew) 8 (by kernel_rfl) rfl (fun hH => ?_)
      generalize W4.drew = Wd at *
      refine wpAnyZ_take (i := 0) (v := .pointer (some ⟨rb, 0, none⟩)) rfl (by kernel_rfl) (by kernel_rfl) (by kernel_rfl) (by kernel_rfl) (fun _ _ _ h => h) (Or.inl ⟨by rfl, fun w hSw => by clear hSw; go_simp⟩) hH ?_
      refine wpAnyZ_take (i := 1) (v := .pointer (some ⟨rb, 0, none⟩)) rfl (by kernel_rfl) (by kernel_rfl) (by kernel_rfl) (by kernel_rfl) (fun _ _ _ h => h) (Or.inl ⟨by rfl, fun w hSw => by clear hSw; go_simp⟩) hH ?_
      try simp only [Act.put, List.setIfInBounds_toArray, List.set_cons_zero, List.set_cons_succ, List.getElem_toArray, List.getElem_cons_succ, List.getElem_cons_zero]
      refine wpAnyZ_take (i := 2) (v := .pointer (some ⟨rb, 6, none⟩)) rfl (by kernel_rfl) (by kernel_rfl) (by kernel_rfl) (by kernel_rfl) (fun _ _ _ h => h) (Or.inl ⟨by rfl, fun w hSw => by clear hSw; go_simp⟩) hH ?_
      try simp only [Act.put, List.setIfInBounds_toArray, List.set_cons_zero, List.set_cons_succ, List.getElem_toArray, List.getElem_cons_succ, List.getElem_cons_zero]
      refine wpAnyZ_take (i := 3) (v := .map (some mb)) rfl (by kernel_rfl) (by kernel_rfl) (by kernel_rfl) (by kernel_rfl) (fun _ _ _ h => h) (Or.inl ⟨by rfl, fun w hSw => by have f0 := (HQ.out w hSw).1.c6; clear hSw; go_simp⟩) hH ?_
      try simp only [Act.put, List.setIfInBounds_toArray, List.set_cons_zero, List.set_cons_succ, List.getElem_toArray, List.getElem_cons_succ, List.getElem_cons_zero]
      refine wpAnyZ_take (i := 4) (v := .agg #[.string ar, .int .i64 lt]) rfl (by kernel_rfl) (by kernel_rfl) (by kernel_rfl) (by kernel_rfl) (fun _ _ _ h => h) (Or.inl ⟨by rfl, fun w hSw => by have f0 := blkCell (HQ.out w hSw).2.2 0 _ rfl; have f1 := blkCell (HQ.out w hSw).2.2 1 _ rfl; clear hSw; go_simp⟩) hH ?_
      try simp only [Act.put, List.setIfInBounds_toArray, List.set_cons_zero, List.set_cons_succ, List.getElem_toArray, List.getElem_cons_succ, List.getElem_cons_zero]
      refine wpAnyZ_take (i := 5) (v := .agg #[.string ar, .int .i64 lt, .int .i64 nu, .int .i64 un, .bool false]) rfl (by kernel_rfl) (by kernel_rfl) (by kernel_rfl) (by kernel_rfl) (fun _ _ _ h => h) (Or.inl ⟨by rfl, fun w hSw => by have f0 := blkCell (HQ.out w hSw).2.1 0 _ rfl; have f1 := blkCell (HQ.out w hSw).2.1 1 _ rfl; have f2 := blkCell (HQ.out w hSw).2.1 2 _ rfl; have f3 := blkCell (HQ.out w hSw).2.1 3 _ rfl; have f4 := blkCell (HQ.out w hSw).2.1 4 _ rfl; clear hSw; go_simp⟩) hH ?_
      try simp only [Act.put, List.setIfInBounds_toArray, List.set_cons_zero, List.set_cons_succ, List.getElem_toArray, List.getElem_cons_succ, List.getElem_cons_zero]
      refine wpAnyZ_take (i := 6) (v := .agg #[.string ar, .int .i64 lt, .int .i64 nu, .int .i64 un, .bool false]) rfl (by kernel_rfl) (by kernel_rfl) (by kernel_rfl) (by kernel_rfl) (fun _ _ _ h => h) (Or.inl ⟨by rfl, fun w hSw => by clear hSw; go_simp⟩) hH ?_
      try simp only [Act.put, List.setIfInBounds_toArray, List.set_cons_zero, List.set_cons_succ, List.getElem_toArray, List.getElem_cons_succ, List.getElem_cons_zero]
      refine wpAnyZ_take (i := 7) (v := .iface 97 (.agg #[.string ar, .int .i64 lt, .int .i64 nu, .int .i64 un, .bool false])) rfl (by kernel_rfl) (by kernel_rfl) (by kernel_rfl) (by kernel_rfl) (fun _ _ _ h => h) (Or.inl ⟨by rfl, fun w hSw => by clear hSw; go_simp⟩) hH ?_
      try simp only [Act.put, List.setIfInBounds_toArray, List.set_cons_zero, List.set_cons_succ, List.getElem_toArray, List.getElem_cons_succ, List.getElem_cons_zero]
      refine wpAnyZ_ready (rs := [8]) (by kernel_rfl) (by simp) ?_
      refine AllReadyZ.cons rfl (fun K hK => ?_) AllReadyZ.nil
      go_simp
      refine hK.out _ _ (Or.inl rfl) (fun _ => ?_)
      clear hK K
      try simp only [Act.put, List.setIfInBounds_toArray, List.set_cons_zero, List.set_cons_succ, List.getElem_toArray, List.getElem_cons_succ, List.getElem_cons_zero]
      refine wpAnyZ_done (by kernel_rfl) ?_ _
      clear hrun5' hH HQ
      go_wp2_with fail
      -- the order
      obtain ⟨i0, hi, hzz⟩ := Option.map_eq_some_iff.1 lkInfo
      simp only [Prod.mk.injEq] at hzz
      obtain ⟨hi0, hi1, hi2⟩ := hzz
      have hLl := HSt.out.len
      have HQ7 : Hid (∀ W : World, Fr (fun q => Value.ownBlock (.slice oa σ.L.length oc) = some q) W5 W → W.cell? ⟨rb, 7, none⟩ = some (.slice oa σ.L.length oc) ∧ W.frozen? ⟨rb, 7, none⟩ = false ∧ W.heap[kb]? = some (.cells #[.string ar, .int .i64 lt] 82 (0, 0))) := fun W hW => by
        have d := H4.out.1.dis
        have k1 : W.heap[rb]? = W4.heap[rb]? := (hW.block rb (by have := blkLt H4.out.1.blk; have := HF5.out.size; omega) d.ro).trans (HF5.out.block rb (blkLt H4.out.1.blk) d.rm)
        have k2 : W.heap[kb]? = W4.heap[kb]? := (hW.block kb (by have := blkLt H4.out.2.2.2.2.1; have := HF5.out.size; omega) (fun e => H4.out.2.2.2.2.2 (.inr (.inr (.inr e))))).trans (HF5.out.block kb (blkLt H4.out.2.2.2.2.1) (fun e => H4.out.2.2.2.2.2 (.inr (.inl e))))
        have k3 := k1.trans H4.out.1.blk
        exact ⟨blkCell k3 7 _ rfl, blkFree k3 7, k2.trans H4.out.2.2.2.2.1⟩
      have HO5 : Hid (W5.ownsRow B 82 2 (.slice oa σ.L.length oc) σ.L.length (kyCells σ.L) ∧ B ≤ W5.heap.size) := by
        have d := H4.out.1.dis
        refine ⟨row_of H4.out.1.ord (fun q hq => HF5.out.block q (row_lt H4.out.1.ord q hq).2 (fun e => d.mo (by rw [hq, e]))), ?_⟩
        have := H4.out.2.1.size
        have := HF5.out.size
        omega
      refine wp_region_z (S := fun W => Fr (fun q => Value.ownBlock (.slice oa σ.L.length oc) = some q) W5 W) 10 (by kernel_rfl) (Fr.of (below_drew _)) (fun hH => ?_)
      refine wpAnyZ_take (i := 0) (v := .pointer (some ⟨rb, 0, none⟩)) rfl (by kernel_rfl) (by kernel_rfl) (by kernel_rfl) (by kernel_rfl) (fun _ _ _ h => h) (Or.inl ⟨by rfl, fun w hSw => by go_simp⟩) hH ?_
      refine wpAnyZ_take (i := 1) (v := .pointer (some ⟨rb, 0, none⟩)) rfl (by kernel_rfl) (by kernel_rfl) (by kernel_rfl) (by kernel_rfl) (fun _ _ _ h => h) (Or.inl ⟨by rfl, fun w hSw => by go_simp⟩) hH ?_
      try simp only [Act.put, List.setIfInBounds_toArray, List.set_cons_zero, List.set_cons_succ, List.getElem_toArray, List.getElem_cons_succ, List.getElem_cons_zero]
      refine wpAnyZ_take (i := 2) (v := .pointer (some ⟨rb, 0, none⟩)) rfl (by kernel_rfl) (by kernel_rfl) (by kernel_rfl) (by kernel_rfl) (fun _ _ _ h => h) (Or.inl ⟨by rfl, fun w hSw => by go_simp⟩) hH ?_
      try simp only [Act.put, List.setIfInBounds_toArray, List.set_cons_zero, List.set_cons_succ, List.getElem_toArray, List.getElem_cons_succ, List.getElem_cons_zero]
      refine wpAnyZ_take (i := 3) (v := .pointer (some ⟨rb, 7, none⟩)) rfl (by kernel_rfl) (by kernel_rfl) (by kernel_rfl) (by kernel_rfl) (fun _ _ _ h => h) (Or.inl ⟨by rfl, fun w hSw => by go_simp⟩) hH ?_
      try simp only [Act.put, List.setIfInBounds_toArray, List.set_cons_zero, List.set_cons_succ, List.getElem_toArray, List.getElem_cons_succ, List.getElem_cons_zero]
      refine wpAnyZ_take (i := 4) (v := .slice oa σ.L.length oc) rfl (by kernel_rfl) (by kernel_rfl) (by kernel_rfl) (by kernel_rfl) (fun _ _ _ h => h) (Or.inl ⟨by rfl, fun w hSw => by have f0 := (HQ7.out w hSw).1; go_simp⟩) hH ?_
      try simp only [Act.put, List.setIfInBounds_toArray, List.set_cons_zero, List.set_cons_succ, List.getElem_toArray, List.getElem_cons_succ, List.getElem_cons_zero]
      refine wpAnyZ_take (i := 5) (v := .agg #[.string ar, .int .i64 lt]) rfl (by kernel_rfl) (by kernel_rfl) (by kernel_rfl) (by kernel_rfl) (fun _ _ _ h => h) (Or.inl ⟨by rfl, fun w hSw => by have f0 := blkCell (HQ7.out w hSw).2.2 0 _ rfl; have f1 := blkCell (HQ7.out w hSw).2.2 1 _ rfl; go_simp⟩) hH ?_
      try simp only [Act.put, List.setIfInBounds_toArray, List.set_cons_zero, List.set_cons_succ, List.getElem_toArray, List.getElem_cons_succ, List.getElem_cons_zero]
      refine wpAnyZ_ready (rs := [6]) (by kernel_rfl) (by simp) ?_
      refine AllReadyZ.cons rfl (fun K hK => ?_) AllReadyZ.nil
      go_simp
      have h11 : Below W5.heap.size W5 (W5.alloc (Obj.cells #[.string ar, .int .i64 lt] 82)).drew := chain (below_alloc _ _) (below_drew _)
      have hb11 : (W5.alloc (Obj.cells #[.string ar, .int .i64 lt] 82)).drew.heap[W5.heap.size]? = some (.cells #[.string ar, .int .i64 lt] 82 (0, 0)) := heapNew W5 _
      have hF11 : Fr (fun q => Value.ownBlock (.slice oa σ.L.length oc) = some q) W5 (W5.alloc (Obj.cells #[.string ar, .int .i64 lt] 82)).drew := Fr.of h11
      refine hK.out _ _ (Or.inr hF11) (fun _ => ?_)
      clear hK K
      try simp only [Act.put, List.setIfInBounds_toArray, List.set_cons_zero, List.set_cons_succ, List.getElem_toArray, List.getElem_cons_succ, List.getElem_cons_zero]
      generalize (W5.alloc (Obj.cells #[.string ar, .int .i64 lt] 82)).drew = W6 at *
      have HR6 : Hid (W6.ownsRow B 82 2 (.slice oa σ.L.length oc) σ.L.length (kyCells σ.L) ∧ B ≤ W6.heap.size) := ⟨row_of HO5.out.1 (fun q hq => h11.block q (row_lt HO5.out.1 q hq).2), Nat.le_trans HO5.out.2 h11.size⟩
      refine wpAnyZ_ready (rs := [7]) (by kernel_rfl) (by simp) ?_
      refine AllReadyZ.cons rfl (fun K hK => ?_) AllReadyZ.nil
      refine step_append_lies _ rfl (.tmp 42) (.tmp 44) 55 rfl B 82 i0 (.agg #[.string ⟨#[]⟩, .int .i64 0]) 2 24 Try.underlying55 hi hi0 hi1 hi2 rfl (by decide) (.slice oa σ.L.length oc) _ _ (by simp [Act.eval]) HR6.out.1 ⟨W5.heap.size, 0, none⟩ 1 1 [.string ar, .int .i64 lt] (by simp [Act.eval]) rfl (World.news_of_block hb11) (by simp [Value.oneCell']) (by omega) (by unfold maxLen; omega) (by omega) HR6.out.2 _ rfl (fun g1 cp1 w9 hown hgrow hat hglt => ?_)
      have hS9 : Fr (fun q => Value.ownBlock (.slice oa σ.L.length oc) = some q) W5 w9 := hF11.trans (fr_grown hgrow)
      have hat2 : Value.ownBlock (.slice oa σ.L.length oc) = some g1 ∨ W6.heap.size ≤ g1 := hat.imp id (fun r => by omega)
      have her := rcvRow (r := ⟨ar, lt, nu, un, false⟩) H4.out.1 HM5.out HF5.out h11 hown hgrow hat2
      have HNew : Hid (Value.ownBlock (.slice oa σ.L.length oc) = some g1 ∨ w.heap.size ≤ g1) := hat2.imp id (fun r => by have := h11.size; have := HF5.out.size; have := H4.out.2.1.size; omega)
      have HEr : Hid (Rn B rb mb ub { σ with L := σ.L ++ [⟨ar, lt, nu, un, false⟩] } (.slice (some ⟨g1, 0, none⟩) (σ.L.length + 1) cp1) (w9.setCell ⟨rb, 7, none⟩ (.slice (some ⟨g1, 0, none⟩) (σ.L.length + 1) cp1)) ∧ Fr (RnX rb mb ub (.slice oa σ.L.length oc)) W4 (w9.setCell ⟨rb, 7, none⟩ (.slice (some ⟨g1, 0, none⟩) (σ.L.length + 1) cp1))) := ⟨her.1, her.2.1⟩
      have y0 := her.2.2.2.1
      have y1 := her.2.2.2.2
      clear her hown hgrow hat hat2 hglt hb11 h11 hF11 hH
      refine hK.out _ _ (Or.inr hS9) (fun _ => ?_)
      clear hK K
      try simp only [Act.put, List.setIfInBounds_toArray, List.set_cons_zero, List.set_cons_succ, List.getElem_toArray, List.getElem_cons_succ, List.getElem_cons_zero]
      refine wpAnyZ_take (i := 8) (v := .pointer (some ⟨rb, 0, none⟩)) rfl (by kernel_rfl) (by kernel_rfl) (by kernel_rfl) (by kernel_rfl) (fun _ _ _ h => h) (Or.inl ⟨by rfl, fun w hSw => by go_simp⟩) hS9 ?_
      try simp only [Act.put, List.setIfInBounds_toArray, List.set_cons_zero, List.set_cons_succ, List.getElem_toArray, List.getElem_cons_succ, List.getElem_cons_zero]
      refine wpAnyZ_take (i := 9) (v := .pointer (some ⟨rb, 7, none⟩)) rfl (by kernel_rfl) (by kernel_rfl) (by kernel_rfl) (by kernel_rfl) (fun _ _ _ h => h) (Or.inl ⟨by rfl, fun w hSw => by go_simp⟩) hS9 ?_
      try simp only [Act.put, List.setIfInBounds_toArray, List.set_cons_zero, List.set_cons_succ, List.getElem_toArray, List.getElem_cons_succ, List.getElem_cons_zero]
      refine wpAnyZ_ready (rs := [10]) (by kernel_rfl) (by simp) ?_
      refine AllReadyZ.cons rfl (fun K hK => ?_) AllReadyZ.nil
      go_simp
      refine hK.out _ _ (Or.inl rfl) (fun _ => ?_)
      clear hK K
      try simp only [Act.put, List.setIfInBounds_toArray, List.set_cons_zero, List.set_cons_succ, List.getElem_toArray, List.getElem_cons_succ, List.getElem_cons_zero]
      refine wpAnyZ_done (by kernel_rfl) ?_ _
      clear y0 y1 hS9 HQ7 HO5 HR6
      have hl4 := H4.out.2.2.2.1
      have ho4 := H4.out.2.2.1
      have HL9 : Hid ((w9.setCell ⟨rb, 7, none⟩ (.slice (some ⟨g1, 0, none⟩) (σ.L.length + 1) cp1)).heap[lb]? = some (.cells #[.string ar, .int .i64 lt, .int .i64 nu, .int .i64 un, .bool false] 38 (0, 0)) ∧ (w9.setCell ⟨rb, 7, none⟩ (.slice (some ⟨g1, 0, none⟩) (σ.L.length + 1) cp1)).heap[w.heap.size + 1]? = some (.cells #[.int .i64 0, .int .i64 0] 36 (0, 0))) := ⟨(HEr.out.2.block lb (blkLt hl4) (H4.out.1.notX hl4 (by decide) (by decide))).trans hl4, (HEr.out.2.block _ (blkLt ho4) (H4.out.1.notX ho4 (by decide) (by decide))).trans ho4⟩
      have HF9 : Hid (Fr (RnX rb mb ub (.slice oa σ.L.length oc)) w (w9.setCell ⟨rb, 7, none⟩ (.slice (some ⟨g1, 0, none⟩) (σ.L.length + 1) cp1))) := (Fr.of H4.out.2.1).trans HEr.out.2
      generalize w9.setCell ⟨rb, 7, none⟩ (.slice (some ⟨g1, 0, none⟩) (σ.L.length + 1) cp1) = W9 at *
      clear hl4 ho4 HM5 HF5 H4
      go_wp2_with fail
      -- what was received
      have hrc := HSt.out.top
      have hrc0 := HSt.out.rc0.2
      have hws : IntKind.i64.wrap (σ.rc + nu) = σ.rc + nu := wrap_id _ (by omega) (by omega)
      have HQ9 : Hid (∀ W : World, W = W9.drew → RnC rb mb ub { σ with L := σ.L ++ [⟨ar, lt, nu, un, false⟩] } (.slice (some ⟨g1, 0, none⟩) (σ.L.length + 1) cp1) W ∧ W.heap[lb]? = some (.cells #[.string ar, .int .i64 lt, .int .i64 nu, .int .i64 un, .bool false] 38 (0, 0)) ∧ W.frozen? ⟨rb, 1, none⟩ = false) := fun W hW => by subst hW; exact ⟨(HEr.out.1.later (below_drew _)).at, HL9.out.1, (HEr.out.1.later (below_drew _)).free 1⟩
      obtain ⟨Wd, hWd⟩ : ∃ Wd, Wd = W9.drew := ⟨_, rfl⟩
      have HEnd : Hid (Rn B rb mb ub { σ with L := σ.L ++ [⟨ar, lt, nu, un, false⟩], rc := σ.rc + nu } (.slice (some ⟨g1, 0, none⟩) (σ.L.length + 1) cp1) (Wd.setCell ⟨rb, 1, none⟩ (.int .i64 (σ.rc + nu))) ∧ Fr (RnX rb mb ub (.slice oa σ.L.length oc)) w (Wd.setCell ⟨rb, 1, none⟩ (.int .i64 (σ.rc + nu))) ∧ (Wd.setCell ⟨rb, 1, none⟩ (.int .i64 (σ.rc + nu))).heap[lb]? = some (.cells #[.string ar, .int .i64 lt, .int .i64 nu, .int .i64 un, .bool false] 38 (0, 0)) ∧ (Wd.setCell ⟨rb, 1, none⟩ (.int .i64 (σ.rc + nu))).heap[w.heap.size + 1]? = some (.cells #[.int .i64 0, .int .i64 0] 36 (0, 0))) := by
        subst hWd
        have hR := HEr.out.1.later (below_drew W9)
        have n1 : lb ≠ rb := fun e => HEr.out.1.notX HL9.out.1 (by decide) (by decide) (.inl e)
        have n2 : w.heap.size + 1 ≠ rb := fun e => HEr.out.1.notX HL9.out.2 (by decide) (by decide) (.inl e)
        exact ⟨hR.setRc (σ.rc + nu), ((HF9.out.trans (Fr.of (below_drew _))).set (b := rb) (.inl rfl) _ _), (Below.heap_setCell _ _ _ _ n1).trans HL9.out.1, (Below.heap_setCell _ _ _ _ n2).trans HL9.out.2⟩
      refine wp_region_z (S := fun W => W = W9.drew) 11 (by kernel_rfl) rfl (fun hH => ?_)
      rw [← hWd] at hH HQ9 ⊢
      clear hWd
      refine wpAnyZ_take (i := 0) (v := .pointer (some ⟨rb, 0, none⟩)) rfl (by kernel_rfl) (by kernel_rfl) (by kernel_rfl) (by kernel_rfl) (fun _ _ _ h => h) (Or.inl ⟨by rfl, fun w hSw => by clear hSw; go_simp⟩) hH ?_
      refine wpAnyZ_take (i := 1) (v := .pointer (some ⟨rb, 0, none⟩)) rfl (by kernel_rfl) (by kernel_rfl) (by kernel_rfl) (by kernel_rfl) (fun _ _ _ h => h) (Or.inl ⟨by rfl, fun w hSw => by clear hSw; go_simp⟩) hH ?_
      try simp only [Act.put, List.setIfInBounds_toArray, List.set_cons_zero, List.set_cons_succ, List.getElem_toArray, List.getElem_cons_succ, List.getElem_cons_zero]
      refine wpAnyZ_take (i := 2) (v := .pointer (some ⟨rb, 0, none⟩)) rfl (by kernel_rfl) (by kernel_rfl) (by kernel_rfl) (by kernel_rfl) (fun _ _ _ h => h) (Or.inl ⟨by rfl, fun w hSw => by clear hSw; go_simp⟩) hH ?_
      try simp only [Act.put, List.setIfInBounds_toArray, List.set_cons_zero, List.set_cons_succ, List.getElem_toArray, List.getElem_cons_succ, List.getElem_cons_zero]
      refine wpAnyZ_take (i := 3) (v := .pointer (some ⟨rb, 1, none⟩)) rfl (by kernel_rfl) (by kernel_rfl) (by kernel_rfl) (by kernel_rfl) (fun _ _ _ h => h) (Or.inl ⟨by rfl, fun w hSw => by clear hSw; go_simp⟩) hH ?_
      try simp only [Act.put, List.setIfInBounds_toArray, List.set_cons_zero, List.set_cons_succ, List.getElem_toArray, List.getElem_cons_succ, List.getElem_cons_zero]
      refine wpAnyZ_take (i := 4) (v := .int .i64 σ.rc) rfl (by kernel_rfl) (by kernel_rfl) (by kernel_rfl) (by kernel_rfl) (fun _ _ _ h => h) (Or.inl ⟨by rfl, fun w hSw => by have f0 := (HQ9.out w hSw).1.c1; clear hSw; go_simp⟩) hH ?_
      try simp only [Act.put, List.setIfInBounds_toArray, List.set_cons_zero, List.set_cons_succ, List.getElem_toArray, List.getElem_cons_succ, List.getElem_cons_zero]
      refine wpAnyZ_take (i := 5) (v := .pointer (some ⟨lb, 2, none⟩)) rfl (by kernel_rfl) (by kernel_rfl) (by kernel_rfl) (by kernel_rfl) (fun _ _ _ h => h) (Or.inl ⟨by rfl, fun w hSw => by clear hSw; go_simp⟩) hH ?_
      try simp only [Act.put, List.setIfInBounds_toArray, List.set_cons_zero, List.set_cons_succ, List.getElem_toArray, List.getElem_cons_succ, List.getElem_cons_zero]
      refine wpAnyZ_take (i := 6) (v := .int .i64 nu) rfl (by kernel_rfl) (by kernel_rfl) (by kernel_rfl) (by kernel_rfl) (fun _ _ _ h => h) (Or.inl ⟨by rfl, fun w hSw => by have f0 := blkCell (HQ9.out w hSw).2.1 2 _ rfl; clear hSw; go_simp⟩) hH ?_
      try simp only [Act.put, List.setIfInBounds_toArray, List.set_cons_zero, List.set_cons_succ, List.getElem_toArray, List.getElem_cons_succ, List.getElem_cons_zero]
      refine wpAnyZ_take (i := 7) (v := .int .i64 (σ.rc + nu)) rfl (by kernel_rfl) (by kernel_rfl) (by kernel_rfl) (by kernel_rfl) (fun _ _ _ h => h) (Or.inl ⟨by rfl, fun w hSw => by clear hSw; go_simp⟩) hH ?_
      try simp only [Act.put, List.setIfInBounds_toArray, List.set_cons_zero, List.set_cons_succ, List.getElem_toArray, List.getElem_cons_succ, List.getElem_cons_zero]
      refine wpAnyZ_take (i := 8) (v := .pointer (some ⟨rb, 0, none⟩)) rfl (by kernel_rfl) (by kernel_rfl) (by kernel_rfl) (by kernel_rfl) (fun _ _ _ h => h) (Or.inl ⟨by rfl, fun w hSw => by clear hSw; go_simp⟩) hH ?_
      try simp only [Act.put, List.setIfInBounds_toArray, List.set_cons_zero, List.set_cons_succ, List.getElem_toArray, List.getElem_cons_succ, List.getElem_cons_zero]
      refine wpAnyZ_take (i := 9) (v := .pointer (some ⟨rb, 0, none⟩)) rfl (by kernel_rfl) (by kernel_rfl) (by kernel_rfl) (by kernel_rfl) (fun _ _ _ h => h) (Or.inl ⟨by rfl, fun w hSw => by clear hSw; go_simp⟩) hH ?_
      try simp only [Act.put, List.setIfInBounds_toArray, List.set_cons_zero, List.set_cons_succ, List.getElem_toArray, List.getElem_cons_succ, List.getElem_cons_zero]
      refine wpAnyZ_take (i := 10) (v := .pointer (some ⟨rb, 1, none⟩)) rfl (by kernel_rfl) (by kernel_rfl) (by kernel_rfl) (by kernel_rfl) (fun _ _ _ h => h) (Or.inl ⟨by rfl, fun w hSw => by clear hSw; go_simp⟩) hH ?_
      try simp only [Act.put, List.setIfInBounds_toArray, List.set_cons_zero, List.set_cons_succ, List.getElem_toArray, List.getElem_cons_succ, List.getElem_cons_zero]
      refine wpAnyZ_ready (rs := [11]) (by kernel_rfl) (by simp) ?_
      refine AllReadyZ.cons rfl (fun K hK => ?_) AllReadyZ.nil
      have y0 := (HQ9.out Wd rfl).1.c1
      have y1 := (HQ9.out Wd rfl).2.2
      go_simp
      refine hK.out _ _ (Or.inl rfl) (fun _ => ?_)
      clear hK K
      try simp only [Act.put, List.setIfInBounds_toArray, List.set_cons_zero, List.set_cons_succ, List.getElem_toArray, List.getElem_cons_succ, List.getElem_cons_zero]
      refine wpAnyZ_done (by kernel_rfl) ?_ _
      clear y0 y1 HQ9 hH HEr HL9 HF9
      generalize Wd.setCell ⟨rb, 1, none⟩ (.int .i64 (σ.rc + nu)) = We at *
      have l2 := blkCell HEnd.out.2.2.1 2 _ rfl
      have y0 := blkCell HEnd.out.2.2.2 0 _ rfl
      have y1 := blkCell HEnd.out.2.2.2 1 _ rfl
      have z0 := blkFree HEnd.out.2.2.2 0
      have z1 := blkFree HEnd.out.2.2.2 1
      go_wp2
      obtain ⟨k1, k2, k3⟩ := obsEnd HEnd.out.1 HEnd.out.2.2.2 (.int .i64 0) (.int .i64 nu)
      have kf := HEnd.out.2.1.far2 k3 (by omega)
      generalize (We.setCell ⟨w.heap.size + 1, 0, none⟩ (.int .i64 0)).setCell ⟨w.heap.size + 1, 1, none⟩ (.int .i64 nu) = W10 at *
      have p0 := blkCell k2 0 _ rfl
      have p1 := blkCell k2 1 _ rfl
      refine bodyPost_ret (v := .agg #[.int .i64 0, .int .i64 nu]) (by simp [results, Try.results38, go_sem, p0, p1]) rfl ⟨by rw [HDn.out], kf, _, by rw [HDj.out]; exact k1, fun q hq => ?_⟩
      have hq2 : g1 = q := by simpa [Value.ownBlock] using hq
      rw [← hq2]; exact HNew.out
  · have hc1 : (rc != 0) = true := by simpa using hc
    rw [if_neg hc] at HDj HDn
    have HD : Hid (Rn B rb mb ub σ (.slice oa σ.L.length oc) w1 ∧ w1.heap[w.heap.size + 1]? = some (.cells #[.int .i64 0, .int .i64 0] 36 (0, 0)) ∧ Fr (RnX rb mb ub (.slice oa σ.L.length oc)) w w1) := by
      obtain ⟨k1, k2, k3, k4⟩ := HR.out w1 HB1.out
      exact ⟨k1, k4, Fr.of k2⟩
    have y0 := blkCell HD.out.2.1 0 _ rfl
    have y1 := blkCell HD.out.2.1 1 _ rfl
    have z0 := blkFree HD.out.2.1 0
    have z1 := blkFree HD.out.2.1 1
    clear HR HW HB1 HC0
    go_wp2
    obtain ⟨k1, k2, k3⟩ := obsEnd HD.out.1 HD.out.2.1 (.int .i64 rc) (.int .i64 0)
    have kf := HD.out.2.2.far2 k3 (by omega)
    generalize (w1.setCell ⟨w.heap.size + 1, 0, none⟩ (.int .i64 rc)).setCell ⟨w.heap.size + 1, 1, none⟩ (.int .i64 0) = W9 at *
    have p0 := blkCell k2 0 _ rfl
    have p1 := blkCell k2 1 _ rfl
    exact bodyPost_ret (v := .agg #[.int .i64 rc, .int .i64 0]) (by simp [results, Try.results38, go_sem, p0, p1]) rfl (ObP.mk' kf (by rw [HDj.out]; exact k1) (by rw [HDn.out]))
end Go.Proofs.Ytlfcaijhlgldnaa

/-
  What BestMarks answers, as a function of its arguments; the contract of the program's BestMarks.
-/
import Derived.Test.YtlcnhkhkhlpghaaMrE
import Derived.Test.YtlcnhkhkhlpghaaMqD
namespace Go.Proofs.Ytlcnhkhkhlpghaa
open Go.ChangeShapes Go.WideShapes Go.ChangeAt Go.RowKit Go.Deep
set_option linter.unusedVariables false

/-- The best steps. -/
def bmT (price stock : Int) (ps : List Int) (cs : LL) : List Int := bsL (prL price ps) cs ps.length stock cs.length
def bmL (price stock : Int) (ps : List Int) (cs : LL) : List Int := if mkF price stock ps cs = 0 then bmT price stock ps cs else []
def bmS (price stock : Int) (ps : List Int) (cs : LL) : List Int := if mkF price stock ps cs = 0 then slN cs (bmT price stock ps cs) stock cs.length else []
def bmV (price stock : Int) (ps : List Int) (cs : LL) : Int := if mkF price stock ps cs = 0 then rvN (prL price ps) cs (bmT price stock ps cs) stock cs.length else 0
def bmE (price stock : Int) (ps : List Int) (cs : LL) : Int := if mkF price stock ps cs = 0 then lfN cs (bmT price stock ps cs) stock cs.length else 0
def AnsMb (price stock : Int) (ps : List Int) (cs : LL) (w : World) (e : Ending) (w' : World) : Prop := AnsM (mkF price stock ps cs) (bmL price stock ps cs) (bmS price stock ps cs) (bmV price stock ps cs) (bmE price stock ps cs) w e w'
def AnsWb (price stock : Int) (ps : List Int) (cs : LL) (w : World) (e : Ending) (w' : World) : Prop := AnsW (mkF price stock ps cs) (bmL price stock ps cs) (bmS price stock ps cs) (bmV price stock ps cs) (bmE price stock ps cs) w e w'
theorem bmT_len (price stock : Int) (ps : List Int) (cs : LL) : (bmT price stock ps cs).length = cs.length := bsL_len _ _ _ _ _
theorem bmL_len (price stock : Int) (ps : List Int) (cs : LL) : (bmL price stock ps cs).length ≤ 1048576 := by
  unfold bmL
  split
  · rename_i h
    have := (mkF_zero h).cl.2
    rw [bmT_len]; omega
  · exact Nat.zero_le _
theorem bmS_len (price stock : Int) (ps : List Int) (cs : LL) : (bmS price stock ps cs).length ≤ 1048576 := by
  unfold bmS
  split
  · rename_i h
    have := (mkF_zero h).cl.2
    rw [slN_len]; omega
  · exact Nat.zero_le _
theorem bmT_ok {price stock : Int} {ps : List Int} {cs : LL} (h : mkF price stock ps cs = 0) : stB ps.length cs.length (bmT price stock ps cs) = true := bs_steps (mkF_zero h).mr (mkF_zero h).st.1 (mkF_zero h).st.2
theorem ansMb_none {price stock : Int} {ps : List Int} {cs : LL} {w w' : World} {c : Int} (h : mkF price stock ps cs = c) (hc : c ≠ 0) (hb : Below w.heap.size w w') : AnsMb price stock ps cs w (.returned (.tuple #[.agg #[.slice none 0 0, .slice none 0 0, .int .i64 0, .int .i64 0], .int .i64 c])) w' := by
  have hn : mkF price stock ps cs ≠ 0 := by rw [h]; exact hc
  unfold AnsMb bmL bmS bmV bmE
  rw [if_neg hn, if_neg hn, if_neg hn, if_neg hn, h]
  exact ansM_none hb
theorem ansWb_none {price stock : Int} {ps : List Int} {cs : LL} {w w' : World} {c : Int} (h : mkF price stock ps cs = c) (hc : c ≠ 0) (hb : Below w.heap.size w w') : AnsWb price stock ps cs w (.returned (.tuple #[.agg #[.slice none 0 0, .slice none 0 0, .int .i64 0, .int .i64 0], .int .i64 c])) w' := by
  have hn : mkF price stock ps cs ≠ 0 := by rw [h]; exact hc
  unfold AnsWb bmL bmS bmV bmE
  rw [if_neg hn, if_neg hn, if_neg hn, if_neg hn, h]
  exact ansW_none hb
theorem ansMb_some {price stock : Int} {ps : List Int} {cs : LL} {w w' : World} {q s : Option Addr} {cq cs' mid : Nat} (h : mkF price stock ps cs = 0) (hm : w.heap.size ≤ mid ∧ mid ≤ w'.heap.size) (h1 : RowI w.heap.size mid w' q (bmT price stock ps cs)) (h2 : RowI mid w'.heap.size w' s (slN cs (bmT price stock ps cs) stock cs.length)) (hb : Below w.heap.size w w') : AnsMb price stock ps cs w (.returned (.tuple #[.agg #[.slice q cs.length cq, .slice s cs.length cs', .int .i64 (rvN (prL price ps) cs (bmT price stock ps cs) stock cs.length), .int .i64 (lfN cs (bmT price stock ps cs) stock cs.length)], .int .i64 0])) w' := by
  unfold AnsMb bmL bmS bmV bmE
  rw [if_pos h, if_pos h, if_pos h, if_pos h, h]
  exact ⟨q, cq, s, cs', mid, by rw [slN_len, bmT_len], hm, h1, h2, hb⟩
/-- What MarkOf tells of the best steps is what BestMarks tells. -/
theorem mk_best {price stock : Int} {ps : List Int} {cs : LL} (h : mkF price stock ps cs = 0) : mkC price stock ps cs (bmT price stock ps cs) = 0 := by
  have := (mkF_zero h).cl.2
  unfold mkC
  rw [if_neg (by rw [bmT_len]; omega), if_pos h, if_pos (bmT_ok h)]
theorem ansWb_of {price stock : Int} {ps : List Int} {cs : LL} (h : mkF price stock ps cs = 0) {w : World} {e : Ending} {w' : World} (k : AnsWk price stock ps cs (bmT price stock ps cs) w e w') : AnsWb price stock ps cs w e w' := by
  have hc := mk_best h
  unfold AnsWk mkL mkS' mkV mkE at k
  rw [if_pos hc, if_pos hc, if_pos hc, if_pos hc, hc, bmT_len] at k
  unfold AnsWb bmL bmS bmV bmE
  rw [if_pos h, if_pos h, if_pos h, if_pos h, h]
  exact k
set_option maxHeartbeats 8000000 in
set_option maxRecDepth 4000 in
theorem implBestMarks_any (price stock : Int) (a : Option Addr) (ca : Nat) (ps : List Int) (hl : ps.length ≤ 100000000) (b : Option Addr) (cb : Nat) (cs : LL) (hk : cs.length ≤ 100000000) (hp : ∀ r ∈ cs, DmOK r) (w : World) (hr : Reads w.heap.size w a ps) (ks : ReadsDm w.heap.size w b cs) :
    Calls Try.prog 9 #[.int .i64 price, .int .i64 stock, .slice a ps.length ca, .slice b cs.length cb] w (AnsMb price stock ps cs w) := by
  have HNo : Hid (∀ (c : Int) (w' : World), mkF price stock ps cs = c → c ≠ 0 → Below w.heap.size w w' → AnsMb price stock ps cs w (.returned (.tuple #[.agg #[.slice none 0 0, .slice none 0 0, .int .i64 0, .int .i64 0], .int .i64 c])) w') := fun c w' h1 h2 h3 => ansMb_none h1 h2 h3
  obtain ⟨W0, hW0⟩ : ∃ W0, W0 = w.alloc (Obj.cells #[.slice none 0 0, .slice none 0 0, .int .i64 0, .int .i64 0] 28) := ⟨_, rfl⟩
  obtain ⟨R, hR⟩ : ∃ R, R = w.heap.size := ⟨_, rfl⟩
  have HW0 : Hid (W0 = w.alloc (Obj.cells #[.slice none 0 0, .slice none 0 0, .int .i64 0, .int .i64 0] 28) ∧ R = w.heap.size) := ⟨hW0, hR⟩
  have HB0 : Hid (Below w.heap.size w W0) := by show Below _ _ _; rw [hW0]; exact below_alloc _ _
  have HRx : Hid (W0.heap[R]? = some (.cells #[.slice none 0 0, .slice none 0 0, .int .i64 0, .int .i64 0] 28 (0, 0))) := by show _ = _; rw [hW0, hR]; exact heapNew _ _
  have hRw : w.heap.size ≤ R := by rw [hR]; exact Nat.le_refl _
  have hRz : R < W0.heap.size := by rw [hW0, hR]; simp
  have HF : Hid (∀ W, Below w.heap.size w W → Calls Try.prog 30 #[.int .i64 price, .int .i64 stock, .slice a ps.length ca, .slice b cs.length cb] W fun e w' => e = .returned (.int .i64 (mkF price stock ps cs)) ∧ Below W.heap.size W w') := fun W hb => marksFault_any price stock a ca ps hl b cb cs hk hp W (hr.later hb) (ks.later hb)
  have HR : Hid (Reads w.heap.size w a ps) := hr
  have HK : Hid (ReadsDm w.heap.size w b cs) := ks
  clear hr ks hp hW0 hR
  by_cases hf : mkF price stock ps cs = 0
  case neg =>
    have HNz : Hid (mkF price stock ps cs ≠ 0) := hf
    have hfb : (mkF price stock ps cs != 0) = true := by simpa using hf
    have HC : Hid (∀ w', Below w.heap.size w w' → AnsMb price stock ps cs w (.returned (.tuple #[.agg #[.slice none 0 0, .slice none 0 0, .int .i64 0, .int .i64 0], .int .i64 (mkF price stock ps cs)])) w') := fun w' hb => HNo.out _ w' rfl hf hb
    clear HR HK hf HNo
    go_enter Try.func9, Try.ntmps9
    go_upto_region 1 with fail
    rw [← HW0.out.1, ← HW0.out.2]
    clear HW0
    go_wp2_with fail
    (first | go_at_call 30 | skip)
    refine (HF.out W0 HB0.out).mono ?_
    rintro e w1 ⟨rfl, hb1⟩
    have HB1 : Hid (Below W0.heap.size W0 w1) := hb1
    clear hb1 HF
    have hrx := (HB1.out.block R (blkLt HRx.out)).trans HRx.out
    have z0 := blkCell hrx 0 _ rfl
    have z1 := blkCell hrx 1 _ rfl
    have z2 := blkCell hrx 2 _ rfl
    have z3 := blkCell hrx 3 _ rfl
    have y0 := blkFree hrx 0
    have y1 := blkFree hrx 1
    have y2 := blkFree hrx 2
    have y3 := blkFree hrx 3
    simp only [List.getElem_toArray, List.getElem_cons_zero, List.getElem_cons_succ] at z0 z1 z2 z3
    clear hrx
    go_wp2_with fail
    refine bodyPost_ret (v := .tuple #[.agg #[.slice none 0 0, .slice none 0 0, .int .i64 0, .int .i64 0], .int .i64 (mkF price stock ps cs)]) (by simp [results, Try.results9, go_sem, z0, z1, z2, z3]) rfl ?_
    refine HC.out _ ?_
    repeat refine Below.setCell ?_ (by dsimp only; omega) _
    exact chain HB0.out HB1.out
  have hok := mkF_zero hf
  have hT := bmT_ok hf
  have HYe : Hid (∀ (q s : Option Addr) (cq cs' mid : Nat) (w' : World), (w.heap.size ≤ mid ∧ mid ≤ w'.heap.size) → RowI w.heap.size mid w' q (bmT price stock ps cs) → RowI mid w'.heap.size w' s (slN cs (bmT price stock ps cs) stock cs.length) → Below w.heap.size w w' → AnsMb price stock ps cs w (.returned (.tuple #[.agg #[.slice q cs.length cq, .slice s cs.length cs', .int .i64 (rvN (prL price ps) cs (bmT price stock ps cs) stock cs.length), .int .i64 (lfN cs (bmT price stock ps cs) stock cs.length)], .int .i64 0])) w') := fun q s cq cs' mid w' h2 h3 h4 h5 => ansMb_some hf h2 h3 h4 h5
  have HLa : Hid (∀ W, Below w.heap.size w W → Calls Try.prog 31 #[.int .i64 price, .slice a ps.length ca, .slice b cs.length cb] W fun e w' => ∃ g cp, e = .returned (.agg #[.slice (some ⟨g, 0, none⟩) ps.length cp, .slice b cs.length cb]) ∧ Reads w'.heap.size w' (some ⟨g, 0, none⟩) (prL price ps) ∧ Below W.heap.size W w') := fun W hb => ladderOf_any price hok.pr.1 hok.pr.2 a ca ps hok.pl.2 hok.pv b cs.length cb W (HR.out.later hb)
  have HBs : Hid (∀ g cp W, Below w.heap.size w W → Reads W.heap.size W (some ⟨g, 0, none⟩) (prL price ps) → Calls Try.prog 35 #[.agg #[.slice (some ⟨g, 0, none⟩) ps.length cp, .slice b cs.length cb], .int .i64 stock] W fun e w' => ∃ q cq, e = .returned (.slice (some ⟨q, 0, none⟩) cs.length cq) ∧ Own2 W.heap.size w' (some ⟨q, 0, none⟩) (bmT price stock ps cs) ∧ Below W.heap.size W w') := fun g cp W hb h1 => bestSteps_any (prL price ps) cs ps.length hok.mr stock hok.st.1 hok.st.2 g cp b cb W h1 (HK.out.later hb)
  have HPl : Hid (∀ g cp q cq W, Below w.heap.size w W → Reads W.heap.size W (some ⟨g, 0, none⟩) (prL price ps) → Reads W.heap.size W q (bmT price stock ps cs) → Calls Try.prog 33 #[.agg #[.slice (some ⟨g, 0, none⟩) ps.length cp, .slice b cs.length cb], .int .i64 stock, .slice q cs.length cq] W fun e w' => ∃ g cp, e = .returned (.agg #[.slice q cs.length cq, .slice (some ⟨g, 0, none⟩) cs.length cp, .int .i64 (rvN (prL price ps) cs (bmT price stock ps cs) stock cs.length), .int .i64 (lfN cs (bmT price stock ps cs) stock cs.length)]) ∧ Own2 W.heap.size w' (some ⟨g, 0, none⟩) (slN cs (bmT price stock ps cs) stock cs.length) ∧ Below W.heap.size W w') := fun g cp q cq W hb h2 h3 => by
    have := plan_any price stock ps cs hok (bmT price stock ps cs) (stOK_of hT) g cp b cb q cq W h2 (HK.out.later hb) h3
    rw [bmT_len] at this
    exact this
  rw [hf] at HF
  clear hf hok hT HNo
  go_enter Try.func9, Try.ntmps9
  go_upto_region 1 with fail
  rw [← HW0.out.1, ← HW0.out.2]
  clear HW0
  go_wp2_with fail
  (first | go_at_call 30 | skip)
  refine (HF.out W0 HB0.out).mono ?_
  rintro e w1 ⟨rfl, hb1⟩
  have HB1 : Hid (Below W0.heap.size W0 w1) := hb1
  clear hb1 HF
  go_wp2_with fail
  (first | go_at_call 31 | skip)
  refine (HLa.out w1 (chain HB0.out HB1.out)).mono ?_
  rintro e w2 ⟨g, cp, rfl, hrd, hb2⟩
  have HB2 : Hid (Below W0.heap.size W0 w2) := chain HB1.out hb2
  have HRd : Hid (Reads w2.heap.size w2 (some ⟨g, 0, none⟩) (prL price ps)) := hrd
  clear hb2 hrd HLa HB1
  obtain ⟨W3, hW3⟩ : ∃ W3, W3 = w2.alloc (Obj.cells #[.slice (some ⟨g, 0, none⟩) ps.length cp, .slice b cs.length cb] 55) := ⟨_, rfl⟩
  obtain ⟨D, hD⟩ : ∃ D, D = w2.heap.size := ⟨_, rfl⟩
  have HW3 : Hid (W3 = w2.alloc (Obj.cells #[.slice (some ⟨g, 0, none⟩) ps.length cp, .slice b cs.length cb] 55) ∧ D = w2.heap.size) := ⟨hW3, hD⟩
  have hb3 : Below w2.heap.size w2 W3 := by rw [hW3]; exact below_alloc _ _
  have HB3 : Hid (Below W0.heap.size W0 W3) := chain HB2.out hb3
  have HRd3 : Hid (Reads W3.heap.size W3 (some ⟨g, 0, none⟩) (prL price ps)) := HRd.out.later hb3
  have HDx : Hid (W3.heap[D]? = some (.cells #[.slice (some ⟨g, 0, none⟩) ps.length cp, .slice b cs.length cb] 55 (0, 0))) := by show _ = _; rw [hW3, hD]; exact heapNew _ _
  clear hW3 hD hb3 HRd HB2
  go_upto_region 5 with fail
  rw [← HW3.out.1, ← HW3.out.2]
  clear HW3
  have HB4w : Hid (Below w.heap.size w W3) := chain HB0.out HB3.out
  have HRx4 : Hid (W3.heap[R]? = some (.cells #[.slice none 0 0, .slice none 0 0, .int .i64 0, .int .i64 0] 28 (0, 0))) := (HB3.out.block R hRz).trans HRx.out
  have hRz4 := blkLt HRx4.out
  have hDz4 := blkLt HDx.out
  generalize rvN (prL price ps) cs (bmT price stock ps cs) stock cs.length = rv at *
  generalize lfN cs (bmT price stock ps cs) stock cs.length = lf at *
  generalize slN cs (bmT price stock ps cs) stock cs.length = SL at *
  generalize bmT price stock ps cs = ss at *
  clear HB3 HRx HB0
  have hbd : Below W3.heap.size W3 W3.drew := below_drew _
  refine wp_region_z (S := fun X => X.heap[D]? = some (.cells #[.slice (some ⟨g, 0, none⟩) ps.length cp, .slice b cs.length cb] 55 (0, 0))) 6 (by kernel_rfl) ((hbd.block D hDz4).trans HDx.out) (fun hH => ?_)
  refine wpAnyZ_take (i := 0) (v := .agg #[.slice (some ⟨g, 0, none⟩) ps.length cp, .slice b cs.length cb]) rfl (by kernel_rfl) (by kernel_rfl) (by kernel_rfl) (by kernel_rfl) (fun _ _ _ h => h) (Or.inl ⟨by rfl, fun w hSw => by have f0 := blkCell hSw 0 _ rfl; have f1 := blkCell hSw 1 _ rfl; simp only [List.getElem_toArray, List.getElem_cons_zero, List.getElem_cons_succ] at f0 f1; clear hSw; go_simp⟩) hH ?_
  refine wpAnyZ_take (i := 1) (v := .int .i64 stock) rfl (by kernel_rfl) (by kernel_rfl) (by kernel_rfl) (by kernel_rfl) (fun _ _ _ h => h) (Or.inl ⟨by rfl, fun w hSw => by clear hSw; go_simp⟩) hH ?_
  try simp only [Act.put, List.setIfInBounds_toArray, List.set_cons_zero, List.set_cons_succ, List.getElem_toArray, List.getElem_cons_succ, List.getElem_cons_zero]
  refine wpAnyZ_take (i := 2) (v := .agg #[.slice (some ⟨g, 0, none⟩) ps.length cp, .slice b cs.length cb]) rfl (by kernel_rfl) (by kernel_rfl) (by kernel_rfl) (by kernel_rfl) (fun _ _ _ h => h) (Or.inl ⟨by rfl, fun w hSw => by have f0 := blkCell hSw 0 _ rfl; have f1 := blkCell hSw 1 _ rfl; simp only [List.getElem_toArray, List.getElem_cons_zero, List.getElem_cons_succ] at f0 f1; clear hSw; go_simp⟩) hH ?_
  try simp only [Act.put, List.setIfInBounds_toArray, List.set_cons_zero, List.set_cons_succ, List.getElem_toArray, List.getElem_cons_succ, List.getElem_cons_zero]
  refine wpAnyZ_take (i := 3) (v := .int .i64 stock) rfl (by kernel_rfl) (by kernel_rfl) (by kernel_rfl) (by kernel_rfl) (fun _ _ _ h => h) (Or.inl ⟨by rfl, fun w hSw => by clear hSw; go_simp⟩) hH ?_
  try simp only [Act.put, List.setIfInBounds_toArray, List.set_cons_zero, List.set_cons_succ, List.getElem_toArray, List.getElem_cons_succ, List.getElem_cons_zero]
  refine wpAnyZ_ready (rs := [4]) (by kernel_rfl) (by simp) ?_
  refine AllReadyZ.cons rfl (fun K hK => ?_) AllReadyZ.nil
  go_simp
  go_at_call 35
  refine (HBs.out g cp _ (chain HB4w.out hbd) (HRd3.out.later hbd)).mono ?_
  rintro e w5 ⟨q, cq, rfl, ho5, hb5⟩
  have h5 : Below W3.heap.size W3 w5 := chain hbd hb5
  have HO5 : Hid (Own2 W3.heap.size w5 (some ⟨q, 0, none⟩) ss) := own2_low' ho5 hbd.size
  clear ho5 hb5
  refine hK.out _ _ (Or.inr ((h5.block D hDz4).trans HDx.out)) (fun _ => ?_)
  clear hK K
  try simp only [Act.put, List.setIfInBounds_toArray, List.set_cons_zero, List.set_cons_succ, List.getElem_toArray, List.getElem_cons_succ, List.getElem_cons_zero]
  refine wpAnyZ_ready (rs := [5]) (by kernel_rfl) (by simp) ?_
  refine AllReadyZ.cons rfl (fun K hK => ?_) AllReadyZ.nil
  go_simp
  go_at_call 33
  refine (HPl.out g cp _ _ w5 (chain HB4w.out h5) (HRd3.out.later h5) HO5.out.reads).mono ?_
  rintro e w6 ⟨sg, sp, rfl, ho6, hb6⟩
  have h6 : Below W3.heap.size W3 w6 := chain h5 hb6
  have HB5 : Hid (Below W3.heap.size W3 w5) := h5
  have HB6 : Hid (Below w5.heap.size w5 w6) := hb6
  have HO6 : Hid (Own2 w5.heap.size w6 (some ⟨sg, 0, none⟩) SL) := ho6
  clear ho6 hb6
  refine hK.out _ _ (Or.inr ((h6.block D hDz4).trans HDx.out)) (fun _ => ?_)
  clear hK K
  try simp only [Act.put, List.setIfInBounds_toArray, List.set_cons_zero, List.set_cons_succ, List.getElem_toArray, List.getElem_cons_succ, List.getElem_cons_zero]
  refine wpAnyZ_ready (rs := [6]) (by kernel_rfl) (by simp) ?_
  refine AllReadyZ.cons rfl (fun K hK => ?_) AllReadyZ.nil
  have hrx := (h6.block R hRz4).trans HRx4.out
  have z0 := blkCell hrx 0 _ rfl
  have z1 := blkCell hrx 1 _ rfl
  have z2 := blkCell hrx 2 _ rfl
  have z3 := blkCell hrx 3 _ rfl
  have y0 := blkFree hrx 0
  have y1 := blkFree hrx 1
  have y2 := blkFree hrx 2
  have y3 := blkFree hrx 3
  simp only [List.getElem_toArray, List.getElem_cons_zero, List.getElem_cons_succ] at z0 z1 z2 z3
  have hRD : D ≠ R := fun e => by
    have h1 := (h6.block D hDz4).trans HDx.out
    rw [e, hrx] at h1
    simp at h1
  have hSd : ((((w6.setCell ⟨R, 0, none⟩ (.slice (some ⟨q, 0, none⟩) cs.length cq)).setCell ⟨R, 1, none⟩ (.slice (some ⟨sg, 0, none⟩) cs.length sp)).setCell ⟨R, 2, none⟩ (.int .i64 rv)).setCell ⟨R, 3, none⟩ (.int .i64 lf)).heap[D]? = some (.cells #[.slice (some ⟨g, 0, none⟩) ps.length cp, .slice b cs.length cb] 55 (0, 0)) := (Below.heap_setCell _ _ _ _ hRD).trans ((Below.heap_setCell _ _ _ _ hRD).trans ((Below.heap_setCell _ _ _ _ hRD).trans ((Below.heap_setCell _ _ _ _ hRD).trans ((h6.block D hDz4).trans HDx.out))))
  clear hrx h5 h6 hH
  go_simp
  refine hK.out _ _ (Or.inl rfl) (fun _ => ?_)
  clear hK K
  try simp only [Act.put, List.setIfInBounds_toArray, List.set_cons_zero, List.set_cons_succ, List.getElem_toArray, List.getElem_cons_succ, List.getElem_cons_zero]
  refine wpAnyZ_ready (rs := [7]) (by kernel_rfl) (by simp) ?_
  refine AllReadyZ.cons rfl (fun K hK => ?_) AllReadyZ.nil
  go_simp
  refine hK.out _ _ (Or.inr hSd) (fun _ => ?_)
  clear hK K
  try simp only [Act.put, List.setIfInBounds_toArray, List.set_cons_zero, List.set_cons_succ, List.getElem_toArray, List.getElem_cons_succ, List.getElem_cons_zero]
  refine wpAnyZ_done (by kernel_rfl) ?_ _
  go_wp2_with fail
  refine bodyPost_ret (v := .tuple #[.agg #[.slice (some ⟨q, 0, none⟩) cs.length cq, .slice (some ⟨sg, 0, none⟩) cs.length sp, .int .i64 rv, .int .i64 lf], .int .i64 0]) (by simp [results, Try.results9, go_sem, z0, z1, z2, z3]) rfl ?_
  have hz6 := HB6.out.size
  have hz5 := HB5.out.size
  have hz4 := HB4w.out.size
  have r5 := HO5.out.rowI.later HB6.out
  have r6 := HO6.out.rowI
  refine HYe.out _ _ _ _ w5.heap.size _ ⟨by omega, by simp; omega⟩ ?_ ?_ ?_
  · refine RowI.wide (lo := W3.heap.size) (hi := w5.heap.size) ?_ hz4 (Nat.le_refl _) (by simp; omega)
    repeat (first | exact r5 | refine RowI.set ?_ (by omega) _ _ | refine RowI.later ?_ (below_drew _))
  · refine RowI.wide (lo := w5.heap.size) (hi := w6.heap.size) ?_ (Nat.le_refl _) (by simp) (Nat.le_refl _)
    repeat (first | exact r6 | refine RowI.set ?_ (by omega) _ _ | refine RowI.later ?_ (below_drew _))
  · repeat (first | exact chain (chain HB4w.out HB5.out) HB6.out | refine Below.setCell ?_ (by dsimp only; omega) _ | refine chain ?_ (below_drew _))
end Go.Proofs.Ytlcnhkhkhlpghaa

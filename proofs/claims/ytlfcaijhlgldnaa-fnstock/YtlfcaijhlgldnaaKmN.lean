/-
  The program's takeFirst.
-/
import Derived.Test.YtlfcaijhlgldnaaKmK
import Derived.Test.YtlfcaijhlgldnaaKmL
namespace Go.Proofs.Ytlfcaijhlgldnaa
open Go.ChangeShapes Go.WideShapes Go.ChangeAt Go.RowKit Go.Deep
set_option linter.unusedVariables false

set_option maxHeartbeats 8000000 in
theorem takeFirst_any {B rb mb ub g oc : Nat} {σ : StS} {w : World} (h : Rn B rb mb ub σ (.slice (some ⟨g, 0, none⟩) σ.L.length oc) w) (hlen : σ.L.length ≤ 60) (hN : ∀ r ∈ σ.L, SlN r) (hd : Dst σ.L) (ar : ByteArray) (m : Int) (hm : 1 ≤ m) (hm2 : m ≤ 1000000000) {b : Nat} (hb : bs σ.L (pS ar σ.day) σ.L.length = some b) :
    Calls Try.prog 53 #[.pointer (some ⟨rb, 0, none⟩), .string ar, .int .i64 m] w fun e w' => e = .returned (.int .i64 (ptN m σ.L b)) ∧ Fr (RnX rb mb ub (.slice (some ⟨g, 0, none⟩) σ.L.length oc)) w w' ∧ Rn B rb mb ub { σ with L := ptL m σ.L b } (.slice (some ⟨g, 0, none⟩) (ptL m σ.L b).length oc) w' := by
  obtain ⟨hbl, hpb⟩ := bs_lt _ _ _ _ hb
  have hmn : mn (σ.L.filter (pS ar σ.day)) = some (gl σ.L b) := by
    have := bs_mn σ.L (pS ar σ.day) σ.L.length (Nat.le_refl _)
    rw [hb, List.take_length] at this
    exact this.symm
  have hF1 : 1 ≤ (σ.L.filter (pS ar σ.day)).length := by
    have : gl σ.L b ∈ σ.L.filter (pS ar σ.day) := List.mem_filter.2 ⟨by rw [gl_get hbl]; exact List.getElem_mem _, hpb⟩
    have := List.length_pos_of_mem this
    omega
  have hF2 : (σ.L.filter (pS ar σ.day)).length ≤ 1000 := by
    have := List.length_filter_le (pS ar σ.day) σ.L
    omega
  have hnu := getN hN hbl
  have hn1 := hnu.nu
  have hn2 := hnu.nu'
  have HOn : Hid (∀ W, Below w.heap.size w W → Calls Try.prog 65 #[.pointer (some ⟨rb, 0, none⟩), .string ar] W fun e w' => ∃ ka kc, e = .returned (.slice ka (σ.L.filter (pS ar σ.day)).length kc) ∧ KyRow W W.heap.size (.slice ka (σ.L.filter (pS ar σ.day)).length kc) (σ.L.filter (pS ar σ.day)) w') := fun W hW => onSale_any (h.later hW) hlen hN ar
  have HMn : Hid (∀ W, Below w.heap.size w W → ∀ xb B2 g2 kc, W.cell? ⟨xb, 0, none⟩ = some (.pointer (some ⟨rb, 0, none⟩)) → W.ownsRow B2 82 2 (.slice (some ⟨g2, 0, none⟩) (σ.L.filter (pS ar σ.day)).length kc) (σ.L.filter (pS ar σ.day)).length (kyCells (σ.L.filter (pS ar σ.day))) → Calls Try.prog 64 #[.slice (some ⟨g2, 0, none⟩) (σ.L.filter (pS ar σ.day)).length kc, .func (.func 66) #[] #[.pointer (some ⟨xb, 0, none⟩)]] W fun e w' => e = .returned (.agg #[.string (gl σ.L b).ar, .int .i64 (gl σ.L b).lt]) ∧ Below W.heap.size W w') := fun W hW xb B2 g2 kc hx hr => minFunc_any (h.later hW) hN xb hx _ (fun r hr => (List.mem_filter.1 hr).1) hF1 hF2 hr _ hmn
  have HLv : Hid (∀ W, Below w.heap.size w W → ∀ n, Calls Try.prog 68 #[.pointer (some ⟨rb, 0, none⟩), .agg #[.string (gl σ.L b).ar, .int .i64 (gl σ.L b).lt], .int .i64 n] W (LvP B rb mb ub g oc σ (lv σ.L b n) σ.L.length W)) := fun W hW n => leave_any (h.later hW) hlen hN hd hbl n
  have HRn : Hid (∀ W, Below w.heap.size w W → RnC rb mb ub σ (.slice (some ⟨g, 0, none⟩) σ.L.length oc) W) := fun W hW => (h.later hW).at
  have HGt : Hid (∀ W, Below w.heap.size w W → ∀ a0 a1 a2 a3 a4, gl σ.L b = ⟨a0, a1, a2, a3, a4⟩ → (Instr.lookup 54 (.map (some mb)) (.agg #[.string a0, .int .i64 a1]) false).run Try.prog W = .ok (.iface (lotT a4) (.agg #[.string a0, .int .i64 a1, .int .i64 a2, .int .i64 a3, .bool a4])) W) := fun W hW a0 a1 a2 a3 a4 hr => (h.later hW).get hN hbl hr
  have HP : Hid (ptN m σ.L b = min m (gl σ.L b).nu ∧ ptL m σ.L b = lv σ.L b ((gl σ.L b).nu - min m (gl σ.L b).nu)) := ⟨rfl, rfl⟩
  generalize ptN m σ.L b = pn at *
  generalize ptL m σ.L b = pl at *
  obtain ⟨⟨a0, a1, a2, a3, a4⟩, hir⟩ : ∃ r, gl σ.L b = r := ⟨_, rfl⟩
  have HGt2 : Hid (∀ W, Below w.heap.size w W → (Instr.lookup 54 (.map (some mb)) (.agg #[.string a0, .int .i64 a1]) false).run Try.prog W = .ok (.iface (lotT a4) (.agg #[.string a0, .int .i64 a1, .int .i64 a2, .int .i64 a3, .bool a4])) W) := fun W hW => HGt.out W hW _ _ _ _ _ hir
  rw [hir] at HMn HLv HP hn1 hn2
  dsimp only at HMn HLv HP hn1 hn2
  clear h hN hd hb hpb hmn hnu hir HGt
  generalize σ.L.filter (pS ar σ.day) = F at *
  obtain ⟨W1, hW1⟩ : ∃ W1, W1 = w.alloc (Obj.cells #[.pointer (some ⟨rb, 0, none⟩)] 78) := ⟨_, rfl⟩
  have H1 : Hid (Below w.heap.size w W1 ∧ W1.heap[w.heap.size]? = some (.cells #[.pointer (some ⟨rb, 0, none⟩)] 78 (0, 0))) := by rw [hW1]; exact ⟨below_alloc _ _, heapNew _ _⟩
  have HX : Hid (∀ W, Below W1.heap.size W1 W → Below w.heap.size w W ∧ W.heap[w.heap.size]? = some (.cells #[.pointer (some ⟨rb, 0, none⟩)] 78 (0, 0))) := fun W hW => ⟨chain H1.out.1 hW, (hW.block _ (blkLt H1.out.2)).trans H1.out.2⟩
  have x0 := blkCell H1.out.2 0 _ rfl
  have hmf : ∀ (fn : Fn) (first cap : Array Value) (w : World), (Instr.makeFunc fn first cap).run Try.prog w = .ok (.func fn first cap) w := fun _ _ _ _ => rfl
  have t0 := fldNu
  have t1 := na_toldT
  have t2 := me_toldT
  go_enter Try.func53, Try.ntmps53
  go_wp2_with fail
  (first | go_at_call 65 | skip)
  rw [← hW1]
  clear hW1 x0
  refine (HOn.out W1 H1.out.1).mono ?_
  rintro e w2 ⟨ka, kc, rfl, hrow, hs2, hb2⟩
  have H2 : Hid (Below W1.heap.size W1 w2 ∧ w2.ownsRow W1.heap.size 82 2 (.slice ka F.length kc) F.length (kyCells F)) := ⟨hb2, hrow⟩
  clear hrow hs2 hb2 HOn
  obtain ⟨g2, cp, hq⟩ := row_some H2.out.2 (by omega)
  simp only [Value.slice.injEq, true_and] at hq
  obtain ⟨rfl, rfl⟩ := hq
  go_wp2_with fail
  (first | go_at_call 64 | skip)
  refine (HMn.out w2 (HX.out w2 H2.out.1).1 _ _ _ _ (blkCell (HX.out w2 H2.out.1).2 0 _ rfl) H2.out.2).mono ?_
  rintro e w3 ⟨rfl, hb3⟩
  obtain ⟨W4, hW4⟩ : ∃ W4, W4 = w3.alloc (Obj.cells #[.string a0, .int .i64 a1] 82) := ⟨_, rfl⟩
  obtain ⟨kb, hkb⟩ : ∃ kb, kb = w3.heap.size := ⟨_, rfl⟩
  have H4 : Hid (Below W1.heap.size W1 W4 ∧ W4.heap[kb]? = some (.cells #[.string a0, .int .i64 a1] 82 (0, 0))) := by rw [hW4, hkb]; exact ⟨chain (chain H2.out.1 hb3) (below_alloc _ _), heapNew _ _⟩
  clear hb3 HMn H2
  go_wp2_with fail
  rw [← hW4, ← hkb]
  clear hW4 hkb
  have HQ : Hid (∀ W, Below W4.heap.size W4 W → Below w.heap.size w W ∧ W.heap[w.heap.size]? = some (.cells #[.pointer (some ⟨rb, 0, none⟩)] 78 (0, 0)) ∧ W.heap[kb]? = some (.cells #[.string a0, .int .i64 a1] 82 (0, 0))) := fun W hW => ⟨(HX.out W (chain H4.out.1 hW)).1, (HX.out W (chain H4.out.1 hW)).2, (hW.block _ (blkLt H4.out.2)).trans H4.out.2⟩
  refine wp_region_held_drew (S := fun W => Below W4.heap.size W4 W) (by kernel_rfl) (below_drew _) (fun hH => ?_)
  refine wpAnyH_take (i := 0) (v := .pointer (some ⟨rb, 0, none⟩)) rfl (by kernel_rfl) (by kernel_rfl) (by kernel_rfl) (fun _ _ _ h => h) (Or.inl ⟨by rfl, fun w hSw => by have f0 := blkCell (HQ.out w hSw).2.1 0 _ rfl; go_simp⟩) hH ?_
  refine wpAnyH_take (i := 1) (v := .pointer (some ⟨rb, 0, none⟩)) rfl (by kernel_rfl) (by kernel_rfl) (by kernel_rfl) (fun _ _ _ h => h) (Or.inl ⟨by rfl, fun w hSw => by go_simp⟩) hH ?_
  try simp only [Act.put, List.setIfInBounds_toArray, List.set_cons_zero, List.set_cons_succ, List.getElem_toArray, List.getElem_cons_succ, List.getElem_cons_zero]
  refine wpAnyH_take (i := 2) (v := .pointer (some ⟨rb, 6, none⟩)) rfl (by kernel_rfl) (by kernel_rfl) (by kernel_rfl) (fun _ _ _ h => h) (Or.inl ⟨by rfl, fun w hSw => by go_simp⟩) hH ?_
  try simp only [Act.put, List.setIfInBounds_toArray, List.set_cons_zero, List.set_cons_succ, List.getElem_toArray, List.getElem_cons_succ, List.getElem_cons_zero]
  refine wpAnyH_take (i := 3) (v := .map (some mb)) rfl (by kernel_rfl) (by kernel_rfl) (by kernel_rfl) (fun _ _ _ h => h) (Or.inl ⟨by rfl, fun w hSw => by have f0 := (HRn.out w (HQ.out w hSw).1).c6; go_simp⟩) hH ?_
  try simp only [Act.put, List.setIfInBounds_toArray, List.set_cons_zero, List.set_cons_succ, List.getElem_toArray, List.getElem_cons_succ, List.getElem_cons_zero]
  refine wpAnyH_take (i := 4) (v := .agg #[.string a0, .int .i64 a1]) rfl (by kernel_rfl) (by kernel_rfl) (by kernel_rfl) (fun _ _ _ h => h) (Or.inl ⟨by rfl, fun w hSw => by have f0 := blkCell (HQ.out w hSw).2.2 0 _ rfl; have f1 := blkCell (HQ.out w hSw).2.2 1 _ rfl; go_simp⟩) hH ?_
  try simp only [Act.put, List.setIfInBounds_toArray, List.set_cons_zero, List.set_cons_succ, List.getElem_toArray, List.getElem_cons_succ, List.getElem_cons_zero]
  refine wpAnyH_take (i := 5) (v := .iface (lotT a4) (.agg #[.string a0, .int .i64 a1, .int .i64 a2, .int .i64 a3, .bool a4])) rfl (by kernel_rfl) (by kernel_rfl) (by kernel_rfl) (fun _ _ _ h => h) (Or.inl ⟨by rfl, fun w hSw => by have f0 := HGt2.out w (HQ.out w hSw).1; go_simp⟩) hH ?_
  try simp only [Act.put, List.setIfInBounds_toArray, List.set_cons_zero, List.set_cons_succ, List.getElem_toArray, List.getElem_cons_succ, List.getElem_cons_zero]
  refine wpAnyH_ready (rs := [6]) (by kernel_rfl) (by simp) ?_
  refine AllReadyH.cons rfl (fun K hK => ?_) AllReadyH.nil
  go_simp
  refine (told_any a0 a1 a2 a3 a4 _).mono ?_
  rintro e w5 ⟨rfl, hb5⟩
  have h5 := chain hH hb5
  refine hK.out _ _ h5 (fun _ => ?_)
  clear hK K
  try simp only [Act.put, List.setIfInBounds_toArray, List.set_cons_zero, List.set_cons_succ, List.getElem_toArray, List.getElem_cons_succ, List.getElem_cons_zero]
  clear hb5 hH
  refine wpAnyH_take (i := 7) (v := .int .i64 a2) rfl (by kernel_rfl) (by kernel_rfl) (by kernel_rfl) (fun _ _ _ h => h) (Or.inl ⟨by rfl, fun w hSw => by go_simp⟩) h5 ?_
  try simp only [Act.put, List.setIfInBounds_toArray, List.set_cons_zero, List.set_cons_succ, List.getElem_toArray, List.getElem_cons_succ, List.getElem_cons_zero]
  refine wpAnyH_take (i := 8) (v := .int .i64 a2) rfl (by kernel_rfl) (by kernel_rfl) (by kernel_rfl) (fun _ _ _ h => h) (Or.inl ⟨by rfl, fun w hSw => by go_simp⟩) h5 ?_
  try simp only [Act.put, List.setIfInBounds_toArray, List.set_cons_zero, List.set_cons_succ, List.getElem_toArray, List.getElem_cons_succ, List.getElem_cons_zero]
  refine wpAnyH_done (by kernel_rfl) ?_ _
  have H5 : Hid (Below w.heap.size w w5) := (HQ.out _ h5).1
  have x0 := blkCell (HQ.out _ h5).2.1 0 _ rfl
  have k0 := blkCell (HQ.out _ h5).2.2 0 _ rfl
  have k1 := blkCell (HQ.out _ h5).2.2 1 _ rfl
  clear h5 HQ HGt2 HRn HX H4 H1 t0 t1 t2 hmf
  have hmin : (if a2 < m then a2 else m) = min m a2 := by rw [Int.min_def]; split <;> split <;> omega
  have hmb1 : min m a2 ≤ a2 := Int.min_le_right _ _
  have hmb2 : 1 ≤ min m a2 := by rw [Int.min_def]; split <;> omega
  have HLv2 := HLv.out w5 H5.out (a2 - min m a2)
  have HPl : Hid (pn = min m a2 ∧ pl = lv σ.L b (a2 - min m a2)) := HP.out
  have hmin2 : min m a2 = min m a2 := rfl
  clear HP HLv hmin2
  obtain ⟨pp, hpp⟩ : ∃ pp, pp = min m a2 := ⟨_, rfl⟩
  rw [← hpp] at HLv2 HPl hmb1 hmb2 hmin
  have HLv3 : Hid (Calls Try.prog 68 #[.pointer (some ⟨rb, 0, none⟩), .agg #[.string a0, .int .i64 a1], .int .i64 (a2 - pp)] w5 (LvP B rb mb ub g oc σ (lv σ.L b (a2 - pp)) σ.L.length w5)) := HLv2
  clear HLv2
  have hmn2 : min m a2 = pp := hpp.symm
  clear hpp
  go_wp2_with fail
  (first | go_at_call 68 | skip)
  refine HLv3.out.mono ?_
  rintro e w6 ⟨rfl, hf6, hr6⟩
  have HE : Hid (Fr (RnX rb mb ub (.slice (some ⟨g, 0, none⟩) σ.L.length oc)) w w6 ∧ Rn B rb mb ub { σ with L := lv σ.L b (a2 - pp) } (.slice (some ⟨g, 0, none⟩) (lv σ.L b (a2 - pp)).length oc) w6) := ⟨(Fr.of H5.out).trans hf6, hr6⟩
  clear hf6 hr6 HLv3 hmin hmn2
  go_wp2
  go_ret
  obtain ⟨e1, e2⟩ := HPl.out
  subst e1
  subst e2
  exact ⟨rfl, HE.out⟩
end Go.Proofs.Ytlfcaijhlgldnaa

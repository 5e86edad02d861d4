/-
  Texts of this claim laid together: BeJ.
-/
import Derived.Test.YtkfmifbffgbiiaaM43
import Derived.Test.YtkfmifbffgbiiaaM9
/-
  The program's numbersBelow, bestUses.
-/
namespace Go.Proofs.Ytkfmifbffgbiiaa
open Go.ChangeShapes Go.WideShapes Go.ChangeAt Go.RowKit Go.Deep
set_option linter.unusedVariables false

theorem rowValB {w : World} {B : Nat} {e : TypeId} {k : Nat} {v : Value} {n : Nat} {xs : List Value} (h : w.ownsRow B e k v n xs) : ∃ g cp, v = .slice g n cp := by
  rcases h.2 with ⟨rfl, rfl⟩ | ⟨g, cap, cur, rfl, _⟩
  · exact ⟨_, _, rfl⟩
  · exact ⟨_, _, rfl⟩
def numsB (k : Nat) : List Int := (List.range k).map fun (i : Nat) => (i : Int)
theorem numsB_next (k : Nat) : numsB k ++ [(k : Int)] = numsB (k + 1) := by simp [numsB, List.range_succ]
theorem numsB_length (k : Nat) : (numsB k).length = k := by simp [numsB]
theorem numsB_nV (k : Nat) : (numsB k).map (fun (n : Int) => Value.int .i64 n) = nV (List.range k) := by simp [numsB, nV]
set_option maxHeartbeats 2000000 in
set_option maxRecDepth 4000 in
theorem numbers_any (n : Nat) (hn : n ≤ 1000000) (w : World) :
    Calls Try.prog 43 #[.int .i64 (n : Int)] w fun e w' => ∃ g cp, e = .returned (.slice g n cp) ∧ RI w' g (List.range n) ∧ n ≤ cp ∧ Below w.heap.size w w' := by
  have hmk := fun w => run_make_cap n (by omega) w
  obtain ⟨i0, hi, hzz⟩ := Option.map_eq_some_iff.1 intInfo1
  simp only [Prod.mk.injEq] at hzz
  obtain ⟨hi0, hi1, hi2⟩ := hzz
  have H0 : Hid (One w w.heap.size (.slice (some ⟨w.heap.size, 0, none⟩) 0 n) [] (w.alloc (Obj.cells (madeCells #[.int .i64 0] n) 3))) := One.made w _ rfl n (by omega)
  go_enter Try.func43, Try.ntmps43
  go_wp2
  go_loopw [3, 4, 8] (fun v _ c wr => ∃ k : Nat, k ≤ n ∧ c = .int .i64 (k : Int) ∧ One w w.heap.size v (numsB k) wr) (fun _ _ c _ => n - (intOf c).toNat)
  case atStart => exact ⟨0, Nat.zero_le _, rfl, H0.out⟩
  case round =>
    clear H0
    obtain ⟨k, hk, rfl, hO⟩ := hrel
    obtain ⟨gv, cv, rfl⟩ := rowValB hO.1
    have HO : Hid (One w w.heap.size (.slice gv (numsB k).length cv) (numsB k) wr) := hO
    clear hO
    by_cases hlt : k < n
    · have hlt' : (k : Int) < (n : Int) := by omega
      have HN : Hid (numsB k ++ [(k : Int)] = numsB (k + 1)) := numsB_next k
      have HL : Hid ((numsB k).length = k) := numsB_length k
      generalize numsB k = L at *
      go_wp2_with (at_builtin; refine wpList_append_lies _ rfl _ _ 34 rfl w.heap.size 3 i0 (.int .i64 0) 1 8 Try.underlying34 hi hi0 hi1 hi2 rfl (by decide) _ _ _ rfl (HO.out.alloc _).1 ⟨wr.heap.size, 0, none⟩ 1 1 [.int .i64 (k : Int)] rfl rfl (newsOne wr _ _) (by intro u hu; simp at hu; subst hu; rfl) (by omega) (by unfold maxLen; have := HL.out; omega) (by have := HL.out; omega) (HO.out.alloc _).2.1 _ rfl ?_; intro g1 cp1 w5 hown1 hgrow1 hat1 hglt1; have HT5 : Hid _ := (HO.out.alloc _).push hown1 hgrow1; clear hown1 hgrow1 hat1 hglt1)
      exact ⟨⟨k + 1, by omega, by go_num, by rw [← HN.out]; exact HT5.out⟩, by simp [intOf]; omega⟩
    · have hle : (n : Int) ≤ (k : Int) := by omega
      obtain rfl : k = n := by omega
      go_wp2
      go_ret
      have hr := HO.out.1
      rw [numsB_length, numsB_nV] at hr
      have := RI.ofRow hr (by simp)
      exact ⟨gv, cv, congrArg (fun n => Ending.returned (Value.slice gv n cv)) (numsB_length k), this.1, this.2, HO.out.2.2⟩
theorem memo_made (us : List RUn) (ds : List CDl) (w : World) : Memo us ds (w.alloc (.map #[] 0)) w.heap.size := ⟨0, fun _ _ => none, MapS.made zWay w, Nat.zero_le _, fun l s v h => by cases h⟩
theorem way_us (s : Int) (a : Option Addr) (n c : Nat) (w : World) : (Instr.field 73 (.agg #[.int .i64 s, .slice a n c]) 1).run Try.prog w = .ok (.slice a n c) w := by kernel_rfl
theorem run_madeB (t : TypeId) (w : World) : (Instr.makeMap t none).run Try.prog w = .ok (.map (some w.heap.size)) (w.alloc (.map #[] 0)) := rfl
theorem box5 (W : World) (o1 o2 o3 o4 o5 : Obj) (W4 : World) (e : W4 = ((((W.alloc o1).alloc o2).alloc o3).alloc o4).alloc o5) :
    Below W.heap.size W W4 ∧ W4.heap[W.heap.size]? = some o1 ∧ W4.heap[W.heap.size + 1]? = some o2 ∧ W4.heap[W.heap.size + 1 + 1]? = some o3 ∧ W4.heap[W.heap.size + 1 + 1 + 1]? = some o4 ∧ W4.heap[W.heap.size + 1 + 1 + 1 + 1]? = some o5 := by
  have a1 := heapNew W o1
  have a2 := heapNew (W.alloc o1) o2
  have a3 := heapNew ((W.alloc o1).alloc o2) o3
  have a4 := heapNew (((W.alloc o1).alloc o2).alloc o3) o4
  have a5 := heapNew ((((W.alloc o1).alloc o2).alloc o3).alloc o4) o5
  rw [alloc_size] at a2
  rw [alloc_size, alloc_size] at a3
  rw [alloc_size, alloc_size, alloc_size] at a4
  rw [alloc_size, alloc_size, alloc_size, alloc_size] at a5
  rw [e]
  exact ⟨chain (chain (chain (chain (below_alloc _ _) (below_alloc _ _)) (below_alloc _ _)) (below_alloc _ _)) (below_alloc _ _), alloc_old (alloc_old (alloc_old (alloc_old a1))), alloc_old (alloc_old (alloc_old a2)), alloc_old (alloc_old a3), alloc_old a4, a5⟩
theorem memo_of {us : List RUn} {ds : List CDl} {w : World} {kb : Nat} (h : w.heap[kb]? = some (.map #[] 0)) : Memo us ds w kb := by
  obtain ⟨n, f, h1, h2, h3⟩ := memo_made us ds w
  have e0 : (w.alloc (.map #[] 0)).heap[w.heap.size]? = some (.map #[] 0) := heapNew w _
  obtain ⟨D, ⟨es, clock, hb, F, hs, hD⟩, k2, k3, k4⟩ := MapS.made zWay w
  rw [e0] at hb
  have hbe := Option.some.inj hb
  refine ⟨0, fun _ _ => none, ⟨D, ⟨es, clock, h.trans (by rw [← hbe]), F, hs, hD⟩, k2, k3, k4⟩, Nat.zero_le _, fun l s v h => by cases h⟩
theorem ris_range (n : Nat) : Ris n (List.range n) := ⟨List.pairwise_lt_range, fun x hx => List.mem_range.1 hx⟩
set_option maxHeartbeats 4000000 in
theorem bestUses_any (a : Option Addr) (uc : Nat) (us : List RUn) (b : Option Addr) (dc : Nat) (ds : List CDl) (hu : unAll us = true) (hd : dlAll ds = true) (uk : ∀ r ∈ us, UnOK r) (dk : ∀ r ∈ ds, DlOK r) (w : World) (hr : ReadsUn w.heap.size w a us) (ks : ReadsDl w.heap.size w b ds) :
    Calls Try.prog 15 #[.slice a us.length uc, .slice b ds.length dc] w fun e w' => ∃ g c, e = .returned (.slice g (sr us ds (List.range us.length) 0).us.length c) ∧ RU w' g (sr us ds (List.range us.length) 0).us ∧ Below w.heap.size w w' := by
  have hmk := fun w => run_madeB 69 w
  obtain ⟨W5, hW5⟩ : ∃ W5, W5 = ((((w.alloc (Obj.cells #[.slice a us.length uc] 23)).alloc (Obj.cells #[.slice b ds.length dc] 24)).alloc (.map #[] 0)).alloc (Obj.cells #[.map (some (w.heap.size + 1 + 1))] 69)).alloc (Obj.cells #[.func (.func 36) #[] #[.pointer (some ⟨w.heap.size + 1 + 1 + 1, 0, none⟩), .pointer (some ⟨w.heap.size + 1 + 1 + 1 + 1, 0, none⟩), .pointer (some ⟨w.heap.size + 1, 0, none⟩), .pointer (some ⟨w.heap.size, 0, none⟩)]] 70) := ⟨_, rfl⟩
  obtain ⟨b1, b2, b3, b4, b5, b6⟩ := box5 w _ _ _ _ _ W5 hW5
  obtain ⟨C, hCe⟩ : ∃ C : Cx, C = ⟨w.heap.size, w, us, ds, a, b, uc, dc, w.heap.size, w.heap.size + 1, w.heap.size + 1 + 1 + 1, w.heap.size + 1 + 1 + 1 + 1, w.heap.size + 1 + 1⟩ := ⟨_, rfl⟩
  have HCx : Hid (CxOK C) := by
    show CxOK C
    rw [hCe]
    exact ⟨hu, hd, uk, dk, hr, ks, by show w.heap.size ≤ w.heap.size + 1 + 1; omega⟩
  have HEv : Hid (Env C W5) := by
    show Env C W5
    rw [hCe]
    exact ⟨b2, b3, b5, b6, b1, b1.size, memo_of b4⟩
  have HB : Hid (Below w.heap.size w W5) := b1
  have hu8 : us.length ≤ 8 := (unAll_yes hu).1
  have HSS : Hid (∀ W', (Fr (fun q => q = w.heap.size + 1 + 1) W5 W' ∧ Memo us ds W' (w.heap.size + 1 + 1)) → Env C W') := fun W' h => by
    have ht := typ_map HEv.out.memo.is
    refine HEv.out.fr ht ?_ (fun q e => by rw [e]; exact HCx.out.lkb) ?_
    · rw [hCe]; exact h.1
    · rw [hCe]; exact h.2
  have HS0 : Hid (Fr (fun q => q = w.heap.size + 1 + 1) W5 W5.drew ∧ Memo us ds W5.drew (w.heap.size + 1 + 1)) := by
    have := (HEv.out.later (below_drew _)).memo
    rw [hCe] at this
    exact ⟨Fr.of (below_drew _), this⟩
  have HQ : Hid (∀ W', (Fr (fun q => q = w.heap.size + 1 + 1) W5 W' ∧ Memo us ds W' (w.heap.size + 1 + 1)) → W'.cell? ⟨w.heap.size + 1 + 1 + 1 + 1, 0, none⟩ = some (.func (.func 36) #[] #[.pointer (some ⟨w.heap.size + 1 + 1 + 1, 0, none⟩), .pointer (some ⟨w.heap.size + 1 + 1 + 1 + 1, 0, none⟩), .pointer (some ⟨w.heap.size + 1, 0, none⟩), .pointer (some ⟨w.heap.size, 0, none⟩)]) ∧ W'.cell? ⟨w.heap.size, 0, none⟩ = some (.slice a us.length uc)) := fun W' h => by
    have hE := HSS.out W' h
    rw [hCe] at hE
    exact ⟨blkCell hE.sbx 0 _ rfl, blkCell hE.ubx 0 _ rfl⟩
  obtain ⟨y, hy⟩ : ∃ y, y = sr us ds (List.range us.length) 0 := ⟨_, rfl⟩
  have HY : Hid (y = sr us ds (List.range us.length) 0) := hy
  have HCl : Hid (∀ W' g c, (Fr (fun q => q = w.heap.size + 1 + 1) W5 W' ∧ Memo us ds W' (w.heap.size + 1 + 1)) → us.length ≤ c → RI W' g (List.range us.length) → Calls Try.prog 36 #[.slice g us.length c, .int .u64 0, .pointer (some ⟨w.heap.size + 1 + 1 + 1, 0, none⟩), .pointer (some ⟨w.heap.size + 1 + 1 + 1 + 1, 0, none⟩), .pointer (some ⟨w.heap.size + 1, 0, none⟩), .pointer (some ⟨w.heap.size, 0, none⟩)] W' fun e w' => ∃ v, e = .returned v ∧ HoldsW w' v y ∧ Fr (fun q => q = w.heap.size + 1 + 1) W' w' ∧ Memo us ds w' (w.heap.size + 1 + 1)) := fun W' g c h hc hri => by
    have hE := HSS.out W' h
    have hs := search_all C HCx.out (us.length + 1) (List.range us.length) 0 g c W' (by simp) (by rw [hCe]; exact ris_range us.length) (by omega) (by simpa using hc) hE hri
    rw [hCe, List.length_range] at hs
    rw [HY.out]
    exact hs
  have HW5 : Hid (W5 = ((((w.alloc (Obj.cells #[.slice a us.length uc] 23)).alloc (Obj.cells #[.slice b ds.length dc] 24)).alloc (.map #[] 0)).alloc (Obj.cells #[.map (some (w.heap.size + 1 + 1))] 69)).alloc (Obj.cells #[.func (.func 36) #[] #[.pointer (some ⟨w.heap.size + 1 + 1 + 1, 0, none⟩), .pointer (some ⟨w.heap.size + 1 + 1 + 1 + 1, 0, none⟩), .pointer (some ⟨w.heap.size + 1, 0, none⟩), .pointer (some ⟨w.heap.size, 0, none⟩)]] 70)) := hW5
  clear hW5 b1 b2 b3 b4 b5 b6 hr ks hu hd uk dk hy
  go_enter Try.func15, Try.ntmps15
  go_wp2_with fail
  rw [← HW5.out]
  clear HW5 hmk
  refine wp_region_held_drew (S := fun W' => Fr (fun q => q = w.heap.size + 1 + 1) W5 W' ∧ Memo us ds W' (w.heap.size + 1 + 1)) (by kernel_rfl) HS0.out (fun hH => ?_)
  refine wpAnyH_take (i := 0) (v := .func (.func 36) #[] #[.pointer (some ⟨w.heap.size + 1 + 1 + 1, 0, none⟩), .pointer (some ⟨w.heap.size + 1 + 1 + 1 + 1, 0, none⟩), .pointer (some ⟨w.heap.size + 1, 0, none⟩), .pointer (some ⟨w.heap.size, 0, none⟩)]) rfl (by kernel_rfl) (by kernel_rfl) (by kernel_rfl) (fun _ _ _ h => h) (Or.inl ⟨by rfl, fun w hSw => by have f0 := (HQ.out w hSw).1; clear hSw; go_simp⟩) hH ?_
  refine wpAnyH_take (i := 1) (v := .slice a us.length uc) rfl (by kernel_rfl) (by kernel_rfl) (by kernel_rfl) (fun _ _ _ h => h) (Or.inl ⟨by rfl, fun w hSw => by have f0 := (HQ.out w hSw).2; clear hSw; go_simp⟩) hH ?_
  try simp only [Act.put, List.setIfInBounds_toArray, List.set_cons_zero, List.set_cons_succ, List.getElem_toArray, List.getElem_cons_succ, List.getElem_cons_zero]
  refine wpAnyH_take (i := 2) (v := .int .i64 (us.length : Int)) rfl (by kernel_rfl) (by kernel_rfl) (by kernel_rfl) (fun _ _ _ h => h) (Or.inl ⟨by rfl, fun w hSw => by clear hSw; go_simp⟩) hH ?_
  try simp only [Act.put, List.setIfInBounds_toArray, List.set_cons_zero, List.set_cons_succ, List.getElem_toArray, List.getElem_cons_succ, List.getElem_cons_zero]
  refine wpAnyH_ready (rs := [3]) (by kernel_rfl) (by simp) ?_
  refine AllReadyH.cons rfl (fun K hK => ?_) AllReadyH.nil
  go_simp
  go_at_call 43
  refine (numbers_any us.length (by omega) _).mono ?_
  rintro e w6 ⟨g, cp, rfl, hri, hcp, hb6⟩
  have h6 : Fr (fun q => q = w.heap.size + 1 + 1) W5 w6 ∧ Memo us ds w6 (w.heap.size + 1 + 1) := by
    have := ((HSS.out _ hH).later hb6).memo
    rw [hCe] at this
    exact ⟨hH.1.trans (Fr.of hb6), this⟩
  have hcall := HCl.out w6 g cp h6 hcp hri
  have HCall : Hid (Calls Try.prog 36 #[.slice g us.length cp, .int .u64 0, .pointer (some ⟨w.heap.size + 1 + 1 + 1, 0, none⟩), .pointer (some ⟨w.heap.size + 1 + 1 + 1 + 1, 0, none⟩), .pointer (some ⟨w.heap.size + 1, 0, none⟩), .pointer (some ⟨w.heap.size, 0, none⟩)] w6 fun e w' => ∃ v, e = .returned v ∧ HoldsW w' v y ∧ Fr (fun q => q = w.heap.size + 1 + 1) w6 w' ∧ Memo us ds w' (w.heap.size + 1 + 1)) := hcall
  clear hcall hb6 hri
  refine hK.out _ _ h6 (fun _ => ?_)
  clear hK K
  try simp only [Act.put, List.setIfInBounds_toArray, List.set_cons_zero, List.set_cons_succ, List.getElem_toArray, List.getElem_cons_succ, List.getElem_cons_zero]
  refine wpAnyH_ready (rs := [4]) (by kernel_rfl) (by simp) ?_
  refine AllReadyH.cons rfl (fun K hK => ?_) AllReadyH.nil
  go_simp
  go_at_call 36
  refine HCall.out.mono ?_
  rintro e w7 ⟨v, rfl, ⟨va, vc, rfl, hru⟩, hf7, hm7⟩
  have h7 : Fr (fun q => q = w.heap.size + 1 + 1) W5 w7 ∧ Memo us ds w7 (w.heap.size + 1 + 1) := ⟨h6.1.trans hf7, hm7⟩
  have HEnd : Hid (RU w7 va y.us ∧ Below w.heap.size w w7) := ⟨hru, Fr.below HB.out h7.1 HB.out.size (fun q e => by omega)⟩
  clear hf7 hm7 hru
  refine hK.out _ _ h7 (fun _ => ?_)
  clear hK K
  try simp only [Act.put, List.setIfInBounds_toArray, List.set_cons_zero, List.set_cons_succ, List.getElem_toArray, List.getElem_cons_succ, List.getElem_cons_zero]
  refine wpAnyH_take (i := 5) (v := .slice va y.us.length vc) rfl (by kernel_rfl) (by kernel_rfl) (by kernel_rfl) (fun _ _ _ h => h) (Or.inl ⟨by rfl, fun w hSw => by clear hSw; have hfl := way_us y.sv va y.us.length vc w; go_simp⟩) h7 ?_
  try simp only [Act.put, List.setIfInBounds_toArray, List.set_cons_zero, List.set_cons_succ, List.getElem_toArray, List.getElem_cons_succ, List.getElem_cons_zero]
  refine wpAnyH_take (i := 6) (v := .slice va y.us.length vc) rfl (by kernel_rfl) (by kernel_rfl) (by kernel_rfl) (fun _ _ _ h => h) (Or.inl ⟨by rfl, fun w hSw => by clear hSw; go_simp⟩) h7 ?_
  try simp only [Act.put, List.setIfInBounds_toArray, List.set_cons_zero, List.set_cons_succ, List.getElem_toArray, List.getElem_cons_succ, List.getElem_cons_zero]
  refine wpAnyH_done (by kernel_rfl) ?_ _
  clear h7 h6 hH
  go_wp2
  go_ret
  rw [← HY.out]
  exact ⟨va, vc, rfl, HEnd.out.1, HEnd.out.2⟩
end Go.Proofs.Ytkfmifbffgbiiaa

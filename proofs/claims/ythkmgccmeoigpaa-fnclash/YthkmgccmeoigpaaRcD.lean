/-
  Contract of the specification's Clash.
-/
import Derived.Test.YthkmgccmeoigpaaRcC
import Derived.Test.YthkmgccmeoigpaaRwT
namespace Go.Proofs.Ythkmgccmeoigpaa
open Go.ChangeShapes Go.WideShapes Go.ChangeAt Go.RowKit Go.Deep
set_option linter.unusedVariables false

/-- 'append(us, ts...)' of terms, whatever their number, within a region. -/
theorem step_tms {w : World} {ops : Array Oper} {o : Oper} {a : Act} {K : Act → World → Prop} {Q : Exit → Act → World → Prop} {E : Prop} (hgd : o.guard = none) (s x : Operand)
    (ho : o.op = .call { callee := .builtin .append, args := #[s, x], argTypes := #[23, 23] }) (base g0 c0 : Nat) (us : List RTm) (hs : a.eval s = .slice (some ⟨g0, 0, none⟩) us.length c0) (hown : w.ownsRow base 37 3 (.slice (some ⟨g0, 0, none⟩) us.length c0) us.length (tmCells us))
    (g c : Nat) (ts : List RTm) (hl : us.length + ts.length ≤ 100000) (hx : a.eval x = .slice (some ⟨g, 0, none⟩) ts.length c) (hnews : ∀ j u, (tmCells ts)[j]? = some u → w.cell? ((⟨g, 0, none⟩ : Addr).add j) = some u) (hbase : base ≤ w.heap.size)
    (h : ∀ g1 c1 w', w'.ownsRow base 37 3 (.slice (some ⟨g1, 0, none⟩) (us ++ ts).length c1) (us ++ ts).length (tmCells (us ++ ts)) → w.grownBy w' (some g0) → (g1 = g0 ∨ g1 = w.heap.size) → g1 < w'.heap.size → K (a.put o.dst (.slice (some ⟨g1, 0, none⟩) (us ++ ts).length c1)) w') :
    if Region.wanted o (yielded ops a.tmps) = true then Oper.wp Try.prog o a w K Q else E := by
  obtain ⟨i0, hti, hzz⟩ := Option.map_eq_some_iff.1 tmInfoR
  simp only [Prod.mk.injEq] at hzz
  obtain ⟨hi0, hi1, hi2⟩ := hzz
  obtain ⟨_, hf⟩ := hown
  have hf0 : us.length ≤ c0 ∧ g0 < w.heap.size := by
    rcases hf with ⟨q, _⟩ | ⟨g', cap, cur, q, _, hg, hc, _⟩
    · simp at q
    · simp at q
      obtain ⟨rfl, rfl⟩ := q
      exact ⟨hc, (Array.getElem?_eq_some_iff.1 hg).1⟩
  have hown : w.ownsRow base 37 3 (.slice (some ⟨g0, 0, none⟩) us.length c0) us.length (tmCells us) := ⟨tmCells_length us, hf⟩
  by_cases h0' : ts.length = 0
  · have hw : Region.wanted o (yielded ops a.tmps) = true := by simp [Region.wanted, hgd]
    rw [if_pos hw]
    have e0 : ts = [] := List.eq_nil_of_length_eq_zero h0'
    subst e0
    have hrun : (Builtin.append_ #[23, 23] o.type #[.slice (some ⟨g0, 0, none⟩) us.length c0, .slice (some ⟨g, 0, none⟩) 0 c]).run Try.prog w = .ok (.slice (some ⟨g0, 0, none⟩) us.length c0) w := by
      simp [Builtin.append_, run_underlying Try.underlying23, sizeOf, typeInfo, hti, Builtin.lenOf, Builtin.firstCells, storeCells, loadCells, loadCellsFrom, hf0.1]
    have hh := h g0 c0 w (by simpa using hown) (grownSelf _ _) (.inl rfl) hf0.2
    rw [List.append_nil] at hh
    unfold Oper.wp execOp
    simp only [ho, resolve, invoke, builtin, Sem.run_bind, Sem.run_pure, Result.andThen_ok, List.map_toArray, List.map_cons, List.map_nil, hs, hx, List.length_nil, hrun]
    exact hh
  · refine step_append_lies _ hgd s x 23 ho base 37 i0 (.agg #[.int .i64 0, .int .i64 0, .int .i64 0]) 3 24 Try.underlying23 hti hi0 hi1 hi2 rfl (by decide) _ us.length (tmCells us) hs hown ⟨g, 0, none⟩ ts.length c (tmCells ts) hx (tmCells_length ts) hnews (tmCells_one ts) (by omega) (by unfold maxLen; omega) (by omega) hbase _ rfl ?_
    intro g1 c1 w' h1 h2 h3 h4
    rw [← tmCells_append, ← List.length_append] at h1
    rw [← List.length_append]
    exact h g1 c1 w' h1 h2 (by rcases h3 with q | q; exact .inl (by simpa [Value.ownBlock] using q.symm); exact .inr q) h4
set_option maxHeartbeats 16000000 in
set_option maxRecDepth 8000 in
theorem specClash_any (a b : CCl) (ga gb : Nat) (ca cb : Nat) (oka : ClOK a) (okb : ClOK b) (w : World) (ra0 : ReadsTm w.heap.size w (some ⟨ga, 0, none⟩) a.ts) (rb0 : ReadsTm w.heap.size w (some ⟨gb, 0, none⟩) b.ts) :
    Calls Try.prog 16 #[.agg #[.string a.nm, .slice (some ⟨ga, 0, none⟩) a.ts.length ca, .int .i64 a.ac, .int .i64 a.nu], .agg #[.string b.nm, .slice (some ⟨gb, 0, none⟩) b.ts.length cb, .int .i64 b.ac, .int .i64 b.nu]] w fun e w' => e = .returned (.tuple #[.agg (ckV a b), .bool (ckT a b), .int .i64 (ckC a b)]) ∧ Below w.heap.size w w' := by
  have HOa : Hid (∀ W, Below w.heap.size w W → Calls Try.prog 47 #[.agg #[.string a.nm, .slice (some ⟨ga, 0, none⟩) a.ts.length ca, .int .i64 a.ac, .int .i64 a.nu]] W fun e w' => e = .returned (.bool (clOne a)) ∧ Below W.heap.size W w') := fun W h => specClause_any a _ ca oka W (ra0.later h)
  have HOb : Hid (∀ W, Below w.heap.size w W → Calls Try.prog 47 #[.agg #[.string b.nm, .slice (some ⟨gb, 0, none⟩) b.ts.length cb, .int .i64 b.ac, .int .i64 b.nu]] W fun e w' => e = .returned (.bool (clOne b)) ∧ Below W.heap.size W w') := fun W h => specClause_any b _ cb okb W (rb0.later h)
  have HLe : Hid (∀ g c W, W.ownsRow (((w.alloc (Obj.cells #[.string a.nm, .slice (some ⟨ga, 0, none⟩) a.ts.length ca, .int .i64 a.ac, .int .i64 a.nu] 25)).alloc (Obj.cells #[.string b.nm, .slice (some ⟨gb, 0, none⟩) b.ts.length cb, .int .i64 b.ac, .int .i64 b.nu] 25)).alloc (Obj.cells #[.int .i64 0, .int .i64 0, .int .i64 0, .int .i64 0, .int .i64 0] 28)).heap.size 37 3 (.slice (some ⟨g, 0, none⟩) (a.ts ++ b.ts).length c) (a.ts ++ b.ts).length (tmCells (a.ts ++ b.ts)) → Calls Try.prog 44 #[.slice (some ⟨g, 0, none⟩) (a.ts ++ b.ts).length c] W fun e w' => e = .returned (.tuple #[.agg (leastV (a.ts ++ b.ts)), .bool (canT (a.ts ++ b.ts))]) ∧ Below W.heap.size W w') := fun g c W ho => least_any (some ⟨g, 0, none⟩) c (a.ts ++ b.ts) (by have := oka.2; have := okb.2; simp; omega) W (ownReadsTm ho)
  have hl8 : clOne a = true → clOne b = true → a.ts.length ≤ 8 ∧ b.ts.length ≤ 8 := fun h1 h2 => by
    unfold clOne at h1 h2
    simp only [Bool.and_eq_true, decide_eq_true_eq] at h1 h2
    exact ⟨h1.1.1, h2.1.1⟩
  obtain ⟨z1, z2, z3, z4, z5, hz5⟩ : ∃ z1 z2 z3 z4 z5 : Int, leastV (a.ts ++ b.ts) = #[.int .i64 z1, .int .i64 z2, .int .i64 z3, .int .i64 z4, .int .i64 z5] := by
    unfold leastV factsV
    split
    · exact ⟨_, _, _, _, _, rfl⟩
    · exact ⟨_, _, _, _, _, rfl⟩
  have hw := ck_ways a b
  rw [hz5] at HLe hw
  have ra : Hid (ReadsTm w.heap.size w (some ⟨ga, 0, none⟩) a.ts) := ra0
  have rb : Hid (ReadsTm w.heap.size w (some ⟨gb, 0, none⟩) b.ts) := rb0
  clear ra0 rb0 oka okb hz5
  generalize ckV a b = kv at *
  generalize ckT a b = kt at *
  generalize ckC a b = kc at *
  generalize clOne a = oa at *
  generalize clOne b = ob at *
  generalize canT (a.ts ++ b.ts) = cbn at *
  obtain ⟨an, ats, aa, au⟩ := a
  obtain ⟨bn, bts, ba, bu⟩ := b
  dsimp only at *
  generalize hna : ats.length = na at *
  generalize hnb : bts.length = nb at *
  rcases hw with ⟨rfl, rfl, rfl, rfl⟩ | ⟨rfl, rfl, rfl, rfl, rfl⟩ | ⟨rfl, rfl, hw⟩
  · go_enter Try.func16, Try.ntmps16
    go_wp2_with fail
    (first | go_at_call 47 | skip)
    refine (HOa.out _ (chain (chain (below_alloc _ _) (below_alloc _ _)) (below_alloc _ _))).mono ?_
    rintro e v1 ⟨rfl, hv1⟩
    obtain ⟨⟨a0, a1, a2, a3⟩, ⟨b0, b1, b2, b3⟩, ⟨p0, p1, p2, p3, p4⟩, pf⟩ := ckAt (an := an) (ha := some ⟨ga, 0, none⟩) (na := na) (ca := ca) (aa := aa) (au := au) (bn := bn) (hb := some ⟨gb, 0, none⟩) (nb := nb) (cb := cb) (ba := ba) (bu := bu) hv1
    obtain ⟨vv0, p0⟩ : ∃ v, v1.cell? ⟨w.heap.size + 1 + 1, 0, none⟩ = some v := ⟨_, p0⟩
    obtain ⟨vv1, p1⟩ : ∃ v, v1.cell? ⟨w.heap.size + 1 + 1, 1, none⟩ = some v := ⟨_, p1⟩
    obtain ⟨vv2, p2⟩ : ∃ v, v1.cell? ⟨w.heap.size + 1 + 1, 2, none⟩ = some v := ⟨_, p2⟩
    obtain ⟨vv3, p3⟩ : ∃ v, v1.cell? ⟨w.heap.size + 1 + 1, 3, none⟩ = some v := ⟨_, p3⟩
    obtain ⟨vv4, p4⟩ : ∃ v, v1.cell? ⟨w.heap.size + 1 + 1, 4, none⟩ = some v := ⟨_, p4⟩
    have f0 := pf 0
    have f1 := pf 1
    have f2 := pf 2
    have f3 := pf 3
    have f4 := pf 4
    clear pf
    go_wp2
    refine bodyPost_ret (v := .tuple #[.agg #[.int .i64 0, .int .i64 0, .int .i64 0, .int .i64 0, .int .i64 0], .bool false, .int .i64 1]) (by simp [results, Try.results16, go_sem, p0, p1, p2, p3, p4]) rfl ⟨rfl, ?_⟩
    repeat refine Below.setCell ?_ (by dsimp only; omega) _
    exact chain (chain (chain (below_alloc _ _) (below_alloc _ _)) (below_alloc _ _)) hv1
  · go_enter Try.func16, Try.ntmps16
    go_wp2_with fail
    (first | go_at_call 47 | skip)
    refine (HOa.out _ (chain (chain (below_alloc _ _) (below_alloc _ _)) (below_alloc _ _))).mono ?_
    rintro e v1 ⟨rfl, hv1⟩
    obtain ⟨⟨a0, a1, a2, a3⟩, ⟨b0, b1, b2, b3⟩, ⟨p0, p1, p2, p3, p4⟩, pf⟩ := ckAt (an := an) (ha := some ⟨ga, 0, none⟩) (na := na) (ca := ca) (aa := aa) (au := au) (bn := bn) (hb := some ⟨gb, 0, none⟩) (nb := nb) (cb := cb) (ba := ba) (bu := bu) hv1
    obtain ⟨vv0, p0⟩ : ∃ v, v1.cell? ⟨w.heap.size + 1 + 1, 0, none⟩ = some v := ⟨_, p0⟩
    obtain ⟨vv1, p1⟩ : ∃ v, v1.cell? ⟨w.heap.size + 1 + 1, 1, none⟩ = some v := ⟨_, p1⟩
    obtain ⟨vv2, p2⟩ : ∃ v, v1.cell? ⟨w.heap.size + 1 + 1, 2, none⟩ = some v := ⟨_, p2⟩
    obtain ⟨vv3, p3⟩ : ∃ v, v1.cell? ⟨w.heap.size + 1 + 1, 3, none⟩ = some v := ⟨_, p3⟩
    obtain ⟨vv4, p4⟩ : ∃ v, v1.cell? ⟨w.heap.size + 1 + 1, 4, none⟩ = some v := ⟨_, p4⟩
    have f0 := pf 0
    have f1 := pf 1
    have f2 := pf 2
    have f3 := pf 3
    have f4 := pf 4
    clear pf
    go_wp2_with fail
    (first | go_at_call 47 | skip)
    refine (HOb.out _ (chain (chain (chain (below_alloc _ _) (below_alloc _ _)) (below_alloc _ _)) hv1)).mono ?_
    rintro e v2 ⟨rfl, hv2⟩
    have hv2 := chain hv1 hv2
    clear a0 a1 a2 a3 b0 b1 b2 b3 p0 p1 p2 p3 p4 f0 f1 f2 f3 f4 hv1
    obtain ⟨⟨a0, a1, a2, a3⟩, ⟨b0, b1, b2, b3⟩, ⟨p0, p1, p2, p3, p4⟩, pf⟩ := ckAt (an := an) (ha := some ⟨ga, 0, none⟩) (na := na) (ca := ca) (aa := aa) (au := au) (bn := bn) (hb := some ⟨gb, 0, none⟩) (nb := nb) (cb := cb) (ba := ba) (bu := bu) hv2
    obtain ⟨vv0, p0⟩ : ∃ v, v2.cell? ⟨w.heap.size + 1 + 1, 0, none⟩ = some v := ⟨_, p0⟩
    obtain ⟨vv1, p1⟩ : ∃ v, v2.cell? ⟨w.heap.size + 1 + 1, 1, none⟩ = some v := ⟨_, p1⟩
    obtain ⟨vv2, p2⟩ : ∃ v, v2.cell? ⟨w.heap.size + 1 + 1, 2, none⟩ = some v := ⟨_, p2⟩
    obtain ⟨vv3, p3⟩ : ∃ v, v2.cell? ⟨w.heap.size + 1 + 1, 3, none⟩ = some v := ⟨_, p3⟩
    obtain ⟨vv4, p4⟩ : ∃ v, v2.cell? ⟨w.heap.size + 1 + 1, 4, none⟩ = some v := ⟨_, p4⟩
    have f0 := pf 0
    have f1 := pf 1
    have f2 := pf 2
    have f3 := pf 3
    have f4 := pf 4
    clear pf
    go_wp2
    refine bodyPost_ret (v := .tuple #[.agg #[.int .i64 0, .int .i64 0, .int .i64 0, .int .i64 0, .int .i64 0], .bool false, .int .i64 1]) (by simp [results, Try.results16, go_sem, p0, p1, p2, p3, p4]) rfl ⟨rfl, ?_⟩
    repeat refine Below.setCell ?_ (by dsimp only; omega) _
    exact chain (chain (chain (below_alloc _ _) (below_alloc _ _)) (below_alloc _ _)) hv2
  · obtain ⟨hl1, hl2⟩ := hl8 rfl rfl
    clear hl8
    obtain ⟨nab, hab⟩ : ∃ n, (ats ++ bts).length = n := ⟨_, rfl⟩
    rw [hab] at HLe
    have HAB : Hid ((ats ++ bts).length = nab) := hab
    clear hab
    go_enter Try.func16, Try.ntmps16
    go_wp2_with fail
    (first | go_at_call 47 | skip)
    refine (HOa.out _ (chain (chain (below_alloc _ _) (below_alloc _ _)) (below_alloc _ _))).mono ?_
    rintro e v1 ⟨rfl, hv1⟩
    obtain ⟨⟨a0, a1, a2, a3⟩, ⟨b0, b1, b2, b3⟩, ⟨p0, p1, p2, p3, p4⟩, pf⟩ := ckAt (an := an) (ha := some ⟨ga, 0, none⟩) (na := na) (ca := ca) (aa := aa) (au := au) (bn := bn) (hb := some ⟨gb, 0, none⟩) (nb := nb) (cb := cb) (ba := ba) (bu := bu) hv1
    obtain ⟨vv0, p0⟩ : ∃ v, v1.cell? ⟨w.heap.size + 1 + 1, 0, none⟩ = some v := ⟨_, p0⟩
    obtain ⟨vv1, p1⟩ : ∃ v, v1.cell? ⟨w.heap.size + 1 + 1, 1, none⟩ = some v := ⟨_, p1⟩
    obtain ⟨vv2, p2⟩ : ∃ v, v1.cell? ⟨w.heap.size + 1 + 1, 2, none⟩ = some v := ⟨_, p2⟩
    obtain ⟨vv3, p3⟩ : ∃ v, v1.cell? ⟨w.heap.size + 1 + 1, 3, none⟩ = some v := ⟨_, p3⟩
    obtain ⟨vv4, p4⟩ : ∃ v, v1.cell? ⟨w.heap.size + 1 + 1, 4, none⟩ = some v := ⟨_, p4⟩
    have f0 := pf 0
    have f1 := pf 1
    have f2 := pf 2
    have f3 := pf 3
    have f4 := pf 4
    clear pf
    go_wp2_with fail
    (first | go_at_call 47 | skip)
    refine (HOb.out _ (chain (chain (chain (below_alloc _ _) (below_alloc _ _)) (below_alloc _ _)) hv1)).mono ?_
    rintro e v2 ⟨rfl, hv2⟩
    have hv0 := chain hv1 hv2
    clear a0 a1 a2 a3 b0 b1 b2 b3 p0 p1 p2 p3 p4 f0 f1 f2 f3 f4 hv1 hv2 HOa HOb
    go_wp2
    refine wp_region_held_drew (S := fun W => Below (((w.alloc (Obj.cells #[.string an, .slice (some ⟨ga, 0, none⟩) na ca, .int .i64 aa, .int .i64 au] 25)).alloc (Obj.cells #[.string bn, .slice (some ⟨gb, 0, none⟩) nb cb, .int .i64 ba, .int .i64 bu] 25)).alloc (Obj.cells #[.int .i64 0, .int .i64 0, .int .i64 0, .int .i64 0, .int .i64 0] 28)).heap.size (((w.alloc (Obj.cells #[.string an, .slice (some ⟨ga, 0, none⟩) na ca, .int .i64 aa, .int .i64 au] 25)).alloc (Obj.cells #[.string bn, .slice (some ⟨gb, 0, none⟩) nb cb, .int .i64 ba, .int .i64 bu] 25)).alloc (Obj.cells #[.int .i64 0, .int .i64 0, .int .i64 0, .int .i64 0, .int .i64 0] 28)) W) (by kernel_rfl) (chain hv0 (below_drew _)) (fun hH => ?_)
    clear hv0
    generalize v2.drew = v0 at *
    subst hna hnb
    refine wpAnyH_take (i := 1) (v := .pointer (some ⟨w.heap.size, 1, none⟩)) rfl (by kernel_rfl) (by kernel_rfl) (by kernel_rfl) (fun _ _ _ h => h) (Or.inl ⟨by rfl, fun w hSw => by go_simp⟩) hH ?_
    refine wpAnyH_take (i := 2) (v := .slice (some ⟨ga, 0, none⟩) ats.length ca) rfl (by kernel_rfl) (by kernel_rfl) (by kernel_rfl) (fun _ _ _ h => h) (Or.inl ⟨by rfl, fun w hSw => by obtain ⟨⟨_, s1, _, _⟩, _, _, _⟩ := ckAt (an := an) (ha := some ⟨ga, 0, none⟩) (na := ats.length) (ca := ca) (aa := aa) (au := au) (bn := bn) (hb := some ⟨gb, 0, none⟩) (nb := bts.length) (cb := cb) (ba := ba) (bu := bu) hSw; go_simp⟩) hH ?_
    try simp only [Act.put, List.setIfInBounds_toArray, List.set_cons_zero, List.set_cons_succ, List.getElem_toArray, List.getElem_cons_succ, List.getElem_cons_zero]
    refine wpAnyH_take (i := 4) (v := .pointer (some ⟨w.heap.size + 1, 1, none⟩)) rfl (by kernel_rfl) (by kernel_rfl) (by kernel_rfl) (fun _ _ _ h => h) (Or.inl ⟨by rfl, fun w hSw => by go_simp⟩) hH ?_
    try simp only [Act.put, List.setIfInBounds_toArray, List.set_cons_zero, List.set_cons_succ, List.getElem_toArray, List.getElem_cons_succ, List.getElem_cons_zero]
    refine wpAnyH_take (i := 5) (v := .slice (some ⟨gb, 0, none⟩) bts.length cb) rfl (by kernel_rfl) (by kernel_rfl) (by kernel_rfl) (fun _ _ _ h => h) (Or.inl ⟨by rfl, fun w hSw => by obtain ⟨_, ⟨_, s1, _, _⟩, _, _⟩ := ckAt (an := an) (ha := some ⟨ga, 0, none⟩) (na := ats.length) (ca := ca) (aa := aa) (au := au) (bn := bn) (hb := some ⟨gb, 0, none⟩) (nb := bts.length) (cb := cb) (ba := ba) (bu := bu) hSw; go_simp⟩) hH ?_
    try simp only [Act.put, List.setIfInBounds_toArray, List.set_cons_zero, List.set_cons_succ, List.getElem_toArray, List.getElem_cons_succ, List.getElem_cons_zero]
    refine wpAnyH_ready (rs := [0, 11]) (by kernel_rfl) (by simp) ?_
    refine AllReadyH.cons rfl (fun K hK => ?_) (AllReadyH.cons rfl (fun K hK => ?_) AllReadyH.nil)
    · skip
      go_simp
      have hs0 := chain hH (below_alloc _ (Obj.cells #[] 37))
      have own := ownEmptyTm v0 (((w.alloc (Obj.cells #[.string an, .slice (some ⟨ga, 0, none⟩) ats.length ca, .int .i64 aa, .int .i64 au] 25)).alloc (Obj.cells #[.string bn, .slice (some ⟨gb, 0, none⟩) bts.length cb, .int .i64 ba, .int .i64 bu] 25)).alloc (Obj.cells #[.int .i64 0, .int .i64 0, .int .i64 0, .int .i64 0, .int .i64 0] 28)).heap.size hH.size
      have hgl : v0.heap.size < (v0.alloc (Obj.cells #[] 37)).heap.size := by simp
      refine hK.out _ _ hs0 (fun _ => ?_)
      clear hK K
      try simp only [Act.put, List.setIfInBounds_toArray, List.set_cons_zero, List.set_cons_succ, List.getElem_toArray, List.getElem_cons_succ, List.getElem_cons_zero]
      refine wpAnyH_ready (rs := [3, 11]) (by kernel_rfl) (by simp) ?_
      refine AllReadyH.cons rfl (fun K hK => ?_) (AllReadyH.cons rfl (fun K hK => ?_) AllReadyH.nil)
      · skip
        refine step_tms rfl _ _ rfl (((w.alloc (Obj.cells #[.string an, .slice (some ⟨ga, 0, none⟩) ats.length ca, .int .i64 aa, .int .i64 au] 25)).alloc (Obj.cells #[.string bn, .slice (some ⟨gb, 0, none⟩) bts.length cb, .int .i64 ba, .int .i64 bu] 25)).alloc (Obj.cells #[.int .i64 0, .int .i64 0, .int .i64 0, .int .i64 0, .int .i64 0] 28)).heap.size v0.heap.size _ [] rfl own ga ca ats (by simp; omega) rfl (tmNews (ra.out.later (chain (chain (chain (chain (below_alloc _ _) (below_alloc _ _)) (below_alloc _ _)) hs0) (Below.refl _ _)))) hs0.size ?_
        intro g1 c1 u1 own1 grow1 hat1 glt1
        have hu1 : Below (((w.alloc (Obj.cells #[.string an, .slice (some ⟨ga, 0, none⟩) ats.length ca, .int .i64 aa, .int .i64 au] 25)).alloc (Obj.cells #[.string bn, .slice (some ⟨gb, 0, none⟩) bts.length cb, .int .i64 ba, .int .i64 bu] 25)).alloc (Obj.cells #[.int .i64 0, .int .i64 0, .int .i64 0, .int .i64 0, .int .i64 0] 28)).heap.size (((w.alloc (Obj.cells #[.string an, .slice (some ⟨ga, 0, none⟩) ats.length ca, .int .i64 aa, .int .i64 au] 25)).alloc (Obj.cells #[.string bn, .slice (some ⟨gb, 0, none⟩) bts.length cb, .int .i64 ba, .int .i64 bu] 25)).alloc (Obj.cells #[.int .i64 0, .int .i64 0, .int .i64 0, .int .i64 0, .int .i64 0] 28)) u1 := hs0.grown grow1 hs0.size (fun q hq => (own.lt q hq).1)
        have own := own1
        clear own1 grow1 hat1
        refine hK.out _ _ hu1 (fun _ => ?_)
        clear hK K
        try simp only [Act.put, List.setIfInBounds_toArray, List.set_cons_zero, List.set_cons_succ, List.getElem_toArray, List.getElem_cons_succ, List.getElem_cons_zero]
        refine wpAnyH_ready (rs := [6, 11]) (by kernel_rfl) (by simp) ?_
        refine AllReadyH.cons rfl (fun K hK => ?_) (AllReadyH.cons rfl (fun K hK => ?_) AllReadyH.nil)
        · skip
          refine step_tms rfl _ _ rfl (((w.alloc (Obj.cells #[.string an, .slice (some ⟨ga, 0, none⟩) ats.length ca, .int .i64 aa, .int .i64 au] 25)).alloc (Obj.cells #[.string bn, .slice (some ⟨gb, 0, none⟩) bts.length cb, .int .i64 ba, .int .i64 bu] 25)).alloc (Obj.cells #[.int .i64 0, .int .i64 0, .int .i64 0, .int .i64 0, .int .i64 0] 28)).heap.size g1 _ ats rfl own gb cb bts (by omega) rfl (tmNews (rb.out.later (chain (chain (chain (chain (below_alloc _ _) (below_alloc _ _)) (below_alloc _ _)) hu1) (Below.refl _ _)))) hu1.size ?_
          intro g2 c2 u2 own2 grow2 hat2 glt2
          rw [HAB.out] at own2 ⊢
          have hu2 : Below (((w.alloc (Obj.cells #[.string an, .slice (some ⟨ga, 0, none⟩) ats.length ca, .int .i64 aa, .int .i64 au] 25)).alloc (Obj.cells #[.string bn, .slice (some ⟨gb, 0, none⟩) bts.length cb, .int .i64 ba, .int .i64 bu] 25)).alloc (Obj.cells #[.int .i64 0, .int .i64 0, .int .i64 0, .int .i64 0, .int .i64 0] 28)).heap.size (((w.alloc (Obj.cells #[.string an, .slice (some ⟨ga, 0, none⟩) ats.length ca, .int .i64 aa, .int .i64 au] 25)).alloc (Obj.cells #[.string bn, .slice (some ⟨gb, 0, none⟩) bts.length cb, .int .i64 ba, .int .i64 bu] 25)).alloc (Obj.cells #[.int .i64 0, .int .i64 0, .int .i64 0, .int .i64 0, .int .i64 0] 28)) u2 := hu1.grown grow2 hu1.size (fun q hq => (own.lt q hq).1)
          have own := own2
          clear own2 grow2 hat2
          refine hK.out _ _ hu2 (fun _ => ?_)
          clear hK K
          try simp only [Act.put, List.setIfInBounds_toArray, List.set_cons_zero, List.set_cons_succ, List.getElem_toArray, List.getElem_cons_succ, List.getElem_cons_zero]
          refine wpAnyH_ready (rs := [7, 11]) (by kernel_rfl) (by simp) ?_
          refine AllReadyH.cons rfl (fun K hK => ?_) (AllReadyH.cons rfl (fun K hK => ?_) AllReadyH.nil)
          · skip
            go_simp
            go_at_call 44
            refine (HLe.out g2 c2 u2 own).mono ?_
            rintro e u3 ⟨rfl, hu3⟩
            have hs3 := chain hu2 hu3
            clear own
            refine hK.out _ _ hs3 (fun _ => ?_)
            clear hK K
            try simp only [Act.put, List.setIfInBounds_toArray, List.set_cons_zero, List.set_cons_succ, List.getElem_toArray, List.getElem_cons_succ, List.getElem_cons_zero]
            refine wpAnyH_take (i := 8) (v := .tuple #[.agg #[.int .i64 z1, .int .i64 z2, .int .i64 z3, .int .i64 z4, .int .i64 z5], .bool cbn]) rfl (by kernel_rfl) (by kernel_rfl) (by kernel_rfl) (fun _ _ _ h => h) (Or.inl ⟨by rfl, fun w hSw => by go_simp⟩) hs3 ?_
            try simp only [Act.put, List.setIfInBounds_toArray, List.set_cons_zero, List.set_cons_succ, List.getElem_toArray, List.getElem_cons_succ, List.getElem_cons_zero]
            refine wpAnyH_take (i := 9) (v := .agg #[.int .i64 z1, .int .i64 z2, .int .i64 z3, .int .i64 z4, .int .i64 z5]) rfl (by kernel_rfl) (by kernel_rfl) (by kernel_rfl) (fun _ _ _ h => h) (Or.inl ⟨by rfl, fun w hSw => by go_simp⟩) hs3 ?_
            try simp only [Act.put, List.setIfInBounds_toArray, List.set_cons_zero, List.set_cons_succ, List.getElem_toArray, List.getElem_cons_succ, List.getElem_cons_zero]
            refine wpAnyH_take (i := 10) (v := .bool cbn) rfl (by kernel_rfl) (by kernel_rfl) (by kernel_rfl) (fun _ _ _ h => h) (Or.inl ⟨by rfl, fun w hSw => by go_simp⟩) hs3 ?_
            try simp only [Act.put, List.setIfInBounds_toArray, List.set_cons_zero, List.set_cons_succ, List.getElem_toArray, List.getElem_cons_succ, List.getElem_cons_zero]
            refine wpAnyH_ready (rs := [11]) (by kernel_rfl) (by simp) ?_
            refine AllReadyH.cons rfl (fun K hK => ?_) AllReadyH.nil
            go_simp
            have hz := chain hs3 (below_alloc _ (Obj.cells #[.int .i64 0, .int .i64 0, .int .i64 0, .int .i64 0, .int .i64 0] 28))
            refine hK.out _ _ hz (fun _ => ?_)
            clear hK K
            try simp only [Act.put, List.setIfInBounds_toArray, List.set_cons_zero, List.set_cons_succ, List.getElem_toArray, List.getElem_cons_succ, List.getElem_cons_zero]
            refine wpAnyH_ready (rs := [12]) (by kernel_rfl) (by simp) ?_
            refine AllReadyH.cons rfl (fun K hK => ?_) AllReadyH.nil
            go_simp
            obtain ⟨Wf, hWf⟩ : ∃ Wf, Wf = u3.alloc (Obj.cells #[.int .i64 z1, .int .i64 z2, .int .i64 z3, .int .i64 z4, .int .i64 z5] 28) := ⟨_, rfl⟩
            have hSf : Below (((w.alloc (Obj.cells #[.string an, .slice (some ⟨ga, 0, none⟩) ats.length ca, .int .i64 aa, .int .i64 au] 25)).alloc (Obj.cells #[.string bn, .slice (some ⟨gb, 0, none⟩) bts.length cb, .int .i64 ba, .int .i64 bu] 25)).alloc (Obj.cells #[.int .i64 0, .int .i64 0, .int .i64 0, .int .i64 0, .int .i64 0] 28)).heap.size (((w.alloc (Obj.cells #[.string an, .slice (some ⟨ga, 0, none⟩) ats.length ca, .int .i64 aa, .int .i64 au] 25)).alloc (Obj.cells #[.string bn, .slice (some ⟨gb, 0, none⟩) bts.length cb, .int .i64 ba, .int .i64 bu] 25)).alloc (Obj.cells #[.int .i64 0, .int .i64 0, .int .i64 0, .int .i64 0, .int .i64 0] 28)) Wf := by rw [hWf]; exact chain hs3 (below_alloc _ _)
            have hnbk : w.heap.size + 1 + 1 < u3.heap.size := by have := hs3.size; simp at this; omega
            have r0 : Wf.cell? ⟨u3.heap.size, 0, none⟩ = some (.int .i64 z1) := by rw [hWf]; exact cellNew _ _ _ _ rfl rfl
            have r1 : Wf.cell? ⟨u3.heap.size, 1, none⟩ = some (.int .i64 z2) := by rw [hWf]; exact cellNew _ _ _ _ rfl rfl
            have r2 : Wf.cell? ⟨u3.heap.size, 2, none⟩ = some (.int .i64 z3) := by rw [hWf]; exact cellNew _ _ _ _ rfl rfl
            have r3 : Wf.cell? ⟨u3.heap.size, 3, none⟩ = some (.int .i64 z4) := by rw [hWf]; exact cellNew _ _ _ _ rfl rfl
            have r4 : Wf.cell? ⟨u3.heap.size, 4, none⟩ = some (.int .i64 z5) := by rw [hWf]; exact cellNew _ _ _ _ rfl rfl
            rw [← hWf]
            refine hK.out _ _ hSf (fun _ => ?_)
            clear hK K
            try simp only [Act.put]
            refine wpAnyH_take (i := 13) (v := .bool cbn) rfl (by kernel_rfl) (by kernel_rfl) (by kernel_rfl) (fun _ _ _ h => h) (Or.inl ⟨by rfl, fun w hSw => by go_simp⟩) hSf ?_
            try simp only [Act.put, List.setIfInBounds_toArray, List.set_cons_zero, List.set_cons_succ, List.getElem_toArray, List.getElem_cons_succ, List.getElem_cons_zero]
            refine wpAnyH_done (by kernel_rfl) ?_ _
            try simp
            generalize hblk : u3.heap.size = nbk at *
            clear hWf hblk
            have HBf : Hid (Below w.heap.size w Wf) := chain (chain (chain (below_alloc _ _) (below_alloc _ _)) (below_alloc _ _)) hSf
            obtain ⟨⟨a0, a1, a2, a3⟩, ⟨b0, b1, b2, b3⟩, ⟨p0, p1, p2, p3, p4⟩, pf⟩ := ckAt (an := an) (ha := some ⟨ga, 0, none⟩) (na := ats.length) (ca := ca) (aa := aa) (au := au) (bn := bn) (hb := some ⟨gb, 0, none⟩) (nb := bts.length) (cb := cb) (ba := ba) (bu := bu) hSf
            obtain ⟨vv0, p0⟩ : ∃ v, Wf.cell? ⟨w.heap.size + 1 + 1, 0, none⟩ = some v := ⟨_, p0⟩
            obtain ⟨vv1, p1⟩ : ∃ v, Wf.cell? ⟨w.heap.size + 1 + 1, 1, none⟩ = some v := ⟨_, p1⟩
            obtain ⟨vv2, p2⟩ : ∃ v, Wf.cell? ⟨w.heap.size + 1 + 1, 2, none⟩ = some v := ⟨_, p2⟩
            obtain ⟨vv3, p3⟩ : ∃ v, Wf.cell? ⟨w.heap.size + 1 + 1, 3, none⟩ = some v := ⟨_, p3⟩
            obtain ⟨vv4, p4⟩ : ∃ v, Wf.cell? ⟨w.heap.size + 1 + 1, 4, none⟩ = some v := ⟨_, p4⟩
            have f0 := pf 0
            have f1 := pf 1
            have f2 := pf 2
            have f3 := pf 3
            have f4 := pf 4
            clear pf
            have hlt3 : w.heap.size + 1 + 1 < nbk := hnbk
            clear hSf hnbk
            rcases hw with ⟨rfl, rfl, rfl, rfl⟩ | ⟨rfl, rfl, rfl, rfl, rfl, rfl⟩ | ⟨rfl, rfl, g3, rfl, rfl, rfl⟩ | ⟨rfl, g2, rfl, rfl, rfl⟩
            · go_wp2
              refine bodyPost_ret (v := .tuple #[.agg #[.int .i64 0, .int .i64 0, .int .i64 0, .int .i64 0, .int .i64 0], .bool false, .int .i64 0]) (by simp [results, Try.results16, go_sem, p0, p1, p2, p3, p4]) rfl ⟨rfl, ?_⟩
              repeat refine Below.setCell ?_ (by dsimp only; omega) _
              exact HBf.out
            · go_wp2
              refine bodyPost_ret (v := .tuple #[.agg #[.int .i64 0, .int .i64 0, .int .i64 0, .int .i64 0, .int .i64 0], .bool false, .int .i64 0]) (by simp [results, Try.results16, go_sem, p0, p1, p2, p3, p4]) rfl ⟨rfl, ?_⟩
              repeat refine Below.setCell ?_ (by dsimp only; omega) _
              exact HBf.out
            · go_wp2
              refine bodyPost_ret (v := .tuple #[.agg #[.int .i64 z1, .int .i64 z2, .int .i64 z3, .int .i64 z4, .int .i64 z5], .bool true, .int .i64 0]) (by simp [results, Try.results16, go_sem, p0, p1, p2, p3, p4]) rfl ⟨rfl, ?_⟩
              repeat refine Below.setCell ?_ (by dsimp only; omega) _
              exact HBf.out
            · go_wp2
              refine bodyPost_ret (v := .tuple #[.agg #[.int .i64 z1, .int .i64 z2, .int .i64 z3, .int .i64 z4, .int .i64 z5], .bool true, .int .i64 0]) (by simp [results, Try.results16, go_sem, p0, p1, p2, p3, p4]) rfl ⟨rfl, ?_⟩
              repeat refine Below.setCell ?_ (by dsimp only; omega) _
              exact HBf.out
          · skip
            go_simp
            have hz := chain hu2 (below_alloc _ (Obj.cells #[.int .i64 0, .int .i64 0, .int .i64 0, .int .i64 0, .int .i64 0] 28))
            refine hK.out _ _ hz (fun _ => ?_)
            clear hK K
            try simp only [Act.put, List.setIfInBounds_toArray, List.set_cons_zero, List.set_cons_succ, List.getElem_toArray, List.getElem_cons_succ, List.getElem_cons_zero]
            have Rz : (u2.alloc (Obj.cells #[.int .i64 0, .int .i64 0, .int .i64 0, .int .i64 0, .int .i64 0] 28)).heap[u2.heap.size]? = some (.cells #[.int .i64 0, .int .i64 0, .int .i64 0, .int .i64 0, .int .i64 0] 28 (0, 0)) := heapNew _ _
            have hzl : (((w.alloc (Obj.cells #[.string an, .slice (some ⟨ga, 0, none⟩) ats.length ca, .int .i64 aa, .int .i64 au] 25)).alloc (Obj.cells #[.string bn, .slice (some ⟨gb, 0, none⟩) bts.length cb, .int .i64 ba, .int .i64 bu] 25)).alloc (Obj.cells #[.int .i64 0, .int .i64 0, .int .i64 0, .int .i64 0, .int .i64 0] 28)).heap.size ≤ u2.heap.size := hu2.size
            have own := own.alloc (Obj.cells #[.int .i64 0, .int .i64 0, .int .i64 0, .int .i64 0, .int .i64 0] 28)
            have hne : g2 ≠ u2.heap.size := by omega
            refine wpAnyH_ready (rs := [7]) (by kernel_rfl) (by simp) ?_
            refine AllReadyH.cons rfl (fun K hK => ?_) AllReadyH.nil
            go_simp
            go_at_call 44
            refine (HLe.out g2 c2 (u2.alloc (Obj.cells #[.int .i64 0, .int .i64 0, .int .i64 0, .int .i64 0, .int .i64 0] 28)) own).mono ?_
            rintro e u3 ⟨rfl, hu3⟩
            have hs3 := chain hz hu3
            have Rz := (hu3.block _ (RoomLt Rz)).trans Rz
            clear own
            refine hK.out _ _ hs3 (fun _ => ?_)
            clear hK K
            try simp only [Act.put, List.setIfInBounds_toArray, List.set_cons_zero, List.set_cons_succ, List.getElem_toArray, List.getElem_cons_succ, List.getElem_cons_zero]
            refine wpAnyH_take (i := 8) (v := .tuple #[.agg #[.int .i64 z1, .int .i64 z2, .int .i64 z3, .int .i64 z4, .int .i64 z5], .bool cbn]) rfl (by kernel_rfl) (by kernel_rfl) (by kernel_rfl) (fun _ _ _ h => h) (Or.inl ⟨by rfl, fun w hSw => by go_simp⟩) hs3 ?_
            try simp only [Act.put, List.setIfInBounds_toArray, List.set_cons_zero, List.set_cons_succ, List.getElem_toArray, List.getElem_cons_succ, List.getElem_cons_zero]
            refine wpAnyH_take (i := 9) (v := .agg #[.int .i64 z1, .int .i64 z2, .int .i64 z3, .int .i64 z4, .int .i64 z5]) rfl (by kernel_rfl) (by kernel_rfl) (by kernel_rfl) (fun _ _ _ h => h) (Or.inl ⟨by rfl, fun w hSw => by go_simp⟩) hs3 ?_
            try simp only [Act.put, List.setIfInBounds_toArray, List.set_cons_zero, List.set_cons_succ, List.getElem_toArray, List.getElem_cons_succ, List.getElem_cons_zero]
            refine wpAnyH_take (i := 10) (v := .bool cbn) rfl (by kernel_rfl) (by kernel_rfl) (by kernel_rfl) (fun _ _ _ h => h) (Or.inl ⟨by rfl, fun w hSw => by go_simp⟩) hs3 ?_
            try simp only [Act.put, List.setIfInBounds_toArray, List.set_cons_zero, List.set_cons_succ, List.getElem_toArray, List.getElem_cons_succ, List.getElem_cons_zero]
            refine wpAnyH_ready (rs := [12]) (by kernel_rfl) (by simp) ?_
            refine AllReadyH.cons rfl (fun K hK => ?_) AllReadyH.nil
            have q0 : u3.cell? ⟨u2.heap.size, 0, none⟩ = some (.int .i64 0) := by rw [cell_of_row _ _ _ _ _ _ Rz]; rfl
            have q1 : u3.cell? ⟨u2.heap.size, 1, none⟩ = some (.int .i64 0) := by rw [cell_of_row _ _ _ _ _ _ Rz]; rfl
            have q2 : u3.cell? ⟨u2.heap.size, 2, none⟩ = some (.int .i64 0) := by rw [cell_of_row _ _ _ _ _ _ Rz]; rfl
            have q3 : u3.cell? ⟨u2.heap.size, 3, none⟩ = some (.int .i64 0) := by rw [cell_of_row _ _ _ _ _ _ Rz]; rfl
            have q4 : u3.cell? ⟨u2.heap.size, 4, none⟩ = some (.int .i64 0) := by rw [cell_of_row _ _ _ _ _ _ Rz]; rfl
            have y0 : u3.frozen? ⟨u2.heap.size, 0, none⟩ = false := frozen_of_row _ _ _ _ _ Rz
            have y1 : u3.frozen? ⟨u2.heap.size, 1, none⟩ = false := frozen_of_row _ _ _ _ _ Rz
            have y2 : u3.frozen? ⟨u2.heap.size, 2, none⟩ = false := frozen_of_row _ _ _ _ _ Rz
            have y3 : u3.frozen? ⟨u2.heap.size, 3, none⟩ = false := frozen_of_row _ _ _ _ _ Rz
            have y4 : u3.frozen? ⟨u2.heap.size, 4, none⟩ = false := frozen_of_row _ _ _ _ _ Rz
            go_simp
            obtain ⟨Wf, hWf⟩ : ∃ Wf, Wf = (((((u3.setCell ⟨u2.heap.size, 0, none⟩ (.int .i64 z1)).setCell ⟨u2.heap.size, 1, none⟩ (.int .i64 z2)).setCell ⟨u2.heap.size, 2, none⟩ (.int .i64 z3)).setCell ⟨u2.heap.size, 3, none⟩ (.int .i64 z4)).setCell ⟨u2.heap.size, 4, none⟩ (.int .i64 z5)) := ⟨_, rfl⟩
            have hSf : Below (((w.alloc (Obj.cells #[.string an, .slice (some ⟨ga, 0, none⟩) ats.length ca, .int .i64 aa, .int .i64 au] 25)).alloc (Obj.cells #[.string bn, .slice (some ⟨gb, 0, none⟩) bts.length cb, .int .i64 ba, .int .i64 bu] 25)).alloc (Obj.cells #[.int .i64 0, .int .i64 0, .int .i64 0, .int .i64 0, .int .i64 0] 28)).heap.size (((w.alloc (Obj.cells #[.string an, .slice (some ⟨ga, 0, none⟩) ats.length ca, .int .i64 aa, .int .i64 au] 25)).alloc (Obj.cells #[.string bn, .slice (some ⟨gb, 0, none⟩) bts.length cb, .int .i64 ba, .int .i64 bu] 25)).alloc (Obj.cells #[.int .i64 0, .int .i64 0, .int .i64 0, .int .i64 0, .int .i64 0] 28)) Wf := by rw [hWf]; exact ((((hs3.setCell hzl _).setCell hzl _).setCell hzl _).setCell hzl _).setCell hzl _
            have hnbk : w.heap.size + 1 + 1 < u2.heap.size := by simp at hzl; omega
            have r0 : Wf.cell? ⟨u2.heap.size, 0, none⟩ = some (.int .i64 z1) := by rw [hWf]; simp [go_sem, q0]
            have r1 : Wf.cell? ⟨u2.heap.size, 1, none⟩ = some (.int .i64 z2) := by rw [hWf]; simp [go_sem, q1]
            have r2 : Wf.cell? ⟨u2.heap.size, 2, none⟩ = some (.int .i64 z3) := by rw [hWf]; simp [go_sem, q2]
            have r3 : Wf.cell? ⟨u2.heap.size, 3, none⟩ = some (.int .i64 z4) := by rw [hWf]; simp [go_sem, q3]
            have r4 : Wf.cell? ⟨u2.heap.size, 4, none⟩ = some (.int .i64 z5) := by rw [hWf]; simp [go_sem, q4]
            clear q0 q1 q2 q3 q4 y0 y1 y2 y3 y4
            rw [← hWf]
            refine hK.out _ _ hSf (fun _ => ?_)
            clear hK K
            try simp only [Act.put]
            refine wpAnyH_take (i := 13) (v := .bool cbn) rfl (by kernel_rfl) (by kernel_rfl) (by kernel_rfl) (fun _ _ _ h => h) (Or.inl ⟨by rfl, fun w hSw => by go_simp⟩) hSf ?_
            try simp only [Act.put, List.setIfInBounds_toArray, List.set_cons_zero, List.set_cons_succ, List.getElem_toArray, List.getElem_cons_succ, List.getElem_cons_zero]
            refine wpAnyH_done (by kernel_rfl) ?_ _
            try simp
            generalize hblk : u2.heap.size = nbk at *
            clear hWf hblk Rz hzl
            have HBf : Hid (Below w.heap.size w Wf) := chain (chain (chain (below_alloc _ _) (below_alloc _ _)) (below_alloc _ _)) hSf
            obtain ⟨⟨a0, a1, a2, a3⟩, ⟨b0, b1, b2, b3⟩, ⟨p0, p1, p2, p3, p4⟩, pf⟩ := ckAt (an := an) (ha := some ⟨ga, 0, none⟩) (na := ats.length) (ca := ca) (aa := aa) (au := au) (bn := bn) (hb := some ⟨gb, 0, none⟩) (nb := bts.length) (cb := cb) (ba := ba) (bu := bu) hSf
            obtain ⟨vv0, p0⟩ : ∃ v, Wf.cell? ⟨w.heap.size + 1 + 1, 0, none⟩ = some v := ⟨_, p0⟩
            obtain ⟨vv1, p1⟩ : ∃ v, Wf.cell? ⟨w.heap.size + 1 + 1, 1, none⟩ = some v := ⟨_, p1⟩
            obtain ⟨vv2, p2⟩ : ∃ v, Wf.cell? ⟨w.heap.size + 1 + 1, 2, none⟩ = some v := ⟨_, p2⟩
            obtain ⟨vv3, p3⟩ : ∃ v, Wf.cell? ⟨w.heap.size + 1 + 1, 3, none⟩ = some v := ⟨_, p3⟩
            obtain ⟨vv4, p4⟩ : ∃ v, Wf.cell? ⟨w.heap.size + 1 + 1, 4, none⟩ = some v := ⟨_, p4⟩
            have f0 := pf 0
            have f1 := pf 1
            have f2 := pf 2
            have f3 := pf 3
            have f4 := pf 4
            clear pf
            have hlt3 : w.heap.size + 1 + 1 < nbk := hnbk
            clear hSf hnbk
            rcases hw with ⟨rfl, rfl, rfl, rfl⟩ | ⟨rfl, rfl, rfl, rfl, rfl, rfl⟩ | ⟨rfl, rfl, g3, rfl, rfl, rfl⟩ | ⟨rfl, g2, rfl, rfl, rfl⟩
            · go_wp2
              refine bodyPost_ret (v := .tuple #[.agg #[.int .i64 0, .int .i64 0, .int .i64 0, .int .i64 0, .int .i64 0], .bool false, .int .i64 0]) (by simp [results, Try.results16, go_sem, p0, p1, p2, p3, p4]) rfl ⟨rfl, ?_⟩
              repeat refine Below.setCell ?_ (by dsimp only; omega) _
              exact HBf.out
            · go_wp2
              refine bodyPost_ret (v := .tuple #[.agg #[.int .i64 0, .int .i64 0, .int .i64 0, .int .i64 0, .int .i64 0], .bool false, .int .i64 0]) (by simp [results, Try.results16, go_sem, p0, p1, p2, p3, p4]) rfl ⟨rfl, ?_⟩
              repeat refine Below.setCell ?_ (by dsimp only; omega) _
              exact HBf.out
            · go_wp2
              refine bodyPost_ret (v := .tuple #[.agg #[.int .i64 z1, .int .i64 z2, .int .i64 z3, .int .i64 z4, .int .i64 z5], .bool true, .int .i64 0]) (by simp [results, Try.results16, go_sem, p0, p1, p2, p3, p4]) rfl ⟨rfl, ?_⟩
              repeat refine Below.setCell ?_ (by dsimp only; omega) _
              exact HBf.out
            · go_wp2
              refine bodyPost_ret (v := .tuple #[.agg #[.int .i64 z1, .int .i64 z2, .int .i64 z3, .int .i64 z4, .int .i64 z5], .bool true, .int .i64 0]) (by simp [results, Try.results16, go_sem, p0, p1, p2, p3, p4]) rfl ⟨rfl, ?_⟩
              repeat refine Below.setCell ?_ (by dsimp only; omega) _
              exact HBf.out
        · skip
          go_simp
          have hz := chain hu1 (below_alloc _ (Obj.cells #[.int .i64 0, .int .i64 0, .int .i64 0, .int .i64 0, .int .i64 0] 28))
          refine hK.out _ _ hz (fun _ => ?_)
          clear hK K
          try simp only [Act.put, List.setIfInBounds_toArray, List.set_cons_zero, List.set_cons_succ, List.getElem_toArray, List.getElem_cons_succ, List.getElem_cons_zero]
          have Rz : (u1.alloc (Obj.cells #[.int .i64 0, .int .i64 0, .int .i64 0, .int .i64 0, .int .i64 0] 28)).heap[u1.heap.size]? = some (.cells #[.int .i64 0, .int .i64 0, .int .i64 0, .int .i64 0, .int .i64 0] 28 (0, 0)) := heapNew _ _
          have hzl : (((w.alloc (Obj.cells #[.string an, .slice (some ⟨ga, 0, none⟩) ats.length ca, .int .i64 aa, .int .i64 au] 25)).alloc (Obj.cells #[.string bn, .slice (some ⟨gb, 0, none⟩) bts.length cb, .int .i64 ba, .int .i64 bu] 25)).alloc (Obj.cells #[.int .i64 0, .int .i64 0, .int .i64 0, .int .i64 0, .int .i64 0] 28)).heap.size ≤ u1.heap.size := hu1.size
          have own := own.alloc (Obj.cells #[.int .i64 0, .int .i64 0, .int .i64 0, .int .i64 0, .int .i64 0] 28)
          have hne : g1 ≠ u1.heap.size := by omega
          refine wpAnyH_ready (rs := [6]) (by kernel_rfl) (by simp) ?_
          refine AllReadyH.cons rfl (fun K hK => ?_) AllReadyH.nil
          refine step_tms rfl _ _ rfl (((w.alloc (Obj.cells #[.string an, .slice (some ⟨ga, 0, none⟩) ats.length ca, .int .i64 aa, .int .i64 au] 25)).alloc (Obj.cells #[.string bn, .slice (some ⟨gb, 0, none⟩) bts.length cb, .int .i64 ba, .int .i64 bu] 25)).alloc (Obj.cells #[.int .i64 0, .int .i64 0, .int .i64 0, .int .i64 0, .int .i64 0] 28)).heap.size g1 _ ats rfl own gb cb bts (by omega) rfl (tmNews (rb.out.later (chain (chain (chain (chain (below_alloc _ _) (below_alloc _ _)) (below_alloc _ _)) hz) (Below.refl _ _)))) hz.size ?_
          intro g2 c2 u2 own2 grow2 hat2 glt2
          rw [HAB.out] at own2 ⊢
          have hu2 : Below (((w.alloc (Obj.cells #[.string an, .slice (some ⟨ga, 0, none⟩) ats.length ca, .int .i64 aa, .int .i64 au] 25)).alloc (Obj.cells #[.string bn, .slice (some ⟨gb, 0, none⟩) bts.length cb, .int .i64 ba, .int .i64 bu] 25)).alloc (Obj.cells #[.int .i64 0, .int .i64 0, .int .i64 0, .int .i64 0, .int .i64 0] 28)).heap.size (((w.alloc (Obj.cells #[.string an, .slice (some ⟨ga, 0, none⟩) ats.length ca, .int .i64 aa, .int .i64 au] 25)).alloc (Obj.cells #[.string bn, .slice (some ⟨gb, 0, none⟩) bts.length cb, .int .i64 ba, .int .i64 bu] 25)).alloc (Obj.cells #[.int .i64 0, .int .i64 0, .int .i64 0, .int .i64 0, .int .i64 0] 28)) u2 := hz.grown grow2 hz.size (fun q hq => (own.lt q hq).1)
          have hltz := RoomLt Rz
          have Rz := (grow2.block _ (RoomLt Rz) (fun q => hne (Option.some.inj q).symm)).trans Rz
          have hne : g2 ≠ u1.heap.size := by omega
          clear hltz
          have own := own2
          clear own2 grow2 hat2
          refine hK.out _ _ hu2 (fun _ => ?_)
          clear hK K
          try simp only [Act.put, List.setIfInBounds_toArray, List.set_cons_zero, List.set_cons_succ, List.getElem_toArray, List.getElem_cons_succ, List.getElem_cons_zero]
          refine wpAnyH_ready (rs := [7]) (by kernel_rfl) (by simp) ?_
          refine AllReadyH.cons rfl (fun K hK => ?_) AllReadyH.nil
          go_simp
          go_at_call 44
          refine (HLe.out g2 c2 u2 own).mono ?_
          rintro e u3 ⟨rfl, hu3⟩
          have hs3 := chain hu2 hu3
          have Rz := (hu3.block _ (RoomLt Rz)).trans Rz
          clear own
          refine hK.out _ _ hs3 (fun _ => ?_)
          clear hK K
          try simp only [Act.put, List.setIfInBounds_toArray, List.set_cons_zero, List.set_cons_succ, List.getElem_toArray, List.getElem_cons_succ, List.getElem_cons_zero]
          refine wpAnyH_take (i := 8) (v := .tuple #[.agg #[.int .i64 z1, .int .i64 z2, .int .i64 z3, .int .i64 z4, .int .i64 z5], .bool cbn]) rfl (by kernel_rfl) (by kernel_rfl) (by kernel_rfl) (fun _ _ _ h => h) (Or.inl ⟨by rfl, fun w hSw => by go_simp⟩) hs3 ?_
          try simp only [Act.put, List.setIfInBounds_toArray, List.set_cons_zero, List.set_cons_succ, List.getElem_toArray, List.getElem_cons_succ, List.getElem_cons_zero]
          refine wpAnyH_take (i := 9) (v := .agg #[.int .i64 z1, .int .i64 z2, .int .i64 z3, .int .i64 z4, .int .i64 z5]) rfl (by kernel_rfl) (by kernel_rfl) (by kernel_rfl) (fun _ _ _ h => h) (Or.inl ⟨by rfl, fun w hSw => by go_simp⟩) hs3 ?_
          try simp only [Act.put, List.setIfInBounds_toArray, List.set_cons_zero, List.set_cons_succ, List.getElem_toArray, List.getElem_cons_succ, List.getElem_cons_zero]
          refine wpAnyH_take (i := 10) (v := .bool cbn) rfl (by kernel_rfl) (by kernel_rfl) (by kernel_rfl) (fun _ _ _ h => h) (Or.inl ⟨by rfl, fun w hSw => by go_simp⟩) hs3 ?_
          try simp only [Act.put, List.setIfInBounds_toArray, List.set_cons_zero, List.set_cons_succ, List.getElem_toArray, List.getElem_cons_succ, List.getElem_cons_zero]
          refine wpAnyH_ready (rs := [12]) (by kernel_rfl) (by simp) ?_
          refine AllReadyH.cons rfl (fun K hK => ?_) AllReadyH.nil
          have q0 : u3.cell? ⟨u1.heap.size, 0, none⟩ = some (.int .i64 0) := by rw [cell_of_row _ _ _ _ _ _ Rz]; rfl
          have q1 : u3.cell? ⟨u1.heap.size, 1, none⟩ = some (.int .i64 0) := by rw [cell_of_row _ _ _ _ _ _ Rz]; rfl
          have q2 : u3.cell? ⟨u1.heap.size, 2, none⟩ = some (.int .i64 0) := by rw [cell_of_row _ _ _ _ _ _ Rz]; rfl
          have q3 : u3.cell? ⟨u1.heap.size, 3, none⟩ = some (.int .i64 0) := by rw [cell_of_row _ _ _ _ _ _ Rz]; rfl
          have q4 : u3.cell? ⟨u1.heap.size, 4, none⟩ = some (.int .i64 0) := by rw [cell_of_row _ _ _ _ _ _ Rz]; rfl
          have y0 : u3.frozen? ⟨u1.heap.size, 0, none⟩ = false := frozen_of_row _ _ _ _ _ Rz
          have y1 : u3.frozen? ⟨u1.heap.size, 1, none⟩ = false := frozen_of_row _ _ _ _ _ Rz
          have y2 : u3.frozen? ⟨u1.heap.size, 2, none⟩ = false := frozen_of_row _ _ _ _ _ Rz
          have y3 : u3.frozen? ⟨u1.heap.size, 3, none⟩ = false := frozen_of_row _ _ _ _ _ Rz
          have y4 : u3.frozen? ⟨u1.heap.size, 4, none⟩ = false := frozen_of_row _ _ _ _ _ Rz
          go_simp
          obtain ⟨Wf, hWf⟩ : ∃ Wf, Wf = (((((u3.setCell ⟨u1.heap.size, 0, none⟩ (.int .i64 z1)).setCell ⟨u1.heap.size, 1, none⟩ (.int .i64 z2)).setCell ⟨u1.heap.size, 2, none⟩ (.int .i64 z3)).setCell ⟨u1.heap.size, 3, none⟩ (.int .i64 z4)).setCell ⟨u1.heap.size, 4, none⟩ (.int .i64 z5)) := ⟨_, rfl⟩
          have hSf : Below (((w.alloc (Obj.cells #[.string an, .slice (some ⟨ga, 0, none⟩) ats.length ca, .int .i64 aa, .int .i64 au] 25)).alloc (Obj.cells #[.string bn, .slice (some ⟨gb, 0, none⟩) bts.length cb, .int .i64 ba, .int .i64 bu] 25)).alloc (Obj.cells #[.int .i64 0, .int .i64 0, .int .i64 0, .int .i64 0, .int .i64 0] 28)).heap.size (((w.alloc (Obj.cells #[.string an, .slice (some ⟨ga, 0, none⟩) ats.length ca, .int .i64 aa, .int .i64 au] 25)).alloc (Obj.cells #[.string bn, .slice (some ⟨gb, 0, none⟩) bts.length cb, .int .i64 ba, .int .i64 bu] 25)).alloc (Obj.cells #[.int .i64 0, .int .i64 0, .int .i64 0, .int .i64 0, .int .i64 0] 28)) Wf := by rw [hWf]; exact ((((hs3.setCell hzl _).setCell hzl _).setCell hzl _).setCell hzl _).setCell hzl _
          have hnbk : w.heap.size + 1 + 1 < u1.heap.size := by simp at hzl; omega
          have r0 : Wf.cell? ⟨u1.heap.size, 0, none⟩ = some (.int .i64 z1) := by rw [hWf]; simp [go_sem, q0]
          have r1 : Wf.cell? ⟨u1.heap.size, 1, none⟩ = some (.int .i64 z2) := by rw [hWf]; simp [go_sem, q1]
          have r2 : Wf.cell? ⟨u1.heap.size, 2, none⟩ = some (.int .i64 z3) := by rw [hWf]; simp [go_sem, q2]
          have r3 : Wf.cell? ⟨u1.heap.size, 3, none⟩ = some (.int .i64 z4) := by rw [hWf]; simp [go_sem, q3]
          have r4 : Wf.cell? ⟨u1.heap.size, 4, none⟩ = some (.int .i64 z5) := by rw [hWf]; simp [go_sem, q4]
          clear q0 q1 q2 q3 q4 y0 y1 y2 y3 y4
          rw [← hWf]
          refine hK.out _ _ hSf (fun _ => ?_)
          clear hK K
          try simp only [Act.put]
          refine wpAnyH_take (i := 13) (v := .bool cbn) rfl (by kernel_rfl) (by kernel_rfl) (by kernel_rfl) (fun _ _ _ h => h) (Or.inl ⟨by rfl, fun w hSw => by go_simp⟩) hSf ?_
          try simp only [Act.put, List.setIfInBounds_toArray, List.set_cons_zero, List.set_cons_succ, List.getElem_toArray, List.getElem_cons_succ, List.getElem_cons_zero]
          refine wpAnyH_done (by kernel_rfl) ?_ _
          try simp
          generalize hblk : u1.heap.size = nbk at *
          clear hWf hblk Rz hzl
          have HBf : Hid (Below w.heap.size w Wf) := chain (chain (chain (below_alloc _ _) (below_alloc _ _)) (below_alloc _ _)) hSf
          obtain ⟨⟨a0, a1, a2, a3⟩, ⟨b0, b1, b2, b3⟩, ⟨p0, p1, p2, p3, p4⟩, pf⟩ := ckAt (an := an) (ha := some ⟨ga, 0, none⟩) (na := ats.length) (ca := ca) (aa := aa) (au := au) (bn := bn) (hb := some ⟨gb, 0, none⟩) (nb := bts.length) (cb := cb) (ba := ba) (bu := bu) hSf
          obtain ⟨vv0, p0⟩ : ∃ v, Wf.cell? ⟨w.heap.size + 1 + 1, 0, none⟩ = some v := ⟨_, p0⟩
          obtain ⟨vv1, p1⟩ : ∃ v, Wf.cell? ⟨w.heap.size + 1 + 1, 1, none⟩ = some v := ⟨_, p1⟩
          obtain ⟨vv2, p2⟩ : ∃ v, Wf.cell? ⟨w.heap.size + 1 + 1, 2, none⟩ = some v := ⟨_, p2⟩
          obtain ⟨vv3, p3⟩ : ∃ v, Wf.cell? ⟨w.heap.size + 1 + 1, 3, none⟩ = some v := ⟨_, p3⟩
          obtain ⟨vv4, p4⟩ : ∃ v, Wf.cell? ⟨w.heap.size + 1 + 1, 4, none⟩ = some v := ⟨_, p4⟩
          have f0 := pf 0
          have f1 := pf 1
          have f2 := pf 2
          have f3 := pf 3
          have f4 := pf 4
          clear pf
          have hlt3 : w.heap.size + 1 + 1 < nbk := hnbk
          clear hSf hnbk
          rcases hw with ⟨rfl, rfl, rfl, rfl⟩ | ⟨rfl, rfl, rfl, rfl, rfl, rfl⟩ | ⟨rfl, rfl, g3, rfl, rfl, rfl⟩ | ⟨rfl, g2, rfl, rfl, rfl⟩
          · go_wp2
            refine bodyPost_ret (v := .tuple #[.agg #[.int .i64 0, .int .i64 0, .int .i64 0, .int .i64 0, .int .i64 0], .bool false, .int .i64 0]) (by simp [results, Try.results16, go_sem, p0, p1, p2, p3, p4]) rfl ⟨rfl, ?_⟩
            repeat refine Below.setCell ?_ (by dsimp only; omega) _
            exact HBf.out
          · go_wp2
            refine bodyPost_ret (v := .tuple #[.agg #[.int .i64 0, .int .i64 0, .int .i64 0, .int .i64 0, .int .i64 0], .bool false, .int .i64 0]) (by simp [results, Try.results16, go_sem, p0, p1, p2, p3, p4]) rfl ⟨rfl, ?_⟩
            repeat refine Below.setCell ?_ (by dsimp only; omega) _
            exact HBf.out
          · go_wp2
            refine bodyPost_ret (v := .tuple #[.agg #[.int .i64 z1, .int .i64 z2, .int .i64 z3, .int .i64 z4, .int .i64 z5], .bool true, .int .i64 0]) (by simp [results, Try.results16, go_sem, p0, p1, p2, p3, p4]) rfl ⟨rfl, ?_⟩
            repeat refine Below.setCell ?_ (by dsimp only; omega) _
            exact HBf.out
          · go_wp2
            refine bodyPost_ret (v := .tuple #[.agg #[.int .i64 z1, .int .i64 z2, .int .i64 z3, .int .i64 z4, .int .i64 z5], .bool true, .int .i64 0]) (by simp [results, Try.results16, go_sem, p0, p1, p2, p3, p4]) rfl ⟨rfl, ?_⟩
            repeat refine Below.setCell ?_ (by dsimp only; omega) _
            exact HBf.out
      · skip
        go_simp
        have hz := chain hs0 (below_alloc _ (Obj.cells #[.int .i64 0, .int .i64 0, .int .i64 0, .int .i64 0, .int .i64 0] 28))
        refine hK.out _ _ hz (fun _ => ?_)
        clear hK K
        try simp only [Act.put, List.setIfInBounds_toArray, List.set_cons_zero, List.set_cons_succ, List.getElem_toArray, List.getElem_cons_succ, List.getElem_cons_zero]
        have Rz : ((v0.alloc (Obj.cells #[] 37)).alloc (Obj.cells #[.int .i64 0, .int .i64 0, .int .i64 0, .int .i64 0, .int .i64 0] 28)).heap[(v0.heap.size + 1)]? = some (.cells #[.int .i64 0, .int .i64 0, .int .i64 0, .int .i64 0, .int .i64 0] 28 (0, 0)) := by have := heapNew (v0.alloc (Obj.cells #[] 37)) (Obj.cells #[.int .i64 0, .int .i64 0, .int .i64 0, .int .i64 0, .int .i64 0] 28); rwa [World.size_alloc] at this
        have hzl : (((w.alloc (Obj.cells #[.string an, .slice (some ⟨ga, 0, none⟩) ats.length ca, .int .i64 aa, .int .i64 au] 25)).alloc (Obj.cells #[.string bn, .slice (some ⟨gb, 0, none⟩) bts.length cb, .int .i64 ba, .int .i64 bu] 25)).alloc (Obj.cells #[.int .i64 0, .int .i64 0, .int .i64 0, .int .i64 0, .int .i64 0] 28)).heap.size ≤ (v0.heap.size + 1) := by have := hs0.size; simpa using this
        have own := own.alloc (Obj.cells #[.int .i64 0, .int .i64 0, .int .i64 0, .int .i64 0, .int .i64 0] 28)
        have hne : v0.heap.size ≠ (v0.heap.size + 1) := by omega
        refine wpAnyH_ready (rs := [3]) (by kernel_rfl) (by simp) ?_
        refine AllReadyH.cons rfl (fun K hK => ?_) AllReadyH.nil
        refine step_tms rfl _ _ rfl (((w.alloc (Obj.cells #[.string an, .slice (some ⟨ga, 0, none⟩) ats.length ca, .int .i64 aa, .int .i64 au] 25)).alloc (Obj.cells #[.string bn, .slice (some ⟨gb, 0, none⟩) bts.length cb, .int .i64 ba, .int .i64 bu] 25)).alloc (Obj.cells #[.int .i64 0, .int .i64 0, .int .i64 0, .int .i64 0, .int .i64 0] 28)).heap.size v0.heap.size _ [] rfl own ga ca ats (by simp; omega) rfl (tmNews (ra.out.later (chain (chain (chain (chain (below_alloc _ _) (below_alloc _ _)) (below_alloc _ _)) hz) (Below.refl _ _)))) hz.size ?_
        intro g1 c1 u1 own1 grow1 hat1 glt1
        have hu1 : Below (((w.alloc (Obj.cells #[.string an, .slice (some ⟨ga, 0, none⟩) ats.length ca, .int .i64 aa, .int .i64 au] 25)).alloc (Obj.cells #[.string bn, .slice (some ⟨gb, 0, none⟩) bts.length cb, .int .i64 ba, .int .i64 bu] 25)).alloc (Obj.cells #[.int .i64 0, .int .i64 0, .int .i64 0, .int .i64 0, .int .i64 0] 28)).heap.size (((w.alloc (Obj.cells #[.string an, .slice (some ⟨ga, 0, none⟩) ats.length ca, .int .i64 aa, .int .i64 au] 25)).alloc (Obj.cells #[.string bn, .slice (some ⟨gb, 0, none⟩) bts.length cb, .int .i64 ba, .int .i64 bu] 25)).alloc (Obj.cells #[.int .i64 0, .int .i64 0, .int .i64 0, .int .i64 0, .int .i64 0] 28)) u1 := hz.grown grow1 hz.size (fun q hq => (own.lt q hq).1)
        have hltz := RoomLt Rz
        have Rz := (grow1.block _ (RoomLt Rz) (fun q => hne (Option.some.inj q).symm)).trans Rz
        have hne : g1 ≠ (v0.heap.size + 1) := by omega
        clear hltz
        have own := own1
        clear own1 grow1 hat1
        refine hK.out _ _ hu1 (fun _ => ?_)
        clear hK K
        try simp only [Act.put, List.setIfInBounds_toArray, List.set_cons_zero, List.set_cons_succ, List.getElem_toArray, List.getElem_cons_succ, List.getElem_cons_zero]
        refine wpAnyH_ready (rs := [6]) (by kernel_rfl) (by simp) ?_
        refine AllReadyH.cons rfl (fun K hK => ?_) AllReadyH.nil
        refine step_tms rfl _ _ rfl (((w.alloc (Obj.cells #[.string an, .slice (some ⟨ga, 0, none⟩) ats.length ca, .int .i64 aa, .int .i64 au] 25)).alloc (Obj.cells #[.string bn, .slice (some ⟨gb, 0, none⟩) bts.length cb, .int .i64 ba, .int .i64 bu] 25)).alloc (Obj.cells #[.int .i64 0, .int .i64 0, .int .i64 0, .int .i64 0, .int .i64 0] 28)).heap.size g1 _ ats rfl own gb cb bts (by omega) rfl (tmNews (rb.out.later (chain (chain (chain (chain (below_alloc _ _) (below_alloc _ _)) (below_alloc _ _)) hu1) (Below.refl _ _)))) hu1.size ?_
        intro g2 c2 u2 own2 grow2 hat2 glt2
        rw [HAB.out] at own2 ⊢
        have hu2 : Below (((w.alloc (Obj.cells #[.string an, .slice (some ⟨ga, 0, none⟩) ats.length ca, .int .i64 aa, .int .i64 au] 25)).alloc (Obj.cells #[.string bn, .slice (some ⟨gb, 0, none⟩) bts.length cb, .int .i64 ba, .int .i64 bu] 25)).alloc (Obj.cells #[.int .i64 0, .int .i64 0, .int .i64 0, .int .i64 0, .int .i64 0] 28)).heap.size (((w.alloc (Obj.cells #[.string an, .slice (some ⟨ga, 0, none⟩) ats.length ca, .int .i64 aa, .int .i64 au] 25)).alloc (Obj.cells #[.string bn, .slice (some ⟨gb, 0, none⟩) bts.length cb, .int .i64 ba, .int .i64 bu] 25)).alloc (Obj.cells #[.int .i64 0, .int .i64 0, .int .i64 0, .int .i64 0, .int .i64 0] 28)) u2 := hu1.grown grow2 hu1.size (fun q hq => (own.lt q hq).1)
        have hltz := RoomLt Rz
        have Rz := (grow2.block _ (RoomLt Rz) (fun q => hne (Option.some.inj q).symm)).trans Rz
        have hne : g2 ≠ (v0.heap.size + 1) := by omega
        clear hltz
        have own := own2
        clear own2 grow2 hat2
        refine hK.out _ _ hu2 (fun _ => ?_)
        clear hK K
        try simp only [Act.put, List.setIfInBounds_toArray, List.set_cons_zero, List.set_cons_succ, List.getElem_toArray, List.getElem_cons_succ, List.getElem_cons_zero]
        refine wpAnyH_ready (rs := [7]) (by kernel_rfl) (by simp) ?_
        refine AllReadyH.cons rfl (fun K hK => ?_) AllReadyH.nil
        go_simp
        go_at_call 44
        refine (HLe.out g2 c2 u2 own).mono ?_
        rintro e u3 ⟨rfl, hu3⟩
        have hs3 := chain hu2 hu3
        have Rz := (hu3.block _ (RoomLt Rz)).trans Rz
        clear own
        refine hK.out _ _ hs3 (fun _ => ?_)
        clear hK K
        try simp only [Act.put, List.setIfInBounds_toArray, List.set_cons_zero, List.set_cons_succ, List.getElem_toArray, List.getElem_cons_succ, List.getElem_cons_zero]
        refine wpAnyH_take (i := 8) (v := .tuple #[.agg #[.int .i64 z1, .int .i64 z2, .int .i64 z3, .int .i64 z4, .int .i64 z5], .bool cbn]) rfl (by kernel_rfl) (by kernel_rfl) (by kernel_rfl) (fun _ _ _ h => h) (Or.inl ⟨by rfl, fun w hSw => by go_simp⟩) hs3 ?_
        try simp only [Act.put, List.setIfInBounds_toArray, List.set_cons_zero, List.set_cons_succ, List.getElem_toArray, List.getElem_cons_succ, List.getElem_cons_zero]
        refine wpAnyH_take (i := 9) (v := .agg #[.int .i64 z1, .int .i64 z2, .int .i64 z3, .int .i64 z4, .int .i64 z5]) rfl (by kernel_rfl) (by kernel_rfl) (by kernel_rfl) (fun _ _ _ h => h) (Or.inl ⟨by rfl, fun w hSw => by go_simp⟩) hs3 ?_
        try simp only [Act.put, List.setIfInBounds_toArray, List.set_cons_zero, List.set_cons_succ, List.getElem_toArray, List.getElem_cons_succ, List.getElem_cons_zero]
        refine wpAnyH_take (i := 10) (v := .bool cbn) rfl (by kernel_rfl) (by kernel_rfl) (by kernel_rfl) (fun _ _ _ h => h) (Or.inl ⟨by rfl, fun w hSw => by go_simp⟩) hs3 ?_
        try simp only [Act.put, List.setIfInBounds_toArray, List.set_cons_zero, List.set_cons_succ, List.getElem_toArray, List.getElem_cons_succ, List.getElem_cons_zero]
        refine wpAnyH_ready (rs := [12]) (by kernel_rfl) (by simp) ?_
        refine AllReadyH.cons rfl (fun K hK => ?_) AllReadyH.nil
        have q0 : u3.cell? ⟨(v0.heap.size + 1), 0, none⟩ = some (.int .i64 0) := by rw [cell_of_row _ _ _ _ _ _ Rz]; rfl
        have q1 : u3.cell? ⟨(v0.heap.size + 1), 1, none⟩ = some (.int .i64 0) := by rw [cell_of_row _ _ _ _ _ _ Rz]; rfl
        have q2 : u3.cell? ⟨(v0.heap.size + 1), 2, none⟩ = some (.int .i64 0) := by rw [cell_of_row _ _ _ _ _ _ Rz]; rfl
        have q3 : u3.cell? ⟨(v0.heap.size + 1), 3, none⟩ = some (.int .i64 0) := by rw [cell_of_row _ _ _ _ _ _ Rz]; rfl
        have q4 : u3.cell? ⟨(v0.heap.size + 1), 4, none⟩ = some (.int .i64 0) := by rw [cell_of_row _ _ _ _ _ _ Rz]; rfl
        have y0 : u3.frozen? ⟨(v0.heap.size + 1), 0, none⟩ = false := frozen_of_row _ _ _ _ _ Rz
        have y1 : u3.frozen? ⟨(v0.heap.size + 1), 1, none⟩ = false := frozen_of_row _ _ _ _ _ Rz
        have y2 : u3.frozen? ⟨(v0.heap.size + 1), 2, none⟩ = false := frozen_of_row _ _ _ _ _ Rz
        have y3 : u3.frozen? ⟨(v0.heap.size + 1), 3, none⟩ = false := frozen_of_row _ _ _ _ _ Rz
        have y4 : u3.frozen? ⟨(v0.heap.size + 1), 4, none⟩ = false := frozen_of_row _ _ _ _ _ Rz
        go_simp
        obtain ⟨Wf, hWf⟩ : ∃ Wf, Wf = (((((u3.setCell ⟨(v0.heap.size + 1), 0, none⟩ (.int .i64 z1)).setCell ⟨(v0.heap.size + 1), 1, none⟩ (.int .i64 z2)).setCell ⟨(v0.heap.size + 1), 2, none⟩ (.int .i64 z3)).setCell ⟨(v0.heap.size + 1), 3, none⟩ (.int .i64 z4)).setCell ⟨(v0.heap.size + 1), 4, none⟩ (.int .i64 z5)) := ⟨_, rfl⟩
        have hSf : Below (((w.alloc (Obj.cells #[.string an, .slice (some ⟨ga, 0, none⟩) ats.length ca, .int .i64 aa, .int .i64 au] 25)).alloc (Obj.cells #[.string bn, .slice (some ⟨gb, 0, none⟩) bts.length cb, .int .i64 ba, .int .i64 bu] 25)).alloc (Obj.cells #[.int .i64 0, .int .i64 0, .int .i64 0, .int .i64 0, .int .i64 0] 28)).heap.size (((w.alloc (Obj.cells #[.string an, .slice (some ⟨ga, 0, none⟩) ats.length ca, .int .i64 aa, .int .i64 au] 25)).alloc (Obj.cells #[.string bn, .slice (some ⟨gb, 0, none⟩) bts.length cb, .int .i64 ba, .int .i64 bu] 25)).alloc (Obj.cells #[.int .i64 0, .int .i64 0, .int .i64 0, .int .i64 0, .int .i64 0] 28)) Wf := by rw [hWf]; exact ((((hs3.setCell hzl _).setCell hzl _).setCell hzl _).setCell hzl _).setCell hzl _
        have hnbk : w.heap.size + 1 + 1 < (v0.heap.size + 1) := by simp at hzl; omega
        have r0 : Wf.cell? ⟨(v0.heap.size + 1), 0, none⟩ = some (.int .i64 z1) := by rw [hWf]; simp [go_sem, q0]
        have r1 : Wf.cell? ⟨(v0.heap.size + 1), 1, none⟩ = some (.int .i64 z2) := by rw [hWf]; simp [go_sem, q1]
        have r2 : Wf.cell? ⟨(v0.heap.size + 1), 2, none⟩ = some (.int .i64 z3) := by rw [hWf]; simp [go_sem, q2]
        have r3 : Wf.cell? ⟨(v0.heap.size + 1), 3, none⟩ = some (.int .i64 z4) := by rw [hWf]; simp [go_sem, q3]
        have r4 : Wf.cell? ⟨(v0.heap.size + 1), 4, none⟩ = some (.int .i64 z5) := by rw [hWf]; simp [go_sem, q4]
        clear q0 q1 q2 q3 q4 y0 y1 y2 y3 y4
        rw [← hWf]
        refine hK.out _ _ hSf (fun _ => ?_)
        clear hK K
        try simp only [Act.put]
        refine wpAnyH_take (i := 13) (v := .bool cbn) rfl (by kernel_rfl) (by kernel_rfl) (by kernel_rfl) (fun _ _ _ h => h) (Or.inl ⟨by rfl, fun w hSw => by go_simp⟩) hSf ?_
        try simp only [Act.put, List.setIfInBounds_toArray, List.set_cons_zero, List.set_cons_succ, List.getElem_toArray, List.getElem_cons_succ, List.getElem_cons_zero]
        refine wpAnyH_done (by kernel_rfl) ?_ _
        try simp
        generalize hblk : (v0.heap.size + 1) = nbk at *
        clear hWf hblk Rz hzl
        have HBf : Hid (Below w.heap.size w Wf) := chain (chain (chain (below_alloc _ _) (below_alloc _ _)) (below_alloc _ _)) hSf
        obtain ⟨⟨a0, a1, a2, a3⟩, ⟨b0, b1, b2, b3⟩, ⟨p0, p1, p2, p3, p4⟩, pf⟩ := ckAt (an := an) (ha := some ⟨ga, 0, none⟩) (na := ats.length) (ca := ca) (aa := aa) (au := au) (bn := bn) (hb := some ⟨gb, 0, none⟩) (nb := bts.length) (cb := cb) (ba := ba) (bu := bu) hSf
        obtain ⟨vv0, p0⟩ : ∃ v, Wf.cell? ⟨w.heap.size + 1 + 1, 0, none⟩ = some v := ⟨_, p0⟩
        obtain ⟨vv1, p1⟩ : ∃ v, Wf.cell? ⟨w.heap.size + 1 + 1, 1, none⟩ = some v := ⟨_, p1⟩
        obtain ⟨vv2, p2⟩ : ∃ v, Wf.cell? ⟨w.heap.size + 1 + 1, 2, none⟩ = some v := ⟨_, p2⟩
        obtain ⟨vv3, p3⟩ : ∃ v, Wf.cell? ⟨w.heap.size + 1 + 1, 3, none⟩ = some v := ⟨_, p3⟩
        obtain ⟨vv4, p4⟩ : ∃ v, Wf.cell? ⟨w.heap.size + 1 + 1, 4, none⟩ = some v := ⟨_, p4⟩
        have f0 := pf 0
        have f1 := pf 1
        have f2 := pf 2
        have f3 := pf 3
        have f4 := pf 4
        clear pf
        have hlt3 : w.heap.size + 1 + 1 < nbk := hnbk
        clear hSf hnbk
        rcases hw with ⟨rfl, rfl, rfl, rfl⟩ | ⟨rfl, rfl, rfl, rfl, rfl, rfl⟩ | ⟨rfl, rfl, g3, rfl, rfl, rfl⟩ | ⟨rfl, g2, rfl, rfl, rfl⟩
        · go_wp2
          refine bodyPost_ret (v := .tuple #[.agg #[.int .i64 0, .int .i64 0, .int .i64 0, .int .i64 0, .int .i64 0], .bool false, .int .i64 0]) (by simp [results, Try.results16, go_sem, p0, p1, p2, p3, p4]) rfl ⟨rfl, ?_⟩
          repeat refine Below.setCell ?_ (by dsimp only; omega) _
          exact HBf.out
        · go_wp2
          refine bodyPost_ret (v := .tuple #[.agg #[.int .i64 0, .int .i64 0, .int .i64 0, .int .i64 0, .int .i64 0], .bool false, .int .i64 0]) (by simp [results, Try.results16, go_sem, p0, p1, p2, p3, p4]) rfl ⟨rfl, ?_⟩
          repeat refine Below.setCell ?_ (by dsimp only; omega) _
          exact HBf.out
        · go_wp2
          refine bodyPost_ret (v := .tuple #[.agg #[.int .i64 z1, .int .i64 z2, .int .i64 z3, .int .i64 z4, .int .i64 z5], .bool true, .int .i64 0]) (by simp [results, Try.results16, go_sem, p0, p1, p2, p3, p4]) rfl ⟨rfl, ?_⟩
          repeat refine Below.setCell ?_ (by dsimp only; omega) _
          exact HBf.out
        · go_wp2
          refine bodyPost_ret (v := .tuple #[.agg #[.int .i64 z1, .int .i64 z2, .int .i64 z3, .int .i64 z4, .int .i64 z5], .bool true, .int .i64 0]) (by simp [results, Try.results16, go_sem, p0, p1, p2, p3, p4]) rfl ⟨rfl, ?_⟩
          repeat refine Below.setCell ?_ (by dsimp only; omega) _
          exact HBf.out
    · skip
      go_simp
      have hz := chain hH (below_alloc _ (Obj.cells #[.int .i64 0, .int .i64 0, .int .i64 0, .int .i64 0, .int .i64 0] 28))
      refine hK.out _ _ hz (fun _ => ?_)
      clear hK K
      try simp only [Act.put, List.setIfInBounds_toArray, List.set_cons_zero, List.set_cons_succ, List.getElem_toArray, List.getElem_cons_succ, List.getElem_cons_zero]
      have Rz : (v0.alloc (Obj.cells #[.int .i64 0, .int .i64 0, .int .i64 0, .int .i64 0, .int .i64 0] 28)).heap[v0.heap.size]? = some (.cells #[.int .i64 0, .int .i64 0, .int .i64 0, .int .i64 0, .int .i64 0] 28 (0, 0)) := heapNew _ _
      have hzl : (((w.alloc (Obj.cells #[.string an, .slice (some ⟨ga, 0, none⟩) ats.length ca, .int .i64 aa, .int .i64 au] 25)).alloc (Obj.cells #[.string bn, .slice (some ⟨gb, 0, none⟩) bts.length cb, .int .i64 ba, .int .i64 bu] 25)).alloc (Obj.cells #[.int .i64 0, .int .i64 0, .int .i64 0, .int .i64 0, .int .i64 0] 28)).heap.size ≤ v0.heap.size := hH.size
      refine wpAnyH_ready (rs := [0]) (by kernel_rfl) (by simp) ?_
      refine AllReadyH.cons rfl (fun K hK => ?_) AllReadyH.nil
      go_simp
      have hs0 := chain hz (below_alloc _ (Obj.cells #[] 37))
      have own := ownEmptyTm (v0.alloc (Obj.cells #[.int .i64 0, .int .i64 0, .int .i64 0, .int .i64 0, .int .i64 0] 28)) (((w.alloc (Obj.cells #[.string an, .slice (some ⟨ga, 0, none⟩) ats.length ca, .int .i64 aa, .int .i64 au] 25)).alloc (Obj.cells #[.string bn, .slice (some ⟨gb, 0, none⟩) bts.length cb, .int .i64 ba, .int .i64 bu] 25)).alloc (Obj.cells #[.int .i64 0, .int .i64 0, .int .i64 0, .int .i64 0, .int .i64 0] 28)).heap.size hz.size
      rw [show (v0.alloc (Obj.cells #[.int .i64 0, .int .i64 0, .int .i64 0, .int .i64 0, .int .i64 0] 28)).heap.size = v0.heap.size + 1 by simp] at own
      have hgl : (v0.heap.size + 1) < ((v0.alloc (Obj.cells #[.int .i64 0, .int .i64 0, .int .i64 0, .int .i64 0, .int .i64 0] 28)).alloc (Obj.cells #[] 37)).heap.size := by simp
      have hne : (v0.heap.size + 1) ≠ v0.heap.size := by simp
      have Rz := ((below_alloc _ (Obj.cells #[] 37)).block _ (RoomLt Rz)).trans Rz
      refine hK.out _ _ hs0 (fun _ => ?_)
      clear hK K
      try simp only [Act.put, List.setIfInBounds_toArray, List.set_cons_zero, List.set_cons_succ, List.getElem_toArray, List.getElem_cons_succ, List.getElem_cons_zero]
      refine wpAnyH_ready (rs := [3]) (by kernel_rfl) (by simp) ?_
      refine AllReadyH.cons rfl (fun K hK => ?_) AllReadyH.nil
      refine step_tms rfl _ _ rfl (((w.alloc (Obj.cells #[.string an, .slice (some ⟨ga, 0, none⟩) ats.length ca, .int .i64 aa, .int .i64 au] 25)).alloc (Obj.cells #[.string bn, .slice (some ⟨gb, 0, none⟩) bts.length cb, .int .i64 ba, .int .i64 bu] 25)).alloc (Obj.cells #[.int .i64 0, .int .i64 0, .int .i64 0, .int .i64 0, .int .i64 0] 28)).heap.size (v0.heap.size + 1) _ [] rfl own ga ca ats (by simp; omega) rfl (tmNews (ra.out.later (chain (chain (chain (chain (below_alloc _ _) (below_alloc _ _)) (below_alloc _ _)) hs0) (Below.refl _ _)))) hs0.size ?_
      intro g1 c1 u1 own1 grow1 hat1 glt1
      have hu1 : Below (((w.alloc (Obj.cells #[.string an, .slice (some ⟨ga, 0, none⟩) ats.length ca, .int .i64 aa, .int .i64 au] 25)).alloc (Obj.cells #[.string bn, .slice (some ⟨gb, 0, none⟩) bts.length cb, .int .i64 ba, .int .i64 bu] 25)).alloc (Obj.cells #[.int .i64 0, .int .i64 0, .int .i64 0, .int .i64 0, .int .i64 0] 28)).heap.size (((w.alloc (Obj.cells #[.string an, .slice (some ⟨ga, 0, none⟩) ats.length ca, .int .i64 aa, .int .i64 au] 25)).alloc (Obj.cells #[.string bn, .slice (some ⟨gb, 0, none⟩) bts.length cb, .int .i64 ba, .int .i64 bu] 25)).alloc (Obj.cells #[.int .i64 0, .int .i64 0, .int .i64 0, .int .i64 0, .int .i64 0] 28)) u1 := hs0.grown grow1 hs0.size (fun q hq => (own.lt q hq).1)
      have hltz := RoomLt Rz
      have Rz := (grow1.block _ (RoomLt Rz) (fun q => hne (Option.some.inj q).symm)).trans Rz
      have hne : g1 ≠ v0.heap.size := by omega
      clear hltz
      have own := own1
      clear own1 grow1 hat1
      refine hK.out _ _ hu1 (fun _ => ?_)
      clear hK K
      try simp only [Act.put, List.setIfInBounds_toArray, List.set_cons_zero, List.set_cons_succ, List.getElem_toArray, List.getElem_cons_succ, List.getElem_cons_zero]
      refine wpAnyH_ready (rs := [6]) (by kernel_rfl) (by simp) ?_
      refine AllReadyH.cons rfl (fun K hK => ?_) AllReadyH.nil
      refine step_tms rfl _ _ rfl (((w.alloc (Obj.cells #[.string an, .slice (some ⟨ga, 0, none⟩) ats.length ca, .int .i64 aa, .int .i64 au] 25)).alloc (Obj.cells #[.string bn, .slice (some ⟨gb, 0, none⟩) bts.length cb, .int .i64 ba, .int .i64 bu] 25)).alloc (Obj.cells #[.int .i64 0, .int .i64 0, .int .i64 0, .int .i64 0, .int .i64 0] 28)).heap.size g1 _ ats rfl own gb cb bts (by omega) rfl (tmNews (rb.out.later (chain (chain (chain (chain (below_alloc _ _) (below_alloc _ _)) (below_alloc _ _)) hu1) (Below.refl _ _)))) hu1.size ?_
      intro g2 c2 u2 own2 grow2 hat2 glt2
      rw [HAB.out] at own2 ⊢
      have hu2 : Below (((w.alloc (Obj.cells #[.string an, .slice (some ⟨ga, 0, none⟩) ats.length ca, .int .i64 aa, .int .i64 au] 25)).alloc (Obj.cells #[.string bn, .slice (some ⟨gb, 0, none⟩) bts.length cb, .int .i64 ba, .int .i64 bu] 25)).alloc (Obj.cells #[.int .i64 0, .int .i64 0, .int .i64 0, .int .i64 0, .int .i64 0] 28)).heap.size (((w.alloc (Obj.cells #[.string an, .slice (some ⟨ga, 0, none⟩) ats.length ca, .int .i64 aa, .int .i64 au] 25)).alloc (Obj.cells #[.string bn, .slice (some ⟨gb, 0, none⟩) bts.length cb, .int .i64 ba, .int .i64 bu] 25)).alloc (Obj.cells #[.int .i64 0, .int .i64 0, .int .i64 0, .int .i64 0, .int .i64 0] 28)) u2 := hu1.grown grow2 hu1.size (fun q hq => (own.lt q hq).1)
      have hltz := RoomLt Rz
      have Rz := (grow2.block _ (RoomLt Rz) (fun q => hne (Option.some.inj q).symm)).trans Rz
      have hne : g2 ≠ v0.heap.size := by omega
      clear hltz
      have own := own2
      clear own2 grow2 hat2
      refine hK.out _ _ hu2 (fun _ => ?_)
      clear hK K
      try simp only [Act.put, List.setIfInBounds_toArray, List.set_cons_zero, List.set_cons_succ, List.getElem_toArray, List.getElem_cons_succ, List.getElem_cons_zero]
      refine wpAnyH_ready (rs := [7]) (by kernel_rfl) (by simp) ?_
      refine AllReadyH.cons rfl (fun K hK => ?_) AllReadyH.nil
      go_simp
      go_at_call 44
      refine (HLe.out g2 c2 u2 own).mono ?_
      rintro e u3 ⟨rfl, hu3⟩
      have hs3 := chain hu2 hu3
      have Rz := (hu3.block _ (RoomLt Rz)).trans Rz
      clear own
      refine hK.out _ _ hs3 (fun _ => ?_)
      clear hK K
      try simp only [Act.put, List.setIfInBounds_toArray, List.set_cons_zero, List.set_cons_succ, List.getElem_toArray, List.getElem_cons_succ, List.getElem_cons_zero]
      refine wpAnyH_take (i := 8) (v := .tuple #[.agg #[.int .i64 z1, .int .i64 z2, .int .i64 z3, .int .i64 z4, .int .i64 z5], .bool cbn]) rfl (by kernel_rfl) (by kernel_rfl) (by kernel_rfl) (fun _ _ _ h => h) (Or.inl ⟨by rfl, fun w hSw => by go_simp⟩) hs3 ?_
      try simp only [Act.put, List.setIfInBounds_toArray, List.set_cons_zero, List.set_cons_succ, List.getElem_toArray, List.getElem_cons_succ, List.getElem_cons_zero]
      refine wpAnyH_take (i := 9) (v := .agg #[.int .i64 z1, .int .i64 z2, .int .i64 z3, .int .i64 z4, .int .i64 z5]) rfl (by kernel_rfl) (by kernel_rfl) (by kernel_rfl) (fun _ _ _ h => h) (Or.inl ⟨by rfl, fun w hSw => by go_simp⟩) hs3 ?_
      try simp only [Act.put, List.setIfInBounds_toArray, List.set_cons_zero, List.set_cons_succ, List.getElem_toArray, List.getElem_cons_succ, List.getElem_cons_zero]
      refine wpAnyH_take (i := 10) (v := .bool cbn) rfl (by kernel_rfl) (by kernel_rfl) (by kernel_rfl) (fun _ _ _ h => h) (Or.inl ⟨by rfl, fun w hSw => by go_simp⟩) hs3 ?_
      try simp only [Act.put, List.setIfInBounds_toArray, List.set_cons_zero, List.set_cons_succ, List.getElem_toArray, List.getElem_cons_succ, List.getElem_cons_zero]
      refine wpAnyH_ready (rs := [12]) (by kernel_rfl) (by simp) ?_
      refine AllReadyH.cons rfl (fun K hK => ?_) AllReadyH.nil
      have q0 : u3.cell? ⟨v0.heap.size, 0, none⟩ = some (.int .i64 0) := by rw [cell_of_row _ _ _ _ _ _ Rz]; rfl
      have q1 : u3.cell? ⟨v0.heap.size, 1, none⟩ = some (.int .i64 0) := by rw [cell_of_row _ _ _ _ _ _ Rz]; rfl
      have q2 : u3.cell? ⟨v0.heap.size, 2, none⟩ = some (.int .i64 0) := by rw [cell_of_row _ _ _ _ _ _ Rz]; rfl
      have q3 : u3.cell? ⟨v0.heap.size, 3, none⟩ = some (.int .i64 0) := by rw [cell_of_row _ _ _ _ _ _ Rz]; rfl
      have q4 : u3.cell? ⟨v0.heap.size, 4, none⟩ = some (.int .i64 0) := by rw [cell_of_row _ _ _ _ _ _ Rz]; rfl
      have y0 : u3.frozen? ⟨v0.heap.size, 0, none⟩ = false := frozen_of_row _ _ _ _ _ Rz
      have y1 : u3.frozen? ⟨v0.heap.size, 1, none⟩ = false := frozen_of_row _ _ _ _ _ Rz
      have y2 : u3.frozen? ⟨v0.heap.size, 2, none⟩ = false := frozen_of_row _ _ _ _ _ Rz
      have y3 : u3.frozen? ⟨v0.heap.size, 3, none⟩ = false := frozen_of_row _ _ _ _ _ Rz
      have y4 : u3.frozen? ⟨v0.heap.size, 4, none⟩ = false := frozen_of_row _ _ _ _ _ Rz
      go_simp
      obtain ⟨Wf, hWf⟩ : ∃ Wf, Wf = (((((u3.setCell ⟨v0.heap.size, 0, none⟩ (.int .i64 z1)).setCell ⟨v0.heap.size, 1, none⟩ (.int .i64 z2)).setCell ⟨v0.heap.size, 2, none⟩ (.int .i64 z3)).setCell ⟨v0.heap.size, 3, none⟩ (.int .i64 z4)).setCell ⟨v0.heap.size, 4, none⟩ (.int .i64 z5)) := ⟨_, rfl⟩
      have hSf : Below (((w.alloc (Obj.cells #[.string an, .slice (some ⟨ga, 0, none⟩) ats.length ca, .int .i64 aa, .int .i64 au] 25)).alloc (Obj.cells #[.string bn, .slice (some ⟨gb, 0, none⟩) bts.length cb, .int .i64 ba, .int .i64 bu] 25)).alloc (Obj.cells #[.int .i64 0, .int .i64 0, .int .i64 0, .int .i64 0, .int .i64 0] 28)).heap.size (((w.alloc (Obj.cells #[.string an, .slice (some ⟨ga, 0, none⟩) ats.length ca, .int .i64 aa, .int .i64 au] 25)).alloc (Obj.cells #[.string bn, .slice (some ⟨gb, 0, none⟩) bts.length cb, .int .i64 ba, .int .i64 bu] 25)).alloc (Obj.cells #[.int .i64 0, .int .i64 0, .int .i64 0, .int .i64 0, .int .i64 0] 28)) Wf := by rw [hWf]; exact ((((hs3.setCell hzl _).setCell hzl _).setCell hzl _).setCell hzl _).setCell hzl _
      have hnbk : w.heap.size + 1 + 1 < v0.heap.size := by simp at hzl; omega
      have r0 : Wf.cell? ⟨v0.heap.size, 0, none⟩ = some (.int .i64 z1) := by rw [hWf]; simp [go_sem, q0]
      have r1 : Wf.cell? ⟨v0.heap.size, 1, none⟩ = some (.int .i64 z2) := by rw [hWf]; simp [go_sem, q1]
      have r2 : Wf.cell? ⟨v0.heap.size, 2, none⟩ = some (.int .i64 z3) := by rw [hWf]; simp [go_sem, q2]
      have r3 : Wf.cell? ⟨v0.heap.size, 3, none⟩ = some (.int .i64 z4) := by rw [hWf]; simp [go_sem, q3]
      have r4 : Wf.cell? ⟨v0.heap.size, 4, none⟩ = some (.int .i64 z5) := by rw [hWf]; simp [go_sem, q4]
      clear q0 q1 q2 q3 q4 y0 y1 y2 y3 y4
      rw [← hWf]
      refine hK.out _ _ hSf (fun _ => ?_)
      clear hK K
      try simp only [Act.put]
      refine wpAnyH_take (i := 13) (v := .bool cbn) rfl (by kernel_rfl) (by kernel_rfl) (by kernel_rfl) (fun _ _ _ h => h) (Or.inl ⟨by rfl, fun w hSw => by go_simp⟩) hSf ?_
      try simp only [Act.put, List.setIfInBounds_toArray, List.set_cons_zero, List.set_cons_succ, List.getElem_toArray, List.getElem_cons_succ, List.getElem_cons_zero]
      refine wpAnyH_done (by kernel_rfl) ?_ _
      try simp
      generalize hblk : v0.heap.size = nbk at *
      clear hWf hblk Rz hzl
      have HBf : Hid (Below w.heap.size w Wf) := chain (chain (chain (below_alloc _ _) (below_alloc _ _)) (below_alloc _ _)) hSf
      obtain ⟨⟨a0, a1, a2, a3⟩, ⟨b0, b1, b2, b3⟩, ⟨p0, p1, p2, p3, p4⟩, pf⟩ := ckAt (an := an) (ha := some ⟨ga, 0, none⟩) (na := ats.length) (ca := ca) (aa := aa) (au := au) (bn := bn) (hb := some ⟨gb, 0, none⟩) (nb := bts.length) (cb := cb) (ba := ba) (bu := bu) hSf
      obtain ⟨vv0, p0⟩ : ∃ v, Wf.cell? ⟨w.heap.size + 1 + 1, 0, none⟩ = some v := ⟨_, p0⟩
      obtain ⟨vv1, p1⟩ : ∃ v, Wf.cell? ⟨w.heap.size + 1 + 1, 1, none⟩ = some v := ⟨_, p1⟩
      obtain ⟨vv2, p2⟩ : ∃ v, Wf.cell? ⟨w.heap.size + 1 + 1, 2, none⟩ = some v := ⟨_, p2⟩
      obtain ⟨vv3, p3⟩ : ∃ v, Wf.cell? ⟨w.heap.size + 1 + 1, 3, none⟩ = some v := ⟨_, p3⟩
      obtain ⟨vv4, p4⟩ : ∃ v, Wf.cell? ⟨w.heap.size + 1 + 1, 4, none⟩ = some v := ⟨_, p4⟩
      have f0 := pf 0
      have f1 := pf 1
      have f2 := pf 2
      have f3 := pf 3
      have f4 := pf 4
      clear pf
      have hlt3 : w.heap.size + 1 + 1 < nbk := hnbk
      clear hSf hnbk
      rcases hw with ⟨rfl, rfl, rfl, rfl⟩ | ⟨rfl, rfl, rfl, rfl, rfl, rfl⟩ | ⟨rfl, rfl, g3, rfl, rfl, rfl⟩ | ⟨rfl, g2, rfl, rfl, rfl⟩
      · go_wp2
        refine bodyPost_ret (v := .tuple #[.agg #[.int .i64 0, .int .i64 0, .int .i64 0, .int .i64 0, .int .i64 0], .bool false, .int .i64 0]) (by simp [results, Try.results16, go_sem, p0, p1, p2, p3, p4]) rfl ⟨rfl, ?_⟩
        repeat refine Below.setCell ?_ (by dsimp only; omega) _
        exact HBf.out
      · go_wp2
        refine bodyPost_ret (v := .tuple #[.agg #[.int .i64 0, .int .i64 0, .int .i64 0, .int .i64 0, .int .i64 0], .bool false, .int .i64 0]) (by simp [results, Try.results16, go_sem, p0, p1, p2, p3, p4]) rfl ⟨rfl, ?_⟩
        repeat refine Below.setCell ?_ (by dsimp only; omega) _
        exact HBf.out
      · go_wp2
        refine bodyPost_ret (v := .tuple #[.agg #[.int .i64 z1, .int .i64 z2, .int .i64 z3, .int .i64 z4, .int .i64 z5], .bool true, .int .i64 0]) (by simp [results, Try.results16, go_sem, p0, p1, p2, p3, p4]) rfl ⟨rfl, ?_⟩
        repeat refine Below.setCell ?_ (by dsimp only; omega) _
        exact HBf.out
      · go_wp2
        refine bodyPost_ret (v := .tuple #[.agg #[.int .i64 z1, .int .i64 z2, .int .i64 z3, .int .i64 z4, .int .i64 z5], .bool true, .int .i64 0]) (by simp [results, Try.results16, go_sem, p0, p1, p2, p3, p4]) rfl ⟨rfl, ?_⟩
        repeat refine Below.setCell ?_ (by dsimp only; omega) _
        exact HBf.out
end Go.Proofs.Ythkmgccmeoigpaa

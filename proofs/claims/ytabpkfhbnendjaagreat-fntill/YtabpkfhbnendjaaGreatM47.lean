/-
  Texts of this claim laid together: SpK.
-/
import Derived.Test.YtabpkfhbnendjaaGreatM46
/-
  The specification's TillRun.
-/
namespace Go.Proofs.YtabpkfhbnendjaaGreat
open Go.ChangeShapes Go.WideShapes Go.ChangeAt Go.RowKit Go.Deep
set_option linter.unusedVariables false

theorem keep7 {W : World} {b g : Nat} {o : Obj} (h : W.heap[g]? = some o) (hne : g ≠ b) (v0 v1 v2 v3 v4 v5 v6 : Value) : (((((((W.setCell ⟨b, 0, none⟩ v0).setCell ⟨b, 1, none⟩ v1).setCell ⟨b, 2, none⟩ v2).setCell ⟨b, 3, none⟩ v3).setCell ⟨b, 4, none⟩ v4).setCell ⟨b, 5, none⟩ v5).setCell ⟨b, 6, none⟩ v6).heap[g]? = some o :=
  (Below.heap_setCell _ _ _ _ hne).trans ((Below.heap_setCell _ _ _ _ hne).trans ((Below.heap_setCell _ _ _ _ hne).trans ((Below.heap_setCell _ _ _ _ hne).trans ((Below.heap_setCell _ _ _ _ hne).trans ((Below.heap_setCell _ _ _ _ hne).trans ((Below.heap_setCell _ _ _ _ hne).trans h))))))
theorem ansT_empty {B g : Nat} {W : World} (h : W.heap[g]? = some (.cells #[] 40 (0, 0))) (hB : B ≤ g) : AnsT B [] tlN (.slice (some ⟨g, 0, none⟩) 0 0) (.slice none 0 0) (.slice none 0 0) (.slice none 0 0) [] W :=
  ⟨⟨rfl, .inr ⟨g, 0, #[], rfl, hB, h, Nat.le_refl _, by unfold maxLen; omega, rfl, rfl⟩⟩, rfl, World.ownsRow_nil _ _ _ _, World.ownsRow_nil _ _ _ _, fun _ h => by simp at h, World.ownsRow_nil _ _ _ _, by simp⟩
theorem not_SX {B : Nat} {w : World} {k : Nat} {cur : Array Value} {T : TypeId} (h : w.heap[k]? = some (.cells cur T (0, 0))) (h1 : T ≠ 56) (h2 : T ≠ 82) (h3 : T ≠ 30) (h4 : T ≠ 3) : ¬ SX B w k := by
  rintro ⟨_, cur', T', e, q⟩
  rw [h] at e
  simp at e
  obtain ⟨_, rfl⟩ := e
  rcases q with q | q | q | q
  · exact h1 q
  · exact h2 q
  · exact h3 q
  · exact h4 q
theorem Sg.same {B rb : Nat} {iv lv : Value} {ls : List RLi} {sh : Int} {kv : Value} {ks : List Kb} {sl tk dp : Int} {cv : Value} {cs : List Int} {W W' : World} (h : Sg B rb iv lv ls sh kv ks sl tk dp cv cs W) (hk : ∀ k, SX B W k → W'.heap[k]? = W.heap[k]?) : Sg B rb iv lv ls sh kv ks sl tk dp cv cs W' := by
  have t1 : ∀ (q : Nat) (cur : Array Value) (T : TypeId), B ≤ q → W.heap[q]? = some (Obj.cells cur T (0, 0)) → (T = 56 ∨ T = 82 ∨ T = 30 ∨ T = 3) → W'.heap[q]? = W.heap[q]? := fun q cur T h1 h2 h3 => hk q ⟨h1, cur, T, h2, h3⟩
  refine ⟨(t1 rb _ _ h.low h.reg (.inl rfl)).trans h.reg, row_of h.lrow (fun q hq => ?_), row_of h.krow (fun q hq => ?_), fun k hk' => row_of (h.rows k hk') (fun q hq => ?_), h.dist, h.low, row_of h.crow (fun q hq => ?_)⟩
  · obtain ⟨cur, hc⟩ := row_type h.lrow hq; exact t1 q cur _ (row_lt h.lrow q hq).1 hc (.inr (.inl rfl))
  · obtain ⟨cur, hc⟩ := row_type h.krow hq; exact t1 q cur _ (row_lt h.krow q hq).1 hc (.inr (.inr (.inl rfl)))
  · obtain ⟨cur, hc⟩ := row_type (h.rows k hk') hq; exact t1 q cur _ (row_lt (h.rows k hk') q hq).1 hc (.inr (.inl rfl))
  · obtain ⟨cur, hc⟩ := row_type h.crow hq; exact t1 q cur _ (row_lt h.crow q hq).1 hc (.inr (.inr (.inr rfl)))
theorem SgT.same {B rb : Nat} {iv : Value} {t : Tl} {W W' : World} (h : SgT B rb iv t W) (hk : ∀ k, SX B W k → W'.heap[k]? = W.heap[k]?) : SgT B rb iv t W' := by
  obtain ⟨lv, kv, cv, ks, h1, h2⟩ := h
  exact ⟨lv, kv, cv, ks, h1, h2.same hk⟩
theorem run_make9 (w : World) : (Instr.makeSlice 32 (.int .i64 9) (.int .i64 9)).run Tryz.prog w = .ok (.slice (some ⟨w.heap.size, 0, none⟩) 9 9) (w.alloc (Obj.cells (madeCells #[.int .i64 0] 9) 3)) := by
  obtain ⟨i, hi, hzz⟩ := Option.map_eq_some_iff.1 intInfo
  simp only [Prod.mk.injEq] at hzz
  obtain ⟨hz, hs, hb⟩ := hzz
  have hr := run_make (P := Tryz.prog) w 32 3 i _ Tryz.underlying32 hi hz .i64 .i64 9 9 (by omega) (Int.le_refl _) (by rw [hb]; omega) (by omega)
  simp only [hs] at hr
  exact hr
theorem SgT.start (w1 : World) (B : Nat) (hB : B ≤ w1.heap.size) (iv : Value) : SgT B (w1.heap.size + 1) iv tl0 ((w1.alloc (Obj.cells (madeCells #[.int .i64 0] 9) 3)).alloc (Obj.cells #[iv, .slice none 0 0, .int .i64 0, .slice none 0 0, .int .i64 0, .int .i64 0, .int .i64 0, .slice (some ⟨w1.heap.size, 0, none⟩) 9 9] 56)) := by
  have h1 : ((w1.alloc (Obj.cells (madeCells #[.int .i64 0] 9) 3)).alloc (Obj.cells #[iv, .slice none 0 0, .int .i64 0, .slice none 0 0, .int .i64 0, .int .i64 0, .int .i64 0, .slice (some ⟨w1.heap.size, 0, none⟩) 9 9] 56)).heap[w1.heap.size]? = some (.cells (madeCells #[.int .i64 0] 9) 3 (0, 0)) := (Below.heap_alloc _ _ _ (by simp)).trans (heapNew _ _)
  have h2 : ((w1.alloc (Obj.cells (madeCells #[.int .i64 0] 9) 3)).alloc (Obj.cells #[iv, .slice none 0 0, .int .i64 0, .slice none 0 0, .int .i64 0, .int .i64 0, .int .i64 0, .slice (some ⟨w1.heap.size, 0, none⟩) 9 9] 56)).heap[w1.heap.size + 1]? = some (.cells #[iv, .slice none 0 0, .int .i64 0, .slice none 0 0, .int .i64 0, .int .i64 0, .int .i64 0, .slice (some ⟨w1.heap.size, 0, none⟩) 9 9] 56 (0, 0)) := by
    have := heapNew (w1.alloc (Obj.cells (madeCells #[.int .i64 0] 9) 3)) (Obj.cells #[iv, .slice none 0 0, .int .i64 0, .slice none 0 0, .int .i64 0, .int .i64 0, .int .i64 0, .slice (some ⟨w1.heap.size, 0, none⟩) 9 9] 56)
    simpa using this
  exact ⟨.slice none 0 0, .slice none 0 0, .slice (some ⟨w1.heap.size, 0, none⟩) 9 9, [], rfl, h2, World.ownsRow_nil _ _ _ _, World.ownsRow_nil _ _ _ _, fun _ h => by simp at h, dist_mk (by simp [Value.ownBlock]) (by simp [Value.ownBlock]) (fun _ h => by simp at h) (far_none _) (fun _ h => by simp at h) (fun _ h => by simp at h) (by simp), by omega, ⟨rfl, .inr ⟨w1.heap.size, 9, _, rfl, hB, h1, Nat.le_refl _, by unfold maxLen; omega, by rw [size_madeCells], by kernel_rfl⟩⟩⟩
theorem told_grown {B rb : Nat} {iv : Value} {t2 : Tl} {w W W' : World} {g cp k g1 cp1 : Nat} {L L2 : List (Int × Int)} {so1 so2 : Int} (hL : L ++ [(so1, so2)] = L2) (h1 : W.ownsRow B 40 2 (.slice (some ⟨g, 0, none⟩) k cp) k (obCells L)) (h2 : SgT B rb iv t2 W) (h3 : W.heap[B]? = some (.cells #[.slice none 0 0, .int .i64 0, .slice none 0 0, .int .i64 0, .int .i64 0, .int .i64 0, .slice none 0 0] 34 (0, 0))) (h4 : Below B w W)
    (ho : W'.ownsRow B 40 2 (.slice (some ⟨g1, 0, none⟩) (k + 1) cp1) (k + 1) (obCells L ++ [.int .i64 so1, .int .i64 so2])) (hg : W.grownBy W' (Value.slice (some ⟨g, 0, none⟩) k cp).ownBlock) :
    W'.ownsRow B 40 2 (.slice (some ⟨g1, 0, none⟩) (k + 1) cp1) (k + 1) (obCells L2) ∧ SgT B rb iv t2 W' ∧ W'.heap[B]? = some (.cells #[.slice none 0 0, .int .i64 0, .slice none 0 0, .int .i64 0, .int .i64 0, .int .i64 0, .slice none 0 0] 34 (0, 0)) ∧ Below B w W' := by
  obtain ⟨cur, hc⟩ := row_type h1 (q := g) rfl
  have hne : ∀ (q : Nat) (cur' : Array Value) (T : TypeId), W.heap[q]? = some (Obj.cells cur' T (0, 0)) → T ≠ 40 → W'.heap[q]? = W.heap[q]? := fun q cur' T hq hT => hg.block q (Array.getElem?_eq_some_iff.1 hq).1 (fun e => by
    have e2 : q = g := by simpa [Value.ownBlock] using e
    rw [e2, hc] at hq
    simp at hq
    exact hT hq.2.symm)
  refine ⟨by rw [← hL, obCells_append]; exact ho, h2.same (fun q hq => ?_), (hne _ _ _ h3 (by decide)).trans h3, h4.grown hg (Nat.le_of_lt (blkLt h3)) (fun q hq => (row_lt h1 q hq).1)⟩
  obtain ⟨_, cur', T, e, hT⟩ := hq
  refine hne q cur' T e ?_
  rcases hT with rfl | rfl | rfl | rfl <;> decide
set_option maxHeartbeats 16000000 in
set_option maxRecDepth 8000 in
theorem specTill_any (Bf : RIt → Bool) (hBs : SpecIt Bf) (hBn : ∀ r, Bf r = true → ItN r) (R : ByteArray → Int × ByteArray × Int × Int) (hR : RsS R) (hv : ∀ s, 0 ≤ (R s).2.2.1 ∧ (R s).2.2.1 ≤ 99999) (ia : Option Addr) (ic : Nat) (its : List RIt) (hic : its.length ≤ ic) (hok : ∀ r ∈ its, ItOK r) (aa : Option Addr) (ac : Nat) (acts : List RTa) (hil : its.length ≤ 100000000) (hal : acts.length ≤ 100000000) (w : World) (hI : ReadsIt w.heap.size w ia its) (hA : ReadsTa w.heap.size w aa acts) :
    Calls Tryz.prog 6 #[(.slice ia its.length ic), .slice aa acts.length ac] w fun e w' => ∃ tv lv kv cv ks, e = .returned (.tuple #[tv, .agg #[lv, .int .i64 (tillT R Bf its acts).sh, kv, .int .i64 (tillT R Bf its acts).sl, .int .i64 (tillT R Bf its acts).tk, .int .i64 (tillT R Bf its acts).dp, cv], .int .i64 (tillC Bf its acts)]) ∧ AnsT w.heap.size (tillO R Bf its acts) (tillT R Bf its acts) tv lv kv cv ks w' ∧ Below w.heap.size w w' := by
  have HOK : Hid (∀ W, Below w.heap.size w W → Calls Tryz.prog 15 #[(.slice ia its.length ic)] W fun e w' => e = .returned (.bool (itAll Bf its)) ∧ Below W.heap.size W w') := fun W hW => specItems_any Bf hBs ia ic its hok hic W (readsIt_later hI hW)
  have HI : Hid (ReadsIt w.heap.size w ia its) := hI
  have HA : Hid (ReadsTa w.heap.size w aa acts) := hA
  have hwy := till_ways R Bf its acts
  have hnn : itAll Bf its = true → its.length ≤ 40 ∧ ∀ r ∈ its, ItN r := itAll_N hBn
  have HRu : Hid (∀ k, k < acts.length → (∀ r ∈ its, ItN r) → its.length ≤ 40 → k ≤ 200 → ∀ (B rb : Nat) (W : World), SgT B rb (.slice ia its.length ic) (runT R its acts k) W → ReadsIt B W ia its → B ≤ W.heap.size → Calls Tryz.prog 16 #[.pointer (some ⟨rb, 0, none⟩), .agg #[.int .i64 (acts.getD k zTa).kd, .string (acts.getD k zTa).tx, .int .i64 (acts.getD k zTa).nm]] W fun e w' => e = .returned (.tuple #[.int .i64 (stepO R its (acts.getD k zTa) (runT R its acts k)).2, .int .i64 (stepO R its (acts.getD k zTa) (runT R its acts k)).1]) ∧ Fr (SX B W) W w' ∧ SgT B rb (.slice ia its.length ic) (runT R its acts (k + 1)) w') := fun k hk hok h40 h200 B rb W h1 h2 h3 => actS_any R hR hv ia ic its hok h40 B rb k h200 _ (runT_OK hv hok acts k) _ W h1 h2 h3
  generalize hpost : (fun (e : Ending) (w' : World) => ∃ tv lv kv cv ks, e = .returned (.tuple #[tv, .agg #[lv, .int .i64 (tillT R Bf its acts).sh, kv, .int .i64 (tillT R Bf its acts).sl, .int .i64 (tillT R Bf its acts).tk, .int .i64 (tillT R Bf its acts).dp, cv], .int .i64 (tillC Bf its acts)]) ∧ AnsT w.heap.size (tillO R Bf its acts) (tillT R Bf its acts) tv lv kv cv ks w' ∧ Below w.heap.size w w') = post
  clear hI hA hBs hBn hR hv
  have HZ0 : Hid (∀ W, Below (w.alloc (Obj.cells #[.slice none 0 0, .int .i64 0, .slice none 0 0, .int .i64 0, .int .i64 0, .int .i64 0, .slice none 0 0] 34)).heap.size (w.alloc (Obj.cells #[.slice none 0 0, .int .i64 0, .slice none 0 0, .int .i64 0, .int .i64 0, .int .i64 0, .slice none 0 0] 34)) W → W.heap[w.heap.size]? = some (.cells #[.slice none 0 0, .int .i64 0, .slice none 0 0, .int .i64 0, .int .i64 0, .int .i64 0, .slice none 0 0] 34 (0, 0)) ∧ Below w.heap.size w W) := fun W hW => ⟨(hW.block _ (by simp)).trans (heapNew _ _), chain (below_alloc _ _) hW⟩
  rcases hwy with ⟨h1, e1, e2, e3⟩ | ⟨h1, h2, h3, e1, e2, e3⟩ | ⟨h1, h2, h3, h4, e1, e2, e3⟩ | ⟨h1, h2, h3, h4, e1, e2, e3⟩
  · skip
    rw [e1, e2, e3] at hpost
    have HP : Hid (∀ w' tv lv kv cv ks, AnsT w.heap.size [] tlN tv lv kv cv ks w' → Below w.heap.size w w' → post (.returned (.tuple #[tv, .agg #[lv, .int .i64 0, kv, .int .i64 0, .int .i64 0, .int .i64 0, cv], .int .i64 2])) w') := fun w' tv lv kv cv ks h1 h2 => by subst hpost; exact ⟨tv, lv, kv, cv, ks, rfl, h1, h2⟩
    clear hpost e1 e2 e3
    have HZ1 : Hid ((w.alloc (Obj.cells #[.slice none 0 0, .int .i64 0, .slice none 0 0, .int .i64 0, .int .i64 0, .int .i64 0, .slice none 0 0] 34)).heap[w.heap.size]? = some (.cells #[.slice none 0 0, .int .i64 0, .slice none 0 0, .int .i64 0, .int .i64 0, .int .i64 0, .slice none 0 0] 34 (0, 0))) := heapNew _ _
    have HB1 : Hid (Below w.heap.size w (w.alloc (Obj.cells #[.slice none 0 0, .int .i64 0, .slice none 0 0, .int .i64 0, .int .i64 0, .int .i64 0, .slice none 0 0] 34))) := below_alloc _ _
    rcases h1 with h | ⟨h, h'⟩
    · have hh : (4096 : Int) < (its.length : Int) := by omega
      go_enter Tryz.func6, Tryz.ntmps6
      have HB : Hid (Below w.heap.size w ((w.alloc (Obj.cells #[.slice none 0 0, .int .i64 0, .slice none 0 0, .int .i64 0, .int .i64 0, .int .i64 0, .slice none 0 0] 34)).alloc (Obj.cells #[] 40))) := chain HB1.out (below_alloc _ _)
      have HE : Hid (((w.alloc (Obj.cells #[.slice none 0 0, .int .i64 0, .slice none 0 0, .int .i64 0, .int .i64 0, .int .i64 0, .slice none 0 0] 34)).alloc (Obj.cells #[] 40)).heap[w.heap.size + 1]? = some (.cells #[] 40 (0, 0)) ∧ w.heap.size < w.heap.size + 1) := ⟨by have := heapNew ((w.alloc (Obj.cells #[.slice none 0 0, .int .i64 0, .slice none 0 0, .int .i64 0, .int .i64 0, .int .i64 0, .slice none 0 0] 34))) (Obj.cells #[] 40); simpa using this, by omega⟩
      go_wp2
      exact bodyPost_ret (v := .tuple #[.slice (some ⟨w.heap.size + 1, 0, none⟩) 0 0, .agg #[.slice none 0 0, .int .i64 0, .slice none 0 0, .int .i64 0, .int .i64 0, .int .i64 0, .slice none 0 0], .int .i64 2]) (by simp [results, Tryz.results6, go_sem]) rfl (HP.out _ (.slice (some ⟨w.heap.size + 1, 0, none⟩) 0 0) (.slice none 0 0) (.slice none 0 0) (.slice none 0 0) [] (ansT_empty HE.out.1 (Nat.le_of_lt HE.out.2)) HB.out)
    · have hh : ¬ (4096 : Int) < (its.length : Int) := by omega
      have hh' : (4096 : Int) < (acts.length : Int) := by omega
      go_enter Tryz.func6, Tryz.ntmps6
      have HB : Hid (Below w.heap.size w ((w.alloc (Obj.cells #[.slice none 0 0, .int .i64 0, .slice none 0 0, .int .i64 0, .int .i64 0, .int .i64 0, .slice none 0 0] 34)).alloc (Obj.cells #[] 40))) := chain HB1.out (below_alloc _ _)
      have HE : Hid (((w.alloc (Obj.cells #[.slice none 0 0, .int .i64 0, .slice none 0 0, .int .i64 0, .int .i64 0, .int .i64 0, .slice none 0 0] 34)).alloc (Obj.cells #[] 40)).heap[w.heap.size + 1]? = some (.cells #[] 40 (0, 0)) ∧ w.heap.size < w.heap.size + 1) := ⟨by have := heapNew ((w.alloc (Obj.cells #[.slice none 0 0, .int .i64 0, .slice none 0 0, .int .i64 0, .int .i64 0, .int .i64 0, .slice none 0 0] 34))) (Obj.cells #[] 40); simpa using this, by omega⟩
      go_wp2
      exact bodyPost_ret (v := .tuple #[.slice (some ⟨w.heap.size + 1, 0, none⟩) 0 0, .agg #[.slice none 0 0, .int .i64 0, .slice none 0 0, .int .i64 0, .int .i64 0, .int .i64 0, .slice none 0 0], .int .i64 2]) (by simp [results, Tryz.results6, go_sem]) rfl (HP.out _ (.slice (some ⟨w.heap.size + 1, 0, none⟩) 0 0) (.slice none 0 0) (.slice none 0 0) (.slice none 0 0) [] (ansT_empty HE.out.1 (Nat.le_of_lt HE.out.2)) HB.out)
  · skip
    rw [e1, e2, e3] at hpost
    have HP : Hid (∀ w' tv lv kv cv ks, AnsT w.heap.size [] tlN tv lv kv cv ks w' → Below w.heap.size w w' → post (.returned (.tuple #[tv, .agg #[lv, .int .i64 0, kv, .int .i64 0, .int .i64 0, .int .i64 0, cv], .int .i64 1])) w') := fun w' tv lv kv cv ks h1 h2 => by subst hpost; exact ⟨tv, lv, kv, cv, ks, rfl, h1, h2⟩
    clear hpost e1 e2 e3
    have hh : ¬ (4096 : Int) < (its.length : Int) := by omega
    have hh' : ¬ (4096 : Int) < (acts.length : Int) := by omega
    go_enter Tryz.func6, Tryz.ntmps6
    go_wp2_with fail
    (first | go_at_call 15 | skip)
    refine (HOK.out _ (below_alloc _ _)).mono ?_
    rw [h3]
    rintro e w1 ⟨rfl, hb1⟩
    have HZ1 : Hid (w1.heap[w.heap.size]? = some (.cells #[.slice none 0 0, .int .i64 0, .slice none 0 0, .int .i64 0, .int .i64 0, .int .i64 0, .slice none 0 0] 34 (0, 0))) := (HZ0.out w1 hb1).1
    have HB1 : Hid (Below w.heap.size w w1) := (HZ0.out w1 hb1).2
    clear hb1
    have HZ : Hid ((w1.alloc (Obj.cells #[] 40)).heap[w.heap.size]? = some (.cells #[.slice none 0 0, .int .i64 0, .slice none 0 0, .int .i64 0, .int .i64 0, .int .i64 0, .slice none 0 0] 34 (0, 0))) := (Below.heap_alloc _ _ _ (blkLt HZ1.out)).trans HZ1.out
    have HB : Hid (Below w.heap.size w (w1.alloc (Obj.cells #[] 40))) := chain HB1.out (below_alloc _ _)
    have HE : Hid ((w1.alloc (Obj.cells #[] 40)).heap[w1.heap.size]? = some (.cells #[] 40 (0, 0)) ∧ w.heap.size < w1.heap.size) := ⟨by have := heapNew (w1) (Obj.cells #[] 40); simpa using this, by have := blkLt HZ1.out; simp at this ⊢; try omega⟩
    have y0 := blkCell HZ.out 0 _ rfl
    have z0 := blkFree HZ.out 0
    have y1 := blkCell HZ.out 1 _ rfl
    have z1 := blkFree HZ.out 1
    have y2 := blkCell HZ.out 2 _ rfl
    have z2 := blkFree HZ.out 2
    have y3 := blkCell HZ.out 3 _ rfl
    have z3 := blkFree HZ.out 3
    have y4 := blkCell HZ.out 4 _ rfl
    have z4 := blkFree HZ.out 4
    have y5 := blkCell HZ.out 5 _ rfl
    have z5 := blkFree HZ.out 5
    have y6 := blkCell HZ.out 6 _ rfl
    have z6 := blkFree HZ.out 6
    have hlo := blkLt HZ.out
    go_wp2
    have hq := fin7 HZ.out (.slice none 0 0) (.int .i64 0) (.slice none 0 0) (.int .i64 0) (.int .i64 0) (.int .i64 0) (.slice none 0 0)
    have hB := below7 HB.out (Nat.le_refl _) (.slice none 0 0) (.int .i64 0) (.slice none 0 0) (.int .i64 0) (.int .i64 0) (.int .i64 0) (.slice none 0 0)
    have hk := keep7 HE.out.1 (Nat.ne_of_gt HE.out.2) (.slice none 0 0) (.int .i64 0) (.slice none 0 0) (.int .i64 0) (.int .i64 0) (.int .i64 0) (.slice none 0 0)
    generalize ((((((((w1.alloc (Obj.cells #[] 40)).setCell ⟨w.heap.size, 0, none⟩ (.slice none 0 0)).setCell ⟨w.heap.size, 1, none⟩ (.int .i64 0)).setCell ⟨w.heap.size, 2, none⟩ (.slice none 0 0)).setCell ⟨w.heap.size, 3, none⟩ (.int .i64 0)).setCell ⟨w.heap.size, 4, none⟩ (.int .i64 0)).setCell ⟨w.heap.size, 5, none⟩ (.int .i64 0)).setCell ⟨w.heap.size, 6, none⟩ (.slice none 0 0)) = W9 at *
    have p0 := blkCell hq 0 _ rfl
    have p1 := blkCell hq 1 _ rfl
    have p2 := blkCell hq 2 _ rfl
    have p3 := blkCell hq 3 _ rfl
    have p4 := blkCell hq 4 _ rfl
    have p5 := blkCell hq 5 _ rfl
    have p6 := blkCell hq 6 _ rfl
    exact bodyPost_ret (v := .tuple #[.slice (some ⟨w1.heap.size, 0, none⟩) 0 0, .agg #[.slice none 0 0, .int .i64 0, .slice none 0 0, .int .i64 0, .int .i64 0, .int .i64 0, .slice none 0 0], .int .i64 1]) (by simp [results, Tryz.results6, go_sem, p0, p1, p2, p3, p4, p5, p6]) rfl (HP.out _ (.slice (some ⟨w1.heap.size, 0, none⟩) 0 0) (.slice none 0 0) (.slice none 0 0) (.slice none 0 0) [] (ansT_empty hk (Nat.le_of_lt HE.out.2)) hB)
  · skip
    rw [e1, e2, e3] at hpost
    have HP : Hid (∀ w' tv lv kv cv ks, AnsT w.heap.size [] tlN tv lv kv cv ks w' → Below w.heap.size w w' → post (.returned (.tuple #[tv, .agg #[lv, .int .i64 0, kv, .int .i64 0, .int .i64 0, .int .i64 0, cv], .int .i64 9])) w') := fun w' tv lv kv cv ks h1 h2 => by subst hpost; exact ⟨tv, lv, kv, cv, ks, rfl, h1, h2⟩
    clear hpost e1 e2 e3
    have h4i : (200 : Int) < (acts.length : Int) := by omega
    have hh : ¬ (4096 : Int) < (its.length : Int) := by omega
    have hh' : ¬ (4096 : Int) < (acts.length : Int) := by omega
    go_enter Tryz.func6, Tryz.ntmps6
    go_wp2_with fail
    (first | go_at_call 15 | skip)
    refine (HOK.out _ (below_alloc _ _)).mono ?_
    rw [h3]
    rintro e w1 ⟨rfl, hb1⟩
    have HZ1 : Hid (w1.heap[w.heap.size]? = some (.cells #[.slice none 0 0, .int .i64 0, .slice none 0 0, .int .i64 0, .int .i64 0, .int .i64 0, .slice none 0 0] 34 (0, 0))) := (HZ0.out w1 hb1).1
    have HB1 : Hid (Below w.heap.size w w1) := (HZ0.out w1 hb1).2
    clear hb1
    have HZ : Hid ((w1.alloc (Obj.cells #[] 40)).heap[w.heap.size]? = some (.cells #[.slice none 0 0, .int .i64 0, .slice none 0 0, .int .i64 0, .int .i64 0, .int .i64 0, .slice none 0 0] 34 (0, 0))) := (Below.heap_alloc _ _ _ (blkLt HZ1.out)).trans HZ1.out
    have HB : Hid (Below w.heap.size w (w1.alloc (Obj.cells #[] 40))) := chain HB1.out (below_alloc _ _)
    have HE : Hid ((w1.alloc (Obj.cells #[] 40)).heap[w1.heap.size]? = some (.cells #[] 40 (0, 0)) ∧ w.heap.size < w1.heap.size) := ⟨by have := heapNew (w1) (Obj.cells #[] 40); simpa using this, by have := blkLt HZ1.out; simp at this ⊢; try omega⟩
    have y0 := blkCell HZ.out 0 _ rfl
    have z0 := blkFree HZ.out 0
    have y1 := blkCell HZ.out 1 _ rfl
    have z1 := blkFree HZ.out 1
    have y2 := blkCell HZ.out 2 _ rfl
    have z2 := blkFree HZ.out 2
    have y3 := blkCell HZ.out 3 _ rfl
    have z3 := blkFree HZ.out 3
    have y4 := blkCell HZ.out 4 _ rfl
    have z4 := blkFree HZ.out 4
    have y5 := blkCell HZ.out 5 _ rfl
    have z5 := blkFree HZ.out 5
    have y6 := blkCell HZ.out 6 _ rfl
    have z6 := blkFree HZ.out 6
    have hlo := blkLt HZ.out
    go_wp2
    have hq := fin7 HZ.out (.slice none 0 0) (.int .i64 0) (.slice none 0 0) (.int .i64 0) (.int .i64 0) (.int .i64 0) (.slice none 0 0)
    have hB := below7 HB.out (Nat.le_refl _) (.slice none 0 0) (.int .i64 0) (.slice none 0 0) (.int .i64 0) (.int .i64 0) (.int .i64 0) (.slice none 0 0)
    have hk := keep7 HE.out.1 (Nat.ne_of_gt HE.out.2) (.slice none 0 0) (.int .i64 0) (.slice none 0 0) (.int .i64 0) (.int .i64 0) (.int .i64 0) (.slice none 0 0)
    generalize ((((((((w1.alloc (Obj.cells #[] 40)).setCell ⟨w.heap.size, 0, none⟩ (.slice none 0 0)).setCell ⟨w.heap.size, 1, none⟩ (.int .i64 0)).setCell ⟨w.heap.size, 2, none⟩ (.slice none 0 0)).setCell ⟨w.heap.size, 3, none⟩ (.int .i64 0)).setCell ⟨w.heap.size, 4, none⟩ (.int .i64 0)).setCell ⟨w.heap.size, 5, none⟩ (.int .i64 0)).setCell ⟨w.heap.size, 6, none⟩ (.slice none 0 0)) = W9 at *
    have p0 := blkCell hq 0 _ rfl
    have p1 := blkCell hq 1 _ rfl
    have p2 := blkCell hq 2 _ rfl
    have p3 := blkCell hq 3 _ rfl
    have p4 := blkCell hq 4 _ rfl
    have p5 := blkCell hq 5 _ rfl
    have p6 := blkCell hq 6 _ rfl
    exact bodyPost_ret (v := .tuple #[.slice (some ⟨w1.heap.size, 0, none⟩) 0 0, .agg #[.slice none 0 0, .int .i64 0, .slice none 0 0, .int .i64 0, .int .i64 0, .int .i64 0, .slice none 0 0], .int .i64 9]) (by simp [results, Tryz.results6, go_sem, p0, p1, p2, p3, p4, p5, p6]) rfl (HP.out _ (.slice (some ⟨w1.heap.size, 0, none⟩) 0 0) (.slice none 0 0) (.slice none 0 0) (.slice none 0 0) [] (ansT_empty hk (Nat.le_of_lt HE.out.2)) hB)
  · skip
    have HP : Hid (∀ w' tv lv kv cv ks, AnsT w.heap.size (runO R its acts acts.length) (runT R its acts acts.length) tv lv kv cv ks w' → Below w.heap.size w w' → post (.returned (.tuple #[tv, .agg #[lv, .int .i64 (runT R its acts acts.length).sh, kv, .int .i64 (runT R its acts acts.length).sl, .int .i64 (runT R its acts acts.length).tk, .int .i64 (runT R its acts acts.length).dp, cv], .int .i64 0])) w') := fun w' tv lv kv cv ks h1 h2 => by subst hpost; rw [e1, e2, e3]; exact ⟨tv, lv, kv, cv, ks, rfl, h1, h2⟩
    clear hpost e1 e2 e3
    obtain ⟨h40, hNn⟩ := hnn h3
    have HRk : Hid (∀ k, k < acts.length → ∀ (B rb : Nat) (W : World), SgT B rb (.slice ia its.length ic) (runT R its acts k) W → ReadsIt B W ia its → B ≤ W.heap.size → Calls Tryz.prog 16 #[.pointer (some ⟨rb, 0, none⟩), .agg #[.int .i64 (acts.getD k zTa).kd, .string (acts.getD k zTa).tx, .int .i64 (acts.getD k zTa).nm]] W fun e w' => e = .returned (.tuple #[.int .i64 (stepO R its (acts.getD k zTa) (runT R its acts k)).2, .int .i64 (stepO R its (acts.getD k zTa) (runT R its acts k)).1]) ∧ Fr (SX B W) W w' ∧ SgT B rb (.slice ia its.length ic) (runT R its acts (k + 1)) w') := fun k hk B rb W => HRu.out k hk hNn h40 (by omega) B rb W
    clear HRu hNn hnn
    have hh : ¬ (4096 : Int) < (its.length : Int) := by omega
    have hh' : ¬ (4096 : Int) < (acts.length : Int) := by omega
    have h4i : ¬ (200 : Int) < (acts.length : Int) := by omega
    have hmk : ∀ w, (Instr.makeSlice 32 (.int .i64 9) (.int .i64 9)).run Tryz.prog w = .ok (.slice (some ⟨w.heap.size, 0, none⟩) 9 9) (w.alloc (Obj.cells (madeCells #[.int .i64 0] 9) 3)) := run_make9
    go_enter Tryz.func6, Tryz.ntmps6
    go_wp2_with fail
    (first | go_at_call 15 | skip)
    refine (HOK.out _ (below_alloc _ _)).mono ?_
    rw [h3]
    rintro e w1 ⟨rfl, hb1⟩
    have HZ1 : Hid (w1.heap[w.heap.size]? = some (.cells #[.slice none 0 0, .int .i64 0, .slice none 0 0, .int .i64 0, .int .i64 0, .int .i64 0, .slice none 0 0] 34 (0, 0))) := (HZ0.out w1 hb1).1
    have HB1 : Hid (Below w.heap.size w w1) := (HZ0.out w1 hb1).2
    clear hb1
    have HS3 : Hid (SgT w.heap.size (w1.heap.size + 1) (.slice ia its.length ic) (runT R its acts 0) (((w1.alloc (Obj.cells (madeCells #[.int .i64 0] 9) 3)).alloc (Obj.cells #[(.slice ia its.length ic), .slice none 0 0, .int .i64 0, .slice none 0 0, .int .i64 0, .int .i64 0, .int .i64 0, .slice (some ⟨w1.heap.size, 0, none⟩) 9 9] 56)).alloc (Obj.cells #[] 40)) ∧ (((w1.alloc (Obj.cells (madeCells #[.int .i64 0] 9) 3)).alloc (Obj.cells #[(.slice ia its.length ic), .slice none 0 0, .int .i64 0, .slice none 0 0, .int .i64 0, .int .i64 0, .int .i64 0, .slice (some ⟨w1.heap.size, 0, none⟩) 9 9] 56)).alloc (Obj.cells #[] 40)).heap[w1.heap.size + 2]? = some (.cells #[] 40 (0, 0)) ∧ (((w1.alloc (Obj.cells (madeCells #[.int .i64 0] 9) 3)).alloc (Obj.cells #[(.slice ia its.length ic), .slice none 0 0, .int .i64 0, .slice none 0 0, .int .i64 0, .int .i64 0, .int .i64 0, .slice (some ⟨w1.heap.size, 0, none⟩) 9 9] 56)).alloc (Obj.cells #[] 40)).heap[w.heap.size]? = some (.cells #[.slice none 0 0, .int .i64 0, .slice none 0 0, .int .i64 0, .int .i64 0, .int .i64 0, .slice none 0 0] 34 (0, 0)) ∧ Below w.heap.size w (((w1.alloc (Obj.cells (madeCells #[.int .i64 0] 9) 3)).alloc (Obj.cells #[(.slice ia its.length ic), .slice none 0 0, .int .i64 0, .slice none 0 0, .int .i64 0, .int .i64 0, .int .i64 0, .slice (some ⟨w1.heap.size, 0, none⟩) 9 9] 56)).alloc (Obj.cells #[] 40))) := by
      have hlt := blkLt HZ1.out
      refine ⟨SgT.later (SgT.start w1 w.heap.size (by omega) (.slice ia its.length ic)) (below_alloc _ _), ?_, ?_, chain HB1.out (chain (below_alloc _ _) (chain (below_alloc _ _) (below_alloc _ _)))⟩
      · have := heapNew ((w1.alloc (Obj.cells (madeCells #[.int .i64 0] 9) 3)).alloc (Obj.cells #[(.slice ia its.length ic), .slice none 0 0, .int .i64 0, .slice none 0 0, .int .i64 0, .int .i64 0, .int .i64 0, .slice (some ⟨w1.heap.size, 0, none⟩) 9 9] 56)) (Obj.cells #[] 40)
        simpa using this
      · exact (Below.heap_alloc _ _ _ (by simp; omega)).trans ((Below.heap_alloc _ _ _ (by simp; omega)).trans ((Below.heap_alloc _ _ _ hlt).trans HZ1.out))
    have hlw : w.heap.size < w1.heap.size := blkLt HZ1.out
    obtain ⟨j0, hj, hzy⟩ := Option.map_eq_some_iff.1 obInfo0
    simp only [Prod.mk.injEq] at hzy
    obtain ⟨hj0, hj1, hj2⟩ := hzy
    go_wp2
    clear hmk
    go_loopw [8, 9, 10, 11] (fun tv iv _ _ wr => ∃ (k g cp : Nat), k ≤ acts.length ∧ iv = .int .i64 (k : Int) ∧ tv = .slice (some ⟨g, 0, none⟩) k cp ∧ wr.ownsRow w.heap.size 40 2 (.slice (some ⟨g, 0, none⟩) k cp) k (obCells (runO R its acts k)) ∧ SgT w.heap.size (w1.heap.size + 1) (.slice ia its.length ic) (runT R its acts k) wr ∧ wr.heap[w.heap.size]? = some (.cells #[.slice none 0 0, .int .i64 0, .slice none 0 0, .int .i64 0, .int .i64 0, .int .i64 0, .slice none 0 0] 34 (0, 0)) ∧ Below w.heap.size w wr) (fun _ iv _ _ _ => acts.length - (intOf iv).toNat)
    case atStart => exact ⟨0, w1.heap.size + 2, 0, Nat.zero_le _, rfl, rfl, ⟨rfl, .inr ⟨_, 0, #[], rfl, by omega, HS3.out.2.1, Nat.le_refl _, by unfold maxLen; omega, rfl, rfl⟩⟩, HS3.out.1, HS3.out.2.2.1, HS3.out.2.2.2⟩
    case round =>
      clear HS3
      obtain ⟨k, g, cp, hk, rfl, rfl, hrow, hsg, hz, hb⟩ := hrel
      generalize w1.heap.size + 1 = rb at *
      have HRw : Hid (wr.ownsRow w.heap.size 40 2 (.slice (some ⟨g, 0, none⟩) k cp) k (obCells (runO R its acts k))) := hrow
      have HSg : Hid (SgT w.heap.size rb (.slice ia its.length ic) (runT R its acts k) wr) := hsg
      have HZr : Hid (wr.heap[w.heap.size]? = some (.cells #[.slice none 0 0, .int .i64 0, .slice none 0 0, .int .i64 0, .int .i64 0, .int .i64 0, .slice none 0 0] 34 (0, 0))) := hz
      have HBr : Hid (Below w.heap.size w wr) := hb
      clear hrow hsg hz hb HZ1 HB1
      by_cases hlt : k < acts.length
      · have hlt' : (k : Int) < (acts.length : Int) := by omega
        obtain ⟨ab, ao, haa, q0, q1, q2⟩ := readsTa_at HA.out HBr.out k hlt
        subst haa
        have HCa := HRk.out k hlt w.heap.size rb wr HSg.out (HI.out.below HBr.out) HBr.out.size
        have HON : Hid (runO R its acts k ++ [stepO R its (acts.getD k zTa) (runT R its acts k)] = runO R its acts (k + 1)) := rfl
        generalize stepO R its (acts.getD k zTa) (runT R its acts k) = so at *
        obtain ⟨so1, so2⟩ := so
        obtain ⟨t2, ht2⟩ : ∃ t2, runT R its acts (k + 1) = t2 := ⟨_, rfl⟩
        rw [ht2] at HCa
        have HT2 : Hid (runT R its acts (k + 1) = t2) := ht2
        clear ht2
        generalize acts.getD k zTa = ac at *
        obtain ⟨kd, tx, nm⟩ := ac
        dsimp only at q0 q1 q2 HCa
        go_wp2_with fail
        (first | go_at_call 16 | skip)
        refine HCa.mono ?_
        rintro e w4 ⟨rfl, hf4, hs4⟩
        have hgr : wr.heap[g]? ≠ none ∧ ∃ cur, wr.heap[g]? = some (.cells cur 40 (0, 0)) := by
          obtain ⟨cur, hc⟩ := row_type HRw.out (q := g) rfl
          exact ⟨by rw [hc]; simp, cur, hc⟩
        have HR4 : Hid (w4.ownsRow w.heap.size 40 2 (.slice (some ⟨g, 0, none⟩) k cp) k (obCells (runO R its acts k)) ∧ SgT w.heap.size rb (.slice ia its.length ic) t2 w4 ∧ w4.heap[w.heap.size]? = some (.cells #[.slice none 0 0, .int .i64 0, .slice none 0 0, .int .i64 0, .int .i64 0, .int .i64 0, .slice none 0 0] 34 (0, 0)) ∧ Below w.heap.size w w4) := by
          obtain ⟨_, cur, hc⟩ := hgr
          refine ⟨row_of HRw.out (fun q hq => by cases hq; exact hf4.block g (row_lt HRw.out g rfl).2 (not_SX hc (by decide) (by decide) (by decide) (by decide))), hs4, (hf4.block _ (blkLt HZr.out) (not_SX HZr.out (by decide) (by decide) (by decide) (by decide))).trans HZr.out, Fr.below HBr.out hf4 HBr.out.size (fun k hk => hk.1)⟩
        have HR5 : Hid ((w4.alloc (Obj.cells #[.int .i64 so1, .int .i64 so2] 40)).ownsRow w.heap.size 40 2 (.slice (some ⟨g, 0, none⟩) k cp) k (obCells (runO R its acts k)) ∧ SgT w.heap.size rb (.slice ia its.length ic) t2 (w4.alloc (Obj.cells #[.int .i64 so1, .int .i64 so2] 40)) ∧ (w4.alloc (Obj.cells #[.int .i64 so1, .int .i64 so2] 40)).heap[w.heap.size]? = some (.cells #[.slice none 0 0, .int .i64 0, .slice none 0 0, .int .i64 0, .int .i64 0, .int .i64 0, .slice none 0 0] 34 (0, 0)) ∧ Below w.heap.size w (w4.alloc (Obj.cells #[.int .i64 so1, .int .i64 so2] 40))) :=
          ⟨HR4.out.1.alloc _, HR4.out.2.1.later (below_alloc _ _), (Below.heap_alloc _ _ _ (blkLt HR4.out.2.2.1)).trans HR4.out.2.2.1, chain HR4.out.2.2.2 (below_alloc _ _)⟩
        clear HCa hf4 hs4 hgr q0 q1 q2 HRw HSg HZr HBr HR4
        go_wp2_with (at_builtin; (refine wpList_append_lies _ rfl _ _ 27 rfl w.heap.size 40 j0 (.agg #[.int .i64 0, .int .i64 0]) 2 16 Tryz.underlying27 hj hj0 hj1 hj2 rfl (by decide) _ _ _ rfl HR5.out.1 ⟨w4.heap.size, 0, none⟩ 1 1 [.int .i64 so1, .int .i64 so2] rfl rfl (World.news_of_block (heapNew w4 _)) (by simp [Value.oneCell']) (by omega) (by unfold maxLen; omega) (by omega) HR5.out.2.2.2.size _ rfl ?_); intro g1 cp1 w6 hown1 hgrow1 hat1 hglt1; have HF : Hid (w6.ownsRow w.heap.size 40 2 (.slice (some ⟨g1, 0, none⟩) (k + 1) cp1) (k + 1) (obCells (runO R its acts (k + 1))) ∧ SgT w.heap.size rb (.slice ia its.length ic) t2 w6 ∧ w6.heap[w.heap.size]? = some (.cells #[.slice none 0 0, .int .i64 0, .slice none 0 0, .int .i64 0, .int .i64 0, .int .i64 0, .slice none 0 0] 34 (0, 0)) ∧ Below w.heap.size w w6) := told_grown HON.out HR5.out.1 HR5.out.2.1 HR5.out.2.2.1 HR5.out.2.2.2 hown1 hgrow1; clear hown1 hgrow1 hat1 hglt1)
        exact ⟨⟨k + 1, g1, cp1, by omega, by go_num, rfl, HF.out.1, by rw [HT2.out]; exact HF.out.2.1, HF.out.2.2.1, HF.out.2.2.2⟩, by simp [intOf]; omega⟩
      · obtain rfl : k = acts.length := by omega
        obtain ⟨lv, kv, cv, ks, hks, hg⟩ := HSg.out
        have HG : Hid (Sg w.heap.size rb (.slice ia its.length ic) lv (runT R its acts acts.length).ls (runT R its acts acts.length).sh kv ks (runT R its acts acts.length).sl (runT R its acts acts.length).tk (runT R its acts acts.length).dp cv (runT R its acts acts.length).cs wr) := hg
        have HKs : Hid (ks.map (fun k : Kb => (k.ls, k.sh)) = (runT R its acts acts.length).kept) := hks
        obtain ⟨l1, l2, hlv⟩ := row_slice hg.lrow
        obtain ⟨k1, k2, hkv⟩ := row_slice hg.krow
        obtain ⟨cq1, cq2, hcv⟩ := row_slice hg.crow
        have hrbw : w.heap.size ≠ rb := fun e => by
          have h1 := HZr.out
          have h2 : wr.heap[rb]? = _ := hg.reg
          rw [e, h2] at h1
          simp at h1
        have HON : Hid ((runO R its acts acts.length).length = acts.length) := runO_len R its acts acts.length
        clear hg hks HSg HRk
        have HDd : Hid (wr.drew.ownsRow w.heap.size 40 2 (.slice (some ⟨g, 0, none⟩) acts.length cp) acts.length (obCells (runO R its acts acts.length)) ∧ Sg w.heap.size rb (.slice ia its.length ic) lv (runT R its acts acts.length).ls (runT R its acts acts.length).sh kv ks (runT R its acts acts.length).sl (runT R its acts acts.length).tk (runT R its acts acts.length).dp cv (runT R its acts acts.length).cs wr.drew ∧ wr.drew.heap[w.heap.size]? = some (.cells #[.slice none 0 0, .int .i64 0, .slice none 0 0, .int .i64 0, .int .i64 0, .int .i64 0, .slice none 0 0] 34 (0, 0)) ∧ Below w.heap.size w wr.drew) := ⟨row_of HRw.out (fun q hq => rfl), HG.out.later (below_drew _), HZr.out, chain HBr.out (below_drew _)⟩
        have HAn : Hid (∀ W, W.heap[w.heap.size]? = some (.cells #[lv, .int .i64 (runT R its acts acts.length).sh, kv, .int .i64 (runT R its acts acts.length).sl, .int .i64 (runT R its acts acts.length).tk, .int .i64 (runT R its acts acts.length).dp, cv] 34 (0, 0)) → (∀ q, q ≠ w.heap.size → W.heap[q]? = wr.drew.heap[q]?) → AnsT w.heap.size (runO R its acts acts.length) (runT R its acts acts.length) (.slice (some ⟨g, 0, none⟩) acts.length cp) lv kv cv ks W) := fun W _ hW => by
          have hne : ∀ {e : TypeId} {s : Nat} {v : Value} {n : Nat} {xs : List Value}, wr.drew.ownsRow w.heap.size e s v n xs → e ≠ 34 → W.ownsRow w.heap.size e s v n xs := fun {e} {s} {v} {n} {xs} h he => row_of h (fun q hq => hW q (fun eq => by
            obtain ⟨cur, hc⟩ := row_type h hq
            rw [eq, HDd.out.2.2.1] at hc
            simp at hc
            exact he hc.2.symm))
          obtain ⟨h1, h2⟩ := List.pairwise_cons.1 HDd.out.2.1.dist
          obtain ⟨h3, h4⟩ := List.pairwise_cons.1 h2
          refine ⟨by rw [HON.out]; exact hne HDd.out.1 (by decide), HKs.out, hne HDd.out.2.1.lrow (by decide), hne HDd.out.2.1.krow (by decide), fun k hk => hne (HDd.out.2.1.rows k hk) (by decide), hne HDd.out.2.1.crow (by decide), h4⟩
        generalize (runT R its acts acts.length).sh = sh at *
        generalize (runT R its acts acts.length).sl = sl at *
        generalize (runT R its acts acts.length).tk = tk at *
        generalize (runT R its acts acts.length).dp = dp at *
        subst hlv
        subst hkv
        subst hcv
        clear HZr HRw HBr HG
        generalize (runT R its acts acts.length).ls.length = nl at *
        generalize (runT R its acts acts.length).cs.length = nc at *
        go_wp2_with fail
        refine wp_region_held_drew (S := fun W => SpIs W rb (.slice ia its.length ic) (.slice l1 nl l2) sh (.slice k1 ks.length k2) sl tk dp (.slice cq1 nc cq2)) (by kernel_rfl) HDd.out.2.1.reg (fun hH => ?_)
        generalize wr.drew = Wd at *
        refine wpAnyH_take (i := 0) (v := .slice (some ⟨g, 0, none⟩) acts.length cp) rfl (by kernel_rfl) (by kernel_rfl) (by kernel_rfl) (fun _ _ _ h => h) (Or.inl ⟨by rfl, fun w hSw => by go_simp⟩) hH ?_
        refine wpAnyH_take (i := 1) (v := .pointer (some ⟨rb, 0, none⟩)) rfl (by kernel_rfl) (by kernel_rfl) (by kernel_rfl) (fun _ _ _ h => h) (Or.inl ⟨by rfl, fun w hSw => by go_simp⟩) hH ?_
        try simp only [Act.put, List.setIfInBounds_toArray, List.set_cons_zero, List.set_cons_succ, List.getElem_toArray, List.getElem_cons_succ, List.getElem_cons_zero]
        refine wpAnyH_take (i := 2) (v := .pointer (some ⟨rb, 0, none⟩)) rfl (by kernel_rfl) (by kernel_rfl) (by kernel_rfl) (fun _ _ _ h => h) (Or.inl ⟨by rfl, fun w hSw => by go_simp⟩) hH ?_
        try simp only [Act.put, List.setIfInBounds_toArray, List.set_cons_zero, List.set_cons_succ, List.getElem_toArray, List.getElem_cons_succ, List.getElem_cons_zero]
        refine wpAnyH_take (i := 3) (v := .pointer (some ⟨rb, 1, none⟩)) rfl (by kernel_rfl) (by kernel_rfl) (by kernel_rfl) (fun _ _ _ h => h) (Or.inl ⟨by rfl, fun w hSw => by go_simp⟩) hH ?_
        try simp only [Act.put, List.setIfInBounds_toArray, List.set_cons_zero, List.set_cons_succ, List.getElem_toArray, List.getElem_cons_succ, List.getElem_cons_zero]
        refine wpAnyH_take (i := 4) (v := .agg #[.slice l1 nl l2, .int .i64 sh, .slice k1 ks.length k2, .int .i64 sl, .int .i64 tk, .int .i64 dp, .slice cq1 nc cq2]) rfl (by kernel_rfl) (by kernel_rfl) (by kernel_rfl) (fun _ _ _ h => h) (Or.inl ⟨by rfl, fun w hSw => by obtain ⟨_, f1, f2, f3, f4, f5, f6, f7⟩ := SpIs.cells hSw; go_simp⟩) hH ?_
        try simp only [Act.put, List.setIfInBounds_toArray, List.set_cons_zero, List.set_cons_succ, List.getElem_toArray, List.getElem_cons_succ, List.getElem_cons_zero]
        refine wpAnyH_take (i := 5) (v := .slice (some ⟨g, 0, none⟩) acts.length cp) rfl (by kernel_rfl) (by kernel_rfl) (by kernel_rfl) (fun _ _ _ h => h) (Or.inl ⟨by rfl, fun w hSw => by go_simp⟩) hH ?_
        try simp only [Act.put, List.setIfInBounds_toArray, List.set_cons_zero, List.set_cons_succ, List.getElem_toArray, List.getElem_cons_succ, List.getElem_cons_zero]
        refine wpAnyH_ready (rs := [6]) (by kernel_rfl) (by simp) ?_
        refine AllReadyH.cons rfl (fun K hK => ?_) AllReadyH.nil
        have y0 := blkCell HDd.out.2.2.1 0 _ rfl
        have z0 := blkFree HDd.out.2.2.1 0
        have y1 := blkCell HDd.out.2.2.1 1 _ rfl
        have z1 := blkFree HDd.out.2.2.1 1
        have y2 := blkCell HDd.out.2.2.1 2 _ rfl
        have z2 := blkFree HDd.out.2.2.1 2
        have y3 := blkCell HDd.out.2.2.1 3 _ rfl
        have z3 := blkFree HDd.out.2.2.1 3
        have y4 := blkCell HDd.out.2.2.1 4 _ rfl
        have z4 := blkFree HDd.out.2.2.1 4
        have y5 := blkCell HDd.out.2.2.1 5 _ rfl
        have z5 := blkFree HDd.out.2.2.1 5
        have y6 := blkCell HDd.out.2.2.1 6 _ rfl
        have z6 := blkFree HDd.out.2.2.1 6
        have hlo := blkLt HDd.out.2.2.1
        go_simp
        have hq := fin7 HDd.out.2.2.1 (.slice l1 nl l2) (.int .i64 sh) (.slice k1 ks.length k2) (.int .i64 sl) (.int .i64 tk) (.int .i64 dp) (.slice cq1 nc cq2)
        have hB := below7 HDd.out.2.2.2 (Nat.le_refl _) (.slice l1 nl l2) (.int .i64 sh) (.slice k1 ks.length k2) (.int .i64 sl) (.int .i64 tk) (.int .i64 dp) (.slice cq1 nc cq2)
        have hS9 := keep7 HDd.out.2.1.reg (Ne.symm hrbw) (.slice l1 nl l2) (.int .i64 sh) (.slice k1 ks.length k2) (.int .i64 sl) (.int .i64 tk) (.int .i64 dp) (.slice cq1 nc cq2)
        have hkp : ∀ q, q ≠ w.heap.size → (((((((Wd.setCell ⟨w.heap.size, 0, none⟩ (.slice l1 nl l2)).setCell ⟨w.heap.size, 1, none⟩ (.int .i64 sh)).setCell ⟨w.heap.size, 2, none⟩ (.slice k1 ks.length k2)).setCell ⟨w.heap.size, 3, none⟩ (.int .i64 sl)).setCell ⟨w.heap.size, 4, none⟩ (.int .i64 tk)).setCell ⟨w.heap.size, 5, none⟩ (.int .i64 dp)).setCell ⟨w.heap.size, 6, none⟩ (.slice cq1 nc cq2)).heap[q]? = Wd.heap[q]? := fun q hq => (Below.heap_setCell _ _ _ _ hq).trans ((Below.heap_setCell _ _ _ _ hq).trans ((Below.heap_setCell _ _ _ _ hq).trans ((Below.heap_setCell _ _ _ _ hq).trans ((Below.heap_setCell _ _ _ _ hq).trans ((Below.heap_setCell _ _ _ _ hq).trans (Below.heap_setCell _ _ _ _ hq))))))
        have HA9 : Hid (_) := HAn.out _ hq hkp
        clear hkp
        generalize (((((((Wd.setCell ⟨w.heap.size, 0, none⟩ (.slice l1 nl l2)).setCell ⟨w.heap.size, 1, none⟩ (.int .i64 sh)).setCell ⟨w.heap.size, 2, none⟩ (.slice k1 ks.length k2)).setCell ⟨w.heap.size, 3, none⟩ (.int .i64 sl)).setCell ⟨w.heap.size, 4, none⟩ (.int .i64 tk)).setCell ⟨w.heap.size, 5, none⟩ (.int .i64 dp)).setCell ⟨w.heap.size, 6, none⟩ (.slice cq1 nc cq2)) = W9 at *
        have hS9' : SpIs W9 rb (.slice ia its.length ic) (.slice l1 nl l2) sh (.slice k1 ks.length k2) sl tk dp (.slice cq1 nc cq2) := hS9
        refine hK.out _ _ hS9' (fun _ => ?_)
        clear hK K
        try simp only [Act.put, List.setIfInBounds_toArray, List.set_cons_zero, List.set_cons_succ, List.getElem_toArray, List.getElem_cons_succ, List.getElem_cons_zero]
        refine wpAnyH_take (i := 7) (v := .int .i64 0) rfl (by kernel_rfl) (by kernel_rfl) (by kernel_rfl) (fun _ _ _ h => h) (Or.inl ⟨by rfl, fun w hSw => by go_simp⟩) hS9' ?_
        try simp only [Act.put, List.setIfInBounds_toArray, List.set_cons_zero, List.set_cons_succ, List.getElem_toArray, List.getElem_cons_succ, List.getElem_cons_zero]
        refine wpAnyH_done (by kernel_rfl) ?_ _
        try simp
        clear y0 y1 y2 y3 y4 y5 y6 z0 z1 z2 z3 z4 z5 z6
        have p0 := blkCell hq 0 _ rfl
        have p1 := blkCell hq 1 _ rfl
        have p2 := blkCell hq 2 _ rfl
        have p3 := blkCell hq 3 _ rfl
        have p4 := blkCell hq 4 _ rfl
        have p5 := blkCell hq 5 _ rfl
        have p6 := blkCell hq 6 _ rfl
        go_wp2
        exact bodyPost_ret (v := .tuple #[.slice (some ⟨g, 0, none⟩) acts.length cp, .agg #[.slice l1 nl l2, .int .i64 sh, .slice k1 ks.length k2, .int .i64 sl, .int .i64 tk, .int .i64 dp, .slice cq1 nc cq2], .int .i64 0]) (by simp [results, Tryz.results6, go_sem, p0, p1, p2, p3, p4, p5, p6]) rfl (HP.out _ _ _ _ _ ks HA9.out hB)
end Go.Proofs.YtabpkfhbnendjaaGreat

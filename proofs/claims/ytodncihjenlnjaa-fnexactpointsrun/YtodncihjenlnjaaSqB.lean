/-
  The specification's back.
-/
import Derived.Test.YtodncihjenlnjaaSqD
import Derived.Test.YtodncihjenlnjaaAppAny
namespace Go.Proofs.Ytodncihjenlnjaa
open Go.ChangeShapes Go.WideShapes Go.ChangeAt Go.RowKit Go.Deep
set_option linter.unusedVariables false

set_option maxHeartbeats 8000000 in
theorem backS_any (B rb : Nat) (day sp ex : Int) (la : Option Addr) (lc : Nat) (tv : Value) (L K : List RLo) (hl : L.length ≤ 100) (hkl : K.length ≤ 100000000) (hNK : ∀ r ∈ K, LoN r) (hsp : -1000000000000 ≤ sp) (hsp2 : sp ≤ 1000000000000) (hex : 0 ≤ ex) (hex2 : ex ≤ 1000000000000) (ka : Option Addr) (kc : Nat) (w : World) (hg : SgIs w rb day sp ex (.slice la L.length lc) tv) (hr : w.ownsRow B 67 2 (.slice la L.length lc) L.length (loCells L)) (hrk : w.ownsRow B 67 2 (.slice ka K.length kc) K.length (loCells K)) :
    Calls Try.prog 29 #[.pointer (some ⟨rb, 0, none⟩), .slice ka K.length kc] w fun e w' => if 100 < L.length + (keptL day K).length then e = .returned (.int .i64 14) ∧ Below w.heap.size w w' else e = .returned (.int .i64 0) ∧ ∃ v, SdS w rb day (sp - sumP K) (ex + (sumP K - sumP (keptL day K))) v tv v (L ++ keptL day K) w' := by
  have hrl := hg.lt
  have HN : Hid (∀ r ∈ K, LoN r) := hNK
  have HR : Hid (w.ownsRow B 67 2 (.slice ka K.length kc) K.length (loCells K)) := hrk
  have HRL : Hid (w.ownsRow B 67 2 (.slice la L.length lc) L.length (loCells L)) := hr
  have HQr : Hid (∀ q, Value.ownBlock (.slice ka K.length kc) = some q → q ≠ rb) := fun q hq => sg_ne hg hrk hq
  have HG : Hid (SgIs w rb day sp ex (.slice la L.length lc) tv) := hg
  obtain ⟨i0, hi, hzz⟩ := Option.map_eq_some_iff.1 loInfo
  simp only [Prod.mk.injEq] at hzz
  obtain ⟨hi0, hi1, hi2⟩ := hzz
  have x3 := hg.cells.2.2.2.1
  obtain ⟨Q, hQ⟩ : ∃ Q : Ending → World → Prop, Q = fun e w' => if 100 < L.length + (keptL day K).length then e = .returned (.int .i64 14) ∧ Below w.heap.size w w' else e = .returned (.int .i64 0) ∧ ∃ v, SdS w rb day (sp - sumP K) (ex + (sumP K - sumP (keptL day K))) v tv v (L ++ keptL day K) w' := ⟨_, rfl⟩
  rw [← hQ]
  have HQ1 : Hid (100 < L.length + (keptL day K).length → ∀ w', Below w.heap.size w w' → Q (.returned (.int .i64 14)) w') := fun h w' hw => by rw [hQ]; dsimp only; rw [if_pos h]; exact ⟨rfl, hw⟩
  have HQ2 : Hid (¬ 100 < L.length + (keptL day K).length → ∀ w' v, SdS w rb day (sp - sumP K) (ex + (sumP K - sumP (keptL day K))) v tv v (L ++ keptL day K) w' → Q (.returned (.int .i64 0)) w') := fun h w' v hw => by rw [hQ]; dsimp only; rw [if_neg h]; exact ⟨rfl, v, hw⟩
  obtain ⟨W1, hW1⟩ : ∃ W1, W1 = w.alloc (Obj.cells #[] 67) := ⟨_, rfl⟩
  have hz1 : W1.heap.size = w.heap.size + 1 := by rw [hW1]; simp
  have HS1 : Hid (LoRow w w.heap.size (.slice (some ⟨w.heap.size, 0, none⟩) 0 0) [] W1) := by
    rw [hW1]
    exact ⟨⟨rfl, .inr ⟨w.heap.size, 0, #[], rfl, Nat.le_refl _, heapNew _ _, Nat.le_refl _, by unfold maxLen; omega, rfl, rfl⟩⟩, by simp, below_alloc _ _⟩
  have HL1 : Hid (W1.ownsRow B 67 2 (.slice la L.length lc) L.length (loCells L)) := by
    rw [hW1]; exact row_of hr (fun q hq => (below_alloc _ _).block q (row_lt hr q hq).2)
  have HKc : Hid (∀ (W : World) (k : Nat), k < K.length → (∀ q, Value.ownBlock (.slice ka K.length kc) = some q → W.heap[q]? = w.heap[q]?) → ∃ g, ka = some ⟨g, 0, none⟩ ∧ W.cell? ⟨g, k * 2, none⟩ = some (.int .i64 (K.getD k zLo).nu) ∧ W.cell? ⟨g, k * 2 + 1, none⟩ = some (.int .i64 (K.getD k zLo).un)) := fun W k hk hW => by
    have hrow := row_of (w' := W) hrk hW
    obtain ⟨g, c9, hga⟩ := row_some hrow (by omega)
    simp only [Value.slice.injEq, true_and] at hga
    obtain ⟨rfl, rfl⟩ := hga
    exact ⟨g, rfl, lo_cells hrow k hk⟩
  clear hg hr hrk hNK hQ
  go_enter Try.func29, Try.ntmps29
  rw [hW1] at HS1 HL1
  go_wp2_with (at_builtin; refine wpList_append_any rfl _ _ 25 rfl w.heap.size 67 i0 (.agg #[.int .i64 0, .int .i64 0]) 2 16 Try.underlying25 hi hi0 hi1 hi2 rfl (by decide) _ _ _ rfl HS1.out.1 la L.length lc (loCells L) rfl (loCells_len L) (row_news HL1.out) (loCells_one L) (by unfold maxLen; simp; omega) (by simp; omega) (by simp) ?_; intro va vc w2 hown2 hgrow2 hat2; have H2 : Hid (LoRow w w.heap.size (.slice va L.length vc) L w2) := (by rw [List.length_nil, Nat.zero_add] at hown2; exact ⟨hown2, Nat.le_trans HS1.out.2.1 hgrow2.size, HS1.out.2.2.grown hgrow2 HS1.out.2.1 (fun q hq => (row_lt HS1.out.1 q hq).1)⟩); clear hown2 hgrow2 hat2)
  clear HS1 HL1 x3 hW1 hz1 W1
  go_loopw [5, 6] (fun v x wr => ∃ (k : Nat) (va : Option Addr) (vc : Nat), k ≤ K.length ∧ x = .int .i64 (k : Int) ∧ v = .slice va (L ++ keptL day (K.take k)).length vc ∧ LoRow w w.heap.size v (L ++ keptL day (K.take k)) wr) (fun _ x _ => K.length - (intOf x).toNat)
  case atStart => exact ⟨0, va, vc, Nat.zero_le _, rfl, by simp [keptL], by have := H2.out; simpa [keptL] using this⟩
  case round =>
    clear H2
    obtain ⟨k, va, vc, hk, rfl, rfl, hst⟩ := hrel
    have HS : Hid (LoRow w w.heap.size (.slice va (L ++ keptL day (K.take k)).length vc) (L ++ keptL day (K.take k)) wr) := hst
    have x0 := (HG.out.later hst.2.2).cells.1
    clear hst
    by_cases hlt : k < K.length
    · have hlt' : (k : Int) < (K.length : Int) := by omega
      obtain ⟨g, rfl, q0, q1⟩ := HKc.out wr k hlt (fun q hq => HS.out.2.2.block q (row_lt HR.out q hq).2)
      have HKn := keptL_next day K k hlt
      have hkk := keptL_len day (K.take k)
      rw [List.length_take] at hkk
      generalize K.getD k zLo = r at *
      obtain ⟨rn, ru⟩ := r
      dsimp only at q0 q1 HKn
      have HB0 : Hid (LoRow w w.heap.size (.slice va (L ++ keptL day (K.take k)).length vc) (L ++ keptL day (K.take k)) wr) := HS.out
      by_cases hc : day ≤ ru
      · rw [if_pos hc] at HKn
        have HK : Hid (L ++ keptL day (K.take (k + 1)) = (L ++ keptL day (K.take k)) ++ [⟨rn, ru⟩]) := by show _ = _; rw [HKn, List.append_assoc]
        clear HKn
        have hkk2 : (L ++ keptL day (K.take k)).length ≤ 100 + k := by rw [List.length_append]; omega
        generalize L ++ keptL day (K.take k) = M at *
        go_wp2_with fail
        go_quiet (fail)
        generalize hWd : wr.drewN nq = Wd at *
        have HD : Hid (LoRow w w.heap.size (.slice va M.length vc) M Wd) := by rw [← hWd]; exact HB0.out.later (below_drewN (Below.refl _ _) _)
        have HA1 : Hid (LoRow w w.heap.size (.slice va M.length vc) M (Wd.alloc (Obj.cells #[.int .i64 rn, .int .i64 ru] 67))) := HD.out.alloc _
        have HNw : Hid ((Wd.alloc (Obj.cells #[.int .i64 rn, .int .i64 ru] 67)).heap[Wd.heap.size]? = some (.cells #[.int .i64 rn, .int .i64 ru] 67 (0, 0))) := heapNew _ _
        have q0' : Wd.cell? ⟨g, k * 2, none⟩ = some (.int .i64 rn) := by rw [← hWd]; exact q0
        have q1' : Wd.cell? ⟨g, k * 2 + 1, none⟩ = some (.int .i64 ru) := by rw [← hWd]; exact q1
        clear q0 q1 hWd x0
        go_wp2_with (at_builtin; refine wpList_append_lies _ rfl _ _ 25 rfl w.heap.size 67 i0 (.agg #[.int .i64 0, .int .i64 0]) 2 16 Try.underlying25 hi hi0 hi1 hi2 rfl (by decide) _ _ _ rfl HA1.out.1 ⟨Wd.heap.size, 0, none⟩ 1 1 [.int .i64 rn, .int .i64 ru] rfl rfl (World.news_of_block HNw.out) (by simp [Value.oneCell']) (by omega) (by unfold maxLen; omega) (by omega) HA1.out.2.1 _ rfl ?_; intro g1 cp1 w9 hown1 hgrow1 hat1 hglt1; have HF : Hid (LoRow w w.heap.size (.slice (some ⟨g1, 0, none⟩) (M.length + 1) cp1) (M ++ [⟨rn, ru⟩]) w9) := HA1.out.push (r := ⟨rn, ru⟩) hown1 hgrow1; clear hown1 hgrow1 hat1 hglt1)
        refine ⟨⟨k + 1, some ⟨g1, 0, none⟩, cp1, by omega, by go_num, by rw [HK.out]; simp, ?_⟩, by simp [intOf]; omega⟩
        rw [HK.out]; exact HF.out
      · rw [if_neg hc] at HKn
        have HK : Hid (L ++ keptL day (K.take (k + 1)) = L ++ keptL day (K.take k)) := by show _ = _; rw [HKn]
        clear HKn
        have hc' : ru < day := by omega
        generalize L ++ keptL day (K.take k) = M at *
        go_wp2_with fail
        go_quiet (fail)
        go_wp2
        refine ⟨⟨k + 1, va, vc, by omega, by go_num, by rw [HK.out], ?_⟩, by simp [intOf]; omega⟩
        rw [HK.out]; exact HS.out.later (below_drewN (Below.refl _ _) _)
    · obtain rfl : k = K.length := by omega
      rw [List.take_length] at HS ⊢
      have hkk := keptL_len day K
      by_cases hfull : 100 < L.length + (keptL day K).length
      · have hfi : (100 : Int) < ((L ++ keptL day K).length : Int) := by rw [List.length_append]; omega
        have HE := HQ1.out hfull wr HS.out.2.2
        generalize L ++ keptL day K = M at *
        clear HQ1 HQ2 hfull
        go_wp2
        exact HE
      · have hfi : ¬ (100 : Int) < ((L ++ keptL day K).length : Int) := by rw [List.length_append]; omega
        have HS0 : Hid (SdS w rb day (sp - sumP (K.take 0)) (ex + lostL day K 0) (.slice la L.length lc) tv (.slice va (L ++ keptL day K).length vc) (L ++ keptL day K) wr) := by
          have e1 : sp - sumP (K.take 0) = sp := by simp [sumP]
          have e2 : ex + lostL day K 0 = ex := by simp [lostL, keptL, sumP]
          rw [e1, e2]
          exact ⟨HG.out.later HS.out.2.2, HS.out.1, Fr.of HS.out.2.2⟩
        have HE := HQ2.out hfull
        clear HQ1 HQ2 hfull HS
        generalize L ++ keptL day K = M at *
        clear x0 hlt
        go_wp2_with fail
        go_loopw [7] (fun x wr => ∃ (k : Nat), k ≤ K.length ∧ x = .int .i64 (k : Int) ∧ SdS w rb day (sp - sumP (K.take k)) (ex + lostL day K k) (.slice la L.length lc) tv (.slice va M.length vc) M wr) (fun x _ => K.length - (intOf x).toNat)
        case atStart => exact ⟨0, Nat.zero_le _, rfl, HS0.out⟩
        case round =>
          clear HS0
          obtain ⟨k, hk, rfl, hst⟩ := hrel
          have HS : Hid (SdS w rb day (sp - sumP (K.take k)) (ex + lostL day K k) (.slice la L.length lc) tv (.slice va M.length vc) M wr) := hst
          have hsb := sumP_take HN.out k hk
          have hlb := lostL_bound (d := day) HN.out k hk
          clear hst
          by_cases hlt : k < K.length
          · have hlt' : (k : Int) < (K.length : Int) := by omega
            obtain ⟨g, hga, _, _⟩ := HKc.out w k hlt (fun q hq => rfl)
            subst hga
            have HKw : Hid (∀ W : World, Fr (fun k => k = rb) w W → W.cell? ⟨g, k * 2, none⟩ = some (.int .i64 (K.getD k zLo).nu) ∧ W.cell? ⟨g, k * 2 + 1, none⟩ = some (.int .i64 (K.getD k zLo).un)) := fun W hW => by
              obtain ⟨g2, hg2, h1, h2⟩ := HKc.out W k hlt (fun q hq => hW.block q (row_lt HR.out q hq).2 (fun e => HQr.out q hq e))
              simp only [Option.some.injEq, Addr.mk.injEq] at hg2
              obtain ⟨rfl, _⟩ := hg2
              exact ⟨h1, h2⟩
            have hnn := getLo' HN.out hlt
            have HLn := lostL_next day K k hlt
            have HSn : Hid (sumP (K.take (k + 1)) = sumP (K.take k) + (K.getD k zLo).nu) := sumP_next K k hlt
            generalize K.getD k zLo = r at *
            obtain ⟨rn, ru⟩ := r
            unfold LoN at hnn
            dsimp only at HKw HLn hnn HSn
            generalize hsm : sumP (K.take k) = sm at *
            generalize hle : lostL day K k = le at *
            clear hsm hle
            have hws : IntKind.i64.wrap (sp - sm - rn) = sp - sm - rn := wrap_id _ (by omega) (by omega)
            have HD : Hid (SdS w rb day (sp - sm) (ex + le) (.slice la L.length lc) tv (.slice va M.length vc) M wr.drew) := HS.out.later (below_drew _)
            go_wp2_with fail
            generalize hWD : wr.drew = WD at *
            have z1 := HD.out.run.cells.2.1
            have zf := HD.out.run.free 1
            have zq := (HKw.out WD HD.out.fr).1
            refine wp_region_z (S := fun W => W = WD) 14 (by kernel_rfl) hWD (fun hH => ?_)
            rw [hWD] at hH ⊢
            clear hWD HS
            refine wpAnyZ_take (i := 0) (v := .pointer (some ⟨rb, 0, none⟩)) rfl (by kernel_rfl) (by kernel_rfl) (by kernel_rfl) (by kernel_rfl) (fun _ _ _ h => h) (Or.inl ⟨by rfl, fun w hSw => by subst hSw; go_simp⟩) hH ?_
            refine wpAnyZ_take (i := 1) (v := .pointer (some ⟨rb, 0, none⟩)) rfl (by kernel_rfl) (by kernel_rfl) (by kernel_rfl) (by kernel_rfl) (fun _ _ _ h => h) (Or.inl ⟨by rfl, fun w hSw => by subst hSw; go_simp⟩) hH ?_
            try simp only [Act.put, List.setIfInBounds_toArray, List.set_cons_zero, List.set_cons_succ, List.getElem_toArray, List.getElem_cons_succ, List.getElem_cons_zero]
            refine wpAnyZ_take (i := 2) (v := .pointer (some ⟨rb, 0, none⟩)) rfl (by kernel_rfl) (by kernel_rfl) (by kernel_rfl) (by kernel_rfl) (fun _ _ _ h => h) (Or.inl ⟨by rfl, fun w hSw => by subst hSw; go_simp⟩) hH ?_
            try simp only [Act.put, List.setIfInBounds_toArray, List.set_cons_zero, List.set_cons_succ, List.getElem_toArray, List.getElem_cons_succ, List.getElem_cons_zero]
            refine wpAnyZ_take (i := 3) (v := .pointer (some ⟨rb, 1, none⟩)) rfl (by kernel_rfl) (by kernel_rfl) (by kernel_rfl) (by kernel_rfl) (fun _ _ _ h => h) (Or.inl ⟨by rfl, fun w hSw => by subst hSw; go_simp⟩) hH ?_
            try simp only [Act.put, List.setIfInBounds_toArray, List.set_cons_zero, List.set_cons_succ, List.getElem_toArray, List.getElem_cons_succ, List.getElem_cons_zero]
            refine wpAnyZ_take (i := 4) (v := .int .i64 (sp - sm)) rfl (by kernel_rfl) (by kernel_rfl) (by kernel_rfl) (by kernel_rfl) (fun _ _ _ h => h) (Or.inl ⟨by rfl, fun w hSw => by subst hSw; go_simp⟩) hH ?_
            try simp only [Act.put, List.setIfInBounds_toArray, List.set_cons_zero, List.set_cons_succ, List.getElem_toArray, List.getElem_cons_succ, List.getElem_cons_zero]
            refine wpAnyZ_take (i := 5) (v := .slice (some ⟨g, 0, none⟩) K.length kc) rfl (by kernel_rfl) (by kernel_rfl) (by kernel_rfl) (by kernel_rfl) (fun _ _ _ h => h) (Or.inl ⟨by rfl, fun w hSw => by subst hSw; go_simp⟩) hH ?_
            try simp only [Act.put, List.setIfInBounds_toArray, List.set_cons_zero, List.set_cons_succ, List.getElem_toArray, List.getElem_cons_succ, List.getElem_cons_zero]
            refine wpAnyZ_take (i := 6) (v := .int .i64 (k : Int)) rfl (by kernel_rfl) (by kernel_rfl) (by kernel_rfl) (by kernel_rfl) (fun _ _ _ h => h) (Or.inl ⟨by rfl, fun w hSw => by subst hSw; go_simp⟩) hH ?_
            try simp only [Act.put, List.setIfInBounds_toArray, List.set_cons_zero, List.set_cons_succ, List.getElem_toArray, List.getElem_cons_succ, List.getElem_cons_zero]
            refine wpAnyZ_take (i := 7) (v := .pointer (some ⟨g, k * 2, none⟩)) rfl (by kernel_rfl) (by kernel_rfl) (by kernel_rfl) (by kernel_rfl) (fun _ _ _ h => h) (Or.inl ⟨by rfl, fun w hSw => by subst hSw; go_simp⟩) hH ?_
            try simp only [Act.put, List.setIfInBounds_toArray, List.set_cons_zero, List.set_cons_succ, List.getElem_toArray, List.getElem_cons_succ, List.getElem_cons_zero]
            refine wpAnyZ_take (i := 8) (v := .pointer (some ⟨g, k * 2, none⟩)) rfl (by kernel_rfl) (by kernel_rfl) (by kernel_rfl) (by kernel_rfl) (fun _ _ _ h => h) (Or.inl ⟨by rfl, fun w hSw => by subst hSw; go_simp⟩) hH ?_
            try simp only [Act.put, List.setIfInBounds_toArray, List.set_cons_zero, List.set_cons_succ, List.getElem_toArray, List.getElem_cons_succ, List.getElem_cons_zero]
            refine wpAnyZ_take (i := 9) (v := .int .i64 rn) rfl (by kernel_rfl) (by kernel_rfl) (by kernel_rfl) (by kernel_rfl) (fun _ _ _ h => h) (Or.inl ⟨by rfl, fun w hSw => by subst hSw; go_simp⟩) hH ?_
            try simp only [Act.put, List.setIfInBounds_toArray, List.set_cons_zero, List.set_cons_succ, List.getElem_toArray, List.getElem_cons_succ, List.getElem_cons_zero]
            refine wpAnyZ_take (i := 10) (v := .int .i64 (sp - sm - rn)) rfl (by kernel_rfl) (by kernel_rfl) (by kernel_rfl) (by kernel_rfl) (fun _ _ _ h => h) (Or.inl ⟨by rfl, fun w hSw => by subst hSw; go_simp⟩) hH ?_
            try simp only [Act.put, List.setIfInBounds_toArray, List.set_cons_zero, List.set_cons_succ, List.getElem_toArray, List.getElem_cons_succ, List.getElem_cons_zero]
            refine wpAnyZ_take (i := 11) (v := .pointer (some ⟨rb, 0, none⟩)) rfl (by kernel_rfl) (by kernel_rfl) (by kernel_rfl) (by kernel_rfl) (fun _ _ _ h => h) (Or.inl ⟨by rfl, fun w hSw => by subst hSw; go_simp⟩) hH ?_
            try simp only [Act.put, List.setIfInBounds_toArray, List.set_cons_zero, List.set_cons_succ, List.getElem_toArray, List.getElem_cons_succ, List.getElem_cons_zero]
            refine wpAnyZ_take (i := 12) (v := .pointer (some ⟨rb, 0, none⟩)) rfl (by kernel_rfl) (by kernel_rfl) (by kernel_rfl) (by kernel_rfl) (fun _ _ _ h => h) (Or.inl ⟨by rfl, fun w hSw => by subst hSw; go_simp⟩) hH ?_
            try simp only [Act.put, List.setIfInBounds_toArray, List.set_cons_zero, List.set_cons_succ, List.getElem_toArray, List.getElem_cons_succ, List.getElem_cons_zero]
            refine wpAnyZ_take (i := 13) (v := .pointer (some ⟨rb, 1, none⟩)) rfl (by kernel_rfl) (by kernel_rfl) (by kernel_rfl) (by kernel_rfl) (fun _ _ _ h => h) (Or.inl ⟨by rfl, fun w hSw => by subst hSw; go_simp⟩) hH ?_
            try simp only [Act.put, List.setIfInBounds_toArray, List.set_cons_zero, List.set_cons_succ, List.getElem_toArray, List.getElem_cons_succ, List.getElem_cons_zero]
            refine wpAnyZ_ready (rs := [14]) (by kernel_rfl) (by simp) ?_
            refine AllReadyZ.cons rfl (fun K hK => ?_) AllReadyZ.nil
            go_simp
            refine hK.out _ _ (Or.inl rfl) (fun _ => ?_)
            clear hK K
            try simp only [Act.put, List.setIfInBounds_toArray, List.set_cons_zero, List.set_cons_succ, List.getElem_toArray, List.getElem_cons_succ, List.getElem_cons_zero]
            refine wpAnyZ_done (by kernel_rfl) ?_ _
            clear hH z1 zf zq hws
            have HE1 : Hid (SdS w rb day (sp - sm - rn) (ex + le) (.slice la L.length lc) tv (.slice va M.length vc) M (WD.setCell ⟨rb, 1, none⟩ (.int .i64 (sp - sm - rn)))) := HD.out.set1 _
            clear HD
            generalize WD.setCell ⟨rb, 1, none⟩ (.int .i64 (sp - sm - rn)) = W5 at *
            have y0 := HE1.out.run.cells.1
            have y1 := (HKw.out W5 HE1.out.fr).2
            by_cases hc : day ≤ ru
            · rw [if_pos hc] at HLn
              have HL : Hid (lostL day K (k + 1) = le) := HLn
              clear HLn
              go_wp2_with fail
              go_quiet (fail)
              go_wp2
              refine ⟨⟨k + 1, by omega, by go_num, ?_⟩, by simp [intOf]; omega⟩
              rw [HL.out, HSn.out, ← Int.sub_sub]; exact HE1.out.later (below_drewN (Below.refl _ _) _)
            · rw [if_neg hc] at HLn
              have HL : Hid (lostL day K (k + 1) = le + rn) := HLn
              clear HLn
              have hc' : ru < day := by omega
              go_wp2_with fail
              go_quiet (fail)
              have HE2 : Hid (SdS w rb day (sp - sm - rn) (ex + le) (.slice la L.length lc) tv (.slice va M.length vc) M (W5.drewN nq)) := HE1.out.later (below_drewN (Below.refl _ _) _)
              clear y0 y1 HE1
              generalize W5.drewN nq = W6 at *
              have hwp : IntKind.i64.wrap (ex + le + rn) = ex + le + rn := wrap_id _ (by omega) (by omega)
              have HD2 : Hid (SdS w rb day (sp - sm - rn) (ex + le) (.slice la L.length lc) tv (.slice va M.length vc) M W6.drew) := HE2.out.later (below_drew _)
              go_wp2_with fail
              generalize hWD : W6.drew = WD2 at *
              have z2 := HD2.out.run.cells.2.2.1
              have zf := HD2.out.run.free 2
              have zq := (HKw.out WD2 HD2.out.fr).1
              refine wp_region_z (S := fun W => W = WD2) 14 (by kernel_rfl) hWD (fun hH => ?_)
              rw [hWD] at hH ⊢
              clear hWD HE2
              refine wpAnyZ_take (i := 0) (v := .pointer (some ⟨rb, 0, none⟩)) rfl (by kernel_rfl) (by kernel_rfl) (by kernel_rfl) (by kernel_rfl) (fun _ _ _ h => h) (Or.inl ⟨by rfl, fun w hSw => by subst hSw; go_simp⟩) hH ?_
              refine wpAnyZ_take (i := 1) (v := .pointer (some ⟨rb, 0, none⟩)) rfl (by kernel_rfl) (by kernel_rfl) (by kernel_rfl) (by kernel_rfl) (fun _ _ _ h => h) (Or.inl ⟨by rfl, fun w hSw => by subst hSw; go_simp⟩) hH ?_
              try simp only [Act.put, List.setIfInBounds_toArray, List.set_cons_zero, List.set_cons_succ, List.getElem_toArray, List.getElem_cons_succ, List.getElem_cons_zero]
              refine wpAnyZ_take (i := 2) (v := .pointer (some ⟨rb, 0, none⟩)) rfl (by kernel_rfl) (by kernel_rfl) (by kernel_rfl) (by kernel_rfl) (fun _ _ _ h => h) (Or.inl ⟨by rfl, fun w hSw => by subst hSw; go_simp⟩) hH ?_
              try simp only [Act.put, List.setIfInBounds_toArray, List.set_cons_zero, List.set_cons_succ, List.getElem_toArray, List.getElem_cons_succ, List.getElem_cons_zero]
              refine wpAnyZ_take (i := 3) (v := .pointer (some ⟨rb, 2, none⟩)) rfl (by kernel_rfl) (by kernel_rfl) (by kernel_rfl) (by kernel_rfl) (fun _ _ _ h => h) (Or.inl ⟨by rfl, fun w hSw => by subst hSw; go_simp⟩) hH ?_
              try simp only [Act.put, List.setIfInBounds_toArray, List.set_cons_zero, List.set_cons_succ, List.getElem_toArray, List.getElem_cons_succ, List.getElem_cons_zero]
              refine wpAnyZ_take (i := 4) (v := .int .i64 (ex + le)) rfl (by kernel_rfl) (by kernel_rfl) (by kernel_rfl) (by kernel_rfl) (fun _ _ _ h => h) (Or.inl ⟨by rfl, fun w hSw => by subst hSw; go_simp⟩) hH ?_
              try simp only [Act.put, List.setIfInBounds_toArray, List.set_cons_zero, List.set_cons_succ, List.getElem_toArray, List.getElem_cons_succ, List.getElem_cons_zero]
              refine wpAnyZ_take (i := 5) (v := .slice (some ⟨g, 0, none⟩) K.length kc) rfl (by kernel_rfl) (by kernel_rfl) (by kernel_rfl) (by kernel_rfl) (fun _ _ _ h => h) (Or.inl ⟨by rfl, fun w hSw => by subst hSw; go_simp⟩) hH ?_
              try simp only [Act.put, List.setIfInBounds_toArray, List.set_cons_zero, List.set_cons_succ, List.getElem_toArray, List.getElem_cons_succ, List.getElem_cons_zero]
              refine wpAnyZ_take (i := 6) (v := .int .i64 (k : Int)) rfl (by kernel_rfl) (by kernel_rfl) (by kernel_rfl) (by kernel_rfl) (fun _ _ _ h => h) (Or.inl ⟨by rfl, fun w hSw => by subst hSw; go_simp⟩) hH ?_
              try simp only [Act.put, List.setIfInBounds_toArray, List.set_cons_zero, List.set_cons_succ, List.getElem_toArray, List.getElem_cons_succ, List.getElem_cons_zero]
              refine wpAnyZ_take (i := 7) (v := .pointer (some ⟨g, k * 2, none⟩)) rfl (by kernel_rfl) (by kernel_rfl) (by kernel_rfl) (by kernel_rfl) (fun _ _ _ h => h) (Or.inl ⟨by rfl, fun w hSw => by subst hSw; go_simp⟩) hH ?_
              try simp only [Act.put, List.setIfInBounds_toArray, List.set_cons_zero, List.set_cons_succ, List.getElem_toArray, List.getElem_cons_succ, List.getElem_cons_zero]
              refine wpAnyZ_take (i := 8) (v := .pointer (some ⟨g, k * 2, none⟩)) rfl (by kernel_rfl) (by kernel_rfl) (by kernel_rfl) (by kernel_rfl) (fun _ _ _ h => h) (Or.inl ⟨by rfl, fun w hSw => by subst hSw; go_simp⟩) hH ?_
              try simp only [Act.put, List.setIfInBounds_toArray, List.set_cons_zero, List.set_cons_succ, List.getElem_toArray, List.getElem_cons_succ, List.getElem_cons_zero]
              refine wpAnyZ_take (i := 9) (v := .int .i64 rn) rfl (by kernel_rfl) (by kernel_rfl) (by kernel_rfl) (by kernel_rfl) (fun _ _ _ h => h) (Or.inl ⟨by rfl, fun w hSw => by subst hSw; go_simp⟩) hH ?_
              try simp only [Act.put, List.setIfInBounds_toArray, List.set_cons_zero, List.set_cons_succ, List.getElem_toArray, List.getElem_cons_succ, List.getElem_cons_zero]
              refine wpAnyZ_take (i := 10) (v := .int .i64 (ex + le + rn)) rfl (by kernel_rfl) (by kernel_rfl) (by kernel_rfl) (by kernel_rfl) (fun _ _ _ h => h) (Or.inl ⟨by rfl, fun w hSw => by subst hSw; go_simp⟩) hH ?_
              try simp only [Act.put, List.setIfInBounds_toArray, List.set_cons_zero, List.set_cons_succ, List.getElem_toArray, List.getElem_cons_succ, List.getElem_cons_zero]
              refine wpAnyZ_take (i := 11) (v := .pointer (some ⟨rb, 0, none⟩)) rfl (by kernel_rfl) (by kernel_rfl) (by kernel_rfl) (by kernel_rfl) (fun _ _ _ h => h) (Or.inl ⟨by rfl, fun w hSw => by subst hSw; go_simp⟩) hH ?_
              try simp only [Act.put, List.setIfInBounds_toArray, List.set_cons_zero, List.set_cons_succ, List.getElem_toArray, List.getElem_cons_succ, List.getElem_cons_zero]
              refine wpAnyZ_take (i := 12) (v := .pointer (some ⟨rb, 0, none⟩)) rfl (by kernel_rfl) (by kernel_rfl) (by kernel_rfl) (by kernel_rfl) (fun _ _ _ h => h) (Or.inl ⟨by rfl, fun w hSw => by subst hSw; go_simp⟩) hH ?_
              try simp only [Act.put, List.setIfInBounds_toArray, List.set_cons_zero, List.set_cons_succ, List.getElem_toArray, List.getElem_cons_succ, List.getElem_cons_zero]
              refine wpAnyZ_take (i := 13) (v := .pointer (some ⟨rb, 2, none⟩)) rfl (by kernel_rfl) (by kernel_rfl) (by kernel_rfl) (by kernel_rfl) (fun _ _ _ h => h) (Or.inl ⟨by rfl, fun w hSw => by subst hSw; go_simp⟩) hH ?_
              try simp only [Act.put, List.setIfInBounds_toArray, List.set_cons_zero, List.set_cons_succ, List.getElem_toArray, List.getElem_cons_succ, List.getElem_cons_zero]
              refine wpAnyZ_ready (rs := [14]) (by kernel_rfl) (by simp) ?_
              refine AllReadyZ.cons rfl (fun K hK => ?_) AllReadyZ.nil
              go_simp
              refine hK.out _ _ (Or.inl rfl) (fun _ => ?_)
              clear hK K
              try simp only [Act.put, List.setIfInBounds_toArray, List.set_cons_zero, List.set_cons_succ, List.getElem_toArray, List.getElem_cons_succ, List.getElem_cons_zero]
              refine wpAnyZ_done (by kernel_rfl) ?_ _
              clear hH z2 zf zq hwp
              have HE3 : Hid (SdS w rb day (sp - sm - rn) (ex + le + rn) (.slice la L.length lc) tv (.slice va M.length vc) M (WD2.setCell ⟨rb, 2, none⟩ (.int .i64 (ex + le + rn)))) := HD2.out.set2 _
              clear HD2
              go_wp2
              refine ⟨⟨k + 1, by omega, by go_num, ?_⟩, by simp [intOf]; omega⟩
              rw [HL.out, HSn.out, ← Int.sub_sub, ← Int.add_assoc]; exact HE3.out
          · obtain rfl : k = K.length := by omega
            have hse : lostL day K K.length = sumP K - sumP (keptL day K) := by unfold lostL; rw [List.take_length]
            rw [hse, List.take_length] at HS
            have HEn := HE _ _ HS.out.set3
            have y3 := HS.out.run.cells.2.2.2.1
            have yf := HS.out.run.free 3
            clear hse HS HE
            go_wp2
            exact HEn
end Go.Proofs.Ytodncihjenlnjaa

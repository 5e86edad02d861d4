/-
  The contract of the specification's DocsOf: three drawn right lists.
-/
import Derived.Test.YtfiajiodehhmhaaTyB
import Derived.Deep.AppendLies
namespace Go.Proofs.Ytfiajiodehhmhaa
open Go.ChangeShapes Go.WideShapes Go.ChangeAt Go.RowKit Go.Deep
set_option linter.unusedVariables false

theorem dcInfY : (Try.prog.info? 80).map (fun i => (i.zero, i.size, i.bytes)) = some (some (.agg #[.string ⟨#[]⟩, .int .i64 0, .int .i64 0]), 3, 32) := by kernel_rfl
theorem slInfY : (Try.prog.info? 31).map (fun i => (i.zero, i.size, i.bytes)) = some (some (.slice none 0 0), 1, 24) := by kernel_rfl
/-- What DocsOf answers. -/
def PostY (w : World) (e : Ending) (w' : World) : Prop := ∃ (g1 c1 g2 c2 g3 c3 : Nat) (r1 r2 r3 : List RDc), e = .returned (.tuple #[.slice (some ⟨g1, 0, none⟩) r1.length c1, .slice (some ⟨g2, 0, none⟩) r2.length c2, .slice (some ⟨g3, 0, none⟩) r3.length c3]) ∧ (LiI 4 r1 ∧ LiI 4 r2 ∧ LiI 4 r3) ∧ (DcsAt w' g1 0 r1 ∧ g1 < w'.heap.size) ∧ (DcsAt w' g2 0 r2 ∧ g2 < w'.heap.size) ∧ (DcsAt w' g3 0 r3 ∧ g3 < w'.heap.size) ∧ Below w.heap.size w w'
set_option maxHeartbeats 8000000 in
set_option maxRecDepth 4000 in
theorem docsOf_any (a : Option Addr) (len cap : Nat) (zs : List Int) (w : World) (hr : RowB w.heap.size w a len zs) :
    Calls Try.prog 14 #[.slice a len cap] w (PostY w) := by
  have HR : Hid (RowB w.heap.size w a len zs) := hr
  have hsrc := source_any a len cap w hr.1
  clear hr
  obtain ⟨b, hbe⟩ : ∃ b, b = w.heap.size := ⟨_, rfl⟩
  have HBe : Hid (b = w.heap.size) := hbe
  rw [← hbe] at HR hsrc
  clear hbe
  have HNx : Hid (∀ (at' sd : Int) (W : World), at' ≤ 1000 → Src W b a len cap at' sd → Below b w W → Calls Try.prog 45 #[.pointer (some ⟨b, 0, none⟩), .int .i64 3] W fun e w' => ∃ x at2 s' : Int, e = .returned (.int .i64 x) ∧ Drawn x 3 ∧ at' ≤ at2 ∧ at2 ≤ at' + 3 ∧ Src w' b a len cap at2 s' ∧ Below b W w' ∧ Apt b W w') := fun at' sd W ha hS hB => next_anyA b b a len cap zs 3 at' sd W (Nat.le_refl _) hS (HR.out.below hB) (by omega) (by omega)
  have HCh : Hid (∀ (at' sd : Int) (W : World), at' ≤ 1000 → Src W b a len cap at' sd → Below b w W → Calls Try.prog 44 #[.pointer (some ⟨b, 0, none⟩), .int .i64 4] W fun e w' => ∃ (x : Bool) (at2 s' : Int), e = .returned (.bool x) ∧ at' ≤ at2 ∧ at2 ≤ at' + 3 ∧ Src w' b a len cap at2 s' ∧ Below b W w' ∧ Apt b W w') := fun at' sd W ha hS hB => chance_ty b b a len cap zs 4 at' sd W (Nat.le_refl _) hS (HR.out.below hB) (by omega) (by omega) (by omega)
  obtain ⟨i0, hi0, hzz⟩ := Option.map_eq_some_iff.1 dcInfY
  simp only [Prod.mk.injEq] at hzz
  obtain ⟨hi0', hi1, hi2⟩ := hzz
  obtain ⟨j0, hj0, hyy⟩ := Option.map_eq_some_iff.1 slInfY
  simp only [Prod.mk.injEq] at hyy
  obtain ⟨hj0', hj1, hj2⟩ := hyy
  clear HR
  go_enter Try.func14, Try.ntmps14
  go_wp2_with fail
  (first | go_at_call 36 | skip)
  refine hsrc.mono ?_
  rintro e w1 ⟨s1, rfl, hs1, hb1⟩
  have HL0 : Hid (DoS w b a len cap (.slice (some ⟨w1.heap.size, 0, none⟩) 0 0) [] 0 s1 (w1.alloc (Obj.cells #[] 31))) := DoS.start hs1 hb1
  clear hs1 hb1 hsrc
  go_wp2_with fail
  go_loopw [6, 7, 8, 9, 10] (fun v c _ _ _ wr => ∃ (Ls : List (Nat × Nat × List RDc)) (g0 c0 : Nat) (at' sd : Int), v = .slice (some ⟨g0, 0, none⟩) Ls.length c0 ∧ c = .int .i64 (Ls.length : Int) ∧ Ls.length ≤ 3 ∧ at' ≤ 36 * (Ls.length : Int) ∧ DoS w b a len cap (.slice (some ⟨g0, 0, none⟩) Ls.length c0) Ls at' sd wr) (fun _ c _ _ _ _ => 3 - (intOf c).toNat)
  case atStart => exact ⟨[], w1.heap.size, 0, 0, s1, rfl, rfl, by simp, by simp, HL0.out⟩
  case round =>
    clear HL0
    obtain ⟨Ls, g0, c0, at', sd, rfl, rfl, hL3, hat, hD⟩ := hrel
    have HD : Hid (DoS w b a len cap (.slice (some ⟨g0, 0, none⟩) Ls.length c0) Ls at' sd wr) := hD
    clear hD
    by_cases hc : Ls.length < 3
    · have hc' : (Ls.length : Int) < 3 := by omega
      have HS0 : Hid (DcS w wr b a len cap (wr.heap.size + 1) (.slice (some ⟨wr.heap.size, 0, none⟩) 0 0) [] at' sd ((wr.alloc (Obj.cells #[] 80)).alloc (Obj.cells #[.string ⟨#[109, 105, 108, 107]⟩, .string ⟨#[98, 114, 111, 116]⟩, .string ⟨#[107, 195, 164, 115, 101]⟩, .string ⟨#[120]⟩] 9))) := DcS.start HD.out.src HD.out.low
      go_wp2_with fail
      obtain ⟨V, rfl⟩ : ∃ V, V = wr := ⟨_, rfl⟩
      obtain ⟨nb, hnb⟩ : ∃ nb, nb = V.heap.size + 1 := ⟨_, rfl⟩
      rw [← hnb]
      rw [← hnb] at HS0
      clear hnb
      go_loopw [8, 10] (fun v c wr => ∃ (i : Nat) (rs : List RDc) (g cp : Nat) (at2 sd2 : Int), i ≤ 4 ∧ c = .int .i64 (i : Int) ∧ v = .slice (some ⟨g, 0, none⟩) rs.length cp ∧ at2 ≤ 36 * (Ls.length : Int) + 9 * (i : Int) ∧ LiI i rs ∧ DcS w V b a len cap nb (.slice (some ⟨g, 0, none⟩) rs.length cp) rs at2 sd2 wr) (fun _ c _ => 4 - (intOf c).toNat)
      case atStart => exact ⟨0, [], V.heap.size, 0, at', sd, by omega, rfl, rfl, by omega, ⟨by simp, by simp, by simp, by simp⟩, HS0.out⟩
      case round =>
        clear HS0
        obtain ⟨i, rs, g, cp, at2, sd2, hi4, rfl, rfl, hat2, hli, hS⟩ := hrel
        have HLi : Hid (LiI i rs) := hli
        have HS : Hid (DcS w V b a len cap nb (.slice (some ⟨g, 0, none⟩) rs.length cp) rs at2 sd2 wr) := hS
        have hrl : rs.length ≤ i := hli.len
        clear hli hS
        by_cases hi : i < 4
        · have hi' : (i : Int) < 4 := by omega
          have hwi : IntKind.i64.wrap ((i : Int) + 1) = (i : Int) + 1 := wrap_id _ (by omega) (by omega)
          go_wp2_with fail
          (first | go_at_call 44 | skip)
          refine (HCh.out at2 sd2 wr (by omega) HS.out.src HS.out.low).mono ?_
          rintro e w3 ⟨x, at3, s3, rfl, q3, q4, hs3, hb3, ha3⟩
          have HS3 : Hid (DcS w V b a len cap nb (.slice (some ⟨g, 0, none⟩) rs.length cp) rs at3 s3 w3) := HS.out.draw ha3 hb3 hs3
          clear hs3 hb3 ha3 HS
          cases x
          · go_upto_region 12 with fail
            have HNm : Hid (∀ W : World, W.heap[nb]? = w3.heap[nb]? → W.cell? ⟨nb, i, none⟩ = some (.string (nm4.getD i ByteArray.empty))) := fun W hW => (World.cell?_of_block (a := ⟨nb, i, none⟩) hW).trans (HS3.out.nm hi)
            have HNe : Hid (nb ≠ b) := by have := HS3.out.bV; have := HS3.out.nbV; show nb ≠ b; omega
            have HNl : Hid (nb < w3.heap.size) := blkLt HS3.out.nms
            have HAdd : Hid (∀ un am : Int, (10 ≤ un ∧ un ≤ 12) → (1000 ≤ am ∧ am ≤ 1200) → LiI (i + 1) (rs ++ [⟨nm4.getD i ByteArray.empty, un, am⟩])) := fun un am h1 h2 => HLi.out.add hi h1 h2
            generalize nm4.getD i ByteArray.empty = t at *
            refine wp_region_held_drew (S := fun W' => W'.heap[nb]? = w3.heap[nb]?) (by kernel_rfl) ((below_drew w3).block nb HNl.out) (fun hH => ?_)
            refine wpAnyH_take (i := 0) (v := .slice (some ⟨g, 0, none⟩) rs.length cp) rfl (by kernel_rfl) (by kernel_rfl) (by kernel_rfl) (fun _ _ _ h => h) (Or.inl ⟨by rfl, fun w hSw => by clear hSw; go_simp⟩) hH ?_
            refine wpAnyH_take (i := 1) (v := .slice (some ⟨nb, 0, none⟩) 4 4) rfl (by kernel_rfl) (by kernel_rfl) (by kernel_rfl) (fun _ _ _ h => h) (Or.inl ⟨by rfl, fun w hSw => by clear hSw; go_simp⟩) hH ?_
            try simp only [Act.put, List.setIfInBounds_toArray, List.set_cons_zero, List.set_cons_succ, List.getElem_toArray, List.getElem_cons_succ, List.getElem_cons_zero]
            refine wpAnyH_take (i := 2) (v := .int .i64 (i : Int)) rfl (by kernel_rfl) (by kernel_rfl) (by kernel_rfl) (fun _ _ _ h => h) (Or.inl ⟨by rfl, fun w hSw => by clear hSw; go_simp⟩) hH ?_
            try simp only [Act.put, List.setIfInBounds_toArray, List.set_cons_zero, List.set_cons_succ, List.getElem_toArray, List.getElem_cons_succ, List.getElem_cons_zero]
            refine wpAnyH_take (i := 3) (v := .pointer (some ⟨nb, i, none⟩)) rfl (by kernel_rfl) (by kernel_rfl) (by kernel_rfl) (fun _ _ _ h => h) (Or.inl ⟨by rfl, fun w hSw => by clear hSw; go_simp⟩) hH ?_
            try simp only [Act.put, List.setIfInBounds_toArray, List.set_cons_zero, List.set_cons_succ, List.getElem_toArray, List.getElem_cons_succ, List.getElem_cons_zero]
            refine wpAnyH_take (i := 4) (v := .string t) rfl (by kernel_rfl) (by kernel_rfl) (by kernel_rfl) (fun _ _ _ h => h) (Or.inl ⟨by rfl, fun w hSw => by have f0 := HNm.out w hSw; clear hSw; go_simp⟩) hH ?_
            try simp only [Act.put, List.setIfInBounds_toArray, List.set_cons_zero, List.set_cons_succ, List.getElem_toArray, List.getElem_cons_succ, List.getElem_cons_zero]
            refine wpAnyH_take (i := 5) (v := .pointer (some ⟨b, 0, none⟩)) rfl (by kernel_rfl) (by kernel_rfl) (by kernel_rfl) (fun _ _ _ h => h) (Or.inl ⟨by rfl, fun w hSw => by clear hSw; go_simp⟩) hH ?_
            try simp only [Act.put, List.setIfInBounds_toArray, List.set_cons_zero, List.set_cons_succ, List.getElem_toArray, List.getElem_cons_succ, List.getElem_cons_zero]
            refine wpAnyH_take (i := 8) (v := .pointer (some ⟨b, 0, none⟩)) rfl (by kernel_rfl) (by kernel_rfl) (by kernel_rfl) (fun _ _ _ h => h) (Or.inl ⟨by rfl, fun w hSw => by clear hSw; go_simp⟩) hH ?_
            try simp only [Act.put, List.setIfInBounds_toArray, List.set_cons_zero, List.set_cons_succ, List.getElem_toArray, List.getElem_cons_succ, List.getElem_cons_zero]
            have HSd : Hid (DcS w V b a len cap nb (.slice (some ⟨g, 0, none⟩) rs.length cp) rs at3 s3 w3.drew) := HS3.out.later (below_drew _)
            refine wpAnyH_ready (rs := [6]) (by kernel_rfl) (by simp) ?_
            refine AllReadyH.cons rfl (fun K hK => ?_) AllReadyH.nil
            go_simp
            go_at_call 45
            refine (HNx.out at3 s3 _ (by omega) HSd.out.src HSd.out.low).mono ?_
            rintro e w5 ⟨p, at5, s5, rfl, hp, q5, q6, hs5, hb5, ha5⟩
            have HS5 : Hid (DcS w V b a len cap nb (.slice (some ⟨g, 0, none⟩) rs.length cp) rs at5 s5 w5) := HSd.out.draw ha5 hb5 hs5
            have hn5 : w5.heap[nb]? = w3.heap[nb]? := HS5.out.nms.trans HS3.out.nms.symm
            have hp2 : 0 ≤ p ∧ p < 3 := by obtain ⟨u1, u2⟩ := hp; omega
            have hw5 : IntKind.i64.wrap (10 + p) = 10 + p := wrap_id _ (by omega) (by omega)
            clear hs5 hb5 ha5 HSd hp
            refine hK.out _ _ hn5 (fun _ => ?_)
            clear hK K
            try simp only [Act.put, List.setIfInBounds_toArray, List.set_cons_zero, List.set_cons_succ, List.getElem_toArray, List.getElem_cons_succ, List.getElem_cons_zero]
            refine wpAnyH_take (i := 7) (v := .int .i64 (10 + p)) rfl (by kernel_rfl) (by kernel_rfl) (by kernel_rfl) (fun _ _ _ h => h) (Or.inl ⟨by rfl, fun w hSw => by clear hSw; go_simp⟩) hn5 ?_
            try simp only [Act.put, List.setIfInBounds_toArray, List.set_cons_zero, List.set_cons_succ, List.getElem_toArray, List.getElem_cons_succ, List.getElem_cons_zero]
            refine wpAnyH_ready (rs := [9]) (by kernel_rfl) (by simp) ?_
            refine AllReadyH.cons rfl (fun K hK => ?_) AllReadyH.nil
            go_simp
            go_at_call 45
            refine (HNx.out at5 s5 w5 (by omega) HS5.out.src HS5.out.low).mono ?_
            rintro e w6 ⟨q, at6, s6, rfl, hq, q7, q8, hs6, hb6, ha6⟩
            have HS6 : Hid (DcS w V b a len cap nb (.slice (some ⟨g, 0, none⟩) rs.length cp) rs at6 s6 w6) := HS5.out.draw ha6 hb6 hs6
            have hn6 : w6.heap[nb]? = w3.heap[nb]? := HS6.out.nms.trans HS3.out.nms.symm
            have hq2 : 0 ≤ q ∧ q < 3 := by obtain ⟨u1, u2⟩ := hq; omega
            have hw6 : IntKind.i64.wrap (100 * q) = 100 * q := wrap_id _ (by omega) (by omega)
            have hw7 : IntKind.i64.wrap (1000 + 100 * q) = 1000 + 100 * q := wrap_id _ (by omega) (by omega)
            clear hs6 hb6 ha6 hq HS5
            refine hK.out _ _ hn6 (fun _ => ?_)
            clear hK K
            try simp only [Act.put, List.setIfInBounds_toArray, List.set_cons_zero, List.set_cons_succ, List.getElem_toArray, List.getElem_cons_succ, List.getElem_cons_zero]
            refine wpAnyH_take (i := 10) (v := .int .i64 (100 * q)) rfl (by kernel_rfl) (by kernel_rfl) (by kernel_rfl) (fun _ _ _ h => h) (Or.inl ⟨by rfl, fun w hSw => by clear hSw; go_simp⟩) hn6 ?_
            try simp only [Act.put, List.setIfInBounds_toArray, List.set_cons_zero, List.set_cons_succ, List.getElem_toArray, List.getElem_cons_succ, List.getElem_cons_zero]
            refine wpAnyH_take (i := 11) (v := .int .i64 (1000 + 100 * q)) rfl (by kernel_rfl) (by kernel_rfl) (by kernel_rfl) (fun _ _ _ h => h) (Or.inl ⟨by rfl, fun w hSw => by clear hSw; go_simp⟩) hn6 ?_
            try simp only [Act.put, List.setIfInBounds_toArray, List.set_cons_zero, List.set_cons_succ, List.getElem_toArray, List.getElem_cons_succ, List.getElem_cons_zero]
            refine wpAnyH_take (i := 12) (v := .agg #[.string t, .int .i64 (10 + p), .int .i64 (1000 + 100 * q)]) rfl (by kernel_rfl) (by kernel_rfl) (by kernel_rfl) (fun _ _ _ h => h) (Or.inl ⟨by rfl, fun w hSw => by clear hSw; go_simp⟩) hn6 ?_
            try simp only [Act.put, List.setIfInBounds_toArray, List.set_cons_zero, List.set_cons_succ, List.getElem_toArray, List.getElem_cons_succ, List.getElem_cons_zero]
            refine wpAnyH_ready (rs := [13]) (by kernel_rfl) (by simp) ?_
            refine AllReadyH.cons rfl (fun K hK => ?_) AllReadyH.nil
            go_simp
            have hb7 : Below w6.heap.size w6 (w6.alloc (Obj.cells #[.string t, .int .i64 (10 + p), .int .i64 (1000 + 100 * q)] 80)) := below_alloc _ _
            have hn7 : (w6.alloc (Obj.cells #[.string t, .int .i64 (10 + p), .int .i64 (1000 + 100 * q)] 80)).heap[w6.heap.size]? = some (.cells #[.string t, .int .i64 (10 + p), .int .i64 (1000 + 100 * q)] 80 (0, 0)) := heapNew _ _
            have hN7 : (w6.alloc (Obj.cells #[.string t, .int .i64 (10 + p), .int .i64 (1000 + 100 * q)] 80)).heap[nb]? = w3.heap[nb]? := (hb7.block nb (blkLt HS6.out.nms)).trans hn6
            refine hK.out _ _ hN7 (fun _ => ?_)
            clear hK K
            try simp only [Act.put, List.setIfInBounds_toArray, List.set_cons_zero, List.set_cons_succ, List.getElem_toArray, List.getElem_cons_succ, List.getElem_cons_zero]
            generalize w6.alloc (Obj.cells #[.string t, .int .i64 (10 + p), .int .i64 (1000 + 100 * q)] 80) = W7 at *
            have HS7 : Hid (DcS w V b a len cap nb (.slice (some ⟨g, 0, none⟩) rs.length cp) rs at6 s6 W7) := HS6.out.later hb7
            refine wpAnyH_ready (rs := [14]) (by kernel_rfl) (by simp) ?_
            refine AllReadyH.cons rfl (fun K hK => ?_) AllReadyH.nil
            refine step_append_lies _ rfl (.tmp 27) (.tmp 40) 31 rfl V.heap.size 80 i0 (.agg #[.string ⟨#[]⟩, .int .i64 0, .int .i64 0]) 3 32 Try.underlying31 hi0 hi0' hi1 hi2 rfl (by decide) (.slice (some ⟨g, 0, none⟩) rs.length cp) _ _ (by simp [Act.eval]) HS7.out.row ⟨w6.heap.size, 0, none⟩ 1 1 [.string t, .int .i64 (10 + p), .int .i64 (1000 + 100 * q)] (by simp [Act.eval]) rfl (World.news_of_block hn7) (by simp [Value.oneCell']) (by omega) (by unfold maxLen; omega) (by omega) HS7.out.size _ rfl (fun g1 cp1 w8 hown hgrow hat hglt => ?_)
            have HS8 : Hid (DcS w V b a len cap nb (.slice (some ⟨g1, 0, none⟩) (rs.length + 1) cp1) (rs ++ [⟨t, 10 + p, 1000 + 100 * q⟩]) at6 s6 w8) := HS7.out.push (r := ⟨t, 10 + p, 1000 + 100 * q⟩) hown hgrow
            have hN8 : w8.heap[nb]? = w3.heap[nb]? := HS8.out.nms.trans HS3.out.nms.symm
            have HL8 : Hid (LiI (i + 1) (rs ++ [⟨t, 10 + p, 1000 + 100 * q⟩])) := HAdd.out _ _ (by omega) (by omega)
            have HLen : Hid ((rs ++ [(⟨t, 10 + p, 1000 + 100 * q⟩ : RDc)]).length = rs.length + 1) := by show _ = _; simp
            clear hown hgrow hat hglt hn7 hb7 hN7 HS7 HS6 HS3
            refine hK.out _ _ hN8 (fun _ => ?_)
            clear hK K
            try simp only [Act.put, List.setIfInBounds_toArray, List.set_cons_zero, List.set_cons_succ, List.getElem_toArray, List.getElem_cons_succ, List.getElem_cons_zero]
            refine wpAnyH_take (i := 15) (v := .slice (some ⟨g1, 0, none⟩) (rs.length + 1) cp1) rfl (by kernel_rfl) (by kernel_rfl) (by kernel_rfl) (fun _ _ _ h => h) (Or.inl ⟨by rfl, fun w hSw => by clear hSw; go_simp⟩) hN8 ?_
            try simp only [Act.put, List.setIfInBounds_toArray, List.set_cons_zero, List.set_cons_succ, List.getElem_toArray, List.getElem_cons_succ, List.getElem_cons_zero]
            refine wpAnyH_done (by kernel_rfl) ?_ _
            clear hH hn5 hn6 hN8 HNm HAdd
            go_wp2
            go_roundw
            case rel => exact ⟨i + 1, rs ++ [⟨t, 10 + p, 1000 + 100 * q⟩], g1, cp1, at6, s6, by omega, by go_num, by rw [HLen.out], by omega, HL8.out, by rw [HLen.out]; exact HS8.out⟩
            case measure => simp [intOf]; omega
          · have HL8 : Hid (LiI (i + 1) rs) := HLi.out.skip
            go_wp2
            go_roundw
            case rel => exact ⟨i + 1, rs, g, cp, at3, s3, by omega, by go_num, rfl, by omega, HL8.out, HS3.out⟩
            case measure => simp [intOf]; omega
        · have hi9 : ¬ (i : Int) < 4 := by omega
          have HL4 : Hid (LiI 4 rs) := by have := HLi.out; rwa [show i = 4 by omega] at this
          have hwk : IntKind.i64.wrap ((Ls.length : Int) + 1) = (Ls.length : Int) + 1 := wrap_id _ (by omega) (by omega)
          have HD2 : Hid (DoS w b a len cap (.slice (some ⟨g0, 0, none⟩) Ls.length c0) Ls at2 sd2 wr) := HD.out.after HS.out
          have HRw : Hid (wr.ownsRow (b + 1) 80 3 (.slice (some ⟨g, 0, none⟩) rs.length cp) rs.length (dcC rs)) := row_base HS.out.row HS.out.bV
          have HBw : Hid (b + 1 ≤ wr.heap.size) := Nat.le_trans HS.out.bV HS.out.size
          clear HLi HS HD
          have HD3 : Hid (DoS w b a len cap (.slice (some ⟨g0, 0, none⟩) Ls.length c0) Ls at2 sd2 (wr.alloc (Obj.cells #[.slice (some ⟨g, 0, none⟩) rs.length cp] 31))) := HD2.out.laterY (below_alloc _ _)
          have HRw3 : Hid ((wr.alloc (Obj.cells #[.slice (some ⟨g, 0, none⟩) rs.length cp] 31)).ownsRow (b + 1) 80 3 (.slice (some ⟨g, 0, none⟩) rs.length cp) rs.length (dcC rs)) := HRw.out.alloc _
          have HNw : Hid (∀ j u, [Value.slice (some ⟨g, 0, none⟩) rs.length cp][j]? = some u → (wr.alloc (Obj.cells #[.slice (some ⟨g, 0, none⟩) rs.length cp] 31)).cell? ((⟨wr.heap.size, 0, none⟩ : Addr).add j) = some u) := World.news_of_block (heapNew wr (Obj.cells #[.slice (some ⟨g, 0, none⟩) rs.length cp] 31))
          have HLen : Hid ((Ls ++ [(g, cp, rs)]).length = Ls.length + 1) := by show _ = _; simp
          clear HD2 HRw
          go_wp2_with (at_builtin; refine wpList_append_lies _ rfl _ _ 76 rfl (b + 1) 31 j0 (.slice none 0 0) 1 24 Try.underlying76 hj0 hj0' hj1 hj2 rfl (by decide) _ _ _ rfl HD3.out.row ⟨wr.heap.size, 0, none⟩ 1 1 [.slice (some ⟨g, 0, none⟩) rs.length cp] rfl rfl HNw.out (by simp [Value.oneCell']) (by omega) (by unfold maxLen; omega) (by omega) (by simp; have := HBw.out; omega) _ rfl ?_; intro g1 cp1 w7 hown1 hgrow1 hat1 hglt1; have HD8 : Hid (DoS w b a len cap (.slice (some ⟨g1, 0, none⟩) (Ls.length + 1) cp1) (Ls ++ [(g, cp, rs)]) at2 sd2 w7) := HD3.out.push HRw3.out HL4.out hown1 hgrow1; clear hown1 hgrow1 hat1)
          go_roundw
          case rel => exact ⟨Ls ++ [(g, cp, rs)], g1, cp1, at2, sd2, by rw [HLen.out], by rw [HLen.out]; go_num, by rw [HLen.out]; omega, by rw [HLen.out]; omega, by rw [HLen.out]; exact HD8.out⟩
          case measure => simp [intOf]; omega
    · have hc' : ¬ (Ls.length : Int) < 3 := by omega
      obtain ⟨e1, e2, e3, hLs⟩ : ∃ e1 e2 e3, Ls = [e1, e2, e3] := by
        match Ls, hL3, hc with
        | [x, y, z], _, _ => exact ⟨x, y, z, rfl⟩
        | [], _, h => simp at h
        | [x], _, h => simp at h
        | [x, y], _, h => simp at h
        | x :: y :: z :: u :: r, h, _ => simp at h
      subst hLs
      obtain ⟨g1, c1, r1⟩ := e1
      obtain ⟨g2, c2, r2⟩ := e2
      obtain ⟨g3, c3, r3⟩ := e3
      have HFin : Hid ((LiI 4 r1 ∧ LiI 4 r2 ∧ LiI 4 r3) ∧ (DcsAt wr g1 0 r1 ∧ g1 < wr.heap.size) ∧ (DcsAt wr g2 0 r2 ∧ g2 < wr.heap.size) ∧ (DcsAt wr g3 0 r3 ∧ g3 < wr.heap.size) ∧ Below w.heap.size w wr) := by
        have k1 := HD.out.ents (g1, c1, r1) (by simp)
        have k2 := HD.out.ents (g2, c2, r2) (by simp)
        have k3 := HD.out.ents (g3, c3, r3) (by simp)
        exact ⟨⟨HD.out.good (g1, c1, r1) (by simp), HD.out.good (g2, c2, r2) (by simp), HD.out.good (g3, c3, r3) (by simp)⟩, ⟨dcs_of_row k1, (row_lt k1 g1 rfl).2⟩, ⟨dcs_of_row k2, (row_lt k2 g2 rfl).2⟩, ⟨dcs_of_row k3, (row_lt k3 g3 rfl).2⟩, by rw [← HBe.out]; exact HD.out.low⟩
      have HC : Hid (∀ W, Below wr.heap.size wr W → W.cell? ⟨g0, 0, none⟩ = some (.slice (some ⟨g1, 0, none⟩) r1.length c1) ∧ W.cell? ⟨g0, 1, none⟩ = some (.slice (some ⟨g2, 0, none⟩) r2.length c2) ∧ W.cell? ⟨g0, 2, none⟩ = some (.slice (some ⟨g3, 0, none⟩) r3.length c3)) := fun W hW => by
        have k := row_of HD.out.row (fun q hq => hW.block q (row_lt HD.out.row q hq).2)
        exact ⟨(k.cellAt 0 (by simp)).trans rfl, (k.cellAt 1 (by simp)).trans rfl, (k.cellAt 2 (by simp)).trans rfl⟩
      clear HD hc hL3 hat
      go_upto_region 14 with fail
      refine wp_region_held_drew (S := fun W' => Below wr.heap.size wr W') (by kernel_rfl) (below_drew _) (fun hH => ?_)
      refine wpAnyH_take (i := 0) (v := .slice (some ⟨g0, 0, none⟩) 3 c0) rfl (by kernel_rfl) (by kernel_rfl) (by kernel_rfl) (fun _ _ _ h => h) (Or.inl ⟨by rfl, fun w hSw => by clear hSw; go_simp⟩) hH ?_
      refine wpAnyH_take (i := 1) (v := .pointer (some ⟨g0, 0, none⟩)) rfl (by kernel_rfl) (by kernel_rfl) (by kernel_rfl) (fun _ _ _ h => h) (Or.inl ⟨by rfl, fun w hSw => by clear hSw; go_simp⟩) hH ?_
      try simp only [Act.put, List.setIfInBounds_toArray, List.set_cons_zero, List.set_cons_succ, List.getElem_toArray, List.getElem_cons_succ, List.getElem_cons_zero]
      refine wpAnyH_take (i := 2) (v := .slice (some ⟨g1, 0, none⟩) r1.length c1) rfl (by kernel_rfl) (by kernel_rfl) (by kernel_rfl) (fun _ _ _ h => h) (Or.inl ⟨by rfl, fun w hSw => by obtain ⟨f0, f1, f2⟩ := HC.out w hSw; clear hSw; go_simp⟩) hH ?_
      try simp only [Act.put, List.setIfInBounds_toArray, List.set_cons_zero, List.set_cons_succ, List.getElem_toArray, List.getElem_cons_succ, List.getElem_cons_zero]
      refine wpAnyH_take (i := 3) (v := .slice (some ⟨g0, 0, none⟩) 3 c0) rfl (by kernel_rfl) (by kernel_rfl) (by kernel_rfl) (fun _ _ _ h => h) (Or.inl ⟨by rfl, fun w hSw => by clear hSw; go_simp⟩) hH ?_
      try simp only [Act.put, List.setIfInBounds_toArray, List.set_cons_zero, List.set_cons_succ, List.getElem_toArray, List.getElem_cons_succ, List.getElem_cons_zero]
      refine wpAnyH_take (i := 4) (v := .pointer (some ⟨g0, 1, none⟩)) rfl (by kernel_rfl) (by kernel_rfl) (by kernel_rfl) (fun _ _ _ h => h) (Or.inl ⟨by rfl, fun w hSw => by clear hSw; go_simp⟩) hH ?_
      try simp only [Act.put, List.setIfInBounds_toArray, List.set_cons_zero, List.set_cons_succ, List.getElem_toArray, List.getElem_cons_succ, List.getElem_cons_zero]
      refine wpAnyH_take (i := 5) (v := .slice (some ⟨g2, 0, none⟩) r2.length c2) rfl (by kernel_rfl) (by kernel_rfl) (by kernel_rfl) (fun _ _ _ h => h) (Or.inl ⟨by rfl, fun w hSw => by obtain ⟨f0, f1, f2⟩ := HC.out w hSw; clear hSw; go_simp⟩) hH ?_
      try simp only [Act.put, List.setIfInBounds_toArray, List.set_cons_zero, List.set_cons_succ, List.getElem_toArray, List.getElem_cons_succ, List.getElem_cons_zero]
      refine wpAnyH_take (i := 6) (v := .slice (some ⟨g0, 0, none⟩) 3 c0) rfl (by kernel_rfl) (by kernel_rfl) (by kernel_rfl) (fun _ _ _ h => h) (Or.inl ⟨by rfl, fun w hSw => by clear hSw; go_simp⟩) hH ?_
      try simp only [Act.put, List.setIfInBounds_toArray, List.set_cons_zero, List.set_cons_succ, List.getElem_toArray, List.getElem_cons_succ, List.getElem_cons_zero]
      refine wpAnyH_take (i := 7) (v := .pointer (some ⟨g0, 2, none⟩)) rfl (by kernel_rfl) (by kernel_rfl) (by kernel_rfl) (fun _ _ _ h => h) (Or.inl ⟨by rfl, fun w hSw => by clear hSw; go_simp⟩) hH ?_
      try simp only [Act.put, List.setIfInBounds_toArray, List.set_cons_zero, List.set_cons_succ, List.getElem_toArray, List.getElem_cons_succ, List.getElem_cons_zero]
      refine wpAnyH_take (i := 8) (v := .slice (some ⟨g3, 0, none⟩) r3.length c3) rfl (by kernel_rfl) (by kernel_rfl) (by kernel_rfl) (fun _ _ _ h => h) (Or.inl ⟨by rfl, fun w hSw => by obtain ⟨f0, f1, f2⟩ := HC.out w hSw; clear hSw; go_simp⟩) hH ?_
      try simp only [Act.put, List.setIfInBounds_toArray, List.set_cons_zero, List.set_cons_succ, List.getElem_toArray, List.getElem_cons_succ, List.getElem_cons_zero]
      refine wpAnyH_take (i := 9) (v := .slice (some ⟨g1, 0, none⟩) r1.length c1) rfl (by kernel_rfl) (by kernel_rfl) (by kernel_rfl) (fun _ _ _ h => h) (Or.inl ⟨by rfl, fun w hSw => by clear hSw; go_simp⟩) hH ?_
      try simp only [Act.put, List.setIfInBounds_toArray, List.set_cons_zero, List.set_cons_succ, List.getElem_toArray, List.getElem_cons_succ, List.getElem_cons_zero]
      refine wpAnyH_take (i := 10) (v := .slice (some ⟨g2, 0, none⟩) r2.length c2) rfl (by kernel_rfl) (by kernel_rfl) (by kernel_rfl) (fun _ _ _ h => h) (Or.inl ⟨by rfl, fun w hSw => by clear hSw; go_simp⟩) hH ?_
      try simp only [Act.put, List.setIfInBounds_toArray, List.set_cons_zero, List.set_cons_succ, List.getElem_toArray, List.getElem_cons_succ, List.getElem_cons_zero]
      refine wpAnyH_take (i := 11) (v := .slice (some ⟨g3, 0, none⟩) r3.length c3) rfl (by kernel_rfl) (by kernel_rfl) (by kernel_rfl) (fun _ _ _ h => h) (Or.inl ⟨by rfl, fun w hSw => by clear hSw; go_simp⟩) hH ?_
      try simp only [Act.put, List.setIfInBounds_toArray, List.set_cons_zero, List.set_cons_succ, List.getElem_toArray, List.getElem_cons_succ, List.getElem_cons_zero]
      refine wpAnyH_done (by kernel_rfl) ?_ _
      clear hH HC
      go_wp2_with fail
      obtain ⟨k1, ⟨k2, k3⟩, ⟨k4, k5⟩, ⟨k6, k7⟩, k8⟩ := HFin.out
      refine bodyPost_ret (v := .tuple #[.slice (some ⟨g1, 0, none⟩) r1.length c1, .slice (some ⟨g2, 0, none⟩) r2.length c2, .slice (some ⟨g3, 0, none⟩) r3.length c3]) (by simp [results, Try.results14, go_sem]) rfl ⟨g1, c1, g2, c2, g3, c3, r1, r2, r3, rfl, k1, ⟨k2.below (below_drew _) k3, k3⟩, ⟨k4.below (below_drew _) k5, k5⟩, ⟨k6.below (below_drew _) k7, k7⟩, k8.drew⟩
end Go.Proofs.Ytfiajiodehhmhaa

/-
  Contract of the specification's Hidden.
-/
import Derived.Test.YthkmgccmeoigpaaRhD
import Derived.Test.YthkmgccmeoigpaaRhE
import Derived.Test.YthkmgccmeoigpaaRuE
namespace Go.Proofs.Ythkmgccmeoigpaa
open Go.ChangeShapes Go.WideShapes Go.ChangeAt Go.RowKit Go.Deep
set_option linter.unusedVariables false

theorem least5 (ts : List RTm) : ∃ y1 y2 y3 y4 y5 : Int, leastV ts = #[.int .i64 y1, .int .i64 y2, .int .i64 y3, .int .i64 y4, .int .i64 y5] := by
  unfold leastV
  split
  · exact ⟨_, _, _, _, _, rfl⟩
  · exact ⟨_, _, _, _, _, rfl⟩
/-- Is rule k hidden by one of the first j? -/
def hidJ (rs : List CCl) (k j : Nat) : Bool := emptyL (rm (rs.getD k zCl).ts) || covAny (aheadL rs j) (rm (rs.getD k zCl).ts)
theorem hidJ_all (rs : List CCl) (k : Nat) : hidJ rs k k = hidB rs k := rfl
theorem hidJ_zero (rs : List CCl) (k : Nat) : hidJ rs k 0 = !canT (rs.getD k zCl).ts := by
  unfold hidJ canT
  rw [show covAny (aheadL rs 0) (rm (rs.getD k zCl).ts) = false from rfl, Bool.or_false, Bool.not_not]
theorem hidJ_next (rs : List CCl) (k j : Nat) (hj : j < rs.length) (h : hidJ rs k j = false) : hidJ rs k (j + 1) = covL (rm (rs.getD j zCl).ts) (rm (rs.getD k zCl).ts) := by
  unfold hidJ at *
  rw [Bool.or_eq_false_iff] at h
  rw [← aheadL_next rs j hj]
  unfold covAny at *
  rw [List.any_append, h.1, h.2]
  simp
theorem hidJ_yes (rs : List CCl) (k j : Nat) (hj : j ≤ k) (h : hidJ rs k j = true) : hidB rs k = true := by
  rw [← hidJ_all]
  unfold hidJ at *
  rw [Bool.or_eq_true] at *
  rcases h with h | h
  · exact .inl h
  · refine .inr ?_
    unfold covAny aheadL at *
    rw [List.any_eq_true] at *
    obtain ⟨L, hL, hc⟩ := h
    obtain ⟨c, hc1, rfl⟩ := List.mem_map.mp hL
    exact ⟨_, List.mem_map.mpr ⟨c, (List.take_subset_take_left rs hj) hc1, rfl⟩, hc⟩
theorem One.startAt {w w1 : World} (h : Below w.heap.size w w1) : One w w.heap.size (.slice (some ⟨w1.heap.size, 0, none⟩) 0 0) [] (w1.alloc (Obj.cells #[] 3)) :=
  ⟨⟨rfl, .inr ⟨w1.heap.size, 0, #[], rfl, h.size, heapNew w1 _, Nat.le_refl _, by unfold maxLen; omega, rfl, rfl⟩⟩, by have := h.size; simp; omega, h.alloc h.size _⟩
set_option maxHeartbeats 16000000 in
set_option maxRecDepth 8000 in
theorem specHidden_any (a : Option Addr) (cap : Nat) (rs : List CCl) (hcap : rs.length ≤ cap) (hl : rs.length ≤ 1048576) (hp : ∀ r ∈ rs, ClOK r) (w : World) (hr : ReadsCl w.heap.size w a rs) :
    Calls Try.prog 12 #[.slice a rs.length cap] w fun e w' => ∃ g cp, e = .returned (.tuple #[.slice g (hidL rs).length cp, .int .i64 (fltC rs)]) ∧ Own2 w.heap.size w' g (hidL rs) ∧ Below w.heap.size w w' := by
  have HR : Hid (ReadsCl w.heap.size w a rs) := hr
  have hC := specClauses_any a cap rs hcap (by omega) hp w hr
  have HOK : Hid (∀ r ∈ rs, r.ts.length ≤ 100000000) := fun r hr => by have := (hp r hr).2; omega
  clear hr hp
  obtain ⟨i0, hi, hzz⟩ := Option.map_eq_some_iff.1 intInfo1
  simp only [Prod.mk.injEq] at hzz
  obtain ⟨hi0, hi1, hi2⟩ := hzz
  rcases fltC_ways rs with ⟨g1, e⟩ | ⟨g1, g2, e⟩ | ⟨g1, g2, e⟩
  · have hL : hidL rs = [] := if_neg (by rw [e]; decide)
    rw [hL, e]
    go_enter Try.func12, Try.ntmps12
    go_wp2
    go_ret2
    exact ⟨_, 0, rfl, .inl rfl, below_alloc _ _⟩
  · have hL : hidL rs = [] := if_neg (by rw [e]; decide)
    rw [hL, e]
    rw [g2] at hC
    go_enter Try.func12, Try.ntmps12
    go_wp2_with (go_at_call 43; refine hC.mono ?_; rintro e w1 ⟨rfl, hb1⟩)
    go_ret2
    exact ⟨_, 0, rfl, .inl rfl, chain hb1 (below_alloc _ _)⟩
  · have hL : hidL rs = hidN rs rs.length := if_pos e
    rw [hL, e]
    rw [g2] at hC
    clear g2
    go_enter Try.func12, Try.ntmps12
    go_wp2_with (go_at_call 43; refine hC.mono ?_; rintro e w1 ⟨rfl, hb1⟩; have HB1 : Hid (Below w.heap.size w w1) := hb1; clear hb1)
    go_loopw [4, 5, 6, 7, 8, 9] (fun ov c _ _ _ _ wr => ∃ k : Nat, k ≤ rs.length ∧ c = .int .i64 (k : Int) ∧ One w w.heap.size ov (hidN rs k) wr) (fun _ c _ _ _ _ _ => rs.length - (intOf c).toNat)
    case atStart => exact ⟨0, Nat.zero_le _, rfl, One.startAt HB1.out⟩
    case round =>
      obtain ⟨k, hk, rfl, hT⟩ := hrel
      obtain ⟨gh, ch, rfl⟩ := row_value hT.1
      have HT : Hid (One w w.heap.size (.slice gh (hidN rs k).length ch) (hidN rs k) wr) := hT
      have HB : Hid (Below w.heap.size w wr) := hT.2.2
      clear hT HB1
      by_cases hlt : k < rs.length
      · have hlt' : (k : Int) < (rs.length : Int) := by omega
        rcases HR.out with h | ⟨b0, o0, ha, hB0, ia⟩
        · rw [h] at hlt; simp at hlt
        subst ha
        have HIa : Hid (∀ W, Below w.heap.size w W → ∀ j, j < rs.length → ∃ h cp, (W.cell? ⟨b0, o0 + j * 4, none⟩ = some (.string (rs.getD j zCl).nm) ∧ W.cell? ⟨b0, o0 + j * 4 + 1, none⟩ = some (.slice h (rs.getD j zCl).ts.length cp) ∧ W.cell? ⟨b0, o0 + j * 4 + 2, none⟩ = some (.int .i64 (rs.getD j zCl).ac) ∧ W.cell? ⟨b0, o0 + j * 4 + 3, none⟩ = some (.int .i64 (rs.getD j zCl).nu)) ∧ ReadsTm W.heap.size W h (rs.getD j zCl).ts) := fun W hW j hj => by
          obtain ⟨h, cp, hc, hcp, hS⟩ := (ia.below hW hB0 (Nat.le_refl _)) j hj
          exact ⟨h, cp, hc, hS.mono hW.size⟩
        clear ia
        obtain ⟨h, cp, ⟨c0, c1, c2, c3⟩, hS⟩ := HIa.out wr HB.out k hlt
        have hLe := least_any h cp _ (getCl HOK.out hlt) wr hS
        obtain ⟨y1, y2, y3, y4, y5, hy⟩ := least5 (rs.getD k zCl).ts
        rw [hy] at hLe
        have HZ : Hid (hidJ rs k 0 = !canT (rs.getD k zCl).ts) := hidJ_zero rs k
        clear hy hS
        generalize canT (rs.getD k zCl).ts = cb at *
        generalize (rs.getD k zCl).ts.length = n at c1 hLe
        go_wp2_with fail
        (first | go_at_call 44 | skip)
        refine hLe.mono ?_
        rintro e w2 ⟨rfl, hb2⟩
        clear hLe c0 c1 c2 c3
        go_wp2
        have HTi : Hid (One w w.heap.size (.slice gh (hidN rs k).length ch) (hidN rs k) (w2.alloc (Obj.cells #[.int .i64 y1, .int .i64 y2, .int .i64 y3, .int .i64 y4, .int .i64 y5] 28))) := HT.out.later (chain hb2 (below_alloc _ _))
        clear hb2 HT HB
        generalize (w2.alloc (Obj.cells #[.int .i64 y1, .int .i64 y2, .int .i64 y3, .int .i64 y4, .int .i64 y5] 28)) = Wi at *
        go_loopw [8, 9] (fun hb c wi => ∃ j : Nat, j ≤ k ∧ c = .int .i64 (j : Int) ∧ hb = .bool (hidJ rs k j) ∧ One w w.heap.size (.slice gh (hidN rs k).length ch) (hidN rs k) wi) (fun _ c _ => k - (intOf c).toNat)
        case atStart => exact ⟨0, Nat.zero_le _, rfl, by rw [HZ.out], HTi.out⟩
        case round =>
          clear HTi HZ
          obtain ⟨j, hj, rfl, rfl, hTj⟩ := hrel
          have HTj : Hid (One w w.heap.size (.slice gh (hidN rs k).length ch) (hidN rs k) wr) := hTj
          have HBj : Hid (Below w.heap.size w wr) := hTj.2.2
          clear hTj
          cases hJ : hidJ rs k j
          · by_cases hjk : j < k
            · have hjk' : (j : Int) < (k : Int) := by omega
              obtain ⟨ha, ca, ⟨a0, a1, a2, a3⟩, ra⟩ := HIa.out wr HBj.out j (by omega)
              obtain ⟨hb, cb', ⟨b0', b1, b2, b3⟩, rb⟩ := HIa.out wr HBj.out k hlt
              have HCv : Hid (∀ W, Below wr.heap.size wr W → Calls Try.prog 45 #[.agg #[.string (rs.getD j zCl).nm, .slice ha (rs.getD j zCl).ts.length ca, .int .i64 (rs.getD j zCl).ac, .int .i64 (rs.getD j zCl).nu], .agg #[.string (rs.getD k zCl).nm, .slice hb (rs.getD k zCl).ts.length cb', .int .i64 (rs.getD k zCl).ac, .int .i64 (rs.getD k zCl).nu]] W fun e w' => e = .returned (.bool (covL (rm (rs.getD j zCl).ts) (rm (rs.getD k zCl).ts))) ∧ Below W.heap.size W w') := fun W hW => covers_any _ _ ha hb ca cb' (getCl HOK.out (by omega)) (getCl HOK.out hlt) W (ra.later hW) (rb.later hW)
              rw [← hidJ_next rs k j (by omega) hJ] at HCv
              clear ra rb hJ
              generalize hnj : hidJ rs k (j + 1) = nj at *
              have HNj : Hid (hidJ rs k (j + 1) = nj) := hnj
              clear hnj
              generalize (rs.getD j zCl).nm = an at *
              generalize (rs.getD j zCl).ts.length = na at *
              generalize (rs.getD j zCl).ac = aa at *
              generalize (rs.getD j zCl).nu = au at *
              generalize (rs.getD k zCl).nm = bn at *
              generalize (rs.getD k zCl).ts.length = nb at *
              generalize (rs.getD k zCl).ac = ba at *
              generalize (rs.getD k zCl).nu = bu at *
              have hjr : (j : Int) < (rs.length : Int) := by omega
              have HSa : Hid (∀ W, Below wr.heap.size wr W → W.cell? ⟨b0, o0 + j * 4, none⟩ = some (.string an) ∧ W.cell? ⟨b0, o0 + j * 4 + 1, none⟩ = some (.slice ha na ca) ∧ W.cell? ⟨b0, o0 + j * 4 + 2, none⟩ = some (.int .i64 aa) ∧ W.cell? ⟨b0, o0 + j * 4 + 3, none⟩ = some (.int .i64 au)) := fun W hW =>
                have hlw : b0 < wr.heap.size := Nat.lt_of_lt_of_le hB0 HBj.out.size
                ⟨(hW.cell (p := ⟨b0, o0 + j * 4, none⟩) hlw).trans a0, (hW.cell (p := ⟨b0, o0 + j * 4 + 1, none⟩) hlw).trans a1, (hW.cell (p := ⟨b0, o0 + j * 4 + 2, none⟩) hlw).trans a2, (hW.cell (p := ⟨b0, o0 + j * 4 + 3, none⟩) hlw).trans a3⟩
              have HSb : Hid (∀ W, Below wr.heap.size wr W → W.cell? ⟨b0, o0 + k * 4, none⟩ = some (.string bn) ∧ W.cell? ⟨b0, o0 + k * 4 + 1, none⟩ = some (.slice hb nb cb') ∧ W.cell? ⟨b0, o0 + k * 4 + 2, none⟩ = some (.int .i64 ba) ∧ W.cell? ⟨b0, o0 + k * 4 + 3, none⟩ = some (.int .i64 bu)) := fun W hW =>
                have hlw : b0 < wr.heap.size := Nat.lt_of_lt_of_le hB0 HBj.out.size
                ⟨(hW.cell (p := ⟨b0, o0 + k * 4, none⟩) hlw).trans b0', (hW.cell (p := ⟨b0, o0 + k * 4 + 1, none⟩) hlw).trans b1, (hW.cell (p := ⟨b0, o0 + k * 4 + 2, none⟩) hlw).trans b2, (hW.cell (p := ⟨b0, o0 + k * 4 + 3, none⟩) hlw).trans b3⟩
              clear a0 a1 a2 a3 b0' b1 b2 b3
              go_wp2_with fail
              refine wp_region_held_drew (S := fun W => Below wr.heap.size wr W) (by kernel_rfl) (below_drew _) (fun hH => ?_)
              refine wpAnyH_take (i := 0) (v := .slice (some ⟨b0, o0, none⟩) rs.length cap) rfl (by kernel_rfl) (by kernel_rfl) (by kernel_rfl) (fun _ _ _ h => h) (Or.inl ⟨by rfl, fun w hSw => by go_simp⟩) hH ?_
              refine wpAnyH_take (i := 1) (v := .int .i64 (j : Int)) rfl (by kernel_rfl) (by kernel_rfl) (by kernel_rfl) (fun _ _ _ h => h) (Or.inl ⟨by rfl, fun w hSw => by go_simp⟩) hH ?_
              try simp only [Act.put, List.setIfInBounds_toArray, List.set_cons_zero, List.set_cons_succ, List.getElem_toArray, List.getElem_cons_succ, List.getElem_cons_zero]
              refine wpAnyH_take (i := 2) (v := .pointer (some ⟨b0, o0 + j * 4, none⟩)) rfl (by kernel_rfl) (by kernel_rfl) (by kernel_rfl) (fun _ _ _ h => h) (Or.inl ⟨by rfl, fun w hSw => by go_simp⟩) hH ?_
              try simp only [Act.put, List.setIfInBounds_toArray, List.set_cons_zero, List.set_cons_succ, List.getElem_toArray, List.getElem_cons_succ, List.getElem_cons_zero]
              refine wpAnyH_take (i := 3) (v := .agg #[.string an, .slice ha na ca, .int .i64 aa, .int .i64 au]) rfl (by kernel_rfl) (by kernel_rfl) (by kernel_rfl) (fun _ _ _ h => h) (Or.inl ⟨by rfl, fun w hSw => by obtain ⟨s0, s1, s2, s3⟩ := HSa.out w hSw; go_simp⟩) hH ?_
              try simp only [Act.put, List.setIfInBounds_toArray, List.set_cons_zero, List.set_cons_succ, List.getElem_toArray, List.getElem_cons_succ, List.getElem_cons_zero]
              refine wpAnyH_take (i := 4) (v := .slice (some ⟨b0, o0, none⟩) rs.length cap) rfl (by kernel_rfl) (by kernel_rfl) (by kernel_rfl) (fun _ _ _ h => h) (Or.inl ⟨by rfl, fun w hSw => by go_simp⟩) hH ?_
              try simp only [Act.put, List.setIfInBounds_toArray, List.set_cons_zero, List.set_cons_succ, List.getElem_toArray, List.getElem_cons_succ, List.getElem_cons_zero]
              refine wpAnyH_take (i := 5) (v := .int .i64 (k : Int)) rfl (by kernel_rfl) (by kernel_rfl) (by kernel_rfl) (fun _ _ _ h => h) (Or.inl ⟨by rfl, fun w hSw => by go_simp⟩) hH ?_
              try simp only [Act.put, List.setIfInBounds_toArray, List.set_cons_zero, List.set_cons_succ, List.getElem_toArray, List.getElem_cons_succ, List.getElem_cons_zero]
              refine wpAnyH_take (i := 6) (v := .pointer (some ⟨b0, o0 + k * 4, none⟩)) rfl (by kernel_rfl) (by kernel_rfl) (by kernel_rfl) (fun _ _ _ h => h) (Or.inl ⟨by rfl, fun w hSw => by go_simp⟩) hH ?_
              try simp only [Act.put, List.setIfInBounds_toArray, List.set_cons_zero, List.set_cons_succ, List.getElem_toArray, List.getElem_cons_succ, List.getElem_cons_zero]
              refine wpAnyH_take (i := 7) (v := .agg #[.string bn, .slice hb nb cb', .int .i64 ba, .int .i64 bu]) rfl (by kernel_rfl) (by kernel_rfl) (by kernel_rfl) (fun _ _ _ h => h) (Or.inl ⟨by rfl, fun w hSw => by obtain ⟨s0, s1, s2, s3⟩ := HSb.out w hSw; go_simp⟩) hH ?_
              try simp only [Act.put, List.setIfInBounds_toArray, List.set_cons_zero, List.set_cons_succ, List.getElem_toArray, List.getElem_cons_succ, List.getElem_cons_zero]
              refine wpAnyH_ready (rs := [8]) (by kernel_rfl) (by simp) ?_
              refine AllReadyH.cons rfl (fun K hK => ?_) AllReadyH.nil
              go_simp
              go_at_call 45
              refine (HCv.out _ hH).mono ?_
              rintro e w3 ⟨rfl, hb3⟩
              have hw3 := chain hH hb3
              refine hK.out _ _ hw3 (fun _ => ?_)
              clear hK K
              try simp only [Act.put, List.setIfInBounds_toArray, List.set_cons_zero, List.set_cons_succ, List.getElem_toArray, List.getElem_cons_succ, List.getElem_cons_zero]
              refine wpAnyH_take (i := 9) (v := .bool nj) rfl (by kernel_rfl) (by kernel_rfl) (by kernel_rfl) (fun _ _ _ h => h) (Or.inl ⟨by rfl, fun w hSw => by go_simp⟩) hw3 ?_
              try simp only [Act.put, List.setIfInBounds_toArray, List.set_cons_zero, List.set_cons_succ, List.getElem_toArray, List.getElem_cons_succ, List.getElem_cons_zero]
              refine wpAnyH_done (by kernel_rfl) ?_ _
              try simp
              go_wp2
              exact ⟨⟨j + 1, by omega, by go_num, by rw [HNj.out], HTj.out.later hw3⟩, by simp [intOf]; omega⟩
            · obtain rfl : j = k := by omega
              have HY : hidB rs j = false := hJ
              have H1 : Hid (hidN rs (j + 1) = hidN rs j) := hidN_no HY
              clear HY
              go_wp2
              exact ⟨⟨j + 1, by omega, by go_num, by rw [H1.out]; exact HTj.out⟩, by simp [intOf]; omega⟩
          · have HY : hidB rs k = true := hidJ_yes rs k j hj hJ
            by_cases hjk : j < k
            · have hjk' : (j : Int) < (k : Int) := by omega
              have H1 : Hid (hidN rs k ++ [(k : Int)] = hidN rs (k + 1)) := (hidN_yes HY).symm
              have HLn : Hid ((hidN rs k).length ≤ k) := hidN_len rs k
              clear HY
              generalize hidN rs k = Lh at *
              go_wp2_with (at_builtin; refine wpList_append_lies _ rfl _ _ 29 rfl w.heap.size 3 i0 (.int .i64 0) 1 8 Try.underlying29 hi hi0 hi1 hi2 rfl (by decide) _ _ _ rfl (HTj.out.alloc _).1 ⟨wr.heap.size, 0, none⟩ 1 1 [.int .i64 (k : Int)] rfl rfl (newsOne wr _ _) (by intro u hu; simp at hu; subst hu; rfl) (by omega) (by unfold maxLen; have := HLn.out; omega) (by have := HLn.out; omega) (HTj.out.alloc _).2.1 _ rfl ?_; intro g1 cp1 w5 hown1 hgrow1 hat1 hglt1; have HT5 : Hid _ := (HTj.out.alloc _).push hown1 hgrow1; clear hown1 hgrow1 hat1 hglt1)
              exact ⟨⟨k + 1, by omega, by go_num, by rw [← H1.out]; exact HT5.out⟩, by simp [intOf]; omega⟩
            · obtain rfl : j = k := by omega
              have H1 : Hid (hidN rs j ++ [(j : Int)] = hidN rs (j + 1)) := (hidN_yes HY).symm
              have HLn : Hid ((hidN rs j).length ≤ j) := hidN_len rs j
              clear HY
              generalize hidN rs j = Lh at *
              go_wp2_with (at_builtin; refine wpList_append_lies _ rfl _ _ 29 rfl w.heap.size 3 i0 (.int .i64 0) 1 8 Try.underlying29 hi hi0 hi1 hi2 rfl (by decide) _ _ _ rfl (HTj.out.alloc _).1 ⟨wr.heap.size, 0, none⟩ 1 1 [.int .i64 (j : Int)] rfl rfl (newsOne wr _ _) (by intro u hu; simp at hu; subst hu; rfl) (by omega) (by unfold maxLen; have := HLn.out; omega) (by have := HLn.out; omega) (HTj.out.alloc _).2.1 _ rfl ?_; intro g1 cp1 w5 hown1 hgrow1 hat1 hglt1; have HT5 : Hid _ := (HTj.out.alloc _).push hown1 hgrow1; clear hown1 hgrow1 hat1 hglt1)
              exact ⟨⟨j + 1, by omega, by go_num, by rw [← H1.out]; exact HT5.out⟩, by simp [intOf]; omega⟩
      · have hle : (rs.length : Int) ≤ (k : Int) := by omega
        obtain rfl : k = rs.length := by omega
        go_wp2
        go_ret2
        exact ⟨gh, ch, rfl, HT.out.own2 rfl, HB.out⟩
end Go.Proofs.Ythkmgccmeoigpaa

/-
  Contracts of the program's namesOf at facings and FacingsOK, for every list of facings.
-/
import Derived.Test.YtphefbaogfknoaaFaA
import Derived.Test.YtphefbaogfknoaaRowS
namespace Go.Proofs.Ytphefbaogfknoaa
open Go.ChangeShapes Go.WideShapes Go.ChangeAt Go.RowKit Go.Deep
set_option linter.unusedVariables false

theorem fcs_take (p : CFc → Bool) (rs : List CFc) (k : Nat) (h : k < rs.length) : (rs.take (k + 1)).all p = ((rs.take k).all p && p (rs.getD k zFc)) := by
  rw [List.take_succ_eq_append_getElem h, List.all_append]
  have e : rs.getD k zFc = rs[k] := by simp [List.getD_eq_getElem?_getD, h]
  rw [e]; simp
theorem fcs_fail {p : CFc → Bool} {rs : List CFc} {k : Nat} (h : k < rs.length) (hp : p (rs.getD k zFc) = false) : rs.all p = false := by
  have e : rs.getD k zFc = rs[k] := by simp [List.getD_eq_getElem?_getD, h]
  rw [e] at hp
  rw [List.all_eq_false]
  exact ⟨rs[k], List.getElem_mem _, by simp [hp]⟩
theorem fcName_any (c : CFc) (h : Option Addr) (cp : Nat) (w : World) :
    Calls Try.prog 35 #[.agg #[.string c.nm, .int .i64 c.wd, .int .i64 c.ls, .slice h c.gs.length cp]] w fun e w' => e = .returned (.string c.nm) ∧ Below w.heap.size w w' := by
  obtain ⟨nm, wd, ls, gs⟩ := c
  dsimp only
  generalize gs.length = n
  go_enter Try.func35, Try.ntmps35
  go_wp2
  go_ret
  exact ⟨rfl, below_alloc _ _⟩
theorem fcNot_any (c : CFc) (h : Option Addr) (cp : Nat) (hok : FcOK c) (w : World) (hr : Reads w.heap.size w h c.gs) :
    Calls Try.prog 38 #[.agg #[.string c.nm, .int .i64 c.wd, .int .i64 c.ls, .slice h c.gs.length cp]] w fun e w' => e = .returned (.bool (!fcOne c)) ∧ Below w.heap.size w w' := by
  have HD : Hid (∀ W, Below w.heap.size w W → Calls Try.prog 39 #[.agg #[.string c.nm, .int .i64 c.wd, .int .i64 c.ls, .slice h c.gs.length cp]] W fun e w' => e = .returned (.bool (fcOne c)) ∧ Below W.heap.size W w') := fun W hb => right_any c h cp hok W (hr.later hb)
  clear hr hok
  generalize fcOne c = b at *
  obtain ⟨nm, wd, ls, gs⟩ := c
  dsimp only at *
  generalize gs.length = n at *
  go_enter Try.func38, Try.ntmps38
  go_wp2_with (go_at_call 39; refine (HD.out _ (by repeat (first | exact Below.refl _ _ | refine chain ?_ (below_alloc _ _) | refine chain ?_ (below_drew _)))).mono ?_; rintro e w2 ⟨rfl, hb2⟩)
  go_ret
  exact ⟨rfl, by repeat (first | exact Below.refl _ _ | refine chain ?_ (by assumption) | refine chain ?_ (below_alloc _ _) | refine chain ?_ (below_drew _))⟩
set_option maxHeartbeats 2000000 in
theorem fcIndex_any (a : Option Addr) (cap : Nat) (rs : List CFc) (hl : rs.length ≤ 100000000) (hp : ∀ r ∈ rs, FcOK r) (w : World) (hr : ReadsFc w.heap.size w a rs) :
    Calls Try.prog 59 #[.slice a rs.length cap, .func (.func 38) #[] #[]] w fun e w' => (∃ x : Int, e = .returned (.int .i64 x) ∧ decide (0 ≤ x) = !rs.all fcOne) ∧ Below w.heap.size w w' := by
  have HR : Hid (ReadsFc w.heap.size w a rs) := hr
  have HOK : Hid (∀ r ∈ rs, FcOK r) := hp
  clear hr hp
  go_enter Try.func59, Try.ntmps59
  go_wp2
  go_loopw [5, 8] (fun _ c wr => ∃ k : Nat, k ≤ rs.length ∧ c = .int .i64 (k : Int) ∧ (rs.take k).all fcOne = true ∧ Below w.heap.size w wr) (fun _ c _ => rs.length - (intOf c).toNat)
  case atStart => exact ⟨0, Nat.zero_le _, rfl, rfl, Below.refl _ _⟩
  case round =>
    obtain ⟨k, hk, rfl, hf, hb⟩ := hrel
    have HF : Hid ((rs.take k).all fcOne = true) := hf
    have HB : Hid (Below w.heap.size w wr) := hb
    clear hf hb
    by_cases hlt : k < rs.length
    · have hlt' : (k : Int) < (rs.length : Int) := by omega
      rcases HR.out with h | ⟨b0, o0, ha, hB0, ia⟩
      · rw [h] at hlt; simp at hlt
      obtain ⟨h, cp, ⟨c0, c1, c2, c3⟩, hcp, hS⟩ := (ia.below HB.out hB0 (Nat.le_refl _)) k hlt
      have HX : Hid (fcOne (rs.getD k zFc) = false → rs.all fcOne = false) := fun h => fcs_fail hlt h
      have HN : Hid ((rs.take (k + 1)).all fcOne = ((rs.take k).all fcOne && fcOne (rs.getD k zFc))) := fcs_take fcOne rs k hlt
      have hm := fcNot_any (rs.getD k zFc) h cp (getFc HOK.out hlt) wr (hS.mono HB.out.size)
      rw [ha]
      clear ia hS hcp
      generalize rs.getD k zFc = q at *
      generalize fcOne q = mb at *
      obtain ⟨nm, wd, ls, gs⟩ := q
      dsimp only at c0 c1 c2 c3 hm
      generalize gs.length = n at *
      cases mb
      · go_wp2_with (go_at_call 38; refine hm.mono ?_; rintro e w2 ⟨rfl, hb2⟩)
        go_ret
        exact ⟨⟨(k : Int), rfl, by rw [HX.out trivial]; exact decide_eq_true (by omega)⟩, chain HB.out hb2⟩
      · go_wp2_with (go_at_call 38; refine hm.mono ?_; rintro e w2 ⟨rfl, hb2⟩)
        exact ⟨⟨k + 1, by omega, by go_num, by rw [HN.out, HF.out]; rfl, chain HB.out hb2⟩, by simp [intOf]; omega⟩
    · have hle : (rs.length : Int) ≤ (k : Int) := by omega
      have HE : Hid (rs.all fcOne = true) := by have := HF.out; rwa [List.take_of_length_le (by omega)] at this
      go_wp2
      go_ret
      exact ⟨⟨-1, rfl, by rw [HE.out]; rfl⟩, HB.out⟩
theorem fcContains_any (a : Option Addr) (cap : Nat) (rs : List CFc) (hl : rs.length ≤ 100000000) (hp : ∀ r ∈ rs, FcOK r) (w : World) (hr : ReadsFc w.heap.size w a rs) :
    Calls Try.prog 37 #[.slice a rs.length cap, .func (.func 38) #[] #[]] w fun e w' => e = .returned (.bool (!rs.all fcOne)) ∧ Below w.heap.size w w' := by
  have hi := fcIndex_any a cap rs hl hp w hr
  clear hr hp
  go_enter Try.func37, Try.ntmps37
  go_wp2_with (go_at_call 59; refine hi.mono ?_; rintro e w2 ⟨⟨x, rfl, hx⟩, hb2⟩; have HX : Hid (decide (0 ≤ x) = !rs.all fcOne) := hx; clear hx)
  go_ret
  exact ⟨ret_bool HX.out, hb2⟩
theorem OneS.later {w : World} {B : Nat} {v : Value} {L : List ByteArray} {wr w' : World} (h : OneS w B v L wr) (hb : Below wr.heap.size wr w') : OneS w B v L w' := by
  obtain ⟨⟨h1, h2⟩, h4, h5⟩ := h
  refine ⟨⟨h1, ?_⟩, Nat.le_trans h4 hb.size, h5.trans (hb.mono h4)⟩
  rcases h2 with h2 | ⟨g, cap, cur, e, hB, hg, r⟩
  · exact .inl h2
  · exact .inr ⟨g, cap, cur, e, hB, (hb.block g (blkLt hg)).trans hg, r⟩
set_option maxHeartbeats 4000000 in
theorem namesOf_any (a : Option Addr) (cap : Nat) (rs : List CFc) (hl : rs.length ≤ 100000000) (w : World) (hr : ReadsFc w.heap.size w a rs) :
    Calls Try.prog 34 #[.slice a rs.length cap, .func (.func 35) #[] #[]] w fun e w' => ∃ g cp, e = .returned (.slice (some ⟨g, 0, none⟩) rs.length cp) ∧ rs.length ≤ cp ∧ ReadsS w'.heap.size w' (some ⟨g, 0, none⟩) (rs.map (·.nm)) ∧ Below w.heap.size w w' := by
  have HR : Hid (ReadsFc w.heap.size w a rs) := hr
  clear hr
  have hmk : ∀ w, (Instr.makeSlice 60 (.int .i64 0) (.int .i64 (rs.length : Int))).run Try.prog w = .ok (.slice (some ⟨w.heap.size, 0, none⟩) 0 rs.length) (w.alloc (.cells (madeCells #[.string ⟨#[]⟩] rs.length) 9)) := fun w => makeStrs 0 rs.length (by omega) (by omega) w
  obtain ⟨i0, hi, hzz⟩ := Option.map_eq_some_iff.1 strInfo
  simp only [Prod.mk.injEq] at hzz
  obtain ⟨hi0, hi1, hi2⟩ := hzz
  have H0 : Hid (OneS w w.heap.size (.slice (some ⟨w.heap.size, 0, none⟩) 0 rs.length) [] (w.alloc (Obj.cells (madeCells #[.string ⟨#[]⟩] rs.length) 9))) := OneS.made w w.heap.size rfl rs.length (by omega)
  go_enter Try.func34, Try.ntmps34
  go_wp2
  go_loopw [5, 7, 13] (fun v _ c wr => ∃ k g cp : Nat, k ≤ rs.length ∧ k ≤ cp ∧ c = .int .i64 (k : Int) ∧ v = .slice (some ⟨g, 0, none⟩) k cp ∧ OneS w w.heap.size (.slice (some ⟨g, 0, none⟩) k cp) ((rs.take k).map (·.nm)) wr) (fun _ _ c _ => rs.length - (intOf c).toNat)
  case atStart => exact ⟨0, w.heap.size, rs.length, Nat.zero_le _, Nat.zero_le _, rfl, rfl, by simpa using H0.out⟩
  case round =>
    clear H0 hmk
    obtain ⟨k, g, cp, hk, hkc, rfl, rfl, hO⟩ := hrel
    have HO : Hid (OneS w w.heap.size (.slice (some ⟨g, 0, none⟩) k cp) ((rs.take k).map (·.nm)) wr) := hO
    have HB : Hid (Below w.heap.size w wr) := hO.2.2
    clear hO
    by_cases hlt : k < rs.length
    · have hlt' : (k : Int) < (rs.length : Int) := by omega
      rcases HR.out with h | ⟨b0, o0, ha, hB0, ia⟩
      · rw [h] at hlt; simp at hlt
      obtain ⟨h, cq, ⟨c0, c1, c2, c3⟩, _, _⟩ := (ia.below HB.out hB0 (Nat.le_refl _)) k hlt
      have hlen : ((rs.take k).map (·.nm)).length = k := by rw [List.length_map, List.length_take]; omega
      have HN : Hid ((rs.take k).map (·.nm) ++ [(rs.getD k zFc).nm] = (rs.take (k + 1)).map (·.nm)) := by
        have e : rs.getD k zFc = rs[k] := by simp [List.getD_eq_getElem?_getD, hlt]
        show _ = _
        rw [List.take_succ_eq_append_getElem hlt, List.map_append, e]; rfl
      have hNm := fun W => fcName_any (rs.getD k zFc) h cq W
      rw [ha]
      clear ia
      generalize rs.getD k zFc = r at *
      obtain ⟨nm, wd, ls, gs⟩ := r
      dsimp only at c0 c1 c2 c3 HN hNm
      generalize gs.length = n at *
      have HNm : Hid (∀ W, Calls Try.prog 35 #[.agg #[.string nm, .int .i64 wd, .int .i64 ls, .slice h n cq]] W fun e w' => e = .returned (.string nm) ∧ Below W.heap.size W w') := hNm
      clear hNm
      generalize (rs.take k).map (·.nm) = L at *
      obtain rfl : L.length = k := hlen
      go_wp2_with fail
      (first | go_at_call 35 | skip)
      refine (HNm.out _).mono ?_
      rintro e w2 ⟨rfl, hb2⟩
      have HO2 : Hid (OneS w w.heap.size (.slice (some ⟨g, 0, none⟩) L.length cp) L w2) := HO.out.later (chain (below_alloc _ _) hb2)
      have HW5 : Hid (OneS w w.heap.size (.slice (some ⟨g, 0, none⟩) L.length cp) L (w2.alloc (Obj.cells #[.string nm] 9))) := HO2.out.alloc _
      have HNw : Hid (∀ j u, [Value.string nm][j]? = some u → (w2.alloc (Obj.cells #[.string nm] 9)).cell? ((⟨w2.heap.size, 0, none⟩ : Addr).add j) = some u) := newsOneS w2 (.string nm) 9
      clear hb2 HO
      go_wp2_with (at_builtin; refine wpList_append_lies _ rfl _ _ 60 rfl w.heap.size 9 i0 (.string ⟨#[]⟩) 1 16 Try.underlying60 hi hi0 hi1 hi2 rfl (by decide) _ _ _ rfl HW5.out.1 ⟨w2.heap.size, 0, none⟩ 1 1 [.string nm] rfl rfl HNw.out (by intro u hu; simp at hu; rcases hu with rfl; rfl) (by omega) (by unfold maxLen; omega) (by omega) HW5.out.2.1 _ rfl ?_; intro g1 cp1 w7 hown1 hgrow1 hat1 hglt1; have HO7 : Hid (OneS w w.heap.size (.slice (some ⟨g1, 0, none⟩) (L.length + 1) cp1) (L ++ [nm]) w7) := HW5.out.push hown1 hgrow1; clear hown1 hgrow1 hat1)
      have hc1 := HO7.out.cap
      have HO8 : Hid (OneS w w.heap.size (.slice (some ⟨g1, 0, none⟩) (L.length + 1) cp1) ((rs.take (L.length + 1)).map (·.nm)) w7) := by have := HO7.out; rwa [HN.out] at this
      go_roundw
      case rel => exact ⟨L.length + 1, g1, cp1, by omega, hc1, by go_num, rfl, HO8.out⟩
      case measure => simp [intOf]; omega
    · obtain rfl : k = rs.length := by omega
      have HO' : Hid (ReadsS wr.heap.size wr (some ⟨g, 0, none⟩) (rs.map (·.nm))) := by have := HO.out.reads (by rw [List.length_map, List.take_length]); rwa [List.take_length] at this
      go_wp2
      go_ret
      exact ⟨g, cp, rfl, hkc, HO'.out, HB.out⟩
set_option maxHeartbeats 4000000 in
theorem implFacings_any (a : Option Addr) (cap : Nat) (rs : List CFc) (hl : rs.length ≤ 100000000) (hp : ∀ r ∈ rs, FcOK r) (w : World) (hr : ReadsFc w.heap.size w a rs) :
    Calls Try.prog 10 #[.slice a rs.length cap] w fun e w' => e = .returned (.bool (fcAll rs)) ∧ Below w.heap.size w w' := by
  by_cases h6 : (12 : Int) < (rs.length : Int)
  · have HA : Hid (fcAll rs = false) := by show _ = _; unfold fcAll; rw [if_pos (by omega)]
    clear hr hp
    go_enter Try.func10, Try.ntmps10
    go_wp2
    go_ret
    exact ⟨ret_bool HA.out.symm, Below.refl _ _⟩
  have HA : Hid (fcAll rs = (diffB (rs.map (·.nm)) && rs.all fcOne)) := by show _ = _; unfold fcAll; rw [if_neg (by omega)]
  have h6' : ¬ (12 : Int) < (rs.length : Int) := h6
  have HNa := namesOf_any a cap rs hl w hr
  have HD : Hid (∀ g cp W, rs.length ≤ cp → ReadsS W.heap.size W (some ⟨g, 0, none⟩) (rs.map (·.nm)) → Calls Try.prog 36 #[.slice (some ⟨g, 0, none⟩) rs.length cp] W fun e w' => e = .returned (.bool (diffB (rs.map (·.nm)))) ∧ Below W.heap.size W w') := fun g cp W h1 h3 => by
    have := diff_any (some ⟨g, 0, none⟩) cp (rs.map (·.nm)) (by simp; omega) (by simpa using h1) (fun s hs => by obtain ⟨r, hr, rfl⟩ := List.mem_map.mp hs; exact (hp r hr).1) W h3
    rwa [List.length_map] at this
  have HC : Hid (∀ W, Below w.heap.size w W → Calls Try.prog 37 #[.slice a rs.length cap, .func (.func 38) #[] #[]] W fun e w' => e = .returned (.bool (!rs.all fcOne)) ∧ Below W.heap.size W w') := fun W hb => fcContains_any a cap rs hl hp W (hr.later hb)
  clear hr hp
  generalize rs.map (·.nm) = nms at *
  go_enter Try.func10, Try.ntmps10
  go_wp2_with fail
  (first | go_at_call 34 | skip)
  refine HNa.mono ?_
  rintro e w1 ⟨g, cp, rfl, hcp, hrs, hb1⟩
  have HD1 : Hid (Calls Try.prog 36 #[.slice (some ⟨g, 0, none⟩) rs.length cp] w1 fun e w' => e = .returned (.bool (diffB nms)) ∧ Below w1.heap.size w1 w') := HD.out g cp w1 hcp hrs
  have HB1 : Hid (Below w.heap.size w w1) := hb1
  clear HNa hrs hb1 HD
  generalize diffB nms = db at *
  generalize rs.all fcOne = ob at *
  cases db
  · go_wp2_with (go_at_call 36; refine HD1.out.mono ?_; rintro e w2 ⟨rfl, hb2⟩)
    go_ret
    exact ⟨ret_bool (by rw [HA.out]; rfl), chain HB1.out hb2⟩
  · go_wp2_with fail
    (first | go_at_call 36 | skip)
    refine HD1.out.mono ?_
    rintro e w2 ⟨rfl, hb2⟩
    go_wp2_with fail
    (first | go_at_call 37 | skip)
    refine (HC.out _ (chain HB1.out hb2)).mono ?_
    rintro e w3 ⟨rfl, hb3⟩
    go_wp2_with fail
    go_ret
    exact ⟨ret_bool (by rw [HA.out]; cases ob <;> rfl), chain (chain HB1.out hb2) hb3⟩
end Go.Proofs.Ytphefbaogfknoaa

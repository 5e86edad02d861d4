/-
  Contract of the specification's PackUnits, for every list of packs.
-/
import Derived.Test.YtaledfdhiimhdaaPackC
import Derived.Test.YtaledfdhiimhdaaRate
namespace Go.Proofs.Ytaledfdhiimhdaa
open Go.ChangeShapes Go.WideShapes Go.ChangeAt Go.RowKit
set_option linter.unusedVariables false


set_option maxHeartbeats 8000000 in
set_option maxRecDepth 4000 in
theorem specPack_any (a : Option Addr) (cap : Nat) (ps : List Pk) (hl : ps.length ≤ 100000000) (hcap : ps.length ≤ cap) (hp : ∀ p ∈ ps, PkOK p) (B : Nat) (w : World) (hBw : w.heap.size = B) (hr : ReadsP B w a ps) :
    Calls Try.prog 15 #[.slice a ps.length cap] w (PackPost ps B w) := by
  have HR : Hid (ReadsP B w a ps) := hr
  have HPk : Hid (∀ p ∈ ps, PkOK p) := hp
  clear hr hp
  by_cases h0 : 4096 < (ps.length : Int)
  · have HA : Hid (pkAll ps = ([], 2, ByteArray.empty)) := by show _ = _; unfold pkAll; rw [if_pos (by omega)]
    go_enter Try.func15, Try.ntmps15
    go_wp2
    go_ret3
    exact PackPost.mk HA.out rfl (.inl rfl) (hBw ▸ below_alloc _ _)
  by_cases h1 : 30 < (ps.length : Int)
  · have HA : Hid (pkAll ps = ([], 9, ByteArray.empty)) := by show _ = _; unfold pkAll; rw [if_neg (by omega), if_pos (by omega)]
    go_enter Try.func15, Try.ntmps15
    go_wp2
    go_ret3
    exact PackPost.mk HA.out rfl (.inl rfl) (hBw ▸ below_alloc _ _)
  have HA : Hid (pkAll ps = pkGo ps ps.length 0 []) := by show _ = _; unfold pkAll; rw [if_neg (by omega), if_neg (by omega)]
  go_enter Try.func15, Try.ntmps15
  go_wp2
  go_loopw [5, 6, 7, 8, 9] (fun v c _ _ _ wr => ∃ (L : List Int) (g cp : Nat), L.length ≤ ps.length ∧ c = .int .i64 (L.length : Int) ∧ v = .slice (some ⟨g, 0, none⟩) L.length cp ∧ pkAll ps = pkGo ps (ps.length - L.length) L.length L ∧ (∀ x ∈ L, 1 ≤ x ∧ x ≤ 1000000) ∧ One w B (.slice (some ⟨g, 0, none⟩) L.length cp) L wr) (fun _ c _ _ _ _ => ps.length - (intOf c).toNat)
  case atStart => exact ⟨[], B, 0, Nat.zero_le _, rfl, rfl, HA.out, by simp, One.start w B hBw⟩
  case round =>
    obtain ⟨L, g, cp, hk, rfl, rfl, hG, hbd, hO⟩ := hrel
    have HG : Hid (pkAll ps = pkGo ps (ps.length - L.length) L.length L) := hG
    have HBd : Hid (∀ x ∈ L, 1 ≤ x ∧ x ≤ 1000000) := hbd
    have HO : Hid (One w B (.slice (some ⟨g, 0, none⟩) L.length cp) L wr) := hO
    clear hG hbd hO
    by_cases hlt : L.length < ps.length
    · have hlt' : (L.length : Int) < (ps.length : Int) := by omega
      have hle : (L.length : Int) ≤ (cap : Int) := by omega
      rcases HR.out with h | ⟨b0, o0, ha, hB0, ia⟩
      · rw [h] at hlt; simp at hlt
      obtain ⟨c0, c1, c2⟩ := (ia.below HO.out.2.2 hB0) L.length hlt
      have hPk : PkOK (ps.getD L.length pk0) := by
        have e : ps.getD L.length pk0 = ps[L.length] := by simp [List.getD_eq_getElem?_getD, hlt]
        rw [e]; exact HPk.out _ (List.getElem_mem _)
      have HG' : Hid (pkAll ps = if (pkRes (ps.take L.length) L (ps.getD L.length pk0)).2 = 0 then pkGo ps (ps.length - (L.length + 1)) (L.length + 1) (L ++ [(pkRes (ps.take L.length) L (ps.getD L.length pk0)).1]) else ([], (pkRes (ps.take L.length) L (ps.getD L.length pk0)).2, (ps.getD L.length pk0).name)) := HG.out.trans (pkGo_step ps L.length L hlt)
      have HBx : Hid ((pkRes (ps.take L.length) L (ps.getD L.length pk0)).2 = 0 → 1 ≤ (pkRes (ps.take L.length) L (ps.getD L.length pk0)).1 ∧ (pkRes (ps.take L.length) L (ps.getD L.length pk0)).1 ≤ 1000000) := fun h => pkRes_bound _ _ _ HBd.out (by rw [List.length_take]; omega) h
      have hlen : (ps.take L.length).length = L.length := by rw [List.length_take]; omega
      have HFd : Hid (∀ n w', ReadsP w'.heap.size w' a ps → Calls Try.prog 40 #[.slice a L.length cap, .string n] w' fun e w'' => e = .returned (.int .i64 (findP n (ps.take L.length) 0)) ∧ Below w'.heap.size w' w'') := fun n w' h1 => by
        have := specFind_any a cap (ps.take L.length) n (by omega) w' (h1.take _)
        rwa [hlen] at this
      have HRd : Hid (∀ w', Below B w w' → ReadsP w'.heap.size w' a ps) := fun w' hb => (HR.out.below hb).mono (by have := hb.size; omega)
      have hnm := fun w => specName_any (ps.getD L.length pk0).name (by have := hPk.1; unfold maxLen; omega) w
      have HFR : Hid (∀ n, findP n (ps.take L.length) 0 = -1 ∨ (0 ≤ findP n (ps.take L.length) 0 ∧ findP n (ps.take L.length) 0 < (L.length : Int))) := fun n => by have := findP_range n (ps.take L.length) 0; rw [hlen] at this; simpa using this
      clear hlen
      generalize ps.take L.length = AH at *
      generalize ps.getD L.length pk0 = pp at *
      obtain ⟨nm, ofn, cnt⟩ := pp
      have HA0 : Hid (a = some ⟨b0, o0, none⟩) := ha
      clear ia hPk
      rw [ha] at HFd ⊢
      clear ha
      simp only [] at hnm c0 c1 c2
      have lt : wr.heap.size < (wr.alloc (Obj.cells #[.string nm, .string ofn, .int .i64 cnt] 77)).heap.size := by simp
      obtain ⟨m0, m1, m2⟩ : (wr.alloc (Obj.cells #[.string nm, .string ofn, .int .i64 cnt] 77)).cell? ⟨wr.heap.size, 0, none⟩ = some (.string nm) ∧ (wr.alloc (Obj.cells #[.string nm, .string ofn, .int .i64 cnt] 77)).cell? ⟨wr.heap.size, 1, none⟩ = some (.string ofn) ∧ (wr.alloc (Obj.cells #[.string nm, .string ofn, .int .i64 cnt] 77)).cell? ⟨wr.heap.size, 2, none⟩ = some (.int .i64 cnt) := ⟨by simp, by simp, by simp⟩
      have HO1 : Hid (One w B (.slice (some ⟨g, 0, none⟩) L.length cp) L (wr.alloc (Obj.cells #[.string nm, .string ofn, .int .i64 cnt] 77))) := HO.out.alloc _
      by_cases h2 : nameB nm = true ∧ 1 ≤ cnt ∧ cnt ≤ 1000
      · obtain ⟨h2a, h2b, h2c⟩ := h2
        rw [h2a] at hnm
        have hic := fun w => in_any cnt 1 1000 w
        rw [show inB cnt 1 1000 = true from decide_eq_true ⟨h2b, h2c⟩] at hic
        have HE : Hid (pkRes AH L ⟨nm, ofn, cnt⟩ = if 0 ≤ findP nm AH 0 then (0, 7) else if (ofn.toList == []) = true then pkTold cnt else if findP ofn AH 0 < 0 then (0, 6) else pkTold (cnt * L.getD (findP ofn AH 0).toNat 0)) := by
          show _ = _; unfold pkRes; rw [if_pos ⟨h2a, h2b, h2c⟩]
        have hF1 := HFd.out nm
        have hR1 := HFR.out nm
        obtain ⟨i0, hi, hzz⟩ := Option.map_eq_some_iff.1 intInfo1
        simp only [Prod.mk.injEq] at hzz
        obtain ⟨hi0, hi1, hi2⟩ := hzz
        go_wp2_with (first | (go_at_call 38; refine (hnm _).mono ?_; rintro e w2 ⟨rfl, rfl⟩) | (go_at_call 39; refine (hic _).mono ?_; rintro e w3 ⟨rfl, rfl⟩))
        clear hnm hic c0 c1 c2
        generalize wr.alloc (Obj.cells #[.string nm, .string ofn, .int .i64 cnt] 77) = W1 at *
        generalize wr.heap.size = bp at *
        have HF1 : Hid (∀ w', ReadsP w'.heap.size w' (some ⟨b0, o0, none⟩) ps → Calls Try.prog 40 #[.slice (some ⟨b0, o0, none⟩) L.length cap, .string nm] w' fun e w'' => e = .returned (.int .i64 (findP nm AH 0)) ∧ Below w'.heap.size w' w'') := hF1
        clear hF1
        rcases hR1 with e1 | ⟨e1, e2⟩
        · rw [if_neg (by omega)] at HE
          rw [e1] at HF1
          clear e1
          go_region_held3 (fun W => W.cell? ⟨bp, 0, none⟩ = some (.string nm) ∧ W.cell? ⟨bp, 1, none⟩ = some (.string ofn) ∧ W.cell? ⟨bp, 2, none⟩ = some (.int .i64 cnt) ∧ bp < W.heap.size ∧ One w B (.slice (some ⟨g, 0, none⟩) L.length cp) L W) (first | exact ⟨m0, m1, m2, lt, HO1.out.later (below_drew _)⟩ | exact keepP (by assumption) (by assumption)) (first | (go_at_call 40; refine (HF1.out _ (HA0.out ▸ HRd.out _ (HO1.out.later (below_drew _)).2.2)).mono ?_; rintro e w2 ⟨rfl, hb2⟩; have HO2 : Hid (One w B (.slice (some ⟨g, 0, none⟩) L.length cp) L w2) := (HO1.out.later (below_drew _)).later hb2; obtain ⟨q0, q1, q2, q3, _⟩ := keepP (w := w) (B := B) (v := .slice (some ⟨g, 0, none⟩) L.length cp) (L := L) hb2 ⟨m0, m1, m2, lt, HO1.out.later (below_drew _)⟩))
          clear m0 m1 m2
          cases h3 : (ofn.toList == [])
          · rw [if_neg (by rw [h3]; decide)] at HE
            have HF2 : Hid (∀ w', ReadsP w'.heap.size w' (some ⟨b0, o0, none⟩) ps → Calls Try.prog 40 #[.slice (some ⟨b0, o0, none⟩) L.length cap, .string ofn] w' fun e w'' => e = .returned (.int .i64 (findP ofn AH 0)) ∧ Below w'.heap.size w' w'') := HFd.out ofn
            rcases HFR.out ofn with e3 | ⟨e3, e4⟩
            · rw [if_pos (by omega)] at HE
              rw [e3] at HF2
              have HP : Hid (pkAll ps = ([], 6, nm)) := by
                show _ = _
                have := HG'.out
                rw [HE.out, if_neg (by decide)] at this
                exact this
              clear e3
              go_wp2
              go_region_held3 (fun W => W.cell? ⟨bp, 0, none⟩ = some (.string nm) ∧ W.cell? ⟨bp, 1, none⟩ = some (.string ofn) ∧ W.cell? ⟨bp, 2, none⟩ = some (.int .i64 cnt) ∧ bp < W.heap.size ∧ One w B (.slice (some ⟨g, 0, none⟩) L.length cp) L W) (first | exact ⟨q0, q1, q2, q3, HO2.out.later (below_drew _)⟩ | exact keepP (by assumption) (by assumption)) (first | (go_at_call 40; refine (HF2.out _ (HA0.out ▸ HRd.out _ (HO2.out.later (below_drew _)).2.2)).mono ?_; rintro e w3 ⟨rfl, hb3⟩; have HO3 : Hid (One w B (.slice (some ⟨g, 0, none⟩) L.length cp) L w3) := (HO2.out.later (below_drew _)).later hb3; obtain ⟨s0, s1, s2, s3, _⟩ := keepP (w := w) (B := B) (v := .slice (some ⟨g, 0, none⟩) L.length cp) (L := L) hb3 ⟨q0, q1, q2, q3, HO2.out.later (below_drew _)⟩))
              go_wp2
              go_region
              go_wp2
              go_ret3
              exact PackPost.mk HP.out rfl (.inl rfl) (HO3.out.alloc _).2.2.drew
            · rw [if_neg (by omega)] at HE
              obtain ⟨k, hk'⟩ : ∃ k : Nat, findP ofn AH 0 = (k : Int) := ⟨_, (Int.toNat_of_nonneg (by omega)).symm⟩
              rw [hk'] at HF2 HE e3 e4
              rw [Int.toNat_natCast] at HE
              have hkL : k < L.length := by omega
              have hkL' : (k : Int) < (L.length : Int) := by omega
              obtain ⟨x1, x2⟩ := getD_bound HBd.out k hkL
              have HI : Hid (∀ w', One w B (.slice (some ⟨g, 0, none⟩) L.length cp) L w' → w'.cell? ⟨g, k, none⟩ = some (.int .i64 (L.getD k 0))) := fun w' h => by
                rw [h.1.cellAt k (by omega)]; simp [List.getD_eq_getElem?_getD, hkL]
              clear e3 e4 hk'
              generalize L.getD k 0 = x at *
              have hm1 : 1 * x ≤ cnt * x := Int.mul_le_mul_of_nonneg_right h2b (by omega)
              have hm2 : cnt * x ≤ 1000 * x := Int.mul_le_mul_of_nonneg_right h2c (by omega)
              have hm3 : 0 ≤ cnt * x := by omega
              have hm4 : cnt * x ≤ 1000000000 := by omega
              have hm5 : 1 ≤ cnt * x := by omega
              clear hm1 hm2
              unfold pkTold at HE
              go_wp2
              go_region_held3 (fun W => W.cell? ⟨bp, 0, none⟩ = some (.string nm) ∧ W.cell? ⟨bp, 1, none⟩ = some (.string ofn) ∧ W.cell? ⟨bp, 2, none⟩ = some (.int .i64 cnt) ∧ bp < W.heap.size ∧ One w B (.slice (some ⟨g, 0, none⟩) L.length cp) L W) (first | exact ⟨q0, q1, q2, q3, HO2.out.later (below_drew _)⟩ | exact keepP (by assumption) (by assumption)) (first | (go_at_call 40; refine (HF2.out _ (HA0.out ▸ HRd.out _ (HO2.out.later (below_drew _)).2.2)).mono ?_; rintro e w3 ⟨rfl, hb3⟩; have HO3 : Hid (One w B (.slice (some ⟨g, 0, none⟩) L.length cp) L w3) := (HO2.out.later (below_drew _)).later hb3; obtain ⟨s0, s1, s2, s3, _⟩ := keepP (w := w) (B := B) (v := .slice (some ⟨g, 0, none⟩) L.length cp) (L := L) hb3 ⟨q0, q1, q2, q3, HO2.out.later (below_drew _)⟩))
              have cx := HI.out _ HO3.out
              by_cases hov : 1000000 < cnt * x
              · rw [if_pos hov] at HE
                have HP : Hid (pkAll ps = ([], 11, nm)) := by
                  show _ = _
                  have := HG'.out
                  rw [HE.out, if_neg (by decide)] at this
                  exact this
                go_wp2
                go_region
                go_wp2
                go_ret3
                exact PackPost.mk HP.out rfl (.inl rfl) (HO3.out.alloc _).2.2.drew
              · rw [if_neg hov] at HE
                have HP : Hid (pkAll ps = pkGo ps (ps.length - (L.length + 1)) (L.length + 1) (L ++ [cnt * x]) ∧ 1 ≤ cnt * x ∧ cnt * x ≤ 1000000) := by
                  have := HG'.out
                  rw [HE.out, if_pos rfl] at this
                  exact ⟨this, hm5, by omega⟩
                go_wp2_with (first
                  | (at_builtin; refine wpList_append_lies _ rfl _ _ 23 rfl B 3 i0 (.int .i64 0) 1 8 Try.underlying23 hi hi0 hi1 hi2 rfl (by decide) _ _ _ rfl (HO3.out.alloc _).1 ⟨w3.heap.size, 0, none⟩ 1 1 [.int .i64 (cnt * x)] rfl rfl (newsOne w3 _ _) (by intro u hu; simp at hu; subst hu; rfl) (by omega) (by unfold maxLen; omega) (by omega) (HO3.out.alloc _).2.1 _ rfl ?_; intro g1 cp1 w4 hown1 hgrow1 hat1 hglt1; have HO4 : Hid (One w B (.slice (some ⟨g1, 0, none⟩) (L.length + 1) cp1) (L ++ [cnt * x]) w4) := (HO3.out.alloc _).push hown1 hgrow1))
                have e : (L ++ [cnt * x]).length = L.length + 1 := by simp
                refine ⟨⟨L ++ [cnt * x], g1, cp1, ?_⟩, by simp [intOf]; omega⟩
                rw [e]
                exact ⟨by omega, by go_num, rfl, HP.out.1, push_bound HBd.out HP.out.2.1 HP.out.2.2, HO4.out⟩
          · rw [if_pos (by rw [h3])] at HE
            unfold pkTold at HE
            rw [if_neg (by omega)] at HE
            have HP : Hid (pkAll ps = pkGo ps (ps.length - (L.length + 1)) (L.length + 1) (L ++ [cnt]) ∧ 1 ≤ cnt ∧ cnt ≤ 1000000) := by
              have := HG'.out
              rw [HE.out, if_pos rfl] at this
              exact ⟨this, h2b, by omega⟩
            go_wp2_with (first
              | (at_builtin; refine wpList_append_lies _ rfl _ _ 23 rfl B 3 i0 (.int .i64 0) 1 8 Try.underlying23 hi hi0 hi1 hi2 rfl (by decide) _ _ _ rfl (HO2.out.alloc _).1 ⟨w2.heap.size, 0, none⟩ 1 1 [.int .i64 (cnt)] rfl rfl (newsOne w2 _ _) (by intro u hu; simp at hu; subst hu; rfl) (by omega) (by unfold maxLen; omega) (by omega) (HO2.out.alloc _).2.1 _ rfl ?_; intro g1 cp1 w4 hown1 hgrow1 hat1 hglt1; have HO4 : Hid (One w B (.slice (some ⟨g1, 0, none⟩) (L.length + 1) cp1) (L ++ [cnt]) w4) := (HO2.out.alloc _).push hown1 hgrow1))
            have e : (L ++ [cnt]).length = L.length + 1 := by simp
            refine ⟨⟨L ++ [cnt], g1, cp1, ?_⟩, by simp [intOf]; omega⟩
            rw [e]
            exact ⟨by omega, by go_num, rfl, HP.out.1, push_bound HBd.out HP.out.2.1 HP.out.2.2, HO4.out⟩
        · rw [if_pos (by omega)] at HE
          have HP : Hid (pkAll ps = ([], 7, nm)) := by
            show _ = _
            have := HG'.out
            rw [HE.out, if_neg (by decide)] at this
            exact this
          generalize findP nm AH 0 = f at *
          go_region_held3 (fun W => W.cell? ⟨bp, 0, none⟩ = some (.string nm) ∧ W.cell? ⟨bp, 1, none⟩ = some (.string ofn) ∧ W.cell? ⟨bp, 2, none⟩ = some (.int .i64 cnt) ∧ bp < W.heap.size ∧ One w B (.slice (some ⟨g, 0, none⟩) L.length cp) L W) (first | exact ⟨m0, m1, m2, lt, HO1.out.later (below_drew _)⟩ | exact keepP (by assumption) (by assumption)) (first | (go_at_call 40; refine (HF1.out _ (HA0.out ▸ HRd.out _ (HO1.out.later (below_drew _)).2.2)).mono ?_; rintro e w2 ⟨rfl, hb2⟩; have HO2 : Hid (One w B (.slice (some ⟨g, 0, none⟩) L.length cp) L w2) := (HO1.out.later (below_drew _)).later hb2; obtain ⟨q0, q1, q2, q3, _⟩ := keepP (w := w) (B := B) (v := .slice (some ⟨g, 0, none⟩) L.length cp) (L := L) hb2 ⟨m0, m1, m2, lt, HO1.out.later (below_drew _)⟩))
          go_wp2
          go_region
          go_wp2
          go_ret3
          exact PackPost.mk HP.out rfl (.inl rfl) (HO2.out.alloc _).2.2.drew
      · have HP : Hid (pkAll ps = ([], 1, nm)) := by
          show _ = _
          have e : pkRes AH L ⟨nm, ofn, cnt⟩ = (0, 1) := by unfold pkRes; rw [if_neg h2]
          have := HG'.out
          rw [e, if_neg (by decide)] at this
          exact this
        cases hnb : nameB nm
        · rw [hnb] at hnm
          clear h2
          go_wp2_with (first | (go_at_call 38; refine (hnm _).mono ?_; rintro e w2 ⟨rfl, rfl⟩))
          go_region
          go_wp2
          go_ret3
          exact PackPost.mk HP.out rfl (.inl rfl) (HO1.out.alloc _).2.2.drew
        · rw [hnb] at hnm
          have hin : inB cnt 1 1000 = false := decide_eq_false (fun h => h2 ⟨hnb, h.1, h.2⟩)
          have hic := fun w => in_any cnt 1 1000 w
          rw [hin] at hic
          clear h2 hin
          go_wp2_with (first | (go_at_call 38; refine (hnm _).mono ?_; rintro e w2 ⟨rfl, rfl⟩) | (go_at_call 39; refine (hic _).mono ?_; rintro e w3 ⟨rfl, rfl⟩))
          go_region
          go_wp2
          go_ret3
          exact PackPost.mk HP.out rfl (.inl rfl) (HO1.out.alloc _).2.2.drew
    · obtain ⟨r, hr⟩ : ∃ r, ps.length - L.length = r := ⟨_, rfl⟩
      obtain rfl : r = 0 := by omega
      have HE : Hid (pkAll ps = (L, 0, ByteArray.empty)) := by show _ = _; rw [HG.out, hr]; rfl
      have hle : (ps.length : Int) ≤ (L.length : Int) := by omega
      clear hr
      go_wp2
      go_ret3
      exact PackPost.mk HE.out rfl (HO.out.own2 rfl) HO.out.2.2

end Go.Proofs.Ytaledfdhiimhdaa

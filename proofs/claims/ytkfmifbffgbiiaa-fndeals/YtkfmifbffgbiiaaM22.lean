/-
  Texts of this claim laid together: DlS.
-/
import Derived.Test.YtkfmifbffgbiiaaM8
import Derived.Test.YtkfmifbffgbiiaaM21
import Derived.BigQuiet
import Derived.Deep.QuietTactic
/-
  Contract of the specification's DealsOK, for every list of deals.
-/
namespace Go.Proofs.Ytkfmifbffgbiiaa
open Go.ChangeShapes Go.WideShapes Go.ChangeAt Go.RowKit
set_option linter.unusedVariables false

theorem term_ways (kd nd vl : Int) : (kd = 1 ∧ (nd == 1) = false ∧ termB kd nd vl = false) ∨ (kd = 1 ∧ nd = 1 ∧ termB kd nd vl = inB vl 0 100) ∨
    ((kd = 2 ∨ kd = 4) ∧ inB nd 1 4 = false ∧ termB kd nd vl = false) ∨ ((kd = 2 ∨ kd = 4) ∧ inB nd 1 4 = true ∧ termB kd nd vl = inB vl 0 100000000) ∨
    (kd = 3 ∧ inB nd 2 4 = false ∧ termB kd nd vl = false) ∨ (kd = 3 ∧ inB nd 2 4 = true ∧ vl = 0 ∧ termB kd nd vl = true) ∨ (kd = 3 ∧ inB nd 2 4 = true ∧ (vl == 0) = false ∧ termB kd nd vl = false) ∨
    ((kd == 1) = false ∧ (kd == 2) = false ∧ (kd == 4) = false ∧ (kd == 3) = false ∧ termB kd nd vl = false) := by
  have T : ∀ b : Bool, (((kd = 1 ∧ nd = 1 ∧ 0 ≤ vl ∧ vl ≤ 100) ∨ ((kd = 2 ∨ kd = 4) ∧ 1 ≤ nd ∧ nd ≤ 4 ∧ 0 ≤ vl ∧ vl ≤ 100000000) ∨ (kd = 3 ∧ 2 ≤ nd ∧ nd ≤ 4 ∧ vl = 0)) ↔ b = true) → termB kd nd vl = b := fun b h => by
    unfold termB; rw [Bool.eq_iff_iff, decide_eq_true_iff]; exact h
  have I : ∀ x lo hi : Int, (inB x lo hi = true ↔ (lo ≤ x ∧ x ≤ hi)) := fun x lo hi => by unfold inB; rw [decide_eq_true_iff]
  have J : ∀ x lo hi : Int, (inB x lo hi = false ↔ ¬ (lo ≤ x ∧ x ≤ hi)) := fun x lo hi => by unfold inB; rw [decide_eq_false_iff_not]
  by_cases h1 : kd = 1
  · by_cases h2 : nd = 1
    · exact .inr (.inl ⟨h1, h2, T _ (by rw [I]; omega)⟩)
    · exact .inl ⟨h1, by simpa using h2, T _ (by simp; omega)⟩
  · by_cases h2 : kd = 2 ∨ kd = 4
    · by_cases h3 : 1 ≤ nd ∧ nd ≤ 4
      · exact .inr (.inr (.inr (.inl ⟨h2, (I _ _ _).mpr h3, T _ (by rw [I]; omega)⟩)))
      · exact .inr (.inr (.inl ⟨h2, (J _ _ _).mpr h3, T _ (by simp; omega)⟩))
    · by_cases h4 : kd = 3
      · by_cases h5 : 2 ≤ nd ∧ nd ≤ 4
        · by_cases h6 : vl = 0
          · exact .inr (.inr (.inr (.inr (.inr (.inl ⟨h4, (I _ _ _).mpr h5, h6, T _ (by simp; omega)⟩)))))
          · exact .inr (.inr (.inr (.inr (.inr (.inr (.inl ⟨h4, (I _ _ _).mpr h5, by simpa using h6, T _ (by simp; omega)⟩))))))
        · exact .inr (.inr (.inr (.inr (.inl ⟨h4, (J _ _ _).mpr h5, T _ (by simp; omega)⟩))))
      · exact .inr (.inr (.inr (.inr (.inr (.inr (.inr ⟨by simpa using h1, by simp; omega, by simp; omega, by simpa using h4, T _ (by simp; omega)⟩))))))
theorem names_getD (cs : List CDl) (k : Nat) : (cs.map (·.nm)).getD k ByteArray.empty = (cs.getD k zDl).nm := by
  simp only [List.getD_eq_getElem?_getD, List.getElem?_map]
  cases cs[k]? <;> rfl
theorem dlAll_name {cs : List CDl} {k : Nat} (h : k < cs.length) (hq : nameB (cs.getD k zDl).nm = false ∨ hasB ((cs.map (·.nm)).take k) (cs.getD k zDl).nm = true) : dlAll cs = false := by
  unfold dlAll
  rw [← names_getD] at hq
  rw [diffN_stop (by rw [List.length_map]; exact h) hq]
  split <;> rfl
theorem dlAll_one {cs : List CDl} {k : Nat} (h : k < cs.length) (hq : dlOne (cs.getD k zDl) = false) : dlAll cs = false := by
  unfold dlAll
  rw [dls_fail h hq, Bool.and_false]
  split <;> rfl
theorem dlAll_end {cs : List CDl} (h6 : cs.length ≤ 6) (h1 : diffN (cs.map (·.nm)) cs.length = true) (h2 : (cs.take cs.length).all dlOne = true) : dlAll cs = true := by
  unfold dlAll diffB
  rw [List.length_map, h1, if_neg (by omega)]
  rw [List.take_length] at h2
  rw [h2]; rfl
theorem dlOne_arts {c : CDl} (h : (c.arts.length : Int) < 1 ∨ 6 < (c.arts.length : Int)) : dlOne c = false := by
  unfold dlOne; rw [decide_eq_false (by omega)]; rfl
theorem dlOne_diff {c : CDl} (h : diffB c.arts = false) : dlOne c = false := by
  unfold dlOne; rw [h]; simp
theorem dlOne_term {c : CDl} (h1 : 1 ≤ (c.arts.length : Int)) (h2 : (c.arts.length : Int) ≤ 6) (h : diffB c.arts = true) : dlOne c = termB c.kd c.nd c.vl := by
  unfold dlOne; rw [h, decide_eq_true (by omega)]; rfl


set_option maxHeartbeats 8000000 in
set_option maxRecDepth 4000 in
theorem specDeals_any (a : Option Addr) (cap : Nat) (rs : List CDl) (hl : rs.length ≤ 100000000) (hp : ∀ r ∈ rs, DlOK r) (w : World) (hr : ReadsDl w.heap.size w a rs) :
    Calls Try.prog 28 #[.slice a rs.length cap] w fun e w' => e = .returned (.bool (dlAll rs)) ∧ Below w.heap.size w w' := by
  have HR : Hid (ReadsDl w.heap.size w a rs) := hr
  have HOK : Hid (∀ r ∈ rs, DlOK r) := hp
  clear hr hp
  by_cases h6 : (6 : Int) < (rs.length : Int)
  · have HA : Hid (dlAll rs = false) := by show _ = _; unfold dlAll; rw [if_pos (by omega)]
    go_enter Try.func28, Try.ntmps28
    go_wp2
    go_ret
    exact ⟨ret_bool HA.out.symm, Below.refl _ _⟩
  go_enter Try.func28, Try.ntmps28
  go_wp2
  go_loopw [3, 4, 5, 6, 7] (fun c _ _ _ _ wr => ∃ k : Nat, k ≤ rs.length ∧ c = .int .i64 (k : Int) ∧ diffN (rs.map (·.nm)) k = true ∧ (rs.take k).all dlOne = true ∧ Below w.heap.size w wr) (fun c _ _ _ _ _ => rs.length - (intOf c).toNat)
  case atStart => exact ⟨0, Nat.zero_le _, rfl, rfl, rfl, Below.refl _ _⟩
  case round =>
    obtain ⟨k, hk, rfl, hf, hf', hb⟩ := hrel
    have HF : Hid (diffN (rs.map (·.nm)) k = true) := hf
    have HF' : Hid ((rs.take k).all dlOne = true) := hf'
    have HB : Hid (Below w.heap.size w wr) := hb
    clear hf hb hf'
    by_cases hlt : k < rs.length
    · have hlt' : (k : Int) < (rs.length : Int) := by omega
      rcases HR.out with h | ⟨b0, o0, ha, hB0, ia⟩
      · rw [h] at hlt; simp at hlt
      have HI : Hid (DlsAt w.heap.size w b0 o0 rs) := ia
      obtain ⟨h, cp, hAt, hcp, hS⟩ := (ia.below HB.out hB0 (Nat.le_refl _)) k hlt
      have HS : Hid (ReadsS wr.heap.size wr h (rs.getD k zDl).arts) := hS.mono HB.out.size
      have hok : DlOK (rs.getD k zDl) := getDl HOK.out hlt
      have HXn : Hid (nameB (rs.getD k zDl).nm = false ∨ hasB ((rs.map (·.nm)).take k) (rs.getD k zDl).nm = true → dlAll rs = false) := dlAll_name hlt
      have HXo : Hid (dlOne (rs.getD k zDl) = false → dlAll rs = false) := dlAll_one hlt
      have HNn : Hid (nameB (rs.getD k zDl).nm = true → hasB ((rs.map (·.nm)).take k) (rs.getD k zDl).nm = false → diffN (rs.map (·.nm)) (k + 1) = true) := fun h1 h2 => diffN_next HF.out (by rw [names_getD]; exact h1) (by rw [names_getD]; exact h2)
      have HNo : Hid (dlOne (rs.getD k zDl) = true → (rs.take (k + 1)).all dlOne = true) := fun h => by rw [dls_take dlOne rs k hlt, HF'.out, h]; rfl
      have HOa : Hid ((((rs.getD k zDl).arts.length : Int) < 1 ∨ 6 < ((rs.getD k zDl).arts.length : Int)) → dlOne (rs.getD k zDl) = false) := dlOne_arts
      have HOd : Hid (diffB (rs.getD k zDl).arts = false → dlOne (rs.getD k zDl) = false) := dlOne_diff
      have HOt : Hid (1 ≤ ((rs.getD k zDl).arts.length : Int) → ((rs.getD k zDl).arts.length : Int) ≤ 6 → diffB (rs.getD k zDl).arts = true → dlOne (rs.getD k zDl) = termB (rs.getD k zDl).kd (rs.getD k zDl).nd (rs.getD k zDl).vl) := dlOne_term
      have HNm : Hid (∀ b, nameB (rs.getD k zDl).nm = b → ∀ W, Calls Try.prog 51 #[.string (rs.getD k zDl).nm] W fun e w' => e = .returned (.bool b) ∧ w' = W) := fun b e W => e ▸ specName_any _ (by have := hok.1; unfold maxLen; omega) W
      clear ia hS HF HF'
      rw [ha]
      generalize rs.getD k zDl = r at *
      generalize dlOne r = ob at *
      obtain ⟨nm, kd, arts, nd, vl, on⟩ := r
      obtain ⟨c0, c1, c2, c3, c4, c5⟩ := hAt
      dsimp only at *
      obtain ⟨hnm, hal, hae⟩ := hok
      have HAE : Hid (∀ s ∈ arts, s.size ≤ 2000000) := hae
      clear hae
      generalize hN : arts.length = n at *
      cases hnb : nameB nm
      · have H1 : Hid _ := HNm.out _ hnb
        have HE : Hid _ := HXn.out (.inl hnb)
        go_wp2_with (first | (go_at_call 51; refine (H1.out _).mono ?_; rintro e w1 ⟨rfl, rfl⟩))
        go_ret
        exact ⟨ret_bool HE.out.symm, chain HB.out (below_alloc _ _)⟩
      have H1 : Hid _ := HNm.out _ hnb
      by_cases hn1 : (n : Int) < 1
      · have HE : Hid _ := HXo.out (HOa.out (.inl hn1))
        go_wp2_with (first | (go_at_call 51; refine (H1.out _).mono ?_; rintro e w1 ⟨rfl, rfl⟩))
        go_ret
        exact ⟨ret_bool HE.out.symm, chain HB.out (below_alloc _ _)⟩
      by_cases hn6 : (6 : Int) < (n : Int)
      · have HE : Hid _ := HXo.out (HOa.out (.inr hn6))
        go_wp2_with (first | (go_at_call 51; refine (H1.out _).mono ?_; rintro e w1 ⟨rfl, rfl⟩))
        go_ret
        exact ⟨ret_bool HE.out.symm, chain HB.out (below_alloc _ _)⟩
      have HXn2 : Hid (hasB ((rs.map (·.nm)).take k) nm = true → dlAll rs = false) := fun h => HXn.out (.inr h)
      have HNn2 : Hid (hasB ((rs.map (·.nm)).take k) nm = false → diffN (rs.map (·.nm)) (k + 1) = true) := fun h => HNn.out hnb h
      have HDl : Hid (DlAt (wr.alloc (Obj.cells #[.string nm, .int .i64 kd, .slice h n cp, .int .i64 nd, .int .i64 vl, .bool on] 39)) wr.heap.size 0 h cp ⟨nm, kd, arts, nd, vl, on⟩) := ⟨cellNew _ _ _ _ rfl rfl, cellNew _ _ _ _ rfl rfl, cellNew _ _ _ _ rfl (by rw [hN]; rfl), cellNew _ _ _ _ rfl rfl, cellNew _ _ _ _ rfl rfl, cellNew _ _ _ _ rfl rfl⟩
      have HB0 : Hid (Below w.heap.size w (wr.alloc (Obj.cells #[.string nm, .int .i64 kd, .slice h n cp, .int .i64 nd, .int .i64 vl, .bool on] 39))) := chain HB.out (below_alloc _ _)
      have HBx : Hid (Below wr.heap.size wr (wr.alloc (Obj.cells #[.string nm, .int .i64 kd, .slice h n cp, .int .i64 nd, .int .i64 vl, .bool on] 39))) := below_alloc _ _
      clear HXn HNn HNm HOa hnb
      go_wp2_with (first | (go_at_call 51; refine (H1.out _).mono ?_; rintro e w1 ⟨rfl, rfl⟩))
      have HS0 : Hid (ReadsS _ (wr.alloc (Obj.cells #[.string nm, .int .i64 kd, .slice h n cp, .int .i64 nd, .int .i64 vl, .bool on] 39)) h arts) := HS.out.later HBx.out
      have hDlt : wr.heap.size < (wr.alloc (Obj.cells #[.string nm, .int .i64 kd, .slice h n cp, .int .i64 nd, .int .i64 vl, .bool on] 39)).heap.size := by rw [World.size_alloc]; omega
      clear HBx HB HS c0 c1 c2 c3 c4 c5
      generalize wr.alloc (Obj.cells #[.string nm, .int .i64 kd, .slice h n cp, .int .i64 nd, .int .i64 vl, .bool on] 39) = W0 at *
      generalize wr.heap.size = D at *
      have HDx : Hid (D < W0.heap.size) := hDlt
      clear hDlt
      go_loopw [5] (fun c wq => ∃ j : Nat, j ≤ k ∧ c = .int .i64 (j : Int) ∧ hasB ((rs.map (·.nm)).take j) nm = false ∧ Below W0.heap.size W0 wq) (fun c _ => k - (intOf c).toNat)
      case atStart => exact ⟨0, Nat.zero_le _, rfl, rfl, Below.refl _ _⟩
      case round =>
        obtain ⟨j, hj, rfl, hh, hq⟩ := hrel
        have HH : Hid (hasB ((rs.map (·.nm)).take j) nm = false) := hh
        have HQ : Hid (Below W0.heap.size W0 wr) := hq
        clear hh hq
        by_cases hjk : j < k
        · have hjk' : (j : Int) < (k : Int) := by omega
          have hjl' : (j : Int) < (rs.length : Int) := by omega
          obtain ⟨_, _, ⟨e0, _⟩, _⟩ := (HI.out.below (chain HB0.out HQ.out) hB0 (Nat.le_refl _)) j (by omega)
          have e1 := (HDl.out.below HQ.out HDx.out).1
          have HY : Hid (((rs.getD j zDl).nm.toList == nm.toList) = true → dlAll rs = false) := fun h => HXn2.out (hasB_yes (k := j) (by rw [List.length_take, List.length_map]; omega) (by rw [strs_getD_take _ _ _ hjk, names_getD]; exact h))
          have HN : Hid (((rs.getD j zDl).nm.toList == nm.toList) = false → hasB ((rs.map (·.nm)).take (j + 1)) nm = false) := fun h => hasB_next (by rw [List.length_map]; omega) HH.out (by rw [names_getD]; exact h)
          dsimp only at e1
          generalize (rs.getD j zDl).nm = mm at *
          cases hc : (mm.toList == nm.toList)
          · have HE : Hid _ := HN.out hc
            go_wp2
            go_quiet (fail)
            go_wp2
            go_roundw
            case rel => exact ⟨j + 1, by omega, by go_num, HE.out, chain HQ.out ⟨rfl, rfl, rfl, Nat.le_refl _, fun _ _ => rfl⟩⟩
            case measure => simp [intOf]; omega
          · have HE : Hid _ := HY.out hc
            go_wp2
            go_quiet (fail)
            go_wp2
            go_ret
            exact ⟨ret_bool HE.out.symm, chain (chain HB0.out HQ.out) ⟨rfl, rfl, rfl, Nat.le_refl _, fun _ _ => rfl⟩⟩
        · obtain rfl : j = k := by omega
          have HNn3 : Hid _ := HNn2.out HH.out
          have HB1 : Hid (Below w.heap.size w wr) := chain HB0.out HQ.out
          have HD1 : Hid (DlAt wr D 0 h cp ⟨nm, kd, arts, nd, vl, on⟩) := HDl.out.below HQ.out HDx.out
          have HS1 : Hid (ReadsS wr.heap.size wr h arts) := HS0.out.later HQ.out
          have HDy : Hid (D < wr.heap.size) := Nat.lt_of_lt_of_le HDx.out HQ.out.size
          clear HNn2 HXn2 HH HQ HB0 HDl HS0 HDx HI H1 hjk
          obtain ⟨c0, c1, c2, c3, c4, c5⟩ := HD1.out
          dsimp only at c0 c1 c2 c3 c4 c5
          go_wp2
          go_loopw [6] (fun c wq => ∃ i : Nat, i ≤ n ∧ c = .int .i64 (i : Int) ∧ diffN arts i = true ∧ Below wr.heap.size wr wq) (fun c _ => n - (intOf c).toNat)
          case atStart => exact ⟨0, Nat.zero_le _, rfl, rfl, Below.refl _ _⟩
          case round =>
            obtain ⟨i, hi, rfl, hd, hq⟩ := hrel
            have HDf : Hid (diffN arts i = true) := hd
            have HB2 : Hid (Below w.heap.size w wr) := chain HB1.out hq
            have HD2 : Hid (DlAt wr D 0 h cp ⟨nm, kd, arts, nd, vl, on⟩) := HD1.out.below hq HDy.out
            have HS2 : Hid (ReadsS wr.heap.size wr h arts) := HS1.out.later hq
            have HQ2 : Hid (Below _ _ wr) := hq
            clear hd hq c0 c1 c2 c3 c4 c5
            obtain ⟨c0, c1, c2, c3, c4, c5⟩ := HD2.out
            dsimp only at c0 c1 c2 c3 c4 c5
            rw [hN] at c2
            by_cases hin : i < n
            · have hin' : (i : Int) < (n : Int) := by omega
              have hcpi : ¬ (cp : Int) < (i : Int) := by omega
              have HH : Hid (∀ b, hasB (arts.take i) (arts.getD i ByteArray.empty) = b → ∀ W, Below wr.heap.size wr W → Calls Try.prog 26 #[.slice h i cp, .string (arts.getD i ByteArray.empty)] W fun e w' => e = .returned (.bool b) ∧ w' = W) := fun b e W hbW => by
                have := has_any h cp (arts.take i) (by rw [List.length_take]; omega) (arts.getD i ByteArray.empty) W ((HS2.out.later hbW).take i)
                rw [List.length_take, Nat.min_eq_left (by omega), e] at this
                exact this
              rcases HS2.out with hz | ⟨b2, o2, hh2, hB2, ib⟩
              · rw [hz] at hN; simp at hN; omega
              have d0 := ib i (by omega)
              have hW : (arts.getD i ByteArray.empty).size ≤ 2000000 := getS HAE.out (by omega)
              have HNm2 : Hid (∀ b, nameB (arts.getD i ByteArray.empty) = b → ∀ W, Calls Try.prog 51 #[.string (arts.getD i ByteArray.empty)] W fun e w' => e = .returned (.bool b) ∧ w' = W) := fun b e W => e ▸ specName_any _ (by unfold maxLen; omega) W
              have HX : Hid (nameB (arts.getD i ByteArray.empty) = false ∨ hasB (arts.take i) (arts.getD i ByteArray.empty) = true → dlAll rs = false) := fun h => HXo.out (HOd.out (diffN_stop (by omega) h))
              have HN : Hid (nameB (arts.getD i ByteArray.empty) = true → hasB (arts.take i) (arts.getD i ByteArray.empty) = false → diffN arts (i + 1) = true) := diffN_next HDf.out
              subst hh2
              clear ib
              generalize hasB (arts.take i) (arts.getD i ByteArray.empty) = hb at *
              generalize nameB (arts.getD i ByteArray.empty) = nb at *
              generalize arts.getD i ByteArray.empty = s at *
              cases nb
              · have H1 : Hid _ := HX.out (.inl rfl)
                have H2 : Hid _ := HNm2.out _ rfl
                clear HH HNm2 HN
                go_wp2_with fail
                go_quiet (first | (go_at_call 51; exact Calls.quiet_of_same (H2.out _)))
                go_wp2
                go_ret
                exact ⟨ret_bool H1.out.symm, chain HB2.out ⟨rfl, rfl, rfl, Nat.le_refl _, fun _ _ => rfl⟩⟩
              · cases hb
                · have H1 : Hid _ := HN.out rfl rfl
                  have H2 : Hid _ := HNm2.out _ rfl
                  have H3 : Hid _ := HH.out _ rfl
                  clear HH HNm2 HN HX
                  go_wp2_with fail
                  go_quiet (first | (go_at_call 51; exact Calls.quiet_of_same (H2.out _)) | (go_at_call 26; exact Calls.quiet_of_same (H3.out _ ⟨rfl, rfl, rfl, Nat.le_refl _, fun _ _ => rfl⟩)))
                  go_wp2
                  go_roundw
                  case rel => exact ⟨i + 1, by omega, by go_num, H1.out, chain HQ2.out ⟨rfl, rfl, rfl, Nat.le_refl _, fun _ _ => rfl⟩⟩
                  case measure => simp [intOf]; omega
                · have H1 : Hid _ := HX.out (.inr rfl)
                  have H2 : Hid _ := HNm2.out _ rfl
                  have H3 : Hid _ := HH.out _ rfl
                  clear HH HNm2 HN HX
                  go_wp2_with fail
                  go_quiet (first | (go_at_call 51; exact Calls.quiet_of_same (H2.out _)) | (go_at_call 26; exact Calls.quiet_of_same (H3.out _ ⟨rfl, rfl, rfl, Nat.le_refl _, fun _ _ => rfl⟩)))
                  go_wp2
                  go_ret
                  exact ⟨ret_bool H1.out.symm, chain HB2.out ⟨rfl, rfl, rfl, Nat.le_refl _, fun _ _ => rfl⟩⟩
            · obtain rfl : i = n := by omega
              have HT : Hid (ob = termB kd nd vl) := HOt.out (by omega) (by omega) (by rw [← hN] at HDf; exact HDf.out)
              have hI := fun x lo hi W => in_any x lo hi W
              have HIn : Hid (∀ x lo hi b, inB x lo hi = b → ∀ W, Calls Try.prog 52 #[.int .i64 x, .int .i64 lo, .int .i64 hi] W fun e w' => e = .returned (.bool b) ∧ w' = W) := fun x lo hi b e W => e ▸ in_any x lo hi W
              clear HOd HOt HAE HD1 HS1 HQ2 hI HDf HD2 HS2
              have hln : (i : Int) ≤ (i : Int) := Int.le_refl _
              rcases term_ways kd nd vl with ⟨rfl, t1, tE⟩ | ⟨rfl, rfl, tE⟩ | ⟨tk, t1, tE⟩ | ⟨tk, t1, tE⟩ | ⟨rfl, t1, tE⟩ | ⟨rfl, t1, rfl, tE⟩ | ⟨rfl, t1, t2, tE⟩ | ⟨t1, t2, t3, t4, tE⟩
              · have HE : Hid _ := HXo.out (HT.out.trans tE)
                clear tE HT HNo HNn3 HXo HIn
                go_wp2
                go_ret
                exact ⟨ret_bool HE.out.symm, HB2.out⟩
              · cases hv : inB vl 0 100
                · have HE : Hid _ := HXo.out (HT.out.trans (tE.trans hv))
                  have H2 : Hid _ := HIn.out _ _ _ _ hv
                  clear tE hv HT HNo HNn3 HXo HIn
                  go_wp2_with (first | (go_at_call 52; refine (H2.out _).mono ?_; rintro e w2 ⟨rfl, rfl⟩))
                  go_ret
                  exact ⟨ret_bool HE.out.symm, HB2.out⟩
                · have HE : Hid _ := HNo.out (HT.out.trans (tE.trans hv))
                  have H2 : Hid _ := HIn.out _ _ _ _ hv
                  clear tE hv HT HNo HXo HIn
                  go_wp2_with (first | (go_at_call 52; refine (H2.out _).mono ?_; rintro e w2 ⟨rfl, rfl⟩))
                  go_roundw
                  case rel => exact ⟨j + 1, by omega, by go_num, HNn3.out, HE.out, HB2.out⟩
                  case measure => simp [intOf]; omega
              · have HE : Hid _ := HXo.out (HT.out.trans tE)
                have H2 : Hid _ := HIn.out _ _ _ _ t1
                clear tE t1 HT HNo HNn3 HXo HIn
                rcases tk with rfl | rfl
                all_goals
                  go_wp2_with (first | (go_at_call 52; refine (H2.out _).mono ?_; rintro e w2 ⟨rfl, rfl⟩))
                  go_ret
                  exact ⟨ret_bool HE.out.symm, HB2.out⟩
              · have H3 : Hid _ := HIn.out _ _ _ _ t1
                cases hv : inB vl 0 100000000
                · have HE : Hid _ := HXo.out (HT.out.trans (tE.trans hv))
                  have H2 : Hid _ := HIn.out _ _ _ _ hv
                  clear tE hv t1 HT HNo HNn3 HXo HIn
                  rcases tk with rfl | rfl
                  all_goals
                    go_wp2_with (first | (go_at_call 52; refine (H3.out _).mono ?_; rintro e w2 ⟨rfl, rfl⟩; clear H3) | (go_at_call 52; refine (H2.out _).mono ?_; rintro e w3 ⟨rfl, rfl⟩))
                    go_ret
                    exact ⟨ret_bool HE.out.symm, HB2.out⟩
                · have HE : Hid _ := HNo.out (HT.out.trans (tE.trans hv))
                  have H2 : Hid _ := HIn.out _ _ _ _ hv
                  clear tE hv t1 HT HNo HXo HIn
                  rcases tk with rfl | rfl
                  all_goals
                    go_wp2_with (first | (go_at_call 52; refine (H3.out _).mono ?_; rintro e w2 ⟨rfl, rfl⟩; clear H3) | (go_at_call 52; refine (H2.out _).mono ?_; rintro e w3 ⟨rfl, rfl⟩))
                    go_roundw
                    case rel => exact ⟨j + 1, by omega, by go_num, HNn3.out, HE.out, HB2.out⟩
                    case measure => simp [intOf]; omega
              · have HE : Hid _ := HXo.out (HT.out.trans tE)
                have H2 : Hid _ := HIn.out _ _ _ _ t1
                clear tE t1 HT HNo HNn3 HXo HIn
                go_wp2_with (first | (go_at_call 52; refine (H2.out _).mono ?_; rintro e w2 ⟨rfl, rfl⟩))
                go_ret
                exact ⟨ret_bool HE.out.symm, HB2.out⟩
              · have HE : Hid _ := HNo.out (HT.out.trans tE)
                have H2 : Hid _ := HIn.out _ _ _ _ t1
                clear tE t1 HT HNo HXo HIn
                go_wp2_with (first | (go_at_call 52; refine (H2.out _).mono ?_; rintro e w2 ⟨rfl, rfl⟩))
                go_roundw
                case rel => exact ⟨j + 1, by omega, by go_num, HNn3.out, HE.out, HB2.out⟩
                case measure => simp [intOf]; omega
              · have HE : Hid _ := HXo.out (HT.out.trans tE)
                have H2 : Hid _ := HIn.out _ _ _ _ t1
                clear tE t1 HT HNo HNn3 HXo HIn
                go_wp2_with (first | (go_at_call 52; refine (H2.out _).mono ?_; rintro e w2 ⟨rfl, rfl⟩))
                go_ret
                exact ⟨ret_bool HE.out.symm, HB2.out⟩
              · have HE : Hid _ := HXo.out (HT.out.trans tE)
                clear tE HT HNo HNn3 HXo HIn
                go_wp2
                go_ret
                exact ⟨ret_bool HE.out.symm, HB2.out⟩
    · have hle : (rs.length : Int) ≤ (k : Int) := by omega
      have HE : Hid (dlAll rs = true) := by
        obtain rfl : k = rs.length := by omega
        exact dlAll_end (by omega) HF.out HF'.out
      go_wp2
      go_ret
      exact ⟨ret_bool HE.out.symm, HB.out⟩

end Go.Proofs.Ytkfmifbffgbiiaa

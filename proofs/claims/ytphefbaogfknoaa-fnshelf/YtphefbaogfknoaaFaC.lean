/-
  Contract of the specification's FacingsOK, for every list of facings.
-/
import Derived.Test.YtphefbaogfknoaaFaB
import Derived.Test.YtphefbaogfknoaaRate
import Derived.BigQuiet
import Derived.Deep.QuietTactic
namespace Go.Proofs.Ytphefbaogfknoaa
open Go.ChangeShapes Go.WideShapes Go.ChangeAt Go.RowKit Go.Deep
set_option linter.unusedVariables false

theorem fcNames_getD (cs : List CFc) (k : Nat) : (cs.map (·.nm)).getD k ByteArray.empty = (cs.getD k zFc).nm := by
  simp only [List.getD_eq_getElem?_getD, List.getElem?_map]
  cases cs[k]? <;> rfl
theorem fcAll_name {cs : List CFc} {k : Nat} (h : k < cs.length) (hq : nameB (cs.getD k zFc).nm = false ∨ hasB ((cs.map (·.nm)).take k) (cs.getD k zFc).nm = true) : fcAll cs = false := by
  unfold fcAll
  rw [← fcNames_getD] at hq
  rw [diffN_stop (by rw [List.length_map]; exact h) hq]
  split <;> rfl
theorem fcAll_one {cs : List CFc} {k : Nat} (h : k < cs.length) (hq : fcOne (cs.getD k zFc) = false) : fcAll cs = false := by
  unfold fcAll
  rw [fcs_fail h hq, Bool.and_false]
  split <;> rfl
theorem fcAll_end {cs : List CFc} (h6 : cs.length ≤ 12) (h1 : diffN (cs.map (·.nm)) cs.length = true) (h2 : (cs.take cs.length).all fcOne = true) : fcAll cs = true := by
  unfold fcAll diffB
  rw [List.length_map, h1, if_neg (by omega)]
  rw [List.take_length] at h2
  rw [h2]; rfl
theorem fcOne_wd {c : CFc} (h : inB c.wd 1 2000 = false) : fcOne c = false := by unfold fcOne; rw [h]; simp
theorem fcOne_ls {c : CFc} (h : inB c.ls 0 (c.gs.length : Int) = false) : fcOne c = false := by unfold fcOne; rw [h]; simp
theorem fcOne_len {c : CFc} (h : (c.gs.length : Int) < 1 ∨ 6 < (c.gs.length : Int)) : fcOne c = false := by
  unfold fcOne
  rw [show inB (c.gs.length : Int) 1 6 = false from decide_eq_false (by omega)]; rfl
theorem fcOne_gs {c : CFc} (h : gsB c.gs = false) : fcOne c = false := by unfold fcOne; rw [h]; simp
theorem fcOne_yes {c : CFc} (h1 : ¬ (c.gs.length : Int) < 1) (h2 : ¬ 6 < (c.gs.length : Int)) (h3 : inB c.wd 1 2000 = true) (h4 : inB c.ls 0 (c.gs.length : Int) = true) (h5 : gsB c.gs = true) : fcOne c = true := by
  unfold fcOne
  rw [show inB (c.gs.length : Int) 1 6 = true from decide_eq_true (by omega), h3, h4, h5]; rfl
set_option maxHeartbeats 8000000 in
set_option maxRecDepth 4000 in
theorem specFacings_any (a : Option Addr) (cap : Nat) (rs : List CFc) (hl : rs.length ≤ 100000000) (hp : ∀ r ∈ rs, FcOK r) (w : World) (hr : ReadsFc w.heap.size w a rs) :
    Calls Try.prog 13 #[.slice a rs.length cap] w fun e w' => e = .returned (.bool (fcAll rs)) ∧ Below w.heap.size w w' := by
  have HR : Hid (ReadsFc w.heap.size w a rs) := hr
  have HOK : Hid (∀ r ∈ rs, FcOK r) := hp
  clear hr hp
  by_cases h6 : (12 : Int) < (rs.length : Int)
  · have HA : Hid (fcAll rs = false) := by show _ = _; unfold fcAll; rw [if_pos (by omega)]
    go_enter Try.func13, Try.ntmps13
    go_wp2
    go_ret
    exact ⟨ret_bool HA.out.symm, Below.refl _ _⟩
  go_enter Try.func13, Try.ntmps13
  go_wp2
  go_loopw [3, 4, 5, 6] (fun c _ _ _ wr => ∃ k : Nat, k ≤ rs.length ∧ c = .int .i64 (k : Int) ∧ diffN (rs.map (·.nm)) k = true ∧ (rs.take k).all fcOne = true ∧ Below w.heap.size w wr) (fun c _ _ _ _ => rs.length - (intOf c).toNat)
  case atStart => exact ⟨0, Nat.zero_le _, rfl, rfl, rfl, Below.refl _ _⟩
  case round =>
    obtain ⟨k, hk, rfl, hf, hf', hb⟩ := hrel
    have HF : Hid (diffN (rs.map (·.nm)) k = true) := hf
    have HF' : Hid ((rs.take k).all fcOne = true) := hf'
    have HB : Hid (Below w.heap.size w wr) := hb
    clear hf hb hf'
    by_cases hlt : k < rs.length
    · have hlt' : (k : Int) < (rs.length : Int) := by omega
      rcases HR.out with h | ⟨b0, o0, ha, hB0, ia⟩
      · rw [h] at hlt; simp at hlt
      have HI : Hid (FcsAt w.heap.size w b0 o0 rs) := ia
      obtain ⟨h, cp, hAt, hcp, hS⟩ := (ia.below HB.out hB0 (Nat.le_refl _)) k hlt
      have HS : Hid (Reads wr.heap.size wr h (rs.getD k zFc).gs) := hS.mono HB.out.size
      have hok : FcOK (rs.getD k zFc) := getFc HOK.out hlt
      have HXn : Hid (nameB (rs.getD k zFc).nm = false ∨ hasB ((rs.map (·.nm)).take k) (rs.getD k zFc).nm = true → fcAll rs = false) := fcAll_name hlt
      have HXo : Hid (fcOne (rs.getD k zFc) = false → fcAll rs = false) := fcAll_one hlt
      have HNn : Hid (nameB (rs.getD k zFc).nm = true → hasB ((rs.map (·.nm)).take k) (rs.getD k zFc).nm = false → diffN (rs.map (·.nm)) (k + 1) = true) := fun h1 h2 => diffN_next HF.out (by rw [fcNames_getD]; exact h1) (by rw [fcNames_getD]; exact h2)
      have HNo : Hid (fcOne (rs.getD k zFc) = true → (rs.take (k + 1)).all fcOne = true) := fun h => by rw [fcs_take fcOne rs k hlt, HF'.out, h]; rfl
      have HNm : Hid (∀ W, Calls Try.prog 43 #[.string (rs.getD k zFc).nm] W fun e w' => e = .returned (.bool (nameB (rs.getD k zFc).nm)) ∧ w' = W) := fun W => specName_any _ (by have := hok.1; unfold maxLen; omega) W
      have HI1 : Hid (∀ W, Calls Try.prog 40 #[.int .i64 (rs.getD k zFc).wd, .int .i64 1, .int .i64 2000] W fun e w' => e = .returned (.bool (inB (rs.getD k zFc).wd 1 2000)) ∧ w' = W) := fun W => in_any _ 1 2000 W
      have HI2 : Hid (∀ W, Calls Try.prog 40 #[.int .i64 (rs.getD k zFc).ls, .int .i64 0, .int .i64 ((rs.getD k zFc).gs.length : Int)] W fun e w' => e = .returned (.bool (inB (rs.getD k zFc).ls 0 ((rs.getD k zFc).gs.length : Int))) ∧ w' = W) := fun W => in_any _ 0 _ W
      have HO1 : Hid (inB (rs.getD k zFc).wd 1 2000 = false → fcAll rs = false) := fun h => HXo.out (fcOne_wd h)
      have HO2 : Hid (((rs.getD k zFc).gs.length : Int) < 1 ∨ 6 < ((rs.getD k zFc).gs.length : Int) → fcAll rs = false) := fun h => HXo.out (fcOne_len h)
      have HO3 : Hid (inB (rs.getD k zFc).ls 0 ((rs.getD k zFc).gs.length : Int) = false → fcAll rs = false) := fun h => HXo.out (fcOne_ls h)
      have HO4 : Hid (gsB (rs.getD k zFc).gs = false → fcAll rs = false) := fun h => HXo.out (fcOne_gs h)
      have HO5 : Hid (¬ ((rs.getD k zFc).gs.length : Int) < 1 → ¬ 6 < ((rs.getD k zFc).gs.length : Int) → inB (rs.getD k zFc).wd 1 2000 = true → inB (rs.getD k zFc).ls 0 ((rs.getD k zFc).gs.length : Int) = true → gsB (rs.getD k zFc).gs = true → (rs.take (k + 1)).all fcOne = true) := fun h1 h2 h3 h4 h5 => HNo.out (fcOne_yes h1 h2 h3 h4 h5)
      clear ia hS HF HF' HXo HNo
      rw [ha]
      generalize rs.getD k zFc = r at *
      obtain ⟨nm, wd, ls, gs⟩ := r
      obtain ⟨c0, c1, c2, c3⟩ := hAt
      dsimp only at *
      obtain ⟨hnm, hal⟩ := hok
      generalize hN : gs.length = n at *
      generalize hb1 : inB wd 1 2000 = b1 at *
      generalize hb2 : inB ls 0 (n : Int) = b2 at *
      generalize hnb : nameB nm = nb at *
      clear hb1 hb2 hnb
      obtain ⟨W0, hW0⟩ : ∃ W0, W0 = wr.alloc (Obj.cells #[.string nm, .int .i64 wd, .int .i64 ls, .slice h n cp] 51) := ⟨_, rfl⟩
      obtain ⟨D, hD⟩ : ∃ D, D = wr.heap.size := ⟨_, rfl⟩
      have HW0 : Hid (W0 = wr.alloc (Obj.cells #[.string nm, .int .i64 wd, .int .i64 ls, .slice h n cp] 51) ∧ D = wr.heap.size) := ⟨hW0, hD⟩
      have HBx : Hid (W0.heap[D]? = some (.cells #[.string nm, .int .i64 wd, .int .i64 ls, .slice h n cp] 51 (0, 0))) := by show _ = _; rw [hW0, hD]; exact heapNew _ _
      have hbw : Below wr.heap.size wr W0 := by rw [hW0]; exact below_alloc _ _
      have HB0 : Hid (Below w.heap.size w W0) := chain HB.out hbw
      have HS0 : Hid (Reads W0.heap.size W0 h gs) := HS.out.later hbw
      have d0 := blkCell HBx.out 0 _ rfl
      have d1 := blkCell HBx.out 1 _ rfl
      have d2 := blkCell HBx.out 2 _ rfl
      have d3 := blkCell HBx.out 3 _ rfl
      simp only [List.getElem_toArray, List.getElem_cons_zero, List.getElem_cons_succ] at d0 d1 d2 d3
      clear hW0 hD hbw HB HS
      go_upto_region 7 with fail
      rw [← HW0.out.1, ← HW0.out.2]
      clear HW0 c0 c1 c2 c3
      go_wp2_with fail
      (first | go_at_call 43 | skip)
      refine (HNm.out _).mono ?_
      rintro e w1 ⟨rfl, h⟩
      rw [h]
      clear h w1
      cases nb
      · have HE : Hid (fcAll rs = false) := HXn.out (.inl rfl)
        go_wp2_with fail
        go_ret
        exact ⟨ret_bool HE.out.symm, HB0.out⟩
      have HXn2 : Hid (hasB ((rs.map (·.nm)).take k) nm = true → fcAll rs = false) := fun h => HXn.out (.inr h)
      have HNn2 : Hid (hasB ((rs.map (·.nm)).take k) nm = false → diffN (rs.map (·.nm)) (k + 1) = true) := fun h => HNn.out rfl h
      clear HXn HNn HNm
      go_wp2_with fail
      (first | go_at_call 40 | skip)
      refine (HI1.out _).mono ?_
      rintro e w1 ⟨rfl, h⟩
      rw [h]
      clear h w1 HI1
      cases b1
      · have HE : Hid (fcAll rs = false) := HO1.out rfl
        go_wp2_with fail
        go_ret
        exact ⟨ret_bool HE.out.symm, HB0.out⟩
      by_cases hn1 : (n : Int) < 1
      · have HE : Hid (fcAll rs = false) := HO2.out (.inl hn1)
        go_wp2_with fail
        go_ret
        exact ⟨ret_bool HE.out.symm, HB0.out⟩
      by_cases hn6 : (6 : Int) < (n : Int)
      · have HE : Hid (fcAll rs = false) := HO2.out (.inr hn6)
        go_wp2_with fail
        go_ret
        exact ⟨ret_bool HE.out.symm, HB0.out⟩
      go_wp2_with fail
      (first | go_at_call 40 | skip)
      refine (HI2.out _).mono ?_
      rintro e w1 ⟨rfl, h⟩
      rw [h]
      clear h w1 HI2
      cases b2
      · have HE : Hid (fcAll rs = false) := HO3.out rfl
        go_wp2_with fail
        go_ret
        exact ⟨ret_bool HE.out.symm, HB0.out⟩
      have HO6 : Hid (gsB gs = true → (rs.take (k + 1)).all fcOne = true) := HO5.out hn1 hn6 (by first | rfl | trivial) (by first | rfl | trivial)
      clear HO1 HO2 HO3 HO5
      go_wp2_with fail
      go_loopw [5] (fun c wq => ∃ j : Nat, j ≤ n ∧ c = .int .i64 (j : Int) ∧ gsB (gs.take j) = true ∧ wq = W0) (fun c _ => n - (intOf c).toNat)
      case atStart => exact ⟨0, Nat.zero_le _, rfl, rfl, rfl⟩
      case round =>
        obtain ⟨j, hj, rfl, hg, rfl⟩ := hrel
        have HG : Hid (gsB (gs.take j) = true) := hg
        clear hg
        by_cases hjn : j < n
        · have hjn' : (j : Int) < (n : Int) := by omega
          rcases HS0.out with hz | ⟨b2, o2, hh2, hB2, ib⟩
          · rw [hz] at hN; simp at hN; omega
          have e0 := ib j (by omega)
          have HIn : Hid (∀ W, Calls Try.prog 40 #[.int .i64 (gs.getD j 0), .int .i64 0, .int .i64 100000] W fun e w' => e = .returned (.bool (inB (gs.getD j 0) 0 100000)) ∧ w' = W) := fun W => in_any _ 0 100000 W
          have HX : Hid (inB (gs.getD j 0) 0 100000 = false → fcAll rs = false) := fun h => HO4.out (gs_fail (by omega) h)
          have HNx : Hid (inB (gs.getD j 0) 0 100000 = true → gsB (gs.take (j + 1)) = true) := fun h => by rw [gs_take gs j (by omega), HG.out, h]; rfl
          rw [hh2] at d3 ⊢
          clear ib
          generalize gs.getD j 0 = x at *
          generalize inB x 0 100000 = xb at *
          go_wp2_with fail
          (first | go_at_call 40 | skip)
          refine (HIn.out _).mono ?_
          rintro e w1 ⟨rfl, h⟩
          rw [h]
          clear h w1
          cases xb
          · have HE : Hid (fcAll rs = false) := HX.out rfl
            go_wp2_with fail
            go_ret
            exact ⟨ret_bool HE.out.symm, HB0.out⟩
          · have HE : Hid (gsB (gs.take (j + 1)) = true) := HNx.out rfl
            go_wp2_with fail
            go_roundw
            case rel => exact ⟨j + 1, by omega, by go_num, HE.out, by first | rfl | trivial⟩
            case measure => simp [intOf]; omega
        · have hjn' : ¬ (j : Int) < (n : Int) := by omega
          have HE : Hid ((rs.take (k + 1)).all fcOne = true) := HO6.out (by have := HG.out; rwa [List.take_of_length_le (by omega)] at this)
          clear HG HO6 HO4
          have HQF : Hid (∀ W, Below wr.heap.size wr W → W.cell? ⟨D, 0, none⟩ = some (.string nm) ∧ Below w.heap.size w W ∧ ∀ i, i < k → W.cell? ⟨b0, o0 + i * 4, none⟩ = some (.string (rs.getD i zFc).nm)) := fun W hb => by
            refine ⟨(hb.cell (p := ⟨D, 0, none⟩) (blkLt HBx.out)).trans d0, chain HB0.out hb, fun i hi => ?_⟩
            obtain ⟨_, _, ⟨e0, _⟩, _⟩ := (HI.out.below (chain HB0.out hb) hB0 (Nat.le_refl _)) i (by omega)
            exact e0
          go_wp2_with fail
          clear d0 d1 d2 d3
          go_loopw [6] (fun c wq => ∃ i : Nat, i ≤ k ∧ c = .int .i64 (i : Int) ∧ hasB ((rs.map (·.nm)).take i) nm = false ∧ Below wr.heap.size wr wq) (fun c _ => k - (intOf c).toNat)
          case atStart => exact ⟨0, Nat.zero_le _, rfl, rfl, Below.refl _ _⟩
          case round =>
            obtain ⟨i, hi, rfl, hh, hq⟩ := hrel
            have HH : Hid (hasB ((rs.map (·.nm)).take i) nm = false) := hh
            obtain ⟨e1, hbq, hcs⟩ := HQF.out _ hq
            have HB1 : Hid (Below w.heap.size w wr) := hbq
            have HQ1 : Hid (∀ W, Below wr.heap.size wr W → _) := fun W hb => chain hq hb
            clear hh hq hbq
            by_cases hjk : i < k
            · have hjk' : (i : Int) < (k : Int) := by omega
              have hjl' : (i : Int) < (rs.length : Int) := by omega
              have e0 := hcs i hjk
              have HY : Hid (((rs.getD i zFc).nm.toList == nm.toList) = true → fcAll rs = false) := fun h => HXn2.out (hasB_yes (k := i) (by rw [List.length_take, List.length_map]; omega) (by rw [strs_getD_take _ _ _ hjk, fcNames_getD]; exact h))
              have HN2 : Hid (((rs.getD i zFc).nm.toList == nm.toList) = false → hasB ((rs.map (·.nm)).take (i + 1)) nm = false) := fun h => hasB_next (by rw [List.length_map]; omega) HH.out (by rw [fcNames_getD]; exact h)
              clear hcs
              generalize (rs.getD i zFc).nm = mm at *
              cases hc : (mm.toList == nm.toList)
              · have HE2 : Hid (hasB ((rs.map (·.nm)).take (i + 1)) nm = false) := HN2.out hc
                go_wp2
                go_quiet (fail)
                go_wp2
                go_roundw
                case rel => exact ⟨i + 1, by omega, by go_num, HE2.out, HQ1.out _ ⟨rfl, rfl, rfl, Nat.le_refl _, fun _ _ => rfl⟩⟩
                case measure => simp [intOf]; omega
              · have HE2 : Hid (fcAll rs = false) := HY.out hc
                go_wp2
                go_quiet (fail)
                go_wp2
                go_ret
                exact ⟨ret_bool HE2.out.symm, chain HB1.out ⟨rfl, rfl, rfl, Nat.le_refl _, fun _ _ => rfl⟩⟩
            · obtain rfl : i = k := by omega
              have HNn3 : Hid (diffN (rs.map (·.nm)) (i + 1) = true) := HNn2.out HH.out
              clear hcs e1
              go_wp2
              go_roundw
              case rel => exact ⟨i + 1, by omega, by go_num, HNn3.out, HE.out, HB1.out⟩
              case measure => simp [intOf]; omega
    · have hle : ¬ (k : Int) < (rs.length : Int) := by omega
      have HE : Hid (fcAll rs = true) := fcAll_end (by omega) (by have := HF.out; rwa [show k = rs.length by omega] at this) (by have := HF'.out; rwa [show k = rs.length by omega] at this)
      go_wp2
      go_ret
      exact ⟨ret_bool HE.out.symm, HB.out⟩
end Go.Proofs.Ytphefbaogfknoaa

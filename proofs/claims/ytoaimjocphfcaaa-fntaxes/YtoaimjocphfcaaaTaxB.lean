/-
  Contract of the specification's TaxRowsOK, for every list of rows.
-/
import Derived.Test.YtoaimjocphfcaaaTaxA
namespace Go.Proofs.Ytoaimjocphfcaaa
open Go.ChangeShapes Go.WideShapes Go.ChangeAt Go.RowKit
set_option linter.unusedVariables false

theorem any_take_at {p : TR → Bool} {rs : List TR} {j k : Nat} (h : j < k) (hk : k ≤ rs.length) (hp : p (rs.getD j tr0) = true) : (rs.take k).any p = true := by
  have hj : j < (rs.take k).length := by rw [List.length_take]; omega
  refine any_at (k := j) hj ?_
  have e : (rs.take k).getD j tr0 = rs.getD j tr0 := by
    rw [List.getD_eq_getElem?_getD, List.getD_eq_getElem?_getD, List.getElem?_take]; simp [h]
  rw [e]; exact hp
theorem clash_ways (qc : Int) (qp : ByteArray) (qf qt qn qd rc : Int) (rp : ByteArray) (rf rt rn rd : Int) :
    ((qc == rc) = false ∧ clash ⟨qc, qp, qf, qt, qn, qd⟩ ⟨rc, rp, rf, rt, rn, rd⟩ = false) ∨ ((qc == rc) = true ∧ (qp.toList == rp.toList) = false ∧ clash ⟨qc, qp, qf, qt, qn, qd⟩ ⟨rc, rp, rf, rt, rn, rd⟩ = false) ∨
    ((qc == rc) = true ∧ (qp.toList == rp.toList) = true ∧ rt ≤ qf ∧ clash ⟨qc, qp, qf, qt, qn, qd⟩ ⟨rc, rp, rf, rt, rn, rd⟩ = false) ∨ ((qc == rc) = true ∧ (qp.toList == rp.toList) = true ∧ qf < rt ∧ qt ≤ rf ∧ clash ⟨qc, qp, qf, qt, qn, qd⟩ ⟨rc, rp, rf, rt, rn, rd⟩ = false) ∨
    ((qc == rc) = true ∧ (qp.toList == rp.toList) = true ∧ qf < rt ∧ rf < qt ∧ clash ⟨qc, qp, qf, qt, qn, qd⟩ ⟨rc, rp, rf, rt, rn, rd⟩ = true) := by
  have e : clash ⟨qc, qp, qf, qt, qn, qd⟩ ⟨rc, rp, rf, rt, rn, rd⟩ = ((qc == rc) && (qp.toList == rp.toList) && (decide (qf < rt) && decide (rf < qt))) := rfl
  rw [e]
  cases (qc == rc)
  · exact .inl ⟨rfl, rfl⟩
  · cases (qp.toList == rp.toList)
    · exact .inr (.inl ⟨rfl, rfl, rfl⟩)
    · rcases (by omega : rt ≤ qf ∨ (qf < rt ∧ qt ≤ rf) ∨ (qf < rt ∧ rf < qt)) with h | ⟨h, h'⟩ | ⟨h, h'⟩
      · exact .inr (.inr (.inl ⟨rfl, rfl, h, by rw [decide_eq_false (show ¬ qf < rt by omega)]; rfl⟩))
      · exact .inr (.inr (.inr (.inl ⟨rfl, rfl, h, h', by rw [decide_eq_false (show ¬ rf < qt by omega)]; simp⟩)))
      · exact .inr (.inr (.inr (.inr ⟨rfl, rfl, h, h', by rw [decide_eq_true h, decide_eq_true h']; rfl⟩)))
theorem rowNew (w : World) (c : Int) (s : ByteArray) (f t n d : Int) : RowAt (w.alloc (Obj.cells #[.int .i64 c, .string s, .int .i64 f, .int .i64 t, .int .i64 n, .int .i64 d] 45)) w.heap.size 0 ⟨c, s, f, t, n, d⟩ :=
  ⟨by simp, by simp, by simp, by simp, by simp, by simp⟩
theorem getD_tr {P : TR → Prop} {rs : List TR} (h : ∀ r ∈ rs, P r) {k : Nat} (hk : k < rs.length) : P (rs.getD k tr0) := by
  have e : rs.getD k tr0 = rs[k] := by simp [List.getD_eq_getElem?_getD, hk]
  rw [e]; exact h _ (List.getElem_mem _)

set_option maxHeartbeats 4000000 in
set_option maxRecDepth 4000 in
theorem specRows_any (a : Option Addr) (cap : Nat) (rs : List TR) (hl : rs.length ≤ 100000000) (hp : ∀ r ∈ rs, TrOK r) (w : World) (hr : ReadsT w.heap.size w a rs) :
    Calls Try.prog 25 #[.slice a rs.length cap] w fun e w' => e = .returned (.bool (trAll rs)) ∧ Below w.heap.size w w' := by
  have HR : Hid (ReadsT w.heap.size w a rs) := hr
  have HOK : Hid (∀ r ∈ rs, TrOK r) := hp
  clear hr hp
  by_cases h60 : (60 : Int) < (rs.length : Int)
  · have HA : Hid (trAll rs = false) := by show _ = _; unfold trAll; rw [if_pos (by omega)]
    go_enter Try.func25, Try.ntmps25
    go_wp2
    go_ret
    exact ⟨ret_bool HA.out.symm, Below.refl _ _⟩
  have HA : Hid (trAll rs = trGo rs (rs.length - 0) 0) := by show _ = _; unfold trAll; rw [if_neg (by omega)]; rfl
  go_enter Try.func25, Try.ntmps25
  go_wp2
  go_loopw [3, 4, 5, 6] (fun c _ _ _ wr => ∃ k : Nat, k ≤ rs.length ∧ c = .int .i64 (k : Int) ∧ trAll rs = trGo rs (rs.length - k) k ∧ Below w.heap.size w wr) (fun c _ _ _ _ => rs.length - (intOf c).toNat)
  case atStart => exact ⟨0, Nat.zero_le _, rfl, HA.out, Below.refl _ _⟩
  case round =>
    obtain ⟨k, hk, rfl, hf, hb⟩ := hrel
    have HF : Hid (trAll rs = trGo rs (rs.length - k) k) := hf
    have HB : Hid (Below w.heap.size w wr) := hb
    clear hf hb
    by_cases hlt : k < rs.length
    · have hlt' : (k : Int) < (rs.length : Int) := by omega
      rcases HR.out with h | ⟨b0, o0, ha, hB0, ia⟩
      · rw [h] at hlt; simp at hlt
      have HI : Hid (RowsAt w b0 o0 rs) := ia
      obtain ⟨c0, c1, c2, c3, c4, c5⟩ := (ia.below HB.out hB0) k hlt
      have HS : Hid (trAll rs = (trOne (rs.getD k tr0) && !((rs.take k).any fun q => clash q (rs.getD k tr0)) && trGo rs (rs.length - (k + 1)) (k + 1))) := HF.out.trans (trGo_step rs k hlt)
      have hok := getD_tr HOK.out hlt
      have HAt : Hid (∀ j, j < k → clash (rs.getD j tr0) (rs.getD k tr0) = true → ((rs.take k).any fun q => clash q (rs.getD k tr0)) = true) := fun j hj h => any_take_at (p := fun q => clash q (rs.getD k tr0)) hj hk h
      have HNx : Hid (∀ j, j < rs.length → (rs.take (j + 1)).any (fun q => clash q (rs.getD k tr0)) = ((rs.take j).any (fun q => clash q (rs.getD k tr0)) || clash (rs.getD j tr0) (rs.getD k tr0))) := fun j hj => any_next _ rs j hj
      rw [ha]
      clear ia
      generalize rs.getD k tr0 = r at *
      obtain ⟨rc, rp, rf, rt, rn, rd⟩ := r
      dsimp only at c0 c1 c2 c3 c4 c5
      have hps : rp.size ≤ 2000000 := hok
      have hin := fun w => in_any rc 1 9 w
      have HN : Hid (∀ b, nameB rp = b → ∀ w, Calls Try.prog 39 #[.string rp] w fun e w' => e = .returned (.bool b) ∧ w' = w) := fun b h w => h ▸ specName_any rp (by unfold maxLen; omega) w
      have hrt := fun w => specRate_any rn rd w
      rcases one_ways rc rp rf rt rn rd with ⟨h1, h2⟩ | ⟨h1, h2, h3, h4⟩ | ⟨h1, hpl, hrest⟩
      · have HE : Hid (trAll rs = false) := by show _ = _; rw [HS.out, h2]; rfl
        rw [h1] at hin
        clear h2 h1
        go_wp2_with (first
          | (go_at_call 38; refine (hin _).mono ?_; rintro e w1 ⟨rfl, rfl⟩)
          | (go_at_call 39; refine (H3.out _).mono ?_; rintro e w2 ⟨rfl, rfl⟩)
          | (go_at_call 40; refine (hrt _).mono ?_; rintro e w3 ⟨rfl, hb3⟩; obtain ⟨hc3, hf3, hz3⟩ := bfacts hb3))
        go_ret
        exact ⟨ret_bool HE.out.symm, by repeat (first | exact HB.out | refine chain ?_ (by assumption) | refine chain ?_ (below_alloc _ _) | refine chain ?_ (below_drew _))⟩
      · have HE : Hid (trAll rs = false) := by show _ = _; rw [HS.out, h4]; rfl
        have H3 : Hid _ := HN.out _ h3
        rw [h1] at hin
        clear h4 h1 h3
        go_wp2_with (first
          | (go_at_call 38; refine (hin _).mono ?_; rintro e w1 ⟨rfl, rfl⟩)
          | (go_at_call 39; refine (H3.out _).mono ?_; rintro e w2 ⟨rfl, rfl⟩)
          | (go_at_call 40; refine (hrt _).mono ?_; rintro e w3 ⟨rfl, hb3⟩; obtain ⟨hc3, hf3, hz3⟩ := bfacts hb3))
        go_ret
        exact ⟨ret_bool HE.out.symm, by repeat (first | exact HB.out | refine chain ?_ (by assumption) | refine chain ?_ (below_alloc _ _) | refine chain ?_ (below_drew _))⟩
      · rcases hpl with h2 | ⟨h2, h3⟩
        all_goals
          rcases hrest with ⟨h4, h5⟩ | ⟨h4, h5, h6⟩ | ⟨h4, h5, h6, h7⟩ | ⟨h4, h5, h6, h7⟩
          · have HE : Hid (trAll rs = false) := by show _ = _; rw [HS.out, h5]; rfl
            try (have H3 : Hid _ := HN.out _ h3; clear h3)
            rw [h1] at hin
            clear h5 h1
            go_wp2_with (first
          | (go_at_call 38; refine (hin _).mono ?_; rintro e w1 ⟨rfl, rfl⟩)
          | (go_at_call 39; refine (H3.out _).mono ?_; rintro e w2 ⟨rfl, rfl⟩)
          | (go_at_call 40; refine (hrt _).mono ?_; rintro e w3 ⟨rfl, hb3⟩; obtain ⟨hc3, hf3, hz3⟩ := bfacts hb3))
            go_ret
            exact ⟨ret_bool HE.out.symm, by repeat (first | exact HB.out | refine chain ?_ (by assumption) | refine chain ?_ (below_alloc _ _) | refine chain ?_ (below_drew _))⟩
          · have HE : Hid (trAll rs = false) := by show _ = _; rw [HS.out, h6]; rfl
            try (have H3 : Hid _ := HN.out _ h3; clear h3)
            rw [h1] at hin
            clear h6 h1
            go_wp2_with (first
          | (go_at_call 38; refine (hin _).mono ?_; rintro e w1 ⟨rfl, rfl⟩)
          | (go_at_call 39; refine (H3.out _).mono ?_; rintro e w2 ⟨rfl, rfl⟩)
          | (go_at_call 40; refine (hrt _).mono ?_; rintro e w3 ⟨rfl, hb3⟩; obtain ⟨hc3, hf3, hz3⟩ := bfacts hb3))
            go_ret
            exact ⟨ret_bool HE.out.symm, by repeat (first | exact HB.out | refine chain ?_ (by assumption) | refine chain ?_ (below_alloc _ _) | refine chain ?_ (below_drew _))⟩
          · have HE : Hid (trAll rs = false) := by show _ = _; rw [HS.out, h7]; rfl
            try (have H3 : Hid _ := HN.out _ h3; clear h3)
            rw [h1] at hin
            clear h7 h1
            go_wp2_with (first
          | (go_at_call 38; refine (hin _).mono ?_; rintro e w1 ⟨rfl, rfl⟩)
          | (go_at_call 39; refine (H3.out _).mono ?_; rintro e w2 ⟨rfl, rfl⟩)
          | (go_at_call 40; refine (hrt _).mono ?_; rintro e w3 ⟨rfl, hb3⟩; obtain ⟨hc3, hf3, hz3⟩ := bfacts hb3))
            go_ret
            exact ⟨ret_bool HE.out.symm, by repeat (first | exact HB.out | refine chain ?_ (by assumption) | refine chain ?_ (below_alloc _ _) | refine chain ?_ (below_drew _))⟩
          cases hrb : rateB rn rd
          · have HE : Hid (trAll rs = false) := by show _ = _; rw [HS.out, h7, hrb]; rfl
            try (have H3 : Hid _ := HN.out _ h3; clear h3)
            rw [h1] at hin
            rw [hrb] at hrt
            clear h7 h1 hrb
            go_wp2_with (first
              | (go_at_call 38; refine (hin _).mono ?_; rintro e w1 ⟨rfl, rfl⟩)
              | (go_at_call 39; refine (H3.out _).mono ?_; rintro e w2 ⟨rfl, rfl⟩)
              | (go_at_call 40; refine (hrt _).mono ?_; rintro e w3 ⟨rfl, hb3⟩; obtain ⟨hc3, hf3, hz3⟩ := bfacts hb3))
            go_ret
            exact ⟨ret_bool HE.out.symm, by repeat (first | exact HB.out | refine chain ?_ (by assumption) | refine chain ?_ (below_alloc _ _) | refine chain ?_ (below_drew _))⟩
          · have HS' : Hid (trAll rs = (!((rs.take k).any fun q => clash q ⟨rc, rp, rf, rt, rn, rd⟩) && trGo rs (rs.length - (k + 1)) (k + 1))) := by show _ = _; rw [HS.out, h7, hrb]; rfl
            try (have H3 : Hid _ := HN.out _ h3; clear h3)
            rw [h1] at hin
            rw [hrb] at hrt
            clear h7 h1 hrb HS
            go_wp2_with (first
              | (go_at_call 38; refine (hin _).mono ?_; rintro e w1 ⟨rfl, rfl⟩)
              | (go_at_call 39; refine (H3.out _).mono ?_; rintro e w2 ⟨rfl, rfl⟩)
              | (go_at_call 40; refine (hrt _).mono ?_; rintro e w3 ⟨rfl, hb3⟩; obtain ⟨hc3, hf3, hz3⟩ := bfacts hb3))
            have HB3 : Hid (Below w.heap.size w w3) := by repeat (first | exact HB.out | refine chain ?_ (by assumption) | refine chain ?_ (below_alloc _ _) | refine chain ?_ (below_drew _))
            have HR3 : Hid (RowAt w3 wr.heap.size 0 ⟨rc, rp, rf, rt, rn, rd⟩) := (rowNew wr rc rp rf rt rn rd).below hb3 (by simp)
            have hlt3 : wr.heap.size < w3.heap.size := by have := hb3.size; simp at this; omega
            clear hb3 hc3 hf3 hz3 c0 c1 c2 c3 c4 c5
            generalize wr.heap.size = bp at *
            go_loopw [5, 6] (fun c _ wj => ∃ j : Nat, j ≤ k ∧ c = .int .i64 (j : Int) ∧ (rs.take j).any (fun q => clash q ⟨rc, rp, rf, rt, rn, rd⟩) = false ∧ Below w3.heap.size w3 wj) (fun c _ _ => k - (intOf c).toNat)
            case atStart => exact ⟨0, Nat.zero_le _, rfl, rfl, Below.refl _ _⟩
            case round =>
            obtain ⟨j, hj, rfl, hg, hbj⟩ := hrel
            have HG : Hid ((rs.take j).any (fun q => clash q ⟨rc, rp, rf, rt, rn, rd⟩) = false) := hg
            have HBj : Hid (Below w3.heap.size w3 wr) := hbj
            clear hg hbj
            by_cases hjk : j < k
            · have hjk' : (j : Int) < (k : Int) := by omega
              have hjl : (j : Int) < (rs.length : Int) := by omega
              obtain ⟨q0, q1, q2, q3, q4, q5⟩ := (HI.out.below (chain HB3.out HBj.out) hB0) j (by omega)
              obtain ⟨r0, r1, r2, r3, r4, r5⟩ := HR3.out.below HBj.out hlt3
              have hltp : bp < wr.heap.size := by have := HBj.out.size; omega
              have hne : bp ≠ wr.heap.size := by omega
              have HXj : Hid _ := HAt.out j hjk
              have HNj : Hid _ := HNx.out j (by omega)
              generalize rs.getD j tr0 = q at *
              obtain ⟨qc, qp, qf, qt, qn, qd⟩ := q
              dsimp only at q0 q1 q2 q3 q4 q5 r0 r1 r2 r3 r4 r5
              rcases clash_ways qc qp qf qt qn qd rc rp rf rt rn rd with ⟨e1, e2⟩ | ⟨e1, e2, e3⟩ | ⟨e1, e2, e3, e4⟩ | ⟨e1, e2, e3, e4, e5⟩ | ⟨e1, e2, e3, e4, e5⟩
              · have HC : Hid _ := HNj.out.trans (by rw [HG.out, e2])
                clear e2
                go_wp2
                exact ⟨⟨j + 1, by omega, by go_num, HC.out, chain HBj.out (below_alloc _ _)⟩, by simp [intOf]; omega⟩
              · have HC : Hid _ := HNj.out.trans (by rw [HG.out, e3])
                clear e3
                go_wp2
                exact ⟨⟨j + 1, by omega, by go_num, HC.out, chain HBj.out (below_alloc _ _)⟩, by simp [intOf]; omega⟩
              · have HC : Hid _ := HNj.out.trans (by rw [HG.out, e4])
                clear e4
                go_wp2
                exact ⟨⟨j + 1, by omega, by go_num, HC.out, chain HBj.out (below_alloc _ _)⟩, by simp [intOf]; omega⟩
              · have HC : Hid _ := HNj.out.trans (by rw [HG.out, e5])
                clear e5
                go_wp2
                exact ⟨⟨j + 1, by omega, by go_num, HC.out, chain HBj.out (below_alloc _ _)⟩, by simp [intOf]; omega⟩
              · have HC : Hid (trAll rs = false) := by show _ = _; rw [HS'.out, HXj.out e5]; rfl
                clear e5
                go_wp2
                go_ret
                exact ⟨ret_bool HC.out.symm, chain (chain HB3.out HBj.out) (below_alloc _ _)⟩
            · obtain rfl : j = k := by omega
              have HC : Hid (trAll rs = trGo rs (rs.length - (j + 1)) (j + 1)) := by show _ = _; rw [HS'.out, HG.out]; rfl
              go_wp2
              go_roundw
              case rel => exact ⟨j + 1, by omega, by go_num, HC.out, chain HB3.out HBj.out⟩
              case measure => simp [intOf]; omega
    · have hle : (rs.length : Int) ≤ (k : Int) := by omega
      have HE : Hid (trAll rs = true) := by show _ = _; rw [HF.out, show rs.length - k = 0 by omega]; rfl
      go_wp2
      go_ret
      exact ⟨ret_bool HE.out.symm, HB.out⟩
end Go.Proofs.Ytoaimjocphfcaaa

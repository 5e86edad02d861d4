/-
  Contract of the specification's Decide.
-/
import Derived.Test.YtpldllmbblomfaaRdC
namespace Go.Proofs.Ytpldllmbblomfaa
open Go.ChangeShapes Go.WideShapes Go.ChangeAt Go.RowKit Go.Deep
set_option linter.unusedVariables false

theorem hasW_at (F : List Int) (k : Nat) (h : 1 ≤ k) (h' : k ≤ 5) : ((rm []).getD (2 * k) 0 ≤ F.getD k 0 ∧ F.getD k 0 ≤ (rm []).getD (2 * k + 1) 0) ↔ (loF (k : Int) ≤ F.getD k 0 ∧ F.getD k 0 ≤ hiF (k : Int)) := by
  rw [(rm_low [] k h h').1, (rm_low [] k h h').2]; exact Iff.rfl
/-- None of the first k fires. -/
def NoFire (F : List Int) (rs : List CCl) (k : Nat) : Prop := (rs.take k).all (fun c => !fireB F c.ts) = true
set_option maxHeartbeats 8000000 in
theorem specDecide_any (a : Option Addr) (cap : Nat) (rs : List CCl) (hcap : rs.length ≤ cap) (hl : rs.length ≤ 100000000) (hp : ∀ r ∈ rs, ClOK r) (x1 x2 x3 x4 x5 : Int) (w : World) (hr : ReadsCl w.heap.size w a rs) :
    Calls Try.prog 13 #[.slice a rs.length cap, .agg #[.int .i64 x1, .int .i64 x2, .int .i64 x3, .int .i64 x4, .int .i64 x5]] w fun e w' => e = .returned (.tuple #[.int .i64 (decN rs [0, x1, x2, x3, x4, x5]), .int .i64 (decC rs [0, x1, x2, x3, x4, x5])]) ∧ Below w.heap.size w w' := by
  have HC : Hid (∀ W, Below w.heap.size w W → Calls Try.prog 9 #[.slice a rs.length cap] W fun e w' => e = .returned (.bool (clAll rs)) ∧ Below W.heap.size W w') := fun W hb => specClauses_any a cap rs hcap hl hp W (hr.later hb)
  have HR : Hid (ReadsCl w.heap.size w a rs) := hr
  have HM : Hid (clAll rs = true → ∀ r ∈ rs, ClOK r ∧ r.ts.all tmB = true) := fun h r hr => ⟨hp r hr, clOne_terms (clAll_mem h r hr)⟩
  have hw := decideWays rs [0, x1, x2, x3, x4, x5]
  have hv := fltC_ways rs
  have HX1 : Hid (∀ k, k < rs.length → (rs.take k).all (fun c => !fireB [0, x1, x2, x3, x4, x5] c.ts) = true → fireB [0, x1, x2, x3, x4, x5] (rs.getD k zCl).ts = true → fidx (fun c => fireB [0, x1, x2, x3, x4, x5] c.ts) rs = (k : Int)) := fun k h1 h2 h3 => fidx_at _ rs k h1 h2 h3
  have HX2 : Hid (rs.all (fun c => !fireB [0, x1, x2, x3, x4, x5] c.ts) = true → fidx (fun c => fireB [0, x1, x2, x3, x4, x5] c.ts) rs = -1) := fidx_none _ rs
  clear hr hp
  generalize decN rs [0, x1, x2, x3, x4, x5] = dn at *
  generalize decC rs [0, x1, x2, x3, x4, x5] = dc at *
  generalize fidx (fun c => fireB [0, x1, x2, x3, x4, x5] c.ts) rs = fx at *
  generalize fltC rs = fc at *
  rcases hv with ⟨v1, rfl⟩ | ⟨v1, v2, rfl⟩ | ⟨v1, v2, rfl⟩
  · rcases hw with ⟨_, rfl, rfl⟩ | ⟨h, _⟩ | ⟨h, _⟩
    · go_enter Try.func13, Try.ntmps13
      go_wp2
      go_ret2
      exact ⟨rfl, below_alloc _ _⟩
    · omega
    · omega
  · rcases hw with ⟨_, rfl, rfl⟩ | ⟨h, _⟩ | ⟨h, _⟩
    · rw [v2] at HC
      go_enter Try.func13, Try.ntmps13
      go_wp2_with (go_at_call 9; refine (HC.out _ (below_alloc _ _)).mono ?_; rintro e w2 ⟨rfl, hb2⟩)
      go_ret2
      exact ⟨rfl, chain (below_alloc _ _) hb2⟩
    · omega
    · omega
  have HM2 : Hid _ := HM.out v2
  rw [v2] at HC
  clear HM v2
  have HW5 : Hid (hasL (rm []) [0, x1, x2, x3, x4, x5] = false → dn = 0 ∧ dc = 5) := fun h => by
    rcases hw with ⟨h0, _⟩ | ⟨_, _, q⟩ | ⟨_, h0, _⟩
    · exact absurd rfl h0
    · exact q
    · rw [h] at h0; cases h0
  have HW8 : Hid (hasL (rm []) [0, x1, x2, x3, x4, x5] = true → fx = -1 → dn = 0 ∧ dc = 8) := fun h hx => by
    rcases hw with ⟨h0, _⟩ | ⟨_, h0, _⟩ | ⟨_, _, ⟨_, q⟩ | ⟨q, _⟩⟩
    · exact absurd rfl h0
    · rw [h] at h0; cases h0
    · exact q
    · omega
  have HW0 : Hid (hasL (rm []) [0, x1, x2, x3, x4, x5] = true → ∀ k : Nat, fx = (k : Int) → dn = (k : Int) ∧ dc = 0) := fun h k hx => by
    rcases hw with ⟨h0, _⟩ | ⟨_, h0, _⟩ | ⟨_, _, ⟨q, _⟩ | ⟨_, q1, q2⟩⟩
    · exact absurd rfl h0
    · rw [h] at h0; cases h0
    · omega
    · exact ⟨q1.trans hx, q2⟩
  clear hw
  have HFs : Hid (∀ W, Below (w.alloc (Obj.cells #[.int .i64 x1, .int .i64 x2, .int .i64 x3, .int .i64 x4, .int .i64 x5] 33)).heap.size (w.alloc (Obj.cells #[.int .i64 x1, .int .i64 x2, .int .i64 x3, .int .i64 x4, .int .i64 x5] 33)) W → FcAt W w.heap.size x1 x2 x3 x4 x5) := fun W hW => (FcAt.new w x1 x2 x3 x4 x5).below hW (by simp)
  go_enter Try.func13, Try.ntmps13
  go_wp2_with (go_at_call 9; refine (HC.out _ (below_alloc _ _)).mono ?_; rintro e w2 ⟨rfl, hb2⟩; have H2 : Hid (Below w.heap.size w w2 ∧ FcAt w2 w.heap.size x1 x2 x3 x4 x5) := ⟨chain (below_alloc _ _) hb2, HFs.out _ hb2⟩; clear hb2)
  go_loopw [6] (fun c wr => ∃ k : Nat, (1 ≤ k ∧ k ≤ 6) ∧ c = .int .i64 (k : Int) ∧ hasN (rm []) [0, x1, x2, x3, x4, x5] k = true ∧ Below w.heap.size w wr ∧ FcAt wr w.heap.size x1 x2 x3 x4 x5) (fun c _ => 6 - (intOf c).toNat)
  case atStart => exact ⟨1, by omega, rfl, rfl, H2.out.1, H2.out.2⟩
  case round =>
    obtain ⟨k, hk, rfl, hf, hb, hfc⟩ := hrel
    have HF : Hid (hasN (rm []) [0, x1, x2, x3, x4, x5] k = true) := hf
    have HB : Hid (Below w.heap.size w wr) := hb
    have HFc : Hid (FcAt wr w.heap.size x1 x2 x3 x4 x5) := hfc
    obtain ⟨f0, f1, f2, f3, f4⟩ := hfc
    clear hf hb H2 HFs HC
    by_cases hlt : k ≤ 5
    · have hlt' : (k : Int) ≤ 5 := by omega
      have hA := fun W => fact_any x1 x2 x3 x4 x5 k hk.1 hlt W
      have hL := fun W => low_any k hk.1 hlt W
      have hG := fun W => high_any k hk.1 hlt W
      have HY : Hid (¬ (loF (k : Int) ≤ [0, x1, x2, x3, x4, x5].getD k 0 ∧ [0, x1, x2, x3, x4, x5].getD k 0 ≤ hiF (k : Int)) → dn = 0 ∧ dc = 5) := fun h => HW5.out (hasL_no (k := k) (by omega) (fun q => h ((hasW_at _ k hk.1 hlt).mp q)))
      have HN : Hid ((loF (k : Int) ≤ [0, x1, x2, x3, x4, x5].getD k 0 ∧ [0, x1, x2, x3, x4, x5].getD k 0 ≤ hiF (k : Int)) → hasN (rm []) [0, x1, x2, x3, x4, x5] (k + 1) = true) := fun h => hasN_next HF.out ((hasW_at _ k hk.1 hlt).mpr h)
      clear HW5 HW8 HW0 HX1 HX2 HM2
      generalize [0, x1, x2, x3, x4, x5].getD k 0 = f at *
      generalize loF (k : Int) = lo at *
      generalize hiF (k : Int) = hi at *
      have hI : ∀ b, inB f lo hi = b → ∀ W, Calls Try.prog 37 #[.int .i64 f, .int .i64 lo, .int .i64 hi] W fun e w' => e = .returned (.bool b) ∧ w' = W := fun b e W => e ▸ in_any f lo hi W
      by_cases hq : lo ≤ f ∧ f ≤ hi
      · have H1 : Hid _ := HN.out hq
        have hI2 := hI true (decide_eq_true hq)
        clear HY HN hq hI
        go_wp2_with (first | (go_at_call 38; refine (hA _).mono ?_; rintro e w3 ⟨rfl, hb3⟩) | (go_at_call 39; refine (hL _).mono ?_; rintro e w4 ⟨rfl, hb4⟩) | (go_at_call 40; refine (hG _).mono ?_; rintro e w5 ⟨rfl, hb5⟩) | (go_at_call 37; refine (hI2 _).mono ?_; rintro e w6 ⟨rfl, hq⟩; rw [hq]; clear hq w6))
        have hbb := chain (chain hb3 hb4) hb5
        exact ⟨⟨k + 1, by omega, by go_num, H1.out, chain HB.out hbb, HFc.out.later hbb⟩, by simp [intOf]; omega⟩
      · obtain ⟨rfl, rfl⟩ := HY.out hq
        have hI2 := hI false (decide_eq_false hq)
        clear HY HN hq hI
        go_wp2_with (first | (go_at_call 38; refine (hA _).mono ?_; rintro e w3 ⟨rfl, hb3⟩) | (go_at_call 39; refine (hL _).mono ?_; rintro e w4 ⟨rfl, hb4⟩) | (go_at_call 40; refine (hG _).mono ?_; rintro e w5 ⟨rfl, hb5⟩) | (go_at_call 37; refine (hI2 _).mono ?_; rintro e w6 ⟨rfl, hq⟩; rw [hq]; clear hq w6))
        go_ret2
        exact ⟨rfl, chain HB.out (chain (chain hb3 hb4) hb5)⟩
    · obtain rfl : k = 6 := by omega
      have hH6 : hasL (rm []) [0, x1, x2, x3, x4, x5] = true := HF.out
      have HV8 : Hid _ := HW8.out hH6
      have HV0 : Hid _ := HW0.out hH6
      clear HW8 HW0 HW5 hH6 HF
      go_wp2
      go_loopw [7] (fun c wq => ∃ j : Nat, j ≤ rs.length ∧ c = .int .i64 (j : Int) ∧ NoFire [0, x1, x2, x3, x4, x5] rs j ∧ Below w.heap.size w wq ∧ FcAt wq w.heap.size x1 x2 x3 x4 x5) (fun c _ => rs.length - (intOf c).toNat)
      case atStart => exact ⟨0, Nat.zero_le _, rfl, rfl, HB.out, HFc.out⟩
      case round =>
        obtain ⟨j, hj, rfl, hf, hb, hfc⟩ := hrel
        have HFj : Hid ((rs.take j).all (fun c => !fireB [0, x1, x2, x3, x4, x5] c.ts) = true) := hf
        have HBj : Hid (Below w.heap.size w wr) := hb
        have HFcj : Hid (FcAt wr w.heap.size x1 x2 x3 x4 x5) := hfc
        clear hf hb hfc HB HFc f0 f1 f2 f3 f4
        by_cases hlt : j < rs.length
        · have hlt' : (j : Int) < (rs.length : Int) := by omega
          rcases HR.out with h | ⟨b0, o0, ha, hB0, ia⟩
          · rw [h] at hlt; simp at hlt
          subst ha
          obtain ⟨h, cp, hAt, hcp, hS⟩ := (ia.below HBj.out hB0 (Nat.le_refl _)) j hlt
          have hok := getCl HM2.out hlt
          have hB0' : b0 < wr.heap.size := Nat.lt_of_lt_of_le hB0 HBj.out.size
          have HT : Hid (∀ W, Below wr.heap.size wr W → ClAt W b0 (o0 + j * 4) h cp (rs.getD j zCl) ∧ FcAt W w.heap.size x1 x2 x3 x4 x5) := fun W hW => ⟨hAt.below hW hB0', HFcj.out.later hW⟩
          have HG : Hid (∀ W, Below wr.heap.size wr W → Calls Try.prog 41 #[.slice h (rs.getD j zCl).ts.length cp, .agg #[.int .i64 x1, .int .i64 x2, .int .i64 x3, .int .i64 x4, .int .i64 x5]] W fun e w' => e = .returned (.bool (fireB [0, x1, x2, x3, x4, x5] (rs.getD j zCl).ts)) ∧ Below W.heap.size W w') := fun W hW => fires_any h cp _ hok.2 (by have := hok.1.2; omega) x1 x2 x3 x4 x5 W ((hS.mono HBj.out.size).later hW)
          have HY : Hid (fireB [0, x1, x2, x3, x4, x5] (rs.getD j zCl).ts = true → dn = (j : Int) ∧ dc = 0) := fun q => HV0.out j (HX1.out j hlt HFj.out q)
          have HN : Hid (fireB [0, x1, x2, x3, x4, x5] (rs.getD j zCl).ts = false → NoFire [0, x1, x2, x3, x4, x5] rs (j + 1)) := fun q => by unfold NoFire; rw [cls_take _ rs j hlt, HFj.out, q]; rfl
          clear ia hS hok hcp hAt HV0 HV8 HX1 HX2 HM2 HFj
          generalize rs.getD j zCl = q at *
          obtain ⟨nm, ts, ac, nu⟩ := q
          dsimp only at *
          generalize fireB [0, x1, x2, x3, x4, x5] ts = fb at *
          generalize hN : ts.length = n at *
          have HWf : Hid (fb = false ∨ fb = true) := by cases fb; exact .inl rfl; exact .inr rfl
          go_wp2
          refine wp_region_held_drew (S := fun W => Below wr.heap.size wr W) (by kernel_rfl) (below_drew _) (fun hH => ?_)
          refine wpAnyH_take (i := 0) (v := .slice (some ⟨b0, o0, none⟩) rs.length cap) rfl (by kernel_rfl) (by kernel_rfl) (by kernel_rfl) (fun _ _ _ h => h) (Or.inl ⟨by rfl, fun w hSw => by go_simp⟩) hH ?_
          refine wpAnyH_take (i := 1) (v := .int .i64 (j : Int)) rfl (by kernel_rfl) (by kernel_rfl) (by kernel_rfl) (fun _ _ _ h => h) (Or.inl ⟨by rfl, fun w hSw => by go_simp⟩) hH ?_
          try simp only [Act.put, List.setIfInBounds_toArray, List.set_cons_zero, List.set_cons_succ, List.getElem_toArray, List.getElem_cons_succ, List.getElem_cons_zero]
          refine wpAnyH_take (i := 2) (v := .pointer (some ⟨b0, o0 + j * 4, none⟩)) rfl (by kernel_rfl) (by kernel_rfl) (by kernel_rfl) (fun _ _ _ h => h) (Or.inl ⟨by rfl, fun w hSw => by go_simp⟩) hH ?_
          try simp only [Act.put, List.setIfInBounds_toArray, List.set_cons_zero, List.set_cons_succ, List.getElem_toArray, List.getElem_cons_succ, List.getElem_cons_zero]
          refine wpAnyH_take (i := 3) (v := .pointer (some ⟨b0, o0 + j * 4 + 1, none⟩)) rfl (by kernel_rfl) (by kernel_rfl) (by kernel_rfl) (fun _ _ _ h => h) (Or.inl ⟨by rfl, fun w hSw => by go_simp⟩) hH ?_
          try simp only [Act.put, List.setIfInBounds_toArray, List.set_cons_zero, List.set_cons_succ, List.getElem_toArray, List.getElem_cons_succ, List.getElem_cons_zero]
          refine wpAnyH_take (i := 4) (v := .slice h n cp) rfl (by kernel_rfl) (by kernel_rfl) (by kernel_rfl) (fun _ _ _ h => h) (Or.inl ⟨by rfl, fun w hSw => by obtain ⟨⟨s0, s1, s2, s3⟩, _⟩ := HT.out w hSw; dsimp only at s0 s1 s2 s3; rw [hN] at s1; go_simp⟩) hH ?_
          try simp only [Act.put, List.setIfInBounds_toArray, List.set_cons_zero, List.set_cons_succ, List.getElem_toArray, List.getElem_cons_succ, List.getElem_cons_zero]
          refine wpAnyH_take (i := 5) (v := .agg #[.int .i64 x1, .int .i64 x2, .int .i64 x3, .int .i64 x4, .int .i64 x5]) rfl (by kernel_rfl) (by kernel_rfl) (by kernel_rfl) (fun _ _ _ h => h) (Or.inl ⟨by rfl, fun w hSw => by obtain ⟨_, s0, s1, s2, s3, s4⟩ := HT.out w hSw; go_simp⟩) hH ?_
          try simp only [Act.put, List.setIfInBounds_toArray, List.set_cons_zero, List.set_cons_succ, List.getElem_toArray, List.getElem_cons_succ, List.getElem_cons_zero]
          refine wpAnyH_ready (rs := [6]) (by kernel_rfl) (by simp) ?_
          refine AllReadyH.cons rfl (fun K hK => ?_) AllReadyH.nil
          go_simp
          go_at_call 41
          refine (HG.out _ hH).mono ?_
          rintro e w3 ⟨rfl, hb3⟩
          have hw3 := chain hH hb3
          refine hK.out _ _ hw3 (fun _ => ?_)
          clear hK K
          try simp only [Act.put, List.setIfInBounds_toArray, List.set_cons_zero, List.set_cons_succ, List.getElem_toArray, List.getElem_cons_succ, List.getElem_cons_zero]
          refine wpAnyH_done (by kernel_rfl) ?_ _
          try simp
          have HB3 : Hid (Below w.heap.size w w3) := chain HBj.out hw3
          have HF3 : Hid (FcAt w3 w.heap.size x1 x2 x3 x4 x5) := (HT.out w3 hw3).2
          clear hw3 hb3 hH HT HG
          rcases HWf.out with rfl | rfl
          · have HE : Hid _ := HN.out rfl
            go_wp2
            go_roundw
            case rel => exact ⟨_, _, .int .i64 ((j : Int) + 1), ⟨j + 1, by omega, by go_num, HE.out, HB3.out, HF3.out⟩, rfl, rfl, rfl⟩
            case measure => simp [intOf]; omega
          · obtain ⟨rfl, rfl⟩ := HY.out rfl
            go_wp2
            go_ret2
            exact ⟨rfl, HB3.out⟩
        · have hle : (rs.length : Int) ≤ (j : Int) := by omega
          obtain ⟨rfl, rfl⟩ := HV8.out (HX2.out (by have := HFj.out; rwa [List.take_of_length_le (by omega)] at this))
          go_wp2
          go_ret2
          exact ⟨rfl, HBj.out⟩
end Go.Proofs.Ytpldllmbblomfaa

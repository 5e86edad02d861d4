/-
  Contract of the specification's FillTrucks, for all arguments.
-/
import Derived.Test.YtbgjekhekjbcpaaTkC
namespace Go.Proofs.Ytbgjekhekjbcpaa
open Go.ChangeShapes Go.WideShapes Go.ChangeAt Go.RowKit Go.Joins Go.Deep
set_option linter.unusedVariables false

def boN : Value → Nat
  | .bool true => 1
  | _ => 0
theorem own2_drewN {B : Nat} {w : World} {g : Option Addr} {L : List Int} (h : Own2 B w g L) (n : Nat) : Own2 B (w.drewN n) g L := h.below (below_drewN (Below.refl w.heap.size _) n) (Nat.le_refl _)
theorem stp_out {lim cur : List Int} {r k : Nat} (hk : k ≤ cur.length) (h : k = cur.length ∨ (stp lim cur r k).2 = 0) : stp lim cur r k = rnd lim cur r := by
  rcases h with h | h
  · rw [h]; rfl
  · have := stp_zero h (cur.length - k)
    rw [show k + (cur.length - k) = cur.length by omega] at this
    exact this.symm
set_option maxHeartbeats 8000000 in
set_option maxRecDepth 8000 in
theorem specTrucks_any (a : Option Addr) (cap : Nat) (rs : List RLd) (tr : Int) (hl : rs.length ≤ 100000000) (w : World) (hr : ReadsLd w.heap.size w a rs) :
    Calls Try.prog 24 #[.slice a rs.length cap, .int .i64 tr] w (AnsT w (tkL rs tr) (tkT rs tr) (tkC rs tr)) := by
  have HI : Hid (∀ W, Calls Try.prog 45 #[.int .i64 tr, .int .i64 1, .int .i64 100] W fun e w' => e = .returned (.bool (inB tr 1 100)) ∧ W = w') := fun W => (in_any _ _ _ W).mono (fun e w' h => ⟨h.1, h.2.symm⟩)
  have HR : Hid (ReadsLd w.heap.size w a rs) := hr
  clear hr
  by_cases g1 : 4096 < rs.length
  · rcases tk_ways rs tr with ⟨_, e1, e2, e3⟩ | ⟨h, _⟩ | ⟨h, _⟩ | ⟨h, _⟩ | ⟨h, _⟩
    · rw [e1, e2, e3]
      have l1 : (4096 : Int) < (rs.length : Int) := by omega
      clear e1 e2 e3
      go_enter Try.func24, Try.ntmps24
      go_wp2
      go_ret3
      exact AnsT.nil _ _ (below_alloc _ _)
    all_goals omega
  by_cases g2 : 40 < rs.length
  · rcases tk_ways rs tr with ⟨h, _⟩ | ⟨_, _, e1, e2, e3⟩ | ⟨h, _⟩ | ⟨h, _⟩ | ⟨h, _⟩
    · omega
    · rw [e1, e2, e3]
      have l1 : ¬ (4096 : Int) < (rs.length : Int) := by omega
      have l2 : (40 : Int) < (rs.length : Int) := by omega
      clear e1 e2 e3
      go_enter Try.func24, Try.ntmps24
      go_wp2
      go_ret3
      exact AnsT.nil _ _ (below_alloc _ _)
    all_goals omega
  have l1 : ¬ (4096 : Int) < (rs.length : Int) := by omega
  have l2 : ¬ (40 : Int) < (rs.length : Int) := by omega
  by_cases g3 : inB tr 1 100 = false
  · rcases tk_ways rs tr with ⟨h, _⟩ | ⟨_, h, _⟩ | ⟨_, _, e1, e2, e3⟩ | ⟨_, h, _⟩ | ⟨_, h, _⟩
    · omega
    · omega
    · rw [e1, e2, e3]
      rw [g3] at HI
      clear e1 e2 e3 g3
      go_enter Try.func24, Try.ntmps24
      go_wp2_with (go_at_call 45; refine (HI.out _).mono ?_; rintro e w2 ⟨rfl, rfl⟩)
      go_ret3
      exact AnsT.nil _ _ (below_alloc _ _)
    · rw [g3] at h; cases h
    · rw [g3] at h; cases h
  have g3' : inB tr 1 100 = true := by simpa using g3
  rw [g3'] at HI
  have htr : 1 ≤ tr ∧ tr ≤ 100 := by unfold inB at g3'; simpa using g3'
  have HBad : Hid (ldsB rs = false → tkC rs tr = 1 ∧ tkL rs tr = [] ∧ tkT rs tr = 0) := fun hb => by
    rcases tk_ways rs tr with ⟨h, _⟩ | ⟨_, h, _⟩ | ⟨_, h, _⟩ | ⟨_, _, _, h⟩ | ⟨_, _, h, _⟩
    · omega
    · omega
    · rw [g3'] at h; cases h
    · exact h
    · rw [hb] at h; cases h
  have HGood : Hid (ldsB rs = true → tkC rs tr = 0 ∧ tkL rs tr = tkF rs tr ∧ tkT rs tr = tkN rs tr) := fun hb => by
    rcases tk_ways rs tr with ⟨h, _⟩ | ⟨_, h, _⟩ | ⟨_, h, _⟩ | ⟨_, _, h, _⟩ | ⟨_, _, _, h⟩
    · omega
    · omega
    · rw [g3'] at h; cases h
    · rw [hb] at h; cases h
    · exact h
  have HNum : Hid (ldsB rs = true → (0 ≤ tkA rs ∧ tkA rs ≤ 40000) ∧ (tkA rs + tr - 1).tdiv tr = tkN rs tr ∧ (0 ≤ tkN rs tr ∧ tkN rs tr ≤ 40100) ∧ tkN rs tr * tr = tkA rs + (tkR rs tr : Int) ∧ tkR rs tr ≤ 100) := fun h => tk_nums (by omega) htr h
  obtain ⟨t1, t2⟩ := htr
  obtain ⟨i0, hi, hzz⟩ := Option.map_eq_some_iff.1 intInfo1
  simp only [Prod.mk.injEq] at hzz
  obtain ⟨hi0, hi1, hi2⟩ := hzz
  have H0 : Hid (One w w.heap.size (.slice (some ⟨w.heap.size, 0, none⟩) 0 0) [] (w.alloc (Obj.cells #[] 3))) := One.start w _ rfl
  have hlen : rs.length ≤ 40 := by omega
  clear g1 g2 g3 g3' hl
  go_enter Try.func24, Try.ntmps24
  go_wp2_with (go_at_call 45; refine (HI.out _).mono ?_; rintro e w2 ⟨rfl, rfl⟩)
  clear HI l1 l2
  go_loopw [7, 8, 9] (fun v al c wr => ∃ k : Nat, k ≤ rs.length ∧ c = .int .i64 (k : Int) ∧ al = .int .i64 (pS (plL rs) k) ∧ (0 ≤ pS (plL rs) k ∧ pS (plL rs) k ≤ 1000 * (k : Int)) ∧ ldsB (rs.take k) = true ∧ One w w.heap.size v (plL (rs.take k)) wr) (fun _ _ c _ => rs.length - (intOf c).toNat)
  case atStart => exact ⟨0, Nat.zero_le _, rfl, rfl, by simp [pS], rfl, H0.out⟩
  case round =>
    clear H0
    obtain ⟨k, hk, rfl, rfl, hps, hok, hO⟩ := hrel
    have HK : Hid ((plL (rs.take k)).length = k) := by rw [plL_len, List.length_take]; show min k rs.length = k; omega
    have HOk : Hid (ldsB (rs.take k) = true) := hok
    obtain ⟨gv, cv, hv⟩ := row_slice hO.1
    rw [HK.out] at hv
    subst hv
    have HO2 : Hid (One w w.heap.size (.slice gv k cv) (plL (rs.take k)) wr) := hO
    clear hO hok
    by_cases hlt : k < rs.length
    · have hlt' : (k : Int) < (rs.length : Int) := by omega
      rcases HR.out with h | ⟨b0, o0, ha, hB0, ia⟩
      · rw [h] at hlt; simp at hlt
      obtain ⟨c0, c1⟩ := (ia.below HO2.out.2.2 hB0) k hlt
      have HN : Hid (plL (rs.take (k + 1)) = plL (rs.take k) ++ [(rs.getD k zLd).pl]) := plL_take rs k hlt
      have HFl : Hid (ldB (rs.getD k zLd) = false → ldsB rs = false) := fun h => lds_fail hlt h
      have HTk : Hid (ldsB (rs.take (k + 1)) = (ldsB (rs.take k) && ldB (rs.getD k zLd))) := lds_take rs k hlt
      have HPs : Hid (pS (plL rs) (k + 1) = pS (plL rs) k + (rs.getD k zLd).pl) := by show pS (plL rs) k + (plL rs).getD k 0 = _; rw [plL_at rs k hlt]
      have HFa : Hid (ldB (rs.getD k zLd) = true → (0 ≤ (rs.getD k zLd).pl ∧ (rs.getD k zLd).pl ≤ 1000) ∧ 0 ≤ (rs.getD k zLd).ex ∧ (rs.getD k zLd).ex ≤ 1000) := fun h => ld_facts h
      have HA : Hid (∀ W, Calls Try.prog 45 #[.int .i64 (rs.getD k zLd).pl, .int .i64 0, .int .i64 1000] W fun e w' => e = .returned (.bool (inB (rs.getD k zLd).pl 0 1000)) ∧ W = w') := fun W => (in_any _ _ _ W).mono (fun e w' h => ⟨h.1, h.2.symm⟩)
      have HB : Hid (∀ W, Calls Try.prog 45 #[.int .i64 (rs.getD k zLd).ex, .int .i64 0, .int .i64 1000] W fun e w' => e = .returned (.bool (inB (rs.getD k zLd).ex 0 1000)) ∧ W = w') := fun W => (in_any _ _ _ W).mono (fun e w' h => ⟨h.1, h.2.symm⟩)
      rw [ha]
      clear ia
      unfold ldB at HFl HTk HFa
      generalize rs.getD k zLd = r at *
      obtain ⟨p0, p1⟩ := r
      dsimp only at *
      generalize inB p0 0 1000 = m0 at *
      generalize inB p1 0 1000 = m1 at *
      go_wp2_with fail
      (first | go_at_call 45 | skip)
      refine (HA.out _).mono ?_
      rintro e w2 ⟨rfl, rfl⟩
      cases m0
      · obtain ⟨e1, e2, e3⟩ := HBad.out (HFl.out rfl)
        have HE9 : Hid (tkC rs tr = 1 ∧ tkL rs tr = [] ∧ tkT rs tr = 0) := ⟨e1, e2, e3⟩
        clear e1 e2 e3
        have HB9 : Hid (Below w.heap.size w wr) := HO2.out.2.2
        have HZ9 : Hid (w.heap.size ≤ wr.heap.size) := HO2.out.2.1
        go_wp2
        go_ret3
        rw [HE9.out.1, HE9.out.2.1, HE9.out.2.2]
        exact AnsT.nil _ _ (HB9.out.alloc HZ9.out _)
      go_wp2_with fail
      (first | go_at_call 45 | skip)
      refine (HB.out _).mono ?_
      rintro e w3 ⟨rfl, rfl⟩
      cases m1
      · obtain ⟨e1, e2, e3⟩ := HBad.out (HFl.out rfl)
        have HE9 : Hid (tkC rs tr = 1 ∧ tkL rs tr = [] ∧ tkT rs tr = 0) := ⟨e1, e2, e3⟩
        clear e1 e2 e3
        have HB9 : Hid (Below w.heap.size w wr) := HO2.out.2.2
        have HZ9 : Hid (w.heap.size ≤ wr.heap.size) := HO2.out.2.1
        go_wp2
        go_ret3
        rw [HE9.out.1, HE9.out.2.1, HE9.out.2.2]
        exact AnsT.nil _ _ (HB9.out.alloc HZ9.out _)
      obtain ⟨⟨f1, f2⟩, f3, f4⟩ := HFa.out rfl
      obtain ⟨s1, s2⟩ := hps
      obtain ⟨y, hy⟩ : ∃ y, pS (plL rs) k + p0 = y := ⟨_, rfl⟩
      have hw1 : IntKind.i64.wrap (pS (plL rs) k + p0) = y := by rw [← hy]; exact wrap_id _ (by omega) (by omega)
      have HY : Hid (pS (plL rs) (k + 1) = y ∧ 0 ≤ y ∧ y ≤ 1000 * ((k : Int) + 1)) := ⟨by rw [HPs.out, hy], by omega, by omega⟩
      clear hy
      generalize pS (plL rs) k = s at *
      generalize plL (rs.take k) = L at *
      have HO3 : Hid (∀ W, Below wr.heap.size wr W → W.cell? ⟨b0, o0 + k * 2, none⟩ = some (.int .i64 p0)) := fun W hW => by
        have : b0 < wr.heap.size := Nat.lt_of_lt_of_le hB0 HO2.out.2.1
        exact (hW.cell (p := ⟨b0, o0 + k * 2, none⟩) this).trans c0
      have HS9 : Hid (∀ w5, wr.grownBy w5 (Value.slice gv k cv).ownBlock → w5.cell? ⟨b0, o0 + k * 2, none⟩ = some (.int .i64 p0)) := fun w5 hg => by
        have : Below w.heap.size wr w5 := (Below.refl _ wr).grown hg HO2.out.2.1 (fun q hq => by have h9 := HO2.out.1; rw [HK.out] at h9; exact (h9.lt q hq).1)
        exact (this.cell (p := ⟨b0, o0 + k * 2, none⟩) hB0).trans c0
      go_wp2_with (at_builtin; refine wpList_append_lies _ rfl _ _ 33 rfl w.heap.size 3 i0 (.int .i64 0) 1 8 Try.underlying33 hi hi0 hi1 hi2 rfl (by decide) _ _ _ rfl (by have h9 := HO2.out.1; rw [HK.out] at h9; exact h9.alloc _) ⟨wr.heap.size, 0, none⟩ 1 1 [.int .i64 p0] rfl rfl (newsOne wr _ _) (by intro u hu; simp at hu; subst hu; rfl) (by omega) (by unfold maxLen; omega) (by omega) (by have := HO2.out.2.1; simp; omega) _ rfl ?_; intro g1 cp1 w5 hown1 hgrow1 hat1 hglt1; have HT5 : Hid _ := (HO2.out.alloc _).push (by rw [HK.out]; exact hown1) hgrow1; have hc5 : w5.cell? ⟨b0, o0 + k * 2, none⟩ = some (.int .i64 p0) := (HT5.out.2.2.cell (p := ⟨b0, o0 + k * 2, none⟩) hB0).trans ((HO2.out.2.2.cell (p := ⟨b0, o0 + k * 2, none⟩) hB0).symm.trans c0); clear hown1 hgrow1 hat1 hglt1)
      exact ⟨⟨k + 1, by omega, by go_num, by rw [HY.out.1], by rw [HY.out.1]; exact ⟨HY.out.2.1, by have := HY.out.2.2; omega⟩, by rw [HTk.out, HOk.out]; rfl, by rw [HN.out]; have h9 := HT5.out; rw [HK.out] at h9; exact h9⟩, by simp [intOf]; omega⟩
    · have hle : (rs.length : Int) ≤ (k : Int) := by omega
      obtain rfl : k = rs.length := by omega
      have hgood : ldsB rs = true := by have := HOk.out; rwa [List.take_of_length_le (Nat.le_refl _)] at this
      have HEq : Hid (tkC rs tr = 0 ∧ tkL rs tr = tkF rs tr ∧ tkT rs tr = tkN rs tr) := HGood.out hgood
      obtain ⟨⟨n1, n2⟩, n3, ⟨n4, n5⟩, n6, n7⟩ := HNum.out hgood
      have HO4 : Hid (Own2 w.heap.size wr gv (plL rs) ∧ Below w.heap.size w wr ∧ w.heap.size ≤ wr.heap.size) := by
        have h1 := HO2.out.own2 HK.out.symm
        rw [List.take_of_length_le (Nat.le_refl _)] at h1
        exact ⟨h1, HO2.out.2.2, HO2.out.2.1⟩
      have hAA : pS (plL rs) rs.length = tkA rs := rfl
      rw [hAA]
      have HLd : Hid (∀ k, k < rs.length → (0 ≤ (rs.getD k zLd).pl ∧ (rs.getD k zLd).pl ≤ 1000) ∧ 0 ≤ (rs.getD k zLd).ex ∧ (rs.getD k zLd).ex ≤ 1000) := fun k hk => lds_at hgood hk
      have HPb : Hid (∀ i, i < (plL rs).length → 0 ≤ (plL rs).getD i 0 ∧ (plL rs).getD i 0 ≤ 1000) := fun i hi => by rw [plL_len] at hi; rw [plL_at rs i hi]; exact (lds_at hgood hi).1
      have HFd : Hid (fil (lmL rs) (tkR rs tr + 1) (plL rs) (tkR rs tr) = tkF rs tr) := rfl
      have hlF : (tkF rs tr).length = rs.length := by unfold tkF; rw [fil_len, plL_len]
      have HlF : Hid ((tkF rs tr).length = rs.length) := hlF
      clear HBad HGood HNum HO2 HK HOk hps hAA hgood hlF
      have z0 : (tr == 0) = false := by simp; omega
      have z1 : ¬ tr = 0 := by omega
      generalize tkF rs tr = F at *
      generalize tkN rs tr = nn at *
      generalize tkA rs = aa at *
      generalize tkR rs tr = r0 at *
      obtain ⟨x1, hx1⟩ : ∃ x1, aa + tr = x1 := ⟨_, rfl⟩
      have w1 : IntKind.i64.wrap (aa + tr) = x1 := by rw [← hx1]; exact wrap_id _ (by omega) (by omega)
      obtain ⟨x2, hx2⟩ : ∃ x2, x1 - 1 = x2 := ⟨_, rfl⟩
      have w2 : IntKind.i64.wrap (x1 - 1) = x2 := by rw [← hx2]; exact wrap_id _ (by omega) (by omega)
      rw [hx1, hx2] at n3
      have q1 : x2 / tr = nn := by rw [← n3]; exact (Int.tdiv_eq_ediv_of_nonneg (by omega)).symm
      have w3 : IntKind.i64.wrap nn = nn := wrap_id _ (by omega) (by omega)
      obtain ⟨x3, hx3⟩ : ∃ x3, nn * tr = x3 := ⟨_, rfl⟩
      have w4 : IntKind.i64.wrap (nn * tr) = x3 := by rw [← hx3]; exact wrap_id _ (by omega) (by omega)
      rw [hx3] at n6
      have w5 : IntKind.i64.wrap (x3 - aa) = (r0 : Int) := by rw [show x3 - aa = (r0 : Int) by omega]; exact wrap_id _ (by omega) (by omega)
      have hx2n : 0 ≤ x2 := by omega
      clear hx1 hx2 hx3 n6
      go_wp2_with fail
      obtain ⟨wo, hwo⟩ : ∃ wo, wo = wr := ⟨_, rfl⟩
      have HWo : Hid (wo = wr) := hwo
      rw [← hwo] at HO4
      clear hwo
      go_loopw [11, 12, 13] (fun lv mv _ wr => ∃ (cur : List Int) (r : Nat) (m : Bool), lv = .int .i64 (r : Int) ∧ mv = .bool m ∧ r ≤ r0 ∧ cur.length = rs.length ∧ (∀ i, i < cur.length → 0 ≤ cur.getD i 0 ∧ cur.getD i 0 + (r : Int) ≤ 1000 + (r0 : Int)) ∧ (m = true → fil (lmL rs) (r + 1) cur r = F) ∧ (m = false → cur = F) ∧ Own2 w.heap.size wr gv cur ∧ Below w.heap.size w wr ∧ w.heap.size ≤ wr.heap.size) (fun lv mv _ _ => 2 * (intOf lv).toNat + boN mv)
      case atStart => exact ⟨plL rs, r0, true, rfl, rfl, Nat.le_refl _, plL_len rs, fun i hi => by have := HPb.out i hi; omega, fun _ => HFd.out, (fun h => by cases h), by rw [← HWo.out]; exact HO4.out.1, by rw [← HWo.out]; exact HO4.out.2.1, by rw [← HWo.out]; exact HO4.out.2.2⟩
      case round =>
        clear HO4 HPb HFd HWo
        obtain ⟨cur, r, m, rfl, rfl, hrr, hcl, hcb, hm1, hm0, ho, hb, hz⟩ := hrel
        have HO : Hid (Own2 w.heap.size wr gv cur) := ho
        have HB : Hid (Below w.heap.size w wr) := hb
        have HZ : Hid (w.heap.size ≤ wr.heap.size) := hz
        have HC : Hid (∀ i, i < cur.length → 0 ≤ cur.getD i 0 ∧ cur.getD i 0 + (r : Int) ≤ 1000 + (r0 : Int)) := hcb
        have HCl : Hid (cur.length = rs.length) := hcl
        have HM1 : Hid (m = true → fil (lmL rs) (r + 1) cur r = F) := hm1
        have HM0 : Hid (m = false → cur = F) := hm0
        clear ho hb hz hcb hcl hm1 hm0
        cases m
        · have hcF := HM0.out rfl
          subst hcF
          go_wp2
          go_ret3
          rw [HEq.out.1, HEq.out.2.1, HEq.out.2.2]
          exact ⟨gv, cv, by rw [HlF.out]; rfl, HO.out, HB.out⟩
        by_cases hr0 : r = 0
        · have hcF : cur = F := by have := HM1.out rfl; rw [hr0, fil_zero] at this; exact this
          subst hcF
          have l3 : ¬ (0 : Int) < (r : Int) := by omega
          clear hr0
          go_wp2
          go_ret3
          rw [HEq.out.1, HEq.out.2.1, HEq.out.2.2]
          exact ⟨gv, cv, by rw [HlF.out]; rfl, HO.out, HB.out⟩
        · have l3 : (0 : Int) < (r : Int) := by omega
          have HRp : Hid (0 < r) := by show 0 < r; omega
          clear hr0
          go_wp2
          go_loopw [11, 12, 13] (fun lv mv c wr => ∃ k : Nat, k ≤ rs.length ∧ c = .int .i64 (k : Int) ∧ lv = .int .i64 ((stp (lmL rs) cur r k).2 : Int) ∧ mv = .bool (!decide ((stp (lmL rs) cur r k).2 = r)) ∧ Own2 w.heap.size wr gv (stp (lmL rs) cur r k).1 ∧ Below w.heap.size w wr ∧ w.heap.size ≤ wr.heap.size) (fun _ _ c _ => rs.length - (intOf c).toNat)
          case atStart => exact ⟨0, Nat.zero_le _, rfl, rfl, by show _ = Value.bool (!decide (r = r)); simp, HO.out, HB.out, HZ.out⟩
          case round =>
            clear HO HB HZ
            obtain ⟨k, hk, rfl, rfl, rfl, ho, hb, hz⟩ := hrel
            have HO : Hid (Own2 w.heap.size wr gv (stp (lmL rs) cur r k).1) := ho
            have HB : Hid (Below w.heap.size w wr) := hb
            have HZ : Hid (w.heap.size ≤ wr.heap.size) := hz
            clear ho hb hz
            have hsle := stp_le (lmL rs) cur r k
            by_cases hgo : k < rs.length ∧ 0 < (stp (lmL rs) cur r k).2
            · obtain ⟨hlt, hq⟩ := hgo
              have hlt' : (k : Int) < (rs.length : Int) := by omega
              rcases HR.out with h | ⟨b0, o0, ha, hB0, ia⟩
              · rw [h] at hlt; simp at hlt
              obtain ⟨c0, c1⟩ := (ia.below HB.out hB0) k hlt
              have HLs : Hid ((stp (lmL rs) cur r k).1.length = rs.length) := (stp_len _ _ _ _).trans HCl.out
              obtain ⟨gb, hg, hgB, hgl, cg0, fg0⟩ := own2_at HO.out (show k < (stp (lmL rs) cur r k).1.length by rw [HLs.out]; exact hlt)
              have hlk := lmL_at rs k hlt
              have hld := HLd.out k hlt
              have hcb : 0 ≤ (stp (lmL rs) cur r k).1.getD k 0 ∧ (stp (lmL rs) cur r k).1.getD k 0 ≤ 100001 := stp_bound (fun i hi => by have := HC.out i hi; omega) (by rw [HCl.out]; exact hk) k (by rw [HCl.out]; exact hlt)
              have HYes : Hid (0 < (stp (lmL rs) cur r k).2 → (stp (lmL rs) cur r k).1.getD k 0 < (lmL rs).getD k 0 → stp (lmL rs) cur r (k + 1) = ((stp (lmL rs) cur r k).1.set k ((stp (lmL rs) cur r k).1.getD k 0 + 1), (stp (lmL rs) cur r k).2 - 1)) := fun h1 h2 => stp_yes h1 h2
              have HNo : Hid (¬ (0 < (stp (lmL rs) cur r k).2 ∧ (stp (lmL rs) cur r k).1.getD k 0 < (lmL rs).getD k 0) → stp (lmL rs) cur r (k + 1) = stp (lmL rs) cur r k) := fun h => stp_no h
              rw [hlk] at HYes HNo
              rw [ha]
              rw [hg] at HO ⊢
              clear ia hlk
              generalize stp (lmL rs) cur r k = s at *
              obtain ⟨C, q⟩ := s
              dsimp only at *
              generalize C.getD k 0 = ck at *
              generalize (rs.getD k zLd).pl = p0 at *
              generalize (rs.getD k zLd).ex = p1 at *
              obtain ⟨⟨f1, f2⟩, f3, f4⟩ := hld
              obtain ⟨g1, g2⟩ := hcb
              have hq' : (0 : Int) < (q : Int) := by omega
              by_cases hck : ck < p0 + p1
              · have HE : Hid (stp (lmL rs) cur r (k + 1) = (C.set k (ck + 1), q - 1)) := HYes.out hq hck
                have HD : Hid (∀ n, (wr.drewN n).cell? ⟨gb, k, none⟩ = some (.int .i64 ck) ∧ (wr.drewN n).frozen? ⟨gb, k, none⟩ = false) := fun n => ⟨cg0, fg0⟩
                clear HYes HNo
                go_wp2
                go_quiet (fail)
                go_wp2
                refine ⟨⟨k + 1, by omega, by go_num, ?_, ?_, ?_, ?_, ?_⟩, by simp [intOf]; omega⟩
                · rw [HE.out]; dsimp only; congr 1; omega
                · rw [HE.out]; dsimp only; rw [decide_eq_false (by omega)]; rfl
                · rw [HE.out]; exact own2_put _ (own2_drewN HO.out _) (by rw [HLs.out]; exact hlt)
                · exact (below_drewN HB.out _).setCell hgB _
                · rw [World.size_setCell]; exact HZ.out
              · have HE : Hid (stp (lmL rs) cur r (k + 1) = (C, q)) := HNo.out (fun h => hck h.2)
                clear HYes HNo
                go_wp2
                go_quiet (fail)
                go_wp2
                exact ⟨⟨k + 1, by omega, by go_num, by rw [HE.out], by rw [HE.out], by rw [HE.out]; exact own2_drewN HO.out _, below_drewN HB.out _, HZ.out⟩, by simp [intOf]; omega⟩
            · have HE : Hid (stp (lmL rs) cur r k = rnd (lmL rs) cur r) := stp_out (by rw [HCl.out]; exact hk) (by rw [HCl.out]; omega)
              have HEx : Hid (rs.length ≤ k ∨ (stp (lmL rs) cur r k).2 = 0) := by show _ ∨ _; omega
              have HEa : Hid (∀ i, (rnd (lmL rs) cur r).1.getD i 0 = cur.getD i 0 ∨ ((rnd (lmL rs) cur r).1.getD i 0 = cur.getD i 0 + 1 ∧ cur.getD i 0 < (lmL rs).getD i 0)) := stp_each (lmL rs) cur r cur.length (Nat.le_refl _)
              have HLe : Hid ((rnd (lmL rs) cur r).1.length = rs.length) := (stp_len _ _ _ _).trans HCl.out
              have HSt : Hid ((rnd (lmL rs) cur r).2 = r → fil (lmL rs) (r + 1) cur r = cur ∧ (rnd (lmL rs) cur r).1 = cur) := fun h => fil_stop h
              have HSp : Hid ((rnd (lmL rs) cur r).2 ≠ r → fil (lmL rs) (r + 1) cur r = fil (lmL rs) ((rnd (lmL rs) cur r).2 + 1) (rnd (lmL rs) cur r).1 (rnd (lmL rs) cur r).2) := fun h => fil_step h
              rw [HE.out] at HO HEx hsle ⊢
              clear HE hgo
              generalize rnd (lmL rs) cur r = s at *
              obtain ⟨C, q⟩ := s
              dsimp only at *
              have HFin : Hid (((!decide (q = r)) = true → fil (lmL rs) (q + 1) C q = F) ∧ ((!decide (q = r)) = false → C = F)) := by
                refine ⟨fun h => ?_, fun h => ?_⟩
                · rw [← HSp.out (by simpa using h)]; exact HM1.out (by trivial)
                · have h' : q = r := by simpa using h
                  rw [(HSt.out h').2, ← (HSt.out h').1]; exact HM1.out (by trivial)
              have HC2 : Hid (∀ i, i < C.length → 0 ≤ C.getD i 0 ∧ C.getD i 0 + (q : Int) ≤ 1000 + (r0 : Int) ∨ q = r ∧ C.getD i 0 = cur.getD i 0 + 1) := fun i hi => by
                rw [HLe.out] at hi
                have h1 := HC.out i (by rw [HCl.out]; exact hi)
                rcases HEa.out i with h | ⟨h, _⟩
                · exact .inl (by omega)
                · by_cases hqr : q = r
                  · exact .inr ⟨hqr, h⟩
                  · exact .inl (by omega)
              have HC3 : Hid (∀ i, i < C.length → 0 ≤ C.getD i 0 ∧ C.getD i 0 + (q : Int) ≤ 1000 + (r0 : Int)) := fun i hi => by
                rcases HC2.out i hi with h | ⟨h1, h2⟩
                · exact h
                · have := (HSt.out h1).2
                  rw [this] at h2
                  omega
              have HMs : Hid (2 * q + boN (.bool (!decide (q = r))) < 2 * r + 1) := by
                show 2 * q + boN (.bool (!decide (q = r))) < 2 * r + 1
                by_cases hqr : q = r
                · rw [decide_eq_true hqr]; simp [boN]; omega
                · rw [decide_eq_false hqr]; simp [boN]; omega
              rcases (by have := HEx.out; omega : rs.length ≤ k ∨ (k < rs.length ∧ q = 0)) with hke | ⟨hke, hq0⟩
              · have l4 : ¬ (k : Int) < (rs.length : Int) := by omega
                clear HEx HC2 HSt HSp HEa
                go_wp2
                exact ⟨⟨C, q, !decide (q = r), by first | rfl | trivial, by first | rfl | trivial, by omega, HLe.out, HC3.out, HFin.out.1, HFin.out.2, HO.out, HB.out, HZ.out⟩, by simpa [intOf, boN] using HMs.out⟩
              · have l4 : (k : Int) < (rs.length : Int) := by omega
                have l5 : ¬ (0 : Int) < (q : Int) := by omega
                clear HEx HC2 HSt HSp HEa hq0
                go_wp2
                exact ⟨⟨C, q, !decide (q = r), by first | rfl | trivial, by first | rfl | trivial, by omega, HLe.out, HC3.out, HFin.out.1, HFin.out.2, HO.out, HB.out, HZ.out⟩, by simpa [intOf, boN] using HMs.out⟩
end Go.Proofs.Ytbgjekhekjbcpaa

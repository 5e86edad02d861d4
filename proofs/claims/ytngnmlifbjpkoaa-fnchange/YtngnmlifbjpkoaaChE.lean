/-
  Contract of the specification's l09Fewest.
-/
import Derived.Test.YtngnmlifbjpkoaaChC
namespace Go.Proofs.Ytngnmlifbjpkoaa
open Go.ChangeShapes Go.WideShapes Go.ChangeAt Go.RowKit
set_option linter.unusedVariables false

theorem mS_out (r : RCo) (h : CoR r) (s j : Nat) (hj : mS r s < j) : r.ct < (j : Int) ∨ (r.ct ≥ (j : Int) ∧ s < j * r.vl.toNat) := by
  obtain ⟨h1, h2, h3, h4⟩ := h
  by_cases e : r.ct < (j : Int)
  · exact .inl e
  · refine .inr ⟨by omega, ?_⟩
    rcases Nat.lt_or_ge s (j * r.vl.toNat) with h' | h'
    · exact h'
    · have := mS_max r h1 s j (by omega) h'
      omega
theorem bS_next (row : Nat → Int) (v n j : Nat) (y cur : Int) (hy : row (n - j * v) = y) (hc : bS row v n j = cur) : bS row v n (j + 1) = if 0 ≤ y ∧ (cur < 0 ∨ y + (j : Int) < cur) then y + (j : Int) else cur := by
  rw [bS, hy, hc]
theorem step_ways (y cur : Int) (j : Int) : (y < 0 ∧ (if 0 ≤ y ∧ (cur < 0 ∨ y + j < cur) then y + j else cur) = cur) ∨ (0 ≤ y ∧ cur < 0 ∧ (if 0 ≤ y ∧ (cur < 0 ∨ y + j < cur) then y + j else cur) = y + j) ∨ (0 ≤ y ∧ 0 ≤ cur ∧ y + j < cur ∧ (if 0 ≤ y ∧ (cur < 0 ∨ y + j < cur) then y + j else cur) = y + j) ∨ (0 ≤ y ∧ 0 ≤ cur ∧ cur ≤ y + j ∧ (if 0 ≤ y ∧ (cur < 0 ∨ y + j < cur) then y + j else cur) = cur) := by
  rcases (by omega : y < 0 ∨ 0 ≤ y) with h | h
  · exact .inl ⟨h, by rw [if_neg (by omega)]⟩
  · rcases (by omega : cur < 0 ∨ 0 ≤ cur) with h2 | h2
    · exact .inr (.inl ⟨h, h2, by rw [if_pos (by omega)]⟩)
    · rcases (by omega : y + j < cur ∨ cur ≤ y + j) with h3 | h3
      · exact .inr (.inr (.inl ⟨h, h2, h3, by rw [if_pos (by omega)]⟩))
      · exact .inr (.inr (.inr ⟨h, h2, h3, by rw [if_neg (by omega)]⟩))
theorem r0S_start (i : Nat) : (if i = 0 then (0 : Int) else if i < 1 then -1 else 0) = 0 := by
  by_cases e : i = 0
  · rw [if_pos e]
  · rw [if_neg e, if_neg (by omega)]
theorem r0S_end (i k : Nat) (h : i < k) : (if i = 0 then (0 : Int) else if i < k then -1 else 0) = r0S i := by
  unfold r0S
  by_cases e : i = 0
  · rw [if_pos e, if_pos e]
  · rw [if_neg e, if_neg e, if_pos h]
theorem rwS_bound (rs : List RCo) (hr : ∀ r ∈ rs, 1 ≤ r.vl ∧ r.vl ≤ 100000 ∧ 0 ≤ r.ct ∧ r.ct ≤ 60) (h12 : rs.length ≤ 12) (k : Nat) (hk : k ≤ rs.length) (n : Nat) : -1 ≤ rwS rs k n ∧ rwS rs k n ≤ 720 := by
  rcases rw_both rs hr h12 k hk n with ⟨h, _⟩ | ⟨h1, h2, _⟩ <;> omega

set_option maxHeartbeats 4000000 in
set_option maxRecDepth 4000 in
theorem specFewest_any (a : Option Addr) (cap : Nat) (rs : List RCo) (hl : rs.length ≤ 12) (hr : ∀ r ∈ rs, 1 ≤ r.vl ∧ r.vl ≤ 100000 ∧ 0 ≤ r.ct ∧ r.ct ≤ 60) (due : Nat) (hd : due ≤ 10000) (w : World) (hw : ReadsCo w.heap.size w a rs) :
    Calls Try.prog 21 #[.int .i64 (due : Int), .slice a rs.length cap] w fun e w' => ∃ v, e = .returned v ∧ Grid w w.heap.size v (rs.length + 1) (due + 1) (rwS rs) w' := by
  have hmk := fun w => run_make_row' (P := Try.prog) 24 3 (.int .i64 0) 8 Try.underlying24 intInfo rfl .i64 .i64 (due + 1) (by omega) (by omega) w
  have ecast : (((due + 1 : Nat)) : Int) = (due : Int) + 1 := by omega
  rw [ecast] at hmk
  obtain ⟨i0, hi, hzz⟩ := Option.map_eq_some_iff.1 slInfo
  simp only [Prod.mk.injEq] at hzz
  obtain ⟨hi0, hi1, hi2⟩ := hzz
  have HR : Hid (ReadsCo w.heap.size w a rs) := hw
  have HOK : Hid (∀ r ∈ rs, CoR r) := hr
  have HBd : Hid (∀ k, k ≤ rs.length → ∀ n, -1 ≤ rwS rs k n ∧ rwS rs k n ≤ 720) := fun k hk n => rwS_bound rs hr hl k hk n
  have HM : Hid (RwI (w.alloc (Obj.cells (madeCells #[.int .i64 0] (due + 1)) 3)) w.heap.size (due + 1) (fun _ => 0)) := World.rowIs_made w (.int .i64 0) (due + 1) 3
  clear hw hr ecast
  go_enter Try.func21, Try.ntmps21
  go_wp2
  go_loopw [6] (fun x wr => ∃ k : Nat, 1 ≤ k ∧ k ≤ due + 1 ∧ x = .int .i64 (k : Int) ∧ RwI wr w.heap.size (due + 1) (fun i => if i = 0 then 0 else if i < k then -1 else 0) ∧ Below w.heap.size w wr) (fun x _ => due + 1 - (intOf x).toNat)
  case atStart => exact ⟨1, Nat.le_refl _, by omega, rfl, HM.out.congr (fun i hi => (r0S_start i).symm), below_alloc _ _⟩
  case round =>
    obtain ⟨k, hk1, hk, rfl, hrw, hbw⟩ := hrel
    have HRw : Hid (RwI wr w.heap.size (due + 1) (fun i => if i = 0 then 0 else if i < k then -1 else 0)) := hrw
    have HBw : Hid (Below w.heap.size w wr) := hbw
    clear hrw hbw
    by_cases hlt : k ≤ due
    · have hlt' : (k : Int) ≤ (due : Int) := by omega
      have hlt2 : (k : Int) < (due : Int) + 1 := by omega
      have c0 := HRw.out.cell (i := k) (by omega)
      have f0 : wr.frozen? ⟨w.heap.size, k, none⟩ = false := HRw.out.frozen k
      have HN : Hid (RwI (wr.setCell ⟨w.heap.size, k, none⟩ (.int .i64 (-1))) w.heap.size (due + 1) (fun i => if i = 0 then 0 else if i < k + 1 then -1 else 0)) := (RwI.put HRw.out k (-1)).congr (fun i hi => by
        by_cases e : i = k
        · rw [if_pos e, if_neg (by omega), if_pos (by omega)]
        · rw [if_neg e]
          by_cases e0 : i = 0
          · rw [if_pos e0, if_pos e0]
          · rw [if_neg e0, if_neg e0]
            by_cases e1 : i < k
            · rw [if_pos e1, if_pos (by omega)]
            · rw [if_neg e1, if_neg (by omega)])
      go_wp2
      go_roundw
      case rel => exact ⟨k + 1, by omega, by omega, by go_num, HN.out, HBw.out.setCell (Nat.le_refl _) _⟩
      case measure => simp [intOf]; omega
    · have hgt : (due : Int) < (k : Int) := by omega
      have hdk : decide ((k : Int) ≤ (due : Int)) = false := decide_eq_false (by omega)
      have hdk2 : decide (k ≤ due) = false := decide_eq_false (by omega)
      have HG : Hid (Grid w w.heap.size (.slice (some ⟨wr.heap.size, 0, none⟩) 1 1) 1 (due + 1) (rwS rs) (wr.alloc (Obj.cells #[.slice (some ⟨w.heap.size, 0, none⟩) (due + 1) (due + 1)] 24))) := Grid.start w wr w.heap.size w.heap.size (due + 1) (rwS rs) HBw.out.size HBw.out (HRw.out.congr (fun i hi => r0S_end i k (by omega)))
      have HR0 : Hid (RwI (wr.alloc (Obj.cells #[.slice (some ⟨w.heap.size, 0, none⟩) (due + 1) (due + 1)] 24)) w.heap.size (due + 1) (rwS rs 0)) := (HRw.out.congr (fun i hi => r0S_end i k (by omega))).below (below_alloc _ _) HRw.out.lt
      clear HM HRw HBw hlt hk hk1
      go_wp2
      go_loopw [5, 7, 8] (fun y v x wj => ∃ (j b : Nat), j ≤ rs.length ∧ x = .int .i64 (j : Int) ∧ y = .slice (some ⟨b, 0, none⟩) (due + 1) (due + 1) ∧ RwI wj b (due + 1) (rwS rs j) ∧ Grid w w.heap.size v (j + 1) (due + 1) (rwS rs) wj) (fun _ _ x _ => rs.length - (intOf x).toNat)
      case atStart => exact ⟨0, _, Nat.zero_le _, rfl, rfl, HR0.out, HG.out⟩
      case round =>
      clear HG HR0
      obtain ⟨t, b, ht, rfl, rfl, hrw, hG⟩ := hrel
      obtain ⟨gv, cv, rfl⟩ := hG.own
      have HRw : Hid (RwI wr b (due + 1) (rwS rs t)) := hrw
      have HG : Hid (Grid w w.heap.size (.slice gv (t + 1) cv) (t + 1) (due + 1) (rwS rs) wr) := hG
      have HB : Hid (Below w.heap.size w wr) := by obtain ⟨_, _, _, _, h, _⟩ := hG; exact h
      clear hrw hG
      by_cases htl : t < rs.length
      · have htl' : (t : Int) < (rs.length : Int) := by omega
        rcases HR.out with h | ⟨b0, o0, ha, hB0, ia⟩
        · rw [h] at htl; simp at htl
        have HQ : Hid (∀ W, Below w.heap.size w W → CoAt W b0 (o0 + t * 2) (rs.getD t zCo)) := fun W hW => (ia.below hW hB0) t htl
        have hcr : CoR (rs.getD t zCo) := getCo HOK.out htl
        have HFit : Hid (∀ s d, d ≤ mS (rs.getD t zCo) s → d * (rs.getD t zCo).vl.toNat ≤ s ∧ (d : Int) ≤ (rs.getD t zCo).ct) := fun s d h => by have := mS_fits _ hcr.1 s d h; have := hcr.2.2; omega
        have HOut : Hid (∀ s d, mS (rs.getD t zCo) s < d → (rs.getD t zCo).ct < (d : Int) ∨ ((rs.getD t zCo).ct ≥ (d : Int) ∧ s < d * (rs.getD t zCo).vl.toNat)) := fun s d h => mS_out _ hcr s d h
        have hmx : ∀ s, mS (rs.getD t zCo) s ≤ 60 := fun s => by have := hcr.2.2; unfold mS; omega
        have HNx : Hid (∀ s, rwS rs (t + 1) s = bS (rwS rs t) (rs.getD t zCo).vl.toNat s (mS (rs.getD t zCo) s + 1)) := fun s => rfl
        have HMx : Hid (∀ s, mS (rs.getD t zCo) s ≤ 60) := hmx
        have HB2 : Hid (∀ n, -1 ≤ rwS rs t n ∧ rwS rs t n ≤ 720) := HBd.out t (by omega)
        obtain ⟨hv1, hv2, hc1, hc2⟩ := hcr
        clear ia hmx
        subst ha
        generalize hmm : mS (rs.getD t zCo) = mm at *
        clear hmm
        generalize rs.getD t zCo = q at *
        obtain ⟨v, c⟩ := q
        dsimp only at *
        obtain ⟨wo, rfl⟩ : ∃ wo : World, wo = wr := ⟨wr, rfl⟩
        have HM : Hid (RwI (wo.alloc (Obj.cells (madeCells #[.int .i64 0] (due + 1)) 3)) wo.heap.size (due + 1) (fun _ => 0)) := World.rowIs_made wo (.int .i64 0) (due + 1) 3
        have hbl : b < wo.heap.size := HRw.out.lt
        go_wp2
        obtain ⟨W1, hW1⟩ : ∃ W1, W1 = wo.alloc (Obj.cells (madeCells #[.int .i64 0] (due + 1)) 3) := ⟨_, rfl⟩
        have H1w : Hid (Below wo.heap.size wo W1) := by rw [hW1]; exact below_alloc _ _
        rw [← hW1] at HM ⊢
        obtain ⟨nb, hnb⟩ : ∃ nb, nb = wo.heap.size := ⟨_, rfl⟩
        rw [← hnb] at HM ⊢
        have hnb' : wo.heap.size ≤ nb := by omega
        have hbn : b < nb := by omega
        clear hnb hW1
        go_loopw [10] (fun x wj => ∃ s : Nat, s ≤ due + 1 ∧ x = .int .i64 (s : Int) ∧ RwI wj nb (due + 1) (fun i => if i < s then rwS rs (t + 1) i else 0) ∧ Below wo.heap.size wo wj) (fun x _ => due + 1 - (intOf x).toNat)
        case atStart => exact ⟨0, by omega, rfl, HM.out.congr (fun i hi => by rw [if_neg (by omega)]), H1w.out⟩
        case round =>
        clear HM H1w
        obtain ⟨s, hs, rfl, hnw, hbw⟩ := hrel
        have HNw : Hid (RwI wr nb (due + 1) (fun i => if i < s then rwS rs (t + 1) i else 0)) := hnw
        have HBw : Hid (Below wo.heap.size wo wr) := hbw
        clear hnw hbw
        by_cases hsl : s ≤ due
        · have hsl' : (s : Int) ≤ (due : Int) := by omega
          have hsl2 : (s : Int) < (due : Int) + 1 := by omega
          have c0 := HNw.out.cell (i := s) (by omega)
          have f0 : wr.frozen? ⟨nb, s, none⟩ = false := HNw.out.frozen s
          have HN1 : Hid (RwI (wr.setCell ⟨nb, s, none⟩ (.int .i64 (-1))) nb (due + 1) (fun i => if i = s then bS (rwS rs t) v.toNat s 0 else if i < s then rwS rs (t + 1) i else 0)) := RwI.put HNw.out s (-1)
          have HB1 : Hid (Below wo.heap.size wo (wr.setCell ⟨nb, s, none⟩ (.int .i64 (-1)))) := HBw.out.setCell hnb' _
          have HFs : Hid (∀ d, d ≤ mm s → d * v.toNat ≤ s ∧ (d : Int) ≤ c) := HFit.out s
          have HOs : Hid (∀ d, mm s < d → c < (d : Int) ∨ (c ≥ (d : Int) ∧ s < d * v.toNat)) := HOut.out s
          have hms := HMx.out s
          have HNs : Hid (rwS rs (t + 1) s = bS (rwS rs t) v.toNat s (mm s + 1)) := HNx.out s
          generalize mm s = ms at *
          go_wp2
          obtain ⟨W2, hW2⟩ : ∃ W2, W2 = wr.setCell ⟨nb, s, none⟩ (.int .i64 (-1)) := ⟨_, rfl⟩
          rw [← hW2] at HN1 HB1 ⊢
          clear hW2 c0 f0 HNw HBw
          go_loopw [11] (fun x wj => ∃ j : Nat, j ≤ ms + 1 ∧ x = .int .i64 (j : Int) ∧ RwI wj nb (due + 1) (fun i => if i = s then bS (rwS rs t) v.toNat s j else if i < s then rwS rs (t + 1) i else 0) ∧ Below wo.heap.size wo wj) (fun x _ => ms + 1 - (intOf x).toNat)
          case atStart => exact ⟨0, by omega, rfl, HN1.out, HB1.out⟩
          case round =>
          clear HN1 HB1
          obtain ⟨j, hj, rfl, hnj, hbj⟩ := hrel
          have HNj : Hid (RwI wr nb (due + 1) (fun i => if i = s then bS (rwS rs t) v.toNat s j else if i < s then rwS rs (t + 1) i else 0)) := hnj
          have HBj : Hid (Below wo.heap.size wo wr) := hbj
          clear hnj hbj
          obtain ⟨c0, c1⟩ := HQ.out wr (chain HB.out HBj.out)
          have hmul : (j : Int) * v = ((j * v.toNat : Nat) : Int) := by
            have : (v.toNat : Int) = v := by omega
            rw [Int.natCast_mul, this]
          have hpb : (j * v.toNat : Nat) ≤ 61 * 100000 := Nat.mul_le_mul (by omega) (by omega)
          by_cases hjl : j ≤ ms
          · obtain ⟨hfit, hcc⟩ := HFs.out j hjl
            have hcur0 : wr.cell? ⟨nb, s, none⟩ = some (.int .i64 (bS (rwS rs t) v.toNat s j)) := (HNj.out.cell (i := s) (by omega)).trans (by dsimp only; rw [if_pos rfl])
            have hcf : wr.frozen? ⟨nb, s, none⟩ = false := HNj.out.frozen s
            have hrx : wr.cell? ⟨b, s - j * v.toNat, none⟩ = some (.int .i64 (rwS rs t (s - j * v.toNat))) := (HRw.out.below HBj.out hbl).cell (by omega)
            have hyb := HB2.out (s - j * v.toNat)
            have HBn := bS_next (rwS rs t) v.toNat s j _ _ rfl rfl
            generalize rwS rs t (s - j * v.toNat) = y at *
            generalize hce : bS (rwS rs t) v.toNat s j = cur at *
            generalize j * v.toNat = p at *
            have hsub : (s : Int) - (p : Int) = ((s - p : Nat) : Int) := by omega
            have hxl : (((s - p : Nat)) : Int) < (due : Int) + 1 := by omega
            generalize s - p = x at *
            have hpl : (p : Int) ≤ (s : Int) := by omega
            have g1 : IntKind.i64.wrap (p : Int) = (p : Int) := wrap_id _ (by omega) (by omega)
            have g3 : IntKind.i64.wrap (y + (j : Int)) = y + (j : Int) := wrap_id _ (by omega) (by omega)
            have HCe : Hid (bS (rwS rs t) v.toNat s j = cur) := hce
            have HBN : Hid (bS (rwS rs t) v.toNat s (j + 1) = if 0 ≤ y ∧ (cur < 0 ∨ y + (j : Int) < cur) then y + (j : Int) else cur) := HBn
            have HSame : Hid (bS (rwS rs t) v.toNat s (j + 1) = cur → RwI wr nb (due + 1) (fun i => if i = s then bS (rwS rs t) v.toNat s (j + 1) else if i < s then rwS rs (t + 1) i else 0)) := fun h => by rw [h]; exact HNj.out
            have HTurn : Hid (bS (rwS rs t) v.toNat s (j + 1) = y + (j : Int) → RwI (wr.setCell ⟨nb, s, none⟩ (.int .i64 (y + (j : Int)))) nb (due + 1) (fun i => if i = s then bS (rwS rs t) v.toNat s (j + 1) else if i < s then rwS rs (t + 1) i else 0)) := fun h => by
              rw [h]
              exact (RwI.put HNj.out s _).congr (fun i hi => by by_cases e : i = s <;> simp [e])
            have HBt : Hid (Below wo.heap.size wo (wr.setCell ⟨nb, s, none⟩ (.int .i64 (y + (j : Int))))) := HBj.out.setCell hnb' _
            clear HBn hce HNj
            rcases step_ways y cur (j : Int) with ⟨e1, e2⟩ | ⟨e1, e2, e3⟩ | ⟨e1, e2, e3, e4⟩ | ⟨e1, e2, e3, e4⟩
            · have HE : Hid (bS (rwS rs t) v.toNat s (j + 1) = cur) := HBN.out.trans e2
              clear HBN e2
              go_wp2
              go_roundw
              case rel => exact ⟨j + 1, by omega, by go_num, HSame.out HE.out, HBj.out⟩
              case measure => simp [intOf]; omega
            · have HE : Hid (bS (rwS rs t) v.toNat s (j + 1) = y + (j : Int)) := HBN.out.trans e3
              clear HBN e3
              go_wp2
              go_roundw
              case rel => exact ⟨j + 1, by omega, by go_num, HTurn.out HE.out, HBt.out⟩
              case measure => simp [intOf]; omega
            · have HE : Hid (bS (rwS rs t) v.toNat s (j + 1) = y + (j : Int)) := HBN.out.trans e4
              clear HBN e4
              go_wp2
              go_roundw
              case rel => exact ⟨j + 1, by omega, by go_num, HTurn.out HE.out, HBt.out⟩
              case measure => simp [intOf]; omega
            · have HE : Hid (bS (rwS rs t) v.toNat s (j + 1) = cur) := HBN.out.trans e4
              clear HBN e4
              go_wp2
              go_roundw
              case rel => exact ⟨j + 1, by omega, by go_num, HSame.out HE.out, HBj.out⟩
              case measure => simp [intOf]; omega
          · obtain rfl : j = ms + 1 := by omega
            have HEnd : Hid (RwI wr nb (due + 1) (fun i => if i < s + 1 then rwS rs (t + 1) i else 0)) := HNj.out.congr (fun i hi => by
              by_cases e : i = s
              · rw [if_pos e, if_pos (by omega), e, HNs.out]
              · rw [if_neg e]
                by_cases h2 : i < s
                · rw [if_pos h2, if_pos (by omega)]
                · rw [if_neg h2, if_neg (by omega)])
            have ho := HOs.out (ms + 1) (by omega)
            generalize (ms + 1) * v.toNat = p at *
            have g1 : IntKind.i64.wrap (p : Int) = (p : Int) := wrap_id _ (by omega) (by omega)
            generalize hjj : ms + 1 = j at *
            clear HNj HNs HOs HFs
            rcases ho with ho | ⟨ho, ho2⟩
            · go_wp2
              go_roundw
              case rel => exact ⟨s + 1, by omega, by go_num, HEnd.out, HBj.out⟩
              case measure => simp [intOf]; omega
            · have ho' : (j : Int) ≤ c := ho
              have ho3 : (s : Int) < (p : Int) := by omega
              go_wp2
              go_roundw
              case rel => exact ⟨s + 1, by omega, by go_num, HEnd.out, HBj.out⟩
              case measure => simp [intOf]; omega
        · have hgs : (due : Int) < (s : Int) := by omega
          have hds : decide ((s : Int) ≤ (due : Int)) = false := decide_eq_false (by omega)
          have hds2 : decide (s ≤ due) = false := decide_eq_false (by omega)
          have HRn : Hid (RwI wr nb (due + 1) (rwS rs (t + 1))) := HNw.out.congr (fun i hi => by rw [if_pos (by omega)])
          have HG2 : Hid (Grid w w.heap.size (.slice gv (t + 1) cv) (t + 1) (due + 1) (rwS rs) wr) := HG.out.later HBw.out
          clear HNw HG HRw HB hsl hs
          obtain ⟨bs, g1, g2, g4, g5, g6⟩ := HG2.out
          have GA : Hid ((wr.alloc (Obj.cells #[.slice (some ⟨nb, 0, none⟩) (due + 1) (due + 1)] 24)).ownsRow w.heap.size 24 1 (.slice gv (t + 1) cv) (t + 1) (bs.map fun b => Value.slice (some ⟨b, 0, none⟩) (due + 1) (due + 1))) := g2.alloc _
          have GB : Hid (Below w.heap.size w (wr.alloc (Obj.cells #[.slice (some ⟨nb, 0, none⟩) (due + 1) (due + 1)] 24))) := g5.alloc g4 _
          have G6 : Hid (∀ i, i < t + 1 → RwI (wr.alloc (Obj.cells #[.slice (some ⟨nb, 0, none⟩) (due + 1) (due + 1)] 24)) (bs.getD i 0) (due + 1) (rwS rs i)) := fun i hi => (g6 i hi).below (below_alloc _ _) (g6 i hi).lt
          have GR : Hid (RwI (wr.alloc (Obj.cells #[.slice (some ⟨nb, 0, none⟩) (due + 1) (due + 1)] 24)) nb (due + 1) (rwS rs (t + 1))) := HRn.out.below (below_alloc _ _) HRn.out.lt
          have g4' : w.heap.size ≤ (wr.alloc (Obj.cells #[.slice (some ⟨nb, 0, none⟩) (due + 1) (due + 1)] 24)).heap.size := by simp; omega
          clear HG2 g2 g5 g6 HRn
          go_wp2_with (at_builtin; refine wpList_append_lies _ rfl _ _ 41 rfl w.heap.size 24 i0 (.slice none 0 0) 1 24 Try.underlying41 hi hi0 hi1 hi2 rfl (by decide) _ _ _ rfl GA.out ⟨wr.heap.size, 0, none⟩ 1 1 [.slice (some ⟨nb, 0, none⟩) (due + 1) (due + 1)] rfl rfl (newsOne wr _ _) (by intro u hu; simp at hu; subst hu; rfl) (by omega) (by unfold maxLen; omega) (by omega) g4' _ rfl ?_; intro g1' cp1 w5 hown1 hgrow1 hat1 hglt1; have HT5 : Hid _ := Grid.push g1 GA.out g4' GB.out G6.out GR.out hown1 hgrow1; clear hown1 hgrow1 hat1 hglt1)
          go_roundw
          case rel => exact ⟨t + 1, nb, by omega, by go_num, rfl, HT5.out.2, HT5.out.1⟩
          case measure => simp [intOf]; omega
      · obtain rfl : t = rs.length := by omega
        go_wp2
        go_ret
        exact ⟨_, rfl, HG.out⟩
end Go.Proofs.Ytngnmlifbjpkoaa

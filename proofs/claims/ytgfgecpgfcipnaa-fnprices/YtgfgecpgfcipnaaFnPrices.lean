/-
  For every list of bytes the law FnPrices answers true: of drawn right rows the price that the program tells at each minute is that of its last step, it is the specification's, and rows that do not hold change nothing; with no condition.
-/
import Derived.Test.YtgfgecpgfcipnaaPrcFacts
import Derived.BigQuiet
namespace Go.Proofs.Ytgfgecpgfcipnaa
open Go.ChangeShapes Go.WideShapes Go.ChangeAt Go.RowKit Go.Joins
set_option linter.unusedVariables false

namespace FnPrices
/-- What is known ahead of the loop over the minutes. -/
def PcEnv (g cp bS : Nat) (rs : List RPr) (art zn : ByteArray) (S : List Int) (w7 : World) : Prop :=
  ReadsPr w7.heap.size w7 (some ⟨g, 0, none⟩) rs ∧ bS < w7.heap.size ∧ IntsAt w7 bS 0 S
theorem steps_head (rs : List RPr) (art zn : ByteArray) (fr to : Int) : (stepsL rs art zn fr to).getD 0 0 = fr ∧ 2 ≤ (stepsL rs art zn fr to).length := ⟨rfl, by unfold stepsL; simp⟩

set_option maxHeartbeats 20000000 in
set_option maxRecDepth 8000 in
theorem walk (a0 : Option Addr) (len0 cap0 : Nat) (z0 : List Int) (a1 : Option Addr) (len1 cap1 : Nat) (z1 : List Int) (w : World) (r0 : RowB w.heap.size w a0 len0 z0) (r1 : RowB w.heap.size w a1 len1 z1) :
    Calls Try.prog 3 #[.slice a0 len0 cap0, .slice a1 len1 cap1] w fun e w' => e = .returned (.bool true) ∧ Below w.heap.size w w' := by
  have hl0 := r0.1
  have hl1 := r1.1
  unfold maxLen at hl0 hl1
  rcases (by omega : (1048576 : Int) < (len0 : Int) ∨ ((len0 : Int) ≤ 1048576 ∧ (1048576 : Int) < (len1 : Int)) ∨ ((len0 : Int) ≤ 1048576 ∧ (len1 : Int) ≤ 1048576)) with h | ⟨h, h'⟩ | ⟨h, h'⟩
  · clear r0 r1
    go_enter Try.func3, Try.ntmps3
    go_wp2
    go_ret
    exact ⟨rfl, Below.refl _ _⟩
  · clear r0 r1
    go_enter Try.func3, Try.ntmps3
    go_wp2
    go_ret
    exact ⟨rfl, Below.refl _ _⟩
  have hro := rowsOf_any a0 len0 cap0 z0 w r0
  have HAt : Hid (∀ (i n : Int) (W : World), 0 ≤ i → i ≤ 10 → n ≤ 1000 → Below w.heap.size w W → Calls Try.prog 5 #[.slice a1 len1 cap1, .int .i64 i, .int .i64 n] W fun e w' => ∃ x : Int, e = .returned (.int .i64 x) ∧ Drawn x n ∧ Below W.heap.size W w') := fun i n W h1 h2 h3 hB => at_any W.heap.size a1 len1 cap1 z1 i n W ((r1.below hB).mono hB.size) h1 (by omega) (by omega)
  clear r0 r1 hl0 hl1
  obtain ⟨i0, hti, hzz⟩ := Option.map_eq_some_iff.1 prInfo
  simp only [Prod.mk.injEq] at hzz
  obtain ⟨hi0, hi1, hi2⟩ := hzz
  go_enter Try.func3, Try.ntmps3
  go_wp2_with fail
  (first | go_at_call 4 | skip)
  refine hro.mono ?_
  rintro e w1 ⟨rs, g, cp, rfl, hrl, hdr, hR, hb1⟩
  have B1 : Hid (Below w.heap.size w w1) := hb1
  have HR : Hid (ReadsPr w1.heap.size w1 (some ⟨g, 0, none⟩) rs) := hR
  have HD : Hid (∀ r ∈ rs, DrP r) := hdr
  clear hR hb1 hdr hro
  go_wp2_with fail
  (first | go_at_call 5 | skip)
  refine (HAt.out 0 3 _ (by omega) (by omega) (by omega) (chain B1.out (below_alloc _ _))).mono ?_
  rintro e w2 ⟨x2, rfl, hx2, hb2⟩
  obtain ⟨j2, rfl⟩ : ∃ j : Nat, x2 = (j : Int) := ⟨x2.toNat, by have := hx2.1; omega⟩
  have hj2 : j2 < 3 := by rcases hx2.2 with h | h <;> omega
  have hj2' : (j2 : Int) < 3 := by omega
  have c2 : w2.cell? ⟨w1.heap.size, j2, none⟩ = some (.string (arts.getD j2 ⟨#[]⟩)) := (hb2.cell (p := ⟨w1.heap.size, j2, none⟩) (by simp)).trans (three_cells w1 _ _ _ j2 hj2)
  have B2 : Hid (Below w1.heap.size w1 w2) := chain (below_alloc _ _) hb2
  have ha6 : (arts.getD j2 ⟨#[]⟩).size ≤ 6 := (arts_ok j2 hj2).2
  clear hb2 hx2
  generalize arts.getD j2 ⟨#[]⟩ = art at *
  go_wp2_with fail
  (first | go_at_call 5 | skip)
  refine (HAt.out 1 3 _ (by omega) (by omega) (by omega) (chain (chain B1.out B2.out) (below_alloc _ _))).mono ?_
  rintro e w3 ⟨x3, rfl, hx3, hb3⟩
  obtain ⟨j3, rfl⟩ : ∃ j : Nat, x3 = (j : Int) := ⟨x3.toNat, by have := hx3.1; omega⟩
  have hj3 : j3 < 3 := by rcases hx3.2 with h | h <;> omega
  have hj3' : (j3 : Int) < 3 := by omega
  have c3 : w3.cell? ⟨w2.heap.size, j3, none⟩ = some (.string (zons.getD j3 ⟨#[]⟩)) := (hb3.cell (p := ⟨w2.heap.size, j3, none⟩) (by simp)).trans (three_cells w2 _ _ _ j3 hj3)
  have B3 : Hid (Below w1.heap.size w1 w3) := chain B2.out (chain (below_alloc _ _) hb3)
  have hz6 : (zons.getD j3 ⟨#[]⟩).size ≤ 6 := (zons_ok j3 hj3).2
  clear hb3 hx3 c2
  generalize zons.getD j3 ⟨#[]⟩ = zn at *
  go_wp2_with fail
  (first | go_at_call 5 | skip)
  refine (HAt.out 2 60 _ (by omega) (by omega) (by omega) (chain B1.out B3.out)).mono ?_
  rintro e w4 ⟨fr, rfl, hx4, hb4⟩
  have B4 : Hid (Below w1.heap.size w1 w4) := chain B3.out hb4
  have f0 : 0 ≤ fr := hx4.1
  have f1 : fr ≤ 59 := by rcases hx4.2 with h | h <;> omega
  clear hb4 hx4 c3
  go_wp2_with fail
  (first | go_at_call 5 | skip)
  refine (HAt.out 3 70 _ (by omega) (by omega) (by omega) (chain B1.out B4.out)).mono ?_
  rintro e w5 ⟨x5, rfl, hx5, hb5⟩
  have B5 : Hid (Below w1.heap.size w1 w5) := chain B4.out hb5
  have t0 : 0 ≤ x5 := hx5.1
  have t1 : x5 ≤ 69 := by rcases hx5.2 with h | h <;> omega
  clear hb5 hx5 HAt
  have HSt : Hid (Calls Try.prog 6 #[.slice (some ⟨g, 0, none⟩) rs.length cp, .string art, .string zn, .int .i64 fr, .int .i64 (fr + 1 + x5)] w5 fun e w' => ∃ bS c n, e = .returned (.tuple #[.slice (some ⟨bS, 0, none⟩) n c, .int .i64 0]) ∧ n * 2 = (stepsL rs art zn fr (fr + 1 + x5)).length ∧ bS < w'.heap.size ∧ IntsAt w' bS 0 (stepsL rs art zn fr (fr + 1 + x5)) ∧ Below w5.heap.size w5 w') := by
    refine (implSteps_any (some ⟨g, 0, none⟩) cp rs (by omega) (fun r hr => (HD.out r hr).ok) art zn (by omega) (by omega) fr (fr + 1 + x5) w5 ((HR.out.below B5.out).mono B5.out.size)).mono ?_
    obtain ⟨e1, e2⟩ := prc_steps hrl HD.out ha6 hz6 f0 (show fr < fr + 1 + x5 by omega) (by omega)
    rintro e w' ⟨gS, c, rfl, ho, hb⟩
    rw [e1, e2]
    rw [e2] at ho
    have hl := stepsL_len rs art zn fr (fr + 1 + x5)
    have hh := (steps_head rs art zn fr (fr + 1 + x5)).2
    rcases ho with q | ⟨bS, q1, _, q3, q4, _⟩
    · rw [q] at hh; simp at hh
    · exact ⟨bS, c, _, by rw [q1], by omega, q3, q4, hb⟩
  have HOk : Hid (∀ W, Below w1.heap.size w1 W → Calls Try.prog 7 #[.slice (some ⟨g, 0, none⟩) rs.length cp] W fun e w' => e = .returned (.bool true) ∧ Below W.heap.size W w') := fun W hW => by
    have := implPrices_any (some ⟨g, 0, none⟩) cp rs (by omega) (fun r hr => (HD.out r hr).ok) W ((HR.out.below hW).mono hW.size)
    rw [drP_all HD.out (by omega)] at this; exact this
  go_wp2_with fail
  (first | go_at_call 6 | skip)
  refine HSt.out.mono ?_
  rintro e w6 ⟨bS, cS, n, rfl, hnl, hbS, hiS, hb6⟩
  have B6 : Hid (Below w1.heap.size w1 w6) := chain B5.out hb6
  have HI6 : Hid (bS < w6.heap.size ∧ IntsAt w6 bS 0 (stepsL rs art zn fr (fr + 1 + x5))) := ⟨hbS, hiS⟩
  have hn1 : 1 ≤ n := by have := (steps_head rs art zn fr (fr + 1 + x5)).2; omega
  have hn2 : n ≤ 23 := by have := (stepsL_len rs art zn fr (fr + 1 + x5)).1; omega
  clear hb6 hbS hiS HSt
  go_wp2_with fail
  (first | go_at_call 7 | skip)
  refine (HOk.out w6 B6.out).mono ?_
  rintro e w7 ⟨rfl, hb7⟩
  have B7 : Hid (Below w1.heap.size w1 w7) := chain B6.out hb7
  have HS : Hid (∀ W, Below w7.heap.size w7 W → ∀ i, i < n * 2 → W.cell? ⟨bS, i, none⟩ = some (.int .i64 ((stepsL rs art zn fr (fr + 1 + x5)).getD i 0))) := fun W hW i hi => by
    have q := (HI6.out.2.below (chain hb7 hW) HI6.out.1) i (by omega)
    rwa [Nat.zero_add] at q
  have HRw : Hid (∀ W, Below w7.heap.size w7 W → ReadsPr W.heap.size W (some ⟨g, 0, none⟩) rs) := fun W hW => (HR.out.below (chain B7.out hW)).mono (chain B7.out hW).size
  have HB7 : Hid (Below w.heap.size w w7) := chain B1.out B7.out
  have s0 : w7.cell? ⟨bS, 0, none⟩ = some (.int .i64 fr) := HS.out w7 (Below.refl _ _) 0 (by omega)
  have hnz : ((n : Int) == 0) = false := by rw [beq_eq_false_iff_ne]; omega
  have hnp : (0 : Int) < (n : Int) := by omega
  have HW0 : Hid (Way (stepsL rs art zn fr (fr + 1 + x5)) (amtAt rs art zn) fr (fr + 1 + x5) (turnsS rs) fr 0) := pos_first (turnsS_sorted rs) (by omega) rfl
  have HNx : Hid (∀ (m : Int) (k : Nat), Pos (stepsL rs art zn fr (fr + 1 + x5)) (amtAt rs art zn) fr (fr + 1 + x5) (turnsS rs) m k → fr ≤ m → m + 1 < fr + 1 + x5 → Way (stepsL rs art zn fr (fr + 1 + x5)) (amtAt rs art zn) fr (fr + 1 + x5) (turnsS rs) (m + 1) k) := fun m k hp h0 h1 => pos_next (turnsS_sorted rs) (fun hm => amt_step rs art zn m hm) hp h0 h1
  have HEn : Hid (∀ (m : Int) (k : Nat), Pos (stepsL rs art zn fr (fr + 1 + x5)) (amtAt rs art zn) fr (fr + 1 + x5) (turnsS rs) m k → m + 1 = fr + 1 + x5 → k + 1 = n) := fun m k hp h => by have := pos_end hp h; omega
  have HPa : Hid (∀ (W : World) (ls : List RPr) (b c : Nat) (m : Int), ls.length ≤ 11 → (∀ r ∈ ls, DrP r) → ReadsPr W.heap.size W (some ⟨b, 0, none⟩) ls → Calls Try.prog 8 #[.slice (some ⟨b, 0, none⟩) ls.length c, .string art, .string zn, .int .i64 m] W fun e w' => e = .returned (.tuple #[.int .i64 (paAm ls art zn m), .int .i64 (paRow ls art zn m), .int .i64 (paCode ls art zn m)]) ∧ Below W.heap.size W w') := fun W ls b c m hl hd hr => implPriceAt_any (some ⟨b, 0, none⟩) c ls (by omega) (fun r h => (hd r h).ok) art zn (by omega) (by omega) m W hr
  have HPs : Hid (∀ (W : World) (m : Int), ReadsPr W.heap.size W (some ⟨g, 0, none⟩) rs → Calls Try.prog 9 #[.slice (some ⟨g, 0, none⟩) rs.length cp, .string art, .string zn, .int .i64 m] W fun e w' => e = .returned (.tuple #[.int .i64 (paAm rs art zn m), .int .i64 (paRow rs art zn m), .int .i64 (paCode rs art zn m)]) ∧ Below W.heap.size W w') := fun W m hr => specPriceAt_any (some ⟨g, 0, none⟩) cp rs (by omega) (fun r h => (HD.out r h).ok) art zn (by omega) (by omega) m W hr
  clear hb7 HI6 HOk B1 B2 B3 B4 B5 B6
  generalize hS : stepsL rs art zn fr (fr + 1 + x5) = S at *
  clear hS
  obtain ⟨to, hto⟩ : ∃ to, to = fr + 1 + x5 := ⟨_, rfl⟩
  rw [← hto] at HW0 HNx HEn ⊢
  have ht1 : fr < to := by omega
  have ht2 : to ≤ 200 := by omega
  clear hto t0 t1
  go_wp2_with fail
  go_loopw [12, 13, 14, 15, 16, 17, 18, 19, 20, 21, 22, 24] (fun kv mv _ _ _ _ _ _ _ _ _ _ wr => ∃ (k : Nat) (m : Int), kv = .int .i64 (k : Int) ∧ mv = .int .i64 m ∧ fr ≤ m ∧ m ≤ to ∧ (m < to → Way S (amtAt rs art zn) fr to (turnsS rs) m k) ∧ (m = to → k + 1 = n) ∧ Below w7.heap.size w7 wr) (fun _ mv _ _ _ _ _ _ _ _ _ _ _ => (to - intOf mv).toNat)
  case atStart => exact ⟨0, fr, rfl, rfl, by omega, by omega, fun _ => HW0.out, fun h => by omega, Below.refl _ _⟩
  case round =>
    clear HW0 s0
    obtain ⟨k, m, rfl, rfl, hm0, hm1, hw, he, hb⟩ := hrel
    have HB : Hid (Below w7.heap.size w7 wr) := hb
    clear hb
    by_cases hmt : m = to
    · have hkn : ((k : Int) + 1 == (n : Int)) = true := by rw [beq_iff_eq]; have := he hmt; omega
      have hkn' : (k : Int) + 1 = (n : Int) := by have := he hmt; omega
      clear hw he
      subst hmt
      go_wp2
      go_ret
      exact ⟨rfl, chain HB7.out HB.out⟩
    have hlt : m < to := by omega
    have hW := hw hlt
    clear hw he hmt
    obtain ⟨kq, hP, HC⟩ : ∃ kq, Pos S (amtAt rs art zn) fr to (turnsS rs) m kq ∧ Hid ((kq = k ∧ k + 1 = n) ∨ (kq = k ∧ k + 1 < n ∧ S.getD (2 * k + 2) 0 ≠ m) ∨ (kq = k + 1 ∧ k + 1 < n ∧ S.getD (2 * k + 2) 0 = m ∧ S.getD (2 * k + 3) 0 ≠ S.getD (2 * k + 1) 0)) := by
      rcases hW with ⟨e1, hp⟩ | ⟨e1, e2, hp⟩ | ⟨e1, e2, e3, hp⟩
      · exact ⟨k, hp, .inl ⟨rfl, by omega⟩⟩
      · exact ⟨k, hp, .inr (.inl ⟨rfl, by omega, e2⟩)⟩
      · exact ⟨k + 1, hp, .inr (.inr ⟨rfl, by omega, e2, e3⟩)⟩
    have hkq : kq < n := by have := hP.1; omega
    have HRel : Hid (fr ≤ m + 1 ∧ m + 1 ≤ to ∧ (m + 1 < to → Way S (amtAt rs art zn) fr to (turnsS rs) (m + 1) kq) ∧ (m + 1 = to → kq + 1 = n)) := ⟨by omega, by omega, fun h => HNx.out m kq hP hm0 h, fun h => HEn.out m kq hP h⟩
    have HAm : Hid (S.getD (2 * kq + 1) 0 = amtAt rs art zn m) := hP.2.1
    have HCa : Hid (∀ W, Below w7.heap.size w7 W → W.cell? ⟨bS, kq * 2 + 1, none⟩ = some (.int .i64 (amtAt rs art zn m))) := fun W hW => by
      have q := HS.out W hW (2 * kq + 1) (by omega)
      rw [HAm.out] at q
      rwa [Nat.mul_comm kq 2]
    have hww := prc_ways hrl HD.out ha6 hz6 m
    have HPr : Hid (∀ (W : World), ReadsPr W.heap.size W (some ⟨g, 0, none⟩) rs → Calls Try.prog 8 #[.slice (some ⟨g, 0, none⟩) rs.length cp, .string art, .string zn, .int .i64 m] W fun e w' => e = .returned (.tuple #[.int .i64 (paAm rs art zn m), .int .i64 (paRow rs art zn m), .int .i64 (paCode rs art zn m)]) ∧ Below W.heap.size W w') := fun W hr => HPa.out W rs g cp m hrl HD.out hr
    have HPt : Hid (∀ (W : World), ReadsPr W.heap.size W (some ⟨g, 0, none⟩) rs → Calls Try.prog 9 #[.slice (some ⟨g, 0, none⟩) rs.length cp, .string art, .string zn, .int .i64 m] W fun e w' => e = .returned (.tuple #[.int .i64 (paAm rs art zn m), .int .i64 (paRow rs art zn m), .int .i64 (paCode rs art zn m)]) ∧ Below W.heap.size W w') := fun W hr => HPs.out W m hr
    have HPh : Hid (∀ (W : World) (b c : Nat), ReadsPr W.heap.size W (some ⟨b, 0, none⟩) (rs.filter (hldB art m)) → Calls Try.prog 8 #[.slice (some ⟨b, 0, none⟩) (rs.filter (hldB art m)).length c, .string art, .string zn, .int .i64 m] W fun e w' => e = .returned (.tuple #[.int .i64 (paAm (rs.filter (hldB art m)) art zn m), .int .i64 (paRow (rs.filter (hldB art m)) art zn m), .int .i64 (paCode (rs.filter (hldB art m)) art zn m)]) ∧ Below W.heap.size W w') := fun W b c hr => HPa.out W _ b c m (Nat.le_trans (held_len rs art m) hrl) (fun r h => HD.out r (List.mem_filter.1 h).1) hr
    -- the row that the law looks at
    have HRow : Hid (∀ W, Below w7.heap.size w7 W → ∀ j, j < rs.length → PrAt W g (j * 6) (rs.getD j zPr)) := fun W hW j hj => by
      rcases HRw.out W hW with h0 | ⟨b, off, e, _, ia⟩
      · rw [h0] at hj; simp at hj
      · simp at e
        obtain ⟨rfl, rfl⟩ := e
        have := ia j hj
        rwa [Nat.zero_add] at this
    have HNxt : Hid (∀ j, j < rs.length → (hldB art m (rs.getD j zPr) = false → (rs.take (j + 1)).filter (hldB art m) = (rs.take j).filter (hldB art m)) ∧ (hldB art m (rs.getD j zPr) = true → (rs.take (j + 1)).filter (hldB art m) = (rs.take j).filter (hldB art m) ++ [rs.getD j zPr])) := fun j hj => held_next rs art m j hj
    have HLen : Hid (∀ j, ((rs.take j).filter (hldB art m)).length ≤ 11) := fun j => Nat.le_trans (List.length_filter_le _ _) (Nat.le_trans (by rw [List.length_take]; exact Nat.min_le_right _ _) hrl)
    have HC1 : Hid (k + 1 < n → wr.cell? ⟨bS, (k + 1) * 2, none⟩ = some (.int .i64 (S.getD (2 * k + 2) 0)) ∧ wr.cell? ⟨bS, (k + 1) * 2 + 1, none⟩ = some (.int .i64 (S.getD (2 * k + 3) 0)) ∧ wr.cell? ⟨bS, k * 2 + 1, none⟩ = some (.int .i64 (S.getD (2 * k + 1) 0))) := fun h => by
      have q1 := HS.out wr HB.out (2 * k + 2) (by omega)
      have q2 := HS.out wr HB.out (2 * k + 3) (by omega)
      have q3 := HS.out wr HB.out (2 * k + 1) (by omega)
      rw [show (k + 1) * 2 = 2 * k + 2 by omega, show k * 2 = 2 * k by omega]
      exact ⟨q1, q2, q3⟩
    clear hP hW HS HAm HNx HEn HPa HPs HD
    generalize amtAt rs art zn m = am at HCa hww
    generalize hrow : paRow rs art zn m = rw0 at *
    generalize hrow2 : paRow (rs.filter (hldB art m)) art zn m = rw1 at *
    clear hrow hrow2
    rcases hww with ⟨v1, v2, v3⟩ | ⟨v1, v2, v3, v4⟩
    · rw [v1] at HPr HPt
      rw [v3] at HPh
      subst v2
      generalize paAm rs art zn m = am0 at *
      generalize paAm (rs.filter (hldB art m)) art zn m = am1 at *
      clear v1 v3
      rcases HC.out with ⟨e1, e2⟩ | ⟨e1, e2, e3⟩ | ⟨e1, e2, e3, e4⟩
      all_goals clear HC
      · subst e1
        have hc0 : decide ((kq : Int) + 1 < (n : Int)) = false := decide_eq_false (by omega)
        have hc1 : ¬ (kq : Int) + 1 < (n : Int) := by omega
        clear HC1 e2
        go_wp2_with fail
        (first | go_at_call 8 | skip)
        refine (HPr.out wr (HRw.out wr HB.out)).mono ?_
        rintro e w8 ⟨rfl, hb8⟩
        have B8 : Hid (Below w7.heap.size w7 w8) := chain HB.out hb8
        clear hb8
        go_wp2_with fail
        (first | go_at_call 9 | skip)
        refine (HPt.out w8 (HRw.out w8 B8.out)).mono ?_
        rintro e w9 ⟨rfl, hb9⟩
        have B9 : Hid (Below w7.heap.size w7 w9) := chain B8.out hb9
        have y9 := HCa.out w9 B9.out
        clear hb9 HCa HPr HPt
        have HLP0 : Hid (LP w9 w9.heap.size (.slice (some ⟨w9.heap.size, 0, none⟩) 0 0) [] (w9.alloc (Obj.cells #[] 36))) := LP.start w9
        go_wp2_with fail
        go_loopw [20, 21] (fun v i wr => ∃ (j gh ch : Nat), j ≤ rs.length ∧ v = .slice (some ⟨gh, 0, none⟩) ((rs.take j).filter (hldB art m)).length ch ∧ i = .int .i64 (j : Int) ∧ LP w9 w9.heap.size (.slice (some ⟨gh, 0, none⟩) ((rs.take j).filter (hldB art m)).length ch) ((rs.take j).filter (hldB art m)) wr) (fun _ i _ => rs.length - (intOf i).toNat)
        case atStart => exact ⟨0, w9.heap.size, 0, Nat.zero_le _, rfl, rfl, HLP0.out⟩
        case round =>
          clear HLP0
          obtain ⟨j, gh, ch, hj, rfl, rfl, hL⟩ := hrel
          have HL : Hid (LP w9 w9.heap.size (.slice (some ⟨gh, 0, none⟩) ((rs.take j).filter (hldB art m)).length ch) ((rs.take j).filter (hldB art m)) wr) := hL
          clear hL
          by_cases hjl : j < rs.length
          · have hjl' : (j : Int) < (rs.length : Int) := by omega
            obtain ⟨z0, z1, z2, z3, z4, z5⟩ := HRow.out wr (chain B9.out HL.out.2.2) j hjl
            have HN : Hid ((hldB art m (rs.getD j zPr) = false → (rs.take (j + 1)).filter (hldB art m) = (rs.take j).filter (hldB art m)) ∧ (hldB art m (rs.getD j zPr) = true → (rs.take (j + 1)).filter (hldB art m) = (rs.take j).filter (hldB art m) ++ [rs.getD j zPr])) := HNxt.out j hjl
            have hl11 := HLen.out j
            generalize rs.getD j zPr = r at *
            obtain ⟨q0, q1, q2, q3, q4, q5⟩ := r
            dsimp only at z0 z1 z2 z3 z4 z5
            generalize (rs.take j).filter (hldB art m) = F at *
            have HL5 : Hid (LP w9 w9.heap.size (.slice (some ⟨gh, 0, none⟩) F.length ch) F (wr.alloc (Obj.cells #[.string q0, .string q1, .int .i64 q2, .int .i64 q3, .int .i64 q4, .int .i64 q5] 36))) := HL.out.alloc _
            rcases hld_ways art q0 q1 q2 q3 q4 q5 m with ⟨u1, hE⟩ | ⟨u1, u2, hE⟩ | ⟨u1, u2, u3, hE⟩ | ⟨u1, u2, u3, hE⟩
            · have HE : Hid ((rs.take (j + 1)).filter (hldB art m) = F) := HN.out.1 hE
              clear hE HN HL5
              go_wp2
              go_roundw
              case rel => exact ⟨j + 1, gh, ch, by omega, by rw [HE.out], by go_num, by rw [HE.out]; exact HL.out⟩
              case measure => simp [intOf]; omega
            · have HE : Hid ((rs.take (j + 1)).filter (hldB art m) = F) := HN.out.1 hE
              clear hE HN HL5
              go_wp2
              go_roundw
              case rel => exact ⟨j + 1, gh, ch, by omega, by rw [HE.out], by go_num, by rw [HE.out]; exact HL.out⟩
              case measure => simp [intOf]; omega
            · have HE : Hid ((rs.take (j + 1)).filter (hldB art m) = F) := HN.out.1 hE
              clear hE HN HL5
              go_wp2
              go_roundw
              case rel => exact ⟨j + 1, gh, ch, by omega, by rw [HE.out], by go_num, by rw [HE.out]; exact HL.out⟩
              case measure => simp [intOf]; omega
            · have HE : Hid ((rs.take (j + 1)).filter (hldB art m) = F ++ [(⟨q0, q1, q2, q3, q4, q5⟩ : RPr)]) := HN.out.2 hE
              clear hE HN
              go_wp2_with (at_builtin; refine wpList_append_lies _ rfl _ _ 23 rfl w9.heap.size 36 i0 (.agg #[.string ⟨#[]⟩, .string ⟨#[]⟩, .int .i64 0, .int .i64 0, .int .i64 0, .int .i64 0]) 6 64 Try.underlying23 hti hi0 hi1 hi2 rfl (by decide) _ _ _ rfl HL5.out.1 ⟨wr.heap.size, 0, none⟩ 1 1 [.string q0, .string q1, .int .i64 q2, .int .i64 q3, .int .i64 q4, .int .i64 q5] rfl rfl (World.news_of_block (heapNew wr _)) (oneRowP (⟨q0, q1, q2, q3, q4, q5⟩ : RPr)) (by omega) (by unfold maxLen; omega) (by omega) HL5.out.2.1 _ rfl ?_; intro g7 cp7 W7 own7 grow7 hat7 hlt7; have HL7 : Hid (LP w9 w9.heap.size (.slice (some ⟨g7, 0, none⟩) (F.length + 1) cp7) (F ++ [(⟨q0, q1, q2, q3, q4, q5⟩ : RPr)]) W7) := HL5.out.push (r := (⟨q0, q1, q2, q3, q4, q5⟩ : RPr)) own7 grow7; clear own7 grow7 hat7 hlt7)
              go_roundw
              case rel => exact ⟨j + 1, g7, cp7, by omega, by rw [HE.out, List.length_append]; rfl, by go_num, by rw [HE.out, List.length_append]; exact HL7.out⟩
              case measure => simp [intOf]; omega
          · obtain rfl : j = rs.length := by omega
            rw [List.take_length] at HL ⊢
            have HRh : Hid (ReadsPr wr.heap.size wr (some ⟨gh, 0, none⟩) (rs.filter (hldB art m))) := prc_reads HL.out.1
            have B10 : Hid (Below w7.heap.size w7 wr) := chain B9.out HL.out.2.2
            clear HL
            go_wp2_with fail
            (first | go_at_call 8 | skip)
            refine (HPh.out wr gh ch HRh.out).mono ?_
            rintro e w11 ⟨rfl, hb11⟩
            have B11 : Hid (Below w7.heap.size w7 w11) := chain B10.out hb11
            clear hb11
            go_wp2
            go_roundw
            case rel => exact ⟨kq, m + 1, by go_num, by go_num, HRel.out.1, HRel.out.2.1, HRel.out.2.2.1, HRel.out.2.2.2, B11.out⟩
            case measure => simp [intOf]; omega
      · subst e1
        obtain ⟨y0, _, _⟩ := HC1.out e2
        have hc1 : (kq : Int) + 1 < (n : Int) := by omega
        have hc2 : (S.getD (2 * kq + 2) 0 == m) = false := by rw [beq_eq_false_iff_ne]; exact e3
        clear HC1 e2
        generalize S.getD (2 * kq + 2) 0 = at1 at *
        go_wp2_with fail
        (first | go_at_call 8 | skip)
        refine (HPr.out wr (HRw.out wr HB.out)).mono ?_
        rintro e w8 ⟨rfl, hb8⟩
        have B8 : Hid (Below w7.heap.size w7 w8) := chain HB.out hb8
        clear hb8
        go_wp2_with fail
        (first | go_at_call 9 | skip)
        refine (HPt.out w8 (HRw.out w8 B8.out)).mono ?_
        rintro e w9 ⟨rfl, hb9⟩
        have B9 : Hid (Below w7.heap.size w7 w9) := chain B8.out hb9
        have y9 := HCa.out w9 B9.out
        clear hb9 HCa HPr HPt
        have HLP0 : Hid (LP w9 w9.heap.size (.slice (some ⟨w9.heap.size, 0, none⟩) 0 0) [] (w9.alloc (Obj.cells #[] 36))) := LP.start w9
        go_wp2_with fail
        go_loopw [20, 21] (fun v i wr => ∃ (j gh ch : Nat), j ≤ rs.length ∧ v = .slice (some ⟨gh, 0, none⟩) ((rs.take j).filter (hldB art m)).length ch ∧ i = .int .i64 (j : Int) ∧ LP w9 w9.heap.size (.slice (some ⟨gh, 0, none⟩) ((rs.take j).filter (hldB art m)).length ch) ((rs.take j).filter (hldB art m)) wr) (fun _ i _ => rs.length - (intOf i).toNat)
        case atStart => exact ⟨0, w9.heap.size, 0, Nat.zero_le _, rfl, rfl, HLP0.out⟩
        case round =>
          clear HLP0
          obtain ⟨j, gh, ch, hj, rfl, rfl, hL⟩ := hrel
          have HL : Hid (LP w9 w9.heap.size (.slice (some ⟨gh, 0, none⟩) ((rs.take j).filter (hldB art m)).length ch) ((rs.take j).filter (hldB art m)) wr) := hL
          clear hL
          by_cases hjl : j < rs.length
          · have hjl' : (j : Int) < (rs.length : Int) := by omega
            obtain ⟨z0, z1, z2, z3, z4, z5⟩ := HRow.out wr (chain B9.out HL.out.2.2) j hjl
            have HN : Hid ((hldB art m (rs.getD j zPr) = false → (rs.take (j + 1)).filter (hldB art m) = (rs.take j).filter (hldB art m)) ∧ (hldB art m (rs.getD j zPr) = true → (rs.take (j + 1)).filter (hldB art m) = (rs.take j).filter (hldB art m) ++ [rs.getD j zPr])) := HNxt.out j hjl
            have hl11 := HLen.out j
            generalize rs.getD j zPr = r at *
            obtain ⟨q0, q1, q2, q3, q4, q5⟩ := r
            dsimp only at z0 z1 z2 z3 z4 z5
            generalize (rs.take j).filter (hldB art m) = F at *
            have HL5 : Hid (LP w9 w9.heap.size (.slice (some ⟨gh, 0, none⟩) F.length ch) F (wr.alloc (Obj.cells #[.string q0, .string q1, .int .i64 q2, .int .i64 q3, .int .i64 q4, .int .i64 q5] 36))) := HL.out.alloc _
            rcases hld_ways art q0 q1 q2 q3 q4 q5 m with ⟨u1, hE⟩ | ⟨u1, u2, hE⟩ | ⟨u1, u2, u3, hE⟩ | ⟨u1, u2, u3, hE⟩
            · have HE : Hid ((rs.take (j + 1)).filter (hldB art m) = F) := HN.out.1 hE
              clear hE HN HL5
              go_wp2
              go_roundw
              case rel => exact ⟨j + 1, gh, ch, by omega, by rw [HE.out], by go_num, by rw [HE.out]; exact HL.out⟩
              case measure => simp [intOf]; omega
            · have HE : Hid ((rs.take (j + 1)).filter (hldB art m) = F) := HN.out.1 hE
              clear hE HN HL5
              go_wp2
              go_roundw
              case rel => exact ⟨j + 1, gh, ch, by omega, by rw [HE.out], by go_num, by rw [HE.out]; exact HL.out⟩
              case measure => simp [intOf]; omega
            · have HE : Hid ((rs.take (j + 1)).filter (hldB art m) = F) := HN.out.1 hE
              clear hE HN HL5
              go_wp2
              go_roundw
              case rel => exact ⟨j + 1, gh, ch, by omega, by rw [HE.out], by go_num, by rw [HE.out]; exact HL.out⟩
              case measure => simp [intOf]; omega
            · have HE : Hid ((rs.take (j + 1)).filter (hldB art m) = F ++ [(⟨q0, q1, q2, q3, q4, q5⟩ : RPr)]) := HN.out.2 hE
              clear hE HN
              go_wp2_with (at_builtin; refine wpList_append_lies _ rfl _ _ 23 rfl w9.heap.size 36 i0 (.agg #[.string ⟨#[]⟩, .string ⟨#[]⟩, .int .i64 0, .int .i64 0, .int .i64 0, .int .i64 0]) 6 64 Try.underlying23 hti hi0 hi1 hi2 rfl (by decide) _ _ _ rfl HL5.out.1 ⟨wr.heap.size, 0, none⟩ 1 1 [.string q0, .string q1, .int .i64 q2, .int .i64 q3, .int .i64 q4, .int .i64 q5] rfl rfl (World.news_of_block (heapNew wr _)) (oneRowP (⟨q0, q1, q2, q3, q4, q5⟩ : RPr)) (by omega) (by unfold maxLen; omega) (by omega) HL5.out.2.1 _ rfl ?_; intro g7 cp7 W7 own7 grow7 hat7 hlt7; have HL7 : Hid (LP w9 w9.heap.size (.slice (some ⟨g7, 0, none⟩) (F.length + 1) cp7) (F ++ [(⟨q0, q1, q2, q3, q4, q5⟩ : RPr)]) W7) := HL5.out.push (r := (⟨q0, q1, q2, q3, q4, q5⟩ : RPr)) own7 grow7; clear own7 grow7 hat7 hlt7)
              go_roundw
              case rel => exact ⟨j + 1, g7, cp7, by omega, by rw [HE.out, List.length_append]; rfl, by go_num, by rw [HE.out, List.length_append]; exact HL7.out⟩
              case measure => simp [intOf]; omega
          · obtain rfl : j = rs.length := by omega
            rw [List.take_length] at HL ⊢
            have HRh : Hid (ReadsPr wr.heap.size wr (some ⟨gh, 0, none⟩) (rs.filter (hldB art m))) := prc_reads HL.out.1
            have B10 : Hid (Below w7.heap.size w7 wr) := chain B9.out HL.out.2.2
            clear HL
            go_wp2_with fail
            (first | go_at_call 8 | skip)
            refine (HPh.out wr gh ch HRh.out).mono ?_
            rintro e w11 ⟨rfl, hb11⟩
            have B11 : Hid (Below w7.heap.size w7 w11) := chain B10.out hb11
            clear hb11
            go_wp2
            go_roundw
            case rel => exact ⟨kq, m + 1, by go_num, by go_num, HRel.out.1, HRel.out.2.1, HRel.out.2.2.1, HRel.out.2.2.2, B11.out⟩
            case measure => simp [intOf]; omega
      · subst e1
        obtain ⟨y0, y1, y2⟩ := HC1.out e2
        have hc1 : (k : Int) + 1 < (n : Int) := by omega
        have hc2 : (S.getD (2 * k + 2) 0 == m) = true := by rw [beq_iff_eq]; exact e3
        have hc3 : (S.getD (2 * k + 3) 0 == S.getD (2 * k + 1) 0) = false := by rw [beq_eq_false_iff_ne]; exact e4
        clear HC1 e2
        generalize S.getD (2 * k + 2) 0 = at1 at *
        generalize S.getD (2 * k + 3) 0 = am3 at *
        generalize S.getD (2 * k + 1) 0 = am4 at *
        go_wp2_with fail
        go_quiet (fail)
        go_wp2_with fail
        (first | go_at_call 8 | skip)
        refine (HPr.out _ (HRw.out _ (chain HB.out (below_drewQ wr _)))).mono ?_
        rintro e w8 ⟨rfl, hb8⟩
        have B8 : Hid (Below w7.heap.size w7 w8) := chain (chain HB.out (below_drewQ wr _)) hb8
        clear hb8
        go_wp2_with fail
        (first | go_at_call 9 | skip)
        refine (HPt.out w8 (HRw.out w8 B8.out)).mono ?_
        rintro e w9 ⟨rfl, hb9⟩
        have B9 : Hid (Below w7.heap.size w7 w9) := chain B8.out hb9
        have y9 := HCa.out w9 B9.out
        clear hb9 HCa HPr HPt
        have HLP0 : Hid (LP w9 w9.heap.size (.slice (some ⟨w9.heap.size, 0, none⟩) 0 0) [] (w9.alloc (Obj.cells #[] 36))) := LP.start w9
        go_wp2_with fail
        go_loopw [20, 21] (fun v i wr => ∃ (j gh ch : Nat), j ≤ rs.length ∧ v = .slice (some ⟨gh, 0, none⟩) ((rs.take j).filter (hldB art m)).length ch ∧ i = .int .i64 (j : Int) ∧ LP w9 w9.heap.size (.slice (some ⟨gh, 0, none⟩) ((rs.take j).filter (hldB art m)).length ch) ((rs.take j).filter (hldB art m)) wr) (fun _ i _ => rs.length - (intOf i).toNat)
        case atStart => exact ⟨0, w9.heap.size, 0, Nat.zero_le _, rfl, rfl, HLP0.out⟩
        case round =>
          clear HLP0
          obtain ⟨j, gh, ch, hj, rfl, rfl, hL⟩ := hrel
          have HL : Hid (LP w9 w9.heap.size (.slice (some ⟨gh, 0, none⟩) ((rs.take j).filter (hldB art m)).length ch) ((rs.take j).filter (hldB art m)) wr) := hL
          clear hL
          by_cases hjl : j < rs.length
          · have hjl' : (j : Int) < (rs.length : Int) := by omega
            obtain ⟨z0, z1, z2, z3, z4, z5⟩ := HRow.out wr (chain B9.out HL.out.2.2) j hjl
            have HN : Hid ((hldB art m (rs.getD j zPr) = false → (rs.take (j + 1)).filter (hldB art m) = (rs.take j).filter (hldB art m)) ∧ (hldB art m (rs.getD j zPr) = true → (rs.take (j + 1)).filter (hldB art m) = (rs.take j).filter (hldB art m) ++ [rs.getD j zPr])) := HNxt.out j hjl
            have hl11 := HLen.out j
            generalize rs.getD j zPr = r at *
            obtain ⟨q0, q1, q2, q3, q4, q5⟩ := r
            dsimp only at z0 z1 z2 z3 z4 z5
            generalize (rs.take j).filter (hldB art m) = F at *
            have HL5 : Hid (LP w9 w9.heap.size (.slice (some ⟨gh, 0, none⟩) F.length ch) F (wr.alloc (Obj.cells #[.string q0, .string q1, .int .i64 q2, .int .i64 q3, .int .i64 q4, .int .i64 q5] 36))) := HL.out.alloc _
            rcases hld_ways art q0 q1 q2 q3 q4 q5 m with ⟨u1, hE⟩ | ⟨u1, u2, hE⟩ | ⟨u1, u2, u3, hE⟩ | ⟨u1, u2, u3, hE⟩
            · have HE : Hid ((rs.take (j + 1)).filter (hldB art m) = F) := HN.out.1 hE
              clear hE HN HL5
              go_wp2
              go_roundw
              case rel => exact ⟨j + 1, gh, ch, by omega, by rw [HE.out], by go_num, by rw [HE.out]; exact HL.out⟩
              case measure => simp [intOf]; omega
            · have HE : Hid ((rs.take (j + 1)).filter (hldB art m) = F) := HN.out.1 hE
              clear hE HN HL5
              go_wp2
              go_roundw
              case rel => exact ⟨j + 1, gh, ch, by omega, by rw [HE.out], by go_num, by rw [HE.out]; exact HL.out⟩
              case measure => simp [intOf]; omega
            · have HE : Hid ((rs.take (j + 1)).filter (hldB art m) = F) := HN.out.1 hE
              clear hE HN HL5
              go_wp2
              go_roundw
              case rel => exact ⟨j + 1, gh, ch, by omega, by rw [HE.out], by go_num, by rw [HE.out]; exact HL.out⟩
              case measure => simp [intOf]; omega
            · have HE : Hid ((rs.take (j + 1)).filter (hldB art m) = F ++ [(⟨q0, q1, q2, q3, q4, q5⟩ : RPr)]) := HN.out.2 hE
              clear hE HN
              go_wp2_with (at_builtin; refine wpList_append_lies _ rfl _ _ 23 rfl w9.heap.size 36 i0 (.agg #[.string ⟨#[]⟩, .string ⟨#[]⟩, .int .i64 0, .int .i64 0, .int .i64 0, .int .i64 0]) 6 64 Try.underlying23 hti hi0 hi1 hi2 rfl (by decide) _ _ _ rfl HL5.out.1 ⟨wr.heap.size, 0, none⟩ 1 1 [.string q0, .string q1, .int .i64 q2, .int .i64 q3, .int .i64 q4, .int .i64 q5] rfl rfl (World.news_of_block (heapNew wr _)) (oneRowP (⟨q0, q1, q2, q3, q4, q5⟩ : RPr)) (by omega) (by unfold maxLen; omega) (by omega) HL5.out.2.1 _ rfl ?_; intro g7 cp7 W7 own7 grow7 hat7 hlt7; have HL7 : Hid (LP w9 w9.heap.size (.slice (some ⟨g7, 0, none⟩) (F.length + 1) cp7) (F ++ [(⟨q0, q1, q2, q3, q4, q5⟩ : RPr)]) W7) := HL5.out.push (r := (⟨q0, q1, q2, q3, q4, q5⟩ : RPr)) own7 grow7; clear own7 grow7 hat7 hlt7)
              go_roundw
              case rel => exact ⟨j + 1, g7, cp7, by omega, by rw [HE.out, List.length_append]; rfl, by go_num, by rw [HE.out, List.length_append]; exact HL7.out⟩
              case measure => simp [intOf]; omega
          · obtain rfl : j = rs.length := by omega
            rw [List.take_length] at HL ⊢
            have HRh : Hid (ReadsPr wr.heap.size wr (some ⟨gh, 0, none⟩) (rs.filter (hldB art m))) := prc_reads HL.out.1
            have B10 : Hid (Below w7.heap.size w7 wr) := chain B9.out HL.out.2.2
            clear HL
            go_wp2_with fail
            (first | go_at_call 8 | skip)
            refine (HPh.out wr gh ch HRh.out).mono ?_
            rintro e w11 ⟨rfl, hb11⟩
            have B11 : Hid (Below w7.heap.size w7 w11) := chain B10.out hb11
            clear hb11
            go_wp2
            go_roundw
            case rel => exact ⟨k + 1, m + 1, by go_num, by go_num, HRel.out.1, HRel.out.2.1, HRel.out.2.2.1, HRel.out.2.2.2, B11.out⟩
            case measure => simp [intOf]; omega
    · rw [v1, v2] at HPr HPt
      rw [v3, v4] at HPh
      clear v1 v2 v3 v4
      rcases HC.out with ⟨e1, e2⟩ | ⟨e1, e2, e3⟩ | ⟨e1, e2, e3, e4⟩
      all_goals clear HC
      · subst e1
        have hc0 : decide ((kq : Int) + 1 < (n : Int)) = false := decide_eq_false (by omega)
        have hc1 : ¬ (kq : Int) + 1 < (n : Int) := by omega
        clear HC1 e2
        go_wp2_with fail
        (first | go_at_call 8 | skip)
        refine (HPr.out wr (HRw.out wr HB.out)).mono ?_
        rintro e w8 ⟨rfl, hb8⟩
        have B8 : Hid (Below w7.heap.size w7 w8) := chain HB.out hb8
        clear hb8
        go_wp2_with fail
        (first | go_at_call 9 | skip)
        refine (HPt.out w8 (HRw.out w8 B8.out)).mono ?_
        rintro e w9 ⟨rfl, hb9⟩
        have B9 : Hid (Below w7.heap.size w7 w9) := chain B8.out hb9
        have y9 := HCa.out w9 B9.out
        clear hb9 HCa HPr HPt
        have HLP0 : Hid (LP w9 w9.heap.size (.slice (some ⟨w9.heap.size, 0, none⟩) 0 0) [] (w9.alloc (Obj.cells #[] 36))) := LP.start w9
        go_wp2_with fail
        go_loopw [20, 21] (fun v i wr => ∃ (j gh ch : Nat), j ≤ rs.length ∧ v = .slice (some ⟨gh, 0, none⟩) ((rs.take j).filter (hldB art m)).length ch ∧ i = .int .i64 (j : Int) ∧ LP w9 w9.heap.size (.slice (some ⟨gh, 0, none⟩) ((rs.take j).filter (hldB art m)).length ch) ((rs.take j).filter (hldB art m)) wr) (fun _ i _ => rs.length - (intOf i).toNat)
        case atStart => exact ⟨0, w9.heap.size, 0, Nat.zero_le _, rfl, rfl, HLP0.out⟩
        case round =>
          clear HLP0
          obtain ⟨j, gh, ch, hj, rfl, rfl, hL⟩ := hrel
          have HL : Hid (LP w9 w9.heap.size (.slice (some ⟨gh, 0, none⟩) ((rs.take j).filter (hldB art m)).length ch) ((rs.take j).filter (hldB art m)) wr) := hL
          clear hL
          by_cases hjl : j < rs.length
          · have hjl' : (j : Int) < (rs.length : Int) := by omega
            obtain ⟨z0, z1, z2, z3, z4, z5⟩ := HRow.out wr (chain B9.out HL.out.2.2) j hjl
            have HN : Hid ((hldB art m (rs.getD j zPr) = false → (rs.take (j + 1)).filter (hldB art m) = (rs.take j).filter (hldB art m)) ∧ (hldB art m (rs.getD j zPr) = true → (rs.take (j + 1)).filter (hldB art m) = (rs.take j).filter (hldB art m) ++ [rs.getD j zPr])) := HNxt.out j hjl
            have hl11 := HLen.out j
            generalize rs.getD j zPr = r at *
            obtain ⟨q0, q1, q2, q3, q4, q5⟩ := r
            dsimp only at z0 z1 z2 z3 z4 z5
            generalize (rs.take j).filter (hldB art m) = F at *
            have HL5 : Hid (LP w9 w9.heap.size (.slice (some ⟨gh, 0, none⟩) F.length ch) F (wr.alloc (Obj.cells #[.string q0, .string q1, .int .i64 q2, .int .i64 q3, .int .i64 q4, .int .i64 q5] 36))) := HL.out.alloc _
            rcases hld_ways art q0 q1 q2 q3 q4 q5 m with ⟨u1, hE⟩ | ⟨u1, u2, hE⟩ | ⟨u1, u2, u3, hE⟩ | ⟨u1, u2, u3, hE⟩
            · have HE : Hid ((rs.take (j + 1)).filter (hldB art m) = F) := HN.out.1 hE
              clear hE HN HL5
              go_wp2
              go_roundw
              case rel => exact ⟨j + 1, gh, ch, by omega, by rw [HE.out], by go_num, by rw [HE.out]; exact HL.out⟩
              case measure => simp [intOf]; omega
            · have HE : Hid ((rs.take (j + 1)).filter (hldB art m) = F) := HN.out.1 hE
              clear hE HN HL5
              go_wp2
              go_roundw
              case rel => exact ⟨j + 1, gh, ch, by omega, by rw [HE.out], by go_num, by rw [HE.out]; exact HL.out⟩
              case measure => simp [intOf]; omega
            · have HE : Hid ((rs.take (j + 1)).filter (hldB art m) = F) := HN.out.1 hE
              clear hE HN HL5
              go_wp2
              go_roundw
              case rel => exact ⟨j + 1, gh, ch, by omega, by rw [HE.out], by go_num, by rw [HE.out]; exact HL.out⟩
              case measure => simp [intOf]; omega
            · have HE : Hid ((rs.take (j + 1)).filter (hldB art m) = F ++ [(⟨q0, q1, q2, q3, q4, q5⟩ : RPr)]) := HN.out.2 hE
              clear hE HN
              go_wp2_with (at_builtin; refine wpList_append_lies _ rfl _ _ 23 rfl w9.heap.size 36 i0 (.agg #[.string ⟨#[]⟩, .string ⟨#[]⟩, .int .i64 0, .int .i64 0, .int .i64 0, .int .i64 0]) 6 64 Try.underlying23 hti hi0 hi1 hi2 rfl (by decide) _ _ _ rfl HL5.out.1 ⟨wr.heap.size, 0, none⟩ 1 1 [.string q0, .string q1, .int .i64 q2, .int .i64 q3, .int .i64 q4, .int .i64 q5] rfl rfl (World.news_of_block (heapNew wr _)) (oneRowP (⟨q0, q1, q2, q3, q4, q5⟩ : RPr)) (by omega) (by unfold maxLen; omega) (by omega) HL5.out.2.1 _ rfl ?_; intro g7 cp7 W7 own7 grow7 hat7 hlt7; have HL7 : Hid (LP w9 w9.heap.size (.slice (some ⟨g7, 0, none⟩) (F.length + 1) cp7) (F ++ [(⟨q0, q1, q2, q3, q4, q5⟩ : RPr)]) W7) := HL5.out.push (r := (⟨q0, q1, q2, q3, q4, q5⟩ : RPr)) own7 grow7; clear own7 grow7 hat7 hlt7)
              go_roundw
              case rel => exact ⟨j + 1, g7, cp7, by omega, by rw [HE.out, List.length_append]; rfl, by go_num, by rw [HE.out, List.length_append]; exact HL7.out⟩
              case measure => simp [intOf]; omega
          · obtain rfl : j = rs.length := by omega
            rw [List.take_length] at HL ⊢
            have HRh : Hid (ReadsPr wr.heap.size wr (some ⟨gh, 0, none⟩) (rs.filter (hldB art m))) := prc_reads HL.out.1
            have B10 : Hid (Below w7.heap.size w7 wr) := chain B9.out HL.out.2.2
            clear HL
            go_wp2_with fail
            (first | go_at_call 8 | skip)
            refine (HPh.out wr gh ch HRh.out).mono ?_
            rintro e w11 ⟨rfl, hb11⟩
            have B11 : Hid (Below w7.heap.size w7 w11) := chain B10.out hb11
            clear hb11
            go_wp2
            go_roundw
            case rel => exact ⟨kq, m + 1, by go_num, by go_num, HRel.out.1, HRel.out.2.1, HRel.out.2.2.1, HRel.out.2.2.2, B11.out⟩
            case measure => simp [intOf]; omega
      · subst e1
        obtain ⟨y0, _, _⟩ := HC1.out e2
        have hc1 : (kq : Int) + 1 < (n : Int) := by omega
        have hc2 : (S.getD (2 * kq + 2) 0 == m) = false := by rw [beq_eq_false_iff_ne]; exact e3
        clear HC1 e2
        generalize S.getD (2 * kq + 2) 0 = at1 at *
        go_wp2_with fail
        (first | go_at_call 8 | skip)
        refine (HPr.out wr (HRw.out wr HB.out)).mono ?_
        rintro e w8 ⟨rfl, hb8⟩
        have B8 : Hid (Below w7.heap.size w7 w8) := chain HB.out hb8
        clear hb8
        go_wp2_with fail
        (first | go_at_call 9 | skip)
        refine (HPt.out w8 (HRw.out w8 B8.out)).mono ?_
        rintro e w9 ⟨rfl, hb9⟩
        have B9 : Hid (Below w7.heap.size w7 w9) := chain B8.out hb9
        have y9 := HCa.out w9 B9.out
        clear hb9 HCa HPr HPt
        have HLP0 : Hid (LP w9 w9.heap.size (.slice (some ⟨w9.heap.size, 0, none⟩) 0 0) [] (w9.alloc (Obj.cells #[] 36))) := LP.start w9
        go_wp2_with fail
        go_loopw [20, 21] (fun v i wr => ∃ (j gh ch : Nat), j ≤ rs.length ∧ v = .slice (some ⟨gh, 0, none⟩) ((rs.take j).filter (hldB art m)).length ch ∧ i = .int .i64 (j : Int) ∧ LP w9 w9.heap.size (.slice (some ⟨gh, 0, none⟩) ((rs.take j).filter (hldB art m)).length ch) ((rs.take j).filter (hldB art m)) wr) (fun _ i _ => rs.length - (intOf i).toNat)
        case atStart => exact ⟨0, w9.heap.size, 0, Nat.zero_le _, rfl, rfl, HLP0.out⟩
        case round =>
          clear HLP0
          obtain ⟨j, gh, ch, hj, rfl, rfl, hL⟩ := hrel
          have HL : Hid (LP w9 w9.heap.size (.slice (some ⟨gh, 0, none⟩) ((rs.take j).filter (hldB art m)).length ch) ((rs.take j).filter (hldB art m)) wr) := hL
          clear hL
          by_cases hjl : j < rs.length
          · have hjl' : (j : Int) < (rs.length : Int) := by omega
            obtain ⟨z0, z1, z2, z3, z4, z5⟩ := HRow.out wr (chain B9.out HL.out.2.2) j hjl
            have HN : Hid ((hldB art m (rs.getD j zPr) = false → (rs.take (j + 1)).filter (hldB art m) = (rs.take j).filter (hldB art m)) ∧ (hldB art m (rs.getD j zPr) = true → (rs.take (j + 1)).filter (hldB art m) = (rs.take j).filter (hldB art m) ++ [rs.getD j zPr])) := HNxt.out j hjl
            have hl11 := HLen.out j
            generalize rs.getD j zPr = r at *
            obtain ⟨q0, q1, q2, q3, q4, q5⟩ := r
            dsimp only at z0 z1 z2 z3 z4 z5
            generalize (rs.take j).filter (hldB art m) = F at *
            have HL5 : Hid (LP w9 w9.heap.size (.slice (some ⟨gh, 0, none⟩) F.length ch) F (wr.alloc (Obj.cells #[.string q0, .string q1, .int .i64 q2, .int .i64 q3, .int .i64 q4, .int .i64 q5] 36))) := HL.out.alloc _
            rcases hld_ways art q0 q1 q2 q3 q4 q5 m with ⟨u1, hE⟩ | ⟨u1, u2, hE⟩ | ⟨u1, u2, u3, hE⟩ | ⟨u1, u2, u3, hE⟩
            · have HE : Hid ((rs.take (j + 1)).filter (hldB art m) = F) := HN.out.1 hE
              clear hE HN HL5
              go_wp2
              go_roundw
              case rel => exact ⟨j + 1, gh, ch, by omega, by rw [HE.out], by go_num, by rw [HE.out]; exact HL.out⟩
              case measure => simp [intOf]; omega
            · have HE : Hid ((rs.take (j + 1)).filter (hldB art m) = F) := HN.out.1 hE
              clear hE HN HL5
              go_wp2
              go_roundw
              case rel => exact ⟨j + 1, gh, ch, by omega, by rw [HE.out], by go_num, by rw [HE.out]; exact HL.out⟩
              case measure => simp [intOf]; omega
            · have HE : Hid ((rs.take (j + 1)).filter (hldB art m) = F) := HN.out.1 hE
              clear hE HN HL5
              go_wp2
              go_roundw
              case rel => exact ⟨j + 1, gh, ch, by omega, by rw [HE.out], by go_num, by rw [HE.out]; exact HL.out⟩
              case measure => simp [intOf]; omega
            · have HE : Hid ((rs.take (j + 1)).filter (hldB art m) = F ++ [(⟨q0, q1, q2, q3, q4, q5⟩ : RPr)]) := HN.out.2 hE
              clear hE HN
              go_wp2_with (at_builtin; refine wpList_append_lies _ rfl _ _ 23 rfl w9.heap.size 36 i0 (.agg #[.string ⟨#[]⟩, .string ⟨#[]⟩, .int .i64 0, .int .i64 0, .int .i64 0, .int .i64 0]) 6 64 Try.underlying23 hti hi0 hi1 hi2 rfl (by decide) _ _ _ rfl HL5.out.1 ⟨wr.heap.size, 0, none⟩ 1 1 [.string q0, .string q1, .int .i64 q2, .int .i64 q3, .int .i64 q4, .int .i64 q5] rfl rfl (World.news_of_block (heapNew wr _)) (oneRowP (⟨q0, q1, q2, q3, q4, q5⟩ : RPr)) (by omega) (by unfold maxLen; omega) (by omega) HL5.out.2.1 _ rfl ?_; intro g7 cp7 W7 own7 grow7 hat7 hlt7; have HL7 : Hid (LP w9 w9.heap.size (.slice (some ⟨g7, 0, none⟩) (F.length + 1) cp7) (F ++ [(⟨q0, q1, q2, q3, q4, q5⟩ : RPr)]) W7) := HL5.out.push (r := (⟨q0, q1, q2, q3, q4, q5⟩ : RPr)) own7 grow7; clear own7 grow7 hat7 hlt7)
              go_roundw
              case rel => exact ⟨j + 1, g7, cp7, by omega, by rw [HE.out, List.length_append]; rfl, by go_num, by rw [HE.out, List.length_append]; exact HL7.out⟩
              case measure => simp [intOf]; omega
          · obtain rfl : j = rs.length := by omega
            rw [List.take_length] at HL ⊢
            have HRh : Hid (ReadsPr wr.heap.size wr (some ⟨gh, 0, none⟩) (rs.filter (hldB art m))) := prc_reads HL.out.1
            have B10 : Hid (Below w7.heap.size w7 wr) := chain B9.out HL.out.2.2
            clear HL
            go_wp2_with fail
            (first | go_at_call 8 | skip)
            refine (HPh.out wr gh ch HRh.out).mono ?_
            rintro e w11 ⟨rfl, hb11⟩
            have B11 : Hid (Below w7.heap.size w7 w11) := chain B10.out hb11
            clear hb11
            go_wp2
            go_roundw
            case rel => exact ⟨kq, m + 1, by go_num, by go_num, HRel.out.1, HRel.out.2.1, HRel.out.2.2.1, HRel.out.2.2.2, B11.out⟩
            case measure => simp [intOf]; omega
      · subst e1
        obtain ⟨y0, y1, y2⟩ := HC1.out e2
        have hc1 : (k : Int) + 1 < (n : Int) := by omega
        have hc2 : (S.getD (2 * k + 2) 0 == m) = true := by rw [beq_iff_eq]; exact e3
        have hc3 : (S.getD (2 * k + 3) 0 == S.getD (2 * k + 1) 0) = false := by rw [beq_eq_false_iff_ne]; exact e4
        clear HC1 e2
        generalize S.getD (2 * k + 2) 0 = at1 at *
        generalize S.getD (2 * k + 3) 0 = am3 at *
        generalize S.getD (2 * k + 1) 0 = am4 at *
        go_wp2_with fail
        go_quiet (fail)
        go_wp2_with fail
        (first | go_at_call 8 | skip)
        refine (HPr.out _ (HRw.out _ (chain HB.out (below_drewQ wr _)))).mono ?_
        rintro e w8 ⟨rfl, hb8⟩
        have B8 : Hid (Below w7.heap.size w7 w8) := chain (chain HB.out (below_drewQ wr _)) hb8
        clear hb8
        go_wp2_with fail
        (first | go_at_call 9 | skip)
        refine (HPt.out w8 (HRw.out w8 B8.out)).mono ?_
        rintro e w9 ⟨rfl, hb9⟩
        have B9 : Hid (Below w7.heap.size w7 w9) := chain B8.out hb9
        have y9 := HCa.out w9 B9.out
        clear hb9 HCa HPr HPt
        have HLP0 : Hid (LP w9 w9.heap.size (.slice (some ⟨w9.heap.size, 0, none⟩) 0 0) [] (w9.alloc (Obj.cells #[] 36))) := LP.start w9
        go_wp2_with fail
        go_loopw [20, 21] (fun v i wr => ∃ (j gh ch : Nat), j ≤ rs.length ∧ v = .slice (some ⟨gh, 0, none⟩) ((rs.take j).filter (hldB art m)).length ch ∧ i = .int .i64 (j : Int) ∧ LP w9 w9.heap.size (.slice (some ⟨gh, 0, none⟩) ((rs.take j).filter (hldB art m)).length ch) ((rs.take j).filter (hldB art m)) wr) (fun _ i _ => rs.length - (intOf i).toNat)
        case atStart => exact ⟨0, w9.heap.size, 0, Nat.zero_le _, rfl, rfl, HLP0.out⟩
        case round =>
          clear HLP0
          obtain ⟨j, gh, ch, hj, rfl, rfl, hL⟩ := hrel
          have HL : Hid (LP w9 w9.heap.size (.slice (some ⟨gh, 0, none⟩) ((rs.take j).filter (hldB art m)).length ch) ((rs.take j).filter (hldB art m)) wr) := hL
          clear hL
          by_cases hjl : j < rs.length
          · have hjl' : (j : Int) < (rs.length : Int) := by omega
            obtain ⟨z0, z1, z2, z3, z4, z5⟩ := HRow.out wr (chain B9.out HL.out.2.2) j hjl
            have HN : Hid ((hldB art m (rs.getD j zPr) = false → (rs.take (j + 1)).filter (hldB art m) = (rs.take j).filter (hldB art m)) ∧ (hldB art m (rs.getD j zPr) = true → (rs.take (j + 1)).filter (hldB art m) = (rs.take j).filter (hldB art m) ++ [rs.getD j zPr])) := HNxt.out j hjl
            have hl11 := HLen.out j
            generalize rs.getD j zPr = r at *
            obtain ⟨q0, q1, q2, q3, q4, q5⟩ := r
            dsimp only at z0 z1 z2 z3 z4 z5
            generalize (rs.take j).filter (hldB art m) = F at *
            have HL5 : Hid (LP w9 w9.heap.size (.slice (some ⟨gh, 0, none⟩) F.length ch) F (wr.alloc (Obj.cells #[.string q0, .string q1, .int .i64 q2, .int .i64 q3, .int .i64 q4, .int .i64 q5] 36))) := HL.out.alloc _
            rcases hld_ways art q0 q1 q2 q3 q4 q5 m with ⟨u1, hE⟩ | ⟨u1, u2, hE⟩ | ⟨u1, u2, u3, hE⟩ | ⟨u1, u2, u3, hE⟩
            · have HE : Hid ((rs.take (j + 1)).filter (hldB art m) = F) := HN.out.1 hE
              clear hE HN HL5
              go_wp2
              go_roundw
              case rel => exact ⟨j + 1, gh, ch, by omega, by rw [HE.out], by go_num, by rw [HE.out]; exact HL.out⟩
              case measure => simp [intOf]; omega
            · have HE : Hid ((rs.take (j + 1)).filter (hldB art m) = F) := HN.out.1 hE
              clear hE HN HL5
              go_wp2
              go_roundw
              case rel => exact ⟨j + 1, gh, ch, by omega, by rw [HE.out], by go_num, by rw [HE.out]; exact HL.out⟩
              case measure => simp [intOf]; omega
            · have HE : Hid ((rs.take (j + 1)).filter (hldB art m) = F) := HN.out.1 hE
              clear hE HN HL5
              go_wp2
              go_roundw
              case rel => exact ⟨j + 1, gh, ch, by omega, by rw [HE.out], by go_num, by rw [HE.out]; exact HL.out⟩
              case measure => simp [intOf]; omega
            · have HE : Hid ((rs.take (j + 1)).filter (hldB art m) = F ++ [(⟨q0, q1, q2, q3, q4, q5⟩ : RPr)]) := HN.out.2 hE
              clear hE HN
              go_wp2_with (at_builtin; refine wpList_append_lies _ rfl _ _ 23 rfl w9.heap.size 36 i0 (.agg #[.string ⟨#[]⟩, .string ⟨#[]⟩, .int .i64 0, .int .i64 0, .int .i64 0, .int .i64 0]) 6 64 Try.underlying23 hti hi0 hi1 hi2 rfl (by decide) _ _ _ rfl HL5.out.1 ⟨wr.heap.size, 0, none⟩ 1 1 [.string q0, .string q1, .int .i64 q2, .int .i64 q3, .int .i64 q4, .int .i64 q5] rfl rfl (World.news_of_block (heapNew wr _)) (oneRowP (⟨q0, q1, q2, q3, q4, q5⟩ : RPr)) (by omega) (by unfold maxLen; omega) (by omega) HL5.out.2.1 _ rfl ?_; intro g7 cp7 W7 own7 grow7 hat7 hlt7; have HL7 : Hid (LP w9 w9.heap.size (.slice (some ⟨g7, 0, none⟩) (F.length + 1) cp7) (F ++ [(⟨q0, q1, q2, q3, q4, q5⟩ : RPr)]) W7) := HL5.out.push (r := (⟨q0, q1, q2, q3, q4, q5⟩ : RPr)) own7 grow7; clear own7 grow7 hat7 hlt7)
              go_roundw
              case rel => exact ⟨j + 1, g7, cp7, by omega, by rw [HE.out, List.length_append]; rfl, by go_num, by rw [HE.out, List.length_append]; exact HL7.out⟩
              case measure => simp [intOf]; omega
          · obtain rfl : j = rs.length := by omega
            rw [List.take_length] at HL ⊢
            have HRh : Hid (ReadsPr wr.heap.size wr (some ⟨gh, 0, none⟩) (rs.filter (hldB art m))) := prc_reads HL.out.1
            have B10 : Hid (Below w7.heap.size w7 wr) := chain B9.out HL.out.2.2
            clear HL
            go_wp2_with fail
            (first | go_at_call 8 | skip)
            refine (HPh.out wr gh ch HRh.out).mono ?_
            rintro e w11 ⟨rfl, hb11⟩
            have B11 : Hid (Below w7.heap.size w7 w11) := chain B10.out hb11
            clear hb11
            go_wp2
            go_roundw
            case rel => exact ⟨k + 1, m + 1, by go_num, by go_num, HRel.out.1, HRel.out.2.1, HRel.out.2.2.1, HRel.out.2.2.2, B11.out⟩
            case measure => simp [intOf]; omega

theorem own : ownKnob Try.prog.godebug = none := by kernel_rfl
theorem laidOut : laidOutB Try.prog = true := by kernel_rfl

set_option maxRecDepth 100000 in
theorem lifted (os : Os) (started : os.Started) (H : Type) (enc : TypeId × Value → H) :
    ReturnsInHanded {} Try.checked os 3 .any (Rows.fnPricesSpec.pre6 enc Try.prog Try.f3 Rows.fnPricesRow.domain false) (Rows.fnPricesSpec.post enc Try.prog Try.f3 false true false false) := by
  refine returnsInHanded_of_change (C := Try.checked) own started (by kernel_rfl) Try.func3
    (ChangeSpec.witness6 (enc := enc) (C := Try.checked) false ⟨#[], #[.slice none 0 0, .slice none 0 0], []⟩ 8 (by kernel_rfl) (by kernel_rfl) (by kernel_rfl) (by kernel_rfl)) ?_
  intro W base args ds gs before hval0 hW hcnd _
  have hval : ∀ (j : Nat) t v, Try.f3.params[j]? = some t → args[j]? = some v → Value.okWide Try.prog W .any base t v := hval0
  have hW' := hW
  obtain ⟨p, q, hA0, hV, rfl, hfz, hnd⟩ := hW
  have hA : DataW.TrodAll enc Try.prog W 0 (fun _ => true) true Try.f3.params.toList args.toList ds p := hA0
  rw [Try.params3] at hA hval
  obtain ⟨v0, vs0, d0, ds0, p0, q0, hargs, rfl, rfl, h0, r0⟩ := trodAll_cons hA
  obtain ⟨v1, vs1, d1, ds1, p1, q1, rfl, rfl, rfl, h1, r1⟩ := trodAll_cons r0
  obtain ⟨rfl, rfl, rfl⟩ := trodAll_nil r1
  obtain rfl : args = #[v0, v1] := by cases args; simp_all
  obtain ⟨rfl, rfl⟩ := trodVars_none hV
  have k0 := h0
  have lt0 : ∀ x ∈ p0, x.block < W.heap.size := by obtain ⟨m, hm⟩ := k0; exact DataW.trod_lt m _ _ _ hm
  have k1 := h1
  have lt1 : ∀ x ∈ p1, x.block < W.heap.size := by obtain ⟨m, hm⟩ := k1; exact DataW.trod_lt m _ _ _ hm
  obtain ⟨a0, len0, cap0, rfl⟩ := okWide_slice Try.underlying22 (hval 0 22 v0 rfl rfl)
  obtain ⟨z0, w0⟩ : ∃ zs, IsRow .u8 W a0 len0 cap0 zs := by
    obtain ⟨fuel, hf⟩ := h0
    rcases open_ints Try.underlying22 Try.underlying5 (by kernel_rfl) hf with ⟨hcs, _⟩ | ⟨x, l, c, zs, hcs, _, hl, hm, hz, _, hcell, hwz⟩
    · simp [Value.cells] at hcs
      obtain ⟨rfl, rfl, rfl⟩ := hcs
      exact ⟨[], .inl ⟨rfl, rfl, rfl, rfl⟩⟩
    · simp [Value.cells] at hcs
      obtain ⟨rfl, rfl, rfl⟩ := hcs
      exact ⟨zs, .inr ⟨_, rfl, hl, hm, by simpa using hz, hcell, hwz⟩⟩
  obtain ⟨a1, len1, cap1, rfl⟩ := okWide_slice Try.underlying22 (hval 1 22 v1 rfl rfl)
  obtain ⟨z1, w1⟩ : ∃ zs, IsRow .u8 W a1 len1 cap1 zs := by
    obtain ⟨fuel, hf⟩ := h1
    rcases open_ints Try.underlying22 Try.underlying5 (by kernel_rfl) hf with ⟨hcs, _⟩ | ⟨x, l, c, zs, hcs, _, hl, hm, hz, _, hcell, hwz⟩
    · simp [Value.cells] at hcs
      obtain ⟨rfl, rfl, rfl⟩ := hcs
      exact ⟨[], .inl ⟨rfl, rfl, rfl, rfl⟩⟩
    · simp [Value.cells] at hcs
      obtain ⟨rfl, rfl, rfl⟩ := hcs
      exact ⟨zs, .inr ⟨_, rfl, hl, hm, by simpa using hz, hcell, hwz⟩⟩
  clear hA0 hval0
  refine (walk a0 len0 cap0 z0 a1 len1 cap1 z1 W (rowB_of _ _ _ _ _ w0) (rowB_of _ _ _ _ _ w1)).mono fun e W' ⟨he, bel⟩ => ?_
  subst he
  exact ⟨_, rfl, _, _, _, [], _, [], hW', trodAll_mk1 (shut_bool Try.underlying4 _), (trodAll_cons_mk (Below.trod laidOut (by kernel_rfl) (of_decide_eq_true (by kernel_rfl)) k0 bel lt0) (trodAll_cons_mk (Below.trod laidOut (by kernel_rfl) (of_decide_eq_true (by kernel_rfl)) k1 bel lt1) trodAll_mk0)), rfl, bel.frame _, fun h => by cases h⟩

theorem over : Rows.fnPricesRow.holds Try.pinned (OpenSpec.ofChange Rows.fnPricesSpec) :=
  OpenClaim.holds_of_wide 3 Try.f3 rfl rfl rfl rfl rfl rfl rfl ⟨rfl, rfl, rfl, rfl, rfl⟩ rfl rfl rfl rfl rfl (by kernel_rfl) Try.func3 (by kernel_rfl)
    (of_decide_eq_true (by kernel_rfl)) (by unfold Func.isWrapper; first | (rw [if_pos (by decide +kernel)]; kernel_rfl) | (rw [if_neg (by decide +kernel)]; exact ⟨rfl, rfl⟩))
    (fun os started H enc _ => lifted os started H enc)
end FnPrices

theorem fnPrices_holds : Rows.FnPricesSaid := FnPrices.over
end Go.Proofs.Ytgfgecpgfcipnaa

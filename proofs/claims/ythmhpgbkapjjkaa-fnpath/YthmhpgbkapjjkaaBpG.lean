/-
  Contract of the specification's search for the shortest way where picks are left; then for all masks.
-/
import Derived.Test.YthmhpgbkapjjkaaBpF
namespace Go.Proofs.Ythmhpgbkapjjkaa
open Go.ChangeShapes Go.WideShapes Go.ChangeAt Go.RowKit Go.Joins Go.Deep
set_option linter.unusedVariables false

section
variable {sb mb ab : Nat} {a p g : Int} {ad : Option Addr} {cap : Nat} {rs : List RPt} {q : RPt} {w0 W wr w' : World} {ms : List Int}
theorem LeI.place (h : LeI sb mb ab a p g ad cap rs q w0 W wr) {mask last : Nat} (hm : mask < 2 ^ rs.length) (hl : last ≤ rs.length) : ∃ (n : Nat) (z : Int), wr.cell? ⟨sb, 4, none⟩ = some (.slice (some ⟨mb, 0, none⟩) n n) ∧ ixN rs.length mask last < n ∧ wr.cell? ⟨mb, ixN rs.length mask last, none⟩ = some (.int .i64 z) ∧ wr.frozen? ⟨mb, ixN rs.length mask last, none⟩ = false ∧ (z = -1 ∨ z = lvN p g rs mask (rs.getD last zPt)) := by
  obtain ⟨ms, h1⟩ := h.ls
  have hk : ixN rs.length mask last < ms.length := by rw [h1.ok.1]; exact ix_lt hm hl
  exact ⟨ms.length, _, h1.cells.2.2.2.2, hk, (h1.memo hk).1, (h1.memo hk).2, h1.ok.2 mask last hm hl⟩
theorem LeI.put (h : LeI sb mb ab a p g ad cap rs q w0 W wr) (hmb : w0.heap.size ≤ mb) {mask last : Nat} (hm : mask < 2 ^ rs.length) (hl : last ≤ rs.length) : LeI sb mb ab a p g ad cap rs q w0 W (wr.setCell ⟨mb, ixN rs.length mask last, none⟩ (.int .i64 (lvN p g rs mask (rs.getD last zPt)))) := by
  obtain ⟨ms, h1⟩ := h.ls
  refine ⟨⟨_, h1.put hmb hm hl⟩, (heap_setCell_other _ _ _ _ (fun e => ?_)).trans h.box, h.fr.set rfl _ _⟩
  have := h.box
  have e : ab = mb := e
  rw [e, h1.me] at this
  simp at this
theorem LeI.low (h : LeI sb mb ab a p g ad cap rs q w0 W wr) : Below w0.heap.size w0 wr := by
  obtain ⟨ms, h1⟩ := h.ls
  exact h1.low
end
theorem wrapU9 (j : Nat) (h : j ≤ 9) : IntKind.u64.wrap (j : Int) = (j : Int) := by
  rcases (by omega : j = 0 ∨ j = 1 ∨ j = 2 ∨ j = 3 ∨ j = 4 ∨ j = 5 ∨ j = 6 ∨ j = 7 ∨ j = 8 ∨ j = 9) with rfl | rfl | rfl | rfl | rfl | rfl | rfl | rfl | rfl | rfl <;> first | decide | kernel_rfl
theorem least_nums {n mask last N M X : Nat} (h9 : n ≤ 9) (hN : N ≤ 512) (hm : mask < N) (hl : last ≤ n) (hM : mask * (n + 1) = M) (hX : M + last = X) : IntKind.i64.wrap ((n : Int) + 1) = (n : Int) + 1 ∧ IntKind.i64.wrap ((mask : Int) * ((n : Int) + 1)) = (M : Int) ∧ IntKind.i64.wrap ((M : Int) + (last : Int)) = (X : Int) ∧ X < 6000 := by
  have h1 : M ≤ 512 * 10 := by rw [← hM]; exact Nat.mul_le_mul (by omega) (by omega)
  have h2 : (mask : Int) * ((n : Int) + 1) = (M : Int) := by rw [← hM]; simp
  refine ⟨wrap_id _ (by omega) (by omega), ?_, ?_, by omega⟩
  · rw [h2]; exact wrap_id _ (by omega) (by omega)
  · rw [← hX, wrap_id _ (by omega) (by omega)]; simp
theorem mask_ne {mask N : Nat} (h : ¬ mask = N - 1) (hm : mask < N) : ((mask : Int) == (N : Int) - 1) = false := by rw [beq_eq_false_iff_ne]; omega
theorem n1_wrap {N : Nat} (h : N ≤ 512) : wrap64 ((N : Int) - 1) = (N : Int) - 1 := by unfold wrap64; omega
/-- What the picks below i that are left come to. -/
def vsL (p g : Int) (rs : List RPt) (mask : Nat) (q : RPt) (i : Nat) : List Int := (msL mask i).map (vuN p g rs mask q)
theorem vs_next (p g : Int) (rs : List RPt) (mask : Nat) (q : RPt) (i : Nat) : vsL p g rs mask q (i + 1) = vsL p g rs mask q i ++ (if mask.testBit i = true then [] else [vuN p g rs mask q i]) := by
  unfold vsL msL
  rw [unL_succ, List.map_append]
  cases mask.testBit i <;> rfl
theorem vu_bd {a p g : Int} {rs : List RPt} (hh : hlB a p g = true) (hs : spsB a p rs = true) (h9 : rs.length ≤ 9) (mask : Nat) {q : RPt} (hq : spB a p q = true) (i : Nat) : (0 ≤ farN p g q (rs.getD i zPt) ∧ farN p g q (rs.getD i zPt) ≤ 2300) ∧ 0 ≤ lvN p g rs (mask ||| 2 ^ i) (rs.getD i zPt) ∧ lvN p g rs (mask ||| 2 ^ i) (rs.getD i zPt) ≤ 23000 := by
  have h1 := farN_bd hh hq (sp_get hh hs i)
  have h2 := lv_bd hh hs (mask ||| 2 ^ i) (sp_get hh hs i)
  have h3 := ms_len (mask ||| 2 ^ i) rs.length
  omega
theorem vs_nn {a p g : Int} {rs : List RPt} (hh : hlB a p g = true) (hs : spsB a p rs = true) (h9 : rs.length ≤ 9) (mask : Nat) {q : RPt} (hq : spB a p q = true) (i : Nat) : ∀ y ∈ vsL p g rs mask q i, 0 ≤ y := fun y hy => by
  unfold vsL at hy
  obtain ⟨j, _, rfl⟩ := List.mem_map.1 hy
  have := vu_bd hh hs h9 mask hq j
  unfold vuN
  omega
set_option maxHeartbeats 16000000 in
set_option maxRecDepth 4000 in
theorem least_succ (sb mb : Nat) (a p g : Int) (ad : Option Addr) (cap : Nat) (rs : List RPt) (hh : hlB a p g = true) (hs : spsB a p rs = true) (h9 : rs.length ≤ 9) (w0 : World) (hr0 : ReadsPt w0.heap.size w0 ad rs) (hmb : w0.heap.size ≤ mb) (k : Nat) (IH : Hid (∀ (mask last : Nat) (ms : List Int) (W : World), (msL mask rs.length).length = k → mask < 2 ^ rs.length → last ≤ rs.length → LsI sb mb a p g ad cap rs ms w0 W →
    Calls Try.prog 43 #[.pointer (some ⟨sb, 0, none⟩), .int .i64 (mask : Int), .int .i64 (last : Int)] W (LeQ sb mb a p g ad cap rs w0 W (lvN p g rs mask (rs.getD last zPt))))) : ∀ (mask last : Nat) (ms : List Int) (W : World), (msL mask rs.length).length = k + 1 → mask < 2 ^ rs.length → last ≤ rs.length → LsI sb mb a p g ad cap rs ms w0 W →
    Calls Try.prog 43 #[.pointer (some ⟨sb, 0, none⟩), .int .i64 (mask : Int), .int .i64 (last : Int)] W (LeQ sb mb a p g ad cap rs w0 W (lvN p g rs mask (rs.getD last zPt))) := by
  intro mask last ms W hk hm hla hI0
  have hp9 := pow_le h9
  have hpw := powI rs.length h9
  have HPn : Hid (mask < 2 ^ rs.length ∧ 2 ^ rs.length ≤ 512) := ⟨hm, hp9⟩
  have hne : msL mask rs.length ≠ [] := fun e => by rw [e] at hk; cases hk
  have hmN : ¬ mask = 2 ^ rs.length - 1 := fun e => hne ((ms_nil hm).2 e)
  have HLv : Hid (∀ q, lvN p g rs mask q = lsB (vsL p g rs mask q rs.length)) := fun q => by
    show lvN p g rs mask q = _
    rw [lv_more hne]
    unfold lsB vsL
    rw [if_neg (by simp [hne])]
  obtain ⟨M, hM⟩ : ∃ M, mask * (rs.length + 1) = M := ⟨_, rfl⟩
  obtain ⟨X, hX⟩ : ∃ X, M + last = X := ⟨_, rfl⟩
  have HWs : Hid (IntKind.i64.wrap ((rs.length : Int) + 1) = (rs.length : Int) + 1 ∧ IntKind.i64.wrap ((mask : Int) * ((rs.length : Int) + 1)) = (M : Int) ∧ IntKind.i64.wrap ((M : Int) + (last : Int)) = (X : Int) ∧ X < 6000) := least_nums h9 (pow_le h9) hm hla hM hX
  have HX2 : Hid (ixN rs.length mask last = X) := by show _ = _; rw [← hX, ← hM]; rfl
  have HM0 : Hid (mask < 2 ^ rs.length) := hm
  have HNx : Hid (∀ i, i < rs.length → mask.testBit i = false → (mask ||| 2 ^ i) < 2 ^ rs.length ∧ (msL (mask ||| 2 ^ i) rs.length).length = k) := fun i hi hb => ⟨or_lt hm hi, by rw [ms_or, List.length_erase_of_mem ((ms_mem _ _ _).2 ⟨hi, hb⟩), hk]; rfl⟩
  have HRd : Hid (ReadsPt w0.heap.size w0 ad rs) := hr0
  have HNe : Hid (rs ≠ []) := fun e => by rw [e] at hk; cases hk
  clear hX hM hne
  generalize 2 ^ rs.length = N at hp9 hpw hm hmN
  have heq : ((mask : Int) == (N : Int) - 1) = false := mask_ne hmN hm
  have hsub : wrap64 ((N : Int) - 1) = (N : Int) - 1 := n1_wrap hp9
  have HQ : Hid (spB a p (rs.getD last zPt) = true) := sp_get hh hs last
  obtain ⟨q, hq⟩ : ∃ q, q = rs.getD last zPt := ⟨_, rfl⟩
  have HFz : Hid (∀ W, Calls Try.prog 42 #[.agg #[.int .i64 a, .int .i64 p, .int .i64 g], .agg #[.int .i64 q.ai, .int .i64 q.pl], .agg #[.int .i64 0, .int .i64 0]] W fun e w' => e = .returned (.int .i64 (farN p g q zPt)) ∧ Below W.heap.size W w') := fun W => specFar_any a p g q.ai q.pl 0 0 hh (by rw [hq]; exact HQ.out) (sp_z hh) W
  obtain ⟨f0, f1, f2, f3, f4⟩ := hI0.cells
  have HQq : Hid (q = rs.getD last zPt) := hq
  rw [← hq]
  have HW0 : Hid (w0.heap.size ≤ W.heap.size) := hI0.low.size
  have HI1 := LeI.start hI0 zPt
  have HX : Hid (∀ b0 o0, ad = some ⟨b0, o0, none⟩ → b0 < w0.heap.size → PtsAt w0 b0 o0 rs → last < rs.length → ∀ W', Below W.heap.size W W' → W'.cell? ⟨b0, o0 + last * 2, none⟩ = some (.int .i64 q.ai) ∧ W'.cell? ⟨b0, o0 + last * 2 + 1, none⟩ = some (.int .i64 q.pl)) := fun b0 o0 _ hB0 ia hl W' hW' => by
    have := (ia last hl).below (chain hI0.low hW') hB0
    rw [← hq] at this
    exact this
  have HI0 : Hid (LsI sb mb a p g ad cap rs ms w0 W) := hI0
  clear hI0 hq
  go_enter Try.func43, Try.ntmps43
  go_upto_region 3 with fail
  obtain ⟨ab, hab⟩ : ∃ ab, ab = W.heap.size := ⟨_, rfl⟩
  obtain ⟨W1, hW1⟩ : ∃ W1, W1 = W.alloc (Obj.cells #[.int .i64 0, .int .i64 0] 35) := ⟨_, rfl⟩
  have HB1 : Hid (Below W.heap.size W W1 ∧ W.heap.size ≤ ab) := by rw [hW1, hab]; exact ⟨below_alloc _ _, Nat.le_refl _⟩
  have HI2 : Hid (LeI sb mb ab a p g ad cap rs zPt w0 W W1) := by rw [hW1, hab]; exact HI1
  rw [← hW1, ← hab]
  clear f0 f1 f2 f3 f4 HI1 hW1 hab
  obtain ⟨f0, f1, f2, f3⟩ := HI2.out.sc
  by_cases hlt : last < rs.length
  · have hlt' : (last : Int) < (rs.length : Int) := by omega
    rcases hr0 with h | ⟨b0, o0, ha, hB0, ia⟩
    · rw [h] at hlt; simp at hlt
    obtain ⟨x0, x1⟩ := HX.out b0 o0 ha hB0 ia hlt W1 HB1.out.1
    subst ha
    have y0 := blkCell HI2.out.box 0 _ rfl
    have y1 := blkCell HI2.out.box 1 _ rfl
    have y2 := blkFree HI2.out.box 0
    have y3 := blkFree HI2.out.box 1
    have HI3 := HI2.out.set HB1.out.2 HW0.out q
    have HI4 : Hid (LeI sb mb ab a p g (some ⟨b0, o0, none⟩) cap rs q w0 W ((W1.setCell ⟨ab, 0, none⟩ (.int .i64 q.ai)).setCell ⟨ab, 1, none⟩ (.int .i64 q.pl))) := HI3
    clear HI3 ia HX
    obtain ⟨W5, hW5⟩ : ∃ W5, W5 = (W1.setCell ⟨ab, 0, none⟩ (.int .i64 q.ai)).setCell ⟨ab, 1, none⟩ (.int .i64 q.pl) := ⟨_, rfl⟩
    go_upto_region 5 with fail
    rw [← hW5] at HI4 ⊢
    clear hW5 f0 f1 f2 f3 x0 x1 y0 y1 y2 y3 HI2 HB1
    have HRp : Hid (b0 < w0.heap.size ∧ PtsAt w0 b0 o0 rs) := by
      rcases HRd.out with hnil | ⟨b9, o9, ha9, hB9, ia9⟩
      · exact absurd hnil HNe.out
      · simp only [Option.some.injEq, Addr.mk.injEq] at ha9
        obtain ⟨e1, e2, _⟩ := ha9
        rw [e1, e2]
        exact ⟨hB9, ia9⟩
    clear HRd HNe
    obtain ⟨nm, z, d0, d1, d2, d3, hz⟩ := HI4.out.place HM0.out hla
    rw [HX2.out] at d1 d2 d3
    have d1' : (X : Int) < (nm : Int) := Int.ofNat_lt.2 d1
    rw [← HQq.out] at hz
    have HZ : Hid (z = -1 ∨ z = lvN p g rs mask q) := hz
    obtain ⟨c0, c1, c2, c3⟩ := HI4.out.sc
    clear hz d3
    obtain ⟨hwa, hwm, hwx, _⟩ := HWs.out
    by_cases hz0 : 0 ≤ z
    · have HZ1 : Hid (z = lvN p g rs mask q) := by
        rcases HZ.out with k | k
        · omega
        · exact k
      go_wp2
      go_ret
      rw [← HZ1.out]
      exact HI4.out.fin _
    · have hz1 : z < 0 := by omega
      clear HZ
      have HSpq : Hid (spB a p q = true) := by rw [HQq.out]; exact HQ.out
      have HWq : Hid (W.heap.size ≤ W5.heap.size) := HI4.out.fr.size
      go_upto_region 11 with fail
      clear d0 d1 d2 d1' hwa hwm hwx c0 c1 c2 c3 hz0 hz1 hpw hsub heq hmN
      go_wp2
      go_loopw [10, 11, 12] (fun bst c _ wr => ∃ i : Nat, i ≤ rs.length ∧ c = .int .i64 (i : Int) ∧ bst = .int .i64 (lsB (vsL p g rs mask q i)) ∧ LeI sb mb ab a p g (some ⟨b0, o0, none⟩) cap rs q w0 W wr) (fun _ c _ _ => rs.length - (intOf c).toNat)
      case atStart => exact ⟨0, Nat.zero_le _, rfl, rfl, HI4.out⟩
      case round =>
        clear HI4
        obtain ⟨i, hi, rfl, rfl, hI⟩ := hrel
        have HI5 : Hid (LeI sb mb ab a p g (some ⟨b0, o0, none⟩) cap rs q w0 W wr) := hI
        clear hI
        by_cases hlt2 : i < rs.length
        · have hlti : (i : Int) < (rs.length : Int) := by omega
          have hju := wrapU9 i (Nat.le_trans (Nat.le_of_lt hlt2) h9)
          have hsh := shr_bit mask i (Nat.lt_of_lt_of_le hm (Nat.le_trans hp9 (by decide)))
          have hnx := vs_next p g rs mask q i
          by_cases hbit : mask.testBit i = true
          · rw [if_pos hbit] at hsh hnx
            have hsh1 : bits .and .i64 ((mask : Int) / 2 ^ i) 1 = (1 : Int) := by rw [hsh]; rfl
            rw [List.append_nil] at hnx
            have HNx2 : Hid (vsL p g rs mask q (i + 1) = vsL p g rs mask q i) := hnx
            clear hsh hnx hbit
            go_wp2
            exact ⟨⟨i + 1, by omega, by go_num, by rw [HNx2.out], HI5.out⟩, by simp [intOf]; omega⟩
          · have hbit' : mask.testBit i = false := by simpa using hbit
            rw [if_neg hbit] at hsh hnx
            have hsh1 : bits .and .i64 ((mask : Int) / 2 ^ i) 1 = (0 : Int) := by rw [hsh]; rfl
            have hls := lsB_snoc (l := vsL p g rs mask q i) (x := vuN p g rs mask q i) (vs_nn hh hs h9 mask HSpq.out i)
            rw [← hnx] at hls
            obtain ⟨hmo, hko⟩ := HNx.out i hlt2 hbit'
            have hvb := vu_bd hh hs h9 mask HSpq.out i
            have HIH : Hid (∀ wq, LeI sb mb ab a p g (some ⟨b0, o0, none⟩) cap rs q w0 W wq → Calls Try.prog 43 #[.pointer (some ⟨sb, 0, none⟩), .int .i64 ((mask ||| 2 ^ i : Nat) : Int), .int .i64 (i : Int)] wq fun e w' => e = .returned (.int .i64 (lvN p g rs (mask ||| 2 ^ i) (rs.getD i zPt))) ∧ LeI sb mb ab a p g (some ⟨b0, o0, none⟩) cap rs q w0 W w') := fun wq hq => by
              obtain ⟨ms', hls'⟩ := hq.ls
              exact (IH.out (mask ||| 2 ^ i) i ms' wq hko hmo (by omega) hls').mono (fun e w' h => hq.deep h)
            have HFi : Hid (∀ W, Calls Try.prog 42 #[.agg #[.int .i64 a, .int .i64 p, .int .i64 g], .agg #[.int .i64 q.ai, .int .i64 q.pl], .agg #[.int .i64 (rs.getD i zPt).ai, .int .i64 (rs.getD i zPt).pl]] W fun e w' => e = .returned (.int .i64 (farN p g q (rs.getD i zPt))) ∧ Below W.heap.size W w') := fun W => specFar_any a p g q.ai q.pl _ _ hh HSpq.out (sp_get hh hs i) W
            have hor := orI mask (2 ^ i) (Nat.lt_of_lt_of_le hm (Nat.le_trans hp9 (by decide))) (Nat.lt_of_le_of_lt (pow_le (x := i) (Nat.le_trans (Nat.le_of_lt hlt2) h9)) (by decide))
            have hpi := powI i (Nat.le_trans (Nat.le_of_lt hlt2) h9)
            have HOr : Hid (bits .or .i64 (mask : Int) ((2 ^ i : Nat) : Int) = ((mask ||| 2 ^ i : Nat) : Int)) := hor
            have HPi : Hid (IntKind.i64.wrap ((2 : Int) ^ i) = ((2 ^ i : Nat) : Int)) := (Go.IntWalk.i64_left _).trans hpi
            have HJu : Hid (IntKind.u64.wrap (i : Int) = (i : Int)) := hju
            have HPt : Hid (∀ wq, LeI sb mb ab a p g (some ⟨b0, o0, none⟩) cap rs q w0 W wq → wq.cell? ⟨b0, o0 + i * 2, none⟩ = some (.int .i64 (rs.getD i zPt).ai) ∧ wq.cell? ⟨b0, o0 + i * 2 + 1, none⟩ = some (.int .i64 (rs.getD i zPt).pl)) := fun wq hq => (HRp.out.2 i hlt2).below hq.low HRp.out.1
            have HLs : Hid (lsB (vsL p g rs mask q (i + 1)) = if lsB (vsL p g rs mask q i) < 0 ∨ vuN p g rs mask q i < lsB (vsL p g rs mask q i) then vuN p g rs mask q i else lsB (vsL p g rs mask q i)) := hls
            have HVu : Hid (vuN p g rs mask q i = farN p g q (rs.getD i zPt) + lvN p g rs (mask ||| 2 ^ i) (rs.getD i zPt)) := rfl
            clear hls hnx hsh hbit hbit' hmo hko hor hpi HNx
            generalize (mask ||| 2 ^ i) = mo at *
            generalize (2 ^ i : Nat) = pi at *
            generalize lvN p g rs mo (rs.getD i zPt) = lv at *
            generalize rs.getD i zPt = r at *
            generalize farN p g q r = fa at *
            generalize vuN p g rs mask q i = vu at *
            generalize lsB (vsL p g rs mask q i) = bs at *
            have hwv : IntKind.i64.wrap (fa + lv) = vu := by rw [wrap_id _ (by omega) (by omega)]; exact HVu.out.symm
            have HWv : Hid (IntKind.i64.wrap (fa + lv) = vu) := hwv
            clear hwv hvb
            go_upto_region 15 with fail
            clear hsh1 hju
            have HS : Hid (∀ wq : World, LeI sb mb ab a p g (some ⟨b0, o0, none⟩) cap rs q w0 W wq → (wq.cell? ⟨sb, 0, none⟩ = some (.int .i64 a) ∧ wq.cell? ⟨sb, 1, none⟩ = some (.int .i64 p) ∧ wq.cell? ⟨sb, 2, none⟩ = some (.int .i64 g) ∧ wq.cell? ⟨sb, 3, none⟩ = some (.slice (some ⟨b0, o0, none⟩) rs.length cap)) ∧ (wq.cell? ⟨ab, 0, none⟩ = some (.int .i64 q.ai) ∧ wq.cell? ⟨ab, 1, none⟩ = some (.int .i64 q.pl)) ∧ wq.cell? ⟨b0, o0 + i * 2, none⟩ = some (.int .i64 r.ai) ∧ wq.cell? ⟨b0, o0 + i * 2 + 1, none⟩ = some (.int .i64 r.pl)) := fun wq hq => ⟨hq.sc, hq.bx, HPt.out wq hq⟩
            refine wp_region_held_drew (S := fun W' => LeI sb mb ab a p g (some ⟨b0, o0, none⟩) cap rs q w0 W W') (by kernel_rfl) (HI5.out.later (below_drew _)) (fun hH => ?_)
            refine wpAnyH_take (i := 0) (v := .pointer (some ⟨sb, 0, none⟩)) rfl (by kernel_rfl) (by kernel_rfl) (by kernel_rfl) (fun _ _ _ h => h) (Or.inl ⟨by rfl, fun w hSw => by clear hSw; go_simp⟩) hH ?_
            refine wpAnyH_take (i := 1) (v := .pointer (some ⟨sb, 0, none⟩)) rfl (by kernel_rfl) (by kernel_rfl) (by kernel_rfl) (fun _ _ _ h => h) (Or.inl ⟨by rfl, fun w hSw => by clear hSw; go_simp⟩) hH ?_
            try simp only [Act.put, List.setIfInBounds_toArray, List.set_cons_zero, List.set_cons_succ, List.getElem_toArray, List.getElem_cons_succ, List.getElem_cons_zero]
            refine wpAnyH_take (i := 2) (v := .pointer (some ⟨sb, 0, none⟩)) rfl (by kernel_rfl) (by kernel_rfl) (by kernel_rfl) (fun _ _ _ h => h) (Or.inl ⟨by rfl, fun w hSw => by clear hSw; go_simp⟩) hH ?_
            try simp only [Act.put, List.setIfInBounds_toArray, List.set_cons_zero, List.set_cons_succ, List.getElem_toArray, List.getElem_cons_succ, List.getElem_cons_zero]
            refine wpAnyH_take (i := 3) (v := .agg #[.int .i64 a, .int .i64 p, .int .i64 g]) rfl (by kernel_rfl) (by kernel_rfl) (by kernel_rfl) (fun _ _ _ h => h) (Or.inl ⟨by rfl, fun w hSw => by obtain ⟨⟨f0, f1, f2, f3⟩, _, _⟩ := HS.out w hSw; clear hSw; go_simp⟩) hH ?_
            try simp only [Act.put, List.setIfInBounds_toArray, List.set_cons_zero, List.set_cons_succ, List.getElem_toArray, List.getElem_cons_succ, List.getElem_cons_zero]
            refine wpAnyH_take (i := 4) (v := .agg #[.int .i64 q.ai, .int .i64 q.pl]) rfl (by kernel_rfl) (by kernel_rfl) (by kernel_rfl) (fun _ _ _ h => h) (Or.inl ⟨by rfl, fun w hSw => by obtain ⟨_, ⟨f0, f1⟩, _⟩ := HS.out w hSw; clear hSw; go_simp⟩) hH ?_
            try simp only [Act.put, List.setIfInBounds_toArray, List.set_cons_zero, List.set_cons_succ, List.getElem_toArray, List.getElem_cons_succ, List.getElem_cons_zero]
            refine wpAnyH_take (i := 5) (v := .pointer (some ⟨sb, 0, none⟩)) rfl (by kernel_rfl) (by kernel_rfl) (by kernel_rfl) (fun _ _ _ h => h) (Or.inl ⟨by rfl, fun w hSw => by clear hSw; go_simp⟩) hH ?_
            try simp only [Act.put, List.setIfInBounds_toArray, List.set_cons_zero, List.set_cons_succ, List.getElem_toArray, List.getElem_cons_succ, List.getElem_cons_zero]
            refine wpAnyH_take (i := 6) (v := .pointer (some ⟨sb, 0, none⟩)) rfl (by kernel_rfl) (by kernel_rfl) (by kernel_rfl) (fun _ _ _ h => h) (Or.inl ⟨by rfl, fun w hSw => by clear hSw; go_simp⟩) hH ?_
            try simp only [Act.put, List.setIfInBounds_toArray, List.set_cons_zero, List.set_cons_succ, List.getElem_toArray, List.getElem_cons_succ, List.getElem_cons_zero]
            refine wpAnyH_take (i := 7) (v := .pointer (some ⟨sb, 3, none⟩)) rfl (by kernel_rfl) (by kernel_rfl) (by kernel_rfl) (fun _ _ _ h => h) (Or.inl ⟨by rfl, fun w hSw => by clear hSw; go_simp⟩) hH ?_
            try simp only [Act.put, List.setIfInBounds_toArray, List.set_cons_zero, List.set_cons_succ, List.getElem_toArray, List.getElem_cons_succ, List.getElem_cons_zero]
            refine wpAnyH_take (i := 8) (v := .slice (some ⟨b0, o0, none⟩) rs.length cap) rfl (by kernel_rfl) (by kernel_rfl) (by kernel_rfl) (fun _ _ _ h => h) (Or.inl ⟨by rfl, fun w hSw => by obtain ⟨⟨f0, f1, f2, f3⟩, _, _⟩ := HS.out w hSw; clear hSw; go_simp⟩) hH ?_
            try simp only [Act.put, List.setIfInBounds_toArray, List.set_cons_zero, List.set_cons_succ, List.getElem_toArray, List.getElem_cons_succ, List.getElem_cons_zero]
            refine wpAnyH_take (i := 9) (v := .int .i64 (i : Int)) rfl (by kernel_rfl) (by kernel_rfl) (by kernel_rfl) (fun _ _ _ h => h) (Or.inl ⟨by rfl, fun w hSw => by clear hSw; go_simp⟩) hH ?_
            try simp only [Act.put, List.setIfInBounds_toArray, List.set_cons_zero, List.set_cons_succ, List.getElem_toArray, List.getElem_cons_succ, List.getElem_cons_zero]
            refine wpAnyH_take (i := 10) (v := .pointer (some ⟨b0, o0 + i * 2, none⟩)) rfl (by kernel_rfl) (by kernel_rfl) (by kernel_rfl) (fun _ _ _ h => h) (Or.inl ⟨by rfl, fun w hSw => by clear hSw; go_simp⟩) hH ?_
            try simp only [Act.put, List.setIfInBounds_toArray, List.set_cons_zero, List.set_cons_succ, List.getElem_toArray, List.getElem_cons_succ, List.getElem_cons_zero]
            refine wpAnyH_take (i := 11) (v := .agg #[.int .i64 r.ai, .int .i64 r.pl]) rfl (by kernel_rfl) (by kernel_rfl) (by kernel_rfl) (fun _ _ _ h => h) (Or.inl ⟨by rfl, fun w hSw => by obtain ⟨_, _, f0, f1⟩ := HS.out w hSw; clear hSw; go_simp⟩) hH ?_
            try simp only [Act.put, List.setIfInBounds_toArray, List.set_cons_zero, List.set_cons_succ, List.getElem_toArray, List.getElem_cons_succ, List.getElem_cons_zero]
            refine wpAnyH_take (i := 13) (v := .pointer (some ⟨sb, 0, none⟩)) rfl (by kernel_rfl) (by kernel_rfl) (by kernel_rfl) (fun _ _ _ h => h) (Or.inl ⟨by rfl, fun w hSw => by clear hSw; go_simp⟩) hH ?_
            try simp only [Act.put, List.setIfInBounds_toArray, List.set_cons_zero, List.set_cons_succ, List.getElem_toArray, List.getElem_cons_succ, List.getElem_cons_zero]
            refine wpAnyH_take (i := 14) (v := .int .i64 (mask : Int)) rfl (by kernel_rfl) (by kernel_rfl) (by kernel_rfl) (fun _ _ _ h => h) (Or.inl ⟨by rfl, fun w hSw => by clear hSw; go_simp⟩) hH ?_
            try simp only [Act.put, List.setIfInBounds_toArray, List.set_cons_zero, List.set_cons_succ, List.getElem_toArray, List.getElem_cons_succ, List.getElem_cons_zero]
            refine wpAnyH_take (i := 15) (v := .int .i64 (i : Int)) rfl (by kernel_rfl) (by kernel_rfl) (by kernel_rfl) (fun _ _ _ h => h) (Or.inl ⟨by rfl, fun w hSw => by clear hSw; go_simp⟩) hH ?_
            try simp only [Act.put, List.setIfInBounds_toArray, List.set_cons_zero, List.set_cons_succ, List.getElem_toArray, List.getElem_cons_succ, List.getElem_cons_zero]
            refine wpAnyH_take (i := 16) (v := .int .u64 (i : Int)) rfl (by kernel_rfl) (by kernel_rfl) (by kernel_rfl) (fun _ _ _ h => h) (Or.inl ⟨by rfl, fun w hSw => by have f0 := HJu.out; clear hSw; go_simp⟩) hH ?_
            try simp only [Act.put, List.setIfInBounds_toArray, List.set_cons_zero, List.set_cons_succ, List.getElem_toArray, List.getElem_cons_succ, List.getElem_cons_zero]
            refine wpAnyH_take (i := 17) (v := .int .i64 (pi : Int)) rfl (by kernel_rfl) (by kernel_rfl) (by kernel_rfl) (fun _ _ _ h => h) (Or.inl ⟨by rfl, fun w hSw => by have f0 := HPi.out; clear hSw; go_simp⟩) hH ?_
            try simp only [Act.put, List.setIfInBounds_toArray, List.set_cons_zero, List.set_cons_succ, List.getElem_toArray, List.getElem_cons_succ, List.getElem_cons_zero]
            refine wpAnyH_take (i := 18) (v := .int .i64 (mo : Int)) rfl (by kernel_rfl) (by kernel_rfl) (by kernel_rfl) (fun _ _ _ h => h) (Or.inl ⟨by rfl, fun w hSw => by have f0 := HOr.out; clear hSw; go_simp⟩) hH ?_
            try simp only [Act.put, List.setIfInBounds_toArray, List.set_cons_zero, List.set_cons_succ, List.getElem_toArray, List.getElem_cons_succ, List.getElem_cons_zero]
            refine wpAnyH_take (i := 19) (v := .int .i64 (i : Int)) rfl (by kernel_rfl) (by kernel_rfl) (by kernel_rfl) (fun _ _ _ h => h) (Or.inl ⟨by rfl, fun w hSw => by clear hSw; go_simp⟩) hH ?_
            try simp only [Act.put, List.setIfInBounds_toArray, List.set_cons_zero, List.set_cons_succ, List.getElem_toArray, List.getElem_cons_succ, List.getElem_cons_zero]
            refine wpAnyH_ready (rs := [12]) (by kernel_rfl) (by simp) ?_
            refine AllReadyH.cons rfl (fun K hK => ?_) AllReadyH.nil
            go_simp
            go_at_call 42
            refine (HFi.out _).mono ?_
            rintro e w6 ⟨rfl, hb6⟩
            have HI6 : Hid (LeI sb mb ab a p g (some ⟨b0, o0, none⟩) cap rs q w0 W w6) := (HI5.out.later (below_drew _)).later hb6
            clear hb6
            refine hK.out _ _ HI6.out (fun _ => ?_)
            clear hK K
            try simp only [Act.put, List.setIfInBounds_toArray, List.set_cons_zero, List.set_cons_succ, List.getElem_toArray, List.getElem_cons_succ, List.getElem_cons_zero]
            refine wpAnyH_ready (rs := [20]) (by kernel_rfl) (by simp) ?_
            refine AllReadyH.cons rfl (fun K hK => ?_) AllReadyH.nil
            go_simp
            go_at_call 43
            refine (HIH.out _ HI6.out).mono ?_
            rintro e w7 ⟨rfl, hI7⟩
            have HI7 : Hid (LeI sb mb ab a p g (some ⟨b0, o0, none⟩) cap rs q w0 W w7) := hI7
            clear hI7
            refine hK.out _ _ HI7.out (fun _ => ?_)
            clear hK K
            try simp only [Act.put, List.setIfInBounds_toArray, List.set_cons_zero, List.set_cons_succ, List.getElem_toArray, List.getElem_cons_succ, List.getElem_cons_zero]
            refine wpAnyH_take (i := 21) (v := .int .i64 vu) rfl (by kernel_rfl) (by kernel_rfl) (by kernel_rfl) (fun _ _ _ h => h) (Or.inl ⟨by rfl, fun w hSw => by have f0 := HWv.out; clear hSw; go_simp⟩) HI7.out ?_
            try simp only [Act.put, List.setIfInBounds_toArray, List.set_cons_zero, List.set_cons_succ, List.getElem_toArray, List.getElem_cons_succ, List.getElem_cons_zero]
            refine wpAnyH_take (i := 22) (v := .int .i64 vu) rfl (by kernel_rfl) (by kernel_rfl) (by kernel_rfl) (fun _ _ _ h => h) (Or.inl ⟨by rfl, fun w hSw => by clear hSw; go_simp⟩) HI7.out ?_
            try simp only [Act.put, List.setIfInBounds_toArray, List.set_cons_zero, List.set_cons_succ, List.getElem_toArray, List.getElem_cons_succ, List.getElem_cons_zero]
            refine wpAnyH_done (by kernel_rfl) ?_ _
            clear hH HI5 HI6 HS HPt HIH HFi
            by_cases hb0 : bs < 0
            · have HLn : Hid (lsB (vsL p g rs mask q (i + 1)) = vu) := by show _ = _; rw [HLs.out, if_pos (.inl hb0)]
              go_wp2
              exact ⟨⟨i + 1, by omega, by go_num, by rw [HLn.out], HI7.out⟩, by simp [intOf]; omega⟩
            by_cases hb1 : vu < bs
            · have HLn : Hid (lsB (vsL p g rs mask q (i + 1)) = vu) := by show _ = _; rw [HLs.out, if_pos (.inr hb1)]
              go_wp2
              exact ⟨⟨i + 1, by omega, by go_num, by rw [HLn.out], HI7.out⟩, by simp [intOf]; omega⟩
            · have HLn : Hid (lsB (vsL p g rs mask q (i + 1)) = bs) := by show _ = _; rw [HLs.out, if_neg (by omega)]
              go_wp2
              exact ⟨⟨i + 1, by omega, by go_num, by rw [HLn.out], HI7.out⟩, by simp [intOf]; omega⟩
        · have hle2 : (rs.length : Int) ≤ (i : Int) := by omega
          obtain rfl : i = rs.length := by omega
          have HE : Hid (lsB (vsL p g rs mask q rs.length) = lvN p g rs mask q) := (HLv.out q).symm
          rw [← HLv.out q]
          obtain ⟨nm, z, d0, d1, d2, d3, _⟩ := HI5.out.place HM0.out hla
          rw [HX2.out] at d1 d2 d3
          have d1' : (X : Int) < (nm : Int) := Int.ofNat_lt.2 d1
          obtain ⟨lv, hlv⟩ : ∃ lv, lvN p g rs mask q = lv := ⟨_, rfl⟩
          have hput := HI5.out.put hmb HM0.out hla
          rw [HX2.out, ← HQq.out, hlv] at hput
          have HPut : Hid (LeI sb mb ab a p g (some ⟨b0, o0, none⟩) cap rs q w0 W (wr.setCell ⟨mb, X, none⟩ (.int .i64 lv))) := hput
          have HLe : Hid (lvN p g rs mask q = lv) := hlv
          rw [hlv]
          clear hput HI5 HLv HE hlv
          go_wp2
          go_ret
          have hend := HPut.out.fin lv
          rw [HLe.out]
          exact hend
  · have hle : (rs.length : Int) ≤ (last : Int) := by omega
    have HQz : Hid (q = zPt) := by
      rw [HQq.out]
      show _ = _
      rw [List.getD_eq_getElem?_getD, List.getElem?_eq_none (by omega)]
      rfl
    have HI4 : Hid (LeI sb mb ab a p g ad cap rs q w0 W W1) := by rw [HQz.out]; exact HI2.out
    go_upto_region 5 with fail
    clear f0 f1 f2 f3 HI2 HB1
    generalize W1 = W5 at *
    rcases HRd.out with hnil | ⟨b0, o0, ha9, hB9, ia9⟩
    · exact absurd hnil HNe.out
    have HRp : Hid (b0 < w0.heap.size ∧ PtsAt w0 b0 o0 rs) := ⟨hB9, ia9⟩
    subst ha9
    clear HRd HNe hB9 ia9
    obtain ⟨nm, z, d0, d1, d2, d3, hz⟩ := HI4.out.place HM0.out hla
    rw [HX2.out] at d1 d2 d3
    have d1' : (X : Int) < (nm : Int) := Int.ofNat_lt.2 d1
    rw [← HQq.out] at hz
    have HZ : Hid (z = -1 ∨ z = lvN p g rs mask q) := hz
    obtain ⟨c0, c1, c2, c3⟩ := HI4.out.sc
    clear hz d3
    obtain ⟨hwa, hwm, hwx, _⟩ := HWs.out
    by_cases hz0 : 0 ≤ z
    · have HZ1 : Hid (z = lvN p g rs mask q) := by
        rcases HZ.out with k | k
        · omega
        · exact k
      go_wp2
      go_ret
      rw [← HZ1.out]
      exact HI4.out.fin _
    · have hz1 : z < 0 := by omega
      clear HZ
      have HSpq : Hid (spB a p q = true) := by rw [HQq.out]; exact HQ.out
      have HWq : Hid (W.heap.size ≤ W5.heap.size) := HI4.out.fr.size
      go_upto_region 11 with fail
      clear d0 d1 d2 d1' hwa hwm hwx c0 c1 c2 c3 hz0 hz1 hpw hsub heq hmN
      go_wp2
      go_loopw [10, 11, 12] (fun bst c _ wr => ∃ i : Nat, i ≤ rs.length ∧ c = .int .i64 (i : Int) ∧ bst = .int .i64 (lsB (vsL p g rs mask q i)) ∧ LeI sb mb ab a p g (some ⟨b0, o0, none⟩) cap rs q w0 W wr) (fun _ c _ _ => rs.length - (intOf c).toNat)
      case atStart => exact ⟨0, Nat.zero_le _, rfl, rfl, HI4.out⟩
      case round =>
        clear HI4
        obtain ⟨i, hi, rfl, rfl, hI⟩ := hrel
        have HI5 : Hid (LeI sb mb ab a p g (some ⟨b0, o0, none⟩) cap rs q w0 W wr) := hI
        clear hI
        by_cases hlt2 : i < rs.length
        · have hlti : (i : Int) < (rs.length : Int) := by omega
          have hju := wrapU9 i (Nat.le_trans (Nat.le_of_lt hlt2) h9)
          have hsh := shr_bit mask i (Nat.lt_of_lt_of_le hm (Nat.le_trans hp9 (by decide)))
          have hnx := vs_next p g rs mask q i
          by_cases hbit : mask.testBit i = true
          · rw [if_pos hbit] at hsh hnx
            have hsh1 : bits .and .i64 ((mask : Int) / 2 ^ i) 1 = (1 : Int) := by rw [hsh]; rfl
            rw [List.append_nil] at hnx
            have HNx2 : Hid (vsL p g rs mask q (i + 1) = vsL p g rs mask q i) := hnx
            clear hsh hnx hbit
            go_wp2
            exact ⟨⟨i + 1, by omega, by go_num, by rw [HNx2.out], HI5.out⟩, by simp [intOf]; omega⟩
          · have hbit' : mask.testBit i = false := by simpa using hbit
            rw [if_neg hbit] at hsh hnx
            have hsh1 : bits .and .i64 ((mask : Int) / 2 ^ i) 1 = (0 : Int) := by rw [hsh]; rfl
            have hls := lsB_snoc (l := vsL p g rs mask q i) (x := vuN p g rs mask q i) (vs_nn hh hs h9 mask HSpq.out i)
            rw [← hnx] at hls
            obtain ⟨hmo, hko⟩ := HNx.out i hlt2 hbit'
            have hvb := vu_bd hh hs h9 mask HSpq.out i
            have HIH : Hid (∀ wq, LeI sb mb ab a p g (some ⟨b0, o0, none⟩) cap rs q w0 W wq → Calls Try.prog 43 #[.pointer (some ⟨sb, 0, none⟩), .int .i64 ((mask ||| 2 ^ i : Nat) : Int), .int .i64 (i : Int)] wq fun e w' => e = .returned (.int .i64 (lvN p g rs (mask ||| 2 ^ i) (rs.getD i zPt))) ∧ LeI sb mb ab a p g (some ⟨b0, o0, none⟩) cap rs q w0 W w') := fun wq hq => by
              obtain ⟨ms', hls'⟩ := hq.ls
              exact (IH.out (mask ||| 2 ^ i) i ms' wq hko hmo (by omega) hls').mono (fun e w' h => hq.deep h)
            have HFi : Hid (∀ W, Calls Try.prog 42 #[.agg #[.int .i64 a, .int .i64 p, .int .i64 g], .agg #[.int .i64 q.ai, .int .i64 q.pl], .agg #[.int .i64 (rs.getD i zPt).ai, .int .i64 (rs.getD i zPt).pl]] W fun e w' => e = .returned (.int .i64 (farN p g q (rs.getD i zPt))) ∧ Below W.heap.size W w') := fun W => specFar_any a p g q.ai q.pl _ _ hh HSpq.out (sp_get hh hs i) W
            have hor := orI mask (2 ^ i) (Nat.lt_of_lt_of_le hm (Nat.le_trans hp9 (by decide))) (Nat.lt_of_le_of_lt (pow_le (x := i) (Nat.le_trans (Nat.le_of_lt hlt2) h9)) (by decide))
            have hpi := powI i (Nat.le_trans (Nat.le_of_lt hlt2) h9)
            have HOr : Hid (bits .or .i64 (mask : Int) ((2 ^ i : Nat) : Int) = ((mask ||| 2 ^ i : Nat) : Int)) := hor
            have HPi : Hid (IntKind.i64.wrap ((2 : Int) ^ i) = ((2 ^ i : Nat) : Int)) := (Go.IntWalk.i64_left _).trans hpi
            have HJu : Hid (IntKind.u64.wrap (i : Int) = (i : Int)) := hju
            have HPt : Hid (∀ wq, LeI sb mb ab a p g (some ⟨b0, o0, none⟩) cap rs q w0 W wq → wq.cell? ⟨b0, o0 + i * 2, none⟩ = some (.int .i64 (rs.getD i zPt).ai) ∧ wq.cell? ⟨b0, o0 + i * 2 + 1, none⟩ = some (.int .i64 (rs.getD i zPt).pl)) := fun wq hq => (HRp.out.2 i hlt2).below hq.low HRp.out.1
            have HLs : Hid (lsB (vsL p g rs mask q (i + 1)) = if lsB (vsL p g rs mask q i) < 0 ∨ vuN p g rs mask q i < lsB (vsL p g rs mask q i) then vuN p g rs mask q i else lsB (vsL p g rs mask q i)) := hls
            have HVu : Hid (vuN p g rs mask q i = farN p g q (rs.getD i zPt) + lvN p g rs (mask ||| 2 ^ i) (rs.getD i zPt)) := rfl
            clear hls hnx hsh hbit hbit' hmo hko hor hpi HNx
            generalize (mask ||| 2 ^ i) = mo at *
            generalize (2 ^ i : Nat) = pi at *
            generalize lvN p g rs mo (rs.getD i zPt) = lv at *
            generalize rs.getD i zPt = r at *
            generalize farN p g q r = fa at *
            generalize vuN p g rs mask q i = vu at *
            generalize lsB (vsL p g rs mask q i) = bs at *
            have hwv : IntKind.i64.wrap (fa + lv) = vu := by rw [wrap_id _ (by omega) (by omega)]; exact HVu.out.symm
            have HWv : Hid (IntKind.i64.wrap (fa + lv) = vu) := hwv
            clear hwv hvb
            go_upto_region 15 with fail
            clear hsh1 hju
            have HS : Hid (∀ wq : World, LeI sb mb ab a p g (some ⟨b0, o0, none⟩) cap rs q w0 W wq → (wq.cell? ⟨sb, 0, none⟩ = some (.int .i64 a) ∧ wq.cell? ⟨sb, 1, none⟩ = some (.int .i64 p) ∧ wq.cell? ⟨sb, 2, none⟩ = some (.int .i64 g) ∧ wq.cell? ⟨sb, 3, none⟩ = some (.slice (some ⟨b0, o0, none⟩) rs.length cap)) ∧ (wq.cell? ⟨ab, 0, none⟩ = some (.int .i64 q.ai) ∧ wq.cell? ⟨ab, 1, none⟩ = some (.int .i64 q.pl)) ∧ wq.cell? ⟨b0, o0 + i * 2, none⟩ = some (.int .i64 r.ai) ∧ wq.cell? ⟨b0, o0 + i * 2 + 1, none⟩ = some (.int .i64 r.pl)) := fun wq hq => ⟨hq.sc, hq.bx, HPt.out wq hq⟩
            refine wp_region_held_drew (S := fun W' => LeI sb mb ab a p g (some ⟨b0, o0, none⟩) cap rs q w0 W W') (by kernel_rfl) (HI5.out.later (below_drew _)) (fun hH => ?_)
            refine wpAnyH_take (i := 0) (v := .pointer (some ⟨sb, 0, none⟩)) rfl (by kernel_rfl) (by kernel_rfl) (by kernel_rfl) (fun _ _ _ h => h) (Or.inl ⟨by rfl, fun w hSw => by clear hSw; go_simp⟩) hH ?_
            refine wpAnyH_take (i := 1) (v := .pointer (some ⟨sb, 0, none⟩)) rfl (by kernel_rfl) (by kernel_rfl) (by kernel_rfl) (fun _ _ _ h => h) (Or.inl ⟨by rfl, fun w hSw => by clear hSw; go_simp⟩) hH ?_
            try simp only [Act.put, List.setIfInBounds_toArray, List.set_cons_zero, List.set_cons_succ, List.getElem_toArray, List.getElem_cons_succ, List.getElem_cons_zero]
            refine wpAnyH_take (i := 2) (v := .pointer (some ⟨sb, 0, none⟩)) rfl (by kernel_rfl) (by kernel_rfl) (by kernel_rfl) (fun _ _ _ h => h) (Or.inl ⟨by rfl, fun w hSw => by clear hSw; go_simp⟩) hH ?_
            try simp only [Act.put, List.setIfInBounds_toArray, List.set_cons_zero, List.set_cons_succ, List.getElem_toArray, List.getElem_cons_succ, List.getElem_cons_zero]
            refine wpAnyH_take (i := 3) (v := .agg #[.int .i64 a, .int .i64 p, .int .i64 g]) rfl (by kernel_rfl) (by kernel_rfl) (by kernel_rfl) (fun _ _ _ h => h) (Or.inl ⟨by rfl, fun w hSw => by obtain ⟨⟨f0, f1, f2, f3⟩, _, _⟩ := HS.out w hSw; clear hSw; go_simp⟩) hH ?_
            try simp only [Act.put, List.setIfInBounds_toArray, List.set_cons_zero, List.set_cons_succ, List.getElem_toArray, List.getElem_cons_succ, List.getElem_cons_zero]
            refine wpAnyH_take (i := 4) (v := .agg #[.int .i64 q.ai, .int .i64 q.pl]) rfl (by kernel_rfl) (by kernel_rfl) (by kernel_rfl) (fun _ _ _ h => h) (Or.inl ⟨by rfl, fun w hSw => by obtain ⟨_, ⟨f0, f1⟩, _⟩ := HS.out w hSw; clear hSw; go_simp⟩) hH ?_
            try simp only [Act.put, List.setIfInBounds_toArray, List.set_cons_zero, List.set_cons_succ, List.getElem_toArray, List.getElem_cons_succ, List.getElem_cons_zero]
            refine wpAnyH_take (i := 5) (v := .pointer (some ⟨sb, 0, none⟩)) rfl (by kernel_rfl) (by kernel_rfl) (by kernel_rfl) (fun _ _ _ h => h) (Or.inl ⟨by rfl, fun w hSw => by clear hSw; go_simp⟩) hH ?_
            try simp only [Act.put, List.setIfInBounds_toArray, List.set_cons_zero, List.set_cons_succ, List.getElem_toArray, List.getElem_cons_succ, List.getElem_cons_zero]
            refine wpAnyH_take (i := 6) (v := .pointer (some ⟨sb, 0, none⟩)) rfl (by kernel_rfl) (by kernel_rfl) (by kernel_rfl) (fun _ _ _ h => h) (Or.inl ⟨by rfl, fun w hSw => by clear hSw; go_simp⟩) hH ?_
            try simp only [Act.put, List.setIfInBounds_toArray, List.set_cons_zero, List.set_cons_succ, List.getElem_toArray, List.getElem_cons_succ, List.getElem_cons_zero]
            refine wpAnyH_take (i := 7) (v := .pointer (some ⟨sb, 3, none⟩)) rfl (by kernel_rfl) (by kernel_rfl) (by kernel_rfl) (fun _ _ _ h => h) (Or.inl ⟨by rfl, fun w hSw => by clear hSw; go_simp⟩) hH ?_
            try simp only [Act.put, List.setIfInBounds_toArray, List.set_cons_zero, List.set_cons_succ, List.getElem_toArray, List.getElem_cons_succ, List.getElem_cons_zero]
            refine wpAnyH_take (i := 8) (v := .slice (some ⟨b0, o0, none⟩) rs.length cap) rfl (by kernel_rfl) (by kernel_rfl) (by kernel_rfl) (fun _ _ _ h => h) (Or.inl ⟨by rfl, fun w hSw => by obtain ⟨⟨f0, f1, f2, f3⟩, _, _⟩ := HS.out w hSw; clear hSw; go_simp⟩) hH ?_
            try simp only [Act.put, List.setIfInBounds_toArray, List.set_cons_zero, List.set_cons_succ, List.getElem_toArray, List.getElem_cons_succ, List.getElem_cons_zero]
            refine wpAnyH_take (i := 9) (v := .int .i64 (i : Int)) rfl (by kernel_rfl) (by kernel_rfl) (by kernel_rfl) (fun _ _ _ h => h) (Or.inl ⟨by rfl, fun w hSw => by clear hSw; go_simp⟩) hH ?_
            try simp only [Act.put, List.setIfInBounds_toArray, List.set_cons_zero, List.set_cons_succ, List.getElem_toArray, List.getElem_cons_succ, List.getElem_cons_zero]
            refine wpAnyH_take (i := 10) (v := .pointer (some ⟨b0, o0 + i * 2, none⟩)) rfl (by kernel_rfl) (by kernel_rfl) (by kernel_rfl) (fun _ _ _ h => h) (Or.inl ⟨by rfl, fun w hSw => by clear hSw; go_simp⟩) hH ?_
            try simp only [Act.put, List.setIfInBounds_toArray, List.set_cons_zero, List.set_cons_succ, List.getElem_toArray, List.getElem_cons_succ, List.getElem_cons_zero]
            refine wpAnyH_take (i := 11) (v := .agg #[.int .i64 r.ai, .int .i64 r.pl]) rfl (by kernel_rfl) (by kernel_rfl) (by kernel_rfl) (fun _ _ _ h => h) (Or.inl ⟨by rfl, fun w hSw => by obtain ⟨_, _, f0, f1⟩ := HS.out w hSw; clear hSw; go_simp⟩) hH ?_
            try simp only [Act.put, List.setIfInBounds_toArray, List.set_cons_zero, List.set_cons_succ, List.getElem_toArray, List.getElem_cons_succ, List.getElem_cons_zero]
            refine wpAnyH_take (i := 13) (v := .pointer (some ⟨sb, 0, none⟩)) rfl (by kernel_rfl) (by kernel_rfl) (by kernel_rfl) (fun _ _ _ h => h) (Or.inl ⟨by rfl, fun w hSw => by clear hSw; go_simp⟩) hH ?_
            try simp only [Act.put, List.setIfInBounds_toArray, List.set_cons_zero, List.set_cons_succ, List.getElem_toArray, List.getElem_cons_succ, List.getElem_cons_zero]
            refine wpAnyH_take (i := 14) (v := .int .i64 (mask : Int)) rfl (by kernel_rfl) (by kernel_rfl) (by kernel_rfl) (fun _ _ _ h => h) (Or.inl ⟨by rfl, fun w hSw => by clear hSw; go_simp⟩) hH ?_
            try simp only [Act.put, List.setIfInBounds_toArray, List.set_cons_zero, List.set_cons_succ, List.getElem_toArray, List.getElem_cons_succ, List.getElem_cons_zero]
            refine wpAnyH_take (i := 15) (v := .int .i64 (i : Int)) rfl (by kernel_rfl) (by kernel_rfl) (by kernel_rfl) (fun _ _ _ h => h) (Or.inl ⟨by rfl, fun w hSw => by clear hSw; go_simp⟩) hH ?_
            try simp only [Act.put, List.setIfInBounds_toArray, List.set_cons_zero, List.set_cons_succ, List.getElem_toArray, List.getElem_cons_succ, List.getElem_cons_zero]
            refine wpAnyH_take (i := 16) (v := .int .u64 (i : Int)) rfl (by kernel_rfl) (by kernel_rfl) (by kernel_rfl) (fun _ _ _ h => h) (Or.inl ⟨by rfl, fun w hSw => by have f0 := HJu.out; clear hSw; go_simp⟩) hH ?_
            try simp only [Act.put, List.setIfInBounds_toArray, List.set_cons_zero, List.set_cons_succ, List.getElem_toArray, List.getElem_cons_succ, List.getElem_cons_zero]
            refine wpAnyH_take (i := 17) (v := .int .i64 (pi : Int)) rfl (by kernel_rfl) (by kernel_rfl) (by kernel_rfl) (fun _ _ _ h => h) (Or.inl ⟨by rfl, fun w hSw => by have f0 := HPi.out; clear hSw; go_simp⟩) hH ?_
            try simp only [Act.put, List.setIfInBounds_toArray, List.set_cons_zero, List.set_cons_succ, List.getElem_toArray, List.getElem_cons_succ, List.getElem_cons_zero]
            refine wpAnyH_take (i := 18) (v := .int .i64 (mo : Int)) rfl (by kernel_rfl) (by kernel_rfl) (by kernel_rfl) (fun _ _ _ h => h) (Or.inl ⟨by rfl, fun w hSw => by have f0 := HOr.out; clear hSw; go_simp⟩) hH ?_
            try simp only [Act.put, List.setIfInBounds_toArray, List.set_cons_zero, List.set_cons_succ, List.getElem_toArray, List.getElem_cons_succ, List.getElem_cons_zero]
            refine wpAnyH_take (i := 19) (v := .int .i64 (i : Int)) rfl (by kernel_rfl) (by kernel_rfl) (by kernel_rfl) (fun _ _ _ h => h) (Or.inl ⟨by rfl, fun w hSw => by clear hSw; go_simp⟩) hH ?_
            try simp only [Act.put, List.setIfInBounds_toArray, List.set_cons_zero, List.set_cons_succ, List.getElem_toArray, List.getElem_cons_succ, List.getElem_cons_zero]
            refine wpAnyH_ready (rs := [12]) (by kernel_rfl) (by simp) ?_
            refine AllReadyH.cons rfl (fun K hK => ?_) AllReadyH.nil
            go_simp
            go_at_call 42
            refine (HFi.out _).mono ?_
            rintro e w6 ⟨rfl, hb6⟩
            have HI6 : Hid (LeI sb mb ab a p g (some ⟨b0, o0, none⟩) cap rs q w0 W w6) := (HI5.out.later (below_drew _)).later hb6
            clear hb6
            refine hK.out _ _ HI6.out (fun _ => ?_)
            clear hK K
            try simp only [Act.put, List.setIfInBounds_toArray, List.set_cons_zero, List.set_cons_succ, List.getElem_toArray, List.getElem_cons_succ, List.getElem_cons_zero]
            refine wpAnyH_ready (rs := [20]) (by kernel_rfl) (by simp) ?_
            refine AllReadyH.cons rfl (fun K hK => ?_) AllReadyH.nil
            go_simp
            go_at_call 43
            refine (HIH.out _ HI6.out).mono ?_
            rintro e w7 ⟨rfl, hI7⟩
            have HI7 : Hid (LeI sb mb ab a p g (some ⟨b0, o0, none⟩) cap rs q w0 W w7) := hI7
            clear hI7
            refine hK.out _ _ HI7.out (fun _ => ?_)
            clear hK K
            try simp only [Act.put, List.setIfInBounds_toArray, List.set_cons_zero, List.set_cons_succ, List.getElem_toArray, List.getElem_cons_succ, List.getElem_cons_zero]
            refine wpAnyH_take (i := 21) (v := .int .i64 vu) rfl (by kernel_rfl) (by kernel_rfl) (by kernel_rfl) (fun _ _ _ h => h) (Or.inl ⟨by rfl, fun w hSw => by have f0 := HWv.out; clear hSw; go_simp⟩) HI7.out ?_
            try simp only [Act.put, List.setIfInBounds_toArray, List.set_cons_zero, List.set_cons_succ, List.getElem_toArray, List.getElem_cons_succ, List.getElem_cons_zero]
            refine wpAnyH_take (i := 22) (v := .int .i64 vu) rfl (by kernel_rfl) (by kernel_rfl) (by kernel_rfl) (fun _ _ _ h => h) (Or.inl ⟨by rfl, fun w hSw => by clear hSw; go_simp⟩) HI7.out ?_
            try simp only [Act.put, List.setIfInBounds_toArray, List.set_cons_zero, List.set_cons_succ, List.getElem_toArray, List.getElem_cons_succ, List.getElem_cons_zero]
            refine wpAnyH_done (by kernel_rfl) ?_ _
            clear hH HI5 HI6 HS HPt HIH HFi
            by_cases hb0 : bs < 0
            · have HLn : Hid (lsB (vsL p g rs mask q (i + 1)) = vu) := by show _ = _; rw [HLs.out, if_pos (.inl hb0)]
              go_wp2
              exact ⟨⟨i + 1, by omega, by go_num, by rw [HLn.out], HI7.out⟩, by simp [intOf]; omega⟩
            by_cases hb1 : vu < bs
            · have HLn : Hid (lsB (vsL p g rs mask q (i + 1)) = vu) := by show _ = _; rw [HLs.out, if_pos (.inr hb1)]
              go_wp2
              exact ⟨⟨i + 1, by omega, by go_num, by rw [HLn.out], HI7.out⟩, by simp [intOf]; omega⟩
            · have HLn : Hid (lsB (vsL p g rs mask q (i + 1)) = bs) := by show _ = _; rw [HLs.out, if_neg (by omega)]
              go_wp2
              exact ⟨⟨i + 1, by omega, by go_num, by rw [HLn.out], HI7.out⟩, by simp [intOf]; omega⟩
        · have hle2 : (rs.length : Int) ≤ (i : Int) := by omega
          obtain rfl : i = rs.length := by omega
          have HE : Hid (lsB (vsL p g rs mask q rs.length) = lvN p g rs mask q) := (HLv.out q).symm
          rw [← HLv.out q]
          obtain ⟨nm, z, d0, d1, d2, d3, _⟩ := HI5.out.place HM0.out hla
          rw [HX2.out] at d1 d2 d3
          have d1' : (X : Int) < (nm : Int) := Int.ofNat_lt.2 d1
          obtain ⟨lv, hlv⟩ : ∃ lv, lvN p g rs mask q = lv := ⟨_, rfl⟩
          have hput := HI5.out.put hmb HM0.out hla
          rw [HX2.out, ← HQq.out, hlv] at hput
          have HPut : Hid (LeI sb mb ab a p g (some ⟨b0, o0, none⟩) cap rs q w0 W (wr.setCell ⟨mb, X, none⟩ (.int .i64 lv))) := hput
          have HLe : Hid (lvN p g rs mask q = lv) := hlv
          rw [hlv]
          clear hput HI5 HLv HE hlv
          go_wp2
          go_ret
          have hend := HPut.out.fin lv
          rw [HLe.out]
          exact hend
theorem least_any (sb mb : Nat) (a p g : Int) (ad : Option Addr) (cap : Nat) (rs : List RPt) (hh : hlB a p g = true) (hs : spsB a p rs = true) (h9 : rs.length ≤ 9) (w0 : World) (hr0 : ReadsPt w0.heap.size w0 ad rs) (hmb : w0.heap.size ≤ mb) : ∀ (k : Nat) (mask last : Nat) (ms : List Int) (W : World), (msL mask rs.length).length = k → mask < 2 ^ rs.length → last ≤ rs.length → LsI sb mb a p g ad cap rs ms w0 W →
    Calls Try.prog 43 #[.pointer (some ⟨sb, 0, none⟩), .int .i64 (mask : Int), .int .i64 (last : Int)] W (LeQ sb mb a p g ad cap rs w0 W (lvN p g rs mask (rs.getD last zPt))) := by
  intro k
  induction k with
  | zero => exact least_zero sb mb a p g ad cap rs hh hs h9 w0 hr0 hmb
  | succ k ih => exact least_succ sb mb a p g ad cap rs hh hs h9 w0 hr0 hmb k ih
end Go.Proofs.Ythmhpgbkapjjkaa

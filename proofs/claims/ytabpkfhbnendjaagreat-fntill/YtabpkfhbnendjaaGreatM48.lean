/-
  For every list of bytes the law FnTill answers true: by the program what was taken is what the classes and the deposits have together, what is void, suspended and taken up again comes to the same, a sale gives back just what was given above its total; with no condition.
-/
import Derived.Test.YtabpkfhbnendjaaGreatM27
import Derived.Test.YtabpkfhbnendjaaGreatM30
import Derived.Test.YtabpkfhbnendjaaGreatM35
import Derived.Test.YtabpkfhbnendjaaGreatM47
namespace Go.Proofs.YtabpkfhbnendjaaGreat
open Go.ChangeShapes Go.WideShapes Go.ChangeAt Go.RowKit Go.Joins Go.Deep
set_option linter.unusedVariables false

namespace FnTill
theorem row_base {w : World} {B B' : Nat} {e : TypeId} {k : Nat} {v : Value} {n : Nat} {xs : List Value} (h : w.ownsRow B e k v n xs) (hb : B' ≤ B) : w.ownsRow B' e k v n xs := by
  obtain ⟨h1, h2⟩ := h
  refine ⟨h1, ?_⟩
  rcases h2 with h2 | ⟨g, cap, cur, rfl, hB, r⟩
  · exact .inl h2
  · exact .inr ⟨g, cap, cur, rfl, by omega, r⟩
theorem intInfV : (Tryz.prog.info? 3).map (fun i => (i.zero, i.size, i.bytes)) = some (some (.int .i64 0), 1, 8) := by kernel_rfl
/-- What is known of a drawn run: what was told, what is reckoned, the till in the end. -/
structure Run (acts : List RTa) (os : List (Int × Int)) (T : Tl) (L : Nat → Lw) : Prop where
  len : os.length = acts.length
  zero : L 0 = ⟨0, [], 0⟩
  way : ∀ k, k < acts.length → LwWay (acts.getD k zTa) (os.getD k (0, 0)) (L k) (L (k + 1))
  rng : ∀ k, k ≤ acts.length → (0 ≤ (L k).op ∧ (L k).op ≤ 1000000000) ∧ (L k).kp.length ≤ 5 ∧ (∀ x ∈ (L k).kp, 0 ≤ x ∧ x ≤ 1000000000) ∧ 0 ≤ (L k).tk ∧ (L k).tk ≤ 1000000000 * (k : Int)
  tk : T.tk = (L acts.length).tk
  bal : T.tk = T.cs.sum + T.dp
  kept : T.kept.length = (L acts.length).kp.length
  cs : T.cs.length = 9 ∧ ∀ c ∈ T.cs, 0 ≤ c ∧ c ≤ 100000000000
theorem run_of {R : ByteArray → Int × ByteArray × Int × Int} (hv : ∀ s, 0 ≤ (R s).2.2.1 ∧ (R s).2.2.1 ≤ 99999) {its : List RIt} (hok : ∀ r ∈ its, ItN r) (acts : List RTa) (hl : acts.length ≤ 25) : Run acts (runO R its acts acts.length) (runT R its acts acts.length) (fun k => lwOf (runT R its acts k)) :=
  ⟨runO_len _ _ _ _, rfl, fun k hk => by rw [runO_get R its acts k _ hk]; exact lw_way R its _ _, fun k hk => lw_range (runT_OK hv hok acts k), rfl, run_bal hv hok acts _, by simp [lwOf], (runT_OK hv hok acts _).cs.1, fun c hc => by have := (runT_OK hv hok acts acts.length).cs.2 c hc; omega⟩
set_option maxRecDepth 8000 in
set_option maxHeartbeats 40000000 in
theorem walk (a0 : Option Addr) (len0 cap0 : Nat) (z0 : List Int) (w : World) (r0 : RowB w.heap.size w a0 len0 z0) :
    Calls Tryz.prog 3 #[.slice a0 len0 cap0] w fun e w' => e = .returned (.bool true) ∧ Below w.heap.size w w' := by
  by_cases hbig : (1048576 : Int) < (len0 : Int)
  · clear r0
    go_enter Tryz.func3, Tryz.ntmps3
    go_wp2
    go_ret
    exact ⟨rfl, Below.refl _ _⟩
  obtain ⟨Bf, hBi, hBs, hBn, hBg⟩ := its_both3
  obtain ⟨R, hRI, hRS, hv⟩ := scans_both
  have hdr := tillOf_any a0 len0 cap0 z0 w r0
  have HSI : Hid (ImplIt Bf ∧ SpecIt Bf ∧ (∀ r, Bf r = true → ItN r) ∧ (∀ r, Good r.cd → ItN r → Bf r = true) ∧ RsI R ∧ RsS R ∧ ∀ s, 0 ≤ (R s).2.2.1 ∧ (R s).2.2.1 ≤ 99999) := ⟨hBi, hBs, hBn, hBg, hRI, hRS, hv⟩
  clear r0 hBi hBs hBn hBg hRI hRS hv
  go_enter Tryz.func3, Tryz.ntmps3
  go_wp2_with fail
  (first | go_at_call 4 | skip)
  refine hdr.mono ?_
  rintro e w1 ⟨its, acts, gi, ci, ga, ca, rfl, hl6, hci, hl25, hD, hT, hI, hA, ⟨hg1, hg2⟩, ⟨hg3, hg4⟩, hb1⟩
  clear hdr
  obtain ⟨os, T, L, hRun, hImp, hSpe, hOk⟩ : ∃ (os : List (Int × Int)) (T : Tl) (L : Nat → Lw), Run acts os T L ∧
      (∀ W, Below w1.heap.size w1 W → Calls Tryz.prog 5 #[.slice (some ⟨gi, 0, none⟩) its.length ci, .slice (some ⟨ga, 0, none⟩) acts.length ca] W fun e w' => ∃ tv lv kv cv ks, e = .returned (.tuple #[tv, .agg #[lv, .int .i64 T.sh, kv, .int .i64 T.sl, .int .i64 T.tk, .int .i64 T.dp, cv], .int .i64 0]) ∧ AnsT W.heap.size os T tv lv kv cv ks w' ∧ Below W.heap.size W w') ∧
      (∀ W, Below w1.heap.size w1 W → Calls Tryz.prog 6 #[.slice (some ⟨gi, 0, none⟩) its.length ci, .slice (some ⟨ga, 0, none⟩) acts.length ca] W fun e w' => ∃ tv lv kv cv ks, e = .returned (.tuple #[tv, .agg #[lv, .int .i64 T.sh, kv, .int .i64 T.sl, .int .i64 T.tk, .int .i64 T.dp, cv], .int .i64 0]) ∧ AnsT W.heap.size os T tv lv kv cv ks w' ∧ Below W.heap.size W w') ∧
      (∀ W, Below w1.heap.size w1 W → Calls Tryz.prog 7 #[.slice (some ⟨gi, 0, none⟩) its.length ci] W fun e w' => e = .returned (.bool true) ∧ Below W.heap.size W w') := by
    obtain ⟨hBi, hBs, hBn, hBg, hRI, hRS, hv⟩ := HSI.out
    have hall : itAll Bf its = true := its_good hBg (by omega) hD.1 hD.2
    have hC : tillC Bf its acts = 0 := by unfold tillC; rw [if_neg (by omega), if_neg (by simp [hall]), if_neg (by omega)]
    have hO : tillO R Bf its acts = runO R its acts acts.length := by unfold tillO; rw [if_pos hC]
    have hTT : tillT R Bf its acts = runT R its acts acts.length := by unfold tillT; rw [if_pos hC]
    have hR1 : ∀ W, Below w1.heap.size w1 W → ReadsIt W.heap.size W (some ⟨gi, 0, none⟩) its ∧ ReadsTa W.heap.size W (some ⟨ga, 0, none⟩) acts := fun W hW => ⟨.inr ⟨gi, 0, rfl, Nat.lt_of_lt_of_le hg2 hW.size, hI.below hW hg2⟩, .inr ⟨ga, 0, rfl, Nat.lt_of_lt_of_le hg4 hW.size, hA.below hW hg4⟩⟩
    refine ⟨_, _, _, run_of hv (fun r h => (hD.1 r h).2) acts hl25, fun W hW => ?_, fun W hW => ?_, fun W hW => ?_⟩
    · have := implTill_any Bf hBi hBn R hRI hv (some ⟨gi, 0, none⟩) ci its hci (some ⟨ga, 0, none⟩) ca acts (by omega) (by omega) W (hR1 W hW).1 (hR1 W hW).2
      rwa [hC, hO, hTT] at this
    · have := specTill_any Bf hBs hBn R hRS hv (some ⟨gi, 0, none⟩) ci its hci (fun r h => by have := good_size (hD.1 r h).1; show r.cd.size ≤ 2000000; omega) (some ⟨ga, 0, none⟩) ca acts (by omega) (by omega) W (hR1 W hW).1 (hR1 W hW).2
      rwa [hC, hO, hTT] at this
    · have := implItems_any Bf hBi (some ⟨gi, 0, none⟩) ci its hci W (hR1 W hW).1
      rwa [hall] at this
  have HT : Hid (∀ r ∈ acts, TaD r) := hT
  have HA : Hid (∀ W, Below w1.heap.size w1 W → TasAt W ga 0 acts) := fun W hW => hA.below hW hg4
  have HR : Hid (Run acts os T L) := hRun
  have HB1 : Hid (Below w.heap.size w w1) := hb1
  clear hT hA hRun hb1 hD hI HSI
  go_wp2_with fail
  (first | go_at_call 5 | skip)
  refine (hImp w1 (Below.refl _ _)).mono ?_
  rintro e w2 ⟨tv, lv, kv, cv, ks, rfl, hAn, hb2⟩
  obtain ⟨ta, tc, rfl⟩ := row_slice hAn.told
  obtain ⟨la, lc, rfl⟩ := row_slice hAn.lrow
  obtain ⟨ka, kc, rfl⟩ := row_slice hAn.krow
  obtain ⟨va, vc, rfl⟩ := row_slice hAn.crow
  clear hImp
  have hb2' : Below w1.heap.size w1 (w2.alloc (Obj.cells #[.slice la T.ls.length lc, .int .i64 T.sh, .slice ka ks.length kc, .int .i64 T.sl, .int .i64 T.tk, .int .i64 T.dp, .slice va T.cs.length vc] 34)) := chain hb2 (below_alloc _ _)
  have hSp := hSpe _ hb2'
  obtain ⟨w3, hw3⟩ : ∃ w3, w3 = w2.alloc (Obj.cells #[.slice la T.ls.length lc, .int .i64 T.sh, .slice ka ks.length kc, .int .i64 T.sl, .int .i64 T.tk, .int .i64 T.dp, .slice va T.cs.length vc] 34) := ⟨_, rfl⟩
  obtain ⟨bt, hbt⟩ : ∃ bt, bt = w2.heap.size := ⟨_, rfl⟩
  rw [← hw3] at hSp hb2'
  have X3 : Hid (w3.heap[bt]? = some (.cells #[.slice la T.ls.length lc, .int .i64 T.sh, .slice ka ks.length kc, .int .i64 T.sl, .int .i64 T.tk, .int .i64 T.dp, .slice va T.cs.length vc] 34 (0, 0))) := by show _ = _; rw [hw3, hbt]; exact heapNew _ _
  have h3 : w3.heap.size = w2.heap.size + 1 := by rw [hw3]; simp
  have HO3 : Hid (w3.ownsRow w1.heap.size 40 2 (.slice ta os.length tc) os.length (obCells os) ∧ w3.ownsRow w1.heap.size 3 1 (.slice va T.cs.length vc) T.cs.length (T.cs.map (Value.int .i64)) ∧ ks.length = T.kept.length) := by
    refine ⟨?_, ?_, by rw [← hAn.kept, List.length_map]⟩
    · rw [hw3]; exact hAn.told.alloc _
    · rw [hw3]; exact hAn.crow.alloc _
  have HB3 : Hid (Below w1.heap.size w1 w3) := hb2'
  have HW3 : Hid (w3 = w2.alloc (Obj.cells #[.slice la T.ls.length lc, .int .i64 T.sh, .slice ka ks.length kc, .int .i64 T.sl, .int .i64 T.tk, .int .i64 T.dp, .slice va T.cs.length vc] 34) ∧ bt = w2.heap.size) := ⟨hw3, hbt⟩
  clear hSpe hAn hb2 hb2' hw3 hbt
  go_upto_region 5 with fail
  rw [← HW3.out.1, ← HW3.out.2]
  clear HW3 h3
  go_wp2_with fail
  (first | go_at_call 6 | skip)
  refine hSp.mono ?_
  rintro e w4 ⟨tv2, lv2, kv2, cv2, ks2, rfl, hAn, hb4⟩
  obtain ⟨ta2, tc2, rfl⟩ := row_slice hAn.told
  obtain ⟨la2, lc2, rfl⟩ := row_slice hAn.lrow
  obtain ⟨ka2, kc2, rfl⟩ := row_slice hAn.krow
  obtain ⟨va2, vc2, rfl⟩ := row_slice hAn.crow
  clear hSp
  obtain ⟨w5, hw5⟩ : ∃ w5, w5 = w4.alloc (Obj.cells #[.slice la2 T.ls.length lc2, .int .i64 T.sh, .slice ka2 ks2.length kc2, .int .i64 T.sl, .int .i64 T.tk, .int .i64 T.dp, .slice va2 T.cs.length vc2] 34) := ⟨_, rfl⟩
  obtain ⟨bw, hbw⟩ : ∃ bw, bw = w4.heap.size := ⟨_, rfl⟩
  have hb5 : Below w3.heap.size w3 w5 := by rw [hw5]; exact chain hb4 (below_alloc _ _)
  have Y5 : Hid (w5.heap[bw]? = some (.cells #[.slice la2 T.ls.length lc2, .int .i64 T.sh, .slice ka2 ks2.length kc2, .int .i64 T.sl, .int .i64 T.tk, .int .i64 T.dp, .slice va2 T.cs.length vc2] 34 (0, 0))) := by show _ = _; rw [hw5, hbw]; exact heapNew _ _
  have X5 : Hid (w5.heap[bt]? = some (.cells #[.slice la T.ls.length lc, .int .i64 T.sh, .slice ka ks.length kc, .int .i64 T.sl, .int .i64 T.tk, .int .i64 T.dp, .slice va T.cs.length vc] 34 (0, 0))) := (hb5.block bt (blkLt X3.out)).trans X3.out
  have HO5 : Hid (w5.ownsRow w1.heap.size 40 2 (.slice ta os.length tc) os.length (obCells os) ∧ w5.ownsRow w1.heap.size 3 1 (.slice va T.cs.length vc) T.cs.length (T.cs.map (Value.int .i64)) ∧ ks.length = T.kept.length ∧ w5.ownsRow w3.heap.size 40 2 (.slice ta2 os.length tc2) os.length (obCells os) ∧ w5.ownsRow w3.heap.size 3 1 (.slice va2 T.cs.length vc2) T.cs.length (T.cs.map (Value.int .i64))) := by
    refine ⟨row_of HO3.out.1 (fun q hq => hb5.block q (row_lt HO3.out.1 q hq).2), row_of HO3.out.2.1 (fun q hq => hb5.block q (row_lt HO3.out.2.1 q hq).2), HO3.out.2.2, ?_, ?_⟩
    · rw [hw5]; exact hAn.told.alloc _
    · rw [hw5]; exact hAn.crow.alloc _
  have HB5 : Hid (Below w1.heap.size w1 w5) := chain HB3.out hb5
  have HW5 : Hid (w5 = w4.alloc (Obj.cells #[.slice la2 T.ls.length lc2, .int .i64 T.sh, .slice ka2 ks2.length kc2, .int .i64 T.sl, .int .i64 T.tk, .int .i64 T.dp, .slice va2 T.cs.length vc2] 34) ∧ bw = w4.heap.size) := ⟨hw5, hbw⟩
  clear hAn hb4 hw5 hbw hb5 X3 HO3 HB3
  go_upto_region 6 with fail
  rw [← HW5.out.1, ← HW5.out.2]
  clear HW5
  have hOK5 := hOk w5 HB5.out
  clear hOk
  go_wp2_with fail
  (first | go_at_call 7 | skip)
  refine hOK5.mono ?_
  rintro e w6 ⟨rfl, hb6⟩
  have X6 : Hid (w6.heap[bt]? = some (.cells #[.slice la T.ls.length lc, .int .i64 T.sh, .slice ka ks.length kc, .int .i64 T.sl, .int .i64 T.tk, .int .i64 T.dp, .slice va T.cs.length vc] 34 (0, 0))) := (hb6.block bt (blkLt X5.out)).trans X5.out
  have Y6 : Hid (w6.heap[bw]? = some (.cells #[.slice la2 T.ls.length lc2, .int .i64 T.sh, .slice ka2 ks2.length kc2, .int .i64 T.sl, .int .i64 T.tk, .int .i64 T.dp, .slice va2 T.cs.length vc2] 34 (0, 0))) := (hb6.block bw (blkLt Y5.out)).trans Y5.out
  have HO6 : Hid (w6.ownsRow w1.heap.size 40 2 (.slice ta os.length tc) os.length (obCells os) ∧ w6.ownsRow w1.heap.size 3 1 (.slice va T.cs.length vc) T.cs.length (T.cs.map (Value.int .i64)) ∧ ks.length = T.kept.length ∧ w6.ownsRow w3.heap.size 40 2 (.slice ta2 os.length tc2) os.length (obCells os) ∧ w6.ownsRow w3.heap.size 3 1 (.slice va2 T.cs.length vc2) T.cs.length (T.cs.map (Value.int .i64))) := by
    obtain ⟨q1, q2, q3, q4, q5⟩ := HO5.out
    exact ⟨row_of q1 (fun q hq => hb6.block q (row_lt q1 q hq).2), row_of q2 (fun q hq => hb6.block q (row_lt q2 q hq).2), q3, row_of q4 (fun q hq => hb6.block q (row_lt q4 q hq).2), row_of q5 (fun q hq => hb6.block q (row_lt q5 q hq).2)⟩
  have HB6 : Hid (Below w1.heap.size w1 w6) := chain HB5.out hb6
  clear hb6 hOK5 X5 Y5 HO5 HB5
  have hc9 : T.cs.length = 9 := HR.out.cs.1
  have hsm := sameInts_any va va2 vc vc2 T.cs (by omega) w6 (ints_own HO6.out.2.1) (ints_own HO6.out.2.2.2.2)
  have y3 := blkCell X6.out 3 _ rfl
  have y4 := blkCell X6.out 4 _ rfl
  have y5 := blkCell X6.out 5 _ rfl
  have y6 := blkCell X6.out 6 _ rfl
  have v3 := blkCell Y6.out 3 _ rfl
  have v4 := blkCell Y6.out 4 _ rfl
  have v5 := blkCell Y6.out 5 _ rfl
  have v6 := blkCell Y6.out 6 _ rfl
  simp only [List.getElem_toArray, List.getElem_cons_zero, List.getElem_cons_succ] at y3 y4 y5 y6 v3 v4 v5 v6
  clear hc9
  go_wp2_with fail
  (first | go_at_call 8 | skip)
  refine hsm.mono ?_
  rintro e w7 ⟨rfl, hb7⟩
  have X7 : Hid (w7.heap[bt]? = some (.cells #[.slice la T.ls.length lc, .int .i64 T.sh, .slice ka ks.length kc, .int .i64 T.sl, .int .i64 T.tk, .int .i64 T.dp, .slice va T.cs.length vc] 34 (0, 0))) := (hb7.block bt (blkLt X6.out)).trans X6.out
  have HO7 : Hid (w7.ownsRow w1.heap.size 40 2 (.slice ta os.length tc) os.length (obCells os) ∧ w7.ownsRow w1.heap.size 3 1 (.slice va T.cs.length vc) T.cs.length (T.cs.map (Value.int .i64)) ∧ ks.length = T.kept.length ∧ w7.ownsRow w3.heap.size 40 2 (.slice ta2 os.length tc2) os.length (obCells os)) := by
    obtain ⟨q1, q2, q3, q4, q5⟩ := HO6.out
    exact ⟨row_of q1 (fun q hq => hb7.block q (row_lt q1 q hq).2), row_of q2 (fun q hq => hb7.block q (row_lt q2 q hq).2), q3, row_of q4 (fun q hq => hb7.block q (row_lt q4 q hq).2)⟩
  have HB7 : Hid (Below w1.heap.size w1 w7) := chain HB6.out hb7
  clear hb7 hsm X6 Y6 HO6 HB6 y3 y4 y5 y6 v3 v4 v5 v6
  obtain ⟨i0, hi, hzz⟩ := Option.map_eq_some_iff.1 intInfV
  simp only [Prod.mk.injEq] at hzz
  obtain ⟨hi0, hi1, hi2⟩ := hzz
  go_wp2_with fail
  go_loopw [11, 12, 13, 14, 15, 107, 113, 119, 125, 157] (fun op v tk i _ _ _ _ _ _ wr => ∃ (k kc9 : Nat) (ka9 : Option Addr), k ≤ acts.length ∧ i = .int .i64 (k : Int) ∧ op = .int .i64 (L k).op ∧ tk = .int .i64 (L k).tk ∧ v = .slice ka9 (L k).kp.length kc9 ∧ wr.ownsRow w7.heap.size 3 1 v (L k).kp.length ((L k).kp.map (Value.int .i64)) ∧ Below w7.heap.size w7 wr) (fun _ _ _ i _ _ _ _ _ _ _ => acts.length - (intOf i).toNat)
  case atStart =>
    have hz := HR.out.zero
    exact ⟨0, 0, some ⟨w7.heap.size, 0, none⟩, Nat.zero_le _, rfl, by rw [hz], by rw [hz], by rw [hz]; rfl, by rw [hz]; exact ⟨rfl, .inr ⟨w7.heap.size, 0, #[], rfl, Nat.le_refl _, heapNew _ _, Nat.le_refl _, by unfold maxLen; omega, rfl, rfl⟩⟩, below_alloc _ _⟩
  case round =>
    obtain ⟨k, kc9, ka9, hk, rfl, rfl, rfl, rfl, hown, hbr⟩ := hrel
    have HOW : Hid (wr.ownsRow w7.heap.size 3 1 (.slice ka9 (L k).kp.length kc9) (L k).kp.length ((L k).kp.map (Value.int .i64))) := hown
    have HBr : Hid (Below w7.heap.size w7 wr) := hbr
    clear hown hbr
    by_cases hlt : k < acts.length
    · have hlt' : (k : Int) < (acts.length : Int) := by omega
      have hosl := HR.out.len
      have hlo : (k : Int) < (os.length : Int) := by omega
      have hway := HR.out.way k hlt
      have hr1 := HR.out.rng k hk
      have hr2 := HR.out.rng (k + 1) hlt
      clear hosl
      unfold LwWay at hway
      have HLe : Hid (L k = ⟨(L k).op, (L k).kp, (L k).tk⟩) := (rfl : L k = _)
      generalize (L k).op = op at *
      generalize (L k).kp = kp at *
      generalize (L k).tk = tk at *
      obtain ⟨gx, rfl, hgx, o1, o2⟩ := obs_at HO7.out.1 k (Int.ofNat_lt.1 hlo)
      obtain ⟨gy, rfl, hgy, p1, p2⟩ := obs_at HO7.out.2.2.2 k (Int.ofNat_lt.1 hlo)
      obtain ⟨t1, t2, t3⟩ := HA.out w7 HB7.out k hlt
      rw [Nat.zero_add] at t1 t2 t3
      have hTD := HT.out (acts.getD k zTa) (by rw [show acts.getD k zTa = acts[k] by simp [List.getD_eq_getElem?_getD, hlt]]; exact List.getElem_mem hlt)
      have hga : ga < w7.heap.size := Nat.lt_of_lt_of_le hg4 HB7.out.size
      generalize os.getD k (0, 0) = ob at *
      generalize acts.getD k zTa = ac at *
      obtain ⟨oc, on⟩ := ob
      obtain ⟨kd, tx, nm⟩ := ac
      unfold TaD at *
      dsimp only at o1 o2 p1 p2 t1 t2 t3 hway hTD
      obtain ⟨hkd, htx, hnm1, hnm2⟩ := hTD
      obtain ⟨w8, hw8⟩ : ∃ w8, w8 = (wr.alloc (Obj.cells #[.int .i64 oc, .int .i64 on] 40)).drew := ⟨_, rfl⟩
      obtain ⟨bo, hbo⟩ : ∃ bo, bo = wr.heap.size := ⟨_, rfl⟩
      have hb8 : Below wr.heap.size wr w8 := by rw [hw8]; exact (below_alloc _ _).drew
      have Z8 : Hid (w8.heap[bo]? = some (.cells #[.int .i64 oc, .int .i64 on] 40 (0, 0))) := by show _ = _; rw [hw8, hbo]; exact heapNew _ _
      have HB8 : Hid (Below w7.heap.size w7 w8) := chain HBr.out hb8
      have HOW8 : Hid (w8.ownsRow w7.heap.size 3 1 (.slice ka9 kp.length kc9) kp.length (kp.map (Value.int .i64))) := row_of HOW.out (fun q hq => hb8.block q (row_lt HOW.out q hq).2)
      have u1 := (HBr.out.cell (p := ⟨gx, k * 2, none⟩) hgx).trans o1
      have u2 := (HBr.out.cell (p := ⟨gx, k * 2 + 1, none⟩) hgx).trans o2
      have HQ : Hid (∀ W : World, W = w8 → W.cell? ⟨bo, 0, none⟩ = some (.int .i64 oc) ∧ W.cell? ⟨bo, 1, none⟩ = some (.int .i64 on) ∧ W.cell? ⟨gy, k * 2, none⟩ = some (.int .i64 oc) ∧ W.cell? ⟨gy, k * 2 + 1, none⟩ = some (.int .i64 on)) := fun W hW => by
        rw [hW]
        exact ⟨blkCell Z8.out 0 _ rfl, blkCell Z8.out 1 _ rfl, (HB8.out.cell (p := ⟨gy, k * 2, none⟩) hgy).trans p1, (HB8.out.cell (p := ⟨gy, k * 2 + 1, none⟩) hgy).trans p2⟩
      have n1 := (HB8.out.cell (p := ⟨ga, k * 3, none⟩) hga).trans t1
      have n3 := (HB8.out.cell (p := ⟨ga, k * 3 + 2, none⟩) hga).trans t3
      have HW8 : Hid (w8 = (wr.alloc (Obj.cells #[.int .i64 oc, .int .i64 on] 40)).drew ∧ bo = wr.heap.size) := ⟨hw8, hbo⟩
      have hneq := fun w => obNeq_run oc on w
      clear o1 o2 p1 p2 t1 t2 t3 hw8 hbo hb8 hgx hgy
      go_upto_region 15 with fail
      clear u1 u2 HOW HBr
      refine wp_region_held_drew (S := fun W => W = w8) (by kernel_rfl) HW8.out.1.symm (fun hH => ?_)
      rw [← HW8.out.1, ← HW8.out.2] at *
      clear HW8
      refine wpAnyH_take (i := 0) (v := .agg #[.int .i64 oc, .int .i64 on]) rfl (by kernel_rfl) (by kernel_rfl) (by kernel_rfl) (fun _ _ _ h => h) (Or.inl ⟨by rfl, fun w hSw => by obtain ⟨f0, f1, f2, f3⟩ := HQ.out _ hSw; clear hSw; go_simp⟩) rfl ?_
      refine wpAnyH_take (i := 1) (v := .slice (some ⟨gy, 0, none⟩) os.length tc2) rfl (by kernel_rfl) (by kernel_rfl) (by kernel_rfl) (fun _ _ _ h => h) (Or.inl ⟨by rfl, fun w hSw => by clear hSw; go_simp⟩) rfl ?_
      try simp only [Act.put, List.setIfInBounds_toArray, List.set_cons_zero, List.set_cons_succ, List.getElem_toArray, List.getElem_cons_succ, List.getElem_cons_zero]
      refine wpAnyH_take (i := 2) (v := .int .i64 (k : Int)) rfl (by kernel_rfl) (by kernel_rfl) (by kernel_rfl) (fun _ _ _ h => h) (Or.inl ⟨by rfl, fun w hSw => by clear hSw; go_simp⟩) rfl ?_
      try simp only [Act.put, List.setIfInBounds_toArray, List.set_cons_zero, List.set_cons_succ, List.getElem_toArray, List.getElem_cons_succ, List.getElem_cons_zero]
      refine wpAnyH_take (i := 3) (v := .pointer (some ⟨gy, k * 2, none⟩)) rfl (by kernel_rfl) (by kernel_rfl) (by kernel_rfl) (fun _ _ _ h => h) (Or.inl ⟨by rfl, fun w hSw => by clear hSw; go_simp⟩) rfl ?_
      try simp only [Act.put, List.setIfInBounds_toArray, List.set_cons_zero, List.set_cons_succ, List.getElem_toArray, List.getElem_cons_succ, List.getElem_cons_zero]
      refine wpAnyH_take (i := 4) (v := .agg #[.int .i64 oc, .int .i64 on]) rfl (by kernel_rfl) (by kernel_rfl) (by kernel_rfl) (fun _ _ _ h => h) (Or.inl ⟨by rfl, fun w hSw => by obtain ⟨f0, f1, f2, f3⟩ := HQ.out _ hSw; clear hSw; go_simp⟩) rfl ?_
      try simp only [Act.put, List.setIfInBounds_toArray, List.set_cons_zero, List.set_cons_succ, List.getElem_toArray, List.getElem_cons_succ, List.getElem_cons_zero]
      refine wpAnyH_take (i := 5) (v := .bool false) rfl (by kernel_rfl) (by kernel_rfl) (by kernel_rfl) (fun _ _ _ h => h) (Or.inl ⟨by rfl, fun w hSw => by have f0 := hneq; clear hSw; go_simp⟩) rfl ?_
      try simp only [Act.put, List.setIfInBounds_toArray, List.set_cons_zero, List.set_cons_succ, List.getElem_toArray, List.getElem_cons_succ, List.getElem_cons_zero]
      refine wpAnyH_done (by kernel_rfl) ?_ _
      obtain ⟨f0, f1, f2, f3⟩ := HQ.out w8 rfl
      clear f2 f3 HQ hneq
      rcases hway with ⟨hne, hL⟩ | ⟨h0, hway⟩
      · have hne' : (oc != 0) = true := by rw [bne_iff_ne]; exact hne
        rw [HLe.out] at hL
        go_wp2
        exact ⟨⟨k + 1, kc9, ka9, by omega, by go_num, by rw [hL], by rw [hL], by rw [hL], by rw [hL]; exact HOW8.out, HB8.out⟩, by simp [intOf]; omega⟩
      subst h0
      rcases hway with ⟨rfl, hL⟩ | ⟨rfl, hL⟩ | ⟨rfl, hL⟩ | ⟨rfl, hn1, hn2, hon, hL⟩ | ⟨rfl, hon, hn1, hn2, hL⟩ | ⟨⟨e1, e2, e4, e5, e6⟩, hL⟩
      · rw [hL] at hr2
        dsimp only at hr2
        have hwx : IntKind.i64.wrap (op + on) = op + on := wrap_id _ (by omega) (by omega)
        go_wp2
        exact ⟨⟨k + 1, kc9, ka9, by omega, by go_num, by rw [hL], by rw [hL], by rw [hL], by rw [hL]; exact HOW8.out, HB8.out⟩, by simp [intOf]; omega⟩
      · rw [hL] at hr2
        dsimp only at hr2
        have hwx : IntKind.i64.wrap (op - on) = op - on := wrap_id _ (by omega) (by omega)
        go_wp2
        exact ⟨⟨k + 1, kc9, ka9, by omega, by go_num, by rw [hL], by rw [hL], by rw [hL], by rw [hL]; exact HOW8.out, HB8.out⟩, by simp [intOf]; omega⟩
      · have HA8 : Hid ((w8.alloc (Obj.cells #[.int .i64 op] 3)).ownsRow w7.heap.size 3 1 (.slice ka9 kp.length kc9) kp.length (kp.map (Value.int .i64))) := HOW8.out.alloc _
        have HN : Hid ((w8.alloc (Obj.cells #[.int .i64 op] 3)).heap[w8.heap.size]? = some (.cells #[.int .i64 op] 3 (0, 0))) := heapNew _ _
        have hz8 : w7.heap.size ≤ (w8.alloc (Obj.cells #[.int .i64 op] 3)).heap.size := by have := HB8.out.size; simp; omega
        have hB8' : Below w7.heap.size w7 (w8.alloc (Obj.cells #[.int .i64 op] 3)) := HB8.out.alloc (by have := HB8.out.size; omega) _
        have HB8' : Hid _ := hB8'
        have hkl := hr1.2.1
        clear hB8'
        go_wp2_with (at_builtin; refine wpList_append_lies _ rfl _ _ 32 rfl w7.heap.size 3 i0 (.int .i64 0) 1 8 Tryz.underlying32 hi hi0 hi1 hi2 rfl (by decide) _ _ _ rfl HA8.out ⟨w8.heap.size, 0, none⟩ 1 1 [.int .i64 op] rfl rfl (World.news_of_block HN.out) (by simp [Value.oneCell']) (by omega) (by unfold maxLen; omega) (by omega) hz8 _ rfl ?_; intro g1 cp1 wz hown1 hgrow1 hat1 hglt1; have HF : Hid (wz.ownsRow w7.heap.size 3 1 (.slice (some ⟨g1, 0, none⟩) (kp.length + 1) cp1) (kp.length + 1) (kp.map (Value.int .i64) ++ [.int .i64 op]) ∧ Below w7.heap.size w7 wz) := ⟨hown1, HB8'.out.grown hgrow1 hz8 (fun q hq => (row_lt HA8.out q hq).1)⟩; clear hown1 hgrow1 hat1 hglt1)
        go_wp2
        exact ⟨⟨k + 1, cp1, some ⟨g1, 0, none⟩, by omega, by go_num, by rw [hL], by rw [hL], by rw [hL]; simp, by rw [hL]; simpa using HF.out.1, HF.out.2⟩, by simp [intOf]; omega⟩
      · obtain ⟨n, rfl⟩ : ∃ n : Nat, nm = (n : Int) := ⟨nm.toNat, by omega⟩
        rw [Int.toNat_natCast] at hon hL
        rw [← hon] at hL
        have HON : Hid (on = kp.getD n 0) := hon
        have HL5 : Hid (L (k + 1) = ⟨on, kp.take n ++ kp.drop (n + 1), tk⟩) := hL
        have hnl : n < kp.length := by omega
        have hk5 := hr1.2.1
        obtain ⟨g, rfl⟩ := own_some HOW8.out (by omega)
        have hcap := row_cap HOW8.out
        have c1 : w8.cell? ⟨g, n, none⟩ = some (.int .i64 on) := by
          rw [HOW8.out.cellAt n (by omega), HON.out]
          simp [List.getD_eq_getElem?_getD, hnl]
        have hnn : (on != on) = false := by simp
        have HB9 : Hid (Below w7.heap.size w7 w8.drew) := HB8.out.drew
        have HSz : Hid (w7.heap.size ≤ w8.drew.heap.size) := HB8.out.size
        have HLo : Hid (∀ W, Below w8.heap.size w8 W → W.ownsRow w7.heap.size 3 1 (.slice (some ⟨g, 0, none⟩) kp.length kc9) kp.length (kp.map (Value.int .i64))) := fun W hW => row_of HOW8.out (fun q hq => hW.block q (row_lt HOW8.out q hq).2)
        have hbo : bo < w8.heap.size := blkLt Z8.out
        have HQ5 : Hid (∀ W, Below w8.heap.size w8 W → W.cell? ⟨ga, k * 3 + 2, none⟩ = some (.int .i64 (n : Int)) ∧ W.cell? ⟨bo, 1, none⟩ = some (.int .i64 on)) := fun W hW => ⟨(hW.cell (p := ⟨ga, k * 3 + 2, none⟩) (Nat.lt_of_lt_of_le hga HB8.out.size)).trans n3, (hW.cell (p := ⟨bo, 1, none⟩) hbo).trans f1⟩
        have HTk : Hid (∀ j u, ((kp.take n).map (Value.int .i64))[j]? = some u → (kp.map (Value.int .i64))[0 + j]? = some u) := fun j u hj => by
          rw [List.map_take, List.getElem?_take] at hj
          split at hj
          · rw [Nat.zero_add]; exact hj
          · cases hj
        obtain ⟨o8, ho8⟩ : ∃ o8 : Nat, o8 = if kc9 = n + 1 then 0 else (n + 1) * 1 := ⟨_, rfl⟩
        have hof : (if kc9 = n + 1 then (some (⟨g, 0, none⟩ : Addr)) else some ⟨g, n + 1, none⟩) = some ⟨g, o8, none⟩ := by rw [ho8]; split <;> simp
        have HDr : Hid (0 < kp.length - (n + 1) → ∀ j u, ((kp.drop (n + 1)).map (Value.int .i64))[j]? = some u → (kp.map (Value.int .i64))[o8 + j]? = some u) := fun h0 j u hj => by
          rw [ho8, if_neg (by omega), Nat.mul_one]
          rw [List.map_drop, List.getElem?_drop] at hj
          exact hj
        have HLt : Hid ((kp.take n).length = n ∧ (kp.drop (n + 1)).length = kp.length - (n + 1)) := ⟨by rw [List.length_take]; omega, by rw [List.length_drop]⟩
        have hick : n ≤ kc9 := by omega
        have hi1' : n + 1 ≤ kp.length := by omega
        have hwi : IntKind.i64.wrap ((n : Int) + 1) = (n : Int) + 1 := wrap_id _ (by omega) (by omega)
        have hi2' : (n : Int) + 1 ≤ (kp.length : Int) := by omega
        have hi3' : (0 : Int) ≤ (n : Int) + 1 := by omega
        have hi4' : ¬ ((n : Int) + 1 < 0) := by omega
        clear ho8 hon hL hr1 hr2 hnm1 hnm2 HLe HR HT HA htx hbo
        go_upto_region 28 with fail
        clear c1 f0 f1 n1 n3
        refine wp_region_held_drew (S := fun W => Below w8.heap.size w8 W) (by kernel_rfl) (below_drew _) (fun hH => ?_)
        refine wpAnyH_take (i := 1) (v := .slice (some ⟨g, 0, none⟩) kp.length kc9) rfl (by kernel_rfl) (by kernel_rfl) (by kernel_rfl) (fun _ _ _ h => h) (Or.inl ⟨by rfl, fun w hSw => by go_simp⟩) hH ?_
        refine wpAnyH_take (i := 2) (v := .slice (some ⟨ga, 0, none⟩) acts.length ca) rfl (by kernel_rfl) (by kernel_rfl) (by kernel_rfl) (fun _ _ _ h => h) (Or.inl ⟨by rfl, fun w hSw => by go_simp⟩) hH ?_
        try simp only [Act.put, List.setIfInBounds_toArray, List.set_cons_zero, List.set_cons_succ, List.getElem_toArray, List.getElem_cons_succ, List.getElem_cons_zero]
        refine wpAnyH_take (i := 3) (v := .int .i64 (k : Int)) rfl (by kernel_rfl) (by kernel_rfl) (by kernel_rfl) (fun _ _ _ h => h) (Or.inl ⟨by rfl, fun w hSw => by go_simp⟩) hH ?_
        try simp only [Act.put, List.setIfInBounds_toArray, List.set_cons_zero, List.set_cons_succ, List.getElem_toArray, List.getElem_cons_succ, List.getElem_cons_zero]
        refine wpAnyH_take (i := 4) (v := .pointer (some ⟨ga, k * 3, none⟩)) rfl (by kernel_rfl) (by kernel_rfl) (by kernel_rfl) (fun _ _ _ h => h) (Or.inl ⟨by rfl, fun w hSw => by go_simp⟩) hH ?_
        try simp only [Act.put, List.setIfInBounds_toArray, List.set_cons_zero, List.set_cons_succ, List.getElem_toArray, List.getElem_cons_succ, List.getElem_cons_zero]
        refine wpAnyH_take (i := 5) (v := .pointer (some ⟨ga, k * 3 + 2, none⟩)) rfl (by kernel_rfl) (by kernel_rfl) (by kernel_rfl) (fun _ _ _ h => h) (Or.inl ⟨by rfl, fun w hSw => by go_simp⟩) hH ?_
        try simp only [Act.put, List.setIfInBounds_toArray, List.set_cons_zero, List.set_cons_succ, List.getElem_toArray, List.getElem_cons_succ, List.getElem_cons_zero]
        refine wpAnyH_take (i := 6) (v := .int .i64 (n : Int)) rfl (by kernel_rfl) (by kernel_rfl) (by kernel_rfl) (fun _ _ _ h => h) (Or.inl ⟨by rfl, fun w hSw => by have f0 := (HQ5.out w hSw).1; clear hSw; go_simp⟩) hH ?_
        try simp only [Act.put, List.setIfInBounds_toArray, List.set_cons_zero, List.set_cons_succ, List.getElem_toArray, List.getElem_cons_succ, List.getElem_cons_zero]
        refine wpAnyH_take (i := 7) (v := .slice (some ⟨g, 0, none⟩) n kc9) rfl (by kernel_rfl) (by kernel_rfl) (by kernel_rfl) (fun _ _ _ h => h) (Or.inl ⟨by rfl, fun w hSw => by go_simp⟩) hH ?_
        try simp only [Act.put, List.setIfInBounds_toArray, List.set_cons_zero, List.set_cons_succ, List.getElem_toArray, List.getElem_cons_succ, List.getElem_cons_zero]
        refine wpAnyH_take (i := 9) (v := .slice (some ⟨g, 0, none⟩) kp.length kc9) rfl (by kernel_rfl) (by kernel_rfl) (by kernel_rfl) (fun _ _ _ h => h) (Or.inl ⟨by rfl, fun w hSw => by go_simp⟩) hH ?_
        try simp only [Act.put, List.setIfInBounds_toArray, List.set_cons_zero, List.set_cons_succ, List.getElem_toArray, List.getElem_cons_succ, List.getElem_cons_zero]
        refine wpAnyH_take (i := 10) (v := .slice (some ⟨ga, 0, none⟩) acts.length ca) rfl (by kernel_rfl) (by kernel_rfl) (by kernel_rfl) (fun _ _ _ h => h) (Or.inl ⟨by rfl, fun w hSw => by go_simp⟩) hH ?_
        try simp only [Act.put, List.setIfInBounds_toArray, List.set_cons_zero, List.set_cons_succ, List.getElem_toArray, List.getElem_cons_succ, List.getElem_cons_zero]
        refine wpAnyH_take (i := 11) (v := .int .i64 (k : Int)) rfl (by kernel_rfl) (by kernel_rfl) (by kernel_rfl) (fun _ _ _ h => h) (Or.inl ⟨by rfl, fun w hSw => by go_simp⟩) hH ?_
        try simp only [Act.put, List.setIfInBounds_toArray, List.set_cons_zero, List.set_cons_succ, List.getElem_toArray, List.getElem_cons_succ, List.getElem_cons_zero]
        refine wpAnyH_take (i := 12) (v := .pointer (some ⟨ga, k * 3, none⟩)) rfl (by kernel_rfl) (by kernel_rfl) (by kernel_rfl) (fun _ _ _ h => h) (Or.inl ⟨by rfl, fun w hSw => by go_simp⟩) hH ?_
        try simp only [Act.put, List.setIfInBounds_toArray, List.set_cons_zero, List.set_cons_succ, List.getElem_toArray, List.getElem_cons_succ, List.getElem_cons_zero]
        refine wpAnyH_take (i := 13) (v := .pointer (some ⟨ga, k * 3 + 2, none⟩)) rfl (by kernel_rfl) (by kernel_rfl) (by kernel_rfl) (fun _ _ _ h => h) (Or.inl ⟨by rfl, fun w hSw => by go_simp⟩) hH ?_
        try simp only [Act.put, List.setIfInBounds_toArray, List.set_cons_zero, List.set_cons_succ, List.getElem_toArray, List.getElem_cons_succ, List.getElem_cons_zero]
        refine wpAnyH_take (i := 14) (v := .int .i64 (n : Int)) rfl (by kernel_rfl) (by kernel_rfl) (by kernel_rfl) (fun _ _ _ h => h) (Or.inl ⟨by rfl, fun w hSw => by have f0 := (HQ5.out w hSw).1; clear hSw; go_simp⟩) hH ?_
        try simp only [Act.put, List.setIfInBounds_toArray, List.set_cons_zero, List.set_cons_succ, List.getElem_toArray, List.getElem_cons_succ, List.getElem_cons_zero]
        refine wpAnyH_take (i := 15) (v := .int .i64 ((n : Int) + 1)) rfl (by kernel_rfl) (by kernel_rfl) (by kernel_rfl) (fun _ _ _ h => h) (Or.inl ⟨by rfl, fun w hSw => by go_simp⟩) hH ?_
        try simp only [Act.put, List.setIfInBounds_toArray, List.set_cons_zero, List.set_cons_succ, List.getElem_toArray, List.getElem_cons_succ, List.getElem_cons_zero]
        refine wpAnyH_take (i := 16) (v := .slice (some ⟨g, o8, none⟩) (kp.length - (n + 1)) (kc9 - (n + 1))) rfl (by kernel_rfl) (by kernel_rfl) (by kernel_rfl) (fun _ _ _ h => h) (Or.inl ⟨by rfl, fun w hSw => by go_simp⟩) hH ?_
        try simp only [Act.put, List.setIfInBounds_toArray, List.set_cons_zero, List.set_cons_succ, List.getElem_toArray, List.getElem_cons_succ, List.getElem_cons_zero]
        refine wpAnyH_ready (rs := [0]) (by kernel_rfl) (by simp) ?_
        refine AllReadyH.cons rfl (fun K hK => ?_) AllReadyH.nil
        go_simp
        have h12 : Below w8.heap.size w8 (w8.alloc (Obj.cells #[] 3)).drew := chain (below_alloc _ _) (below_drew _)
        have HO : Hid ((w8.alloc (Obj.cells #[] 3)).drew.ownsRow w8.heap.size 3 1 (.slice (some ⟨w8.heap.size, 0, none⟩) 0 0) 0 []) := ⟨rfl, .inr ⟨w8.heap.size, 0, #[], rfl, Nat.le_refl _, heapNew w8 _, Nat.le_refl _, by unfold maxLen; omega, rfl, rfl⟩⟩
        refine hK.out _ _ h12 (fun _ => ?_)
        clear hK K
        try simp only [Act.put, List.setIfInBounds_toArray, List.set_cons_zero, List.set_cons_succ, List.getElem_toArray, List.getElem_cons_succ, List.getElem_cons_zero]
        generalize (w8.alloc (Obj.cells #[] 3)).drew = W12 at *
        refine wpAnyH_ready (rs := [8]) (by kernel_rfl) (by simp) ?_
        refine AllReadyH.cons rfl (fun K hK => ?_) AllReadyH.nil
        refine step_append_any rfl (.tmp 135) (.tmp 142) 32 rfl w8.heap.size 3 i0 (.int .i64 0) 1 8 Tryz.underlying32 hi hi0 hi1 hi2 rfl (by decide) (.slice (some ⟨w8.heap.size, 0, none⟩) 0 0) 0 [] (by simp [Act.eval]) HO.out (some ⟨g, 0, none⟩) n kc9 ((kp.take n).map (Value.int .i64)) (by simp [Act.eval]) (by rw [List.length_map, HLt.out.1, Nat.mul_one]) (fun _ => ⟨_, rfl, row_part (HLo.out _ h12) 0 _ HTk.out⟩) (fun u hu => by obtain ⟨z, _, rfl⟩ := List.mem_map.1 hu; rfl) (by unfold maxLen; omega) (by omega) h12.size (fun va vc w13 ho13 hg13 ha13 => ?_)
        rw [Nat.zero_add] at ho13 ha13 ⊢
        have h13 : Below w8.heap.size w8 w13 := h12.grown hg13 h12.size (fun q hq => Nat.le_of_eq (by simpa [Value.ownBlock] using hq))
        have HR13 : Hid (w13.ownsRow w8.heap.size 3 1 (.slice va n vc) n ((kp.take n).map (Value.int .i64))) := by have := ho13; rwa [List.nil_append] at this
        clear ho13 hg13 ha13 HO
        refine hK.out _ _ h13 (fun _ => ?_)
        clear hK K
        try simp only [Act.put, List.setIfInBounds_toArray, List.set_cons_zero, List.set_cons_succ, List.getElem_toArray, List.getElem_cons_succ, List.getElem_cons_zero]
        refine wpAnyH_ready (rs := [17]) (by kernel_rfl) (by simp) ?_
        refine AllReadyH.cons rfl (fun K hK => ?_) AllReadyH.nil
        refine step_append_any rfl (.tmp 143) (.tmp 151) 32 rfl w8.heap.size 3 i0 (.int .i64 0) 1 8 Tryz.underlying32 hi hi0 hi1 hi2 rfl (by decide) (.slice va n vc) n ((kp.take n).map (Value.int .i64)) (by simp [Act.eval]) HR13.out (some ⟨g, o8, none⟩) (kp.length - (n + 1)) (kc9 - (n + 1)) ((kp.drop (n + 1)).map (Value.int .i64)) (by simp [Act.eval]) (by rw [List.length_map, HLt.out.2, Nat.mul_one]) (fun h0 => ⟨_, rfl, row_part (HLo.out _ h13) o8 _ (HDr.out h0)⟩) (fun u hu => by obtain ⟨z, _, rfl⟩ := List.mem_map.1 hu; rfl) (by unfold maxLen; omega) (by omega) h13.size (fun ua uc w14 ho14 hg14 ha14 => ?_)
        have h14 : Below w8.heap.size w8 w14 := h13.grown hg14 h13.size (fun q hq => (row_lt HR13.out q hq).1)
        have HLn : Hid ((kp.take n ++ kp.drop (n + 1)).length = n + (kp.length - (n + 1))) := by show _ = _; rw [List.length_append, HLt.out.1, HLt.out.2]
        have HNew : Hid (w14.ownsRow w7.heap.size 3 1 (.slice ua (n + (kp.length - (n + 1))) uc) (n + (kp.length - (n + 1))) ((kp.take n ++ kp.drop (n + 1)).map (Value.int .i64)) ∧ Below w7.heap.size w7 w14) := by
          refine ⟨?_, chain HB8.out h14⟩
          rw [List.map_append]
          exact row_base ho14 HB8.out.size
        clear ho14 hg14 ha14
        refine hK.out _ _ h14 (fun _ => ?_)
        clear hK K
        try simp only [Act.put, List.setIfInBounds_toArray, List.set_cons_zero, List.set_cons_succ, List.getElem_toArray, List.getElem_cons_succ, List.getElem_cons_zero]
        refine wpAnyH_take (i := 18) (v := .slice ua (n + (kp.length - (n + 1))) uc) rfl (by kernel_rfl) (by kernel_rfl) (by kernel_rfl) (fun _ _ _ h => h) (Or.inl ⟨by rfl, fun w hSw => by go_simp⟩) h14 ?_
        try simp only [Act.put, List.setIfInBounds_toArray, List.set_cons_zero, List.set_cons_succ, List.getElem_toArray, List.getElem_cons_succ, List.getElem_cons_zero]
        refine wpAnyH_done (by kernel_rfl) ?_ _
        have f1 := (HQ5.out w14 h14).2
        clear hH h12 h13 h14
        go_wp2
        exact ⟨⟨k + 1, uc, ua, by omega, by go_num, by rw [HL5.out], by rw [HL5.out], by rw [HL5.out]; simp only [HLn.out], by rw [HL5.out]; simp only [HLn.out]; exact HNew.out.1, HNew.out.2⟩, by simp [intOf]; omega⟩
      · have HON : Hid (on = nm - op) := hon
        have hwx : IntKind.i64.wrap (nm - op) = on := by rw [wrap_id _ (by omega) (by omega)]; exact hon.symm
        obtain ⟨tn, htn⟩ : ∃ x, x = tk + op := ⟨_, rfl⟩
        have hwy : IntKind.i64.wrap (tk + op) = tn := by rw [htn]; exact wrap_id _ (by omega) (by omega)
        rw [← htn] at hL
        have hnn : (on != on) = false := by simp
        have HL6 : Hid (L (k + 1) = ⟨0, kp, tn⟩) := hL
        have HQ6 : Hid (∀ W : World, W = w8.drew → W.cell? ⟨bo, 1, none⟩ = some (.int .i64 on) ∧ W.cell? ⟨ga, k * 3 + 2, none⟩ = some (.int .i64 nm)) := fun W hW => by rw [hW]; exact ⟨f1, n3⟩
        have HOW9 : Hid (w8.drew.ownsRow w7.heap.size 3 1 (.slice ka9 kp.length kc9) kp.length (kp.map (Value.int .i64))) := row_of HOW8.out (fun q hq => rfl)
        have HB9 : Hid (Below w7.heap.size w7 w8.drew) := HB8.out.drew
        clear hon htn hL hr1 hr2 hn1 hn2 hnm1 hnm2 HLe HR HT HA htx
        go_upto_region 32 with fail
        clear f0 f1 n1 n3
        refine wp_region_held_drew (S := fun W => W = w8.drew) (by kernel_rfl) rfl (fun hH => ?_)
        refine wpAnyH_take (i := 0) (v := .pointer (some ⟨bo, 1, none⟩)) rfl (by kernel_rfl) (by kernel_rfl) (by kernel_rfl) (fun _ _ _ h => h) (Or.inl ⟨by rfl, fun w hSw => by clear hSw; go_simp⟩) rfl ?_
        refine wpAnyH_take (i := 1) (v := .int .i64 on) rfl (by kernel_rfl) (by kernel_rfl) (by kernel_rfl) (fun _ _ _ h => h) (Or.inl ⟨by rfl, fun w hSw => by have f0 := (HQ6.out _ hSw).1; clear hSw; go_simp⟩) rfl ?_
        try simp only [Act.put, List.setIfInBounds_toArray, List.set_cons_zero, List.set_cons_succ, List.getElem_toArray, List.getElem_cons_succ, List.getElem_cons_zero]
        refine wpAnyH_take (i := 2) (v := .slice (some ⟨ga, 0, none⟩) acts.length ca) rfl (by kernel_rfl) (by kernel_rfl) (by kernel_rfl) (fun _ _ _ h => h) (Or.inl ⟨by rfl, fun w hSw => by clear hSw; go_simp⟩) rfl ?_
        try simp only [Act.put, List.setIfInBounds_toArray, List.set_cons_zero, List.set_cons_succ, List.getElem_toArray, List.getElem_cons_succ, List.getElem_cons_zero]
        refine wpAnyH_take (i := 3) (v := .int .i64 (k : Int)) rfl (by kernel_rfl) (by kernel_rfl) (by kernel_rfl) (fun _ _ _ h => h) (Or.inl ⟨by rfl, fun w hSw => by clear hSw; go_simp⟩) rfl ?_
        try simp only [Act.put, List.setIfInBounds_toArray, List.set_cons_zero, List.set_cons_succ, List.getElem_toArray, List.getElem_cons_succ, List.getElem_cons_zero]
        refine wpAnyH_take (i := 4) (v := .pointer (some ⟨ga, k * 3, none⟩)) rfl (by kernel_rfl) (by kernel_rfl) (by kernel_rfl) (fun _ _ _ h => h) (Or.inl ⟨by rfl, fun w hSw => by clear hSw; go_simp⟩) rfl ?_
        try simp only [Act.put, List.setIfInBounds_toArray, List.set_cons_zero, List.set_cons_succ, List.getElem_toArray, List.getElem_cons_succ, List.getElem_cons_zero]
        refine wpAnyH_take (i := 5) (v := .pointer (some ⟨ga, k * 3 + 2, none⟩)) rfl (by kernel_rfl) (by kernel_rfl) (by kernel_rfl) (fun _ _ _ h => h) (Or.inl ⟨by rfl, fun w hSw => by clear hSw; go_simp⟩) rfl ?_
        try simp only [Act.put, List.setIfInBounds_toArray, List.set_cons_zero, List.set_cons_succ, List.getElem_toArray, List.getElem_cons_succ, List.getElem_cons_zero]
        refine wpAnyH_take (i := 6) (v := .int .i64 nm) rfl (by kernel_rfl) (by kernel_rfl) (by kernel_rfl) (fun _ _ _ h => h) (Or.inl ⟨by rfl, fun w hSw => by have f0 := (HQ6.out _ hSw).2; clear hSw; go_simp⟩) rfl ?_
        try simp only [Act.put, List.setIfInBounds_toArray, List.set_cons_zero, List.set_cons_succ, List.getElem_toArray, List.getElem_cons_succ, List.getElem_cons_zero]
        refine wpAnyH_take (i := 7) (v := .int .i64 op) rfl (by kernel_rfl) (by kernel_rfl) (by kernel_rfl) (fun _ _ _ h => h) (Or.inl ⟨by rfl, fun w hSw => by clear hSw; go_simp⟩) rfl ?_
        try simp only [Act.put, List.setIfInBounds_toArray, List.set_cons_zero, List.set_cons_succ, List.getElem_toArray, List.getElem_cons_succ, List.getElem_cons_zero]
        refine wpAnyH_take (i := 8) (v := .int .i64 on) rfl (by kernel_rfl) (by kernel_rfl) (by kernel_rfl) (fun _ _ _ h => h) (Or.inl ⟨by rfl, fun w hSw => by clear hSw; go_simp⟩) rfl ?_
        try simp only [Act.put, List.setIfInBounds_toArray, List.set_cons_zero, List.set_cons_succ, List.getElem_toArray, List.getElem_cons_succ, List.getElem_cons_zero]
        refine wpAnyH_take (i := 9) (v := .bool false) rfl (by kernel_rfl) (by kernel_rfl) (by kernel_rfl) (fun _ _ _ h => h) (Or.inl ⟨by rfl, fun w hSw => by clear hSw; go_simp⟩) rfl ?_
        try simp only [Act.put, List.setIfInBounds_toArray, List.set_cons_zero, List.set_cons_succ, List.getElem_toArray, List.getElem_cons_succ, List.getElem_cons_zero]
        refine wpAnyH_done (by kernel_rfl) ?_ _
        go_wp2
        exact ⟨⟨k + 1, kc9, ka9, by omega, by go_num, by rw [HL6.out], by rw [HL6.out], by rw [HL6.out], by rw [HL6.out]; exact HOW9.out, HB9.out⟩, by simp [intOf]; omega⟩
      · rw [HLe.out] at hL
        have e1' : (kd == 1) = false := by rw [beq_eq_false_iff_ne]; exact e1
        have e2' : (kd == 2) = false := by rw [beq_eq_false_iff_ne]; exact e2
        have e4' : (kd == 4) = false := by rw [beq_eq_false_iff_ne]; exact e4
        have e5' : (kd == 5) = false := by rw [beq_eq_false_iff_ne]; exact e5
        have e6' : (kd == 6) = false := by rw [beq_eq_false_iff_ne]; exact e6
        go_wp2
        exact ⟨⟨k + 1, kc9, ka9, by omega, by go_num, by rw [hL], by rw [hL], by rw [hL], by rw [hL]; exact HOW8.out, HB8.out⟩, by simp [intOf]; omega⟩
    · obtain rfl : k = acts.length := by omega
      have hlt' : ¬ (acts.length : Int) < (acts.length : Int) := by omega
      have htk := HR.out.tk
      have hbal := HR.out.bal
      have hcs := HR.out.cs
      have hkk : ((ks.length : Int) == ((L acts.length).kp.length : Int)) = true := by rw [beq_iff_eq, HO7.out.2.2.1, HR.out.kept]
      have hr1 := HR.out.rng acts.length (Nat.le_refl _)
      have hsb := pfS_bound hcs.2 T.cs.length (Nat.le_refl _)
      have hcl := hcs.1
      rw [show pfS T.cs T.cs.length = T.cs.sum by unfold pfS; rw [List.take_length]] at hsb
      have hkl := hr1.2.1
      have HKL : Hid ((ks.length : Int) = ((L acts.length).kp.length : Int)) := by have := HR.out.kept; have := HO7.out.2.2.1; show _ = _; omega
      have ht0 : 0 ≤ (L acts.length).tk ∧ (L acts.length).tk ≤ 1000000000 * (acts.length : Int) := hr1.2.2.2
      clear hr1 HR HT HA HOW
      generalize (L acts.length).tk = tk at *
      generalize (L acts.length).op = op at *
      generalize (L acts.length).kp = kp at *
      generalize T.tk = tt at *
      generalize T.dp = dp at *
      generalize T.cs = cs at *
      subst htk
      have X9 : Hid (wr.drew.heap[bt]? = some (.cells #[.slice la T.ls.length lc, .int .i64 T.sh, .slice ka ks.length kc, .int .i64 T.sl, .int .i64 tt, .int .i64 dp, .slice va cs.length vc] 34 (0, 0))) := (HBr.out.block bt (blkLt X7.out)).trans X7.out
      have HQ9 : Hid (∀ W : World, W = wr.drew → W.cell? ⟨bt, 2, none⟩ = some (.slice ka ks.length kc) ∧ W.cell? ⟨bt, 4, none⟩ = some (.int .i64 tt) ∧ W.cell? ⟨bt, 5, none⟩ = some (.int .i64 dp) ∧ W.cell? ⟨bt, 6, none⟩ = some (.slice va cs.length vc)) := fun W hW => by
        rw [hW]
        exact ⟨blkCell X9.out 2 _ rfl, blkCell X9.out 4 _ rfl, blkCell X9.out 5 _ rfl, blkCell X9.out 6 _ rfl⟩
      have hrow : wr.drew.ownsRow w1.heap.size 3 1 (.slice va cs.length vc) cs.length (cs.map (Value.int .i64)) := row_of HO7.out.2.1 (fun q hq => HBr.out.block q (row_lt HO7.out.2.1 q hq).2)
      have hsum := sumT_any va vc cs (by omega) hcs.2 wr.drew (ints_own hrow)
      have HF : Hid (Below w.heap.size w wr.drew) := (chain (chain HB1.out HB7.out) HBr.out).drew
      have hwa : IntKind.i64.wrap (cs.sum + dp) = tt := by rw [wrap_id _ (by omega) (by omega)]; exact hbal.symm
      have htt : (tt == tt) = true := by simp
      clear hrow X9 X7 HO7 HBr HB7 HB1 hbal hsb hcs hcl ht0 HKL
      generalize cs.sum = sm at *
      generalize hcn : cs.length = cn at *
      clear hcn
      go_upto_region 36 with fail
      refine wp_region_held_drew (S := fun W => W = wr.drew) (by kernel_rfl) rfl (fun hH => ?_)
      refine wpAnyH_take (i := 0) (v := .pointer (some ⟨bt, 4, none⟩)) rfl (by kernel_rfl) (by kernel_rfl) (by kernel_rfl) (fun _ _ _ h => h) (Or.inl ⟨by rfl, fun w hSw => by clear hSw; go_simp⟩) rfl ?_
      refine wpAnyH_take (i := 1) (v := .int .i64 tt) rfl (by kernel_rfl) (by kernel_rfl) (by kernel_rfl) (fun _ _ _ h => h) (Or.inl ⟨by rfl, fun w hSw => by have f0 := (HQ9.out _ hSw).2.1; clear hSw; go_simp⟩) rfl ?_
      try simp only [Act.put, List.setIfInBounds_toArray, List.set_cons_zero, List.set_cons_succ, List.getElem_toArray, List.getElem_cons_succ, List.getElem_cons_zero]
      refine wpAnyH_take (i := 2) (v := .int .i64 tt) rfl (by kernel_rfl) (by kernel_rfl) (by kernel_rfl) (fun _ _ _ h => h) (Or.inl ⟨by rfl, fun w hSw => by clear hSw; go_simp⟩) rfl ?_
      try simp only [Act.put, List.setIfInBounds_toArray, List.set_cons_zero, List.set_cons_succ, List.getElem_toArray, List.getElem_cons_succ, List.getElem_cons_zero]
      refine wpAnyH_take (i := 3) (v := .bool true) rfl (by kernel_rfl) (by kernel_rfl) (by kernel_rfl) (fun _ _ _ h => h) (Or.inl ⟨by rfl, fun w hSw => by clear hSw; go_simp⟩) rfl ?_
      try simp only [Act.put, List.setIfInBounds_toArray, List.set_cons_zero, List.set_cons_succ, List.getElem_toArray, List.getElem_cons_succ, List.getElem_cons_zero]
      refine wpAnyH_take (i := 4) (v := .bool true) rfl (by kernel_rfl) (by kernel_rfl) (by kernel_rfl) (fun _ _ _ h => h) (Or.inl ⟨by rfl, fun w hSw => by clear hSw; go_simp⟩) rfl ?_
      try simp only [Act.put, List.setIfInBounds_toArray, List.set_cons_zero, List.set_cons_succ, List.getElem_toArray, List.getElem_cons_succ, List.getElem_cons_zero]
      refine wpAnyH_take (i := 5) (v := .int .i64 tt) rfl (by kernel_rfl) (by kernel_rfl) (by kernel_rfl) (fun _ _ _ h => h) (Or.inl ⟨by rfl, fun w hSw => by clear hSw; go_simp⟩) rfl ?_
      try simp only [Act.put, List.setIfInBounds_toArray, List.set_cons_zero, List.set_cons_succ, List.getElem_toArray, List.getElem_cons_succ, List.getElem_cons_zero]
      refine wpAnyH_take (i := 6) (v := .pointer (some ⟨bt, 6, none⟩)) rfl (by kernel_rfl) (by kernel_rfl) (by kernel_rfl) (fun _ _ _ h => h) (Or.inl ⟨by rfl, fun w hSw => by clear hSw; go_simp⟩) rfl ?_
      try simp only [Act.put, List.setIfInBounds_toArray, List.set_cons_zero, List.set_cons_succ, List.getElem_toArray, List.getElem_cons_succ, List.getElem_cons_zero]
      refine wpAnyH_take (i := 7) (v := .slice va cn vc) rfl (by kernel_rfl) (by kernel_rfl) (by kernel_rfl) (fun _ _ _ h => h) (Or.inl ⟨by rfl, fun w hSw => by have f0 := (HQ9.out _ hSw).2.2.2; clear hSw; go_simp⟩) rfl ?_
      try simp only [Act.put, List.setIfInBounds_toArray, List.set_cons_zero, List.set_cons_succ, List.getElem_toArray, List.getElem_cons_succ, List.getElem_cons_zero]
      refine wpAnyH_take (i := 9) (v := .pointer (some ⟨bt, 5, none⟩)) rfl (by kernel_rfl) (by kernel_rfl) (by kernel_rfl) (fun _ _ _ h => h) (Or.inl ⟨by rfl, fun w hSw => by clear hSw; go_simp⟩) rfl ?_
      try simp only [Act.put, List.setIfInBounds_toArray, List.set_cons_zero, List.set_cons_succ, List.getElem_toArray, List.getElem_cons_succ, List.getElem_cons_zero]
      refine wpAnyH_take (i := 10) (v := .int .i64 dp) rfl (by kernel_rfl) (by kernel_rfl) (by kernel_rfl) (fun _ _ _ h => h) (Or.inl ⟨by rfl, fun w hSw => by have f0 := (HQ9.out _ hSw).2.2.1; clear hSw; go_simp⟩) rfl ?_
      try simp only [Act.put, List.setIfInBounds_toArray, List.set_cons_zero, List.set_cons_succ, List.getElem_toArray, List.getElem_cons_succ, List.getElem_cons_zero]
      refine wpAnyH_ready (rs := [8]) (by kernel_rfl) (by simp) ?_
      refine AllReadyH.cons rfl (fun K hK => ?_) AllReadyH.nil
      go_simp
      go_at_call 9
      refine hsum.mono ?_
      rintro e wq ⟨rfl, rfl⟩
      refine hK.out _ _ rfl (fun _ => ?_)
      clear hK K
      try simp only [Act.put, List.setIfInBounds_toArray, List.set_cons_zero, List.set_cons_succ, List.getElem_toArray, List.getElem_cons_succ, List.getElem_cons_zero]
      refine wpAnyH_take (i := 11) (v := .int .i64 tt) rfl (by kernel_rfl) (by kernel_rfl) (by kernel_rfl) (fun _ _ _ h => h) (Or.inl ⟨by rfl, fun w hSw => by clear hSw; go_simp⟩) rfl ?_
      try simp only [Act.put, List.setIfInBounds_toArray, List.set_cons_zero, List.set_cons_succ, List.getElem_toArray, List.getElem_cons_succ, List.getElem_cons_zero]
      refine wpAnyH_take (i := 12) (v := .bool true) rfl (by kernel_rfl) (by kernel_rfl) (by kernel_rfl) (fun _ _ _ h => h) (Or.inl ⟨by rfl, fun w hSw => by clear hSw; go_simp⟩) rfl ?_
      try simp only [Act.put, List.setIfInBounds_toArray, List.set_cons_zero, List.set_cons_succ, List.getElem_toArray, List.getElem_cons_succ, List.getElem_cons_zero]
      refine wpAnyH_take (i := 13) (v := .bool true) rfl (by kernel_rfl) (by kernel_rfl) (by kernel_rfl) (fun _ _ _ h => h) (Or.inl ⟨by rfl, fun w hSw => by clear hSw; go_simp⟩) rfl ?_
      try simp only [Act.put, List.setIfInBounds_toArray, List.set_cons_zero, List.set_cons_succ, List.getElem_toArray, List.getElem_cons_succ, List.getElem_cons_zero]
      refine wpAnyH_take (i := 14) (v := .bool true) rfl (by kernel_rfl) (by kernel_rfl) (by kernel_rfl) (fun _ _ _ h => h) (Or.inl ⟨by rfl, fun w hSw => by clear hSw; go_simp⟩) rfl ?_
      try simp only [Act.put, List.setIfInBounds_toArray, List.set_cons_zero, List.set_cons_succ, List.getElem_toArray, List.getElem_cons_succ, List.getElem_cons_zero]
      refine wpAnyH_take (i := 15) (v := .pointer (some ⟨bt, 2, none⟩)) rfl (by kernel_rfl) (by kernel_rfl) (by kernel_rfl) (fun _ _ _ h => h) (Or.inl ⟨by rfl, fun w hSw => by clear hSw; go_simp⟩) rfl ?_
      try simp only [Act.put, List.setIfInBounds_toArray, List.set_cons_zero, List.set_cons_succ, List.getElem_toArray, List.getElem_cons_succ, List.getElem_cons_zero]
      refine wpAnyH_take (i := 16) (v := .slice ka ks.length kc) rfl (by kernel_rfl) (by kernel_rfl) (by kernel_rfl) (fun _ _ _ h => h) (Or.inl ⟨by rfl, fun w hSw => by have f0 := (HQ9.out _ hSw).1; clear hSw; go_simp⟩) rfl ?_
      try simp only [Act.put, List.setIfInBounds_toArray, List.set_cons_zero, List.set_cons_succ, List.getElem_toArray, List.getElem_cons_succ, List.getElem_cons_zero]
      refine wpAnyH_take (i := 17) (v := .int .i64 (ks.length : Int)) rfl (by kernel_rfl) (by kernel_rfl) (by kernel_rfl) (fun _ _ _ h => h) (Or.inl ⟨by rfl, fun w hSw => by clear hSw; go_simp⟩) rfl ?_
      try simp only [Act.put, List.setIfInBounds_toArray, List.set_cons_zero, List.set_cons_succ, List.getElem_toArray, List.getElem_cons_succ, List.getElem_cons_zero]
      refine wpAnyH_take (i := 18) (v := .slice ka9 kp.length kc9) rfl (by kernel_rfl) (by kernel_rfl) (by kernel_rfl) (fun _ _ _ h => h) (Or.inl ⟨by rfl, fun w hSw => by clear hSw; go_simp⟩) rfl ?_
      try simp only [Act.put, List.setIfInBounds_toArray, List.set_cons_zero, List.set_cons_succ, List.getElem_toArray, List.getElem_cons_succ, List.getElem_cons_zero]
      refine wpAnyH_take (i := 19) (v := .int .i64 (kp.length : Int)) rfl (by kernel_rfl) (by kernel_rfl) (by kernel_rfl) (fun _ _ _ h => h) (Or.inl ⟨by rfl, fun w hSw => by clear hSw; go_simp⟩) rfl ?_
      try simp only [Act.put, List.setIfInBounds_toArray, List.set_cons_zero, List.set_cons_succ, List.getElem_toArray, List.getElem_cons_succ, List.getElem_cons_zero]
      refine wpAnyH_take (i := 20) (v := .bool true) rfl (by kernel_rfl) (by kernel_rfl) (by kernel_rfl) (fun _ _ _ h => h) (Or.inl ⟨by rfl, fun w hSw => by clear hSw; go_simp⟩) rfl ?_
      try simp only [Act.put, List.setIfInBounds_toArray, List.set_cons_zero, List.set_cons_succ, List.getElem_toArray, List.getElem_cons_succ, List.getElem_cons_zero]
      refine wpAnyH_take (i := 21) (v := .bool true) rfl (by kernel_rfl) (by kernel_rfl) (by kernel_rfl) (fun _ _ _ h => h) (Or.inl ⟨by rfl, fun w hSw => by clear hSw; go_simp⟩) rfl ?_
      try simp only [Act.put, List.setIfInBounds_toArray, List.set_cons_zero, List.set_cons_succ, List.getElem_toArray, List.getElem_cons_succ, List.getElem_cons_zero]
      refine wpAnyH_take (i := 22) (v := .bool true) rfl (by kernel_rfl) (by kernel_rfl) (by kernel_rfl) (fun _ _ _ h => h) (Or.inl ⟨by rfl, fun w hSw => by clear hSw; go_simp⟩) rfl ?_
      try simp only [Act.put, List.setIfInBounds_toArray, List.set_cons_zero, List.set_cons_succ, List.getElem_toArray, List.getElem_cons_succ, List.getElem_cons_zero]
      refine wpAnyH_done (by kernel_rfl) ?_ _
      go_wp2
      go_ret
      exact ⟨rfl, HF.out⟩
theorem own : ownKnob Tryz.prog.godebug = none := by kernel_rfl
theorem laidOut : laidOutB Tryz.prog = true := by kernel_rfl

set_option maxRecDepth 100000 in
theorem lifted (os : Os) (started : os.Started) (H : Type) (enc : TypeId × Value → H) :
    ReturnsInHanded {} Tryz.checked os 3 .any (Rows.fnTillSpec.pre6 enc Tryz.prog Tryz.f3 Rows.fnTillRow.domain false) (Rows.fnTillSpec.post enc Tryz.prog Tryz.f3 false true false false) := by
  refine returnsInHanded_of_change (C := Tryz.checked) own started (by kernel_rfl) Tryz.func3
    (ChangeSpec.witness6 (enc := enc) (C := Tryz.checked) false ⟨#[], #[.slice none 0 0], []⟩ 8 (by kernel_rfl) (by kernel_rfl) (by kernel_rfl) (by kernel_rfl)) ?_
  intro W base args ds gs before hval0 hW hcnd _
  have hval : ∀ (j : Nat) t v, Tryz.f3.params[j]? = some t → args[j]? = some v → Value.okWide Tryz.prog W .any base t v := hval0
  have hW' := hW
  obtain ⟨p, q, hA0, hV, rfl, hfz, hnd⟩ := hW
  have hA : DataW.TrodAll enc Tryz.prog W 0 (fun _ => true) true Tryz.f3.params.toList args.toList ds p := hA0
  rw [Tryz.params3] at hA hval
  obtain ⟨v0, vs0, d0, ds0, p0, q0, hargs, rfl, rfl, h0, r0⟩ := trodAll_cons hA
  obtain ⟨rfl, rfl, rfl⟩ := trodAll_nil r0
  obtain rfl : args = #[v0] := by cases args; simp_all
  obtain ⟨rfl, rfl⟩ := trodVars_none hV
  have k0 := h0
  have lt0 : ∀ x ∈ p0, x.block < W.heap.size := by obtain ⟨m, hm⟩ := k0; exact DataW.trod_lt m _ _ _ hm
  obtain ⟨a0, len0, cap0, rfl⟩ := okWide_slice Tryz.underlying22 (hval 0 22 v0 rfl rfl)
  obtain ⟨z0, w0⟩ : ∃ zs, IsRow .u8 W a0 len0 cap0 zs := by
    obtain ⟨fuel, hf⟩ := h0
    rcases open_ints Tryz.underlying22 Tryz.underlying5 (by kernel_rfl) hf with ⟨hcs, _⟩ | ⟨x, l, c, zs, hcs, _, hl, hm, hz, _, hcell, hwz⟩
    · simp [Value.cells] at hcs
      obtain ⟨rfl, rfl, rfl⟩ := hcs
      exact ⟨[], .inl ⟨rfl, rfl, rfl, rfl⟩⟩
    · simp [Value.cells] at hcs
      obtain ⟨rfl, rfl, rfl⟩ := hcs
      exact ⟨zs, .inr ⟨_, rfl, hl, hm, by simpa using hz, hcell, hwz⟩⟩
  clear hA0 hval0
  refine (walk a0 len0 cap0 z0 W (rowB_of _ _ _ _ _ w0)).mono fun e W' ⟨he, bel⟩ => ?_
  subst he
  exact ⟨_, rfl, _, _, _, [], _, [], hW', trodAll_mk1 (shut_bool Tryz.underlying4 _), (trodAll_cons_mk (Below.trod laidOut (by kernel_rfl) (of_decide_eq_true (by kernel_rfl)) k0 bel lt0) trodAll_mk0), rfl, bel.frame _, fun h => by cases h⟩

theorem over : Rows.fnTillRow.holds Tryz.pinned (OpenSpec.ofChange Rows.fnTillSpec) :=
  OpenClaim.holds_of_wide 3 Tryz.f3 rfl rfl rfl rfl rfl rfl rfl ⟨rfl, rfl, rfl, rfl, rfl⟩ rfl rfl rfl rfl rfl (by kernel_rfl) Tryz.func3 (by kernel_rfl)
    (of_decide_eq_true (by kernel_rfl)) (by unfold Func.isWrapper; first | (rw [if_pos (by decide +kernel)]; kernel_rfl) | (rw [if_neg (by decide +kernel)]; exact ⟨rfl, rfl⟩))
    (fun os started H enc _ => lifted os started H enc)
end FnTill

theorem fnTill_holds : Rows.FnTillSaid := FnTill.over
end Go.Proofs.YtabpkfhbnendjaaGreat

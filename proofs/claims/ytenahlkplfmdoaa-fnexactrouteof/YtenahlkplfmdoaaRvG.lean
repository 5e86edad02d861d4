/-
  Contract of the specification's RouteOf, for all arguments.
-/
import Derived.Test.YtenahlkplfmdoaaRvF
namespace Go.Proofs.Ytenahlkplfmdoaa
open Go.ChangeShapes Go.WideShapes Go.ChangeAt Go.RowKit Go.Joins Go.Deep
set_option linter.unusedVariables false

set_option maxHeartbeats 8000000 in
theorem specRouteOf_any (ad : Option Addr) (cap : Nat) (rs : List RHp) (b : Int) (ao : Option Addr) (co : Nat) (os : List Int) (hl : rs.length ≤ 100000000) (hl2 : os.length ≤ 100000000) (w : World) (hr : ReadsHp w.heap.size w ad rs) (hro : Reads w.heap.size w ao os) :
    Calls Try.prog 19 #[.slice ad rs.length cap, .int .i64 b, .slice ao os.length co] w (AnsW (roC rs b os) (roL rs b os) (roA rs b os) (roW rs b os) (roE rs b os) w) := by
  rcases ro_ways rs b os with ⟨h1, hc⟩ | ⟨h1, h2, hc⟩ | ⟨h1, h2, h3, hc⟩ | ⟨h1, h2, h3, hc⟩
  · obtain ⟨e1, e2, e3, e4⟩ := ro_no hc (by omega)
    rw [e1, e2, e3, e4, hc]
    have h1' : (4096 : Int) < (os.length : Int) := by omega
    clear e1 e2 e3 e4 hc hr hro h1
    go_enter Try.func19, Try.ntmps19
    go_wp2
    refine bodyPost_ret (v := .tuple #[.agg #[.slice none 0 0, .slice none 0 0, .int .i64 0, .int .i64 0], .int .i64 2]) (by simp [results, Try.results19, go_sem]) rfl ?_
    exact ansW_none (below_alloc _ _)
  · have hneg : ¬ (4096 : Int) < (os.length : Int) := by omega
    have hn0 : ∀ (c : Int) (w' : World), roC rs b os = c → c ≠ 0 → Below w.heap.size w w' → AnsW (roC rs b os) (roL rs b os) (roA rs b os) (roW rs b os) (roE rs b os) w (.returned (.tuple #[.agg #[.slice none 0 0, .slice none 0 0, .int .i64 0, .int .i64 0], .int .i64 c])) w' := fun c w' h1 h2 h3 => by
      obtain ⟨e1, e2, e3, e4⟩ := ro_no h1 h2
      rw [e1, e2, e3, e4, h1]
      exact ansW_none h3
    obtain ⟨R, hR⟩ : ∃ R, R = w.heap.size := ⟨_, rfl⟩
    obtain ⟨W0, hW0⟩ : ∃ W0, W0 = w.alloc (Obj.cells #[.slice none 0 0, .slice none 0 0, .int .i64 0, .int .i64 0] 28) := ⟨_, rfl⟩
    have HW0 : Hid (W0 = w.alloc (Obj.cells #[.slice none 0 0, .slice none 0 0, .int .i64 0, .int .i64 0] 28) ∧ R = w.heap.size) := ⟨hW0, hR⟩
    have HB0 : Hid (Below w.heap.size w W0) := by show Below _ _ _; rw [hW0]; exact below_alloc _ _
    have HRx : Hid (W0.heap[R]? = some (.cells #[.slice none 0 0, .slice none 0 0, .int .i64 0, .int .i64 0] 28 (0, 0))) := by show _ = _; rw [hW0, hR]; exact heapNew _ _
    have hRw : w.heap.size ≤ R := by rw [hR]; exact Nat.le_refl _
    have HF : Hid (∀ W, Below w.heap.size w W → Calls Try.prog 43 #[.slice ad rs.length cap, .int .i64 b] W fun e w' => e = .returned (.int .i64 (rfC rs b)) ∧ Below W.heap.size W w') := fun W hb => specBegin_any ad cap rs b hl W ((hr.below hb).mono hb.size)
    clear hW0 hR
    have hfb : (rfC rs b != 0) = true := by simpa using h2
    have HNo : Hid (∀ w', Below w.heap.size w w' → AnsW (roC rs b os) (roL rs b os) (roA rs b os) (roW rs b os) (roE rs b os) w (.returned (.tuple #[.agg #[.slice none 0 0, .slice none 0 0, .int .i64 0, .int .i64 0], .int .i64 (rfC rs b)])) w') := fun w' hb => hn0 (rfC rs b) w' hc h2 hb
    clear hn0 hc h2 hr hro h1
    generalize rfC rs b = fv at *
    generalize roC rs b os = rc at *
    generalize roL rs b os = rL at *
    generalize roA rs b os = rA at *
    generalize roW rs b os = rW at *
    generalize roE rs b os = rE at *
    go_enter Try.func19, Try.ntmps19
    go_upto_region 3 with fail
    rw [← HW0.out.1, ← HW0.out.2]
    clear HW0
    go_wp2_with fail
    (first | go_at_call 43 | skip)
    refine (HF.out W0 HB0.out).mono ?_
    rintro e w1 ⟨rfl, hb1⟩
    have HB1 : Hid (Below W0.heap.size W0 w1) := hb1
    clear hb1 HF
    have hrx := (HB1.out.block R (blkLt HRx.out)).trans HRx.out
    have z0 := blkCell hrx 0 _ rfl
    have z1 := blkCell hrx 1 _ rfl
    have z2 := blkCell hrx 2 _ rfl
    have z3 := blkCell hrx 3 _ rfl
    have y0 := blkFree hrx 0
    have y1 := blkFree hrx 1
    have y2 := blkFree hrx 2
    have y3 := blkFree hrx 3
    simp only [List.getElem_toArray, List.getElem_cons_zero, List.getElem_cons_succ] at z0 z1 z2 z3
    clear hrx
    go_wp2_with fail
    refine bodyPost_ret (v := .tuple #[.agg #[.slice none 0 0, .slice none 0 0, .int .i64 0, .int .i64 0], .int .i64 fv]) (by simp [results, Try.results19, go_sem, z0, z1, z2, z3]) rfl ?_
    refine HNo.out _ ?_
    repeat refine Below.setCell ?_ (by dsimp only; omega) _
    exact (chain HB0.out HB1.out)
  · have hneg : ¬ (4096 : Int) < (os.length : Int) := by omega
    have hn0 : ∀ (c : Int) (w' : World), roC rs b os = c → c ≠ 0 → Below w.heap.size w w' → AnsW (roC rs b os) (roL rs b os) (roA rs b os) (roW rs b os) (roE rs b os) w (.returned (.tuple #[.agg #[.slice none 0 0, .slice none 0 0, .int .i64 0, .int .i64 0], .int .i64 c])) w' := fun c w' h1 h2 h3 => by
      obtain ⟨e1, e2, e3, e4⟩ := ro_no h1 h2
      rw [e1, e2, e3, e4, h1]
      exact ansW_none h3
    obtain ⟨R, hR⟩ : ∃ R, R = w.heap.size := ⟨_, rfl⟩
    obtain ⟨W0, hW0⟩ : ∃ W0, W0 = w.alloc (Obj.cells #[.slice none 0 0, .slice none 0 0, .int .i64 0, .int .i64 0] 28) := ⟨_, rfl⟩
    have HW0 : Hid (W0 = w.alloc (Obj.cells #[.slice none 0 0, .slice none 0 0, .int .i64 0, .int .i64 0] 28) ∧ R = w.heap.size) := ⟨hW0, hR⟩
    have HB0 : Hid (Below w.heap.size w W0) := by show Below _ _ _; rw [hW0]; exact below_alloc _ _
    have HRx : Hid (W0.heap[R]? = some (.cells #[.slice none 0 0, .slice none 0 0, .int .i64 0, .int .i64 0] 28 (0, 0))) := by show _ = _; rw [hW0, hR]; exact heapNew _ _
    have hRw : w.heap.size ≤ R := by rw [hR]; exact Nat.le_refl _
    have HF : Hid (∀ W, Below w.heap.size w W → Calls Try.prog 43 #[.slice ad rs.length cap, .int .i64 b] W fun e w' => e = .returned (.int .i64 (rfC rs b)) ∧ Below W.heap.size W w') := fun W hb => specBegin_any ad cap rs b hl W ((hr.below hb).mono hb.size)
    clear hW0 hR
    have HNo : Hid (∀ w', Below w.heap.size w w' → AnsW (roC rs b os) (roL rs b os) (roA rs b os) (roW rs b os) (roE rs b os) w (.returned (.tuple #[.agg #[.slice none 0 0, .slice none 0 0, .int .i64 0, .int .i64 0], .int .i64 3])) w') := fun w' hb => hn0 3 w' hc (by omega) hb
    obtain ⟨h7, hs, hb⟩ := rf_zero h2
    have HOn : Hid (∀ W, Below w.heap.size w W → Calls Try.prog 48 #[.slice ao os.length co, .int .i64 (rs.length : Int)] W fun e w' => e = .returned (.bool false) ∧ Below W.heap.size W w') := fun W hb => by
      have := specOrder_any ao co os rs.length (by omega) (by omega) W ((hro.below hb).mono hb.size)
      rwa [h3] at this
    rw [h2] at HF
    clear hn0 hc h2 h3 hr hro h1
    generalize roC rs b os = rc at *
    generalize roL rs b os = rL at *
    generalize roA rs b os = rA at *
    generalize roW rs b os = rW at *
    generalize roE rs b os = rE at *
    go_enter Try.func19, Try.ntmps19
    go_upto_region 3 with fail
    rw [← HW0.out.1, ← HW0.out.2]
    clear HW0
    go_wp2_with fail
    (first | go_at_call 43 | skip)
    refine (HF.out W0 HB0.out).mono ?_
    rintro e w1 ⟨rfl, hb1⟩
    have HB1 : Hid (Below W0.heap.size W0 w1) := hb1
    clear hb1 HF
    go_wp2_with fail
    (first | go_at_call 48 | skip)
    refine (HOn.out w1 (chain HB0.out HB1.out)).mono ?_
    rintro e w2 ⟨rfl, hb2⟩
    have HB2 : Hid (Below W0.heap.size W0 w2) := chain HB1.out hb2
    clear hb2 HB1 HOn
    have hrx := (HB2.out.block R (blkLt HRx.out)).trans HRx.out
    have z0 := blkCell hrx 0 _ rfl
    have z1 := blkCell hrx 1 _ rfl
    have z2 := blkCell hrx 2 _ rfl
    have z3 := blkCell hrx 3 _ rfl
    have y0 := blkFree hrx 0
    have y1 := blkFree hrx 1
    have y2 := blkFree hrx 2
    have y3 := blkFree hrx 3
    simp only [List.getElem_toArray, List.getElem_cons_zero, List.getElem_cons_succ] at z0 z1 z2 z3
    clear hrx
    go_wp2_with fail
    refine bodyPost_ret (v := .tuple #[.agg #[.slice none 0 0, .slice none 0 0, .int .i64 0, .int .i64 0], .int .i64 3]) (by simp [results, Try.results19, go_sem, z0, z1, z2, z3]) rfl ?_
    refine HNo.out _ ?_
    repeat refine Below.setCell ?_ (by dsimp only; omega) _
    exact (chain HB0.out HB2.out)
  · have hneg : ¬ (4096 : Int) < (os.length : Int) := by omega
    have hn0 : ∀ (c : Int) (w' : World), roC rs b os = c → c ≠ 0 → Below w.heap.size w w' → AnsW (roC rs b os) (roL rs b os) (roA rs b os) (roW rs b os) (roE rs b os) w (.returned (.tuple #[.agg #[.slice none 0 0, .slice none 0 0, .int .i64 0, .int .i64 0], .int .i64 c])) w' := fun c w' h1 h2 h3 => by
      obtain ⟨e1, e2, e3, e4⟩ := ro_no h1 h2
      rw [e1, e2, e3, e4, h1]
      exact ansW_none h3
    obtain ⟨R, hR⟩ : ∃ R, R = w.heap.size := ⟨_, rfl⟩
    obtain ⟨W0, hW0⟩ : ∃ W0, W0 = w.alloc (Obj.cells #[.slice none 0 0, .slice none 0 0, .int .i64 0, .int .i64 0] 28) := ⟨_, rfl⟩
    have HW0 : Hid (W0 = w.alloc (Obj.cells #[.slice none 0 0, .slice none 0 0, .int .i64 0, .int .i64 0] 28) ∧ R = w.heap.size) := ⟨hW0, hR⟩
    have HB0 : Hid (Below w.heap.size w W0) := by show Below _ _ _; rw [hW0]; exact below_alloc _ _
    have HRx : Hid (W0.heap[R]? = some (.cells #[.slice none 0 0, .slice none 0 0, .int .i64 0, .int .i64 0] 28 (0, 0))) := by show _ = _; rw [hW0, hR]; exact heapNew _ _
    have hRw : w.heap.size ≤ R := by rw [hR]; exact Nat.le_refl _
    have HF : Hid (∀ W, Below w.heap.size w W → Calls Try.prog 43 #[.slice ad rs.length cap, .int .i64 b] W fun e w' => e = .returned (.int .i64 (rfC rs b)) ∧ Below W.heap.size W w') := fun W hb => specBegin_any ad cap rs b hl W ((hr.below hb).mono hb.size)
    clear hW0 hR
    obtain ⟨h7, hs, hb⟩ := rf_zero h2
    have HOn : Hid (∀ W, Below w.heap.size w W → Calls Try.prog 48 #[.slice ao os.length co, .int .i64 (rs.length : Int)] W fun e w' => e = .returned (.bool true) ∧ Below W.heap.size W w') := fun W hb => by
      have := specOrder_any ao co os rs.length (by omega) (by omega) W ((hro.below hb).mono hb.size)
      rwa [h3] at this
    rw [h2] at HF
    have hOn := (on_iff os rs.length).1 h3
    have HLr : Hid (∀ W, Below w.heap.size w W → Calls Try.prog 49 #[.slice ad rs.length cap, .int .i64 b, .slice ao os.length co] W (LrQ rs b os W)) := fun W hW => specLr_any ad cap rs b ao co os h7 hs hb (by have := hOn.len; omega) (fun k hk => by
      have e : os.getD k 0 = os[k] := by simp [List.getD_eq_getElem?_getD, hk]
      have := hOn.inn _ (List.getElem_mem (h := hk))
      exact ⟨os[k].toNat, by omega, by rw [e]; omega⟩) W ((hr.below hW).mono hW.size) ((hro.below hW).mono hW.size)
    have HNo0 : Hid (∀ (c : Int) (w' : World), roC rs b os = c → c ≠ 0 → Below w.heap.size w w' → AnsW (roC rs b os) (roL rs b os) (roA rs b os) (roW rs b os) (roE rs b os) w (.returned (.tuple #[.agg #[.slice none 0 0, .slice none 0 0, .int .i64 0, .int .i64 0], .int .i64 c])) w') := hn0
    have HLate : Hid ((trp rs b os).ok = false → roC rs b os = 17) := fun h => by rw [hc, h]; rfl
    have HYes : Hid ((trp rs b os).ok = true → roC rs b os = 0 ∧ roL rs b os = os ∧ roA rs b os = (trp rs b os).A ∧ roW rs b os = (trp rs b os).wt ∧ roE rs b os = endT (trp rs b os)) := fun h => by
      have e : roC rs b os = 0 := by rw [hc, h]; rfl
      exact ⟨e, ro_yes e⟩
    clear hn0 hc h2 h3 hr hro h1 hOn hs hb
    generalize roC rs b os = rc at *
    generalize roL rs b os = rL at *
    generalize roA rs b os = rA at *
    generalize roW rs b os = rW at *
    generalize roE rs b os = rE at *
    go_enter Try.func19, Try.ntmps19
    go_upto_region 3 with fail
    rw [← HW0.out.1, ← HW0.out.2]
    clear HW0
    go_wp2_with fail
    (first | go_at_call 43 | skip)
    refine (HF.out W0 HB0.out).mono ?_
    rintro e w1 ⟨rfl, hb1⟩
    have HB1 : Hid (Below W0.heap.size W0 w1) := hb1
    clear hb1 HF
    go_wp2_with fail
    (first | go_at_call 48 | skip)
    refine (HOn.out w1 (chain HB0.out HB1.out)).mono ?_
    rintro e w2 ⟨rfl, hb2⟩
    have HB2 : Hid (Below W0.heap.size W0 w2) := chain HB1.out hb2
    clear hb2 HB1 HOn
    go_wp2_with fail
    (first | go_at_call 49 | skip)
    refine (HLr.out w2 (chain HB0.out HB2.out)).mono ?_
    rintro e w3 ⟨hb3, hq⟩
    have hR3 : (w3.heap[R]? = some (.cells #[.slice none 0 0, .slice none 0 0, .int .i64 0, .int .i64 0] 28 (0, 0))) := (hb3.block R (by have := blkLt HRx.out; have := HB2.out.size; omega)).trans ((HB2.out.block R (blkLt HRx.out)).trans HRx.out)
    have H3 : Hid (Below w.heap.size w w3 ∧ w3.heap[R]? = some (.cells #[.slice none 0 0, .slice none 0 0, .int .i64 0, .int .i64 0] 28 (0, 0)) ∧ R < w2.heap.size ∧ w2.heap.size ≤ w3.heap.size ∧ w.heap.size ≤ w2.heap.size) := ⟨chain (chain HB0.out HB2.out) hb3, hR3, by have := blkLt HRx.out; have := HB2.out.size; omega, hb3.size, (chain HB0.out HB2.out).size⟩
    clear hb3 hR3 HB0 HB2 HRx HLr
    rcases hq with ⟨hok, q, cq, s, cs, rfl, r1, r2⟩ | ⟨hok, rfl⟩
    · have hyes := HYes.out hok
      clear hok HLate HYes HNo0
      generalize (trp rs b os).A = M at *
      generalize (trp rs b os).wt = wt at *
      generalize endT (trp rs b os) = en at *
      obtain ⟨y1, y2, y3, y4, y5⟩ := hyes
      have HYs : Hid ((rc = 0 ∧ rL = os ∧ rA = M) ∧ rW = wt ∧ rE = en) := ⟨⟨y1, y2, y3⟩, y4, y5⟩
      have HRr : Hid (RowI w2.heap.size w3.heap.size w3 q os ∧ RowI w2.heap.size w3.heap.size w3 s M) := ⟨r1, r2⟩
      clear y1 y2 y3 y4 y5 r1 r2
      obtain ⟨W4, hW4⟩ : ∃ W4, W4 = w3.alloc (Obj.cells #[.slice q os.length cq, .slice s M.length cs, .int .i64 wt, .int .i64 en] 28) := ⟨_, rfl⟩
      obtain ⟨tb, htb⟩ : ∃ tb, tb = w3.heap.size := ⟨_, rfl⟩
      have hbw : Below w3.heap.size w3 W4 := by rw [hW4]; exact below_alloc _ _
      have htx : W4.heap[tb]? = some (.cells #[.slice q os.length cq, .slice s M.length cs, .int .i64 wt, .int .i64 en] 28 (0, 0)) := by rw [hW4, htb]; exact heapNew _ _
      have HW4 : Hid (W4 = w3.alloc (Obj.cells #[.slice q os.length cq, .slice s M.length cs, .int .i64 wt, .int .i64 en] 28) ∧ tb = w3.heap.size) := ⟨hW4, htb⟩
      have H4 : Hid ((Below w.heap.size w W4 ∧ W4.heap[R]? = some (.cells #[.slice none 0 0, .slice none 0 0, .int .i64 0, .int .i64 0] 28 (0, 0)) ∧ R < w2.heap.size ∧ w2.heap.size ≤ W4.heap.size ∧ w.heap.size ≤ w2.heap.size) ∧ RowI w2.heap.size W4.heap.size W4 q os ∧ RowI w2.heap.size W4.heap.size W4 s M) := ⟨⟨chain H3.out.1 hbw, (hbw.block R (blkLt H3.out.2.1)).trans H3.out.2.1, H3.out.2.2.1, Nat.le_trans H3.out.2.2.2.1 hbw.size, H3.out.2.2.2.2⟩, (HRr.out.1.later hbw).wide (Nat.le_refl _) hbw.size (Nat.le_refl _), (HRr.out.2.later hbw).wide (Nat.le_refl _) hbw.size (Nat.le_refl _)⟩
      have t0 := blkCell htx 0 _ rfl
      have t1 := blkCell htx 1 _ rfl
      have t2 := blkCell htx 2 _ rfl
      have t3 := blkCell htx 3 _ rfl
      simp only [List.getElem_toArray, List.getElem_cons_zero, List.getElem_cons_succ] at t0 t1 t2 t3
      clear hW4 htb hbw htx H3 HRr
      go_upto_region 9 with fail
      rw [← HW4.out.1, ← HW4.out.2]
      clear HW4
      have hrx := H4.out.1.2.1
      have z0 := blkCell hrx 0 _ rfl
      have z1 := blkCell hrx 1 _ rfl
      have z2 := blkCell hrx 2 _ rfl
      have z3 := blkCell hrx 3 _ rfl
      have y0 := blkFree hrx 0
      have y1 := blkFree hrx 1
      have y2 := blkFree hrx 2
      have y3 := blkFree hrx 3
      simp only [List.getElem_toArray, List.getElem_cons_zero, List.getElem_cons_succ] at z0 z1 z2 z3
      clear hrx
      go_wp2_with fail
      refine bodyPost_ret (v := .tuple #[.agg #[.slice q os.length cq, .slice s M.length cs, .int .i64 wt, .int .i64 en], .int .i64 0]) (by simp [results, Try.results19, go_sem, z0, z1, z2, z3]) rfl ?_
      obtain ⟨⟨e1, e2, e3⟩, e4, e5⟩ := HYs.out
      obtain ⟨⟨k1, k2, k3, k4, k5⟩, r1, r2⟩ := H4.out
      rw [e1, e2, e3, e4, e5]
      refine ⟨q, cq, s, cs, rfl, ?_, ?_, ?_⟩
      · simp only [World.size_setCell]
        refine RowI.wide (lo := w2.heap.size) (hi := W4.heap.size) ?_ k5 (Nat.le_refl _) (by simp only [World.size_setCell]; exact Nat.le_refl _)
        exact (((r1.set k3 _ _).set k3 _ _).set k3 _ _).set k3 _ _
      · simp only [World.size_setCell]
        refine RowI.wide (lo := w2.heap.size) (hi := W4.heap.size) ?_ k5 (Nat.le_refl _) (by simp only [World.size_setCell]; exact Nat.le_refl _)
        exact (((r2.set k3 _ _).set k3 _ _).set k3 _ _).set k3 _ _
      · repeat refine Below.setCell ?_ (by dsimp only; omega) _
        exact k1
    · have hc17 := HLate.out hok
      have HNo : Hid (∀ w', Below w.heap.size w w' → AnsW rc rL rA rW rE w (.returned (.tuple #[.agg #[.slice none 0 0, .slice none 0 0, .int .i64 0, .int .i64 0], .int .i64 17])) w') := fun w' hb => HNo0.out 17 w' hc17 (by omega) hb
      clear hok HLate HYes HNo0 hc17
      obtain ⟨W4, hW4⟩ : ∃ W4, W4 = w3.alloc (Obj.cells #[.slice none 0 0, .slice none 0 0, .int .i64 0, .int .i64 0] 28) := ⟨_, rfl⟩
      have HW4 : Hid (W4 = w3.alloc (Obj.cells #[.slice none 0 0, .slice none 0 0, .int .i64 0, .int .i64 0] 28)) := hW4
      have hbw : Below w3.heap.size w3 W4 := by rw [hW4]; exact below_alloc _ _
      have H4 : Hid (Below w.heap.size w W4 ∧ W4.heap[R]? = some (.cells #[.slice none 0 0, .slice none 0 0, .int .i64 0, .int .i64 0] 28 (0, 0))) := ⟨chain H3.out.1 hbw, (hbw.block R (blkLt H3.out.2.1)).trans H3.out.2.1⟩
      clear hW4 hbw H3
      go_upto_region 9 with fail
      rw [← HW4.out]
      clear HW4
      have hrx := H4.out.2
      have z0 := blkCell hrx 0 _ rfl
      have z1 := blkCell hrx 1 _ rfl
      have z2 := blkCell hrx 2 _ rfl
      have z3 := blkCell hrx 3 _ rfl
      have y0 := blkFree hrx 0
      have y1 := blkFree hrx 1
      have y2 := blkFree hrx 2
      have y3 := blkFree hrx 3
      simp only [List.getElem_toArray, List.getElem_cons_zero, List.getElem_cons_succ] at z0 z1 z2 z3
      clear hrx
      go_wp2_with fail
      refine bodyPost_ret (v := .tuple #[.agg #[.slice none 0 0, .slice none 0 0, .int .i64 0, .int .i64 0], .int .i64 17]) (by simp [results, Try.results19, go_sem, z0, z1, z2, z3]) rfl ?_
      refine HNo.out _ ?_
      repeat refine Below.setCell ?_ (by dsimp only; omega) _
      exact H4.out.1
end Go.Proofs.Ytenahlkplfmdoaa

/-
  For every two lists of bytes the law FnWitness answers true; with no condition.
-/
import Derived.Test.YtfofdeenpcbglaaWnA
namespace Go.Proofs.Ytfofdeenpcbglaa
open Go.ChangeShapes Go.WideShapes Go.ChangeAt Go.RowKit Go.Joins Go.Deep
set_option linter.unusedVariables false

namespace FnWitness
theorem ok_of {c : CCl} (h : clOne c = true) : ClOK c := by
  unfold clOne nameB at h
  simp only [Bool.and_eq_true, decide_eq_true_eq] at h
  obtain ⟨⟨q1, ⟨q2, _⟩⟩, _⟩ := h
  exact ⟨by omega, by omega⟩
def K4 (w : World) (b : Nat) (nm : ByteArray) (n : Nat) (ac nu : Int) (h : Option Addr) (cp : Nat) : Prop := w.cell? ⟨b, 0, none⟩ = some (.string nm) ∧ w.cell? ⟨b, 1, none⟩ = some (.slice h n cp) ∧ w.cell? ⟨b, 2, none⟩ = some (.int .i64 ac) ∧ w.cell? ⟨b, 3, none⟩ = some (.int .i64 nu)
theorem K4.lt {w : World} {b n : Nat} {nm : ByteArray} {ac nu : Int} {h : Option Addr} {cp : Nat} (k : K4 w b nm n ac nu h cp) : b < w.heap.size := World.block_lt_of_cell? _ _ k.1
theorem K4.below {B : Nat} {w w' : World} {b n : Nat} {nm : ByteArray} {ac nu : Int} {h : Option Addr} {cp : Nat} (k : K4 w b nm n ac nu h cp) (hb : Below B w w') (hB : b < B) : K4 w' b nm n ac nu h cp := by
  have e := hb.block b hB
  exact ⟨(World.cell?_of_block (a := ⟨b, 0, none⟩) e).trans k.1, (World.cell?_of_block (a := ⟨b, 1, none⟩) e).trans k.2.1, (World.cell?_of_block (a := ⟨b, 2, none⟩) e).trans k.2.2.1, (World.cell?_of_block (a := ⟨b, 3, none⟩) e).trans k.2.2.2⟩
theorem K4.later {w w' : World} {b n : Nat} {nm : ByteArray} {ac nu : Int} {h : Option Addr} {cp : Nat} (k : K4 w b nm n ac nu h cp) (hb : Below w.heap.size w w') : K4 w' b nm n ac nu h cp := k.below hb k.lt
theorem K4.new (w : World) (nm : ByteArray) (n : Nat) (ac nu : Int) (h : Option Addr) (cp : Nat) (t : TypeId) : K4 (w.alloc (Obj.cells #[.string nm, .slice h n cp, .int .i64 ac, .int .i64 nu] t)) w.heap.size nm n ac nu h cp := ⟨cellNew _ _ _ _ rfl rfl, cellNew _ _ _ _ rfl rfl, cellNew _ _ _ _ rfl rfl, cellNew _ _ _ _ rfl rfl⟩
theorem reads_one (w : World) (nm : ByteArray) (ts : List RTm) (ac nu : Int) (h : Option Addr) (cp : Nat) (t : TypeId) (hc : ts.length ≤ cp) (hr : ReadsTm w.heap.size w h ts) :
    ReadsCl (w.alloc (Obj.cells #[.string nm, .slice h ts.length cp, .int .i64 ac, .int .i64 nu] t)).heap.size (w.alloc (Obj.cells #[.string nm, .slice h ts.length cp, .int .i64 ac, .int .i64 nu] t)) (some ⟨w.heap.size, 0, none⟩) [⟨nm, ts, ac, nu⟩] := by
  refine .inr ⟨w.heap.size, 0, rfl, by simp, fun i hi => ?_⟩
  obtain rfl : i = 0 := by simpa using hi
  obtain ⟨k0, k1, k2, k3⟩ := K4.new w nm ts.length ac nu h cp t
  exact ⟨h, cp, ⟨k0, k1, k2, k3⟩, hc, hr.later (below_alloc _ _)⟩
theorem dec_one {c : CCl} {F : List Int} (h : clOne c = true) (hF : hasL (rm []) F = true) (hf : fireB F c.ts = true) : decN [c] F = 0 ∧ decC [c] F = 0 := by
  have hfi : fidx (fun c => fireB F c.ts) [c] = 0 := by unfold fidx; rw [if_pos hf]
  have hn : nameB c.nm = true := by
    unfold clOne at h
    simp only [Bool.and_eq_true] at h
    exact h.1.2
  have hd : diffB [c.nm] = true := by unfold diffB; simp [diffN, hasB, hn]
  have hfl : fltC [c] = 0 := by
    unfold fltC
    rw [if_neg (by simp), if_pos]
    unfold clAll
    rw [if_neg (by simp), List.map_cons, List.map_nil, hd]
    simpa using h
  unfold decN decC
  rw [hfl, hF, hfi]
  simp
theorem reads_later {w w' : World} {a : Option Addr} {L : List Int} (h : Reads w.heap.size w a L) (hb : Below w.heap.size w w') : Reads w'.heap.size w' a L := by
  rcases h with h | ⟨b, off, ha, hB, hi⟩
  · exact .inl h
  · exact .inr ⟨b, off, ha, Nat.lt_of_lt_of_le hB hb.size, hi.below hb hB⟩
theorem wt_no {c : CCl} (h1 : clOne c = true) (h2 : canT c.ts = false) : wtC c = 8 := by
  rcases wt_ways c with ⟨h, _⟩ | ⟨_, _, _, h, _⟩ | ⟨_, h, _⟩
  · rw [h1] at h; cases h
  · exact h
  · rw [h2] at h; cases h
theorem wt_yes {c : CCl} (h1 : clOne c = true) (h2 : canT c.ts = true) : ∃ x1 x2 x3 x4 x5 : Int, wtV c = #[.int .i64 x1, .int .i64 x2, .int .i64 x3, .int .i64 x4, .int .i64 x5] ∧ wtC c = 0 ∧ wtL c = [] ∧ fireB [0, x1, x2, x3, x4, x5] c.ts = true ∧ hasL (rm []) [0, x1, x2, x3, x4, x5] = true := by
  rcases wt_ways c with ⟨h, _⟩ | ⟨_, h, _⟩ | ⟨_, _, h3, h4, h5⟩
  · rw [h1] at h; cases h
  · rw [h2] at h; cases h
  · exact ⟨_, _, _, _, _, h3.trans (leastV_yes h2), h4, h5, lowF_fires (List.all_eq_true.mp (clOne_len h1).2) h2, (lowF_has h2).2⟩
theorem wtV_five (c : CCl) : ∃ x1 x2 x3 x4 x5 : Int, wtV c = #[.int .i64 x1, .int .i64 x2, .int .i64 x3, .int .i64 x4, .int .i64 x5] := by
  rcases wt_ways c with ⟨_, h, _⟩ | ⟨_, _, h, _⟩ | ⟨_, h2, h3, _⟩
  · exact ⟨_, _, _, _, _, h⟩
  · exact ⟨_, _, _, _, _, h⟩
  · exact ⟨_, _, _, _, _, h3.trans (leastV_yes h2)⟩
set_option maxHeartbeats 8000000 in
set_option maxRecDepth 8000 in
theorem walk (a0 : Option Addr) (len0 cap0 : Nat) (z0 : List Int) (a1 : Option Addr) (len1 cap1 : Nat) (z1 : List Int) (w : World) (r0 : RowB w.heap.size w a0 len0 z0) (r1 : RowB w.heap.size w a1 len1 z1) :
    Calls Try.prog 3 #[.slice a0 len0 cap0, .slice a1 len1 cap1] w fun e w' => e = .returned (.bool true) ∧ Below w.heap.size w w' := by
  have hl0 := r0.1
  have hl1 := r1.1
  unfold maxLen at hl0 hl1
  rcases (by omega : (1048576 : Int) < (len0 : Int) ∨ ((len0 : Int) ≤ 1048576 ∧ (1048576 : Int) < (len1 : Int)) ∨ ((len0 : Int) ≤ 1048576 ∧ (len1 : Int) ≤ 1048576)) with h | ⟨h, h'⟩ | ⟨h, h'⟩
  · clear r0 r1
    go_enter Try.func3, Try.ntmps3
    go_wp2
    go_ret
    exact ⟨rfl, Below.refl _ _⟩
  · clear r0 r1
    go_enter Try.func3, Try.ntmps3
    go_wp2
    go_ret
    exact ⟨rfl, Below.refl _ _⟩
  have hco := clauseOf_any a0 len0 cap0 z0 w r0
  have HMo : Hid (∀ W, Below w.heap.size w W → Calls Try.prog 8 #[.slice a1 len1 cap1] W fun e w' => ∃ (g n cp : Nat) (x1 x2 x3 x4 x5 : Int), e = .returned (.tuple #[.slice (some ⟨g, 0, none⟩) n cp, .agg #[.int .i64 x1, .int .i64 x2, .int .i64 x3, .int .i64 x4, .int .i64 x5]]) ∧ hasL (rm []) [0, x1, x2, x3, x4, x5] = true ∧ Below W.heap.size W w') := fun W hB => by
    refine (clausesOf_any a1 len1 cap1 z1 W ((r1.below hB).mono hB.size)).mono ?_
    rintro e w' ⟨E, g, cp, x1, x2, x3, x4, x5, rfl, _, _, _, _, _, hbd, hb⟩
    refine ⟨g, _, cp, x1, x2, x3, x4, x5, rfl, ?_, hb⟩
    refine (hasL_iff [] _ rfl).2 (fun i h1 h2 => ?_)
    rcases (by omega : i = 1 ∨ i = 2 ∨ i = 3 ∨ i = 4 ∨ i = 5) with rfl | rfl | rfl | rfl | rfl
    · exact ⟨by show (1 : Int) ≤ x1; omega, by show x1 ≤ (999 : Int); omega⟩
    · exact ⟨by show (0 : Int) ≤ x2; omega, by show x2 ≤ (1000000 : Int); omega⟩
    · exact ⟨by show (0 : Int) ≤ x3; omega, by show x3 ≤ (23 : Int); omega⟩
    · exact ⟨by show (1 : Int) ≤ x4; omega, by show x4 ≤ (7 : Int); omega⟩
    · exact ⟨by show (0 : Int) ≤ x5; omega, by show x5 ≤ (120 : Int); omega⟩
  clear r0 r1 hl0 hl1
  go_enter Try.func3, Try.ntmps3
  go_wp2_with fail
  (first | go_at_call 4 | skip)
  refine hco.mono ?_
  rintro e w1 ⟨ts, ac, nu, g, cp, rfl, hone, hcp, hR, hb1⟩
  clear hco
  generalize rName 0 = nm at *
  have B1 : Hid (Below w.heap.size w w1) := hb1
  have HR : Hid (ReadsTm w1.heap.size w1 g ts) := hR
  have HO : Hid (clOne ⟨nm, ts, ac, nu⟩ = true) := hone
  have hl8 : ts.length ≤ 8 := (clOne_len hone).1
  have HAll : Hid (∀ t ∈ ts, tmB t = true) := List.all_eq_true.mp (clOne_len hone).2
  have HW : Hid (∀ W (us : List RTm) (h : Option Addr) (c' : Nat), clOne ⟨nm, us, ac, nu⟩ = true → ReadsTm W.heap.size W h us → Calls Try.prog 5 #[.agg #[.string nm, .slice h us.length c', .int .i64 ac, .int .i64 nu]] W fun e w' => ∃ g' cp', e = .returned (.tuple #[.agg (wtV ⟨nm, us, ac, nu⟩), .int .i64 (wtC ⟨nm, us, ac, nu⟩), .slice g' (wtL ⟨nm, us, ac, nu⟩).length cp']) ∧ Own2 W.heap.size w' g' (wtL ⟨nm, us, ac, nu⟩) ∧ Below W.heap.size W w') := fun W us h c' h1 h2 => implWitness_any ⟨nm, us, ac, nu⟩ h c' (ok_of h1) W h2
  have HFr : Hid (∀ W (us : List RTm) (h : Option Addr) (c' : Nat) (x1 x2 x3 x4 x5 : Int), us.length ≤ 8 → (∀ t ∈ us, tmB t = true) → ReadsTm W.heap.size W h us → Calls Try.prog 7 #[.agg #[.string nm, .slice h us.length c', .int .i64 ac, .int .i64 nu], .agg #[.int .i64 x1, .int .i64 x2, .int .i64 x3, .int .i64 x4, .int .i64 x5]] W fun e w' => e = .returned (.bool (fireB [0, x1, x2, x3, x4, x5] us)) ∧ Below W.heap.size W w') := fun W us h c' x1 x2 x3 x4 x5 h1 h2 h3 => lawFires_any nm ac nu h c' us (List.all_eq_true.2 h2) (by omega) x1 x2 x3 x4 x5 W h3
  clear hR hb1 hone
  go_wp2_with fail
  (first | go_at_call 5 | skip)
  refine (HW.out _ ts g cp HO.out (HR.out.later (below_alloc _ _))).mono ?_
  rintro e w2 ⟨g2, cp2, rfl, own2, hb2⟩
  have B2 : Hid (Below w1.heap.size w1 w2) := chain (below_alloc _ _) hb2
  have K2 : Hid (K4 w2 w1.heap.size nm ts.length ac nu g cp) := (K4.new w1 nm ts.length ac nu g cp _).later hb2
  have O2 : Hid (Reads w2.heap.size w2 g2 (wtL ⟨nm, ts, ac, nu⟩)) := own2.reads
  clear hb2 own2
  cases hcan : canT ts with
  | true =>
    obtain ⟨x1, x2, x3, x4, x5, e1, e2, e3, hfire, hin⟩ := wt_yes HO.out hcan
    rw [e1, e2, e3]
    have HFi : Hid (fireB [0, x1, x2, x3, x4, x5] ts = true) := hfire
    have HD : Hid (∀ W, Below w1.heap.size w1 W → ∀ bq t, bq = W.heap.size → Calls Try.prog 6 #[.slice (some ⟨bq, 0, none⟩) 1 1, .agg #[.int .i64 x1, .int .i64 x2, .int .i64 x3, .int .i64 x4, .int .i64 x5]] (W.alloc (Obj.cells #[.string nm, .slice g ts.length cp, .int .i64 ac, .int .i64 nu] t)) fun e w' => e = .returned (.tuple #[.int .i64 0, .int .i64 0]) ∧ Below (W.alloc (Obj.cells #[.string nm, .slice g ts.length cp, .int .i64 ac, .int .i64 nu] t)).heap.size (W.alloc (Obj.cells #[.string nm, .slice g ts.length cp, .int .i64 ac, .int .i64 nu] t)) w') := fun W hW bq t hq => by
      subst hq
      have q := implDecide_any (some ⟨W.heap.size, 0, none⟩) 1 [⟨nm, ts, ac, nu⟩] (by simp) (fun r hr => by rw [List.mem_singleton.1 hr]; exact ok_of HO.out) x1 x2 x3 x4 x5 _ (reads_one W nm ts ac nu g cp t hcp (HR.out.later hW))
      obtain ⟨d1, d2⟩ := dec_one HO.out hin hfire
      rw [d1, d2] at q
      exact q
    clear e1 e2 e3 hfire hin hcan O2
    obtain ⟨W3, hW3⟩ : ∃ W3, W3 = w2.alloc (Obj.cells #[.int .i64 x1, .int .i64 x2, .int .i64 x3, .int .i64 x4, .int .i64 x5] 28) := ⟨_, rfl⟩
    have K3 : K4 W3 w1.heap.size nm ts.length ac nu g cp := by rw [hW3]; exact K2.out.later (below_alloc _ _)
    have F3 : FcAt W3 w2.heap.size x1 x2 x3 x4 x5 := by rw [hW3]; exact FcAt.new w2 x1 x2 x3 x4 x5
    have B3 : Hid (Below w1.heap.size w1 W3) := by rw [hW3]; exact chain B2.out (below_alloc _ _)
    obtain ⟨k0, k1, k2, k3⟩ := K2.out
    have hk2 := K2.out.lt
    go_wp2_with fail
    (first | go_at_call 6 | skip)
    rw [← hW3]
    refine (HD.out W3 B3.out _ _ (by rw [hW3]; simp)).mono ?_
    rintro e w4 ⟨rfl, hb4⟩
    have b34 : Below W3.heap.size W3 w4 := chain (below_alloc _ _) hb4
    have B4 : Hid (Below w1.heap.size w1 w4) := chain B3.out b34
    obtain ⟨m0, m1, m2, m3⟩ := K3.later b34
    obtain ⟨f0, f1, f2, f3, f4⟩ := F3.later b34
    clear k0 k1 k2 k3 hb4 b34 K3 F3 HD hW3 B3 K2 B2
    go_wp2_with fail
    (first | go_at_call 7 | skip)
    refine (HFr.out _ ts g cp x1 x2 x3 x4 x5 hl8 HAll.out (HR.out.later B4.out)).mono ?_
    rw [HFi.out]
    rintro e w5 ⟨rfl, hb5⟩
    go_wp2
    go_ret
    exact ⟨rfl, chain B1.out (chain B4.out hb5)⟩
  | false =>
    obtain ⟨y1, y2, y3, y4, y5, e1⟩ := wtV_five ⟨nm, ts, ac, nu⟩
    have e2 := wt_no HO.out hcan
    have e3 : wtL ⟨nm, ts, ac, nu⟩ = zs (coreR ts ts.length) := by
      rcases wt_ways ⟨nm, ts, ac, nu⟩ with ⟨h, _⟩ | ⟨_, _, _, _, h⟩ | ⟨_, h, _⟩
      · rw [HO.out] at h; cases h
      · exact h
      · rw [show (⟨nm, ts, ac, nu⟩ : CCl).ts = ts from rfl, hcan] at h; cases h
    rw [e1, e2, e3]
    have O2 : Hid (Reads w2.heap.size w2 g2 (zs (coreR ts ts.length))) := by have := O2.out; rwa [e3] at this
    have hC2 := core_two HAll.out hcan
    have HCno : Hid (canT (pickT ts (coreR ts ts.length)) = false) := core_no hcan
    have HCin : Hid (∀ x ∈ coreR ts ts.length, x < ts.length) := fun x hx => (coreR_in ts ts.length (Nat.le_refl _) x hx).2
    have HCcut : Hid (∀ i, i < (coreR ts ts.length).length → canT (pickT ts ((coreR ts ts.length).take i ++ (coreR ts ts.length).drop (i + 1))) = true) := fun i hi => cut_can i hi
    have HCup : Hid (∀ i, i + 1 < (coreR ts ts.length).length → (coreR ts ts.length).getD i 0 < (coreR ts ts.length).getD (i + 1) 0) := fun i hi => core_rise_at i hi
    have hCl : (coreR ts ts.length).length ≤ 8 := Nat.le_trans (coreR_len ts ts.length) hl8
    rw [zs_length]
    have HNo : Hid (canT ts = false) := hcan
    clear e1 e2 e3 hcan
    generalize coreR ts ts.length = C at *
    obtain ⟨Wf, hWf⟩ : ∃ Wf, Wf = w2.alloc (Obj.cells #[.int .i64 y1, .int .i64 y2, .int .i64 y3, .int .i64 y4, .int .i64 y5] 28) := ⟨_, rfl⟩
    have KF : Hid (K4 Wf w1.heap.size nm ts.length ac nu g cp) := by rw [hWf]; exact K2.out.later (below_alloc _ _)
    have BF : Hid (Below w1.heap.size w1 Wf) := by rw [hWf]; exact chain B2.out (below_alloc _ _)
    have OF : Hid (Reads Wf.heap.size Wf g2 (zs C)) := by rw [hWf]; exact reads_later O2.out (below_alloc _ _)
    have RF : Hid (ReadsTm Wf.heap.size Wf g ts) := HR.out.later BF.out
    have KP0 : Hid (Kp Wf Wf.heap.size nm ac nu (.slice none 0 0) [] (Wf.alloc (Obj.cells #[.string nm, .slice none 0 0, .int .i64 ac, .int .i64 nu] 25))) := Kp.start Wf nm ac nu
    have hszf : Wf.heap.size = w2.heap.size + 1 := by rw [hWf]; simp
    obtain ⟨k0, k1, k2, k3⟩ := K2.out
    have hk2 := K2.out.lt
    have hlen : ¬ (C.length : Int) < 2 := by omega
    obtain ⟨j0, hj, hzy⟩ := Option.map_eq_some_iff.1 tmInfoR
    simp only [Prod.mk.injEq] at hzy
    obtain ⟨hj0, hj1, hj2⟩ := hzy
    go_wp2_with fail
    rw [← hWf]
    clear k0 k1 k2 k3 O2 K2 B2 hWf hlen
    rw [hszf] at KP0
    have hb5 : w1.heap.size < w2.heap.size + 1 := by omega
    generalize w2.heap.size + 1 = bk at *
    go_loopw [12] (fun iv wr => ∃ (k : Nat) (v : Value), k ≤ C.length ∧ iv = .int .i64 (k : Int) ∧ Kp Wf bk nm ac nu v (pickT ts (C.take k)) wr) (fun iv _ => C.length - (intOf iv).toNat)
    case atStart => exact ⟨0, _, Nat.zero_le _, rfl, KP0.out⟩
    case round =>
      clear KP0
      obtain ⟨k, v, hk, rfl, hkp⟩ := hrel
      obtain ⟨gv, cv, rfl⟩ := hkp.form
      have HK : Hid (Kp Wf bk nm ac nu (.slice gv (pickT ts (C.take k)).length cv) (pickT ts (C.take k)) wr) := hkp
      clear hkp
      by_cases hlt : k < C.length
      · have hlt' : (k : Int) < (C.length : Int) := by omega
        have hmem : C.getD k 0 ∈ C := by
          rw [show C.getD k 0 = C[k] by simp [List.getD_eq_getElem?_getD, hlt]]; exact List.getElem_mem _
        have hx := HCin.out _ hmem
        have hx1 : ¬ ((C.getD k 0 : Nat) : Int) < 0 := by omega
        have hx2 : ¬ (ts.length : Int) ≤ ((C.getD k 0 : Nat) : Int) := by omega
        have hx3 : ((C.getD k 0 : Nat) : Int) < (ts.length : Int) := by omega
        have HN : Hid (pickT ts (C.take k) ++ [ts.getD (C.getD k 0) zTm] = pickT ts (C.take (k + 1))) := pickT_next ts C k hlt
        have HL : Hid ((pickT ts (C.take k)).length = k) := by show _ = _; rw [pickT_len, List.length_take]; omega
        have HZp : Hid (∀ j, k = j + 1 → C.getD j 0 < C.getD k 0) := fun j hj => by subst hj; exact HCup.out j hlt
        rcases OF.out with h | ⟨b1, o1, ha1, hB1, iz⟩
        · rw [← zs_length, h] at hlt; simp at hlt
        subst ha1
        rcases RF.out with h | ⟨b0, o0, ha, hB0, ia⟩
        · rw [h] at hx; simp at hx
        subst ha
        rw [hszf] at hB1 hB0
        have HQ : Hid (∀ W, Below bk Wf W → W.cell? ⟨b1, o1 + k, none⟩ = some (.int .i64 ((C.getD k 0 : Nat) : Int)) ∧ W.cell? ⟨w1.heap.size, 1, none⟩ = some (.slice (some ⟨b0, o0, none⟩) ts.length cp) ∧ W.cell? ⟨b0, o0 + C.getD k 0 * 3, none⟩ = some (.int .i64 (ts.getD (C.getD k 0) zTm).fd) ∧ W.cell? ⟨b0, o0 + C.getD k 0 * 3 + 1, none⟩ = some (.int .i64 (ts.getD (C.getD k 0) zTm).op) ∧ W.cell? ⟨b0, o0 + C.getD k 0 * 3 + 2, none⟩ = some (.int .i64 (ts.getD (C.getD k 0) zTm).nu)) := fun W hW => by
          have z0 := (iz.below hW hB1) k (by rw [zs_length]; exact hlt)
          rw [zs_at] at z0
          obtain ⟨c0, c1, c2⟩ := (ia.below hW hB0) (C.getD k 0) hx
          exact ⟨z0, (KF.out.below hW hb5).2.1, c0, c1, c2⟩
        have HQp : Hid (∀ W, Below bk Wf W → ∀ j, k = j + 1 → W.cell? ⟨b1, o1 + j, none⟩ = some (.int .i64 ((C.getD j 0 : Nat) : Int))) := fun W hW j hj => by
          have z0 := (iz.below hW hB1) j (by rw [zs_length]; omega)
          rwa [zs_at] at z0
        clear ia iz hmem
        generalize pickT ts (C.take k) = L at *
        generalize ts.getD (C.getD k 0) zTm = r at *
        generalize C.getD k 0 = x at *
        obtain ⟨f, o, n⟩ := r
        dsimp only at HQ
        by_cases hk0 : k = 0
        · have hgt : ¬ (0 : Int) < (k : Int) := by omega
          clear HQp HZp hk0
          go_wp2_with fail
          refine wp_region_held_drew (S := fun W => Below bk Wf W) (by kernel_rfl) (HK.out.bel.trans ((below_drew wr).mono (Nat.le_of_lt (blk_lt HK.out.own)))) (fun hH => ?_)
          refine wpAnyH_take (i := 0) (v := .slice (some ⟨b1, o1, none⟩) C.length cp2) rfl (by kernel_rfl) (by kernel_rfl) (by kernel_rfl) (fun _ _ _ h => h) (Or.inl ⟨by rfl, fun w hSw => by go_simp⟩) hH ?_
          refine wpAnyH_take (i := 1) (v := .int .i64 (k : Int)) rfl (by kernel_rfl) (by kernel_rfl) (by kernel_rfl) (fun _ _ _ h => h) (Or.inl ⟨by rfl, fun w hSw => by go_simp⟩) hH ?_
          try simp only [Act.put, List.setIfInBounds_toArray, List.set_cons_zero, List.set_cons_succ, List.getElem_toArray, List.getElem_cons_succ, List.getElem_cons_zero]
          refine wpAnyH_take (i := 2) (v := .pointer (some ⟨b1, o1 + k, none⟩)) rfl (by kernel_rfl) (by kernel_rfl) (by kernel_rfl) (fun _ _ _ h => h) (Or.inl ⟨by rfl, fun w hSw => by go_simp⟩) hH ?_
          try simp only [Act.put, List.setIfInBounds_toArray, List.set_cons_zero, List.set_cons_succ, List.getElem_toArray, List.getElem_cons_succ, List.getElem_cons_zero]
          refine wpAnyH_take (i := 3) (v := .int .i64 (x : Int)) rfl (by kernel_rfl) (by kernel_rfl) (by kernel_rfl) (fun _ _ _ h => h) (Or.inl ⟨by rfl, fun w hSw => by obtain ⟨q1, _⟩ := HQ.out w hSw; go_simp⟩) hH ?_
          try simp only [Act.put, List.setIfInBounds_toArray, List.set_cons_zero, List.set_cons_succ, List.getElem_toArray, List.getElem_cons_succ, List.getElem_cons_zero]
          refine wpAnyH_take (i := 4) (v := .bool false) rfl (by kernel_rfl) (by kernel_rfl) (by kernel_rfl) (fun _ _ _ h => h) (Or.inl ⟨by rfl, fun w hSw => by go_simp⟩) hH ?_
          try simp only [Act.put, List.setIfInBounds_toArray, List.set_cons_zero, List.set_cons_succ, List.getElem_toArray, List.getElem_cons_succ, List.getElem_cons_zero]
          refine wpAnyH_take (i := 5) (v := .bool false) rfl (by kernel_rfl) (by kernel_rfl) (by kernel_rfl) (fun _ _ _ h => h) (Or.inl ⟨by rfl, fun w hSw => by go_simp⟩) hH ?_
          try simp only [Act.put, List.setIfInBounds_toArray, List.set_cons_zero, List.set_cons_succ, List.getElem_toArray, List.getElem_cons_succ, List.getElem_cons_zero]
          refine wpAnyH_take (i := 6) (v := .slice (some ⟨b1, o1, none⟩) C.length cp2) rfl (by kernel_rfl) (by kernel_rfl) (by kernel_rfl) (fun _ _ _ h => h) (Or.inl ⟨by rfl, fun w hSw => by go_simp⟩) hH ?_
          try simp only [Act.put, List.setIfInBounds_toArray, List.set_cons_zero, List.set_cons_succ, List.getElem_toArray, List.getElem_cons_succ, List.getElem_cons_zero]
          refine wpAnyH_take (i := 7) (v := .int .i64 (k : Int)) rfl (by kernel_rfl) (by kernel_rfl) (by kernel_rfl) (fun _ _ _ h => h) (Or.inl ⟨by rfl, fun w hSw => by go_simp⟩) hH ?_
          try simp only [Act.put, List.setIfInBounds_toArray, List.set_cons_zero, List.set_cons_succ, List.getElem_toArray, List.getElem_cons_succ, List.getElem_cons_zero]
          refine wpAnyH_take (i := 8) (v := .pointer (some ⟨b1, o1 + k, none⟩)) rfl (by kernel_rfl) (by kernel_rfl) (by kernel_rfl) (fun _ _ _ h => h) (Or.inl ⟨by rfl, fun w hSw => by go_simp⟩) hH ?_
          try simp only [Act.put, List.setIfInBounds_toArray, List.set_cons_zero, List.set_cons_succ, List.getElem_toArray, List.getElem_cons_succ, List.getElem_cons_zero]
          refine wpAnyH_take (i := 9) (v := .int .i64 (x : Int)) rfl (by kernel_rfl) (by kernel_rfl) (by kernel_rfl) (fun _ _ _ h => h) (Or.inl ⟨by rfl, fun w hSw => by obtain ⟨q1, _⟩ := HQ.out w hSw; go_simp⟩) hH ?_
          try simp only [Act.put, List.setIfInBounds_toArray, List.set_cons_zero, List.set_cons_succ, List.getElem_toArray, List.getElem_cons_succ, List.getElem_cons_zero]
          refine wpAnyH_take (i := 10) (v := .pointer (some ⟨w1.heap.size, 1, none⟩)) rfl (by kernel_rfl) (by kernel_rfl) (by kernel_rfl) (fun _ _ _ h => h) (Or.inl ⟨by rfl, fun w hSw => by go_simp⟩) hH ?_
          try simp only [Act.put, List.setIfInBounds_toArray, List.set_cons_zero, List.set_cons_succ, List.getElem_toArray, List.getElem_cons_succ, List.getElem_cons_zero]
          refine wpAnyH_take (i := 11) (v := .slice (some ⟨b0, o0, none⟩) ts.length cp) rfl (by kernel_rfl) (by kernel_rfl) (by kernel_rfl) (fun _ _ _ h => h) (Or.inl ⟨by rfl, fun w hSw => by obtain ⟨_, q1, _⟩ := HQ.out w hSw; go_simp⟩) hH ?_
          try simp only [Act.put, List.setIfInBounds_toArray, List.set_cons_zero, List.set_cons_succ, List.getElem_toArray, List.getElem_cons_succ, List.getElem_cons_zero]
          refine wpAnyH_take (i := 12) (v := .int .i64 (ts.length : Int)) rfl (by kernel_rfl) (by kernel_rfl) (by kernel_rfl) (fun _ _ _ h => h) (Or.inl ⟨by rfl, fun w hSw => by go_simp⟩) hH ?_
          try simp only [Act.put, List.setIfInBounds_toArray, List.set_cons_zero, List.set_cons_succ, List.getElem_toArray, List.getElem_cons_succ, List.getElem_cons_zero]
          refine wpAnyH_take (i := 13) (v := .bool false) rfl (by kernel_rfl) (by kernel_rfl) (by kernel_rfl) (fun _ _ _ h => h) (Or.inl ⟨by rfl, fun w hSw => by go_simp⟩) hH ?_
          try simp only [Act.put, List.setIfInBounds_toArray, List.set_cons_zero, List.set_cons_succ, List.getElem_toArray, List.getElem_cons_succ, List.getElem_cons_zero]
          refine wpAnyH_take (i := 14) (v := .bool false) rfl (by kernel_rfl) (by kernel_rfl) (by kernel_rfl) (fun _ _ _ h => h) (Or.inl ⟨by rfl, fun w hSw => by go_simp⟩) hH ?_
          try simp only [Act.put, List.setIfInBounds_toArray, List.set_cons_zero, List.set_cons_succ, List.getElem_toArray, List.getElem_cons_succ, List.getElem_cons_zero]
          refine wpAnyH_take (i := 15) (v := .bool false) rfl (by kernel_rfl) (by kernel_rfl) (by kernel_rfl) (fun _ _ _ h => h) (Or.inl ⟨by rfl, fun w hSw => by go_simp⟩) hH ?_
          try simp only [Act.put, List.setIfInBounds_toArray, List.set_cons_zero, List.set_cons_succ, List.getElem_toArray, List.getElem_cons_succ, List.getElem_cons_zero]
          refine wpAnyH_take (i := 16) (v := .int .i64 (k : Int)) rfl (by kernel_rfl) (by kernel_rfl) (by kernel_rfl) (fun _ _ _ h => h) (Or.inl ⟨by rfl, fun w hSw => by go_simp⟩) hH ?_
          try simp only [Act.put, List.setIfInBounds_toArray, List.set_cons_zero, List.set_cons_succ, List.getElem_toArray, List.getElem_cons_succ, List.getElem_cons_zero]
          refine wpAnyH_take (i := 17) (v := .bool false) rfl (by kernel_rfl) (by kernel_rfl) (by kernel_rfl) (fun _ _ _ h => h) (Or.inl ⟨by rfl, fun w hSw => by have q : k = 0 := (by omega); go_simp⟩) hH ?_
          try simp only [Act.put, List.setIfInBounds_toArray, List.set_cons_zero, List.set_cons_succ, List.getElem_toArray, List.getElem_cons_succ, List.getElem_cons_zero]
          refine wpAnyH_take (i := 18) (v := .bool false) rfl (by kernel_rfl) (by kernel_rfl) (by kernel_rfl) (fun _ _ _ h => h) (Or.inl ⟨by rfl, fun w hSw => by go_simp⟩) hH ?_
          try simp only [Act.put, List.setIfInBounds_toArray, List.set_cons_zero, List.set_cons_succ, List.getElem_toArray, List.getElem_cons_succ, List.getElem_cons_zero]
          refine wpAnyH_take (i := 19) (v := undef) rfl (by kernel_rfl) (by kernel_rfl) (by kernel_rfl) (fun _ _ _ h => h) (Or.inr ⟨by rfl, rfl⟩) hH ?_
          try simp only [Act.put, List.setIfInBounds_toArray, List.set_cons_zero, List.set_cons_succ, List.getElem_toArray, List.getElem_cons_succ, List.getElem_cons_zero]
          refine wpAnyH_take (i := 20) (v := undef) rfl (by kernel_rfl) (by kernel_rfl) (by kernel_rfl) (fun _ _ _ h => h) (Or.inr ⟨by rfl, rfl⟩) hH ?_
          try simp only [Act.put, List.setIfInBounds_toArray, List.set_cons_zero, List.set_cons_succ, List.getElem_toArray, List.getElem_cons_succ, List.getElem_cons_zero]
          refine wpAnyH_take (i := 21) (v := undef) rfl (by kernel_rfl) (by kernel_rfl) (by kernel_rfl) (fun _ _ _ h => h) (Or.inr ⟨by rfl, rfl⟩) hH ?_
          try simp only [Act.put, List.setIfInBounds_toArray, List.set_cons_zero, List.set_cons_succ, List.getElem_toArray, List.getElem_cons_succ, List.getElem_cons_zero]
          refine wpAnyH_take (i := 22) (v := undef) rfl (by kernel_rfl) (by kernel_rfl) (by kernel_rfl) (fun _ _ _ h => h) (Or.inr ⟨by rfl, rfl⟩) hH ?_
          try simp only [Act.put, List.setIfInBounds_toArray, List.set_cons_zero, List.set_cons_succ, List.getElem_toArray, List.getElem_cons_succ, List.getElem_cons_zero]
          refine wpAnyH_take (i := 23) (v := undef) rfl (by kernel_rfl) (by kernel_rfl) (by kernel_rfl) (fun _ _ _ h => h) (Or.inr ⟨by rfl, rfl⟩) hH ?_
          try simp only [Act.put, List.setIfInBounds_toArray, List.set_cons_zero, List.set_cons_succ, List.getElem_toArray, List.getElem_cons_succ, List.getElem_cons_zero]
          refine wpAnyH_take (i := 24) (v := undef) rfl (by kernel_rfl) (by kernel_rfl) (by kernel_rfl) (fun _ _ _ h => h) (Or.inr ⟨by rfl, rfl⟩) hH ?_
          try simp only [Act.put, List.setIfInBounds_toArray, List.set_cons_zero, List.set_cons_succ, List.getElem_toArray, List.getElem_cons_succ, List.getElem_cons_zero]
          refine wpAnyH_take (i := 25) (v := undef) rfl (by kernel_rfl) (by kernel_rfl) (by kernel_rfl) (fun _ _ _ h => h) (Or.inr ⟨by rfl, rfl⟩) hH ?_
          try simp only [Act.put, List.setIfInBounds_toArray, List.set_cons_zero, List.set_cons_succ, List.getElem_toArray, List.getElem_cons_succ, List.getElem_cons_zero]
          refine wpAnyH_take (i := 26) (v := undef) rfl (by kernel_rfl) (by kernel_rfl) (by kernel_rfl) (fun _ _ _ h => h) (Or.inr ⟨by rfl, rfl⟩) hH ?_
          try simp only [Act.put, List.setIfInBounds_toArray, List.set_cons_zero, List.set_cons_succ, List.getElem_toArray, List.getElem_cons_succ, List.getElem_cons_zero]
          refine wpAnyH_take (i := 27) (v := undef) rfl (by kernel_rfl) (by kernel_rfl) (by kernel_rfl) (fun _ _ _ h => h) (Or.inr ⟨by rfl, rfl⟩) hH ?_
          try simp only [Act.put, List.setIfInBounds_toArray, List.set_cons_zero, List.set_cons_succ, List.getElem_toArray, List.getElem_cons_succ, List.getElem_cons_zero]
          refine wpAnyH_take (i := 28) (v := undef) rfl (by kernel_rfl) (by kernel_rfl) (by kernel_rfl) (fun _ _ _ h => h) (Or.inr ⟨by rfl, rfl⟩) hH ?_
          try simp only [Act.put, List.setIfInBounds_toArray, List.set_cons_zero, List.set_cons_succ, List.getElem_toArray, List.getElem_cons_succ, List.getElem_cons_zero]
          refine wpAnyH_take (i := 29) (v := .bool false) rfl (by kernel_rfl) (by kernel_rfl) (by kernel_rfl) (fun _ _ _ h => h) (Or.inl ⟨by rfl, fun w hSw => by go_simp⟩) hH ?_
          try simp only [Act.put, List.setIfInBounds_toArray, List.set_cons_zero, List.set_cons_succ, List.getElem_toArray, List.getElem_cons_succ, List.getElem_cons_zero]
          refine wpAnyH_take (i := 30) (v := .bool false) rfl (by kernel_rfl) (by kernel_rfl) (by kernel_rfl) (fun _ _ _ h => h) (Or.inl ⟨by rfl, fun w hSw => by go_simp⟩) hH ?_
          try simp only [Act.put, List.setIfInBounds_toArray, List.set_cons_zero, List.set_cons_succ, List.getElem_toArray, List.getElem_cons_succ, List.getElem_cons_zero]
          refine wpAnyH_done (by kernel_rfl) ?_ _
          try simp
          have HKd : Hid (Kp Wf bk nm ac nu (.slice gv L.length cv) L wr.drew.drew) := HK.out.later (chain (below_drew _) (below_drew _))
          go_wp2_with fail
          refine wp_region_held_drew (S := fun W => Below bk Wf W) (by kernel_rfl) HKd.out.bel (fun hH => ?_)
          generalize wr.drew.drew = Wd at *
          refine wpAnyH_take (i := 0) (v := .pointer (some ⟨bk, 1, none⟩)) rfl (by kernel_rfl) (by kernel_rfl) (by kernel_rfl) (fun _ _ _ h => h) (Or.inl ⟨by rfl, fun w hSw => by go_simp⟩) hH ?_
          refine wpAnyH_take (i := 2) (v := .pointer (some ⟨w1.heap.size, 1, none⟩)) rfl (by kernel_rfl) (by kernel_rfl) (by kernel_rfl) (fun _ _ _ h => h) (Or.inl ⟨by rfl, fun w hSw => by go_simp⟩) hH ?_
          try simp only [Act.put, List.setIfInBounds_toArray, List.set_cons_zero, List.set_cons_succ, List.getElem_toArray, List.getElem_cons_succ, List.getElem_cons_zero]
          refine wpAnyH_take (i := 3) (v := .slice (some ⟨b0, o0, none⟩) ts.length cp) rfl (by kernel_rfl) (by kernel_rfl) (by kernel_rfl) (fun _ _ _ h => h) (Or.inl ⟨by rfl, fun w hSw => by obtain ⟨_, q1, _⟩ := HQ.out w hSw; go_simp⟩) hH ?_
          try simp only [Act.put, List.setIfInBounds_toArray, List.set_cons_zero, List.set_cons_succ, List.getElem_toArray, List.getElem_cons_succ, List.getElem_cons_zero]
          refine wpAnyH_take (i := 4) (v := .slice (some ⟨b1, o1, none⟩) C.length cp2) rfl (by kernel_rfl) (by kernel_rfl) (by kernel_rfl) (fun _ _ _ h => h) (Or.inl ⟨by rfl, fun w hSw => by go_simp⟩) hH ?_
          try simp only [Act.put, List.setIfInBounds_toArray, List.set_cons_zero, List.set_cons_succ, List.getElem_toArray, List.getElem_cons_succ, List.getElem_cons_zero]
          refine wpAnyH_take (i := 5) (v := .int .i64 (k : Int)) rfl (by kernel_rfl) (by kernel_rfl) (by kernel_rfl) (fun _ _ _ h => h) (Or.inl ⟨by rfl, fun w hSw => by go_simp⟩) hH ?_
          try simp only [Act.put, List.setIfInBounds_toArray, List.set_cons_zero, List.set_cons_succ, List.getElem_toArray, List.getElem_cons_succ, List.getElem_cons_zero]
          refine wpAnyH_take (i := 6) (v := .pointer (some ⟨b1, o1 + k, none⟩)) rfl (by kernel_rfl) (by kernel_rfl) (by kernel_rfl) (fun _ _ _ h => h) (Or.inl ⟨by rfl, fun w hSw => by go_simp⟩) hH ?_
          try simp only [Act.put, List.setIfInBounds_toArray, List.set_cons_zero, List.set_cons_succ, List.getElem_toArray, List.getElem_cons_succ, List.getElem_cons_zero]
          refine wpAnyH_take (i := 7) (v := .int .i64 (x : Int)) rfl (by kernel_rfl) (by kernel_rfl) (by kernel_rfl) (fun _ _ _ h => h) (Or.inl ⟨by rfl, fun w hSw => by obtain ⟨q1, _⟩ := HQ.out w hSw; go_simp⟩) hH ?_
          try simp only [Act.put, List.setIfInBounds_toArray, List.set_cons_zero, List.set_cons_succ, List.getElem_toArray, List.getElem_cons_succ, List.getElem_cons_zero]
          refine wpAnyH_take (i := 8) (v := .pointer (some ⟨b0, o0 + x * 3, none⟩)) rfl (by kernel_rfl) (by kernel_rfl) (by kernel_rfl) (fun _ _ _ h => h) (Or.inl ⟨by rfl, fun w hSw => by go_simp⟩) hH ?_
          try simp only [Act.put, List.setIfInBounds_toArray, List.set_cons_zero, List.set_cons_succ, List.getElem_toArray, List.getElem_cons_succ, List.getElem_cons_zero]
          refine wpAnyH_take (i := 9) (v := .agg #[.int .i64 f, .int .i64 o, .int .i64 n]) rfl (by kernel_rfl) (by kernel_rfl) (by kernel_rfl) (fun _ _ _ h => h) (Or.inl ⟨by rfl, fun w hSw => by obtain ⟨_, _, q1, q2, q3⟩ := HQ.out w hSw; go_simp⟩) hH ?_
          try simp only [Act.put, List.setIfInBounds_toArray, List.set_cons_zero, List.set_cons_succ, List.getElem_toArray, List.getElem_cons_succ, List.getElem_cons_zero]
          refine wpAnyH_ready (rs := [1, 10]) (by kernel_rfl) (by simp) ?_
          refine AllReadyH.cons rfl (fun K hK => ?_) (AllReadyH.cons rfl (fun K hK => ?_) AllReadyH.nil)
          · skip
            have ST : Hid (Kp Wf bk nm ac nu (.slice gv L.length cv) L Wd) := HKd.out
            have q1 := ST.out.cells.1.2.1
            go_simp
            refine hK.out _ _ hH (fun _ => ?_)
            clear hK K
            try simp only [Act.put, List.setIfInBounds_toArray, List.set_cons_zero, List.set_cons_succ, List.getElem_toArray, List.getElem_cons_succ, List.getElem_cons_zero]
            clear q1
            refine wpAnyH_ready (rs := [10]) (by kernel_rfl) (by simp) ?_
            refine AllReadyH.cons rfl (fun K hK => ?_) AllReadyH.nil
            go_simp
            have ST : Hid (Kp Wf bk nm ac nu (.slice gv L.length cv) L (Wd.alloc (Obj.cells #[.int .i64 f, .int .i64 o, .int .i64 n] 37))) := ST.out.later (below_alloc _ _)
            have hH6 := ST.out.bel
            refine hK.out _ _ hH6 (fun _ => ?_)
            clear hK K
            try simp only [Act.put, List.setIfInBounds_toArray, List.set_cons_zero, List.set_cons_succ, List.getElem_toArray, List.getElem_cons_succ, List.getElem_cons_zero]
            refine wpAnyH_ready (rs := [11]) (by kernel_rfl) (by simp) ?_
            refine AllReadyH.cons rfl (fun K hK => ?_) AllReadyH.nil
            refine step_append_lies _ rfl _ _ 23 rfl (bk + 1) 37 j0 (.agg #[.int .i64 0, .int .i64 0, .int .i64 0]) 3 24 Try.underlying23 hj hj0 hj1 hj2 rfl (by decide) _ _ _ rfl ST.out.row ⟨Wd.heap.size, 0, none⟩ 1 1 [.int .i64 f, .int .i64 o, .int .i64 n] rfl rfl (World.news_of_block (heapNew Wd _)) (by simp [Value.oneCell']) (by omega) (by unfold maxLen; have := HL.out; omega) (by have := HL.out; omega) (by have := blk_lt ST.out.own; omega) _ rfl ?_
            intro g1 cp1 w7 hown1 hgrow1 hat1 hglt1
            have P7 : Hid (Kp Wf bk nm ac nu (.slice (some ⟨g1, 0, none⟩) (L.length + 1) cp1) (L ++ [⟨f, o, n⟩]) (w7.setCell ⟨bk, 1, none⟩ (.slice (some ⟨g1, 0, none⟩) (L.length + 1) cp1))) := ST.out.push (t := ⟨f, o, n⟩) hown1 hgrow1
            have hne : (Value.slice gv L.length cv).ownBlock ≠ some bk := fun e => by have := (ST.out.row.lt bk e).1; omega
            have eB := hgrow1.block bk (blk_lt ST.out.own) (fun e => hne e.symm)
            have z1 : w7.cell? ⟨bk, 1, none⟩ = some (.slice gv L.length cv) := (World.cell?_of_block (a := ⟨bk, 1, none⟩) eB).trans ST.out.cells.1.2.1
            have zf : w7.frozen? ⟨bk, 1, none⟩ = false := (World.frozen?_of_block (a := ⟨bk, 1, none⟩) eB).trans ST.out.cells.2.1
            have hH7 : Below bk Wf w7 := ST.out.bel.grown hgrow1 (Nat.le_of_lt (blk_lt ST.out.own)) (fun q hq => by have := (ST.out.row.lt q hq).1; omega)
            clear hown1 hgrow1 hat1 hglt1 eB
            refine hK.out _ _ hH7 (fun _ => ?_)
            clear hK K
            try simp only [Act.put, List.setIfInBounds_toArray, List.set_cons_zero, List.set_cons_succ, List.getElem_toArray, List.getElem_cons_succ, List.getElem_cons_zero]
            refine wpAnyH_take (i := 12) (v := .pointer (some ⟨bk, 1, none⟩)) rfl (by kernel_rfl) (by kernel_rfl) (by kernel_rfl) (fun _ _ _ h => h) (Or.inl ⟨by rfl, fun w hSw => by go_simp⟩) hH7 ?_
            try simp only [Act.put, List.setIfInBounds_toArray, List.set_cons_zero, List.set_cons_succ, List.getElem_toArray, List.getElem_cons_succ, List.getElem_cons_zero]
            refine wpAnyH_ready (rs := [13]) (by kernel_rfl) (by simp) ?_
            refine AllReadyH.cons rfl (fun K hK => ?_) AllReadyH.nil
            go_simp
            have hH8 := P7.out.bel
            refine hK.out _ _ hH8 (fun _ => ?_)
            clear hK K
            try simp only [Act.put, List.setIfInBounds_toArray, List.set_cons_zero, List.set_cons_succ, List.getElem_toArray, List.getElem_cons_succ, List.getElem_cons_zero]
            refine wpAnyH_done (by kernel_rfl) ?_ _
            try simp
            go_wp2
            exact ⟨⟨k + 1, _, by omega, by go_num, by rw [← HN.out]; exact P7.out⟩, by simp [intOf]; omega⟩
          · skip
            go_simp
            have ST : Hid (Kp Wf bk nm ac nu (.slice gv L.length cv) L (Wd.alloc (Obj.cells #[.int .i64 f, .int .i64 o, .int .i64 n] 37))) := HKd.out.later (below_alloc _ _)
            have hH6 := ST.out.bel
            refine hK.out _ _ hH6 (fun _ => ?_)
            clear hK K
            try simp only [Act.put, List.setIfInBounds_toArray, List.set_cons_zero, List.set_cons_succ, List.getElem_toArray, List.getElem_cons_succ, List.getElem_cons_zero]
            refine wpAnyH_ready (rs := [1]) (by kernel_rfl) (by simp) ?_
            refine AllReadyH.cons rfl (fun K hK => ?_) AllReadyH.nil
            have q1 := ST.out.cells.1.2.1
            go_simp
            refine hK.out _ _ hH6 (fun _ => ?_)
            clear hK K
            try simp only [Act.put, List.setIfInBounds_toArray, List.set_cons_zero, List.set_cons_succ, List.getElem_toArray, List.getElem_cons_succ, List.getElem_cons_zero]
            clear q1
            refine wpAnyH_ready (rs := [11]) (by kernel_rfl) (by simp) ?_
            refine AllReadyH.cons rfl (fun K hK => ?_) AllReadyH.nil
            refine step_append_lies _ rfl _ _ 23 rfl (bk + 1) 37 j0 (.agg #[.int .i64 0, .int .i64 0, .int .i64 0]) 3 24 Try.underlying23 hj hj0 hj1 hj2 rfl (by decide) _ _ _ rfl ST.out.row ⟨Wd.heap.size, 0, none⟩ 1 1 [.int .i64 f, .int .i64 o, .int .i64 n] rfl rfl (World.news_of_block (heapNew Wd _)) (by simp [Value.oneCell']) (by omega) (by unfold maxLen; have := HL.out; omega) (by have := HL.out; omega) (by have := blk_lt ST.out.own; omega) _ rfl ?_
            intro g1 cp1 w7 hown1 hgrow1 hat1 hglt1
            have P7 : Hid (Kp Wf bk nm ac nu (.slice (some ⟨g1, 0, none⟩) (L.length + 1) cp1) (L ++ [⟨f, o, n⟩]) (w7.setCell ⟨bk, 1, none⟩ (.slice (some ⟨g1, 0, none⟩) (L.length + 1) cp1))) := ST.out.push (t := ⟨f, o, n⟩) hown1 hgrow1
            have hne : (Value.slice gv L.length cv).ownBlock ≠ some bk := fun e => by have := (ST.out.row.lt bk e).1; omega
            have eB := hgrow1.block bk (blk_lt ST.out.own) (fun e => hne e.symm)
            have z1 : w7.cell? ⟨bk, 1, none⟩ = some (.slice gv L.length cv) := (World.cell?_of_block (a := ⟨bk, 1, none⟩) eB).trans ST.out.cells.1.2.1
            have zf : w7.frozen? ⟨bk, 1, none⟩ = false := (World.frozen?_of_block (a := ⟨bk, 1, none⟩) eB).trans ST.out.cells.2.1
            have hH7 : Below bk Wf w7 := ST.out.bel.grown hgrow1 (Nat.le_of_lt (blk_lt ST.out.own)) (fun q hq => by have := (ST.out.row.lt q hq).1; omega)
            clear hown1 hgrow1 hat1 hglt1 eB
            refine hK.out _ _ hH7 (fun _ => ?_)
            clear hK K
            try simp only [Act.put, List.setIfInBounds_toArray, List.set_cons_zero, List.set_cons_succ, List.getElem_toArray, List.getElem_cons_succ, List.getElem_cons_zero]
            refine wpAnyH_take (i := 12) (v := .pointer (some ⟨bk, 1, none⟩)) rfl (by kernel_rfl) (by kernel_rfl) (by kernel_rfl) (fun _ _ _ h => h) (Or.inl ⟨by rfl, fun w hSw => by go_simp⟩) hH7 ?_
            try simp only [Act.put, List.setIfInBounds_toArray, List.set_cons_zero, List.set_cons_succ, List.getElem_toArray, List.getElem_cons_succ, List.getElem_cons_zero]
            refine wpAnyH_ready (rs := [13]) (by kernel_rfl) (by simp) ?_
            refine AllReadyH.cons rfl (fun K hK => ?_) AllReadyH.nil
            go_simp
            have hH8 := P7.out.bel
            refine hK.out _ _ hH8 (fun _ => ?_)
            clear hK K
            try simp only [Act.put, List.setIfInBounds_toArray, List.set_cons_zero, List.set_cons_succ, List.getElem_toArray, List.getElem_cons_succ, List.getElem_cons_zero]
            refine wpAnyH_done (by kernel_rfl) ?_ _
            try simp
            go_wp2
            exact ⟨⟨k + 1, _, by omega, by go_num, by rw [← HN.out]; exact P7.out⟩, by simp [intOf]; omega⟩
        · obtain ⟨j, hkj⟩ : ∃ j, k = j + 1 := ⟨k - 1, by omega⟩
          have HQq : Hid (∀ W, Below bk Wf W → W.cell? ⟨b1, o1 + j, none⟩ = some (.int .i64 ((C.getD j 0 : Nat) : Int))) := fun W hW => HQp.out W hW j hkj
          have hup := HZp.out j hkj
          clear HQp HZp
          generalize C.getD j 0 = xp at *
          have hup' : ¬ (x : Int) ≤ (xp : Int) := by omega
          have hgt : (0 : Int) < (k : Int) := by omega
          have hjl : (j : Int) < (C.length : Int) := by omega
          have hwr : IntKind.i64.wrap ((k : Int) - 1) = (j : Int) := by rw [wrap_id _ (by omega) (by omega)]; omega
          clear hup hkj hk0
          go_wp2_with fail
          refine wp_region_held_drew (S := fun W => Below bk Wf W) (by kernel_rfl) (HK.out.bel.trans ((below_drew wr).mono (Nat.le_of_lt (blk_lt HK.out.own)))) (fun hH => ?_)
          refine wpAnyH_take (i := 0) (v := .slice (some ⟨b1, o1, none⟩) C.length cp2) rfl (by kernel_rfl) (by kernel_rfl) (by kernel_rfl) (fun _ _ _ h => h) (Or.inl ⟨by rfl, fun w hSw => by go_simp⟩) hH ?_
          refine wpAnyH_take (i := 1) (v := .int .i64 (k : Int)) rfl (by kernel_rfl) (by kernel_rfl) (by kernel_rfl) (fun _ _ _ h => h) (Or.inl ⟨by rfl, fun w hSw => by go_simp⟩) hH ?_
          try simp only [Act.put, List.setIfInBounds_toArray, List.set_cons_zero, List.set_cons_succ, List.getElem_toArray, List.getElem_cons_succ, List.getElem_cons_zero]
          refine wpAnyH_take (i := 2) (v := .pointer (some ⟨b1, o1 + k, none⟩)) rfl (by kernel_rfl) (by kernel_rfl) (by kernel_rfl) (fun _ _ _ h => h) (Or.inl ⟨by rfl, fun w hSw => by go_simp⟩) hH ?_
          try simp only [Act.put, List.setIfInBounds_toArray, List.set_cons_zero, List.set_cons_succ, List.getElem_toArray, List.getElem_cons_succ, List.getElem_cons_zero]
          refine wpAnyH_take (i := 3) (v := .int .i64 (x : Int)) rfl (by kernel_rfl) (by kernel_rfl) (by kernel_rfl) (fun _ _ _ h => h) (Or.inl ⟨by rfl, fun w hSw => by obtain ⟨q1, _⟩ := HQ.out w hSw; go_simp⟩) hH ?_
          try simp only [Act.put, List.setIfInBounds_toArray, List.set_cons_zero, List.set_cons_succ, List.getElem_toArray, List.getElem_cons_succ, List.getElem_cons_zero]
          refine wpAnyH_take (i := 4) (v := .bool false) rfl (by kernel_rfl) (by kernel_rfl) (by kernel_rfl) (fun _ _ _ h => h) (Or.inl ⟨by rfl, fun w hSw => by go_simp⟩) hH ?_
          try simp only [Act.put, List.setIfInBounds_toArray, List.set_cons_zero, List.set_cons_succ, List.getElem_toArray, List.getElem_cons_succ, List.getElem_cons_zero]
          refine wpAnyH_take (i := 5) (v := .bool false) rfl (by kernel_rfl) (by kernel_rfl) (by kernel_rfl) (fun _ _ _ h => h) (Or.inl ⟨by rfl, fun w hSw => by go_simp⟩) hH ?_
          try simp only [Act.put, List.setIfInBounds_toArray, List.set_cons_zero, List.set_cons_succ, List.getElem_toArray, List.getElem_cons_succ, List.getElem_cons_zero]
          refine wpAnyH_take (i := 6) (v := .slice (some ⟨b1, o1, none⟩) C.length cp2) rfl (by kernel_rfl) (by kernel_rfl) (by kernel_rfl) (fun _ _ _ h => h) (Or.inl ⟨by rfl, fun w hSw => by go_simp⟩) hH ?_
          try simp only [Act.put, List.setIfInBounds_toArray, List.set_cons_zero, List.set_cons_succ, List.getElem_toArray, List.getElem_cons_succ, List.getElem_cons_zero]
          refine wpAnyH_take (i := 7) (v := .int .i64 (k : Int)) rfl (by kernel_rfl) (by kernel_rfl) (by kernel_rfl) (fun _ _ _ h => h) (Or.inl ⟨by rfl, fun w hSw => by go_simp⟩) hH ?_
          try simp only [Act.put, List.setIfInBounds_toArray, List.set_cons_zero, List.set_cons_succ, List.getElem_toArray, List.getElem_cons_succ, List.getElem_cons_zero]
          refine wpAnyH_take (i := 8) (v := .pointer (some ⟨b1, o1 + k, none⟩)) rfl (by kernel_rfl) (by kernel_rfl) (by kernel_rfl) (fun _ _ _ h => h) (Or.inl ⟨by rfl, fun w hSw => by go_simp⟩) hH ?_
          try simp only [Act.put, List.setIfInBounds_toArray, List.set_cons_zero, List.set_cons_succ, List.getElem_toArray, List.getElem_cons_succ, List.getElem_cons_zero]
          refine wpAnyH_take (i := 9) (v := .int .i64 (x : Int)) rfl (by kernel_rfl) (by kernel_rfl) (by kernel_rfl) (fun _ _ _ h => h) (Or.inl ⟨by rfl, fun w hSw => by obtain ⟨q1, _⟩ := HQ.out w hSw; go_simp⟩) hH ?_
          try simp only [Act.put, List.setIfInBounds_toArray, List.set_cons_zero, List.set_cons_succ, List.getElem_toArray, List.getElem_cons_succ, List.getElem_cons_zero]
          refine wpAnyH_take (i := 10) (v := .pointer (some ⟨w1.heap.size, 1, none⟩)) rfl (by kernel_rfl) (by kernel_rfl) (by kernel_rfl) (fun _ _ _ h => h) (Or.inl ⟨by rfl, fun w hSw => by go_simp⟩) hH ?_
          try simp only [Act.put, List.setIfInBounds_toArray, List.set_cons_zero, List.set_cons_succ, List.getElem_toArray, List.getElem_cons_succ, List.getElem_cons_zero]
          refine wpAnyH_take (i := 11) (v := .slice (some ⟨b0, o0, none⟩) ts.length cp) rfl (by kernel_rfl) (by kernel_rfl) (by kernel_rfl) (fun _ _ _ h => h) (Or.inl ⟨by rfl, fun w hSw => by obtain ⟨_, q1, _⟩ := HQ.out w hSw; go_simp⟩) hH ?_
          try simp only [Act.put, List.setIfInBounds_toArray, List.set_cons_zero, List.set_cons_succ, List.getElem_toArray, List.getElem_cons_succ, List.getElem_cons_zero]
          refine wpAnyH_take (i := 12) (v := .int .i64 (ts.length : Int)) rfl (by kernel_rfl) (by kernel_rfl) (by kernel_rfl) (fun _ _ _ h => h) (Or.inl ⟨by rfl, fun w hSw => by go_simp⟩) hH ?_
          try simp only [Act.put, List.setIfInBounds_toArray, List.set_cons_zero, List.set_cons_succ, List.getElem_toArray, List.getElem_cons_succ, List.getElem_cons_zero]
          refine wpAnyH_take (i := 13) (v := .bool false) rfl (by kernel_rfl) (by kernel_rfl) (by kernel_rfl) (fun _ _ _ h => h) (Or.inl ⟨by rfl, fun w hSw => by go_simp⟩) hH ?_
          try simp only [Act.put, List.setIfInBounds_toArray, List.set_cons_zero, List.set_cons_succ, List.getElem_toArray, List.getElem_cons_succ, List.getElem_cons_zero]
          refine wpAnyH_take (i := 14) (v := .bool false) rfl (by kernel_rfl) (by kernel_rfl) (by kernel_rfl) (fun _ _ _ h => h) (Or.inl ⟨by rfl, fun w hSw => by go_simp⟩) hH ?_
          try simp only [Act.put, List.setIfInBounds_toArray, List.set_cons_zero, List.set_cons_succ, List.getElem_toArray, List.getElem_cons_succ, List.getElem_cons_zero]
          refine wpAnyH_take (i := 15) (v := .bool false) rfl (by kernel_rfl) (by kernel_rfl) (by kernel_rfl) (fun _ _ _ h => h) (Or.inl ⟨by rfl, fun w hSw => by go_simp⟩) hH ?_
          try simp only [Act.put, List.setIfInBounds_toArray, List.set_cons_zero, List.set_cons_succ, List.getElem_toArray, List.getElem_cons_succ, List.getElem_cons_zero]
          refine wpAnyH_take (i := 16) (v := .int .i64 (k : Int)) rfl (by kernel_rfl) (by kernel_rfl) (by kernel_rfl) (fun _ _ _ h => h) (Or.inl ⟨by rfl, fun w hSw => by go_simp⟩) hH ?_
          try simp only [Act.put, List.setIfInBounds_toArray, List.set_cons_zero, List.set_cons_succ, List.getElem_toArray, List.getElem_cons_succ, List.getElem_cons_zero]
          refine wpAnyH_take (i := 17) (v := .bool true) rfl (by kernel_rfl) (by kernel_rfl) (by kernel_rfl) (fun _ _ _ h => h) (Or.inl ⟨by rfl, fun w hSw => by have q : 0 < k := (by omega); go_simp⟩) hH ?_
          try simp only [Act.put, List.setIfInBounds_toArray, List.set_cons_zero, List.set_cons_succ, List.getElem_toArray, List.getElem_cons_succ, List.getElem_cons_zero]
          refine wpAnyH_take (i := 18) (v := .bool true) rfl (by kernel_rfl) (by kernel_rfl) (by kernel_rfl) (fun _ _ _ h => h) (Or.inl ⟨by rfl, fun w hSw => by go_simp⟩) hH ?_
          try simp only [Act.put, List.setIfInBounds_toArray, List.set_cons_zero, List.set_cons_succ, List.getElem_toArray, List.getElem_cons_succ, List.getElem_cons_zero]
          refine wpAnyH_take (i := 19) (v := .slice (some ⟨b1, o1, none⟩) C.length cp2) rfl (by kernel_rfl) (by kernel_rfl) (by kernel_rfl) (fun _ _ _ h => h) (Or.inl ⟨by rfl, fun w hSw => by go_simp⟩) hH ?_
          try simp only [Act.put, List.setIfInBounds_toArray, List.set_cons_zero, List.set_cons_succ, List.getElem_toArray, List.getElem_cons_succ, List.getElem_cons_zero]
          refine wpAnyH_take (i := 20) (v := .int .i64 (k : Int)) rfl (by kernel_rfl) (by kernel_rfl) (by kernel_rfl) (fun _ _ _ h => h) (Or.inl ⟨by rfl, fun w hSw => by go_simp⟩) hH ?_
          try simp only [Act.put, List.setIfInBounds_toArray, List.set_cons_zero, List.set_cons_succ, List.getElem_toArray, List.getElem_cons_succ, List.getElem_cons_zero]
          refine wpAnyH_take (i := 21) (v := .int .i64 (j : Int)) rfl (by kernel_rfl) (by kernel_rfl) (by kernel_rfl) (fun _ _ _ h => h) (Or.inl ⟨by rfl, fun w hSw => by go_simp⟩) hH ?_
          try simp only [Act.put, List.setIfInBounds_toArray, List.set_cons_zero, List.set_cons_succ, List.getElem_toArray, List.getElem_cons_succ, List.getElem_cons_zero]
          refine wpAnyH_take (i := 22) (v := .pointer (some ⟨b1, o1 + j, none⟩)) rfl (by kernel_rfl) (by kernel_rfl) (by kernel_rfl) (fun _ _ _ h => h) (Or.inl ⟨by rfl, fun w hSw => by go_simp⟩) hH ?_
          try simp only [Act.put, List.setIfInBounds_toArray, List.set_cons_zero, List.set_cons_succ, List.getElem_toArray, List.getElem_cons_succ, List.getElem_cons_zero]
          refine wpAnyH_take (i := 23) (v := .int .i64 (xp : Int)) rfl (by kernel_rfl) (by kernel_rfl) (by kernel_rfl) (fun _ _ _ h => h) (Or.inl ⟨by rfl, fun w hSw => by have q1 := HQq.out w hSw; go_simp⟩) hH ?_
          try simp only [Act.put, List.setIfInBounds_toArray, List.set_cons_zero, List.set_cons_succ, List.getElem_toArray, List.getElem_cons_succ, List.getElem_cons_zero]
          refine wpAnyH_take (i := 24) (v := .slice (some ⟨b1, o1, none⟩) C.length cp2) rfl (by kernel_rfl) (by kernel_rfl) (by kernel_rfl) (fun _ _ _ h => h) (Or.inl ⟨by rfl, fun w hSw => by go_simp⟩) hH ?_
          try simp only [Act.put, List.setIfInBounds_toArray, List.set_cons_zero, List.set_cons_succ, List.getElem_toArray, List.getElem_cons_succ, List.getElem_cons_zero]
          refine wpAnyH_take (i := 25) (v := .int .i64 (k : Int)) rfl (by kernel_rfl) (by kernel_rfl) (by kernel_rfl) (fun _ _ _ h => h) (Or.inl ⟨by rfl, fun w hSw => by go_simp⟩) hH ?_
          try simp only [Act.put, List.setIfInBounds_toArray, List.set_cons_zero, List.set_cons_succ, List.getElem_toArray, List.getElem_cons_succ, List.getElem_cons_zero]
          refine wpAnyH_take (i := 26) (v := .pointer (some ⟨b1, o1 + k, none⟩)) rfl (by kernel_rfl) (by kernel_rfl) (by kernel_rfl) (fun _ _ _ h => h) (Or.inl ⟨by rfl, fun w hSw => by go_simp⟩) hH ?_
          try simp only [Act.put, List.setIfInBounds_toArray, List.set_cons_zero, List.set_cons_succ, List.getElem_toArray, List.getElem_cons_succ, List.getElem_cons_zero]
          refine wpAnyH_take (i := 27) (v := .int .i64 (x : Int)) rfl (by kernel_rfl) (by kernel_rfl) (by kernel_rfl) (fun _ _ _ h => h) (Or.inl ⟨by rfl, fun w hSw => by obtain ⟨q1, _⟩ := HQ.out w hSw; go_simp⟩) hH ?_
          try simp only [Act.put, List.setIfInBounds_toArray, List.set_cons_zero, List.set_cons_succ, List.getElem_toArray, List.getElem_cons_succ, List.getElem_cons_zero]
          refine wpAnyH_take (i := 28) (v := .bool false) rfl (by kernel_rfl) (by kernel_rfl) (by kernel_rfl) (fun _ _ _ h => h) (Or.inl ⟨by rfl, fun w hSw => by have q : xp < x := (by omega); go_simp⟩) hH ?_
          try simp only [Act.put, List.setIfInBounds_toArray, List.set_cons_zero, List.set_cons_succ, List.getElem_toArray, List.getElem_cons_succ, List.getElem_cons_zero]
          refine wpAnyH_take (i := 29) (v := .bool false) rfl (by kernel_rfl) (by kernel_rfl) (by kernel_rfl) (fun _ _ _ h => h) (Or.inl ⟨by rfl, fun w hSw => by go_simp⟩) hH ?_
          try simp only [Act.put, List.setIfInBounds_toArray, List.set_cons_zero, List.set_cons_succ, List.getElem_toArray, List.getElem_cons_succ, List.getElem_cons_zero]
          refine wpAnyH_take (i := 30) (v := .bool false) rfl (by kernel_rfl) (by kernel_rfl) (by kernel_rfl) (fun _ _ _ h => h) (Or.inl ⟨by rfl, fun w hSw => by go_simp⟩) hH ?_
          try simp only [Act.put, List.setIfInBounds_toArray, List.set_cons_zero, List.set_cons_succ, List.getElem_toArray, List.getElem_cons_succ, List.getElem_cons_zero]
          refine wpAnyH_done (by kernel_rfl) ?_ _
          try simp
          have HKd : Hid (Kp Wf bk nm ac nu (.slice gv L.length cv) L wr.drew.drew) := HK.out.later (chain (below_drew _) (below_drew _))
          go_wp2_with fail
          refine wp_region_held_drew (S := fun W => Below bk Wf W) (by kernel_rfl) HKd.out.bel (fun hH => ?_)
          generalize wr.drew.drew = Wd at *
          refine wpAnyH_take (i := 0) (v := .pointer (some ⟨bk, 1, none⟩)) rfl (by kernel_rfl) (by kernel_rfl) (by kernel_rfl) (fun _ _ _ h => h) (Or.inl ⟨by rfl, fun w hSw => by go_simp⟩) hH ?_
          refine wpAnyH_take (i := 2) (v := .pointer (some ⟨w1.heap.size, 1, none⟩)) rfl (by kernel_rfl) (by kernel_rfl) (by kernel_rfl) (fun _ _ _ h => h) (Or.inl ⟨by rfl, fun w hSw => by go_simp⟩) hH ?_
          try simp only [Act.put, List.setIfInBounds_toArray, List.set_cons_zero, List.set_cons_succ, List.getElem_toArray, List.getElem_cons_succ, List.getElem_cons_zero]
          refine wpAnyH_take (i := 3) (v := .slice (some ⟨b0, o0, none⟩) ts.length cp) rfl (by kernel_rfl) (by kernel_rfl) (by kernel_rfl) (fun _ _ _ h => h) (Or.inl ⟨by rfl, fun w hSw => by obtain ⟨_, q1, _⟩ := HQ.out w hSw; go_simp⟩) hH ?_
          try simp only [Act.put, List.setIfInBounds_toArray, List.set_cons_zero, List.set_cons_succ, List.getElem_toArray, List.getElem_cons_succ, List.getElem_cons_zero]
          refine wpAnyH_take (i := 4) (v := .slice (some ⟨b1, o1, none⟩) C.length cp2) rfl (by kernel_rfl) (by kernel_rfl) (by kernel_rfl) (fun _ _ _ h => h) (Or.inl ⟨by rfl, fun w hSw => by go_simp⟩) hH ?_
          try simp only [Act.put, List.setIfInBounds_toArray, List.set_cons_zero, List.set_cons_succ, List.getElem_toArray, List.getElem_cons_succ, List.getElem_cons_zero]
          refine wpAnyH_take (i := 5) (v := .int .i64 (k : Int)) rfl (by kernel_rfl) (by kernel_rfl) (by kernel_rfl) (fun _ _ _ h => h) (Or.inl ⟨by rfl, fun w hSw => by go_simp⟩) hH ?_
          try simp only [Act.put, List.setIfInBounds_toArray, List.set_cons_zero, List.set_cons_succ, List.getElem_toArray, List.getElem_cons_succ, List.getElem_cons_zero]
          refine wpAnyH_take (i := 6) (v := .pointer (some ⟨b1, o1 + k, none⟩)) rfl (by kernel_rfl) (by kernel_rfl) (by kernel_rfl) (fun _ _ _ h => h) (Or.inl ⟨by rfl, fun w hSw => by go_simp⟩) hH ?_
          try simp only [Act.put, List.setIfInBounds_toArray, List.set_cons_zero, List.set_cons_succ, List.getElem_toArray, List.getElem_cons_succ, List.getElem_cons_zero]
          refine wpAnyH_take (i := 7) (v := .int .i64 (x : Int)) rfl (by kernel_rfl) (by kernel_rfl) (by kernel_rfl) (fun _ _ _ h => h) (Or.inl ⟨by rfl, fun w hSw => by obtain ⟨q1, _⟩ := HQ.out w hSw; go_simp⟩) hH ?_
          try simp only [Act.put, List.setIfInBounds_toArray, List.set_cons_zero, List.set_cons_succ, List.getElem_toArray, List.getElem_cons_succ, List.getElem_cons_zero]
          refine wpAnyH_take (i := 8) (v := .pointer (some ⟨b0, o0 + x * 3, none⟩)) rfl (by kernel_rfl) (by kernel_rfl) (by kernel_rfl) (fun _ _ _ h => h) (Or.inl ⟨by rfl, fun w hSw => by go_simp⟩) hH ?_
          try simp only [Act.put, List.setIfInBounds_toArray, List.set_cons_zero, List.set_cons_succ, List.getElem_toArray, List.getElem_cons_succ, List.getElem_cons_zero]
          refine wpAnyH_take (i := 9) (v := .agg #[.int .i64 f, .int .i64 o, .int .i64 n]) rfl (by kernel_rfl) (by kernel_rfl) (by kernel_rfl) (fun _ _ _ h => h) (Or.inl ⟨by rfl, fun w hSw => by obtain ⟨_, _, q1, q2, q3⟩ := HQ.out w hSw; go_simp⟩) hH ?_
          try simp only [Act.put, List.setIfInBounds_toArray, List.set_cons_zero, List.set_cons_succ, List.getElem_toArray, List.getElem_cons_succ, List.getElem_cons_zero]
          refine wpAnyH_ready (rs := [1, 10]) (by kernel_rfl) (by simp) ?_
          refine AllReadyH.cons rfl (fun K hK => ?_) (AllReadyH.cons rfl (fun K hK => ?_) AllReadyH.nil)
          · skip
            have ST : Hid (Kp Wf bk nm ac nu (.slice gv L.length cv) L Wd) := HKd.out
            have q1 := ST.out.cells.1.2.1
            go_simp
            refine hK.out _ _ hH (fun _ => ?_)
            clear hK K
            try simp only [Act.put, List.setIfInBounds_toArray, List.set_cons_zero, List.set_cons_succ, List.getElem_toArray, List.getElem_cons_succ, List.getElem_cons_zero]
            clear q1
            refine wpAnyH_ready (rs := [10]) (by kernel_rfl) (by simp) ?_
            refine AllReadyH.cons rfl (fun K hK => ?_) AllReadyH.nil
            go_simp
            have ST : Hid (Kp Wf bk nm ac nu (.slice gv L.length cv) L (Wd.alloc (Obj.cells #[.int .i64 f, .int .i64 o, .int .i64 n] 37))) := ST.out.later (below_alloc _ _)
            have hH6 := ST.out.bel
            refine hK.out _ _ hH6 (fun _ => ?_)
            clear hK K
            try simp only [Act.put, List.setIfInBounds_toArray, List.set_cons_zero, List.set_cons_succ, List.getElem_toArray, List.getElem_cons_succ, List.getElem_cons_zero]
            refine wpAnyH_ready (rs := [11]) (by kernel_rfl) (by simp) ?_
            refine AllReadyH.cons rfl (fun K hK => ?_) AllReadyH.nil
            refine step_append_lies _ rfl _ _ 23 rfl (bk + 1) 37 j0 (.agg #[.int .i64 0, .int .i64 0, .int .i64 0]) 3 24 Try.underlying23 hj hj0 hj1 hj2 rfl (by decide) _ _ _ rfl ST.out.row ⟨Wd.heap.size, 0, none⟩ 1 1 [.int .i64 f, .int .i64 o, .int .i64 n] rfl rfl (World.news_of_block (heapNew Wd _)) (by simp [Value.oneCell']) (by omega) (by unfold maxLen; have := HL.out; omega) (by have := HL.out; omega) (by have := blk_lt ST.out.own; omega) _ rfl ?_
            intro g1 cp1 w7 hown1 hgrow1 hat1 hglt1
            have P7 : Hid (Kp Wf bk nm ac nu (.slice (some ⟨g1, 0, none⟩) (L.length + 1) cp1) (L ++ [⟨f, o, n⟩]) (w7.setCell ⟨bk, 1, none⟩ (.slice (some ⟨g1, 0, none⟩) (L.length + 1) cp1))) := ST.out.push (t := ⟨f, o, n⟩) hown1 hgrow1
            have hne : (Value.slice gv L.length cv).ownBlock ≠ some bk := fun e => by have := (ST.out.row.lt bk e).1; omega
            have eB := hgrow1.block bk (blk_lt ST.out.own) (fun e => hne e.symm)
            have z1 : w7.cell? ⟨bk, 1, none⟩ = some (.slice gv L.length cv) := (World.cell?_of_block (a := ⟨bk, 1, none⟩) eB).trans ST.out.cells.1.2.1
            have zf : w7.frozen? ⟨bk, 1, none⟩ = false := (World.frozen?_of_block (a := ⟨bk, 1, none⟩) eB).trans ST.out.cells.2.1
            have hH7 : Below bk Wf w7 := ST.out.bel.grown hgrow1 (Nat.le_of_lt (blk_lt ST.out.own)) (fun q hq => by have := (ST.out.row.lt q hq).1; omega)
            clear hown1 hgrow1 hat1 hglt1 eB
            refine hK.out _ _ hH7 (fun _ => ?_)
            clear hK K
            try simp only [Act.put, List.setIfInBounds_toArray, List.set_cons_zero, List.set_cons_succ, List.getElem_toArray, List.getElem_cons_succ, List.getElem_cons_zero]
            refine wpAnyH_take (i := 12) (v := .pointer (some ⟨bk, 1, none⟩)) rfl (by kernel_rfl) (by kernel_rfl) (by kernel_rfl) (fun _ _ _ h => h) (Or.inl ⟨by rfl, fun w hSw => by go_simp⟩) hH7 ?_
            try simp only [Act.put, List.setIfInBounds_toArray, List.set_cons_zero, List.set_cons_succ, List.getElem_toArray, List.getElem_cons_succ, List.getElem_cons_zero]
            refine wpAnyH_ready (rs := [13]) (by kernel_rfl) (by simp) ?_
            refine AllReadyH.cons rfl (fun K hK => ?_) AllReadyH.nil
            go_simp
            have hH8 := P7.out.bel
            refine hK.out _ _ hH8 (fun _ => ?_)
            clear hK K
            try simp only [Act.put, List.setIfInBounds_toArray, List.set_cons_zero, List.set_cons_succ, List.getElem_toArray, List.getElem_cons_succ, List.getElem_cons_zero]
            refine wpAnyH_done (by kernel_rfl) ?_ _
            try simp
            go_wp2
            exact ⟨⟨k + 1, _, by omega, by go_num, by rw [← HN.out]; exact P7.out⟩, by simp [intOf]; omega⟩
          · skip
            go_simp
            have ST : Hid (Kp Wf bk nm ac nu (.slice gv L.length cv) L (Wd.alloc (Obj.cells #[.int .i64 f, .int .i64 o, .int .i64 n] 37))) := HKd.out.later (below_alloc _ _)
            have hH6 := ST.out.bel
            refine hK.out _ _ hH6 (fun _ => ?_)
            clear hK K
            try simp only [Act.put, List.setIfInBounds_toArray, List.set_cons_zero, List.set_cons_succ, List.getElem_toArray, List.getElem_cons_succ, List.getElem_cons_zero]
            refine wpAnyH_ready (rs := [1]) (by kernel_rfl) (by simp) ?_
            refine AllReadyH.cons rfl (fun K hK => ?_) AllReadyH.nil
            have q1 := ST.out.cells.1.2.1
            go_simp
            refine hK.out _ _ hH6 (fun _ => ?_)
            clear hK K
            try simp only [Act.put, List.setIfInBounds_toArray, List.set_cons_zero, List.set_cons_succ, List.getElem_toArray, List.getElem_cons_succ, List.getElem_cons_zero]
            clear q1
            refine wpAnyH_ready (rs := [11]) (by kernel_rfl) (by simp) ?_
            refine AllReadyH.cons rfl (fun K hK => ?_) AllReadyH.nil
            refine step_append_lies _ rfl _ _ 23 rfl (bk + 1) 37 j0 (.agg #[.int .i64 0, .int .i64 0, .int .i64 0]) 3 24 Try.underlying23 hj hj0 hj1 hj2 rfl (by decide) _ _ _ rfl ST.out.row ⟨Wd.heap.size, 0, none⟩ 1 1 [.int .i64 f, .int .i64 o, .int .i64 n] rfl rfl (World.news_of_block (heapNew Wd _)) (by simp [Value.oneCell']) (by omega) (by unfold maxLen; have := HL.out; omega) (by have := HL.out; omega) (by have := blk_lt ST.out.own; omega) _ rfl ?_
            intro g1 cp1 w7 hown1 hgrow1 hat1 hglt1
            have P7 : Hid (Kp Wf bk nm ac nu (.slice (some ⟨g1, 0, none⟩) (L.length + 1) cp1) (L ++ [⟨f, o, n⟩]) (w7.setCell ⟨bk, 1, none⟩ (.slice (some ⟨g1, 0, none⟩) (L.length + 1) cp1))) := ST.out.push (t := ⟨f, o, n⟩) hown1 hgrow1
            have hne : (Value.slice gv L.length cv).ownBlock ≠ some bk := fun e => by have := (ST.out.row.lt bk e).1; omega
            have eB := hgrow1.block bk (blk_lt ST.out.own) (fun e => hne e.symm)
            have z1 : w7.cell? ⟨bk, 1, none⟩ = some (.slice gv L.length cv) := (World.cell?_of_block (a := ⟨bk, 1, none⟩) eB).trans ST.out.cells.1.2.1
            have zf : w7.frozen? ⟨bk, 1, none⟩ = false := (World.frozen?_of_block (a := ⟨bk, 1, none⟩) eB).trans ST.out.cells.2.1
            have hH7 : Below bk Wf w7 := ST.out.bel.grown hgrow1 (Nat.le_of_lt (blk_lt ST.out.own)) (fun q hq => by have := (ST.out.row.lt q hq).1; omega)
            clear hown1 hgrow1 hat1 hglt1 eB
            refine hK.out _ _ hH7 (fun _ => ?_)
            clear hK K
            try simp only [Act.put, List.setIfInBounds_toArray, List.set_cons_zero, List.set_cons_succ, List.getElem_toArray, List.getElem_cons_succ, List.getElem_cons_zero]
            refine wpAnyH_take (i := 12) (v := .pointer (some ⟨bk, 1, none⟩)) rfl (by kernel_rfl) (by kernel_rfl) (by kernel_rfl) (fun _ _ _ h => h) (Or.inl ⟨by rfl, fun w hSw => by go_simp⟩) hH7 ?_
            try simp only [Act.put, List.setIfInBounds_toArray, List.set_cons_zero, List.set_cons_succ, List.getElem_toArray, List.getElem_cons_succ, List.getElem_cons_zero]
            refine wpAnyH_ready (rs := [13]) (by kernel_rfl) (by simp) ?_
            refine AllReadyH.cons rfl (fun K hK => ?_) AllReadyH.nil
            go_simp
            have hH8 := P7.out.bel
            refine hK.out _ _ hH8 (fun _ => ?_)
            clear hK K
            try simp only [Act.put, List.setIfInBounds_toArray, List.set_cons_zero, List.set_cons_succ, List.getElem_toArray, List.getElem_cons_succ, List.getElem_cons_zero]
            refine wpAnyH_done (by kernel_rfl) ?_ _
            try simp
            go_wp2
            exact ⟨⟨k + 1, _, by omega, by go_num, by rw [← HN.out]; exact P7.out⟩, by simp [intOf]; omega⟩
      · have hle : (C.length : Int) ≤ (k : Int) := by omega
        obtain rfl : k = C.length := by omega
        have hul : (pickT ts C).length = C.length := pickT_len ts C
        have HE : Hid (Kp Wf bk nm ac nu (.slice gv (pickT ts C).length cv) (pickT ts C) wr) := by have := HK.out; rwa [List.take_length] at this
        have HUl : Hid ((pickT ts C).length = C.length) := hul
        have HUall : Hid (∀ t ∈ pickT ts C, tmB t = true) := pickT_all HAll.out HCin.out
        have HU1 : Hid (clOne ⟨nm, pickT ts C, ac, nu⟩ = true) := clOne_with HO.out (by omega) HUall.out
        have HUcut : Hid (∀ i, i < C.length → canT ((pickT ts C).take i ++ (pickT ts C).drop (i + 1)) = true) := fun i hi => by
          have := HCcut.out i hi
          rwa [pickT_append, pickT_take, pickT_drop] at this
        clear HK HCcut HCin HCup hle hk hul OF
        generalize pickT ts C = U at *
        obtain ⟨⟨q0, q1, q2, q3⟩, _, hbl⟩ := HE.out.cells
        go_wp2_with fail
        (first | go_at_call 5 | skip)
        refine (HW.out _ U gv cv HU1.out HE.out.reads).mono ?_
        rintro e w5 ⟨g5, cp5, rfl, _, hb5⟩
        obtain ⟨v1, v2, v3, v4, v5, e1⟩ := wtV_five ⟨nm, U, ac, nu⟩
        rw [e1, wt_no HU1.out HCno.out]
        clear e1 q0 q1 q2 q3 hbl
        generalize (wtL ⟨nm, U, ac, nu⟩).length = n5
        have HE6 : Hid (Kp Wf bk nm ac nu (.slice gv U.length cv) U (w5.alloc (Obj.cells #[.int .i64 v1, .int .i64 v2, .int .i64 v3, .int .i64 v4, .int .i64 v5] 28))) := HE.out.later (chain hb5 (below_alloc _ _))
        clear HE hb5
        obtain ⟨gb, gcp, hgv, hgB, hglt⟩ := HE6.out.row.form (by have := HUl.out; omega)
        simp only [Value.slice.injEq] at hgv
        obtain ⟨rfl, _, rfl⟩ := hgv
        have hcv : U.length ≤ cv := (rowTm_reads HE6.out.row).1
        clear hgB hglt
        go_wp2_with fail
        go_loopw [16] (fun iv wq => ∃ i : Nat, i ≤ C.length ∧ iv = .int .i64 (i : Int) ∧ Kp Wf bk nm ac nu (.slice (some ⟨gb, 0, none⟩) U.length cv) U wq) (fun iv _ => C.length - (intOf iv).toNat)
        case atStart => exact ⟨0, Nat.zero_le _, rfl, HE6.out⟩
        case round =>
          clear HE6
          obtain ⟨i, hi, rfl, hkp⟩ := hrel
          have HK : Hid (Kp Wf bk nm ac nu (.slice (some ⟨gb, 0, none⟩) U.length cv) U wr) := hkp
          clear hkp
          by_cases hlt : i < C.length
          · have hlt' : (i : Int) < (C.length : Int) := by omega
            have HT1 : Hid ((U.take i).length = i) := by show _ = _; rw [List.length_take, HUl.out]; omega
            have HT2 : Hid ((U.drop (i + 1)).length = U.length - (i + 1)) := by show _ = _; rw [List.length_drop]
            have HCan : Hid (canT (U.take i ++ U.drop (i + 1)) = true) := HUcut.out i hlt
            have hl2 : (U.take i ++ U.drop (i + 1)).length ≤ 8 := by rw [List.length_append, HT1.out, HT2.out, HUl.out]; omega
            have HAl2 : Hid (∀ t ∈ U.take i ++ U.drop (i + 1), tmB t = true) := fun t ht => by
              rcases List.mem_append.1 ht with h | h
              · exact HUall.out t (List.mem_of_mem_take h)
              · exact HUall.out t (List.mem_of_mem_drop h)
            have HOn2 : Hid (clOne ⟨nm, U.take i ++ U.drop (i + 1), ac, nu⟩ = true) := clOne_with HO.out hl2 HAl2.out
            have hiU : (i : Int) < (U.length : Int) := by have := HUl.out; omega
            have hi1 : i + 1 ≤ U.length := by omega
            have hick : i ≤ cv := by omega
            have hwi : IntKind.i64.wrap ((i : Int) + 1) = (i : Int) + 1 := wrap_id _ (by omega) (by omega)
            obtain ⟨o8, ho8⟩ : ∃ o8 : Nat, o8 = if cv = i + 1 then 0 else (i + 1) * 3 := ⟨_, rfl⟩
            have hof : (if cv = i + 1 then (some (⟨gb, 0, none⟩ : Addr)) else some ⟨gb, (i + 1) * 3, none⟩) = some ⟨gb, o8, none⟩ := by rw [ho8]; split <;> rfl
            have hi2' : (i : Int) + 1 ≤ (U.length : Int) := by omega
            have hi3' : (0 : Int) ≤ (i : Int) + 1 := by omega
            have hi4' : ¬ ((i : Int) + 1 < 0) := by omega
            have HLi : Hid (∀ W, Below wr.heap.size wr W → TmLies W gb 0 (U.take i) ∧ TmLies W gb o8 (U.drop (i + 1))) := fun W hW => by
              have hrow := (HK.out.later hW).row
              have h1 := tmLies_of hrow 0 i 0 (.inl rfl)
              have h2 := tmLies_of hrow (i + 1) (U.length - (i + 1)) o8 (by
                rw [ho8]
                split
                · right
                  rw [List.drop_eq_nil_of_le (by omega)]; simp
                · exact .inl rfl)
              rw [List.drop_zero] at h1
              rw [List.take_of_length_le (by rw [List.length_drop]; omega)] at h2
              exact ⟨h1, h2⟩
            clear ho8
            obtain ⟨⟨q0, q1, q2, q3⟩, _, hbl⟩ := HK.out.cells
            have HQk : Hid (∀ W, Below wr.heap.size wr W → W.cell? ⟨bk, 1, none⟩ = some (.slice (some ⟨gb, 0, none⟩) U.length cv)) := fun W hW => (HK.out.later hW).cells.1.2.1
            go_wp2_with fail
            have h7 : Below wr.heap.size wr (wr.alloc (Obj.cells #[.string nm, .slice (some ⟨gb, 0, none⟩) U.length cv, .int .i64 ac, .int .i64 nu] 25)) := below_alloc _ _
            have hb7 := heapNew wr (Obj.cells #[.string nm, .slice (some ⟨gb, 0, none⟩) U.length cv, .int .i64 ac, .int .i64 nu] 25)
            have hs7 : (wr.alloc (Obj.cells #[.string nm, .slice (some ⟨gb, 0, none⟩) U.length cv, .int .i64 ac, .int .i64 nu] 25)).heap.size = wr.heap.size + 1 := by simp
            generalize (wr.alloc (Obj.cells #[.string nm, .slice (some ⟨gb, 0, none⟩) U.length cv, .int .i64 ac, .int .i64 nu] 25)) = W7 at *
            have H7 : Hid (Below wr.heap.size wr W7 ∧ W7.heap[wr.heap.size]? = some (.cells #[.string nm, .slice (some ⟨gb, 0, none⟩) U.length cv, .int .i64 ac, .int .i64 nu] 25 (0, 0)) ∧ W7.heap.size = wr.heap.size + 1) := ⟨h7, hb7, hs7⟩
            clear h7 hb7 hs7 q0 q1 q2 q3
            generalize hbx : wr.heap.size = bx at *
            refine wp_region_held_drew (S := fun W => Below bx wr W) (by kernel_rfl) (H7.out.1.trans ((below_drew W7).mono (by have := H7.out.2.2; omega))) (fun hH => ?_)
            refine wpAnyH_take (i := 1) (v := .pointer (some ⟨bk, 1, none⟩)) rfl (by kernel_rfl) (by kernel_rfl) (by kernel_rfl) (fun _ _ _ h => h) (Or.inl ⟨by rfl, fun w hSw => by go_simp⟩) hH ?_
            refine wpAnyH_take (i := 2) (v := .slice (some ⟨gb, 0, none⟩) U.length cv) rfl (by kernel_rfl) (by kernel_rfl) (by kernel_rfl) (fun _ _ _ h => h) (Or.inl ⟨by rfl, fun w hSw => by have q := HQk.out w hSw; go_simp⟩) hH ?_
            try simp only [Act.put, List.setIfInBounds_toArray, List.set_cons_zero, List.set_cons_succ, List.getElem_toArray, List.getElem_cons_succ, List.getElem_cons_zero]
            refine wpAnyH_take (i := 3) (v := .int .i64 (i : Int)) rfl (by kernel_rfl) (by kernel_rfl) (by kernel_rfl) (fun _ _ _ h => h) (Or.inl ⟨by rfl, fun w hSw => by go_simp⟩) hH ?_
            try simp only [Act.put, List.setIfInBounds_toArray, List.set_cons_zero, List.set_cons_succ, List.getElem_toArray, List.getElem_cons_succ, List.getElem_cons_zero]
            refine wpAnyH_take (i := 4) (v := .slice (some ⟨gb, 0, none⟩) i cv) rfl (by kernel_rfl) (by kernel_rfl) (by kernel_rfl) (fun _ _ _ h => h) (Or.inl ⟨by rfl, fun w hSw => by go_simp⟩) hH ?_
            try simp only [Act.put, List.setIfInBounds_toArray, List.set_cons_zero, List.set_cons_succ, List.getElem_toArray, List.getElem_cons_succ, List.getElem_cons_zero]
            refine wpAnyH_take (i := 6) (v := .pointer (some ⟨bk, 1, none⟩)) rfl (by kernel_rfl) (by kernel_rfl) (by kernel_rfl) (fun _ _ _ h => h) (Or.inl ⟨by rfl, fun w hSw => by go_simp⟩) hH ?_
            try simp only [Act.put, List.setIfInBounds_toArray, List.set_cons_zero, List.set_cons_succ, List.getElem_toArray, List.getElem_cons_succ, List.getElem_cons_zero]
            refine wpAnyH_take (i := 7) (v := .slice (some ⟨gb, 0, none⟩) U.length cv) rfl (by kernel_rfl) (by kernel_rfl) (by kernel_rfl) (fun _ _ _ h => h) (Or.inl ⟨by rfl, fun w hSw => by have q := HQk.out w hSw; go_simp⟩) hH ?_
            try simp only [Act.put, List.setIfInBounds_toArray, List.set_cons_zero, List.set_cons_succ, List.getElem_toArray, List.getElem_cons_succ, List.getElem_cons_zero]
            refine wpAnyH_take (i := 8) (v := .int .i64 (i : Int)) rfl (by kernel_rfl) (by kernel_rfl) (by kernel_rfl) (fun _ _ _ h => h) (Or.inl ⟨by rfl, fun w hSw => by go_simp⟩) hH ?_
            try simp only [Act.put, List.setIfInBounds_toArray, List.set_cons_zero, List.set_cons_succ, List.getElem_toArray, List.getElem_cons_succ, List.getElem_cons_zero]
            refine wpAnyH_take (i := 9) (v := .int .i64 ((i : Int) + 1)) rfl (by kernel_rfl) (by kernel_rfl) (by kernel_rfl) (fun _ _ _ h => h) (Or.inl ⟨by rfl, fun w hSw => by go_simp⟩) hH ?_
            try simp only [Act.put, List.setIfInBounds_toArray, List.set_cons_zero, List.set_cons_succ, List.getElem_toArray, List.getElem_cons_succ, List.getElem_cons_zero]
            refine wpAnyH_take (i := 10) (v := .slice (some ⟨gb, o8, none⟩) (U.length - (i + 1)) (cv - (i + 1))) rfl (by kernel_rfl) (by kernel_rfl) (by kernel_rfl) (fun _ _ _ h => h) (Or.inl ⟨by rfl, fun w hSw => by go_simp⟩) hH ?_
            try simp only [Act.put, List.setIfInBounds_toArray, List.set_cons_zero, List.set_cons_succ, List.getElem_toArray, List.getElem_cons_succ, List.getElem_cons_zero]
            refine wpAnyH_ready (rs := [0]) (by kernel_rfl) (by simp) ?_
            refine AllReadyH.cons rfl (fun K hK => ?_) AllReadyH.nil
            go_simp
            have hS0 : Below bx wr (W7.drew.alloc (Obj.cells #[] 37)) := hH.alloc (by have := H7.out.2.2; show bx ≤ W7.heap.size; omega) _
            have own0 := ownEmptyTm W7.drew (bx + 1) (by have := H7.out.2.2; show bx + 1 ≤ W7.heap.size; omega)
            have blk0 : (W7.drew.alloc (Obj.cells #[] 37)).heap[bx]? = some (.cells #[.string nm, .slice (some ⟨gb, 0, none⟩) U.length cv, .int .i64 ac, .int .i64 nu] 25 (0, 0)) := (Below.heap_alloc _ _ _ (by have := H7.out.2.2; show bx < W7.heap.size; omega)).trans H7.out.2.1
            refine hK.out _ _ hS0 (fun _ => ?_)
            clear hK K
            try simp only [Act.put, List.setIfInBounds_toArray, List.set_cons_zero, List.set_cons_succ, List.getElem_toArray, List.getElem_cons_succ, List.getElem_cons_zero]
            refine wpAnyH_ready (rs := [5]) (by kernel_rfl) (by simp) ?_
            refine AllReadyH.cons rfl (fun K hK => ?_) AllReadyH.nil
            refine step_tmsO rfl _ _ rfl (bx + 1) W7.heap.size 0 [] rfl own0 gb 0 cv (U.take i) (by rw [HT1.out]; simp; omega) (by rw [HT1.out]; rfl) (HLi.out _ hS0).1 (by have := H7.out.2.2; simp; omega) ?_
            intro g1 c1 u1 own1 grow1 hat1 glt1
            rw [List.nil_append] at own1 ⊢
            have hS1 : Below bx wr u1 := hS0.grown grow1 (by have := H7.out.2.2; simp; omega) (fun q hq => by cases hq; have := H7.out.2.2; omega)
            have blk1 := (grow1.block bx (blk_lt blk0) (fun e => by have := H7.out.2.2; simp at e; omega)).trans blk0
            have hg1 : bx + 1 ≤ g1 := (own1.lt g1 rfl).1
            clear grow1 hat1 glt1 own0 blk0
            refine hK.out _ _ hS1 (fun _ => ?_)
            clear hK K
            try simp only [Act.put, List.setIfInBounds_toArray, List.set_cons_zero, List.set_cons_succ, List.getElem_toArray, List.getElem_cons_succ, List.getElem_cons_zero]
            refine wpAnyH_ready (rs := [11]) (by kernel_rfl) (by simp) ?_
            refine AllReadyH.cons rfl (fun K hK => ?_) AllReadyH.nil
            refine step_tmsO rfl _ _ rfl (bx + 1) g1 c1 (U.take i) rfl own1 gb o8 (cv - (i + 1)) (U.drop (i + 1)) (by rw [HT1.out, HT2.out]; have := HUl.out; omega) (by rw [HT2.out]; rfl) (HLi.out _ hS1).2 (Nat.lt_of_le_of_lt hg1 (own1.lt g1 rfl).2 |> Nat.le_of_lt) ?_
            intro g2 c2 u2 own2 grow2 hat2 glt2
            have hS2 : Below bx wr u2 := hS1.grown grow2 (Nat.le_of_lt (blk_lt blk1)) (fun q hq => by cases hq; omega)
            have blk2 := (grow2.block bx (blk_lt blk1) (fun e => by simp at e; omega)).trans blk1
            clear grow2 hat2 glt2 own1 blk1
            generalize U.take i ++ U.drop (i + 1) = L2 at *
            refine hK.out _ _ hS2 (fun _ => ?_)
            clear hK K
            try simp only [Act.put, List.setIfInBounds_toArray, List.set_cons_zero, List.set_cons_succ, List.getElem_toArray, List.getElem_cons_succ, List.getElem_cons_zero]
            refine wpAnyH_take (i := 12) (v := .pointer (some ⟨bx, 1, none⟩)) rfl (by kernel_rfl) (by kernel_rfl) (by kernel_rfl) (fun _ _ _ h => h) (Or.inl ⟨by rfl, fun w hSw => by go_simp⟩) hS2 ?_
            try simp only [Act.put, List.setIfInBounds_toArray, List.set_cons_zero, List.set_cons_succ, List.getElem_toArray, List.getElem_cons_succ, List.getElem_cons_zero]
            refine wpAnyH_ready (rs := [13]) (by kernel_rfl) (by simp) ?_
            refine AllReadyH.cons rfl (fun K hK => ?_) AllReadyH.nil
            have P7 : Hid (Kp wr bx nm ac nu (.slice (some ⟨g2, 0, none⟩) L2.length c2) L2 (u2.setCell ⟨bx, 1, none⟩ (.slice (some ⟨g2, 0, none⟩) L2.length c2))) := by
              refine ⟨hbx, heap_setCell_same _ _ 1 _ _ _ blk2, row_at own2 (fun q hq => Below.heap_setCell _ _ _ _ ?_), hS2.setCell (Nat.le_refl _) _⟩
              have := (own2.lt q hq).1
              show q ≠ bx
              omega
            have z1 : u2.cell? ⟨bx, 1, none⟩ = some (.slice (some ⟨gb, 0, none⟩) U.length cv) := by unfold World.cell?; rw [blk2]; rfl
            have zf : u2.frozen? ⟨bx, 1, none⟩ = false := by unfold World.frozen?; rw [blk2]; rfl
            clear own2 blk2
            go_simp
            have hH8 := P7.out.bel
            refine hK.out _ _ hH8 (fun _ => ?_)
            clear hK K
            try simp only [Act.put, List.setIfInBounds_toArray, List.set_cons_zero, List.set_cons_succ, List.getElem_toArray, List.getElem_cons_succ, List.getElem_cons_zero]
            refine wpAnyH_done (by kernel_rfl) ?_ _
            try simp
            clear z1 zf hS2 hS1 hS0 hH HLi HQk H7
            have P9 : Hid (Kp wr bx nm ac nu (.slice (some ⟨g2, 0, none⟩) L2.length c2) L2 (u2.setCell ⟨bx, 1, none⟩ (.slice (some ⟨g2, 0, none⟩) L2.length c2))) := P7.out
            clear P7 hH8
            generalize (u2.setCell ⟨bx, 1, none⟩ (.slice (some ⟨g2, 0, none⟩) L2.length c2)) = W9 at *
            obtain ⟨⟨q0, q1, q2, q3⟩, _, hbl9⟩ := P9.out.cells
            go_wp2_with fail
            (first | go_at_call 5 | skip)
            refine (HW.out _ L2 (some ⟨g2, 0, none⟩) c2 HOn2.out P9.out.reads).mono ?_
            rintro e w10 ⟨g10, cp10, rfl, _, hb10⟩
            obtain ⟨x1, x2, x3, x4, x5, e1, e2, e3, hfire, _⟩ := wt_yes HOn2.out HCan.out
            rw [e1, e2, e3]
            clear e1 e2 e3 q0 q1 q2 q3 hbl9
            have HFi : Hid (fireB [0, x1, x2, x3, x4, x5] L2 = true) := hfire
            have P10 : Hid (Kp wr bx nm ac nu (.slice (some ⟨g2, 0, none⟩) L2.length c2) L2 (w10.alloc (Obj.cells #[.int .i64 x1, .int .i64 x2, .int .i64 x3, .int .i64 x4, .int .i64 x5] 28))) := P9.out.later (chain hb10 (below_alloc _ _))
            have hlt10 : bx < w10.heap.size := (P9.out.later hb10).cells.2.2
            obtain ⟨⟨q0, q1, q2, q3⟩, _, _⟩ := (P9.out.later hb10).cells
            clear hb10 P9 hfire
            go_wp2_with fail
            (first | go_at_call 7 | skip)
            refine (HFr.out _ L2 (some ⟨g2, 0, none⟩) c2 x1 x2 x3 x4 x5 hl2 HAl2.out P10.out.reads).mono ?_
            rw [HFi.out]
            rintro e w11 ⟨rfl, hb11⟩
            have HK11 : Hid (Kp Wf bk nm ac nu (.slice (some ⟨gb, 0, none⟩) U.length cv) U w11) := HK.out.later (by rw [hbx]; exact (P10.out.later hb11).bel)
            clear q0 q1 q2 q3 hb11 P10
            go_wp2
            exact ⟨⟨i + 1, by omega, by go_num, HK11.out⟩, by simp [intOf]; omega⟩
          · have hle : (C.length : Int) ≤ (i : Int) := by omega
            have BW : Hid (Below w.heap.size w wr) := chain B1.out (chain BF.out (by rw [hszf]; exact HK.out.bel))
            have KW : Hid (K4 wr w1.heap.size nm ts.length ac nu g cp) := KF.out.below HK.out.bel hb5
            have RW : Hid (ReadsTm wr.heap.size wr g ts) := RF.out.later (by rw [hszf]; exact HK.out.bel)
            go_wp2_with fail
            (first | go_at_call 8 | skip)
            refine (HMo.out _ BW.out).mono ?_
            rintro e w12 ⟨g12, n12, cp12, x1, x2, x3, x4, x5, rfl, hin, hb12⟩
            have HNf : Hid (fireB [0, x1, x2, x3, x4, x5] ts = false) := by
              cases hf : fireB [0, x1, x2, x3, x4, x5] ts with
              | false => rfl
              | true =>
                have := fires_can (F := [0, x1, x2, x3, x4, x5]) rfl HAll.out hin hf
                rw [HNo.out] at this
                cases this
            obtain ⟨q0, q1, q2, q3⟩ := KW.out.later hb12
            have hq : w1.heap.size < w12.heap.size := (KW.out.later hb12).lt
            have R12 : Hid (ReadsTm (w12.alloc (Obj.cells #[.int .i64 x1, .int .i64 x2, .int .i64 x3, .int .i64 x4, .int .i64 x5] 28)).heap.size (w12.alloc (Obj.cells #[.int .i64 x1, .int .i64 x2, .int .i64 x3, .int .i64 x4, .int .i64 x5] 28)) g ts) := RW.out.later (chain hb12 (below_alloc _ _))
            have B12 : Hid (Below w.heap.size w (w12.alloc (Obj.cells #[.int .i64 x1, .int .i64 x2, .int .i64 x3, .int .i64 x4, .int .i64 x5] 28))) := chain BW.out (chain hb12 (below_alloc _ _))
            clear hin hb12 HK RW KW
            go_wp2_with fail
            (first | go_at_call 7 | skip)
            refine (HFr.out _ ts g cp x1 x2 x3 x4 x5 hl8 HAll.out R12.out).mono ?_
            rw [HNf.out]
            rintro e w13 ⟨rfl, hb13⟩
            go_wp2
            go_ret
            exact ⟨rfl, chain B12.out hb13⟩

theorem own : ownKnob Try.prog.godebug = none := by kernel_rfl
theorem laidOut : laidOutB Try.prog = true := by kernel_rfl

set_option maxRecDepth 100000 in
theorem lifted (os : Os) (started : os.Started) (H : Type) (enc : TypeId × Value → H) :
    ReturnsInHanded {} Try.checked os 3 .any (Rows.fnWitnessSpec.pre6 enc Try.prog Try.f3 Rows.fnWitnessRow.domain false) (Rows.fnWitnessSpec.post enc Try.prog Try.f3 false true false false) := by
  refine returnsInHanded_of_change (C := Try.checked) own started (by kernel_rfl) Try.func3
    (ChangeSpec.witness6 (enc := enc) (C := Try.checked) false ⟨#[], #[.slice none 0 0, .slice none 0 0], []⟩ 8 (by kernel_rfl) (by kernel_rfl) (by kernel_rfl) (by kernel_rfl)) ?_
  intro W base args ds gs before hval0 hW hcnd _
  have hval : ∀ (j : Nat) t v, Try.f3.params[j]? = some t → args[j]? = some v → Value.okWide Try.prog W .any base t v := hval0
  have hW' := hW
  obtain ⟨p, q, hA0, hV, rfl, hfz, hnd⟩ := hW
  have hA : DataW.TrodAll enc Try.prog W 0 (fun _ => true) true Try.f3.params.toList args.toList ds p := hA0
  rw [Try.params3] at hA hval
  obtain ⟨v0, vs0, d0, ds0, p0, q0, hargs, rfl, rfl, h0, r0⟩ := trodAll_cons hA
  obtain ⟨v1, vs1, d1, ds1, p1, q1, rfl, rfl, rfl, h1, r1⟩ := trodAll_cons r0
  obtain ⟨rfl, rfl, rfl⟩ := trodAll_nil r1
  obtain rfl : args = #[v0, v1] := by cases args; simp_all
  obtain ⟨rfl, rfl⟩ := trodVars_none hV
  have k0 := h0
  have lt0 : ∀ x ∈ p0, x.block < W.heap.size := by obtain ⟨m, hm⟩ := k0; exact DataW.trod_lt m _ _ _ hm
  have k1 := h1
  have lt1 : ∀ x ∈ p1, x.block < W.heap.size := by obtain ⟨m, hm⟩ := k1; exact DataW.trod_lt m _ _ _ hm
  obtain ⟨a0, len0, cap0, rfl⟩ := okWide_slice Try.underlying22 (hval 0 22 v0 rfl rfl)
  obtain ⟨z0, w0⟩ : ∃ zs, IsRow .u8 W a0 len0 cap0 zs := by
    obtain ⟨fuel, hf⟩ := h0
    rcases open_ints Try.underlying22 Try.underlying5 (by kernel_rfl) hf with ⟨hcs, _⟩ | ⟨x, l, c, zs, hcs, _, hl, hm, hz, _, hcell, hwz⟩
    · simp [Value.cells] at hcs
      obtain ⟨rfl, rfl, rfl⟩ := hcs
      exact ⟨[], .inl ⟨rfl, rfl, rfl, rfl⟩⟩
    · simp [Value.cells] at hcs
      obtain ⟨rfl, rfl, rfl⟩ := hcs
      exact ⟨zs, .inr ⟨_, rfl, hl, hm, by simpa using hz, hcell, hwz⟩⟩
  obtain ⟨a1, len1, cap1, rfl⟩ := okWide_slice Try.underlying22 (hval 1 22 v1 rfl rfl)
  obtain ⟨z1, w1⟩ : ∃ zs, IsRow .u8 W a1 len1 cap1 zs := by
    obtain ⟨fuel, hf⟩ := h1
    rcases open_ints Try.underlying22 Try.underlying5 (by kernel_rfl) hf with ⟨hcs, _⟩ | ⟨x, l, c, zs, hcs, _, hl, hm, hz, _, hcell, hwz⟩
    · simp [Value.cells] at hcs
      obtain ⟨rfl, rfl, rfl⟩ := hcs
      exact ⟨[], .inl ⟨rfl, rfl, rfl, rfl⟩⟩
    · simp [Value.cells] at hcs
      obtain ⟨rfl, rfl, rfl⟩ := hcs
      exact ⟨zs, .inr ⟨_, rfl, hl, hm, by simpa using hz, hcell, hwz⟩⟩
  clear hA0 hval0
  refine (walk a0 len0 cap0 z0 a1 len1 cap1 z1 W (rowB_of _ _ _ _ _ w0) (rowB_of _ _ _ _ _ w1)).mono fun e W' ⟨he, bel⟩ => ?_
  subst he
  exact ⟨_, rfl, _, _, _, [], _, [], hW', trodAll_mk1 (shut_bool Try.underlying4 _), (trodAll_cons_mk (Below.trod laidOut (by kernel_rfl) (of_decide_eq_true (by kernel_rfl)) k0 bel lt0) (trodAll_cons_mk (Below.trod laidOut (by kernel_rfl) (of_decide_eq_true (by kernel_rfl)) k1 bel lt1) trodAll_mk0)), rfl, bel.frame _, fun h => by cases h⟩

theorem over : Rows.fnWitnessRow.holds Try.pinned (OpenSpec.ofChange Rows.fnWitnessSpec) :=
  OpenClaim.holds_of_wide 3 Try.f3 rfl rfl rfl rfl rfl rfl rfl ⟨rfl, rfl, rfl, rfl, rfl⟩ rfl rfl rfl rfl rfl (by kernel_rfl) Try.func3 (by kernel_rfl)
    (of_decide_eq_true (by kernel_rfl)) (by unfold Func.isWrapper; first | (rw [if_pos (by decide +kernel)]; kernel_rfl) | (rw [if_neg (by decide +kernel)]; exact ⟨rfl, rfl⟩))
    (fun os started H enc _ => lifted os started H enc)
end FnWitness

theorem fnWitness_holds : Rows.FnWitnessSaid := FnWitness.over
end Go.Proofs.Ytfofdeenpcbglaa

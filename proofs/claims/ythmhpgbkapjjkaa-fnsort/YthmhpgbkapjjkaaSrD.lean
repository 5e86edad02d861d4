/-
  The belt runs until it is empty: each tick the lanes are emptied at their time, and the first parcel leaves.
-/
import Derived.Test.YthmhpgbkapjjkaaSrB
import Derived.Test.YthmhpgbkapjjkaaSrC
namespace Go.Proofs.Ythmhpgbkapjjkaa
open Go.ChangeShapes Go.WideShapes Go.ChangeAt Go.RowKit Go.Joins Go.Deep Go.Conc
set_option linter.unusedVariables false

theorem bfV_first (ps : List Int) (i r : Nat) (B : List (Nat × Nat)) : (bfV ps ((i, r) :: B)).getD 0 undef = .agg #[.int .i64 (i : Int), .int .i64 (ps.getD i 0), .int .i64 (r : Int)] ∧ (bfV ps ((i, r) :: B)).extract 1 (bfV ps ((i, r) :: B)).size = bfV ps B ∧ 0 < (bfV ps ((i, r) :: B)).size := by
  unfold bfV
  refine ⟨by simp, ?_, by simp⟩
  simp
  exact List.take_of_length_le (by simp)
theorem leave_tk (ls : List RLa) (ps : List Int) (i r : Nat) (σ : SrS) : (srLeave ls ps i r σ).tk = σ.tk := by
  unfold srLeave
  dsimp only
  split
  · rfl
  · split <;> rfl
/-- A round of the belt. -/
def RnI (B sb wb ob cb : Nat) (la : Option Addr) (lc : Nat) (ls : List RLa) (m wc oc : Nat) (ps : List Int) (fin : SrS) (w : World) (n : Nat) (a : Act) (W : World) : Prop :=
  ∃ u2 u3 u4 u5 u6 u7 u8 u9 u10 u11 u12 u13 u14 u15 u16 u17 u18 u19 u20 u21 u22 u23 u24 : Value, ∃ σ : SrS, a = ⟨#[.pointer (some ⟨sb, 0, none⟩), undef, u2, u3, u4, u5, u6, u7, u8, u9, u10, u11, u12, u13, u14, u15, u16, u17, u18, u19, u20, u21, u22, u23, u24], []⟩ ∧ SrOK ls m σ ∧ srEnd ls ps σ = fin ∧ wtB σ.belt = n ∧ SoS B sb wb ob cb la lc ls m wc oc ps σ W ∧ Below B w W
set_option maxHeartbeats 4000000 in
set_option maxRecDepth 4000 in
theorem run_any {B sb wb ob cb : Nat} {la : Option Addr} {lc : Nat} {ls : List RLa} {m wc oc : Nat} (ps : List Int) (hm : ps.length = m) (hm1 : m ≤ 100) (hls : lnsB ls = true) (h9 : ls.length ≤ 9) (hps : alB 0 ((ls.length : Int) - 1) ps = true) (σ : SrS) (hok : SrOK ls m σ) (w : World) (h : SoS B sb wb ob cb la lc ls m wc oc ps σ w) :
    Calls Try.prog 46 #[.pointer (some ⟨sb, 0, none⟩)] w fun e w' => e = .returned (.tuple #[]) ∧ (∃ F, SoS B sb wb ob cb la lc ls m wc oc ps { srEnd ls ps σ with full := F } w') ∧ Below B w w' := by
  obtain ⟨fin, hfin⟩ : ∃ fin, srEnd ls ps σ = fin := ⟨_, rfl⟩
  rw [hfin]
  have HEm : Hid (∀ (buf : Array Value) (full out rej : List Int) (tk rc : Int) (rg : Option Addr) (rk : Nat) (W : World), 0 ≤ tk ∧ tk ≤ 400 → SoI B sb wb ob cb la lc ls m wc oc buf full out rej tk rc rg rk W → Calls Try.prog 71 #[.pointer (some ⟨sb, 0, none⟩)] W fun e w' => e = .returned (.tuple #[]) ∧ SoI B sb wb ob cb la lc ls m wc oc buf (emK ls tk full ls.length) out rej tk rc rg rk w' ∧ Below B W w') := fun buf full out rej tk rc rg rk W h1 h2 => empty_any hls h9 h1 W h2
  have HLv : Hid (∀ (τ : SrS) (i r : Nat) (W : World), i < m → (∀ k, k < ls.length → 0 ≤ τ.full.getD k 0 ∧ τ.full.getD k 0 ≤ 100) → r ≤ 3 → (0 ≤ τ.tk ∧ τ.tk ≤ 400) → (0 ≤ τ.rc ∧ τ.rc ≤ 400) → τ.rej.length ≤ 100 → τ.belt.length < m → SoS B sb wb ob cb la lc ls m wc oc ps τ W → Calls Try.prog 72 #[.pointer (some ⟨sb, 0, none⟩), .agg #[.int .i64 (i : Int), .int .i64 (ps.getD i 0), .int .i64 (r : Int)]] W fun e w' => e = .returned (.tuple #[]) ∧ SoS B sb wb ob cb la lc ls m wc oc ps (srLeave ls ps i r τ) w' ∧ Below B W w') := fun τ i r W hi hf hr ht hc hj hb hs => by
    have hl := alB_get hps (k := i) (by omega)
    have hlv : 0 ≤ ps.getD i 0 ∧ ps.getD i 0 < (ls.length : Int) := by omega
    by_cases c1 : τ.full.getD (ps.getD i 0).toNat 0 < (ls.getD (ps.getD i 0).toNat zLa).rm
    · exact leave_in ps τ i r hi hlv hf hr ht hc hj hb W hs c1
    · by_cases c2 : r = 3
      · exact leave_out ps τ i r hi hlv hf hr ht hc hj hb W hs c1 c2
      · exact leave_round ps τ i r hi hlv hf hr ht hc hj hb W hs c1 c2
  have HOk : Hid (∀ (τ : SrS) (i r : Nat) (C : List (Nat × Nat)), SrOK ls m τ → τ.belt = (i, r) :: C → SrOK ls m (srStep ls ps i r C τ)) := fun τ i r C h1 h2 => step_ok hls hps hm h1 h2
  have HI0 : Hid (RnI B sb wb ob cb la lc ls m wc oc ps fin w (wtB σ.belt) ⟨#[.pointer (some ⟨sb, 0, none⟩), undef, undef, undef, undef, undef, undef, undef, undef, undef, undef, undef, undef, undef, undef, undef, undef, undef, undef, undef, undef, undef, undef, undef, undef], []⟩ w) := ⟨_, _, _, _, _, _, _, _, _, _, _, _, _, _, _, _, _, _, _, _, _, _, _, σ, rfl, hok, hfin, rfl, h, Below.refl _ _⟩
  clear h hok hfin hls hps h9
  refine calls_of_wpN Try.func46 rfl ?_
  simp only [Try.ntmps46, List.size_toArray, List.length_cons, List.length_nil, Nat.reduceAdd, Nat.reduceSub, Array.replicate_succ, Array.replicate_zero, List.push_toArray, List.append_toArray, List.nil_append, List.cons_append]
  refine wpN_block (wpN_loopG (RnI B sb wb ob cb la lc ls m wc oc ps fin w) (wtB σ.belt) HI0.out ?_)
  clear HI0
  intro n a W hI
  obtain ⟨u2, u3, u4, u5, u6, u7, u8, u9, u10, u11, u12, u13, u14, u15, u16, u17, u18, u19, u20, u21, u22, u23, u24, τ, rfl, hok, hfin, hn, hs, hb⟩ := hI
  have HOK : Hid (SrOK ls m τ) := hok
  have HF : Hid (srEnd ls ps τ = fin ∧ wtB τ.belt = n) := ⟨hfin, hn⟩
  have HB : Hid (Below B w W) := hb
  obtain ⟨rg, rk, hso⟩ := hs
  have HSo : Hid (SoI B sb wb ob cb la lc ls m wc oc (bfV ps τ.belt) τ.full τ.out τ.rej τ.tk τ.rc rg rk W) := hso
  have htk := hok.tk
  have hrc := hok.rc
  clear hok hfin hn hb hso
  refine wpN_block (wpN_seq_of ?_)
  go_wp2_with fail
  (first | go_at_call 71 | skip)
  refine (HEm.out _ _ _ _ _ _ _ _ W (by omega) HSo.out).mono ?_
  rintro e W1 ⟨rfl, hs1, hb1⟩
  have HS1 : Hid (SoI B sb wb ob cb la lc ls m wc oc (bfV ps τ.belt) (emK ls τ.tk τ.full ls.length) τ.out τ.rej τ.tk τ.rc rg rk W1) := hs1
  have HB1 : Hid (Below B w W1) := HB.out.trans hb1
  clear hs1 hb1 HSo HB HEm
  go_wp2
  obtain ⟨⟨f0, f1, f2, f3⟩, _, _⟩ := HS1.out.cells
  refine wpN_seq_of ?_
  go_wp2
  clear f0 f1 f2 f3
  refine wpN_seq (wpN_region ?_)
  change RunL _ _ _ [0, 1, 2] _ _
  obtain ⟨s0, t0, hch⟩ := HS1.out.chan
  have HCh : Hid (W1.heap[cb]? = some (.chan m (bfV ps τ.belt) false s0 t0 false)) := hch
  clear hch
  have hok2 := HOK.out
  cases hbt : τ.belt with
  | nil =>
    have HEn : Hid (∃ F, SoS B sb wb ob cb la lc ls m wc oc ps { fin with full := F } W1) := by
      have e := HF.out.1
      rw [end_nil hbt] at e
      refine ⟨emK ls τ.tk τ.full ls.length, rg, rk, ?_⟩
      rw [← e]
      exact HS1.out
    have hc : W1.heap[cb]? = some (.chan m #[] false s0 t0 false) := by
      have := HCh.out
      rw [hbt] at this
      exact this
    refine RunL.cons (OneTo.default (c := cb) (z := .agg #[.int .i64 0, .int .i64 0, .int .i64 0]) rfl (by kernel_rfl) (by simp [execOp, rcase, Act.eval]) hc) ?_
    try simp only [Act.put, List.setIfInBounds_toArray, List.set_cons_zero, List.set_cons_succ, List.getElem_toArray, List.getElem_cons_zero]
    refine RunL.cons (OneTo.val (w' := W1) (v := .int .i64 (-1)) rfl (by kernel_rfl) (by go_simp)) ?_
    try simp only [Act.put, List.setIfInBounds_toArray, List.set_cons_zero, List.set_cons_succ, List.getElem_toArray, List.getElem_cons_succ, List.getElem_cons_zero]
    refine RunL.cons (OneTo.val (w' := W1) (v := .bool false) rfl (by kernel_rfl) (by go_simp)) ?_
    try simp only [Act.put, List.setIfInBounds_toArray, List.set_cons_zero, List.set_cons_succ, List.getElem_toArray, List.getElem_cons_succ, List.getElem_cons_zero]
    refine RunL.nil ?_
    refine wpN_block (wpN_cond (t := false) rfl (wpN_of ?_))
    go_wp2
    refine bodyPost_ret (results_none rfl _ _ _) rfl ⟨rfl, HEn.out, HB1.out⟩
  | cons p C =>
    obtain ⟨i, r⟩ := p
    obtain ⟨v1, v2, v3⟩ := bfV_first ps i r C
    have hc : W1.heap[cb]? = some (.chan m (bfV ps ((i, r) :: C)) false s0 t0 false) := by
      have := HCh.out
      rw [hbt] at this
      exact this
    have HS2 : Hid (SoI B sb wb ob cb la lc ls m wc oc (bfV ps C) (emK ls τ.tk τ.full ls.length) τ.out τ.rej τ.tk τ.rc rg rk (W1.setChan cb m (bfV ps C) false s0 (t0 + 1) false) ∧ Below B W1 (W1.setChan cb m (bfV ps C) false s0 (t0 + 1) false)) := by
      have := HS1.out.send (bfV ps C) s0 (t0 + 1)
      exact this
    have HT : Hid (∃ τ2 : SrS, τ2 = { τ with belt := C, full := emK ls τ.tk τ.full ls.length }) := ⟨_, rfl⟩
    have hn1 : i < m := hok2.num (i, r) (by rw [hbt]; simp)
    have hr1 : r ≤ 3 := hok2.rd (i, r) (by rw [hbt]; simp)
    have hlen := hok2.len
    rw [hbt] at hlen
    simp only [List.length_cons] at hlen
    have hrl := hok2.rl
    have HP : Hid (i < m ∧ r ≤ 3 ∧ C.length < m ∧ τ.rej.length ≤ 100 ∧ τ.tk + 1 ≤ 400 ∧ (∀ k, k < ls.length → 0 ≤ (emK ls τ.tk τ.full ls.length).getD k 0 ∧ (emK ls τ.tk τ.full ls.length).getD k 0 ≤ 100)) := by
      refine ⟨hn1, hr1, by omega, by omega, ?_, fun k hk => em_bd hok2.fb ls.length k hk⟩
      have := hok2.tk
      rw [hbt] at this
      have hp := wt_pos (i := i) (B := C) hr1
      omega
    have HNx : Hid (SrOK ls m (srStep ls ps i r C τ) ∧ srEnd ls ps (srStep ls ps i r C τ) = fin ∧ wtB (srStep ls ps i r C τ).belt < n) := by
      refine ⟨HOk.out τ i r C hok2 hbt, ?_, ?_⟩
      · rw [← end_cons hok2.rd hbt]; exact HF.out.1
      · have := step_wt (ls := ls) (ps := ps) (B := C) (σ := τ) (i := i) hr1
        rw [← hbt, HF.out.2] at this
        exact this
    clear hn1 hr1 hlen hrl hok2 HOK HF HOk HS1 HCh
    refine RunL.cons (OneTo.first (c := cb) (z := .agg #[.int .i64 0, .int .i64 0, .int .i64 0]) rfl (by kernel_rfl) (by simp [execOp, rcase, Act.eval]) hc v3) ?_
    rw [v1, v2]
    clear hc v1 v2 v3
    have HB2 : Hid (Below B w (W1.setChan cb m (bfV ps C) false s0 (t0 + 1) false)) := HB1.out.trans HS2.out.2
    have HS3 : Hid (SoI B sb wb ob cb la lc ls m wc oc (bfV ps C) (emK ls τ.tk τ.full ls.length) τ.out τ.rej τ.tk τ.rc rg rk (W1.setChan cb m (bfV ps C) false s0 (t0 + 1) false)) := HS2.out.1
    clear HS2 HB1
    generalize W1.setChan cb m (bfV ps C) false s0 (t0 + 1) false = W2 at *
    try simp only [Act.put, List.setIfInBounds_toArray, List.set_cons_zero, List.set_cons_succ, List.getElem_toArray, List.getElem_cons_zero]
    refine RunL.cons (OneTo.val (w' := W2) (v := .int .i64 0) rfl (by kernel_rfl) (by go_simp)) ?_
    try simp only [Act.put, List.setIfInBounds_toArray, List.set_cons_zero, List.set_cons_succ, List.getElem_toArray, List.getElem_cons_succ, List.getElem_cons_zero]
    refine RunL.cons (OneTo.val (w' := W2) (v := .bool true) rfl (by kernel_rfl) (by go_simp)) ?_
    try simp only [Act.put, List.setIfInBounds_toArray, List.set_cons_zero, List.set_cons_succ, List.getElem_toArray, List.getElem_cons_succ, List.getElem_cons_zero]
    refine RunL.nil ?_
    refine wpN_block (wpN_cond (t := true) rfl (wpN_of ?_))
    simp only [if_true]
    obtain ⟨ln, hln⟩ : ∃ ln, ps.getD i 0 = ln := ⟨_, rfl⟩
    obtain ⟨W3, hW3⟩ : ∃ W3, W3 = W2.alloc (Obj.cells #[.int .i64 (i : Int), .int .i64 ln, .int .i64 (r : Int)] 92) := ⟨_, rfl⟩
    obtain ⟨pb, hpb⟩ : ∃ pb, pb = W2.heap.size := ⟨_, rfl⟩
    have HW3 : Hid (W3 = W2.alloc (Obj.cells #[.int .i64 (i : Int), .int .i64 ln, .int .i64 (r : Int)] 92) ∧ pb = W2.heap.size) := ⟨hW3, hpb⟩
    have hbx : W3.heap[pb]? = some (.cells #[.int .i64 (i : Int), .int .i64 ln, .int .i64 (r : Int)] 92 (0, 0)) := by rw [hW3, hpb]; exact heapNew _ _
    have HS4 : Hid (SoI B sb wb ob cb la lc ls m wc oc (bfV ps C) (emK ls τ.tk τ.full ls.length) τ.out τ.rej τ.tk τ.rc rg rk W3) := by
      show SoI _ _ _ _ _ _ _ _ _ _ _ _ _ _ _ _ _ _ _ _
      rw [hW3]; exact HS3.out.later (below_alloc _ _)
    have HB3 : Hid (Below B w W3) := by
      show Below _ _ _
      rw [hW3]; exact HB2.out.trans ((below_alloc _ _).mono (by have := HS3.out.lt; have := HS3.out.ge; omega))
    rw [hln]
    clear hW3 hpb HS3 HB2
    go_upto_region 4 with fail
    rw [← HW3.out.1, ← HW3.out.2]
    clear HW3
    have e0 := blkCell hbx 0 _ rfl
    have e1 := blkCell hbx 1 _ rfl
    have e2 := blkCell hbx 2 _ rfl
    simp only [List.getElem_toArray, List.getElem_cons_zero, List.getElem_cons_succ] at e0 e1 e2
    clear hbx
    go_wp2_with fail
    (first | go_at_call 72 | skip)
    clear e0 e1 e2
    rw [← hln]
    refine (HLv.out { τ with belt := C, full := emK ls τ.tk τ.full ls.length } i r W3 HP.out.1 HP.out.2.2.2.2.2 HP.out.2.1 (by have := HP.out.2.2.2.2.1; show 0 ≤ τ.tk ∧ τ.tk ≤ 400; omega) (by show 0 ≤ τ.rc ∧ τ.rc ≤ 400; omega) HP.out.2.2.2.1 HP.out.2.2.1 ⟨rg, rk, HS4.out⟩).mono ?_
    rintro e W4 ⟨rfl, ⟨rg2, rk2, hs4⟩, hb4⟩
    have HS5 : Hid (SoI B sb wb ob cb la lc ls m wc oc (bfV ps (srStep ls ps i r C τ).belt) (srStep ls ps i r C τ).full (srStep ls ps i r C τ).out (srStep ls ps i r C τ).rej τ.tk (srStep ls ps i r C τ).rc rg2 rk2 W4) := by
      have ht := leave_tk ls ps i r { τ with belt := C, full := emK ls τ.tk τ.full ls.length }
      rw [ht] at hs4
      exact hs4
    have HB4 : Hid (Below B w W4) := HB3.out.trans hb4
    have HTk : Hid ((srStep ls ps i r C τ).tk = τ.tk + 1) := by
      have ht := leave_tk ls ps i r { τ with belt := C, full := emK ls τ.tk τ.full ls.length }
      show (srLeave ls ps i r { τ with belt := C, full := emK ls τ.tk τ.full ls.length }).tk + 1 = _
      rw [ht]
    clear hs4 hb4 HS4 HB3 HLv
    obtain ⟨⟨f0, f1, f2, f3⟩, _, fz⟩ := HS5.out.cells
    have fz3 := fz 3
    have hwt : IntKind.i64.wrap (τ.tk + 1) = τ.tk + 1 := by have := HP.out.2.2.2.2.1; exact wrap_id _ (by omega) (by omega)
    clear fz
    go_wp2
    have h5 := HS5.out.setTk (τ.tk + 1)
    rw [← HTk.out] at h5
    rw [← HTk.out]
    exact ⟨_, HNx.out.2.2, _, _, _, _, _, _, _, _, _, _, _, _, _, _, _, _, _, _, _, _, _, _, _, srStep ls ps i r C τ, rfl, HNx.out.1, HNx.out.2.1, rfl, ⟨rg2, rk2, h5.1⟩, HB4.out.trans h5.2⟩
end Go.Proofs.Ythmhpgbkapjjkaa

/-
  The laws' markMatch and heldMatch.
-/
import Derived.Test.YtgjffmeafdpfhaaSxF
namespace Go.Proofs.Ytgjffmeafdpfhaa
open Go.ChangeShapes Go.WideShapes Go.ChangeAt Go.RowKit Go.Deep
set_option linter.unusedVariables false

theorem AnsG.withM {B n nm nb : Nat} {pv mv bv : Value} {vs : Nat → Value} {C : Nat → List Value} {Cm Cb Cm' : List Value} {W W' : World} (h : AnsG B n nm nb pv mv bv vs C Cm Cb W) (hf : Fr (fun q => mv.ownBlock = some q) W W') (hr : W'.ownsRow B 3 1 mv nm Cm') : AnsG B n nm nb pv mv bv vs C Cm' Cb W' :=
  ⟨row_of h.prow (fun q hq => hf.block q (row_lt h.prow q hq).2 (far_typ h.prow h.mrow (by decide) q hq)), fun i hi => row_of (h.each i hi) (fun q hq => hf.block q (row_lt (h.each i hi) q hq).2 (h.vm i hi q hq)), h.far, hr, row_of h.brow (fun q hq => hf.block q (row_lt h.brow q hq).2 (h.mb.symm q hq)), h.mb, h.vm, h.vb⟩
theorem AnsG.withB {B n nm nb : Nat} {pv mv bv : Value} {vs : Nat → Value} {C : Nat → List Value} {Cm Cb Cb' : List Value} {W W' : World} (h : AnsG B n nm nb pv mv bv vs C Cm Cb W) (hf : Fr (fun q => bv.ownBlock = some q) W W') (hr : W'.ownsRow B 3 1 bv nb Cb') : AnsG B n nm nb pv mv bv vs C Cm Cb' W' :=
  ⟨row_of h.prow (fun q hq => hf.block q (row_lt h.prow q hq).2 (far_typ h.prow h.brow (by decide) q hq)), fun i hi => row_of (h.each i hi) (fun q hq => hf.block q (row_lt (h.each i hi) q hq).2 (h.vb i hi q hq)), h.far, row_of h.mrow (fun q hq => hf.block q (row_lt h.mrow q hq).2 (h.mb q hq)), hr, h.mb, h.vm, h.vb⟩
def AnsK (B n nm nb : Nat) (pv mv bv : Value) (vs : Nat → Value) (k0 : Nat) (W : World) : Prop := AnsG B n nm nb pv mv bv vs (mkP k0) (mkV (k0 + n * 2) (nm * 1)) (mkV (k0 + n * 2 + nm * 1) (nb * 1)) W
set_option maxHeartbeats 4000000 in
theorem markMt_any {B n nm nb : Nat} (hn : n ≤ 1000) (hnm : nm ≤ 1000) (hnb : nb ≤ 1000) (df : Int) {pa ma ba : Option Addr} {pc mc bc : Nat} {vs : Nat → Value} {C : Nat → List Value} {Cm Cb : List Value} (k0 : Nat) (hk : k0 ≤ 1000000) (w : World) (h : AnsG B n nm nb (.slice pa n pc) (.slice ma nm mc) (.slice ba nb bc) vs C Cm Cb w) :
    Calls Try.prog 13 #[.agg #[.slice pa n pc, .slice ma nm mc, .slice ba nb bc, .int .i64 df], .int .i64 (k0 : Int)] w fun e w' => e = .returned (.int .i64 ((k0 + n * 2 + nm * 1 + nb * 1 : Nat) : Int)) ∧ Fr (AnsX n (.slice pa n pc) (.slice ma nm mc) (.slice ba nb bc) vs) w w' ∧ AnsK B n nm nb (.slice pa n pc) (.slice ma nm mc) (.slice ba nb bc) vs k0 w' := by
  obtain ⟨w0, hw0⟩ : ∃ w0, w0 = w.alloc (Obj.cells #[.slice pa n pc, .slice ma nm mc, .slice ba nb bc, .int .i64 df] 29) := ⟨_, rfl⟩
  have HW0 : Hid (w0 = w.alloc (Obj.cells #[.slice pa n pc, .slice ma nm mc, .slice ba nb bc, .int .i64 df] 29)) := hw0
  have hb0 : Below w.heap.size w w0 := by rw [hw0]; exact below_alloc _ _
  have hn0 : w0.heap[w.heap.size]? = some (.cells #[.slice pa n pc, .slice ma nm mc, .slice ba nb bc, .int .i64 df] 29 (0, 0)) := by rw [hw0]; exact heapNew _ _
  have HG : Hid (AnsG B n nm nb (.slice pa n pc) (.slice ma nm mc) (.slice ba nb bc) vs C Cm Cb w) := h
  have HX : Hid (∀ q, AnsX n (.slice pa n pc) (.slice ma nm mc) (.slice ba nb bc) vs q → q ≠ w.heap.size) := fun q hq => by have := (h.lt q hq).2; omega
  have HB0 : Hid (Below w.heap.size w w0 ∧ w0.heap[w.heap.size]? = some (.cells #[.slice pa n pc, .slice ma nm mc, .slice ba nb bc, .int .i64 df] 29 (0, 0))) := ⟨hb0, hn0⟩
  have HY : Hid (∀ W, Fr (AnsX n (.slice pa n pc) (.slice ma nm mc) (.slice ba nb bc) vs) w0 W → W.heap[w.heap.size]? = some (.cells #[.slice pa n pc, .slice ma nm mc, .slice ba nb bc, .int .i64 df] 29 (0, 0))) := fun W hW => (hW.block _ (blkLt hn0) (fun e => HX.out _ e rfl)).trans hn0
  have H1 := markPs_any hn k0 hk w0 (h.later hb0)
  clear hw0 hb0 hn0 h
  have HK1 : Hid (k0 + n * 2 ≤ 10000000) := by show _ ≤ _; omega
  generalize hK1 : k0 + n * 2 = K1 at *
  go_enter Try.func13, Try.ntmps13
  go_wp2_with fail
  (first | go_at_call 29 | skip)
  rw [← HW0.out]
  refine H1.mono ?_
  rintro e w1 ⟨rfl, hf1, hg1⟩
  have y1 : w1.cell? ⟨w.heap.size, 1, none⟩ = some (.slice ma nm mc) := blkCell (HY.out w1 hf1) 1 _ rfl
  have HF1 : Hid (Fr (AnsX n (.slice pa n pc) (.slice ma nm mc) (.slice ba nb bc) vs) w0 w1) := hf1
  have HG1 : Hid (AnsG B n nm nb (.slice pa n pc) (.slice ma nm mc) (.slice ba nb bc) vs (mkP k0) Cm Cb w1) := hg1
  have H2 := markIn_row B (.slice ma nm mc) nm (by omega) K1 (by have := HK1.out; omega) _ w1 hg1.mrow
  clear hf1 hg1 H1 HW0
  generalize hK2 : K1 + nm * 1 = K2 at *
  go_wp2_with fail
  (first | go_at_call 30 | skip)
  refine H2.mono ?_
  rintro e w2 ⟨rfl, hf2, hr2⟩
  have HF2 : Hid (Fr (AnsX n (.slice pa n pc) (.slice ma nm mc) (.slice ba nb bc) vs) w0 w2) := HF1.out.trans (hf2.mono (fun q hq => .inr (.inl hq)))
  have HG2 : Hid (AnsG B n nm nb (.slice pa n pc) (.slice ma nm mc) (.slice ba nb bc) vs (mkP k0) (mkV K1 (nm * 1)) Cb w2) := HG1.out.withM hf2 hr2
  have y2 : w2.cell? ⟨w.heap.size, 2, none⟩ = some (.slice ba nb bc) := blkCell (HY.out w2 HF2.out) 2 _ rfl
  have H3 := markIn_row B (.slice ba nb bc) nb (by omega) K2 (by have := HK1.out; omega) _ w2 HG2.out.brow
  clear hf2 hr2 HG1 HF1 H2 y1
  have HK2 : Hid (K1 + nm * 1 = K2) := hK2
  have HK0 : Hid (k0 + n * 2 = K1) := hK1
  clear hK1 hK2
  generalize hK3 : K2 + nb * 1 = K3 at *
  have HK3 : Hid (K2 + nb * 1 = K3) := hK3
  clear hK3
  go_wp2_with fail
  (first | go_at_call 30 | skip)
  refine H3.mono ?_
  rintro e w3 ⟨rfl, hf3, hr3⟩
  have HE : Hid (Fr (AnsX n (.slice pa n pc) (.slice ma nm mc) (.slice ba nb bc) vs) w w3 ∧ AnsK B n nm nb (.slice pa n pc) (.slice ma nm mc) (.slice ba nb bc) vs k0 w3) := by
    refine ⟨(Fr.of HB0.out.1).trans (HF2.out.trans (hf3.mono (fun q hq => .inr (.inr (.inl hq))))), ?_⟩
    unfold AnsK
    rw [HK0.out, HK2.out]
    exact HG2.out.withB hf3 hr3
  clear hf3 hr3 H3 HG2 HF2 y2
  go_wp2
  go_ret
  exact ⟨ret_int (by rw [← HK3.out, ← HK2.out]), HE.out.1, HE.out.2⟩
set_option maxHeartbeats 4000000 in
theorem heldMt_any {B n nm nb : Nat} (hn : n ≤ 1000) (hnm : nm ≤ 1000) (hnb : nb ≤ 1000) (df : Int) {pa ma ba : Option Addr} {pc mc bc : Nat} {vs : Nat → Value} (k0 : Nat) (hk : k0 ≤ 1000000) (w : World) (h : AnsK B n nm nb (.slice pa n pc) (.slice ma nm mc) (.slice ba nb bc) vs k0 w) :
    Calls Try.prog 14 #[.agg #[.slice pa n pc, .slice ma nm mc, .slice ba nb bc, .int .i64 df], .int .i64 (k0 : Int)] w fun e w' => e = .returned (.int .i64 ((k0 + n * 2 + nm * 1 + nb * 1 : Nat) : Int)) ∧ Below w.heap.size w w' := by
  unfold AnsK at h
  obtain ⟨w0, hw0⟩ : ∃ w0, w0 = w.alloc (Obj.cells #[.slice pa n pc, .slice ma nm mc, .slice ba nb bc, .int .i64 df] 29) := ⟨_, rfl⟩
  have HW0 : Hid (w0 = w.alloc (Obj.cells #[.slice pa n pc, .slice ma nm mc, .slice ba nb bc, .int .i64 df] 29)) := hw0
  have hb0 : Below w.heap.size w w0 := by rw [hw0]; exact below_alloc _ _
  have hn0 : w0.heap[w.heap.size]? = some (.cells #[.slice pa n pc, .slice ma nm mc, .slice ba nb bc, .int .i64 df] 29 (0, 0)) := by rw [hw0]; exact heapNew _ _
  have HB0 : Hid (Below w.heap.size w w0) := hb0
  have HY : Hid (∀ W, Below w0.heap.size w0 W → W.heap[w.heap.size]? = some (.cells #[.slice pa n pc, .slice ma nm mc, .slice ba nb bc, .int .i64 df] 29 (0, 0))) := fun W hW => (hW.block _ (blkLt hn0)).trans hn0
  have hK : k0 + n * 2 ≤ 10000000 := by omega
  have H1 := heldPs_any hn k0 hk w0 (h.later hb0)
  have H2 : Hid (∀ W, Below w0.heap.size w0 W → Calls Try.prog 32 #[.slice ma nm mc, .int .i64 ((k0 + n * 2 : Nat) : Int)] W fun e w' => e = .returned (.int .i64 ((k0 + n * 2 + nm * 1 : Nat) : Int)) ∧ Below W.heap.size W w') := fun W hW => heldIn_row B (.slice ma nm mc) nm (by omega) (k0 + n * 2) (by omega) W (h.later (chain hb0 hW)).mrow
  have H3 : Hid (∀ W, Below w0.heap.size w0 W → Calls Try.prog 32 #[.slice ba nb bc, .int .i64 ((k0 + n * 2 + nm * 1 : Nat) : Int)] W fun e w' => e = .returned (.int .i64 ((k0 + n * 2 + nm * 1 + nb * 1 : Nat) : Int)) ∧ Below W.heap.size W w') := fun W hW => heldIn_row B (.slice ba nb bc) nb (by omega) (k0 + n * 2 + nm * 1) (by omega) W (h.later (chain hb0 hW)).brow
  clear hw0 hb0 hn0 h hK
  generalize k0 + n * 2 = K1 at *
  generalize K1 + nm * 1 = K2 at *
  generalize K2 + nb * 1 = K3 at *
  have k1 : ¬ ((K1 : Int) < 0) := by omega
  have k2 : ¬ ((K2 : Int) < 0) := by omega
  have k3 : ¬ ((K3 : Int) < 0) := by omega
  go_enter Try.func14, Try.ntmps14
  go_wp2_with fail
  (first | go_at_call 31 | skip)
  rw [← HW0.out]
  refine H1.mono ?_
  rintro e w1 ⟨rfl, hb1⟩
  have HB1 : Hid (Below w0.heap.size w0 w1) := hb1
  have y1 : w1.cell? ⟨w.heap.size, 1, none⟩ = some (.slice ma nm mc) := blkCell (HY.out w1 hb1) 1 _ rfl
  clear hb1 H1 HW0
  go_wp2_with fail
  (first | go_at_call 32 | skip)
  refine (H2.out w1 HB1.out).mono ?_
  rintro e w2 ⟨rfl, hb2⟩
  have HB2 : Hid (Below w0.heap.size w0 w2) := chain HB1.out hb2
  have y2 : w2.cell? ⟨w.heap.size, 2, none⟩ = some (.slice ba nb bc) := blkCell (HY.out w2 HB2.out) 2 _ rfl
  clear hb2 H2 HB1 y1
  go_wp2_with fail
  (first | go_at_call 32 | skip)
  refine (H3.out w2 HB2.out).mono ?_
  rintro e w3 ⟨rfl, hb3⟩
  have HB3 : Hid (Below w.heap.size w w3) := chain HB0.out (chain HB2.out hb3)
  clear hb3 H3 HB2 y2
  go_wp2
  go_ret
  exact ⟨rfl, HB3.out⟩
end Go.Proofs.Ytgjffmeafdpfhaa

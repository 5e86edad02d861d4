/-
  The program's sell.
-/
import Derived.Test.YtlfcaijhlgldnaaKmN
import Derived.Test.YtlfcaijhlgldnaaKmO
namespace Go.Proofs.Ytlfcaijhlgldnaa
open Go.ChangeShapes Go.WideShapes Go.ChangeAt Go.RowKit Go.Deep
set_option linter.unusedVariables false

theorem slT_next {p : RSl → Bool} {m : Int} {L : List RSl} {k b : Nat} (h : ¬ (slT p m L k).1 ≤ 0) (hb : bs (slT p m L k).2.1 p (slT p m L k).2.1.length = some b) : slT p m L (k + 1) = ((slT p m L k).1 - ptN (slT p m L k).1 (slT p m L k).2.1 b, ptL (slT p m L k).1 (slT p m L k).2.1 b, (slT p m L k).2.2 + 1) := by
  rw [slT]
  unfold slS
  rw [if_neg h, hb]
set_option maxHeartbeats 8000000 in
theorem sell_any {B rb mb ub : Nat} {σ : StS} {ov : Value} {w : World} (h : Rn B rb mb ub σ ov w) (i : Nat) (hi' : i ≤ 1000) (hok : StOK i σ) (ar : ByteArray) (m : Int) :
    Calls Try.prog 39 #[.pointer (some ⟨rb, 0, none⟩), .string ar, .int .i64 m] w (ObP B rb mb ub ov w (selE σ ar m) (selN σ ar m) (selS σ ar m)) := by
  obtain ⟨W1, hW1⟩ : ∃ W1, W1 = w.alloc (Obj.cells #[.int .i64 0, .int .i64 0] 36) := ⟨_, rfl⟩
  have H1 : Hid (Below w.heap.size w W1 ∧ W1.heap[w.heap.size]? = some (.cells #[.int .i64 0, .int .i64 0] 36 (0, 0)) ∧ Rn B rb mb ub σ ov W1) := by rw [hW1]; exact ⟨below_alloc _ _, heapNew _ _, h.later (below_alloc _ _)⟩
  have HSt : Hid (StOK i σ) := hok
  clear h hok
  by_cases hm : m < 1
  · have e1 : selE σ ar m = 5 := if_pos hm
    have e2 : selN σ ar m = 0 := by unfold selN; rw [e1, if_neg (by omega)]
    have e3 : selS σ ar m = σ := by unfold selS; rw [e1, if_neg (by omega)]
    rw [e1, e2, e3]
    clear e1 e2 e3
    have y0 := blkCell H1.out.2.1 0 _ rfl
    have y1 := blkCell H1.out.2.1 1 _ rfl
    have z0 := blkFree H1.out.2.1 0
    have z1 := blkFree H1.out.2.1 1
    rw [hW1] at y0 y1 z0 z1
    obtain ⟨k1, k2, k3⟩ := obsEnd H1.out.2.2 H1.out.2.1 (.int .i64 5) (.int .i64 0)
    have HE : Hid (Rn B rb mb ub σ ov (w.alloc (Obj.cells #[.int .i64 5, .int .i64 0] 36)) ∧ Below w.heap.size w (w.alloc (Obj.cells #[.int .i64 5, .int .i64 0] 36))) := ⟨by
      refine H1.out.2.2.same (fun k hk => ?_)
      have hlt := H1.out.2.2.lt k hk
      have hne : k ≠ w.heap.size := fun e => H1.out.2.2.notX H1.out.2.1 (by decide) (by decide) (e ▸ hk)
      have hsz : W1.heap.size = w.heap.size + 1 := by rw [hW1]; simp
      rw [hW1]
      exact (Below.heap_alloc _ _ _ (by omega)).trans (Below.heap_alloc _ _ _ (by omega)).symm, below_alloc _ _⟩
    clear k1 k2 k3 y0 y1 z0 z1 hW1 H1
    go_enter Try.func39, Try.ntmps39
    go_wp2
    exact bodyPost_ret (v := .agg #[.int .i64 5, .int .i64 0]) (by simp [results, Try.results39, go_sem]) rfl (ObP.mk' (Fr.of HE.out.2) HE.out.1 rfl)
  have hm1 : 1 ≤ m := by omega
  have hE : selE σ ar m = selC σ ar m := if_neg hm
  have HAg := againstSale_any H1.out.2.2 HSt.out.len HSt.out.good ar m
  have HC0 : Hid (selC σ ar m = 0 → m ≤ uN (pS ar σ.day) σ.L) := fun hc => by
    unfold selC at hc
    by_cases q : m ≤ uN (pS ar σ.day) σ.L
    · exact q
    · rw [if_neg q] at hc
      split at hc
      · cases hc
      · split at hc <;> cases hc
  have HN : Hid (selN σ ar m = if selC σ ar m = 0 then (slK (pS ar σ.day) m σ.L : Int) else 0) := by show _ = _; unfold selN; rw [hE]
  have HS : Hid (selS σ ar m = if selC σ ar m = 0 then { σ with L := slL (pS ar σ.day) m σ.L, sd := σ.sd + m } else σ) := by show _ = _; unfold selS; rw [hE]
  rw [hE]
  clear hE
  generalize selN σ ar m = sn at *
  generalize selS σ ar m = ss at *
  generalize selC σ ar m = sc at *
  have HAg2 : Hid (Calls Try.prog 52 #[.pointer (some ⟨rb, 0, none⟩), .string ar, .int .i64 m] W1 fun e w' => e = .returned (.int .i64 sc) ∧ Fr (fun k => k = ub) W1 w' ∧ Rn B rb mb ub σ ov w') := HAg
  clear HAg
  go_enter Try.func39, Try.ntmps39
  go_wp2_with fail
  (first | go_at_call 52 | skip)
  rw [← hW1]
  clear hW1
  refine HAg2.out.mono ?_
  rintro e w2 ⟨rfl, hf2, hr2⟩
  have H2 : Hid (Rn B rb mb ub σ ov w2 ∧ w2.heap[w.heap.size]? = some (.cells #[.int .i64 0, .int .i64 0] 36 (0, 0)) ∧ Fr (RnX rb mb ub ov) w w2) := by
    refine ⟨hr2, (hf2.block _ (blkLt H1.out.2.1) (fun e => H1.out.2.2.notX H1.out.2.1 (by decide) (by decide) (.inr (.inr (.inl e))))).trans H1.out.2.1, (Fr.of H1.out.1).trans (hf2.mono (fun k hk => .inr (.inr (.inl hk))))⟩
  clear hf2 hr2 HAg2 H1
  by_cases hc : sc = 0
  · subst hc
    rw [if_pos rfl] at HN HS
    have hs := HC0.out rfl
    have iv := fun k => slT_inv (pS_nu ar σ.day) HSt.out.good HSt.out.dst (by omega : 0 ≤ m) hs k
    have hLl := HSt.out.len
    have hub := uN_bound (p := pS ar σ.day) HSt.out.good
    have hm2 : m ≤ 1000000000 := by omega
    have hpos : 0 < σ.L.length := by
      rcases Nat.eq_zero_or_pos σ.L.length with q | q
      · rw [q] at hub; omega
      · exact q
    obtain ⟨g, oc, rfl⟩ := row_some H2.out.1.ord hpos
    have HIv : Hid (∀ k, SlI (pS ar σ.day) m σ.L (slT (pS ar σ.day) m σ.L k)) := iv
    have HEd : Hid (∀ k, (slT (pS ar σ.day) m σ.L k).1 ≤ 0 → (slT (pS ar σ.day) m σ.L k).2.1 = slL (pS ar σ.day) m σ.L ∧ (slT (pS ar σ.day) m σ.L k).2.2 = slK (pS ar σ.day) m σ.L) := fun k hk => slT_end (pS_nu ar σ.day) HSt.out.good HSt.out.dst (by omega) hs hk
    clear HC0 iv hub hs
    go_wp2_with fail
    go_loopw [8, 9] (fun lo x wr => ∃ (k : Nat), lo = .int .i64 ((slT (pS ar σ.day) m σ.L k).2.2 : Int) ∧ x = .int .i64 (slT (pS ar σ.day) m σ.L k).1 ∧ Rn B rb mb ub { σ with L := (slT (pS ar σ.day) m σ.L k).2.1 } (.slice (some ⟨g, 0, none⟩) (slT (pS ar σ.day) m σ.L k).2.1.length oc) wr ∧ Fr (RnX rb mb ub (.slice (some ⟨g, 0, none⟩) σ.L.length oc)) w wr ∧ wr.heap[w.heap.size]? = some (.cells #[.int .i64 0, .int .i64 0] 36 (0, 0))) (fun _ x _ => (intOf x).toNat)
    case atStart => exact ⟨0, rfl, rfl, H2.out.1, H2.out.2.2, H2.out.2.1⟩
    case round =>
      obtain ⟨k, rfl, rfl, hR, hf, hob⟩ := hrel
      have iv := HIv.out k
      have hed := HEd.out k
      have hnx := fun b q1 q2 => slT_next (p := pS ar σ.day) (m := m) (L := σ.L) (k := k) (b := b) q1 q2
      have HNx : Hid (∀ b, ¬ (slT (pS ar σ.day) m σ.L k).1 ≤ 0 → bs (slT (pS ar σ.day) m σ.L k).2.1 (pS ar σ.day) (slT (pS ar σ.day) m σ.L k).2.1.length = some b → slT (pS ar σ.day) m σ.L (k + 1) = ((slT (pS ar σ.day) m σ.L k).1 - ptN (slT (pS ar σ.day) m σ.L k).1 (slT (pS ar σ.day) m σ.L k).2.1 b, ptL (slT (pS ar σ.day) m σ.L k).1 (slT (pS ar σ.day) m σ.L k).2.1 b, (slT (pS ar σ.day) m σ.L k).2.2 + 1)) := hnx
      have HEk : Hid ((slT (pS ar σ.day) m σ.L k).1 ≤ 0 → (slT (pS ar σ.day) m σ.L k).2.1 = slL (pS ar σ.day) m σ.L ∧ (slT (pS ar σ.day) m σ.L k).2.2 = slK (pS ar σ.day) m σ.L) := hed
      clear hnx hed H2
      generalize slT (pS ar σ.day) m σ.L k = s at *
      obtain ⟨ms, Lk, nk⟩ := s
      obtain ⟨i1, i2, i3, i4, i5, i6, i7, i8⟩ := iv
      dsimp only at HNx HEk i1 i2 i3 i4 i5 i6 i7 i8 hR ⊢
      have HSt2 : Hid (Rn B rb mb ub { σ with L := Lk } (.slice (some ⟨g, 0, none⟩) Lk.length oc) wr ∧ Fr (RnX rb mb ub (.slice (some ⟨g, 0, none⟩) σ.L.length oc)) w wr ∧ wr.heap[w.heap.size]? = some (.cells #[.int .i64 0, .int .i64 0] 36 (0, 0))) := ⟨hR, hf, hob⟩
      clear hR hf hob
      by_cases hms : ms ≤ 0
      · obtain ⟨hE1, hE2⟩ := HEk.out hms
        subst hE1
        subst hE2
        have hb := HSt.out.bal
        have hrc := HSt.out.top
        have hs0 := HSt.out.s0
        have hw0 := HSt.out.w0
        have hh0 := HSt.out.h0
        have hu0 := HSt.out.rc0.1
        have hws : IntKind.i64.wrap (σ.sd + m) = σ.sd + m := wrap_id _ (by omega) (by omega)
        have c2 := HSt2.out.1.at.c2
        have cf := HSt2.out.1.free 2
        dsimp only at c2
        have hne : w.heap.size ≠ rb := fun e => (HSt2.out.1.notX HSt2.out.2.2 (by decide) (by decide)) (.inl e)
        have HD : Hid (Rn B rb mb ub { σ with L := slL (pS ar σ.day) m σ.L, sd := σ.sd + m } (.slice (some ⟨g, 0, none⟩) (slL (pS ar σ.day) m σ.L).length oc) (wr.setCell ⟨rb, 2, none⟩ (.int .i64 (σ.sd + m))) ∧ (wr.setCell ⟨rb, 2, none⟩ (.int .i64 (σ.sd + m))).heap[w.heap.size]? = some (.cells #[.int .i64 0, .int .i64 0] 36 (0, 0)) ∧ Fr (RnX rb mb ub (.slice (some ⟨g, 0, none⟩) σ.L.length oc)) w (wr.setCell ⟨rb, 2, none⟩ (.int .i64 (σ.sd + m)))) := by
          obtain ⟨k1, k2, k3⟩ := HSt2.out
          exact ⟨k1.setSd (σ.sd + m), (Below.heap_setCell _ _ _ _ hne).trans k3, k2.set (b := rb) (.inl rfl) _ _⟩
        have y0 := blkCell HD.out.2.1 0 _ rfl
        have y1 := blkCell HD.out.2.1 1 _ rfl
        have z0 := blkFree HD.out.2.1 0
        have z1 := blkFree HD.out.2.1 1
        clear HSt2 HNx HEk HIv HEd i3 i4 i5 i6 i7
        go_wp2
        obtain ⟨k1, k2, k3⟩ := obsEnd HD.out.1 HD.out.2.1 (.int .i64 0) (.int .i64 (slK (pS ar σ.day) m σ.L : Int))
        have kf := HD.out.2.2.far2 k3 (Nat.le_refl _)
        generalize ((wr.setCell ⟨rb, 2, none⟩ (.int .i64 (σ.sd + m))).setCell ⟨w.heap.size, 0, none⟩ (.int .i64 0)).setCell ⟨w.heap.size, 1, none⟩ (.int .i64 (slK (pS ar σ.day) m σ.L : Int)) = W9 at *
        have p0 := blkCell k2 0 _ rfl
        have p1 := blkCell k2 1 _ rfl
        refine bodyPost_ret (v := .agg #[.int .i64 0, .int .i64 (slK (pS ar σ.day) m σ.L : Int)]) (by simp [results, Try.results39, go_sem, p0, p1]) rfl ⟨by rw [HN.out], kf, _, by rw [HS.out]; exact k1, fun q hq => .inl ?_⟩
        exact hq
      · obtain ⟨b, hb, hbl, hpb⟩ := bs_there (p := pS ar σ.day) (L := Lk) (by omega)
        have f := pt_facts (pS_nu ar σ.day) i4 i5 (by omega : 1 ≤ ms) hbl hpb
        have f1 := f.one
        have f2 := f.le
        have HNx2 : Hid (slT (pS ar σ.day) m σ.L (k + 1) = (ms - ptN ms Lk b, ptL ms Lk b, nk + 1)) := HNx.out b hms hb
        have HTf := takeFirst_any (σ := { σ with L := Lk }) HSt2.out.1 (by dsimp only; omega) i4 i5 ar ms (by omega) (by omega) hb
        dsimp only at HTf
        have hmp : 0 < ms := by omega
        clear hms HNx HEk i3 i4 i5 i7 f hb hpb hbl
        generalize ptN ms Lk b = pn at *
        generalize ptL ms Lk b = pl at *
        have HTf2 : Hid (Calls Try.prog 53 #[.pointer (some ⟨rb, 0, none⟩), .string ar, .int .i64 ms] wr fun e w' => e = .returned (.int .i64 pn) ∧ Fr (RnX rb mb ub (.slice (some ⟨g, 0, none⟩) Lk.length oc)) wr w' ∧ Rn B rb mb ub { σ with L := pl } (.slice (some ⟨g, 0, none⟩) pl.length oc) w') := HTf
        clear HTf
        go_wp2_with fail
        (first | go_at_call 53 | skip)
        refine HTf2.out.mono ?_
        rintro e w5 ⟨rfl, hf5, hr5⟩
        have HE : Hid (Rn B rb mb ub { σ with L := pl } (.slice (some ⟨g, 0, none⟩) pl.length oc) w5 ∧ Fr (RnX rb mb ub (.slice (some ⟨g, 0, none⟩) σ.L.length oc)) w w5 ∧ w5.heap[w.heap.size]? = some (.cells #[.int .i64 0, .int .i64 0] 36 (0, 0))) := ⟨hr5, HSt2.out.2.1.trans hf5, (hf5.block _ (blkLt HSt2.out.2.2) (HSt2.out.1.notX HSt2.out.2.2 (by decide) (by decide))).trans HSt2.out.2.2⟩
        clear hf5 hr5 HTf2 HSt2
        go_wp2
        refine ⟨⟨k + 1, by rw [HNx2.out]; go_num, by rw [HNx2.out], ?_⟩, by simp [intOf]; omega⟩
        rw [HNx2.out]
        exact HE.out
  · have hc1 : (sc != 0) = true := by simpa using hc
    rw [if_neg hc] at HN HS
    have y0 := blkCell H2.out.2.1 0 _ rfl
    have y1 := blkCell H2.out.2.1 1 _ rfl
    have z0 := blkFree H2.out.2.1 0
    have z1 := blkFree H2.out.2.1 1
    clear HC0
    go_wp2
    obtain ⟨k1, k2, k3⟩ := obsEnd H2.out.1 H2.out.2.1 (.int .i64 sc) (.int .i64 0)
    have kf := H2.out.2.2.far2 k3 (Nat.le_refl _)
    generalize (w2.setCell ⟨w.heap.size, 0, none⟩ (.int .i64 sc)).setCell ⟨w.heap.size, 1, none⟩ (.int .i64 0) = W9 at *
    have p0 := blkCell k2 0 _ rfl
    have p1 := blkCell k2 1 _ rfl
    exact bodyPost_ret (v := .agg #[.int .i64 sc, .int .i64 0]) (by simp [results, Try.results39, go_sem, p0, p1]) rfl (ObP.mk' kf (by rw [HS.out]; exact k1) (by rw [HN.out]))
end Go.Proofs.Ytlfcaijhlgldnaa

/-
  Contract of the program's Unpack, for every list of packs and number of units.
-/
import Derived.Test.YtaledfdhiimhdaaUnpackA
namespace Go.Proofs.Ytaledfdhiimhdaa
open Go.ChangeShapes Go.WideShapes Go.ChangeAt Go.RowKit
set_option linter.unusedVariables false

theorem pkGo_ok (ps : List Pk) : ∀ (r k : Nat) (L : List Int), L.length = k → k + r = ps.length → UnOK L → (pkGo ps r k L).2.1 = 0 → (pkGo ps r k L).1.length = ps.length ∧ UnOK (pkGo ps r k L).1
  | 0, k, L, hl, hr, hb, h => ⟨by show L.length = _; omega, hb⟩
  | r + 1, k, L, hl, hr, hb, h => by
    unfold pkGo at h ⊢
    by_cases hc : (pkRes (ps.take k) L (ps.getD k pk0)).2 = 0
    · rw [if_pos hc] at h ⊢
      obtain ⟨h1, h2⟩ := pkRes_bound (ps.take k) L (ps.getD k pk0) hb (by rw [List.length_take]; omega) hc
      exact pkGo_ok ps r (k + 1) _ (by simp; omega) (by omega) (push_bound hb h1 h2) h
    · rw [if_neg hc] at h; exact absurd h hc
theorem pkAll_ok {ps : List Pk} (h : (pkAll ps).2.1 = 0) : (pkAll ps).1.length = ps.length ∧ UnOK (pkAll ps).1 := by
  unfold pkAll at h ⊢
  split at h
  · cases h
  · split at h
    · cases h
    · rename_i h1 h2
      rw [if_neg h1, if_neg h2]
      exact pkGo_ok ps ps.length 0 [] rfl (by omega) (by intro x hx; simp at hx) h

/-- What Unpack answers: how many of each, what is left, the code. -/
def unAll (ps : List Pk) (n : Int) : List Int × Int × Int :=
  if (pkAll ps).2.1 = 0 then (if 0 ≤ n ∧ n ≤ 1000000 then ((upAll (pkAll ps).1 n).1, (upAll (pkAll ps).1 n).2, 0) else ([], 0, 5)) else ([], 0, (pkAll ps).2.1)
def UnPost (ps : List Pk) (n : Int) (B : Nat) (w : World) (e : Ending) (w' : World) : Prop :=
  ∃ g cp, e = .returned (.tuple #[.slice g (unAll ps n).1.length cp, .int .i64 (unAll ps n).2.1, .int .i64 (unAll ps n).2.2]) ∧ Own2 B w' g (unAll ps n).1 ∧ Below B w w'
theorem UnPost.mk {ps : List Pk} {n : Int} {B : Nat} {w w' : World} {L : List Int} {l c : Int} (h : unAll ps n = (L, l, c)) {g : Option Addr} {m cp : Nat} (hn : m = L.length) (ho : Own2 B w' g L) (hb : Below B w w') : UnPost ps n B w (.returned (.tuple #[.slice g m cp, .int .i64 l, .int .i64 c])) w' := by
  subst hn
  exact ⟨g, cp, by rw [h], by rw [h]; exact ho, hb⟩

/-- All that was taken of a size is of one that does not fit any more. -/
def Taken (L out : List Int) (left : Int) : Prop := out.length = L.length ∧ ∀ i, i < L.length → L.getD i 0 ≤ left → out.getD i 0 = 0

theorem ediv_bound' (a b : Int) (hb : 1 ≤ b) (k : Int) (h : -k ≤ a) (h' : a ≤ k) : -k ≤ a / b ∧ a / b ≤ k := by
  have hk : 0 ≤ k := by omega
  have h6 : 1 * k ≤ b * k := Int.mul_le_mul_of_nonneg_right hb hk
  constructor
  · exact Int.le_ediv_of_mul_le (by omega) (by rw [Int.neg_mul, Int.mul_comm]; omega)
  · have h7 : a < (k + 1) * b := by rw [Int.add_mul, Int.mul_comm]; omega
    have := Int.ediv_lt_of_lt_mul (by omega) h7
    omega
theorem upGo_step (L : List Int) (f : Nat) (left : Int) (out : List Int) : upGo L (f + 1) left out = if gw L left < 0 then (out, left) else upGo L f (left % L.getD (gw L left).toNat 0) (out.set (gw L left).toNat (out.getD (gw L left).toNat 0 + left / L.getD (gw L left).toNat 0)) := rfl
theorem getD_set' (l : List Int) (i j : Nat) (x : Int) (h : j < l.length) : (l.set i x).getD j 0 = if i = j then x else l.getD j 0 := by
  simp only [List.getD_eq_getElem?_getD, List.getElem?_set]
  by_cases e : i = j
  · subst e; simp [h]
  · simp [e]
theorem Taken.step {L out : List Int} {left x : Int} {k : Nat} (h : Taken L out left) (hk : k < L.length) (hx : L.getD k 0 = x) (hx1 : 1 ≤ x) (h0 : 0 ≤ left) (hle : x ≤ left) (v : Int) : Taken L (out.set k v) (left % x) := by
  refine ⟨by rw [List.length_set]; exact h.1, fun i hi hl => ?_⟩
  have hm := Int.emod_lt_of_pos left (b := x) (by omega)
  have hm' : left % x ≤ left := by
    have := Int.emod_add_ediv_mul left x
    have h2 : 0 ≤ left / x * x := Int.mul_nonneg (Int.ediv_nonneg h0 (by omega)) (by omega)
    omega
  rw [getD_set' _ _ _ _ (by rw [h.1]; exact hi)]
  by_cases e : k = i
  · subst e; omega
  · rw [if_neg e]; exact h.2 i hi (by omega)
/-- Where the loop of Unpack is: counts lie in block D. -/
def UnInv (L : List Int) (n : Int) (w1 : World) (D : Nat) (left : Int) (wr : World) : Prop :=
  ∃ (f : Nat) (out : List Int), left.toNat ≤ f ∧ upAll L n = upGo L f left out ∧ Taken L out left ∧ wr.rowIs D 3 L.length (fun i => .int .i64 (out.getD i 0)) ∧ Below D w1 wr
theorem UnInv.done {L : List Int} {n : Int} {w1 : World} {D : Nat} {left : Int} {wr : World} (h : UnInv L n w1 D left wr) (hg : gw L left < 0) : ∃ out, upAll L n = (out, left) ∧ out.length = L.length ∧ wr.rowIs D 3 L.length (fun i => .int .i64 (out.getD i 0)) ∧ Below D w1 wr := by
  obtain ⟨f, out, hf, he, ht, hr, hb⟩ := h
  refine ⟨out, ?_, ht.1, hr, hb⟩
  rw [he]
  cases f with
  | zero => rfl
  | succ f => unfold upGo; rw [if_pos hg]
theorem UnInv.next {L : List Int} {n : Int} {w1 : World} {D : Nat} {left x : Int} {wr : World} {k : Nat} (h : UnInv L n w1 D left wr) (hg : gw L left = (k : Int)) (hk : k < L.length) (hx : L.getD k 0 = x) (hx1 : 1 ≤ x) (h0 : 0 ≤ left) (hle : x ≤ left) :
    UnInv L n w1 D (left % x) (wr.setCell ⟨D, k, none⟩ (.int .i64 (left / x))) ∧ wr.cell? ⟨D, k, none⟩ = some (.int .i64 0) ∧ wr.frozen? ⟨D, k, none⟩ = false := by
  obtain ⟨f, out, hf, he, ht, hr, hb⟩ := h
  have h00 : out.getD k 0 = 0 := ht.2 k hk (by omega)
  refine ⟨?_, by rw [hr.cell hk, h00], hr.frozen k⟩
  obtain ⟨f', rfl⟩ : ∃ f', f = f' + 1 := ⟨f - 1, by omega⟩
  have hm := Int.emod_lt_of_pos left (b := x) (by omega)
  have hm0 := Int.emod_nonneg left (b := x) (by omega)
  refine ⟨f', out.set k (left / x), by omega, ?_, ht.step hk hx hx1 h0 hle _, ?_, hb.setCell (Nat.le_refl _) _⟩
  · rw [he]
    rw [upGo_step, if_neg (by omega), hg, Int.toNat_natCast, hx, h00, Int.zero_add]
  · refine (hr.set k _).congr fun i hi => ?_
    rw [getD_set' _ _ _ _ (by rw [ht.1]; exact hi)]
    by_cases e : i = k
    · rw [if_pos e, if_pos e.symm]
    · rw [if_neg e, if_neg (Ne.symm e)]
theorem UnInv.start {L : List Int} {n : Int} {w1 w2 : World} {D : Nat} (hr : w2.rowIs D 3 L.length (fun _ => .int .i64 0)) (hb : Below D w1 w2) : UnInv L n w1 D n w2 := by
  have hg : ∀ i, (List.replicate L.length (0 : Int)).getD i 0 = 0 := fun i => by
    by_cases h : i < L.length
    · simp [List.getD_eq_getElem?_getD, h]
    · simp [List.getD_eq_getElem?_getD, List.getElem?_eq_none (show (List.replicate L.length (0 : Int)).length ≤ i by simp; omega)]
  exact ⟨n.toNat, List.replicate L.length 0, Nat.le_refl _, rfl, ⟨by simp, fun i _ _ => hg i⟩, hr.congr fun i hi => by rw [hg i], hb⟩


set_option maxHeartbeats 4000000 in
theorem implUnpack_any (a : Option Addr) (cap : Nat) (ps : List Pk) (n : Int) (hl : ps.length ≤ 100000000) (hcap : ps.length ≤ cap) (hp : ∀ p ∈ ps, PkOK p) (B : Nat) (w : World) (hBw : w.heap.size = B) (hr : ReadsP B w a ps) :
    Calls Try.prog 17 #[.slice a ps.length cap, .int .i64 n] w (UnPost ps n B w) := by
  have hI := (implPack_any a cap ps hl hcap hp B w hBw hr).mono (fun e w' h => (show ∃ g cp, e = .returned (.tuple #[.slice g (pkAll ps).1.length cp, .int .i64 (pkAll ps).2.1, .string (pkAll ps).2.2]) ∧ Own2 B w' g (pkAll ps).1 ∧ Below B w w' from h))
  clear hr hp
  by_cases hc : (pkAll ps).2.1 = 0
  · obtain ⟨hL, hU⟩ := pkAll_ok hc
    have HU : Hid (UnOK (pkAll ps).1) := hU
    have HE : Hid (unAll ps n = if 0 ≤ n ∧ n ≤ 1000000 then ((upAll (pkAll ps).1 n).1, (upAll (pkAll ps).1 n).2, 0) else ([], 0, 5)) := by show _ = _; unfold unAll; rw [if_pos hc]
    rw [hc] at hI
    have hl' : (pkAll ps).1.length ≤ 100000000 := by omega
    clear hc hL hU
    generalize (pkAll ps).1 = L at *
    generalize (pkAll ps).2.2 = s at *
    by_cases hn : 0 ≤ n ∧ n ≤ 1000000
    · rw [if_pos hn] at HE
      obtain ⟨hn0, hn1⟩ := hn
      have hmk := fun w => run_make_row' (P := Try.prog) 23 3 (.int .i64 0) 8 Try.underlying23 intInfo rfl .i64 .i64 L.length (by omega) (by omega) w
      go_enter Try.func17, Try.ntmps17
      go_wp2_with (go_at_call 14; refine hI.mono ?_; rintro e w1 ⟨g, cp, rfl, ho1, hb1⟩; have HO1 : Hid (Own2 B w1 g L) := ho1; have B1 : Hid (Below B w w1) := hb1; clear ho1 hb1)
      have hgw := fun m w h => greatest_any g cp L m hl' w h
      have HRd : Hid (∀ w', Below w1.heap.size w1 w' → Reads w'.heap.size w' g L) := fun w' hb => (HO1.out.reads.below hb).mono hb.size
      refine (hgw n _ (HRd.out _ (below_alloc _ _))).mono ?_
      rintro e w2 ⟨rfl, hw2⟩
      have HM : Hid (w2.rowIs w1.heap.size 3 L.length (fun _ => .int .i64 0)) := by
        show w2.rowIs _ _ _ _
        rw [hw2]; exact World.rowIs_made w1 (.int .i64 0) L.length 3
      have HB2 : Hid (Below w1.heap.size w1 w2) := by show Below _ _ _; rw [hw2]; exact below_alloc _ _
      have HDB : Hid (B ≤ w1.heap.size) := by have := B1.out.size; show _ ≤ _; omega
      clear hw2 hmk
      obtain ⟨D, hD⟩ : ∃ D, w1.heap.size = D := ⟨_, rfl⟩
      have HDs : Hid (w1.heap.size = D) := hD
      rw [hD] at HM HB2 HDB HRd ⊢
      clear hD
      go_wp2
      go_loopw [11, 12] (fun l t wr => ∃ left : Int, l = .int .i64 left ∧ t = .int .i64 (gw L left) ∧ 0 ≤ left ∧ left ≤ 1000000 ∧ UnInv L n w1 D left wr) (fun l _ _ => (intOf l).toNat)
      case atStart => exact ⟨n, rfl, rfl, hn0, hn1, UnInv.start HM.out HB2.out⟩
      case round =>
        clear HM HB2
        obtain ⟨left, rfl, rfl, hl0, hl1, hinv⟩ := hrel
        have HI : Hid (UnInv L n w1 D left wr) := hinv
        clear hinv
        rcases gw_ok L left with e | ⟨e1, e2, e3⟩
        · obtain ⟨out, he, hol, hrow, hbl⟩ := HI.out.done (by omega)
          have HF : Hid (unAll ps n = (out, left, 0)) := by show _ = _; rw [HE.out, he]
          have HRow : Hid (wr.rowIs D 3 L.length (fun i => .int .i64 (out.getD i 0))) := hrow
          have HBl : Hid (Below D w1 wr) := hbl
          have HOl : Hid (out.length = L.length) := hol
          clear he hol hrow hbl
          rw [e]
          clear e
          go_wp2
          go_ret3
          refine UnPost.mk HF.out HOl.out.symm ?_ (B1.out.trans (HBl.out.mono HDB.out))
          exact .inr ⟨D, rfl, HDB.out, HRow.out.lt, fun i hi => by rw [Nat.zero_add]; exact HRow.out.cell (by have := HOl.out; omega), fun i hi => by rw [Nat.zero_add]; exact HRow.out.frozen i⟩
        · obtain ⟨k, hk⟩ : ∃ k : Nat, gw L left = (k : Int) := ⟨(gw L left).toNat, by omega⟩
          rw [hk] at e1 e2 e3
          rw [Int.toNat_natCast] at e3
          have hkL : k < L.length := by omega
          obtain ⟨x1, x2⟩ := getD_bound HU.out k hkL
          obtain ⟨n1, n2, n3⟩ := HI.out.next hk hkL rfl x1 hl0 e3
          have HN : Hid (UnInv L n w1 D (left % L.getD k 0) (wr.setCell ⟨D, k, none⟩ (.int .i64 (left / L.getD k 0)))) := n1
          obtain ⟨f0, out0, _, _, _, _, hbD⟩ := HI.out
          have HbD : Hid (Below D w1 wr) := hbD
          have HbN : Hid (Below D w1 (wr.setCell ⟨D, k, none⟩ (.int .i64 (left / L.getD k 0)))) := hbD.setCell (Nat.le_refl _) _
          rcases HO1.out with h | ⟨bg, hg, hBg, hlg, ig, _⟩
          · rw [h] at hkL; simp at hkL
          have hlgD : bg < D := by have := HDs.out; omega
          have c0 : wr.cell? ⟨bg, k, none⟩ = some (.int .i64 (L.getD k 0)) := by
            have := (ig.below HbD.out hlgD) k hkL
            rwa [Nat.zero_add] at this
          have c1 : (wr.setCell ⟨D, k, none⟩ (.int .i64 (left / L.getD k 0))).cell? ⟨bg, k, none⟩ = some (.int .i64 (L.getD k 0)) := by
            have := (ig.below HbN.out hlgD) k hkL
            rwa [Nat.zero_add] at this
          have HRd2 : Hid (Reads (wr.setCell ⟨D, k, none⟩ (.int .i64 (left / L.getD k 0))).heap.size (wr.setCell ⟨D, k, none⟩ (.int .i64 (left / L.getD k 0))) g L) := HRd.out _ HbN.out
          have hkL' : (k : Int) < (L.length : Int) := by omega
          have htd : left.tdiv (L.getD k 0) = left / L.getD k 0 := Int.tdiv_eq_ediv_of_nonneg hl0
          have htm : left.tmod (L.getD k 0) = left % L.getD k 0 := Int.tmod_eq_emod_of_nonneg hl0
          obtain ⟨hq1, hq2⟩ := ediv_bound' left (L.getD k 0) x1 1000000 (by omega) (by omega)
          have hm0 := Int.emod_nonneg left (b := L.getD k 0) (by omega)
          have hm1 := Int.emod_lt_of_pos left (b := L.getD k 0) (by omega)
          have hg2 := hgw (left % L.getD k 0)
          rw [hk]
          rw [hg] at HRd2 hg2 ⊢
          clear n1 hbD ig e1 hk
          generalize L.getD k 0 = x at *
          go_wp2_with (go_at_call 41; refine (hg2 _ HRd2.out).mono ?_; rintro e w5 ⟨rfl, hw5⟩; rw [hw5]; clear hw5)
          exact ⟨⟨left % x, rfl, rfl, hm0, by omega, HN.out⟩, by simp [intOf]; omega⟩
    · rw [if_neg hn] at HE
      by_cases h0 : n < 0
      · clear hn
        go_enter Try.func17, Try.ntmps17
        go_wp2_with (go_at_call 14; refine hI.mono ?_; rintro e w1 ⟨g, cp, rfl, ho1, hb1⟩; have B1 : Hid (Below B w w1) := hb1; clear ho1 hb1)
        go_ret3
        exact UnPost.mk HE.out rfl (.inl rfl) B1.out
      · have h1 : 1000000 < n := by omega
        clear hn
        go_enter Try.func17, Try.ntmps17
        go_wp2_with (go_at_call 14; refine hI.mono ?_; rintro e w1 ⟨g, cp, rfl, ho1, hb1⟩; have B1 : Hid (Below B w w1) := hb1; clear ho1 hb1)
        go_ret3
        exact UnPost.mk HE.out rfl (.inl rfl) B1.out
  · have HE : Hid (unAll ps n = ([], 0, (pkAll ps).2.1)) := by show _ = _; unfold unAll; rw [if_neg hc]
    have hc' : ((pkAll ps).2.1 != 0) = true := by simpa using hc
    clear hc
    generalize (pkAll ps).2.1 = c at *
    generalize (pkAll ps).1 = L at *
    generalize (pkAll ps).2.2 = s at *
    go_enter Try.func17, Try.ntmps17
    go_wp2_with (go_at_call 14; refine hI.mono ?_; rintro e w1 ⟨g, cp, rfl, ho1, hb1⟩; have B1 : Hid (Below B w w1) := hb1; clear ho1 hb1)
    go_ret3
    exact UnPost.mk HE.out rfl (.inl rfl) B1.out

end Go.Proofs.Ytaledfdhiimhdaa

/-
  The laws' own eqUseS, eqBargain; a list of uses that came in, opened.
-/
import Derived.Test.YtlnhnocegfnllaaUsE
import Derived.Test.YtlnhnocegfnllaaDlF
namespace Go.Proofs.Ytlnhnocegfnllaa
open Go.ChangeShapes Go.WideShapes Go.ChangeAt Go.RowKit Go.Deep
set_option linter.unusedVariables false


set_option maxHeartbeats 2000000 in
theorem eqUs_any (c : CUs) (h k : Option Addr) (cp cq : Nat) (hn : c.us.length ≤ 1048576) (w : World) (hr : Reads w.heap.size w h c.us) (kr : Reads w.heap.size w k c.us) :
    Calls Try.prog 37 #[.agg #[.int .i64 c.dl, .int .i64 c.sv, .slice h c.us.length cp], .agg #[.int .i64 c.dl, .int .i64 c.sv, .slice k c.us.length cq]] w fun e w' => e = .returned (.bool true) ∧ Below w.heap.size w w' := by
  have HW : Hid (∀ W, Below w.heap.size w W → Calls Try.prog 56 #[.slice h c.us.length cp, .slice k c.us.length cq] W fun e w' => e = .returned (.bool true) ∧ Below W.heap.size W w') := fun W b => by
    have := eqInts_any W.heap.size h k cp cq c.us c.us (by omega) (by omega) W (hr.later b) (kr.later b)
    rwa [decide_eq_true rfl] at this
  clear hr kr
  obtain ⟨dl, sv, us⟩ := c
  dsimp only at *
  generalize us.length = n at *
  go_enter Try.func37, Try.ntmps37
  go_wp2_with fail
  (first | go_at_call 56 | skip)
  refine (HW.out _ (by repeat (first | exact Below.refl _ _ | refine chain ?_ (below_alloc _ _) | refine chain ?_ (below_drew _)))).mono ?_
  rintro e w2 ⟨rfl, hb2⟩
  have HB2 : Hid (Below w.heap.size w w2) := chain (chain (below_alloc _ _) (below_alloc _ _)) hb2
  clear hb2 HW
  go_wp2
  go_ret
  exact ⟨rfl, HB2.out⟩
theorem keepUss {W w1 : World} {b0 b1 p0 p1 p2 q0 q1 q2 : Nat} {c0 c1 c2 d0 d1 d2 : Value} {h k : Option Addr} {ss : List Int} (hb : Below W.heap.size W w1) (x : W.cell? ⟨b0, p0, none⟩ = some c0 ∧ W.cell? ⟨b0, p1, none⟩ = some c1 ∧ W.cell? ⟨b0, p2, none⟩ = some c2 ∧ W.cell? ⟨b1, q0, none⟩ = some d0 ∧ W.cell? ⟨b1, q1, none⟩ = some d1 ∧ W.cell? ⟨b1, q2, none⟩ = some d2 ∧ b0 < W.heap.size ∧ b1 < W.heap.size ∧ Reads W.heap.size W h ss ∧ Reads W.heap.size W k ss) :
    w1.cell? ⟨b0, p0, none⟩ = some c0 ∧ w1.cell? ⟨b0, p1, none⟩ = some c1 ∧ w1.cell? ⟨b0, p2, none⟩ = some c2 ∧ w1.cell? ⟨b1, q0, none⟩ = some d0 ∧ w1.cell? ⟨b1, q1, none⟩ = some d1 ∧ w1.cell? ⟨b1, q2, none⟩ = some d2 ∧ b0 < w1.heap.size ∧ b1 < w1.heap.size ∧ Reads w1.heap.size w1 h ss ∧ Reads w1.heap.size w1 k ss := by
  obtain ⟨h0, h1, h2, k0, k1, k2, l0, l1, m0, m1⟩ := x
  exact ⟨(hb.cell (p := ⟨b0, p0, none⟩) l0).trans h0, (hb.cell (p := ⟨b0, p1, none⟩) l0).trans h1, (hb.cell (p := ⟨b0, p2, none⟩) l0).trans h2, (hb.cell (p := ⟨b1, q0, none⟩) l1).trans k0, (hb.cell (p := ⟨b1, q1, none⟩) l1).trans k1, (hb.cell (p := ⟨b1, q2, none⟩) l1).trans k2, Nat.lt_of_lt_of_le l0 hb.size, Nat.lt_of_lt_of_le l1 hb.size, m0.later hb, m1.later hb⟩

set_option maxHeartbeats 2000000 in
theorem eqUss_any (a b : Option Addr) (ca cb : Nat) (cs : List CUs) (hn : cs.length ≤ 1048576) (hp : ∀ r ∈ cs, UsOK r) (w : World) (ra : ReadsUs w.heap.size w a cs) (rb : ReadsUs w.heap.size w b cs) :
    Calls Try.prog 15 #[.slice a cs.length ca, .slice b cs.length cb] w fun e w' => e = .returned (.bool true) ∧ Below w.heap.size w w' := by
  have HA : Hid (ReadsUs w.heap.size w a cs) := ra
  have HBb : Hid (ReadsUs w.heap.size w b cs) := rb
  have HP : Hid (∀ r ∈ cs, UsOK r) := hp
  clear ra rb hp
  go_enter Try.func15, Try.ntmps15
  go_wp2
  go_loopw [5] (fun i wr => ∃ k : Nat, k ≤ cs.length ∧ i = .int .i64 (k : Int) ∧ Below w.heap.size w wr) (fun i _ => cs.length - (intOf i).toNat)
  case atStart => exact ⟨0, Nat.zero_le _, rfl, Below.refl _ _⟩
  case round =>
    obtain ⟨k, hk, rfl, hb⟩ := hrel
    have HB : Hid (Below w.heap.size w wr) := hb
    clear hb
    by_cases hlt : k < cs.length
    · have hlt' : (k : Int) < (cs.length : Int) := by omega
      rcases HA.out with h | ⟨b0, o0, ha, hB0, ia⟩
      · rw [h] at hlt; simp at hlt
      rcases HBb.out with h | ⟨b1, o1, hbb, hB1, ib⟩
      · rw [h] at hlt; simp at hlt
      obtain ⟨h, cp, ⟨c0, c1, c2⟩, _, hS⟩ := (ia.below HB.out hB0 (Nat.le_refl _)) k hlt
      obtain ⟨h', cq, ⟨d0, d1, d2⟩, _, hS'⟩ := (ib.below HB.out hB1 (Nat.le_refl _)) k hlt
      have HS : Hid (Reads wr.heap.size wr h (cs.getD k zUs).us) := hS.mono HB.out.size
      have HS' : Hid (Reads wr.heap.size wr h' (cs.getD k zUs).us) := hS'.mono HB.out.size
      have lt0 : b0 < wr.heap.size := Nat.lt_of_lt_of_le hB0 HB.out.size
      have lt1 : b1 < wr.heap.size := Nat.lt_of_lt_of_le hB1 HB.out.size
      have hE : ∀ W, Reads W.heap.size W h (cs.getD k zUs).us → Reads W.heap.size W h' (cs.getD k zUs).us → _ := fun W x y => eqUs_any (cs.getD k zUs) h h' cp cq (getUs HP.out hlt) W x y
      have HE : Hid _ := hE
      rw [ha, hbb]
      clear ia ib hS hS' hE
      generalize cs.getD k zUs = r at *
      obtain ⟨dl, sv, us⟩ := r
      dsimp only at c0 c1 c2 d0 d1 d2 HS HS' HE
      generalize us.length = n at *
      go_wp2
      go_region_held3 (fun W => W.cell? ⟨b0, o0 + k * 3, none⟩ = some (.int .i64 dl) ∧ W.cell? ⟨b0, o0 + k * 3 + 1, none⟩ = some (.int .i64 sv) ∧ W.cell? ⟨b0, o0 + k * 3 + 2, none⟩ = some (.slice h n cp) ∧ W.cell? ⟨b1, o1 + k * 3, none⟩ = some (.int .i64 dl) ∧ W.cell? ⟨b1, o1 + k * 3 + 1, none⟩ = some (.int .i64 sv) ∧ W.cell? ⟨b1, o1 + k * 3 + 2, none⟩ = some (.slice h' n cq) ∧ b0 < W.heap.size ∧ b1 < W.heap.size ∧ Reads W.heap.size W h us ∧ Reads W.heap.size W h' us) (first | exact ⟨c0, c1, c2, d0, d1, d2, lt0, lt1, HS.out, HS'.out⟩ | exact keepUss (by assumption) (by assumption)) (first | (go_at_call 37; refine (HE.out _ (by assumption) (by assumption)).mono ?_; rintro e w2 ⟨rfl, hb2⟩))
      have HB2 : Hid (Below w.heap.size w w2) := chain HB.out.drew hb2
      go_wp2
      go_roundw
      case rel => exact ⟨k + 1, by omega, by go_num, HB2.out⟩
      case measure => simp [intOf]; omega
    · go_wp2
      go_ret
      exact ⟨rfl, HB.out⟩


set_option maxHeartbeats 2000000 in
theorem eqBg_any (x y : Int) (a b : Option Addr) (ca cb : Nat) (cs : List CUs) (hn : cs.length ≤ 1048576) (hp : ∀ r ∈ cs, UsOK r) (w : World) (ra : ReadsUs w.heap.size w a cs) (rb : ReadsUs w.heap.size w b cs) :
    Calls Try.prog 12 #[.agg #[.int .i64 x, .int .i64 y, .slice a cs.length ca], .agg #[.int .i64 x, .int .i64 y, .slice b cs.length cb]] w fun e w' => e = .returned (.bool true) ∧ Below w.heap.size w w' := by
  have HW : Hid (∀ W, Below w.heap.size w W → Calls Try.prog 15 #[.slice a cs.length ca, .slice b cs.length cb] W fun e w' => e = .returned (.bool true) ∧ Below W.heap.size W w') := fun W q => eqUss_any a b ca cb cs hn hp W (ra.later q) (rb.later q)
  clear ra rb hp
  generalize cs.length = n at *
  go_enter Try.func12, Try.ntmps12
  go_wp2_with fail
  (first | go_at_call 15 | skip)
  refine (HW.out _ (by repeat (first | exact Below.refl _ _ | refine chain ?_ (below_alloc _ _) | refine chain ?_ (below_drew _)))).mono ?_
  rintro e w2 ⟨rfl, hb2⟩
  have HB2 : Hid (Below w.heap.size w w2) := chain (chain (below_alloc _ _) (below_alloc _ _)) hb2
  clear hb2 HW
  go_wp2
  go_ret
  exact ⟨rfl, HB2.out⟩



theorem openInts {H : Type} {enc : TypeId × Value → H} {w : World} {base : Nat} {spare : Nat → Bool} {held : Bool} {fuel : Nat} {cs : List Value} {x : DataW H × List MemPlace} (h : DataW.trod enc Try.prog w base spare held fuel 55 cs = some x) :
    ∃ a len cap ss, cs = [.slice a len cap] ∧ ss.length = len ∧ len ≤ cap ∧ cap ≤ maxLen ∧ Reads w.heap.size w a ss := by
  rcases open_slice Try.underlying55 h with ⟨hcs, _⟩ | ⟨ad, len, cap, m, n, D, Pl, hcs, _, hl, hm, hmm, _, hx⟩
  · exact ⟨none, 0, 0, [], hcs, rfl, Nat.le_refl _, by unfold maxLen; omega, .inl rfl⟩
  · have hlm : len ≤ m := by rw [hmm]; split <;> omega
    have hc : Try.prog.cellsOf 3 = 1 := by kernel_rfl
    rw [hc] at hx
    obtain ⟨f, hf⟩ := choose_lt (α := Int) (n := len) (p := fun i r => w.cell? ((ad.add (i * 1)).add 0) = some (.int .i64 r)) (fun i hi => by
      obtain ⟨cs', h1, h2⟩ := hx i (by omega)
      obtain ⟨u, rfl, _, hw⟩ := DataW.trod_int Try.underlying3 h2
      obtain ⟨_, _, hcell⟩ := World.cells?_some h1
      exact ⟨u, hcell 0 (by simp)⟩)
    have hg : ∀ i, i < len → ((List.range len).map f).getD i 0 = f i := fun i hi => by simp [List.getD_eq_getElem?_getD, hi]
    refine ⟨some ad, len, cap, (List.range len).map f, hcs, by simp, hl, hm, ?_⟩
    by_cases h0 : len = 0
    · exact .inl (by subst h0; rfl)
    · obtain ⟨b, off, spot⟩ := ad
      have hspot : spot = none := by simpa [Addr.add] using World.cell?_spot (hf 0 (by omega))
      subst hspot
      refine .inr ⟨b, off, rfl, ?_, fun i hi => ?_⟩
      · have := (hf 0 (by omega))
        rw [Go.WideShapes.add_plain, Go.WideShapes.add_plain] at this
        exact World.block_lt_of_cell? _ _ this
      · have hi' : i < len := by simpa using hi
        have q0 := hf i hi'
        rw [Go.WideShapes.add_plain, Go.WideShapes.add_plain, Nat.mul_one, Nat.add_zero] at q0
        rw [hg i hi']
        exact q0
def IsUss (w : World) (a : Option Addr) (len cap : Nat) (cs : List CUs) : Prop := cs.length = len ∧ len ≤ cap ∧ cap ≤ maxLen ∧ (∀ r ∈ cs, UsWide r) ∧ ReadsUs w.heap.size w a cs
theorem openUs {H : Type} {enc : TypeId × Value → H} {w : World} {base : Nat} {spare : Nat → Bool} {held : Bool} {fuel : Nat} {cs : List Value} {x : DataW H × List MemPlace} (h : DataW.trod enc Try.prog w base spare held fuel 57 cs = some x) :
    ∃ (r : CUs) (a : Option Addr) (cp : Nat), cs = [.int .i64 r.dl, .int .i64 r.sv, .slice a r.us.length cp] ∧ UsWide r ∧ r.us.length ≤ cp ∧ Reads w.heap.size w a r.us := by
  obtain ⟨xs, n, _, _, hl, hlen, hf⟩ := DataW.trod_struct Try.underlying57 h
  have hc : Try.prog.cellsOf 57 = 3 := by kernel_rfl
  have hci : Try.prog.cellsOf 3 = 1 := by kernel_rfl
  have hcl : Try.prog.cellsOf 55 = 1 := by kernel_rfl
  rw [hc] at hl
  obtain ⟨v0, v1, v2, rfl⟩ : ∃ a0 a1 a2, cs = [a0, a1, a2] := by
    rcases cs with _ | ⟨a0, _ | ⟨a1, _ | ⟨a2, _ | ⟨g, r⟩⟩⟩⟩ <;> simp at hl
    exact ⟨a0, a1, a2, rfl⟩
  have hlen' : xs.length = 3 := hlen
  obtain ⟨y0, y1, y2, rfl⟩ : ∃ a0 a1 a2, xs = [a0, a1, a2] := by
    rcases xs with _ | ⟨a0, _ | ⟨a1, _ | ⟨a2, _ | ⟨g, r⟩⟩⟩⟩ <;> simp at hlen'
    exact ⟨a0, a1, a2, rfl⟩
  clear hlen hlen' h hl
  have h0 := hf 0 _ rfl
  have h1 := hf 1 _ rfl
  have h2 := hf 2 _ rfl
  clear hf
  simp [hci, hcl] at h0 h1 h2
  obtain ⟨u0, e0, _, w0⟩ := DataW.trod_int Try.underlying3 h0
  obtain ⟨u1, e1, _, w1⟩ := DataW.trod_int Try.underlying3 h1
  obtain ⟨a, len, cap, ss, e2, s1, s2, s3, s5⟩ := openInts h2
  simp at e0 e1 e2
  subst e0 e1 e2 s1
  exact ⟨⟨u0, u1, ss⟩, a, cap, rfl, Nat.le_trans s2 s3, s2, s5⟩
theorem openUss {H : Type} {enc : TypeId × Value → H} {w : World} {spare : Nat → Bool} {held : Bool} {fuel : Nat} {a : Option Addr} {len cap : Nat} {x : DataW H × List MemPlace} (h : DataW.trod enc Try.prog w 0 spare held fuel 24 [.slice a len cap] = some x) :
    ∃ rs, IsUss w a len cap rs := by
  rcases open_slice Try.underlying24 h with ⟨hcs, _⟩ | ⟨ad, l, c, m, n, D, Pl, hcs, _, hl, hm, hmm, _, hx⟩
  · simp at hcs
    obtain ⟨rfl, rfl, rfl⟩ := hcs
    exact ⟨[], rfl, Nat.le_refl _, by unfold maxLen; omega, by simp, .inl rfl⟩
  · simp at hcs
    obtain ⟨rfl, rfl, rfl⟩ := hcs
    have hlm : len ≤ m := by rw [hmm]; split <;> omega
    have hc : Try.prog.cellsOf 57 = 3 := by kernel_rfl
    rw [hc] at hx
    haveI : Inhabited (CUs × Option Addr × Nat) := ⟨⟨zUs, none, 0⟩⟩
    obtain ⟨f, hf⟩ := choose_lt (α := CUs × Option Addr × Nat) (n := len) (p := fun i r => w.cell? ((ad.add (i * 3)).add 0) = some (.int .i64 r.1.dl) ∧ w.cell? ((ad.add (i * 3)).add 1) = some (.int .i64 r.1.sv) ∧ w.cell? ((ad.add (i * 3)).add 2) = some (.slice r.2.1 r.1.us.length r.2.2) ∧ UsWide r.1 ∧ r.1.us.length ≤ r.2.2 ∧ Reads w.heap.size w r.2.1 r.1.us) (fun i hi => by
      obtain ⟨cs', h1, h2⟩ := hx i (by omega)
      obtain ⟨r, q, cp, rfl, hw, hcp, hs⟩ := openUs h2
      obtain ⟨_, _, hcell⟩ := World.cells?_some h1
      exact ⟨⟨r, q, cp⟩, hcell 0 (by omega), hcell 1 (by omega), hcell 2 (by omega), hw, hcp, hs⟩)
    have hg : ∀ i, i < len → ((List.range len).map (fun i => (f i).1)).getD i zUs = (f i).1 := fun i hi => by simp [List.getD_eq_getElem?_getD, hi]
    refine ⟨(List.range len).map (fun i => (f i).1), by simp, hl, hm, fun r hr => ?_, ?_⟩
    · obtain ⟨i, hi, rfl⟩ := List.mem_map.mp hr
      exact (hf i (by simpa using hi)).2.2.2.1
    · by_cases h0 : len = 0
      · exact .inl (by subst h0; rfl)
      · obtain ⟨b, off, spot⟩ := ad
        have hspot : spot = none := by simpa [Addr.add] using World.cell?_spot (hf 0 (by omega)).1
        subst hspot
        refine .inr ⟨b, off, rfl, ?_, fun i hi => ?_⟩
        · have := (hf 0 (by omega)).1
          rw [Go.WideShapes.add_plain, Go.WideShapes.add_plain] at this
          exact World.block_lt_of_cell? _ _ this
        · have hi' : i < len := by simpa using hi
          obtain ⟨q0, q1, q2, _, q7, q8⟩ := hf i hi'
          rw [Go.WideShapes.add_plain, Go.WideShapes.add_plain] at q0 q1 q2
          rw [hg i hi']
          exact ⟨_, _, ⟨q0, q1, q2⟩, q7, q8⟩

end Go.Proofs.Ytlnhnocegfnllaa

/-
  Texts of this claim laid together: UsN, DlF.
-/
import Derived.Test.YtbijgoaanphojaaM14
import Derived.Test.YtbijgoaanphojaaM42
import Derived.Test.YtbijgoaanphojaaM3
import Derived.Laws.OwnMore
/-
  How far the marks on uses and deals go; the marks on a bargain turn blocks of its own alone.
-/
namespace Go.Proofs.Ytbijgoaanphojaa
open Go.ChangeShapes Go.WideShapes Go.ChangeAt Go.RowKit Go.Deep
set_option linter.unusedVariables false

theorem totU_next (cs : List CUs) (k : Nat) (h : k < cs.length) : totU (cs.take (k + 1)) = totU (cs.take k) + (cs.getD k zUs).us.length := by
  have e : cs.getD k zUs = cs[k] := by simp [List.getD_eq_getElem?_getD, h]
  unfold totU
  rw [List.take_succ_eq_append_getElem h, e, List.map_append, List.sum_append]; simp only [List.map_cons, List.map_nil, List.sum_cons, List.sum_nil, Nat.add_zero]
theorem kAt_take (k0 : Nat) (cs : List CUs) : ∀ k, k ≤ cs.length → kAt k0 (fun i => (cs.getD i zUs).us.length) k = k0 + 2 * k + totU (cs.take k) := fun k hk => by
  induction k with
  | zero => simp [kAt, totU]
  | succ k ih =>
    have h1 := ih (by omega)
    have h2 := totU_next cs k hk
    show kAt k0 (fun i => (cs.getD i zUs).us.length) k + 2 + (cs.getD k zUs).us.length = _
    omega
theorem kAt_all (k0 : Nat) (cs : List CUs) : kAt k0 (fun i => (cs.getD i zUs).us.length) cs.length = k0 + 2 * cs.length + totU cs := by
  have := kAt_take k0 cs cs.length (Nat.le_refl _)
  rwa [List.take_length] at this
theorem totD_next (cs : List CDl) (k : Nat) (h : k < cs.length) : totD (cs.take (k + 1)) = totD (cs.take k) + (cs.getD k zDl).arts.length := by
  have e : cs.getD k zDl = cs[k] := by simp [List.getD_eq_getElem?_getD, h]
  unfold totD
  rw [List.take_succ_eq_append_getElem h, e, List.map_append, List.sum_append]; simp only [List.map_cons, List.map_nil, List.sum_cons, List.sum_nil, Nat.add_zero]
theorem kAtD_take (k0 : Nat) (cs : List CDl) : ∀ k, k ≤ cs.length → kAtD k0 (fun i => (cs.getD i zDl).arts.length) k = k0 + 5 * k + totD (cs.take k) := fun k hk => by
  induction k with
  | zero => simp [kAtD, totD]
  | succ k ih =>
    have h1 := ih (by omega)
    have h2 := totD_next cs k hk
    show kAtD k0 (fun i => (cs.getD i zDl).arts.length) k + 5 + (cs.getD k zDl).arts.length = _
    omega
theorem kAtD_all (k0 : Nat) (cs : List CDl) : kAtD k0 (fun i => (cs.getD i zDl).arts.length) cs.length = k0 + 5 * cs.length + totD cs := by
  have := kAtD_take k0 cs cs.length (Nat.le_refl _)
  rwa [List.take_length] at this


theorem markBg_span (x y : Int) (lo hi : Nat) (g : Option Addr) (n cap : Nat) (F : Nat → CUs) (hn : n ≤ 1048576) (k0 : Nat) (hk : kAt k0 (fun i => (F i).us.length) n ≤ 100000000) (w : World) (hM : RowUs lo hi w g n F) (hlo : hi ≤ w.heap.size) (hl2 : lo ≤ hi) :
    Calls Try.prog 19 #[.agg #[.int .i64 x, .int .i64 y, .slice g n cap], .int .i64 (k0 : Int)] w fun e w' => e = .returned (.int .i64 (kAt k0 (fun i => (F i).us.length) n : Int)) ∧ Span lo hi w w' ∧ RowUs lo hi w' g n (mkU k0 (fun i => (F i).us.length)) := by
  have HT : Hid (∀ W, Below w.heap.size w W → Calls Try.prog 50 #[.slice g n cap, .int .i64 (k0 : Int)] W fun e w' => e = .returned (.int .i64 (kAt k0 (fun i => (F i).us.length) n : Int)) ∧ Span lo hi W w' ∧ RowUs lo hi w' g n (mkU k0 (fun i => (F i).us.length))) := fun W hb => markUss_own lo hi g n cap F hn k0 hk W (hM.below hb hlo)
  clear hM
  generalize kAt k0 (fun i => (F i).us.length) n = kk at *
  go_enter Try.func19, Try.ntmps19
  go_wp2_with (go_at_call 50; refine (HT.out _ (below_alloc _ _)).mono ?_; rintro e w2 ⟨rfl, hs2, hr2⟩; have HS2 : Hid _ := hs2; have HR2 : Hid _ := hr2; clear hs2 hr2)
  go_ret
  exact ⟨rfl, ((Span.refl lo hi w).later (by omega) (below_alloc _ _)).trans HS2.out, HR2.out⟩

end Go.Proofs.Ytbijgoaanphojaa

/-
  The laws' own eqDealS; a list of deals that came in, opened.
-/
namespace Go.Proofs.Ytbijgoaanphojaa
open Go.ChangeShapes Go.WideShapes Go.ChangeAt Go.RowKit Go.Deep
set_option linter.unusedVariables false


set_option maxHeartbeats 2000000 in
theorem eqDl_any (c : CDl) (h k : Option Addr) (cp cq : Nat) (hn : c.arts.length ≤ 1048576) (w : World) (hr : ReadsS w.heap.size w h c.arts) (kr : ReadsS w.heap.size w k c.arts) :
    Calls Try.prog 47 #[.agg #[.string c.nm, .int .i64 c.kd, .slice h c.arts.length cp, .int .i64 c.nd, .int .i64 c.vl, .bool c.on], .agg #[.string c.nm, .int .i64 c.kd, .slice k c.arts.length cq, .int .i64 c.nd, .int .i64 c.vl, .bool c.on]] w fun e w' => e = .returned (.bool true) ∧ Below w.heap.size w w' := by
  have HR : Hid (ReadsS w.heap.size w h c.arts) := hr
  have KR : Hid (ReadsS w.heap.size w k c.arts) := kr
  have HT : Hid (∀ w, ReadsS w.heap.size w h c.arts → ReadsS w.heap.size w k c.arts → Calls Try.prog 83 #[.slice h c.arts.length cp, .slice k c.arts.length cq] w fun e w' => e = .returned (.bool true) ∧ Below w.heap.size w w') := fun w r s => eqStrs_any h k cp cq c.arts hn w r s
  clear hr kr
  obtain ⟨nm, kd, arts, nd, vl, on⟩ := c
  dsimp only at *
  have hs := beq_self nm
  have HW : Hid (∀ W, Below w.heap.size w W → Calls Try.prog 83 #[.slice h arts.length cp, .slice k arts.length cq] W fun e w' => e = .returned (.bool true) ∧ Below W.heap.size W w') := fun W b => HT.out W (HR.out.later b) (KR.out.later b)
  generalize arts.length = n at *
  clear HR KR HT
  go_enter Try.func47, Try.ntmps47
  go_wp2_with fail
  (first | go_at_call 83 | skip)
  refine (HW.out _ (by repeat (first | exact Below.refl _ _ | refine chain ?_ (below_alloc _ _) | refine chain ?_ (below_drew _)))).mono ?_
  rintro e w2 ⟨rfl, hb2⟩
  have q3 : w2.cell? ⟨w.heap.size, 3, none⟩ = some (.int .i64 nd) := (hb2.cell (p := ⟨w.heap.size, 3, none⟩) (by simp only [World.size_alloc]; omega)).trans ((cellOld _ _ (by simp only [World.size_alloc]; omega)).trans (cellNew _ _ _ _ rfl rfl))
  have r3 : w2.cell? ⟨w.heap.size + 1, 3, none⟩ = some (.int .i64 nd) := (hb2.cell (p := ⟨w.heap.size + 1, 3, none⟩) (by simp only [World.size_alloc]; omega)).trans (cellNew _ _ _ _ (by simp) rfl)
  have q4 : w2.cell? ⟨w.heap.size, 4, none⟩ = some (.int .i64 vl) := (hb2.cell (p := ⟨w.heap.size, 4, none⟩) (by simp only [World.size_alloc]; omega)).trans ((cellOld _ _ (by simp only [World.size_alloc]; omega)).trans (cellNew _ _ _ _ rfl rfl))
  have r4 : w2.cell? ⟨w.heap.size + 1, 4, none⟩ = some (.int .i64 vl) := (hb2.cell (p := ⟨w.heap.size + 1, 4, none⟩) (by simp only [World.size_alloc]; omega)).trans (cellNew _ _ _ _ (by simp) rfl)
  have q5 : w2.cell? ⟨w.heap.size, 5, none⟩ = some (.bool on) := (hb2.cell (p := ⟨w.heap.size, 5, none⟩) (by simp only [World.size_alloc]; omega)).trans ((cellOld _ _ (by simp only [World.size_alloc]; omega)).trans (cellNew _ _ _ _ rfl rfl))
  have r5 : w2.cell? ⟨w.heap.size + 1, 5, none⟩ = some (.bool on) := (hb2.cell (p := ⟨w.heap.size + 1, 5, none⟩) (by simp only [World.size_alloc]; omega)).trans (cellNew _ _ _ _ (by simp) rfl)
  have HB2 : Hid (Below w.heap.size w w2) := chain (chain (below_alloc _ _) (below_alloc _ _)) hb2
  clear hb2 HW
  go_wp2
  go_ret
  exact ⟨rfl, HB2.out⟩

theorem keepDl {W w1 : World} {b0 b1 : Nat} {o0 o1 : Nat} {h k : Option Addr} {cp cq : Nat} {c : CDl} (hb : Below W.heap.size W w1) (x : DlAt W b0 o0 h cp c ∧ DlAt W b1 o1 k cq c ∧ b0 < W.heap.size ∧ b1 < W.heap.size ∧ ReadsS W.heap.size W h c.arts ∧ ReadsS W.heap.size W k c.arts) :
    DlAt w1 b0 o0 h cp c ∧ DlAt w1 b1 o1 k cq c ∧ b0 < w1.heap.size ∧ b1 < w1.heap.size ∧ ReadsS w1.heap.size w1 h c.arts ∧ ReadsS w1.heap.size w1 k c.arts := by
  obtain ⟨x1, x2, x3, x4, x5, x6⟩ := x
  exact ⟨x1.below hb x3, x2.below hb x4, Nat.lt_of_lt_of_le x3 hb.size, Nat.lt_of_lt_of_le x4 hb.size, x5.later hb, x6.later hb⟩
theorem keepDls {W w1 : World} {b0 b1 p0 p1 p2 p3 p4 p5 q0 q1 q2 q3 q4 q5 : Nat} {c0 c1 c2 c3 c4 c5 d0 d1 d2 d3 d4 d5 : Value} {h k : Option Addr} {ss : List ByteArray} (hb : Below W.heap.size W w1) (x : W.cell? ⟨b0, p0, none⟩ = some c0 ∧ W.cell? ⟨b0, p1, none⟩ = some c1 ∧ W.cell? ⟨b0, p2, none⟩ = some c2 ∧ W.cell? ⟨b0, p3, none⟩ = some c3 ∧ W.cell? ⟨b0, p4, none⟩ = some c4 ∧ W.cell? ⟨b0, p5, none⟩ = some c5 ∧ W.cell? ⟨b1, q0, none⟩ = some d0 ∧ W.cell? ⟨b1, q1, none⟩ = some d1 ∧ W.cell? ⟨b1, q2, none⟩ = some d2 ∧ W.cell? ⟨b1, q3, none⟩ = some d3 ∧ W.cell? ⟨b1, q4, none⟩ = some d4 ∧ W.cell? ⟨b1, q5, none⟩ = some d5 ∧ b0 < W.heap.size ∧ b1 < W.heap.size ∧ ReadsS W.heap.size W h ss ∧ ReadsS W.heap.size W k ss) :
    w1.cell? ⟨b0, p0, none⟩ = some c0 ∧ w1.cell? ⟨b0, p1, none⟩ = some c1 ∧ w1.cell? ⟨b0, p2, none⟩ = some c2 ∧ w1.cell? ⟨b0, p3, none⟩ = some c3 ∧ w1.cell? ⟨b0, p4, none⟩ = some c4 ∧ w1.cell? ⟨b0, p5, none⟩ = some c5 ∧ w1.cell? ⟨b1, q0, none⟩ = some d0 ∧ w1.cell? ⟨b1, q1, none⟩ = some d1 ∧ w1.cell? ⟨b1, q2, none⟩ = some d2 ∧ w1.cell? ⟨b1, q3, none⟩ = some d3 ∧ w1.cell? ⟨b1, q4, none⟩ = some d4 ∧ w1.cell? ⟨b1, q5, none⟩ = some d5 ∧ b0 < w1.heap.size ∧ b1 < w1.heap.size ∧ ReadsS w1.heap.size w1 h ss ∧ ReadsS w1.heap.size w1 k ss := by
  obtain ⟨h0, h1, h2, h3, h4, h5, k0, k1, k2, k3, k4, k5, l0, l1, m0, m1⟩ := x
  exact ⟨(hb.cell (p := ⟨b0, p0, none⟩) l0).trans h0, (hb.cell (p := ⟨b0, p1, none⟩) l0).trans h1, (hb.cell (p := ⟨b0, p2, none⟩) l0).trans h2, (hb.cell (p := ⟨b0, p3, none⟩) l0).trans h3, (hb.cell (p := ⟨b0, p4, none⟩) l0).trans h4, (hb.cell (p := ⟨b0, p5, none⟩) l0).trans h5, (hb.cell (p := ⟨b1, q0, none⟩) l1).trans k0, (hb.cell (p := ⟨b1, q1, none⟩) l1).trans k1, (hb.cell (p := ⟨b1, q2, none⟩) l1).trans k2, (hb.cell (p := ⟨b1, q3, none⟩) l1).trans k3, (hb.cell (p := ⟨b1, q4, none⟩) l1).trans k4, (hb.cell (p := ⟨b1, q5, none⟩) l1).trans k5, Nat.lt_of_lt_of_le l0 hb.size, Nat.lt_of_lt_of_le l1 hb.size, m0.later hb, m1.later hb⟩

set_option maxHeartbeats 2000000 in
theorem eqDls_any (a b : Option Addr) (ca cb : Nat) (cs : List CDl) (hn : cs.length ≤ 1048576) (hp : ∀ r ∈ cs, DlOK r) (w : World) (ra : ReadsDl w.heap.size w a cs) (rb : ReadsDl w.heap.size w b cs) :
    Calls Try.prog 16 #[.slice a cs.length ca, .slice b cs.length cb] w fun e w' => e = .returned (.bool true) ∧ Below w.heap.size w w' := by
  have HA : Hid (ReadsDl w.heap.size w a cs) := ra
  have HBb : Hid (ReadsDl w.heap.size w b cs) := rb
  have HP : Hid (∀ r ∈ cs, DlOK r) := hp
  clear ra rb hp
  go_enter Try.func16, Try.ntmps16
  go_wp2
  go_loopw [5] (fun i wr => ∃ k : Nat, k ≤ cs.length ∧ i = .int .i64 (k : Int) ∧ Below w.heap.size w wr) (fun i _ => cs.length - (intOf i).toNat)
  case atStart => exact ⟨0, Nat.zero_le _, rfl, Below.refl _ _⟩
  case round =>
    obtain ⟨k, hk, rfl, hb⟩ := hrel
    have HB : Hid (Below w.heap.size w wr) := hb
    clear hb
    by_cases hlt : k < cs.length
    · have hlt' : (k : Int) < (cs.length : Int) := by omega
      rcases HA.out with h | ⟨b0, o0, ha, hB0, ia⟩
      · rw [h] at hlt; simp at hlt
      rcases HBb.out with h | ⟨b1, o1, hbb, hB1, ib⟩
      · rw [h] at hlt; simp at hlt
      obtain ⟨h, cp, ⟨c0, c1, c2, c3, c4, c5⟩, _, hS⟩ := (ia.below HB.out hB0 (Nat.le_refl _)) k hlt
      obtain ⟨h', cq, ⟨d0, d1, d2, d3, d4, d5⟩, _, hS'⟩ := (ib.below HB.out hB1 (Nat.le_refl _)) k hlt
      have HS : Hid (ReadsS wr.heap.size wr h (cs.getD k zDl).arts) := hS.mono HB.out.size
      have HS' : Hid (ReadsS wr.heap.size wr h' (cs.getD k zDl).arts) := hS'.mono HB.out.size
      have lt0 : b0 < wr.heap.size := Nat.lt_of_lt_of_le hB0 HB.out.size
      have lt1 : b1 < wr.heap.size := Nat.lt_of_lt_of_le hB1 HB.out.size
      have hE : ∀ W, ReadsS W.heap.size W h (cs.getD k zDl).arts → ReadsS W.heap.size W h' (cs.getD k zDl).arts → _ := fun W x y => eqDl_any (cs.getD k zDl) h h' cp cq (getDl HP.out hlt).2.1 W x y
      have HE : Hid _ := hE
      rw [ha, hbb]
      clear ia ib hS hS' hE
      generalize cs.getD k zDl = r at *
      obtain ⟨nm, kd, arts, nd, vl, on⟩ := r
      dsimp only at c0 c1 c2 c3 c4 c5 d0 d1 d2 d3 d4 d5 HS HS' HE
      generalize arts.length = n at *
      go_wp2
      go_region_held3 (fun W => W.cell? ⟨b0, o0 + k * 6, none⟩ = some (.string nm) ∧ W.cell? ⟨b0, o0 + k * 6 + 1, none⟩ = some (.int .i64 kd) ∧ W.cell? ⟨b0, o0 + k * 6 + 2, none⟩ = some (.slice h n cp) ∧ W.cell? ⟨b0, o0 + k * 6 + 3, none⟩ = some (.int .i64 nd) ∧ W.cell? ⟨b0, o0 + k * 6 + 4, none⟩ = some (.int .i64 vl) ∧ W.cell? ⟨b0, o0 + k * 6 + 5, none⟩ = some (.bool on) ∧ W.cell? ⟨b1, o1 + k * 6, none⟩ = some (.string nm) ∧ W.cell? ⟨b1, o1 + k * 6 + 1, none⟩ = some (.int .i64 kd) ∧ W.cell? ⟨b1, o1 + k * 6 + 2, none⟩ = some (.slice h' n cq) ∧ W.cell? ⟨b1, o1 + k * 6 + 3, none⟩ = some (.int .i64 nd) ∧ W.cell? ⟨b1, o1 + k * 6 + 4, none⟩ = some (.int .i64 vl) ∧ W.cell? ⟨b1, o1 + k * 6 + 5, none⟩ = some (.bool on) ∧ b0 < W.heap.size ∧ b1 < W.heap.size ∧ ReadsS W.heap.size W h arts ∧ ReadsS W.heap.size W h' arts) (first | exact ⟨c0, c1, c2, c3, c4, c5, d0, d1, d2, d3, d4, d5, lt0, lt1, HS.out, HS'.out⟩ | exact keepDls (by assumption) (by assumption)) (first | (go_at_call 47; refine (HE.out _ (by assumption) (by assumption)).mono ?_; rintro e w2 ⟨rfl, hb2⟩))
      have HB2 : Hid (Below w.heap.size w w2) := chain HB.out.drew hb2
      go_wp2
      go_roundw
      case rel => exact ⟨k + 1, by omega, by go_num, HB2.out⟩
      case measure => simp [intOf]; omega
    · go_wp2
      go_ret
      exact ⟨rfl, HB.out⟩

end Go.Proofs.Ytbijgoaanphojaa

/-
  Texts of this claim laid together: BgD.
-/
import Derived.Test.YtkfmifbffgbiiaaM21
import Derived.Test.YtkfmifbffgbiiaaM22
/-
  Which use fits, as a function; contract of the program's useFits.
-/
namespace Go.Proofs.Ytkfmifbffgbiiaa
open Go.ChangeShapes Go.WideShapes Go.ChangeAt Go.RowKit
set_option linter.unusedVariables false

def dlAt (ds : List CDl) (k : Int) : CDl := ds.getD k.toNat zDl
def prevAt (ns : List Int) (i : Nat) : Int := if i = 0 then -1 else ns.getD (i - 1) 0
def oneN (us : List RUn) (d : CDl) (ns : List Int) (i : Nat) : Bool := decide (prevAt ns i < ns.getD i 0) && decide (ns.getD i 0 < (us.length : Int)) && hasB d.arts (us.getD (ns.getD i 0).toNat zUn).art
/-- The first i units of a use are rising, there, and of the deal's articles. -/
def okN (us : List RUn) (d : CDl) (ns : List Int) : Nat → Bool
  | 0 => true
  | i + 1 => okN us d ns i && oneN us d ns i
def useB (us : List RUn) (ds : List CDl) (u : CUs) : Bool := decide (0 ≤ u.dl ∧ u.dl < (ds.length : Int)) && decide ((u.us.length : Int) = (dlAt ds u.dl).nd) && okN us (dlAt ds u.dl) u.us u.us.length
theorem okN_le (us : List RUn) (d : CDl) (ns : List Int) : ∀ i j, i ≤ j → okN us d ns i = false → okN us d ns j = false := fun i j h hf => by
  induction j with
  | zero => obtain rfl : i = 0 := by omega
            exact hf
  | succ j ih =>
    by_cases e : i = j + 1
    · subst e; exact hf
    · unfold okN; rw [ih (by omega)]; rfl
theorem okN_prev {us : List RUn} {d : CDl} {ns : List Int} : ∀ {i : Nat}, okN us d ns i = true → -1 ≤ prevAt ns i ∧ prevAt ns i < (us.length : Int) := fun {i} h => by
  cases i with
  | zero => exact ⟨by simp [prevAt], by simp [prevAt]; omega⟩
  | succ i =>
    have h' : (okN us d ns i && oneN us d ns i) = true := h
    rw [Bool.and_eq_true] at h'
    have h2 := h'.2
    unfold oneN at h2
    simp only [Bool.and_eq_true, decide_eq_true_eq] at h2
    have ih := okN_prev h'.1
    have e : prevAt ns (i + 1) = ns.getD i 0 := by unfold prevAt; rw [if_neg (by omega)]; rfl
    rw [e]
    omega
theorem okN_stop {us : List RUn} {d : CDl} {ns : List Int} {i : Nat} (h : i < ns.length) (hq : oneN us d ns i = false) : okN us d ns ns.length = false := by
  refine okN_le us d ns (i + 1) ns.length h ?_
  unfold okN; rw [hq]; simp
theorem useB_not {us : List RUn} {ds : List CDl} {u : CUs} (h : okN us (dlAt ds u.dl) u.us u.us.length = false) : useB us ds u = false := by
  unfold useB; rw [h]; simp
theorem useB_ways (us : List RUn) (ds : List CDl) (u : CUs) : (u.dl < 0 ∧ useB us ds u = false) ∨ (0 ≤ u.dl ∧ (ds.length : Int) ≤ u.dl ∧ useB us ds u = false) ∨ (0 ≤ u.dl ∧ u.dl < (ds.length : Int) ∧ ((u.us.length : Int) == (dlAt ds u.dl).nd) = false ∧ useB us ds u = false) ∨ (0 ≤ u.dl ∧ u.dl < (ds.length : Int) ∧ (u.us.length : Int) = (dlAt ds u.dl).nd ∧ useB us ds u = okN us (dlAt ds u.dl) u.us u.us.length) := by
  unfold useB
  by_cases h1 : u.dl < 0
  · exact .inl ⟨h1, by rw [decide_eq_false (by omega)]; rfl⟩
  · by_cases h2 : (ds.length : Int) ≤ u.dl
    · exact .inr (.inl ⟨by omega, h2, by rw [decide_eq_false (by omega)]; rfl⟩)
    · rw [decide_eq_true (show 0 ≤ u.dl ∧ u.dl < (ds.length : Int) by omega)]
      by_cases h3 : (u.us.length : Int) = (dlAt ds u.dl).nd
      · exact .inr (.inr (.inr ⟨by omega, by omega, h3, by rw [decide_eq_true h3]; rfl⟩))
      · exact .inr (.inr (.inl ⟨by omega, by omega, by simpa using h3, by rw [decide_eq_false h3]; rfl⟩))

theorem keepWant {W w1 : World} {b0 b2 D p0 p1 p2 p3 p4 p5 q0 q1 : Nat} {u c0 c1 c2 c3 c4 c5 e0 e1 : Value} {h : Option Addr} {ss : List ByteArray} (hb : Below W.heap.size W w1) (x : W.cell? ⟨D, 0, none⟩ = some u ∧ W.cell? ⟨b0, p0, none⟩ = some c0 ∧ W.cell? ⟨b0, p1, none⟩ = some c1 ∧ W.cell? ⟨b0, p2, none⟩ = some c2 ∧ W.cell? ⟨b0, p3, none⟩ = some c3 ∧ W.cell? ⟨b0, p4, none⟩ = some c4 ∧ W.cell? ⟨b0, p5, none⟩ = some c5 ∧ W.cell? ⟨b2, q0, none⟩ = some e0 ∧ W.cell? ⟨b2, q1, none⟩ = some e1 ∧ b0 < W.heap.size ∧ b2 < W.heap.size ∧ D < W.heap.size ∧ ReadsS W.heap.size W h ss) :
    w1.cell? ⟨D, 0, none⟩ = some u ∧ w1.cell? ⟨b0, p0, none⟩ = some c0 ∧ w1.cell? ⟨b0, p1, none⟩ = some c1 ∧ w1.cell? ⟨b0, p2, none⟩ = some c2 ∧ w1.cell? ⟨b0, p3, none⟩ = some c3 ∧ w1.cell? ⟨b0, p4, none⟩ = some c4 ∧ w1.cell? ⟨b0, p5, none⟩ = some c5 ∧ w1.cell? ⟨b2, q0, none⟩ = some e0 ∧ w1.cell? ⟨b2, q1, none⟩ = some e1 ∧ b0 < w1.heap.size ∧ b2 < w1.heap.size ∧ D < w1.heap.size ∧ ReadsS w1.heap.size w1 h ss := by
  obtain ⟨h0, k0, k1, k2, k3, k4, k5, j0, j1, l0, l1, l2, m0⟩ := x
  exact ⟨(hb.cell (p := ⟨D, 0, none⟩) l2).trans h0, (hb.cell (p := ⟨b0, p0, none⟩) l0).trans k0, (hb.cell (p := ⟨b0, p1, none⟩) l0).trans k1, (hb.cell (p := ⟨b0, p2, none⟩) l0).trans k2, (hb.cell (p := ⟨b0, p3, none⟩) l0).trans k3, (hb.cell (p := ⟨b0, p4, none⟩) l0).trans k4, (hb.cell (p := ⟨b0, p5, none⟩) l0).trans k5, (hb.cell (p := ⟨b2, q0, none⟩) l1).trans j0, (hb.cell (p := ⟨b2, q1, none⟩) l1).trans j1, Nat.lt_of_lt_of_le l0 hb.size, Nat.lt_of_lt_of_le l1 hb.size, Nat.lt_of_lt_of_le l2 hb.size, m0.later hb⟩

set_option maxHeartbeats 4000000 in
theorem useFits_any (a : Option Addr) (cap : Nat) (us : List RUn) (hl : us.length ≤ 100000000) (b : Option Addr) (cb : Nat) (ds : List CDl) (hd : ds.length ≤ 100000000) (hq : ∀ r ∈ ds, DlOK r) (u : CUs) (h : Option Addr) (cp : Nat) (hu : u.us.length ≤ 1048576) (w : World) (hr : ReadsUn w.heap.size w a us) (ks : ReadsDl w.heap.size w b ds) (js : Reads w.heap.size w h u.us) :
    Calls Try.prog 44 #[.slice a us.length cap, .slice b ds.length cb, .agg #[.int .i64 u.dl, .int .i64 u.sv, .slice h u.us.length cp]] w fun e w' => e = .returned (.bool (useB us ds u)) ∧ Below w.heap.size w w' := by
  have HR : Hid (ReadsUn w.heap.size w a us) := hr
  have HK : Hid (ReadsDl w.heap.size w b ds) := ks
  have HJ : Hid (Reads w.heap.size w h u.us) := js
  have HQ : Hid (∀ r ∈ ds, DlOK r) := hq
  have HW := useB_ways us ds u
  have HO : Hid (∀ {i : Nat}, okN us (dlAt ds u.dl) u.us i = true → -1 ≤ prevAt u.us i ∧ prevAt u.us i < (us.length : Int)) := okN_prev
  have HS : Hid (∀ {i : Nat}, i < u.us.length → oneN us (dlAt ds u.dl) u.us i = false → okN us (dlAt ds u.dl) u.us u.us.length = false) := okN_stop
  clear hr ks js hq
  rcases HW with ⟨h1, hE⟩ | ⟨h1, h2, hE⟩ | ⟨h1, h2, h3, hE⟩ | ⟨h1, h2, h3, hE⟩
  · rw [hE]; clear hE HO HS
    obtain ⟨dl, sv, ns⟩ := u
    dsimp only at *
    have hd1 : decide (dl < 0) = true := decide_eq_true h1
    generalize ns.length = n at *
    go_enter Try.func44, Try.ntmps44
    go_wp2_with fail
    go_quiet (fail)
    go_wp2
    go_ret
    exact ⟨rfl, chain (below_alloc _ _) (drewBelow _ _)⟩
  · rw [hE]; clear hE HO HS
    obtain ⟨dl, sv, ns⟩ := u
    dsimp only at *
    have hd1 : decide (dl < 0) = false := decide_eq_false (by omega)
    have hd2 : decide ((ds.length : Int) ≤ dl) = true := decide_eq_true h2
    generalize ns.length = n at *
    go_enter Try.func44, Try.ntmps44
    go_wp2_with fail
    go_quiet (fail)
    go_wp2
    go_ret
    exact ⟨rfl, chain (below_alloc _ _) (drewBelow _ _)⟩
  all_goals
    obtain ⟨dl, sv, ns⟩ := u
    dsimp only at *
    obtain ⟨k, rfl⟩ : ∃ k : Nat, dl = (k : Int) := ⟨dl.toNat, by omega⟩
    have hkd : k < ds.length := by omega
    have hdk : dlAt ds (k : Int) = ds.getD k zDl := by unfold dlAt; rw [Int.toNat_natCast]
    rw [hdk] at h3 HO HS
    try rw [hdk] at hE
    clear hdk
    have hok : DlOK (ds.getD k zDl) := getDl HQ.out hkd
    rcases HK.out with hz | ⟨b0, o0, hb0, hB0, ia⟩
    · rw [hz] at hkd; simp at hkd
    subst hb0
    obtain ⟨h0, cq, hAt, hcq, hS⟩ := (ia.below (below_alloc w (Obj.cells #[.int .i64 (k : Int), .int .i64 sv, .slice h ns.length cp] 36)) hB0 (Nat.le_refl _)) k hkd
    have HI : Hid (DlsAt w.heap.size w b0 o0 ds) := ia
    clear ia
    generalize hdd : ds.getD k zDl = d at *
    obtain ⟨c0, c1, c2, c3, c4, c5⟩ := hAt
    have hd1 : decide ((k : Int) < 0) = false := decide_eq_false (by omega)
    have hd2 : decide ((ds.length : Int) ≤ (k : Int)) = false := decide_eq_false (by omega)
    have hd2' : decide (ds.length ≤ k) = false := decide_eq_false (by omega)
  · rw [hE]; clear hE HO HS
    have hd3 : ((ns.length : Int) != d.nd) = true := by rw [bne, h3]; rfl
    generalize ns.length = n at *
    generalize d.nd = nd at *
    go_enter Try.func44, Try.ntmps44
    go_wp2_with fail
    go_quiet (fail)
    go_wp2
    go_ret
    exact ⟨rfl, chain (below_alloc _ _) (drewBelow _ _)⟩
  · have hd3 : ((ns.length : Int) != d.nd) = false := by rw [bne, h3]; simp
    rw [hE]
    clear hE
    have HDl : Hid (DlAt (w.alloc (Obj.cells #[.int .i64 (k : Int), .int .i64 sv, .slice h ns.length cp] 36)) b0 (o0 + k * 6) h0 cq d) := ⟨c0, c1, c2, c3, c4, c5⟩
    have HSr : Hid (ReadsS w.heap.size (w.alloc (Obj.cells #[.int .i64 (k : Int), .int .i64 sv, .slice h ns.length cp] 36)) h0 d.arts) := hS
    have hal := hok.2.1
    clear hS c0 c1 c2 c4 c5 hcq hok
    generalize hN : ns.length = n at *
    have hnd : d.nd = (n : Int) := h3.symm
    rw [hnd] at c3 hd3
    clear h3 hnd
    go_enter Try.func44, Try.ntmps44
    go_wp2_with fail
    go_quiet (fail)
    go_wp2
    have HBW : Hid (Below w.heap.size w ((w.alloc (Obj.cells #[.int .i64 (k : Int), .int .i64 sv, .slice h n cp] 36)).drewN nq)) := chain (below_alloc _ _) (drewBelow _ _)
    have HUc : Hid (((w.alloc (Obj.cells #[.int .i64 (k : Int), .int .i64 sv, .slice h n cp] 36)).drewN nq).cell? ⟨w.heap.size, 0, none⟩ = some (.int .i64 (k : Int))) := cellNew _ _ _ _ rfl rfl
    have HD1 : Hid (DlAt ((w.alloc (Obj.cells #[.int .i64 (k : Int), .int .i64 sv, .slice h n cp] 36)).drewN nq) b0 (o0 + k * 6) h0 cq d) := HDl.out
    have HS1 : Hid (ReadsS w.heap.size ((w.alloc (Obj.cells #[.int .i64 (k : Int), .int .i64 sv, .slice h n cp] 36)).drewN nq) h0 d.arts) := HSr.out
    have HDz : Hid (w.heap.size < ((w.alloc (Obj.cells #[.int .i64 (k : Int), .int .i64 sv, .slice h n cp] 36)).drewN nq).heap.size) := by show _ < (w.alloc _).heap.size; rw [World.size_alloc]; omega
    clear HDl HSr c3 hd3
    generalize (w.alloc (Obj.cells #[.int .i64 (k : Int), .int .i64 sv, .slice h n cp] 36)).drewN nq = W1 at *
    go_loopw [7, 9, 35] (fun l _ c wr => ∃ i : Nat, i ≤ n ∧ c = .int .i64 (i : Int) ∧ l = .int .i64 (prevAt ns i) ∧ okN us d ns i = true ∧ Below W1.heap.size W1 wr) (fun _ _ c _ => n - (intOf c).toNat)
    case atStart => exact ⟨0, Nat.zero_le _, rfl, rfl, rfl, Below.refl _ _⟩
    case round =>
      obtain ⟨i, hi, rfl, rfl, hf, hb⟩ := hrel
      have HF : Hid (okN us d ns i = true) := hf
      have HB : Hid (Below W1.heap.size W1 wr) := hb
      clear hf hb
      by_cases hlt : i < n
      · have hlt' : (i : Int) < (n : Int) := by omega
        obtain ⟨hp0, hp1⟩ := HO.out HF.out
        have HBw : Hid (Below w.heap.size w wr) := chain HBW.out HB.out
        rcases HJ.out with hz | ⟨b1, o1, hb1, hB1, ib⟩
        · rw [hz] at hN; simp at hN; omega
        subst hb1
        have d0 := (ib.below HBw.out hB1) i (by omega)
        have HX : Hid (oneN us d ns i = false → okN us d ns n = false) := fun q => HS.out hlt q
        have HNx : Hid (oneN us d ns i = true → okN us d ns (i + 1) = true) := fun q => by show (okN us d ns i && oneN us d ns i) = true; rw [HF.out, q]; rfl
        have HPr : Hid (prevAt ns (i + 1) = ns.getD i 0) := by show _ = _; unfold prevAt; rw [if_neg (by omega)]; rfl
        have HOn : Hid (oneN us d ns i = (decide (prevAt ns i < ns.getD i 0) && decide (ns.getD i 0 < (us.length : Int)) && hasB d.arts (us.getD (ns.getD i 0).toNat zUn).art)) := rfl
        have u0 : wr.cell? ⟨w.heap.size, 0, none⟩ = some (.int .i64 (k : Int)) := (HB.out.cell (p := ⟨w.heap.size, 0, none⟩) HDz.out).trans HUc.out
        clear ib
        generalize ns.getD i 0 = x at *
        generalize prevAt ns i = pv at *
        by_cases g1 : x ≤ pv
        · have gd : decide (x ≤ pv) = true := decide_eq_true g1
          have HE : Hid _ := HX.out (by rw [HOn.out, decide_eq_false (by omega)]; rfl)
          clear HX HNx HOn
          go_wp2_with fail
          go_quiet (fail)
          go_wp2
          go_ret
          exact ⟨ret_bool HE.out.symm, chain HBw.out (drewBelow _ _)⟩
        by_cases g2 : (us.length : Int) ≤ x
        · have gd : decide (x ≤ pv) = false := decide_eq_false g1
          have gd2 : decide ((us.length : Int) ≤ x) = true := decide_eq_true g2
          have HE : Hid _ := HX.out (by rw [HOn.out, decide_eq_false (show ¬ x < (us.length : Int) by omega)]; simp)
          clear HX HNx HOn
          go_wp2_with fail
          go_quiet (fail)
          go_wp2
          go_ret
          exact ⟨ret_bool HE.out.symm, chain HBw.out (drewBelow _ _)⟩
        have gd : decide (x ≤ pv) = false := decide_eq_false g1
        have gd2 : decide ((us.length : Int) ≤ x) = false := decide_eq_false g2
        obtain ⟨m, rfl⟩ : ∃ m : Nat, x = (m : Int) := ⟨x.toNat, by omega⟩
        have hm : m < us.length := by omega
        have hm' : (m : Int) < (us.length : Int) := by omega
        have gd3 : decide (us.length ≤ m) = false := decide_eq_false (by omega)
        rcases HR.out with hz | ⟨b2, o2, hb2, hB2, ic⟩
        · rw [hz] at hm; simp at hm
        subst hb2
        obtain ⟨e0, e1⟩ := (ic.below HBw.out hB2) m hm
        rw [Int.toNat_natCast] at HOn
        have HOn2 : Hid (oneN us d ns i = hasB d.arts (us.getD m zUn).art) := by have := HOn.out; rw [decide_eq_true (by omega), decide_eq_true (by omega)] at this; exact this
        have lt0 : b0 < wr.heap.size := Nat.lt_of_lt_of_le hB0 HBw.out.size
        have lt2 : b2 < wr.heap.size := Nat.lt_of_lt_of_le hB2 HBw.out.size
        have lt3 : w.heap.size < wr.heap.size := Nat.lt_of_lt_of_le HDz.out HB.out.size
        obtain ⟨c0, c1, c2, c3, c4, c5⟩ := HD1.out.below HB.out (Nat.lt_of_lt_of_le hB0 HBW.out.size)
        have HS2 : Hid (ReadsS wr.heap.size wr h0 d.arts) := (HS1.out.below (HB.out.mono HBW.out.size)).mono HBw.out.size
        have HWn : Hid (∀ W, ReadsS W.heap.size W h0 d.arts → _) := fun W q => wants_any d h0 cq hal (us.getD m zUn).art (us.getD m zUn).pr W q
        clear ic HOn
        generalize us.getD m zUn = un at *
        obtain ⟨ua, up⟩ := un
        generalize oneN us d ns i = on1 at *
        obtain ⟨nm, kd, arts, nd, vl, on⟩ := d
        dsimp only at *
        generalize hasB arts ua = hb at *
        generalize arts.length = an at *
        generalize hDD : w.heap.size = D at *
        have HDD : Hid (w.heap.size = D) := hDD
        clear hDD
        go_wp2_with fail
        go_region_held3 (fun W => W.cell? ⟨D, 0, none⟩ = some (.int .i64 (k : Int)) ∧ W.cell? ⟨b0, o0 + k * 6, none⟩ = some (.string nm) ∧ W.cell? ⟨b0, o0 + k * 6 + 1, none⟩ = some (.int .i64 kd) ∧ W.cell? ⟨b0, o0 + k * 6 + 2, none⟩ = some (.slice h0 an cq) ∧ W.cell? ⟨b0, o0 + k * 6 + 3, none⟩ = some (.int .i64 nd) ∧ W.cell? ⟨b0, o0 + k * 6 + 4, none⟩ = some (.int .i64 vl) ∧ W.cell? ⟨b0, o0 + k * 6 + 5, none⟩ = some (.bool on) ∧ W.cell? ⟨b2, o2 + m * 2, none⟩ = some (.string ua) ∧ W.cell? ⟨b2, o2 + m * 2 + 1, none⟩ = some (.int .i64 up) ∧ b0 < W.heap.size ∧ b2 < W.heap.size ∧ D < W.heap.size ∧ ReadsS W.heap.size W h0 arts) (first | exact ⟨u0, c0, c1, c2, c3, c4, c5, e0, e1, lt0, lt2, lt3, HS2.out⟩ | exact keepWant (by assumption) (by assumption)) (first | (go_at_call 40; refine (HWn.out _ (by assumption)).mono ?_; rintro e w2 ⟨rfl, hb2⟩))
        have HB2 : Hid (Below W1.heap.size W1 w2) := chain HB.out.drew hb2
        clear hb2 u0 c0 c1 c2 c3 c4 c5 e0 e1 HWn HS2
        cases hb
        · have HE : Hid _ := HX.out HOn2.out
          go_wp2
          go_ret
          exact ⟨ret_bool HE.out.symm, by rw [HDD.out]; exact HBW.out.trans (HB2.out.mono (Nat.le_of_lt HDz.out))⟩
        · have HE : Hid _ := HNx.out HOn2.out
          go_wp2
          go_roundw
          case rel => exact ⟨i + 1, by omega, by go_num, by rw [HPr.out], HE.out, HB2.out⟩
          case measure => simp [intOf]; omega
      · obtain rfl : i = n := by omega
        go_wp2
        go_ret
        exact ⟨ret_bool HF.out.symm, chain HBW.out HB.out⟩

end Go.Proofs.Ytkfmifbffgbiiaa

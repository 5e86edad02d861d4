/-
  Texts of this claim laid together: BhB.
-/
import Derived.Test.YtkfmifbffgbiiaaM29
/-
  Contract of the specification's l05Use.
-/
namespace Go.Proofs.Ytkfmifbffgbiiaa
open Go.ChangeShapes Go.WideShapes Go.ChangeAt Go.RowKit
set_option linter.unusedVariables false

/-- Does a use fit, T telling the units that are taken, O the deals that were used? -/
def useT (us : List RUn) (ds : List CDl) (u : CUs) (T O : Nat → Bool) : Bool := useB us ds u && (!((dlAt ds u.dl).on && O u.dl.toNat) && u.us.all fun x => !T x.toNat)

theorem useT_once {us : List RUn} {ds : List CDl} {u : CUs} {T O : Nat → Bool} (h : ((dlAt ds u.dl).on && O u.dl.toNat) = true) : useT us ds u T O = false := by unfold useT; rw [h]; simp
theorem useT_use {us : List RUn} {ds : List CDl} {u : CUs} {T O : Nat → Bool} (h : useB us ds u = false) : useT us ds u T O = false := by unfold useT; rw [h]; rfl
theorem useT_len {us : List RUn} {ds : List CDl} {u : CUs} {T O : Nat → Bool} (h : ¬ (u.us.length : Int) = (dlAt ds u.dl).nd) : useT us ds u T O = false := useT_use (by unfold useB; rw [decide_eq_false h]; simp)
theorem useT_one {us : List RUn} {ds : List CDl} {u : CUs} {T O : Nat → Bool} {i : Nat} (hi : i < u.us.length) (h : oneN us (dlAt ds u.dl) u.us i = false) : useT us ds u T O = false := useT_use (useB_not (okN_stop hi h))
theorem useT_tk {us : List RUn} {ds : List CDl} {u : CUs} {T O : Nat → Bool} {i : Nat} (hi : i < u.us.length) (h : T (u.us.getD i 0).toNat = true) : useT us ds u T O = false := by
  have e : u.us.getD i 0 = u.us[i] := by simp [List.getD_eq_getElem?_getD, hi]
  have : (u.us.all fun x => !T x.toNat) = false := by
    rw [List.all_eq_false]
    exact ⟨_, List.getElem_mem hi, by rw [← e, h]; simp⟩
  unfold useT; rw [this]; simp
theorem useT_ok {us : List RUn} {ds : List CDl} {u : CUs} {T O : Nat → Bool} (h0 : 0 ≤ u.dl ∧ u.dl < (ds.length : Int)) (h1 : (u.us.length : Int) = (dlAt ds u.dl).nd) (h2 : okN us (dlAt ds u.dl) u.us u.us.length = true) (h3 : ((dlAt ds u.dl).on && O u.dl.toNat) = false) (h4 : ∀ i, i < u.us.length → T (u.us.getD i 0).toNat = false) : useT us ds u T O = true := by
  have hu : useB us ds u = true := by unfold useB; rw [decide_eq_true h0, decide_eq_true h1, h2]; rfl
  have : (u.us.all fun x => !T x.toNat) = true := by
    rw [List.all_eq_true]
    intro x hx
    obtain ⟨j, hj, rfl⟩ := List.getElem_of_mem hx
    have e : u.us.getD j 0 = u.us[j] := by simp [List.getD_eq_getElem?_getD, hj]
    rw [← e, h4 j hj]; rfl
  unfold useT; rw [hu, h3, this]; rfl


set_option maxHeartbeats 4000000 in
theorem specUse_any (a : Option Addr) (cap : Nat) (us : List RUn) (hl : us.length ≤ 8) (b : Option Addr) (cb : Nat) (ds : List CDl) (hd : ds.length ≤ 6) (hq : ∀ r ∈ ds, DlOK r) (u : CUs) (h : Option Addr) (cp : Nat) (hu : u.us.length ≤ 1048576) (tb ob : Nat) (T O : Nat → Bool) (w : World) (hr : ReadsUn w.heap.size w a us) (ks : ReadsDl w.heap.size w b ds) (js : Reads w.heap.size w h u.us) (hT : w.rowIs tb 4 us.length (fun n => .bool (T n))) (hO : w.rowIs ob 4 ds.length (fun n => .bool (O n))) :
    Calls Try.prog 30 #[.slice a us.length cap, .slice b ds.length cb, .agg #[.int .i64 u.dl, .int .i64 u.sv, .slice h u.us.length cp], .slice (some ⟨tb, 0, none⟩) us.length us.length, .slice (some ⟨ob, 0, none⟩) ds.length ds.length] w fun e w' => e = .returned (.bool (useT us ds u T O)) ∧ Below w.heap.size w w' := by
  have HR : Hid (ReadsUn w.heap.size w a us) := hr
  have HK : Hid (ReadsDl w.heap.size w b ds) := ks
  have HJ : Hid (Reads w.heap.size w h u.us) := js
  have HQ : Hid (∀ r ∈ ds, DlOK r) := hq
  have HT : Hid (w.rowIs tb 4 us.length (fun n => .bool (T n))) := hT
  have HO : Hid (w.rowIs ob 4 ds.length (fun n => .bool (O n))) := hO
  have HDef : Hid (useT us ds u T O = (useB us ds u && (!((dlAt ds u.dl).on && O u.dl.toNat) && u.us.all fun x => !T x.toNat))) := rfl
  have HWy := useB_ways us ds u
  clear hr ks js hq hT hO
  rcases (show (u.dl < 0 ∧ useB us ds u = false) ∨ (0 ≤ u.dl ∧ (ds.length : Int) ≤ u.dl ∧ useB us ds u = false) ∨ (0 ≤ u.dl ∧ u.dl < (ds.length : Int)) by rcases HWy with x | x | x | x; exact .inl x; exact .inr (.inl x); exact .inr (.inr ⟨x.1, x.2.1⟩); exact .inr (.inr ⟨x.1, x.2.1⟩)) with ⟨h1, hE⟩ | ⟨h1, h2, hE⟩ | ⟨h1, h2⟩
  · have HE : Hid (useT us ds u T O = false) := by show _ = _; rw [HDef.out, hE]; rfl
    obtain ⟨dl, sv, ns⟩ := u
    dsimp only at *
    have hd1 : decide (dl < 0) = true := decide_eq_true h1
    clear hE HDef
    generalize ns.length = n at *
    go_enter Try.func30, Try.ntmps30
    go_wp2
    go_ret
    exact ⟨ret_bool HE.out.symm, below_alloc _ _⟩
  · have HE : Hid (useT us ds u T O = false) := by show _ = _; rw [HDef.out, hE]; rfl
    obtain ⟨dl, sv, ns⟩ := u
    dsimp only at *
    have hd1 : decide (dl < 0) = false := decide_eq_false (by omega)
    have hd2 : decide ((ds.length : Int) ≤ dl) = true := decide_eq_true h2
    clear hE HDef
    generalize ns.length = n at *
    go_enter Try.func30, Try.ntmps30
    go_wp2
    go_ret
    exact ⟨ret_bool HE.out.symm, below_alloc _ _⟩
  · have HX1 : Hid (((dlAt ds u.dl).on && O u.dl.toNat) = true → useT us ds u T O = false) := useT_once
    have HX2 : Hid (¬ (u.us.length : Int) = (dlAt ds u.dl).nd → useT us ds u T O = false) := useT_len
    have HX3 : Hid (∀ {i}, i < u.us.length → oneN us (dlAt ds u.dl) u.us i = false → useT us ds u T O = false) := useT_one
    have HX4 : Hid (∀ {i}, i < u.us.length → T (u.us.getD i 0).toNat = true → useT us ds u T O = false) := useT_tk
    have HX5 : Hid ((u.us.length : Int) = (dlAt ds u.dl).nd → okN us (dlAt ds u.dl) u.us u.us.length = true → ((dlAt ds u.dl).on && O u.dl.toNat) = false → (∀ i, i < u.us.length → T (u.us.getD i 0).toNat = false) → useT us ds u T O = true) := useT_ok ⟨h1, h2⟩
    have HPv : Hid (∀ {i : Nat}, okN us (dlAt ds u.dl) u.us i = true → -1 ≤ prevAt u.us i ∧ prevAt u.us i < (us.length : Int)) := okN_prev
    have HOn : Hid (∀ i, oneN us (dlAt ds u.dl) u.us i = (decide (prevAt u.us i < u.us.getD i 0) && decide (u.us.getD i 0 < (us.length : Int)) && hasB (dlAt ds u.dl).arts (us.getD (u.us.getD i 0).toNat zUn).art)) := fun _ => rfl
    generalize hres : useT us ds u T O = res at *
    clear HDef HWy
    obtain ⟨dl, sv, ns⟩ := u
    dsimp only at *
    obtain ⟨m, rfl⟩ : ∃ m : Nat, dl = (m : Int) := ⟨dl.toNat, by omega⟩
    have hmd : m < ds.length := by omega
    have hdm : dlAt ds (m : Int) = ds.getD m zDl := by unfold dlAt; rw [Int.toNat_natCast]
    rw [Int.toNat_natCast] at HX1 HX5
    rw [hdm] at HX1 HX2 HX3 HX5 HPv HOn
    clear hdm
    have hok : DlOK (ds.getD m zDl) := getDl HQ.out hmd
    rcases HK.out with hz | ⟨b0, o0, hb0, hB0, ia⟩
    · rw [hz] at hmd; simp at hmd
    subst hb0
    obtain ⟨h0, cq, hAt, hcq, hS⟩ := (ia.below (below_alloc w (Obj.cells #[.int .i64 (m : Int), .int .i64 sv, .slice h ns.length cp] 36)) hB0 (Nat.le_refl _)) m hmd
    have s0 : (w.alloc (Obj.cells #[.int .i64 (m : Int), .int .i64 sv, .slice h ns.length cp] 36)).cell? ⟨ob, m, none⟩ = some (.bool (O m)) := (cellOld _ _ HO.out.lt).trans (HO.out.cell (i := m) hmd)
    have hal := hok.2.1
    have HSr : Hid (ReadsS w.heap.size (w.alloc (Obj.cells #[.int .i64 (m : Int), .int .i64 sv, .slice h ns.length cp] 36)) h0 (ds.getD m zDl).arts) := hS
    clear ia hok hS hcq
    generalize ds.getD m zDl = d at *
    obtain ⟨nm, kd, arts, nd, vl, on⟩ := d
    obtain ⟨c0, c1, c2, c3, c4, c5⟩ := hAt
    dsimp only at *
    generalize hOm : O m = om at *
    generalize han : arts.length = an at *
    generalize hN : ns.length = n at *
    have hHas : Hid (∀ (t : ByteArray) (W : World), Below w.heap.size w W → ReadsS w.heap.size W h0 arts → Calls Try.prog 26 #[.slice h0 an cq, .string t] W fun e w' => e = .returned (.bool (hasB arts t)) ∧ w' = W) := fun t W hb hs => by
      have := has_any h0 cq arts (by omega) t W (hs.mono hb.size)
      rwa [han] at this
    clear hOm
    have s1 : ((w.alloc (Obj.cells #[.int .i64 (m : Int), .int .i64 sv, .slice h n cp] 36)).alloc (Obj.cells #[.string nm, .int .i64 kd, .slice h0 an cq, .int .i64 nd, .int .i64 vl, .bool on] 39)).cell? ⟨ob, m, none⟩ = some (.bool om) := (cellOld _ _ (by have := HO.out.lt; simp; omega)).trans s0
    have HBW : Hid (Below w.heap.size w ((w.alloc (Obj.cells #[.int .i64 (m : Int), .int .i64 sv, .slice h n cp] 36)).alloc (Obj.cells #[.string nm, .int .i64 kd, .slice h0 an cq, .int .i64 nd, .int .i64 vl, .bool on] 39))) := chain (below_alloc _ _) (below_alloc _ _)
    have HU0 : Hid (((w.alloc (Obj.cells #[.int .i64 (m : Int), .int .i64 sv, .slice h n cp] 36)).alloc (Obj.cells #[.string nm, .int .i64 kd, .slice h0 an cq, .int .i64 nd, .int .i64 vl, .bool on] 39)).cell? ⟨w.heap.size, 0, none⟩ = some (.int .i64 (m : Int))) := (cellOld _ _ (by simp)).trans (cellNew _ _ _ _ rfl rfl)
    have HU2 : Hid (((w.alloc (Obj.cells #[.int .i64 (m : Int), .int .i64 sv, .slice h n cp] 36)).alloc (Obj.cells #[.string nm, .int .i64 kd, .slice h0 an cq, .int .i64 nd, .int .i64 vl, .bool on] 39)).cell? ⟨w.heap.size, 2, none⟩ = some (.slice h n cp)) := (cellOld _ _ (by simp)).trans (cellNew _ _ _ _ rfl rfl)
    have HD2 : Hid (((w.alloc (Obj.cells #[.int .i64 (m : Int), .int .i64 sv, .slice h n cp] 36)).alloc (Obj.cells #[.string nm, .int .i64 kd, .slice h0 an cq, .int .i64 nd, .int .i64 vl, .bool on] 39)).cell? ⟨w.heap.size + 1, 2, none⟩ = some (.slice h0 an cq)) := cellNew _ _ _ _ (by simp) rfl
    have HSr2 : Hid (ReadsS w.heap.size ((w.alloc (Obj.cells #[.int .i64 (m : Int), .int .i64 sv, .slice h n cp] 36)).alloc (Obj.cells #[.string nm, .int .i64 kd, .slice h0 an cq, .int .i64 nd, .int .i64 vl, .bool on] 39)) h0 arts) := HSr.out.below ((below_alloc _ _).mono (by simp))
    have HT2 : Hid (((w.alloc (Obj.cells #[.int .i64 (m : Int), .int .i64 sv, .slice h n cp] 36)).alloc (Obj.cells #[.string nm, .int .i64 kd, .slice h0 an cq, .int .i64 nd, .int .i64 vl, .bool on] 39)).rowIs tb 4 us.length (fun n => .bool (T n))) := HT.out.of_block ((chain (below_alloc _ _) (below_alloc _ _)).block _ HT.out.lt)
    have HZ2 : Hid (w.heap.size + 1 < ((w.alloc (Obj.cells #[.int .i64 (m : Int), .int .i64 sv, .slice h n cp] 36)).alloc (Obj.cells #[.string nm, .int .i64 kd, .slice h0 an cq, .int .i64 nd, .int .i64 vl, .bool on] 39)).heap.size) := by show _ < _; simp
    clear s0 HSr
    have hz1 : decide ((m : Int) < 0) = false := decide_eq_false (by omega)
    have hz2 : decide (ds.length ≤ m) = false := decide_eq_false (by omega)
    have hz3 : decide ((ds.length : Int) ≤ (m : Int)) = false := decide_eq_false (by omega)
    rcases (show (on = true ∧ om = true) ∨ on = false ∨ (on = true ∧ om = false) by cases on <;> cases om <;> simp) with ⟨rfl, rfl⟩ | rfl | ⟨rfl, rfl⟩
    · have HE : Hid (res = false) := HX1.out rfl
      clear HX1 HX2 HX3 HX4 HX5 HPv HOn HT2 HSr2 HD2 HU2 HU0 hHas
      go_enter Try.func30, Try.ntmps30
      go_wp2
      go_ret
      exact ⟨ret_bool (by first | exact HE.out.symm | (rw [hres, HE.out])), HBW.out⟩
    · by_cases hnd : ((n : Int) == nd) = false
      · have hnd' : ((n : Int) != nd) = true := by rw [bne, hnd]; rfl
        have HE : Hid (res = false) := HX2.out (by simpa using hnd)
        clear HX1 HX2 HX3 HX4 HX5 HPv HOn HT2 HSr2 HD2 HU2 HU0 hHas hnd
        go_enter Try.func30, Try.ntmps30
        go_wp2
        go_ret
        exact ⟨ret_bool (by first | exact HE.out.symm | (rw [hres, HE.out])), HBW.out⟩
      have hnd2 : (n : Int) = nd := by simpa using hnd
      subst hnd2
      clear hnd
      have hnd' : ((n : Int) != (n : Int)) = false := by simp
      have HX6 : Hid (okN us ⟨nm, kd, arts, (n : Int), vl, false⟩ ns n = true → (∀ i, i < n → T (ns.getD i 0).toNat = false) → res = true) := fun q1 q2 => HX5.out rfl q1 (by simp) q2
      clear HX1 HX2 HX5
      go_enter Try.func30, Try.ntmps30
      go_wp2
      generalize ((w.alloc (Obj.cells #[.int .i64 (m : Int), .int .i64 sv, .slice h n cp] 36)).alloc (Obj.cells #[.string nm, .int .i64 kd, .slice h0 an cq, .int .i64 (n : Int), .int .i64 vl, .bool false] 39)) = W2 at *
      go_loopw [12, 13] (fun c _ wr => ∃ i : Nat, i ≤ n ∧ c = .int .i64 (i : Int) ∧ okN us ⟨nm, kd, arts, (n : Int), vl, false⟩ ns i = true ∧ (∀ j, j < i → T (ns.getD j 0).toNat = false) ∧ Below W2.heap.size W2 wr) (fun c _ _ => n - (intOf c).toNat)
      case atStart => exact ⟨0, Nat.zero_le _, rfl, rfl, fun j hj => by omega, Below.refl _ _⟩
      case round =>
        clear s1 c0 c1 c2 c3 c4 c5
        obtain ⟨i, hi, rfl, hf, hnt, hb⟩ := hrel
        have HF : Hid (okN us ⟨nm, kd, arts, (n : Int), vl, false⟩ ns i = true) := hf
        have HNt : Hid (∀ j, j < i → T (ns.getD j 0).toNat = false) := hnt
        have HB : Hid (Below W2.heap.size W2 wr) := hb
        have HBw : Hid (Below w.heap.size w wr) := chain HBW.out hb
        have u2 : wr.cell? ⟨w.heap.size, 2, none⟩ = some (.slice h n cp) := (hb.cell (p := ⟨w.heap.size, 2, none⟩) (show w.heap.size < W2.heap.size by have := HZ2.out; omega)).trans HU2.out
        have e2 : wr.cell? ⟨w.heap.size + 1, 2, none⟩ = some (.slice h0 an cq) := (hb.cell (p := ⟨w.heap.size + 1, 2, none⟩) HZ2.out).trans HD2.out
        have HS3 : Hid (ReadsS w.heap.size wr h0 arts) := HSr2.out.below (hb.mono HBW.out.size)
        have HT3 : Hid (wr.rowIs tb 4 us.length (fun n => .bool (T n))) := HT2.out.of_block (hb.block _ HT2.out.lt)
        clear hf hnt hb
        by_cases hlt : i < n
        · have hlt' : (i : Int) < (n : Int) := by omega
          obtain ⟨hp0, hp1⟩ := HPv.out HF.out
          rcases HJ.out with hz | ⟨b1, o1, hb1, hB1, ib⟩
          · rw [hz] at hN; simp at hN; omega
          subst hb1
          have d0 := (ib.below HBw.out hB1) i (by omega)
          have HIb : Hid (IntsAt wr b1 o1 ns) := ib.below HBw.out hB1
          have HX : Hid (oneN us ⟨nm, kd, arts, (n : Int), vl, false⟩ ns i = false → res = false) := fun q => HX3.out hlt q
          have HXt : Hid (T (ns.getD i 0).toNat = true → res = false) := fun q => HX4.out hlt q
          have HNx : Hid (oneN us ⟨nm, kd, arts, (n : Int), vl, false⟩ ns i = true → okN us ⟨nm, kd, arts, (n : Int), vl, false⟩ ns (i + 1) = true) := fun q => by show (okN us _ ns i && oneN us _ ns i) = true; rw [HF.out, q]; rfl
          have HNt2 : Hid (T (ns.getD i 0).toNat = false → ∀ j, j < i + 1 → T (ns.getD j 0).toNat = false) := fun q j hj => by
            by_cases e : j = i
            · subst e; exact q
            · exact HNt.out j (by omega)
          have HOi := HOn.out i
          have HOi2 : Hid _ := HOi
          have HPz : Hid (i = 0 → prevAt ns i = -1) := fun q => by unfold prevAt; rw [if_pos q]
          have HPs : Hid (∀ j, i = j + 1 → prevAt ns i = ns.getD j 0) := fun j q => by unfold prevAt; rw [if_neg (by omega), q]; rfl
          clear ib HOi
          generalize hx : ns.getD i 0 = x at *
          clear hx
          generalize prevAt ns i = pv at *
          by_cases g1 : x < 0
          · have gd : decide (x < 0) = true := decide_eq_true g1
            have HE : Hid (res = false) := HX.out (by rw [HOi2.out, decide_eq_false (by omega)]; rfl)
            clear HX HXt HNx HNt2 HOi2 HPz HPs
            go_wp2_with fail
            go_quiet (fail)
            go_wp2
            go_ret
            exact ⟨ret_bool HE.out.symm, chain HBw.out (drewBelow _ _)⟩
          have gd : decide (x < 0) = false := decide_eq_false g1
          by_cases g2 : (us.length : Int) ≤ x
          · have gd2 : decide ((us.length : Int) ≤ x) = true := decide_eq_true g2
            have HE : Hid (res = false) := HX.out (by rw [HOi2.out, decide_eq_false (show ¬ x < (us.length : Int) by omega)]; simp)
            clear HX HXt HNx HNt2 HOi2 HPz HPs
            go_wp2_with fail
            go_quiet (fail)
            go_wp2
            go_ret
            exact ⟨ret_bool HE.out.symm, chain HBw.out (drewBelow _ _)⟩
          obtain ⟨q, rfl⟩ : ∃ q : Nat, x = (q : Int) := ⟨x.toNat, by omega⟩
          have hq : q < us.length := by omega
          have hq' : (q : Int) < (us.length : Int) := by omega
          have gd2 : decide ((us.length : Int) ≤ (q : Int)) = false := decide_eq_false (by omega)
          have gd2' : decide (us.length ≤ q) = false := decide_eq_false (by omega)
          rw [Int.toNat_natCast] at HXt HNt2 HOi2
          rcases HR.out with hz | ⟨b2, o2, hb2, hB2, ic⟩
          · rw [hz] at hq; simp at hq
          subst hb2
          obtain ⟨e0, _⟩ := (ic.below HBw.out hB2) q hq
          have t0 := HT3.out.cell (i := q) hq
          have HOi3 : Hid (oneN us ⟨nm, kd, arts, (n : Int), vl, false⟩ ns i = (decide (pv < (q : Int)) && hasB arts (us.getD q zUn).art)) := by show _ = _; rw [HOi2.out, decide_eq_true hq', Bool.and_true]
          clear ic HOi2
          generalize us.getD q zUn = un at *
          obtain ⟨ua, up⟩ := un
          dsimp only at *
          by_cases hi0 : i = 0
          · have hpv := HPz.out hi0
            subst hi0
            subst hpv
            rw [Nat.add_zero] at d0
            clear HPz HPs
            rw [decide_eq_true (show (-1 : Int) < (q : Int) by omega), Bool.true_and] at HOi3
            cases htq : T q
            · rw [htq] at t0
              have HN5 : Hid _ := HNt2.out htq
              cases hha : hasB arts ua
              · have HE : Hid (res = false) := HX.out (by rw [HOi3.out, hha])
                have HH : Hid (∀ W, Below w.heap.size w W → ReadsS w.heap.size W h0 arts → _) := fun W q1 q2 => hHas.out ua W q1 q2
                rw [hha] at HH
                clear HX HXt HNx HNt2 HN5 hHas
                go_wp2_with fail
                go_quiet (first | (go_at_call 26; exact Calls.quiet_of_same (HH.out _ (chain HBw.out (drewBelow _ _)) (HS3.out.below ((drewBelow _ _).mono HBw.out.size)))))
                go_wp2
                go_ret
                exact ⟨ret_bool HE.out.symm, chain HBw.out (drewBelow _ _)⟩
              · have HE : Hid _ := HNx.out (by rw [HOi3.out, hha])
                have HH : Hid (∀ W, Below w.heap.size w W → ReadsS w.heap.size W h0 arts → _) := fun W q1 q2 => hHas.out ua W q1 q2
                rw [hha] at HH
                clear HX HXt HNx HNt2 hHas
                go_wp2_with fail
                go_quiet (first | (go_at_call 26; exact Calls.quiet_of_same (HH.out _ (chain HBw.out (drewBelow _ _)) (HS3.out.below ((drewBelow _ _).mono HBw.out.size)))))
                go_wp2
                go_roundw
                case rel => exact ⟨0 + 1, by omega, by go_num, HE.out, HN5.out, chain HB.out (drewBelow _ _)⟩
                case measure => simp [intOf]; omega
            · rw [htq] at t0
              have HE : Hid (res = false) := HXt.out htq
              clear HX HXt HNx HNt2 hHas
              go_wp2_with fail
              go_quiet (fail)
              go_wp2
              go_ret
              exact ⟨ret_bool HE.out.symm, chain HBw.out (drewBelow _ _)⟩
          · obtain ⟨j, rfl⟩ : ∃ j, i = j + 1 := ⟨i - 1, by omega⟩
            have hpv := HPs.out j rfl
            have dp := HIb.out j (by omega)
            rw [← hpv] at dp
            have hjn : (j : Int) < (n : Int) := by omega
            have hw1 : IntKind.i64.wrap (((j + 1 : Nat) : Int) - 1) = (j : Int) := by rw [wrap_id _ (by omega) (by omega)]; omega
            have hi1 : decide ((0 : Int) < ((j + 1 : Nat) : Int)) = true := decide_eq_true (by omega)
            clear HPz HPs hpv
            by_cases g3 : (q : Int) ≤ pv
            · have gd3 : decide ((q : Int) ≤ pv) = true := decide_eq_true g3
              have HE : Hid (res = false) := HX.out (by rw [HOi3.out, decide_eq_false (by omega)]; rfl)
              clear HX HXt HNx HNt2 hHas HOi3
              go_wp2_with fail
              go_quiet (fail)
              go_wp2
              go_ret
              exact ⟨ret_bool HE.out.symm, chain HBw.out (drewBelow _ _)⟩
            have gd3 : decide ((q : Int) ≤ pv) = false := decide_eq_false g3
            rw [decide_eq_true (show pv < (q : Int) by omega), Bool.true_and] at HOi3
            cases htq : T q
            · rw [htq] at t0
              have HN5 : Hid _ := HNt2.out htq
              cases hha : hasB arts ua
              · have HE : Hid (res = false) := HX.out (by rw [HOi3.out, hha])
                have HH : Hid (∀ W, Below w.heap.size w W → ReadsS w.heap.size W h0 arts → _) := fun W q1 q2 => hHas.out ua W q1 q2
                rw [hha] at HH
                clear HX HXt HNx HNt2 HN5 hHas
                go_wp2_with fail
                go_quiet (first | (go_at_call 26; exact Calls.quiet_of_same (HH.out _ (chain HBw.out (drewBelow _ _)) (HS3.out.below ((drewBelow _ _).mono HBw.out.size)))))
                go_wp2
                go_ret
                exact ⟨ret_bool HE.out.symm, chain HBw.out (drewBelow _ _)⟩
              · have HE : Hid _ := HNx.out (by rw [HOi3.out, hha])
                have HH : Hid (∀ W, Below w.heap.size w W → ReadsS w.heap.size W h0 arts → _) := fun W q1 q2 => hHas.out ua W q1 q2
                rw [hha] at HH
                clear HX HXt HNx HNt2 hHas
                go_wp2_with fail
                go_quiet (first | (go_at_call 26; exact Calls.quiet_of_same (HH.out _ (chain HBw.out (drewBelow _ _)) (HS3.out.below ((drewBelow _ _).mono HBw.out.size)))))
                go_wp2
                go_roundw
                case rel => exact ⟨(j + 1) + 1, by omega, by go_num, HE.out, HN5.out, chain HB.out (drewBelow _ _)⟩
                case measure => simp [intOf]; omega
            · rw [htq] at t0
              have HE : Hid (res = false) := HXt.out htq
              clear HX HXt HNx HNt2 hHas
              go_wp2_with fail
              go_quiet (fail)
              go_wp2
              go_ret
              exact ⟨ret_bool HE.out.symm, chain HBw.out (drewBelow _ _)⟩
        · obtain rfl : i = n := by omega
          have HE : Hid (res = true) := HX6.out HF.out HNt.out
          go_wp2
          go_ret
          exact ⟨ret_bool HE.out.symm, HBw.out⟩
    · by_cases hnd : ((n : Int) == nd) = false
      · have hnd' : ((n : Int) != nd) = true := by rw [bne, hnd]; rfl
        have HE : Hid (res = false) := HX2.out (by simpa using hnd)
        clear HX1 HX2 HX3 HX4 HX5 HPv HOn HT2 HSr2 HD2 HU2 HU0 hHas hnd
        go_enter Try.func30, Try.ntmps30
        go_wp2
        go_ret
        exact ⟨ret_bool (by first | exact HE.out.symm | (rw [hres, HE.out])), HBW.out⟩
      have hnd2 : (n : Int) = nd := by simpa using hnd
      subst hnd2
      clear hnd
      have hnd' : ((n : Int) != (n : Int)) = false := by simp
      have HX6 : Hid (okN us ⟨nm, kd, arts, (n : Int), vl, true⟩ ns n = true → (∀ i, i < n → T (ns.getD i 0).toNat = false) → res = true) := fun q1 q2 => HX5.out rfl q1 (by simp) q2
      clear HX1 HX2 HX5
      go_enter Try.func30, Try.ntmps30
      go_wp2
      generalize ((w.alloc (Obj.cells #[.int .i64 (m : Int), .int .i64 sv, .slice h n cp] 36)).alloc (Obj.cells #[.string nm, .int .i64 kd, .slice h0 an cq, .int .i64 (n : Int), .int .i64 vl, .bool true] 39)) = W2 at *
      go_loopw [12, 13] (fun c _ wr => ∃ i : Nat, i ≤ n ∧ c = .int .i64 (i : Int) ∧ okN us ⟨nm, kd, arts, (n : Int), vl, true⟩ ns i = true ∧ (∀ j, j < i → T (ns.getD j 0).toNat = false) ∧ Below W2.heap.size W2 wr) (fun c _ _ => n - (intOf c).toNat)
      case atStart => exact ⟨0, Nat.zero_le _, rfl, rfl, fun j hj => by omega, Below.refl _ _⟩
      case round =>
        clear s1 c0 c1 c2 c3 c4 c5
        obtain ⟨i, hi, rfl, hf, hnt, hb⟩ := hrel
        have HF : Hid (okN us ⟨nm, kd, arts, (n : Int), vl, true⟩ ns i = true) := hf
        have HNt : Hid (∀ j, j < i → T (ns.getD j 0).toNat = false) := hnt
        have HB : Hid (Below W2.heap.size W2 wr) := hb
        have HBw : Hid (Below w.heap.size w wr) := chain HBW.out hb
        have u2 : wr.cell? ⟨w.heap.size, 2, none⟩ = some (.slice h n cp) := (hb.cell (p := ⟨w.heap.size, 2, none⟩) (show w.heap.size < W2.heap.size by have := HZ2.out; omega)).trans HU2.out
        have e2 : wr.cell? ⟨w.heap.size + 1, 2, none⟩ = some (.slice h0 an cq) := (hb.cell (p := ⟨w.heap.size + 1, 2, none⟩) HZ2.out).trans HD2.out
        have HS3 : Hid (ReadsS w.heap.size wr h0 arts) := HSr2.out.below (hb.mono HBW.out.size)
        have HT3 : Hid (wr.rowIs tb 4 us.length (fun n => .bool (T n))) := HT2.out.of_block (hb.block _ HT2.out.lt)
        clear hf hnt hb
        by_cases hlt : i < n
        · have hlt' : (i : Int) < (n : Int) := by omega
          obtain ⟨hp0, hp1⟩ := HPv.out HF.out
          rcases HJ.out with hz | ⟨b1, o1, hb1, hB1, ib⟩
          · rw [hz] at hN; simp at hN; omega
          subst hb1
          have d0 := (ib.below HBw.out hB1) i (by omega)
          have HIb : Hid (IntsAt wr b1 o1 ns) := ib.below HBw.out hB1
          have HX : Hid (oneN us ⟨nm, kd, arts, (n : Int), vl, true⟩ ns i = false → res = false) := fun q => HX3.out hlt q
          have HXt : Hid (T (ns.getD i 0).toNat = true → res = false) := fun q => HX4.out hlt q
          have HNx : Hid (oneN us ⟨nm, kd, arts, (n : Int), vl, true⟩ ns i = true → okN us ⟨nm, kd, arts, (n : Int), vl, true⟩ ns (i + 1) = true) := fun q => by show (okN us _ ns i && oneN us _ ns i) = true; rw [HF.out, q]; rfl
          have HNt2 : Hid (T (ns.getD i 0).toNat = false → ∀ j, j < i + 1 → T (ns.getD j 0).toNat = false) := fun q j hj => by
            by_cases e : j = i
            · subst e; exact q
            · exact HNt.out j (by omega)
          have HOi := HOn.out i
          have HOi2 : Hid _ := HOi
          have HPz : Hid (i = 0 → prevAt ns i = -1) := fun q => by unfold prevAt; rw [if_pos q]
          have HPs : Hid (∀ j, i = j + 1 → prevAt ns i = ns.getD j 0) := fun j q => by unfold prevAt; rw [if_neg (by omega), q]; rfl
          clear ib HOi
          generalize hx : ns.getD i 0 = x at *
          clear hx
          generalize prevAt ns i = pv at *
          by_cases g1 : x < 0
          · have gd : decide (x < 0) = true := decide_eq_true g1
            have HE : Hid (res = false) := HX.out (by rw [HOi2.out, decide_eq_false (by omega)]; rfl)
            clear HX HXt HNx HNt2 HOi2 HPz HPs
            go_wp2_with fail
            go_quiet (fail)
            go_wp2
            go_ret
            exact ⟨ret_bool HE.out.symm, chain HBw.out (drewBelow _ _)⟩
          have gd : decide (x < 0) = false := decide_eq_false g1
          by_cases g2 : (us.length : Int) ≤ x
          · have gd2 : decide ((us.length : Int) ≤ x) = true := decide_eq_true g2
            have HE : Hid (res = false) := HX.out (by rw [HOi2.out, decide_eq_false (show ¬ x < (us.length : Int) by omega)]; simp)
            clear HX HXt HNx HNt2 HOi2 HPz HPs
            go_wp2_with fail
            go_quiet (fail)
            go_wp2
            go_ret
            exact ⟨ret_bool HE.out.symm, chain HBw.out (drewBelow _ _)⟩
          obtain ⟨q, rfl⟩ : ∃ q : Nat, x = (q : Int) := ⟨x.toNat, by omega⟩
          have hq : q < us.length := by omega
          have hq' : (q : Int) < (us.length : Int) := by omega
          have gd2 : decide ((us.length : Int) ≤ (q : Int)) = false := decide_eq_false (by omega)
          have gd2' : decide (us.length ≤ q) = false := decide_eq_false (by omega)
          rw [Int.toNat_natCast] at HXt HNt2 HOi2
          rcases HR.out with hz | ⟨b2, o2, hb2, hB2, ic⟩
          · rw [hz] at hq; simp at hq
          subst hb2
          obtain ⟨e0, _⟩ := (ic.below HBw.out hB2) q hq
          have t0 := HT3.out.cell (i := q) hq
          have HOi3 : Hid (oneN us ⟨nm, kd, arts, (n : Int), vl, true⟩ ns i = (decide (pv < (q : Int)) && hasB arts (us.getD q zUn).art)) := by show _ = _; rw [HOi2.out, decide_eq_true hq', Bool.and_true]
          clear ic HOi2
          generalize us.getD q zUn = un at *
          obtain ⟨ua, up⟩ := un
          dsimp only at *
          by_cases hi0 : i = 0
          · have hpv := HPz.out hi0
            subst hi0
            subst hpv
            rw [Nat.add_zero] at d0
            clear HPz HPs
            rw [decide_eq_true (show (-1 : Int) < (q : Int) by omega), Bool.true_and] at HOi3
            cases htq : T q
            · rw [htq] at t0
              have HN5 : Hid _ := HNt2.out htq
              cases hha : hasB arts ua
              · have HE : Hid (res = false) := HX.out (by rw [HOi3.out, hha])
                have HH : Hid (∀ W, Below w.heap.size w W → ReadsS w.heap.size W h0 arts → _) := fun W q1 q2 => hHas.out ua W q1 q2
                rw [hha] at HH
                clear HX HXt HNx HNt2 HN5 hHas
                go_wp2_with fail
                go_quiet (first | (go_at_call 26; exact Calls.quiet_of_same (HH.out _ (chain HBw.out (drewBelow _ _)) (HS3.out.below ((drewBelow _ _).mono HBw.out.size)))))
                go_wp2
                go_ret
                exact ⟨ret_bool HE.out.symm, chain HBw.out (drewBelow _ _)⟩
              · have HE : Hid _ := HNx.out (by rw [HOi3.out, hha])
                have HH : Hid (∀ W, Below w.heap.size w W → ReadsS w.heap.size W h0 arts → _) := fun W q1 q2 => hHas.out ua W q1 q2
                rw [hha] at HH
                clear HX HXt HNx HNt2 hHas
                go_wp2_with fail
                go_quiet (first | (go_at_call 26; exact Calls.quiet_of_same (HH.out _ (chain HBw.out (drewBelow _ _)) (HS3.out.below ((drewBelow _ _).mono HBw.out.size)))))
                go_wp2
                go_roundw
                case rel => exact ⟨0 + 1, by omega, by go_num, HE.out, HN5.out, chain HB.out (drewBelow _ _)⟩
                case measure => simp [intOf]; omega
            · rw [htq] at t0
              have HE : Hid (res = false) := HXt.out htq
              clear HX HXt HNx HNt2 hHas
              go_wp2_with fail
              go_quiet (fail)
              go_wp2
              go_ret
              exact ⟨ret_bool HE.out.symm, chain HBw.out (drewBelow _ _)⟩
          · obtain ⟨j, rfl⟩ : ∃ j, i = j + 1 := ⟨i - 1, by omega⟩
            have hpv := HPs.out j rfl
            have dp := HIb.out j (by omega)
            rw [← hpv] at dp
            have hjn : (j : Int) < (n : Int) := by omega
            have hw1 : IntKind.i64.wrap (((j + 1 : Nat) : Int) - 1) = (j : Int) := by rw [wrap_id _ (by omega) (by omega)]; omega
            have hi1 : decide ((0 : Int) < ((j + 1 : Nat) : Int)) = true := decide_eq_true (by omega)
            clear HPz HPs hpv
            by_cases g3 : (q : Int) ≤ pv
            · have gd3 : decide ((q : Int) ≤ pv) = true := decide_eq_true g3
              have HE : Hid (res = false) := HX.out (by rw [HOi3.out, decide_eq_false (by omega)]; rfl)
              clear HX HXt HNx HNt2 hHas HOi3
              go_wp2_with fail
              go_quiet (fail)
              go_wp2
              go_ret
              exact ⟨ret_bool HE.out.symm, chain HBw.out (drewBelow _ _)⟩
            have gd3 : decide ((q : Int) ≤ pv) = false := decide_eq_false g3
            rw [decide_eq_true (show pv < (q : Int) by omega), Bool.true_and] at HOi3
            cases htq : T q
            · rw [htq] at t0
              have HN5 : Hid _ := HNt2.out htq
              cases hha : hasB arts ua
              · have HE : Hid (res = false) := HX.out (by rw [HOi3.out, hha])
                have HH : Hid (∀ W, Below w.heap.size w W → ReadsS w.heap.size W h0 arts → _) := fun W q1 q2 => hHas.out ua W q1 q2
                rw [hha] at HH
                clear HX HXt HNx HNt2 HN5 hHas
                go_wp2_with fail
                go_quiet (first | (go_at_call 26; exact Calls.quiet_of_same (HH.out _ (chain HBw.out (drewBelow _ _)) (HS3.out.below ((drewBelow _ _).mono HBw.out.size)))))
                go_wp2
                go_ret
                exact ⟨ret_bool HE.out.symm, chain HBw.out (drewBelow _ _)⟩
              · have HE : Hid _ := HNx.out (by rw [HOi3.out, hha])
                have HH : Hid (∀ W, Below w.heap.size w W → ReadsS w.heap.size W h0 arts → _) := fun W q1 q2 => hHas.out ua W q1 q2
                rw [hha] at HH
                clear HX HXt HNx HNt2 hHas
                go_wp2_with fail
                go_quiet (first | (go_at_call 26; exact Calls.quiet_of_same (HH.out _ (chain HBw.out (drewBelow _ _)) (HS3.out.below ((drewBelow _ _).mono HBw.out.size)))))
                go_wp2
                go_roundw
                case rel => exact ⟨(j + 1) + 1, by omega, by go_num, HE.out, HN5.out, chain HB.out (drewBelow _ _)⟩
                case measure => simp [intOf]; omega
            · rw [htq] at t0
              have HE : Hid (res = false) := HXt.out htq
              clear HX HXt HNx HNt2 hHas
              go_wp2_with fail
              go_quiet (fail)
              go_wp2
              go_ret
              exact ⟨ret_bool HE.out.symm, chain HBw.out (drewBelow _ _)⟩
        · obtain rfl : i = n := by omega
          have HE : Hid (res = true) := HX6.out HF.out HNt.out
          go_wp2
          go_ret
          exact ⟨ret_bool HE.out.symm, HBw.out⟩

end Go.Proofs.Ytkfmifbffgbiiaa

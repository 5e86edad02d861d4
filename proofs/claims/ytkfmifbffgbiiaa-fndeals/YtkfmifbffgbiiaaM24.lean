/-
  Texts of this claim laid together: BgE.
-/
import Derived.Test.YtkfmifbffgbiiaaM23
/-
  Which uses fit together, as a function; contract of the program's usesFit.
-/
namespace Go.Proofs.Ytkfmifbffgbiiaa
open Go.ChangeShapes Go.WideShapes Go.ChangeAt Go.RowKit
set_option linter.unusedVariables false

/-- Is unit n in one of the first k uses? -/
def tkB (cs : List CUs) (k : Nat) (n : Nat) : Bool := (cs.take k).any fun u => u.us.any fun x => x == (n : Int)
/-- Was deal n used by one of the first k uses? -/
def spB (cs : List CUs) (k : Nat) (n : Nat) : Bool := (cs.take k).any fun u => u.dl == (n : Int)
def stepB (us : List RUn) (ds : List CDl) (cs : List CUs) (k : Nat) : Bool := useB us ds (cs.getD k zUs) && (!((dlAt ds (cs.getD k zUs).dl).on && spB cs k (cs.getD k zUs).dl.toNat) && (cs.getD k zUs).us.all fun x => !tkB cs k x.toNat)
def fitN (us : List RUn) (ds : List CDl) (cs : List CUs) : Nat → Bool
  | 0 => true
  | k + 1 => fitN us ds cs k && stepB us ds cs k
def fitB (us : List RUn) (ds : List CDl) (cs : List CUs) : Bool := fitN us ds cs cs.length

theorem okN_at {us : List RUn} {d : CDl} {ns : List Int} : ∀ {n : Nat}, okN us d ns n = true → ∀ i, i < n → okN us d ns i = true ∧ oneN us d ns i = true := fun {n} h i hi => by
  induction n with
  | zero => omega
  | succ n ih =>
    have h' : (okN us d ns n && oneN us d ns n) = true := h
    rw [Bool.and_eq_true] at h'
    by_cases e : i = n
    · subst e; exact h'
    · exact ih h'.1 (by omega)
theorem okN_in {us : List RUn} {d : CDl} {ns : List Int} (h : okN us d ns ns.length = true) (i : Nat) (hi : i < ns.length) : 0 ≤ ns.getD i 0 ∧ ns.getD i 0 < (us.length : Int) ∧ prevAt ns i < ns.getD i 0 := by
  obtain ⟨h1, h2⟩ := okN_at h i hi
  have := okN_prev h1
  unfold oneN at h2
  simp only [Bool.and_eq_true, decide_eq_true_eq] at h2
  omega
theorem okN_rise {us : List RUn} {d : CDl} {ns : List Int} (h : okN us d ns ns.length = true) : ∀ i j, i < j → j < ns.length → ns.getD i 0 < ns.getD j 0 := fun i j hij hj => by
  induction j with
  | zero => omega
  | succ j ih =>
    have h1 := (okN_in h (j + 1) hj).2.2
    have e : prevAt ns (j + 1) = ns.getD j 0 := by unfold prevAt; rw [if_neg (by omega)]; rfl
    rw [e] at h1
    by_cases q : i = j
    · subst q; exact h1
    · have := ih (by omega) (by omega)
      omega
/-- Is n among the first j? -/
def amB (ns : List Int) (j n : Nat) : Bool := (ns.take j).any fun x => x == (n : Int)
theorem amB_next (ns : List Int) (j n : Nat) (h : j < ns.length) : amB ns (j + 1) n = (amB ns j n || (ns.getD j 0 == (n : Int))) := by
  have e : ns.getD j 0 = ns[j] := by simp [List.getD_eq_getElem?_getD, h]
  unfold amB
  rw [List.take_succ_eq_append_getElem h, List.any_append, e]; simp
theorem amB_not {us : List RUn} {d : CDl} {ns : List Int} (h : okN us d ns ns.length = true) (j m : Nat) (hj : j < ns.length) (hm : ns.getD j 0 = (m : Int)) : amB ns j m = false := by
  unfold amB
  rw [List.any_eq_false]
  intro x hx
  obtain ⟨i, hi, rfl⟩ := List.getElem_of_mem hx
  rw [List.length_take] at hi
  have := okN_rise h i j (by omega) hj
  have e : (ns.take j)[i] = ns.getD i 0 := by simp [List.getD_eq_getElem?_getD, show i < ns.length by omega]
  rw [e]
  intro q
  rw [beq_iff_eq] at q
  omega
theorem tkB_next (cs : List CUs) (k n : Nat) (h : k < cs.length) : tkB cs (k + 1) n = (tkB cs k n || amB (cs.getD k zUs).us (cs.getD k zUs).us.length n) := by
  have e : cs.getD k zUs = cs[k] := by simp [List.getD_eq_getElem?_getD, h]
  unfold tkB amB
  rw [List.take_succ_eq_append_getElem h, List.any_append, e, List.take_length]; simp
theorem spB_next (cs : List CUs) (k n : Nat) (h : k < cs.length) : spB cs (k + 1) n = (spB cs k n || ((cs.getD k zUs).dl == (n : Int))) := by
  have e : cs.getD k zUs = cs[k] := by simp [List.getD_eq_getElem?_getD, h]
  unfold spB
  rw [List.take_succ_eq_append_getElem h, List.any_append, e]; simp
theorem fitN_le (us : List RUn) (ds : List CDl) (cs : List CUs) : ∀ k j, k ≤ j → fitN us ds cs k = false → fitN us ds cs j = false := fun k j h hf => by
  induction j with
  | zero => obtain rfl : k = 0 := by omega
            exact hf
  | succ j ih =>
    by_cases e : k = j + 1
    · subst e; exact hf
    · unfold fitN; rw [ih (by omega)]; rfl
theorem fit_stop {us : List RUn} {ds : List CDl} {cs : List CUs} {k : Nat} (h : k < cs.length) (hq : stepB us ds cs k = false) : fitB us ds cs = false := by
  refine fitN_le us ds cs (k + 1) cs.length h ?_
  unfold fitN; rw [hq]; simp
theorem step_use {us : List RUn} {ds : List CDl} {cs : List CUs} {k : Nat} (h : useB us ds (cs.getD k zUs) = false) : stepB us ds cs k = false := by unfold stepB; rw [h]; rfl
theorem step_once {us : List RUn} {ds : List CDl} {cs : List CUs} {k : Nat} (h : ((dlAt ds (cs.getD k zUs).dl).on && spB cs k (cs.getD k zUs).dl.toNat) = true) : stepB us ds cs k = false := by unfold stepB; rw [h]; simp
theorem step_taken {us : List RUn} {ds : List CDl} {cs : List CUs} {k j : Nat} (hj : j < (cs.getD k zUs).us.length) (h : tkB cs k ((cs.getD k zUs).us.getD j 0).toNat = true) : stepB us ds cs k = false := by
  have e : (cs.getD k zUs).us.getD j 0 = (cs.getD k zUs).us[j] := by rw [List.getD_eq_getElem?_getD, List.getElem?_eq_getElem hj]; rfl
  have : ((cs.getD k zUs).us.all fun x => !tkB cs k x.toNat) = false := by
    rw [List.all_eq_false]
    exact ⟨_, List.getElem_mem hj, by rw [← e, h]; simp⟩
  unfold stepB; rw [this]; simp
theorem step_ok {us : List RUn} {ds : List CDl} {cs : List CUs} {k : Nat} (h1 : useB us ds (cs.getD k zUs) = true) (h2 : ((dlAt ds (cs.getD k zUs).dl).on && spB cs k (cs.getD k zUs).dl.toNat) = false) (h3 : ∀ j, j < (cs.getD k zUs).us.length → tkB cs k ((cs.getD k zUs).us.getD j 0).toNat = false) : stepB us ds cs k = true := by
  have : ((cs.getD k zUs).us.all fun x => !tkB cs k x.toNat) = true := by
    rw [List.all_eq_true]
    intro x hx
    obtain ⟨j, hj, rfl⟩ := List.getElem_of_mem hx
    have e : (cs.getD k zUs).us.getD j 0 = (cs.getD k zUs).us[j] := by rw [List.getD_eq_getElem?_getD, List.getElem?_eq_getElem hj]; rfl
    rw [← e, h3 j hj]; rfl
  unfold stepB; rw [h1, h2, this]; rfl
theorem useB_yes {us : List RUn} {ds : List CDl} {u : CUs} (h : useB us ds u = true) : (0 ≤ u.dl ∧ u.dl < (ds.length : Int)) ∧ (u.us.length : Int) = (dlAt ds u.dl).nd ∧ okN us (dlAt ds u.dl) u.us u.us.length = true := by
  unfold useB at h
  simp only [Bool.and_eq_true, decide_eq_true_eq] at h
  exact ⟨h.1.1, h.1.2, h.2⟩
theorem row8 (w : World) : (w.alloc (Obj.cells #[.bool false, .bool false, .bool false, .bool false, .bool false, .bool false, .bool false, .bool false] 83)).rowIs w.heap.size 83 8 (fun _ => .bool false) := by
  refine ⟨_, heapNew _ _, rfl, fun i hi => ?_⟩
  match i, hi with
  | 0, _ => rfl
  | 1, _ => rfl
  | 2, _ => rfl
  | 3, _ => rfl
  | 4, _ => rfl
  | 5, _ => rfl
  | 6, _ => rfl
  | 7, _ => rfl
theorem row6 (w : World) : (w.alloc (Obj.cells #[.bool false, .bool false, .bool false, .bool false, .bool false, .bool false] 84)).rowIs w.heap.size 84 6 (fun _ => .bool false) := by
  refine ⟨_, heapNew _ _, rfl, fun i hi => ?_⟩
  match i, hi with
  | 0, _ => rfl
  | 1, _ => rfl
  | 2, _ => rfl
  | 3, _ => rfl
  | 4, _ => rfl
  | 5, _ => rfl


set_option maxHeartbeats 4000000 in
theorem usesFit_any (a : Option Addr) (cap : Nat) (us : List RUn) (hl : us.length ≤ 8) (b : Option Addr) (cb : Nat) (ds : List CDl) (hd : ds.length ≤ 6) (hq : ∀ r ∈ ds, DlOK r) (g : Option Addr) (cg : Nat) (cs : List CUs) (hc : cs.length ≤ 1048576) (hu : ∀ r ∈ cs, UsOK r) (w : World) (hr : ReadsUn w.heap.size w a us) (ks : ReadsDl w.heap.size w b ds) (js : ReadsUs w.heap.size w g cs) :
    Calls Try.prog 16 #[.slice a us.length cap, .slice b ds.length cb, .slice g cs.length cg] w fun e w' => e = .returned (.bool (fitB us ds cs)) ∧ Below w.heap.size w w' := by
  have HR : Hid (ReadsUn w.heap.size w a us) := hr
  have HK : Hid (ReadsDl w.heap.size w b ds) := ks
  have HJ : Hid (ReadsUs w.heap.size w g cs) := js
  have HQ : Hid (∀ r ∈ ds, DlOK r) := hq
  have HU : Hid (∀ r ∈ cs, UsOK r) := hu
  clear hr ks js hq hu
  go_enter Try.func16, Try.ntmps16
  go_wp2
  have HT0 : Hid (((w.alloc (Obj.cells #[.bool false, .bool false, .bool false, .bool false, .bool false, .bool false, .bool false, .bool false] 83)).alloc (Obj.cells #[.bool false, .bool false, .bool false, .bool false, .bool false, .bool false] 84)).rowIs w.heap.size 83 8 (fun _ => .bool false)) := (row8 w).of_block ((below_alloc _ _).block _ (by simp))
  have HS0 : Hid (((w.alloc (Obj.cells #[.bool false, .bool false, .bool false, .bool false, .bool false, .bool false, .bool false, .bool false] 83)).alloc (Obj.cells #[.bool false, .bool false, .bool false, .bool false, .bool false, .bool false] 84)).rowIs (w.heap.size + 1) 84 6 (fun _ => .bool false)) := by
    have := row6 (w.alloc (Obj.cells #[.bool false, .bool false, .bool false, .bool false, .bool false, .bool false, .bool false, .bool false] 83))
    rwa [World.size_alloc] at this
  have hTS : w.heap.size ≠ w.heap.size + 1 := by omega
  go_loopw [10, 12, 15] (fun _ _ c wr => ∃ k : Nat, k ≤ cs.length ∧ c = .int .i64 (k : Int) ∧ fitN us ds cs k = true ∧ Below w.heap.size w wr ∧ wr.rowIs w.heap.size 83 8 (fun n => .bool (tkB cs k n)) ∧ wr.rowIs (w.heap.size + 1) 84 6 (fun n => .bool (spB cs k n && (ds.getD n zDl).on))) (fun _ _ c _ => cs.length - (intOf c).toNat)
  case atStart => exact ⟨0, Nat.zero_le _, rfl, rfl, chain (below_alloc _ _) (below_alloc _ _), HT0.out.congr (fun i hi => rfl), HS0.out.congr (fun i hi => rfl)⟩
  case round =>
    clear HT0 HS0
    obtain ⟨k, hk, rfl, hf, hb, ht, hs⟩ := hrel
    have HF : Hid (fitN us ds cs k = true) := hf
    have HB : Hid (Below w.heap.size w wr) := hb
    have HT : Hid (wr.rowIs w.heap.size 83 8 (fun n => .bool (tkB cs k n))) := ht
    have HS : Hid (wr.rowIs (w.heap.size + 1) 84 6 (fun n => .bool (spB cs k n && (ds.getD n zDl).on))) := hs
    clear hf hb ht hs
    by_cases hlt : k < cs.length
    · have hlt' : (k : Int) < (cs.length : Int) := by omega
      rcases HJ.out with h | ⟨b0, o0, ha, hB0, ia⟩
      · rw [h] at hlt; simp at hlt
      obtain ⟨h, cp, ⟨c0, c1, c2⟩, _, hRd⟩ := (ia.below HB.out hB0 (Nat.le_refl _)) k hlt
      have HX : Hid (stepB us ds cs k = false → fitB us ds cs = false) := fun q => fit_stop hlt q
      have HNx : Hid (stepB us ds cs k = true → fitN us ds cs (k + 1) = true) := fun q => by show (fitN us ds cs k && stepB us ds cs k) = true; rw [HF.out, q]; rfl
      have HX1 : Hid (useB us ds (cs.getD k zUs) = false → stepB us ds cs k = false) := step_use
      have HX2 : Hid (((dlAt ds (cs.getD k zUs).dl).on && spB cs k (cs.getD k zUs).dl.toNat) = true → stepB us ds cs k = false) := step_once
      have HX3 : Hid (∀ {j}, j < (cs.getD k zUs).us.length → tkB cs k ((cs.getD k zUs).us.getD j 0).toNat = true → stepB us ds cs k = false) := step_taken
      have HX4 : Hid (useB us ds (cs.getD k zUs) = true → ((dlAt ds (cs.getD k zUs).dl).on && spB cs k (cs.getD k zUs).dl.toNat) = false → (∀ j, j < (cs.getD k zUs).us.length → tkB cs k ((cs.getD k zUs).us.getD j 0).toNat = false) → stepB us ds cs k = true) := step_ok
      have HTn : Hid (∀ n, tkB cs (k + 1) n = (tkB cs k n || amB (cs.getD k zUs).us (cs.getD k zUs).us.length n)) := fun n => tkB_next cs k n hlt
      have HSn : Hid (∀ n, spB cs (k + 1) n = (spB cs k n || ((cs.getD k zUs).dl == (n : Int)))) := fun n => spB_next cs k n hlt
      have HUy : Hid (useB us ds (cs.getD k zUs) = true → _) := useB_yes
      have HRd : Hid (Reads wr.heap.size wr h (cs.getD k zUs).us) := hRd.mono HB.out.size
      have HRw : Hid (Reads w.heap.size wr h (cs.getD k zUs).us) := hRd
      have hnb : (cs.getD k zUs).us.length ≤ 1048576 := getUs HU.out hlt
      have HBa : Hid (∀ v0 v1 v2, Below wr.heap.size wr (wr.alloc (Obj.cells #[v0, v1, v2] 36))) := fun _ _ _ => below_alloc _ _
      have HFt : Hid (∀ W, Below w.heap.size w W → Below wr.heap.size wr W → _) := fun W q1 q2 => useFits_any a cap us (by omega) b cb ds (by omega) HQ.out (cs.getD k zUs) h cp (getUs HU.out hlt) W (HR.out.later q1) (HK.out.later q1) (HRd.out.later q2)
      subst ha
      clear ia hRd
      generalize cs.getD k zUs = u at *
      obtain ⟨dl, sv, ns⟩ := u
      dsimp only at *
      generalize hN : ns.length = n at *
      cases huse : useB us ds ⟨dl, sv, ns⟩
      · have HE : Hid _ := HX.out (HX1.out huse)
        rw [huse] at HFt
        go_wp2_with (first | (go_at_call 44; refine (HFt.out _ (chain HB.out (below_alloc _ _)) (below_alloc _ _)).mono ?_; rintro e w2 ⟨rfl, hb2⟩))
        go_ret
        exact ⟨ret_bool HE.out.symm, chain HB.out (chain (below_alloc _ _) hb2)⟩
      obtain ⟨⟨hdl0, hdl1⟩, hnd, hokN⟩ := HUy.out huse
      rw [huse] at HFt
      obtain ⟨m, rfl⟩ : ∃ m : Nat, dl = (m : Int) := ⟨dl.toNat, by omega⟩
      rw [Int.toNat_natCast] at HX2 HX4
      have hm6 : (m : Int) < 6 := by omega
      have hdm : dlAt ds (m : Int) = ds.getD m zDl := by unfold dlAt; rw [Int.toNat_natCast]
      rw [hdm] at HX2 HX4 hnd hokN
      clear hdm HX1 HUy
      have HOk : Hid (okN us (ds.getD m zDl) ns ns.length = true) := by rw [hN]; exact hokN
      clear hokN hnd
      go_wp2_with fail
      (first | go_at_call 44 | skip)
      refine (HFt.out _ (chain HB.out (below_alloc _ _)) (below_alloc _ _)).mono ?_
      rintro e w2 ⟨rfl, hb2⟩
      have HB2 : Hid (Below w.heap.size w w2) := chain HB.out (chain (below_alloc _ _) hb2)
      have HT2 : Hid (w2.rowIs w.heap.size 83 8 (fun n => .bool (tkB cs k n))) := HT.out.of_block ((chain (below_alloc _ _) hb2).block _ HT.out.lt)
      have HS2 : Hid (w2.rowIs (w.heap.size + 1) 84 6 (fun n => .bool (spB cs k n && (ds.getD n zDl).on))) := HS.out.of_block ((chain (below_alloc _ _) hb2).block _ HS.out.lt)
      have e0 : w2.cell? ⟨wr.heap.size, 0, none⟩ = some (.int .i64 (m : Int)) := (hb2.cell (p := ⟨wr.heap.size, 0, none⟩) (by simp)).trans (cellNew _ _ _ _ rfl rfl)
      have e2 : w2.cell? ⟨wr.heap.size, 2, none⟩ = some (.slice h n cp) := (hb2.cell (p := ⟨wr.heap.size, 2, none⟩) (by simp)).trans (cellNew _ _ _ _ rfl rfl)
      have HR2 : Hid (Reads w.heap.size w2 h ns) := HRw.out.below ((chain (below_alloc _ _) hb2).mono (Nat.le_of_lt HT.out.lt))
      have hUz : wr.heap.size < w2.heap.size := Nat.lt_of_lt_of_le (by simp) hb2.size
      have hUT : w.heap.size < wr.heap.size := HT.out.lt
      have hUS : w.heap.size + 1 < wr.heap.size := HS.out.lt
      have s0 := HS2.out.cell (i := m) (by omega)
      clear hb2 HFt HRd HRw HB HT HS c0 c1 c2
      generalize hUU : wr.heap.size = U at *
      clear hUU
      cases hsp : (spB cs k m && (ds.getD m zDl).on)
      · rw [hsp] at s0
        have hmd : m < ds.length := by omega
        rcases HK.out with hz | ⟨b1, o1, hb1, hB1, ic⟩
        · rw [hz] at hmd; simp at hmd
        subst hb1
        obtain ⟨_, _, ⟨_, _, _, _, _, d5⟩, _⟩ := (ic.below HB2.out hB1 (Nat.le_refl _)) m hmd
        have f0 := HS2.out.frozen m
        have hb1U : b1 ≠ w.heap.size + 1 := by omega
        have hUS' : U ≠ w.heap.size + 1 := by omega
        have HOn : Hid (∀ n, (if n = m then Value.bool (ds.getD m zDl).on else Value.bool (spB cs k n && (ds.getD n zDl).on)) = .bool (spB cs (k + 1) n && (ds.getD n zDl).on)) := fun n => by
          rw [HSn.out n]
          by_cases q : n = m
          · subst q; rw [if_pos rfl]; simp
          · rw [if_neg q]
            have : ((m : Int) == (n : Int)) = false := by simp; omega
            rw [this, Bool.or_false]
        have HS3 : Hid (∀ W : World, W.rowIs (w.heap.size + 1) 84 6 (fun n => .bool (spB cs k n && (ds.getD n zDl).on)) → (W.setCell ⟨w.heap.size + 1, m, none⟩ (.bool (ds.getD m zDl).on)).rowIs (w.heap.size + 1) 84 6 (fun n => .bool (spB cs (k + 1) n && (ds.getD n zDl).on))) := fun W q => (q.set m (.bool (ds.getD m zDl).on)).congr (fun n hn => HOn.out n)
        have HTz : Hid (∀ (W : World) (v : Value), W.rowIs w.heap.size 83 8 (fun n => .bool (tkB cs k n)) → (W.setCell ⟨w.heap.size + 1, m, none⟩ v).rowIs w.heap.size 83 8 (fun n => .bool (tkB cs k n))) := fun W v q => q.setOther (by simp) _
        clear ic HOn
        generalize (ds.getD m zDl).on = onv at *
        go_wp2_with fail
        go_region
        have HB3 : Hid (Below w.heap.size w (w2.setCell ⟨w.heap.size + 1, m, none⟩ (.bool onv)).drew) := (HB2.out.setCell (by dsimp only; omega) _).drew
        have HS4 : Hid ((w2.setCell ⟨w.heap.size + 1, m, none⟩ (.bool onv)).drew.rowIs (w.heap.size + 1) 84 6 (fun n => .bool (spB cs (k + 1) n && (ds.getD n zDl).on))) := (HS3.out w2 HS2.out).drew
        have HT4 : Hid ((w2.setCell ⟨w.heap.size + 1, m, none⟩ (.bool onv)).drew.rowIs w.heap.size 83 8 (fun n => .bool (tkB cs k n))) := (HTz.out w2 _ HT2.out).drew
        have HR4 : Hid (Reads w.heap.size (w2.setCell ⟨w.heap.size + 1, m, none⟩ (.bool onv)).drew h ns) := HR2.out.below (((Below.refl _ _).setCell (by dsimp only; omega) _).drew)
        have e3 : (w2.setCell ⟨w.heap.size + 1, m, none⟩ (.bool onv)).drew.cell? ⟨U, 2, none⟩ = some (.slice h n cp) := (World.cell?_setCell_far _ _ _ _ (Ne.symm hUS')).trans e2
        clear HS3 HTz HT2 HS2 HR2 HB2 e0 e2 s0 f0 d5
        generalize (w2.setCell ⟨w.heap.size + 1, m, none⟩ (.bool onv)).drew = W4 at *
        have HZ4 : Hid (∀ x, x < 8 → Value.bool (tkB cs k x) = .bool (tkB cs k x || amB ns 0 x)) := fun x _ => by simp [amB]
        go_wp2
        go_loopw [12, 42] (fun _ c wq => ∃ j : Nat, j ≤ n ∧ c = .int .i64 (j : Int) ∧ Below w.heap.size w wq ∧ wq.rowIs (w.heap.size + 1) 84 6 (fun n => .bool (spB cs (k + 1) n && (ds.getD n zDl).on)) ∧ wq.rowIs w.heap.size 83 8 (fun x => .bool (tkB cs k x || amB ns j x)) ∧ Reads w.heap.size wq h ns ∧ ∀ i, i < j → tkB cs k (ns.getD i 0).toNat = false) (fun _ c _ => n - (intOf c).toNat)
        case atStart => exact ⟨0, Nat.zero_le _, rfl, HB3.out, HS4.out, HT4.out.congr HZ4.out, HR4.out, fun i hi => by omega⟩
        case round =>
          clear HB3 HS4 HT4 HR4 HZ4 e3
          obtain ⟨j, hj, rfl, hb, hs, ht, hrd, hno⟩ := hrel
          have HB : Hid (Below w.heap.size w wr) := hb
          have HS : Hid (wr.rowIs (w.heap.size + 1) 84 6 (fun n => .bool (spB cs (k + 1) n && (ds.getD n zDl).on))) := hs
          have HT : Hid (wr.rowIs w.heap.size 83 8 (fun x => .bool (tkB cs k x || amB ns j x))) := ht
          have HRd : Hid (Reads w.heap.size wr h ns) := hrd
          have HNo : Hid (∀ i, i < j → tkB cs k (ns.getD i 0).toNat = false) := hno
          clear hb hs ht hrd hno
          by_cases hjn : j < n
          · have hjn' : (j : Int) < (n : Int) := by omega
            obtain ⟨x0, x1, _⟩ := okN_in HOk.out j (by omega)
            obtain ⟨q, hqe⟩ : ∃ q : Nat, ns.getD j 0 = (q : Int) := ⟨(ns.getD j 0).toNat, by omega⟩
            have hq8 : q < 8 := by omega
            have hq8' : (q : Int) < 8 := by omega
            have ham := amB_not HOk.out j q (by omega) hqe
            have HAm : Hid (∀ x, amB ns (j + 1) x = (amB ns j x || ((q : Int) == (x : Int)))) := fun x => by rw [amB_next ns j x (by omega), hqe]
            have t0 := HT.out.cell (i := q) hq8
            rw [ham, Bool.or_false] at t0
            have f0 := HT.out.frozen q
            rcases HRd.out with hz | ⟨b2, o2, hb2, hB2, ic⟩
            · rw [hz] at hN; simp at hN; omega
            have d0 := ic j (by omega)
            rw [hqe] at d0
            have HX5 : Hid (tkB cs k q = true → fitB us ds cs = false) := fun z => HX.out (HX3.out hjn (by rw [hqe, Int.toNat_natCast]; exact z))
            have HNo2 : Hid (tkB cs k q = false → ∀ i, i < j + 1 → tkB cs k (ns.getD i 0).toNat = false) := fun z i hi => by
              by_cases e : i = j
              · subst e; rw [hqe, Int.toNat_natCast]; exact z
              · exact HNo.out i (by omega)
            subst hb2
            clear ic ham hqe x0 x1
            cases htk : tkB cs k q
            · rw [htk] at t0
              have HN6 : Hid _ := HNo2.out htk
              have HT6 : Hid ((wr.setCell ⟨w.heap.size, q, none⟩ (.bool true)).rowIs w.heap.size 83 8 (fun x => .bool (tkB cs k x || amB ns (j + 1) x))) := (HT.out.set q (.bool true)).congr (fun x hx => by
                rw [HAm.out x]
                by_cases e : x = q
                · subst e; rw [if_pos rfl]; simp
                · rw [if_neg e]
                  have : ((q : Int) == (x : Int)) = false := by simp; omega
                  rw [this, Bool.or_false])
              have HS6 : Hid ((wr.setCell ⟨w.heap.size, q, none⟩ (.bool true)).rowIs (w.heap.size + 1) 84 6 (fun n => .bool (spB cs (k + 1) n && (ds.getD n zDl).on))) := HS.out.setOther (by simp) _
              have HB6 : Hid (Below w.heap.size w (wr.setCell ⟨w.heap.size, q, none⟩ (.bool true))) := HB.out.setCell (Nat.le_refl _) _
              have HR6 : Hid (Reads w.heap.size (wr.setCell ⟨w.heap.size, q, none⟩ (.bool true)) (some ⟨b2, o2, none⟩) ns) := HRd.out.below ((Below.refl w.heap.size wr).setCell (by dsimp only; omega) _)
              clear HT HS HB HRd HX5 HNo2
              go_wp2
              go_roundw
              case rel => exact ⟨j + 1, by omega, by go_num, HB6.out, HS6.out, HT6.out, HR6.out, HN6.out⟩
              case measure => simp [intOf]; omega
            · rw [htk] at t0
              have HE : Hid _ := HX5.out htk
              go_wp2
              go_ret
              exact ⟨ret_bool HE.out.symm, HB.out⟩
          · obtain rfl : j = n := by omega
            have HSt : Hid (fitN us ds cs (k + 1) = true) := HNx.out (HX4.out huse (by rw [Bool.and_comm]; exact hsp) (fun i hi => HNo.out i hi))
            have HT7 : Hid (wr.rowIs w.heap.size 83 8 (fun x => .bool (tkB cs (k + 1) x))) := HT.out.congr (fun x hx => by rw [HTn.out x])
            clear HX4 HX3 HX2 HNo
            go_wp2
            go_roundw
            case rel => exact ⟨k + 1, by omega, by go_num, HSt.out, HB.out, HT7.out, HS.out⟩
            case measure => simp [intOf]; omega
      · rw [hsp] at s0
        have HE : Hid _ := HX.out (HX2.out (by rw [Bool.and_comm]; exact hsp))
        go_wp2
        go_ret
        exact ⟨ret_bool HE.out.symm, HB2.out⟩
    · obtain rfl : k = cs.length := by omega
      go_wp2
      go_ret
      exact ⟨ret_bool HF.out.symm, HB.out⟩

end Go.Proofs.Ytkfmifbffgbiiaa

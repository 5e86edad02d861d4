/-
  Texts of this claim laid together: ThD.
-/
import Derived.Test.YthcahmjgfjeckaaGreatM31
/-
  The laws' own eqTill, markTill and heldTill.
-/
namespace Go.Proofs.YthcahmjgfjeckaaGreat
open Go.ChangeShapes Go.WideShapes Go.ChangeAt Go.RowKit Go.Deep
set_option linter.unusedVariables false

set_option maxHeartbeats 4000000 in
set_option maxRecDepth 4000 in
theorem eqTill_any (la la2 : Option Addr) (lc lc2 : Nat) (ls : List RLi) (hl : ls.length ≤ 1000) (sh : Int) (ka ka2 : Option Addr) (kc kc2 : Nat) (kk : List (List RLi × Int)) (hk : kk.length ≤ 1000) (hkl : ∀ k ∈ kk, k.1.length ≤ 1000) (sl tk dp : Int) (ca ca2 : Option Addr) (cc cc2 : Nat) (cs : List Int) (hcs : cs.length ≤ 1000) (w : World) (r1 : ReadsLi w.heap.size w la ls) (r2 : ReadsLi w.heap.size w la2 ls) (r3 : RdBk w ka kk) (r4 : RdBk w ka2 kk) (r5 : Reads w.heap.size w ca cs) (r6 : Reads w.heap.size w ca2 cs) :
    Calls Tryz.prog 11 #[.agg #[.slice la ls.length lc, .int .i64 sh, .slice ka kk.length kc, .int .i64 sl, .int .i64 tk, .int .i64 dp, .slice ca cs.length cc], .agg #[.slice la2 ls.length lc2, .int .i64 sh, .slice ka2 kk.length kc2, .int .i64 sl, .int .i64 tk, .int .i64 dp, .slice ca2 cs.length cc2]] w fun e w' => e = .returned (.bool true) ∧ Below w.heap.size w w' := by
  have HW : Hid (∀ W, Below ((w.alloc (Obj.cells #[.slice la ls.length lc, .int .i64 sh, .slice ka kk.length kc, .int .i64 sl, .int .i64 tk, .int .i64 dp, .slice ca cs.length cc] 33)).alloc (Obj.cells #[.slice la2 ls.length lc2, .int .i64 sh, .slice ka2 kk.length kc2, .int .i64 sl, .int .i64 tk, .int .i64 dp, .slice ca2 cs.length cc2] 33)).heap.size ((w.alloc (Obj.cells #[.slice la ls.length lc, .int .i64 sh, .slice ka kk.length kc, .int .i64 sl, .int .i64 tk, .int .i64 dp, .slice ca cs.length cc] 33)).alloc (Obj.cells #[.slice la2 ls.length lc2, .int .i64 sh, .slice ka2 kk.length kc2, .int .i64 sl, .int .i64 tk, .int .i64 dp, .slice ca2 cs.length cc2] 33)) W → W.heap[w.heap.size]? = some (.cells #[.slice la ls.length lc, .int .i64 sh, .slice ka kk.length kc, .int .i64 sl, .int .i64 tk, .int .i64 dp, .slice ca cs.length cc] 33 (0, 0)) ∧ W.heap[w.heap.size + 1]? = some (.cells #[.slice la2 ls.length lc2, .int .i64 sh, .slice ka2 kk.length kc2, .int .i64 sl, .int .i64 tk, .int .i64 dp, .slice ca2 cs.length cc2] 33 (0, 0)) ∧ Below w.heap.size w W) := fun W hW => by
    refine ⟨(hW.block _ (by first | (simp; done) | (simp; omega))).trans ((Below.heap_alloc _ _ _ (by simp)).trans (heapNew _ _)), (hW.block _ (by first | (simp; done) | (simp; omega))).trans ?_, chain (chain (below_alloc _ _) (below_alloc _ _)) hW⟩
    have := heapNew (w.alloc (Obj.cells #[.slice la ls.length lc, .int .i64 sh, .slice ka kk.length kc, .int .i64 sl, .int .i64 tk, .int .i64 dp, .slice ca cs.length cc] 33)) (Obj.cells #[.slice la2 ls.length lc2, .int .i64 sh, .slice ka2 kk.length kc2, .int .i64 sl, .int .i64 tk, .int .i64 dp, .slice ca2 cs.length cc2] 33)
    simpa using this
  have HE1 : Hid (∀ W, Below w.heap.size w W → Calls Tryz.prog 30 #[.agg #[.slice la ls.length lc, .int .i64 sh], .agg #[.slice la2 ls.length lc2, .int .i64 sh]] W fun e w' => e = .returned (.bool true) ∧ Below W.heap.size W w') := fun W hW => eqBk_any la la2 lc lc2 ls hl sh W ((r1.below hW).mono hW.size) ((r2.below hW).mono hW.size)
  have HE2 : Hid (∀ W, Below w.heap.size w W → Calls Tryz.prog 31 #[.slice ka kk.length kc, .slice ka2 kk.length kc2] W fun e w' => e = .returned (.bool true) ∧ Below W.heap.size W w') := fun W hW => eqBks_any ka ka2 kc kc2 kk hk hkl W (r3.later hW) (r4.later hW)
  have HE3 : Hid (∀ W, Below w.heap.size w W → Calls Tryz.prog 32 #[.slice ca cs.length cc, .slice ca2 cs.length cc2] W fun e w' => e = .returned (.bool true) ∧ Below W.heap.size W w') := fun W hW => by
    have := eqInts_any W.heap.size ca ca2 cc cc2 cs cs (by omega) (by omega) W ((r5.below hW).mono hW.size) ((r6.below hW).mono hW.size)
    rwa [decide_eq_true (rfl : cs = cs)] at this
  have h1 : (sl != sl) = false := by simp
  have h2 : (tk != tk) = false := by simp
  have h3 : (dp != dp) = false := by simp
  clear r1 r2 r3 r4 r5 r6 hkl
  go_enter Tryz.func11, Tryz.ntmps11
  go_wp2_with fail
  (first | go_at_call 30 | skip)
  refine (HE1.out _ (HW.out _ (Below.refl _ _)).2.2).mono ?_
  rintro e w1 ⟨rfl, hb1⟩
  obtain ⟨x1, x2, x3⟩ := HW.out w1 hb1
  have c2 := blkCell x1 2 _ rfl
  have d2 := blkCell x2 2 _ rfl
  have H1 : Hid (Below ((w.alloc (Obj.cells #[.slice la ls.length lc, .int .i64 sh, .slice ka kk.length kc, .int .i64 sl, .int .i64 tk, .int .i64 dp, .slice ca cs.length cc] 33)).alloc (Obj.cells #[.slice la2 ls.length lc2, .int .i64 sh, .slice ka2 kk.length kc2, .int .i64 sl, .int .i64 tk, .int .i64 dp, .slice ca2 cs.length cc2] 33)).heap.size ((w.alloc (Obj.cells #[.slice la ls.length lc, .int .i64 sh, .slice ka kk.length kc, .int .i64 sl, .int .i64 tk, .int .i64 dp, .slice ca cs.length cc] 33)).alloc (Obj.cells #[.slice la2 ls.length lc2, .int .i64 sh, .slice ka2 kk.length kc2, .int .i64 sl, .int .i64 tk, .int .i64 dp, .slice ca2 cs.length cc2] 33)) w1) := hb1
  clear hb1 x1 x2 x3
  go_wp2_with fail
  (first | go_at_call 31 | skip)
  refine (HE2.out _ (HW.out _ H1.out).2.2).mono ?_
  rintro e w3 ⟨rfl, hb3⟩
  have H3 : Hid (Below ((w.alloc (Obj.cells #[.slice la ls.length lc, .int .i64 sh, .slice ka kk.length kc, .int .i64 sl, .int .i64 tk, .int .i64 dp, .slice ca cs.length cc] 33)).alloc (Obj.cells #[.slice la2 ls.length lc2, .int .i64 sh, .slice ka2 kk.length kc2, .int .i64 sl, .int .i64 tk, .int .i64 dp, .slice ca2 cs.length cc2] 33)).heap.size ((w.alloc (Obj.cells #[.slice la ls.length lc, .int .i64 sh, .slice ka kk.length kc, .int .i64 sl, .int .i64 tk, .int .i64 dp, .slice ca cs.length cc] 33)).alloc (Obj.cells #[.slice la2 ls.length lc2, .int .i64 sh, .slice ka2 kk.length kc2, .int .i64 sl, .int .i64 tk, .int .i64 dp, .slice ca2 cs.length cc2] 33)) w3) := chain H1.out hb3
  obtain ⟨x1, x2, x3⟩ := HW.out w3 H3.out
  have c3 := blkCell x1 3 _ rfl
  have d3 := blkCell x2 3 _ rfl
  have c4 := blkCell x1 4 _ rfl
  have d4 := blkCell x2 4 _ rfl
  have c5 := blkCell x1 5 _ rfl
  have d5 := blkCell x2 5 _ rfl
  have c6 := blkCell x1 6 _ rfl
  have d6 := blkCell x2 6 _ rfl
  clear hb3 x1 x2 x3 H1 c2 d2
  go_wp2_with fail
  (first | go_at_call 32 | skip)
  refine (HE3.out _ (HW.out _ H3.out).2.2).mono ?_
  rintro e w5 ⟨rfl, hb5⟩
  have H5 : Hid (Below w.heap.size w w5) := chain (HW.out _ H3.out).2.2 hb5
  clear hb5 HW HE1 HE2 HE3 H3
  go_wp2
  go_ret
  exact ⟨rfl, H5.out⟩
set_option maxHeartbeats 2000000 in
theorem markBk_any (B : Nat) (lv : Value) (nl : Nat) (hn : nl ≤ 1048576) (sh : Int) (k0 : Nat) (hk : k0 ≤ 100000000) (xs : List Value) (w : World) (h : w.ownsRow B 85 4 lv nl xs) :
    Calls Tryz.prog 36 #[.agg #[lv, .int .i64 sh], .int .i64 (k0 : Int)] w fun e w' => e = .returned (.int .i64 ((k0 + nl * 4 : Nat) : Int)) ∧ Fr (fun q => lv.ownBlock = some q) w w' ∧ w'.ownsRow B 85 4 lv nl (mkV k0 (nl * 4)) := by
  obtain ⟨a, cap, hv⟩ := row_slice h
  have HM : Hid (∀ o, Calls Tryz.prog 54 #[lv, .int .i64 (k0 : Int)] (w.alloc o) fun e w' => e = .returned (.int .i64 ((k0 + nl * 4 : Nat) : Int)) ∧ Fr (fun q => lv.ownBlock = some q) (w.alloc o) w' ∧ w'.ownsRow B 85 4 lv nl (mkV k0 (nl * 4))) := fun o => markLn_row B lv nl hn k0 hk xs _ (h.alloc _)
  clear h
  subst hv
  go_enter Tryz.func36, Tryz.ntmps36
  go_wp2_with fail
  (first | go_at_call 54 | skip)
  refine (HM.out _).mono ?_
  rintro e w1 ⟨rfl, hf1, hr1⟩
  have H1 : Hid (Fr (fun q => (Value.slice a nl cap).ownBlock = some q) w w1 ∧ w1.ownsRow B 85 4 (.slice a nl cap) nl (mkV k0 (nl * 4))) := ⟨(Fr.of (below_alloc _ _)).trans hf1, hr1⟩
  clear hf1 hr1
  go_wp2
  go_ret
  exact ⟨rfl, H1.out.1, H1.out.2⟩
set_option maxHeartbeats 2000000 in
theorem heldBk_any (B : Nat) (lv : Value) (nl : Nat) (hn : nl ≤ 1048576) (sh : Int) (k0 : Nat) (hk : k0 ≤ 100000000) (w : World) (h : w.ownsRow B 85 4 lv nl (mkV k0 (nl * 4))) :
    Calls Tryz.prog 39 #[.agg #[lv, .int .i64 sh], .int .i64 (k0 : Int)] w fun e w' => e = .returned (.int .i64 ((k0 + nl * 4 : Nat) : Int)) ∧ Below w.heap.size w w' := by
  obtain ⟨a, cap, hv⟩ := row_slice h
  have HM : Hid (∀ o, Calls Tryz.prog 55 #[lv, .int .i64 (k0 : Int)] (w.alloc o) fun e w' => e = .returned (.int .i64 ((k0 + nl * 4 : Nat) : Int)) ∧ Below (w.alloc o).heap.size (w.alloc o) w') := fun o => heldLn_row B lv nl hn k0 hk _ (h.alloc _)
  clear h
  subst hv
  generalize k0 + nl * 4 = K at *
  have hK : ¬ (K : Int) < 0 := by omega
  go_enter Tryz.func39, Tryz.ntmps39
  go_wp2_with fail
  (first | go_at_call 55 | skip)
  refine (HM.out _).mono ?_
  rintro e w1 ⟨rfl, hb1⟩
  have H1 : Hid (Below w.heap.size w w1) := chain (below_alloc _ _) hb1
  clear hb1
  go_wp2
  go_ret
  exact ⟨rfl, H1.out⟩
/-- The marks of a till: where its baskets' and its classes' begin, and where they end. -/
def kT1 (k0 nl : Nat) : Nat := k0 + nl * 4
def kT2 (k0 nl : Nat) (ns : Nat → Nat) (n : Nat) : Nat := kBs (kT1 k0 nl) ns n
def kT3 (k0 nl : Nat) (ns : Nat → Nat) (n nc : Nat) : Nat := kT2 k0 nl ns n + nc * 1
/-- All rows of an answer, marked. -/
def RwM (B k0 : Nat) (tv : Value) (no : Nat) (lv : Value) (nl : Nat) (kv : Value) (n : Nat) (vs : Nat → Value) (ns : Nat → Nat) (cv : Value) (nc : Nat) (W : World) : Prop :=
  RwT B tv no (mkV 1 (no * 2)) lv nl (mkV k0 (nl * 4)) kv n vs ns (shM (kT1 k0 nl) ns) (cM (kT1 k0 nl) ns) cv nc (mkV (kT2 k0 nl ns n) (nc * 1)) W
set_option maxHeartbeats 4000000 in
set_option maxRecDepth 4000 in
theorem markTill_any (B : Nat) (tv : Value) (no : Nat) (Co : List Value) (lv : Value) (nl : Nat) (Cl : List Value) (kv : Value) (n : Nat) (vs : Nat → Value) (ns : Nat → Nat) (sh : Nat → Int) (Cb : Nat → List Value) (cv : Value) (nc : Nat) (Cc : List Value) (hnl : nl ≤ 1000) (hn : n ≤ 1000) (hns : ∀ i, i < n → ns i ≤ 1000) (hnc : nc ≤ 1000) (sh0 sl tk dp : Int) (k0 : Nat) (hk : kT3 k0 nl ns n nc ≤ 10000000) (w : World) (h : RwT B tv no Co lv nl Cl kv n vs ns sh Cb cv nc Cc w) :
    Calls Tryz.prog 17 #[.agg #[lv, .int .i64 sh0, kv, .int .i64 sl, .int .i64 tk, .int .i64 dp, cv], .int .i64 (k0 : Int)] w fun e w' => e = .returned (.int .i64 ((kT3 k0 nl ns n nc : Nat) : Int)) ∧ Fr (RwX tv lv kv n vs cv) w w' ∧ RwT B tv no Co lv nl (mkV k0 (nl * 4)) kv n vs ns (shM (kT1 k0 nl) ns) (cM (kT1 k0 nl) ns) cv nc (mkV (kT2 k0 nl ns n) (nc * 1)) w' := by
  obtain ⟨la, lc, hlv⟩ := row_slice h.lrow
  obtain ⟨ka, kc, hkv⟩ := row_slice h.bk.row
  obtain ⟨ca, cc, hcv⟩ := row_slice h.crow
  have hk1 : kT1 k0 nl ≤ 10000000 ∧ kT2 k0 nl ns n ≤ 10000000 := by
    have := kBs_le (kT1 k0 nl) ns 0 n (by omega)
    rw [kBs] at this
    unfold kT3 kT2 at *
    omega
  have hk0 : k0 ≤ 10000000 := by have := hk1.1; unfold kT1 at this; omega
  have HB : Hid (∀ W, Below (w.alloc (Obj.cells #[lv, .int .i64 sh0, kv, .int .i64 sl, .int .i64 tk, .int .i64 dp, cv] 33)).heap.size (w.alloc (Obj.cells #[lv, .int .i64 sh0, kv, .int .i64 sl, .int .i64 tk, .int .i64 dp, cv] 33)) W → W.heap[w.heap.size]? = some (.cells #[lv, .int .i64 sh0, kv, .int .i64 sl, .int .i64 tk, .int .i64 dp, cv] 33 (0, 0))) := fun W hW => (hW.block _ (by simp)).trans (heapNew _ _)
  have hw1 : Below w.heap.size w (w.alloc (Obj.cells #[lv, .int .i64 sh0, kv, .int .i64 sl, .int .i64 tk, .int .i64 dp, cv] 33)) := below_alloc _ _
  have HR1 : Hid (RwT B tv no Co lv nl Cl kv n vs ns sh Cb cv nc Cc (w.alloc (Obj.cells #[lv, .int .i64 sh0, kv, .int .i64 sl, .int .i64 tk, .int .i64 dp, cv] 33))) := h.later (below_alloc _ _)
  have HX : Hid (∀ q, RwX tv lv kv n vs cv q → q ≠ w.heap.size) := fun q hq => by have := (h.lt q hq).2; omega
  have HC1 : Hid (∀ W xs, W.ownsRow B 85 4 lv nl xs → Calls Tryz.prog 36 #[.agg #[lv, .int .i64 sh0], .int .i64 (k0 : Int)] W fun e w' => e = .returned (.int .i64 ((kT1 k0 nl : Nat) : Int)) ∧ Fr (fun q => lv.ownBlock = some q) W w' ∧ w'.ownsRow B 85 4 lv nl (mkV k0 (nl * 4))) := fun W xs hr => markBk_any B lv nl (by omega) sh0 k0 (by omega) xs W hr
  have HC2 : Hid (∀ W, BkM B kv n vs ns sh Cb W → Calls Tryz.prog 37 #[kv, .int .i64 ((kT1 k0 nl : Nat) : Int)] W fun e w' => e = .returned (.int .i64 ((kT2 k0 nl ns n : Nat) : Int)) ∧ Fr (BkX kv n vs) W w' ∧ BkM B kv n vs ns (shM (kT1 k0 nl) ns) (cM (kT1 k0 nl) ns) w') := fun W hr => markBks_any B kv n hn vs ns hns sh Cb (kT1 k0 nl) hk1.2 W hr
  have HC3 : Hid (∀ W xs, W.ownsRow B 3 1 cv nc xs → Calls Tryz.prog 38 #[cv, .int .i64 ((kT2 k0 nl ns n : Nat) : Int)] W fun e w' => e = .returned (.int .i64 ((kT3 k0 nl ns n nc : Nat) : Int)) ∧ Fr (fun q => cv.ownBlock = some q) W w' ∧ w'.ownsRow B 3 1 cv nc (mkV (kT2 k0 nl ns n) (nc * 1))) := fun W xs hr => markIn_row B cv nc (by omega) (kT2 k0 nl ns n) (by have := hk1.2; omega) xs W hr
  clear h hns hk hk1
  generalize kT1 k0 nl = K1 at *
  generalize kT2 k0 nl ns n = K2 at *
  generalize kT3 k0 nl ns n nc = K3 at *
  subst hlv hkv hcv
  have HBx : Hid ((w.alloc (Obj.cells #[.slice la nl lc, .int .i64 sh0, .slice ka n kc, .int .i64 sl, .int .i64 tk, .int .i64 dp, .slice ca nc cc] 33)).heap[w.heap.size]? = some (.cells #[.slice la nl lc, .int .i64 sh0, .slice ka n kc, .int .i64 sl, .int .i64 tk, .int .i64 dp, .slice ca nc cc] 33 (0, 0))) := heapNew _ _
  go_enter Tryz.func17, Tryz.ntmps17
  go_wp2_with fail
  generalize hWA : w.alloc (Obj.cells #[.slice la nl lc, .int .i64 sh0, .slice ka n kc, .int .i64 sl, .int .i64 tk, .int .i64 dp, .slice ca nc cc] 33) = WA at *
  (first | go_at_call 36 | skip)
  refine (HC1.out _ _ HR1.out.lrow).mono ?_
  rintro e w1 ⟨rfl, hf1, hr1⟩
  have HR2 : Hid (RwT B tv no Co (.slice la nl lc) nl (mkV k0 (nl * 4)) (.slice ka n kc) n vs ns sh Cb (.slice ca nc cc) nc Cc w1) := ⟨row_of HR1.out.told (fun q hq => hf1.block q (row_lt HR1.out.told q hq).2 (fun e => apartBL HR1.out.told HR1.out.lrow (by decide) q hq e)), hr1, HR1.out.bk.same (fun q hq => hf1.block q (HR1.out.bk.lt q hq).2 (fun e => by
    rcases hq with hq | ⟨i, hi, hq⟩
    · exact apartBL HR1.out.bk.row HR1.out.lrow (by decide) q hq e
    · exact HR1.out.far i hi q e hq)), row_of HR1.out.crow (fun q hq => hf1.block q (row_lt HR1.out.crow q hq).2 (fun e => apartBL HR1.out.crow HR1.out.lrow (by decide) q hq e)), HR1.out.far⟩
  have HF1 : Hid (Fr (RwX tv (.slice la nl lc) (.slice ka n kc) n vs (.slice ca nc cc)) WA w1) := hf1.mono (fun q hq => .inr (.inl hq))
  have HX1 : Hid (w1.heap[w.heap.size]? = some (.cells #[.slice la nl lc, .int .i64 sh0, .slice ka n kc, .int .i64 sl, .int .i64 tk, .int .i64 dp, .slice ca nc cc] 33 (0, 0))) := (HF1.out.block _ (blkLt HBx.out) (fun e => HX.out _ e rfl)).trans HBx.out
  have y2 := blkCell HX1.out 2 _ rfl
  clear hf1 hr1 HR1 HC1
  go_wp2_with fail
  (first | go_at_call 37 | skip)
  refine (HC2.out _ HR2.out.bk).mono ?_
  rintro e w2 ⟨rfl, hf2, hr2⟩
  have HR3 : Hid (RwT B tv no Co (.slice la nl lc) nl (mkV k0 (nl * 4)) (.slice ka n kc) n vs ns (shM K1 ns) (cM K1 ns) (.slice ca nc cc) nc Cc w2) := ⟨row_of HR2.out.told (fun q hq => hf2.block q (row_lt HR2.out.told q hq).2 (fun e => by
    rcases e with e | ⟨i, hi, e⟩
    · exact apartBL HR2.out.told HR2.out.bk.row (by decide) q hq e
    · exact apartBL HR2.out.told (HR2.out.bk.each i hi) (by decide) q hq e)), row_of HR2.out.lrow (fun q hq => hf2.block q (row_lt HR2.out.lrow q hq).2 (fun e => by
    rcases e with e | ⟨i, hi, e⟩
    · exact apartBL HR2.out.lrow HR2.out.bk.row (by decide) q hq e
    · exact HR2.out.far i hi q hq e)), hr2, row_of HR2.out.crow (fun q hq => hf2.block q (row_lt HR2.out.crow q hq).2 (fun e => by
    rcases e with e | ⟨i, hi, e⟩
    · exact apartBL HR2.out.crow HR2.out.bk.row (by decide) q hq e
    · exact apartBL HR2.out.crow (HR2.out.bk.each i hi) (by decide) q hq e)), HR2.out.far⟩
  have HF2 : Hid (Fr (RwX tv (.slice la nl lc) (.slice ka n kc) n vs (.slice ca nc cc)) WA w2) := HF1.out.trans (hf2.mono (fun q hq => .inr (.inr (.inl hq))))
  have HX2 : Hid (w2.heap[w.heap.size]? = some (.cells #[.slice la nl lc, .int .i64 sh0, .slice ka n kc, .int .i64 sl, .int .i64 tk, .int .i64 dp, .slice ca nc cc] 33 (0, 0))) := (HF2.out.block _ (blkLt HBx.out) (fun e => HX.out _ e rfl)).trans HBx.out
  have y6 := blkCell HX2.out 6 _ rfl
  clear hf2 hr2 HR2 HC2 y2 HX1 HF1
  go_wp2_with fail
  (first | go_at_call 38 | skip)
  refine (HC3.out _ _ HR3.out.crow).mono ?_
  rintro e w3 ⟨rfl, hf3, hr3⟩
  have HR4 : Hid (RwT B tv no Co (.slice la nl lc) nl (mkV k0 (nl * 4)) (.slice ka n kc) n vs ns (shM K1 ns) (cM K1 ns) (.slice ca nc cc) nc (mkV K2 (nc * 1)) w3) := ⟨row_of HR3.out.told (fun q hq => hf3.block q (row_lt HR3.out.told q hq).2 (fun e => apartBL HR3.out.told HR3.out.crow (by decide) q hq e)), row_of HR3.out.lrow (fun q hq => hf3.block q (row_lt HR3.out.lrow q hq).2 (fun e => apartBL HR3.out.lrow HR3.out.crow (by decide) q hq e)), HR3.out.bk.same (fun q hq => hf3.block q (HR3.out.bk.lt q hq).2 (fun e => by
    rcases hq with hq | ⟨i, hi, hq⟩
    · exact apartBL HR3.out.bk.row HR3.out.crow (by decide) q hq e
    · exact apartBL (HR3.out.bk.each i hi) HR3.out.crow (by decide) q hq e)), hr3, HR3.out.far⟩
  have HF3 : Hid (Fr (RwX tv (.slice la nl lc) (.slice ka n kc) n vs (.slice ca nc cc)) w w3) := (Fr.of hw1).trans (HF2.out.trans (hf3.mono (fun q hq => .inr (.inr (.inr hq)))))
  clear hf3 hr3 HR3 HC3 y6 HX2 HF2
  go_wp2
  go_ret
  exact ⟨rfl, HF3.out, HR4.out⟩
set_option maxHeartbeats 4000000 in
set_option maxRecDepth 4000 in
theorem heldTill_any (B : Nat) (tv : Value) (no : Nat) (lv : Value) (nl : Nat) (kv : Value) (n : Nat) (vs : Nat → Value) (ns : Nat → Nat) (cv : Value) (nc : Nat) (hnl : nl ≤ 1000) (hn : n ≤ 1000) (hns : ∀ i, i < n → ns i ≤ 1000) (hnc : nc ≤ 1000) (sh0 sl tk dp : Int) (k0 : Nat) (hk : kT3 k0 nl ns n nc ≤ 10000000) (w : World) (h : RwM B k0 tv no lv nl kv n vs ns cv nc w) :
    Calls Tryz.prog 19 #[.agg #[lv, .int .i64 sh0, kv, .int .i64 sl, .int .i64 tk, .int .i64 dp, cv], .int .i64 (k0 : Int)] w fun e w' => e = .returned (.int .i64 ((kT3 k0 nl ns n nc : Nat) : Int)) ∧ Below w.heap.size w w' := by
  unfold RwM at h
  obtain ⟨la, lc, hlv⟩ := row_slice h.lrow
  obtain ⟨ka, kc, hkv⟩ := row_slice h.bk.row
  obtain ⟨ca, cc, hcv⟩ := row_slice h.crow
  have hk1 : kT1 k0 nl ≤ 10000000 ∧ kT2 k0 nl ns n ≤ 10000000 := by
    have := kBs_le (kT1 k0 nl) ns 0 n (by omega)
    rw [kBs] at this
    unfold kT3 kT2 at *
    omega
  have hk0 : k0 ≤ 10000000 := by have := hk1.1; unfold kT1 at this; omega
  have HB : Hid (∀ W, Below (w.alloc (Obj.cells #[lv, .int .i64 sh0, kv, .int .i64 sl, .int .i64 tk, .int .i64 dp, cv] 33)).heap.size (w.alloc (Obj.cells #[lv, .int .i64 sh0, kv, .int .i64 sl, .int .i64 tk, .int .i64 dp, cv] 33)) W → W.heap[w.heap.size]? = some (.cells #[lv, .int .i64 sh0, kv, .int .i64 sl, .int .i64 tk, .int .i64 dp, cv] 33 (0, 0)) ∧ Below w.heap.size w W) := fun W hW => ⟨(hW.block _ (by simp)).trans (heapNew _ _), chain (below_alloc _ _) hW⟩
  have HC1 : Hid (∀ W, Below w.heap.size w W → Calls Tryz.prog 39 #[.agg #[lv, .int .i64 sh0], .int .i64 (k0 : Int)] W fun e w' => e = .returned (.int .i64 ((kT1 k0 nl : Nat) : Int)) ∧ Below W.heap.size W w') := fun W hW => heldBk_any B lv nl (by omega) sh0 k0 (by omega) W (h.later hW).lrow
  have HC2 : Hid (∀ W, Below w.heap.size w W → Calls Tryz.prog 40 #[kv, .int .i64 ((kT1 k0 nl : Nat) : Int)] W fun e w' => e = .returned (.int .i64 ((kT2 k0 nl ns n : Nat) : Int)) ∧ Below W.heap.size W w') := fun W hW => heldBks_any B kv n hn vs ns hns (kT1 k0 nl) hk1.2 W (h.later hW).bk
  have HC3 : Hid (∀ W, Below w.heap.size w W → Calls Tryz.prog 41 #[cv, .int .i64 ((kT2 k0 nl ns n : Nat) : Int)] W fun e w' => e = .returned (.int .i64 ((kT3 k0 nl ns n nc : Nat) : Int)) ∧ Below W.heap.size W w') := fun W hW => heldIn_row B cv nc (by omega) (kT2 k0 nl ns n) (by have := hk1.2; omega) W (h.later hW).crow
  clear h hns hk hk1
  generalize kT1 k0 nl = K1 at *
  generalize kT2 k0 nl ns n = K2 at *
  generalize kT3 k0 nl ns n nc = K3 at *
  have hz1 : ¬ (K1 : Int) < 0 := by omega
  have hz2 : ¬ (K2 : Int) < 0 := by omega
  have hz3 : ¬ (K3 : Int) < 0 := by omega
  subst hlv hkv hcv
  go_enter Tryz.func19, Tryz.ntmps19
  go_wp2_with fail
  (first | go_at_call 39 | skip)
  refine (HC1.out _ (below_alloc _ _)).mono ?_
  rintro e w1 ⟨rfl, hb1⟩
  have H1 : Hid (Below (w.alloc (Obj.cells #[.slice la nl lc, .int .i64 sh0, .slice ka n kc, .int .i64 sl, .int .i64 tk, .int .i64 dp, .slice ca nc cc] 33)).heap.size (w.alloc (Obj.cells #[.slice la nl lc, .int .i64 sh0, .slice ka n kc, .int .i64 sl, .int .i64 tk, .int .i64 dp, .slice ca nc cc] 33)) w1) := hb1
  have y2 := blkCell (HB.out w1 hb1).1 2 _ rfl
  clear hb1 HC1
  go_wp2_with fail
  (first | go_at_call 40 | skip)
  refine (HC2.out _ (HB.out _ H1.out).2).mono ?_
  rintro e w2 ⟨rfl, hb2⟩
  have H2 : Hid (Below (w.alloc (Obj.cells #[.slice la nl lc, .int .i64 sh0, .slice ka n kc, .int .i64 sl, .int .i64 tk, .int .i64 dp, .slice ca nc cc] 33)).heap.size (w.alloc (Obj.cells #[.slice la nl lc, .int .i64 sh0, .slice ka n kc, .int .i64 sl, .int .i64 tk, .int .i64 dp, .slice ca nc cc] 33)) w2) := chain H1.out hb2
  have y6 := blkCell (HB.out w2 H2.out).1 6 _ rfl
  clear hb2 HC2 y2 H1
  go_wp2_with fail
  (first | go_at_call 41 | skip)
  refine (HC3.out _ (HB.out _ H2.out).2).mono ?_
  rintro e w3 ⟨rfl, hb3⟩
  have H3 : Hid (Below w.heap.size w w3) := chain (HB.out _ H2.out).2 hb3
  clear hb3 HC3 y6 H2 HB
  go_wp2
  go_ret
  exact ⟨rfl, H3.out⟩
end Go.Proofs.YthcahmjgfjeckaaGreat

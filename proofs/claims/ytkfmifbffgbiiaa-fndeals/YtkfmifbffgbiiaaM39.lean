/-
  Texts of this claim laid together: BeE, RegZ.
-/
import Derived.Test.YtkfmifbffgbiiaaM38
import Derived.Deep.RegionLawGrows
import Derived.Test.YtkfmifbffgbiiaaM1
import Derived.Deep.RegionHeld
/-
  Takings: the closure that takes unit by unit, and eachTaking.
-/
namespace Go.Proofs.Ytkfmifbffgbiiaa
open Go.ChangeShapes Go.WideShapes Go.ChangeAt Go.RowKit Go.Deep
set_option linter.unusedVariables false

theorem intInfoE : (Try.prog.info? 3).map (fun i => (i.zero, i.size, i.bytes)) = some (some (.int .i64 0), 1, 8) := by kernel_rfl
def nV (xs : List Nat) : List Value := xs.map fun (n : Nat) => Value.int .i64 (n : Int)
theorem nV_len (xs : List Nat) : (nV xs).length = xs.length := by simp [nV]
theorem nV_get (xs : List Nat) (i : Nat) (hi : i < xs.length) : (nV xs)[i]? = some (.int .i64 ((xs.getD i 0 : Nat) : Int)) := by simp [nV, List.getD_eq_getElem?_getD, hi]
theorem nV_append (a b : List Nat) : nV (a ++ b) = nV a ++ nV b := by simp [nV]
theorem nV_one (xs : List Nat) : ∀ u ∈ nV xs, u.oneCell' = true := fun u hu => by
  obtain ⟨n, _, rfl⟩ := List.mem_map.1 hu
  rfl
theorem RI.lay {W : World} {b off : Nat} {xs : List Nat} (h : RI W (some ⟨b, off, none⟩) xs) : ∀ j u, (nV xs)[j]? = some u → W.cell? ((⟨b, off, none⟩ : Addr).add j) = some u := fun j u hj => by
  have hl := (List.getElem?_eq_some_iff.1 hj).1
  rw [nV_len] at hl
  rcases h with h | ⟨b2, o2, cur, e, hb, hc⟩
  · rw [h] at hl; simp at hl
  · simp only [Option.some.injEq, Addr.mk.injEq] at e
    obtain ⟨rfl, rfl, _⟩ := e
    rw [nV_get xs j hl] at hj
    rw [Go.WideShapes.add_plain, ← hj]
    exact blkCell hb _ _ (hc j hl)
theorem RI.ofRow {W : World} {B n vc : Nat} {va : Option Addr} {xs : List Nat} (h : W.ownsRow B 3 1 (.slice va n vc) n (nV xs)) (hn : xs.length = n) : RI W va xs ∧ n ≤ vc := by
  obtain ⟨h1, h2⟩ := h
  rcases h2 with ⟨q, h3⟩ | ⟨g, cap, cur, q, hB, hg, hc, hm, hs, ht⟩
  · simp only [Value.slice.injEq] at q
    exact ⟨.inl (List.eq_nil_of_length_eq_zero (by omega)), by omega⟩
  · simp only [Value.slice.injEq] at q
    refine ⟨.inr ⟨g, 0, cur, q.1, hg, fun i hi => ?_⟩, by omega⟩
    rw [Nat.zero_add, ← nV_get xs i hi, ← ht, List.getElem?_take_of_lt (by omega), Array.getElem?_toList]
/-- 'append(xs, ys...)' where xs has no room behind it. -/
theorem step_ri {w : World} {ops : Array Oper} {o : Oper} {a : Act} {K : Act → World → Prop} {Q : Exit → Act → World → Prop} {E : Prop} (hgd : o.guard = none) (s x : Operand)
    (ho : o.op = .call { callee := .builtin .append, args := #[s, x], argTypes := #[34, 34] }) (xa ya : Option Addr) (xs ys : List Nat) (yc : Nat) (hxl : xs.length ≤ 100) (hyl : ys.length ≤ 100)
    (hs : a.eval s = .slice xa xs.length xs.length) (hx : a.eval x = .slice ya ys.length yc) (hX : RI w xa xs) (hY : RI w ya ys)
    (h : ∀ va vc w', RI w' va (xs ++ ys) → (xs ++ ys).length ≤ vc → Below w.heap.size w w' → K (a.put o.dst (.slice va (xs ++ ys).length vc)) w') :
    if Region.wanted o (yielded ops a.tmps) = true then Oper.wp Try.prog o a w K Q else E := by
  obtain ⟨i0, hi, hzz⟩ := Option.map_eq_some_iff.1 intInfoE
  simp only [Prod.mk.injEq] at hzz
  obtain ⟨hi0, hi1, hi2⟩ := hzz
  rcases Nat.eq_zero_or_pos ys.length with h0 | h0
  · have e0 : ys = [] := List.eq_nil_of_length_eq_zero h0
    subst e0
    have hw : Region.wanted o (yielded ops a.tmps) = true := by simp [Region.wanted, hgd]
    rw [if_pos hw]
    have hrun : (Builtin.append_ #[34, 34] o.type #[.slice xa xs.length xs.length, .slice ya 0 yc]).run Try.prog w = .ok (.slice xa xs.length xs.length) w := by
      cases xa <;> cases ya <;> simp [Builtin.append_, run_underlying Try.underlying34, sizeOf, typeInfo, hi, Builtin.lenOf, Builtin.firstCells, storeCells, loadCells, loadCellsFrom]
    have hh := h xa xs.length w (by rw [List.append_nil]; exact hX) (by simp) (Below.refl _ _)
    rw [List.append_nil] at hh
    unfold Oper.wp execOp
    simp only [ho, resolve, invoke, builtin, Sem.run_bind, Sem.run_pure, Result.andThen_ok, List.map_toArray, List.map_cons, List.map_nil, hs, hx, List.length_nil, hrun]
    exact hh
  · obtain ⟨yb, yo, e⟩ : ∃ yb yo, ya = some ⟨yb, yo, none⟩ := by
      rcases hY with hY | ⟨b2, o2, cur, e, _⟩
      · rw [hY] at h0; simp at h0
      · exact ⟨b2, o2, e⟩
    subst e
    refine step_append_grows hgd s x 34 ho 3 i0 (.int .i64 0) 1 8 Try.underlying34 hi hi0 hi1 hi2 rfl (by decide) xa xs.length xs.length (nV xs) hs (fun e => ?_) (by rw [nV_len]; omega) (fun b e j u hj => ?_) ⟨yb, yo, none⟩ ys.length yc (nV ys) hx (by rw [nV_len]; omega) hY.lay (nV_one ys) (by omega) (by unfold maxLen; omega) (by omega) (fun v' w' hown hg => ?_)
    · rcases hX with hX | ⟨b2, o2, cur, e2, _⟩
      · rw [hX]; simp
      · rw [e] at e2; cases e2
    · rcases hX with hX | ⟨b2, o2, cur, e2, h3⟩
      · rw [hX] at hj; exact absurd hj (by simp [nV])
      · rw [e] at e2
        rw [Option.some.inj e2]
        have hri : RI w (some ⟨b2, o2, none⟩) xs := .inr ⟨b2, o2, cur, rfl, h3⟩
        exact hri.lay j u hj
    · obtain ⟨va, vc, rfl⟩ := row_slice hown
      rw [← nV_append] at hown
      have hr := RI.ofRow hown (by simp)
      have hb : Below w.heap.size w w' := (Below.refl _ _).grown hg (Nat.le_refl _) (fun q hq => by cases hq)
      have := h va vc w' hr.1 (by rw [List.length_append]; exact hr.2) hb
      rwa [List.length_append] at this
/-- The names of a taking's boxes. -/
structure Kx where
  k : Nat
  sp : Nat
  bb : Nat
  spb : Nat
  cpb : Nat
  dlb : Nat
  nmb : Nat
  ndb : Nat
  hdb : Nat
  ftb : Nat
  tkb : Nat
  nd : Nat
structure TkB (C : Cx) (K : Kx) (W : World) : Prop where
  ndx : W.heap[K.ndb]? = some (.cells #[.int .i64 (K.nd : Int)] 3 (0, 0))
  hdx : W.heap[K.hdb]? = some (.cells #[.func (.func 42) #[] #[.pointer (some ⟨C.sb, 0, none⟩), .pointer (some ⟨K.spb, 0, none⟩), .pointer (some ⟨K.cpb, 0, none⟩), .pointer (some ⟨K.dlb, 0, none⟩), .pointer (some ⟨C.ub, 0, none⟩), .pointer (some ⟨K.bb, 0, none⟩), .pointer (some ⟨K.nmb, 0, none⟩)]] 81 (0, 0))
  ftx : W.heap[K.ftb]? = some (.cells #[.func (.func 39) #[] #[.pointer (some ⟨K.dlb, 0, none⟩), .pointer (some ⟨C.ub, 0, none⟩)]] 59 (0, 0))
  tkx : W.heap[K.tkb]? = some (.cells #[.func (.func 57) #[] #[.pointer (some ⟨K.ndb, 0, none⟩), .pointer (some ⟨K.hdb, 0, none⟩), .pointer (some ⟨K.ftb, 0, none⟩), .pointer (some ⟨K.tkb, 0, none⟩)]] 94 (0, 0))
theorem TkB.fr {C : Cx} {K : Kx} {W W' : World} {X : Nat → Prop} (h : TkB C K W) (ht : Typ W X) (hf : Fr X W W') : TkB C K W' :=
  ⟨(ht.keep hf h.ndx (by decide)).trans h.ndx, (ht.keep hf h.hdx (by decide)).trans h.hdx, (ht.keep hf h.ftx (by decide)).trans h.ftx, (ht.keep hf h.tkx (by decide)).trans h.tkx⟩
theorem TkB.later {C : Cx} {K : Kx} {W W' : World} (h : TkB C K W) (hb : Below W.heap.size W W') : TkB C K W' := h.fr (X := fun _ => False) (fun _ _ _ _ _ e => e) (Fr.of hb)
abbrev StK (C : Cx) (K : Kx) (b : Wy) (W : World) : Prop := StB C K.k K.sp K.bb K.spb K.cpb K.dlb K.nmb b W
/-- One more taking held against the best way so far. -/
def stK (C : Cx) (K : Kx) : Wy → List Nat × List Nat → Wy := stT (svU C.us (C.ds.getD K.k zDl)) (fun r => sr C.us C.ds r (spD (C.ds.getD K.k zDl) K.sp K.k)) K.k
/-- What taking further answers, k units being still missing. -/
def TkP (C : Cx) (K : Kx) (left : List Nat) (kk : Nat) : Prop := ∀ (q t p : List Nat) (b : Wy) (ta ra : Option Addr) (tc rc : Nat) (W : World), t.length + kk = K.nd → 1 ≤ t.length → t.length ≤ 8 → (p ++ q).length ≤ 8 → (∀ x ∈ p ++ q, x < C.us.length) → (∀ c ∈ tkR (fitU C.us (C.ds.getD K.k zDl)) q kk t p, c ∈ takes C.us (C.ds.getD K.k zDl) left) → t.length ≤ tc → (p ++ q).length ≤ rc → RI W ta t → RI W ra (p ++ q) → StK C K b W → TkB C K W →
  Calls Try.prog 57 #[.slice ta t.length tc, .slice ra (p ++ q).length rc, .int .i64 (p.length : Int), .pointer (some ⟨K.ndb, 0, none⟩), .pointer (some ⟨K.hdb, 0, none⟩), .pointer (some ⟨K.ftb, 0, none⟩), .pointer (some ⟨K.tkb, 0, none⟩)] W fun e w' => e = .returned (.tuple #[]) ∧ StK C K ((tkR (fitU C.us (C.ds.getD K.k zDl)) q kk t p).foldl (stK C K) b) w' ∧ Fr (XB C K.bb) W w'
set_option maxHeartbeats 4000000 in
theorem take_zero (C : Cx) (hC : CxOK C) (N : Nat) (HS : SrP C N) (K : Kx) (hk : K.k < C.ds.length) (hsp : K.sp < 64) (left : List Nat) (hleft : Ris C.us.length left) (hN : left.length ≤ N) : TkP C K left 0 := by
  intro q t p b ta ra tc rc W hnd ht1 htl hpl hx hmem htc hrc hrt hrr hS hT
  rw [tkR_zero] at hmem ⊢
  have hh := hand_any C hC N HS K.k K.sp K.bb K.spb K.cpb K.dlb K.nmb hk hsp left hleft hN t (p ++ q) (hmem _ List.mem_cons_self) b ta ra tc rc htc hrc W hS hrt hrr
  have HH : Hid (Calls Try.prog 42 #[.slice ta t.length tc, .slice ra (p ++ q).length rc, .pointer (some ⟨C.sb, 0, none⟩), .pointer (some ⟨K.spb, 0, none⟩), .pointer (some ⟨K.cpb, 0, none⟩), .pointer (some ⟨K.dlb, 0, none⟩), .pointer (some ⟨C.ub, 0, none⟩), .pointer (some ⟨K.bb, 0, none⟩), .pointer (some ⟨K.nmb, 0, none⟩)] W fun e w' => e = .returned (.tuple #[]) ∧ StK C K ([(t, p ++ q)].foldl (stK C K) b) w' ∧ Fr (XB C K.bb) W w') := hh
  clear hh hmem
  generalize [(t, p ++ q)].foldl (stK C K) b = bn at *
  have x0 : W.cell? ⟨K.ndb, 0, none⟩ = some (.int .i64 (K.nd : Int)) := blkCell hT.ndx 0 _ rfl
  have x1 := blkCell hT.hdx 0 _ rfl
  simp only [List.getElem_toArray, List.getElem_cons_zero] at x1
  have heq : ((t.length : Int) == (K.nd : Int)) = true := by rw [beq_iff_eq]; omega
  clear hS hT hrt hrr hnd
  generalize hpq : (p ++ q).length = pq at *
  go_enter Try.func57, Try.ntmps57
  go_wp2_with fail
  (first | go_at_call 42 | skip)
  refine HH.out.mono ?_
  rintro e w1 ⟨rfl, hS1, hF1⟩
  have H1 : Hid (StK C K bn w1 ∧ Fr (XB C K.bb) W w1) := ⟨hS1, hF1⟩
  clear hS1 hF1 x0 x1 HH
  go_wp2
  first | go_end0 | refine bodyPost_ret (results_none rfl _ _ _) rfl ?_
  exact ⟨rfl, H1.out.1, H1.out.2⟩
end Go.Proofs.Ytkfmifbffgbiiaa

/-
  A region that draws its order and whose last operation turns what its loads read: the condition on the world need not hold behind that one operation. Nothing of the program is in it.
-/
namespace Go.Proofs.Ytkfmifbffgbiiaa
open Go.ChangeShapes Go.WideShapes Go.ChangeAt Go.RowKit Go.Deep
set_option linter.unusedVariables false

section
variable {P : Program} {ops : Array Oper} {Q : Exit → Act → World → Prop} {md : Region.Mode} {S : World → Prop} {z : Nat}

/-- Whatever order is picked from here on, and S holds behind every operation that is carried out, number z aside. -/
def wpAnyZ (P : Program) (md : Region.Mode) (ops : Array Oper) (Q : Exit → Act → World → Prop) (S : World → Prop) (z : Nat) : Nat → Array Bool → Act → World → Prop
  | 0, listed, a, w => Region.ready md ops listed = [] ∧ Q .normal a w
  | fuel + 1, listed, a, w =>
    (Region.ready md ops listed = [] → Q .normal a w) ∧
    ∀ i ∈ Region.ready md ops listed, wpOp P ops Q i (fun a' w' => (i = z ∨ S w') ∧ wpAnyZ P md ops Q S z fuel (listed.setIfInBounds i true) a' w') a w
theorem wpAny_of_z : ∀ (fuel : Nat) (listed : Array Bool) (a : Act) (w : World), wpAnyZ P md ops Q S z fuel listed a w → wpAny P md ops Q fuel listed a w
  | 0, _, _, _, h => h
  | fuel + 1, _, _, _, h => ⟨h.1, fun i hi => wpOp_mono (fun a' w' h' => wpAny_of_z fuel _ a' w' h'.2) (h.2 i hi)⟩
/-- Operations each of which waits for i or for another of them; z is among them; none has come up. -/
def waitB (md : Region.Mode) (ops : Array Oper) (listed : Array Bool) (i z : Nat) (path : List Nat) : Bool :=
  path.contains z && path.all fun x => (listed.getD x true == false) && match ops[x]? with
    | some ox => ox.after.any fun e => Region.binds md e && (e.on == i || path.contains e.on)
    | none => false
/-- All that wait for i. -/
def ups (md : Region.Mode) (ops : Array Oper) (i : Nat) : Nat → List Nat
  | 0 => []
  | n + 1 => let prev := ups md ops i n; (List.range ops.size).filter fun x => match ops[x]? with
    | some ox => ox.after.any fun e => Region.binds md e && (e.on == i || prev.contains e.on)
    | none => false
theorem wait_spec {listed : Array Bool} {i : Nat} {path : List Nat} (h : waitB md ops listed i z path = true) :
    z ∈ path ∧ ∀ x ∈ path, listed.getD x true = false ∧ ∃ ox, ops[x]? = some ox ∧ ∃ e ∈ ox.after, Region.binds md e = true ∧ (e.on = i ∨ e.on ∈ path) := by
  unfold waitB at h
  rw [Bool.and_eq_true] at h
  refine ⟨by simpa using h.1, fun x hx => ?_⟩
  have h2 := List.all_eq_true.1 h.2 x hx
  rw [Bool.and_eq_true] at h2
  refine ⟨by simpa using h2.1, ?_⟩
  cases ho : ops[x]? with
  | none => rw [ho] at h2; simp at h2
  | some ox =>
    rw [ho] at h2
    obtain ⟨e, he, hp⟩ := Array.any_eq_true'.1 h2.2
    rw [Bool.and_eq_true, Bool.or_eq_true] at hp
    exact ⟨ox, rfl, e, he, hp.1, by simpa using hp.2⟩
theorem wpAnyZ_first {i : Nat} {oi : Oper} {v : Value} (hi : ops[i]? = some oi) (hsel : ∀ (j : Nat) (o : Oper) cs b, ops[j]? = some o → o.op ≠ .select cs b)
    (hQ : ∀ c a w, Q (.panic c) (a.put oi.dst v) w → Q (.panic c) a w) (path : List Nat) (hz : z ∈ path)
    (hp : ∀ x ∈ path, ∃ ox, ops[x]? = some ox ∧ ∃ e ∈ ox.after, Region.binds md e = true ∧ (e.on = i ∨ e.on ∈ path)) :
    ∀ (fuel : Nat) (listed : Array Bool) (a : Act) (w : World), (∀ x ∈ path, listed.getD x true = false) →
      (∀ j oj, ops[j]? = some oj → j ≠ i → listed.getD j true = false → (∀ e ∈ oj.after, Region.binds md e = true → e.on ≠ i) → oi.apart ops oj = true) →
      i ∈ Region.ready md ops listed → YieldsIf P ops S oi v a → S w →
      wpAnyZ P md ops Q S z fuel (listed.setIfInBounds i true) (a.put oi.dst v) w → wpAnyZ P md ops Q S z (fuel + 1) listed a w := by
  intro fuel
  induction fuel with
  | zero =>
    intro listed a w _ _ hr hy hS H
    refine ⟨fun h => (by rw [h] at hr; cases hr), fun j hj => ?_⟩
    by_cases hji : j = i
    · subst hji; exact hy.wpOp hi hS ⟨.inr hS, H⟩
    · have := ready_mono hj hji
      rw [H.1] at this
      cases this
  | succ fuel ih =>
    intro listed a w hun hfree hr hy hS H
    refine ⟨fun h => (by rw [h] at hr; cases hr), fun j hj => ?_⟩
    by_cases hji : j = i
    · subst hji; exact hy.wpOp hi hS ⟨.inr hS, H⟩
    · have h1 := H.2 j (ready_mono hj hji)
      obtain ⟨hjun, oj, hoj, hall⟩ := mem_ready.1 hj
      have hni : listed.getD i false ≠ true := fun h1 => by
        have h0 := (mem_ready.1 hr).1
        rcases Nat.lt_or_ge i listed.size with h' | h'
        · simp [h'] at h0 h1; rw [h0] at h1; cases h1
        · simp [Array.getElem?_eq_none h'] at h1
      have hnot : ∀ e ∈ oj.after, Region.binds md e = true → e.on ≠ i := fun e he hb heq => by
        have h1 := hall e he hb
        rw [heq] at h1
        exact hni h1
      have hjp : j ∉ path := fun hjp => by
        obtain ⟨ox, hox, e, he, hb, hon⟩ := hp j hjp
        rw [hoj] at hox
        injection hox with hox
        subst hox
        have h1 := hall e he hb
        rcases hon with hon | hon
        · rw [hon] at h1; exact hni h1
        · have h0 := hun _ hon
          rcases Nat.lt_or_ge e.on listed.size with h' | h'
          · simp [h'] at h0 h1; rw [h0] at h1; cases h1
          · simp [Array.getElem?_eq_none h'] at h1
      have hjz : j ≠ z := fun e => hjp (e ▸ hz)
      have h2 := wpOp_putIf hoj (hfree j oj hoj hji hjun hnot) (fun cs b => hsel i oi cs b hi) (fun cs b => hsel j oj cs b hoj) hQ hy h1
      have hfree' : ∀ k ok, ops[k]? = some ok → k ≠ i → (listed.setIfInBounds j true).getD k true = false →
          (∀ e ∈ ok.after, Region.binds md e = true → e.on ≠ i) → oi.apart ops ok = true := fun k ok hk hki hun hno => by
        refine hfree k ok hk hki ?_ hno
        by_cases hjk : j = k
        · subst hjk; exact hjun
        · rw [getD_set_ne true hjk] at hun; exact hun
      refine wpOp_mono (fun a' w' h3 => ?_) h2
      have hS' : S w' := by
        rcases h3.2.1 with e | h
        · exact absurd e hjz
        · exact h
      refine ⟨.inr hS', ih (listed.setIfInBounds j true) a' w' (fun x hx => ?_) hfree' (ready_mono hr (Ne.symm hji)) h3.1 hS' ?_⟩
      · rw [getD_set_ne true (fun e => hjp (by rw [e]; exact hx))]; exact hun x hx
      · rw [Array.setIfInBounds_comm _ _ hji]
        exact h3.2.2
theorem wpAnyZ_take {i : Nat} {oi : Oper} {v : Value} {fuel : Nat} {listed : Array Bool} {a : Act} {w : World} (hi : ops[i]? = some oi)
    (hs : Region.noSelect ops = true) (hf : Region.free md ops listed i = true) (hr : (Region.ready md ops listed).contains i = true)
    (hp : waitB md ops listed i z (ups md ops i ops.size) = true)
    (hQ : ∀ c a w, Q (.panic c) (a.put oi.dst v) w → Q (.panic c) a w) (hy : YieldsIf P ops S oi v a) (hS : S w)
    (h : wpAnyZ P md ops Q S z fuel (listed.setIfInBounds i true) (a.put oi.dst v) w) : wpAnyZ P md ops Q S z (fuel + 1) listed a w :=
  wpAnyZ_first hi (Region.noSelect_spec hs) hQ _ (wait_spec hp).1 (fun x hx => ((wait_spec hp).2 x hx).2) fuel listed a w (fun x hx => ((wait_spec hp).2 x hx).1) (Region.free_spec hi hf) (by simpa using hr) hy hS h
def AllReadyZ (P : Program) (md : Region.Mode) (ops : Array Oper) (Q : Exit → Act → World → Prop) (S : World → Prop) (z : Nat) (fuel : Nat) (listed : Array Bool) (a : Act) (w : World) (rs : List Nat) : Prop :=
  ∀ i ∈ rs, wpOp P ops Q i (fun a' w' => (i = z ∨ S w') ∧ wpAnyZ P md ops Q S z fuel (listed.setIfInBounds i true) a' w') a w
theorem AllReadyZ.nil {fuel : Nat} {listed : Array Bool} {a : Act} {w : World} : AllReadyZ P md ops Q S z fuel listed a w [] := fun _ h => by cases h
theorem AllReadyZ.cons {fuel : Nat} {listed : Array Bool} {a : Act} {w : World} {i : Nat} {o : Oper} {rs : List Nat} (ho : ops[i]? = some o)
    (h : ∀ K' : Act → World → Prop, Shut (∀ a w, (i = z ∨ S w) → ((i = z ∨ S w) → wpAnyZ P md ops Q S z fuel (listed.setIfInBounds i true) a w) → K' a w) → if Region.wanted o (yielded ops a.tmps) = true then Oper.wp P o a w K' Q else K' (a.put o.dst undef) w)
    (hs : AllReadyZ P md ops Q S z fuel listed a w rs) : AllReadyZ P md ops Q S z fuel listed a w (i :: rs) := fun j hj => by
  rcases List.mem_cons.1 hj with rfl | hj
  · exact wpOp_step ho (fun K' hK => h K' (fun a w hS hW => hK a w ⟨hS, hW hS⟩))
  · exact hs j hj
theorem wpAnyZ_ready {rs : List Nat} {fuel : Nat} {listed : Array Bool} {a : Act} {w : World} (hr : Region.ready md ops listed = rs) (hne : rs ≠ [])
    (h : AllReadyZ P md ops Q S z fuel listed a w rs) : wpAnyZ P md ops Q S z (fuel + 1) listed a w := ⟨fun h0 => absurd (hr ▸ h0) hne, hr ▸ h⟩
theorem wpAnyZ_done {listed : Array Bool} {a : Act} {w : World} (hr : Region.ready md ops listed = []) (h : Q .normal a w) :
    ∀ fuel, wpAnyZ P md ops Q S z fuel listed a w
  | 0 => ⟨hr, h⟩
  | _ + 1 => ⟨fun _ => h, by rw [hr]; simp⟩
theorem wp_region_z {id : Nat} {a : Act} {w : World} (z : Nat) (hm : P.follows .mixedOrders = true) (hS : S w.drew)
    (h : S w.drew → wpAnyZ P .any ops Q S z ops.size (Array.replicate ops.size false) a w.drew) : (Code.region id ops true).wp P Q a w :=
  wp_region_any hm (wpAny_of_z _ _ _ _ (h hS))
end
end Go.Proofs.Ytkfmifbffgbiiaa

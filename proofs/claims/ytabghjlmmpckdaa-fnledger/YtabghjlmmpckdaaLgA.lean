/-
  A ledger as mathematics: cards and coupons along a list of events; and a ledger in memory: its struct and three rows of its own.
-/
import Derived.Test.YtabghjlmmpckdaaEvC
import Derived.Test.YtabghjlmmpckdaaCdA
import Derived.Test.YtabghjlmmpckdaaDlC
import Derived.Test.YtabghjlmmpckdaaAppAny
import Derived.Test.YtabghjlmmpckdaaMkP
namespace Go.Proofs.Ytabghjlmmpckdaa
open Go.ChangeShapes Go.WideShapes Go.ChangeAt Go.RowKit Go.Deep
set_option linter.unusedVariables false

def cdIx (cs : List RCd) (nm : ByteArray) : Option Nat := (List.range cs.length).find? fun i => (cs.getD i zCd).nm.toList == nm.toList
theorem cdIx_at {cs : List RCd} {nm : ByteArray} {k : Nat} (hk : k < cs.length) (h0 : ∀ j, j < k → ((cs.getD j zCd).nm.toList == nm.toList) = false) (h1 : ((cs.getD k zCd).nm.toList == nm.toList) = true) : cdIx cs nm = some k := by
  unfold cdIx
  rw [List.find?_range_eq_some]
  exact ⟨h1, by simpa using hk, fun j hj => by rw [h0 j hj]; rfl⟩
theorem cdIx_none {cs : List RCd} {nm : ByteArray} (h0 : ∀ j, j < cs.length → ((cs.getD j zCd).nm.toList == nm.toList) = false) : cdIx cs nm = none := by
  unfold cdIx
  rw [List.find?_range_eq_none]
  exact fun j hj => by rw [h0 j hj]; rfl
theorem cdIx_lt {cs : List RCd} {nm : ByteArray} {k : Nat} (h : cdIx cs nm = some k) : k < cs.length := by
  unfold cdIx at h
  rw [List.find?_range_eq_some] at h
  simpa using h.2.1
def ixI (o : Option Nat) : Int := match o with | none => -1 | some j => (j : Int)
structure Lg where
  cs : List RCd
  us : List ByteArray
  fs : List Nat
def noLg : Lg := ⟨[], [], []⟩
/-- The cards with the one that is named, and its place. -/
def lgCs (cs : List RCd) (nm : ByteArray) : Option Nat → List RCd
  | some _ => cs
  | none => cs ++ [⟨nm, 0, 0, 0⟩]
def lgPl (cs : List RCd) : Option Nat → Nat
  | some i => i
  | none => cs.length
theorem lgPl_lt (cs : List RCd) (nm : ByteArray) : lgPl cs (cdIx cs nm) < (lgCs cs nm (cdIx cs nm)).length := by
  cases h : cdIx cs nm with
  | none => simp [lgPl, lgCs]
  | some i => exact cdIx_lt h
def ldC (c : RCd) (am : Int) : RCd := ⟨c.nm, c.lf + am, c.ld + am, c.sp⟩
def spC (c : RCd) (am : Int) : RCd := ⟨c.nm, c.lf - am, c.ld, c.sp + am⟩
/-- One event is taken: whether it is done, and the ledger behind it. -/
def lgTake (g : Lg) (kd : Int) (nm : ByteArray) (am : Int) : Bool × Lg :=
  if kd = 3 then (if hasB g.us nm = true then (false, g) else (true, ⟨g.cs, g.us ++ [nm], g.fs⟩))
  else
    if kd = 1 then (true, ⟨(lgCs g.cs nm (cdIx g.cs nm)).set (lgPl g.cs (cdIx g.cs nm)) (ldC ((lgCs g.cs nm (cdIx g.cs nm)).getD (lgPl g.cs (cdIx g.cs nm)) zCd) am), g.us, g.fs⟩)
    else if ((lgCs g.cs nm (cdIx g.cs nm)).getD (lgPl g.cs (cdIx g.cs nm)) zCd).lf < am then (false, ⟨lgCs g.cs nm (cdIx g.cs nm), g.us, g.fs⟩)
    else (true, ⟨(lgCs g.cs nm (cdIx g.cs nm)).set (lgPl g.cs (cdIx g.cs nm)) (spC ((lgCs g.cs nm (cdIx g.cs nm)).getD (lgPl g.cs (cdIx g.cs nm)) zCd) am), g.us, g.fs⟩)
def lgRef (k : Nat) (t : Bool × Lg) : Lg := if t.1 = true then t.2 else ⟨t.2.cs, t.2.us, t.2.fs ++ [k]⟩
def lgStep (rs : List REv) (k : Nat) (g : Lg) : Lg := lgRef k (lgTake g (rs.getD k zEv).kd (rs.getD k zEv).cd (rs.getD k zEv).am)
def lgAt (rs : List REv) : Nat → Lg
  | 0 => noLg
  | k + 1 => lgStep rs k (lgAt rs k)
/-- Numbers of a ledger behind k events. -/
structure LgOK (k : Nat) (g : Lg) : Prop where
  cl : g.cs.length ≤ k
  ul : g.us.length ≤ k
  fl : g.fs.length ≤ k
  cd : ∀ c ∈ g.cs, 0 ≤ c.lf ∧ c.lf ≤ (k : Int) * 1000000 ∧ 0 ≤ c.ld ∧ c.ld ≤ (k : Int) * 1000000 ∧ 0 ≤ c.sp ∧ c.sp ≤ (k : Int) * 1000000 ∧ c.lf = c.ld - c.sp
theorem getCd' {cs : List RCd} {p : RCd → Prop} (h : ∀ c ∈ cs, p c) {k : Nat} (hk : k < cs.length) : p (cs.getD k zCd) := getCd h hk
theorem lgCs_mem {cs : List RCd} {nm : ByteArray} {o : Option Nat} {c : RCd} (h : c ∈ lgCs cs nm o) : c ∈ cs ∨ c = ⟨nm, 0, 0, 0⟩ := by
  cases o with
  | none => simpa [lgCs] using h
  | some i => exact .inl h
theorem lgCs_len (cs : List RCd) (nm : ByteArray) (o : Option Nat) : (lgCs cs nm o).length ≤ cs.length + 1 := by
  cases o <;> simp [lgCs]
theorem LgOK.base {k : Nat} {g : Lg} (h : LgOK k g) (nm : ByteArray) (o : Option Nat) : ∀ c ∈ lgCs g.cs nm o, 0 ≤ c.lf ∧ c.lf ≤ (k : Int) * 1000000 ∧ 0 ≤ c.ld ∧ c.ld ≤ (k : Int) * 1000000 ∧ 0 ≤ c.sp ∧ c.sp ≤ (k : Int) * 1000000 ∧ c.lf = c.ld - c.sp := fun c hc => by
  rcases lgCs_mem hc with h1 | h1
  · exact h.cd c h1
  · subst h1
    dsimp only
    omega
theorem LgOK.take {k : Nat} {g : Lg} (h : LgOK k g) {kd : Int} {nm : ByteArray} {am : Int} (hkd : kd ≠ 3 → 1 ≤ am ∧ am ≤ 1000000) : LgOK (k + 1) (lgTake g kd nm am).2 := by
  have hb := h.base nm (cdIx g.cs nm)
  have hl := lgCs_len g.cs nm (cdIx g.cs nm)
  have hp := lgPl_lt g.cs nm
  have h1 := h.cl
  have h2 := h.ul
  have h3 := h.fl
  have up : ∀ c : RCd, (0 ≤ c.lf ∧ c.lf ≤ (k : Int) * 1000000 ∧ 0 ≤ c.ld ∧ c.ld ≤ (k : Int) * 1000000 ∧ 0 ≤ c.sp ∧ c.sp ≤ (k : Int) * 1000000 ∧ c.lf = c.ld - c.sp) → (0 ≤ c.lf ∧ c.lf ≤ ((k + 1 : Nat) : Int) * 1000000 ∧ 0 ≤ c.ld ∧ c.ld ≤ ((k + 1 : Nat) : Int) * 1000000 ∧ 0 ≤ c.sp ∧ c.sp ≤ ((k + 1 : Nat) : Int) * 1000000 ∧ c.lf = c.ld - c.sp) := fun c hc => by omega
  unfold lgTake
  by_cases hk : kd = 3
  · rw [if_pos hk]
    split
    · exact ⟨by dsimp only; omega, by dsimp only; omega, by dsimp only; omega, fun c hc => up c (h.cd c hc)⟩
    · exact ⟨by dsimp only; omega, by dsimp only; rw [List.length_append]; simp; omega, by dsimp only; omega, fun c hc => up c (h.cd c hc)⟩
  · rw [if_neg hk]
    obtain ⟨ha1, ha2⟩ := hkd hk
    generalize lgCs g.cs nm (cdIx g.cs nm) = cs at *
    generalize lgPl g.cs (cdIx g.cs nm) = pl at *
    have hc0 := getCd' hb hp
    generalize cs.getD pl zCd = c0 at *
    split
    · refine ⟨by dsimp only; rw [List.length_set]; omega, by dsimp only; omega, by dsimp only; omega, fun c hc => ?_⟩
      rcases List.mem_or_eq_of_mem_set hc with h4 | h4
      · exact up c (hb c h4)
      · subst h4; unfold ldC; dsimp only; omega
    · split
      · exact ⟨by dsimp only; omega, by dsimp only; omega, by dsimp only; omega, fun c hc => up c (hb c hc)⟩
      · refine ⟨by dsimp only; rw [List.length_set]; omega, by dsimp only; omega, by dsimp only; omega, fun c hc => ?_⟩
        rcases List.mem_or_eq_of_mem_set hc with h4 | h4
        · exact up c (hb c h4)
        · subst h4; unfold spC; dsimp only; omega
theorem lgTake_fs (g : Lg) (kd : Int) (nm : ByteArray) (am : Int) : (lgTake g kd nm am).2.fs = g.fs := by
  unfold lgTake
  split
  · split <;> rfl
  · split
    · rfl
    · split <;> rfl
theorem LgOK.step {rs : List REv} {k : Nat} {g : Lg} (h : LgOK k g) (hr : evOne (rs.getD k zEv) = true) : LgOK (k + 1) (lgStep rs k g) := by
  have ha : (rs.getD k zEv).kd ≠ 3 → 1 ≤ (rs.getD k zEv).am ∧ (rs.getD k zEv).am ≤ 1000000 := fun hk => by
    unfold evOne at hr
    simp only [Bool.and_eq_true] at hr
    obtain ⟨_, _, _, _, h5⟩ := hr
    unfold evAmt at h5
    rw [if_neg hk, Bool.and_eq_true] at h5
    exact of_decide_eq_true h5.2
  have h1 := h.take (nm := (rs.getD k zEv).cd) ha
  have h2 := lgTake_fs g (rs.getD k zEv).kd (rs.getD k zEv).cd (rs.getD k zEv).am
  have h3 := h.fl
  unfold lgStep lgRef
  generalize lgTake g (rs.getD k zEv).kd (rs.getD k zEv).cd (rs.getD k zEv).am = t at *
  split
  · exact h1
  · exact ⟨h1.cl, h1.ul, by dsimp only; rw [List.length_append, h2]; simp; omega, h1.cd⟩
theorem lgAt_ok {rs : List REv} : ∀ (k : Nat), evGo rs k = true → LgOK k (lgAt rs k)
  | 0, _ => ⟨Nat.le_refl _, Nat.le_refl _, Nat.le_refl _, fun c hc => by simp [lgAt, noLg] at hc⟩
  | k + 1, h => by
    rw [evGo_succ, Bool.and_eq_true] at h
    exact (lgAt_ok k h.1).step (evStep_one h.2)
/-- The code with which LedgerOf refuses, 0 if it does not; and what it answers. -/
def lgC (rs : List REv) : Int := if 4096 < rs.length then 2 else if evAll rs = true then 0 else 1
def lgR (rs : List REv) : Lg := if lgC rs = 0 then lgAt rs rs.length else noLg

/-! ### In memory -/
def nVl (n : Nat) : Value := .int .i64 (n : Int)
def cdC (c : RCd) : List Value := [.string c.nm, .int .i64 c.lf, .int .i64 c.ld, .int .i64 c.sp]
def cdCells (cs : List RCd) : List Value := cs.flatMap cdC
theorem cdCells_len : ∀ cs : List RCd, (cdCells cs).length = cs.length * 4
  | [] => rfl
  | c :: t => by
    have h := cdCells_len t
    unfold cdCells at *
    rw [List.flatMap_cons, List.length_append, h, List.length_cons]
    show 4 + _ = _
    omega
theorem cdCells_append (a b : List RCd) : cdCells (a ++ b) = cdCells a ++ cdCells b := by unfold cdCells; rw [List.flatMap_append]
theorem cdCells_get : ∀ (cs : List RCd) (i j : Nat), i < cs.length → j < 4 → (cdCells cs)[i * 4 + j]? = (cdC (cs.getD i zCd))[j]?
  | [], i, j, hi, hj => by simp at hi
  | c :: t, 0, j, hi, hj => by
    unfold cdCells
    rw [List.flatMap_cons, Nat.zero_mul, Nat.zero_add, List.getElem?_append_left (by show j < 4; exact hj)]; rfl
  | c :: t, i + 1, j, hi, hj => by
    have h := cdCells_get t i j (by simpa using hi) hj
    unfold cdCells at *
    rw [List.flatMap_cons, List.getElem?_append_right (by show 4 ≤ _; omega), show (i + 1) * 4 + j - (cdC c).length = i * 4 + j by show (i + 1) * 4 + j - 4 = _; omega, h]
    rfl
theorem cdCells_set : ∀ (cs : List RCd) (i : Nat) (c : RCd), i < cs.length → cdCells (cs.set i c) = ((((cdCells cs).set (i * 4) (.string c.nm)).set (i * 4 + 1) (.int .i64 c.lf)).set (i * 4 + 2) (.int .i64 c.ld)).set (i * 4 + 3) (.int .i64 c.sp) := fun cs i c hi => by
  apply List.ext_getElem?
  intro q
  by_cases hq : q < cs.length * 4
  · have e : q = q / 4 * 4 + q % 4 := by omega
    have h1 := cdCells_get (cs.set i c) (q / 4) (q % 4) (by rw [List.length_set]; omega) (by omega)
    have h2 := cdCells_get cs (q / 4) (q % 4) (by omega) (by omega)
    rw [← e] at h1 h2
    rw [h1, List.getElem?_set, List.getElem?_set, List.getElem?_set, List.getElem?_set]
    simp only [List.length_set, cdCells_len]
    by_cases hi2 : q / 4 = i
    · rw [show (cs.set i c).getD (q / 4) zCd = c by rw [hi2]; simp [List.getD_eq_getElem?_getD, hi]]
      rcases (by omega : q % 4 = 0 ∨ q % 4 = 1 ∨ q % 4 = 2 ∨ q % 4 = 3) with h | h | h | h
      · rw [h, if_neg (by omega), if_neg (by omega), if_neg (by omega), if_pos (by omega), if_pos (by omega)]; rfl
      · rw [h, if_neg (by omega), if_neg (by omega), if_pos (by omega), if_pos (by omega)]; rfl
      · rw [h, if_neg (by omega), if_pos (by omega), if_pos (by omega)]; rfl
      · rw [h, if_pos (by omega), if_pos (by omega)]; rfl
    · rw [if_neg (by omega), if_neg (by omega), if_neg (by omega), if_neg (by omega), h2]
      rw [show (cs.set i c).getD (q / 4) zCd = cs.getD (q / 4) zCd by simp only [List.getD_eq_getElem?_getD]; rw [List.getElem?_set, if_neg (fun e => hi2 e.symm)]]
  · rw [List.getElem?_eq_none (by rw [cdCells_len, List.length_set]; omega), List.getElem?_eq_none (by simp only [List.length_set, cdCells_len]; omega)]
/-- A ledger: its struct in block lb, three rows of its own from B on. -/
structure LgM (B lb : Nat) (g : Lg) (cv uv fv : Value) (W : World) : Prop where
  box : W.heap[lb]? = some (.cells #[cv, uv, fv] 31 (0, 0))
  crow : W.ownsRow B 39 4 cv g.cs.length (cdCells g.cs)
  urow : W.ownsRow B 9 1 uv g.us.length (g.us.map .string)
  frow : W.ownsRow B 3 1 fv g.fs.length (g.fs.map nVl)
theorem LgM.later {B lb : Nat} {g : Lg} {cv uv fv : Value} {W W' : World} (h : LgM B lb g cv uv fv W) (hb : Below W.heap.size W W') : LgM B lb g cv uv fv W' :=
  ⟨(hb.block lb (blkLt h.box)).trans h.box, row_of h.crow (fun q hq => hb.block q (row_lt h.crow q hq).2), row_of h.urow (fun q hq => hb.block q (row_lt h.urow q hq).2), row_of h.frow (fun q hq => hb.block q (row_lt h.frow q hq).2)⟩
theorem row_ne {W : World} {B n k lb : Nat} {t t' : TypeId} {v : Value} {xs : List Value} {cur : Array Value} (h : W.ownsRow B t k v n xs) (hb : W.heap[lb]? = some (.cells cur t' (0, 0))) (ht : t ≠ t') {q : Nat} (hq : v.ownBlock = some q) : q ≠ lb := fun e => by
  obtain ⟨c, hc⟩ := row_type h hq
  rw [e, hb] at hc
  simp at hc
  exact ht hc.2.symm
theorem row_far {W : World} {B B' n n' k k' : Nat} {t t' : TypeId} {v v' : Value} {xs xs' : List Value} (h : W.ownsRow B t k v n xs) (h' : W.ownsRow B' t' k' v' n' xs') (ht : t ≠ t') {q : Nat} (hq : v.ownBlock = some q) : v'.ownBlock ≠ some q := fun e => by
  obtain ⟨c1, h1⟩ := row_type h hq
  obtain ⟨c2, h2⟩ := row_type h' e
  rw [h1] at h2
  simp at h2
  exact ht h2.2
/-- A coupon more. -/
theorem LgM.addU {B lb : Nat} {g : Lg} {cv uv fv nv : Value} {W W' : World} {s : ByteArray} (h : LgM B lb g cv uv fv W) (ho : W'.ownsRow B 9 1 nv (g.us.length + 1) (g.us.map .string ++ [.string s])) (hg : W.grownBy W' uv.ownBlock) :
    W'.heap[lb]? = some (.cells #[cv, uv, fv] 31 (0, 0)) ∧ LgM B lb ⟨g.cs, g.us ++ [s], g.fs⟩ cv nv fv (W'.setCell ⟨lb, 1, none⟩ nv) := by
  have hf := fr_grown hg
  have hx : W'.heap[lb]? = some (.cells #[cv, uv, fv] 31 (0, 0)) := (hf.block lb (blkLt h.box) (fun e => row_ne h.urow h.box (by decide) e rfl)).trans h.box
  have hc : W'.ownsRow B 39 4 cv g.cs.length (cdCells g.cs) := row_of h.crow (fun q hq => hf.block q (row_lt h.crow q hq).2 (row_far h.crow h.urow (by decide) hq))
  have hr : W'.ownsRow B 3 1 fv g.fs.length (g.fs.map nVl) := row_of h.frow (fun q hq => hf.block q (row_lt h.frow q hq).2 (row_far h.frow h.urow (by decide) hq))
  refine ⟨hx, Go.heap_setCell_same _ _ _ _ _ _ hx, row_of hc (fun q hq => Below.heap_setCell _ _ _ _ (row_ne hc hx (by decide) hq)), ?_, row_of hr (fun q hq => Below.heap_setCell _ _ _ _ (row_ne hr hx (by decide) hq))⟩
  rw [List.length_append, List.map_append]
  exact row_of ho (fun q hq => Below.heap_setCell _ _ _ _ (row_ne ho hx (by decide) hq))
/-- A place more. -/
theorem LgM.addF {B lb : Nat} {g : Lg} {cv uv fv nv : Value} {W W' : World} {i : Nat} (h : LgM B lb g cv uv fv W) (ho : W'.ownsRow B 3 1 nv (g.fs.length + 1) (g.fs.map nVl ++ [nVl i])) (hg : W.grownBy W' fv.ownBlock) :
    W'.heap[lb]? = some (.cells #[cv, uv, fv] 31 (0, 0)) ∧ LgM B lb ⟨g.cs, g.us, g.fs ++ [i]⟩ cv uv nv (W'.setCell ⟨lb, 2, none⟩ nv) := by
  have hf := fr_grown hg
  have hx : W'.heap[lb]? = some (.cells #[cv, uv, fv] 31 (0, 0)) := (hf.block lb (blkLt h.box) (fun e => row_ne h.frow h.box (by decide) e rfl)).trans h.box
  have hc : W'.ownsRow B 39 4 cv g.cs.length (cdCells g.cs) := row_of h.crow (fun q hq => hf.block q (row_lt h.crow q hq).2 (row_far h.crow h.frow (by decide) hq))
  have hr : W'.ownsRow B 9 1 uv g.us.length (g.us.map .string) := row_of h.urow (fun q hq => hf.block q (row_lt h.urow q hq).2 (row_far h.urow h.frow (by decide) hq))
  refine ⟨hx, Go.heap_setCell_same _ _ _ _ _ _ hx, row_of hc (fun q hq => Below.heap_setCell _ _ _ _ (row_ne hc hx (by decide) hq)), row_of hr (fun q hq => Below.heap_setCell _ _ _ _ (row_ne hr hx (by decide) hq)), ?_⟩
  rw [List.length_append, List.map_append]
  exact row_of ho (fun q hq => Below.heap_setCell _ _ _ _ (row_ne ho hx (by decide) hq))
/-- A card more. -/
theorem LgM.addC {B lb : Nat} {g : Lg} {cv uv fv nv : Value} {W W' : World} {c : RCd} (h : LgM B lb g cv uv fv W) (ho : W'.ownsRow B 39 4 nv (g.cs.length + 1) (cdCells g.cs ++ cdC c)) (hg : W.grownBy W' cv.ownBlock) :
    W'.heap[lb]? = some (.cells #[cv, uv, fv] 31 (0, 0)) ∧ LgM B lb ⟨g.cs ++ [c], g.us, g.fs⟩ nv uv fv (W'.setCell ⟨lb, 0, none⟩ nv) := by
  have hf := fr_grown hg
  have hx : W'.heap[lb]? = some (.cells #[cv, uv, fv] 31 (0, 0)) := (hf.block lb (blkLt h.box) (fun e => row_ne h.crow h.box (by decide) e rfl)).trans h.box
  have hc : W'.ownsRow B 9 1 uv g.us.length (g.us.map .string) := row_of h.urow (fun q hq => hf.block q (row_lt h.urow q hq).2 (row_far h.urow h.crow (by decide) hq))
  have hr : W'.ownsRow B 3 1 fv g.fs.length (g.fs.map nVl) := row_of h.frow (fun q hq => hf.block q (row_lt h.frow q hq).2 (row_far h.frow h.crow (by decide) hq))
  refine ⟨hx, Go.heap_setCell_same _ _ _ _ _ _ hx, ?_, row_of hc (fun q hq => Below.heap_setCell _ _ _ _ (row_ne hc hx (by decide) hq)), row_of hr (fun q hq => Below.heap_setCell _ _ _ _ (row_ne hr hx (by decide) hq))⟩
  rw [List.length_append, cdCells_append, show cdCells [c] = cdC c by simp [cdCells]]
  exact row_of ho (fun q hq => Below.heap_setCell _ _ _ _ (row_ne ho hx (by decide) hq))
/-- A cell of a card is turned. -/
structure LgX (B lb : Nat) (cs : List RCd) (xs : List Value) (g : Lg) (cg cc : Nat) (uv fv : Value) (W : World) : Prop where
  box : W.heap[lb]? = some (.cells #[.slice (some ⟨cg, 0, none⟩) cs.length cc, uv, fv] 31 (0, 0))
  crow : W.ownsRow B 39 4 (.slice (some ⟨cg, 0, none⟩) cs.length cc) cs.length xs
  urow : W.ownsRow B 9 1 uv g.us.length (g.us.map .string)
  frow : W.ownsRow B 3 1 fv g.fs.length (g.fs.map nVl)
theorem LgX.put {B lb : Nat} {cs : List RCd} {xs : List Value} {g : Lg} {cg cc : Nat} {uv fv : Value} {W : World} (h : LgX B lb cs xs g cg cc uv fv W) (j : Nat) (hj : j < cs.length * 4) (u : Value) : LgX B lb cs (xs.set j u) g cg cc uv fv (W.setCell ⟨cg, j, none⟩ u) :=
  ⟨(Below.heap_setCell _ _ _ _ (fun e => row_ne h.crow h.box (by decide) (q := cg) rfl e.symm)).trans h.box, rowPut h.crow j hj u, row_of h.urow (fun q hq => Below.heap_setCell _ _ _ _ (fun e => row_far h.urow h.crow (by decide) hq (by rw [e]; rfl))), row_of h.frow (fun q hq => Below.heap_setCell _ _ _ _ (fun e => row_far h.frow h.crow (by decide) hq (by rw [e]; rfl)))⟩
theorem LgX.drew {B lb : Nat} {cs : List RCd} {xs : List Value} {g : Lg} {cg cc : Nat} {uv fv : Value} {W W' : World} (h : LgX B lb cs xs g cg cc uv fv W) (hb : Below W.heap.size W W') : LgX B lb cs xs g cg cc uv fv W' :=
  ⟨(hb.block lb (blkLt h.box)).trans h.box, row_of h.crow (fun q hq => hb.block q (row_lt h.crow q hq).2), row_of h.urow (fun q hq => hb.block q (row_lt h.urow q hq).2), row_of h.frow (fun q hq => hb.block q (row_lt h.frow q hq).2)⟩
end Go.Proofs.Ytabghjlmmpckdaa

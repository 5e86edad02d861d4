/-
  Texts of this claim laid together: TlU, TvM.
-/
import Derived.Test.YtabpkfhbnendjaaGreatM25
/-
  All acts of a till; the program's TillRun.
-/
namespace Go.Proofs.YtabpkfhbnendjaaGreat
open Go.ChangeShapes Go.WideShapes Go.ChangeAt Go.RowKit Go.Deep
set_option linter.unusedVariables false

theorem its_both2 : ∃ B, ImplIt B ∧ SpecIt B ∧ ∀ r, B r = true → ItN r := by
  obtain ⟨f, hf⟩ := Classical.axiomOfChoice (fun r : RIt => implItem_any r.cd r.pr r.dp r.cl r.ag)
  refine ⟨f, fun x p d c g w => (hf ⟨x, p, d, c, g⟩).1 w, fun x p d c g w hx => specItem_any x (by unfold maxLen; omega) p d c g _ (hf ⟨x, p, d, c, g⟩).2 w, fun r hr => ?_⟩
  obtain ⟨b0, hb, _⟩ := (hf r).2
  rw [hr] at hb
  unfold inB at hb
  have hb' := hb.symm
  simp only [Bool.and_eq_true, decide_eq_true_eq] at hb'
  obtain ⟨⟨⟨⟨_, h1⟩, h2⟩, h3⟩, h4⟩ := hb'
  exact ⟨h1, h2, h3, h4⟩
theorem itGood_each {B : RIt → Bool} {rs : List RIt} : ∀ k, k ≤ rs.length → itGood B rs k = true → ∀ j, j < k → B (rs.getD j zIt) = true
  | 0, _, _, j, hj => by omega
  | k + 1, hk, h, j, hj => by
    unfold itGood at h
    rw [Bool.and_eq_true, Bool.and_eq_true] at h
    by_cases e : j = k
    · subst e; exact h.2.1
    · exact itGood_each k (by omega) h.1 j (by omega)
theorem itAll_N {B : RIt → Bool} (hB : ∀ r, B r = true → ItN r) {rs : List RIt} (h : itAll B rs = true) : rs.length ≤ 40 ∧ ∀ r ∈ rs, ItN r := by
  unfold itAll at h
  split at h
  · cases h
  · refine ⟨by omega, fun r hr => ?_⟩
    obtain ⟨j, hj, rfl⟩ := List.getElem_of_mem hr
    have := itGood_each _ (Nat.le_refl _) h j hj
    rw [show rs.getD j zIt = rs[j] by simp [List.getD_eq_getElem?_getD, hj]] at this
    exact hB _ this
def tl0 : Tl := ⟨[], 0, [], 0, 0, 0, [0, 0, 0, 0, 0, 0, 0, 0, 0]⟩
theorem tl0_OK (its : List RIt) : TlOK its 0 tl0 := ⟨BkOK.nil its, fun b h => by simp [tl0] at h, by simp [tl0], by simp [tl0], by simp [tl0], by simp [tl0], rfl, fun c hc => by simp [tl0] at hc; simp [hc]⟩
/-- The till and what was told behind k acts. -/
def runT (R : ByteArray → Int × ByteArray × Int × Int) (its : List RIt) (acts : List RTa) : Nat → Tl
  | 0 => tl0
  | k + 1 => stepT R its (acts.getD k zTa) (runT R its acts k)
def runO (R : ByteArray → Int × ByteArray × Int × Int) (its : List RIt) (acts : List RTa) : Nat → List (Int × Int)
  | 0 => []
  | k + 1 => runO R its acts k ++ [stepO R its (acts.getD k zTa) (runT R its acts k)]
theorem runO_len (R : ByteArray → Int × ByteArray × Int × Int) (its : List RIt) (acts : List RTa) : ∀ k, (runO R its acts k).length = k
  | 0 => rfl
  | k + 1 => by rw [runO, List.length_append, runO_len R its acts k]; rfl
theorem runT_OK {R : ByteArray → Int × ByteArray × Int × Int} (hv : ∀ s, 0 ≤ (R s).2.2.1 ∧ (R s).2.2.1 ≤ 99999) {its : List RIt} (hok : ∀ r ∈ its, ItN r) (acts : List RTa) : ∀ k, TlOK its k (runT R its acts k)
  | 0 => tl0_OK its
  | k + 1 => stepT_OK hv hok (runT_OK hv hok acts k) _
def obC (o : Int × Int) : List Value := [.int .i64 o.1, .int .i64 o.2]
def obCells (os : List (Int × Int)) : List Value := os.flatMap obC
theorem obCells_append (a b : List (Int × Int)) : obCells (a ++ b) = obCells a ++ obCells b := by simp [obCells]
theorem obInfo0 : (Tryz.prog.info? 40).map (fun i => (i.zero, i.size, i.bytes)) = some (some (.agg #[.int .i64 0, .int .i64 0]), 2, 16) := by kernel_rfl
theorem run_makeOb (n : Nat) (hn : n ≤ 100000000) (w : World) :
    (Instr.makeSlice 27 (.int .i64 0) (.int .i64 (n : Int))).run Tryz.prog w = .ok (.slice (some ⟨w.heap.size, 0, none⟩) 0 n) (w.alloc (.cells (madeCells #[.int .i64 0, .int .i64 0] (n * 2)) 40)) := by
  obtain ⟨i, hi, hzz⟩ := Option.map_eq_some_iff.1 obInfo0
  simp only [Prod.mk.injEq] at hzz
  obtain ⟨hz, hs, hb⟩ := hzz
  have hr := run_make (P := Tryz.prog) w 27 40 i _ Tryz.underlying27 hi hz .i64 .i64 0 (n : Int) (Int.le_refl _) (by omega) (by rw [hb]; omega) (by omega)
  simp only [Int.toNat_natCast, hs, Int.toNat_zero] at hr
  exact hr
/-- What TillRun leaves: what was told, the till, each in memory of its own from block B on. -/
structure AnsT (B : Nat) (os : List (Int × Int)) (t : Tl) (tv lv kv cv : Value) (ks : List Kb) (W : World) : Prop where
  told : W.ownsRow B 40 2 tv os.length (obCells os)
  kept : ks.map (fun k : Kb => (k.ls, k.sh)) = t.kept
  lrow : W.ownsRow B 82 4 lv t.ls.length (lnCells t.ls)
  krow : W.ownsRow B 30 2 kv ks.length (ks.flatMap kbC)
  rows : ∀ k ∈ ks, W.ownsRow B 82 4 k.v k.ls.length (lnCells k.ls)
  crow : W.ownsRow B 3 1 cv t.cs.length (t.cs.map (Value.int .i64))
  dist : (lv.ownBlock :: ks.map (·.v.ownBlock)).Pairwise Far
def tlN : Tl := ⟨[], 0, [], 0, 0, 0, []⟩
theorem AnsT.none (B : Nat) (W : World) : AnsT B [] tlN (.slice none 0 0) (.slice none 0 0) (.slice none 0 0) (.slice none 0 0) [] W :=
  ⟨World.ownsRow_nil _ _ _ _, rfl, World.ownsRow_nil _ _ _ _, World.ownsRow_nil _ _ _ _, fun _ h => by simp at h, World.ownsRow_nil _ _ _ _, by simp⟩
end Go.Proofs.YtabpkfhbnendjaaGreat

/-
  What a till's acts come to, as it is reckoned beside: the open basket's total, the totals of the suspended ones, what was taken.
-/
namespace Go.Proofs.YtabpkfhbnendjaaGreat
open Go.ChangeShapes Go.WideShapes Go.ChangeAt Go.RowKit Go.Deep
set_option linter.unusedVariables false

/-- What is reckoned beside a till. -/
structure Lw where
  op : Int
  kp : List Int
  tk : Int
/-- It, behind an act a that was answered by o. -/
def lwStep (a : RTa) (o : Int × Int) (s : Lw) : Lw :=
  if o.1 ≠ 0 then s
  else if a.kd = 1 then { s with op := s.op + o.2 }
  else if a.kd = 2 then { s with op := s.op - o.2 }
  else if a.kd = 4 then { s with op := 0, kp := s.kp ++ [s.op] }
  else if a.kd = 5 then { s with op := s.kp.getD a.nm.toNat 0, kp := s.kp.take a.nm.toNat ++ s.kp.drop (a.nm.toNat + 1) }
  else if a.kd = 6 then { s with op := 0, tk := s.tk + s.op }
  else s
/-- It, out of a till. -/
def lwOf (t : Tl) : Lw := ⟨totL t.ls, t.kept.map (fun b => totL b.1), t.tk⟩
theorem lwOf_tl0 : lwOf tl0 = ⟨0, [], 0⟩ := rfl
theorem totL_less {ls : List RLi} {i : Nat} (hi : i < ls.length) : totL (ls.take i ++ ls.drop (i + 1)) = totL ls - ((ls.getD i zLi).am + (ls.getD i zLi).dp) := by
  have e : totL ls = totL (ls.take (i + 1)) + totL (ls.drop (i + 1)) := by rw [← totL_append, List.take_append_drop]
  rw [totL_append, e, totL_next ls i hi]; omega
theorem actE_kind {R : ByteArray → Int × ByteArray × Int × Int} {its : List RIt} {a : RTa} {t : Tl} (h : actE R its a t = 0) : (a.kd = 1 ∧ scanE R its a.tx a.nm = 0 ∧ scanC t.ls t.sh (scanL R its a.tx a.nm).am (scanL R its a.tx a.nm).dp (scanG R its a.tx a.nm) = 0) ∨ (a.kd = 2 ∧ voidC t.ls a.nm = 0) ∨ (a.kd = 3 ∧ showC a.nm = 0) ∨ (a.kd = 4 ∧ suspC t.ls t.kept.length = 0) ∨ (a.kd = 5 ∧ resC t.ls t.kept.length a.nm = 0) ∨ (a.kd = 6 ∧ payC t.ls a.nm = 0) := by
  have hd : deedE R its a.kd a.tx a.nm = 0 := by
    unfold actE at h
    split at h
    · rename_i q; exact absurd h q
    · rename_i q; exact Classical.not_not.1 q
  unfold actE at h
  rw [if_neg (by simp [hd])] at h
  rcases deedE_kind hd with ⟨e, hs⟩ | e | e | e | e | e
  · rw [if_pos e] at h; exact .inl ⟨e, hs, h⟩
  · rw [if_neg (by omega), if_pos e] at h; exact .inr (.inl ⟨e, h⟩)
  · rw [if_neg (by omega), if_neg (by omega), if_pos e] at h; exact .inr (.inr (.inl ⟨e, h⟩))
  · rw [if_neg (by omega), if_neg (by omega), if_neg (by omega), if_pos e] at h; exact .inr (.inr (.inr (.inl ⟨e, h⟩)))
  · rw [if_neg (by omega), if_neg (by omega), if_neg (by omega), if_neg (by omega), if_pos e] at h; exact .inr (.inr (.inr (.inr (.inl ⟨e, h⟩))))
  · rw [if_neg (by omega), if_neg (by omega), if_neg (by omega), if_neg (by omega), if_neg (by omega)] at h; exact .inr (.inr (.inr (.inr (.inr ⟨e, h⟩))))
theorem voidC_in {ls : List RLi} {n : Int} (h : voidC ls n = 0) : 0 ≤ n ∧ n < (ls.length : Int) := by
  unfold voidC at h
  split at h
  · rename_i q; exact q
  · cases h
theorem resC_in {ls : List RLi} {kn : Nat} {n : Int} (h : resC ls kn n = 0) : (0 ≤ n ∧ n < (kn : Int)) ∧ ls = [] := by
  unfold resC at h
  split at h
  · rename_i q
    split at h
    · rename_i r
      exact ⟨q, List.eq_nil_of_length_eq_zero (by omega)⟩
    · cases h
  · cases h
theorem payC_in {ls : List RLi} {n : Int} (h : payC ls n = 0) : totL ls ≤ n ∧ n ≤ 1000000000 := by
  unfold payC at h
  split at h
  · cases h
  · split at h
    · cases h
    · split at h
      · cases h
      · omega
theorem kp_at (t : Tl) (i : Nat) : (lwOf t).kp.getD i 0 = totL (t.kAt i).1 := by
  show (t.kept.map (fun b => totL b.1)).getD i 0 = _
  unfold Tl.kAt
  by_cases h : i < t.kept.length
  · simp [List.getD_eq_getElem?_getD, h]
  · simp [List.getD_eq_getElem?_getD, h, totL]
/-- What is reckoned beside a till is what the till holds, behind each act. -/
theorem lw_step (R : ByteArray → Int × ByteArray × Int × Int) (its : List RIt) (a : RTa) (t : Tl) : lwStep a (stepO R its a t) (lwOf t) = lwOf (stepT R its a t) := by
  unfold stepO stepT
  by_cases hE : actE R its a t = 0
  · rw [if_pos hE, if_pos hE]
    unfold lwStep
    rw [if_neg (by simp)]
    rcases actE_kind hE with ⟨e, hs, _⟩ | ⟨e, h⟩ | ⟨e, h⟩ | ⟨e, h⟩ | ⟨e, h⟩ | ⟨e, h⟩
    · rw [if_pos e, actT, if_pos e, actN, if_pos e]
      simp only [lwOf, totL_append, totL_one]
    · have hi := voidC_in h
      rw [if_neg (by omega), if_pos e, actT, if_neg (by omega), if_pos e, actN, if_neg (by omega), if_pos e]
      simp only [lwOf]
      rw [totL_less (by omega)]
    · rw [if_neg (by omega), if_neg (by omega), if_neg (by omega), if_neg (by omega), if_neg (by omega), actT, if_neg (by omega), if_neg (by omega), if_pos e]
      rfl
    · rw [if_neg (by omega), if_neg (by omega), if_pos e, actT, if_neg (by omega), if_neg (by omega), if_neg (by omega), if_pos e]
      simp [lwOf, totL]
    · rw [if_neg (by omega), if_neg (by omega), if_neg (by omega), if_pos e, actT, if_neg (by omega), if_neg (by omega), if_neg (by omega), if_neg (by omega), if_pos e, kp_at]
      simp only [lwOf, List.map_append, List.map_take, List.map_drop]
    · rw [if_neg (by omega), if_neg (by omega), if_neg (by omega), if_neg (by omega), if_pos e, actT, if_neg (by omega), if_neg (by omega), if_neg (by omega), if_neg (by omega), if_neg (by omega)]
      rfl
  · rw [if_neg hE, if_neg hE]
    unfold lwStep
    rw [if_pos hE]
/-- What is asked of each act's answer. -/
theorem lw_told {R : ByteArray → Int × ByteArray × Int × Int} {its : List RIt} {a : RTa} {t : Tl} (h : (stepO R its a t).1 = 0) : (a.kd = 5 → 0 ≤ a.nm ∧ a.nm < ((lwOf t).kp.length : Int) ∧ (stepO R its a t).2 = (lwOf t).kp.getD a.nm.toNat 0) ∧ (a.kd = 6 → (stepO R its a t).2 = a.nm - (lwOf t).op ∧ (lwOf t).op ≤ a.nm ∧ a.nm ≤ 1000000000) := by
  have hE : actE R its a t = 0 := by
    unfold stepO at h
    split at h
    · rename_i q; exact q
    · exact h
  have e0 : stepO R its a t = (0, actN R its a t) := by unfold stepO; rw [if_pos hE]
  rw [e0]
  refine ⟨fun e => ?_, fun e => ?_⟩
  · rcases actE_kind hE with ⟨q, _⟩ | ⟨q, _⟩ | ⟨q, _⟩ | ⟨q, _⟩ | ⟨_, q⟩ | ⟨q, _⟩
    all_goals first | (exfalso; omega) | skip
    have hi := (resC_in q).1
    refine ⟨hi.1, by show a.nm < ((t.kept.map (fun b => totL b.1)).length : Int); rw [List.length_map]; exact hi.2, ?_⟩
    rw [kp_at, actN, if_neg (by omega), if_neg (by omega), if_neg (by omega), if_neg (by omega), if_pos e]
  · rcases actE_kind hE with ⟨q, _⟩ | ⟨q, _⟩ | ⟨q, _⟩ | ⟨q, _⟩ | ⟨q, _⟩ | ⟨_, q⟩
    all_goals first | (exfalso; omega) | skip
    have hi := payC_in q
    refine ⟨?_, hi.1, hi.2⟩
    rw [actN, if_neg (by omega), if_neg (by omega), if_neg (by omega), if_neg (by omega), if_neg (by omega)]
    rfl
theorem set_sum (l : List Int) (m : Nat) (v : Int) (h : m < l.length) : (l.set m v).sum = l.sum - l.getD m 0 + v := by
  induction l generalizing m with
  | nil => simp at h
  | cons x r ih =>
    cases m with
    | zero => simp only [List.set_cons_zero, List.sum_cons, List.getD_cons_zero]; omega
    | succ m =>
      have := ih m (by simpa using h)
      simp only [List.set_cons_succ, List.sum_cons, List.getD_cons_succ]
      omega
/-- What a sale brings to the classes and the deposits is its total. -/
theorem sale_sum {its : List RIt} (hok : ∀ r ∈ its, ItN r) {ls : List RLi} (h : ∀ l ∈ ls, LiI its l) : ∀ {cs : List Int} (dp : Int), cs.length = 9 → (clsM its cs ls).sum + depM dp ls = cs.sum + dp + totL ls ∧ (clsM its cs ls).length = 9 := by
  induction ls with
  | nil => intro cs dp hc; exact ⟨by simp [clsM, depM, totL], hc⟩
  | cons l r ih =>
    intro cs dp hc
    have h9 := (clN_lt hok (h l List.mem_cons_self)).1
    have e : totL (l :: r) = l.am + l.dp + totL r := by unfold totL; rw [List.map_cons, List.sum_cons]; rfl
    have hs : (addCl its cs l).sum = cs.sum + l.am := by
      unfold addCl; rw [set_sum _ _ _ (by omega)]; omega
    have := ih (fun x hx => h x (List.mem_cons_of_mem _ hx)) (cs := addCl its cs l) (dp + l.dp) (by unfold addCl; rw [List.length_set]; exact hc)
    refine ⟨?_, this.2⟩
    show (clsM its (addCl its cs l) r).sum + depM (dp + l.dp) r = _
    rw [this.1, hs, e]; omega
/-- What was taken is what the classes and the deposits have together. -/
def Bal (t : Tl) : Prop := t.tk = t.cs.sum + t.dp
theorem bal_step {R : ByteArray → Int × ByteArray × Int × Int} {its : List RIt} (hok : ∀ r ∈ its, ItN r) {m : Nat} {t : Tl} (h : TlOK its m t) (hb : Bal t) (a : RTa) : Bal (stepT R its a t) := by
  unfold stepT
  split
  · rename_i hE
    have he : (∃ ls sh kp, actT R its a t = { t with ls := ls, sh := sh, kept := kp }) ∨ actT R its a t = { t with ls := [], sh := 0, sl := t.sl + 1, tk := t.tk + totL t.ls, dp := depM t.dp t.ls, cs := clsM its t.cs t.ls } := by
      unfold actT
      split
      · exact .inl ⟨_, t.sh, t.kept, rfl⟩
      · split
        · exact .inl ⟨_, t.sh, t.kept, rfl⟩
        · split
          · exact .inl ⟨t.ls, _, t.kept, rfl⟩
          · split
            · exact .inl ⟨_, _, _, rfl⟩
            · split
              · exact .inl ⟨_, _, _, rfl⟩
              · exact .inr rfl
    rcases he with ⟨ls, sh, kp, q⟩ | q
    · rw [q]; exact hb
    · rw [q]
      have := (sale_sum hok h.now.each (cs := t.cs) t.dp h.cs.1).1
      unfold Bal at hb ⊢
      show t.tk + totL t.ls = (clsM its t.cs t.ls).sum + depM t.dp t.ls
      omega
  · exact hb
theorem run_bal {R : ByteArray → Int × ByteArray × Int × Int} (hv : ∀ s, 0 ≤ (R s).2.2.1 ∧ (R s).2.2.1 ≤ 99999) {its : List RIt} (hok : ∀ r ∈ its, ItN r) (acts : List RTa) : ∀ k, Bal (runT R its acts k)
  | 0 => rfl
  | k + 1 => bal_step hok (runT_OK hv hok acts k) (run_bal hv hok acts k) _
/-- All bounds that the reckoning needs: no number wraps. -/
theorem lw_range {its : List RIt} {m : Nat} {t : Tl} (h : TlOK its m t) : (0 ≤ (lwOf t).op ∧ (lwOf t).op ≤ 1000000000) ∧ (lwOf t).kp.length ≤ 5 ∧ (∀ x ∈ (lwOf t).kp, 0 ≤ x ∧ x ≤ 1000000000) ∧ 0 ≤ (lwOf t).tk ∧ (lwOf t).tk ≤ 1000000000 * (m : Int) := by
  refine ⟨⟨(totL_nn h.now.nn).1, h.now.tot⟩, by show (t.kept.map (fun b => totL b.1)).length ≤ 5; rw [List.length_map]; exact h.many, fun x hx => ?_, h.tk⟩
  obtain ⟨b, hb, rfl⟩ := List.mem_map.1 hx
  exact ⟨(totL_nn (h.kept b hb).nn).1, (h.kept b hb).tot⟩

end Go.Proofs.YtabpkfhbnendjaaGreat

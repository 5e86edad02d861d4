/-
  Rosters as mathematics: what stands against a worker at a shift, what lists cost; a rota as the program holds it, a table of twenty numbers.
-/
import Derived.Test.YteigbmdhfeagfaaWrB
import Derived.Deep.WholeRow
import Derived.Laws.Tables
import Derived.Laws.Rows
namespace Go.Proofs.Yteigbmdhfeagfaa
open Go.ChangeShapes Go.WideShapes Go.ChangeAt Go.RowKit Go.Deep
set_option linter.unusedVariables false

def duB (s : RSf) : Int := s.to - s.fr
/-- The minutes of worker m among the first shifts. -/
def rqS (rs : List RSf) (L : List Int) (m : Int) : Nat → Int
  | 0 => 0
  | k + 1 => rqS rs L m k + if L.getD k 0 = m then duB (rs.getD k zSf) else 0
/-- One of them ends too late for a shift that begins at f. -/
def rqT (rs : List RSf) (L : List Int) (m f r : Int) : Nat → Bool
  | 0 => false
  | k + 1 => rqT rs L m f r k || (decide (L.getD k 0 = m) && decide (f < (rs.getD k zSf).to + r))
def rqC (rs : List RSf) (ws : List CWk) (L : List Int) : Nat → Int
  | 0 => 0
  | k + 1 => rqC rs ws L k + duB (rs.getD k zSf) * (ws.getD (L.getD k 0).toNat zWk).co
/-- What stands against a worker who has so many minutes and has rested from r on. -/
def agC (c : CWk) (s : RSf) (mn : Int) (late : Bool) : Int := if hasB c.sk s.sk = true then (if late = true then 12 else if c.ms < mn + duB s then 11 else 0) else 13
def coB (rs : List RSf) (ws : List CWk) (L : List Int) (i : Nat) : Int :=
  agC (ws.getD (L.getD i 0).toNat zWk) (rs.getD i zSf) (rqS rs L (L.getD i 0) i) (rqT rs L (L.getD i 0) (rs.getD i zSf).fr (ws.getD (L.getD i 0).toNat zWk).rt i)
theorem agC_ways (c : CWk) (s : RSf) (mn : Int) (late : Bool) : (hasB c.sk s.sk = false ∧ agC c s mn late = 13) ∨ (hasB c.sk s.sk = true ∧ late = true ∧ agC c s mn late = 12) ∨ (hasB c.sk s.sk = true ∧ late = false ∧ c.ms < mn + duB s ∧ agC c s mn late = 11) ∨ (hasB c.sk s.sk = true ∧ late = false ∧ ¬ c.ms < mn + duB s ∧ agC c s mn late = 0) := by
  unfold agC
  cases h1 : hasB c.sk s.sk
  · exact .inl ⟨rfl, rfl⟩
  · cases late
    · by_cases h3 : c.ms < mn + duB s
      · exact .inr (.inr (.inl ⟨rfl, rfl, h3, by rw [if_pos h3]; rfl⟩))
      · exact .inr (.inr (.inr ⟨rfl, rfl, h3, by rw [if_neg h3]; rfl⟩))
    · exact .inr (.inl ⟨rfl, rfl, rfl⟩)
/-! ### Bounds -/
theorem sf_bd {rs : List RSf} (h : sfsB rs = true) (k : Nat) : 0 ≤ duB (rs.getD k zSf) ∧ duB (rs.getD k zSf) ≤ 10080 ∧ 0 ≤ (rs.getD k zSf).fr ∧ (rs.getD k zSf).to ≤ 10080 ∧ 0 ≤ (rs.getD k zSf).to ∧ (rs.getD k zSf).fr ≤ 10080 := by
  by_cases hk : k < rs.length
  · have := ((sf_iff _).1 (sfs_getD h hk)).1
    unfold duB
    omega
  · rw [List.getD_eq_getElem?_getD, List.getElem?_eq_none (by omega)]
    show 0 ≤ duB zSf ∧ duB zSf ≤ 10080 ∧ 0 ≤ zSf.fr ∧ zSf.to ≤ 10080 ∧ 0 ≤ zSf.to ∧ zSf.fr ≤ 10080
    unfold duB zSf
    dsimp only
    omega
theorem rqS_bd {rs : List RSf} (h : sfsB rs = true) (L : List Int) (m : Int) : ∀ k : Nat, 0 ≤ rqS rs L m k ∧ rqS rs L m k ≤ 10080 * (k : Int)
  | 0 => by unfold rqS; omega
  | k + 1 => by
    have h1 := rqS_bd h L m k
    have h2 := sf_bd h k
    unfold rqS
    split <;> omega
theorem wk_bd {ws : List CWk} (h : ws.all wkOne = true) (k : Nat) : (0 ≤ (ws.getD k zWk).ms ∧ (ws.getD k zWk).ms ≤ 10080) ∧ (0 ≤ (ws.getD k zWk).rt ∧ (ws.getD k zWk).rt ≤ 10080) ∧ 0 ≤ (ws.getD k zWk).co ∧ (ws.getD k zWk).co ≤ 1000 := by
  by_cases hk : k < ws.length
  · have h1 : wkOne (ws.getD k zWk) = true := by
      rw [List.all_eq_true] at h
      exact getWk h hk
    generalize ws.getD k zWk = c at *
    unfold wkOne at h1
    split at h1
    · cases h1
    · rw [al_pair, Bool.and_eq_true, Bool.and_eq_true, Bool.and_eq_true, inB_iff, inB_iff, inB_iff] at h1
      exact ⟨h1.1.1, h1.1.2, h1.2.1⟩
  · rw [List.getD_eq_getElem?_getD, List.getElem?_eq_none (by omega)]
    show (0 ≤ zWk.ms ∧ zWk.ms ≤ 10080) ∧ (0 ≤ zWk.rt ∧ zWk.rt ≤ 10080) ∧ 0 ≤ zWk.co ∧ zWk.co ≤ 1000
    unfold zWk
    dsimp only
    omega
theorem du_mul {d c : Int} (h1 : 0 ≤ d ∧ d ≤ 10080) (h2 : 0 ≤ c ∧ c ≤ 1000) : 0 ≤ d * c ∧ d * c ≤ 10080000 := by
  refine ⟨Int.mul_nonneg h1.1 h2.1, ?_⟩
  have := Int.mul_le_mul h1.2 h2.2 h2.1 (by omega)
  omega
theorem rqC_bd {rs : List RSf} {ws : List CWk} (h : sfsB rs = true) (hw : ws.all wkOne = true) (L : List Int) : ∀ k : Nat, 0 ≤ rqC rs ws L k ∧ rqC rs ws L k ≤ 10080000 * (k : Int)
  | 0 => by unfold rqC; omega
  | k + 1 => by
    have h1 := rqC_bd h hw L k
    have h2 := sf_bd h k
    have h3 := wk_bd hw (L.getD k 0).toNat
    have h4 := du_mul ⟨h2.1, h2.2.1⟩ ⟨h3.2.2.1, h3.2.2.2⟩
    unfold rqC
    omega
/-! ### A rota -/
def rtA (R : Nat → Int) : Array Value := ((List.range 20).map fun i => Value.int .i64 (R i)).toArray
theorem rtA_size (R : Nat → Int) : (rtA R).size = 20 := by unfold rtA; simp
theorem rtA_get (R : Nat → Int) {k : Nat} (h : k < 20) : (rtA R)[k]? = some (.int .i64 (R k)) := by
  unfold rtA
  simp [h]
theorem rtA_one (R : Nat → Int) : (rtA R).all (·.oneCell') = true := by
  rw [Array.all_eq_true_iff_forall_mem]
  intro v hv
  unfold rtA at hv
  rw [List.mem_toArray, List.mem_map] at hv
  obtain ⟨i, _, rfl⟩ := hv
  rfl
def rtS (R : Nat → Int) (k : Nat) (v : Int) (j : Nat) : Int := if j = k then v else R j
theorem rtS_same (R : Nat → Int) (k : Nat) (v : Int) : rtS R k v k = v := if_pos rfl
theorem rtS_other (R : Nat → Int) {k j : Nat} (v : Int) (h : j ≠ k) : rtS R k v j = R j := if_neg h
theorem rtA_set (R : Nat → Int) {k : Nat} (h : k < 20) (v : Int) : (rtA R).setIfInBounds k (.int .i64 v) = rtA (rtS R k v) := by
  apply Array.ext_getElem?
  intro i
  rw [Array.getElem?_setIfInBounds]
  by_cases hk : k = i
  · subst hk
    rw [if_pos rfl, if_pos (by rw [rtA_size]; exact h), rtA_get _ h, rtS_same]
  · rw [if_neg hk]
    by_cases hi : i < 20
    · rw [rtA_get _ hi, rtA_get _ hi, rtS_other _ _ (fun e => hk e.symm)]
    · rw [Array.getElem?_eq_none (by rw [rtA_size]; omega), Array.getElem?_eq_none (by rw [rtA_size]; omega)]
/-- The rota in block b. -/
def RtAt (R : Nat → Int) (b : Nat) (W : World) : Prop := W.heap[b]? = some (.cells (rtA R) 83 (0, 0))
theorem RtAt.cell {R : Nat → Int} {b : Nat} {W : World} (h : RtAt R b W) {k : Nat} (hk : k < 20) : W.cell? ⟨b, k, none⟩ = some (.int .i64 (R k)) := blkCell h k _ (rtA_get R hk)
theorem RtAt.free {R : Nat → Int} {b : Nat} {W : World} (h : RtAt R b W) (k : Nat) : W.frozen? ⟨b, k, none⟩ = false := blkFree h k
theorem RtAt.set {R : Nat → Int} {b : Nat} {W : World} (h : RtAt R b W) {k : Nat} (hk : k < 20) (v : Int) : RtAt (rtS R k v) b (W.setCell ⟨b, k, none⟩ (.int .i64 v)) := by
  have := heap_setCell_same W b k _ _ (.int .i64 v) h
  rw [rtA_set R hk] at this
  exact this
theorem RtAt.later {R : Nat → Int} {b : Nat} {W W' : World} (h : RtAt R b W) (hb : Below W.heap.size W W') : RtAt R b W' := (hb.block b (blkLt h)).trans h
/-- A rota with the next shift given to worker m. -/
def rtN (R : Nat → Int) (k m : Nat) (s : RSf) (c : CWk) : Nat → Int := rtS (rtS (rtS (rtS (rtS R k m) 8 (k + 1)) (9 + 2 * m) (R (9 + 2 * m) + duB s)) (9 + 2 * m + 1) (s.to + c.rt)) 19 (R 19 + duB s * c.co)
def rtZ : Nat → Int := fun _ => 0
/-- A rota that has come to shift i along L. -/
structure RtI (rs : List RSf) (ws : List CWk) (L : List Int) (i : Nat) (R : Nat → Int) : Prop where
  who : ∀ k, k < i → R k = L.getD k 0
  rest : ∀ k, i ≤ k → k < 8 → R k = 0
  fil : R 8 = (i : Int)
  mins : ∀ m : Nat, m < 5 → R (9 + 2 * m) = rqS rs L (m : Int) i
  rst : ∀ m : Nat, m < 5 → ∀ f : Int, 0 ≤ f → decide (f < R (9 + 2 * m + 1)) = rqT rs L (m : Int) f (ws.getD m zWk).rt i
  cost : R 19 = rqC rs ws L i
theorem RtI.zero (rs : List RSf) (ws : List CWk) (L : List Int) : RtI rs ws L 0 rtZ :=
  ⟨fun k h => by omega, fun k _ _ => rfl, rfl, fun m _ => rfl, fun m _ f hf => by unfold rtZ rqT; exact decide_eq_false (by omega), rfl⟩
theorem RtI.code {rs : List RSf} {ws : List CWk} {L : List Int} {i m : Nat} {R : Nat → Int} (h : RtI rs ws L i R) (hs : sfsB rs = true) (hm : m < 5) (hL : L.getD i 0 = (m : Int)) : coB rs ws L i = agC (ws.getD m zWk) (rs.getD i zSf) (R (9 + 2 * m)) (decide ((rs.getD i zSf).fr < R (9 + 2 * m + 1))) := by
  unfold coB
  rw [hL, Int.toNat_natCast, h.mins m hm, h.rst m hm _ (sf_bd hs i).2.2.1]
theorem RtI.next {rs : List RSf} {ws : List CWk} {L : List Int} {i m : Nat} {R : Nat → Int} (h : RtI rs ws L i R) (hs : sfsB rs = true) (hw : ws.all wkOne = true) (hm : m < 5) (hi : i < 8) (hL : L.getD i 0 = (m : Int)) (hc : coB rs ws L i = 0) : RtI rs ws L (i + 1) (rtN R i m (rs.getD i zSf) (ws.getD m zWk)) := by
  have hb := sf_bd hs i
  have hwb := wk_bd hw m
  have hlate : ¬ (rs.getD i zSf).fr < R (9 + 2 * m + 1) := by
    rw [h.code hs hm hL] at hc
    rcases agC_ways (ws.getD m zWk) (rs.getD i zSf) (R (9 + 2 * m)) (decide ((rs.getD i zSf).fr < R (9 + 2 * m + 1))) with ⟨_, e⟩ | ⟨_, _, e⟩ | ⟨_, _, _, e⟩ | ⟨_, e1, _, _⟩
    · omega
    · omega
    · omega
    · exact of_decide_eq_false e1
  have hdu : duB (rs.getD i zSf) = (rs.getD i zSf).to - (rs.getD i zSf).fr := rfl
  have key : ∀ j v0 v1 v2 v3 v4, j ≠ i → j ≠ 8 → j ≠ 9 + 2 * m → j ≠ 9 + 2 * m + 1 → j ≠ 19 → rtS (rtS (rtS (rtS (rtS R i v0) 8 v1) (9 + 2 * m) v2) (9 + 2 * m + 1) v3) 19 v4 j = R j := fun j v0 v1 v2 v3 v4 h0 h1 h2 h3 h4 => by
    rw [rtS_other _ _ h4, rtS_other _ _ h3, rtS_other _ _ h2, rtS_other _ _ h1, rtS_other _ _ h0]
  refine ⟨fun k hk => ?_, fun k h1 h2 => ?_, ?_, fun j hj => ?_, fun j hj f hf => ?_, ?_⟩
  · unfold rtN
    by_cases e : k = i
    · subst e
      rw [rtS_other _ _ (by omega), rtS_other _ _ (by omega), rtS_other _ _ (by omega), rtS_other _ _ (by omega), rtS_same, hL]
    · rw [key k _ _ _ _ _ e (by omega) (by omega) (by omega) (by omega)]
      exact h.who k (by omega)
  · unfold rtN
    rw [key k _ _ _ _ _ (by omega) (by omega) (by omega) (by omega) (by omega)]
    exact h.rest k (by omega) h2
  · unfold rtN
    rw [rtS_other _ _ (by omega), rtS_other _ _ (by omega), rtS_other _ _ (by omega), rtS_same]
    omega
  · unfold rtN
    by_cases e : j = m
    · subst e
      rw [rtS_other _ _ (by omega), rtS_other _ _ (by omega), rtS_same, h.mins j hj]
      show _ = rqS rs L (j : Int) i + _
      rw [if_pos hL]
    · rw [key _ _ _ _ _ _ (by omega) (by omega) (by omega) (by omega) (by omega), h.mins j hj]
      show _ = rqS rs L (j : Int) i + _
      rw [if_neg (by rw [hL]; omega)]
      omega
  · unfold rtN
    by_cases e : j = m
    · subst e
      rw [rtS_other _ _ (by omega), rtS_same]
      show _ = (rqT rs L (j : Int) f (ws.getD j zWk).rt i || _)
      rw [← h.rst j hj f hf, hL, decide_eq_true rfl, Bool.true_and]
      by_cases h1 : f < (rs.getD i zSf).to + (ws.getD j zWk).rt
      · rw [decide_eq_true h1, Bool.or_true]
      · rw [decide_eq_false h1, Bool.or_false, decide_eq_false (by omega)]
    · rw [key _ _ _ _ _ _ (by omega) (by omega) (by omega) (by omega) (by omega), h.rst j hj f hf]
      show _ = (rqT rs L (j : Int) f (ws.getD j zWk).rt i || _)
      rw [decide_eq_false (by rw [hL]; omega), Bool.false_and, Bool.or_false]
  · unfold rtN
    rw [rtS_same, h.cost]
    show _ = rqC rs ws L i + _
    rw [hL, Int.toNat_natCast]
/-! ### RosterOf -/
def rfB (rs : List RSf) (ws : List CWk) : Int := if 4096 < rs.length ∨ 4096 < ws.length then 2 else if roB rs ws = true then 0 else 1
/-- The first place at which a list of who can't be, from k on. -/
def rwG (rs : List RSf) (ws : List CWk) (L : List Int) : Nat → Nat → Int × Nat
  | 0, k => (0, 0)
  | n + 1, k => if inB (L.getD k 0) 0 ((ws.length : Int) - 1) = true then (if coB rs ws L k = 0 then rwG rs ws L n (k + 1) else (coB rs ws L k, k)) else (5, k)
def rwC (rs : List RSf) (ws : List CWk) (L : List Int) : Int × Nat := if 4096 < L.length then (2, 0) else if rfB rs ws = 0 then (if L.length = rs.length then rwG rs ws L L.length 0 else (3, 0)) else (rfB rs ws, 0)
def rwL (rs : List RSf) (ws : List CWk) (L : List Int) : List Int := if (rwC rs ws L).1 = 0 then L else []
def rwT (rs : List RSf) (ws : List CWk) (L : List Int) : Int := if (rwC rs ws L).1 = 0 then rqC rs ws L L.length else 0
theorem rf_rosters {rs : List RSf} {ws : List CWk} (h : rfB rs ws = 0) : rs.length ≤ 8 ∧ ws.length ≤ 5 ∧ srB rs = true ∧ sfsB rs = true ∧ ws.all wkOne = true := by
  unfold rfB at h
  split at h
  · omega
  · split at h
    · rename_i h1 h2
      unfold roB at h2
      split at h2
      · cases h2
      · rw [Bool.and_eq_true, Bool.and_eq_true, Bool.and_eq_true] at h2
        exact ⟨by omega, by omega, h2.1, h2.2.1, h2.2.2.2⟩
    · omega
theorem rf_three (rs : List RSf) (ws : List CWk) : ((4096 < rs.length ∨ 4096 < ws.length) ∧ rfB rs ws = 2) ∨ (¬ 4096 < rs.length ∧ ¬ 4096 < ws.length ∧ roB rs ws = false ∧ rfB rs ws = 1) ∨ (¬ 4096 < rs.length ∧ ¬ 4096 < ws.length ∧ roB rs ws = true ∧ rfB rs ws = 0) := by
  unfold rfB
  by_cases h : 4096 < rs.length ∨ 4096 < ws.length
  · exact .inl ⟨h, if_pos h⟩
  · rw [if_neg h]
    cases h2 : roB rs ws
    · exact .inr (.inl ⟨by omega, by omega, rfl, rfl⟩)
    · exact .inr (.inr ⟨by omega, by omega, rfl, rfl⟩)
theorem rwG_step (rs : List RSf) (ws : List CWk) (L : List Int) {k : Nat} (hk : k < L.length) : rwG rs ws L (L.length - k) k = if inB (L.getD k 0) 0 ((ws.length : Int) - 1) = true then (if coB rs ws L k = 0 then rwG rs ws L (L.length - (k + 1)) (k + 1) else (coB rs ws L k, k)) else (5, k) := by
  obtain ⟨n, hn⟩ : ∃ n, L.length - k = n + 1 := ⟨L.length - k - 1, by omega⟩
  rw [hn, show L.length - (k + 1) = n by omega]
  rfl
theorem rwG_end (rs : List RSf) (ws : List CWk) (L : List Int) (k : Nat) : rwG rs ws L (L.length - L.length) k = (0, 0) := by rw [Nat.sub_self]; rfl
end Go.Proofs.Yteigbmdhfeagfaa

/-
  A route as mathematics: a trip along an order; contract of the program's route.
-/
import Derived.Test.YtoogphkojofkfaaRvC
import Derived.Test.YtoogphkojofkfaaPlO
import Derived.Test.YtoogphkojofkfaaMqQ
namespace Go.Proofs.Ytoogphkojofkfaa
open Go.ChangeShapes Go.WideShapes Go.ChangeAt Go.RowKit Go.Joins Go.Deep
set_option linter.unusedVariables false

/-- A trip as far as it has come: its minute, what it has waited, where it is, when it arrived, whether in time everywhere. -/
structure Trp where
  lv : Int
  wt : Int
  h : RHp
  A : List Int
  ok : Bool
def stepT (rs : List RHp) (t : Trp) (o : Int) : Trp := ⟨lvN t.lv t.h (rs.getD o.toNat zHp), wtN t.wt t.lv t.h (rs.getD o.toNat zHp), rs.getD o.toNat zHp, t.A ++ [arN t.lv t.h (rs.getD o.toNat zHp)], t.ok && decide (arN t.lv t.h (rs.getD o.toNat zHp) ≤ (rs.getD o.toNat zHp).to)⟩
def trp (rs : List RHp) (b : Int) (L : List Int) : Trp := L.foldl (stepT rs) ⟨b, 0, zHp, [], true⟩
def endT (t : Trp) : Int := t.lv + farH t.h zHp
theorem trp_snoc (rs : List RHp) (b : Int) (L : List Int) (o : Int) : trp rs b (L ++ [o]) = stepT rs (trp rs b L) o := by
  unfold trp; rw [List.foldl_append]; rfl
theorem trp_take (rs : List RHp) (b : Int) {os : List Int} {k : Nat} (hk : k < os.length) : trp rs b (os.take (k + 1)) = stepT rs (trp rs b (os.take k)) (os.getD k 0) := by
  have e : os.getD k 0 = os[k] := by simp [List.getD_eq_getElem?_getD, hk]
  rw [List.take_succ_eq_append_getElem hk, trp_snoc, e]
theorem trp_late (rs : List RHp) (t : Trp) (h : t.ok = false) : ∀ L : List Int, (L.foldl (stepT rs) t).ok = false
  | [] => h
  | o :: L => trp_late rs (stepT rs t o) (by unfold stepT; simp [h]) L
theorem trp_late_take (rs : List RHp) (b : Int) (os : List Int) (k : Nat) (h : (trp rs b (os.take k)).ok = false) : (trp rs b os).ok = false := by
  have e : trp rs b os = (os.drop k).foldl (stepT rs) (trp rs b (os.take k)) := by
    unfold trp
    rw [← List.foldl_append, List.take_append_drop]
  rw [e]
  exact trp_late rs _ h _
/-- What holds of a trip over right stops. -/
structure TrpB (n : Int) (t : Trp) : Prop where
  lv : 0 ≤ t.lv ∧ t.lv ≤ 100000 + 110000 * n
  wt : 0 ≤ t.wt ∧ t.wt ≤ 110000 * n
  h : hpIn t.h
theorem getD_in {rs : List RHp} (hs : hpsB rs = true) (k : Nat) : hpIn (rs.getD k zHp) := by
  by_cases hk : k < rs.length
  · exact hp_in (hps_getD hs hk)
  · rw [List.getD_eq_getElem?_getD, List.getElem?_eq_none (by omega)]; exact hp_in_z
theorem hp_zok : hpB zHp = true := hp_of (by unfold zHp; dsimp only; omega)
theorem getD_ok {rs : List RHp} (hs : hpsB rs = true) (k : Nat) : hpB (rs.getD k zHp) = true := by
  by_cases hk : k < rs.length
  · exact hps_getD hs hk
  · rw [List.getD_eq_getElem?_getD, List.getElem?_eq_none (by omega)]; exact hp_zok
theorem stepT_bd {rs : List RHp} (hs : hpsB rs = true) {t : Trp} {n : Int} (hn : 0 ≤ n) (h : TrpB n t) (o : Int) : TrpB (n + 1) (stepT rs t o) := by
  have hq := getD_ok hs o.toNat
  have h1 := hp_facts hq
  have h2 := farH_bd h.h (hp_in hq)
  have h3 := h.lv
  have h4 := h.wt
  unfold stepT
  refine ⟨?_, ?_, hp_in hq⟩
  · unfold lvN stN arN; dsimp only; omega
  · unfold wtN stN arN; dsimp only; omega
theorem trp_bd {rs : List RHp} (hs : hpsB rs = true) {b : Int} (hb : 0 ≤ b ∧ b ≤ 100000) : ∀ k (os : List Int), os.length = k → TrpB (k : Int) (trp rs b os)
  | 0, os, h => by
    have : os = [] := List.eq_nil_of_length_eq_zero h
    subst this
    exact ⟨⟨hb.1, by show b ≤ _; omega⟩, ⟨Int.le_refl _, by show (0 : Int) ≤ _; omega⟩, hp_in_z⟩
  | k + 1, os, h => by
    have e : os = os.take k ++ [os.getD k 0] := by
      have := List.take_succ_eq_append_getElem (l := os) (i := k) (by omega)
      rw [List.take_of_length_le (by omega)] at this
      rw [show os.getD k 0 = os[k] by simp [List.getD_eq_getElem?_getD, show k < os.length by omega]]
      exact this
    rw [e, trp_snoc]
    have := stepT_bd hs (by omega) (trp_bd hs hb k (os.take k) (by simp; omega)) (os.getD k 0)
    exact_mod_cast this
theorem trpA_len (rs : List RHp) (t : Trp) : ∀ L : List Int, (L.foldl (stepT rs) t).A.length = t.A.length + L.length
  | [] => by simp
  | o :: L => by
    show (L.foldl (stepT rs) (stepT rs t o)).A.length = _
    rw [trpA_len rs (stepT rs t o) L]
    unfold stepT
    simp only [List.length_append, List.length_cons, List.length_nil]
    omega
theorem trp_len (rs : List RHp) (b : Int) (L : List Int) : (trp rs b L).A.length = L.length := by
  unfold trp; rw [trpA_len]; simp
/-- What RouteOf answers. -/
def roC (rs : List RHp) (b : Int) (os : List Int) : Int := if 4096 < os.length then 2 else if rfC rs b = 0 then (if onB os rs.length = true then (if (trp rs b os).ok = true then 0 else 17) else 3) else rfC rs b
def roL (rs : List RHp) (b : Int) (os : List Int) : List Int := if roC rs b os = 0 then os else []
def roA (rs : List RHp) (b : Int) (os : List Int) : List Int := if roC rs b os = 0 then (trp rs b os).A else []
def roW (rs : List RHp) (b : Int) (os : List Int) : Int := if roC rs b os = 0 then (trp rs b os).wt else 0
def roE (rs : List RHp) (b : Int) (os : List Int) : Int := if roC rs b os = 0 then endT (trp rs b os) else 0
/-- A route that is answered, its two lists in bands of their own. -/
def AnsS (L A : List Int) (wt en : Int) (w : World) (e : Ending) (w' : World) : Prop := ∃ q cq s cs mid, e = .returned (.agg #[.slice q L.length cq, .slice s A.length cs, .int .i64 wt, .int .i64 en]) ∧ (w.heap.size ≤ mid ∧ mid ≤ w'.heap.size) ∧ RowI w.heap.size mid w' q L ∧ RowI mid w'.heap.size w' s A ∧ Below w.heap.size w w'
def AnsM (code : Int) (L A : List Int) (wt en : Int) (w : World) (e : Ending) (w' : World) : Prop := ∃ q cq s cs mid, e = .returned (.tuple #[.agg #[.slice q L.length cq, .slice s A.length cs, .int .i64 wt, .int .i64 en], .int .i64 code]) ∧ (w.heap.size ≤ mid ∧ mid ≤ w'.heap.size) ∧ RowI w.heap.size mid w' q L ∧ RowI mid w'.heap.size w' s A ∧ Below w.heap.size w w'
/-- The same, the lists anywhere that is new. -/
def AnsW (code : Int) (L A : List Int) (wt en : Int) (w : World) (e : Ending) (w' : World) : Prop := ∃ q cq s cs, e = .returned (.tuple #[.agg #[.slice q L.length cq, .slice s A.length cs, .int .i64 wt, .int .i64 en], .int .i64 code]) ∧ RowI w.heap.size w'.heap.size w' q L ∧ RowI w.heap.size w'.heap.size w' s A ∧ Below w.heap.size w w'
theorem ansM_none {w w' : World} {c : Int} (hb : Below w.heap.size w w') : AnsM c [] [] 0 0 w (.returned (.tuple #[.agg #[.slice none 0 0, .slice none 0 0, .int .i64 0, .int .i64 0], .int .i64 c])) w' :=
  ⟨none, 0, none, 0, w'.heap.size, rfl, ⟨hb.size, Nat.le_refl _⟩, .inl rfl, .inl rfl, hb⟩
theorem ansW_none {w w' : World} {c : Int} (hb : Below w.heap.size w w') : AnsW c [] [] 0 0 w (.returned (.tuple #[.agg #[.slice none 0 0, .slice none 0 0, .int .i64 0, .int .i64 0], .int .i64 c])) w' :=
  ⟨none, 0, none, 0, rfl, .inl rfl, .inl rfl, hb⟩
theorem ro_no {rs : List RHp} {b : Int} {os : List Int} {c : Int} (h : roC rs b os = c) (hc : c ≠ 0) : roL rs b os = [] ∧ roA rs b os = [] ∧ roW rs b os = 0 ∧ roE rs b os = 0 := by
  unfold roL roA roW roE
  rw [h]
  simp [hc]
theorem ro_yes {rs : List RHp} {b : Int} {os : List Int} (h : roC rs b os = 0) : roL rs b os = os ∧ roA rs b os = (trp rs b os).A ∧ roW rs b os = (trp rs b os).wt ∧ roE rs b os = endT (trp rs b os) := by
  unfold roL roA roW roE
  rw [h]
  simp
theorem ro_ways (rs : List RHp) (b : Int) (os : List Int) : (4096 < os.length ∧ roC rs b os = 2) ∨ (¬ 4096 < os.length ∧ rfC rs b ≠ 0 ∧ roC rs b os = rfC rs b) ∨ (¬ 4096 < os.length ∧ rfC rs b = 0 ∧ onB os rs.length = false ∧ roC rs b os = 3) ∨ (¬ 4096 < os.length ∧ rfC rs b = 0 ∧ onB os rs.length = true ∧ roC rs b os = if (trp rs b os).ok = true then 0 else 17) := by
  by_cases h : 4096 < os.length
  · exact .inl ⟨h, by unfold roC; rw [if_pos h]⟩
  by_cases h2 : rfC rs b = 0
  · cases h3 : onB os rs.length
    · exact .inr (.inr (.inl ⟨h, h2, rfl, by unfold roC; rw [if_neg h, if_pos h2, h3]; rfl⟩))
    · exact .inr (.inr (.inr ⟨h, h2, rfl, by unfold roC; rw [if_neg h, if_pos h2, h3]; rfl⟩))
  · exact .inr (.inl ⟨h, h2, by unfold roC; rw [if_neg h, if_neg h2]⟩)
theorem rf_zero {rs : List RHp} {b : Int} (h : rfC rs b = 0) : rs.length ≤ 7 ∧ hpsB rs = true ∧ 0 ≤ b ∧ b ≤ 100000 := by
  rcases rf_ways rs b with ⟨_, e⟩ | ⟨_, _, e⟩ | ⟨_, _, _, e⟩ | ⟨a1, a2, a3, e⟩
  · omega
  · omega
  · omega
  · exact ⟨(st_facts a2).1, (st_facts a2).2, in_facts a3⟩
theorem rowV_own {w w' : World} {g : Option Addr} {cp : Nat} {L : List Int} (h : w'.ownsRow w.heap.size 3 1 (.slice g L.length cp) L.length (inV L)) (hb : Below w.heap.size w w') : Own2 w.heap.size w' g L := by
  have hO : One w w.heap.size (.slice g L.length cp) L w' := ⟨h, hb.size, hb⟩
  exact hO.own2 rfl
set_option maxHeartbeats 4000000 in
theorem route_any (B : Nat) (ga : Option Addr) (gc : Nat) (L : List Int) (ha : Option Addr) (hc : Nat) (M : List Int) (wt lv : Int) (h : RHp) (hh : hpIn h) (hlv : 0 ≤ lv ∧ lv ≤ 1000000000) (hlL : L.length ≤ 1000) (hlM : M.length ≤ 1000) (w : World) (hL : w.ownsRow B 3 1 (.slice ga L.length gc) L.length (inV L)) (hM : w.ownsRow B 3 1 (.slice ha M.length hc) M.length (inV M)) :
    Calls Try.prog 30 #[.agg #[.slice ga L.length gc, .slice ha M.length hc, .int .i64 wt, .int .i64 lv, .int .i64 h.x, .int .i64 h.y, .int .i64 h.fr, .int .i64 h.to, .int .i64 h.sy]] w (AnsS L M wt (lv + farH h zHp) w) := by
  have HK : Hid (∀ W, Calls Try.prog 43 #[.agg #[.slice ga L.length gc, .slice ha M.length hc, .int .i64 wt, .int .i64 lv, .int .i64 h.x, .int .i64 h.y, .int .i64 h.fr, .int .i64 h.to, .int .i64 h.sy]] W fun e w' => e = .returned (.int .i64 (lv + farH h zHp)) ∧ Below W.heap.size W w') := fun W => impBackT_any _ _ wt lv h hh hlv W
  have HC1 : Hid (∀ W, Below w.heap.size w W → Calls Try.prog 52 #[.slice ga L.length gc] W fun e w' => ∃ g cp, e = .returned (.slice g L.length cp) ∧ w'.ownsRow W.heap.size 3 1 (.slice g L.length cp) L.length (inV L) ∧ Below W.heap.size W w') := fun W hW => cloneV_any B _ L (by omega) W (row_of hL (fun x hx => hW.block x (row_lt hL x hx).2))
  have HC2 : Hid (∀ W, Below w.heap.size w W → Calls Try.prog 52 #[.slice ha M.length hc] W fun e w' => ∃ g cp, e = .returned (.slice g M.length cp) ∧ w'.ownsRow W.heap.size 3 1 (.slice g M.length cp) M.length (inV M) ∧ Below W.heap.size W w') := fun W hW => cloneV_any B _ M (by omega) W (row_of hM (fun x hx => hW.block x (row_lt hM x hx).2))
  generalize lv + farH h zHp = en at *
  obtain ⟨W1, hW1⟩ : ∃ W1, W1 = (w.alloc (Obj.cells #[.slice ga L.length gc, .slice ha M.length hc, .int .i64 wt, .int .i64 lv, .int .i64 h.x, .int .i64 h.y, .int .i64 h.fr, .int .i64 h.to, .int .i64 h.sy] 57)).alloc (Obj.cells #[.slice none 0 0, .slice none 0 0, .int .i64 0, .int .i64 0] 28) := ⟨_, rfl⟩
  have HE : Hid (W1 = (w.alloc (Obj.cells #[.slice ga L.length gc, .slice ha M.length hc, .int .i64 wt, .int .i64 lv, .int .i64 h.x, .int .i64 h.y, .int .i64 h.fr, .int .i64 h.to, .int .i64 h.sy] 57)).alloc (Obj.cells #[.slice none 0 0, .slice none 0 0, .int .i64 0, .int .i64 0] 28)) := hW1
  have HL1 : Hid (Below w.heap.size w W1) := by show Below _ _ _; rw [hW1]; exact chain (below_alloc _ _) (below_alloc _ _)
  have HB : Hid (∀ W, Below W1.heap.size W1 W → W.heap[w.heap.size]? = some (.cells #[.slice ga L.length gc, .slice ha M.length hc, .int .i64 wt, .int .i64 lv, .int .i64 h.x, .int .i64 h.y, .int .i64 h.fr, .int .i64 h.to, .int .i64 h.sy] 57 (0, 0)) ∧ W.heap[w.heap.size + 1]? = some (.cells #[.slice none 0 0, .slice none 0 0, .int .i64 0, .int .i64 0] 28 (0, 0))) := fun W hb => by
    rw [hW1] at hb
    have k := heapNew (w.alloc (Obj.cells #[.slice ga L.length gc, .slice ha M.length hc, .int .i64 wt, .int .i64 lv, .int .i64 h.x, .int .i64 h.y, .int .i64 h.fr, .int .i64 h.to, .int .i64 h.sy] 57)) (Obj.cells #[.slice none 0 0, .slice none 0 0, .int .i64 0, .int .i64 0] 28)
    rw [World.size_alloc] at k
    exact ⟨(hb.block _ (by simp only [World.size_alloc]; omega)).trans ((Below.heap_alloc _ _ _ (by simp only [World.size_alloc]; omega)).trans (heapNew _ _)), (hb.block _ (by simp only [World.size_alloc]; omega)).trans k⟩
  have HC : Hid (∀ W, Below W1.heap.size W1 W → W.cell? ⟨w.heap.size, 0, none⟩ = some (.slice ga L.length gc) ∧ W.cell? ⟨w.heap.size, 1, none⟩ = some (.slice ha M.length hc) ∧ W.cell? ⟨w.heap.size, 2, none⟩ = some (.int .i64 wt) ∧ W.cell? ⟨w.heap.size, 3, none⟩ = some (.int .i64 lv) ∧ W.cell? ⟨w.heap.size, 4, none⟩ = some (.int .i64 h.x) ∧ W.cell? ⟨w.heap.size, 5, none⟩ = some (.int .i64 h.y) ∧ W.cell? ⟨w.heap.size, 6, none⟩ = some (.int .i64 h.fr) ∧ W.cell? ⟨w.heap.size, 7, none⟩ = some (.int .i64 h.to) ∧ W.cell? ⟨w.heap.size, 8, none⟩ = some (.int .i64 h.sy)) := fun W hb => ⟨blkCell (HB.out W hb).1 0 _ rfl, blkCell (HB.out W hb).1 1 _ rfl, blkCell (HB.out W hb).1 2 _ rfl, blkCell (HB.out W hb).1 3 _ rfl, blkCell (HB.out W hb).1 4 _ rfl, blkCell (HB.out W hb).1 5 _ rfl, blkCell (HB.out W hb).1 6 _ rfl, blkCell (HB.out W hb).1 7 _ rfl, blkCell (HB.out W hb).1 8 _ rfl⟩
  clear hW1 hL hM hh hlv
  go_enter Try.func30, Try.ntmps30
  go_upto_region 1 with fail
  rw [← HE.out]
  refine wp_region_held_drew (S := fun W' => (∀ o, W'.cell? ⟨w.heap.size, o, none⟩ = W1.cell? ⟨w.heap.size, o, none⟩)) (by kernel_rfl) (fun o => rfl) (fun hH => ?_)
  have HS : Hid (∀ W : World, (∀ o, W.cell? ⟨w.heap.size, o, none⟩ = W1.cell? ⟨w.heap.size, o, none⟩) → W.cell? ⟨w.heap.size, 0, none⟩ = some (.slice ga L.length gc) ∧ W.cell? ⟨w.heap.size, 1, none⟩ = some (.slice ha M.length hc) ∧ W.cell? ⟨w.heap.size, 2, none⟩ = some (.int .i64 wt) ∧ W.cell? ⟨w.heap.size, 3, none⟩ = some (.int .i64 lv) ∧ W.cell? ⟨w.heap.size, 4, none⟩ = some (.int .i64 h.x) ∧ W.cell? ⟨w.heap.size, 5, none⟩ = some (.int .i64 h.y) ∧ W.cell? ⟨w.heap.size, 6, none⟩ = some (.int .i64 h.fr) ∧ W.cell? ⟨w.heap.size, 7, none⟩ = some (.int .i64 h.to) ∧ W.cell? ⟨w.heap.size, 8, none⟩ = some (.int .i64 h.sy)) := fun W hW => by
    rw [hW, hW, hW, hW, hW, hW, hW, hW, hW]
    exact HC.out W1 (Below.refl _ _)
  have HS2 : Hid (∀ W, Below W1.heap.size W1 W → ∀ o, W.cell? ⟨w.heap.size, o, none⟩ = W1.cell? ⟨w.heap.size, o, none⟩) := fun W hb o => hb.cell (p := ⟨w.heap.size, o, none⟩) (blkLt (HB.out W1 (Below.refl _ _)).1)
  refine wpAnyH_take (i := 0) (v := .pointer (some ⟨w.heap.size, 0, none⟩)) rfl (by kernel_rfl) (by kernel_rfl) (by kernel_rfl) (fun _ _ _ h => h) (Or.inl ⟨by rfl, fun w hSw => by clear hSw; go_simp⟩) hH ?_
  refine wpAnyH_take (i := 1) (v := .slice ga L.length gc) rfl (by kernel_rfl) (by kernel_rfl) (by kernel_rfl) (fun _ _ _ h => h) (Or.inl ⟨by rfl, fun w hSw => by obtain ⟨f0, f1, f2, f3, f4, f5, f6, f7, f8⟩ := HS.out w hSw; clear hSw; go_simp⟩) hH ?_
  try simp only [Act.put, List.setIfInBounds_toArray, List.set_cons_zero, List.set_cons_succ, List.getElem_toArray, List.getElem_cons_succ, List.getElem_cons_zero]
  refine wpAnyH_take (i := 3) (v := .pointer (some ⟨w.heap.size, 1, none⟩)) rfl (by kernel_rfl) (by kernel_rfl) (by kernel_rfl) (fun _ _ _ h => h) (Or.inl ⟨by rfl, fun w hSw => by clear hSw; go_simp⟩) hH ?_
  try simp only [Act.put, List.setIfInBounds_toArray, List.set_cons_zero, List.set_cons_succ, List.getElem_toArray, List.getElem_cons_succ, List.getElem_cons_zero]
  refine wpAnyH_take (i := 4) (v := .slice ha M.length hc) rfl (by kernel_rfl) (by kernel_rfl) (by kernel_rfl) (fun _ _ _ h => h) (Or.inl ⟨by rfl, fun w hSw => by obtain ⟨f0, f1, f2, f3, f4, f5, f6, f7, f8⟩ := HS.out w hSw; clear hSw; go_simp⟩) hH ?_
  try simp only [Act.put, List.setIfInBounds_toArray, List.set_cons_zero, List.set_cons_succ, List.getElem_toArray, List.getElem_cons_succ, List.getElem_cons_zero]
  refine wpAnyH_take (i := 6) (v := .pointer (some ⟨w.heap.size, 2, none⟩)) rfl (by kernel_rfl) (by kernel_rfl) (by kernel_rfl) (fun _ _ _ h => h) (Or.inl ⟨by rfl, fun w hSw => by clear hSw; go_simp⟩) hH ?_
  try simp only [Act.put, List.setIfInBounds_toArray, List.set_cons_zero, List.set_cons_succ, List.getElem_toArray, List.getElem_cons_succ, List.getElem_cons_zero]
  refine wpAnyH_take (i := 7) (v := .int .i64 wt) rfl (by kernel_rfl) (by kernel_rfl) (by kernel_rfl) (fun _ _ _ h => h) (Or.inl ⟨by rfl, fun w hSw => by obtain ⟨f0, f1, f2, f3, f4, f5, f6, f7, f8⟩ := HS.out w hSw; clear hSw; go_simp⟩) hH ?_
  try simp only [Act.put, List.setIfInBounds_toArray, List.set_cons_zero, List.set_cons_succ, List.getElem_toArray, List.getElem_cons_succ, List.getElem_cons_zero]
  refine wpAnyH_take (i := 8) (v := .agg #[.slice ga L.length gc, .slice ha M.length hc, .int .i64 wt, .int .i64 lv, .int .i64 h.x, .int .i64 h.y, .int .i64 h.fr, .int .i64 h.to, .int .i64 h.sy]) rfl (by kernel_rfl) (by kernel_rfl) (by kernel_rfl) (fun _ _ _ h => h) (Or.inl ⟨by rfl, fun w hSw => by obtain ⟨f0, f1, f2, f3, f4, f5, f6, f7, f8⟩ := HS.out w hSw; clear hSw; go_simp⟩) hH ?_
  try simp only [Act.put, List.setIfInBounds_toArray, List.set_cons_zero, List.set_cons_succ, List.getElem_toArray, List.getElem_cons_succ, List.getElem_cons_zero]
  have K0 : Hid (Below W1.heap.size W1 W1.drew) := below_drew _
  generalize W1.drew = V0 at *
  refine wpAnyH_ready (rs := [2]) (by kernel_rfl) (by simp) ?_
  refine AllReadyH.cons rfl (fun K hK => ?_) AllReadyH.nil
  go_simp
  go_at_call 52
  refine (HC1.out V0 (chain HL1.out K0.out)).mono ?_
  rintro e w2 ⟨g2, c2, rfl, hr2, hb2⟩
  have K2 : Hid (Below W1.heap.size W1 w2) := chain K0.out hb2
  have R2 : Hid (RowI W1.heap.size w2.heap.size w2 g2 L) := (rowV_own (w := V0) hr2 hb2).rowI.wide K0.out.size (Nat.le_refl _) (Nat.le_refl _)
  clear hr2 hb2
  refine hK.out _ _ (HS2.out w2 K2.out) (fun _ => ?_)
  clear hK K
  try simp only [Act.put, List.setIfInBounds_toArray, List.set_cons_zero, List.set_cons_succ, List.getElem_toArray, List.getElem_cons_succ, List.getElem_cons_zero]
  refine wpAnyH_ready (rs := [5]) (by kernel_rfl) (by simp) ?_
  refine AllReadyH.cons rfl (fun K hK => ?_) AllReadyH.nil
  go_simp
  go_at_call 52
  refine (HC2.out w2 (chain HL1.out K2.out)).mono ?_
  rintro e w3 ⟨g3, c3, rfl, hr3, hb3⟩
  have K3 : Hid (Below W1.heap.size W1 w3 ∧ w2.heap.size ≤ w3.heap.size) := ⟨chain K2.out hb3, hb3.size⟩
  have R3 : Hid (RowI W1.heap.size w2.heap.size w3 g2 L ∧ RowI w2.heap.size w3.heap.size w3 g3 M) := ⟨R2.out.later hb3, (rowV_own (w := w2) hr3 hb3).rowI⟩
  clear hr3 hb3 R2
  refine hK.out _ _ (HS2.out w3 K3.out.1) (fun _ => ?_)
  clear hK K
  try simp only [Act.put, List.setIfInBounds_toArray, List.set_cons_zero, List.set_cons_succ, List.getElem_toArray, List.getElem_cons_succ, List.getElem_cons_zero]
  refine wpAnyH_ready (rs := [9]) (by kernel_rfl) (by simp) ?_
  refine AllReadyH.cons rfl (fun K hK => ?_) AllReadyH.nil
  go_simp
  go_at_call 43
  refine (HK.out w3).mono ?_
  rintro e w4 ⟨rfl, hb4⟩
  have K4 : Hid (Below W1.heap.size W1 w4 ∧ w2.heap.size ≤ w3.heap.size ∧ w3.heap.size ≤ w4.heap.size) := ⟨chain K3.out.1 hb4, K3.out.2, hb4.size⟩
  have R4 : Hid (RowI W1.heap.size w2.heap.size w4 g2 L ∧ RowI w2.heap.size w4.heap.size w4 g3 M) := ⟨R3.out.1.later hb4, (R3.out.2.later hb4).wide (Nat.le_refl _) hb4.size (Nat.le_refl _)⟩
  clear hb4 R3
  refine hK.out _ _ (HS2.out w4 K4.out.1) (fun _ => ?_)
  clear hK K
  try simp only [Act.put, List.setIfInBounds_toArray, List.set_cons_zero, List.set_cons_succ, List.getElem_toArray, List.getElem_cons_succ, List.getElem_cons_zero]
  refine wpAnyH_take (i := 10) (v := .agg #[.slice g2 L.length c2, .slice g3 M.length c3, .int .i64 wt, .int .i64 en]) rfl (by kernel_rfl) (by kernel_rfl) (by kernel_rfl) (fun _ _ _ h => h) (Or.inl ⟨by rfl, fun w hSw => by clear hSw; go_simp⟩) (HS2.out w4 K4.out.1) ?_
  try simp only [Act.put, List.setIfInBounds_toArray, List.set_cons_zero, List.set_cons_succ, List.getElem_toArray, List.getElem_cons_succ, List.getElem_cons_zero]
  have hrb := (HB.out w4 K4.out.1).2
  have q0 := blkCell hrb 0 _ rfl
  have q1 := blkCell hrb 1 _ rfl
  have q2 := blkCell hrb 2 _ rfl
  have q3 := blkCell hrb 3 _ rfl
  have z0 := blkFree hrb 0
  have z1 := blkFree hrb 1
  have z2 := blkFree hrb 2
  have z3 := blkFree hrb 3
  obtain ⟨W5, hW5⟩ : ∃ W5, W5 = (((w4.setCell ⟨w.heap.size + 1, 0, none⟩ (.slice g2 L.length c2)).setCell ⟨w.heap.size + 1, 1, none⟩ (.slice g3 M.length c3)).setCell ⟨w.heap.size + 1, 2, none⟩ (.int .i64 wt)).setCell ⟨w.heap.size + 1, 3, none⟩ (.int .i64 en) := ⟨_, rfl⟩
  have h5 := heap_setCell_same _ _ 3 _ _ (.int .i64 en) (heap_setCell_same _ _ 2 _ _ (.int .i64 wt) (heap_setCell_same _ _ 1 _ _ (.slice g3 M.length c3) (heap_setCell_same _ _ 0 _ _ (.slice g2 L.length c2) hrb)))
  rw [← hW5] at h5
  simp only [List.setIfInBounds_toArray, List.set_cons_zero, List.set_cons_succ] at h5
  have H5 : Hid (W5 = (((w4.setCell ⟨w.heap.size + 1, 0, none⟩ (.slice g2 L.length c2)).setCell ⟨w.heap.size + 1, 1, none⟩ (.slice g3 M.length c3)).setCell ⟨w.heap.size + 1, 2, none⟩ (.int .i64 wt)).setCell ⟨w.heap.size + 1, 3, none⟩ (.int .i64 en) ∧ W5.heap[w.heap.size + 1]? = some (.cells #[.slice g2 L.length c2, .slice g3 M.length c3, .int .i64 wt, .int .i64 en] 28 (0, 0))) := ⟨hW5, h5⟩
  clear hW5 h5 hrb
  refine wpAnyH_ready (rs := [11]) (by kernel_rfl) (by simp) ?_
  refine AllReadyH.cons rfl (fun K hK => ?_) AllReadyH.nil
  go_simp
  rw [← H5.out.1]
  clear q0 q1 q2 q3 z0 z1 z2 z3
  have HS5 : Hid (∀ o, W5.cell? ⟨w.heap.size, o, none⟩ = W1.cell? ⟨w.heap.size, o, none⟩) := by
    show ∀ o, _
    intro o
    rw [H5.out.1, World.cell?_setCell_far _ _ _ _ (show w.heap.size + 1 ≠ w.heap.size by omega), World.cell?_setCell_far _ _ _ _ (show w.heap.size + 1 ≠ w.heap.size by omega), World.cell?_setCell_far _ _ _ _ (show w.heap.size + 1 ≠ w.heap.size by omega), World.cell?_setCell_far _ _ _ _ (show w.heap.size + 1 ≠ w.heap.size by omega)]
    exact HS2.out w4 K4.out.1 o
  refine hK.out _ _ HS5.out (fun _ => ?_)
  clear hK K
  try simp only [Act.put, List.setIfInBounds_toArray, List.set_cons_zero, List.set_cons_succ, List.getElem_toArray, List.getElem_cons_succ, List.getElem_cons_zero]
  refine wpAnyH_done (by kernel_rfl) ?_ _
  clear hH HS5
  have z0 := blkCell H5.out.2 0 _ rfl
  have z1 := blkCell H5.out.2 1 _ rfl
  have z2 := blkCell H5.out.2 2 _ rfl
  have z3 := blkCell H5.out.2 3 _ rfl
  simp only [List.getElem_toArray, List.getElem_cons_zero, List.getElem_cons_succ] at z0 z1 z2 z3
  go_wp2
  refine bodyPost_ret (v := .agg #[.slice g2 L.length c2, .slice g3 M.length c3, .int .i64 wt, .int .i64 en]) (by simp [results, Try.results30, go_sem, z0, z1, z2, z3]) rfl ?_
  have hz1 : w.heap.size + 1 < W1.heap.size := by rw [HE.out]; simp only [World.size_alloc]; omega
  have hz2 : W1.heap.size ≤ w2.heap.size := K2.out.size
  have hz3 := K4.out.2
  have e5 : W5.heap.size = w4.heap.size := by rw [H5.out.1]; simp only [World.size_setCell]
  have hlow : Below w.heap.size w W5 := by
    rw [H5.out.1]
    exact ((((chain HL1.out K4.out.1).setCell (by dsimp only; omega) _).setCell (by dsimp only; omega) _).setCell (by dsimp only; omega) _).setCell (by dsimp only; omega) _
  refine ⟨g2, c2, g3, c3, w2.heap.size, rfl, ⟨by omega, by omega⟩, ?_, ?_, hlow⟩
  · have hc : w.heap.size + 1 < W1.heap.size := hz1
    refine RowI.wide (lo := W1.heap.size) (hi := w2.heap.size) ?_ HL1.out.size (Nat.le_refl _) (by omega)
    rw [H5.out.1]
    exact (((R4.out.1.set hc _ _).set hc _ _).set hc _ _).set hc _ _
  · have k := R4.out.2
    rw [e5]
    have hc : w.heap.size + 1 < w2.heap.size := by omega
    rw [H5.out.1]
    exact (((k.set hc _ _).set hc _ _).set hc _ _).set hc _ _
end Go.Proofs.Ytoogphkojofkfaa

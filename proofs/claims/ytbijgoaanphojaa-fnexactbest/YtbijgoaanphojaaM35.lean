/-
  Texts of this claim laid together: BsG.
-/
import Derived.Test.YtbijgoaanphojaaM28
import Derived.Test.YtbijgoaanphojaaM29
import Derived.Test.YtbijgoaanphojaaM31
import Derived.Test.YtbijgoaanphojaaM32
import Derived.Test.YtbijgoaanphojaaM34
/-
  The specification's uses, where the first unit is one of the deal's.
-/
namespace Go.Proofs.Ytbijgoaanphojaa
open Go.ChangeShapes Go.WideShapes Go.ChangeAt Go.RowKit Go.Deep
set_option linter.unusedVariables false

/-- The first k of these lists lie in blocks from B on. -/
def HiB (B : Nat) (E : List Value) (k : Nat) : Prop := ∀ i, i < k → ∀ h n c, E[i]? = some (.slice h n c) → ∀ b o, h = some ⟨b, o, none⟩ → B ≤ b
theorem HiB.put {B k m vc : Nat} {va : Option Addr} {E : List Value} (h : HiB B E k) (hv : ∀ b o, va = some ⟨b, o, none⟩ → B ≤ b) : HiB B (E.set k (.slice va m vc)) (k + 1) := fun i hi h' n c he b o hb => by
  by_cases e : i = k
  · subst e
    rw [List.getElem?_set_self'] at he
    cases hE : E[i]? with
    | none => rw [hE] at he; simp at he
    | some y =>
      rw [hE] at he
      simp at he
      rw [← he.1] at hb
      exact hv b o hb
  · rw [List.getElem?_set_ne (fun e' => e e'.symm)] at he
    exact h i (by omega) h' n c he b o hb
theorem row_hi {W : World} {B n vc : Nat} {va : Option Addr} {xs : List Value} (h : W.ownsRow B 3 1 (.slice va n vc) n xs) : ∀ b o, va = some ⟨b, o, none⟩ → B ≤ b := fun b o e => by
  rcases h.2 with ⟨q, _⟩ | ⟨g, cap, cur, q, hB, _⟩
  · simp only [Value.slice.injEq] at q; rw [q.1] at e; cases e
  · simp only [Value.slice.injEq] at q
    rw [q.1] at e
    have := Option.some.inj e
    simp at this
    omega
def mixL (x : Nat) (R : List (List Nat)) (k : Nat) : List (List Nat) := (R.take k).map (x :: ·) ++ R.drop k
theorem mixL_len (x : Nat) (R : List (List Nat)) (k : Nat) (h : k ≤ R.length) : (mixL x R k).length = R.length := by
  unfold mixL
  rw [List.length_append, List.length_map, List.length_take, List.length_drop]; omega
theorem mixL_get (x : Nat) (R : List (List Nat)) (k : Nat) (h : k < R.length) : (mixL x R k).getD k [] = R.getD k [] := by
  unfold mixL
  rw [List.getD_eq_getElem?_getD, List.getElem?_append_right (by simp; omega), List.length_map, List.length_take, Nat.min_eq_left (by omega), Nat.sub_self, List.getElem?_drop, Nat.add_zero, ← List.getD_eq_getElem?_getD]
theorem mixL_set (x : Nat) (R : List (List Nat)) (k : Nat) (h : k < R.length) : (mixL x R k).set k (x :: R.getD k []) = mixL x R (k + 1) := by
  unfold mixL
  rw [List.set_append_right _ _ (by simp; omega), List.length_map, List.length_take, Nat.min_eq_left (by omega), Nat.sub_self, List.drop_eq_getElem_cons h, List.set_cons_zero, map_take_nx x R k h, List.append_assoc]
  simp [List.getD_eq_getElem?_getD, h]
theorem zN_nV (l : List Nat) : (zN l).map (Value.int .i64) = nV l := by simp [zN, nV, List.map_map]
theorem ri_news {W : World} {a : Option Addr} {xs : List Nat} (h : RI W a xs) : 0 < xs.length → ∃ ad, a = some ad ∧ ∀ j u, (nV xs)[j]? = some u → W.cell? (ad.add j) = some u := fun h0 => by
  rcases h with h | ⟨b, off, cur, ha, hb, hc⟩
  · rw [h] at h0; simp at h0
  · refine ⟨_, ha, fun j u hu => ?_⟩
    have hj : j < xs.length := by have := (List.getElem?_eq_some_iff.1 hu).1; rwa [nV_len] at this
    rw [nV_get xs j hj] at hu
    rw [Go.WideShapes.add_plain, blkCell hb _ _ (hc j hj)]
    exact hu
theorem OutS.base {w wr W : World} {v : Value} {L : List (List Nat)} {E : List Value} (h : OutS wr v L E W) (hb : Below w.heap.size w wr) : OutS w v L E W := by
  refine ⟨⟨h.own.1, ?_⟩, h.fit, chain hb h.low, Nat.le_trans hb.size h.top⟩
  rcases h.own.2 with h2 | ⟨g, cap, cur, e, hB, r⟩
  · exact .inl h2
  · exact .inr ⟨g, cap, cur, e, Nat.le_trans hb.size hB, r⟩
theorem OutS.put {w W : World} {g cp k vc n m : Nat} {va : Option Addr} {L : List (List Nat)} {E : List Value} {s : List Nat} (h : OutS w (.slice (some ⟨g, 0, none⟩) n cp) L E W) (hn : n = L.length) (hk : k < L.length) (hr : RI W va s) (hm : m = s.length) (hs : s.length ≤ vc) :
    OutS w (.slice (some ⟨g, 0, none⟩) n cp) (L.set k s) (E.set k (.slice va m vc)) (W.setCell ⟨g, k, none⟩ (.slice va m vc)) := by
  subst hn hm
  have hg := row_lt h.own g rfl
  obtain ⟨cur0, hcur0⟩ := row_typ h.own (q := g) rfl
  have hkp : ∀ a xs, RI W a xs → RI (W.setCell ⟨g, k, none⟩ (.slice va s.length vc)) a xs := fun a xs h' => h'.of (fun q cur hq => Below.heap_setCell _ _ _ _ (fun e => by
    have e' : q = g := e
    rw [e', hcur0] at hq
    simp at hq))
  have hl : (L.set k s).length = L.length := List.length_set
  refine ⟨by rw [hl]; exact rowPut h.own k (by omega) _, ⟨by rw [List.length_set, hl]; exact h.fit.1, fun i hi => ?_⟩, h.low.setCell hg.1 _, by rw [World.size_setCell]; exact h.top⟩
  rw [hl] at hi
  by_cases e : i = k
  · subst e
    rw [show (L.set i s).getD i [] = s by simp [List.getD_eq_getElem?_getD, hi]]
    exact ⟨va, vc, by rw [List.getElem?_set]; simp [h.fit.1, hi], hs, hkp _ _ hr⟩
  · obtain ⟨g', c', h1, h2, h3⟩ := h.fit.2 i hi
    rw [show (L.set k s).getD i [] = L.getD i [] by simp only [List.getD_eq_getElem?_getD]; rw [List.getElem?_set_ne (fun e' => e e'.symm)]]
    exact ⟨g', c', by rw [List.getElem?_set_ne (fun e' => e e'.symm)]; exact h1, h2, hkp _ _ h3⟩
theorem sets_step {w wq w6 : World} {gb cp n k x vc : Nat} {va : Option Addr} {L : List (List Nat)} {E : List Value} {s0 : List Nat} {u : Value} (hO : OutS w (.slice (some ⟨gb, 0, none⟩) n cp) L E wq) (hn : L.length = n) (hk : k < n) (hE : E[k]? = some u)
    (hB : (wq.alloc (Obj.cells #[.int .i64 (x : Int)] 3)).ownsRow wq.heap.size 3 1 (.slice (some ⟨wq.heap.size, 0, none⟩) 1 1) 1 [.int .i64 (x : Int)])
    (hown : w6.ownsRow wq.heap.size 3 1 (.slice va (1 + s0.length) vc) (1 + s0.length) ([.int .i64 (x : Int)] ++ nV s0)) (hgr : (wq.alloc (Obj.cells #[.int .i64 (x : Int)] 3)).grownBy w6 (Value.ownBlock (.slice (some ⟨wq.heap.size, 0, none⟩) 1 1))) :
    OutS w (.slice (some ⟨gb, 0, none⟩) n cp) L E w6 ∧ (RI w6 va (x :: s0) ∧ (x :: s0).length ≤ vc) ∧ w6.cell? ⟨gb, k, none⟩ = some u ∧ w6.frozen? ⟨gb, k, none⟩ = false ∧ gb < w6.heap.size ∧ (∀ b o, va = some ⟨b, o, none⟩ → w.heap.size ≤ b) := by
  have hle : wq.heap.size ≤ (wq.alloc (Obj.cells #[.int .i64 (x : Int)] 3)).heap.size := by simp
  have hb6 : Below wq.heap.size wq w6 := (below_alloc _ _).grown hgr hle (fun q hq => (row_lt hB q hq).1)
  have h6 := hO.later hb6
  have hri := RI.ofRow (xs := x :: s0) hown (by rw [List.length_cons, Nat.add_comm])
  have hown6 : w6.ownsRow w.heap.size 34 1 (.slice (some ⟨gb, 0, none⟩) n cp) n E := by have := h6.own; rwa [hn] at this
  exact ⟨h6, ⟨hri.1, by rw [List.length_cons, Nat.add_comm]; exact hri.2⟩, (hown6.cellAt k (by omega)).trans hE, hown6.frozenAt k, (row_lt hown6 gb rfl).2, fun b o e => Nat.le_trans hO.top (row_hi hown b o e)⟩
theorem wrapJ (j : Nat) (h : j < 64) : IntKind.u64.wrap (j : Int) = (j : Int) := wrapsU _ (by omega) (by omega)
theorem shr_run (mask j : Nat) (w : World) (h : j < 64) : (binOp BinOp.shr 3 (.int .i64 (mask : Int)) (.int .u64 (j : Int))).run Try.prog w = .ok (.int .i64 ((mask : Int) / 2 ^ j)) w := by
  go_simp
set_option maxHeartbeats 4000000 in
set_option maxRecDepth 4000 in
theorem uses_yes (sb : Nat) (us : List RUn) (ua : Option Addr) (uc : Nat) (ds : List CDl) (da : Option Addr) (dc mb : Nat) (k x mask : Nat) (hk : k < ds.length) (hx : x < us.length) (hq : ∀ r ∈ ds, DlOK r) (w : World) (hS : SvIs w sb ua us.length uc da ds.length dc mb) (hr : ReadsUn w.heap.size w ua us) (ks : ReadsDl w.heap.size w da ds) (hu8 : us.length ≤ 8) (hm : mask < 256) (hn4 : 1 ≤ (ds.getD k zDl).nd ∧ (ds.getD k zDl).nd ≤ 4) (hf : fitU us (ds.getD k zDl) x = true) :
    Calls Try.prog 39 #[.pointer (some ⟨sb, 0, none⟩), .int .i64 (k : Int), .int .i64 (x : Int), .int .i64 (mask : Int)] w fun e w' => ∃ g cp E, e = .returned (.slice g ((setsR ((ds.getD k zDl).nd.toNat - 1) (freeX us (ds.getD k zDl) x mask us.length)).map (x :: ·)).length cp) ∧ OutS w (.slice g ((setsR ((ds.getD k zDl).nd.toNat - 1) (freeX us (ds.getD k zDl) x mask us.length)).map (x :: ·)).length cp) ((setsR ((ds.getD k zDl).nd.toNat - 1) (freeX us (ds.getD k zDl) x mask us.length)).map (x :: ·)) E w' ∧ HiB w.heap.size E ((setsR ((ds.getD k zDl).nd.toNat - 1) (freeX us (ds.getD k zDl) x mask us.length)).map (x :: ·)).length := by
  rcases hr with h | ⟨ub, uo, rfl, hB, hi⟩
  · rw [h] at hx; simp at hx
  rcases ks with h | ⟨b, o, rfl, hB2, hi2⟩
  · rw [h] at hk; simp at hk
  obtain ⟨dh, dcp, k0, k1, k2⟩ := hi2 k hk
  obtain ⟨d0, d1, d2, d3, d4, d5⟩ := k0
  have x0 : w.cell? ⟨sb, 0, none⟩ = some (.slice (some ⟨ub, uo, none⟩) us.length uc) := blkCell hS 0 _ rfl
  have x1 : w.cell? ⟨sb, 1, none⟩ = some (.slice (some ⟨b, o, none⟩) ds.length dc) := blkCell hS 1 _ rfl
  have u0 := (hi x hx).1
  have hx' : (x : Int) < (us.length : Int) := by omega
  have hk' : (k : Int) < (ds.length : Int) := by omega
  have hdk : DlOK (ds.getD k zDl) := getDl hq hk
  have HU : Hid (∀ j, j < us.length → w.cell? ⟨ub, uo + j * 2, none⟩ = some (.string (us.getD j zUn).art)) := fun j hj => (hi j hj).1
  have HF : Hid (fitU us (ds.getD k zDl) x = true) := hf
  unfold fitU at hf
  generalize (us.getD x zUn).art = art at *
  generalize ds.getD k zDl = d at *
  obtain ⟨W1, hW1⟩ : ∃ W1, W1 = w.alloc (Obj.cells #[.string d.nm, .int .i64 d.kd, .slice dh d.arts.length dcp, .int .i64 d.nd, .int .i64 d.vl, .bool d.on] 39) := ⟨_, rfl⟩
  have HW1 : Hid (W1 = w.alloc (Obj.cells #[.string d.nm, .int .i64 d.kd, .slice dh d.arts.length dcp, .int .i64 d.nd, .int .i64 d.vl, .bool d.on] 39)) := hW1
  have hb1 : Below w.heap.size w W1 := by rw [hW1]; exact below_alloc _ _
  have hn1 : W1.heap[w.heap.size]? = some (.cells #[.string d.nm, .int .i64 d.kd, .slice dh d.arts.length dcp, .int .i64 d.nd, .int .i64 d.vl, .bool d.on] 39 (0, 0)) := by rw [hW1]; exact heapNew _ _
  have HB1 : Hid (Below w.heap.size w W1) := hb1
  have HQ : Hid (∀ W', Below W1.heap.size W1 W' → W'.cell? ⟨w.heap.size, 2, none⟩ = some (.slice dh d.arts.length dcp) ∧ W'.cell? ⟨sb, 0, none⟩ = some (.slice (some ⟨ub, uo, none⟩) us.length uc) ∧ W'.cell? ⟨ub, uo + x * 2, none⟩ = some (.string art) ∧ Calls Try.prog 57 #[.slice dh d.arts.length dcp, .string art] W' fun e w' => e = .returned (.bool (hasB d.arts art)) ∧ w' = W') := fun W' hW => by
    have hb := chain hb1 hW
    refine ⟨blkCell ((hW.block _ (blkLt hn1)).trans hn1) 2 _ rfl, (hb.cell (p := ⟨sb, 0, none⟩) (blkLt hS)).trans x0, (hb.cell (p := ⟨ub, uo + x * 2, none⟩) hB).trans u0, ?_⟩
    exact has_any dh dcp d.arts (Nat.le_trans hdk.2.1 (by omega)) art W' ((k2.below hb).mono hb.size)
  have HQ2 : Hid (∀ W', Below W1.heap.size W1 W' → ∀ j, j < us.length → W'.cell? ⟨w.heap.size, 2, none⟩ = some (.slice dh d.arts.length dcp) ∧ W'.cell? ⟨sb, 0, none⟩ = some (.slice (some ⟨ub, uo, none⟩) us.length uc) ∧ W'.cell? ⟨ub, uo + j * 2, none⟩ = some (.string (us.getD j zUn).art) ∧ Calls Try.prog 57 #[.slice dh d.arts.length dcp, .string (us.getD j zUn).art] W' fun e w' => e = .returned (.bool (fitU us d j)) ∧ w' = W') := fun W' hW j hj => by
    have hb := chain hb1 hW
    refine ⟨blkCell ((hW.block _ (blkLt hn1)).trans hn1) 2 _ rfl, (hb.cell (p := ⟨sb, 0, none⟩) (blkLt hS)).trans x0, (hb.cell (p := ⟨ub, uo + j * 2, none⟩) hB).trans (HU.out j hj), ?_⟩
    exact has_any dh dcp d.arts (Nat.le_trans hdk.2.1 (by omega)) (us.getD j zUn).art W' ((k2.below hb).mono hb.size)
  have HNd : Hid (∀ W', Below W1.heap.size W1 W' → W'.cell? ⟨w.heap.size, 3, none⟩ = some (.int .i64 d.nd)) := fun W' hW => blkCell ((hW.block _ (blkLt hn1)).trans hn1) 3 _ rfl
  rw [hf] at HQ
  clear hi hi2 k1 k2 hS hb1 hn1 hW1 hdk hf
  go_enter Try.func39, Try.ntmps39
  go_wp2_with fail
  rw [← HW1.out]
  clear HW1 d0 d1 d2 d3 d4 d5 x0 x1 u0
  refine wp_region_held_drew (S := fun W' => Below W1.heap.size W1 W') (by kernel_rfl) (below_drew _) (fun hH => ?_)
  refine wpAnyH_take (i := 0) (v := .pointer (some ⟨w.heap.size, 2, none⟩)) rfl (by kernel_rfl) (by kernel_rfl) (by kernel_rfl) (fun _ _ _ h => h) (Or.inl ⟨by rfl, fun w hSw => by go_simp⟩) hH ?_
  refine wpAnyH_take (i := 1) (v := .slice dh d.arts.length dcp) rfl (by kernel_rfl) (by kernel_rfl) (by kernel_rfl) (fun _ _ _ h => h) (Or.inl ⟨by rfl, fun w hSw => by have f0 := (HQ.out _ hSw).1; go_simp⟩) hH ?_
  try simp only [Act.put, List.setIfInBounds_toArray, List.set_cons_zero, List.set_cons_succ, List.getElem_toArray, List.getElem_cons_succ, List.getElem_cons_zero]
  refine wpAnyH_take (i := 2) (v := .pointer (some ⟨sb, 0, none⟩)) rfl (by kernel_rfl) (by kernel_rfl) (by kernel_rfl) (fun _ _ _ h => h) (Or.inl ⟨by rfl, fun w hSw => by go_simp⟩) hH ?_
  try simp only [Act.put, List.setIfInBounds_toArray, List.set_cons_zero, List.set_cons_succ, List.getElem_toArray, List.getElem_cons_succ, List.getElem_cons_zero]
  refine wpAnyH_take (i := 3) (v := .pointer (some ⟨sb, 0, none⟩)) rfl (by kernel_rfl) (by kernel_rfl) (by kernel_rfl) (fun _ _ _ h => h) (Or.inl ⟨by rfl, fun w hSw => by go_simp⟩) hH ?_
  try simp only [Act.put, List.setIfInBounds_toArray, List.set_cons_zero, List.set_cons_succ, List.getElem_toArray, List.getElem_cons_succ, List.getElem_cons_zero]
  refine wpAnyH_take (i := 4) (v := .pointer (some ⟨sb, 0, none⟩)) rfl (by kernel_rfl) (by kernel_rfl) (by kernel_rfl) (fun _ _ _ h => h) (Or.inl ⟨by rfl, fun w hSw => by go_simp⟩) hH ?_
  try simp only [Act.put, List.setIfInBounds_toArray, List.set_cons_zero, List.set_cons_succ, List.getElem_toArray, List.getElem_cons_succ, List.getElem_cons_zero]
  refine wpAnyH_take (i := 5) (v := .slice (some ⟨ub, uo, none⟩) us.length uc) rfl (by kernel_rfl) (by kernel_rfl) (by kernel_rfl) (fun _ _ _ h => h) (Or.inl ⟨by rfl, fun w hSw => by have f0 := (HQ.out _ hSw).2.1; go_simp⟩) hH ?_
  try simp only [Act.put, List.setIfInBounds_toArray, List.set_cons_zero, List.set_cons_succ, List.getElem_toArray, List.getElem_cons_succ, List.getElem_cons_zero]
  refine wpAnyH_take (i := 6) (v := .int .i64 (x : Int)) rfl (by kernel_rfl) (by kernel_rfl) (by kernel_rfl) (fun _ _ _ h => h) (Or.inl ⟨by rfl, fun w hSw => by go_simp⟩) hH ?_
  try simp only [Act.put, List.setIfInBounds_toArray, List.set_cons_zero, List.set_cons_succ, List.getElem_toArray, List.getElem_cons_succ, List.getElem_cons_zero]
  refine wpAnyH_take (i := 7) (v := .pointer (some ⟨ub, uo + x * 2, none⟩)) rfl (by kernel_rfl) (by kernel_rfl) (by kernel_rfl) (fun _ _ _ h => h) (Or.inl ⟨by rfl, fun w hSw => by go_simp⟩) hH ?_
  try simp only [Act.put, List.setIfInBounds_toArray, List.set_cons_zero, List.set_cons_succ, List.getElem_toArray, List.getElem_cons_succ, List.getElem_cons_zero]
  refine wpAnyH_take (i := 8) (v := .pointer (some ⟨ub, uo + x * 2, none⟩)) rfl (by kernel_rfl) (by kernel_rfl) (by kernel_rfl) (fun _ _ _ h => h) (Or.inl ⟨by rfl, fun w hSw => by go_simp⟩) hH ?_
  try simp only [Act.put, List.setIfInBounds_toArray, List.set_cons_zero, List.set_cons_succ, List.getElem_toArray, List.getElem_cons_succ, List.getElem_cons_zero]
  refine wpAnyH_take (i := 9) (v := .string art) rfl (by kernel_rfl) (by kernel_rfl) (by kernel_rfl) (fun _ _ _ h => h) (Or.inl ⟨by rfl, fun w hSw => by have f0 := (HQ.out _ hSw).2.2.1; go_simp⟩) hH ?_
  try simp only [Act.put, List.setIfInBounds_toArray, List.set_cons_zero, List.set_cons_succ, List.getElem_toArray, List.getElem_cons_succ, List.getElem_cons_zero]
  refine wpAnyH_ready (rs := [10]) (by kernel_rfl) (by simp) ?_
  refine AllReadyH.cons rfl (fun K hK => ?_) AllReadyH.nil
  go_simp
  go_at_call 57
  refine (HQ.out _ hH).2.2.2.mono ?_
  rintro e w2 ⟨rfl, rfl⟩
  refine hK.out _ _ hH (fun _ => ?_)
  clear hK K
  try simp only [Act.put, List.setIfInBounds_toArray, List.set_cons_zero, List.set_cons_succ, List.getElem_toArray, List.getElem_cons_succ, List.getElem_cons_zero]
  refine wpAnyH_take (i := 11) (v := .bool false) rfl (by kernel_rfl) (by kernel_rfl) (by kernel_rfl) (fun _ _ _ h => h) (Or.inl ⟨by rfl, fun w hSw => by go_simp⟩) hH ?_
  try simp only [Act.put, List.setIfInBounds_toArray, List.set_cons_zero, List.set_cons_succ, List.getElem_toArray, List.getElem_cons_succ, List.getElem_cons_zero]
  refine wpAnyH_done (by kernel_rfl) ?_ _
  have HO0 : Hid (One W1 W1.heap.size (.slice (some ⟨W1.heap.size, 0, none⟩) 0 0) [] (W1.alloc (Obj.cells #[] 3)).drew) := (One.start W1 W1.heap.size rfl).later (below_drew _)
  clear hH HQ
  have hwx : wrap64 ((x : Int) + 1) = (x : Int) + 1 := wrap_small _ (by omega) (by omega)
  obtain ⟨i0, hi, hzz⟩ := Option.map_eq_some_iff.1 intInfo1
  simp only [Prod.mk.injEq] at hzz
  obtain ⟨hi0, hi1, hi2⟩ := hzz
  go_wp2
  go_loopw [10, 11] (fun v c11 wr => ∃ j : Nat, x + 1 ≤ j ∧ j ≤ us.length ∧ c11 = .int .i64 (j : Int) ∧ One W1 W1.heap.size v (zN (freeX us d x mask j)) wr) (fun _ c11 _ => us.length - (intOf c11).toNat)
  case atStart => exact ⟨x + 1, Nat.le_refl _, hx, rfl, by rw [freeX_start]; exact HO0.out⟩
  case round =>
    clear HO0
    obtain ⟨j, hj1, hj, rfl, hO⟩ := hrel
    obtain ⟨gv, cv, rfl⟩ := rowValB hO.1
    have HO : Hid (One W1 W1.heap.size (.slice gv (zN (freeX us d x mask j)).length cv) (zN (freeX us d x mask j)) wr) := hO
    clear hO hwx
    have x0 : wr.cell? ⟨sb, 0, none⟩ = some (.slice (some ⟨ub, uo, none⟩) us.length uc) := (HQ2.out wr HO.out.2.2 x hx).2.1
    by_cases hlt : j < us.length
    · have hlt' : (j : Int) < (us.length : Int) := by omega
      have HWj : Hid (wrap64 ((j : Int) + 1) = (j : Int) + 1) := wrap_small _ (by omega) (by omega)
      have HJu : Hid (IntKind.u64.wrap (j : Int) = (j : Int)) := wrapJ j (Nat.lt_of_lt_of_le hlt (Nat.le_trans hu8 (by decide)))
      obtain ⟨qm, hqm⟩ : ∃ qm, (mask : Int) / 2 ^ j = qm := ⟨_, rfl⟩
      have hsh := shr_bit mask j (Nat.lt_trans hm (by decide))
      rw [hqm] at hsh
      have HQm : Hid ((mask : Int) / 2 ^ j = qm) := hqm
      clear hqm
      have HS8 : Hid (∀ W', Below wr.heap.size wr W' → W'.cell? ⟨w.heap.size, 2, none⟩ = some (.slice dh d.arts.length dcp) ∧ W'.cell? ⟨sb, 0, none⟩ = some (.slice (some ⟨ub, uo, none⟩) us.length uc) ∧ W'.cell? ⟨ub, uo + j * 2, none⟩ = some (.string (us.getD j zUn).art) ∧ Calls Try.prog 57 #[.slice dh d.arts.length dcp, .string (us.getD j zUn).art] W' fun e w' => e = .returned (.bool (fitU us d j)) ∧ w' = W') := fun W' hW => HQ2.out W' (HO.out.2.2.trans (hW.mono HO.out.2.1)) j hlt
      obtain ⟨aj, haj⟩ : ∃ aj, aj = (us.getD j zUn).art := ⟨_, rfl⟩
      rw [← haj] at HS8
      clear haj
      by_cases hbit : mask.testBit j = true
      · rw [if_pos hbit] at hsh
        have hsh1 : bits .and .i64 qm 1 = (1 : Int) := by rw [hsh]; rfl
        have HSh : Hid (bits .and .i64 qm 1 = (1 : Int)) := hsh1
        clear hsh1
        have HFx : Hid (freeX us d x mask (j + 1) = freeX us d x mask j) := freeX_skip (by simp [hbit])
        clear hbit hsh
        go_wp2_with fail
        refine wp_region_held_drew (S := fun W' => Below wr.heap.size wr W') (by kernel_rfl) (below_drew _) (fun hH => ?_)
        refine wpAnyH_take (i := 0) (v := .int .i64 (mask : Int)) rfl (by kernel_rfl) (by kernel_rfl) (by kernel_rfl) (fun _ _ _ h => h) (Or.inl ⟨by rfl, fun w hSw => by go_simp⟩) hH ?_
        refine wpAnyH_take (i := 1) (v := .int .i64 (j : Int)) rfl (by kernel_rfl) (by kernel_rfl) (by kernel_rfl) (fun _ _ _ h => h) (Or.inl ⟨by rfl, fun w hSw => by go_simp⟩) hH ?_
        try simp only [Act.put, List.setIfInBounds_toArray, List.set_cons_zero, List.set_cons_succ, List.getElem_toArray, List.getElem_cons_succ, List.getElem_cons_zero]
        refine wpAnyH_take (i := 2) (v := .int .u64 (j : Int)) rfl (by kernel_rfl) (by kernel_rfl) (by kernel_rfl) (fun _ _ _ h => h) (Or.inl ⟨by rfl, fun w hSw => by have f0 := HJu.out; clear hSw; go_simp⟩) hH ?_
        try simp only [Act.put, List.setIfInBounds_toArray, List.set_cons_zero, List.set_cons_succ, List.getElem_toArray, List.getElem_cons_succ, List.getElem_cons_zero]
        refine wpAnyH_take (i := 3) (v := .int .i64 qm) rfl (by kernel_rfl) (by kernel_rfl) (by kernel_rfl) (fun _ _ _ h => h) (Or.inl ⟨by rfl, fun w hSw => by have f0 := HQm.out; clear hSw; go_simp⟩) hH ?_
        try simp only [Act.put, List.setIfInBounds_toArray, List.set_cons_zero, List.set_cons_succ, List.getElem_toArray, List.getElem_cons_succ, List.getElem_cons_zero]
        refine wpAnyH_take (i := 4) (v := .int .i64 1) rfl (by kernel_rfl) (by kernel_rfl) (by kernel_rfl) (fun _ _ _ h => h) (Or.inl ⟨by rfl, fun w hSw => by have f0 := HSh.out; clear hSw; go_simp⟩) hH ?_
        try simp only [Act.put, List.setIfInBounds_toArray, List.set_cons_zero, List.set_cons_succ, List.getElem_toArray, List.getElem_cons_succ, List.getElem_cons_zero]
        refine wpAnyH_take (i := 5) (v := .bool false) rfl (by kernel_rfl) (by kernel_rfl) (by kernel_rfl) (fun _ _ _ h => h) (Or.inl ⟨by rfl, fun w hSw => by go_simp⟩) hH ?_
        try simp only [Act.put, List.setIfInBounds_toArray, List.set_cons_zero, List.set_cons_succ, List.getElem_toArray, List.getElem_cons_succ, List.getElem_cons_zero]
        refine wpAnyH_take (i := 6) (v := .bool false) rfl (by kernel_rfl) (by kernel_rfl) (by kernel_rfl) (fun _ _ _ h => h) (Or.inl ⟨by rfl, fun w hSw => by go_simp⟩) hH ?_
        try simp only [Act.put, List.setIfInBounds_toArray, List.set_cons_zero, List.set_cons_succ, List.getElem_toArray, List.getElem_cons_succ, List.getElem_cons_zero]
        refine wpAnyH_take (i := 7) (v := undef) rfl (by kernel_rfl) (by kernel_rfl) (by kernel_rfl) (fun _ _ _ h => h) (Or.inr ⟨by rfl, rfl⟩) hH ?_
        try simp only [Act.put, List.setIfInBounds_toArray, List.set_cons_zero, List.set_cons_succ, List.getElem_toArray, List.getElem_cons_succ, List.getElem_cons_zero]
        refine wpAnyH_take (i := 8) (v := undef) rfl (by kernel_rfl) (by kernel_rfl) (by kernel_rfl) (fun _ _ _ h => h) (Or.inr ⟨by rfl, rfl⟩) hH ?_
        try simp only [Act.put, List.setIfInBounds_toArray, List.set_cons_zero, List.set_cons_succ, List.getElem_toArray, List.getElem_cons_succ, List.getElem_cons_zero]
        refine wpAnyH_take (i := 9) (v := undef) rfl (by kernel_rfl) (by kernel_rfl) (by kernel_rfl) (fun _ _ _ h => h) (Or.inr ⟨by rfl, rfl⟩) hH ?_
        try simp only [Act.put, List.setIfInBounds_toArray, List.set_cons_zero, List.set_cons_succ, List.getElem_toArray, List.getElem_cons_succ, List.getElem_cons_zero]
        refine wpAnyH_take (i := 10) (v := undef) rfl (by kernel_rfl) (by kernel_rfl) (by kernel_rfl) (fun _ _ _ h => h) (Or.inr ⟨by rfl, rfl⟩) hH ?_
        try simp only [Act.put, List.setIfInBounds_toArray, List.set_cons_zero, List.set_cons_succ, List.getElem_toArray, List.getElem_cons_succ, List.getElem_cons_zero]
        refine wpAnyH_take (i := 11) (v := undef) rfl (by kernel_rfl) (by kernel_rfl) (by kernel_rfl) (fun _ _ _ h => h) (Or.inr ⟨by rfl, rfl⟩) hH ?_
        try simp only [Act.put, List.setIfInBounds_toArray, List.set_cons_zero, List.set_cons_succ, List.getElem_toArray, List.getElem_cons_succ, List.getElem_cons_zero]
        refine wpAnyH_take (i := 12) (v := undef) rfl (by kernel_rfl) (by kernel_rfl) (by kernel_rfl) (fun _ _ _ h => h) (Or.inr ⟨by rfl, rfl⟩) hH ?_
        try simp only [Act.put, List.setIfInBounds_toArray, List.set_cons_zero, List.set_cons_succ, List.getElem_toArray, List.getElem_cons_succ, List.getElem_cons_zero]
        refine wpAnyH_take (i := 13) (v := undef) rfl (by kernel_rfl) (by kernel_rfl) (by kernel_rfl) (fun _ _ _ h => h) (Or.inr ⟨by rfl, rfl⟩) hH ?_
        try simp only [Act.put, List.setIfInBounds_toArray, List.set_cons_zero, List.set_cons_succ, List.getElem_toArray, List.getElem_cons_succ, List.getElem_cons_zero]
        refine wpAnyH_take (i := 14) (v := undef) rfl (by kernel_rfl) (by kernel_rfl) (by kernel_rfl) (fun _ _ _ h => h) (Or.inr ⟨by rfl, rfl⟩) hH ?_
        try simp only [Act.put, List.setIfInBounds_toArray, List.set_cons_zero, List.set_cons_succ, List.getElem_toArray, List.getElem_cons_succ, List.getElem_cons_zero]
        refine wpAnyH_take (i := 15) (v := undef) rfl (by kernel_rfl) (by kernel_rfl) (by kernel_rfl) (fun _ _ _ h => h) (Or.inr ⟨by rfl, rfl⟩) hH ?_
        try simp only [Act.put, List.setIfInBounds_toArray, List.set_cons_zero, List.set_cons_succ, List.getElem_toArray, List.getElem_cons_succ, List.getElem_cons_zero]
        refine wpAnyH_take (i := 16) (v := undef) rfl (by kernel_rfl) (by kernel_rfl) (by kernel_rfl) (fun _ _ _ h => h) (Or.inr ⟨by rfl, rfl⟩) hH ?_
        try simp only [Act.put, List.setIfInBounds_toArray, List.set_cons_zero, List.set_cons_succ, List.getElem_toArray, List.getElem_cons_succ, List.getElem_cons_zero]
        refine wpAnyH_take (i := 17) (v := undef) rfl (by kernel_rfl) (by kernel_rfl) (by kernel_rfl) (fun _ _ _ h => h) (Or.inr ⟨by rfl, rfl⟩) hH ?_
        try simp only [Act.put, List.setIfInBounds_toArray, List.set_cons_zero, List.set_cons_succ, List.getElem_toArray, List.getElem_cons_succ, List.getElem_cons_zero]
        refine wpAnyH_take (i := 18) (v := .bool false) rfl (by kernel_rfl) (by kernel_rfl) (by kernel_rfl) (fun _ _ _ h => h) (Or.inl ⟨by rfl, fun w hSw => by go_simp⟩) hH ?_
        try simp only [Act.put, List.setIfInBounds_toArray, List.set_cons_zero, List.set_cons_succ, List.getElem_toArray, List.getElem_cons_succ, List.getElem_cons_zero]
        refine wpAnyH_done (by kernel_rfl) ?_ _
        have HE2 : Hid (One W1 W1.heap.size (.slice gv (zN (freeX us d x mask (j + 1))).length cv) (zN (freeX us d x mask (j + 1))) wr.drew) := by
          have := HO.out.later (below_drew wr)
          rw [HFx.out]; exact this
        clear hH
        go_wp2
        have HE3 : One W1 W1.heap.size (.slice gv (zN (freeX us d x mask j)).length cv) (zN (freeX us d x mask (j + 1))) wr.drew := by
          have := HE2.out
          rwa [HFx.out] at this ⊢
        exact ⟨⟨j + 1, by omega, hlt, by go_num, HE3⟩, by simp [intOf]; omega⟩
      · rw [if_neg hbit] at hsh
        have hsh1 : bits .and .i64 qm 1 = (0 : Int) := by rw [hsh]; rfl
        have HSh : Hid (bits .and .i64 qm 1 = (0 : Int)) := hsh1
        clear hsh1
        have hbit' : mask.testBit j = false := by simpa using hbit
        have HFt : Hid (fitU us d j = false → freeX us d x mask (j + 1) = freeX us d x mask j) := fun h => freeX_skip (by simp [h])
        have HFy : Hid (fitU us d j = true → freeX us d x mask (j + 1) = freeX us d x mask j ++ [j]) := fun h => freeX_take (by rw [hbit', h, decide_eq_true (by omega)]; rfl)
        clear hbit hbit' hsh
        obtain ⟨fj, hfj⟩ : ∃ fj, fj = fitU us d j := ⟨_, rfl⟩
        rw [← hfj] at HS8 HFt HFy
        clear hfj
        go_wp2_with fail
        refine wp_region_held_drew (S := fun W' => Below wr.heap.size wr W') (by kernel_rfl) (below_drew _) (fun hH => ?_)
        refine wpAnyH_take (i := 0) (v := .int .i64 (mask : Int)) rfl (by kernel_rfl) (by kernel_rfl) (by kernel_rfl) (fun _ _ _ h => h) (Or.inl ⟨by rfl, fun w hSw => by go_simp⟩) hH ?_
        refine wpAnyH_take (i := 1) (v := .int .i64 (j : Int)) rfl (by kernel_rfl) (by kernel_rfl) (by kernel_rfl) (fun _ _ _ h => h) (Or.inl ⟨by rfl, fun w hSw => by go_simp⟩) hH ?_
        try simp only [Act.put, List.setIfInBounds_toArray, List.set_cons_zero, List.set_cons_succ, List.getElem_toArray, List.getElem_cons_succ, List.getElem_cons_zero]
        refine wpAnyH_take (i := 2) (v := .int .u64 (j : Int)) rfl (by kernel_rfl) (by kernel_rfl) (by kernel_rfl) (fun _ _ _ h => h) (Or.inl ⟨by rfl, fun w hSw => by have f0 := HJu.out; clear hSw; go_simp⟩) hH ?_
        try simp only [Act.put, List.setIfInBounds_toArray, List.set_cons_zero, List.set_cons_succ, List.getElem_toArray, List.getElem_cons_succ, List.getElem_cons_zero]
        refine wpAnyH_take (i := 3) (v := .int .i64 qm) rfl (by kernel_rfl) (by kernel_rfl) (by kernel_rfl) (fun _ _ _ h => h) (Or.inl ⟨by rfl, fun w hSw => by have f0 := HQm.out; clear hSw; go_simp⟩) hH ?_
        try simp only [Act.put, List.setIfInBounds_toArray, List.set_cons_zero, List.set_cons_succ, List.getElem_toArray, List.getElem_cons_succ, List.getElem_cons_zero]
        refine wpAnyH_take (i := 4) (v := .int .i64 0) rfl (by kernel_rfl) (by kernel_rfl) (by kernel_rfl) (fun _ _ _ h => h) (Or.inl ⟨by rfl, fun w hSw => by have f0 := HSh.out; clear hSw; go_simp⟩) hH ?_
        try simp only [Act.put, List.setIfInBounds_toArray, List.set_cons_zero, List.set_cons_succ, List.getElem_toArray, List.getElem_cons_succ, List.getElem_cons_zero]
        refine wpAnyH_take (i := 5) (v := .bool true) rfl (by kernel_rfl) (by kernel_rfl) (by kernel_rfl) (fun _ _ _ h => h) (Or.inl ⟨by rfl, fun w hSw => by go_simp⟩) hH ?_
        try simp only [Act.put, List.setIfInBounds_toArray, List.set_cons_zero, List.set_cons_succ, List.getElem_toArray, List.getElem_cons_succ, List.getElem_cons_zero]
        refine wpAnyH_take (i := 6) (v := .bool true) rfl (by kernel_rfl) (by kernel_rfl) (by kernel_rfl) (fun _ _ _ h => h) (Or.inl ⟨by rfl, fun w hSw => by go_simp⟩) hH ?_
        try simp only [Act.put, List.setIfInBounds_toArray, List.set_cons_zero, List.set_cons_succ, List.getElem_toArray, List.getElem_cons_succ, List.getElem_cons_zero]
        refine wpAnyH_take (i := 7) (v := .pointer (some ⟨w.heap.size, 2, none⟩)) rfl (by kernel_rfl) (by kernel_rfl) (by kernel_rfl) (fun _ _ _ h => h) (Or.inl ⟨by rfl, fun w hSw => by go_simp⟩) hH ?_
        try simp only [Act.put, List.setIfInBounds_toArray, List.set_cons_zero, List.set_cons_succ, List.getElem_toArray, List.getElem_cons_succ, List.getElem_cons_zero]
        refine wpAnyH_take (i := 8) (v := .slice dh d.arts.length dcp) rfl (by kernel_rfl) (by kernel_rfl) (by kernel_rfl) (fun _ _ _ h => h) (Or.inl ⟨by rfl, fun w hSw => by have f0 := (HS8.out _ hSw).1; go_simp⟩) hH ?_
        try simp only [Act.put, List.setIfInBounds_toArray, List.set_cons_zero, List.set_cons_succ, List.getElem_toArray, List.getElem_cons_succ, List.getElem_cons_zero]
        refine wpAnyH_take (i := 9) (v := .pointer (some ⟨sb, 0, none⟩)) rfl (by kernel_rfl) (by kernel_rfl) (by kernel_rfl) (fun _ _ _ h => h) (Or.inl ⟨by rfl, fun w hSw => by go_simp⟩) hH ?_
        try simp only [Act.put, List.setIfInBounds_toArray, List.set_cons_zero, List.set_cons_succ, List.getElem_toArray, List.getElem_cons_succ, List.getElem_cons_zero]
        refine wpAnyH_take (i := 10) (v := .pointer (some ⟨sb, 0, none⟩)) rfl (by kernel_rfl) (by kernel_rfl) (by kernel_rfl) (fun _ _ _ h => h) (Or.inl ⟨by rfl, fun w hSw => by go_simp⟩) hH ?_
        try simp only [Act.put, List.setIfInBounds_toArray, List.set_cons_zero, List.set_cons_succ, List.getElem_toArray, List.getElem_cons_succ, List.getElem_cons_zero]
        refine wpAnyH_take (i := 11) (v := .pointer (some ⟨sb, 0, none⟩)) rfl (by kernel_rfl) (by kernel_rfl) (by kernel_rfl) (fun _ _ _ h => h) (Or.inl ⟨by rfl, fun w hSw => by go_simp⟩) hH ?_
        try simp only [Act.put, List.setIfInBounds_toArray, List.set_cons_zero, List.set_cons_succ, List.getElem_toArray, List.getElem_cons_succ, List.getElem_cons_zero]
        refine wpAnyH_take (i := 12) (v := .slice (some ⟨ub, uo, none⟩) us.length uc) rfl (by kernel_rfl) (by kernel_rfl) (by kernel_rfl) (fun _ _ _ h => h) (Or.inl ⟨by rfl, fun w hSw => by have f0 := (HS8.out _ hSw).2.1; go_simp⟩) hH ?_
        try simp only [Act.put, List.setIfInBounds_toArray, List.set_cons_zero, List.set_cons_succ, List.getElem_toArray, List.getElem_cons_succ, List.getElem_cons_zero]
        refine wpAnyH_take (i := 13) (v := .int .i64 (j : Int)) rfl (by kernel_rfl) (by kernel_rfl) (by kernel_rfl) (fun _ _ _ h => h) (Or.inl ⟨by rfl, fun w hSw => by go_simp⟩) hH ?_
        try simp only [Act.put, List.setIfInBounds_toArray, List.set_cons_zero, List.set_cons_succ, List.getElem_toArray, List.getElem_cons_succ, List.getElem_cons_zero]
        refine wpAnyH_take (i := 14) (v := .pointer (some ⟨ub, uo + j * 2, none⟩)) rfl (by kernel_rfl) (by kernel_rfl) (by kernel_rfl) (fun _ _ _ h => h) (Or.inl ⟨by rfl, fun w hSw => by go_simp⟩) hH ?_
        try simp only [Act.put, List.setIfInBounds_toArray, List.set_cons_zero, List.set_cons_succ, List.getElem_toArray, List.getElem_cons_succ, List.getElem_cons_zero]
        refine wpAnyH_take (i := 15) (v := .pointer (some ⟨ub, uo + j * 2, none⟩)) rfl (by kernel_rfl) (by kernel_rfl) (by kernel_rfl) (fun _ _ _ h => h) (Or.inl ⟨by rfl, fun w hSw => by go_simp⟩) hH ?_
        try simp only [Act.put, List.setIfInBounds_toArray, List.set_cons_zero, List.set_cons_succ, List.getElem_toArray, List.getElem_cons_succ, List.getElem_cons_zero]
        refine wpAnyH_take (i := 16) (v := .string aj) rfl (by kernel_rfl) (by kernel_rfl) (by kernel_rfl) (fun _ _ _ h => h) (Or.inl ⟨by rfl, fun w hSw => by have f0 := (HS8.out _ hSw).2.2.1; go_simp⟩) hH ?_
        try simp only [Act.put, List.setIfInBounds_toArray, List.set_cons_zero, List.set_cons_succ, List.getElem_toArray, List.getElem_cons_succ, List.getElem_cons_zero]
        refine wpAnyH_ready (rs := [17]) (by kernel_rfl) (by simp) ?_
        refine AllReadyH.cons rfl (fun K hK => ?_) AllReadyH.nil
        go_simp
        go_at_call 57
        refine (HS8.out _ hH).2.2.2.mono ?_
        rintro e w2 ⟨rfl, rfl⟩
        refine hK.out _ _ hH (fun _ => ?_)
        clear hK K
        try simp only [Act.put, List.setIfInBounds_toArray, List.set_cons_zero, List.set_cons_succ, List.getElem_toArray, List.getElem_cons_succ, List.getElem_cons_zero]
        refine wpAnyH_take (i := 18) (v := .bool fj) rfl (by kernel_rfl) (by kernel_rfl) (by kernel_rfl) (fun _ _ _ h => h) (Or.inl ⟨by rfl, fun w hSw => by go_simp⟩) hH ?_
        try simp only [Act.put, List.setIfInBounds_toArray, List.set_cons_zero, List.set_cons_succ, List.getElem_toArray, List.getElem_cons_succ, List.getElem_cons_zero]
        refine wpAnyH_done (by kernel_rfl) ?_ _
        have HO2 : Hid (One W1 W1.heap.size (.slice gv (zN (freeX us d x mask j)).length cv) (zN (freeX us d x mask j)) wr.drew) := HO.out.later (below_drew wr)
        clear hH HS8 HO
        obtain ⟨wd, hwd⟩ : ∃ wd, wd = wr.drew := ⟨_, rfl⟩
        rw [← hwd] at HO2 ⊢
        clear hwd
        cases fj
        · have HFx := HFt.out rfl
          have HE2 : Hid (One W1 W1.heap.size (.slice gv (zN (freeX us d x mask j)).length cv) (zN (freeX us d x mask (j + 1))) wd) := by
            show One _ _ _ _ _
            rw [HFx]; exact HO2.out
          clear HFx HFt HFy
          go_wp2
          exact ⟨⟨j + 1, by omega, hlt, by go_num, HE2.out⟩, by simp [intOf]; omega⟩
        · have HFx : Hid (freeX us d x mask (j + 1) = freeX us d x mask j ++ [j]) := HFy.out rfl
          have HA : Hid (One W1 W1.heap.size (.slice gv (zN (freeX us d x mask j)).length cv) (zN (freeX us d x mask j)) (wd.alloc (Obj.cells #[.int .i64 (j : Int)] 3))) := HO2.out.later (below_alloc _ _)
          have hfl : (zN (freeX us d x mask j)).length ≤ 8 := by
            rw [zN_len]; unfold freeX
            exact Nat.le_trans (List.length_filter_le _ _) (by rw [List.length_range]; omega)
          clear HFt HFy
          go_wp2_with (at_builtin; refine wpList_append_lies _ rfl _ _ 34 rfl W1.heap.size 3 i0 (.int .i64 0) 1 8 Try.underlying34 hi hi0 hi1 hi2 rfl (by decide) _ _ _ rfl HA.out.1 ⟨wd.heap.size, 0, none⟩ 1 1 [.int .i64 (j : Int)] rfl rfl (newsOne wd _ _) (by intro u hu; simp at hu; subst hu; rfl) (by omega) (by unfold maxLen; omega) (by omega) HA.out.2.1 _ rfl ?_; intro g1 cp1 w5 hown1 hgrow1 hat1 hglt1; have HT : Hid (One W1 W1.heap.size (.slice (some ⟨g1, 0, none⟩) ((zN (freeX us d x mask j)).length + 1) cp1) (zN (freeX us d x mask j) ++ [(j : Int)]) w5) := HA.out.push hown1 hgrow1; clear hown1 hgrow1 hat1 hglt1)
          have HZ : Hid (zN (freeX us d x mask (j + 1)) = zN (freeX us d x mask j) ++ [(j : Int)]) := by show _ = _; rw [HFx.out]; simp [zN]
          exact ⟨⟨j + 1, by omega, hlt, by go_num, by rw [HZ.out]; exact HT.out⟩, by simp [intOf]; omega⟩
    · obtain rfl : j = us.length := by omega
      have hge : ¬ ((us.length : Int) < (us.length : Int)) := by omega
      obtain ⟨n1, hn1⟩ : ∃ n1 : Nat, n1 = d.nd.toNat - 1 := ⟨_, rfl⟩
      have hnd : d.nd - 1 = (n1 : Int) := by omega
      have hnl : n1 ≤ 9 := by omega
      have HN1 : Hid (n1 = d.nd.toNat - 1) := hn1
      have c3 : wr.cell? ⟨w.heap.size, 3, none⟩ = some (.int .i64 d.nd) := HNd.out wr HO.out.2.2
      obtain ⟨fr, hfr⟩ : ∃ fr, fr = freeX us d x mask us.length := ⟨_, rfl⟩
      have HFr : Hid (fr = freeX us d x mask us.length) := hfr
      have hfl : fr.length ≤ 8 := by
        rw [hfr]; unfold freeX
        exact Nat.le_trans (List.length_filter_le _ _) (by rw [List.length_range]; omega)
      have hRI := RI.ofRow (xs := fr) (va := gv) (vc := cv) (n := (zN (freeX us d x mask us.length)).length) (B := W1.heap.size) (W := wr) (by rw [hfr]; have := HO.out.1; rw [zN_nV] at this; exact this) (by rw [zN_len, hfr])
      have HCl : Hid (Calls Try.prog 80 #[.slice gv (zN (freeX us d x mask us.length)).length cv, .int .i64 (n1 : Int)] wr fun e w' => ∃ g cp E, e = .returned (.slice g (setsR n1 fr).length cp) ∧ OutS wr (.slice g (setsR n1 fr).length cp) (setsR n1 fr) E w') := by
        have h := sets_any n1 hnl gv cv fr wr hfl (by have := hRI.2; rw [zN_len] at this; rw [hfr]; exact this) hRI.1
        rw [show (zN (freeX us d x mask us.length)).length = fr.length by rw [zN_len, hfr]]
        exact h
      have HBe : Hid (Below w.heap.size w wr) := HB1.out.trans (HO.out.2.2.mono HB1.out.size)
      have HRs : Hid (∀ s ∈ setsR n1 fr, s.length ≤ 8) := fun s hs => by have := (setsR_len _ _ _ hs).1; omega
      have hcnt := setsR_small n1 fr hfl
      clear hn1 hfr hRI HO hfl
      have HRe : Hid (setsR n1 fr = setsR (d.nd.toNat - 1) (freeX us d x mask us.length)) := by show _ = _; rw [HFr.out, HN1.out]
      obtain ⟨R, hR⟩ : ∃ R, R = setsR n1 fr := ⟨_, rfl⟩
      rw [← hR] at HCl HRs hcnt HRe
      clear hR HFr HN1
      go_wp2_with fail
      (first | go_at_call 80 | skip)
      refine HCl.out.mono ?_
      rintro e w2 ⟨g, cp, E0, rfl, hO2⟩
      have HO0 : Hid (OutS w (.slice g R.length cp) (mixL x R 0) E0 w2) := by
        have e0 : mixL x R 0 = R := by simp [mixL]
        show OutS _ _ _ _ _
        rw [e0]; exact hO2.base HBe.out
      clear hO2 HCl c3
      go_wp2
      go_loopw [13] (fun c wq => ∃ (k : Nat) (E : List Value), k ≤ R.length ∧ c = .int .i64 (k : Int) ∧ OutS w (.slice g R.length cp) (mixL x R k) E wq ∧ HiB w.heap.size E k) (fun c _ => R.length - (intOf c).toNat)
      case atStart => exact ⟨0, E0, Nat.zero_le _, rfl, HO0.out, fun i hi => by omega⟩
      case round =>
        clear HO0
        obtain ⟨k, E, hkR, rfl, hO, hHi⟩ := hrel
        have HHi : Hid (HiB w.heap.size E k) := hHi
        clear hHi
        obtain ⟨wq, rfl⟩ : ∃ wq, wq = wr := ⟨_, rfl⟩
        have hml := mixL_len x R k hkR
        have HO : Hid (OutS w (.slice g R.length cp) (mixL x R k) E wq) := hO
        clear hO
        by_cases hkl : k < R.length
        · have hkl' : (k : Int) < (R.length : Int) := by omega
          obtain ⟨gb, cp', hq⟩ := row_some HO.out.own (by rw [hml]; omega)
          have hg : g = some ⟨gb, 0, none⟩ := by simp only [Value.slice.injEq] at hq; exact hq.1
          subst hg
          obtain ⟨sh, sc, hs1, hs2, hs3⟩ := HO.out.fit.2 k (by rw [hml]; exact hkl)
          rw [mixL_get x R k hkl] at hs1 hs2 hs3
          have hsl : (R.getD k []).length ≤ 8 := HRs.out _ (by rw [show R.getD k [] = R[k] by simp [List.getD_eq_getElem?_getD, hkl]]; exact List.getElem_mem _)
          have HMs : Hid ((mixL x R k).set k (x :: R.getD k []) = mixL x R (k + 1)) := mixL_set x R k hkl
          obtain ⟨s0, hs0⟩ : ∃ s0, s0 = R.getD k [] := ⟨_, rfl⟩
          rw [← hs0] at hs1 hs2 hs3 hsl HMs
          have hown0 : wq.ownsRow w.heap.size 34 1 (.slice (some ⟨gb, 0, none⟩) R.length cp) R.length E := by have := HO.out.own; rwa [hml] at this
          have c0 : wq.cell? ⟨gb, k, none⟩ = some (.slice sh s0.length sc) := by rw [hown0.cellAt k (by omega)]; exact hs1
          have hgl : gb < wq.heap.size := (row_lt hown0 gb rfl).2
          have HRI : Hid (RI (wq.alloc (Obj.cells #[.int .i64 (x : Int)] 3)) sh s0) := hs3.later (below_alloc _ _)
          have HBx : Hid ((wq.alloc (Obj.cells #[.int .i64 (x : Int)] 3)).ownsRow wq.heap.size 3 1 (.slice (some ⟨wq.heap.size, 0, none⟩) 1 1) 1 [.int .i64 (x : Int)]) := ⟨rfl, .inr ⟨wq.heap.size, 1, _, rfl, Nat.le_refl _, heapNew wq _, Nat.le_refl _, by unfold maxLen; omega, rfl, rfl⟩⟩
          have hle : wq.heap.size ≤ (wq.alloc (Obj.cells #[.int .i64 (x : Int)] 3)).heap.size := by simp
          have HS1 : Hid (E[k]? = some (.slice sh s0.length sc)) := hs1
          clear hs1 hs3 hs0 hq hown0
          go_wp2_with (at_builtin; go_loud (refine wpList_append_any rfl _ _ 34 rfl wq.heap.size 3 i0 (.int .i64 0) 1 8 Try.underlying34 hi hi0 hi1 hi2 rfl (by decide) _ _ _ rfl HBx.out sh s0.length sc (nV s0) rfl (by rw [nV_len]; omega) (ri_news HRI.out) (nV_one s0) (by unfold maxLen; omega) (by omega) hle ?_); intro va vc w6 hown hgr hat; have hst := sets_step HO.out hml hkl HS1.out HBx.out hown hgr; have HT6 : Hid (OutS w (.slice (some ⟨gb, 0, none⟩) R.length cp) (mixL x R k) E w6) := hst.1; have HR6 : Hid (RI w6 va (x :: s0) ∧ (x :: s0).length ≤ vc) := hst.2.1; have z1 := hst.2.2.1; have f1 := hst.2.2.2.1; have hgl6 := hst.2.2.2.2.1; have HV6 : Hid (∀ b o, va = some ⟨b, o, none⟩ → w.heap.size ≤ b) := hst.2.2.2.2.2; clear hown hgr hat hst)
          have HF : Hid (OutS w (.slice (some ⟨gb, 0, none⟩) R.length cp) (mixL x R (k + 1)) (E.set k (.slice va (1 + s0.length) vc)) (w6.setCell ⟨gb, k, none⟩ (.slice va (1 + s0.length) vc))) := by
            show OutS _ _ _ _ _
            rw [← HMs.out]
            exact HT6.out.put hml.symm (by rw [hml]; exact hkl) HR6.out.1 (by rw [List.length_cons, Nat.add_comm]) HR6.out.2
          exact ⟨⟨k + 1, _, hkl, by go_num, HF.out, HHi.out.put HV6.out⟩, by simp [intOf]; omega⟩
        · obtain rfl : k = R.length := by omega
          have hmx : mixL x R R.length = R.map (x :: ·) := by simp [mixL]
          have HEn : Hid (OutS w (.slice g R.length cp) (R.map (x :: ·)) E wq) := by
            show OutS _ _ _ _ _
            rw [← hmx]; exact HO.out
          clear HO hmx
          go_wp2
          go_ret
          rw [← HRe.out, List.length_map]
          exact ⟨g, cp, E, rfl, HEn.out, HHi.out⟩
end Go.Proofs.Ytbijgoaanphojaa

/-
  spend of the program.
-/
import Derived.Test.YtodncihjenlnjaaPpE
namespace Go.Proofs.Ytodncihjenlnjaa
open Go.ChangeShapes Go.WideShapes Go.ChangeAt Go.RowKit Go.Deep
set_option linter.unusedVariables false

theorem row_base {w : World} {B B' : Nat} {e : TypeId} {k : Nat} {v : Value} {n : Nat} {xs : List Value} (h : w.ownsRow B e k v n xs) (hb : B' ≤ B) : w.ownsRow B' e k v n xs := by
  obtain ⟨h1, h2⟩ := h
  refine ⟨h1, ?_⟩
  rcases h2 with h | ⟨g', cap, cur, q, hB, r⟩
  · exact .inl h
  · exact .inr ⟨g', cap, cur, q, Nat.le_trans hb hB, r⟩
/-- No panic comes out of it. -/
def calm (Q : Exit → Act → World → Prop) : Exit → Act → World → Prop
  | .panic _ => fun _ _ => False
  | e => Q e
theorem wp_calm {P : Program} {c : Code} {Q : Exit → Act → World → Prop} {a : Act} {w : World} (h : c.wp P (calm Q) a w) : c.wp P Q a w :=
  wp_mono h (fun e a w q => by cases e with
    | panic _ => exact q.elim
    | _ => exact q)
theorem Fr.grow {X : Nat → Prop} {w a b : World} {o : Option Nat} (h : Fr X w a) (hg : a.grownBy b o) (ho : ∀ q, o = some q → w.heap.size ≤ q) : Fr X w b := by
  have k := (h.mono (Y := fun q => X q ∨ o = some q) (fun _ => .inl)).trans ((fr_grown hg).mono (fun _ => .inr))
  exact ⟨k.os, k.tape, k.output, k.size, fun q hq hx => k.block q hq (by
    rintro (e | e)
    · exact hx e
    · have := ho q e; omega)⟩
/-- In a spend's midst. -/
structure SpSt (B rb g c : Nat) (day sp ex nm : Int) (mv : Value) (kd m un : Int) (w : World) (tb : Nat) (s : Int × List RLo × List RLo) (wr : World) : Prop where
  fr : Fr (fun q => q = rb ∨ q = g) w wr
  pg : PgIs wr rb day sp ex (.slice (some ⟨g, 0, none⟩) s.2.1.length c) nm mv
  row : wr.ownsRow B 67 2 (.slice (some ⟨g, 0, none⟩) s.2.1.length c) s.2.1.length (loCells s.2.1)
  xb : wr.heap[w.heap.size]? = some (.cells #[.pointer (some ⟨rb, 0, none⟩)] 59 (0, 0))
  ab : wr.heap[w.heap.size + 1]? = some (.cells #[.int .i64 kd, .int .i64 m, .int .i64 un] 46 (0, 0))
  tb : ∃ tv, wr.heap[tb]? = some (.cells #[tv] 25 (0, 0)) ∧ wr.ownsRow (tb + 1) 67 2 tv s.2.2.length (loCells s.2.2)
/-- What stands behind a round's append, and behind its store. -/
def SpR (B rb g c : Nat) (day sp ex nm : Int) (mb : Nat) (kd m un : Int) (w : World) (tb : Nat) (Lk Ok : List RLo) (pn pu : Int) (tv nv : Value) (pb : Nat) (w9 : World) : Prop :=
  w9.cell? ⟨tb, 0, none⟩ = some tv ∧ w9.frozen? ⟨tb, 0, none⟩ = false ∧ (w9.setCell ⟨tb, 0, none⟩ nv).cell? ⟨pb, 0, none⟩ = some (.int .i64 pn) ∧ ∀ ms, SpSt B rb g c day sp ex nm (.map (some mb)) kd m un w tb (ms, Lk, Ok ++ [⟨pn, pu⟩]) (w9.setCell ⟨tb, 0, none⟩ nv)
theorem spRound {B rb g c : Nat} {day sp ex nm : Int} {mb : Nat} {kd m un : Int} {w w5 : World} {tb : Nat} {Lk Ok : List RLo} {tv : Value}
    (h : w5.heap[tb]? = some (.cells #[tv] 25 (0, 0)) ∧ w5.ownsRow (tb + 1) 67 2 tv Ok.length (loCells Ok) ∧ Fr (fun q => q = rb ∨ q = g) w w5 ∧ PgIs w5 rb day sp ex (.slice (some ⟨g, 0, none⟩) Lk.length c) nm (.map (some mb)) ∧ w5.ownsRow B 67 2 (.slice (some ⟨g, 0, none⟩) Lk.length c) Lk.length (loCells Lk) ∧ w5.heap[w.heap.size]? = some (.cells #[.pointer (some ⟨rb, 0, none⟩)] 59 (0, 0)) ∧ w5.heap[w.heap.size + 1]? = some (.cells #[.int .i64 kd, .int .i64 m, .int .i64 un] 46 (0, 0)))
    (htb : w.heap.size + 2 ≤ tb) (hrl : rb < w.heap.size) (hgl : g < w.heap.size) (h5 : tb < w5.heap.size) {pn pu : Int} {g1 cp1 : Nat} {w9 : World}
    (ho : w9.ownsRow (tb + 1) 67 2 (.slice (some ⟨g1, 0, none⟩) (Ok.length + 1) cp1) (Ok.length + 1) (loCells Ok ++ [.int .i64 pn, .int .i64 pu]))
    (hg : ((w5.alloc (Obj.cells #[.int .i64 pn, .int .i64 pu] 67)).alloc (Obj.cells #[.int .i64 pn, .int .i64 pu] 67)).grownBy w9 tv.ownBlock) :
    SpR B rb g c day sp ex nm mb kd m un w tb Lk Ok pn pu tv (.slice (some ⟨g1, 0, none⟩) (Ok.length + 1) cp1) w5.heap.size w9 := by
  obtain ⟨h1, h2, h3, h4, h6, h7, h8⟩ := h
  have hgb := fr_grown hg
  have hk : ∀ q, q < w5.heap.size → tv.ownBlock ≠ some q → w9.heap[q]? = w5.heap[q]? := fun q a b => (hgb.block q (by simp; omega) b).trans ((Below.heap_alloc _ _ _ (by simp; omega)).trans (Below.heap_alloc _ _ _ a))
  have hlow : ∀ q, q ≤ tb → tv.ownBlock ≠ some q := fun q a b => by have := row_lt h2 q b; omega
  have e1 : w9.heap[tb]? = some (.cells #[tv] 25 (0, 0)) := (hk tb h5 (hlow tb (Nat.le_refl _))).trans h1
  have hk2 : ∀ q, q < tb → (w9.setCell ⟨tb, 0, none⟩ (.slice (some ⟨g1, 0, none⟩) (Ok.length + 1) cp1)).heap[q]? = w5.heap[q]? := fun q a => (Below.heap_setCell _ _ _ _ (by show q ≠ tb; omega)).trans (hk q (by omega) (hlow q (by omega)))
  have e2 : w9.heap[w5.heap.size]? = some (.cells #[.int .i64 pn, .int .i64 pu] 67 (0, 0)) := (hgb.block _ (by simp; omega) (fun b => by have := row_lt h2 _ b; omega)).trans ((Below.heap_alloc _ _ _ (by simp)).trans (heapNew _ _))
  have e3 := heap_setCell_same _ _ 0 _ _ (.slice (some ⟨g1, 0, none⟩) (Ok.length + 1) cp1) e1
  simp only [List.setIfInBounds_toArray, List.set_cons_zero] at e3
  refine ⟨blkCell e1 0 _ rfl, blkFree e1 0, blkCell ((Below.heap_setCell _ _ _ _ (by show w5.heap.size ≠ tb; omega)).trans e2) 0 _ rfl, fun ms => ⟨?_, h4.of (hk2 rb (by omega)), row_of h6 (fun q hq => hk2 q (by cases hq; show g < tb; omega)), (hk2 _ (by omega)).trans h7, (hk2 _ (by omega)).trans h8, _, e3, ?_⟩⟩
  · exact (((h3.alloc _).alloc _).grow hg (fun q hq => by have := row_lt h2 q hq; omega)).setNew (by omega) _ _
  · rw [List.length_append, loCells_append]
    refine row_of (w := w9) ho (fun q hq => Below.heap_setCell _ _ _ _ ?_)
    have := row_lt ho q hq
    show q ≠ tb; omega
set_option maxHeartbeats 4000000 in
theorem spend_ok (B rb mb n g c : Nat) (day sp ex nm : Int) (f : Int → Option Value) (kd m un : Int) (L : List RLo) (hl : L.length ≤ 1000) (hN : ∀ r ∈ L, LoN r) (hm : 1 ≤ m) (hs : m ≤ sumP L) (hsp : -1000000000000 ≤ sp) (hsp' : sp ≤ 1000000000000) (hn : n < maxLen) (hwf : WfI nm) (w : World) (hg : PgIs w rb day sp ex (.slice (some ⟨g, 0, none⟩) L.length c) nm (.map (some mb))) (hr : w.ownsRow B 67 2 (.slice (some ⟨g, 0, none⟩) L.length c) L.length (loCells L)) (hmv : MapV zSl w mb n f) :
    Calls Try.prog 31 #[.pointer (some ⟨rb, 0, none⟩), .agg #[.int .i64 kd, .int .i64 m, .int .i64 un]] w fun e w' => e = .returned (.int .i64 0) ∧ Fr (fun q => q = rb ∨ q = g ∨ q = mb) w w' ∧ PgIs w' rb day (sp + m) ex (.slice (some ⟨g, 0, none⟩) (spL m L).length c) nm (.map (some mb)) ∧ w'.ownsRow B 67 2 (.slice (some ⟨g, 0, none⟩) (spL m L).length c) (spL m L).length (loCells (spL m L)) ∧ ∃ tv, MapV zSl w' mb (n + 1) (fun x => if x = nm then some tv else f x) ∧ w'.ownsRow w.heap.size 67 2 tv (spO m L).length (loCells (spO m L)) := by
  have hsb := sumP_bound hN
  have hPt : ∀ W : World, Below w.heap.size w W → Calls Try.prog 20 #[.slice (some ⟨g, 0, none⟩) L.length c] W fun e w' => e = .returned (.int .i64 (sumP L)) ∧ Below W.heap.size W w' := fun W hW => pointsIn_any _ c L (by omega) hN W (lo_reads (row_of hr (fun q hq => hW.block q (row_lt hr q hq).2)))
  have HPt : Hid (∀ W : World, Below w.heap.size w W → Calls Try.prog 20 #[.slice (some ⟨g, 0, none⟩) L.length c] W fun e w' => e = .returned (.int .i64 (sumP L)) ∧ Below W.heap.size W w') := hPt
  have HG : Hid (PgIs w rb day sp ex (.slice (some ⟨g, 0, none⟩) L.length c) nm (.map (some mb)) ∧ w.ownsRow B 67 2 (.slice (some ⟨g, 0, none⟩) L.length c) L.length (loCells L) ∧ MapV zSl w mb n f) := ⟨hg, hr, hmv⟩
  have hmf : ∀ (fn : Fn) (first cap : Array Value) (w : World), (Instr.makeFunc fn first cap).run Try.prog w = .ok (.func fn first cap) w := fun _ _ _ _ => rfl
  obtain ⟨W2, hW2⟩ : ∃ W2, W2 = (w.alloc (Obj.cells #[.pointer (some ⟨rb, 0, none⟩)] 59)).alloc (Obj.cells #[.int .i64 kd, .int .i64 m, .int .i64 un] 46) := ⟨_, rfl⟩
  have hz2 : W2.heap.size = w.heap.size + 2 := by rw [hW2]; simp
  have HW2 : Hid (Below w.heap.size w W2 ∧ W2.heap[w.heap.size]? = some (.cells #[.pointer (some ⟨rb, 0, none⟩)] 59 (0, 0)) ∧ W2.heap[w.heap.size + 1]? = some (.cells #[.int .i64 kd, .int .i64 m, .int .i64 un] 46 (0, 0))) := by
    subst hW2
    refine ⟨chain (below_alloc _ _) (below_alloc _ _), ((below_alloc _ _).block _ (by simp)).trans (heapNew _ _), ?_⟩
    have := heapNew (w.alloc (Obj.cells #[.pointer (some ⟨rb, 0, none⟩)] 59)) (Obj.cells #[.int .i64 kd, .int .i64 m, .int .i64 un] 46)
    simpa using this
  have a1 : W2.cell? ⟨w.heap.size + 1, 1, none⟩ = some (.int .i64 m) := blkCell HW2.out.2.2 1 _ rfl
  have hm0 : ¬ m < 1 := by omega
  have hms : ¬ sumP L < m := by omega
  have hrl := hg.lt
  have hgl := (row_lt hr g rfl).2
  obtain ⟨i0, hi, hzz⟩ := Option.map_eq_some_iff.1 loInfo
  simp only [Prod.mk.injEq] at hzz
  obtain ⟨hi0, hi1, hi2⟩ := hzz
  clear hg hr hmv hPt
  go_enter_defers Try.func31, Try.ntmps31
  go_wp2_with fail
  rw [← hW2]
  clear hW2
  go_wp2_with fail
  -- are there enough
  have HQ : Hid (∀ W : World, Below W2.heap.size W2 W → W.cell? ⟨w.heap.size + 1, 1, none⟩ = some (.int .i64 m) ∧ W.cell? ⟨w.heap.size, 0, none⟩ = some (.pointer (some ⟨rb, 0, none⟩)) ∧ W.cell? ⟨rb, 3, none⟩ = some (.slice (some ⟨g, 0, none⟩) L.length c) ∧ Below w.heap.size w W) := fun W hW => by
    have h0 := chain HW2.out.1 hW
    exact ⟨blkCell ((hW.block _ (by omega)).trans HW2.out.2.2) 1 _ rfl, blkCell ((hW.block _ (by omega)).trans HW2.out.2.1) 0 _ rfl, (HG.out.1.later h0).cells.2.2.2.1, h0⟩
  refine wp_calm ?_
  refine wp_region_held_drew (S := fun W => Below W2.heap.size W2 W) (by kernel_rfl) (below_drew _) (fun hH => ?_)
  refine wpAnyH_take (i := 0) (v := .pointer (some ⟨w.heap.size + 1, 1, none⟩)) rfl (by kernel_rfl) (by kernel_rfl) (by kernel_rfl) (fun _ _ _ h => h) (Or.inl ⟨by rfl, fun w hSw => by go_simp⟩) hH ?_
  refine wpAnyH_take (i := 1) (v := .int .i64 m) rfl (by kernel_rfl) (by kernel_rfl) (by kernel_rfl) (fun _ _ _ h => h) (Or.inl ⟨by rfl, fun w hSw => by have f0 := (HQ.out w hSw).1; go_simp⟩) hH ?_
  try simp only [Act.put, List.setIfInBounds_toArray, List.set_cons_zero, List.set_cons_succ, List.getElem_toArray, List.getElem_cons_succ, List.getElem_cons_zero]
  refine wpAnyH_take (i := 2) (v := .pointer (some ⟨rb, 0, none⟩)) rfl (by kernel_rfl) (by kernel_rfl) (by kernel_rfl) (fun _ _ _ h => h) (Or.inl ⟨by rfl, fun w hSw => by have f0 := (HQ.out w hSw).2.1; go_simp⟩) hH ?_
  try simp only [Act.put, List.setIfInBounds_toArray, List.set_cons_zero, List.set_cons_succ, List.getElem_toArray, List.getElem_cons_succ, List.getElem_cons_zero]
  refine wpAnyH_take (i := 3) (v := .pointer (some ⟨rb, 0, none⟩)) rfl (by kernel_rfl) (by kernel_rfl) (by kernel_rfl) (fun _ _ _ h => h) (Or.inl ⟨by rfl, fun w hSw => by go_simp⟩) hH ?_
  try simp only [Act.put, List.setIfInBounds_toArray, List.set_cons_zero, List.set_cons_succ, List.getElem_toArray, List.getElem_cons_succ, List.getElem_cons_zero]
  refine wpAnyH_take (i := 4) (v := .pointer (some ⟨rb, 0, none⟩)) rfl (by kernel_rfl) (by kernel_rfl) (by kernel_rfl) (fun _ _ _ h => h) (Or.inl ⟨by rfl, fun w hSw => by go_simp⟩) hH ?_
  try simp only [Act.put, List.setIfInBounds_toArray, List.set_cons_zero, List.set_cons_succ, List.getElem_toArray, List.getElem_cons_succ, List.getElem_cons_zero]
  refine wpAnyH_take (i := 5) (v := .pointer (some ⟨rb, 3, none⟩)) rfl (by kernel_rfl) (by kernel_rfl) (by kernel_rfl) (fun _ _ _ h => h) (Or.inl ⟨by rfl, fun w hSw => by go_simp⟩) hH ?_
  try simp only [Act.put, List.setIfInBounds_toArray, List.set_cons_zero, List.set_cons_succ, List.getElem_toArray, List.getElem_cons_succ, List.getElem_cons_zero]
  refine wpAnyH_take (i := 6) (v := .slice (some ⟨g, 0, none⟩) L.length c) rfl (by kernel_rfl) (by kernel_rfl) (by kernel_rfl) (fun _ _ _ h => h) (Or.inl ⟨by rfl, fun w hSw => by have f0 := (HQ.out w hSw).2.2.1; go_simp⟩) hH ?_
  try simp only [Act.put, List.setIfInBounds_toArray, List.set_cons_zero, List.set_cons_succ, List.getElem_toArray, List.getElem_cons_succ, List.getElem_cons_zero]
  refine wpAnyH_ready (rs := [7]) (by kernel_rfl) (by simp) ?_
  refine AllReadyH.cons rfl (fun K hK => ?_) AllReadyH.nil
  go_simp
  go_at_call 20
  refine (HPt.out _ (HQ.out _ hH).2.2.2).mono ?_
  rintro e w3 ⟨rfl, hb3⟩
  have hw3 := chain hH hb3
  refine hK.out _ _ hw3 (fun _ => ?_)
  clear hK K
  try simp only [Act.put, List.setIfInBounds_toArray, List.set_cons_zero, List.set_cons_succ, List.getElem_toArray, List.getElem_cons_succ, List.getElem_cons_zero]
  refine wpAnyH_take (i := 8) (v := .bool false) rfl (by kernel_rfl) (by kernel_rfl) (by kernel_rfl) (fun _ _ _ h => h) (Or.inl ⟨by rfl, fun w hSw => by go_simp⟩) hw3 ?_
  try simp only [Act.put, List.setIfInBounds_toArray, List.set_cons_zero, List.set_cons_succ, List.getElem_toArray, List.getElem_cons_succ, List.getElem_cons_zero]
  refine wpAnyH_done (by kernel_rfl) ?_ _
  simp only [calm]
  obtain ⟨W4, hW4⟩ : ∃ W4, W4 = w3.alloc (Obj.cells #[.slice none 0 0] 25) := ⟨_, rfl⟩
  obtain ⟨tb, htb⟩ : ∃ tb, tb = w3.heap.size := ⟨_, rfl⟩
  have htb2 : w.heap.size + 2 ≤ tb := by have := hw3.size; omega
  have hSt : SpSt B rb g c day sp ex nm (.map (some mb)) kd m un w tb (tkT m L 0) W4 := by
    subst hW4
    have h0 : Below w.heap.size w (w3.alloc (Obj.cells #[.slice none 0 0] 25)) := chain (chain HW2.out.1 hw3) (below_alloc _ _)
    have h2 : Below W2.heap.size W2 (w3.alloc (Obj.cells #[.slice none 0 0] 25)) := chain hw3 (below_alloc _ _)
    exact ⟨Fr.of h0, HG.out.1.later h0, row_of HG.out.2.1 (fun q hq => h0.block q (row_lt HG.out.2.1 q hq).2), (h2.block _ (by omega)).trans HW2.out.2.1, (h2.block _ (by omega)).trans HW2.out.2.2, _, by rw [htb]; exact heapNew _ _, World.ownsRow_nil _ _ _ _⟩
  have HSt : Hid (SpSt B rb g c day sp ex nm (.map (some mb)) kd m un w tb (tkT m L 0) W4) := hSt
  have b1 : W4.cell? ⟨w.heap.size + 1, 1, none⟩ = some (.int .i64 m) := blkCell hSt.ab 1 _ rfl
  rw [hW4] at b1
  clear hw3 hb3 hH hSt a1 HPt
  go_wp2_with fail
  rw [← hW4, ← htb]
  clear hW4 b1 htb
  go_loopw [6, 7] (fun x _ wr => ∃ k : Nat, x = .int .i64 (tkT m L k).1 ∧ SpSt B rb g c day sp ex nm (.map (some mb)) kd m un w tb (tkT m L k) wr) (fun x _ _ => (intOf x).toNat)
  case atStart => exact ⟨0, rfl, HSt.out⟩
  case round =>
    obtain ⟨k, rfl, hst⟩ := hrel
    have iv := tkT_inv hN (by omega) hs k
    have hNx : 0 < (tkT m L k).1 → tkT m L (k + 1) = ((tkT m L k).1 - tkN (tkT m L k).1 (tkT m L k).2.1, tkL (tkT m L k).1 (tkT m L k).2.1, (tkT m L k).2.2 ++ [tkP (tkT m L k).1 (tkT m L k).2.1]) := fun h => by rw [tkT]; unfold tkS; rw [if_neg (by omega)]
    have hEd : ¬ 0 < (tkT m L k).1 → (tkT m L k).2.1 = spL m L ∧ (tkT m L k).2.2 = spO m L := fun h => tkT_end hN (by omega) hs (by omega)
    have HNx : Hid (0 < (tkT m L k).1 → tkT m L (k + 1) = ((tkT m L k).1 - tkN (tkT m L k).1 (tkT m L k).2.1, tkL (tkT m L k).1 (tkT m L k).2.1, (tkT m L k).2.2 ++ [tkP (tkT m L k).1 (tkT m L k).2.1])) := hNx
    have HEd : Hid (¬ 0 < (tkT m L k).1 → (tkT m L k).2.1 = spL m L ∧ (tkT m L k).2.2 = spO m L) := hEd
    clear hNx hEd
    generalize tkT m L k = s at *
    obtain ⟨ms, Lk, Ok⟩ := s
    obtain ⟨i1, i2, i3, i4, i5, i6, i7⟩ := iv
    dsimp only at HNx HEd i1 i2 i3 i4 i5 i6 i7 hst ⊢
    have hOl := (sumP_bound i4).1
    have HS : Hid (SpSt B rb g c day sp ex nm (.map (some mb)) kd m un w tb (ms, Lk, Ok) wr) := hst
    by_cases hpos : 0 < ms
    · obtain ⟨hl0, tf⟩ := tk_facts i3 (by omega) i2
      have hTf := takeFirst_any B rb g c day sp ex nm (.map (some mb)) Lk hl0 (by omega) i3 ms (by omega) (by omega) wr hst.pg hst.row
      have hpn : (tkP ms Lk).nu = tkN ms Lk := rfl
      have hp1 := tf.one
      have hp2 := tf.le
      have HNx2 : Hid (tkT m L (k + 1) = (ms - (tkP ms Lk).nu, tkL ms Lk, Ok ++ [tkP ms Lk])) := HNx.out hpos
      rw [← hpn] at hp1 hp2
      obtain ⟨tv, ht1, ht2⟩ := hst.tb
      have HTv : Hid (wr.heap[tb]? = some (.cells #[tv] 25 (0, 0)) ∧ wr.ownsRow (tb + 1) 67 2 tv Ok.length (loCells Ok)) := ⟨ht1, ht2⟩
      have c0 : wr.cell? ⟨w.heap.size, 0, none⟩ = some (.pointer (some ⟨rb, 0, none⟩)) := blkCell hst.xb 0 _ rfl
      clear hst ht1 ht2 HNx HEd tf hpn i2 i3 i4 i6
      generalize tkL ms Lk = Lk2 at *
      generalize tkP ms Lk = pt at *
      obtain ⟨pn, pu⟩ := pt
      dsimp only at hTf hp1 hp2 HNx2
      have HTf : Hid (Calls Try.prog 38 #[.pointer (some ⟨rb, 0, none⟩), .int .i64 ms] wr fun e w' => e = .returned (.agg #[.int .i64 pn, .int .i64 pu]) ∧ Fr (fun k => k = rb ∨ k = g) wr w' ∧ PgIs w' rb day sp ex (.slice (some ⟨g, 0, none⟩) Lk2.length c) nm (.map (some mb)) ∧ w'.ownsRow B 67 2 (.slice (some ⟨g, 0, none⟩) Lk2.length c) Lk2.length (loCells Lk2)) := hTf
      clear hTf
      go_wp2_with fail
      (first | go_at_call 38 | skip)
      refine HTf.out.mono ?_
      rintro e w5 ⟨rfl, hf5, hp5, hr5⟩
      have htl : tb < wr.heap.size := blkLt HTv.out.1
      have h5s := hf5.size
      have H5 : Hid (w5.heap[tb]? = some (.cells #[tv] 25 (0, 0)) ∧ w5.ownsRow (tb + 1) 67 2 tv Ok.length (loCells Ok) ∧ Fr (fun q => q = rb ∨ q = g) w w5 ∧ PgIs w5 rb day sp ex (.slice (some ⟨g, 0, none⟩) Lk2.length c) nm (.map (some mb)) ∧ w5.ownsRow B 67 2 (.slice (some ⟨g, 0, none⟩) Lk2.length c) Lk2.length (loCells Lk2) ∧ w5.heap[w.heap.size]? = some (.cells #[.pointer (some ⟨rb, 0, none⟩)] 59 (0, 0)) ∧ w5.heap[w.heap.size + 1]? = some (.cells #[.int .i64 kd, .int .i64 m, .int .i64 un] 46 (0, 0))) := by
        have hk : ∀ q, w.heap.size ≤ q → q < wr.heap.size → w5.heap[q]? = wr.heap[q]? := fun q h1 h2 => hf5.block q h2 (by rintro (e | e) <;> omega)
        refine ⟨(hk tb (by omega) htl).trans HTv.out.1, row_of HTv.out.2 (fun q hq => ?_), HS.out.fr.trans hf5, hp5, hr5, (hk _ (Nat.le_refl _) (blkLt HS.out.xb)).trans HS.out.xb, (hk _ (by omega) (blkLt HS.out.ab)).trans HS.out.ab⟩
        have := row_lt HTv.out.2 q hq
        exact hk q (by omega) this.2
      clear hf5 hp5 hr5 HTf HS c0 HTv
      have t5 : (w5.alloc (Obj.cells #[.int .i64 pn, .int .i64 pu] 67)).cell? ⟨tb, 0, none⟩ = some tv := blkCell ((Below.heap_alloc _ _ _ (by omega)).trans H5.out.1) 0 _ rfl
      have HA1 : Hid (((w5.alloc (Obj.cells #[.int .i64 pn, .int .i64 pu] 67)).alloc (Obj.cells #[.int .i64 pn, .int .i64 pu] 67)).ownsRow (tb + 1) 67 2 tv Ok.length (loCells Ok) ∧ tb + 1 ≤ ((w5.alloc (Obj.cells #[.int .i64 pn, .int .i64 pu] 67)).alloc (Obj.cells #[.int .i64 pn, .int .i64 pu] 67)).heap.size) := ⟨(H5.out.2.1.alloc _).alloc _, by simp; omega⟩
      have hnw : ((w5.alloc (Obj.cells #[.int .i64 pn, .int .i64 pu] 67)).alloc (Obj.cells #[.int .i64 pn, .int .i64 pu] 67)).heap[w5.heap.size + 1]? = some (.cells #[.int .i64 pn, .int .i64 pu] 67 (0, 0)) := by
        have := heapNew (w5.alloc (Obj.cells #[.int .i64 pn, .int .i64 pu] 67)) (Obj.cells #[.int .i64 pn, .int .i64 pu] 67)
        simpa using this
      have HNw : Hid _ := hnw
      clear hnw
      obtain ⟨ta, tc, rfl⟩ := row_slice H5.out.2.1
      go_wp2_with (at_builtin; refine wpList_append_lies _ rfl _ _ 25 rfl (tb + 1) 67 i0 (.agg #[.int .i64 0, .int .i64 0]) 2 16 Try.underlying25 hi hi0 hi1 hi2 rfl (by decide) _ _ _ rfl HA1.out.1 ⟨w5.heap.size + 1, 0, none⟩ 1 1 [.int .i64 pn, .int .i64 pu] rfl rfl (World.news_of_block HNw.out) (by simp [Value.oneCell']) (by omega) (by unfold maxLen; omega) (by omega) HA1.out.2 _ rfl ?_; intro g1 cp1 w9 hown1 hgrow1 hat1 hglt1; have HF := spRound H5.out htb2 hrl hgl (by omega) hown1 hgrow1; have HF' : Hid (SpR B rb g c day sp ex nm mb kd m un w tb Lk2 Ok pn pu (.slice ta Ok.length tc) (.slice (some ⟨g1, 0, none⟩) (Ok.length + 1) cp1) w5.heap.size w9) := HF; have y0 := HF.1; have y1 := HF.2.1; have y2 := HF.2.2.1; clear HF hown1 hgrow1 hat1 hglt1)
      refine ⟨⟨k + 1, by rw [HNx2.out], ?_⟩, by simp [intOf]; omega⟩
      rw [HNx2.out]
      exact HF'.out.2.2.2 _
    · obtain ⟨hE1, hE2⟩ := HEd.out hpos
      subst hE1
      subst hE2
      clear HEd HNx
      go_wp2_with fail
      -- what is spent
      obtain ⟨tv, ht1, ht2⟩ := HS.out.tb
      have HTv : Hid (wr.heap[tb]? = some (.cells #[tv] 25 (0, 0)) ∧ wr.ownsRow (tb + 1) 67 2 tv (spO m L).length (loCells (spO m L))) := ⟨ht1, ht2⟩
      have HQ2 : Hid (∀ W : World, W = wr.drew → W.cell? ⟨w.heap.size, 0, none⟩ = some (.pointer (some ⟨rb, 0, none⟩)) ∧ W.cell? ⟨rb, 1, none⟩ = some (.int .i64 sp) ∧ W.cell? ⟨w.heap.size + 1, 1, none⟩ = some (.int .i64 m) ∧ W.frozen? ⟨rb, 1, none⟩ = false) := fun W hW => by
        subst hW
        exact ⟨blkCell (W := wr.drew) HS.out.xb 0 _ rfl, HS.out.pg.cells.2.1, blkCell (W := wr.drew) HS.out.ab 1 _ rfl, HS.out.pg.free 1⟩
      obtain ⟨Wd, hWd⟩ : ∃ Wd, Wd = wr.drew := ⟨_, rfl⟩
      have HEnd : Hid (Fr (fun q => q = rb ∨ q = g ∨ q = mb) w (Wd.setCell ⟨rb, 1, none⟩ (.int .i64 (sp + m))) ∧ PgIs (Wd.setCell ⟨rb, 1, none⟩ (.int .i64 (sp + m))) rb day (sp + m) ex (.slice (some ⟨g, 0, none⟩) (spL m L).length c) nm (.map (some mb)) ∧ (Wd.setCell ⟨rb, 1, none⟩ (.int .i64 (sp + m))).ownsRow B 67 2 (.slice (some ⟨g, 0, none⟩) (spL m L).length c) (spL m L).length (loCells (spL m L)) ∧ (Wd.setCell ⟨rb, 1, none⟩ (.int .i64 (sp + m))).heap[w.heap.size]? = some (.cells #[.pointer (some ⟨rb, 0, none⟩)] 59 (0, 0)) ∧ (Wd.setCell ⟨rb, 1, none⟩ (.int .i64 (sp + m))).heap[tb]? = some (.cells #[tv] 25 (0, 0)) ∧ (Wd.setCell ⟨rb, 1, none⟩ (.int .i64 (sp + m))).ownsRow (tb + 1) 67 2 tv (spO m L).length (loCells (spO m L)) ∧ MapV zSl (Wd.setCell ⟨rb, 1, none⟩ (.int .i64 (sp + m))) mb n f) := by
        subst hWd
        have hk : ∀ q, q ≠ rb → (wr.drew.setCell ⟨rb, 1, none⟩ (.int .i64 (sp + m))).heap[q]? = wr.heap[q]? := fun q hq => Below.heap_setCell wr.drew ⟨rb, 1, none⟩ _ q hq
        have hrg : g ≠ rb := fun e => by
          obtain ⟨cur, hc⟩ := row_type HG.out.2.1 (q := g) rfl
          have h2 : w.heap[rb]? = _ := HG.out.1
          rw [← e, hc] at h2
          simp at h2
        obtain ⟨es, ck, hme⟩ := HG.out.2.2.is
        have hmr : mb ≠ rb := fun e => by
          have h2 : w.heap[rb]? = _ := HG.out.1
          rw [← e, hme] at h2
          simp at h2
        have hmg : mb ≠ g := fun e => by
          obtain ⟨cur, hc⟩ := row_type HG.out.2.1 (q := g) rfl
          rw [← e, hme] at hc
          simp at hc
        refine ⟨(((HS.out.fr.mono (fun q hq => by rcases hq with h | h; exact .inl h; exact .inr (.inl h))).trans (Fr.of (below_drew wr))).set (b := rb) (.inl rfl) _ _), PgIs.set1 (W := wr.drew) HS.out.pg _, row_of HS.out.row (fun q hq => hk q (by cases hq; exact hrg)), (hk _ (by omega)).trans HS.out.xb, (hk _ (by omega)).trans HTv.out.1, row_of HTv.out.2 (fun q hq => hk q (by have := row_lt HTv.out.2 q hq; omega)), HG.out.2.2.block ((hk _ hmr).trans (HS.out.fr.block mb HG.out.2.2.lt (by rintro (e | e); exact hmr e; exact hmg e)))⟩
      have hws : IntKind.i64.wrap (sp + m) = sp + m := wrap_id _ (by omega) (by omega)
      refine wp_calm ?_
      refine wp_region_z (S := fun W => W = wr.drew) 11 (by kernel_rfl) rfl (fun hH => ?_)
      rw [← hWd] at hH HQ2 ⊢
      clear hWd
      refine wpAnyZ_take (i := 0) (v := .pointer (some ⟨rb, 0, none⟩)) rfl (by kernel_rfl) (by kernel_rfl) (by kernel_rfl) (by kernel_rfl) (fun _ _ _ h => h) (Or.inl ⟨by rfl, fun w hSw => by have f0 := (HQ2.out w hSw).1; clear hSw; go_simp⟩) hH ?_
      refine wpAnyZ_take (i := 1) (v := .pointer (some ⟨rb, 0, none⟩)) rfl (by kernel_rfl) (by kernel_rfl) (by kernel_rfl) (by kernel_rfl) (fun _ _ _ h => h) (Or.inl ⟨by rfl, fun w hSw => by go_simp⟩) hH ?_
      try simp only [Act.put, List.setIfInBounds_toArray, List.set_cons_zero, List.set_cons_succ, List.getElem_toArray, List.getElem_cons_succ, List.getElem_cons_zero]
      refine wpAnyZ_take (i := 2) (v := .pointer (some ⟨rb, 0, none⟩)) rfl (by kernel_rfl) (by kernel_rfl) (by kernel_rfl) (by kernel_rfl) (fun _ _ _ h => h) (Or.inl ⟨by rfl, fun w hSw => by go_simp⟩) hH ?_
      try simp only [Act.put, List.setIfInBounds_toArray, List.set_cons_zero, List.set_cons_succ, List.getElem_toArray, List.getElem_cons_succ, List.getElem_cons_zero]
      refine wpAnyZ_take (i := 3) (v := .pointer (some ⟨rb, 1, none⟩)) rfl (by kernel_rfl) (by kernel_rfl) (by kernel_rfl) (by kernel_rfl) (fun _ _ _ h => h) (Or.inl ⟨by rfl, fun w hSw => by go_simp⟩) hH ?_
      try simp only [Act.put, List.setIfInBounds_toArray, List.set_cons_zero, List.set_cons_succ, List.getElem_toArray, List.getElem_cons_succ, List.getElem_cons_zero]
      refine wpAnyZ_take (i := 4) (v := .int .i64 sp) rfl (by kernel_rfl) (by kernel_rfl) (by kernel_rfl) (by kernel_rfl) (fun _ _ _ h => h) (Or.inl ⟨by rfl, fun w hSw => by have f0 := (HQ2.out w hSw).2.1; clear hSw; go_simp⟩) hH ?_
      try simp only [Act.put, List.setIfInBounds_toArray, List.set_cons_zero, List.set_cons_succ, List.getElem_toArray, List.getElem_cons_succ, List.getElem_cons_zero]
      refine wpAnyZ_take (i := 5) (v := .pointer (some ⟨w.heap.size + 1, 1, none⟩)) rfl (by kernel_rfl) (by kernel_rfl) (by kernel_rfl) (by kernel_rfl) (fun _ _ _ h => h) (Or.inl ⟨by rfl, fun w hSw => by go_simp⟩) hH ?_
      try simp only [Act.put, List.setIfInBounds_toArray, List.set_cons_zero, List.set_cons_succ, List.getElem_toArray, List.getElem_cons_succ, List.getElem_cons_zero]
      refine wpAnyZ_take (i := 6) (v := .int .i64 m) rfl (by kernel_rfl) (by kernel_rfl) (by kernel_rfl) (by kernel_rfl) (fun _ _ _ h => h) (Or.inl ⟨by rfl, fun w hSw => by have f0 := (HQ2.out w hSw).2.2.1; clear hSw; go_simp⟩) hH ?_
      try simp only [Act.put, List.setIfInBounds_toArray, List.set_cons_zero, List.set_cons_succ, List.getElem_toArray, List.getElem_cons_succ, List.getElem_cons_zero]
      refine wpAnyZ_take (i := 7) (v := .int .i64 (sp + m)) rfl (by kernel_rfl) (by kernel_rfl) (by kernel_rfl) (by kernel_rfl) (fun _ _ _ h => h) (Or.inl ⟨by rfl, fun w hSw => by go_simp⟩) hH ?_
      try simp only [Act.put, List.setIfInBounds_toArray, List.set_cons_zero, List.set_cons_succ, List.getElem_toArray, List.getElem_cons_succ, List.getElem_cons_zero]
      refine wpAnyZ_take (i := 8) (v := .pointer (some ⟨rb, 0, none⟩)) rfl (by kernel_rfl) (by kernel_rfl) (by kernel_rfl) (by kernel_rfl) (fun _ _ _ h => h) (Or.inl ⟨by rfl, fun w hSw => by go_simp⟩) hH ?_
      try simp only [Act.put, List.setIfInBounds_toArray, List.set_cons_zero, List.set_cons_succ, List.getElem_toArray, List.getElem_cons_succ, List.getElem_cons_zero]
      refine wpAnyZ_take (i := 9) (v := .pointer (some ⟨rb, 0, none⟩)) rfl (by kernel_rfl) (by kernel_rfl) (by kernel_rfl) (by kernel_rfl) (fun _ _ _ h => h) (Or.inl ⟨by rfl, fun w hSw => by go_simp⟩) hH ?_
      try simp only [Act.put, List.setIfInBounds_toArray, List.set_cons_zero, List.set_cons_succ, List.getElem_toArray, List.getElem_cons_succ, List.getElem_cons_zero]
      refine wpAnyZ_take (i := 10) (v := .pointer (some ⟨rb, 1, none⟩)) rfl (by kernel_rfl) (by kernel_rfl) (by kernel_rfl) (by kernel_rfl) (fun _ _ _ h => h) (Or.inl ⟨by rfl, fun w hSw => by go_simp⟩) hH ?_
      try simp only [Act.put, List.setIfInBounds_toArray, List.set_cons_zero, List.set_cons_succ, List.getElem_toArray, List.getElem_cons_succ, List.getElem_cons_zero]
      refine wpAnyZ_ready (rs := [11]) (by kernel_rfl) (by simp) ?_
      refine AllReadyZ.cons rfl (fun K hK => ?_) AllReadyZ.nil
      obtain ⟨y0, y1, y2, y3⟩ := HQ2.out Wd rfl
      go_simp
      refine hK.out _ _ (Or.inl rfl) (fun _ => ?_)
      clear hK K
      try simp only [Act.put, List.setIfInBounds_toArray, List.set_cons_zero, List.set_cons_succ, List.getElem_toArray, List.getElem_cons_succ, List.getElem_cons_zero]
      refine wpAnyZ_done (by kernel_rfl) ?_ _
      simp only [calm]
      clear y0 y1 y2 y3 HQ2 hH
      generalize Wd.setCell ⟨rb, 1, none⟩ (.int .i64 (sp + m)) = We at *
      go_wp2_with fail
      refine leaves_cons (f := 37) (args := #[.pointer (some ⟨tb, 0, none⟩), .pointer (some ⟨w.heap.size, 0, none⟩)]) (by simp) (by simp [go_sem]) ?_
      refine (spend1_any tb w.heap.size rb mb n day (sp + m) ex _ nm tv f hn hwf .returning We (blkCell HEnd.out.2.2.2.2.1 0 _ rfl) (blkCell HEnd.out.2.2.2.1 0 _ rfl) HEnd.out.2.1 HEnd.out.2.2.2.2.2.2).mono ?_
      rintro e u' w6 ⟨rfl, rfl, hmp, hf6⟩
      obtain ⟨z1, z2, z3, z4, z5, z6, z7⟩ := HEnd.out
      obtain ⟨es, ck, hme⟩ := z7.is
      have hmr : rb ≠ mb := fun e => by
        have h2 : We.heap[rb]? = _ := z2
        rw [e, hme] at h2
        simp at h2
      have hmg : g ≠ mb := fun e => by
        obtain ⟨cur, hc⟩ := row_type z3 (q := g) rfl
        rw [e, hme] at hc
        simp at hc
      have hml : mb < w.heap.size := HG.out.2.2.lt
      refine ⟨_, results_tmp rfl _ _ _, rfl, z1.trans (hf6.mono (fun q hq => .inr (.inr hq))), z2.of (hf6.block rb z2.lt hmr), row_of z3 (fun q hq => by cases hq; exact hf6.block g (row_lt z3 g rfl).2 hmg), tv, hmp, row_base (row_of z6 (fun q hq => hf6.block q (row_lt z6 q hq).2 (by have := row_lt z6 q hq; show ¬ q = mb; omega))) (by omega)⟩
end Go.Proofs.Ytodncihjenlnjaa

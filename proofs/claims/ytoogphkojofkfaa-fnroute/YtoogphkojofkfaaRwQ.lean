/-
  The program's BestRoute over what its search leaves.
-/
import Derived.Test.YtoogphkojofkfaaRwM
import Derived.Test.YtoogphkojofkfaaRwP
namespace Go.Proofs.Ytoogphkojofkfaa
open Go.ChangeShapes Go.WideShapes Go.ChangeAt Go.RowKit Go.Joins Go.Deep
set_option linter.unusedVariables false

/-- What the search holds at its end: nothing, or the best route, its two rows one behind the other. -/
def DnI (lo sb : Nat) (rs : List RHp) (b : Int) (B : Option (List Int)) (W : World) : Prop :=
  ∃ v0 v1, (B = none ∧ W.heap[sb]? = some (.cells #[v0, v1, .pointer none] 53 (0, 0))) ∨ ∃ o bb q cq s cs mid, B = some o ∧ W.heap[sb]? = some (.cells #[v0, v1, .pointer (some ⟨bb, 0, none⟩)] 53 (0, 0)) ∧ W.heap[bb]? = some (.cells #[.slice q o.length cq, .slice s (trp rs b o).A.length cs, .int .i64 (trp rs b o).wt, .int .i64 (enR rs b o)] 28 (0, 0)) ∧ (lo ≤ mid ∧ mid ≤ W.heap.size) ∧ RowI lo mid W q o ∧ RowI mid W.heap.size W s (trp rs b o).A
/-- What goOn leaves, begun at the empty way. -/
def GoDone (rs : List RHp) (b : Int) (sb : Nat) (W : World) (e : Ending) (w' : World) : Prop :=
  (e = .returned (.tuple #[]) ∨ ∃ u pv, e = .panicked [{ v := .iface u pv, recovered := false }]) ∧ DnI (sb + 1) sb rs b (brB rs b) w' ∧ Fr (fun x => x = sb) W w'
theorem RowI.fr {lo hi : Nat} {W w' : World} {g : Option Addr} {L : List Int} {X : Nat → Prop} (h : RowI lo hi W g L) (hf : Fr X W w') (hX : ∀ x, X x → x < lo) : RowI lo hi w' g L := by
  rcases h with h | ⟨c, h1, ⟨h2, h3, h4⟩, h5, h6⟩
  · exact .inl h
  · have hk := hf.block c (by omega) (fun e => by have := hX c e; omega)
    refine .inr ⟨c, h1, ⟨h2, h3, Nat.le_trans h4 hf.size⟩, fun i hi => ?_, fun i hi => ?_⟩
    · have := h5 i hi
      unfold World.cell? at this ⊢
      rw [hk]; exact this
    · have := h6 i hi
      unfold World.frozen? at this ⊢
      rw [hk]; exact this
/-- What the search's answer is, and that it is BestRoute's. -/
theorem DnI.ans {lo sb : Nat} {rs : List RHp} {b : Int} {w W : World} (hf : rfC rs b = 0) (h : DnI lo sb rs b (brB rs b) W) (hlo : w.heap.size ≤ lo) : ∃ q n cq s m cs wt en code, (Calls Try.prog 26 #[.pointer (some ⟨sb, 0, none⟩)] W fun e w' => e = .returned (.tuple #[.agg #[.slice q n cq, .slice s m cs, .int .i64 wt, .int .i64 en], .int .i64 code]) ∧ Below W.heap.size W w') ∧ ∀ w' (X : Nat → Prop), Fr X W w' → (∀ x, X x → x < lo) → Below w.heap.size w w' → AnsM (brC rs b) (brL rs b) (brA rs b) (brW rs b) (brE rs b) w (.returned (.tuple #[.agg #[.slice q n cq, .slice s m cs, .int .i64 wt, .int .i64 en], .int .i64 code])) w' := by
  obtain ⟨v0, v1, h⟩ := h
  rcases h with ⟨h1, h2⟩ | ⟨o, bb, q, cq, s, cs, mid, h1, h2, h3, ⟨h4, h5⟩, h6, h7⟩
  · refine ⟨none, 0, 0, none, 0, 0, 0, 0, 8, answer_none sb v0 v1 W h2, fun w' X hfr hX hb => ?_⟩
    have hc := br_none hf h1
    obtain ⟨e1, e2, e3, e4⟩ := br_no hc (by omega)
    rw [e1, e2, e3, e4, hc]
    exact ansM_none hb
  · refine ⟨q, _, cq, s, _, cs, _, _, 0, answer_some sb bb v0 v1 q s _ cq _ cs _ _ W h2 h3, fun w' X hfr hX hb => ?_⟩
    obtain ⟨e0, e1, e2, e3, e4⟩ := br_yes hf h1
    rw [e0, e1, e2, e3, e4]
    refine ⟨q, cq, s, cs, mid, rfl, ⟨by omega, Nat.le_trans h5 hfr.size⟩, (h6.fr hfr hX).wide hlo (Nat.le_refl _) (Nat.le_trans h5 hfr.size), (h7.fr hfr (fun x hx => by have := hX x hx; omega)).wide (Nat.le_refl _) hfr.size (Nat.le_refl _), hb⟩
set_option maxHeartbeats 8000000 in
set_option maxRecDepth 4000 in
theorem implBest_fault (ad : Option Addr) (cap : Nat) (rs : List RHp) (b : Int) (hl : rs.length ≤ 100000000) (hf : rfC rs b ≠ 0) (w : World) (hr : ReadsHp w.heap.size w ad rs) :
    Calls Try.prog 6 #[.slice ad rs.length cap, .int .i64 b] w (AnsM (brC rs b) (brL rs b) (brA rs b) (brW rs b) (brE rs b) w) := by
  obtain ⟨W0, hW0⟩ : ∃ W0, W0 = ((w.alloc (Obj.cells #[.slice none 0 0, .slice none 0 0, .int .i64 0, .int .i64 0] 28)).alloc (Obj.cells #[.int .i64 0] 3)) := ⟨_, rfl⟩
  have hb0 : Below w.heap.size w W0 := by rw [hW0]; exact chain (below_alloc _ _) (below_alloc _ _)
  have hrx : W0.heap[w.heap.size]? = some (.cells #[.slice none 0 0, .slice none 0 0, .int .i64 0, .int .i64 0] 28 (0, 0)) := by rw [hW0]; exact (Below.heap_alloc _ _ _ (by simp only [World.size_alloc]; omega)).trans (heapNew _ _)
  have hcx : W0.heap[w.heap.size + 1]? = some (.cells #[.int .i64 0] 3 (0, 0)) := by rw [hW0]; have := heapNew (w.alloc (Obj.cells #[.slice none 0 0, .slice none 0 0, .int .i64 0, .int .i64 0] 28)) (Obj.cells #[.int .i64 0] 3); simpa using this
  have HF : Hid (∀ W, Below w.heap.size w W → Calls Try.prog 23 #[.slice ad rs.length cap, .int .i64 b] W fun e w' => e = .returned (.int .i64 (rfC rs b)) ∧ Below W.heap.size W w') := fun W hb => impFault_any ad cap rs b hl W ((hr.below hb).mono hb.size)
  have hfb : (rfC rs b != 0) = true := by simpa using hf
  have HNo : Hid (∀ w', Below w.heap.size w w' → AnsM (brC rs b) (brL rs b) (brA rs b) (brW rs b) (brE rs b) w (.returned (.tuple #[.agg #[.slice none 0 0, .slice none 0 0, .int .i64 0, .int .i64 0], .int .i64 (rfC rs b)])) w') := fun w' h3 => by
    obtain ⟨e1, e2, e3, e4⟩ := br_no (br_fault hf) hf
    rw [e1, e2, e3, e4, br_fault hf]
    exact ansM_none h3
  have HB : Hid (Below w.heap.size w W0 ∧ W0.heap[w.heap.size]? = some (.cells #[.slice none 0 0, .slice none 0 0, .int .i64 0, .int .i64 0] 28 (0, 0)) ∧ W0.heap[w.heap.size + 1]? = some (.cells #[.int .i64 0] 3 (0, 0))) := ⟨hb0, hrx, hcx⟩
  clear hr hf hb0 hrx hcx
  generalize rfC rs b = fv at *
  generalize AnsM (brC rs b) (brL rs b) (brA rs b) (brW rs b) (brE rs b) w = Post at *
  go_enter_defers Try.func6, Try.ntmps6
  go_wp2_with fail
  rw [← hW0]
  clear hW0
  refine (HF.out W0 HB.out.1).mono ?_
  rintro e w1 ⟨rfl, hb1⟩
  have hr1 := (hb1.block _ (blkLt HB.out.2.1)).trans HB.out.2.1
  have hc1 := (hb1.block _ (blkLt HB.out.2.2)).trans HB.out.2.2
  obtain ⟨z0, z1, z2, z3⟩ := (show w1.cell? ⟨w.heap.size, 0, none⟩ = some (.slice none 0 0) ∧ w1.cell? ⟨w.heap.size, 1, none⟩ = some (.slice none 0 0) ∧ w1.cell? ⟨w.heap.size, 2, none⟩ = some (.int .i64 0) ∧ w1.cell? ⟨w.heap.size, 3, none⟩ = some (.int .i64 0) from ⟨blkCell hr1 0 _ rfl, blkCell hr1 1 _ rfl, blkCell hr1 2 _ rfl, blkCell hr1 3 _ rfl⟩)
  have y0 := blkFree hr1 0
  have y1 := blkFree hr1 1
  have y2 := blkFree hr1 2
  have y3 := blkFree hr1 3
  have x0 : w1.cell? ⟨w.heap.size + 1, 0, none⟩ = some (.int .i64 0) := blkCell hc1 0 _ rfl
  have x1 := blkFree hc1 0
  have hlow : Below w.heap.size w w1 := chain HB.out.1 hb1
  clear hr1 hc1 HF HB hb1
  go_wp2_with fail
  refine ⟨.tuple #[.agg #[.slice none 0 0, .slice none 0 0, .int .i64 0, .int .i64 0], .int .i64 fv], by simp [results, Try.results6, go_sem, z0, z1, z2, z3, x0], ?_⟩
  refine HNo.out _ ?_
  repeat refine Below.setCell ?_ (by dsimp only; omega) _
  exact hlow
set_option maxHeartbeats 8000000 in
set_option maxRecDepth 4000 in
theorem implBest_search (ad : Option Addr) (cap : Nat) (rs : List RHp) (b : Int) (hl : rs.length ≤ 100000000) (hf : rfC rs b = 0) (w : World) (hr : ReadsHp w.heap.size w ad rs)
    (HGo : Hid (∀ sb W, w.heap.size ≤ sb → Below w.heap.size w W → W.heap[sb]? = some (.cells #[.slice ad rs.length cap, .int .i64 (leN b rs), .pointer none] 53 (0, 0)) → Calls Try.prog 27 #[.pointer (some ⟨sb, 0, none⟩), .agg #[.slice none 0 0, .slice none 0 0, .int .i64 0, .int .i64 b, .int .i64 0, .int .i64 0, .int .i64 0, .int .i64 0, .int .i64 0]] W (GoDone rs b sb W))) :
    Calls Try.prog 6 #[.slice ad rs.length cap, .int .i64 b] w (AnsM (brC rs b) (brL rs b) (brA rs b) (brW rs b) (brE rs b) w) := by
  have hmf : ∀ (fn : Fn) (first cap : Array Value) (w : World), (Instr.makeFunc fn first cap).run Try.prog w = .ok (.func fn first cap) w := fun _ _ _ _ => rfl
  obtain ⟨W0, hW0⟩ : ∃ W0, W0 = ((w.alloc (Obj.cells #[.slice none 0 0, .slice none 0 0, .int .i64 0, .int .i64 0] 28)).alloc (Obj.cells #[.int .i64 0] 3)) := ⟨_, rfl⟩
  have hb0 : Below w.heap.size w W0 := by rw [hW0]; exact chain (below_alloc _ _) (below_alloc _ _)
  have hrx : W0.heap[w.heap.size]? = some (.cells #[.slice none 0 0, .slice none 0 0, .int .i64 0, .int .i64 0] 28 (0, 0)) := by rw [hW0]; exact (Below.heap_alloc _ _ _ (by simp only [World.size_alloc]; omega)).trans (heapNew _ _)
  have hcx : W0.heap[w.heap.size + 1]? = some (.cells #[.int .i64 0] 3 (0, 0)) := by rw [hW0]; have := heapNew (w.alloc (Obj.cells #[.slice none 0 0, .slice none 0 0, .int .i64 0, .int .i64 0] 28)) (Obj.cells #[.int .i64 0] 3); simpa using this
  obtain ⟨h7, hs, hb⟩ := rf_zero hf
  have HF : Hid (∀ W, Below w.heap.size w W → Calls Try.prog 23 #[.slice ad rs.length cap, .int .i64 b] W fun e w' => e = .returned (.int .i64 0) ∧ Below W.heap.size W w') := fun W hb => by
    have := impFault_any ad cap rs b hl W ((hr.below hb).mono hb.size)
    rwa [hf] at this
  have HLe : Hid (∀ W, Below w.heap.size w W → Calls Try.prog 24 #[.slice ad rs.length cap, .int .i64 b] W fun e w' => e = .returned (.int .i64 (leN b rs)) ∧ Below W.heap.size W w') := fun W hW => impLeastEnd_any ad cap rs b h7 hs hb W ((hr.below hW).mono hW.size)
  have HB : Hid (Below w.heap.size w W0 ∧ W0.heap[w.heap.size]? = some (.cells #[.slice none 0 0, .slice none 0 0, .int .i64 0, .int .i64 0] 28 (0, 0)) ∧ W0.heap[w.heap.size + 1]? = some (.cells #[.int .i64 0] 3 (0, 0))) := ⟨hb0, hrx, hcx⟩
  have hf' := hf
  clear hr hf hb0 hrx hcx h7 hs hb
  generalize leN b rs = bd at *
  go_enter_defers Try.func6, Try.ntmps6
  go_wp2_with fail
  rw [← hW0]
  clear hW0
  refine (HF.out W0 HB.out.1).mono ?_
  rintro e w1 ⟨rfl, hb1⟩
  have HB1 : Hid (Below w.heap.size w w1 ∧ w1.heap[w.heap.size]? = some (.cells #[.slice none 0 0, .slice none 0 0, .int .i64 0, .int .i64 0] 28 (0, 0)) ∧ w1.heap[w.heap.size + 1]? = some (.cells #[.int .i64 0] 3 (0, 0))) := ⟨chain HB.out.1 hb1, (hb1.block _ (blkLt HB.out.2.1)).trans HB.out.2.1, (hb1.block _ (blkLt HB.out.2.2)).trans HB.out.2.2⟩
  clear HF HB hb1
  go_wp2_with fail
  refine (HLe.out w1 HB1.out.1).mono ?_
  rintro e w2 ⟨rfl, hb2⟩
  have HB2 : Hid (Below w.heap.size w w2 ∧ w2.heap[w.heap.size]? = some (.cells #[.slice none 0 0, .slice none 0 0, .int .i64 0, .int .i64 0] 28 (0, 0)) ∧ w2.heap[w.heap.size + 1]? = some (.cells #[.int .i64 0] 3 (0, 0))) := ⟨chain HB1.out.1 hb2, (hb2.block _ (blkLt HB1.out.2.1)).trans HB1.out.2.1, (hb2.block _ (blkLt HB1.out.2.2)).trans HB1.out.2.2⟩
  clear HB1 HLe hb2
  go_wp2_with fail
  refine (HGo.out _ _ HB2.out.1.size (chain HB2.out.1 (below_alloc _ _)) (heapNew _ _)).mono ?_
  rintro e w3 ⟨he, hd, hfr⟩
  have hl2 := blkLt HB2.out.2.2
  have hba := below_alloc w2 (Obj.cells #[.slice ad rs.length cap, .int .i64 bd, .pointer none] 53)
  have hR3 := (hfr.block w.heap.size (by simp; omega) (by omega)).trans ((hba.block _ (by omega)).trans HB2.out.2.1)
  have hC3 := (hfr.block (w.heap.size + 1) (by simp; omega) (by omega)).trans ((hba.block _ (by omega)).trans HB2.out.2.2)
  have hl3 : Below w.heap.size w w3 := Fr.below (chain HB2.out.1 hba) hfr (by simp; omega) (fun k hk => by subst hk; omega)
  obtain ⟨q, n, cq, s, m, cs, wt, en, code, hA, hEnd⟩ := hd.ans (w := w) hf' (by omega)
  have HEnd : Hid (∀ w' (X : Nat → Prop), Fr X w3 w' → (∀ x, X x → x < w2.heap.size + 1) → Below w.heap.size w w' → AnsM (brC rs b) (brL rs b) (brA rs b) (brW rs b) (brE rs b) w (.returned (.tuple #[.agg #[.slice q n cq, .slice s m cs, .int .i64 wt, .int .i64 en], .int .i64 code])) w') := hEnd
  have H3 : Hid (Below w.heap.size w w3 ∧ w3.heap[w.heap.size]? = some (.cells #[.slice none 0 0, .slice none 0 0, .int .i64 0, .int .i64 0] 28 (0, 0)) ∧ w3.heap[w.heap.size + 1]? = some (.cells #[.int .i64 0] 3 (0, 0))) := ⟨hl3, hR3, hC3⟩
  clear hEnd hd hfr hba hR3 hC3 hl3 HGo HB2 hf'
  generalize AnsM (brC rs b) (brL rs b) (brA rs b) (brW rs b) (brE rs b) w = Post at *
  obtain ⟨sb, hsb⟩ : ∃ sb, sb = w2.heap.size := ⟨_, rfl⟩
  rw [← hsb] at hl2 HEnd hA
  try rw [← hsb]
  rcases he with rfl | ⟨u, pv, rfl⟩
  · go_wp2_with fail
    try rw [← hsb]
    refine hA.mono ?_
    rintro e w4 ⟨rfl, hb4⟩
    have H4 : Hid (Below w3.heap.size w3 w4 ∧ Below w.heap.size w w4) := ⟨hb4, chain H3.out.1 hb4⟩
    have hr1 := (hb4.block _ (blkLt H3.out.2.1)).trans H3.out.2.1
    have hc1 := (hb4.block _ (blkLt H3.out.2.2)).trans H3.out.2.2
    obtain ⟨z0, z1, z2, z3⟩ := (show w4.cell? ⟨w.heap.size, 0, none⟩ = some (.slice none 0 0) ∧ w4.cell? ⟨w.heap.size, 1, none⟩ = some (.slice none 0 0) ∧ w4.cell? ⟨w.heap.size, 2, none⟩ = some (.int .i64 0) ∧ w4.cell? ⟨w.heap.size, 3, none⟩ = some (.int .i64 0) from ⟨blkCell hr1 0 _ rfl, blkCell hr1 1 _ rfl, blkCell hr1 2 _ rfl, blkCell hr1 3 _ rfl⟩)
    have y0 := blkFree hr1 0
    have y1 := blkFree hr1 1
    have y2 := blkFree hr1 2
    have y3 := blkFree hr1 3
    have x0 : w4.cell? ⟨w.heap.size + 1, 0, none⟩ = some (.int .i64 0) := blkCell hc1 0 _ rfl
    have x1 := blkFree hc1 0
    clear hr1 hc1 hb4 hA
    go_wp2_with fail
    refine leaves_cons (f := 25) (args := #[.pointer (some ⟨w2.heap.size, 0, none⟩), .pointer (some ⟨w.heap.size, 0, none⟩), .pointer (some ⟨w.heap.size + 1, 0, none⟩)]) (by simp) (by simp [go_sem]) ?_
    refine (calm_returning _ _ _ _).mono ?_
    rintro e u' w6 ⟨rfl, rfl, rfl⟩
    refine ⟨.tuple #[.agg #[.slice q n cq, .slice s m cs, .int .i64 wt, .int .i64 en], .int .i64 code], by simp [results, Try.results6, go_sem, z0, z1, z2, z3, x0], ?_⟩
    refine HEnd.out _ (fun x => x = w.heap.size ∨ x = w.heap.size + 1) ?_ (fun x hx => by rcases hx with e | e <;> omega) ?_
    · exact Fr.set (X := fun x => x = w.heap.size ∨ x = w.heap.size + 1) (Fr.set (X := fun x => x = w.heap.size ∨ x = w.heap.size + 1) (Fr.set (X := fun x => x = w.heap.size ∨ x = w.heap.size + 1) (Fr.set (X := fun x => x = w.heap.size ∨ x = w.heap.size + 1) (Fr.set (X := fun x => x = w.heap.size ∨ x = w.heap.size + 1) (Fr.of H4.out.1) (.inl rfl) _ _) (.inl rfl) _ _) (.inl rfl) _ _) (.inl rfl) _ _) (.inr rfl) _ _
    · repeat refine Below.setCell ?_ (by dsimp only; omega) _
      exact H4.out.2
  · refine leaves_cons (f := 25) (args := #[.pointer (some ⟨sb, 0, none⟩), .pointer (some ⟨w.heap.size, 0, none⟩), .pointer (some ⟨w.heap.size + 1, 0, none⟩)]) (by simp) (by simp [go_sem]) ?_
    refine (calm_panicking sb w.heap.size (w.heap.size + 1) u pv [] q s n cq m cs wt en code _ _ _ _ _ w3 (fun W h => by subst h; exact hA) H3.out.2.1 H3.out.2.2 (by omega)).mono ?_
    rintro e u' w6 ⟨rfl, rfl, hf6, hr6, hc6⟩
    obtain ⟨z0, z1, z2, z3⟩ := (show w6.cell? ⟨w.heap.size, 0, none⟩ = some (.slice q n cq) ∧ w6.cell? ⟨w.heap.size, 1, none⟩ = some (.slice s m cs) ∧ w6.cell? ⟨w.heap.size, 2, none⟩ = some (.int .i64 wt) ∧ w6.cell? ⟨w.heap.size, 3, none⟩ = some (.int .i64 en) from ⟨blkCell hr6 0 _ rfl, blkCell hr6 1 _ rfl, blkCell hr6 2 _ rfl, blkCell hr6 3 _ rfl⟩)
    have x0 : w6.cell? ⟨w.heap.size + 1, 0, none⟩ = some (.int .i64 code) := blkCell hc6 0 _ rfl
    have hfin := HEnd.out w6 (fun x => x = w.heap.size ∨ x = w.heap.size + 1) hf6 (fun x hx => by rcases hx with e | e <;> omega) (Fr.below H3.out.1 hf6 H3.out.1.size (fun k hk => by rcases hk with e | e <;> omega))
    simp [Leaves, settle, results, Try.results6, go_sem, z0, z1, z2, z3, x0]
    exact hfin
end Go.Proofs.Ytoogphkojofkfaa

/-
  Contract of the program's search for the shortest way where picks are left.
-/
import Derived.Test.YthmhpgbkapjjkaaBpB
namespace Go.Proofs.Ythmhpgbkapjjkaa
open Go.ChangeShapes Go.WideShapes Go.ChangeAt Go.RowKit Go.Joins Go.Deep
set_option linter.unusedVariables false

theorem rowI_take {w : World} {B g n c : Nat} {xs : List Value} (h : w.ownsRow B 3 1 (.slice (some ⟨g, 0, none⟩) n c) n xs) (p : Nat) (hp : p ≤ n) : w.ownsRow B 3 1 (.slice (some ⟨g, 0, none⟩) p c) p (xs.take p) := by
  obtain ⟨h1, h2⟩ := h
  rcases h2 with ⟨h2, _⟩ | ⟨g', cap, cur, e, r0, r1, r2, r3, r4, r5⟩
  · cases h2
  simp at e
  obtain ⟨rfl, rfl⟩ := e
  refine ⟨by rw [List.length_take, h1]; omega, .inr ⟨g, c, cur, rfl, r0, r1, by omega, r3, r4, ?_⟩⟩
  rw [← r5, List.take_take]
  congr 1
  omega
section
variable {B sb wb : Nat} {a p g : Int} {ad : Option Addr} {cap : Nat} {rs : List RPt} {ga : Option Addr} {gc : Nat} {L : List Int} {q : RPt} {len : Int} {b b2 : Option (List Int × Int)} {ob : Option Nat} {W wr w2 w0 : World}
theorem GoI.low (h : GoI B sb wb a p g ad cap rs ga gc L q len b ob W wr) (hlow : Below B w0 W) (hB : w0.heap.size = B) (hsb : B ≤ sb) : Below B w0 wr := Fr.below hlow h.fr (by rw [← hB]; exact hlow.size) (fun k hk => by
  rcases hk with rfl | hk
  · exact hsb
  · exact (row_lt h.row k hk).1)
theorem GoI.sep (h : GoI B sb wb a p g ad cap rs ga gc L q len b ob W wr) (hv : ∀ x, Value.ownBlock (.slice ga L.length gc) = some x → x < W.heap.size) (hsep : ∀ x, Value.ownBlock (.slice ga L.length gc) = some x → ob ≠ some x) : ∃ oj, PsI B sb a p g ad cap rs b oj wr ∧ (∀ x, oj = some x → ob = some x ∨ W.heap.size ≤ x) ∧ ∀ x, Value.ownBlock (.slice ga L.length gc) = some x → oj ≠ some x := by
  obtain ⟨oj, h1, h2⟩ := h.ps
  refine ⟨oj, h1, h2, fun x hx e => ?_⟩
  rcases h2 x e with k | k
  · exact hsep x hx k
  · have := hv x hx; omega
theorem PsI.oblt {x : Nat} (h : PsI B sb a p g ad cap rs b ob W) (hx : ob = some x) : x < W.heap.size := by
  obtain ⟨bp, _, h2⟩ := h
  rcases h2 with ⟨_, _, h3⟩ | ⟨O, l, bb, go, co, _, _, _, h4, h5⟩
  · rw [h3] at hx; cases hx
  · exact (row_lt h4 x (by rw [← h5]; exact hx)).2
theorem GoI.notRow (h : GoI B sb wb a p g ad cap rs ga gc L q len b ob W wr) {x : Nat} {cur : Array Value} (hc : wr.heap[x]? = some (.cells cur 3 (0, 0))) : wb ≠ x ∧ sb ≠ x := by
  obtain ⟨oj, ⟨bp, h1, _⟩, _⟩ := h.ps
  refine ⟨fun e => ?_, fun e => ?_⟩
  · have := h.box; rw [e, hc] at this; simp at this
  · rw [e, hc] at h1; simp at h1
theorem GoI.two (h : GoI B sb wb a p g ad cap rs ga gc L q len b ob W wr) : wb ≠ sb := by
  obtain ⟨oj, ⟨bp, h1, _⟩, _⟩ := h.ps
  intro e
  have := h.box
  rw [e, h1] at this; simp at this
theorem GoI.grow (h : GoI B sb wb a p g ad cap rs ga gc L q len b ob W wr) (hv : ∀ x, Value.ownBlock (.slice ga L.length gc) = some x → x < W.heap.size) (hsep : ∀ x, Value.ownBlock (.slice ga L.length gc) = some x → ob ≠ some x) (hg : wr.grownBy w2 (Value.ownBlock (.slice ga L.length gc))) (hr : w2.ownsRow B 3 1 (.slice ga L.length gc) L.length (inV L)) : GoI B sb wb a p g ad cap rs ga gc L q len b ob W w2 := by
  obtain ⟨oj, h1, h2, h3⟩ := h.sep hv hsep
  refine ⟨⟨oj, h1.row hg (fun x hx => ⟨row_type h.row hx, h3 x hx⟩), h2⟩, (hg.block wb (blkLt h.box) (fun e => ?_)).trans h.box, hr, h.fr.trans ((fr_grown hg).mono (fun k hk => .inr hk))⟩
  obtain ⟨cur, hc⟩ := row_type h.row e.symm
  exact (h.notRow hc).1 rfl
/-- Behind a way that is one pick longer. -/
theorem GoI.child {j : Int} {g1 c1 : Nat} {oj : Option Nat} {e : Ending} (h : GoI B sb wb a p g ad cap rs ga gc L q len b ob W wr) (hv : ∀ x, Value.ownBlock (.slice ga L.length gc) = some x → x < W.heap.size) (hoj : ∀ x, oj = some x → ob = some x ∨ W.heap.size ≤ x) (hc : wr.ownsRow B 3 1 (.slice (some ⟨g1, 0, none⟩) (L.length + 1) c1) (L.length + 1) (inV (L ++ [j]))) (hg1 : (ga = some ⟨g1, 0, none⟩ ∧ c1 = gc) ∨ W.heap.size ≤ g1)
    (hq : GoQ B sb a p g ad cap rs (.slice (some ⟨g1, 0, none⟩) (L.length + 1) c1) (L ++ [j]) b2 oj wr e w2) : e = .returned (.tuple #[]) ∧ GoI B sb wb a p g ad cap rs ga gc L q len b2 ob W w2 := by
  obtain ⟨he, oj2, q1, q2, q3, q4⟩ := hq
  obtain ⟨cur, hcur⟩ := row_type hc (q := g1) rfl
  obtain ⟨n1, n2⟩ := h.notRow hcur
  have hold : ∀ x, x < wr.heap.size → x ≠ sb → x ≠ g1 → w2.heap[x]? = wr.heap[x]? := fun x hx k1 k2 => q4.block x hx (fun k => by
    rcases k with k | k
    · exact k1 k
    · exact k2 (by simpa [Value.ownBlock] using k.symm))
  refine ⟨he, ⟨oj2, q1, fun x hx => ?_⟩, (hold wb (blkLt h.box) h.two n1).trans h.box, ?_, ⟨q4.os.trans h.fr.os, q4.tape.trans h.fr.tape, q4.output.trans h.fr.output, Nat.le_trans h.fr.size q4.size, fun x hx hX => ?_⟩⟩
  · rcases q3 x hx with k | k
    · exact hoj x k
    · exact .inr (Nat.le_trans h.fr.size k)
  · rcases hg1 with ⟨rfl, rfl⟩ | hg1
    · rw [List.length_append] at q2
      have := rowI_take (p := L.length) q2 (by simp)
      have e2 : (inV (L ++ [j])).take L.length = inV L := by simp [inV]
      rw [e2] at this
      exact this
    · refine row_of h.row (fun x hx => ?_)
      have := hv x hx
      have hx2 := row_lt h.row x hx
      obtain ⟨cu, hcu⟩ := row_type h.row hx
      exact hold x hx2.2 (fun k => (h.notRow hcu).2 k.symm) (by omega)
  · refine (hold x (Nat.lt_of_lt_of_le hx h.fr.size) (fun k => hX (.inl k)) (fun k => ?_)).trans (h.fr.block x hx hX)
    rcases hg1 with ⟨k2, _⟩ | hg1
    · exact hX (.inr (by rw [k2, k]; rfl))
    · omega
def S9 (B sb wb nb : Nat) (a p g : Int) (ad : Option Addr) (cap : Nat) (rs : List RPt) (ga : Option Addr) (gc : Nat) (L : List Int) (q : RPt) (len : Int) (r : RPt) (ob : Option Nat) (W wr : World) : Prop :=
  (∃ b, GoI B sb wb a p g ad cap rs ga gc L q len b ob W wr) ∧ wr.heap[nb]? = some (.cells #[.int .i64 r.ai, .int .i64 r.pl] 35 (0, 0))
theorem S9.bx {nb : Nat} {r : RPt} (h : S9 B sb wb nb a p g ad cap rs ga gc L q len r ob W wr) : wr.cell? ⟨wb, 0, none⟩ = some (.slice ga L.length gc) ∧ wr.cell? ⟨wb, 1, none⟩ = some (.int .i64 q.ai) ∧ wr.cell? ⟨wb, 2, none⟩ = some (.int .i64 q.pl) ∧ wr.cell? ⟨wb, 3, none⟩ = some (.int .i64 len) := by
  obtain ⟨⟨b, h1⟩, h2⟩ := h
  exact h1.bx
theorem S9.sc {nb : Nat} {r : RPt} (h : S9 B sb wb nb a p g ad cap rs ga gc L q len r ob W wr) : wr.cell? ⟨sb, 0, none⟩ = some (.int .i64 a) ∧ wr.cell? ⟨sb, 1, none⟩ = some (.int .i64 p) ∧ wr.cell? ⟨sb, 2, none⟩ = some (.int .i64 g) ∧ wr.cell? ⟨sb, 3, none⟩ = some (.slice ad rs.length cap) := by
  obtain ⟨⟨b, h1⟩, h2⟩ := h
  exact h1.sc
theorem S9.pk {nb : Nat} {r : RPt} (h : S9 B sb wb nb a p g ad cap rs ga gc L q len r ob W wr) : wr.cell? ⟨nb, 0, none⟩ = some (.int .i64 r.ai) ∧ wr.cell? ⟨nb, 1, none⟩ = some (.int .i64 r.pl) := ⟨blkCell h.2 0 _ rfl, blkCell h.2 1 _ rfl⟩
theorem sps_at {m : Nat} (hs : spsB a p rs = true) (hm : m < rs.length) : spB a p (rs.getD m zPt) = true := sps_mem hs _ (by rw [List.getD_eq_getElem?_getD, List.getElem?_eq_getElem hm]; exact List.getElem_mem hm)
end
set_option maxHeartbeats 8000000 in
set_option maxRecDepth 4000 in
theorem go_succ (B sb : Nat) (a p g : Int) (ad : Option Addr) (cap : Nat) (rs : List RPt) (hh : hlB a p g = true) (hs : spsB a p rs = true) (h9 : rs.length ≤ 9) (w0 : World) (hB : w0.heap.size = B) (hr0 : ReadsPt B w0 ad rs) (hsb : B ≤ sb) (k : Nat) (IH : Hid (∀ (L : List Int) (q : RPt) (len : Int) (b : Option (List Int × Int)) (ob : Option Nat) (v : Value) (W : World), L.length + k = rs.length → (∀ x ∈ L, 0 ≤ x ∧ x < (rs.length : Int)) → L.Nodup → spB a p q = true → (0 ≤ len ∧ len ≤ 2300 * (L.length : Int)) → PsI B sb a p g ad cap rs b ob W → W.ownsRow B 3 1 v L.length (inV L) → (∀ x, v.ownBlock = some x → ob ≠ some x) → Below B w0 W →
    Calls Try.prog 37 #[.pointer (some ⟨sb, 0, none⟩), .agg #[v, .int .i64 q.ai, .int .i64 q.pl, .int .i64 len]] W (GoQ B sb a p g ad cap rs v L (upd b (L ++ bsO p g rs k (lfL L rs.length) q, len + lsN p g rs k (lfL L rs.length) q)) ob W))) : ∀ (L : List Int) (q : RPt) (len : Int) (b : Option (List Int × Int)) (ob : Option Nat) (v : Value) (W : World), L.length + (k + 1) = rs.length → (∀ x ∈ L, 0 ≤ x ∧ x < (rs.length : Int)) → L.Nodup → spB a p q = true → (0 ≤ len ∧ len ≤ 2300 * (L.length : Int)) → PsI B sb a p g ad cap rs b ob W → W.ownsRow B 3 1 v L.length (inV L) → (∀ x, v.ownBlock = some x → ob ≠ some x) → Below B w0 W →
    Calls Try.prog 37 #[.pointer (some ⟨sb, 0, none⟩), .agg #[v, .int .i64 q.ai, .int .i64 q.pl, .int .i64 len]] W (GoQ B sb a p g ad cap rs v L (upd b (L ++ bsO p g rs (k + 1) (lfL L rs.length) q, len + lsN p g rs (k + 1) (lfL L rs.length) q)) ob W) := by
  intro L q len b ob v W hlk hin hnd hq hlen hps hrow hsep hlow
  obtain ⟨ga, gc, rfl⟩ := row_slice hrow
  have HSep : Hid (∀ x, Value.ownBlock (.slice ga L.length gc) = some x → ob ≠ some x) := hsep
  have HVl : Hid (∀ x, Value.ownBlock (.slice ga L.length gc) = some x → x < W.heap.size) := fun x hx => (row_lt hrow x hx).2
  have HLow : Hid (Below B w0 W) := hlow
  have hbd := farN_bd hh hq (sp_z hh)
  have hR := lf_len hnd hin
  have hls := ls_bd hh hs (k + 1) (lfL L rs.length) q (by omega) hq
  have HFz : Hid (∀ W, Calls Try.prog 40 #[.agg #[.int .i64 a, .int .i64 p, .int .i64 g], .agg #[.int .i64 q.ai, .int .i64 q.pl], .agg #[.int .i64 0, .int .i64 0]] W fun e w' => e = .returned (.int .i64 (farN p g q zPt)) ∧ Below W.heap.size W w') := fun W => impFar_any a p g q.ai q.pl 0 0 hh hq (sp_z hh) W
  have HFr : Hid (∀ W, Calls Try.prog 38 #[] W fun e w' => e = .returned (.agg #[.int .i64 0, .int .i64 0]) ∧ Below W.heap.size W w') := fun W => front_any W
  obtain ⟨wb, hwb⟩ : ∃ wb, wb = W.heap.size := ⟨_, rfl⟩
  obtain ⟨W1, hW1⟩ : ∃ W1, W1 = W.alloc (Obj.cells #[.slice ga L.length gc, .int .i64 q.ai, .int .i64 q.pl, .int .i64 len] 77) := ⟨_, rfl⟩
  have HE : Hid (W1 = W.alloc (Obj.cells #[.slice ga L.length gc, .int .i64 q.ai, .int .i64 q.pl, .int .i64 len] 77) ∧ wb = W.heap.size) := ⟨hW1, hwb⟩
  have HI1 : Hid (GoI B sb wb a p g ad cap rs ga gc L q len b ob W W1) := by rw [hW1, hwb]; exact GoI.start hps hrow
  clear hps hrow hsep hlow hW1 hwb
  obtain ⟨whole, hwh⟩ : ∃ whole, len + farN p g q zPt = whole := ⟨_, rfl⟩
  have hww : IntKind.i64.wrap (len + farN p g q zPt) = whole := by rw [wrap_id _ (by omega) (by omega)]; exact hwh
  have HWh : Hid (len + farN p g q zPt = whole) := hwh
  clear hwh
  generalize hfz : farN p g q zPt = fz at HFz hww hbd
  clear hfz
  go_enter Try.func37, Try.ntmps37
  go_upto_region 1 with fail
  rw [← HE.out.2, ← HE.out.1]
  refine wp_region_held_drew (S := fun W' => Below W1.heap.size W1 W') (by kernel_rfl) (below_drew _) (fun hH => ?_)
  refine wpAnyH_take (i := 0) (v := .pointer (some ⟨wb, 3, none⟩)) rfl (by kernel_rfl) (by kernel_rfl) (by kernel_rfl) (fun _ _ _ h => h) (Or.inl ⟨by rfl, fun w hSw => by clear hSw; go_simp⟩) hH ?_
  refine wpAnyH_take (i := 1) (v := .int .i64 len) rfl (by kernel_rfl) (by kernel_rfl) (by kernel_rfl) (fun _ _ _ h => h) (Or.inl ⟨by rfl, fun w hSw => by obtain ⟨f0, f1, f2, f3⟩ := (HI1.out.later hSw).bx; clear hSw; go_simp⟩) hH ?_
  try simp only [Act.put, List.setIfInBounds_toArray, List.set_cons_zero, List.set_cons_succ, List.getElem_toArray, List.getElem_cons_succ, List.getElem_cons_zero]
  refine wpAnyH_take (i := 2) (v := .pointer (some ⟨sb, 0, none⟩)) rfl (by kernel_rfl) (by kernel_rfl) (by kernel_rfl) (fun _ _ _ h => h) (Or.inl ⟨by rfl, fun w hSw => by clear hSw; go_simp⟩) hH ?_
  try simp only [Act.put, List.setIfInBounds_toArray, List.set_cons_zero, List.set_cons_succ, List.getElem_toArray, List.getElem_cons_succ, List.getElem_cons_zero]
  refine wpAnyH_take (i := 3) (v := .pointer (some ⟨sb, 0, none⟩)) rfl (by kernel_rfl) (by kernel_rfl) (by kernel_rfl) (fun _ _ _ h => h) (Or.inl ⟨by rfl, fun w hSw => by clear hSw; go_simp⟩) hH ?_
  try simp only [Act.put, List.setIfInBounds_toArray, List.set_cons_zero, List.set_cons_succ, List.getElem_toArray, List.getElem_cons_succ, List.getElem_cons_zero]
  refine wpAnyH_take (i := 4) (v := .pointer (some ⟨sb, 0, none⟩)) rfl (by kernel_rfl) (by kernel_rfl) (by kernel_rfl) (fun _ _ _ h => h) (Or.inl ⟨by rfl, fun w hSw => by clear hSw; go_simp⟩) hH ?_
  try simp only [Act.put, List.setIfInBounds_toArray, List.set_cons_zero, List.set_cons_succ, List.getElem_toArray, List.getElem_cons_succ, List.getElem_cons_zero]
  refine wpAnyH_take (i := 5) (v := .agg #[.int .i64 a, .int .i64 p, .int .i64 g]) rfl (by kernel_rfl) (by kernel_rfl) (by kernel_rfl) (fun _ _ _ h => h) (Or.inl ⟨by rfl, fun w hSw => by obtain ⟨f0, f1, f2, f3⟩ := (HI1.out.later hSw).sc; clear hSw; go_simp⟩) hH ?_
  try simp only [Act.put, List.setIfInBounds_toArray, List.set_cons_zero, List.set_cons_succ, List.getElem_toArray, List.getElem_cons_succ, List.getElem_cons_zero]
  refine wpAnyH_take (i := 6) (v := .pointer (some ⟨wb, 1, none⟩)) rfl (by kernel_rfl) (by kernel_rfl) (by kernel_rfl) (fun _ _ _ h => h) (Or.inl ⟨by rfl, fun w hSw => by clear hSw; go_simp⟩) hH ?_
  try simp only [Act.put, List.setIfInBounds_toArray, List.set_cons_zero, List.set_cons_succ, List.getElem_toArray, List.getElem_cons_succ, List.getElem_cons_zero]
  refine wpAnyH_take (i := 7) (v := .agg #[.int .i64 q.ai, .int .i64 q.pl]) rfl (by kernel_rfl) (by kernel_rfl) (by kernel_rfl) (fun _ _ _ h => h) (Or.inl ⟨by rfl, fun w hSw => by obtain ⟨f0, f1, f2, f3⟩ := (HI1.out.later hSw).bx; clear hSw; go_simp⟩) hH ?_
  try simp only [Act.put, List.setIfInBounds_toArray, List.set_cons_zero, List.set_cons_succ, List.getElem_toArray, List.getElem_cons_succ, List.getElem_cons_zero]
  refine wpAnyH_ready (rs := [8]) (by kernel_rfl) (by simp) ?_
  refine AllReadyH.cons rfl (fun K hK => ?_) AllReadyH.nil
  go_simp
  go_at_call 38
  refine (HFr.out _).mono ?_
  rintro e w2 ⟨rfl, hb2⟩
  have B2 : Hid (Below W1.heap.size W1 w2) := chain (below_drew _) hb2
  clear hb2
  refine hK.out _ _ B2.out (fun _ => ?_)
  clear hK K
  try simp only [Act.put, List.setIfInBounds_toArray, List.set_cons_zero, List.set_cons_succ, List.getElem_toArray, List.getElem_cons_succ, List.getElem_cons_zero]
  refine wpAnyH_ready (rs := [9]) (by kernel_rfl) (by simp) ?_
  refine AllReadyH.cons rfl (fun K hK => ?_) AllReadyH.nil
  go_simp
  go_at_call 40
  refine (HFz.out _).mono ?_
  rintro e w3 ⟨rfl, hb3⟩
  have B3 : Hid (Below W1.heap.size W1 w3) := chain B2.out hb3
  clear hb3
  refine hK.out _ _ B3.out (fun _ => ?_)
  clear hK K
  try simp only [Act.put, List.setIfInBounds_toArray, List.set_cons_zero, List.set_cons_succ, List.getElem_toArray, List.getElem_cons_succ, List.getElem_cons_zero]
  refine wpAnyH_take (i := 10) (v := .int .i64 whole) rfl (by kernel_rfl) (by kernel_rfl) (by kernel_rfl) (fun _ _ _ h => h) (Or.inl ⟨by rfl, fun w hSw => by clear hSw; go_simp⟩) B3.out ?_
  try simp only [Act.put, List.setIfInBounds_toArray, List.set_cons_zero, List.set_cons_succ, List.getElem_toArray, List.getElem_cons_succ, List.getElem_cons_zero]
  refine wpAnyH_take (i := 11) (v := .int .i64 whole) rfl (by kernel_rfl) (by kernel_rfl) (by kernel_rfl) (fun _ _ _ h => h) (Or.inl ⟨by rfl, fun w hSw => by clear hSw; go_simp⟩) B3.out ?_
  try simp only [Act.put, List.setIfInBounds_toArray, List.set_cons_zero, List.set_cons_succ, List.getElem_toArray, List.getElem_cons_succ, List.getElem_cons_zero]
  refine wpAnyH_done (by kernel_rfl) ?_ _
  clear hH B2
  have HI3 : Hid (GoI B sb wb a p g ad cap rs ga gc L q len b ob W w3) := HI1.out.later B3.out
  clear HI1 B3 HE HFz
  have hlb : ((L.length : Int) == (rs.length : Int)) = false := by rw [beq_eq_false_iff_ne]; omega
  obtain ⟨oj, ⟨bp, hb1, hb2⟩, hoj⟩ := HI3.out.ps
  rcases hb2 with ⟨rfl, rfl, rfl⟩ | ⟨O, l, bb, go, co, rfl, rfl, hbb, hbr, hob⟩
  · have s4 := blkCell hb1 4 _ rfl
    simp only [List.getElem_toArray, List.getElem_cons_zero, List.getElem_cons_succ] at s4
    have HOn : Hid (∀ c : List Int × Int, upd none c = some c) := fun c => rfl
    clear hb1 hoj
    go_upto_region 3 with fail
    refine wp_region_held_drew (S := fun W' => Below w3.heap.size w3 W') (by kernel_rfl) (below_drew _) (fun hH => ?_)
    refine wpAnyH_take (i := 0) (v := .pointer (some ⟨wb, 0, none⟩)) rfl (by kernel_rfl) (by kernel_rfl) (by kernel_rfl) (fun _ _ _ h => h) (Or.inl ⟨by rfl, fun w hSw => by clear hSw; go_simp⟩) hH ?_
    refine wpAnyH_take (i := 1) (v := .slice ga L.length gc) rfl (by kernel_rfl) (by kernel_rfl) (by kernel_rfl) (fun _ _ _ h => h) (Or.inl ⟨by rfl, fun w hSw => by obtain ⟨f0, f1, f2, f3⟩ := (HI3.out.later hSw).bx; clear hSw; go_simp⟩) hH ?_
    try simp only [Act.put, List.setIfInBounds_toArray, List.set_cons_zero, List.set_cons_succ, List.getElem_toArray, List.getElem_cons_succ, List.getElem_cons_zero]
    refine wpAnyH_take (i := 2) (v := .int .i64 (L.length : Int)) rfl (by kernel_rfl) (by kernel_rfl) (by kernel_rfl) (fun _ _ _ h => h) (Or.inl ⟨by rfl, fun w hSw => by clear hSw; go_simp⟩) hH ?_
    try simp only [Act.put, List.setIfInBounds_toArray, List.set_cons_zero, List.set_cons_succ, List.getElem_toArray, List.getElem_cons_succ, List.getElem_cons_zero]
    refine wpAnyH_take (i := 3) (v := .pointer (some ⟨sb, 0, none⟩)) rfl (by kernel_rfl) (by kernel_rfl) (by kernel_rfl) (fun _ _ _ h => h) (Or.inl ⟨by rfl, fun w hSw => by clear hSw; go_simp⟩) hH ?_
    try simp only [Act.put, List.setIfInBounds_toArray, List.set_cons_zero, List.set_cons_succ, List.getElem_toArray, List.getElem_cons_succ, List.getElem_cons_zero]
    refine wpAnyH_take (i := 4) (v := .pointer (some ⟨sb, 0, none⟩)) rfl (by kernel_rfl) (by kernel_rfl) (by kernel_rfl) (fun _ _ _ h => h) (Or.inl ⟨by rfl, fun w hSw => by clear hSw; go_simp⟩) hH ?_
    try simp only [Act.put, List.setIfInBounds_toArray, List.set_cons_zero, List.set_cons_succ, List.getElem_toArray, List.getElem_cons_succ, List.getElem_cons_zero]
    refine wpAnyH_take (i := 5) (v := .pointer (some ⟨sb, 3, none⟩)) rfl (by kernel_rfl) (by kernel_rfl) (by kernel_rfl) (fun _ _ _ h => h) (Or.inl ⟨by rfl, fun w hSw => by clear hSw; go_simp⟩) hH ?_
    try simp only [Act.put, List.setIfInBounds_toArray, List.set_cons_zero, List.set_cons_succ, List.getElem_toArray, List.getElem_cons_succ, List.getElem_cons_zero]
    refine wpAnyH_take (i := 6) (v := .slice ad rs.length cap) rfl (by kernel_rfl) (by kernel_rfl) (by kernel_rfl) (fun _ _ _ h => h) (Or.inl ⟨by rfl, fun w hSw => by obtain ⟨f0, f1, f2, f3⟩ := (HI3.out.later hSw).sc; clear hSw; go_simp⟩) hH ?_
    try simp only [Act.put, List.setIfInBounds_toArray, List.set_cons_zero, List.set_cons_succ, List.getElem_toArray, List.getElem_cons_succ, List.getElem_cons_zero]
    refine wpAnyH_take (i := 7) (v := .int .i64 (rs.length : Int)) rfl (by kernel_rfl) (by kernel_rfl) (by kernel_rfl) (fun _ _ _ h => h) (Or.inl ⟨by rfl, fun w hSw => by clear hSw; go_simp⟩) hH ?_
    try simp only [Act.put, List.setIfInBounds_toArray, List.set_cons_zero, List.set_cons_succ, List.getElem_toArray, List.getElem_cons_succ, List.getElem_cons_zero]
    refine wpAnyH_take (i := 8) (v := .bool false) rfl (by kernel_rfl) (by kernel_rfl) (by kernel_rfl) (fun _ _ _ h => h) (Or.inl ⟨by rfl, fun w hSw => by clear hSw; go_simp⟩) hH ?_
    try simp only [Act.put, List.setIfInBounds_toArray, List.set_cons_zero, List.set_cons_succ, List.getElem_toArray, List.getElem_cons_succ, List.getElem_cons_zero]
    refine wpAnyH_done (by kernel_rfl) ?_ _
    have HI4 : Hid (GoI B sb wb a p g ad cap rs ga gc L q len (none) ob W w3.drew) := HI3.out.later (below_drew _)
    clear hH HI3
    generalize w3.drew = w4 at *
    clear s4 HWh hww HFr
    (try clear hlt)
    obtain ⟨f0, f1, f2, f3⟩ := HI4.out.sc
    clear f0 f1 f2
    go_wp2
    go_loopw [5, 6, 58] (fun _ _ c wr => ∃ (j : Nat) (b' : Option (List Int × Int)), j ≤ rs.length ∧ c = .int .i64 (j : Int) ∧ b' = (unL (fun i => hasI L (i : Int)) j).foldl (fun b i => stepG p g rs k (lfL L rs.length) q L len b i) (none) ∧ GoI B sb wb a p g ad cap rs ga gc L q len b' ob W wr) (fun _ _ c _ => rs.length - (intOf c).toNat)
    case atStart => exact ⟨0, _, by omega, rfl, rfl, HI4.out⟩
    case round =>
      clear f3 HI4
      obtain ⟨j, b', hj, rfl, hb', hI⟩ := hrel
      have HI : Hid (GoI B sb wb a p g ad cap rs ga gc L q len b' ob W wr) := hI
      have HBs : Hid (b' = (unL (fun i => hasI L (i : Int)) j).foldl (fun b i => stepG p g rs k (lfL L rs.length) q L len b i) (none)) := hb'
      clear hI hb'
      by_cases hlt : j < rs.length
      · have hlt' : (j : Int) < (rs.length : Int) := by omega
        rcases hr0 with h | ⟨b0, o0, ha, hB0, ia⟩
        · rw [h] at hlt; simp at hlt
        subst ha
        obtain ⟨x0, x1⟩ := (ia j hlt).below (HI.out.low HLow.out hB hsb) hB0
        have HSr : Hid (spB a p (rs.getD j zPt) = true) := sps_at hs hlt
        obtain ⟨r, hr⟩ : ∃ r, r = rs.getD j zPt := ⟨_, rfl⟩
        have HR : Hid (r = rs.getD j zPt) := hr
        rw [← hr] at x0 x1
        clear hr ia
        go_upto_region 8 with fail
        obtain ⟨wn, hwn⟩ : ∃ wn, wn = wr.alloc (Obj.cells #[.int .i64 r.ai, .int .i64 r.pl] 35) := ⟨_, rfl⟩
        obtain ⟨nb, hnb⟩ : ∃ nb, nb = wr.heap.size := ⟨_, rfl⟩
        rw [← hwn, ← hnb]
        have HIn : Hid (GoI B sb wb a p g (some ⟨b0, o0, none⟩) cap rs ga gc L q len b' ob W wn ∧ wn.heap[nb]? = some (.cells #[.int .i64 r.ai, .int .i64 r.pl] 35 (0, 0))) := by
          rw [hwn, hnb]
          exact ⟨HI.out.later (below_alloc _ _), heapNew _ _⟩
        clear hwn hnb HI x0 x1
        have HCo : Hid (∀ W', Below wn.heap.size wn W' → Calls Try.prog 54 #[.slice ga L.length gc, .int .i64 (j : Int)] W' fun e w' => e = .returned (.bool (hasI L (j : Int))) ∧ W' = w') := fun W' hW' => dyContains_any ga gc L (j : Int) (by omega) W' (row_reads (HIn.out.1.later hW').row)
        have HUs := unL_succ (fun i => hasI L (i : Int)) j
        have HUS : Hid (unL (fun i => hasI L (i : Int)) (j + 1) = unL (fun i => hasI L (i : Int)) j ++ (if hasI L (j : Int) then [] else [j])) := HUs
        obtain ⟨cb, hcb⟩ : ∃ cb, hasI L (j : Int) = cb := ⟨_, rfl⟩
        have HCb : Hid (hasI L (j : Int) = cb) := hcb
        rw [hcb] at HCo HUS
        clear hcb HUs
        obtain ⟨f0, f1, f2, f3⟩ := HIn.out.1.bx
        clear f1 f2 f3
        cases cb
        · have HF : Hid (∀ W, Calls Try.prog 40 #[.agg #[.int .i64 a, .int .i64 p, .int .i64 g], .agg #[.int .i64 q.ai, .int .i64 q.pl], .agg #[.int .i64 r.ai, .int .i64 r.pl]] W fun e w' => e = .returned (.int .i64 (farN p g q r)) ∧ Below W.heap.size W w') := fun W => impFar_any a p g q.ai q.pl r.ai r.pl hh hq (by rw [HR.out]; exact HSr.out) W
          have hbf := farN_bd hh hq (show spB a p r = true by rw [HR.out]; exact HSr.out)
          obtain ⟨fa, hfa⟩ : ∃ fa, farN p g q r = fa := ⟨_, rfl⟩
          have HFa : Hid (farN p g q r = fa) := hfa
          rw [hfa] at HF hbf
          clear hfa
          have hw9 : IntKind.i64.wrap (len + fa) = len + fa := wrap_id _ (by omega) (by omega)
          go_wp2_with fail
          (first | go_at_call 54 | skip)
          refine (HCo.out _ (Below.refl _ _)).mono ?_
          rintro e w8 ⟨rfl, hb8⟩
          have HI8 : Hid (GoI B sb wb a p g (some ⟨b0, o0, none⟩) cap rs ga gc L q len b' ob W w8 ∧ w8.heap[nb]? = some (.cells #[.int .i64 r.ai, .int .i64 r.pl] 35 (0, 0))) := by rw [← hb8]; exact HIn.out
          clear HIn hb8 HCo f0
          go_upto_region 9 with fail
          obtain ⟨V, hV⟩ : ∃ V, V = w8.drew := ⟨_, rfl⟩
          have HV : Hid (GoI B sb wb a p g (some ⟨b0, o0, none⟩) cap rs ga gc L q len b' ob W V ∧ V.heap[nb]? = some (.cells #[.int .i64 r.ai, .int .i64 r.pl] 35 (0, 0))) := by
            rw [hV]
            exact ⟨HI8.out.1.later (below_drew _), ((below_drew w8).block nb (blkLt HI8.out.2)).trans HI8.out.2⟩
          refine wp_region_held_drew (S := fun W' => S9 B sb wb nb a p g (some ⟨b0, o0, none⟩) cap rs ga gc L q len r ob W W') (by kernel_rfl) (by rw [← hV]; exact ⟨⟨_, HV.out.1⟩, HV.out.2⟩) (fun hH => ?_)
          rw [← hV] at hH ⊢
          clear hV HI8
          refine wpAnyH_take (i := 0) (v := .pointer (some ⟨sb, 0, none⟩)) rfl (by kernel_rfl) (by kernel_rfl) (by kernel_rfl) (fun _ _ _ h => h) (Or.inl ⟨by rfl, fun w hSw => by clear hSw; go_simp⟩) hH ?_
          refine wpAnyH_take (i := 1) (v := .pointer (some ⟨wb, 0, none⟩)) rfl (by kernel_rfl) (by kernel_rfl) (by kernel_rfl) (fun _ _ _ h => h) (Or.inl ⟨by rfl, fun w hSw => by clear hSw; go_simp⟩) hH ?_
          try simp only [Act.put, List.setIfInBounds_toArray, List.set_cons_zero, List.set_cons_succ, List.getElem_toArray, List.getElem_cons_succ, List.getElem_cons_zero]
          refine wpAnyH_take (i := 2) (v := .slice ga L.length gc) rfl (by kernel_rfl) (by kernel_rfl) (by kernel_rfl) (fun _ _ _ h => h) (Or.inl ⟨by rfl, fun w hSw => by obtain ⟨f0, f1, f2, f3⟩ := hSw.bx; clear hSw; go_simp⟩) hH ?_
          try simp only [Act.put, List.setIfInBounds_toArray, List.set_cons_zero, List.set_cons_succ, List.getElem_toArray, List.getElem_cons_succ, List.getElem_cons_zero]
          refine wpAnyH_take (i := 3) (v := .int .i64 (j : Int)) rfl (by kernel_rfl) (by kernel_rfl) (by kernel_rfl) (fun _ _ _ h => h) (Or.inl ⟨by rfl, fun w hSw => by clear hSw; go_simp⟩) hH ?_
          try simp only [Act.put, List.setIfInBounds_toArray, List.set_cons_zero, List.set_cons_succ, List.getElem_toArray, List.getElem_cons_succ, List.getElem_cons_zero]
          refine wpAnyH_take (i := 6) (v := .agg #[.int .i64 r.ai, .int .i64 r.pl]) rfl (by kernel_rfl) (by kernel_rfl) (by kernel_rfl) (fun _ _ _ h => h) (Or.inl ⟨by rfl, fun w hSw => by obtain ⟨f0, f1⟩ := hSw.pk; clear hSw; go_simp⟩) hH ?_
          try simp only [Act.put, List.setIfInBounds_toArray, List.set_cons_zero, List.set_cons_succ, List.getElem_toArray, List.getElem_cons_succ, List.getElem_cons_zero]
          refine wpAnyH_take (i := 7) (v := .pointer (some ⟨wb, 3, none⟩)) rfl (by kernel_rfl) (by kernel_rfl) (by kernel_rfl) (fun _ _ _ h => h) (Or.inl ⟨by rfl, fun w hSw => by clear hSw; go_simp⟩) hH ?_
          try simp only [Act.put, List.setIfInBounds_toArray, List.set_cons_zero, List.set_cons_succ, List.getElem_toArray, List.getElem_cons_succ, List.getElem_cons_zero]
          refine wpAnyH_take (i := 8) (v := .int .i64 len) rfl (by kernel_rfl) (by kernel_rfl) (by kernel_rfl) (fun _ _ _ h => h) (Or.inl ⟨by rfl, fun w hSw => by obtain ⟨f0, f1, f2, f3⟩ := hSw.bx; clear hSw; go_simp⟩) hH ?_
          try simp only [Act.put, List.setIfInBounds_toArray, List.set_cons_zero, List.set_cons_succ, List.getElem_toArray, List.getElem_cons_succ, List.getElem_cons_zero]
          refine wpAnyH_take (i := 9) (v := .pointer (some ⟨sb, 0, none⟩)) rfl (by kernel_rfl) (by kernel_rfl) (by kernel_rfl) (fun _ _ _ h => h) (Or.inl ⟨by rfl, fun w hSw => by clear hSw; go_simp⟩) hH ?_
          try simp only [Act.put, List.setIfInBounds_toArray, List.set_cons_zero, List.set_cons_succ, List.getElem_toArray, List.getElem_cons_succ, List.getElem_cons_zero]
          refine wpAnyH_take (i := 10) (v := .pointer (some ⟨sb, 0, none⟩)) rfl (by kernel_rfl) (by kernel_rfl) (by kernel_rfl) (fun _ _ _ h => h) (Or.inl ⟨by rfl, fun w hSw => by clear hSw; go_simp⟩) hH ?_
          try simp only [Act.put, List.setIfInBounds_toArray, List.set_cons_zero, List.set_cons_succ, List.getElem_toArray, List.getElem_cons_succ, List.getElem_cons_zero]
          refine wpAnyH_take (i := 11) (v := .pointer (some ⟨sb, 0, none⟩)) rfl (by kernel_rfl) (by kernel_rfl) (by kernel_rfl) (fun _ _ _ h => h) (Or.inl ⟨by rfl, fun w hSw => by clear hSw; go_simp⟩) hH ?_
          try simp only [Act.put, List.setIfInBounds_toArray, List.set_cons_zero, List.set_cons_succ, List.getElem_toArray, List.getElem_cons_succ, List.getElem_cons_zero]
          refine wpAnyH_take (i := 12) (v := .agg #[.int .i64 a, .int .i64 p, .int .i64 g]) rfl (by kernel_rfl) (by kernel_rfl) (by kernel_rfl) (fun _ _ _ h => h) (Or.inl ⟨by rfl, fun w hSw => by obtain ⟨f0, f1, f2, f3⟩ := hSw.sc; clear hSw; go_simp⟩) hH ?_
          try simp only [Act.put, List.setIfInBounds_toArray, List.set_cons_zero, List.set_cons_succ, List.getElem_toArray, List.getElem_cons_succ, List.getElem_cons_zero]
          refine wpAnyH_take (i := 13) (v := .pointer (some ⟨wb, 1, none⟩)) rfl (by kernel_rfl) (by kernel_rfl) (by kernel_rfl) (fun _ _ _ h => h) (Or.inl ⟨by rfl, fun w hSw => by clear hSw; go_simp⟩) hH ?_
          try simp only [Act.put, List.setIfInBounds_toArray, List.set_cons_zero, List.set_cons_succ, List.getElem_toArray, List.getElem_cons_succ, List.getElem_cons_zero]
          refine wpAnyH_take (i := 14) (v := .agg #[.int .i64 q.ai, .int .i64 q.pl]) rfl (by kernel_rfl) (by kernel_rfl) (by kernel_rfl) (fun _ _ _ h => h) (Or.inl ⟨by rfl, fun w hSw => by obtain ⟨f0, f1, f2, f3⟩ := hSw.bx; clear hSw; go_simp⟩) hH ?_
          try simp only [Act.put, List.setIfInBounds_toArray, List.set_cons_zero, List.set_cons_succ, List.getElem_toArray, List.getElem_cons_succ, List.getElem_cons_zero]
          refine wpAnyH_take (i := 15) (v := .agg #[.int .i64 r.ai, .int .i64 r.pl]) rfl (by kernel_rfl) (by kernel_rfl) (by kernel_rfl) (fun _ _ _ h => h) (Or.inl ⟨by rfl, fun w hSw => by obtain ⟨f0, f1⟩ := hSw.pk; clear hSw; go_simp⟩) hH ?_
          try simp only [Act.put, List.setIfInBounds_toArray, List.set_cons_zero, List.set_cons_succ, List.getElem_toArray, List.getElem_cons_succ, List.getElem_cons_zero]
          refine wpAnyH_ready (rs := [4]) (by kernel_rfl) (by simp) ?_
          refine AllReadyH.cons rfl (fun K hK => ?_) AllReadyH.nil
          go_simp
          obtain ⟨V4, hV4⟩ : ∃ V4, V4 = V.alloc (Obj.cells #[.int .i64 (j : Int)] 3) := ⟨_, rfl⟩
          obtain ⟨n4, hn4⟩ : ∃ n4, n4 = V.heap.size := ⟨_, rfl⟩
          rw [← hV4, ← hn4]
          have H4 : Hid ((GoI B sb wb a p g (some ⟨b0, o0, none⟩) cap rs ga gc L q len b' ob W V4 ∧ V4.heap[nb]? = some (.cells #[.int .i64 r.ai, .int .i64 r.pl] 35 (0, 0))) ∧ V4.cell? ⟨n4, 0, none⟩ = some (.int .i64 (j : Int))) := by
            rw [hV4, hn4]
            exact ⟨⟨HV.out.1.later (below_alloc _ _), ((below_alloc V _).block nb (blkLt HV.out.2)).trans HV.out.2⟩, blkCell (heapNew _ _) 0 _ rfl⟩
          clear hV4 hn4 HV
          refine hK.out _ _ ⟨⟨_, H4.out.1.1⟩, H4.out.1.2⟩ (fun _ => ?_)
          clear hK K
          try simp only [Act.put, List.setIfInBounds_toArray, List.set_cons_zero, List.set_cons_succ, List.getElem_toArray, List.getElem_cons_succ, List.getElem_cons_zero]
          refine wpAnyH_ready (rs := [5]) (by kernel_rfl) (by simp) ?_
          refine AllReadyH.cons rfl (fun K hK => ?_) AllReadyH.nil
          refine step_int1 rfl _ _ rfl B ga gc L (j : Int) V4 rfl H4.out.1.1.row n4 rfl H4.out.2 (by omega) (Nat.le_trans (by rw [← hB]; exact HLow.out.size) H4.out.1.1.size) ?_
          intro g1 c1 V5 hr1 hr2 hg hg1
          have H5 : Hid (GoI B sb wb a p g (some ⟨b0, o0, none⟩) cap rs ga gc L q len b' ob W V5 ∧ V5.heap[nb]? = some (.cells #[.int .i64 r.ai, .int .i64 r.pl] 35 (0, 0))) := ⟨H4.out.1.1.grow HVl.out HSep.out hg hr2, (hg.block nb (blkLt H4.out.1.2) (fun e => by
            obtain ⟨cur, hc⟩ := row_type H4.out.1.1.row e.symm
            rw [H4.out.1.2] at hc
            simp at hc)).trans H4.out.1.2⟩
          have HR5 : Hid (V5.ownsRow B 3 1 (.slice (some ⟨g1, 0, none⟩) (L.length + 1) c1) (L.length + 1) (inV (L ++ [(j : Int)]))) := hr1
          have HG1 : Hid ((ga = some ⟨g1, 0, none⟩ ∧ c1 = gc) ∨ W.heap.size ≤ g1) := hg1.imp id (fun k => Nat.le_trans H4.out.1.1.size k)
          have HO5 : Hid (∃ oj, PsI B sb a p g (some ⟨b0, o0, none⟩) cap rs b' oj V5 ∧ (∀ x, oj = some x → ob = some x ∨ W.heap.size ≤ x) ∧ ∀ x, oj = some x → x ≠ g1) := by
            obtain ⟨oj, h1, h2, h3⟩ := H4.out.1.1.sep HVl.out HSep.out
            refine ⟨oj, h1.row hg (fun x hx => ⟨row_type H4.out.1.1.row hx, h3 x hx⟩), h2, fun x hx e => ?_⟩
            rcases hg1 with ⟨k1, _⟩ | k1
            · exact h3 g1 (by rw [k1]; rfl) (by rw [hx, e])
            · have := h1.oblt hx; omega
          clear hr1 hr2 hg hg1 H4
          refine hK.out _ _ ⟨⟨_, H5.out.1⟩, H5.out.2⟩ (fun _ => ?_)
          clear hK K
          try simp only [Act.put, List.setIfInBounds_toArray, List.set_cons_zero, List.set_cons_succ, List.getElem_toArray, List.getElem_cons_succ, List.getElem_cons_zero]
          refine wpAnyH_ready (rs := [16]) (by kernel_rfl) (by simp) ?_
          refine AllReadyH.cons rfl (fun K hK => ?_) AllReadyH.nil
          go_simp
          go_at_call 40
          refine (HF.out _).mono ?_
          rintro e V6 ⟨rfl, hb6⟩
          have H6 : Hid (GoI B sb wb a p g (some ⟨b0, o0, none⟩) cap rs ga gc L q len b' ob W V6 ∧ V6.heap[nb]? = some (.cells #[.int .i64 r.ai, .int .i64 r.pl] 35 (0, 0))) := ⟨H5.out.1.later hb6, (hb6.block nb (blkLt H5.out.2)).trans H5.out.2⟩
          have HIH : Hid (Calls Try.prog 37 #[.pointer (some ⟨sb, 0, none⟩), .agg #[.slice (some ⟨g1, 0, none⟩) (L.length + 1) c1, .int .i64 r.ai, .int .i64 r.pl, .int .i64 (len + fa)]] V6 fun e w' => e = .returned (.tuple #[]) ∧ GoI B sb wb a p g (some ⟨b0, o0, none⟩) cap rs ga gc L q len (stepG p g rs k (lfL L rs.length) q L len b' j) ob W w' ∧ w'.heap[nb]? = some (.cells #[.int .i64 r.ai, .int .i64 r.pl] 35 (0, 0))) := by
            obtain ⟨oj, o1, o2, o3⟩ := HO5.out
            have hr6 : V6.ownsRow B 3 1 (.slice (some ⟨g1, 0, none⟩) (L.length + 1) c1) (L.length + 1) (inV (L ++ [(j : Int)])) := row_of HR5.out (fun x hx => hb6.block x (row_lt HR5.out x hx).2)
            have hm := more_ok hnd hin hlt HCb.out
            have hi := IH.out (L ++ [(j : Int)]) r (len + fa) b' oj (.slice (some ⟨g1, 0, none⟩) (L.length + 1) c1) V6 (by simp; omega) hm.2 hm.1 (by rw [HR.out]; exact HSr.out) (by simp; omega) (o1.later hb6) (by rw [List.length_append]; exact hr6) (fun x hx e => o3 x e (by simpa [Value.ownBlock] using hx.symm)) (H6.out.1.low HLow.out hB hsb)
            refine hi.mono ?_
            intro e w' hq
            have hc := H6.out.1.child HVl.out o2 hr6 HG1.out hq
            have e9 : upd b' ((L ++ [(j : Int)]) ++ bsO p g rs k (lfL (L ++ [(j : Int)]) rs.length) r, (len + fa) + lsN p g rs k (lfL (L ++ [(j : Int)]) rs.length) r) = stepG p g rs k (lfL L rs.length) q L len b' j := by
              unfold stepG
              rw [lf_snoc, ← HR.out, HFa.out]
            rw [← e9]
            refine ⟨hc.1, hc.2, ?_⟩
            obtain ⟨_, _, _, _, _, q4⟩ := hq
            refine (q4.block nb (blkLt H6.out.2) (fun k => ?_)).trans H6.out.2
            rcases k with k | k
            · obtain ⟨_, ⟨bp, s1, _⟩, _⟩ := H6.out.1.ps
              rw [← k, H6.out.2] at s1
              simp at s1
            · obtain ⟨cur, s1⟩ := row_type hr6 k
              rw [H6.out.2] at s1
              simp at s1
          clear hb6 H5 HR5 HO5 HG1 HF
          refine hK.out _ _ ⟨⟨_, H6.out.1⟩, H6.out.2⟩ (fun _ => ?_)
          clear hK K
          try simp only [Act.put, List.setIfInBounds_toArray, List.set_cons_zero, List.set_cons_succ, List.getElem_toArray, List.getElem_cons_succ, List.getElem_cons_zero]
          refine wpAnyH_take (i := 17) (v := .int .i64 (len + fa)) rfl (by kernel_rfl) (by kernel_rfl) (by kernel_rfl) (fun _ _ _ h => h) (Or.inl ⟨by rfl, fun w hSw => by clear hSw; go_simp⟩) ⟨⟨_, H6.out.1⟩, H6.out.2⟩ ?_
          try simp only [Act.put, List.setIfInBounds_toArray, List.set_cons_zero, List.set_cons_succ, List.getElem_toArray, List.getElem_cons_succ, List.getElem_cons_zero]
          refine wpAnyH_take (i := 18) (v := .agg #[.slice (some ⟨g1, 0, none⟩) (L.length + 1) c1, .int .i64 r.ai, .int .i64 r.pl, .int .i64 (len + fa)]) rfl (by kernel_rfl) (by kernel_rfl) (by kernel_rfl) (fun _ _ _ h => h) (Or.inl ⟨by rfl, fun w hSw => by clear hSw; go_simp⟩) ⟨⟨_, H6.out.1⟩, H6.out.2⟩ ?_
          try simp only [Act.put, List.setIfInBounds_toArray, List.set_cons_zero, List.set_cons_succ, List.getElem_toArray, List.getElem_cons_succ, List.getElem_cons_zero]
          refine wpAnyH_ready (rs := [19]) (by kernel_rfl) (by simp) ?_
          refine AllReadyH.cons rfl (fun K hK => ?_) AllReadyH.nil
          go_simp
          go_at_call 37
          refine HIH.out.mono ?_
          rintro e V9 ⟨rfl, hI9, hk9⟩
          have H9 : Hid (GoI B sb wb a p g (some ⟨b0, o0, none⟩) cap rs ga gc L q len (stepG p g rs k (lfL L rs.length) q L len b' j) ob W V9) := hI9
          refine hK.out _ _ ⟨⟨_, hI9⟩, hk9⟩ (fun _ => ?_)
          clear hK K
          try simp only [Act.put, List.setIfInBounds_toArray, List.set_cons_zero, List.set_cons_succ, List.getElem_toArray, List.getElem_cons_succ, List.getElem_cons_zero]
          clear hI9 hk9 H6 HIH
          refine wpAnyH_done (by kernel_rfl) ?_ _
          clear hH
          have HB9 : Hid (stepG p g rs k (lfL L rs.length) q L len b' j = (unL (fun i => hasI L (i : Int)) (j + 1)).foldl (fun b i => stepG p g rs k (lfL L rs.length) q L len b i) (none)) := by
            have h8 : unL (fun i => hasI L (i : Int)) (j + 1) = unL (fun i => hasI L (i : Int)) j ++ [j] := HUS.out
            have h9 := HBs.out
            show stepG p g rs k (lfL L rs.length) q L len b' j = _
            rw [h8, List.foldl_append, ← h9]
            rfl
          go_wp2
          exact ⟨⟨j + 1, _, by omega, by go_num, HB9.out, H9.out⟩, by simp [intOf]; omega⟩
        · skip
          go_wp2_with fail
          (first | go_at_call 54 | skip)
          refine (HCo.out _ (Below.refl _ _)).mono ?_
          rintro e w8 ⟨rfl, hb8⟩
          have HI8 : Hid (GoI B sb wb a p g (some ⟨b0, o0, none⟩) cap rs ga gc L q len b' ob W w8 ∧ w8.heap[nb]? = some (.cells #[.int .i64 r.ai, .int .i64 r.pl] 35 (0, 0))) := by rw [← hb8]; exact HIn.out
          clear HIn hb8 HCo f0
          have HB9 : Hid (b' = (unL (fun i => hasI L (i : Int)) (j + 1)).foldl (fun b i => stepG p g rs k (lfL L rs.length) q L len b i) (none)) := by
            have h9 := HBs.out
            have h8 := HUS.out
            simp only [if_true, List.append_nil] at h8
            show b' = _
            rw [h8]
            exact h9
          go_wp2
          exact ⟨⟨j + 1, b', by omega, by go_num, HB9.out, HI8.out.1⟩, by simp [intOf]; omega⟩
      · have hle : (rs.length : Int) ≤ (j : Int) := by omega
        have hje : j = rs.length := by omega
        have HE : Hid (b' = upd (none) (L ++ bsO p g rs (k + 1) (lfL L rs.length) q, len + lsN p g rs (k + 1) (lfL L rs.length) q)) := by
          rw [HBs.out, hje]
          exact go_fold p g rs k (R := lfL L rs.length) (fun e => by rw [e] at hR; simp at hR; omega) q L len (none)
        clear hje
        go_wp2
        go_end0
        rw [← HE.out]
        exact HI.out.fin
  · have s4 := blkCell hb1 4 _ rfl
    have t3 := blkCell hbb 3 _ rfl
    simp only [List.getElem_toArray, List.getElem_cons_zero, List.getElem_cons_succ] at s4 t3
    clear hb1 hbb hbr hoj hob
    by_cases hle : l ≤ whole
    · have HUp : Hid (upd (some (O, l)) (L ++ bsO p g rs (k + 1) (lfL L rs.length) q, len + lsN p g rs (k + 1) (lfL L rs.length) q) = some (O, l)) := upd_no (by have := HWh.out; show l ≤ len + _; omega)
      go_wp2
      go_end0
      rw [HUp.out]
      exact HI3.out.fin
    · have hlt : whole < l := by omega
      clear hle
      go_upto_region 3 with fail
      refine wp_region_held_drew (S := fun W' => Below w3.heap.size w3 W') (by kernel_rfl) (below_drew _) (fun hH => ?_)
      refine wpAnyH_take (i := 0) (v := .pointer (some ⟨wb, 0, none⟩)) rfl (by kernel_rfl) (by kernel_rfl) (by kernel_rfl) (fun _ _ _ h => h) (Or.inl ⟨by rfl, fun w hSw => by clear hSw; go_simp⟩) hH ?_
      refine wpAnyH_take (i := 1) (v := .slice ga L.length gc) rfl (by kernel_rfl) (by kernel_rfl) (by kernel_rfl) (fun _ _ _ h => h) (Or.inl ⟨by rfl, fun w hSw => by obtain ⟨f0, f1, f2, f3⟩ := (HI3.out.later hSw).bx; clear hSw; go_simp⟩) hH ?_
      try simp only [Act.put, List.setIfInBounds_toArray, List.set_cons_zero, List.set_cons_succ, List.getElem_toArray, List.getElem_cons_succ, List.getElem_cons_zero]
      refine wpAnyH_take (i := 2) (v := .int .i64 (L.length : Int)) rfl (by kernel_rfl) (by kernel_rfl) (by kernel_rfl) (fun _ _ _ h => h) (Or.inl ⟨by rfl, fun w hSw => by clear hSw; go_simp⟩) hH ?_
      try simp only [Act.put, List.setIfInBounds_toArray, List.set_cons_zero, List.set_cons_succ, List.getElem_toArray, List.getElem_cons_succ, List.getElem_cons_zero]
      refine wpAnyH_take (i := 3) (v := .pointer (some ⟨sb, 0, none⟩)) rfl (by kernel_rfl) (by kernel_rfl) (by kernel_rfl) (fun _ _ _ h => h) (Or.inl ⟨by rfl, fun w hSw => by clear hSw; go_simp⟩) hH ?_
      try simp only [Act.put, List.setIfInBounds_toArray, List.set_cons_zero, List.set_cons_succ, List.getElem_toArray, List.getElem_cons_succ, List.getElem_cons_zero]
      refine wpAnyH_take (i := 4) (v := .pointer (some ⟨sb, 0, none⟩)) rfl (by kernel_rfl) (by kernel_rfl) (by kernel_rfl) (fun _ _ _ h => h) (Or.inl ⟨by rfl, fun w hSw => by clear hSw; go_simp⟩) hH ?_
      try simp only [Act.put, List.setIfInBounds_toArray, List.set_cons_zero, List.set_cons_succ, List.getElem_toArray, List.getElem_cons_succ, List.getElem_cons_zero]
      refine wpAnyH_take (i := 5) (v := .pointer (some ⟨sb, 3, none⟩)) rfl (by kernel_rfl) (by kernel_rfl) (by kernel_rfl) (fun _ _ _ h => h) (Or.inl ⟨by rfl, fun w hSw => by clear hSw; go_simp⟩) hH ?_
      try simp only [Act.put, List.setIfInBounds_toArray, List.set_cons_zero, List.set_cons_succ, List.getElem_toArray, List.getElem_cons_succ, List.getElem_cons_zero]
      refine wpAnyH_take (i := 6) (v := .slice ad rs.length cap) rfl (by kernel_rfl) (by kernel_rfl) (by kernel_rfl) (fun _ _ _ h => h) (Or.inl ⟨by rfl, fun w hSw => by obtain ⟨f0, f1, f2, f3⟩ := (HI3.out.later hSw).sc; clear hSw; go_simp⟩) hH ?_
      try simp only [Act.put, List.setIfInBounds_toArray, List.set_cons_zero, List.set_cons_succ, List.getElem_toArray, List.getElem_cons_succ, List.getElem_cons_zero]
      refine wpAnyH_take (i := 7) (v := .int .i64 (rs.length : Int)) rfl (by kernel_rfl) (by kernel_rfl) (by kernel_rfl) (fun _ _ _ h => h) (Or.inl ⟨by rfl, fun w hSw => by clear hSw; go_simp⟩) hH ?_
      try simp only [Act.put, List.setIfInBounds_toArray, List.set_cons_zero, List.set_cons_succ, List.getElem_toArray, List.getElem_cons_succ, List.getElem_cons_zero]
      refine wpAnyH_take (i := 8) (v := .bool false) rfl (by kernel_rfl) (by kernel_rfl) (by kernel_rfl) (fun _ _ _ h => h) (Or.inl ⟨by rfl, fun w hSw => by clear hSw; go_simp⟩) hH ?_
      try simp only [Act.put, List.setIfInBounds_toArray, List.set_cons_zero, List.set_cons_succ, List.getElem_toArray, List.getElem_cons_succ, List.getElem_cons_zero]
      refine wpAnyH_done (by kernel_rfl) ?_ _
      have HI4 : Hid (GoI B sb wb a p g ad cap rs ga gc L q len (some (O, l)) ob W w3.drew) := HI3.out.later (below_drew _)
      clear hH HI3
      generalize w3.drew = w4 at *
      clear s4 HWh hww HFr
      (try clear hlt)
      obtain ⟨f0, f1, f2, f3⟩ := HI4.out.sc
      clear f0 f1 f2
      go_wp2
      go_loopw [5, 6, 58] (fun _ _ c wr => ∃ (j : Nat) (b' : Option (List Int × Int)), j ≤ rs.length ∧ c = .int .i64 (j : Int) ∧ b' = (unL (fun i => hasI L (i : Int)) j).foldl (fun b i => stepG p g rs k (lfL L rs.length) q L len b i) (some (O, l)) ∧ GoI B sb wb a p g ad cap rs ga gc L q len b' ob W wr) (fun _ _ c _ => rs.length - (intOf c).toNat)
      case atStart => exact ⟨0, _, by omega, rfl, rfl, HI4.out⟩
      case round =>
        clear f3 HI4
        obtain ⟨j, b', hj, rfl, hb', hI⟩ := hrel
        have HI : Hid (GoI B sb wb a p g ad cap rs ga gc L q len b' ob W wr) := hI
        have HBs : Hid (b' = (unL (fun i => hasI L (i : Int)) j).foldl (fun b i => stepG p g rs k (lfL L rs.length) q L len b i) (some (O, l))) := hb'
        clear hI hb'
        by_cases hlt : j < rs.length
        · have hlt' : (j : Int) < (rs.length : Int) := by omega
          rcases hr0 with h | ⟨b0, o0, ha, hB0, ia⟩
          · rw [h] at hlt; simp at hlt
          subst ha
          obtain ⟨x0, x1⟩ := (ia j hlt).below (HI.out.low HLow.out hB hsb) hB0
          have HSr : Hid (spB a p (rs.getD j zPt) = true) := sps_at hs hlt
          obtain ⟨r, hr⟩ : ∃ r, r = rs.getD j zPt := ⟨_, rfl⟩
          have HR : Hid (r = rs.getD j zPt) := hr
          rw [← hr] at x0 x1
          clear hr ia
          go_upto_region 8 with fail
          obtain ⟨wn, hwn⟩ : ∃ wn, wn = wr.alloc (Obj.cells #[.int .i64 r.ai, .int .i64 r.pl] 35) := ⟨_, rfl⟩
          obtain ⟨nb, hnb⟩ : ∃ nb, nb = wr.heap.size := ⟨_, rfl⟩
          rw [← hwn, ← hnb]
          have HIn : Hid (GoI B sb wb a p g (some ⟨b0, o0, none⟩) cap rs ga gc L q len b' ob W wn ∧ wn.heap[nb]? = some (.cells #[.int .i64 r.ai, .int .i64 r.pl] 35 (0, 0))) := by
            rw [hwn, hnb]
            exact ⟨HI.out.later (below_alloc _ _), heapNew _ _⟩
          clear hwn hnb HI x0 x1
          have HCo : Hid (∀ W', Below wn.heap.size wn W' → Calls Try.prog 54 #[.slice ga L.length gc, .int .i64 (j : Int)] W' fun e w' => e = .returned (.bool (hasI L (j : Int))) ∧ W' = w') := fun W' hW' => dyContains_any ga gc L (j : Int) (by omega) W' (row_reads (HIn.out.1.later hW').row)
          have HUs := unL_succ (fun i => hasI L (i : Int)) j
          have HUS : Hid (unL (fun i => hasI L (i : Int)) (j + 1) = unL (fun i => hasI L (i : Int)) j ++ (if hasI L (j : Int) then [] else [j])) := HUs
          obtain ⟨cb, hcb⟩ : ∃ cb, hasI L (j : Int) = cb := ⟨_, rfl⟩
          have HCb : Hid (hasI L (j : Int) = cb) := hcb
          rw [hcb] at HCo HUS
          clear hcb HUs
          obtain ⟨f0, f1, f2, f3⟩ := HIn.out.1.bx
          clear f1 f2 f3
          cases cb
          · have HF : Hid (∀ W, Calls Try.prog 40 #[.agg #[.int .i64 a, .int .i64 p, .int .i64 g], .agg #[.int .i64 q.ai, .int .i64 q.pl], .agg #[.int .i64 r.ai, .int .i64 r.pl]] W fun e w' => e = .returned (.int .i64 (farN p g q r)) ∧ Below W.heap.size W w') := fun W => impFar_any a p g q.ai q.pl r.ai r.pl hh hq (by rw [HR.out]; exact HSr.out) W
            have hbf := farN_bd hh hq (show spB a p r = true by rw [HR.out]; exact HSr.out)
            obtain ⟨fa, hfa⟩ : ∃ fa, farN p g q r = fa := ⟨_, rfl⟩
            have HFa : Hid (farN p g q r = fa) := hfa
            rw [hfa] at HF hbf
            clear hfa
            have hw9 : IntKind.i64.wrap (len + fa) = len + fa := wrap_id _ (by omega) (by omega)
            go_wp2_with fail
            (first | go_at_call 54 | skip)
            refine (HCo.out _ (Below.refl _ _)).mono ?_
            rintro e w8 ⟨rfl, hb8⟩
            have HI8 : Hid (GoI B sb wb a p g (some ⟨b0, o0, none⟩) cap rs ga gc L q len b' ob W w8 ∧ w8.heap[nb]? = some (.cells #[.int .i64 r.ai, .int .i64 r.pl] 35 (0, 0))) := by rw [← hb8]; exact HIn.out
            clear HIn hb8 HCo f0
            go_upto_region 9 with fail
            obtain ⟨V, hV⟩ : ∃ V, V = w8.drew := ⟨_, rfl⟩
            have HV : Hid (GoI B sb wb a p g (some ⟨b0, o0, none⟩) cap rs ga gc L q len b' ob W V ∧ V.heap[nb]? = some (.cells #[.int .i64 r.ai, .int .i64 r.pl] 35 (0, 0))) := by
              rw [hV]
              exact ⟨HI8.out.1.later (below_drew _), ((below_drew w8).block nb (blkLt HI8.out.2)).trans HI8.out.2⟩
            refine wp_region_held_drew (S := fun W' => S9 B sb wb nb a p g (some ⟨b0, o0, none⟩) cap rs ga gc L q len r ob W W') (by kernel_rfl) (by rw [← hV]; exact ⟨⟨_, HV.out.1⟩, HV.out.2⟩) (fun hH => ?_)
            rw [← hV] at hH ⊢
            clear hV HI8
            refine wpAnyH_take (i := 0) (v := .pointer (some ⟨sb, 0, none⟩)) rfl (by kernel_rfl) (by kernel_rfl) (by kernel_rfl) (fun _ _ _ h => h) (Or.inl ⟨by rfl, fun w hSw => by clear hSw; go_simp⟩) hH ?_
            refine wpAnyH_take (i := 1) (v := .pointer (some ⟨wb, 0, none⟩)) rfl (by kernel_rfl) (by kernel_rfl) (by kernel_rfl) (fun _ _ _ h => h) (Or.inl ⟨by rfl, fun w hSw => by clear hSw; go_simp⟩) hH ?_
            try simp only [Act.put, List.setIfInBounds_toArray, List.set_cons_zero, List.set_cons_succ, List.getElem_toArray, List.getElem_cons_succ, List.getElem_cons_zero]
            refine wpAnyH_take (i := 2) (v := .slice ga L.length gc) rfl (by kernel_rfl) (by kernel_rfl) (by kernel_rfl) (fun _ _ _ h => h) (Or.inl ⟨by rfl, fun w hSw => by obtain ⟨f0, f1, f2, f3⟩ := hSw.bx; clear hSw; go_simp⟩) hH ?_
            try simp only [Act.put, List.setIfInBounds_toArray, List.set_cons_zero, List.set_cons_succ, List.getElem_toArray, List.getElem_cons_succ, List.getElem_cons_zero]
            refine wpAnyH_take (i := 3) (v := .int .i64 (j : Int)) rfl (by kernel_rfl) (by kernel_rfl) (by kernel_rfl) (fun _ _ _ h => h) (Or.inl ⟨by rfl, fun w hSw => by clear hSw; go_simp⟩) hH ?_
            try simp only [Act.put, List.setIfInBounds_toArray, List.set_cons_zero, List.set_cons_succ, List.getElem_toArray, List.getElem_cons_succ, List.getElem_cons_zero]
            refine wpAnyH_take (i := 6) (v := .agg #[.int .i64 r.ai, .int .i64 r.pl]) rfl (by kernel_rfl) (by kernel_rfl) (by kernel_rfl) (fun _ _ _ h => h) (Or.inl ⟨by rfl, fun w hSw => by obtain ⟨f0, f1⟩ := hSw.pk; clear hSw; go_simp⟩) hH ?_
            try simp only [Act.put, List.setIfInBounds_toArray, List.set_cons_zero, List.set_cons_succ, List.getElem_toArray, List.getElem_cons_succ, List.getElem_cons_zero]
            refine wpAnyH_take (i := 7) (v := .pointer (some ⟨wb, 3, none⟩)) rfl (by kernel_rfl) (by kernel_rfl) (by kernel_rfl) (fun _ _ _ h => h) (Or.inl ⟨by rfl, fun w hSw => by clear hSw; go_simp⟩) hH ?_
            try simp only [Act.put, List.setIfInBounds_toArray, List.set_cons_zero, List.set_cons_succ, List.getElem_toArray, List.getElem_cons_succ, List.getElem_cons_zero]
            refine wpAnyH_take (i := 8) (v := .int .i64 len) rfl (by kernel_rfl) (by kernel_rfl) (by kernel_rfl) (fun _ _ _ h => h) (Or.inl ⟨by rfl, fun w hSw => by obtain ⟨f0, f1, f2, f3⟩ := hSw.bx; clear hSw; go_simp⟩) hH ?_
            try simp only [Act.put, List.setIfInBounds_toArray, List.set_cons_zero, List.set_cons_succ, List.getElem_toArray, List.getElem_cons_succ, List.getElem_cons_zero]
            refine wpAnyH_take (i := 9) (v := .pointer (some ⟨sb, 0, none⟩)) rfl (by kernel_rfl) (by kernel_rfl) (by kernel_rfl) (fun _ _ _ h => h) (Or.inl ⟨by rfl, fun w hSw => by clear hSw; go_simp⟩) hH ?_
            try simp only [Act.put, List.setIfInBounds_toArray, List.set_cons_zero, List.set_cons_succ, List.getElem_toArray, List.getElem_cons_succ, List.getElem_cons_zero]
            refine wpAnyH_take (i := 10) (v := .pointer (some ⟨sb, 0, none⟩)) rfl (by kernel_rfl) (by kernel_rfl) (by kernel_rfl) (fun _ _ _ h => h) (Or.inl ⟨by rfl, fun w hSw => by clear hSw; go_simp⟩) hH ?_
            try simp only [Act.put, List.setIfInBounds_toArray, List.set_cons_zero, List.set_cons_succ, List.getElem_toArray, List.getElem_cons_succ, List.getElem_cons_zero]
            refine wpAnyH_take (i := 11) (v := .pointer (some ⟨sb, 0, none⟩)) rfl (by kernel_rfl) (by kernel_rfl) (by kernel_rfl) (fun _ _ _ h => h) (Or.inl ⟨by rfl, fun w hSw => by clear hSw; go_simp⟩) hH ?_
            try simp only [Act.put, List.setIfInBounds_toArray, List.set_cons_zero, List.set_cons_succ, List.getElem_toArray, List.getElem_cons_succ, List.getElem_cons_zero]
            refine wpAnyH_take (i := 12) (v := .agg #[.int .i64 a, .int .i64 p, .int .i64 g]) rfl (by kernel_rfl) (by kernel_rfl) (by kernel_rfl) (fun _ _ _ h => h) (Or.inl ⟨by rfl, fun w hSw => by obtain ⟨f0, f1, f2, f3⟩ := hSw.sc; clear hSw; go_simp⟩) hH ?_
            try simp only [Act.put, List.setIfInBounds_toArray, List.set_cons_zero, List.set_cons_succ, List.getElem_toArray, List.getElem_cons_succ, List.getElem_cons_zero]
            refine wpAnyH_take (i := 13) (v := .pointer (some ⟨wb, 1, none⟩)) rfl (by kernel_rfl) (by kernel_rfl) (by kernel_rfl) (fun _ _ _ h => h) (Or.inl ⟨by rfl, fun w hSw => by clear hSw; go_simp⟩) hH ?_
            try simp only [Act.put, List.setIfInBounds_toArray, List.set_cons_zero, List.set_cons_succ, List.getElem_toArray, List.getElem_cons_succ, List.getElem_cons_zero]
            refine wpAnyH_take (i := 14) (v := .agg #[.int .i64 q.ai, .int .i64 q.pl]) rfl (by kernel_rfl) (by kernel_rfl) (by kernel_rfl) (fun _ _ _ h => h) (Or.inl ⟨by rfl, fun w hSw => by obtain ⟨f0, f1, f2, f3⟩ := hSw.bx; clear hSw; go_simp⟩) hH ?_
            try simp only [Act.put, List.setIfInBounds_toArray, List.set_cons_zero, List.set_cons_succ, List.getElem_toArray, List.getElem_cons_succ, List.getElem_cons_zero]
            refine wpAnyH_take (i := 15) (v := .agg #[.int .i64 r.ai, .int .i64 r.pl]) rfl (by kernel_rfl) (by kernel_rfl) (by kernel_rfl) (fun _ _ _ h => h) (Or.inl ⟨by rfl, fun w hSw => by obtain ⟨f0, f1⟩ := hSw.pk; clear hSw; go_simp⟩) hH ?_
            try simp only [Act.put, List.setIfInBounds_toArray, List.set_cons_zero, List.set_cons_succ, List.getElem_toArray, List.getElem_cons_succ, List.getElem_cons_zero]
            refine wpAnyH_ready (rs := [4]) (by kernel_rfl) (by simp) ?_
            refine AllReadyH.cons rfl (fun K hK => ?_) AllReadyH.nil
            go_simp
            obtain ⟨V4, hV4⟩ : ∃ V4, V4 = V.alloc (Obj.cells #[.int .i64 (j : Int)] 3) := ⟨_, rfl⟩
            obtain ⟨n4, hn4⟩ : ∃ n4, n4 = V.heap.size := ⟨_, rfl⟩
            rw [← hV4, ← hn4]
            have H4 : Hid ((GoI B sb wb a p g (some ⟨b0, o0, none⟩) cap rs ga gc L q len b' ob W V4 ∧ V4.heap[nb]? = some (.cells #[.int .i64 r.ai, .int .i64 r.pl] 35 (0, 0))) ∧ V4.cell? ⟨n4, 0, none⟩ = some (.int .i64 (j : Int))) := by
              rw [hV4, hn4]
              exact ⟨⟨HV.out.1.later (below_alloc _ _), ((below_alloc V _).block nb (blkLt HV.out.2)).trans HV.out.2⟩, blkCell (heapNew _ _) 0 _ rfl⟩
            clear hV4 hn4 HV
            refine hK.out _ _ ⟨⟨_, H4.out.1.1⟩, H4.out.1.2⟩ (fun _ => ?_)
            clear hK K
            try simp only [Act.put, List.setIfInBounds_toArray, List.set_cons_zero, List.set_cons_succ, List.getElem_toArray, List.getElem_cons_succ, List.getElem_cons_zero]
            refine wpAnyH_ready (rs := [5]) (by kernel_rfl) (by simp) ?_
            refine AllReadyH.cons rfl (fun K hK => ?_) AllReadyH.nil
            refine step_int1 rfl _ _ rfl B ga gc L (j : Int) V4 rfl H4.out.1.1.row n4 rfl H4.out.2 (by omega) (Nat.le_trans (by rw [← hB]; exact HLow.out.size) H4.out.1.1.size) ?_
            intro g1 c1 V5 hr1 hr2 hg hg1
            have H5 : Hid (GoI B sb wb a p g (some ⟨b0, o0, none⟩) cap rs ga gc L q len b' ob W V5 ∧ V5.heap[nb]? = some (.cells #[.int .i64 r.ai, .int .i64 r.pl] 35 (0, 0))) := ⟨H4.out.1.1.grow HVl.out HSep.out hg hr2, (hg.block nb (blkLt H4.out.1.2) (fun e => by
              obtain ⟨cur, hc⟩ := row_type H4.out.1.1.row e.symm
              rw [H4.out.1.2] at hc
              simp at hc)).trans H4.out.1.2⟩
            have HR5 : Hid (V5.ownsRow B 3 1 (.slice (some ⟨g1, 0, none⟩) (L.length + 1) c1) (L.length + 1) (inV (L ++ [(j : Int)]))) := hr1
            have HG1 : Hid ((ga = some ⟨g1, 0, none⟩ ∧ c1 = gc) ∨ W.heap.size ≤ g1) := hg1.imp id (fun k => Nat.le_trans H4.out.1.1.size k)
            have HO5 : Hid (∃ oj, PsI B sb a p g (some ⟨b0, o0, none⟩) cap rs b' oj V5 ∧ (∀ x, oj = some x → ob = some x ∨ W.heap.size ≤ x) ∧ ∀ x, oj = some x → x ≠ g1) := by
              obtain ⟨oj, h1, h2, h3⟩ := H4.out.1.1.sep HVl.out HSep.out
              refine ⟨oj, h1.row hg (fun x hx => ⟨row_type H4.out.1.1.row hx, h3 x hx⟩), h2, fun x hx e => ?_⟩
              rcases hg1 with ⟨k1, _⟩ | k1
              · exact h3 g1 (by rw [k1]; rfl) (by rw [hx, e])
              · have := h1.oblt hx; omega
            clear hr1 hr2 hg hg1 H4
            refine hK.out _ _ ⟨⟨_, H5.out.1⟩, H5.out.2⟩ (fun _ => ?_)
            clear hK K
            try simp only [Act.put, List.setIfInBounds_toArray, List.set_cons_zero, List.set_cons_succ, List.getElem_toArray, List.getElem_cons_succ, List.getElem_cons_zero]
            refine wpAnyH_ready (rs := [16]) (by kernel_rfl) (by simp) ?_
            refine AllReadyH.cons rfl (fun K hK => ?_) AllReadyH.nil
            go_simp
            go_at_call 40
            refine (HF.out _).mono ?_
            rintro e V6 ⟨rfl, hb6⟩
            have H6 : Hid (GoI B sb wb a p g (some ⟨b0, o0, none⟩) cap rs ga gc L q len b' ob W V6 ∧ V6.heap[nb]? = some (.cells #[.int .i64 r.ai, .int .i64 r.pl] 35 (0, 0))) := ⟨H5.out.1.later hb6, (hb6.block nb (blkLt H5.out.2)).trans H5.out.2⟩
            have HIH : Hid (Calls Try.prog 37 #[.pointer (some ⟨sb, 0, none⟩), .agg #[.slice (some ⟨g1, 0, none⟩) (L.length + 1) c1, .int .i64 r.ai, .int .i64 r.pl, .int .i64 (len + fa)]] V6 fun e w' => e = .returned (.tuple #[]) ∧ GoI B sb wb a p g (some ⟨b0, o0, none⟩) cap rs ga gc L q len (stepG p g rs k (lfL L rs.length) q L len b' j) ob W w' ∧ w'.heap[nb]? = some (.cells #[.int .i64 r.ai, .int .i64 r.pl] 35 (0, 0))) := by
              obtain ⟨oj, o1, o2, o3⟩ := HO5.out
              have hr6 : V6.ownsRow B 3 1 (.slice (some ⟨g1, 0, none⟩) (L.length + 1) c1) (L.length + 1) (inV (L ++ [(j : Int)])) := row_of HR5.out (fun x hx => hb6.block x (row_lt HR5.out x hx).2)
              have hm := more_ok hnd hin hlt HCb.out
              have hi := IH.out (L ++ [(j : Int)]) r (len + fa) b' oj (.slice (some ⟨g1, 0, none⟩) (L.length + 1) c1) V6 (by simp; omega) hm.2 hm.1 (by rw [HR.out]; exact HSr.out) (by simp; omega) (o1.later hb6) (by rw [List.length_append]; exact hr6) (fun x hx e => o3 x e (by simpa [Value.ownBlock] using hx.symm)) (H6.out.1.low HLow.out hB hsb)
              refine hi.mono ?_
              intro e w' hq
              have hc := H6.out.1.child HVl.out o2 hr6 HG1.out hq
              have e9 : upd b' ((L ++ [(j : Int)]) ++ bsO p g rs k (lfL (L ++ [(j : Int)]) rs.length) r, (len + fa) + lsN p g rs k (lfL (L ++ [(j : Int)]) rs.length) r) = stepG p g rs k (lfL L rs.length) q L len b' j := by
                unfold stepG
                rw [lf_snoc, ← HR.out, HFa.out]
              rw [← e9]
              refine ⟨hc.1, hc.2, ?_⟩
              obtain ⟨_, _, _, _, _, q4⟩ := hq
              refine (q4.block nb (blkLt H6.out.2) (fun k => ?_)).trans H6.out.2
              rcases k with k | k
              · obtain ⟨_, ⟨bp, s1, _⟩, _⟩ := H6.out.1.ps
                rw [← k, H6.out.2] at s1
                simp at s1
              · obtain ⟨cur, s1⟩ := row_type hr6 k
                rw [H6.out.2] at s1
                simp at s1
            clear hb6 H5 HR5 HO5 HG1 HF
            refine hK.out _ _ ⟨⟨_, H6.out.1⟩, H6.out.2⟩ (fun _ => ?_)
            clear hK K
            try simp only [Act.put, List.setIfInBounds_toArray, List.set_cons_zero, List.set_cons_succ, List.getElem_toArray, List.getElem_cons_succ, List.getElem_cons_zero]
            refine wpAnyH_take (i := 17) (v := .int .i64 (len + fa)) rfl (by kernel_rfl) (by kernel_rfl) (by kernel_rfl) (fun _ _ _ h => h) (Or.inl ⟨by rfl, fun w hSw => by clear hSw; go_simp⟩) ⟨⟨_, H6.out.1⟩, H6.out.2⟩ ?_
            try simp only [Act.put, List.setIfInBounds_toArray, List.set_cons_zero, List.set_cons_succ, List.getElem_toArray, List.getElem_cons_succ, List.getElem_cons_zero]
            refine wpAnyH_take (i := 18) (v := .agg #[.slice (some ⟨g1, 0, none⟩) (L.length + 1) c1, .int .i64 r.ai, .int .i64 r.pl, .int .i64 (len + fa)]) rfl (by kernel_rfl) (by kernel_rfl) (by kernel_rfl) (fun _ _ _ h => h) (Or.inl ⟨by rfl, fun w hSw => by clear hSw; go_simp⟩) ⟨⟨_, H6.out.1⟩, H6.out.2⟩ ?_
            try simp only [Act.put, List.setIfInBounds_toArray, List.set_cons_zero, List.set_cons_succ, List.getElem_toArray, List.getElem_cons_succ, List.getElem_cons_zero]
            refine wpAnyH_ready (rs := [19]) (by kernel_rfl) (by simp) ?_
            refine AllReadyH.cons rfl (fun K hK => ?_) AllReadyH.nil
            go_simp
            go_at_call 37
            refine HIH.out.mono ?_
            rintro e V9 ⟨rfl, hI9, hk9⟩
            have H9 : Hid (GoI B sb wb a p g (some ⟨b0, o0, none⟩) cap rs ga gc L q len (stepG p g rs k (lfL L rs.length) q L len b' j) ob W V9) := hI9
            refine hK.out _ _ ⟨⟨_, hI9⟩, hk9⟩ (fun _ => ?_)
            clear hK K
            try simp only [Act.put, List.setIfInBounds_toArray, List.set_cons_zero, List.set_cons_succ, List.getElem_toArray, List.getElem_cons_succ, List.getElem_cons_zero]
            clear hI9 hk9 H6 HIH
            refine wpAnyH_done (by kernel_rfl) ?_ _
            clear hH
            have HB9 : Hid (stepG p g rs k (lfL L rs.length) q L len b' j = (unL (fun i => hasI L (i : Int)) (j + 1)).foldl (fun b i => stepG p g rs k (lfL L rs.length) q L len b i) (some (O, l))) := by
              have h8 : unL (fun i => hasI L (i : Int)) (j + 1) = unL (fun i => hasI L (i : Int)) j ++ [j] := HUS.out
              have h9 := HBs.out
              show stepG p g rs k (lfL L rs.length) q L len b' j = _
              rw [h8, List.foldl_append, ← h9]
              rfl
            go_wp2
            exact ⟨⟨j + 1, _, by omega, by go_num, HB9.out, H9.out⟩, by simp [intOf]; omega⟩
          · skip
            go_wp2_with fail
            (first | go_at_call 54 | skip)
            refine (HCo.out _ (Below.refl _ _)).mono ?_
            rintro e w8 ⟨rfl, hb8⟩
            have HI8 : Hid (GoI B sb wb a p g (some ⟨b0, o0, none⟩) cap rs ga gc L q len b' ob W w8 ∧ w8.heap[nb]? = some (.cells #[.int .i64 r.ai, .int .i64 r.pl] 35 (0, 0))) := by rw [← hb8]; exact HIn.out
            clear HIn hb8 HCo f0
            have HB9 : Hid (b' = (unL (fun i => hasI L (i : Int)) (j + 1)).foldl (fun b i => stepG p g rs k (lfL L rs.length) q L len b i) (some (O, l))) := by
              have h9 := HBs.out
              have h8 := HUS.out
              simp only [if_true, List.append_nil] at h8
              show b' = _
              rw [h8]
              exact h9
            go_wp2
            exact ⟨⟨j + 1, b', by omega, by go_num, HB9.out, HI8.out.1⟩, by simp [intOf]; omega⟩
        · have hle : (rs.length : Int) ≤ (j : Int) := by omega
          have hje : j = rs.length := by omega
          have HE : Hid (b' = upd (some (O, l)) (L ++ bsO p g rs (k + 1) (lfL L rs.length) q, len + lsN p g rs (k + 1) (lfL L rs.length) q)) := by
            rw [HBs.out, hje]
            exact go_fold p g rs k (R := lfL L rs.length) (fun e => by rw [e] at hR; simp at hR; omega) q L len (some (O, l))
          clear hje
          go_wp2
          go_end0
          rw [← HE.out]
          exact HI.out.fin
theorem go_any (B sb : Nat) (a p g : Int) (ad : Option Addr) (cap : Nat) (rs : List RPt) (hh : hlB a p g = true) (hs : spsB a p rs = true) (h9 : rs.length ≤ 9) (w0 : World) (hB : w0.heap.size = B) (hr0 : ReadsPt B w0 ad rs) (hsb : B ≤ sb) (k : Nat) : ∀ (L : List Int) (q : RPt) (len : Int) (b : Option (List Int × Int)) (ob : Option Nat) (v : Value) (W : World), L.length + k = rs.length → (∀ x ∈ L, 0 ≤ x ∧ x < (rs.length : Int)) → L.Nodup → spB a p q = true → (0 ≤ len ∧ len ≤ 2300 * (L.length : Int)) → PsI B sb a p g ad cap rs b ob W → W.ownsRow B 3 1 v L.length (inV L) → (∀ x, v.ownBlock = some x → ob ≠ some x) → Below B w0 W →
    Calls Try.prog 37 #[.pointer (some ⟨sb, 0, none⟩), .agg #[v, .int .i64 q.ai, .int .i64 q.pl, .int .i64 len]] W (GoQ B sb a p g ad cap rs v L (upd b (L ++ bsO p g rs k (lfL L rs.length) q, len + lsN p g rs k (lfL L rs.length) q)) ob W) := by
  induction k with
  | zero => exact go_zero B sb a p g ad cap rs hh hs h9 w0 hB hr0 hsb
  | succ k ih => exact go_succ B sb a p g ad cap rs hh hs h9 w0 hB hr0 hsb k ih
end Go.Proofs.Ythmhpgbkapjjkaa

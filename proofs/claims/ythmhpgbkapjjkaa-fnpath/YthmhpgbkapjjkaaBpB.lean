/-
  Contract of the program's search for the shortest way: what it makes of the best way so far.
-/
import Derived.Test.YthmhpgbkapjjkaaBpA
namespace Go.Proofs.Ythmhpgbkapjjkaa
open Go.ChangeShapes Go.WideShapes Go.ChangeAt Go.RowKit Go.Joins Go.Deep
set_option linter.unusedVariables false

/-- What goOn leaves. -/
def GoQ (B sb : Nat) (a p g : Int) (ad : Option Addr) (cap : Nat) (rs : List RPt) (v : Value) (L : List Int) (b' : Option (List Int × Int)) (ob : Option Nat) (W : World) (e : Ending) (w' : World) : Prop :=
  e = .returned (.tuple #[]) ∧ ∃ ob', PsI B sb a p g ad cap rs b' ob' w' ∧ w'.ownsRow B 3 1 v L.length (inV L) ∧ (∀ x, ob' = some x → ob = some x ∨ W.heap.size ≤ x) ∧ Fr (fun x => x = sb ∨ v.ownBlock = some x) W w'
/-- In the midst of goOn. -/
structure GoI (B sb wb : Nat) (a p g : Int) (ad : Option Addr) (cap : Nat) (rs : List RPt) (ga : Option Addr) (gc : Nat) (L : List Int) (q : RPt) (len : Int) (b : Option (List Int × Int)) (ob : Option Nat) (W : World) (wr : World) : Prop where
  ps : ∃ oj, PsI B sb a p g ad cap rs b oj wr ∧ (∀ x, oj = some x → ob = some x ∨ W.heap.size ≤ x)
  box : wr.heap[wb]? = some (.cells #[.slice ga L.length gc, .int .i64 q.ai, .int .i64 q.pl, .int .i64 len] 77 (0, 0))
  row : wr.ownsRow B 3 1 (.slice ga L.length gc) L.length (inV L)
  fr : Fr (fun x => x = sb ∨ Value.ownBlock (.slice ga L.length gc) = some x) W wr
section
variable {B sb wb : Nat} {a p g : Int} {ad : Option Addr} {cap : Nat} {rs : List RPt} {ga : Option Addr} {gc : Nat} {L : List Int} {q : RPt} {len : Int} {b : Option (List Int × Int)} {ob : Option Nat} {W wr w' : World}
theorem GoI.later (h : GoI B sb wb a p g ad cap rs ga gc L q len b ob W wr) (hb : Below wr.heap.size wr w') : GoI B sb wb a p g ad cap rs ga gc L q len b ob W w' := by
  obtain ⟨oj, h1, h2⟩ := h.ps
  exact ⟨⟨oj, h1.later hb, h2⟩, (hb.block wb (blkLt h.box)).trans h.box, row_of h.row (fun x hx => hb.block x (row_lt h.row x hx).2), h.fr.trans (Fr.of hb)⟩
theorem GoI.bx (h : GoI B sb wb a p g ad cap rs ga gc L q len b ob W wr) : wr.cell? ⟨wb, 0, none⟩ = some (.slice ga L.length gc) ∧ wr.cell? ⟨wb, 1, none⟩ = some (.int .i64 q.ai) ∧ wr.cell? ⟨wb, 2, none⟩ = some (.int .i64 q.pl) ∧ wr.cell? ⟨wb, 3, none⟩ = some (.int .i64 len) :=
  ⟨blkCell h.box 0 _ rfl, blkCell h.box 1 _ rfl, blkCell h.box 2 _ rfl, blkCell h.box 3 _ rfl⟩
theorem GoI.sc (h : GoI B sb wb a p g ad cap rs ga gc L q len b ob W wr) : wr.cell? ⟨sb, 0, none⟩ = some (.int .i64 a) ∧ wr.cell? ⟨sb, 1, none⟩ = some (.int .i64 p) ∧ wr.cell? ⟨sb, 2, none⟩ = some (.int .i64 g) ∧ wr.cell? ⟨sb, 3, none⟩ = some (.slice ad rs.length cap) := by
  obtain ⟨oj, h1, h2⟩ := h.ps
  exact h1.cells
theorem GoI.size (h : GoI B sb wb a p g ad cap rs ga gc L q len b ob W wr) : W.heap.size ≤ wr.heap.size := h.fr.size
/-- What is left at the end. -/
theorem GoI.fin (h : GoI B sb wb a p g ad cap rs ga gc L q len b ob W wr) : GoQ B sb a p g ad cap rs (.slice ga L.length gc) L b ob W (.returned (.tuple #[])) wr := by
  obtain ⟨oj, h1, h2⟩ := h.ps
  exact ⟨rfl, oj, h1, h.row, h2, h.fr⟩
theorem GoI.start (hp : PsI B sb a p g ad cap rs b ob W) (hr : W.ownsRow B 3 1 (.slice ga L.length gc) L.length (inV L)) : GoI B sb W.heap.size a p g ad cap rs ga gc L q len b ob W (W.alloc (Obj.cells #[.slice ga L.length gc, .int .i64 q.ai, .int .i64 q.pl, .int .i64 len] 77)) :=
  ⟨⟨ob, hp.later (below_alloc _ _), fun x h => .inl h⟩, heapNew _ _, hr.alloc _, Fr.of (below_alloc _ _)⟩
end
/-- A way one pick longer. -/
theorem more_ok {L : List Int} {n j : Nat} (hn : L.Nodup) (hi : ∀ x ∈ L, 0 ≤ x ∧ x < (n : Int)) (hj : j < n) (h : hasI L (j : Int) = false) : (L ++ [(j : Int)]).Nodup ∧ ∀ x ∈ L ++ [(j : Int)], 0 ≤ x ∧ x < (n : Int) := by
  refine ⟨nodup_snoc hn (fun q => by rw [(hasI_mem _ _).2 q] at h; cases h), fun x hx => ?_⟩
  rcases List.mem_append.1 hx with hx | hx
  · exact hi x hx
  · simp at hx; subst hx; omega
def stepG (p g : Int) (rs : List RPt) (k : Nat) (R : List Nat) (q : RPt) (L : List Int) (len : Int) (b : Option (List Int × Int)) (i : Nat) : Option (List Int × Int) := upd b ((L ++ [(i : Int)]) ++ bsO p g rs k (R.erase i) (rs.getD i zPt), (len + farN p g q (rs.getD i zPt)) + lsN p g rs k (R.erase i) (rs.getD i zPt))
section
variable {B sb wb : Nat} {a p g : Int} {ad : Option Addr} {cap : Nat} {rs : List RPt} {ga : Option Addr} {gc : Nat} {L : List Int} {q : RPt} {len : Int} {b : Option (List Int × Int)} {ob : Option Nat} {W wr w' : World}
theorem GoI.scell (h : GoI B sb wb a p g ad cap rs ga gc L q len b ob W wr) : (∃ z, wr.cell? ⟨sb, 4, none⟩ = some z) ∧ wr.frozen? ⟨sb, 4, none⟩ = false := by
  obtain ⟨oj, ⟨bp, h1, _⟩, h2⟩ := h.ps
  exact ⟨⟨_, blkCell h1 4 _ rfl⟩, blkFree h1 4⟩
theorem GoI.put {O : List Int} {l : Int} {bb n4 : Nat} {go : Option Addr} {co : Nat} (h : GoI B sb wb a p g ad cap rs ga gc L q len b ob W wr) (hr : wr.ownsRow n4 3 1 (.slice go O.length co) O.length (inV O)) (hbb : wr.heap[bb]? = some (.cells #[.slice go O.length co, .int .i64 0, .int .i64 0, .int .i64 l] 77 (0, 0))) (hn : W.heap.size ≤ n4) (hB : B ≤ n4) : GoI B sb wb a p g ad cap rs ga gc L q len (some (O, l)) ob W (wr.setCell ⟨sb, 4, none⟩ (.pointer (some ⟨bb, 0, none⟩))) := by
  obtain ⟨oj, h1, h2⟩ := h.ps
  have hr' : wr.ownsRow B 3 1 (.slice go O.length co) O.length (inV O) := by
    obtain ⟨k1, k2⟩ := hr
    refine ⟨k1, ?_⟩
    rcases k2 with k2 | ⟨g, cap, cur, e, hb, r⟩
    · exact .inl k2
    · exact .inr ⟨g, cap, cur, e, Nat.le_trans hB hb, r⟩
  have hsb := h1
  obtain ⟨bp, hs1, _⟩ := hsb
  have hne : ∀ {d : Nat} {V : Array Value} {t : TypeId}, wr.heap[d]? = some (.cells V t (0, 0)) → t ≠ 73 → (wr.setCell ⟨sb, 4, none⟩ (.pointer (some ⟨bb, 0, none⟩))).heap[d]? = wr.heap[d]? := fun {d V t} hd ht => heap_setCell_other _ _ _ _ (fun e => by
    have e : d = sb := e
    rw [e, hs1] at hd
    simp at hd
    exact ht hd.2.symm)
  refine ⟨⟨_, h1.put hbb hr', fun x hx => .inr (Nat.le_trans hn (row_lt hr x hx).1)⟩, (hne h.box (by decide)).trans h.box, row_of h.row (fun x hx => ?_), h.fr.set (.inl rfl) 4 _⟩
  obtain ⟨cur, hc⟩ := row_type h.row hx
  exact hne hc (by decide)
end
set_option maxHeartbeats 8000000 in
set_option maxRecDepth 4000 in
theorem go_zero (B sb : Nat) (a p g : Int) (ad : Option Addr) (cap : Nat) (rs : List RPt) (hh : hlB a p g = true) (hs : spsB a p rs = true) (h9 : rs.length ≤ 9) (w0 : World) (hB : w0.heap.size = B) (hr0 : ReadsPt B w0 ad rs) (hsb : B ≤ sb) : ∀ (L : List Int) (q : RPt) (len : Int) (b : Option (List Int × Int)) (ob : Option Nat) (v : Value) (W : World), L.length + 0 = rs.length → (∀ x ∈ L, 0 ≤ x ∧ x < (rs.length : Int)) → L.Nodup → spB a p q = true → (0 ≤ len ∧ len ≤ 2300 * (L.length : Int)) → PsI B sb a p g ad cap rs b ob W → W.ownsRow B 3 1 v L.length (inV L) → (∀ x, v.ownBlock = some x → ob ≠ some x) → Below B w0 W →
    Calls Try.prog 37 #[.pointer (some ⟨sb, 0, none⟩), .agg #[v, .int .i64 q.ai, .int .i64 q.pl, .int .i64 len]] W (GoQ B sb a p g ad cap rs v L (upd b (L ++ bsO p g rs 0 (lfL L rs.length) q, len + lsN p g rs 0 (lfL L rs.length) q)) ob W) := by
  intro L q len b ob v W hlk hin hnd hq hlen hps hrow hsep hlow
  obtain ⟨ga, gc, rfl⟩ := row_slice hrow
  have HSep : Hid (∀ x, Value.ownBlock (.slice ga L.length gc) = some x → ob ≠ some x) := hsep
  have HLow : Hid (Below B w0 W) := hlow
  have hbd := farN_bd hh hq (sp_z hh)
  have hR := lf_len hnd hin
  have hls := ls_bd hh hs 0 (lfL L rs.length) q (by omega) hq
  have HFz : Hid (∀ W, Calls Try.prog 40 #[.agg #[.int .i64 a, .int .i64 p, .int .i64 g], .agg #[.int .i64 q.ai, .int .i64 q.pl], .agg #[.int .i64 0, .int .i64 0]] W fun e w' => e = .returned (.int .i64 (farN p g q zPt)) ∧ Below W.heap.size W w') := fun W => impFar_any a p g q.ai q.pl 0 0 hh hq (sp_z hh) W
  have HFr : Hid (∀ W, Calls Try.prog 38 #[] W fun e w' => e = .returned (.agg #[.int .i64 0, .int .i64 0]) ∧ Below W.heap.size W w') := fun W => front_any W
  obtain ⟨wb, hwb⟩ : ∃ wb, wb = W.heap.size := ⟨_, rfl⟩
  obtain ⟨W1, hW1⟩ : ∃ W1, W1 = W.alloc (Obj.cells #[.slice ga L.length gc, .int .i64 q.ai, .int .i64 q.pl, .int .i64 len] 77) := ⟨_, rfl⟩
  have HE : Hid (W1 = W.alloc (Obj.cells #[.slice ga L.length gc, .int .i64 q.ai, .int .i64 q.pl, .int .i64 len] 77) ∧ wb = W.heap.size) := ⟨hW1, hwb⟩
  have HI1 : Hid (GoI B sb wb a p g ad cap rs ga gc L q len b ob W W1) := by rw [hW1, hwb]; exact GoI.start hps hrow
  clear hps hrow hsep hlow hW1 hwb
  obtain ⟨whole, hwh⟩ : ∃ whole, len + farN p g q zPt = whole := ⟨_, rfl⟩
  have hww : IntKind.i64.wrap (len + farN p g q zPt) = whole := by rw [wrap_id _ (by omega) (by omega)]; exact hwh
  have HWh : Hid (len + farN p g q zPt = whole) := hwh
  clear hwh
  generalize hfz : farN p g q zPt = fz at HFz hww hbd
  clear hfz
  go_enter Try.func37, Try.ntmps37
  go_upto_region 1 with fail
  rw [← HE.out.2, ← HE.out.1]
  refine wp_region_held_drew (S := fun W' => Below W1.heap.size W1 W') (by kernel_rfl) (below_drew _) (fun hH => ?_)
  refine wpAnyH_take (i := 0) (v := .pointer (some ⟨wb, 3, none⟩)) rfl (by kernel_rfl) (by kernel_rfl) (by kernel_rfl) (fun _ _ _ h => h) (Or.inl ⟨by rfl, fun w hSw => by clear hSw; go_simp⟩) hH ?_
  refine wpAnyH_take (i := 1) (v := .int .i64 len) rfl (by kernel_rfl) (by kernel_rfl) (by kernel_rfl) (fun _ _ _ h => h) (Or.inl ⟨by rfl, fun w hSw => by obtain ⟨f0, f1, f2, f3⟩ := (HI1.out.later hSw).bx; clear hSw; go_simp⟩) hH ?_
  try simp only [Act.put, List.setIfInBounds_toArray, List.set_cons_zero, List.set_cons_succ, List.getElem_toArray, List.getElem_cons_succ, List.getElem_cons_zero]
  refine wpAnyH_take (i := 2) (v := .pointer (some ⟨sb, 0, none⟩)) rfl (by kernel_rfl) (by kernel_rfl) (by kernel_rfl) (fun _ _ _ h => h) (Or.inl ⟨by rfl, fun w hSw => by clear hSw; go_simp⟩) hH ?_
  try simp only [Act.put, List.setIfInBounds_toArray, List.set_cons_zero, List.set_cons_succ, List.getElem_toArray, List.getElem_cons_succ, List.getElem_cons_zero]
  refine wpAnyH_take (i := 3) (v := .pointer (some ⟨sb, 0, none⟩)) rfl (by kernel_rfl) (by kernel_rfl) (by kernel_rfl) (fun _ _ _ h => h) (Or.inl ⟨by rfl, fun w hSw => by clear hSw; go_simp⟩) hH ?_
  try simp only [Act.put, List.setIfInBounds_toArray, List.set_cons_zero, List.set_cons_succ, List.getElem_toArray, List.getElem_cons_succ, List.getElem_cons_zero]
  refine wpAnyH_take (i := 4) (v := .pointer (some ⟨sb, 0, none⟩)) rfl (by kernel_rfl) (by kernel_rfl) (by kernel_rfl) (fun _ _ _ h => h) (Or.inl ⟨by rfl, fun w hSw => by clear hSw; go_simp⟩) hH ?_
  try simp only [Act.put, List.setIfInBounds_toArray, List.set_cons_zero, List.set_cons_succ, List.getElem_toArray, List.getElem_cons_succ, List.getElem_cons_zero]
  refine wpAnyH_take (i := 5) (v := .agg #[.int .i64 a, .int .i64 p, .int .i64 g]) rfl (by kernel_rfl) (by kernel_rfl) (by kernel_rfl) (fun _ _ _ h => h) (Or.inl ⟨by rfl, fun w hSw => by obtain ⟨f0, f1, f2, f3⟩ := (HI1.out.later hSw).sc; clear hSw; go_simp⟩) hH ?_
  try simp only [Act.put, List.setIfInBounds_toArray, List.set_cons_zero, List.set_cons_succ, List.getElem_toArray, List.getElem_cons_succ, List.getElem_cons_zero]
  refine wpAnyH_take (i := 6) (v := .pointer (some ⟨wb, 1, none⟩)) rfl (by kernel_rfl) (by kernel_rfl) (by kernel_rfl) (fun _ _ _ h => h) (Or.inl ⟨by rfl, fun w hSw => by clear hSw; go_simp⟩) hH ?_
  try simp only [Act.put, List.setIfInBounds_toArray, List.set_cons_zero, List.set_cons_succ, List.getElem_toArray, List.getElem_cons_succ, List.getElem_cons_zero]
  refine wpAnyH_take (i := 7) (v := .agg #[.int .i64 q.ai, .int .i64 q.pl]) rfl (by kernel_rfl) (by kernel_rfl) (by kernel_rfl) (fun _ _ _ h => h) (Or.inl ⟨by rfl, fun w hSw => by obtain ⟨f0, f1, f2, f3⟩ := (HI1.out.later hSw).bx; clear hSw; go_simp⟩) hH ?_
  try simp only [Act.put, List.setIfInBounds_toArray, List.set_cons_zero, List.set_cons_succ, List.getElem_toArray, List.getElem_cons_succ, List.getElem_cons_zero]
  refine wpAnyH_ready (rs := [8]) (by kernel_rfl) (by simp) ?_
  refine AllReadyH.cons rfl (fun K hK => ?_) AllReadyH.nil
  go_simp
  go_at_call 38
  refine (HFr.out _).mono ?_
  rintro e w2 ⟨rfl, hb2⟩
  have B2 : Hid (Below W1.heap.size W1 w2) := chain (below_drew _) hb2
  clear hb2
  refine hK.out _ _ B2.out (fun _ => ?_)
  clear hK K
  try simp only [Act.put, List.setIfInBounds_toArray, List.set_cons_zero, List.set_cons_succ, List.getElem_toArray, List.getElem_cons_succ, List.getElem_cons_zero]
  refine wpAnyH_ready (rs := [9]) (by kernel_rfl) (by simp) ?_
  refine AllReadyH.cons rfl (fun K hK => ?_) AllReadyH.nil
  go_simp
  go_at_call 40
  refine (HFz.out _).mono ?_
  rintro e w3 ⟨rfl, hb3⟩
  have B3 : Hid (Below W1.heap.size W1 w3) := chain B2.out hb3
  clear hb3
  refine hK.out _ _ B3.out (fun _ => ?_)
  clear hK K
  try simp only [Act.put, List.setIfInBounds_toArray, List.set_cons_zero, List.set_cons_succ, List.getElem_toArray, List.getElem_cons_succ, List.getElem_cons_zero]
  refine wpAnyH_take (i := 10) (v := .int .i64 whole) rfl (by kernel_rfl) (by kernel_rfl) (by kernel_rfl) (fun _ _ _ h => h) (Or.inl ⟨by rfl, fun w hSw => by clear hSw; go_simp⟩) B3.out ?_
  try simp only [Act.put, List.setIfInBounds_toArray, List.set_cons_zero, List.set_cons_succ, List.getElem_toArray, List.getElem_cons_succ, List.getElem_cons_zero]
  refine wpAnyH_take (i := 11) (v := .int .i64 whole) rfl (by kernel_rfl) (by kernel_rfl) (by kernel_rfl) (fun _ _ _ h => h) (Or.inl ⟨by rfl, fun w hSw => by clear hSw; go_simp⟩) B3.out ?_
  try simp only [Act.put, List.setIfInBounds_toArray, List.set_cons_zero, List.set_cons_succ, List.getElem_toArray, List.getElem_cons_succ, List.getElem_cons_zero]
  refine wpAnyH_done (by kernel_rfl) ?_ _
  clear hH B2
  have HI3 : Hid (GoI B sb wb a p g ad cap rs ga gc L q len b ob W w3) := HI1.out.later B3.out
  clear HI1 B3 HE HFz
  have hln : (L.length : Int) = (rs.length : Int) := by omega
  have hlb : ((L.length : Int) == (rs.length : Int)) = true := by rw [hln]; simp
  have HLn : Hid ((L.length : Int) = (rs.length : Int)) := hln
  clear hln
  obtain ⟨oj, ⟨bp, hb1, hb2⟩, hoj⟩ := HI3.out.ps
  rcases hb2 with ⟨rfl, rfl, rfl⟩ | ⟨O, l, bb, go, co, rfl, rfl, hbb, hbr, hob⟩
  · have s4 := blkCell hb1 4 _ rfl
    simp only [List.getElem_toArray, List.getElem_cons_zero, List.getElem_cons_succ] at s4
    have HOn : Hid (∀ c : List Int × Int, upd none c = some c) := fun c => rfl
    clear hb1 hoj
    go_upto_region 3 with fail
    refine wp_region_held_drew (S := fun W' => Below w3.heap.size w3 W') (by kernel_rfl) (below_drew _) (fun hH => ?_)
    refine wpAnyH_take (i := 0) (v := .pointer (some ⟨wb, 0, none⟩)) rfl (by kernel_rfl) (by kernel_rfl) (by kernel_rfl) (fun _ _ _ h => h) (Or.inl ⟨by rfl, fun w hSw => by clear hSw; go_simp⟩) hH ?_
    refine wpAnyH_take (i := 1) (v := .slice ga L.length gc) rfl (by kernel_rfl) (by kernel_rfl) (by kernel_rfl) (fun _ _ _ h => h) (Or.inl ⟨by rfl, fun w hSw => by obtain ⟨f0, f1, f2, f3⟩ := (HI3.out.later hSw).bx; clear hSw; go_simp⟩) hH ?_
    try simp only [Act.put, List.setIfInBounds_toArray, List.set_cons_zero, List.set_cons_succ, List.getElem_toArray, List.getElem_cons_succ, List.getElem_cons_zero]
    refine wpAnyH_take (i := 2) (v := .int .i64 (L.length : Int)) rfl (by kernel_rfl) (by kernel_rfl) (by kernel_rfl) (fun _ _ _ h => h) (Or.inl ⟨by rfl, fun w hSw => by clear hSw; go_simp⟩) hH ?_
    try simp only [Act.put, List.setIfInBounds_toArray, List.set_cons_zero, List.set_cons_succ, List.getElem_toArray, List.getElem_cons_succ, List.getElem_cons_zero]
    refine wpAnyH_take (i := 3) (v := .pointer (some ⟨sb, 0, none⟩)) rfl (by kernel_rfl) (by kernel_rfl) (by kernel_rfl) (fun _ _ _ h => h) (Or.inl ⟨by rfl, fun w hSw => by clear hSw; go_simp⟩) hH ?_
    try simp only [Act.put, List.setIfInBounds_toArray, List.set_cons_zero, List.set_cons_succ, List.getElem_toArray, List.getElem_cons_succ, List.getElem_cons_zero]
    refine wpAnyH_take (i := 4) (v := .pointer (some ⟨sb, 0, none⟩)) rfl (by kernel_rfl) (by kernel_rfl) (by kernel_rfl) (fun _ _ _ h => h) (Or.inl ⟨by rfl, fun w hSw => by clear hSw; go_simp⟩) hH ?_
    try simp only [Act.put, List.setIfInBounds_toArray, List.set_cons_zero, List.set_cons_succ, List.getElem_toArray, List.getElem_cons_succ, List.getElem_cons_zero]
    refine wpAnyH_take (i := 5) (v := .pointer (some ⟨sb, 3, none⟩)) rfl (by kernel_rfl) (by kernel_rfl) (by kernel_rfl) (fun _ _ _ h => h) (Or.inl ⟨by rfl, fun w hSw => by clear hSw; go_simp⟩) hH ?_
    try simp only [Act.put, List.setIfInBounds_toArray, List.set_cons_zero, List.set_cons_succ, List.getElem_toArray, List.getElem_cons_succ, List.getElem_cons_zero]
    refine wpAnyH_take (i := 6) (v := .slice ad rs.length cap) rfl (by kernel_rfl) (by kernel_rfl) (by kernel_rfl) (fun _ _ _ h => h) (Or.inl ⟨by rfl, fun w hSw => by obtain ⟨f0, f1, f2, f3⟩ := (HI3.out.later hSw).sc; clear hSw; go_simp⟩) hH ?_
    try simp only [Act.put, List.setIfInBounds_toArray, List.set_cons_zero, List.set_cons_succ, List.getElem_toArray, List.getElem_cons_succ, List.getElem_cons_zero]
    refine wpAnyH_take (i := 7) (v := .int .i64 (rs.length : Int)) rfl (by kernel_rfl) (by kernel_rfl) (by kernel_rfl) (fun _ _ _ h => h) (Or.inl ⟨by rfl, fun w hSw => by clear hSw; go_simp⟩) hH ?_
    try simp only [Act.put, List.setIfInBounds_toArray, List.set_cons_zero, List.set_cons_succ, List.getElem_toArray, List.getElem_cons_succ, List.getElem_cons_zero]
    refine wpAnyH_take (i := 8) (v := .bool true) rfl (by kernel_rfl) (by kernel_rfl) (by kernel_rfl) (fun _ _ _ h => h) (Or.inl ⟨by rfl, fun w hSw => by clear hSw; go_simp⟩) hH ?_
    try simp only [Act.put, List.setIfInBounds_toArray, List.set_cons_zero, List.set_cons_succ, List.getElem_toArray, List.getElem_cons_succ, List.getElem_cons_zero]
    refine wpAnyH_done (by kernel_rfl) ?_ _
    have HI4 : Hid (GoI B sb wb a p g ad cap rs ga gc L q len (none) ob W w3.drew) := HI3.out.later (below_drew _)
    clear hH HI3
    generalize w3.drew = w4 at *
    have HCl := cloneV_any B (.slice ga L.length gc) L (by omega) w4 HI4.out.row
    obtain ⟨c0, c1, c2, c3⟩ := HI4.out.bx
    clear s4
    go_wp2_with fail
    (first | go_at_call 53 | skip)
    refine HCl.mono ?_
    rintro e w5 ⟨g5, c5, rfl, hr5, hb5⟩
    have HR5 : Hid (w5.ownsRow w4.heap.size 3 1 (.slice g5 L.length c5) L.length (inV L)) := hr5
    have HI5 : Hid (GoI B sb wb a p g ad cap rs ga gc L q len (none) ob W w5) := HI4.out.later hb5
    have HZ5 : Hid (W.heap.size ≤ w4.heap.size ∧ B ≤ w4.heap.size) := ⟨HI4.out.size, Nat.le_trans (by rw [← hB]; exact HLow.out.size) HI4.out.size⟩
    clear c0 c1 c2 c3 hr5 hb5 HCl HI4
    go_wp2_with fail
    (first | go_at_call 38 | skip)
    refine (HFr.out _).mono ?_
    rintro e w6 ⟨rfl, hb6⟩
    have HI6 : Hid (GoI B sb wb a p g ad cap rs ga gc L q len (none) ob W w6) := HI5.out.later hb6
    have HR6 : Hid (w6.ownsRow w4.heap.size 3 1 (.slice g5 L.length c5) L.length (inV L)) := row_of HR5.out (fun x hx => hb6.block x (row_lt HR5.out x hx).2)
    clear hb6 HI5 HR5
    have HI7 : Hid (GoI B sb wb a p g ad cap rs ga gc L q len (none) ob W (w6.alloc (Obj.cells #[.slice g5 L.length c5, .int .i64 0, .int .i64 0, .int .i64 whole] 77))) := HI6.out.later (below_alloc _ _)
    have HR7 : Hid ((w6.alloc (Obj.cells #[.slice g5 L.length c5, .int .i64 0, .int .i64 0, .int .i64 whole] 77)).ownsRow w4.heap.size 3 1 (.slice g5 L.length c5) L.length (inV L)) := HR6.out.alloc _
    have HN7 : Hid ((w6.alloc (Obj.cells #[.slice g5 L.length c5, .int .i64 0, .int .i64 0, .int .i64 whole] 77)).heap[w6.heap.size]? = some (.cells #[.slice g5 L.length c5, .int .i64 0, .int .i64 0, .int .i64 whole] 77 (0, 0))) := heapNew _ _
    have HP7 := HI7.out.put HR7.out HN7.out HZ5.out.1 HZ5.out.2
    have hsl := HI7.out.scell
    obtain ⟨y0, y1⟩ := hsl
    obtain ⟨z0, hz0⟩ := y0
    have HP8 : Hid (GoI B sb wb a p g ad cap rs ga gc L q len (some (L, whole)) ob W ((w6.alloc (Obj.cells #[.slice g5 L.length c5, .int .i64 0, .int .i64 0, .int .i64 whole] 77)).setCell ⟨sb, 4, none⟩ (.pointer (some ⟨w6.heap.size, 0, none⟩)))) := HP7
    clear HI6 HR6 HI7 HR7 HN7 HP7 HZ5
    go_wp2
    go_end0
    have e8 : upd (none) (L ++ bsO p g rs 0 (lfL L rs.length) q, len + lsN p g rs 0 (lfL L rs.length) q) = some (L, whole) := by
      show upd (none) (L ++ [], len + farN p g q zPt) = _
      rw [List.append_nil, HWh.out]
      rfl
    rw [e8]
    exact HP8.out.fin
  · have s4 := blkCell hb1 4 _ rfl
    have t3 := blkCell hbb 3 _ rfl
    simp only [List.getElem_toArray, List.getElem_cons_zero, List.getElem_cons_succ] at s4 t3
    clear hb1 hbb hbr hoj hob
    by_cases hle : l ≤ whole
    · have HUp : Hid (upd (some (O, l)) (L ++ bsO p g rs 0 (lfL L rs.length) q, len + lsN p g rs 0 (lfL L rs.length) q) = some (O, l)) := upd_no (by have := HWh.out; show l ≤ len + _; omega)
      go_wp2
      go_end0
      rw [HUp.out]
      exact HI3.out.fin
    · have hlt : whole < l := by omega
      clear hle
      go_upto_region 3 with fail
      refine wp_region_held_drew (S := fun W' => Below w3.heap.size w3 W') (by kernel_rfl) (below_drew _) (fun hH => ?_)
      refine wpAnyH_take (i := 0) (v := .pointer (some ⟨wb, 0, none⟩)) rfl (by kernel_rfl) (by kernel_rfl) (by kernel_rfl) (fun _ _ _ h => h) (Or.inl ⟨by rfl, fun w hSw => by clear hSw; go_simp⟩) hH ?_
      refine wpAnyH_take (i := 1) (v := .slice ga L.length gc) rfl (by kernel_rfl) (by kernel_rfl) (by kernel_rfl) (fun _ _ _ h => h) (Or.inl ⟨by rfl, fun w hSw => by obtain ⟨f0, f1, f2, f3⟩ := (HI3.out.later hSw).bx; clear hSw; go_simp⟩) hH ?_
      try simp only [Act.put, List.setIfInBounds_toArray, List.set_cons_zero, List.set_cons_succ, List.getElem_toArray, List.getElem_cons_succ, List.getElem_cons_zero]
      refine wpAnyH_take (i := 2) (v := .int .i64 (L.length : Int)) rfl (by kernel_rfl) (by kernel_rfl) (by kernel_rfl) (fun _ _ _ h => h) (Or.inl ⟨by rfl, fun w hSw => by clear hSw; go_simp⟩) hH ?_
      try simp only [Act.put, List.setIfInBounds_toArray, List.set_cons_zero, List.set_cons_succ, List.getElem_toArray, List.getElem_cons_succ, List.getElem_cons_zero]
      refine wpAnyH_take (i := 3) (v := .pointer (some ⟨sb, 0, none⟩)) rfl (by kernel_rfl) (by kernel_rfl) (by kernel_rfl) (fun _ _ _ h => h) (Or.inl ⟨by rfl, fun w hSw => by clear hSw; go_simp⟩) hH ?_
      try simp only [Act.put, List.setIfInBounds_toArray, List.set_cons_zero, List.set_cons_succ, List.getElem_toArray, List.getElem_cons_succ, List.getElem_cons_zero]
      refine wpAnyH_take (i := 4) (v := .pointer (some ⟨sb, 0, none⟩)) rfl (by kernel_rfl) (by kernel_rfl) (by kernel_rfl) (fun _ _ _ h => h) (Or.inl ⟨by rfl, fun w hSw => by clear hSw; go_simp⟩) hH ?_
      try simp only [Act.put, List.setIfInBounds_toArray, List.set_cons_zero, List.set_cons_succ, List.getElem_toArray, List.getElem_cons_succ, List.getElem_cons_zero]
      refine wpAnyH_take (i := 5) (v := .pointer (some ⟨sb, 3, none⟩)) rfl (by kernel_rfl) (by kernel_rfl) (by kernel_rfl) (fun _ _ _ h => h) (Or.inl ⟨by rfl, fun w hSw => by clear hSw; go_simp⟩) hH ?_
      try simp only [Act.put, List.setIfInBounds_toArray, List.set_cons_zero, List.set_cons_succ, List.getElem_toArray, List.getElem_cons_succ, List.getElem_cons_zero]
      refine wpAnyH_take (i := 6) (v := .slice ad rs.length cap) rfl (by kernel_rfl) (by kernel_rfl) (by kernel_rfl) (fun _ _ _ h => h) (Or.inl ⟨by rfl, fun w hSw => by obtain ⟨f0, f1, f2, f3⟩ := (HI3.out.later hSw).sc; clear hSw; go_simp⟩) hH ?_
      try simp only [Act.put, List.setIfInBounds_toArray, List.set_cons_zero, List.set_cons_succ, List.getElem_toArray, List.getElem_cons_succ, List.getElem_cons_zero]
      refine wpAnyH_take (i := 7) (v := .int .i64 (rs.length : Int)) rfl (by kernel_rfl) (by kernel_rfl) (by kernel_rfl) (fun _ _ _ h => h) (Or.inl ⟨by rfl, fun w hSw => by clear hSw; go_simp⟩) hH ?_
      try simp only [Act.put, List.setIfInBounds_toArray, List.set_cons_zero, List.set_cons_succ, List.getElem_toArray, List.getElem_cons_succ, List.getElem_cons_zero]
      refine wpAnyH_take (i := 8) (v := .bool true) rfl (by kernel_rfl) (by kernel_rfl) (by kernel_rfl) (fun _ _ _ h => h) (Or.inl ⟨by rfl, fun w hSw => by clear hSw; go_simp⟩) hH ?_
      try simp only [Act.put, List.setIfInBounds_toArray, List.set_cons_zero, List.set_cons_succ, List.getElem_toArray, List.getElem_cons_succ, List.getElem_cons_zero]
      refine wpAnyH_done (by kernel_rfl) ?_ _
      have HI4 : Hid (GoI B sb wb a p g ad cap rs ga gc L q len (some (O, l)) ob W w3.drew) := HI3.out.later (below_drew _)
      clear hH HI3
      generalize w3.drew = w4 at *
      have HCl := cloneV_any B (.slice ga L.length gc) L (by omega) w4 HI4.out.row
      obtain ⟨c0, c1, c2, c3⟩ := HI4.out.bx
      clear s4
      go_wp2_with fail
      (first | go_at_call 53 | skip)
      refine HCl.mono ?_
      rintro e w5 ⟨g5, c5, rfl, hr5, hb5⟩
      have HR5 : Hid (w5.ownsRow w4.heap.size 3 1 (.slice g5 L.length c5) L.length (inV L)) := hr5
      have HI5 : Hid (GoI B sb wb a p g ad cap rs ga gc L q len (some (O, l)) ob W w5) := HI4.out.later hb5
      have HZ5 : Hid (W.heap.size ≤ w4.heap.size ∧ B ≤ w4.heap.size) := ⟨HI4.out.size, Nat.le_trans (by rw [← hB]; exact HLow.out.size) HI4.out.size⟩
      clear c0 c1 c2 c3 hr5 hb5 HCl HI4
      go_wp2_with fail
      (first | go_at_call 38 | skip)
      refine (HFr.out _).mono ?_
      rintro e w6 ⟨rfl, hb6⟩
      have HI6 : Hid (GoI B sb wb a p g ad cap rs ga gc L q len (some (O, l)) ob W w6) := HI5.out.later hb6
      have HR6 : Hid (w6.ownsRow w4.heap.size 3 1 (.slice g5 L.length c5) L.length (inV L)) := row_of HR5.out (fun x hx => hb6.block x (row_lt HR5.out x hx).2)
      clear hb6 HI5 HR5
      have HI7 : Hid (GoI B sb wb a p g ad cap rs ga gc L q len (some (O, l)) ob W (w6.alloc (Obj.cells #[.slice g5 L.length c5, .int .i64 0, .int .i64 0, .int .i64 whole] 77))) := HI6.out.later (below_alloc _ _)
      have HR7 : Hid ((w6.alloc (Obj.cells #[.slice g5 L.length c5, .int .i64 0, .int .i64 0, .int .i64 whole] 77)).ownsRow w4.heap.size 3 1 (.slice g5 L.length c5) L.length (inV L)) := HR6.out.alloc _
      have HN7 : Hid ((w6.alloc (Obj.cells #[.slice g5 L.length c5, .int .i64 0, .int .i64 0, .int .i64 whole] 77)).heap[w6.heap.size]? = some (.cells #[.slice g5 L.length c5, .int .i64 0, .int .i64 0, .int .i64 whole] 77 (0, 0))) := heapNew _ _
      have HP7 := HI7.out.put HR7.out HN7.out HZ5.out.1 HZ5.out.2
      have hsl := HI7.out.scell
      obtain ⟨y0, y1⟩ := hsl
      obtain ⟨z0, hz0⟩ := y0
      have HP8 : Hid (GoI B sb wb a p g ad cap rs ga gc L q len (some (L, whole)) ob W ((w6.alloc (Obj.cells #[.slice g5 L.length c5, .int .i64 0, .int .i64 0, .int .i64 whole] 77)).setCell ⟨sb, 4, none⟩ (.pointer (some ⟨w6.heap.size, 0, none⟩)))) := HP7
      clear HI6 HR6 HI7 HR7 HN7 HP7 HZ5
      go_wp2
      go_end0
      have e8 : upd (some (O, l)) (L ++ bsO p g rs 0 (lfL L rs.length) q, len + lsN p g rs 0 (lfL L rs.length) q) = some (L, whole) := by
        show upd (some (O, l)) (L ++ [], len + farN p g q zPt) = _
        rw [List.append_nil, HWh.out]
        rw [upd_some, if_pos hlt]
      rw [e8]
      exact HP8.out.fin
end Go.Proofs.Ythmhpgbkapjjkaa

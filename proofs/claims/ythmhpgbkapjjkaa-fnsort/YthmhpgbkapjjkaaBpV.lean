/-
  Rows of numbers of one's own: the library's slices.Index, Contains and Clone at them, and the append of one number where the older row is kept.
-/
import Derived.Test.YthmhpgbkapjjkaaPlV
import Derived.Test.YthmhpgbkapjjkaaShelf
import Derived.Test.YthmhpgbkapjjkaaAppAny
import Derived.Deep.RegionLaw
import Derived.Deep.RegionLawGrows
namespace Go.Proofs.Ythmhpgbkapjjkaa
open Go.ChangeShapes Go.WideShapes Go.ChangeAt Go.RowKit Go.Joins Go.Deep
set_option linter.unusedVariables false

def hasI (L : List Int) (d : Int) : Bool := L.contains d
theorem contains_at {L : List Int} {k : Nat} {d : Int} (hk : k < L.length) (h : L.getD k 0 = d) : hasI L d = true := by
  unfold hasI
  have e : L.getD k 0 = L[k] := by simp [List.getD_eq_getElem?_getD, hk]
  rw [List.contains_iff_mem]
  rw [← h, e]; exact List.getElem_mem _
theorem contains_take {L : List Int} {k : Nat} {d : Int} (hk : k < L.length) (h : L.getD k 0 ≠ d) (hc : hasI (L.take k) d = false) : hasI (L.take (k + 1)) d = false := by
  unfold hasI at hc ⊢
  have e : L.getD k 0 = L[k] := by simp [List.getD_eq_getElem?_getD, hk]
  rw [List.take_succ_eq_append_getElem hk]
  have h1 : d ∉ L.take k := by simpa [List.contains_iff_mem] using hc
  have h2 : d ∉ L.take k ++ [L[k]] := fun q => by
    rcases List.mem_append.1 q with q | q
    · exact h1 q
    · simp at q; exact h (by rw [e]; exact q.symm)
  simpa [List.contains_iff_mem] using h2
/-- A place is told: it is not below 0. -/
def IxP (x : Int) (b : Bool) : Prop := decide (0 ≤ x) = b
set_option maxHeartbeats 1000000 in
theorem dyIndex_any (a : Option Addr) (cap : Nat) (L : List Int) (d : Int) (hl : L.length ≤ 100000000) (w : World) (hr : Reads w.heap.size w a L) :
    Calls Try.prog 73 #[.slice a L.length cap, .int .i64 d] w fun e w' => (∃ x : Int, e = .returned (.int .i64 x) ∧ IxP x (hasI L d)) ∧ w = w' := by
  have HR : Hid (Reads w.heap.size w a L) := hr
  clear hr
  go_enter Try.func73, Try.ntmps73
  go_wp2
  go_loopw [5, 8] (fun _ c wr => ∃ k : Nat, k ≤ L.length ∧ c = .int .i64 (k : Int) ∧ hasI (L.take k) d = false ∧ w = wr) (fun _ c _ => L.length - (intOf c).toNat)
  case atStart => exact ⟨0, Nat.zero_le _, rfl, rfl, rfl⟩
  case round =>
    obtain ⟨k, hk, rfl, hf, hw⟩ := hrel
    subst hw
    have HF : Hid (hasI (L.take k) d = false) := hf
    clear hf
    by_cases hlt : k < L.length
    · have hlt' : (k : Int) < (L.length : Int) := by omega
      rcases HR.out with h | ⟨b0, o0, ha, hB0, ia⟩
      · rw [h] at hlt; simp at hlt
      have c0 := ia k hlt
      have HX : Hid (L.getD k 0 = d → hasI L d = true) := fun h => contains_at hlt h
      have HN : Hid (L.getD k 0 ≠ d → hasI (L.take (k + 1)) d = false) := fun h => contains_take hlt h HF.out
      rw [ha]
      clear ia
      generalize L.getD k 0 = q at *
      by_cases hq : q = d
      · have HE : Hid (hasI L d = true) := HX.out hq
        have l1 : (d == q) = true := by simp [hq]
        clear HX HN hq
        go_wp2
        go_ret
        exact ⟨⟨(k : Int), rfl, by unfold IxP; rw [HE.out]; exact decide_eq_true (by omega)⟩, rfl⟩
      · have HE : Hid (hasI (L.take (k + 1)) d = false) := HN.out hq
        have l1 : (d == q) = false := by simp; omega
        have l2 : ¬ d = q := by omega
        clear HX HN hq
        go_wp2
        exact ⟨⟨k + 1, by omega, by go_num, HE.out, by first | rfl | trivial⟩, by simp [intOf]; omega⟩
    · have hle : ¬ (k : Int) < (L.length : Int) := by omega
      have HE : Hid (hasI L d = false) := by have := HF.out; rwa [List.take_of_length_le (by omega)] at this
      go_wp2
      go_ret
      exact ⟨⟨-1, rfl, by unfold IxP; rw [HE.out]; rfl⟩, rfl⟩
theorem dyContains_any (a : Option Addr) (cap : Nat) (L : List Int) (d : Int) (hl : L.length ≤ 100000000) (w : World) (hr : Reads w.heap.size w a L) :
    Calls Try.prog 54 #[.slice a L.length cap, .int .i64 d] w fun e w' => e = .returned (.bool (hasI L d)) ∧ w = w' := by
  have hi := dyIndex_any a cap L d hl w hr
  clear hr
  go_enter Try.func54, Try.ntmps54
  go_wp2_with (go_at_call 73; refine hi.mono ?_; rintro e w2 ⟨⟨x, rfl, hx⟩, rfl⟩; have HX : Hid (IxP x (hasI L d)) := hx; clear hx)
  go_ret
  exact ⟨ret_bool HX.out, rfl⟩
def inV (L : List Int) : List Value := L.map (Value.int .i64)
theorem row_reads {w : World} {B cap : Nat} {g : Option Addr} {L : List Int} (h : w.ownsRow B 3 1 (.slice g L.length cap) L.length (inV L)) : Reads w.heap.size w g L := by
  by_cases h0 : L.length = 0
  · exact .inl (List.eq_nil_of_length_eq_zero h0)
  · obtain ⟨b, c, he, hB, hlt⟩ := h.form (by omega)
    simp at he
    obtain ⟨rfl, rfl⟩ := he
    refine .inr ⟨b, 0, rfl, hlt, fun i hi => ?_⟩
    rw [Nat.zero_add, h.cellAt i (by omega)]
    simp [inV, List.getD_eq_getElem?_getD, hi]
set_option maxRecDepth 100000 in
theorem cloneV_any (B : Nat) (v : Value) (L : List Int) (hl : L.length ≤ 100000) (W : World) (h : W.ownsRow B 3 1 v L.length (inV L)) :
    Calls Try.prog 53 #[v] W fun e w' => ∃ g cp, e = .returned (.slice g L.length cp) ∧ w'.ownsRow W.heap.size 3 1 (.slice g L.length cp) L.length (inV L) ∧ Below W.heap.size W w' := by
  rcases h.2 with ⟨rfl, h0⟩ | ⟨g, cap, cur, rfl, hB, hg, r1, r2, r3, r4⟩
  · have e0 : L = [] := List.eq_nil_of_length_eq_zero h0
    subst e0
    have he : ∀ w : World, Sem.run Try.prog (binOp .eql 26 (.slice none 0 0) (.slice none 0 0)) w = .ok (.bool true) w := fun w => by first | kernel_rfl | rfl | (simp [binOp, Op.equal, go_sem])
    go_enter Try.func53, Try.ntmps53
    go_wp2
    go_ret
    exact ⟨none, 0, rfl, World.ownsRow_nil _ _ _ _, Below.refl _ _⟩
  · have hc : ∀ j, j < L.length → W.cell? ⟨g, 0 + j, none⟩ = some (.int .i64 (L.getD j 0)) := fun j hj => by
      rw [Nat.zero_add, h.cellAt j (by omega)]
      simp [inV, List.getD_eq_getElem?_getD, hj]
    refine (Try.slices_Clone_int g 0 L.length cap L W (Nat.le_refl _) (by omega) hc).mono ?_
    rintro e w' ⟨v', rfl, ho, hne, hb⟩
    rw [List.take_length] at ho
    obtain ⟨g2, c2, rfl⟩ := row_slice ho
    exact ⟨g2, c2, rfl, ho, hb⟩
theorem hasI_mem (L : List Int) (d : Int) : hasI L d = true ↔ d ∈ L := by unfold hasI; exact List.contains_iff_mem
theorem hasI_snoc (L : List Int) (i j : Nat) : hasI (L ++ [(i : Int)]) (j : Int) = (hasI L (j : Int) || decide (j = i)) := by
  rw [Bool.eq_iff_iff, Bool.or_eq_true, hasI_mem, hasI_mem, decide_eq_true_eq, List.mem_append, List.mem_singleton]
  constructor
  · rintro (h | h)
    · exact .inl h
    · exact .inr (by omega)
  · rintro (h | h)
    · exact .inl h
    · exact .inr (by omega)
set_option maxRecDepth 20000 in
theorem step_int1 {ops : Array Oper} {o : Oper} {a : Act} {K : Act → World → Prop} {Q : Exit → Act → World → Prop} {E : Prop} (hgd : o.guard = none) (s x : Operand) (ho : o.op = Op.call { callee := Callee.builtin Builtin.append, args := #[s, x], argTypes := #[26, 26] })
    (B : Nat) (ga : Option Addr) (gc : Nat) (L : List Int) (j : Int) (W : World) (hs : a.eval s = .slice ga L.length gc) (h : W.ownsRow B 3 1 (.slice ga L.length gc) L.length (inV L)) (nb : Nat) (hx : a.eval x = .slice (some ⟨nb, 0, none⟩) 1 1) (hnb : W.cell? ⟨nb, 0, none⟩ = some (.int .i64 j)) (hl : L.length ≤ 1000) (hB : B ≤ W.heap.size)
    (hK : ∀ g1 c1 w', w'.ownsRow B 3 1 (.slice (some ⟨g1, 0, none⟩) (L.length + 1) c1) (L.length + 1) (inV (L ++ [j])) → w'.ownsRow B 3 1 (.slice ga L.length gc) L.length (inV L) → W.grownBy w' (Value.ownBlock (.slice ga L.length gc)) → ((ga = some ⟨g1, 0, none⟩ ∧ c1 = gc) ∨ W.heap.size ≤ g1) → K (a.put o.dst (.slice (some ⟨g1, 0, none⟩) (L.length + 1) c1)) w') :
    if Region.wanted o (yielded ops a.tmps) = true then Oper.wp Try.prog o a W K Q else E := by
  obtain ⟨i0, hi0, hzz⟩ := Option.map_eq_some_iff.1 intInf
  simp only [Prod.mk.injEq] at hzz
  obtain ⟨i1, i2, i3⟩ := hzz
  have hnews : ∀ (k : Nat) u, [Value.int .i64 j][k]? = some u → W.cell? ((⟨nb, 0, none⟩ : Addr).add k) = some u := fun k u hk => by
    match k, hk with
    | 0, hk => simp at hk; subst hk; simpa [Addr.add] using hnb
  have hone : ∀ u ∈ [Value.int .i64 j], u.oneCell' = true := fun u hu => by simp at hu; subst hu; rfl
  have hxs : (inV L).length = L.length * 1 := by simp [inV]
  have happ : inV (L ++ [j]) = inV L ++ [.int .i64 j] := by simp [inV]
  by_cases hroom : L.length + 1 ≤ gc
  · rcases h.2 with ⟨h1, h2⟩ | ⟨g, cap, cur, h1, hg0, hg, r1, r2, r3, r4⟩
    · simp at h1
      omega
    simp at h1
    obtain ⟨rfl, rfl⟩ := h1
    have hsz : cur.size = gc := by omega
    refine step_append_room hgd s x 26 ho 3 i0 1 Try.underlying26 hi0 i2 g 0 L.length gc hs ⟨nb, 0, none⟩ 1 1 [.int .i64 j] hx rfl hnews hone hroom (fun k hk => ?_) ?_
    · have hk0 : k = 0 := by simp at hk; omega
      subst hk0
      have hlt : L.length < cur.size := by omega
      refine ⟨?_, blkFree hg _⟩
      rw [blkCell hg (0 + L.length * 1 + 0) cur[L.length] (by simp [hlt])]; rfl
    · have e1 : W.setCells g (0 + L.length * 1) [.int .i64 j] = W.setCell ⟨g, L.length, none⟩ (.int .i64 j) := by simp [World.setCells]
      rw [e1]
      have e2 := heap_setCell_same W g L.length cur 3 (.int .i64 j) hg
      have e3 : ∀ d, d ≠ g → (W.setCell ⟨g, L.length, none⟩ (.int .i64 j)).heap[d]? = W.heap[d]? := fun d hd => heap_setCell_other _ _ _ _ hd
      have ht : (cur.setIfInBounds L.length (.int .i64 j)).toList.take L.length = inV L := by
        rw [Array.toList_setIfInBounds, List.take_set_of_le (Nat.le_refl _)]
        rw [Nat.mul_one] at r4; exact r4
      refine hK g gc _ ⟨by rw [happ]; simp [inV], .inr ⟨g, gc, _, rfl, hg0, e2, hroom, r2, by simp; omega, ?_⟩⟩ ⟨hxs, .inr ⟨g, gc, _, rfl, hg0, e2, r1, r2, by simp; omega, by rw [Nat.mul_one]; exact ht⟩⟩ ⟨rfl, rfl, rfl, by simp, fun k _ hn => e3 k (fun e => hn (by rw [e]; rfl))⟩ (.inl ⟨rfl, rfl⟩)
      rw [Nat.mul_one, List.take_succ_eq_append_getElem (by simp; omega), ht, happ]
      congr 1
      simp
  · have hcap : gc < L.length + 1 := by omega
    refine step_append_grows hgd s x 26 ho 3 i0 (.int .i64 0) 1 8 Try.underlying26 hi0 i1 i2 i3 rfl (by decide) ga L.length gc (inV L) hs (fun e => ?_) hxs (fun b e k u hk => ?_) ⟨nb, 0, none⟩ 1 1 [.int .i64 j] hx rfl hnews hone hcap (by unfold maxLen; omega) (by omega) (fun v' w' hv hg => ?_)
    · subst e
      rcases h.2 with ⟨h1, h2⟩ | ⟨g, cap, cur, h1, _⟩
      · simp at h1; omega
      · simp at h1
    · subst e
      rcases h.2 with ⟨h1, h2⟩ | ⟨g, cap, cur, h1, hg0, hg, r1, r2, r3, r4⟩
      · simp at h1
      simp at h1
      obtain ⟨rfl, rfl⟩ := h1
      have hk2 : k < L.length := by
        have := (List.getElem?_eq_some_iff.1 hk).1
        simpa [inV] using this
      have := h.cellAt k (by omega)
      rw [Go.WideShapes.add_plain]
      simpa [hk] using this
    · obtain ⟨g1, c1, rfl⟩ := row_some hv (by omega)
      have hg1 := (row_lt hv g1 rfl).1
      have hold : ∀ d, d < W.heap.size → w'.heap[d]? = W.heap[d]? := fun d hd => hg.block d hd (by simp)
      refine hK g1 c1 w' ?_ (row_of h (fun q hq => hold q (row_lt h q hq).2)) ⟨hg.os, hg.tape, hg.output, hg.size, fun k hk _ => hold k hk⟩ (.inr hg1)
      rw [happ]
      obtain ⟨k1, k2⟩ := hv
      refine ⟨k1, ?_⟩
      rcases k2 with k2 | ⟨g, cap, cur, e, hb, r⟩
      · exact .inl k2
      · exact .inr ⟨g, cap, cur, e, Nat.le_trans hB hb, r⟩
/-- An append of one number, as a law of the walk. -/
theorem wpList_int1 {ops : Array Oper} {rest : List Oper} {o : Oper} {a : Act} {Q : Exit → Act → World → Prop} (hgd : o.guard = none) (s x : Operand) (ho : o.op = Op.call { callee := Callee.builtin Builtin.append, args := #[s, x], argTypes := #[26, 26] })
    (B : Nat) (ga : Option Addr) (gc : Nat) (L : List Int) (j : Int) (W : World) (hs : a.eval s = .slice ga L.length gc) (h : W.ownsRow B 3 1 (.slice ga L.length gc) L.length (inV L)) (nb : Nat) (hx : a.eval x = .slice (some ⟨nb, 0, none⟩) 1 1) (hnb : W.cell? ⟨nb, 0, none⟩ = some (.int .i64 j)) (hl : L.length ≤ 1000) (hB : B ≤ W.heap.size)
    (hK : ∀ g1 c1 w', w'.ownsRow B 3 1 (.slice (some ⟨g1, 0, none⟩) (L.length + 1) c1) (L.length + 1) (inV (L ++ [j])) → w'.ownsRow B 3 1 (.slice ga L.length gc) L.length (inV L) → W.grownBy w' (Value.ownBlock (.slice ga L.length gc)) → ((ga = some ⟨g1, 0, none⟩ ∧ c1 = gc) ∨ W.heap.size ≤ g1) → wpList Try.prog ops Q rest (a.put o.dst (.slice (some ⟨g1, 0, none⟩) (L.length + 1) c1)) w') : wpList Try.prog ops Q (o :: rest) a W :=
  wpList_plain hgd fun K hKK => by
    have := step_int1 (ops := ops) (K := K) (Q := Q) (E := True) hgd s x ho B ga gc L j W hs h nb hx hnb hl hB (fun g1 c1 w' h1 h2 h3 h4 => hKK _ _ (hK g1 c1 w' h1 h2 h3 h4))
    have hw : Region.wanted o (yielded ops a.tmps) = true := by simp [Region.wanted, hgd]
    rw [if_pos hw] at this
    exact this
end Go.Proofs.Ythmhpgbkapjjkaa

/-
  Contract of the program's RouteOf, for all arguments.
-/
import Derived.Test.YtoogphkojofkfaaRvD
namespace Go.Proofs.Ytoogphkojofkfaa
open Go.ChangeShapes Go.WideShapes Go.ChangeAt Go.RowKit Go.Joins Go.Deep
set_option linter.unusedVariables false

/-- In the midst of RouteOf: the way so far lies in block wb, the answer's block is rb. -/
structure RoB (w : World) (rb wb : Nat) (WB : Array Value) (wr : World) : Prop where
  low : Below w.heap.size w wr
  res : w.heap.size ≤ rb ∧ wr.heap[rb]? = some (.cells #[.slice none 0 0, .slice none 0 0, .int .i64 0, .int .i64 0] 28 (0, 0))
  box : w.heap.size ≤ wb ∧ wr.heap[wb]? = some (.cells WB 57 (0, 0))
structure RoI (w : World) (rb wb : Nat) (ga : Option Addr) (gc : Nat) (L : List Int) (ha : Option Addr) (hc : Nat) (M : List Int) (wt lv : Int) (h : RHp) (wr : World) : Prop where
  b : RoB w rb wb #[.slice ga L.length gc, .slice ha M.length hc, .int .i64 wt, .int .i64 lv, .int .i64 h.x, .int .i64 h.y, .int .i64 h.fr, .int .i64 h.to, .int .i64 h.sy] wr
  rowL : wr.ownsRow w.heap.size 3 1 (.slice ga L.length gc) (L.length) (inV (L))
  rowM : wr.ownsRow w.heap.size 3 1 (.slice ha M.length hc) (M.length) (inV (M))
  sep : ∀ x, Value.ownBlock (.slice ga L.length gc) = some x → Value.ownBlock (.slice ha M.length hc) ≠ some x
/-- Behind a step of the trip: its rows. -/
structure RoY (w : World) (rb wb : Nat) (WB : Array Value) (L M : List Int) (p ar : Int) (g1 c1 g2 c2 : Nat) (wr : World) : Prop where
  b : RoB w rb wb WB wr
  n1 : wr.ownsRow w.heap.size 3 1 (.slice (some ⟨g1, 0, none⟩) (L.length + 1) c1) (L.length + 1) (inV (L ++ [p]))
  n2 : wr.ownsRow w.heap.size 3 1 (.slice (some ⟨g2, 0, none⟩) (M.length + 1) c2) (M.length + 1) (inV (M ++ [ar]))
  ne : g1 ≠ g2
section
variable {w : World} {rb wb : Nat} {WB : Array Value} {ga : Option Addr} {gc : Nat} {L : List Int} {ha : Option Addr} {hc : Nat} {M : List Int} {wt lv : Int} {h : RHp} {wr w' : World} {p ar : Int} {g1 c1 g2 c2 : Nat}
theorem RoB.later (q : RoB w rb wb WB wr) (hb : Below wr.heap.size wr w') : RoB w rb wb WB w' :=
  ⟨chain q.low hb, ⟨q.res.1, (hb.block _ (blkLt q.res.2)).trans q.res.2⟩, ⟨q.box.1, (hb.block _ (blkLt q.box.2)).trans q.box.2⟩⟩
theorem RoI.later (q : RoI w rb wb ga gc L ha hc M wt lv h wr) (hb : Below wr.heap.size wr w') : RoI w rb wb ga gc L ha hc M wt lv h w' :=
  ⟨q.b.later hb, row_of q.rowL (fun x hx => hb.block x (row_lt q.rowL x hx).2), row_of q.rowM (fun x hx => hb.block x (row_lt q.rowM x hx).2), q.sep⟩
theorem RoY.later (q : RoY w rb wb WB L M p ar g1 c1 g2 c2 wr) (hb : Below wr.heap.size wr w') : RoY w rb wb WB L M p ar g1 c1 g2 c2 w' :=
  ⟨q.b.later hb, row_of q.n1 (fun x hx => hb.block x (row_lt q.n1 x hx).2), row_of q.n2 (fun x hx => hb.block x (row_lt q.n2 x hx).2), q.ne⟩
/-- A block that is no row of numbers stays where rows alone are written. -/
theorem fr_type {X : Nat → Prop} {k : Nat} {V : Array Value} {t : TypeId} (hf : Fr X wr w') (hk : wr.heap[k]? = some (.cells V t (0, 0))) (ht : t ≠ 3) (hX : ∀ x, X x → ∃ cur, wr.heap[x]? = some (.cells cur 3 (0, 0))) : w'.heap[k]? = some (.cells V t (0, 0)) :=
  (hf.block k (blkLt hk) (fun q => by
    obtain ⟨cur, hc⟩ := hX k q
    exact type_ne hk hc ht rfl)).trans hk
theorem RoI.xt (q : RoI w rb wb ga gc L ha hc M wt lv h wr) : ∀ x, (Value.ownBlock (.slice ga L.length gc) = some x ∨ Value.ownBlock (.slice ha M.length hc) = some x) → ∃ cur, wr.heap[x]? = some (.cells cur 3 (0, 0)) := fun x hx => by
  rcases hx with e | e
  · exact row_type q.rowL e
  · exact row_type q.rowM e
theorem RoI.step (q : RoI w rb wb ga gc L ha hc M wt lv h wr) (hf : Fr (fun x => Value.ownBlock (.slice ga L.length gc) = some x ∨ Value.ownBlock (.slice ha M.length hc) = some x) wr w') (n1 : w'.ownsRow w.heap.size 3 1 (.slice (some ⟨g1, 0, none⟩) (L.length + 1) c1) (L.length + 1) (inV (L ++ [p]))) (n2 : w'.ownsRow w.heap.size 3 1 (.slice (some ⟨g2, 0, none⟩) (M.length + 1) c2) (M.length + 1) (inV (M ++ [ar]))) (ne : g1 ≠ g2) : RoY w rb wb #[.slice ga L.length gc, .slice ha M.length hc, .int .i64 wt, .int .i64 lv, .int .i64 h.x, .int .i64 h.y, .int .i64 h.fr, .int .i64 h.to, .int .i64 h.sy] L M p ar g1 c1 g2 c2 w' := by
  refine ⟨⟨Fr.below q.b.low hf q.b.low.size (fun k hk => ?_), ⟨q.b.res.1, fr_type hf q.b.res.2 (by decide) q.xt⟩, ⟨q.b.box.1, fr_type hf q.b.box.2 (by decide) q.xt⟩⟩, n1, n2, ne⟩
  rcases hk with e | e
  · exact (row_lt q.rowL k e).1
  · exact (row_lt q.rowM k e).1
/-- A trip's block that nothing else speaks of is written. -/
theorem RoY.put {nb : Nat} {V : Array Value} (q : RoY w rb wb WB L M p ar g1 c1 g2 c2 wr) (hb : wr.heap[nb]? = some (.cells V 57 (0, 0))) (hn : nb ≠ wb) (hk : ∀ d, d ≠ nb → w'.heap[d]? = wr.heap[d]?) (hl : Below w.heap.size w w') : RoY w rb wb WB L M p ar g1 c1 g2 c2 w' := by
  have hrow : ∀ {v : Value} {n : Nat} {xs : List Value}, wr.ownsRow w.heap.size 3 1 v n xs → w'.ownsRow w.heap.size 3 1 v n xs := fun {v n xs} hv => row_of hv (fun x hx => hk x (fun e => by
    obtain ⟨cur, hc⟩ := row_type hv hx
    rw [e] at hc
    exact type_ne hb hc (by decide) rfl))
  exact ⟨⟨hl, ⟨q.b.res.1, (hk _ (fun e => type_ne hb q.b.res.2 (by decide) e.symm)).trans q.b.res.2⟩, ⟨q.b.box.1, (hk _ hn.symm).trans q.b.box.2⟩⟩, hrow q.n1, hrow q.n2, q.ne⟩
/-- The way's own block takes the new trip. -/
theorem RoY.next {wn ln : Int} {s : RHp} (q : RoY w rb wb WB L M p ar g1 c1 g2 c2 wr) (hw : WB.size = 9) (hk : ∀ d, d ≠ wb → w'.heap[d]? = wr.heap[d]?) (hb : w'.heap[wb]? = some (.cells #[.slice (some ⟨g1, 0, none⟩) (L.length + 1) c1, .slice (some ⟨g2, 0, none⟩) (M.length + 1) c2, .int .i64 wn, .int .i64 ln, .int .i64 s.x, .int .i64 s.y, .int .i64 s.fr, .int .i64 s.to, .int .i64 s.sy] 57 (0, 0))) (hl : Below w.heap.size w w') : RoI w rb wb (some ⟨g1, 0, none⟩) c1 (L ++ [p]) (some ⟨g2, 0, none⟩) c2 (M ++ [ar]) wn ln s w' := by
  have e1 : (L ++ [p]).length = L.length + 1 := by simp
  have e2 : (M ++ [ar]).length = M.length + 1 := by simp
  have hrow : ∀ {v : Value} {n : Nat} {xs : List Value}, wr.ownsRow w.heap.size 3 1 v n xs → w'.ownsRow w.heap.size 3 1 v n xs := fun {v n xs} hv => row_of hv (fun x hx => hk x (fun e => by
    obtain ⟨cur, hc⟩ := row_type hv hx
    rw [e] at hc
    exact type_ne q.b.box.2 hc (by decide) rfl))
  refine ⟨⟨hl, ⟨q.b.res.1, (hk _ (fun e => type_ne q.b.box.2 q.b.res.2 (by decide) e.symm)).trans q.b.res.2⟩, ⟨q.b.box.1, by rw [e1, e2]; exact hb⟩⟩, by rw [e1]; exact hrow q.n1, by rw [e2]; exact hrow q.n2, fun x hx hy => ?_⟩
  simp only [Value.ownBlock, Option.some.injEq] at hx hy
  exact q.ne (hx.trans hy.symm)
end
set_option maxHeartbeats 16000000 in
set_option maxRecDepth 8000 in
theorem implRoute_ok (ad : Option Addr) (cap : Nat) (rs : List RHp) (b : Int) (ao : Option Addr) (co : Nat) (os : List Int) (hl : rs.length ≤ 100000000) (h4 : os.length ≤ 4096) (hf : rfC rs b = 0) (ho : onB os rs.length = true) (w : World) (hr : ReadsHp w.heap.size w ad rs) (hro : Reads w.heap.size w ao os) :
    Calls Try.prog 7 #[.slice ad rs.length cap, .int .i64 b, .slice ao os.length co] w (AnsM (roC rs b os) (roL rs b os) (roA rs b os) (roW rs b os) (roE rs b os) w) := by
  have hcd : roC rs b os = if (trp rs b os).ok = true then 0 else 17 := by
    unfold roC; rw [if_neg (by omega), if_pos hf, ho]; rfl
  have hn0 : ∀ (c : Int) (w' : World), roC rs b os = c → c ≠ 0 → Below w.heap.size w w' → AnsM (roC rs b os) (roL rs b os) (roA rs b os) (roW rs b os) (roE rs b os) w (.returned (.tuple #[.agg #[.slice none 0 0, .slice none 0 0, .int .i64 0, .int .i64 0], .int .i64 c])) w' := fun c w' h1 h2 h3 => by
    obtain ⟨e1, e2, e3, e4⟩ := ro_no h1 h2
    rw [e1, e2, e3, e4, h1]
    exact ansM_none h3
  obtain ⟨R, hR⟩ : ∃ R, R = w.heap.size := ⟨_, rfl⟩
  obtain ⟨W0, hW0⟩ : ∃ W0, W0 = w.alloc (Obj.cells #[.slice none 0 0, .slice none 0 0, .int .i64 0, .int .i64 0] 28) := ⟨_, rfl⟩
  have HW0 : Hid (W0 = w.alloc (Obj.cells #[.slice none 0 0, .slice none 0 0, .int .i64 0, .int .i64 0] 28) ∧ R = w.heap.size) := ⟨hW0, hR⟩
  have HB0 : Hid (Below w.heap.size w W0) := by show Below _ _ _; rw [hW0]; exact below_alloc _ _
  have HRx : Hid (W0.heap[R]? = some (.cells #[.slice none 0 0, .slice none 0 0, .int .i64 0, .int .i64 0] 28 (0, 0))) := by show _ = _; rw [hW0, hR]; exact heapNew _ _
  have hRw : w.heap.size ≤ R := by rw [hR]; exact Nat.le_refl _
  have HF : Hid (∀ W, Below w.heap.size w W → Calls Try.prog 23 #[.slice ad rs.length cap, .int .i64 b] W fun e w' => e = .returned (.int .i64 (rfC rs b)) ∧ Below W.heap.size W w') := fun W hb => impFault_any ad cap rs b hl W ((hr.below hb).mono hb.size)
  clear hW0 hR
  rw [hf] at HF
  obtain ⟨h7, hs, hb⟩ := rf_zero hf
  have HOn : Hid (∀ W, Below w.heap.size w W → Calls Try.prog 28 #[.slice ao os.length co, .int .i64 (rs.length : Int)] W fun e w' => e = .returned (.bool true) ∧ Below W.heap.size W w') := fun W hb => by
    have := once_any ao co os rs.length (by omega) (by omega) W ((hro.below hb).mono hb.size)
    rwa [ho] at this
  have hOn := (on_iff os rs.length).1 ho
  have HIn : Hid (∀ k, k < os.length → ∃ m : Nat, m < rs.length ∧ os.getD k 0 = (m : Int)) := fun k hk => by
    have e : os.getD k 0 = os[k] := by simp [List.getD_eq_getElem?_getD, hk]
    have := hOn.inn _ (List.getElem_mem (h := hk))
    exact ⟨os[k].toNat, by omega, by rw [e]; omega⟩
  have hosl : os.length = rs.length := hOn.len
  have HLn : Hid (os.length = rs.length) := hosl
  have HLate : Hid ((trp rs b os).ok = false → roC rs b os = 17) := fun h => by rw [hcd, h]; rfl
  have HYes : Hid ((trp rs b os).ok = true → roC rs b os = 0 ∧ roL rs b os = os ∧ roA rs b os = (trp rs b os).A ∧ roW rs b os = (trp rs b os).wt ∧ roE rs b os = endT (trp rs b os)) := fun h => by
    have e : roC rs b os = 0 := by rw [hcd, h]; rfl
    exact ⟨e, ro_yes e⟩
  have HBd : Hid (∀ k, k ≤ os.length → TrpB (k : Int) (trp rs b (os.take k))) := fun k hk => trp_bd hs hb k _ (by simp; omega)
  have HSt : Hid (∀ k, k < os.length → trp rs b (os.take (k + 1)) = stepT rs (trp rs b (os.take k)) (os.getD k 0)) := fun k hk => trp_take rs b hk
  have HTl : Hid (∀ k, (trp rs b (os.take k)).ok = false → (trp rs b os).ok = false) := fun k h => trp_late_take rs b os k h
  have HAl : Hid (∀ k, k ≤ os.length → (trp rs b (os.take k)).A.length = k) := fun k hk => by rw [trp_len]; simp; omega
  have HOk : Hid (∀ m, m < rs.length → hpB (rs.getD m zHp) = true) := fun m hm => hps_getD hs hm
  have HTk : Hid (∀ k, k < os.length → os.take (k + 1) = os.take k ++ [os.getD k 0]) := fun k hk => by
    have e : os.getD k 0 = os[k] := by simp [List.getD_eq_getElem?_getD, hk]
    rw [List.take_succ_eq_append_getElem hk, e]
  have HAll : Hid (trp rs b os = trp rs b (os.take os.length)) := by show _ = _; rw [List.take_length]
  have HT0 : Hid (trp rs b (os.take 0) = ⟨b, 0, zHp, [], true⟩) := rfl
  have HR : Hid (ReadsHp w.heap.size w ad rs) := hr
  have HRo : Hid (Reads w.heap.size w ao os) := hro
  have hneg : ¬ (4096 : Int) < (os.length : Int) := by omega
  clear hr hro hcd hf ho hOn hosl hb hs h4
  have HNo0 : Hid (∀ (c : Int) (w' : World), roC rs b os = c → c ≠ 0 → Below w.heap.size w w' → AnsM (roC rs b os) (roL rs b os) (roA rs b os) (roW rs b os) (roE rs b os) w (.returned (.tuple #[.agg #[.slice none 0 0, .slice none 0 0, .int .i64 0, .int .i64 0], .int .i64 c])) w') := hn0
  clear hn0
  generalize roC rs b os = rc at *
  generalize roL rs b os = rL at *
  generalize roA rs b os = rA at *
  generalize roW rs b os = rW at *
  generalize roE rs b os = rE at *
  go_enter Try.func7, Try.ntmps7
  go_upto_region 3 with fail
  rw [← HW0.out.1, ← HW0.out.2]
  clear HW0
  go_wp2_with fail
  (first | go_at_call 23 | skip)
  refine (HF.out W0 HB0.out).mono ?_
  rintro e w1 ⟨rfl, hb1⟩
  have HB1 : Hid (Below W0.heap.size W0 w1) := hb1
  clear hb1 HF
  go_wp2_with fail
  (first | go_at_call 28 | skip)
  refine (HOn.out w1 (chain HB0.out HB1.out)).mono ?_
  rintro e w2 ⟨rfl, hb2⟩
  have HB2 : Hid (Below W0.heap.size W0 w2) := chain HB1.out hb2
  clear hb2 HB1 HOn
  have HWb : Hid (RoI w R w2.heap.size none 0 [] none 0 [] 0 b zHp (w2.alloc (Obj.cells #[.slice none 0 0, .slice none 0 0, .int .i64 0, .int .i64 b, .int .i64 0, .int .i64 0, .int .i64 0, .int .i64 0, .int .i64 0] 57))) := by
    have k := HB2.out
    have hk2 := below_alloc w2 (Obj.cells #[.slice none 0 0, .slice none 0 0, .int .i64 0, .int .i64 b, .int .i64 0, .int .i64 0, .int .i64 0, .int .i64 0, .int .i64 0] 57)
    refine ⟨⟨chain (chain HB0.out k) hk2, ⟨hRw, ((chain k hk2).block _ (blkLt HRx.out)).trans HRx.out⟩, ⟨Nat.le_trans HB0.out.size k.size, heapNew _ _⟩⟩, World.ownsRow_nil _ _ _ _, World.ownsRow_nil _ _ _ _, fun x hx => by simp [Value.ownBlock] at hx⟩
  obtain ⟨W4, hW4⟩ : ∃ W4, W4 = w2.alloc (Obj.cells #[.slice none 0 0, .slice none 0 0, .int .i64 0, .int .i64 b, .int .i64 0, .int .i64 0, .int .i64 0, .int .i64 0, .int .i64 0] 57) := ⟨_, rfl⟩
  obtain ⟨wb, hwb⟩ : ∃ wb, wb = w2.heap.size := ⟨_, rfl⟩
  have HW4 : Hid (W4 = w2.alloc (Obj.cells #[.slice none 0 0, .slice none 0 0, .int .i64 0, .int .i64 b, .int .i64 0, .int .i64 0, .int .i64 0, .int .i64 0, .int .i64 0] 57) ∧ wb = w2.heap.size) := ⟨hW4, hwb⟩
  rw [← hW4, ← hwb] at HWb
  clear hW4 hwb
  go_upto_region 9 with fail
  rw [← HW4.out.1, ← HW4.out.2]
  clear HW4 HB2 HB0 HRx
  go_wp2
  go_loopw [11, 12, 13, 35] (fun _ _ _ c wr => ∃ (k : Nat) (ga ha : Option Addr) (gc hc : Nat), k ≤ os.length ∧ c = .int .i64 (k : Int) ∧ (trp rs b (os.take k)).ok = true ∧ RoI w R wb ga gc (os.take k) ha hc (trp rs b (os.take k)).A (trp rs b (os.take k)).wt (trp rs b (os.take k)).lv (trp rs b (os.take k)).h wr) (fun _ _ _ c _ => os.length - (intOf c).toNat)
  case atStart => exact ⟨0, none, none, 0, 0, Nat.zero_le _, rfl, by rw [HT0.out], by rw [HT0.out]; exact HWb.out⟩
  case round =>
    clear HWb HT0
    obtain ⟨k, ga, ha, gc, hc, hk, rfl, hok, hI⟩ := hrel
    have HI : Hid (RoI w R wb ga gc (os.take k) ha hc (trp rs b (os.take k)).A (trp rs b (os.take k)).wt (trp rs b (os.take k)).lv (trp rs b (os.take k)).h wr) := hI
    have HOkk : Hid ((trp rs b (os.take k)).ok = true) := hok
    have hbd := HBd.out k hk
    have hAl := HAl.out k hk
    clear hI hok
    by_cases hlt : k < os.length
    · have hlt' : (k : Int) < (os.length : Int) := by omega
      obtain ⟨m, hm, hmk⟩ := HIn.out k hlt
      have hm' : (m : Int) < (rs.length : Int) := by omega
      rcases HRo.out with h | ⟨b1, o1, hb, hB1, ib⟩
      · rw [h] at hlt; simp at hlt
      rcases HR.out with h | ⟨b0, o0, ha2, hB0, ia⟩
      · rw [h] at hm; simp at hm
      subst ha2 hb
      have d1 := (ib.below HI.out.b.low hB1) k hlt
      rw [hmk] at d1
      have hstep := HSt.out k hlt
      have htk := HTk.out k hlt
      rw [hmk] at hstep htk
      have hTl := HTl.out (k + 1)
      rw [hstep] at hTl
      have hst : stepT rs (trp rs b (os.take k)) (m : Int) = ⟨lvN (trp rs b (os.take k)).lv (trp rs b (os.take k)).h (rs.getD m zHp), wtN (trp rs b (os.take k)).wt (trp rs b (os.take k)).lv (trp rs b (os.take k)).h (rs.getD m zHp), rs.getD m zHp, (trp rs b (os.take k)).A ++ [arN (trp rs b (os.take k)).lv (trp rs b (os.take k)).h (rs.getD m zHp)], (trp rs b (os.take k)).ok && decide (arN (trp rs b (os.take k)).lv (trp rs b (os.take k)).h (rs.getD m zHp) ≤ (rs.getD m zHp).to)⟩ := by unfold stepT; rw [Int.toNat_natCast]
      rw [hst] at hstep hTl
      rw [HOkk.out, Bool.true_and] at hstep hTl
      have HStep : Hid (trp rs b (os.take (k + 1)) = ⟨lvN (trp rs b (os.take k)).lv (trp rs b (os.take k)).h (rs.getD m zHp), wtN (trp rs b (os.take k)).wt (trp rs b (os.take k)).lv (trp rs b (os.take k)).h (rs.getD m zHp), rs.getD m zHp, (trp rs b (os.take k)).A ++ [arN (trp rs b (os.take k)).lv (trp rs b (os.take k)).h (rs.getD m zHp)], decide (arN (trp rs b (os.take k)).lv (trp rs b (os.take k)).h (rs.getD m zHp) ≤ (rs.getD m zHp).to)⟩) := hstep
      have HTk2 : Hid (os.take (k + 1) = os.take k ++ [(m : Int)]) := htk
      have HTl2 : Hid (decide (arN (trp rs b (os.take k)).lv (trp rs b (os.take k)).h (rs.getD m zHp) ≤ (rs.getD m zHp).to) = false → rc = 17) := fun h => HLate.out (hTl h)
      have hLl : (os.take k).length = k := by simp; omega
      have hrsl := HLn.out
      have hV0 : ∀ W : World, W.ownsRow w.heap.size 3 1 (.slice ga (os.take k).length gc) (os.take k).length (inV (os.take k)) → W.ownsRow w.heap.size 3 1 (.slice ha (trp rs b (os.take k)).A.length hc) (trp rs b (os.take k)).A.length (inV (trp rs b (os.take k)).A) → w.heap.size ≤ W.heap.size → Calls Try.prog 29 #[.agg #[.slice ga (os.take k).length gc, .slice ha (trp rs b (os.take k)).A.length hc, .int .i64 (trp rs b (os.take k)).wt, .int .i64 (trp rs b (os.take k)).lv, .int .i64 (trp rs b (os.take k)).h.x, .int .i64 (trp rs b (os.take k)).h.y, .int .i64 (trp rs b (os.take k)).h.fr, .int .i64 (trp rs b (os.take k)).h.to, .int .i64 (trp rs b (os.take k)).h.sy], .int .i64 (m : Int), .agg #[.int .i64 (rs.getD m zHp).x, .int .i64 (rs.getD m zHp).y, .int .i64 (rs.getD m zHp).fr, .int .i64 (rs.getD m zHp).to, .int .i64 (rs.getD m zHp).sy]] W (VtQ w.heap.size ga gc (os.take k) ha hc (trp rs b (os.take k)).A (m : Int) (rs.getD m zHp) (arN (trp rs b (os.take k)).lv (trp rs b (os.take k)).h (rs.getD m zHp)) (wtN (trp rs b (os.take k)).wt (trp rs b (os.take k)).lv (trp rs b (os.take k)).h (rs.getD m zHp)) (lvN (trp rs b (os.take k)).lv (trp rs b (os.take k)).h (rs.getD m zHp)) W) := fun W r1 r2 hz => visit_any w.heap.size ga gc (os.take k) ha hc (trp rs b (os.take k)).A (trp rs b (os.take k)).wt (trp rs b (os.take k)).lv (trp rs b (os.take k)).h (rs.getD m zHp) m hbd.h (HOk.out m hm) (by omega) (by omega) (by have := hbd.lv; omega) (by have := hbd.wt; omega) W hz r1 r2 HI.out.sep
      have HCs : Hid (∀ W, Below w.heap.size w W → HpAt W b0 (o0 + m * 5) (rs.getD m zHp)) := fun W hW => (ia m hm).below hW hB0
      clear ia ib hstep htk hTl hst hmk HSt HTk HTl HLate HIn
      generalize trp rs b (os.take k) = t at *
      obtain ⟨lv, wt, h, M, tok⟩ := t
      dsimp only at *
      generalize rs.getD m zHp = s at *
      generalize arN lv h s = ar at *
      generalize lvN lv h s = ln at *
      generalize wtN wt lv h s = wn at *
      generalize os.take k = L at *
      have HV : Hid (∀ W, W.ownsRow w.heap.size 3 1 (.slice ga L.length gc) L.length (inV L) → W.ownsRow w.heap.size 3 1 (.slice ha M.length hc) M.length (inV M) → w.heap.size ≤ W.heap.size → Calls Try.prog 29 #[.agg #[.slice ga L.length gc, .slice ha M.length hc, .int .i64 wt, .int .i64 lv, .int .i64 h.x, .int .i64 h.y, .int .i64 h.fr, .int .i64 h.to, .int .i64 h.sy], .int .i64 (m : Int), .agg #[.int .i64 s.x, .int .i64 s.y, .int .i64 s.fr, .int .i64 s.to, .int .i64 s.sy]] W (VtQ w.heap.size ga gc L ha hc M (m : Int) s ar wn ln W)) := hV0
      have HC : Hid (∀ W : World, (Below w.heap.size w W ∧ W.heap[wb]? = some (.cells #[.slice ga L.length gc, .slice ha M.length hc, .int .i64 wt, .int .i64 lv, .int .i64 h.x, .int .i64 h.y, .int .i64 h.fr, .int .i64 h.to, .int .i64 h.sy] 57 (0, 0))) → (W.cell? ⟨wb, 0, none⟩ = some (.slice ga L.length gc) ∧ W.cell? ⟨wb, 1, none⟩ = some (.slice ha M.length hc) ∧ W.cell? ⟨wb, 2, none⟩ = some (.int .i64 wt) ∧ W.cell? ⟨wb, 3, none⟩ = some (.int .i64 lv) ∧ W.cell? ⟨wb, 4, none⟩ = some (.int .i64 h.x) ∧ W.cell? ⟨wb, 5, none⟩ = some (.int .i64 h.y) ∧ W.cell? ⟨wb, 6, none⟩ = some (.int .i64 h.fr) ∧ W.cell? ⟨wb, 7, none⟩ = some (.int .i64 h.to) ∧ W.cell? ⟨wb, 8, none⟩ = some (.int .i64 h.sy)) ∧ (W.cell? ⟨b0, o0 + m * 5, none⟩ = some (.int .i64 s.x) ∧ W.cell? ⟨b0, o0 + m * 5 + 1, none⟩ = some (.int .i64 s.y) ∧ W.cell? ⟨b0, o0 + m * 5 + 2, none⟩ = some (.int .i64 s.fr) ∧ W.cell? ⟨b0, o0 + m * 5 + 3, none⟩ = some (.int .i64 s.to) ∧ W.cell? ⟨b0, o0 + m * 5 + 4, none⟩ = some (.int .i64 s.sy))) := fun W hW => ⟨⟨blkCell hW.2 0 _ rfl, blkCell hW.2 1 _ rfl, blkCell hW.2 2 _ rfl, blkCell hW.2 3 _ rfl, blkCell hW.2 4 _ rfl, blkCell hW.2 5 _ rfl, blkCell hW.2 6 _ rfl, blkCell hW.2 7 _ rfl, blkCell hW.2 8 _ rfl⟩, HCs.out W hW.1⟩
      clear hV0 HCs hLl hAl hbd hrsl
      go_upto_region 12 with fail
      clear d1
      go_cut [12, 13] from 39 to 48 (fun t12 t13 wx => ∃ nb g1 c1 g2 c2, t12 = .pointer (some ⟨nb, 0, none⟩) ∧ t13 = .bool (decide (ar ≤ s.to)) ∧ RoY w R wb #[.slice ga L.length gc, .slice ha M.length hc, .int .i64 wt, .int .i64 lv, .int .i64 h.x, .int .i64 h.y, .int .i64 h.fr, .int .i64 h.to, .int .i64 h.sy] L M (m : Int) ar g1 c1 g2 c2 wx ∧ w.heap.size ≤ nb ∧ wx.heap[nb]? = some (.cells #[.slice (some ⟨g1, 0, none⟩) (L.length + 1) c1, .slice (some ⟨g2, 0, none⟩) (M.length + 1) c2, .int .i64 wn, .int .i64 ln, .int .i64 s.x, .int .i64 s.y, .int .i64 s.fr, .int .i64 s.to, .int .i64 s.sy] 57 (0, 0)) ∧ nb ≠ wb)
      case first =>
        have H0 : Hid (RoI w R wb ga gc L ha hc M wt lv h wr.drew) := HI.out.later (below_drew _)
        refine wp_region_held_drew (S := fun W => (Below w.heap.size w W ∧ W.heap[wb]? = some (.cells #[.slice ga L.length gc, .slice ha M.length hc, .int .i64 wt, .int .i64 lv, .int .i64 h.x, .int .i64 h.y, .int .i64 h.fr, .int .i64 h.to, .int .i64 h.sy] 57 (0, 0)))) (by kernel_rfl) ⟨H0.out.b.low, H0.out.b.box.2⟩ (fun hH => ?_)
        generalize wr.drew = V0 at *
        refine wpAnyH_take (i := 0) (v := .agg #[.slice ga L.length gc, .slice ha M.length hc, .int .i64 wt, .int .i64 lv, .int .i64 h.x, .int .i64 h.y, .int .i64 h.fr, .int .i64 h.to, .int .i64 h.sy]) rfl (by kernel_rfl) (by kernel_rfl) (by kernel_rfl) (fun _ _ _ h => h) (Or.inl ⟨by rfl, fun w hSw => by obtain ⟨f0, f1, f2, f3, f4, f5, f6, f7, f8⟩ := (HC.out w hSw).1; clear hSw; go_simp⟩) hH ?_
        refine wpAnyH_take (i := 1) (v := .int .i64 (m : Int)) rfl (by kernel_rfl) (by kernel_rfl) (by kernel_rfl) (fun _ _ _ h => h) (Or.inl ⟨by rfl, fun w hSw => by clear hSw; go_simp⟩) hH ?_
        try simp only [Act.put, List.setIfInBounds_toArray, List.set_cons_zero, List.set_cons_succ, List.getElem_toArray, List.getElem_cons_succ, List.getElem_cons_zero]
        refine wpAnyH_take (i := 2) (v := .slice (some ⟨b0, o0, none⟩) rs.length cap) rfl (by kernel_rfl) (by kernel_rfl) (by kernel_rfl) (fun _ _ _ h => h) (Or.inl ⟨by rfl, fun w hSw => by clear hSw; go_simp⟩) hH ?_
        try simp only [Act.put, List.setIfInBounds_toArray, List.set_cons_zero, List.set_cons_succ, List.getElem_toArray, List.getElem_cons_succ, List.getElem_cons_zero]
        refine wpAnyH_take (i := 3) (v := .int .i64 (m : Int)) rfl (by kernel_rfl) (by kernel_rfl) (by kernel_rfl) (fun _ _ _ h => h) (Or.inl ⟨by rfl, fun w hSw => by clear hSw; go_simp⟩) hH ?_
        try simp only [Act.put, List.setIfInBounds_toArray, List.set_cons_zero, List.set_cons_succ, List.getElem_toArray, List.getElem_cons_succ, List.getElem_cons_zero]
        refine wpAnyH_take (i := 4) (v := .pointer (some ⟨b0, o0 + m * 5, none⟩)) rfl (by kernel_rfl) (by kernel_rfl) (by kernel_rfl) (fun _ _ _ h => h) (Or.inl ⟨by rfl, fun w hSw => by clear hSw; go_simp⟩) hH ?_
        try simp only [Act.put, List.setIfInBounds_toArray, List.set_cons_zero, List.set_cons_succ, List.getElem_toArray, List.getElem_cons_succ, List.getElem_cons_zero]
        refine wpAnyH_take (i := 5) (v := .agg #[.int .i64 s.x, .int .i64 s.y, .int .i64 s.fr, .int .i64 s.to, .int .i64 s.sy]) rfl (by kernel_rfl) (by kernel_rfl) (by kernel_rfl) (fun _ _ _ h => h) (Or.inl ⟨by rfl, fun w hSw => by obtain ⟨f0, f1, f2, f3, f4⟩ := (HC.out w hSw).2; clear hSw; go_simp⟩) hH ?_
        try simp only [Act.put, List.setIfInBounds_toArray, List.set_cons_zero, List.set_cons_succ, List.getElem_toArray, List.getElem_cons_succ, List.getElem_cons_zero]
        refine wpAnyH_ready (rs := [6, 10]) (by kernel_rfl) (by simp) ?_
        refine AllReadyH.cons rfl (fun K hK => ?_) (AllReadyH.cons rfl (fun K hK => ?_) AllReadyH.nil)
        · skip
          go_simp
          go_at_call 29
          refine (HV.out V0 H0.out.rowL H0.out.rowM H0.out.b.low.size).mono ?_
          rintro e V1 ⟨g1, c1, g2, c2, rfl, n1, _, n2, _, hne, _, _, hf⟩
          have Y1 : Hid (RoY w R wb #[.slice ga L.length gc, .slice ha M.length hc, .int .i64 wt, .int .i64 lv, .int .i64 h.x, .int .i64 h.y, .int .i64 h.fr, .int .i64 h.to, .int .i64 h.sy] L M (m : Int) ar g1 c1 g2 c2 V1) := H0.out.step hf n1 n2 hne
          clear n1 n2 hne hf
          refine hK.out _ _ ⟨Y1.out.b.low, Y1.out.b.box.2⟩ (fun _ => ?_)
          clear hK K
          try simp only [Act.put, List.setIfInBounds_toArray, List.set_cons_zero, List.set_cons_succ, List.getElem_toArray, List.getElem_cons_succ, List.getElem_cons_zero]
          refine wpAnyH_take (i := 7) (v := .tuple #[.agg #[.slice (some ⟨g1, 0, none⟩) (L.length + 1) c1, .slice (some ⟨g2, 0, none⟩) (M.length + 1) c2, .int .i64 wn, .int .i64 ln, .int .i64 s.x, .int .i64 s.y, .int .i64 s.fr, .int .i64 s.to, .int .i64 s.sy], .bool (decide (ar ≤ s.to))]) rfl (by kernel_rfl) (by kernel_rfl) (by kernel_rfl) (fun _ _ _ h => h) (Or.inl ⟨by rfl, fun w hSw => by clear hSw; go_simp⟩) ⟨Y1.out.b.low, Y1.out.b.box.2⟩ ?_
          try simp only [Act.put, List.setIfInBounds_toArray, List.set_cons_zero, List.set_cons_succ, List.getElem_toArray, List.getElem_cons_succ, List.getElem_cons_zero]
          refine wpAnyH_take (i := 8) (v := .agg #[.slice (some ⟨g1, 0, none⟩) (L.length + 1) c1, .slice (some ⟨g2, 0, none⟩) (M.length + 1) c2, .int .i64 wn, .int .i64 ln, .int .i64 s.x, .int .i64 s.y, .int .i64 s.fr, .int .i64 s.to, .int .i64 s.sy]) rfl (by kernel_rfl) (by kernel_rfl) (by kernel_rfl) (fun _ _ _ h => h) (Or.inl ⟨by rfl, fun w hSw => by clear hSw; go_simp⟩) ⟨Y1.out.b.low, Y1.out.b.box.2⟩ ?_
          try simp only [Act.put, List.setIfInBounds_toArray, List.set_cons_zero, List.set_cons_succ, List.getElem_toArray, List.getElem_cons_succ, List.getElem_cons_zero]
          refine wpAnyH_take (i := 9) (v := .bool (decide (ar ≤ s.to))) rfl (by kernel_rfl) (by kernel_rfl) (by kernel_rfl) (fun _ _ _ h => h) (Or.inl ⟨by rfl, fun w hSw => by clear hSw; go_simp⟩) ⟨Y1.out.b.low, Y1.out.b.box.2⟩ ?_
          try simp only [Act.put, List.setIfInBounds_toArray, List.set_cons_zero, List.set_cons_succ, List.getElem_toArray, List.getElem_cons_succ, List.getElem_cons_zero]
          refine wpAnyH_ready (rs := [10]) (by kernel_rfl) (by simp) ?_
          refine AllReadyH.cons rfl (fun K hK => ?_) AllReadyH.nil
          go_simp
          obtain ⟨V2, hV⟩ : ∃ V, V = V1.alloc (Obj.cells #[.slice none 0 0, .slice none 0 0, .int .i64 0, .int .i64 0, .int .i64 0, .int .i64 0, .int .i64 0, .int .i64 0, .int .i64 0] 57) := ⟨_, rfl⟩
          obtain ⟨nb, hn⟩ : ∃ n, n = V1.heap.size := ⟨_, rfl⟩
          rw [← hV, ← hn]
          have Y2 : Hid (RoY w R wb #[.slice ga L.length gc, .slice ha M.length hc, .int .i64 wt, .int .i64 lv, .int .i64 h.x, .int .i64 h.y, .int .i64 h.fr, .int .i64 h.to, .int .i64 h.sy] L M (m : Int) ar g1 c1 g2 c2 V2) := by rw [hV]; exact Y1.out.later (below_alloc _ _)
          have N2 : Hid (w.heap.size ≤ nb ∧ V2.heap[nb]? = some (.cells #[.slice none 0 0, .slice none 0 0, .int .i64 0, .int .i64 0, .int .i64 0, .int .i64 0, .int .i64 0, .int .i64 0, .int .i64 0] 57 (0, 0)) ∧ nb ≠ wb) := by
            refine (show _ ∧ _ ∧ _ from ⟨?_, ?_, fun e => ?_⟩)
            · rw [hn]; exact Y1.out.b.low.size
            · rw [hV, hn]; exact heapNew _ _
            · have := blkLt Y1.out.b.box.2
              omega
          clear hV hn Y1
          refine hK.out _ _ ⟨Y2.out.b.low, Y2.out.b.box.2⟩ (fun _ => ?_)
          clear hK K
          try simp only [Act.put, List.setIfInBounds_toArray, List.set_cons_zero, List.set_cons_succ, List.getElem_toArray, List.getElem_cons_succ, List.getElem_cons_zero]
          obtain ⟨W3, hW3⟩ : ∃ W3, W3 = ((((((((V2.setCell ⟨nb, 0, none⟩ (.slice (some ⟨g1, 0, none⟩) (L.length + 1) c1)).setCell ⟨nb, 1, none⟩ (.slice (some ⟨g2, 0, none⟩) (M.length + 1) c2)).setCell ⟨nb, 2, none⟩ (.int .i64 wn)).setCell ⟨nb, 3, none⟩ (.int .i64 ln)).setCell ⟨nb, 4, none⟩ (.int .i64 s.x)).setCell ⟨nb, 5, none⟩ (.int .i64 s.y)).setCell ⟨nb, 6, none⟩ (.int .i64 s.fr)).setCell ⟨nb, 7, none⟩ (.int .i64 s.to)).setCell ⟨nb, 8, none⟩ (.int .i64 s.sy) := ⟨_, rfl⟩
          obtain ⟨k1, k2⟩ := set_nine N2.out.2.1 (.slice (some ⟨g1, 0, none⟩) (L.length + 1) c1) (.slice (some ⟨g2, 0, none⟩) (M.length + 1) c2) (.int .i64 wn) (.int .i64 ln) (.int .i64 s.x) (.int .i64 s.y) (.int .i64 s.fr) (.int .i64 s.to) (.int .i64 s.sy)
          rw [← hW3] at k1 k2
          have E3 : Hid (W3 = ((((((((V2.setCell ⟨nb, 0, none⟩ (.slice (some ⟨g1, 0, none⟩) (L.length + 1) c1)).setCell ⟨nb, 1, none⟩ (.slice (some ⟨g2, 0, none⟩) (M.length + 1) c2)).setCell ⟨nb, 2, none⟩ (.int .i64 wn)).setCell ⟨nb, 3, none⟩ (.int .i64 ln)).setCell ⟨nb, 4, none⟩ (.int .i64 s.x)).setCell ⟨nb, 5, none⟩ (.int .i64 s.y)).setCell ⟨nb, 6, none⟩ (.int .i64 s.fr)).setCell ⟨nb, 7, none⟩ (.int .i64 s.to)).setCell ⟨nb, 8, none⟩ (.int .i64 s.sy)) := hW3
          have hl3 : Below w.heap.size w W3 := by
            rw [hW3]
            exact ((((((((Y2.out.b.low.setCell N2.out.1 _).setCell N2.out.1 _).setCell N2.out.1 _).setCell N2.out.1 _).setCell N2.out.1 _).setCell N2.out.1 _).setCell N2.out.1 _).setCell N2.out.1 _).setCell N2.out.1 _
          have Y3 : Hid (RoY w R wb #[.slice ga L.length gc, .slice ha M.length hc, .int .i64 wt, .int .i64 lv, .int .i64 h.x, .int .i64 h.y, .int .i64 h.fr, .int .i64 h.to, .int .i64 h.sy] L M (m : Int) ar g1 c1 g2 c2 W3) := Y2.out.put N2.out.2.1 N2.out.2.2 k2 hl3
          have N3 : Hid (w.heap.size ≤ nb ∧ W3.heap[nb]? = some (.cells #[.slice (some ⟨g1, 0, none⟩) (L.length + 1) c1, .slice (some ⟨g2, 0, none⟩) (M.length + 1) c2, .int .i64 wn, .int .i64 ln, .int .i64 s.x, .int .i64 s.y, .int .i64 s.fr, .int .i64 s.to, .int .i64 s.sy] 57 (0, 0)) ∧ nb ≠ wb) := ⟨N2.out.1, k1, N2.out.2.2⟩
          have hx2 := N2.out.2.1
          have q0 := blkCell hx2 0 _ rfl
          have z0 := blkFree hx2 0
          have q1 := blkCell hx2 1 _ rfl
          have z1 := blkFree hx2 1
          have q2 := blkCell hx2 2 _ rfl
          have z2 := blkFree hx2 2
          have q3 := blkCell hx2 3 _ rfl
          have z3 := blkFree hx2 3
          have q4 := blkCell hx2 4 _ rfl
          have z4 := blkFree hx2 4
          have q5 := blkCell hx2 5 _ rfl
          have z5 := blkFree hx2 5
          have q6 := blkCell hx2 6 _ rfl
          have z6 := blkFree hx2 6
          have q7 := blkCell hx2 7 _ rfl
          have z7 := blkFree hx2 7
          have q8 := blkCell hx2 8 _ rfl
          have z8 := blkFree hx2 8
          clear k1 k2 hW3 hl3 hx2
          refine wpAnyH_ready (rs := [11]) (by kernel_rfl) (by simp) ?_
          refine AllReadyH.cons rfl (fun K hK => ?_) AllReadyH.nil
          go_simp
          rw [← E3.out]
          clear q0 z0 q1 z1 q2 z2 q3 z3 q4 z4 q5 z5 q6 z6 q7 z7 q8 z8
          refine hK.out _ _ ⟨Y3.out.b.low, Y3.out.b.box.2⟩ (fun _ => ?_)
          clear hK K
          try simp only [Act.put, List.setIfInBounds_toArray, List.set_cons_zero, List.set_cons_succ, List.getElem_toArray, List.getElem_cons_succ, List.getElem_cons_zero]
          refine wpAnyH_take (i := 12) (v := .bool (decide (ar ≤ s.to))) rfl (by kernel_rfl) (by kernel_rfl) (by kernel_rfl) (fun _ _ _ h => h) (Or.inl ⟨by rfl, fun w hSw => by clear hSw; go_simp⟩) ⟨Y3.out.b.low, Y3.out.b.box.2⟩ ?_
          try simp only [Act.put, List.setIfInBounds_toArray, List.set_cons_zero, List.set_cons_succ, List.getElem_toArray, List.getElem_cons_succ, List.getElem_cons_zero]
          refine wpAnyH_done (by kernel_rfl) ?_ _
          clear hH
          go_wp2_with fail
          go_meet
          exact ⟨nb, g1, c1, g2, c2, rfl, rfl, Y3.out, N3.out⟩
        · skip
          go_simp
          obtain ⟨V1, hV⟩ : ∃ V, V = V0.alloc (Obj.cells #[.slice none 0 0, .slice none 0 0, .int .i64 0, .int .i64 0, .int .i64 0, .int .i64 0, .int .i64 0, .int .i64 0, .int .i64 0] 57) := ⟨_, rfl⟩
          obtain ⟨nb, hn⟩ : ∃ n, n = V0.heap.size := ⟨_, rfl⟩
          rw [← hV, ← hn]
          have H1 : Hid (RoI w R wb ga gc L ha hc M wt lv h V1) := by rw [hV]; exact H0.out.later (below_alloc _ _)
          have N1 : Hid (w.heap.size ≤ nb ∧ V1.heap[nb]? = some (.cells #[.slice none 0 0, .slice none 0 0, .int .i64 0, .int .i64 0, .int .i64 0, .int .i64 0, .int .i64 0, .int .i64 0, .int .i64 0] 57 (0, 0)) ∧ nb ≠ wb) := by
            refine (show _ ∧ _ ∧ _ from ⟨?_, ?_, fun e => ?_⟩)
            · rw [hn]; exact H0.out.b.low.size
            · rw [hV, hn]; exact heapNew _ _
            · have := blkLt H0.out.b.box.2
              omega
          clear hV hn
          refine hK.out _ _ ⟨H1.out.b.low, H1.out.b.box.2⟩ (fun _ => ?_)
          clear hK K
          try simp only [Act.put, List.setIfInBounds_toArray, List.set_cons_zero, List.set_cons_succ, List.getElem_toArray, List.getElem_cons_succ, List.getElem_cons_zero]
          refine wpAnyH_ready (rs := [6]) (by kernel_rfl) (by simp) ?_
          refine AllReadyH.cons rfl (fun K hK => ?_) AllReadyH.nil
          go_simp
          go_at_call 29
          refine (HV.out V1 H1.out.rowL H1.out.rowM H1.out.b.low.size).mono ?_
          rintro e V2 ⟨g1, c1, g2, c2, rfl, n1, _, n2, _, hne, _, _, hf⟩
          have Y2 : Hid (RoY w R wb #[.slice ga L.length gc, .slice ha M.length hc, .int .i64 wt, .int .i64 lv, .int .i64 h.x, .int .i64 h.y, .int .i64 h.fr, .int .i64 h.to, .int .i64 h.sy] L M (m : Int) ar g1 c1 g2 c2 V2) := H1.out.step hf n1 n2 hne
          have N2 : Hid (w.heap.size ≤ nb ∧ V2.heap[nb]? = some (.cells #[.slice none 0 0, .slice none 0 0, .int .i64 0, .int .i64 0, .int .i64 0, .int .i64 0, .int .i64 0, .int .i64 0, .int .i64 0] 57 (0, 0)) ∧ nb ≠ wb) := ⟨N1.out.1, fr_type hf N1.out.2.1 (by decide) H1.out.xt, N1.out.2.2⟩
          clear n1 n2 hne hf N1
          refine hK.out _ _ ⟨Y2.out.b.low, Y2.out.b.box.2⟩ (fun _ => ?_)
          clear hK K
          try simp only [Act.put, List.setIfInBounds_toArray, List.set_cons_zero, List.set_cons_succ, List.getElem_toArray, List.getElem_cons_succ, List.getElem_cons_zero]
          refine wpAnyH_take (i := 7) (v := .tuple #[.agg #[.slice (some ⟨g1, 0, none⟩) (L.length + 1) c1, .slice (some ⟨g2, 0, none⟩) (M.length + 1) c2, .int .i64 wn, .int .i64 ln, .int .i64 s.x, .int .i64 s.y, .int .i64 s.fr, .int .i64 s.to, .int .i64 s.sy], .bool (decide (ar ≤ s.to))]) rfl (by kernel_rfl) (by kernel_rfl) (by kernel_rfl) (fun _ _ _ h => h) (Or.inl ⟨by rfl, fun w hSw => by clear hSw; go_simp⟩) ⟨Y2.out.b.low, Y2.out.b.box.2⟩ ?_
          try simp only [Act.put, List.setIfInBounds_toArray, List.set_cons_zero, List.set_cons_succ, List.getElem_toArray, List.getElem_cons_succ, List.getElem_cons_zero]
          refine wpAnyH_take (i := 8) (v := .agg #[.slice (some ⟨g1, 0, none⟩) (L.length + 1) c1, .slice (some ⟨g2, 0, none⟩) (M.length + 1) c2, .int .i64 wn, .int .i64 ln, .int .i64 s.x, .int .i64 s.y, .int .i64 s.fr, .int .i64 s.to, .int .i64 s.sy]) rfl (by kernel_rfl) (by kernel_rfl) (by kernel_rfl) (fun _ _ _ h => h) (Or.inl ⟨by rfl, fun w hSw => by clear hSw; go_simp⟩) ⟨Y2.out.b.low, Y2.out.b.box.2⟩ ?_
          try simp only [Act.put, List.setIfInBounds_toArray, List.set_cons_zero, List.set_cons_succ, List.getElem_toArray, List.getElem_cons_succ, List.getElem_cons_zero]
          refine wpAnyH_take (i := 9) (v := .bool (decide (ar ≤ s.to))) rfl (by kernel_rfl) (by kernel_rfl) (by kernel_rfl) (fun _ _ _ h => h) (Or.inl ⟨by rfl, fun w hSw => by clear hSw; go_simp⟩) ⟨Y2.out.b.low, Y2.out.b.box.2⟩ ?_
          try simp only [Act.put, List.setIfInBounds_toArray, List.set_cons_zero, List.set_cons_succ, List.getElem_toArray, List.getElem_cons_succ, List.getElem_cons_zero]
          obtain ⟨W3, hW3⟩ : ∃ W3, W3 = ((((((((V2.setCell ⟨nb, 0, none⟩ (.slice (some ⟨g1, 0, none⟩) (L.length + 1) c1)).setCell ⟨nb, 1, none⟩ (.slice (some ⟨g2, 0, none⟩) (M.length + 1) c2)).setCell ⟨nb, 2, none⟩ (.int .i64 wn)).setCell ⟨nb, 3, none⟩ (.int .i64 ln)).setCell ⟨nb, 4, none⟩ (.int .i64 s.x)).setCell ⟨nb, 5, none⟩ (.int .i64 s.y)).setCell ⟨nb, 6, none⟩ (.int .i64 s.fr)).setCell ⟨nb, 7, none⟩ (.int .i64 s.to)).setCell ⟨nb, 8, none⟩ (.int .i64 s.sy) := ⟨_, rfl⟩
          obtain ⟨k1, k2⟩ := set_nine N2.out.2.1 (.slice (some ⟨g1, 0, none⟩) (L.length + 1) c1) (.slice (some ⟨g2, 0, none⟩) (M.length + 1) c2) (.int .i64 wn) (.int .i64 ln) (.int .i64 s.x) (.int .i64 s.y) (.int .i64 s.fr) (.int .i64 s.to) (.int .i64 s.sy)
          rw [← hW3] at k1 k2
          have E3 : Hid (W3 = ((((((((V2.setCell ⟨nb, 0, none⟩ (.slice (some ⟨g1, 0, none⟩) (L.length + 1) c1)).setCell ⟨nb, 1, none⟩ (.slice (some ⟨g2, 0, none⟩) (M.length + 1) c2)).setCell ⟨nb, 2, none⟩ (.int .i64 wn)).setCell ⟨nb, 3, none⟩ (.int .i64 ln)).setCell ⟨nb, 4, none⟩ (.int .i64 s.x)).setCell ⟨nb, 5, none⟩ (.int .i64 s.y)).setCell ⟨nb, 6, none⟩ (.int .i64 s.fr)).setCell ⟨nb, 7, none⟩ (.int .i64 s.to)).setCell ⟨nb, 8, none⟩ (.int .i64 s.sy)) := hW3
          have hl3 : Below w.heap.size w W3 := by
            rw [hW3]
            exact ((((((((Y2.out.b.low.setCell N2.out.1 _).setCell N2.out.1 _).setCell N2.out.1 _).setCell N2.out.1 _).setCell N2.out.1 _).setCell N2.out.1 _).setCell N2.out.1 _).setCell N2.out.1 _).setCell N2.out.1 _
          have Y3 : Hid (RoY w R wb #[.slice ga L.length gc, .slice ha M.length hc, .int .i64 wt, .int .i64 lv, .int .i64 h.x, .int .i64 h.y, .int .i64 h.fr, .int .i64 h.to, .int .i64 h.sy] L M (m : Int) ar g1 c1 g2 c2 W3) := Y2.out.put N2.out.2.1 N2.out.2.2 k2 hl3
          have N3 : Hid (w.heap.size ≤ nb ∧ W3.heap[nb]? = some (.cells #[.slice (some ⟨g1, 0, none⟩) (L.length + 1) c1, .slice (some ⟨g2, 0, none⟩) (M.length + 1) c2, .int .i64 wn, .int .i64 ln, .int .i64 s.x, .int .i64 s.y, .int .i64 s.fr, .int .i64 s.to, .int .i64 s.sy] 57 (0, 0)) ∧ nb ≠ wb) := ⟨N2.out.1, k1, N2.out.2.2⟩
          have hx2 := N2.out.2.1
          have q0 := blkCell hx2 0 _ rfl
          have z0 := blkFree hx2 0
          have q1 := blkCell hx2 1 _ rfl
          have z1 := blkFree hx2 1
          have q2 := blkCell hx2 2 _ rfl
          have z2 := blkFree hx2 2
          have q3 := blkCell hx2 3 _ rfl
          have z3 := blkFree hx2 3
          have q4 := blkCell hx2 4 _ rfl
          have z4 := blkFree hx2 4
          have q5 := blkCell hx2 5 _ rfl
          have z5 := blkFree hx2 5
          have q6 := blkCell hx2 6 _ rfl
          have z6 := blkFree hx2 6
          have q7 := blkCell hx2 7 _ rfl
          have z7 := blkFree hx2 7
          have q8 := blkCell hx2 8 _ rfl
          have z8 := blkFree hx2 8
          clear k1 k2 hW3 hl3 hx2
          refine wpAnyH_ready (rs := [11]) (by kernel_rfl) (by simp) ?_
          refine AllReadyH.cons rfl (fun K hK => ?_) AllReadyH.nil
          go_simp
          rw [← E3.out]
          clear q0 z0 q1 z1 q2 z2 q3 z3 q4 z4 q5 z5 q6 z6 q7 z7 q8 z8
          refine hK.out _ _ ⟨Y3.out.b.low, Y3.out.b.box.2⟩ (fun _ => ?_)
          clear hK K
          try simp only [Act.put, List.setIfInBounds_toArray, List.set_cons_zero, List.set_cons_succ, List.getElem_toArray, List.getElem_cons_succ, List.getElem_cons_zero]
          refine wpAnyH_take (i := 12) (v := .bool (decide (ar ≤ s.to))) rfl (by kernel_rfl) (by kernel_rfl) (by kernel_rfl) (fun _ _ _ h => h) (Or.inl ⟨by rfl, fun w hSw => by clear hSw; go_simp⟩) ⟨Y3.out.b.low, Y3.out.b.box.2⟩ ?_
          try simp only [Act.put, List.setIfInBounds_toArray, List.set_cons_zero, List.set_cons_succ, List.getElem_toArray, List.getElem_cons_succ, List.getElem_cons_zero]
          refine wpAnyH_done (by kernel_rfl) ?_ _
          clear hH
          go_wp2_with fail
          go_meet
          exact ⟨nb, g1, c1, g2, c2, rfl, rfl, Y3.out, N3.out⟩
      case rest =>
        obtain ⟨nb, g1, c1, g2, c2, rfl, rfl, hY, hnw, hnb, hne⟩ := hcut
        have HY : Hid (RoY w R wb #[.slice ga L.length gc, .slice ha M.length hc, .int .i64 wt, .int .i64 lv, .int .i64 h.x, .int .i64 h.y, .int .i64 h.fr, .int .i64 h.to, .int .i64 h.sy] L M (m : Int) ar g1 c1 g2 c2 wc) := hY
        have HN : Hid (w.heap.size ≤ nb ∧ wc.heap[nb]? = some (.cells #[.slice (some ⟨g1, 0, none⟩) (L.length + 1) c1, .slice (some ⟨g2, 0, none⟩) (M.length + 1) c2, .int .i64 wn, .int .i64 ln, .int .i64 s.x, .int .i64 s.y, .int .i64 s.fr, .int .i64 s.to, .int .i64 s.sy] 57 (0, 0)) ∧ nb ≠ wb) := ⟨hnw, hnb, hne⟩
        clear hY hnw hnb hne HC HV HI
        cases hok : decide (ar ≤ s.to)
        · have hc17 : rc = 17 := HTl2.out hok
          have HC17 : Hid (rc = 17) := hc17
          have HNo : Hid (∀ w', Below w.heap.size w w' → AnsM rc rL rA rW rE w (.returned (.tuple #[.agg #[.slice none 0 0, .slice none 0 0, .int .i64 0, .int .i64 0], .int .i64 17])) w') := fun w' hb => HNo0.out 17 w' HC17.out (by omega) hb
          clear hc17
          have hrx := HY.out.b.res.2
          have z0 := blkCell hrx 0 _ rfl
          have z1 := blkCell hrx 1 _ rfl
          have z2 := blkCell hrx 2 _ rfl
          have z3 := blkCell hrx 3 _ rfl
          have y0 := blkFree hrx 0
          have y1 := blkFree hrx 1
          have y2 := blkFree hrx 2
          have y3 := blkFree hrx 3
          simp only [List.getElem_toArray, List.getElem_cons_zero, List.getElem_cons_succ] at z0 z1 z2 z3
          clear hrx
          go_wp2_with fail
          refine bodyPost_ret (v := .tuple #[.agg #[.slice none 0 0, .slice none 0 0, .int .i64 0, .int .i64 0], .int .i64 17]) (by simp [results, Try.results7, go_sem, z0, z1, z2, z3]) rfl ?_
          refine HNo.out _ ?_
          repeat refine Below.setCell ?_ (by dsimp only; omega) _
          exact HY.out.b.low
        · have HStep2 : Hid (trp rs b (os.take (k + 1)) = ⟨ln, wn, s, M ++ [ar], true⟩) := by show _ = _; rw [HStep.out, hok]
          have hxn := HN.out.2.1
          have hxw := HY.out.b.box.2
          have t0 := blkCell hxn 0 _ rfl
          have q0 := blkCell hxw 0 _ rfl
          have z0 := blkFree hxw 0
          have t1 := blkCell hxn 1 _ rfl
          have q1 := blkCell hxw 1 _ rfl
          have z1 := blkFree hxw 1
          have t2 := blkCell hxn 2 _ rfl
          have q2 := blkCell hxw 2 _ rfl
          have z2 := blkFree hxw 2
          have t3 := blkCell hxn 3 _ rfl
          have q3 := blkCell hxw 3 _ rfl
          have z3 := blkFree hxw 3
          have t4 := blkCell hxn 4 _ rfl
          have q4 := blkCell hxw 4 _ rfl
          have z4 := blkFree hxw 4
          have t5 := blkCell hxn 5 _ rfl
          have q5 := blkCell hxw 5 _ rfl
          have z5 := blkFree hxw 5
          have t6 := blkCell hxn 6 _ rfl
          have q6 := blkCell hxw 6 _ rfl
          have z6 := blkFree hxw 6
          have t7 := blkCell hxn 7 _ rfl
          have q7 := blkCell hxw 7 _ rfl
          have z7 := blkFree hxw 7
          have t8 := blkCell hxn 8 _ rfl
          have q8 := blkCell hxw 8 _ rfl
          have z8 := blkFree hxw 8
          simp only [List.getElem_toArray, List.getElem_cons_zero, List.getElem_cons_succ] at t0 t1 t2 t3 t4 t5 t6 t7 t8 q0 q1 q2 q3 q4 q5 q6 q7 q8
          obtain ⟨k1, k2⟩ := set_nine hxw (.slice (some ⟨g1, 0, none⟩) (L.length + 1) c1) (.slice (some ⟨g2, 0, none⟩) (M.length + 1) c2) (.int .i64 wn) (.int .i64 ln) (.int .i64 s.x) (.int .i64 s.y) (.int .i64 s.fr) (.int .i64 s.to) (.int .i64 s.sy)
          obtain ⟨W5, hW5⟩ : ∃ W5, W5 = ((((((((wc.setCell ⟨wb, 0, none⟩ (.slice (some ⟨g1, 0, none⟩) (L.length + 1) c1)).setCell ⟨wb, 1, none⟩ (.slice (some ⟨g2, 0, none⟩) (M.length + 1) c2)).setCell ⟨wb, 2, none⟩ (.int .i64 wn)).setCell ⟨wb, 3, none⟩ (.int .i64 ln)).setCell ⟨wb, 4, none⟩ (.int .i64 s.x)).setCell ⟨wb, 5, none⟩ (.int .i64 s.y)).setCell ⟨wb, 6, none⟩ (.int .i64 s.fr)).setCell ⟨wb, 7, none⟩ (.int .i64 s.to)).setCell ⟨wb, 8, none⟩ (.int .i64 s.sy) := ⟨_, rfl⟩
          rw [← hW5] at k1 k2
          have hl5 : Below w.heap.size w W5 := by
            have hwb := HY.out.b.box.1
            rw [hW5]
            exact ((((((((HY.out.b.low.setCell hwb _).setCell hwb _).setCell hwb _).setCell hwb _).setCell hwb _).setCell hwb _).setCell hwb _).setCell hwb _).setCell hwb _
          have H5 : Hid (RoI w R wb (some ⟨g1, 0, none⟩) c1 (L ++ [(m : Int)]) (some ⟨g2, 0, none⟩) c2 (M ++ [ar]) wn ln s W5) := HY.out.next rfl k2 k1 hl5
          have E5 : Hid (W5 = ((((((((wc.setCell ⟨wb, 0, none⟩ (.slice (some ⟨g1, 0, none⟩) (L.length + 1) c1)).setCell ⟨wb, 1, none⟩ (.slice (some ⟨g2, 0, none⟩) (M.length + 1) c2)).setCell ⟨wb, 2, none⟩ (.int .i64 wn)).setCell ⟨wb, 3, none⟩ (.int .i64 ln)).setCell ⟨wb, 4, none⟩ (.int .i64 s.x)).setCell ⟨wb, 5, none⟩ (.int .i64 s.y)).setCell ⟨wb, 6, none⟩ (.int .i64 s.fr)).setCell ⟨wb, 7, none⟩ (.int .i64 s.to)).setCell ⟨wb, 8, none⟩ (.int .i64 s.sy)) := hW5
          clear k1 k2 hW5 hl5 hxn hxw hok
          go_wp2_with fail
          first | rw [← E5.out] | skip
          go_wp2
          have hFin : ∃ (k' : Nat) (ga ha : Option Addr) (gc hc : Nat), k' ≤ os.length ∧ Value.int IntKind.i64 ((k : Int) + 1) = .int .i64 (k' : Int) ∧ (trp rs b (os.take k')).ok = true ∧ RoI w R wb ga gc (os.take k') ha hc (trp rs b (os.take k')).A (trp rs b (os.take k')).wt (trp rs b (os.take k')).lv (trp rs b (os.take k')).h W5 := ⟨k + 1, _, _, _, _, by omega, by go_num, by rw [HStep2.out], by rw [HStep2.out, HTk2.out]; exact H5.out⟩
          exact ⟨hFin, by simp [intOf]; omega⟩
    · have hle : (os.length : Int) ≤ (k : Int) := by omega
      obtain rfl : k = os.length := by omega
      rw [← HAll.out] at HI HOkk
      rw [← HAll.out] at hbd hAl
      have hyes := HYes.out HOkk.out
      rw [List.take_length] at HI
      clear HSt HTk HTl HLate HIn HBd HAl HAll HYes HOkk
      generalize trp rs b os = t at *
      obtain ⟨lv, wt, h, M, tok⟩ := t
      unfold endT at hyes
      dsimp only at *
      obtain ⟨y1, y2, y3, y4, y5⟩ := hyes
      have HYs : Hid ((rc = 0 ∧ rL = os ∧ rA = M) ∧ rW = wt ∧ rE = lv + farH h zHp) := ⟨⟨y1, y2, y3⟩, y4, y5⟩
      have hlv : 0 ≤ lv ∧ lv ≤ 100000 + 110000 * (os.length : Int) := hbd.lv
      have hrsl := HLn.out
      have HRt : Hid (∀ W, W.ownsRow w.heap.size 3 1 (.slice ga os.length gc) os.length (inV os) → W.ownsRow w.heap.size 3 1 (.slice ha M.length hc) M.length (inV M) → Calls Try.prog 30 #[.agg #[.slice ga os.length gc, .slice ha M.length hc, .int .i64 wt, .int .i64 lv, .int .i64 h.x, .int .i64 h.y, .int .i64 h.fr, .int .i64 h.to, .int .i64 h.sy]] W (AnsS os M wt (lv + farH h zHp) W)) := fun W r1 r2 => route_any w.heap.size ga gc os ha hc M wt lv h hbd.h (by omega) (by omega) (by omega) W r1 r2
      clear y1 y2 y3 y4 y5 hbd hAl hlv hk hlt hrsl
      generalize lv + farH h zHp = en at *
      have hxw := HI.out.b.box.2
      have t0 := blkCell hxw 0 _ rfl
      have t1 := blkCell hxw 1 _ rfl
      have t2 := blkCell hxw 2 _ rfl
      have t3 := blkCell hxw 3 _ rfl
      have t4 := blkCell hxw 4 _ rfl
      have t5 := blkCell hxw 5 _ rfl
      have t6 := blkCell hxw 6 _ rfl
      have t7 := blkCell hxw 7 _ rfl
      have t8 := blkCell hxw 8 _ rfl
      simp only [List.getElem_toArray, List.getElem_cons_zero, List.getElem_cons_succ] at t0 t1 t2 t3 t4 t5 t6 t7 t8
      clear hxw
      go_wp2_with fail
      (first | go_at_call 30 | skip)
      refine (HRt.out wr HI.out.rowL HI.out.rowM).mono ?_
      rintro e w6 ⟨q6, c6, s6, d6, mid, rfl, ⟨m1, m2⟩, r1, r2, hb6⟩
      have H6 : Hid ((wr.heap.size ≤ mid ∧ mid ≤ w6.heap.size) ∧ RowI wr.heap.size mid w6 q6 os ∧ RowI mid w6.heap.size w6 s6 M ∧ RoB w R wb #[.slice ga os.length gc, .slice ha M.length hc, .int .i64 wt, .int .i64 lv, .int .i64 h.x, .int .i64 h.y, .int .i64 h.fr, .int .i64 h.to, .int .i64 h.sy] w6 ∧ R < wr.heap.size) := ⟨⟨m1, m2⟩, r1, r2, HI.out.b.later hb6, blkLt HI.out.b.res.2⟩
      have HSz : Hid (w.heap.size ≤ wr.heap.size) := HI.out.b.low.size
      clear m1 m2 r1 r2 hb6 t0 t1 t2 t3 t4 t5 t6 t7 t8 HI HRt
      have hrx := H6.out.2.2.2.1.res.2
      have q0 := blkCell hrx 0 _ rfl
      have q1 := blkCell hrx 1 _ rfl
      have q2 := blkCell hrx 2 _ rfl
      have q3 := blkCell hrx 3 _ rfl
      have z0 := blkFree hrx 0
      have z1 := blkFree hrx 1
      have z2 := blkFree hrx 2
      have z3 := blkFree hrx 3
      simp only [List.getElem_toArray, List.getElem_cons_zero, List.getElem_cons_succ] at q0 q1 q2 q3
      clear hrx
      go_wp2_with fail
      refine bodyPost_ret (v := .tuple #[.agg #[.slice q6 os.length c6, .slice s6 M.length d6, .int .i64 wt, .int .i64 en], .int .i64 0]) (by simp [results, Try.results7, go_sem, q0, q1, q2, q3]) rfl ?_
      obtain ⟨⟨e1, e2, e3⟩, e4, e5⟩ := HYs.out
      obtain ⟨⟨m1, m2⟩, r1, r2, rB, rR⟩ := H6.out
      have hsz := HSz.out
      have hRz : R < mid := by omega
      rw [e1, e2, e3, e4, e5]
      refine ⟨q6, c6, s6, d6, mid, rfl, ⟨by omega, by simp only [World.size_setCell]; exact m2⟩, ?_, ?_, ?_⟩
      · refine RowI.wide (lo := wr.heap.size) (hi := mid) ?_ hsz (Nat.le_refl _) (by simp only [World.size_setCell]; exact m2)
        exact (((r1.set rR _ _).set rR _ _).set rR _ _).set rR _ _
      · simp only [World.size_setCell]
        exact (((r2.set hRz _ _).set hRz _ _).set hRz _ _).set hRz _ _
      · repeat refine Below.setCell ?_ (by dsimp only; omega) _
        exact rB.low
theorem implRouteOf_any (ad : Option Addr) (cap : Nat) (rs : List RHp) (b : Int) (ao : Option Addr) (co : Nat) (os : List Int) (hl : rs.length ≤ 100000000) (hl2 : os.length ≤ 100000000) (w : World) (hr : ReadsHp w.heap.size w ad rs) (hro : Reads w.heap.size w ao os) :
    Calls Try.prog 7 #[.slice ad rs.length cap, .int .i64 b, .slice ao os.length co] w (AnsM (roC rs b os) (roL rs b os) (roA rs b os) (roW rs b os) (roE rs b os) w) := by
  rcases ro_ways rs b os with ⟨h1, hc⟩ | ⟨h1, h2, hc⟩ | ⟨h1, h2, h3, hc⟩ | ⟨h1, h2, h3, hc⟩
  · obtain ⟨e1, e2, e3, e4⟩ := ro_no hc (by omega)
    rw [e1, e2, e3, e4, hc]
    have h1' : (4096 : Int) < (os.length : Int) := by omega
    clear e1 e2 e3 e4 hc hr hro h1
    go_enter Try.func7, Try.ntmps7
    go_wp2
    refine bodyPost_ret (v := .tuple #[.agg #[.slice none 0 0, .slice none 0 0, .int .i64 0, .int .i64 0], .int .i64 2]) (by simp [results, Try.results7, go_sem]) rfl ?_
    exact ansM_none (below_alloc _ _)
  · have hneg : ¬ (4096 : Int) < (os.length : Int) := by omega
    have hn0 : ∀ (c : Int) (w' : World), roC rs b os = c → c ≠ 0 → Below w.heap.size w w' → AnsM (roC rs b os) (roL rs b os) (roA rs b os) (roW rs b os) (roE rs b os) w (.returned (.tuple #[.agg #[.slice none 0 0, .slice none 0 0, .int .i64 0, .int .i64 0], .int .i64 c])) w' := fun c w' h1 h2 h3 => by
      obtain ⟨e1, e2, e3, e4⟩ := ro_no h1 h2
      rw [e1, e2, e3, e4, h1]
      exact ansM_none h3
    obtain ⟨R, hR⟩ : ∃ R, R = w.heap.size := ⟨_, rfl⟩
    obtain ⟨W0, hW0⟩ : ∃ W0, W0 = w.alloc (Obj.cells #[.slice none 0 0, .slice none 0 0, .int .i64 0, .int .i64 0] 28) := ⟨_, rfl⟩
    have HW0 : Hid (W0 = w.alloc (Obj.cells #[.slice none 0 0, .slice none 0 0, .int .i64 0, .int .i64 0] 28) ∧ R = w.heap.size) := ⟨hW0, hR⟩
    have HB0 : Hid (Below w.heap.size w W0) := by show Below _ _ _; rw [hW0]; exact below_alloc _ _
    have HRx : Hid (W0.heap[R]? = some (.cells #[.slice none 0 0, .slice none 0 0, .int .i64 0, .int .i64 0] 28 (0, 0))) := by show _ = _; rw [hW0, hR]; exact heapNew _ _
    have hRw : w.heap.size ≤ R := by rw [hR]; exact Nat.le_refl _
    have HF : Hid (∀ W, Below w.heap.size w W → Calls Try.prog 23 #[.slice ad rs.length cap, .int .i64 b] W fun e w' => e = .returned (.int .i64 (rfC rs b)) ∧ Below W.heap.size W w') := fun W hb => impFault_any ad cap rs b hl W ((hr.below hb).mono hb.size)
    clear hW0 hR
    have hfb : (rfC rs b != 0) = true := by simpa using h2
    have HNo : Hid (∀ w', Below w.heap.size w w' → AnsM (roC rs b os) (roL rs b os) (roA rs b os) (roW rs b os) (roE rs b os) w (.returned (.tuple #[.agg #[.slice none 0 0, .slice none 0 0, .int .i64 0, .int .i64 0], .int .i64 (rfC rs b)])) w') := fun w' hb => hn0 (rfC rs b) w' hc h2 hb
    clear hn0 hc h2 hr hro h1
    generalize rfC rs b = fv at *
    generalize roC rs b os = rc at *
    generalize roL rs b os = rL at *
    generalize roA rs b os = rA at *
    generalize roW rs b os = rW at *
    generalize roE rs b os = rE at *
    go_enter Try.func7, Try.ntmps7
    go_upto_region 3 with fail
    rw [← HW0.out.1, ← HW0.out.2]
    clear HW0
    go_wp2_with fail
    (first | go_at_call 23 | skip)
    refine (HF.out W0 HB0.out).mono ?_
    rintro e w1 ⟨rfl, hb1⟩
    have HB1 : Hid (Below W0.heap.size W0 w1) := hb1
    clear hb1 HF
    have hrx := (HB1.out.block R (blkLt HRx.out)).trans HRx.out
    have z0 := blkCell hrx 0 _ rfl
    have z1 := blkCell hrx 1 _ rfl
    have z2 := blkCell hrx 2 _ rfl
    have z3 := blkCell hrx 3 _ rfl
    have y0 := blkFree hrx 0
    have y1 := blkFree hrx 1
    have y2 := blkFree hrx 2
    have y3 := blkFree hrx 3
    simp only [List.getElem_toArray, List.getElem_cons_zero, List.getElem_cons_succ] at z0 z1 z2 z3
    clear hrx
    go_wp2_with fail
    refine bodyPost_ret (v := .tuple #[.agg #[.slice none 0 0, .slice none 0 0, .int .i64 0, .int .i64 0], .int .i64 fv]) (by simp [results, Try.results7, go_sem, z0, z1, z2, z3]) rfl ?_
    refine HNo.out _ ?_
    repeat refine Below.setCell ?_ (by dsimp only; omega) _
    exact (chain HB0.out HB1.out)
  · have hneg : ¬ (4096 : Int) < (os.length : Int) := by omega
    have hn0 : ∀ (c : Int) (w' : World), roC rs b os = c → c ≠ 0 → Below w.heap.size w w' → AnsM (roC rs b os) (roL rs b os) (roA rs b os) (roW rs b os) (roE rs b os) w (.returned (.tuple #[.agg #[.slice none 0 0, .slice none 0 0, .int .i64 0, .int .i64 0], .int .i64 c])) w' := fun c w' h1 h2 h3 => by
      obtain ⟨e1, e2, e3, e4⟩ := ro_no h1 h2
      rw [e1, e2, e3, e4, h1]
      exact ansM_none h3
    obtain ⟨R, hR⟩ : ∃ R, R = w.heap.size := ⟨_, rfl⟩
    obtain ⟨W0, hW0⟩ : ∃ W0, W0 = w.alloc (Obj.cells #[.slice none 0 0, .slice none 0 0, .int .i64 0, .int .i64 0] 28) := ⟨_, rfl⟩
    have HW0 : Hid (W0 = w.alloc (Obj.cells #[.slice none 0 0, .slice none 0 0, .int .i64 0, .int .i64 0] 28) ∧ R = w.heap.size) := ⟨hW0, hR⟩
    have HB0 : Hid (Below w.heap.size w W0) := by show Below _ _ _; rw [hW0]; exact below_alloc _ _
    have HRx : Hid (W0.heap[R]? = some (.cells #[.slice none 0 0, .slice none 0 0, .int .i64 0, .int .i64 0] 28 (0, 0))) := by show _ = _; rw [hW0, hR]; exact heapNew _ _
    have hRw : w.heap.size ≤ R := by rw [hR]; exact Nat.le_refl _
    have HF : Hid (∀ W, Below w.heap.size w W → Calls Try.prog 23 #[.slice ad rs.length cap, .int .i64 b] W fun e w' => e = .returned (.int .i64 (rfC rs b)) ∧ Below W.heap.size W w') := fun W hb => impFault_any ad cap rs b hl W ((hr.below hb).mono hb.size)
    clear hW0 hR
    have HNo : Hid (∀ w', Below w.heap.size w w' → AnsM (roC rs b os) (roL rs b os) (roA rs b os) (roW rs b os) (roE rs b os) w (.returned (.tuple #[.agg #[.slice none 0 0, .slice none 0 0, .int .i64 0, .int .i64 0], .int .i64 3])) w') := fun w' hb => hn0 3 w' hc (by omega) hb
    obtain ⟨h7, _, _⟩ := rf_zero h2
    have HOn : Hid (∀ W, Below w.heap.size w W → Calls Try.prog 28 #[.slice ao os.length co, .int .i64 (rs.length : Int)] W fun e w' => e = .returned (.bool false) ∧ Below W.heap.size W w') := fun W hb => by
      have := once_any ao co os rs.length (by omega) (by omega) W ((hro.below hb).mono hb.size)
      rwa [h3] at this
    rw [h2] at HF
    clear hn0 hc h2 h3 hr hro h1
    generalize roC rs b os = rc at *
    generalize roL rs b os = rL at *
    generalize roA rs b os = rA at *
    generalize roW rs b os = rW at *
    generalize roE rs b os = rE at *
    go_enter Try.func7, Try.ntmps7
    go_upto_region 3 with fail
    rw [← HW0.out.1, ← HW0.out.2]
    clear HW0
    go_wp2_with fail
    (first | go_at_call 23 | skip)
    refine (HF.out W0 HB0.out).mono ?_
    rintro e w1 ⟨rfl, hb1⟩
    have HB1 : Hid (Below W0.heap.size W0 w1) := hb1
    clear hb1 HF
    go_wp2_with fail
    (first | go_at_call 28 | skip)
    refine (HOn.out w1 (chain HB0.out HB1.out)).mono ?_
    rintro e w2 ⟨rfl, hb2⟩
    have HB2 : Hid (Below W0.heap.size W0 w2) := chain HB1.out hb2
    clear hb2 HB1 HOn
    have hrx := (HB2.out.block R (blkLt HRx.out)).trans HRx.out
    have z0 := blkCell hrx 0 _ rfl
    have z1 := blkCell hrx 1 _ rfl
    have z2 := blkCell hrx 2 _ rfl
    have z3 := blkCell hrx 3 _ rfl
    have y0 := blkFree hrx 0
    have y1 := blkFree hrx 1
    have y2 := blkFree hrx 2
    have y3 := blkFree hrx 3
    simp only [List.getElem_toArray, List.getElem_cons_zero, List.getElem_cons_succ] at z0 z1 z2 z3
    clear hrx
    go_wp2_with fail
    refine bodyPost_ret (v := .tuple #[.agg #[.slice none 0 0, .slice none 0 0, .int .i64 0, .int .i64 0], .int .i64 3]) (by simp [results, Try.results7, go_sem, z0, z1, z2, z3]) rfl ?_
    refine HNo.out _ ?_
    repeat refine Below.setCell ?_ (by dsimp only; omega) _
    exact (chain HB0.out HB2.out)
  · exact implRoute_ok ad cap rs b ao co os hl (by omega) h2 h3 w hr hro
end Go.Proofs.Ytoogphkojofkfaa

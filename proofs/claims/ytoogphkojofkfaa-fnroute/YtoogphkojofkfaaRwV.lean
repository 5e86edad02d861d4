/-
  Contract of the program's goOn: what it makes of the best route so far, whether it returns or ends the search.
-/
import Derived.Test.YtoogphkojofkfaaRwR
namespace Go.Proofs.Ytoogphkojofkfaa
open Go.ChangeShapes Go.WideShapes Go.ChangeAt Go.RowKit Go.Joins Go.Deep
set_option linter.unusedVariables false

def GoC (D lo sb : Nat) (ad : Option Addr) (cap : Nat) (bd : Int) (rs : List RHp) (b : Int) (w0 : World) (k : Nat) : Prop :=
  ∀ (L : List Int) (wt lv : Int) (h : RHp) (M : List Int) (B : Option (List Int)) (X : Nat → Prop) (ga : Option Addr) (gc : Nat) (ha : Option Addr) (hc : Nat) (n m : Nat) (W : World), n = L.length → m = M.length → L.length + k = rs.length → OrdN rs.length L → trp rs b L = ⟨lv, wt, h, M, true⟩ → GoS lo sb X ga gc L ha hc M W → PsR lo sb ad cap bd rs b X B W → W.ownsRow D 3 1 (.slice ga n gc) n (inV L) → W.ownsRow D 3 1 (.slice ha m hc) m (inV M) → Below D w0 W →
    Calls Try.prog 27 #[.pointer (some ⟨sb, 0, none⟩), .agg #[.slice ga n gc, .slice ha m hc, .int .i64 wt, .int .i64 lv, .int .i64 h.x, .int .i64 h.y, .int .i64 h.fr, .int .i64 h.to, .int .i64 h.sy]] W (GoQ D lo sb ad cap bd rs b X ga gc L ha hc M (tyR rs b k L B) W)
section
variable {D lo sb wb : Nat} {ad : Option Addr} {cap : Nat} {bd : Int} {rs : List RHp} {b : Int} {X : Nat → Prop} {ga : Option Addr} {gc : Nat} {L : List Int} {ha : Option Addr} {hc : Nat} {M : List Int} {wt lv : Int} {h : RHp} {B B2 : Option (List Int)} {W wr w2 w0 : World}
theorem GoI.head (q : GoI D lo sb wb ad cap bd rs b X ga gc L ha hc M wt lv h B W wr) : (B = none ∧ wr.heap[sb]? = some (.cells #[.slice ad rs.length cap, .int .i64 bd, .pointer none] 53 (0, 0))) ∨ ∃ o bb v0 v1 v2, B = some o ∧ wr.heap[sb]? = some (.cells #[.slice ad rs.length cap, .int .i64 bd, .pointer (some ⟨bb, 0, none⟩)] 53 (0, 0)) ∧ wr.heap[bb]? = some (.cells #[v0, v1, v2, .int .i64 (enR rs b o)] 28 (0, 0)) := by
  rcases q.ps with h | ⟨o, bb, g, cq, s, cs, mid, h1, h2, h3, _⟩
  · exact .inl h
  · exact .inr ⟨o, bb, _, _, _, h1, h2, h3⟩
/-- Behind a trip's step: what the next place's try asks. -/
theorem GoI.visit {g1 c1 g2 c2 : Nat} (st : GoS lo sb X ga gc L ha hc M W) (q : GoI D lo sb wb ad cap bd rs b X ga gc L ha hc M wt lv h B W wr) (n1 : (ga = some ⟨g1, 0, none⟩ ∧ c1 = gc) ∨ wr.heap.size ≤ g1) (n2 : (ha = some ⟨g2, 0, none⟩ ∧ c2 = hc) ∨ wr.heap.size ≤ g2) (hf : Fr (fun x => Value.ownBlock (.slice ga L.length gc) = some x ∨ Value.ownBlock (.slice ha M.length hc) = some x) wr w2) (h1 : w2.ownsRow D 3 1 (.slice ga L.length gc) L.length (inV L)) (h2 : w2.ownsRow D 3 1 (.slice ha M.length hc) M.length (inV M)) :
    GoI D lo sb wb ad cap bd rs b X ga gc L ha hc M wt lv h B W w2 ∧ PsR lo sb ad cap bd rs b (fun x => X x ∨ x = g1 ∨ x = g2) B w2 := by
  refine ⟨q.step st hf h1 h2, (q.ps.mono (Y := fun x => X x ∨ x = g1 ∨ x = g2) (fun x hx => ?_)).keep hf (fun x hx => .inl (st.inX x hx)) q.xt⟩
  rcases hx with hx | rfl | rfl
  · exact .inl hx
  · rcases n1 with ⟨k, _⟩ | k
    · exact .inl (st.inX _ (.inl (by rw [k]; rfl)))
    · exact .inr k
  · rcases n2 with ⟨k, _⟩ | k
    · exact .inl (st.inX _ (.inr (by rw [k]; rfl)))
    · exact .inr k
end
set_option maxHeartbeats 16000000 in
set_option maxRecDepth 8000 in
theorem go_step (D lo sb : Nat) (ad : Option Addr) (cap : Nat) (bd : Int) (rs : List RHp) (b : Int) (h7 : rs.length ≤ 7) (hs : hpsB rs = true) (hb : 0 ≤ b ∧ b ≤ 100000) (hbd : bd = leN b rs) (w0 : World) (hD : w0.heap.size = D) (hr0 : ReadsHp D w0 ad rs) (hsb : D ≤ sb) (k : Nat) (IH : Hid (∀ k', k = k' + 1 → GoC D lo sb ad cap bd rs b w0 k')) : GoC D lo sb ad cap bd rs b w0 k := by
  have HBd : Hid (bd = leN b rs) := hbd
  clear hbd
  intro L wt lv h M B X ga gc ha hc n m W hn hm hlk hord htrp hst hps hrL hrM hlow
  subst hn hm
  have hML : M.length = L.length := by have := trp_len rs b L; rw [htrp] at this; exact this
  have htb := trp_bd hs hb L.length L rfl
  rw [htrp] at htb
  obtain ⟨hblv, hbwt, hhin⟩ := htb
  dsimp only at hblv hbwt hhin
  have HSt : Hid (GoS lo sb X ga gc L ha hc M W) := hst
  have HLow : Hid (Below D w0 W) := hlow
  have HOrd : Hid (OrdN rs.length L) := hord
  have HT : Hid (trp rs b L = ⟨lv, wt, h, M, true⟩) := htrp
  have HEn : Hid (enR rs b L = lv + farH h zHp) := by show _ = _; unfold enR endT; rw [htrp]
  have HBk : Hid (∀ W, Calls Try.prog 43 #[.agg #[.slice ga L.length gc, .slice ha M.length hc, .int .i64 wt, .int .i64 lv, .int .i64 h.x, .int .i64 h.y, .int .i64 h.fr, .int .i64 h.to, .int .i64 h.sy]] W fun e w' => e = .returned (.int .i64 (lv + farH h zHp)) ∧ Below W.heap.size W w') := fun W => impBackT_any _ _ wt lv h hhin (by omega) W
  have HRt : Hid (∀ W, W.ownsRow D 3 1 (.slice ga L.length gc) L.length (inV L) → W.ownsRow D 3 1 (.slice ha M.length hc) M.length (inV M) → Calls Try.prog 30 #[.agg #[.slice ga L.length gc, .slice ha M.length hc, .int .i64 wt, .int .i64 lv, .int .i64 h.x, .int .i64 h.y, .int .i64 h.fr, .int .i64 h.to, .int .i64 h.sy]] W (AnsS L M wt (lv + farH h zHp) W)) := fun W h1 h2 => route_any D ga gc L ha hc M wt lv h hhin (by omega) (by omega) (by omega) W h1 h2
  have HVs : Hid (∀ (s : RHp) (p : Int) W, hpB s = true → D ≤ W.heap.size → W.ownsRow D 3 1 (.slice ga L.length gc) L.length (inV L) → W.ownsRow D 3 1 (.slice ha M.length hc) M.length (inV M) → Calls Try.prog 29 #[.agg #[.slice ga L.length gc, .slice ha M.length hc, .int .i64 wt, .int .i64 lv, .int .i64 h.x, .int .i64 h.y, .int .i64 h.fr, .int .i64 h.to, .int .i64 h.sy], .int .i64 p, .agg #[.int .i64 s.x, .int .i64 s.y, .int .i64 s.fr, .int .i64 s.to, .int .i64 s.sy]] W (VtQ D ga gc L ha hc M p s (arN lv h s) (wtN wt lv h s) (lvN lv h s) W)) := fun s p W h1 h2 h3 h4 => visit_any D ga gc L ha hc M wt lv h s p hhin h1 (by omega) (by omega) (by omega) (by omega) W h2 h3 h4 hst.sep
  obtain ⟨en, hen⟩ : ∃ en, lv + farH h zHp = en := ⟨_, rfl⟩
  rw [hen] at HEn HBk HRt
  clear hen
  obtain ⟨wb, hwb⟩ : ∃ wb, wb = W.heap.size := ⟨_, rfl⟩
  obtain ⟨W1, hW1⟩ : ∃ W1, W1 = W.alloc (Obj.cells #[.slice ga L.length gc, .slice ha M.length hc, .int .i64 wt, .int .i64 lv, .int .i64 h.x, .int .i64 h.y, .int .i64 h.fr, .int .i64 h.to, .int .i64 h.sy] 57) := ⟨_, rfl⟩
  have HE : Hid (W1 = W.alloc (Obj.cells #[.slice ga L.length gc, .slice ha M.length hc, .int .i64 wt, .int .i64 lv, .int .i64 h.x, .int .i64 h.y, .int .i64 h.fr, .int .i64 h.to, .int .i64 h.sy] 57) ∧ wb = W.heap.size) := ⟨hW1, hwb⟩
  have HI1 : Hid (GoI D lo sb wb ad cap bd rs b X ga gc L ha hc M wt lv h B W W1) := by rw [hW1, hwb]; exact GoI.start hps hrL hrM
  clear hps hrL hrM hlow hW1 hwb hord htrp hst hblv hbwt hhin
  have HMl : Hid (M.length = L.length) := hML
  clear hML
  go_enter Try.func27, Try.ntmps27
  go_upto_region 1 with fail
  rw [← HE.out.2, ← HE.out.1]
  clear HE
  refine wp_region_held_drew (S := fun W' => Below W1.heap.size W1 W') (by kernel_rfl) (below_drew _) (fun hH => ?_)
  refine wpAnyH_take (i := 0) (v := .pointer (some ⟨sb, 0, none⟩)) rfl (by kernel_rfl) (by kernel_rfl) (by kernel_rfl) (fun _ _ _ h => h) (Or.inl ⟨by rfl, fun w hSw => by clear hSw; go_simp⟩) hH ?_
  refine wpAnyH_take (i := 1) (v := .pointer (some ⟨sb, 0, none⟩)) rfl (by kernel_rfl) (by kernel_rfl) (by kernel_rfl) (fun _ _ _ h => h) (Or.inl ⟨by rfl, fun w hSw => by clear hSw; go_simp⟩) hH ?_
  try simp only [Act.put, List.setIfInBounds_toArray, List.set_cons_zero, List.set_cons_succ, List.getElem_toArray, List.getElem_cons_succ, List.getElem_cons_zero]
  refine wpAnyH_take (i := 2) (v := .pointer (some ⟨sb, 2, none⟩)) rfl (by kernel_rfl) (by kernel_rfl) (by kernel_rfl) (fun _ _ _ h => h) (Or.inl ⟨by rfl, fun w hSw => by clear hSw; go_simp⟩) hH ?_
  try simp only [Act.put, List.setIfInBounds_toArray, List.set_cons_zero, List.set_cons_succ, List.getElem_toArray, List.getElem_cons_succ, List.getElem_cons_zero]
  rcases HI1.out.head with ⟨rfl, hsc⟩ | ⟨o, bb, v0, v1, v2, rfl, hsc, hbc⟩
  · skip
    have HSc : Hid (W1.heap[sb]? = some (.cells #[.slice ad rs.length cap, .int .i64 bd, .pointer none] 53 (0, 0))) := hsc
    clear hsc
    refine wpAnyH_take (i := 3) (v := .pointer none) rfl (by kernel_rfl) (by kernel_rfl) (by kernel_rfl) (fun _ _ _ h => h) (Or.inl ⟨by rfl, fun w hSw => by have f0 := blkCell ((hSw.block sb (blkLt HSc.out)).trans HSc.out) 2 _ rfl; clear hSw; go_simp⟩) hH ?_
    try simp only [Act.put, List.setIfInBounds_toArray, List.set_cons_zero, List.set_cons_succ, List.getElem_toArray, List.getElem_cons_succ, List.getElem_cons_zero]
    refine wpAnyH_take (i := 4) (v := .bool false) rfl (by kernel_rfl) (by kernel_rfl) (by kernel_rfl) (fun _ _ _ h => h) (Or.inl ⟨by rfl, fun w hSw => by clear hSw; go_simp⟩) hH ?_
    try simp only [Act.put, List.setIfInBounds_toArray, List.set_cons_zero, List.set_cons_succ, List.getElem_toArray, List.getElem_cons_succ, List.getElem_cons_zero]
    refine wpAnyH_take (i := 5) (v := .bool false) rfl (by kernel_rfl) (by kernel_rfl) (by kernel_rfl) (fun _ _ _ h => h) (Or.inl ⟨by rfl, fun w hSw => by clear hSw; go_simp⟩) hH ?_
    try simp only [Act.put, List.setIfInBounds_toArray, List.set_cons_zero, List.set_cons_succ, List.getElem_toArray, List.getElem_cons_succ, List.getElem_cons_zero]
    refine wpAnyH_take (i := 6) (v := undef) rfl (by kernel_rfl) (by kernel_rfl) (by kernel_rfl) (fun _ _ _ h => h) (Or.inr ⟨by rfl, rfl⟩) hH ?_
    try simp only [Act.put, List.setIfInBounds_toArray, List.set_cons_zero, List.set_cons_succ, List.getElem_toArray, List.getElem_cons_succ, List.getElem_cons_zero]
    refine wpAnyH_take (i := 7) (v := undef) rfl (by kernel_rfl) (by kernel_rfl) (by kernel_rfl) (fun _ _ _ h => h) (Or.inr ⟨by rfl, rfl⟩) hH ?_
    try simp only [Act.put, List.setIfInBounds_toArray, List.set_cons_zero, List.set_cons_succ, List.getElem_toArray, List.getElem_cons_succ, List.getElem_cons_zero]
    refine wpAnyH_take (i := 8) (v := undef) rfl (by kernel_rfl) (by kernel_rfl) (by kernel_rfl) (fun _ _ _ h => h) (Or.inr ⟨by rfl, rfl⟩) hH ?_
    try simp only [Act.put, List.setIfInBounds_toArray, List.set_cons_zero, List.set_cons_succ, List.getElem_toArray, List.getElem_cons_succ, List.getElem_cons_zero]
    refine wpAnyH_take (i := 9) (v := undef) rfl (by kernel_rfl) (by kernel_rfl) (by kernel_rfl) (fun _ _ _ h => h) (Or.inr ⟨by rfl, rfl⟩) hH ?_
    try simp only [Act.put, List.setIfInBounds_toArray, List.set_cons_zero, List.set_cons_succ, List.getElem_toArray, List.getElem_cons_succ, List.getElem_cons_zero]
    refine wpAnyH_take (i := 10) (v := undef) rfl (by kernel_rfl) (by kernel_rfl) (by kernel_rfl) (fun _ _ _ h => h) (Or.inr ⟨by rfl, rfl⟩) hH ?_
    try simp only [Act.put, List.setIfInBounds_toArray, List.set_cons_zero, List.set_cons_succ, List.getElem_toArray, List.getElem_cons_succ, List.getElem_cons_zero]
    refine wpAnyH_take (i := 11) (v := undef) rfl (by kernel_rfl) (by kernel_rfl) (by kernel_rfl) (fun _ _ _ h => h) (Or.inr ⟨by rfl, rfl⟩) hH ?_
    try simp only [Act.put, List.setIfInBounds_toArray, List.set_cons_zero, List.set_cons_succ, List.getElem_toArray, List.getElem_cons_succ, List.getElem_cons_zero]
    refine wpAnyH_take (i := 12) (v := undef) rfl (by kernel_rfl) (by kernel_rfl) (by kernel_rfl) (fun _ _ _ h => h) (Or.inr ⟨by rfl, rfl⟩) hH ?_
    try simp only [Act.put, List.setIfInBounds_toArray, List.set_cons_zero, List.set_cons_succ, List.getElem_toArray, List.getElem_cons_succ, List.getElem_cons_zero]
    refine wpAnyH_take (i := 13) (v := undef) rfl (by kernel_rfl) (by kernel_rfl) (by kernel_rfl) (fun _ _ _ h => h) (Or.inr ⟨by rfl, rfl⟩) hH ?_
    try simp only [Act.put, List.setIfInBounds_toArray, List.set_cons_zero, List.set_cons_succ, List.getElem_toArray, List.getElem_cons_succ, List.getElem_cons_zero]
    refine wpAnyH_take (i := 14) (v := undef) rfl (by kernel_rfl) (by kernel_rfl) (by kernel_rfl) (fun _ _ _ h => h) (Or.inr ⟨by rfl, rfl⟩) hH ?_
    try simp only [Act.put, List.setIfInBounds_toArray, List.set_cons_zero, List.set_cons_succ, List.getElem_toArray, List.getElem_cons_succ, List.getElem_cons_zero]
    refine wpAnyH_take (i := 15) (v := undef) rfl (by kernel_rfl) (by kernel_rfl) (by kernel_rfl) (fun _ _ _ h => h) (Or.inr ⟨by rfl, rfl⟩) hH ?_
    try simp only [Act.put, List.setIfInBounds_toArray, List.set_cons_zero, List.set_cons_succ, List.getElem_toArray, List.getElem_cons_succ, List.getElem_cons_zero]
    refine wpAnyH_take (i := 16) (v := .bool false) rfl (by kernel_rfl) (by kernel_rfl) (by kernel_rfl) (fun _ _ _ h => h) (Or.inl ⟨by rfl, fun w hSw => by clear hSw; go_simp⟩) hH ?_
    try simp only [Act.put, List.setIfInBounds_toArray, List.set_cons_zero, List.set_cons_succ, List.getElem_toArray, List.getElem_cons_succ, List.getElem_cons_zero]
    refine wpAnyH_done (by kernel_rfl) ?_ _
    clear hH HSc
    have HI3 : Hid (GoI D lo sb wb ad cap bd rs b X ga gc L ha hc M wt lv h none W W1.drew) := HI1.out.later (below_drew _)
    generalize W1.drew = w3 at *
    clear HI1
    have HUp : Hid (updR rs b none L = some L) := updR_none rs b L

    by_cases hk0 : k = 0
    · subst hk0
      have hln : (L.length : Int) = (rs.length : Int) := by omega
      have hlb : ((L.length : Int) == (rs.length : Int)) = true := by rw [hln]; simp
      have HTy : Hid (tyR rs b 0 L none = some L) := by show _ = _; rw [tyR_end (by rw [HT.out]), HUp.out]
      clear hln
      go_upto_region 2 with fail
      refine wp_region_held_drew (S := fun W' => Below w3.heap.size w3 W') (by kernel_rfl) (below_drew _) (fun hH => ?_)
      refine wpAnyH_take (i := 0) (v := .pointer (some ⟨wb, 0, none⟩)) rfl (by kernel_rfl) (by kernel_rfl) (by kernel_rfl) (fun _ _ _ h => h) (Or.inl ⟨by rfl, fun w hSw => by clear hSw; go_simp⟩) hH ?_
      refine wpAnyH_take (i := 1) (v := .slice ga L.length gc) rfl (by kernel_rfl) (by kernel_rfl) (by kernel_rfl) (fun _ _ _ h => h) (Or.inl ⟨by rfl, fun w hSw => by obtain ⟨f0, f1, f2, f3, f4, f5, f6, f7, f8⟩ := (HI3.out.later hSw).bx; clear hSw; go_simp⟩) hH ?_
      try simp only [Act.put, List.setIfInBounds_toArray, List.set_cons_zero, List.set_cons_succ, List.getElem_toArray, List.getElem_cons_succ, List.getElem_cons_zero]
      refine wpAnyH_take (i := 2) (v := .int .i64 (L.length : Int)) rfl (by kernel_rfl) (by kernel_rfl) (by kernel_rfl) (fun _ _ _ h => h) (Or.inl ⟨by rfl, fun w hSw => by clear hSw; go_simp⟩) hH ?_
      try simp only [Act.put, List.setIfInBounds_toArray, List.set_cons_zero, List.set_cons_succ, List.getElem_toArray, List.getElem_cons_succ, List.getElem_cons_zero]
      refine wpAnyH_take (i := 3) (v := .pointer (some ⟨sb, 0, none⟩)) rfl (by kernel_rfl) (by kernel_rfl) (by kernel_rfl) (fun _ _ _ h => h) (Or.inl ⟨by rfl, fun w hSw => by clear hSw; go_simp⟩) hH ?_
      try simp only [Act.put, List.setIfInBounds_toArray, List.set_cons_zero, List.set_cons_succ, List.getElem_toArray, List.getElem_cons_succ, List.getElem_cons_zero]
      refine wpAnyH_take (i := 4) (v := .pointer (some ⟨sb, 0, none⟩)) rfl (by kernel_rfl) (by kernel_rfl) (by kernel_rfl) (fun _ _ _ h => h) (Or.inl ⟨by rfl, fun w hSw => by clear hSw; go_simp⟩) hH ?_
      try simp only [Act.put, List.setIfInBounds_toArray, List.set_cons_zero, List.set_cons_succ, List.getElem_toArray, List.getElem_cons_succ, List.getElem_cons_zero]
      refine wpAnyH_take (i := 5) (v := .pointer (some ⟨sb, 0, none⟩)) rfl (by kernel_rfl) (by kernel_rfl) (by kernel_rfl) (fun _ _ _ h => h) (Or.inl ⟨by rfl, fun w hSw => by clear hSw; go_simp⟩) hH ?_
      try simp only [Act.put, List.setIfInBounds_toArray, List.set_cons_zero, List.set_cons_succ, List.getElem_toArray, List.getElem_cons_succ, List.getElem_cons_zero]
      refine wpAnyH_take (i := 6) (v := .slice ad rs.length cap) rfl (by kernel_rfl) (by kernel_rfl) (by kernel_rfl) (fun _ _ _ h => h) (Or.inl ⟨by rfl, fun w hSw => by obtain ⟨f0, f1⟩ := (HI3.out.later hSw).sc; clear hSw; go_simp⟩) hH ?_
      try simp only [Act.put, List.setIfInBounds_toArray, List.set_cons_zero, List.set_cons_succ, List.getElem_toArray, List.getElem_cons_succ, List.getElem_cons_zero]
      refine wpAnyH_take (i := 7) (v := .int .i64 (rs.length : Int)) rfl (by kernel_rfl) (by kernel_rfl) (by kernel_rfl) (fun _ _ _ h => h) (Or.inl ⟨by rfl, fun w hSw => by clear hSw; go_simp⟩) hH ?_
      try simp only [Act.put, List.setIfInBounds_toArray, List.set_cons_zero, List.set_cons_succ, List.getElem_toArray, List.getElem_cons_succ, List.getElem_cons_zero]
      refine wpAnyH_take (i := 8) (v := .bool true) rfl (by kernel_rfl) (by kernel_rfl) (by kernel_rfl) (fun _ _ _ h => h) (Or.inl ⟨by rfl, fun w hSw => by clear hSw; go_simp⟩) hH ?_
      try simp only [Act.put, List.setIfInBounds_toArray, List.set_cons_zero, List.set_cons_succ, List.getElem_toArray, List.getElem_cons_succ, List.getElem_cons_zero]
      refine wpAnyH_done (by kernel_rfl) ?_ _
      have HI4 : Hid (GoI D lo sb wb ad cap bd rs b X ga gc L ha hc M wt lv h none W w3.drew) := HI3.out.later (below_drew _)
      clear hH HI3
      generalize w3.drew = w4 at *
      obtain ⟨f0, f1, f2, f3, f4, f5, f6, f7, f8⟩ := HI4.out.bx
      clear hlb
      go_wp2_with fail
      (first | go_at_call 30 | skip)
      refine (HRt.out w4 HI4.out.rowL HI4.out.rowM).mono ?_
      rintro e w5 ⟨g5, c5, s5, d5, mid, rfl, hmid, r1, r2, hb5⟩
      obtain ⟨vb, hvb⟩ := (HI4.out.later hb5).ps.sbk
      have HFin : Hid (∀ e w', KpI sb (.slice ad rs.length cap) bd g5 s5 L.length c5 M.length d5 wt en w5 w' → (e = .returned (.tuple #[]) ∨ ((∃ u pv, e = .panicked [{ v := .iface u pv, recovered := false }]) ∧ en ≤ bd)) → GoQ D lo sb ad cap bd rs b X ga gc L ha hc M (tyR rs b 0 L none) W e w') := fun e w' hK he => by
        rw [HTy.out]
        refine HI4.out.put (o := L) HSt.out hb5 hmid r1 (by rw [HT.out]; exact r2) (by rw [HT.out, HEn.out]; exact hK) (he.imp id (fun q => ⟨q.1, by rw [HEn.out]; exact q.2⟩))
      clear f0 f1 f2 f3 f4 f5 f6 f7 f8 r1 r2 hb5 hmid HI4
      by_cases hle2 : en ≤ bd
      · go_wp2_with fail
        (first | go_at_call 45 | skip)
        refine (keep_end sb _ vb bd g5 s5 L.length c5 M.length d5 wt en hle2 w5 hvb).mono ?_
        rintro e w6 ⟨rfl, hK⟩
        have HF := HFin.out (.panicked [{ v := .iface 93 (.agg #[]), recovered := false }]) w6 hK (.inr ⟨⟨_, _, rfl⟩, hle2⟩)
        clear HFin hK
        go_wp2
        exact ⟨rfl, HF⟩
      · go_wp2_with fail
        (first | go_at_call 45 | skip)
        refine (keep_more sb _ vb bd g5 s5 L.length c5 M.length d5 wt en (by omega) w5 hvb).mono ?_
        rintro e w6 ⟨rfl, hK⟩
        have HF := HFin.out _ _ hK (.inl rfl)
        clear HFin hK
        go_wp2
        go_end0
        exact HF
    · obtain ⟨k', rfl⟩ : ∃ k', k = k' + 1 := ⟨k - 1, by omega⟩
      have hlb : ((L.length : Int) == (rs.length : Int)) = false := by rw [beq_eq_false_iff_ne]; omega
      have HTy : Hid (tyR rs b (k' + 1) L none = stR rs b k' L none rs.length) := tyR_more (by rw [HT.out])
      have HNx : Hid (GoC D lo sb ad cap bd rs b w0 k') := IH.out k' rfl
      clear hk0 IH
      go_upto_region 2 with fail
      refine wp_region_held_drew (S := fun W' => Below w3.heap.size w3 W') (by kernel_rfl) (below_drew _) (fun hH => ?_)
      refine wpAnyH_take (i := 0) (v := .pointer (some ⟨wb, 0, none⟩)) rfl (by kernel_rfl) (by kernel_rfl) (by kernel_rfl) (fun _ _ _ h => h) (Or.inl ⟨by rfl, fun w hSw => by clear hSw; go_simp⟩) hH ?_
      refine wpAnyH_take (i := 1) (v := .slice ga L.length gc) rfl (by kernel_rfl) (by kernel_rfl) (by kernel_rfl) (fun _ _ _ h => h) (Or.inl ⟨by rfl, fun w hSw => by obtain ⟨f0, f1, f2, f3, f4, f5, f6, f7, f8⟩ := (HI3.out.later hSw).bx; clear hSw; go_simp⟩) hH ?_
      try simp only [Act.put, List.setIfInBounds_toArray, List.set_cons_zero, List.set_cons_succ, List.getElem_toArray, List.getElem_cons_succ, List.getElem_cons_zero]
      refine wpAnyH_take (i := 2) (v := .int .i64 (L.length : Int)) rfl (by kernel_rfl) (by kernel_rfl) (by kernel_rfl) (fun _ _ _ h => h) (Or.inl ⟨by rfl, fun w hSw => by clear hSw; go_simp⟩) hH ?_
      try simp only [Act.put, List.setIfInBounds_toArray, List.set_cons_zero, List.set_cons_succ, List.getElem_toArray, List.getElem_cons_succ, List.getElem_cons_zero]
      refine wpAnyH_take (i := 3) (v := .pointer (some ⟨sb, 0, none⟩)) rfl (by kernel_rfl) (by kernel_rfl) (by kernel_rfl) (fun _ _ _ h => h) (Or.inl ⟨by rfl, fun w hSw => by clear hSw; go_simp⟩) hH ?_
      try simp only [Act.put, List.setIfInBounds_toArray, List.set_cons_zero, List.set_cons_succ, List.getElem_toArray, List.getElem_cons_succ, List.getElem_cons_zero]
      refine wpAnyH_take (i := 4) (v := .pointer (some ⟨sb, 0, none⟩)) rfl (by kernel_rfl) (by kernel_rfl) (by kernel_rfl) (fun _ _ _ h => h) (Or.inl ⟨by rfl, fun w hSw => by clear hSw; go_simp⟩) hH ?_
      try simp only [Act.put, List.setIfInBounds_toArray, List.set_cons_zero, List.set_cons_succ, List.getElem_toArray, List.getElem_cons_succ, List.getElem_cons_zero]
      refine wpAnyH_take (i := 5) (v := .pointer (some ⟨sb, 0, none⟩)) rfl (by kernel_rfl) (by kernel_rfl) (by kernel_rfl) (fun _ _ _ h => h) (Or.inl ⟨by rfl, fun w hSw => by clear hSw; go_simp⟩) hH ?_
      try simp only [Act.put, List.setIfInBounds_toArray, List.set_cons_zero, List.set_cons_succ, List.getElem_toArray, List.getElem_cons_succ, List.getElem_cons_zero]
      refine wpAnyH_take (i := 6) (v := .slice ad rs.length cap) rfl (by kernel_rfl) (by kernel_rfl) (by kernel_rfl) (fun _ _ _ h => h) (Or.inl ⟨by rfl, fun w hSw => by obtain ⟨f0, f1⟩ := (HI3.out.later hSw).sc; clear hSw; go_simp⟩) hH ?_
      try simp only [Act.put, List.setIfInBounds_toArray, List.set_cons_zero, List.set_cons_succ, List.getElem_toArray, List.getElem_cons_succ, List.getElem_cons_zero]
      refine wpAnyH_take (i := 7) (v := .int .i64 (rs.length : Int)) rfl (by kernel_rfl) (by kernel_rfl) (by kernel_rfl) (fun _ _ _ h => h) (Or.inl ⟨by rfl, fun w hSw => by clear hSw; go_simp⟩) hH ?_
      try simp only [Act.put, List.setIfInBounds_toArray, List.set_cons_zero, List.set_cons_succ, List.getElem_toArray, List.getElem_cons_succ, List.getElem_cons_zero]
      refine wpAnyH_take (i := 8) (v := .bool false) rfl (by kernel_rfl) (by kernel_rfl) (by kernel_rfl) (fun _ _ _ h => h) (Or.inl ⟨by rfl, fun w hSw => by clear hSw; go_simp⟩) hH ?_
      try simp only [Act.put, List.setIfInBounds_toArray, List.set_cons_zero, List.set_cons_succ, List.getElem_toArray, List.getElem_cons_succ, List.getElem_cons_zero]
      refine wpAnyH_done (by kernel_rfl) ?_ _
      have HI4 : Hid (GoI D lo sb wb ad cap bd rs b X ga gc L ha hc M wt lv h none W w3.drew) := HI3.out.later (below_drew _)
      clear hH HI3
      generalize w3.drew = w4 at *
      clear hlb HRt HBk HUp
      obtain ⟨f0, f1⟩ := HI4.out.sc
      clear f1
      go_wp2
      go_loopw [4, 5, 6, 7, 43] (fun _ _ _ _ c wr => ∃ (j : Nat) (b' : Option (List Int)), j ≤ rs.length ∧ c = .int .i64 (j : Int) ∧ b' = stR rs b k' L none j ∧ GoI D lo sb wb ad cap bd rs b X ga gc L ha hc M wt lv h b' W wr) (fun _ _ _ _ c _ => rs.length - (intOf c).toNat)
      case atStart => exact ⟨0, _, by omega, rfl, rfl, HI4.out⟩
      case round =>
        clear f0 HI4
        obtain ⟨j, b', hj, rfl, hb', hI⟩ := hrel
        have HI : Hid (GoI D lo sb wb ad cap bd rs b X ga gc L ha hc M wt lv h b' W wr) := hI
        have HBs : Hid (b' = stR rs b k' L none j) := hb'
        clear hI hb'
        by_cases hlt : j < rs.length
        · have hlt' : (j : Int) < (rs.length : Int) := by omega
          rcases hr0 with h0 | ⟨b0, o0, ha0, hB0, ia⟩
          · rw [h0] at hlt; simp at hlt
          subst ha0
          obtain ⟨x0, x1, x2, x3, x4⟩ := (ia j hlt).below (HI.out.low HLow.out hD hsb) hB0
          have HSr : Hid (hpB (rs.getD j zHp) = true) := hps_getD hs hlt
          obtain ⟨r, hr⟩ : ∃ r, r = rs.getD j zHp := ⟨_, rfl⟩
          have HR : Hid (r = rs.getD j zHp) := hr
          rw [← hr] at x0 x1 x2 x3 x4 HSr
          clear hr ia
          go_upto_region 7 with fail
          obtain ⟨wn, hwn⟩ : ∃ wn, wn = wr.alloc (Obj.cells #[.int .i64 r.x, .int .i64 r.y, .int .i64 r.fr, .int .i64 r.to, .int .i64 r.sy] 37) := ⟨_, rfl⟩
          obtain ⟨nb, hnb⟩ : ∃ nb, nb = wr.heap.size := ⟨_, rfl⟩
          rw [← hwn, ← hnb]
          have HIn : Hid (GoI D lo sb wb (some ⟨b0, o0, none⟩) cap bd rs b X ga gc L ha hc M wt lv h b' W wn ∧ wn.heap[nb]? = some (.cells #[.int .i64 r.x, .int .i64 r.y, .int .i64 r.fr, .int .i64 r.to, .int .i64 r.sy] 37 (0, 0))) := by
            rw [hwn, hnb]
            exact ⟨HI.out.later (below_alloc _ _), heapNew _ _⟩
          clear hwn hnb HI x0 x1 x2 x3 x4
          have HCo : Hid (∀ W', Below wn.heap.size wn W' → Calls Try.prog 46 #[.slice ga L.length gc, .int .i64 (j : Int)] W' fun e w' => e = .returned (.bool (hasI L (j : Int))) ∧ W' = w') := fun W' hW' => dyContains_any ga gc L (j : Int) (by omega) W' (row_reads (HIn.out.1.later hW').rowL)
          obtain ⟨cb, hcb⟩ : ∃ cb, hasI L (j : Int) = cb := ⟨_, rfl⟩
          have HCb : Hid (hasI L (j : Int) = cb) := hcb
          rw [hcb] at HCo
          clear hcb
          obtain ⟨f0, f1, f2, f3, f4, f5, f6, f7, f8⟩ := HIn.out.1.bx
          cases cb
          · skip
            have hV := fun hsz => HVs.out r (j : Int) wn HSr.out hsz HIn.out.1.rowL HIn.out.1.rowM
            have HV : Hid (Calls Try.prog 29 #[.agg #[.slice ga L.length gc, .slice ha M.length hc, .int .i64 wt, .int .i64 lv, .int .i64 h.x, .int .i64 h.y, .int .i64 h.fr, .int .i64 h.to, .int .i64 h.sy], .int .i64 (j : Int), .agg #[.int .i64 r.x, .int .i64 r.y, .int .i64 r.fr, .int .i64 r.to, .int .i64 r.sy]] wn (VtQ D ga gc L ha hc M (j : Int) r (arN lv h r) (wtN wt lv h r) (lvN lv h r) wn)) := hV (by have := HIn.out.1.size; have := HLow.out.size; omega)
            clear hV
            have HT2 : Hid (trp rs b (L ++ [(j : Int)]) = ⟨lvN lv h r, wtN wt lv h r, r, M ++ [arN lv h r], decide (arN lv h r ≤ r.to)⟩) := by
              show _ = _
              rw [trp_snoc, HT.out]
              unfold stepT
              rw [Int.toNat_natCast, ← HR.out]
              simp
            generalize arN lv h r = ar at *
            generalize wtN wt lv h r = wn2 at *
            generalize lvN lv h r = ln2 at *
            go_wp2_with fail
            (first | go_at_call 46 | skip)
            refine (HCo.out _ (Below.refl _ _)).mono ?_
            rintro e w8 ⟨rfl, hb8⟩
            rw [hb8] at HIn HV f0 f1 f2 f3 f4 f5 f6 f7 f8
            clear hb8 HCo
            obtain ⟨y0, y1, y2, y3, y4⟩ := (show w8.cell? ⟨nb, 0, none⟩ = some (.int .i64 r.x) ∧ w8.cell? ⟨nb, 1, none⟩ = some (.int .i64 r.y) ∧ w8.cell? ⟨nb, 2, none⟩ = some (.int .i64 r.fr) ∧ w8.cell? ⟨nb, 3, none⟩ = some (.int .i64 r.to) ∧ w8.cell? ⟨nb, 4, none⟩ = some (.int .i64 r.sy) from ⟨blkCell HIn.out.2 0 _ rfl, blkCell HIn.out.2 1 _ rfl, blkCell HIn.out.2 2 _ rfl, blkCell HIn.out.2 3 _ rfl, blkCell HIn.out.2 4 _ rfl⟩)
            go_wp2_with fail
            (first | go_at_call 29 | skip)
            refine HV.out.mono ?_
            rintro e w9 ⟨g1, c1, g2, c2, rfl, r1, n1, r2, n2, ne, o1, o2, hf⟩
            have HI9 : Hid (GoI D lo sb wb (some ⟨b0, o0, none⟩) cap bd rs b X ga gc L ha hc M wt lv h b' W w9 ∧ PsR lo sb (some ⟨b0, o0, none⟩) cap bd rs b (fun x => X x ∨ x = g1 ∨ x = g2) b' w9) := GoI.visit HSt.out HIn.out.1 n1 n2 hf o1 o2
            have HRo : Hid (w9.ownsRow D 3 1 (.slice (some ⟨g1, 0, none⟩) (L.length + 1) c1) (L.length + 1) (inV (L ++ [(j : Int)])) ∧ w9.ownsRow D 3 1 (.slice (some ⟨g2, 0, none⟩) (M.length + 1) c2) (M.length + 1) (inV (M ++ [ar])) ∧ ((ga = some ⟨g1, 0, none⟩ ∧ c1 = gc) ∨ W.heap.size ≤ g1) ∧ ((ha = some ⟨g2, 0, none⟩ ∧ c2 = hc) ∨ W.heap.size ≤ g2) ∧ g1 ≠ g2) := ⟨r1, r2, n1.imp id (fun q => Nat.le_trans HIn.out.1.size q), n2.imp id (fun q => Nat.le_trans HIn.out.1.size q), ne⟩
            clear r1 n1 r2 n2 ne o1 o2 hf HIn HV f0 f1 f2 f3 f4 f5 f6 f7 f8 y0 y1 y2 y3 y4
            by_cases hin : ar ≤ r.to
            · skip
              have hdb : decide (ar ≤ r.to) = true := by simpa using hin
              have HT3 : Hid (trp rs b (L ++ [(j : Int)]) = ⟨ln2, wn2, r, M ++ [ar], true⟩) := by show _ = _; rw [HT2.out, hdb]
              clear hdb
              obtain ⟨w10, hw10⟩ : ∃ w10, w10 = w9.alloc (Obj.cells #[.slice (some ⟨g1, 0, none⟩) (L.length + 1) c1, .slice (some ⟨g2, 0, none⟩) (M.length + 1) c2, .int .i64 wn2, .int .i64 ln2, .int .i64 r.x, .int .i64 r.y, .int .i64 r.fr, .int .i64 r.to, .int .i64 r.sy] 57) := ⟨_, rfl⟩
              obtain ⟨xb, hxb⟩ : ∃ xb, xb = w9.heap.size := ⟨_, rfl⟩
              have HE10 : Hid (w10 = w9.alloc (Obj.cells #[.slice (some ⟨g1, 0, none⟩) (L.length + 1) c1, .slice (some ⟨g2, 0, none⟩) (M.length + 1) c2, .int .i64 wn2, .int .i64 ln2, .int .i64 r.x, .int .i64 r.y, .int .i64 r.fr, .int .i64 r.to, .int .i64 r.sy] 57) ∧ xb = w9.heap.size) := ⟨hw10, hxb⟩
              have H10 : Hid (GoI D lo sb wb (some ⟨b0, o0, none⟩) cap bd rs b X ga gc L ha hc M wt lv h b' W w10 ∧ PsR lo sb (some ⟨b0, o0, none⟩) cap bd rs b (fun x => X x ∨ x = g1 ∨ x = g2) b' w10 ∧ w10.ownsRow D 3 1 (.slice (some ⟨g1, 0, none⟩) (L.length + 1) c1) (L.length + 1) (inV (L ++ [(j : Int)])) ∧ w10.ownsRow D 3 1 (.slice (some ⟨g2, 0, none⟩) (M.length + 1) c2) (M.length + 1) (inV (M ++ [ar]))) := by
                rw [hw10]
                exact ⟨HI9.out.1.later (below_alloc _ _), HI9.out.2.later (below_alloc _ _), HRo.out.1.alloc _, HRo.out.2.1.alloc _⟩
              have hnx := heapNew w9 (Obj.cells #[.slice (some ⟨g1, 0, none⟩) (L.length + 1) c1, .slice (some ⟨g2, 0, none⟩) (M.length + 1) c2, .int .i64 wn2, .int .i64 ln2, .int .i64 r.x, .int .i64 r.y, .int .i64 r.fr, .int .i64 r.to, .int .i64 r.sy] 57)
              rw [← hw10, ← hxb] at hnx
              obtain ⟨z0, z1, z2, z3, z4, z5, z6, z7, z8⟩ := (show w10.cell? ⟨xb, 0, none⟩ = some (.slice (some ⟨g1, 0, none⟩) (L.length + 1) c1) ∧ w10.cell? ⟨xb, 1, none⟩ = some (.slice (some ⟨g2, 0, none⟩) (M.length + 1) c2) ∧ w10.cell? ⟨xb, 2, none⟩ = some (.int .i64 wn2) ∧ w10.cell? ⟨xb, 3, none⟩ = some (.int .i64 ln2) ∧ w10.cell? ⟨xb, 4, none⟩ = some (.int .i64 r.x) ∧ w10.cell? ⟨xb, 5, none⟩ = some (.int .i64 r.y) ∧ w10.cell? ⟨xb, 6, none⟩ = some (.int .i64 r.fr) ∧ w10.cell? ⟨xb, 7, none⟩ = some (.int .i64 r.to) ∧ w10.cell? ⟨xb, 8, none⟩ = some (.int .i64 r.sy) from ⟨blkCell hnx 0 _ rfl, blkCell hnx 1 _ rfl, blkCell hnx 2 _ rfl, blkCell hnx 3 _ rfl, blkCell hnx 4 _ rfl, blkCell hnx 5 _ rfl, blkCell hnx 6 _ rfl, blkCell hnx 7 _ rfl, blkCell hnx 8 _ rfl⟩)
              clear hnx hw10 hxb
              have HIH : Hid (Calls Try.prog 27 #[.pointer (some ⟨sb, 0, none⟩), .agg #[.slice (some ⟨g1, 0, none⟩) (L.length + 1) c1, .slice (some ⟨g2, 0, none⟩) (M.length + 1) c2, .int .i64 wn2, .int .i64 ln2, .int .i64 r.x, .int .i64 r.y, .int .i64 r.fr, .int .i64 r.to, .int .i64 r.sy]] w10 fun e w' => (e = .returned (.tuple #[]) ∨ ((∃ u pv, e = .panicked [{ v := .iface u pv, recovered := false }]) ∧ ∃ o9, stR rs b k' L none (j + 1) = some o9 ∧ enR rs b o9 ≤ bd)) ∧ GoI D lo sb wb (some ⟨b0, o0, none⟩) cap bd rs b X ga gc L ha hc M wt lv h (stR rs b k' L none (j + 1)) W w') := by
                have hq := HNx.out (L ++ [(j : Int)]) wn2 ln2 r (M ++ [ar]) b' (fun x => X x ∨ x = g1 ∨ x = g2) (some ⟨g1, 0, none⟩) c1 (some ⟨g2, 0, none⟩) c2 (L.length + 1) (M.length + 1) w10 (by simp) (by simp) (by simp; omega) (OrdN.snoc HOrd.out hlt HCb.out) HT3.out (GoI.kid HSt.out H10.out.1 H10.out.2.2.1 H10.out.2.2.2 HRo.out.2.2.2.2 H10.out.2.1) H10.out.2.1 H10.out.2.2.1 H10.out.2.2.2 (H10.out.1.low HLow.out hD hsb)
                refine hq.mono ?_
                intro e w' hq
                have hc := GoI.child HSt.out H10.out.1 H10.out.2.2.1 H10.out.2.2.2 HRo.out.2.2.1 HRo.out.2.2.2.1 HRo.out.2.2.2.2 hq
                have e9 : tyR rs b k' (L ++ [(j : Int)]) b' = stR rs b k' L none (j + 1) := by rw [stR_take HCb.out, HBs.out]
                rw [e9] at hc
                exact hc
              have HEnds : Hid (∀ o9, stR rs b k' L none (j + 1) = some o9 → enR rs b o9 ≤ bd → tyR rs b (k' + 1) L none = some o9) := fun o9 h1 h2 => tyR_ends hs (by rw [← HBd.out]; exact h2) HOrd.out (by omega) (by rw [HT.out]) hlt HCb.out (by rw [← stR_take HCb.out]; exact h1)
              clear HI9 HRo H10
              go_upto_region 9 with fail
              rw [← HE10.out.1, ← HE10.out.2]
              clear HE10
              go_wp2_with fail
              (first | go_at_call 27 | skip)
              refine HIH.out.mono ?_
              rintro e w11 ⟨he, hI11⟩
              have HI11 : Hid (GoI D lo sb wb (some ⟨b0, o0, none⟩) cap bd rs b X ga gc L ha hc M wt lv h (stR rs b k' L none (j + 1)) W w11) := hI11
              clear HIH hI11 z0 z1 z2 z3 z4 z5 z6 z7 z8
              rcases he with rfl | ⟨⟨u, pv, rfl⟩, o2, ho2, hle2⟩
              · clear HEnds
                go_wp2
                exact ⟨⟨j + 1, _, by omega, by go_num, rfl, HI11.out⟩, by simp [intOf]; omega⟩
              · have HQ : Hid (GoQ D lo sb (some ⟨b0, o0, none⟩) cap bd rs b X ga gc L ha hc M (tyR rs b (k' + 1) L none) W (.panicked [{ v := .iface u pv, recovered := false }]) w11) := by
                  have h1 := HEnds.out o2 ho2 hle2
                  have h2 := HI11.out
                  rw [ho2] at h2
                  rw [h1]
                  exact ⟨.inr ⟨⟨_, _, rfl⟩, o2, rfl, hle2⟩, h2.ps, h2.rowL, h2.rowM, h2.fr⟩
                clear HI11 HEnds
                go_wp2
                exact ⟨rfl, HQ.out⟩
            · skip
              have HB9 : Hid (b' = stR rs b k' L none (j + 1)) := by
                show _ = _
                rw [stR_take HCb.out, tyR_late (by rw [HT2.out]; simpa using hin)]
                exact HBs.out
              have HI10 : Hid (GoI D lo sb wb (some ⟨b0, o0, none⟩) cap bd rs b X ga gc L ha hc M wt lv h b' W (w9.alloc (Obj.cells #[.slice (some ⟨g1, 0, none⟩) (L.length + 1) c1, .slice (some ⟨g2, 0, none⟩) (M.length + 1) c2, .int .i64 wn2, .int .i64 ln2, .int .i64 r.x, .int .i64 r.y, .int .i64 r.fr, .int .i64 r.to, .int .i64 r.sy] 57))) := HI9.out.1.later (below_alloc _ _)
              clear HI9 HRo
              go_wp2
              exact ⟨⟨j + 1, b', by omega, by go_num, HB9.out, HI10.out⟩, by simp [intOf]; omega⟩
          · skip
            clear f1 f2 f3 f4 f5 f6 f7 f8
            go_wp2_with fail
            (first | go_at_call 46 | skip)
            refine (HCo.out _ (Below.refl _ _)).mono ?_
            rintro e w8 ⟨rfl, hb8⟩
            have HI8 : Hid (GoI D lo sb wb (some ⟨b0, o0, none⟩) cap bd rs b X ga gc L ha hc M wt lv h b' W w8) := by rw [← hb8]; exact HIn.out.1
            clear HIn hb8 HCo f0
            have HB9 : Hid (b' = stR rs b k' L none (j + 1)) := by
              show _ = _
              rw [stR_skip HCb.out]
              exact HBs.out
            go_wp2
            exact ⟨⟨j + 1, b', by omega, by go_num, HB9.out, HI8.out⟩, by simp [intOf]; omega⟩
        · have hle : (rs.length : Int) ≤ (j : Int) := by omega
          have hje : j = rs.length := by omega
          have HE : Hid (b' = tyR rs b (k' + 1) L none) := by
            show _ = _
            rw [HTy.out, HBs.out, hje]
          clear hje
          go_wp2
          go_end0
          rw [← HE.out]
          exact HI.out.fin
  · skip
    have HSc : Hid (W1.heap[sb]? = some (.cells #[.slice ad rs.length cap, .int .i64 bd, .pointer (some ⟨bb, 0, none⟩)] 53 (0, 0))) := hsc
    have HBc : Hid (W1.heap[bb]? = some (.cells #[v0, v1, v2, .int .i64 (enR rs b o)] 28 (0, 0))) := hbc
    clear hsc hbc
    obtain ⟨eo, heo⟩ : ∃ eo, enR rs b o = eo := ⟨_, rfl⟩
    have HEo : Hid (enR rs b o = eo) := heo
    rw [heo] at HBc
    clear heo
    refine wpAnyH_take (i := 3) (v := .pointer (some ⟨bb, 0, none⟩)) rfl (by kernel_rfl) (by kernel_rfl) (by kernel_rfl) (fun _ _ _ h => h) (Or.inl ⟨by rfl, fun w hSw => by have f0 := blkCell ((hSw.block sb (blkLt HSc.out)).trans HSc.out) 2 _ rfl; clear hSw; go_simp⟩) hH ?_
    try simp only [Act.put, List.setIfInBounds_toArray, List.set_cons_zero, List.set_cons_succ, List.getElem_toArray, List.getElem_cons_succ, List.getElem_cons_zero]
    refine wpAnyH_take (i := 4) (v := .bool true) rfl (by kernel_rfl) (by kernel_rfl) (by kernel_rfl) (fun _ _ _ h => h) (Or.inl ⟨by rfl, fun w hSw => by clear hSw; go_simp⟩) hH ?_
    try simp only [Act.put, List.setIfInBounds_toArray, List.set_cons_zero, List.set_cons_succ, List.getElem_toArray, List.getElem_cons_succ, List.getElem_cons_zero]
    refine wpAnyH_take (i := 5) (v := .bool true) rfl (by kernel_rfl) (by kernel_rfl) (by kernel_rfl) (fun _ _ _ h => h) (Or.inl ⟨by rfl, fun w hSw => by clear hSw; go_simp⟩) hH ?_
    try simp only [Act.put, List.setIfInBounds_toArray, List.set_cons_zero, List.set_cons_succ, List.getElem_toArray, List.getElem_cons_succ, List.getElem_cons_zero]
    refine wpAnyH_take (i := 6) (v := .agg #[.slice ga L.length gc, .slice ha M.length hc, .int .i64 wt, .int .i64 lv, .int .i64 h.x, .int .i64 h.y, .int .i64 h.fr, .int .i64 h.to, .int .i64 h.sy]) rfl (by kernel_rfl) (by kernel_rfl) (by kernel_rfl) (fun _ _ _ h => h) (Or.inl ⟨by rfl, fun w hSw => by obtain ⟨f0, f1, f2, f3, f4, f5, f6, f7, f8⟩ := (HI1.out.later hSw).bx; clear hSw; go_simp⟩) hH ?_
    try simp only [Act.put, List.setIfInBounds_toArray, List.set_cons_zero, List.set_cons_succ, List.getElem_toArray, List.getElem_cons_succ, List.getElem_cons_zero]
    refine wpAnyH_take (i := 8) (v := .pointer (some ⟨sb, 0, none⟩)) rfl (by kernel_rfl) (by kernel_rfl) (by kernel_rfl) (fun _ _ _ h => h) (Or.inl ⟨by rfl, fun w hSw => by clear hSw; go_simp⟩) hH ?_
    try simp only [Act.put, List.setIfInBounds_toArray, List.set_cons_zero, List.set_cons_succ, List.getElem_toArray, List.getElem_cons_succ, List.getElem_cons_zero]
    refine wpAnyH_take (i := 9) (v := .pointer (some ⟨sb, 0, none⟩)) rfl (by kernel_rfl) (by kernel_rfl) (by kernel_rfl) (fun _ _ _ h => h) (Or.inl ⟨by rfl, fun w hSw => by clear hSw; go_simp⟩) hH ?_
    try simp only [Act.put, List.setIfInBounds_toArray, List.set_cons_zero, List.set_cons_succ, List.getElem_toArray, List.getElem_cons_succ, List.getElem_cons_zero]
    refine wpAnyH_take (i := 10) (v := .pointer (some ⟨sb, 2, none⟩)) rfl (by kernel_rfl) (by kernel_rfl) (by kernel_rfl) (fun _ _ _ h => h) (Or.inl ⟨by rfl, fun w hSw => by clear hSw; go_simp⟩) hH ?_
    try simp only [Act.put, List.setIfInBounds_toArray, List.set_cons_zero, List.set_cons_succ, List.getElem_toArray, List.getElem_cons_succ, List.getElem_cons_zero]
    refine wpAnyH_take (i := 11) (v := .pointer (some ⟨bb, 0, none⟩)) rfl (by kernel_rfl) (by kernel_rfl) (by kernel_rfl) (fun _ _ _ h => h) (Or.inl ⟨by rfl, fun w hSw => by have f0 := blkCell ((hSw.block sb (blkLt HSc.out)).trans HSc.out) 2 _ rfl; clear hSw; go_simp⟩) hH ?_
    try simp only [Act.put, List.setIfInBounds_toArray, List.set_cons_zero, List.set_cons_succ, List.getElem_toArray, List.getElem_cons_succ, List.getElem_cons_zero]
    refine wpAnyH_take (i := 12) (v := .pointer (some ⟨bb, 0, none⟩)) rfl (by kernel_rfl) (by kernel_rfl) (by kernel_rfl) (fun _ _ _ h => h) (Or.inl ⟨by rfl, fun w hSw => by clear hSw; go_simp⟩) hH ?_
    try simp only [Act.put, List.setIfInBounds_toArray, List.set_cons_zero, List.set_cons_succ, List.getElem_toArray, List.getElem_cons_succ, List.getElem_cons_zero]
    refine wpAnyH_take (i := 13) (v := .pointer (some ⟨bb, 3, none⟩)) rfl (by kernel_rfl) (by kernel_rfl) (by kernel_rfl) (fun _ _ _ h => h) (Or.inl ⟨by rfl, fun w hSw => by clear hSw; go_simp⟩) hH ?_
    try simp only [Act.put, List.setIfInBounds_toArray, List.set_cons_zero, List.set_cons_succ, List.getElem_toArray, List.getElem_cons_succ, List.getElem_cons_zero]
    refine wpAnyH_take (i := 14) (v := .int .i64 eo) rfl (by kernel_rfl) (by kernel_rfl) (by kernel_rfl) (fun _ _ _ h => h) (Or.inl ⟨by rfl, fun w hSw => by have f0 := blkCell ((hSw.block bb (blkLt HBc.out)).trans HBc.out) 3 _ rfl; clear hSw; go_simp⟩) hH ?_
    try simp only [Act.put, List.setIfInBounds_toArray, List.set_cons_zero, List.set_cons_succ, List.getElem_toArray, List.getElem_cons_succ, List.getElem_cons_zero]
    refine wpAnyH_ready (rs := [7]) (by kernel_rfl) (by simp) ?_
    refine AllReadyH.cons rfl (fun K hK => ?_) AllReadyH.nil
    go_simp
    go_at_call 43
    refine (HBk.out _).mono ?_
    rintro e w3 ⟨rfl, hb3⟩
    have B3 : Hid (Below W1.heap.size W1 w3) := chain (below_drew _) hb3
    clear hb3
    refine hK.out _ _ B3.out (fun _ => ?_)
    clear hK K
    try simp only [Act.put, List.setIfInBounds_toArray, List.set_cons_zero, List.set_cons_succ, List.getElem_toArray, List.getElem_cons_succ, List.getElem_cons_zero]
    refine wpAnyH_take (i := 15) (v := .bool (decide (eo ≤ en))) rfl (by kernel_rfl) (by kernel_rfl) (by kernel_rfl) (fun _ _ _ h => h) (Or.inl ⟨by rfl, fun w hSw => by clear hSw; go_simp⟩) B3.out ?_
    try simp only [Act.put, List.setIfInBounds_toArray, List.set_cons_zero, List.set_cons_succ, List.getElem_toArray, List.getElem_cons_succ, List.getElem_cons_zero]
    refine wpAnyH_take (i := 16) (v := .bool (decide (eo ≤ en))) rfl (by kernel_rfl) (by kernel_rfl) (by kernel_rfl) (fun _ _ _ h => h) (Or.inl ⟨by rfl, fun w hSw => by clear hSw; go_simp⟩) B3.out ?_
    try simp only [Act.put, List.setIfInBounds_toArray, List.set_cons_zero, List.set_cons_succ, List.getElem_toArray, List.getElem_cons_succ, List.getElem_cons_zero]
    refine wpAnyH_done (by kernel_rfl) ?_ _
    clear hH
    have HI3 : Hid (GoI D lo sb wb ad cap bd rs b X ga gc L ha hc M wt lv h (some o) W w3) := HI1.out.later B3.out
    clear HI1 B3 HSc HBc
    by_cases hle : eo ≤ en
    · have HUp : Hid (tyR rs b k L (some o) = some o) := tyR_prune hs b k L o (by rw [HEo.out, HEn.out]; exact hle)
      go_wp2
      go_end0
      rw [HUp.out]
      exact HI3.out.fin
    have HUp : Hid (updR rs b (some o) L = some L) := updR_lt (by rw [HEo.out, HEn.out]; omega)

    by_cases hk0 : k = 0
    · subst hk0
      have hln : (L.length : Int) = (rs.length : Int) := by omega
      have hlb : ((L.length : Int) == (rs.length : Int)) = true := by rw [hln]; simp
      have HTy : Hid (tyR rs b 0 L (some o) = some L) := by show _ = _; rw [tyR_end (by rw [HT.out]), HUp.out]
      clear hln
      go_upto_region 2 with fail
      refine wp_region_held_drew (S := fun W' => Below w3.heap.size w3 W') (by kernel_rfl) (below_drew _) (fun hH => ?_)
      refine wpAnyH_take (i := 0) (v := .pointer (some ⟨wb, 0, none⟩)) rfl (by kernel_rfl) (by kernel_rfl) (by kernel_rfl) (fun _ _ _ h => h) (Or.inl ⟨by rfl, fun w hSw => by clear hSw; go_simp⟩) hH ?_
      refine wpAnyH_take (i := 1) (v := .slice ga L.length gc) rfl (by kernel_rfl) (by kernel_rfl) (by kernel_rfl) (fun _ _ _ h => h) (Or.inl ⟨by rfl, fun w hSw => by obtain ⟨f0, f1, f2, f3, f4, f5, f6, f7, f8⟩ := (HI3.out.later hSw).bx; clear hSw; go_simp⟩) hH ?_
      try simp only [Act.put, List.setIfInBounds_toArray, List.set_cons_zero, List.set_cons_succ, List.getElem_toArray, List.getElem_cons_succ, List.getElem_cons_zero]
      refine wpAnyH_take (i := 2) (v := .int .i64 (L.length : Int)) rfl (by kernel_rfl) (by kernel_rfl) (by kernel_rfl) (fun _ _ _ h => h) (Or.inl ⟨by rfl, fun w hSw => by clear hSw; go_simp⟩) hH ?_
      try simp only [Act.put, List.setIfInBounds_toArray, List.set_cons_zero, List.set_cons_succ, List.getElem_toArray, List.getElem_cons_succ, List.getElem_cons_zero]
      refine wpAnyH_take (i := 3) (v := .pointer (some ⟨sb, 0, none⟩)) rfl (by kernel_rfl) (by kernel_rfl) (by kernel_rfl) (fun _ _ _ h => h) (Or.inl ⟨by rfl, fun w hSw => by clear hSw; go_simp⟩) hH ?_
      try simp only [Act.put, List.setIfInBounds_toArray, List.set_cons_zero, List.set_cons_succ, List.getElem_toArray, List.getElem_cons_succ, List.getElem_cons_zero]
      refine wpAnyH_take (i := 4) (v := .pointer (some ⟨sb, 0, none⟩)) rfl (by kernel_rfl) (by kernel_rfl) (by kernel_rfl) (fun _ _ _ h => h) (Or.inl ⟨by rfl, fun w hSw => by clear hSw; go_simp⟩) hH ?_
      try simp only [Act.put, List.setIfInBounds_toArray, List.set_cons_zero, List.set_cons_succ, List.getElem_toArray, List.getElem_cons_succ, List.getElem_cons_zero]
      refine wpAnyH_take (i := 5) (v := .pointer (some ⟨sb, 0, none⟩)) rfl (by kernel_rfl) (by kernel_rfl) (by kernel_rfl) (fun _ _ _ h => h) (Or.inl ⟨by rfl, fun w hSw => by clear hSw; go_simp⟩) hH ?_
      try simp only [Act.put, List.setIfInBounds_toArray, List.set_cons_zero, List.set_cons_succ, List.getElem_toArray, List.getElem_cons_succ, List.getElem_cons_zero]
      refine wpAnyH_take (i := 6) (v := .slice ad rs.length cap) rfl (by kernel_rfl) (by kernel_rfl) (by kernel_rfl) (fun _ _ _ h => h) (Or.inl ⟨by rfl, fun w hSw => by obtain ⟨f0, f1⟩ := (HI3.out.later hSw).sc; clear hSw; go_simp⟩) hH ?_
      try simp only [Act.put, List.setIfInBounds_toArray, List.set_cons_zero, List.set_cons_succ, List.getElem_toArray, List.getElem_cons_succ, List.getElem_cons_zero]
      refine wpAnyH_take (i := 7) (v := .int .i64 (rs.length : Int)) rfl (by kernel_rfl) (by kernel_rfl) (by kernel_rfl) (fun _ _ _ h => h) (Or.inl ⟨by rfl, fun w hSw => by clear hSw; go_simp⟩) hH ?_
      try simp only [Act.put, List.setIfInBounds_toArray, List.set_cons_zero, List.set_cons_succ, List.getElem_toArray, List.getElem_cons_succ, List.getElem_cons_zero]
      refine wpAnyH_take (i := 8) (v := .bool true) rfl (by kernel_rfl) (by kernel_rfl) (by kernel_rfl) (fun _ _ _ h => h) (Or.inl ⟨by rfl, fun w hSw => by clear hSw; go_simp⟩) hH ?_
      try simp only [Act.put, List.setIfInBounds_toArray, List.set_cons_zero, List.set_cons_succ, List.getElem_toArray, List.getElem_cons_succ, List.getElem_cons_zero]
      refine wpAnyH_done (by kernel_rfl) ?_ _
      have HI4 : Hid (GoI D lo sb wb ad cap bd rs b X ga gc L ha hc M wt lv h (some o) W w3.drew) := HI3.out.later (below_drew _)
      clear hH HI3
      generalize w3.drew = w4 at *
      obtain ⟨f0, f1, f2, f3, f4, f5, f6, f7, f8⟩ := HI4.out.bx
      clear hlb
      go_wp2_with fail
      (first | go_at_call 30 | skip)
      refine (HRt.out w4 HI4.out.rowL HI4.out.rowM).mono ?_
      rintro e w5 ⟨g5, c5, s5, d5, mid, rfl, hmid, r1, r2, hb5⟩
      obtain ⟨vb, hvb⟩ := (HI4.out.later hb5).ps.sbk
      have HFin : Hid (∀ e w', KpI sb (.slice ad rs.length cap) bd g5 s5 L.length c5 M.length d5 wt en w5 w' → (e = .returned (.tuple #[]) ∨ ((∃ u pv, e = .panicked [{ v := .iface u pv, recovered := false }]) ∧ en ≤ bd)) → GoQ D lo sb ad cap bd rs b X ga gc L ha hc M (tyR rs b 0 L (some o)) W e w') := fun e w' hK he => by
        rw [HTy.out]
        refine HI4.out.put (o := L) HSt.out hb5 hmid r1 (by rw [HT.out]; exact r2) (by rw [HT.out, HEn.out]; exact hK) (he.imp id (fun q => ⟨q.1, by rw [HEn.out]; exact q.2⟩))
      clear f0 f1 f2 f3 f4 f5 f6 f7 f8 r1 r2 hb5 hmid HI4
      by_cases hle2 : en ≤ bd
      · go_wp2_with fail
        (first | go_at_call 45 | skip)
        refine (keep_end sb _ vb bd g5 s5 L.length c5 M.length d5 wt en hle2 w5 hvb).mono ?_
        rintro e w6 ⟨rfl, hK⟩
        have HF := HFin.out (.panicked [{ v := .iface 93 (.agg #[]), recovered := false }]) w6 hK (.inr ⟨⟨_, _, rfl⟩, hle2⟩)
        clear HFin hK
        go_wp2
        exact ⟨rfl, HF⟩
      · go_wp2_with fail
        (first | go_at_call 45 | skip)
        refine (keep_more sb _ vb bd g5 s5 L.length c5 M.length d5 wt en (by omega) w5 hvb).mono ?_
        rintro e w6 ⟨rfl, hK⟩
        have HF := HFin.out _ _ hK (.inl rfl)
        clear HFin hK
        go_wp2
        go_end0
        exact HF
    · obtain ⟨k', rfl⟩ : ∃ k', k = k' + 1 := ⟨k - 1, by omega⟩
      have hlb : ((L.length : Int) == (rs.length : Int)) = false := by rw [beq_eq_false_iff_ne]; omega
      have HTy : Hid (tyR rs b (k' + 1) L (some o) = stR rs b k' L (some o) rs.length) := tyR_more (by rw [HT.out])
      have HNx : Hid (GoC D lo sb ad cap bd rs b w0 k') := IH.out k' rfl
      clear hk0 IH
      go_upto_region 2 with fail
      refine wp_region_held_drew (S := fun W' => Below w3.heap.size w3 W') (by kernel_rfl) (below_drew _) (fun hH => ?_)
      refine wpAnyH_take (i := 0) (v := .pointer (some ⟨wb, 0, none⟩)) rfl (by kernel_rfl) (by kernel_rfl) (by kernel_rfl) (fun _ _ _ h => h) (Or.inl ⟨by rfl, fun w hSw => by clear hSw; go_simp⟩) hH ?_
      refine wpAnyH_take (i := 1) (v := .slice ga L.length gc) rfl (by kernel_rfl) (by kernel_rfl) (by kernel_rfl) (fun _ _ _ h => h) (Or.inl ⟨by rfl, fun w hSw => by obtain ⟨f0, f1, f2, f3, f4, f5, f6, f7, f8⟩ := (HI3.out.later hSw).bx; clear hSw; go_simp⟩) hH ?_
      try simp only [Act.put, List.setIfInBounds_toArray, List.set_cons_zero, List.set_cons_succ, List.getElem_toArray, List.getElem_cons_succ, List.getElem_cons_zero]
      refine wpAnyH_take (i := 2) (v := .int .i64 (L.length : Int)) rfl (by kernel_rfl) (by kernel_rfl) (by kernel_rfl) (fun _ _ _ h => h) (Or.inl ⟨by rfl, fun w hSw => by clear hSw; go_simp⟩) hH ?_
      try simp only [Act.put, List.setIfInBounds_toArray, List.set_cons_zero, List.set_cons_succ, List.getElem_toArray, List.getElem_cons_succ, List.getElem_cons_zero]
      refine wpAnyH_take (i := 3) (v := .pointer (some ⟨sb, 0, none⟩)) rfl (by kernel_rfl) (by kernel_rfl) (by kernel_rfl) (fun _ _ _ h => h) (Or.inl ⟨by rfl, fun w hSw => by clear hSw; go_simp⟩) hH ?_
      try simp only [Act.put, List.setIfInBounds_toArray, List.set_cons_zero, List.set_cons_succ, List.getElem_toArray, List.getElem_cons_succ, List.getElem_cons_zero]
      refine wpAnyH_take (i := 4) (v := .pointer (some ⟨sb, 0, none⟩)) rfl (by kernel_rfl) (by kernel_rfl) (by kernel_rfl) (fun _ _ _ h => h) (Or.inl ⟨by rfl, fun w hSw => by clear hSw; go_simp⟩) hH ?_
      try simp only [Act.put, List.setIfInBounds_toArray, List.set_cons_zero, List.set_cons_succ, List.getElem_toArray, List.getElem_cons_succ, List.getElem_cons_zero]
      refine wpAnyH_take (i := 5) (v := .pointer (some ⟨sb, 0, none⟩)) rfl (by kernel_rfl) (by kernel_rfl) (by kernel_rfl) (fun _ _ _ h => h) (Or.inl ⟨by rfl, fun w hSw => by clear hSw; go_simp⟩) hH ?_
      try simp only [Act.put, List.setIfInBounds_toArray, List.set_cons_zero, List.set_cons_succ, List.getElem_toArray, List.getElem_cons_succ, List.getElem_cons_zero]
      refine wpAnyH_take (i := 6) (v := .slice ad rs.length cap) rfl (by kernel_rfl) (by kernel_rfl) (by kernel_rfl) (fun _ _ _ h => h) (Or.inl ⟨by rfl, fun w hSw => by obtain ⟨f0, f1⟩ := (HI3.out.later hSw).sc; clear hSw; go_simp⟩) hH ?_
      try simp only [Act.put, List.setIfInBounds_toArray, List.set_cons_zero, List.set_cons_succ, List.getElem_toArray, List.getElem_cons_succ, List.getElem_cons_zero]
      refine wpAnyH_take (i := 7) (v := .int .i64 (rs.length : Int)) rfl (by kernel_rfl) (by kernel_rfl) (by kernel_rfl) (fun _ _ _ h => h) (Or.inl ⟨by rfl, fun w hSw => by clear hSw; go_simp⟩) hH ?_
      try simp only [Act.put, List.setIfInBounds_toArray, List.set_cons_zero, List.set_cons_succ, List.getElem_toArray, List.getElem_cons_succ, List.getElem_cons_zero]
      refine wpAnyH_take (i := 8) (v := .bool false) rfl (by kernel_rfl) (by kernel_rfl) (by kernel_rfl) (fun _ _ _ h => h) (Or.inl ⟨by rfl, fun w hSw => by clear hSw; go_simp⟩) hH ?_
      try simp only [Act.put, List.setIfInBounds_toArray, List.set_cons_zero, List.set_cons_succ, List.getElem_toArray, List.getElem_cons_succ, List.getElem_cons_zero]
      refine wpAnyH_done (by kernel_rfl) ?_ _
      have HI4 : Hid (GoI D lo sb wb ad cap bd rs b X ga gc L ha hc M wt lv h (some o) W w3.drew) := HI3.out.later (below_drew _)
      clear hH HI3
      generalize w3.drew = w4 at *
      clear hlb HRt HBk HUp
      obtain ⟨f0, f1⟩ := HI4.out.sc
      clear f1
      go_wp2
      go_loopw [4, 5, 6, 7, 43] (fun _ _ _ _ c wr => ∃ (j : Nat) (b' : Option (List Int)), j ≤ rs.length ∧ c = .int .i64 (j : Int) ∧ b' = stR rs b k' L (some o) j ∧ GoI D lo sb wb ad cap bd rs b X ga gc L ha hc M wt lv h b' W wr) (fun _ _ _ _ c _ => rs.length - (intOf c).toNat)
      case atStart => exact ⟨0, _, by omega, rfl, rfl, HI4.out⟩
      case round =>
        clear f0 HI4
        obtain ⟨j, b', hj, rfl, hb', hI⟩ := hrel
        have HI : Hid (GoI D lo sb wb ad cap bd rs b X ga gc L ha hc M wt lv h b' W wr) := hI
        have HBs : Hid (b' = stR rs b k' L (some o) j) := hb'
        clear hI hb'
        by_cases hlt : j < rs.length
        · have hlt' : (j : Int) < (rs.length : Int) := by omega
          rcases hr0 with h0 | ⟨b0, o0, ha0, hB0, ia⟩
          · rw [h0] at hlt; simp at hlt
          subst ha0
          obtain ⟨x0, x1, x2, x3, x4⟩ := (ia j hlt).below (HI.out.low HLow.out hD hsb) hB0
          have HSr : Hid (hpB (rs.getD j zHp) = true) := hps_getD hs hlt
          obtain ⟨r, hr⟩ : ∃ r, r = rs.getD j zHp := ⟨_, rfl⟩
          have HR : Hid (r = rs.getD j zHp) := hr
          rw [← hr] at x0 x1 x2 x3 x4 HSr
          clear hr ia
          go_upto_region 7 with fail
          obtain ⟨wn, hwn⟩ : ∃ wn, wn = wr.alloc (Obj.cells #[.int .i64 r.x, .int .i64 r.y, .int .i64 r.fr, .int .i64 r.to, .int .i64 r.sy] 37) := ⟨_, rfl⟩
          obtain ⟨nb, hnb⟩ : ∃ nb, nb = wr.heap.size := ⟨_, rfl⟩
          rw [← hwn, ← hnb]
          have HIn : Hid (GoI D lo sb wb (some ⟨b0, o0, none⟩) cap bd rs b X ga gc L ha hc M wt lv h b' W wn ∧ wn.heap[nb]? = some (.cells #[.int .i64 r.x, .int .i64 r.y, .int .i64 r.fr, .int .i64 r.to, .int .i64 r.sy] 37 (0, 0))) := by
            rw [hwn, hnb]
            exact ⟨HI.out.later (below_alloc _ _), heapNew _ _⟩
          clear hwn hnb HI x0 x1 x2 x3 x4
          have HCo : Hid (∀ W', Below wn.heap.size wn W' → Calls Try.prog 46 #[.slice ga L.length gc, .int .i64 (j : Int)] W' fun e w' => e = .returned (.bool (hasI L (j : Int))) ∧ W' = w') := fun W' hW' => dyContains_any ga gc L (j : Int) (by omega) W' (row_reads (HIn.out.1.later hW').rowL)
          obtain ⟨cb, hcb⟩ : ∃ cb, hasI L (j : Int) = cb := ⟨_, rfl⟩
          have HCb : Hid (hasI L (j : Int) = cb) := hcb
          rw [hcb] at HCo
          clear hcb
          obtain ⟨f0, f1, f2, f3, f4, f5, f6, f7, f8⟩ := HIn.out.1.bx
          cases cb
          · skip
            have hV := fun hsz => HVs.out r (j : Int) wn HSr.out hsz HIn.out.1.rowL HIn.out.1.rowM
            have HV : Hid (Calls Try.prog 29 #[.agg #[.slice ga L.length gc, .slice ha M.length hc, .int .i64 wt, .int .i64 lv, .int .i64 h.x, .int .i64 h.y, .int .i64 h.fr, .int .i64 h.to, .int .i64 h.sy], .int .i64 (j : Int), .agg #[.int .i64 r.x, .int .i64 r.y, .int .i64 r.fr, .int .i64 r.to, .int .i64 r.sy]] wn (VtQ D ga gc L ha hc M (j : Int) r (arN lv h r) (wtN wt lv h r) (lvN lv h r) wn)) := hV (by have := HIn.out.1.size; have := HLow.out.size; omega)
            clear hV
            have HT2 : Hid (trp rs b (L ++ [(j : Int)]) = ⟨lvN lv h r, wtN wt lv h r, r, M ++ [arN lv h r], decide (arN lv h r ≤ r.to)⟩) := by
              show _ = _
              rw [trp_snoc, HT.out]
              unfold stepT
              rw [Int.toNat_natCast, ← HR.out]
              simp
            generalize arN lv h r = ar at *
            generalize wtN wt lv h r = wn2 at *
            generalize lvN lv h r = ln2 at *
            go_wp2_with fail
            (first | go_at_call 46 | skip)
            refine (HCo.out _ (Below.refl _ _)).mono ?_
            rintro e w8 ⟨rfl, hb8⟩
            rw [hb8] at HIn HV f0 f1 f2 f3 f4 f5 f6 f7 f8
            clear hb8 HCo
            obtain ⟨y0, y1, y2, y3, y4⟩ := (show w8.cell? ⟨nb, 0, none⟩ = some (.int .i64 r.x) ∧ w8.cell? ⟨nb, 1, none⟩ = some (.int .i64 r.y) ∧ w8.cell? ⟨nb, 2, none⟩ = some (.int .i64 r.fr) ∧ w8.cell? ⟨nb, 3, none⟩ = some (.int .i64 r.to) ∧ w8.cell? ⟨nb, 4, none⟩ = some (.int .i64 r.sy) from ⟨blkCell HIn.out.2 0 _ rfl, blkCell HIn.out.2 1 _ rfl, blkCell HIn.out.2 2 _ rfl, blkCell HIn.out.2 3 _ rfl, blkCell HIn.out.2 4 _ rfl⟩)
            go_wp2_with fail
            (first | go_at_call 29 | skip)
            refine HV.out.mono ?_
            rintro e w9 ⟨g1, c1, g2, c2, rfl, r1, n1, r2, n2, ne, o1, o2, hf⟩
            have HI9 : Hid (GoI D lo sb wb (some ⟨b0, o0, none⟩) cap bd rs b X ga gc L ha hc M wt lv h b' W w9 ∧ PsR lo sb (some ⟨b0, o0, none⟩) cap bd rs b (fun x => X x ∨ x = g1 ∨ x = g2) b' w9) := GoI.visit HSt.out HIn.out.1 n1 n2 hf o1 o2
            have HRo : Hid (w9.ownsRow D 3 1 (.slice (some ⟨g1, 0, none⟩) (L.length + 1) c1) (L.length + 1) (inV (L ++ [(j : Int)])) ∧ w9.ownsRow D 3 1 (.slice (some ⟨g2, 0, none⟩) (M.length + 1) c2) (M.length + 1) (inV (M ++ [ar])) ∧ ((ga = some ⟨g1, 0, none⟩ ∧ c1 = gc) ∨ W.heap.size ≤ g1) ∧ ((ha = some ⟨g2, 0, none⟩ ∧ c2 = hc) ∨ W.heap.size ≤ g2) ∧ g1 ≠ g2) := ⟨r1, r2, n1.imp id (fun q => Nat.le_trans HIn.out.1.size q), n2.imp id (fun q => Nat.le_trans HIn.out.1.size q), ne⟩
            clear r1 n1 r2 n2 ne o1 o2 hf HIn HV f0 f1 f2 f3 f4 f5 f6 f7 f8 y0 y1 y2 y3 y4
            by_cases hin : ar ≤ r.to
            · skip
              have hdb : decide (ar ≤ r.to) = true := by simpa using hin
              have HT3 : Hid (trp rs b (L ++ [(j : Int)]) = ⟨ln2, wn2, r, M ++ [ar], true⟩) := by show _ = _; rw [HT2.out, hdb]
              clear hdb
              obtain ⟨w10, hw10⟩ : ∃ w10, w10 = w9.alloc (Obj.cells #[.slice (some ⟨g1, 0, none⟩) (L.length + 1) c1, .slice (some ⟨g2, 0, none⟩) (M.length + 1) c2, .int .i64 wn2, .int .i64 ln2, .int .i64 r.x, .int .i64 r.y, .int .i64 r.fr, .int .i64 r.to, .int .i64 r.sy] 57) := ⟨_, rfl⟩
              obtain ⟨xb, hxb⟩ : ∃ xb, xb = w9.heap.size := ⟨_, rfl⟩
              have HE10 : Hid (w10 = w9.alloc (Obj.cells #[.slice (some ⟨g1, 0, none⟩) (L.length + 1) c1, .slice (some ⟨g2, 0, none⟩) (M.length + 1) c2, .int .i64 wn2, .int .i64 ln2, .int .i64 r.x, .int .i64 r.y, .int .i64 r.fr, .int .i64 r.to, .int .i64 r.sy] 57) ∧ xb = w9.heap.size) := ⟨hw10, hxb⟩
              have H10 : Hid (GoI D lo sb wb (some ⟨b0, o0, none⟩) cap bd rs b X ga gc L ha hc M wt lv h b' W w10 ∧ PsR lo sb (some ⟨b0, o0, none⟩) cap bd rs b (fun x => X x ∨ x = g1 ∨ x = g2) b' w10 ∧ w10.ownsRow D 3 1 (.slice (some ⟨g1, 0, none⟩) (L.length + 1) c1) (L.length + 1) (inV (L ++ [(j : Int)])) ∧ w10.ownsRow D 3 1 (.slice (some ⟨g2, 0, none⟩) (M.length + 1) c2) (M.length + 1) (inV (M ++ [ar]))) := by
                rw [hw10]
                exact ⟨HI9.out.1.later (below_alloc _ _), HI9.out.2.later (below_alloc _ _), HRo.out.1.alloc _, HRo.out.2.1.alloc _⟩
              have hnx := heapNew w9 (Obj.cells #[.slice (some ⟨g1, 0, none⟩) (L.length + 1) c1, .slice (some ⟨g2, 0, none⟩) (M.length + 1) c2, .int .i64 wn2, .int .i64 ln2, .int .i64 r.x, .int .i64 r.y, .int .i64 r.fr, .int .i64 r.to, .int .i64 r.sy] 57)
              rw [← hw10, ← hxb] at hnx
              obtain ⟨z0, z1, z2, z3, z4, z5, z6, z7, z8⟩ := (show w10.cell? ⟨xb, 0, none⟩ = some (.slice (some ⟨g1, 0, none⟩) (L.length + 1) c1) ∧ w10.cell? ⟨xb, 1, none⟩ = some (.slice (some ⟨g2, 0, none⟩) (M.length + 1) c2) ∧ w10.cell? ⟨xb, 2, none⟩ = some (.int .i64 wn2) ∧ w10.cell? ⟨xb, 3, none⟩ = some (.int .i64 ln2) ∧ w10.cell? ⟨xb, 4, none⟩ = some (.int .i64 r.x) ∧ w10.cell? ⟨xb, 5, none⟩ = some (.int .i64 r.y) ∧ w10.cell? ⟨xb, 6, none⟩ = some (.int .i64 r.fr) ∧ w10.cell? ⟨xb, 7, none⟩ = some (.int .i64 r.to) ∧ w10.cell? ⟨xb, 8, none⟩ = some (.int .i64 r.sy) from ⟨blkCell hnx 0 _ rfl, blkCell hnx 1 _ rfl, blkCell hnx 2 _ rfl, blkCell hnx 3 _ rfl, blkCell hnx 4 _ rfl, blkCell hnx 5 _ rfl, blkCell hnx 6 _ rfl, blkCell hnx 7 _ rfl, blkCell hnx 8 _ rfl⟩)
              clear hnx hw10 hxb
              have HIH : Hid (Calls Try.prog 27 #[.pointer (some ⟨sb, 0, none⟩), .agg #[.slice (some ⟨g1, 0, none⟩) (L.length + 1) c1, .slice (some ⟨g2, 0, none⟩) (M.length + 1) c2, .int .i64 wn2, .int .i64 ln2, .int .i64 r.x, .int .i64 r.y, .int .i64 r.fr, .int .i64 r.to, .int .i64 r.sy]] w10 fun e w' => (e = .returned (.tuple #[]) ∨ ((∃ u pv, e = .panicked [{ v := .iface u pv, recovered := false }]) ∧ ∃ o9, stR rs b k' L (some o) (j + 1) = some o9 ∧ enR rs b o9 ≤ bd)) ∧ GoI D lo sb wb (some ⟨b0, o0, none⟩) cap bd rs b X ga gc L ha hc M wt lv h (stR rs b k' L (some o) (j + 1)) W w') := by
                have hq := HNx.out (L ++ [(j : Int)]) wn2 ln2 r (M ++ [ar]) b' (fun x => X x ∨ x = g1 ∨ x = g2) (some ⟨g1, 0, none⟩) c1 (some ⟨g2, 0, none⟩) c2 (L.length + 1) (M.length + 1) w10 (by simp) (by simp) (by simp; omega) (OrdN.snoc HOrd.out hlt HCb.out) HT3.out (GoI.kid HSt.out H10.out.1 H10.out.2.2.1 H10.out.2.2.2 HRo.out.2.2.2.2 H10.out.2.1) H10.out.2.1 H10.out.2.2.1 H10.out.2.2.2 (H10.out.1.low HLow.out hD hsb)
                refine hq.mono ?_
                intro e w' hq
                have hc := GoI.child HSt.out H10.out.1 H10.out.2.2.1 H10.out.2.2.2 HRo.out.2.2.1 HRo.out.2.2.2.1 HRo.out.2.2.2.2 hq
                have e9 : tyR rs b k' (L ++ [(j : Int)]) b' = stR rs b k' L (some o) (j + 1) := by rw [stR_take HCb.out, HBs.out]
                rw [e9] at hc
                exact hc
              have HEnds : Hid (∀ o9, stR rs b k' L (some o) (j + 1) = some o9 → enR rs b o9 ≤ bd → tyR rs b (k' + 1) L (some o) = some o9) := fun o9 h1 h2 => tyR_ends hs (by rw [← HBd.out]; exact h2) HOrd.out (by omega) (by rw [HT.out]) hlt HCb.out (by rw [← stR_take HCb.out]; exact h1)
              clear HI9 HRo H10
              go_upto_region 9 with fail
              rw [← HE10.out.1, ← HE10.out.2]
              clear HE10
              go_wp2_with fail
              (first | go_at_call 27 | skip)
              refine HIH.out.mono ?_
              rintro e w11 ⟨he, hI11⟩
              have HI11 : Hid (GoI D lo sb wb (some ⟨b0, o0, none⟩) cap bd rs b X ga gc L ha hc M wt lv h (stR rs b k' L (some o) (j + 1)) W w11) := hI11
              clear HIH hI11 z0 z1 z2 z3 z4 z5 z6 z7 z8
              rcases he with rfl | ⟨⟨u, pv, rfl⟩, o2, ho2, hle2⟩
              · clear HEnds
                go_wp2
                exact ⟨⟨j + 1, _, by omega, by go_num, rfl, HI11.out⟩, by simp [intOf]; omega⟩
              · have HQ : Hid (GoQ D lo sb (some ⟨b0, o0, none⟩) cap bd rs b X ga gc L ha hc M (tyR rs b (k' + 1) L (some o)) W (.panicked [{ v := .iface u pv, recovered := false }]) w11) := by
                  have h1 := HEnds.out o2 ho2 hle2
                  have h2 := HI11.out
                  rw [ho2] at h2
                  rw [h1]
                  exact ⟨.inr ⟨⟨_, _, rfl⟩, o2, rfl, hle2⟩, h2.ps, h2.rowL, h2.rowM, h2.fr⟩
                clear HI11 HEnds
                go_wp2
                exact ⟨rfl, HQ.out⟩
            · skip
              have HB9 : Hid (b' = stR rs b k' L (some o) (j + 1)) := by
                show _ = _
                rw [stR_take HCb.out, tyR_late (by rw [HT2.out]; simpa using hin)]
                exact HBs.out
              have HI10 : Hid (GoI D lo sb wb (some ⟨b0, o0, none⟩) cap bd rs b X ga gc L ha hc M wt lv h b' W (w9.alloc (Obj.cells #[.slice (some ⟨g1, 0, none⟩) (L.length + 1) c1, .slice (some ⟨g2, 0, none⟩) (M.length + 1) c2, .int .i64 wn2, .int .i64 ln2, .int .i64 r.x, .int .i64 r.y, .int .i64 r.fr, .int .i64 r.to, .int .i64 r.sy] 57))) := HI9.out.1.later (below_alloc _ _)
              clear HI9 HRo
              go_wp2
              exact ⟨⟨j + 1, b', by omega, by go_num, HB9.out, HI10.out⟩, by simp [intOf]; omega⟩
          · skip
            clear f1 f2 f3 f4 f5 f6 f7 f8
            go_wp2_with fail
            (first | go_at_call 46 | skip)
            refine (HCo.out _ (Below.refl _ _)).mono ?_
            rintro e w8 ⟨rfl, hb8⟩
            have HI8 : Hid (GoI D lo sb wb (some ⟨b0, o0, none⟩) cap bd rs b X ga gc L ha hc M wt lv h b' W w8) := by rw [← hb8]; exact HIn.out.1
            clear HIn hb8 HCo f0
            have HB9 : Hid (b' = stR rs b k' L (some o) (j + 1)) := by
              show _ = _
              rw [stR_skip HCb.out]
              exact HBs.out
            go_wp2
            exact ⟨⟨j + 1, b', by omega, by go_num, HB9.out, HI8.out⟩, by simp [intOf]; omega⟩
        · have hle : (rs.length : Int) ≤ (j : Int) := by omega
          have hje : j = rs.length := by omega
          have HE : Hid (b' = tyR rs b (k' + 1) L (some o)) := by
            show _ = _
            rw [HTy.out, HBs.out, hje]
          clear hje
          go_wp2
          go_end0
          rw [← HE.out]
          exact HI.out.fin
theorem go_any (D lo sb : Nat) (ad : Option Addr) (cap : Nat) (bd : Int) (rs : List RHp) (b : Int) (h7 : rs.length ≤ 7) (hs : hpsB rs = true) (hb : 0 ≤ b ∧ b ≤ 100000) (hbd : bd = leN b rs) (w0 : World) (hD : w0.heap.size = D) (hr0 : ReadsHp D w0 ad rs) (hsb : D ≤ sb) : ∀ k, GoC D lo sb ad cap bd rs b w0 k
  | 0 => go_step D lo sb ad cap bd rs b h7 hs hb hbd w0 hD hr0 hsb 0 (fun k' e => by omega)
  | k + 1 => go_step D lo sb ad cap bd rs b h7 hs hb hbd w0 hD hr0 hsb (k + 1) (fun k' e => by
    have : k' = k := by omega
    rw [this]
    exact go_any D lo sb ad cap bd rs b h7 hs hb hbd w0 hD hr0 hsb k)
end Go.Proofs.Ytoogphkojofkfaa

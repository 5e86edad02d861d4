/-
  The specification's held coins: of every list of bytes it draws a short list of right coins, values rising, at most five of each.
-/
import Derived.Test.YtngnmlifbjpkoaaSrcApt
import Derived.Test.YtngnmlifbjpkoaaHeA
import Derived.Test.YtngnmlifbjpkoaaRow1
import Derived.Deep.AppendLies
import Derived.Laws.OwnMore
namespace Go.Proofs.Ytngnmlifbjpkoaa
open Go.ChangeShapes Go.WideShapes Go.ChangeAt Go.RowKit
set_option linter.unusedVariables false

theorem chance_co (B b : Nat) (a : Option Addr) (len cap : Nat) (zs : List Int) (n at' seed : Int) (w : World) (hB : B ≤ b) (hs : Src w b a len cap at' seed) (hr : RowB B w a len zs) (a1 : at' ≤ 1000000) (hn : 1 ≤ n) (hn' : n ≤ 256) :
    Calls Try.prog 22 #[.pointer (some ⟨b, 0, none⟩), .int .i64 n] w fun e w' => ∃ (x : Bool) (at2 s' : Int), e = .returned (.bool x) ∧ at' ≤ at2 ∧ at2 ≤ at' + 3 ∧ Src w' b a len cap at2 s' ∧ Below B w w' ∧ Apt b w w' := by
  have hnx := next_anyA B b a len cap zs n at' seed w hB hs hr (by omega) hn'
  go_enter Try.func22, Try.ntmps22
  go_wp2_with (go_at_call 14; refine hnx.mono ?_; rintro e w1 ⟨x, a2, s2, rfl, hx, h1, h2, h3, h4, h5⟩)
  go_ret
  exact ⟨_, a2, s2, rfl, h1, h2, h3, h4, h5⟩

/-- The cells of some coins. -/
def coCells (rs : List RCo) : List Value := rs.flatMap fun r => [.int .i64 r.vl, .int .i64 r.ct]
theorem coCells_append (a b : List RCo) : coCells (a ++ b) = coCells a ++ coCells b := by simp [coCells]
theorem coCells_get : ∀ (rs : List RCo) (i : Nat), i < rs.length → (coCells rs)[i * 2]? = some (.int .i64 (rs.getD i zCo).vl) ∧ (coCells rs)[i * 2 + 1]? = some (.int .i64 (rs.getD i zCo).ct)
  | r :: rs, 0, h => ⟨rfl, rfl⟩
  | r :: rs, i + 1, h => by
    have := coCells_get rs i (by simpa using h)
    rw [show (i + 1) * 2 = i * 2 + 1 + 1 by omega]
    exact this
theorem cos_of_row {w : World} {B g cap : Nat} {rs : List RCo} (h : w.ownsRow B 33 2 (.slice (some ⟨g, 0, none⟩) rs.length cap) rs.length (coCells rs)) : CosAt w g 0 rs := fun i hi => by
  obtain ⟨q0, q1⟩ := coCells_get rs i hi
  refine ⟨?_, ?_⟩
  · rw [h.cellAt (0 + i * 2) (by omega), show 0 + i * 2 = i * 2 by omega, q0]
  · rw [h.cellAt (0 + i * 2 + 1) (by omega), show 0 + i * 2 + 1 = i * 2 + 1 by omega, q1]
theorem owns_sameC {w w' : World} {B : Nat} {e : TypeId} {size : Nat} {v : Value} {n : Nat} {xs : List Value} (h : w.ownsRow B e size v n xs) (hs : ∀ k, v.ownBlock = some k → w'.heap[k]? = w.heap[k]?) : w'.ownsRow B e size v n xs := by
  obtain ⟨h1, h2⟩ := h
  refine ⟨h1, ?_⟩
  rcases h2 with h2 | ⟨g, cap, cur, e, hB, hg, r⟩
  · exact .inl h2
  · exact .inr ⟨g, cap, cur, e, hB, (hs g (by rw [e]; rfl)).trans hg, r⟩
theorem src_sameC {w w' : World} {b : Nat} {a : Option Addr} {len cap : Nat} {x s : Int} (h : Src w b a len cap x s) (e : w'.heap[b]? = w.heap[b]?) (hz : w.heap.size ≤ w'.heap.size) : Src w' b a len cap x s := by
  obtain ⟨s0, s1, s2, f1, f2, sb, r⟩ := h
  exact ⟨(World.cell?_of_block (w := w) (a := ⟨b, 0, none⟩) e).trans s0, (World.cell?_of_block (w := w) (a := ⟨b, 1, none⟩) e).trans s1, (World.cell?_of_block (w := w) (a := ⟨b, 2, none⟩) e).trans s2, (World.frozen?_of_block (w := w) (a := ⟨b, 1, none⟩) e).trans f1, (World.frozen?_of_block (w := w) (a := ⟨b, 2, none⟩) e).trans f2, Nat.lt_of_lt_of_le sb hz, r⟩
/-- The source in block b, the coins drawn so far in a row of their own. -/
def CoSt (w : World) (b : Nat) (a : Option Addr) (len cap : Nat) (v : Value) (rs : List RCo) (at' sd : Int) (wr : World) : Prop :=
  wr.ownsRow (b + 1) 33 2 v rs.length (coCells rs) ∧ b + 1 ≤ wr.heap.size ∧ Src wr b a len cap at' sd ∧ Below b w wr
theorem CoSt.draw {w : World} {b : Nat} {a : Option Addr} {len cap : Nat} {v : Value} {rs : List RCo} {at' sd at2 sd2 : Int} {wr w' : World} (h : CoSt w b a len cap v rs at' sd wr) (ha : Apt b wr w') (hb : Below b wr w') (hs : Src w' b a len cap at2 sd2) : CoSt w b a len cap v rs at2 sd2 w' := by
  obtain ⟨h1, h2, h3, h4⟩ := h
  exact ⟨owns_sameC h1 (fun k hk => ha k (by have := (h1.lt k hk).1; omega)), Nat.le_trans h2 hb.size, hs, h4.trans hb⟩
theorem CoSt.drew {w : World} {b : Nat} {a : Option Addr} {len cap : Nat} {v : Value} {rs : List RCo} {at' sd : Int} {wr : World} (h : CoSt w b a len cap v rs at' sd wr) : CoSt w b a len cap v rs at' sd wr.drew := ⟨h.1, h.2.1, h.2.2.1, h.2.2.2.drew⟩
theorem CoSt.alloc {w : World} {b : Nat} {a : Option Addr} {len cap : Nat} {v : Value} {rs : List RCo} {at' sd : Int} {wr : World} (h : CoSt w b a len cap v rs at' sd wr) (o : Obj) : CoSt w b a len cap v rs at' sd (wr.alloc o) := by
  obtain ⟨h1, h2, h3, h4⟩ := h
  exact ⟨h1.alloc _, by simp; omega, src_sameC h3 (Below.heap_alloc _ _ _ h3.2.2.2.2.2.1) (by simp), h4.alloc (by omega) _⟩
theorem CoSt.push {w : World} {b : Nat} {a : Option Addr} {len cap : Nat} {v : Value} {rs : List RCo} {at' sd : Int} {wr w' : World} {g cp : Nat} {r : RCo} (h : CoSt w b a len cap v rs at' sd wr)
    (ho : w'.ownsRow (b + 1) 33 2 (.slice (some ⟨g, 0, none⟩) (rs.length + 1) cp) (rs.length + 1) (coCells rs ++ [.int .i64 r.vl, .int .i64 r.ct])) (hg : wr.grownBy w' v.ownBlock) : CoSt w b a len cap (.slice (some ⟨g, 0, none⟩) (rs.length + 1) cp) (rs ++ [r]) at' sd w' := by
  obtain ⟨q1, q2, q3, q4⟩ := h
  refine ⟨?_, Nat.le_trans q2 hg.size, src_sameC q3 (hg.block b q3.2.2.2.2.2.1 (fun e => by have := (q1.lt b e.symm).1; omega)) hg.size, q4.grown hg (by omega) (fun k hk => by have := (q1.lt k hk).1; omega)⟩
  rw [List.length_append, coCells_append]; exact ho
theorem CoSt.start {w0 w : World} {b : Nat} {a : Option Addr} {len cap : Nat} {at' sd : Int} (hs : Src w b a len cap at' sd) (hb : Below b w0 w) : CoSt w0 b a len cap (.slice (some ⟨w.heap.size, 0, none⟩) 0 0) [] at' sd (w.alloc (Obj.cells #[] 33)) := by
  have hl := hs.2.2.2.2.2.1
  exact ⟨⟨rfl, .inr ⟨w.heap.size, 0, #[], rfl, hl, heapNew w _, Nat.le_refl _, by unfold maxLen; omega, rfl, rfl⟩⟩, by simp; omega, src_sameC hs (Below.heap_alloc _ _ _ hl) (by simp), hb.alloc (by omega) _⟩
theorem coInf : (Try.prog.info? 33).map (fun i => (i.zero, i.size, i.bytes)) = some (some (.agg #[.int .i64 0, .int .i64 0]), 2, 16) := by kernel_rfl
theorem one2 (x0 x1 : Int) : ∀ u ∈ [Value.int .i64 x0, .int .i64 x1], u.oneCell' = true := by
  intro u hu
  simp at hu
  rcases hu with rfl | rfl <;> rfl
/-- The values that are drawn from, in a block of their own. -/
def VRow (wr : World) (b vb : Nat) (vals : List Int) : Prop := b < vb ∧ wr.heap[vb]? = some (.cells (vals.map (Value.int .i64)).toArray 3 (0, 0))
theorem VRow.draw {wr w' : World} {b vb : Nat} {vals : List Int} (h : VRow wr b vb vals) (ha : Apt b wr w') : VRow w' b vb vals := ⟨h.1, (ha vb (by have := h.1; omega)).trans h.2⟩
theorem VRow.lt {wr : World} {b vb : Nat} {vals : List Int} (h : VRow wr b vb vals) : vb < wr.heap.size := (Array.getElem?_eq_some_iff.1 h.2).1
theorem VRow.alloc {wr : World} {b vb : Nat} {vals : List Int} (h : VRow wr b vb vals) (o : Obj) : VRow (wr.alloc o) b vb vals := ⟨h.1, (Below.heap_alloc _ _ _ h.lt).trans h.2⟩
theorem VRow.cell {wr : World} {b vb : Nat} {vals : List Int} (h : VRow wr b vb vals) (i : Nat) (hi : i < vals.length) : wr.cell? ⟨vb, i, none⟩ = some (.int .i64 (vals.getD i 0)) := by
  simp [World.cell?, h.2, hi, List.getD_eq_getElem?_getD]
theorem VRow.grown {wr w' : World} {b vb B : Nat} {vals : List Int} {v : Value} {n : Nat} {xs : List Value} (h : VRow wr b vb vals) (ho : wr.ownsRow B 33 2 v n xs) (hg : wr.grownBy w' v.ownBlock) : VRow w' b vb vals := by
  refine ⟨h.1, (hg.block vb h.lt (fun e => ?_)).trans h.2⟩
  rcases ho.2 with ⟨ho, _⟩ | ⟨g, cap, cur, e', hB, hg', r⟩
  · rw [ho] at e; simp [Value.ownBlock] at e
  · rw [e'] at e
    have e2 : vb = g := by simpa [Value.ownBlock] using e
    have := h.2
    rw [e2, hg'] at this
    simp at this

/-- The last value. -/
def lstV : Int → List RCo → Int
  | p, [] => p
  | _, r :: rs => lstV r.vl rs
def tvV : List RCo → Int
  | [] => 0
  | r :: rs => r.vl + tvV rs
theorem heGo_snoc : ∀ (rs : List RCo) (p : Int) (r : RCo), heGo p (rs ++ [r]) = (heGo p rs && coB (lstV p rs) r)
  | [], p, r => by simp [heGo, lstV]
  | x :: rs, p, r => by simp [heGo, lstV, heGo_snoc rs, Bool.and_assoc]
theorem lstV_snoc : ∀ (rs : List RCo) (p : Int) (r : RCo), lstV p (rs ++ [r]) = r.vl
  | [], p, r => rfl
  | x :: rs, p, r => by simp [lstV, lstV_snoc rs]
theorem tvV_snoc : ∀ (rs : List RCo) (r : RCo), tvV (rs ++ [r]) = tvV rs + r.vl
  | [], r => by simp [tvV]
  | x :: rs, r => by simp [tvV, tvV_snoc rs]; omega
/-- Coins drawn of the first k of some values. -/
def CoDr (vals : List Int) (k : Nat) (rs : List RCo) : Prop := heGo 0 rs = true ∧ rs.length ≤ k ∧ (∀ r ∈ rs, 0 ≤ r.ct ∧ r.ct ≤ 5) ∧ (k < vals.length → lstV 0 rs < vals.getD k 0) ∧ tvV rs ≤ (vals.take k).sum
/-- Values that rise, from 1 to 500. -/
def Rise (vals : List Int) : Prop := vals.length ≤ 9 ∧ (∀ k, k < vals.length → 1 ≤ vals.getD k 0 ∧ vals.getD k 0 ≤ 500) ∧ (∀ k, k + 1 < vals.length → vals.getD k 0 < vals.getD (k + 1) 0) ∧ vals.sum ≤ 888
theorem take_sum (vals : List Int) (k : Nat) (h : k < vals.length) : (vals.take (k + 1)).sum = (vals.take k).sum + vals.getD k 0 := by
  rw [List.take_succ_eq_append_getElem h, List.sum_append]; simp [List.getD_eq_getElem?_getD, h]
theorem CoDr.skip {vals : List Int} (hv : Rise vals) {k : Nat} (hk : k < vals.length) {rs : List RCo} (h : CoDr vals k rs) : CoDr vals (k + 1) rs := by
  obtain ⟨h1, h2, h3, h4, h5⟩ := h
  have := take_sum vals k hk
  have hb := hv.2.1 k hk
  exact ⟨h1, by omega, h3, fun h => by have := h4 hk; have := hv.2.2.1 k h; omega, by omega⟩
theorem CoDr.push {vals : List Int} (hv : Rise vals) {k : Nat} (hk : k < vals.length) {rs : List RCo} (h : CoDr vals k rs) (x : Int) (h0 : 0 ≤ x) (h5 : x ≤ 5) : CoDr vals (k + 1) (rs ++ [⟨vals.getD k 0, x⟩]) := by
  obtain ⟨h1, h2, h3, h4, h5'⟩ := h
  have := take_sum vals k hk
  have hb := hv.2.1 k hk
  refine ⟨?_, by simp; omega, fun r hr => ?_, fun h => ?_, ?_⟩
  · rw [heGo_snoc, h1, Bool.true_and]
    unfold coB
    have := h4 hk
    simp only [Bool.and_eq_true, decide_eq_true_eq]
    omega
  · rcases List.mem_append.1 hr with hr | hr
    · exact h3 r hr
    · simp at hr; subst hr; exact ⟨h0, h5⟩
  · rw [lstV_snoc]; exact hv.2.2.1 k h
  · rw [tvV_snoc]; dsimp only; omega
def vals9 : List Int := [1, 2, 5, 10, 20, 50, 100, 200, 500]
def vals6 : List Int := [1, 7, 9, 30, 44, 90]
theorem rise9 : Rise vals9 := by
  refine ⟨by decide, fun k hk => ?_, fun k hk => ?_, by decide⟩
  · have : k < 9 := hk
    rcases (by omega : k = 0 ∨ k = 1 ∨ k = 2 ∨ k = 3 ∨ k = 4 ∨ k = 5 ∨ k = 6 ∨ k = 7 ∨ k = 8) with rfl | rfl | rfl | rfl | rfl | rfl | rfl | rfl | rfl <;> decide
  · have : k + 1 < 9 := hk
    rcases (by omega : k = 0 ∨ k = 1 ∨ k = 2 ∨ k = 3 ∨ k = 4 ∨ k = 5 ∨ k = 6 ∨ k = 7) with rfl | rfl | rfl | rfl | rfl | rfl | rfl | rfl <;> decide
theorem rise6 : Rise vals6 := by
  refine ⟨by decide, fun k hk => ?_, fun k hk => ?_, by decide⟩
  · have : k < 6 := hk
    rcases (by omega : k = 0 ∨ k = 1 ∨ k = 2 ∨ k = 3 ∨ k = 4 ∨ k = 5) with rfl | rfl | rfl | rfl | rfl | rfl <;> decide
  · have : k + 1 < 6 := hk
    rcases (by omega : k = 0 ∨ k = 1 ∨ k = 2 ∨ k = 3 ∨ k = 4) with rfl | rfl | rfl | rfl | rfl <;> decide
theorem CoDr.none {vals : List Int} (hv : Rise vals) : CoDr vals 0 [] := ⟨rfl, by simp, by simp, fun h => by have := hv.2.1 0 h; show (0 : Int) < _; omega, by simp [tvV]⟩
/-- What held answers. -/
def HePost (w : World) (b : Nat) (a : Option Addr) (len cap : Nat) (e : Ending) (w' : World) : Prop := ∃ (rs : List RCo) (g cp : Nat) (at' sd : Int), e = .returned (.slice (some ⟨g, 0, none⟩) rs.length cp) ∧ heGo 0 rs = true ∧ rs.length ≤ 9 ∧ (∀ r ∈ rs, 0 ≤ r.ct ∧ r.ct ≤ 5) ∧ tvV rs ≤ 888 ∧ at' ≤ 100 ∧ CoSt w b a len cap (.slice (some ⟨g, 0, none⟩) rs.length cp) rs at' sd w'

set_option maxHeartbeats 4000000 in
set_option maxRecDepth 4000 in
theorem held_any (b : Nat) (a : Option Addr) (len cap : Nat) (zs : List Int) (s0 : Int) (w w1 : World) (hs : Src w1 b a len cap 0 s0) (hb : Below b w w1) (hr : RowB b w a len zs) :
    Calls Try.prog 13 #[.pointer (some ⟨b, 0, none⟩)] w1 (HePost w b a len cap) := by
  have HNx : Hid (∀ W (n at' sd : Int), Below b w W → Src W b a len cap at' sd → at' ≤ 1000 → n ≤ 256 → Calls Try.prog 14 #[.pointer (some ⟨b, 0, none⟩), .int .i64 n] W fun e w' => ∃ x at2 s' : Int, e = .returned (.int .i64 x) ∧ Drawn x n ∧ at' ≤ at2 ∧ at2 ≤ at' + 3 ∧ Src w' b a len cap at2 s' ∧ Below b W w' ∧ Apt b W w') := fun W n at' sd hW hs h1 h2 => next_anyA b b a len cap zs n at' sd W (Nat.le_refl _) hs (hr.below hW) (by omega) (by omega)
  have HCh : Hid (∀ W (n at' sd : Int), Below b w W → Src W b a len cap at' sd → at' ≤ 1000 → 1 ≤ n → n ≤ 256 → Calls Try.prog 22 #[.pointer (some ⟨b, 0, none⟩), .int .i64 n] W fun e w' => ∃ (x : Bool) (at2 s' : Int), e = .returned (.bool x) ∧ at' ≤ at2 ∧ at2 ≤ at' + 3 ∧ Src w' b a len cap at2 s' ∧ Below b W w' ∧ Apt b W w') := fun W n at' sd hW hs h1 h2 h3 => chance_co b b a len cap zs n at' sd W (Nat.le_refl _) hs (hr.below hW) (by omega) h2 h3
  obtain ⟨i0, hi, hzz⟩ := Option.map_eq_some_iff.1 coInf
  simp only [Prod.mk.injEq] at hzz
  obtain ⟨hi0, hi1, hi2⟩ := hzz
  have H1 : Hid (CoSt w b a len cap (.slice (some ⟨w1.heap.size, 0, none⟩) 0 0) [] 0 s0 ((w1.alloc (Obj.cells #[] 33)).alloc (Obj.cells (vals9.map (Value.int .i64)).toArray 3))) := (CoSt.start hs hb).alloc _
  have V1 : Hid (VRow ((w1.alloc (Obj.cells #[] 33)).alloc (Obj.cells (vals9.map (Value.int .i64)).toArray 3)) b (w1.heap.size + 1) vals9) := ⟨by have := hs.2.2.2.2.2.1; omega, by have := heapNew (w1.alloc (Obj.cells #[] 33)) (Obj.cells (vals9.map (Value.int .i64)).toArray 3); simpa using this⟩
  have L9 : vals9.length = 9 := rfl
  clear hr hs hb
  simp only [vals9, List.map_cons, List.map_nil] at H1 V1
  go_enter Try.func13, Try.ntmps13
  -- BEGIN
  go_wp2_with fail
  (first | go_at_call 22 | skip)
  refine (HCh.out _ 3 0 s0 H1.out.2.2.2 H1.out.2.2.1 (by omega) (by omega) (by omega)).mono ?_
  rintro e w2 ⟨xb, a2, s2, rfl, ha2, hb2, hs2, hb2', hf2⟩
  have H2 : Hid (CoSt w b a len cap (.slice (some ⟨w1.heap.size, 0, none⟩) 0 0) [] a2 s2 w2) := H1.out.draw hf2 hb2' hs2
  have V2 : Hid (VRow w2 b (w1.heap.size + 1) vals9) := V1.out.draw hf2
  clear hs2 hb2' hf2 H1 V1
  cases xb
  · have H3 : Hid (CoSt w b a len cap (.slice (some ⟨w1.heap.size, 0, none⟩) 0 0) [] a2 s2 w2) := H2.out
    have V3 : Hid (VRow w2 b (w1.heap.size + 1) vals9) := V2.out
    clear H2 V2
    go_wp2
    go_loopw [3, 5] (fun v x wr => ∃ (rs : List RCo) (k g cp : Nat) (at' sd : Int), k ≤ 9 ∧ v = .slice (some ⟨g, 0, none⟩) rs.length cp ∧ x = .int .i64 (k : Int) ∧ CoDr vals9 k rs ∧ at' ≤ 10 + 6 * (k : Int) ∧ CoSt w b a len cap v rs at' sd wr ∧ VRow wr b (w1.heap.size + 1) vals9) (fun _ x _ => 9 - (intOf x).toNat)
    case atStart => exact ⟨[], 0, w1.heap.size, 0, a2, s2, by omega, rfl, rfl, CoDr.none rise9, by omega, H3.out, V3.out⟩
    case round =>
      obtain ⟨rs, k, g, cp, at', sd, hk, rfl, rfl, hdr, hat, hst, hvr⟩ := hrel
      have HS : Hid (CoSt w b a len cap (.slice (some ⟨g, 0, none⟩) rs.length cp) rs at' sd wr) := hst
      have HV : Hid (VRow wr b (w1.heap.size + 1) vals9) := hvr
      have HD : Hid (CoDr vals9 k rs) := hdr
      clear hst hvr hdr H3 V3
      by_cases hlt : k < 9
      · have HK : Hid (k < vals9.length) := hlt
        have hln : rs.length ≤ 9 := by have := HD.out.2.1; omega
        go_wp2_with fail
        (first | go_at_call 22 | skip)
        refine (HCh.out _ 3 at' sd HS.out.2.2.2 HS.out.2.2.1 (by omega) (by omega) (by omega)).mono ?_
        rintro e w4 ⟨yb, a4, s4, rfl, ha4, hb4, hs4, hb4', hf4⟩
        have H4 : Hid (CoSt w b a len cap (.slice (some ⟨g, 0, none⟩) rs.length cp) rs a4 s4 w4) := HS.out.draw hf4 hb4' hs4
        have V4 : Hid (VRow w4 b (w1.heap.size + 1) vals9) := HV.out.draw hf4
        clear hs4 hb4' hf4 HS HV
        cases yb
        · obtain ⟨vx, hx⟩ : ∃ vx, (vals9).getD k 0 = vx := ⟨_, rfl⟩
          have HC : Hid (∀ W, VRow W b (w1.heap.size + 1) vals9 → W.cell? ⟨(w1.heap.size + 1), k, none⟩ = some (.int .i64 vx)) := fun W hW => by rw [← hx]; exact hW.cell k HK.out
          have HE : Hid (∀ x6, 0 ≤ x6 → x6 ≤ 5 → CoDr vals9 (k + 1) (rs ++ [⟨vx, x6⟩])) := fun x6 h0 h5 => by rw [← hx]; exact HD.out.push rise9 HK.out x6 h0 h5
          clear hx
          have H4d : Hid (CoSt w b a len cap (.slice (some ⟨g, 0, none⟩) rs.length cp) rs a4 s4 w4.drew) := H4.out.drew
          go_wp2
          refine wp_region_held_drew (S := fun W => VRow W b (w1.heap.size + 1) vals9) (by kernel_rfl) V4.out (fun hH => ?_)
          refine wpAnyH_take (i := 0) (v := .slice (some ⟨g, 0, none⟩) rs.length cp) rfl (by kernel_rfl) (by kernel_rfl) (by kernel_rfl) (fun _ _ _ h => h) (Or.inl ⟨by rfl, fun w hSw => by go_simp⟩) hH ?_
          refine wpAnyH_take (i := 1) (v := .slice (some ⟨(w1.heap.size + 1), 0, none⟩) 9 9) rfl (by kernel_rfl) (by kernel_rfl) (by kernel_rfl) (fun _ _ _ h => h) (Or.inl ⟨by rfl, fun w hSw => by go_simp⟩) hH ?_
          try simp only [Act.put, List.setIfInBounds_toArray, List.set_cons_zero, List.set_cons_succ, List.getElem_toArray, List.getElem_cons_succ, List.getElem_cons_zero]
          refine wpAnyH_take (i := 2) (v := .int .i64 (k : Int)) rfl (by kernel_rfl) (by kernel_rfl) (by kernel_rfl) (fun _ _ _ h => h) (Or.inl ⟨by rfl, fun w hSw => by go_simp⟩) hH ?_
          try simp only [Act.put, List.setIfInBounds_toArray, List.set_cons_zero, List.set_cons_succ, List.getElem_toArray, List.getElem_cons_succ, List.getElem_cons_zero]
          refine wpAnyH_take (i := 3) (v := .pointer (some ⟨(w1.heap.size + 1), k, none⟩)) rfl (by kernel_rfl) (by kernel_rfl) (by kernel_rfl) (fun _ _ _ h => h) (Or.inl ⟨by rfl, fun w hSw => by go_simp⟩) hH ?_
          try simp only [Act.put, List.setIfInBounds_toArray, List.set_cons_zero, List.set_cons_succ, List.getElem_toArray, List.getElem_cons_succ, List.getElem_cons_zero]
          refine wpAnyH_take (i := 4) (v := .int .i64 vx) rfl (by kernel_rfl) (by kernel_rfl) (by kernel_rfl) (fun _ _ _ h => h) (Or.inl ⟨by rfl, fun w hSw => by have q := HC.out w hSw; go_simp⟩) hH ?_
          try simp only [Act.put, List.setIfInBounds_toArray, List.set_cons_zero, List.set_cons_succ, List.getElem_toArray, List.getElem_cons_succ, List.getElem_cons_zero]
          refine wpAnyH_take (i := 5) (v := .pointer (some ⟨b, 0, none⟩)) rfl (by kernel_rfl) (by kernel_rfl) (by kernel_rfl) (fun _ _ _ h => h) (Or.inl ⟨by rfl, fun w hSw => by go_simp⟩) hH ?_
          try simp only [Act.put, List.setIfInBounds_toArray, List.set_cons_zero, List.set_cons_succ, List.getElem_toArray, List.getElem_cons_succ, List.getElem_cons_zero]
          refine wpAnyH_ready (rs := [6]) (by kernel_rfl) (by simp) ?_
          refine AllReadyH.cons rfl (fun K hK => ?_) AllReadyH.nil
          go_simp
          go_at_call 14
          refine (HNx.out _ 6 a4 s4 H4d.out.2.2.2 H4d.out.2.2.1 (by omega) (by omega)).mono ?_
          rintro e w6 ⟨x6, a6, s6, rfl, ⟨hx60, hx61⟩, ha6, hb6, hs6, hb6', hf6⟩
          have hx65 : x6 ≤ 5 := by omega
          have H6 : Hid (CoSt w b a len cap (.slice (some ⟨g, 0, none⟩) rs.length cp) rs a6 s6 w6) := H4d.out.draw hf6 hb6' hs6
          have hS6 : VRow w6 b (w1.heap.size + 1) vals9 := hH.draw hf6
          clear hs6 hb6' hf6 H4 H4d V4
          refine hK.out _ _ hS6 (fun _ => ?_)
          clear hK K
          try simp only [Act.put, List.setIfInBounds_toArray, List.set_cons_zero, List.set_cons_succ, List.getElem_toArray, List.getElem_cons_succ, List.getElem_cons_zero]
          refine wpAnyH_take (i := 7) (v := .agg #[.int .i64 vx, .int .i64 x6]) rfl (by kernel_rfl) (by kernel_rfl) (by kernel_rfl) (fun _ _ _ h => h) (Or.inl ⟨by rfl, fun w hSw => by go_simp⟩) hS6 ?_
          try simp only [Act.put, List.setIfInBounds_toArray, List.set_cons_zero, List.set_cons_succ, List.getElem_toArray, List.getElem_cons_succ, List.getElem_cons_zero]
          refine wpAnyH_ready (rs := [8]) (by kernel_rfl) (by simp) ?_
          refine AllReadyH.cons rfl (fun K hK => ?_) AllReadyH.nil
          go_simp
          have hS8 : VRow (w6.alloc (Obj.cells #[.int .i64 vx, .int .i64 x6] 33)) b (w1.heap.size + 1) vals9 := hS6.alloc _
          refine hK.out _ _ hS8 (fun _ => ?_)
          clear hK K
          try simp only [Act.put, List.setIfInBounds_toArray, List.set_cons_zero, List.set_cons_succ, List.getElem_toArray, List.getElem_cons_succ, List.getElem_cons_zero]
          refine wpAnyH_ready (rs := [9]) (by kernel_rfl) (by simp) ?_
          refine AllReadyH.cons rfl (fun K hK => ?_) AllReadyH.nil
          refine step_append_lies _ rfl _ _ 23 rfl (b + 1) 33 i0 (.agg #[.int .i64 0, .int .i64 0]) 2 16 Try.underlying23 hi hi0 hi1 hi2 rfl (by decide) _ _ _ rfl (H6.out.alloc _).1 ⟨w6.heap.size, 0, none⟩ 1 1 [.int .i64 vx, .int .i64 x6] rfl rfl (World.news_of_block (heapNew w6 _)) (one2 _ _) (by omega) (by unfold maxLen; omega) (by omega) (H6.out.alloc _).2.1 _ rfl ?_
          intro g1 cp1 w9 hown1 hgrow1 hat1 hglt1
          have HF : Hid (CoSt w b a len cap (.slice (some ⟨g1, 0, none⟩) (rs.length + 1) cp1) (rs ++ [⟨vx, x6⟩]) a6 s6 w9) := (H6.out.alloc _).push (r := ⟨vx, x6⟩) hown1 hgrow1
          have hS9 : VRow w9 b (w1.heap.size + 1) vals9 := hS8.grown (H6.out.alloc _).1 hgrow1
          clear hown1 hgrow1 hat1 hglt1
          refine hK.out _ _ hS9 (fun _ => ?_)
          clear hK K
          try simp only [Act.put, List.setIfInBounds_toArray, List.set_cons_zero, List.set_cons_succ, List.getElem_toArray, List.getElem_cons_succ, List.getElem_cons_zero]
          refine wpAnyH_take (i := 10) (v := .slice (some ⟨g1, 0, none⟩) (rs.length + 1) cp1) rfl (by kernel_rfl) (by kernel_rfl) (by kernel_rfl) (fun _ _ _ h => h) (Or.inl ⟨by rfl, fun w hSw => by go_simp⟩) hS9 ?_
          try simp only [Act.put, List.setIfInBounds_toArray, List.set_cons_zero, List.set_cons_succ, List.getElem_toArray, List.getElem_cons_succ, List.getElem_cons_zero]
          refine wpAnyH_done (by kernel_rfl) ?_ _
          try simp
          have HV9 : Hid (VRow w9 b (w1.heap.size + 1) vals9) := hS9
          clear hS8 hS9 hS6 H6
          go_wp2
          exact ⟨⟨rs ++ [⟨vx, x6⟩], k + 1, g1, cp1, a6, s6, by omega, by simp, by go_num, HE.out x6 hx60 hx65, by omega, HF.out, HV9.out⟩, by simp [intOf]; omega⟩
        · have HE : Hid (CoDr vals9 (k + 1) rs) := HD.out.skip rise9 HK.out
          go_wp2
          exact ⟨⟨rs, k + 1, g, cp, a4, s4, by omega, rfl, by go_num, HE.out, by omega, H4.out, V4.out⟩, by simp [intOf]; omega⟩
      · obtain rfl : k = 9 := by omega
        go_wp2
        go_ret
        obtain ⟨d1, d2, d3, d4, d5⟩ := HD.out
        exact ⟨rs, g, cp, at', sd, rfl, d1, Nat.le_trans d2 (by omega), d3, Int.le_trans d5 (by decide), by omega, HS.out⟩
  · have H3 : Hid (CoSt w b a len cap (.slice (some ⟨w1.heap.size, 0, none⟩) 0 0) [] a2 s2 (w2.alloc (Obj.cells (vals6.map (Value.int .i64)).toArray 3))) := H2.out.alloc _
    have V3 : Hid (VRow (w2.alloc (Obj.cells (vals6.map (Value.int .i64)).toArray 3)) b w2.heap.size vals6) := ⟨by have := H2.out.2.1; omega, heapNew _ _⟩
    clear H2 V2
    simp only [vals6, List.map_cons, List.map_nil] at H3 V3
    go_wp2
    go_loopw [3, 5] (fun v x wr => ∃ (rs : List RCo) (k g cp : Nat) (at' sd : Int), k ≤ 6 ∧ v = .slice (some ⟨g, 0, none⟩) rs.length cp ∧ x = .int .i64 (k : Int) ∧ CoDr vals6 k rs ∧ at' ≤ 10 + 6 * (k : Int) ∧ CoSt w b a len cap v rs at' sd wr ∧ VRow wr b w2.heap.size vals6) (fun _ x _ => 6 - (intOf x).toNat)
    case atStart => exact ⟨[], 0, w1.heap.size, 0, a2, s2, by omega, rfl, rfl, CoDr.none rise6, by omega, H3.out, V3.out⟩
    case round =>
      obtain ⟨rs, k, g, cp, at', sd, hk, rfl, rfl, hdr, hat, hst, hvr⟩ := hrel
      have HS : Hid (CoSt w b a len cap (.slice (some ⟨g, 0, none⟩) rs.length cp) rs at' sd wr) := hst
      have HV : Hid (VRow wr b w2.heap.size vals6) := hvr
      have HD : Hid (CoDr vals6 k rs) := hdr
      clear hst hvr hdr H3 V3
      by_cases hlt : k < 6
      · have HK : Hid (k < vals6.length) := hlt
        have hln : rs.length ≤ 9 := by have := HD.out.2.1; omega
        go_wp2_with fail
        (first | go_at_call 22 | skip)
        refine (HCh.out _ 3 at' sd HS.out.2.2.2 HS.out.2.2.1 (by omega) (by omega) (by omega)).mono ?_
        rintro e w4 ⟨yb, a4, s4, rfl, ha4, hb4, hs4, hb4', hf4⟩
        have H4 : Hid (CoSt w b a len cap (.slice (some ⟨g, 0, none⟩) rs.length cp) rs a4 s4 w4) := HS.out.draw hf4 hb4' hs4
        have V4 : Hid (VRow w4 b w2.heap.size vals6) := HV.out.draw hf4
        clear hs4 hb4' hf4 HS HV
        cases yb
        · obtain ⟨vx, hx⟩ : ∃ vx, (vals6).getD k 0 = vx := ⟨_, rfl⟩
          have HC : Hid (∀ W, VRow W b w2.heap.size vals6 → W.cell? ⟨w2.heap.size, k, none⟩ = some (.int .i64 vx)) := fun W hW => by rw [← hx]; exact hW.cell k HK.out
          have HE : Hid (∀ x6, 0 ≤ x6 → x6 ≤ 5 → CoDr vals6 (k + 1) (rs ++ [⟨vx, x6⟩])) := fun x6 h0 h5 => by rw [← hx]; exact HD.out.push rise6 HK.out x6 h0 h5
          clear hx
          have H4d : Hid (CoSt w b a len cap (.slice (some ⟨g, 0, none⟩) rs.length cp) rs a4 s4 w4.drew) := H4.out.drew
          go_wp2
          refine wp_region_held_drew (S := fun W => VRow W b w2.heap.size vals6) (by kernel_rfl) V4.out (fun hH => ?_)
          refine wpAnyH_take (i := 0) (v := .slice (some ⟨g, 0, none⟩) rs.length cp) rfl (by kernel_rfl) (by kernel_rfl) (by kernel_rfl) (fun _ _ _ h => h) (Or.inl ⟨by rfl, fun w hSw => by go_simp⟩) hH ?_
          refine wpAnyH_take (i := 1) (v := .slice (some ⟨w2.heap.size, 0, none⟩) 6 6) rfl (by kernel_rfl) (by kernel_rfl) (by kernel_rfl) (fun _ _ _ h => h) (Or.inl ⟨by rfl, fun w hSw => by go_simp⟩) hH ?_
          try simp only [Act.put, List.setIfInBounds_toArray, List.set_cons_zero, List.set_cons_succ, List.getElem_toArray, List.getElem_cons_succ, List.getElem_cons_zero]
          refine wpAnyH_take (i := 2) (v := .int .i64 (k : Int)) rfl (by kernel_rfl) (by kernel_rfl) (by kernel_rfl) (fun _ _ _ h => h) (Or.inl ⟨by rfl, fun w hSw => by go_simp⟩) hH ?_
          try simp only [Act.put, List.setIfInBounds_toArray, List.set_cons_zero, List.set_cons_succ, List.getElem_toArray, List.getElem_cons_succ, List.getElem_cons_zero]
          refine wpAnyH_take (i := 3) (v := .pointer (some ⟨w2.heap.size, k, none⟩)) rfl (by kernel_rfl) (by kernel_rfl) (by kernel_rfl) (fun _ _ _ h => h) (Or.inl ⟨by rfl, fun w hSw => by go_simp⟩) hH ?_
          try simp only [Act.put, List.setIfInBounds_toArray, List.set_cons_zero, List.set_cons_succ, List.getElem_toArray, List.getElem_cons_succ, List.getElem_cons_zero]
          refine wpAnyH_take (i := 4) (v := .int .i64 vx) rfl (by kernel_rfl) (by kernel_rfl) (by kernel_rfl) (fun _ _ _ h => h) (Or.inl ⟨by rfl, fun w hSw => by have q := HC.out w hSw; go_simp⟩) hH ?_
          try simp only [Act.put, List.setIfInBounds_toArray, List.set_cons_zero, List.set_cons_succ, List.getElem_toArray, List.getElem_cons_succ, List.getElem_cons_zero]
          refine wpAnyH_take (i := 5) (v := .pointer (some ⟨b, 0, none⟩)) rfl (by kernel_rfl) (by kernel_rfl) (by kernel_rfl) (fun _ _ _ h => h) (Or.inl ⟨by rfl, fun w hSw => by go_simp⟩) hH ?_
          try simp only [Act.put, List.setIfInBounds_toArray, List.set_cons_zero, List.set_cons_succ, List.getElem_toArray, List.getElem_cons_succ, List.getElem_cons_zero]
          refine wpAnyH_ready (rs := [6]) (by kernel_rfl) (by simp) ?_
          refine AllReadyH.cons rfl (fun K hK => ?_) AllReadyH.nil
          go_simp
          go_at_call 14
          refine (HNx.out _ 6 a4 s4 H4d.out.2.2.2 H4d.out.2.2.1 (by omega) (by omega)).mono ?_
          rintro e w6 ⟨x6, a6, s6, rfl, ⟨hx60, hx61⟩, ha6, hb6, hs6, hb6', hf6⟩
          have hx65 : x6 ≤ 5 := by omega
          have H6 : Hid (CoSt w b a len cap (.slice (some ⟨g, 0, none⟩) rs.length cp) rs a6 s6 w6) := H4d.out.draw hf6 hb6' hs6
          have hS6 : VRow w6 b w2.heap.size vals6 := hH.draw hf6
          clear hs6 hb6' hf6 H4 H4d V4
          refine hK.out _ _ hS6 (fun _ => ?_)
          clear hK K
          try simp only [Act.put, List.setIfInBounds_toArray, List.set_cons_zero, List.set_cons_succ, List.getElem_toArray, List.getElem_cons_succ, List.getElem_cons_zero]
          refine wpAnyH_take (i := 7) (v := .agg #[.int .i64 vx, .int .i64 x6]) rfl (by kernel_rfl) (by kernel_rfl) (by kernel_rfl) (fun _ _ _ h => h) (Or.inl ⟨by rfl, fun w hSw => by go_simp⟩) hS6 ?_
          try simp only [Act.put, List.setIfInBounds_toArray, List.set_cons_zero, List.set_cons_succ, List.getElem_toArray, List.getElem_cons_succ, List.getElem_cons_zero]
          refine wpAnyH_ready (rs := [8]) (by kernel_rfl) (by simp) ?_
          refine AllReadyH.cons rfl (fun K hK => ?_) AllReadyH.nil
          go_simp
          have hS8 : VRow (w6.alloc (Obj.cells #[.int .i64 vx, .int .i64 x6] 33)) b w2.heap.size vals6 := hS6.alloc _
          refine hK.out _ _ hS8 (fun _ => ?_)
          clear hK K
          try simp only [Act.put, List.setIfInBounds_toArray, List.set_cons_zero, List.set_cons_succ, List.getElem_toArray, List.getElem_cons_succ, List.getElem_cons_zero]
          refine wpAnyH_ready (rs := [9]) (by kernel_rfl) (by simp) ?_
          refine AllReadyH.cons rfl (fun K hK => ?_) AllReadyH.nil
          refine step_append_lies _ rfl _ _ 23 rfl (b + 1) 33 i0 (.agg #[.int .i64 0, .int .i64 0]) 2 16 Try.underlying23 hi hi0 hi1 hi2 rfl (by decide) _ _ _ rfl (H6.out.alloc _).1 ⟨w6.heap.size, 0, none⟩ 1 1 [.int .i64 vx, .int .i64 x6] rfl rfl (World.news_of_block (heapNew w6 _)) (one2 _ _) (by omega) (by unfold maxLen; omega) (by omega) (H6.out.alloc _).2.1 _ rfl ?_
          intro g1 cp1 w9 hown1 hgrow1 hat1 hglt1
          have HF : Hid (CoSt w b a len cap (.slice (some ⟨g1, 0, none⟩) (rs.length + 1) cp1) (rs ++ [⟨vx, x6⟩]) a6 s6 w9) := (H6.out.alloc _).push (r := ⟨vx, x6⟩) hown1 hgrow1
          have hS9 : VRow w9 b w2.heap.size vals6 := hS8.grown (H6.out.alloc _).1 hgrow1
          clear hown1 hgrow1 hat1 hglt1
          refine hK.out _ _ hS9 (fun _ => ?_)
          clear hK K
          try simp only [Act.put, List.setIfInBounds_toArray, List.set_cons_zero, List.set_cons_succ, List.getElem_toArray, List.getElem_cons_succ, List.getElem_cons_zero]
          refine wpAnyH_take (i := 10) (v := .slice (some ⟨g1, 0, none⟩) (rs.length + 1) cp1) rfl (by kernel_rfl) (by kernel_rfl) (by kernel_rfl) (fun _ _ _ h => h) (Or.inl ⟨by rfl, fun w hSw => by go_simp⟩) hS9 ?_
          try simp only [Act.put, List.setIfInBounds_toArray, List.set_cons_zero, List.set_cons_succ, List.getElem_toArray, List.getElem_cons_succ, List.getElem_cons_zero]
          refine wpAnyH_done (by kernel_rfl) ?_ _
          try simp
          have HV9 : Hid (VRow w9 b w2.heap.size vals6) := hS9
          clear hS8 hS9 hS6 H6
          go_wp2
          exact ⟨⟨rs ++ [⟨vx, x6⟩], k + 1, g1, cp1, a6, s6, by omega, by simp, by go_num, HE.out x6 hx60 hx65, by omega, HF.out, HV9.out⟩, by simp [intOf]; omega⟩
        · have HE : Hid (CoDr vals6 (k + 1) rs) := HD.out.skip rise6 HK.out
          go_wp2
          exact ⟨⟨rs, k + 1, g, cp, a4, s4, by omega, rfl, by go_num, HE.out, by omega, H4.out, V4.out⟩, by simp [intOf]; omega⟩
      · obtain rfl : k = 6 := by omega
        go_wp2
        go_ret
        obtain ⟨d1, d2, d3, d4, d5⟩ := HD.out
        exact ⟨rs, g, cp, at', sd, rfl, d1, Nat.le_trans d2 (by omega), d3, Int.le_trans d5 (by decide), by omega, HS.out⟩
end Go.Proofs.Ytngnmlifbjpkoaa

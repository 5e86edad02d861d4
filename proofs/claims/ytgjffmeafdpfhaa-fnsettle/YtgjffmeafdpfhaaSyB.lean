/-
  The specification's SettledOf: of every list of bytes it draws two short right lists.
-/
import Derived.Test.YtgjffmeafdpfhaaSrcApt
import Derived.Test.YtgjffmeafdpfhaaSrcSize
import Derived.Test.YtgjffmeafdpfhaaDrawTax1
import Derived.Test.YtgjffmeafdpfhaaSxB
import Derived.Deep.AppendLies
import Derived.Laws.OwnMore
namespace Go.Proofs.Ytgjffmeafdpfhaa
open Go.ChangeShapes Go.WideShapes Go.ChangeAt Go.RowKit Go.Deep
set_option linter.unusedVariables false

theorem chance_se (B b : Nat) (a : Option Addr) (len cap : Nat) (zs : List Int) (n at' seed : Int) (w : World) (hB : B ≤ b) (hs : Src w b a len cap at' seed) (hr : RowB B w a len zs) (a1 : at' ≤ 1000000) (hn : 1 ≤ n) (hn' : n ≤ 256) :
    Calls Try.prog 19 #[.pointer (some ⟨b, 0, none⟩), .int .i64 n] w fun e w' => ∃ (x : Bool) (at2 s' : Int), e = .returned (.bool x) ∧ at' ≤ at2 ∧ at2 ≤ at' + 3 ∧ Src w' b a len cap at2 s' ∧ Below B w w' ∧ Apt b w w' := by
  have hnx := next_anyA B b a len cap zs n at' seed w hB hs hr (by omega) hn'
  go_enter Try.func19, Try.ntmps19
  go_wp2_with (go_at_call 16; refine hnx.mono ?_; rintro e w1 ⟨x, a2, s2, rfl, hx, h1, h2, h3, h4, h5⟩)
  go_ret
  exact ⟨_, a2, s2, rfl, h1, h2, h3, h4, h5⟩
/-- The cells of some entries. -/
def seCells (rs : List RSe) : List Value := rs.flatMap fun r => [.string r.id, .int .i64 r.am]
theorem seCells_append (a b : List RSe) : seCells (a ++ b) = seCells a ++ seCells b := by simp [seCells]
theorem seCells_get : ∀ (rs : List RSe) (i : Nat), i < rs.length → (seCells rs)[i * 2]? = some (.string (rs.getD i zSe).id) ∧ (seCells rs)[i * 2 + 1]? = some (.int .i64 (rs.getD i zSe).am)
  | r :: rs, 0, h => ⟨rfl, rfl⟩
  | r :: rs, i + 1, h => by
    have := seCells_get rs i (by simpa using h)
    rw [show (i + 1) * 2 = i * 2 + 1 + 1 by omega]
    exact this
theorem ses_of_row {w : World} {B g cap : Nat} {rs : List RSe} (h : w.ownsRow B 33 2 (.slice (some ⟨g, 0, none⟩) rs.length cap) rs.length (seCells rs)) : SesAt w g 0 rs := fun i hi => by
  obtain ⟨q0, q1⟩ := seCells_get rs i hi
  refine ⟨?_, ?_⟩
  · rw [h.cellAt (0 + i * 2) (by omega), show 0 + i * 2 = i * 2 by omega, q0]
  · rw [h.cellAt (0 + i * 2 + 1) (by omega), show 0 + i * 2 + 1 = i * 2 + 1 by omega, q1]
theorem src_sameS {w w' : World} {b : Nat} {a : Option Addr} {len cap : Nat} {x s : Int} (h : Src w b a len cap x s) (e : w'.heap[b]? = w.heap[b]?) (hz : w.heap.size ≤ w'.heap.size) : Src w' b a len cap x s := by
  obtain ⟨s0, s1, s2, f1, f2, sb, r⟩ := h
  exact ⟨(World.cell?_of_block (w := w) (a := ⟨b, 0, none⟩) e).trans s0, (World.cell?_of_block (w := w) (a := ⟨b, 1, none⟩) e).trans s1, (World.cell?_of_block (w := w) (a := ⟨b, 2, none⟩) e).trans s2, (World.frozen?_of_block (w := w) (a := ⟨b, 1, none⟩) e).trans f1, (World.frozen?_of_block (w := w) (a := ⟨b, 2, none⟩) e).trans f2, Nat.lt_of_lt_of_le sb hz, r⟩
/-- The source in block b, two lists drawn so far, each in a row of its own. -/
def SeSt (w : World) (b : Nat) (a : Option Addr) (len cap : Nat) (va vb : Value) (M K : List RSe) (at' sd : Int) (wr : World) : Prop :=
  wr.ownsRow (b + 1) 33 2 va M.length (seCells M) ∧ wr.ownsRow (b + 1) 33 2 vb K.length (seCells K) ∧ FarV va vb ∧ b + 1 ≤ wr.heap.size ∧ Src wr b a len cap at' sd ∧ Below b w wr
theorem SeSt.draw {w : World} {b : Nat} {a : Option Addr} {len cap : Nat} {va vb : Value} {M K : List RSe} {at' sd at2 sd2 : Int} {wr w' : World} (h : SeSt w b a len cap va vb M K at' sd wr) (ha : Apt b wr w') (hb : Below b wr w') (hs : Src w' b a len cap at2 sd2) : SeSt w b a len cap va vb M K at2 sd2 w' := by
  obtain ⟨h1, h1', h0, h2, h3, h4⟩ := h
  exact ⟨row_of h1 (fun k hk => ha k (by have := (h1.lt k hk).1; omega)), row_of h1' (fun k hk => ha k (by have := (h1'.lt k hk).1; omega)), h0, Nat.le_trans h2 hb.size, hs, h4.trans hb⟩
theorem SeSt.alloc {w : World} {b : Nat} {a : Option Addr} {len cap : Nat} {va vb : Value} {M K : List RSe} {at' sd : Int} {wr : World} (h : SeSt w b a len cap va vb M K at' sd wr) (o : Obj) : SeSt w b a len cap va vb M K at' sd (wr.alloc o) := by
  obtain ⟨h1, h1', h0, h2, h3, h4⟩ := h
  exact ⟨h1.alloc _, h1'.alloc _, h0, by simp; omega, src_sameS h3 (Below.heap_alloc _ _ _ h3.2.2.2.2.2.1) (by simp), h4.alloc (by omega) _⟩
theorem SeSt.pushA {w : World} {b : Nat} {a : Option Addr} {len cap : Nat} {va vb : Value} {M K : List RSe} {at' sd : Int} {wr w' : World} {g cp : Nat} {r : RSe} (h : SeSt w b a len cap va vb M K at' sd wr)
    (ho : w'.ownsRow (b + 1) 33 2 (.slice (some ⟨g, 0, none⟩) (M.length + 1) cp) (M.length + 1) (seCells M ++ [.string r.id, .int .i64 r.am])) (hg : wr.grownBy w' va.ownBlock) (hat : va.ownBlock = some g ∨ g = wr.heap.size) : SeSt w b a len cap (.slice (some ⟨g, 0, none⟩) (M.length + 1) cp) vb (M ++ [r]) K at' sd w' := by
  obtain ⟨q1, q1', q0, q2, q3, q4⟩ := h
  have hf := fr_grown hg
  refine ⟨?_, row_of q1' (fun k hk => hf.block k (q1'.lt k hk).2 (fun e => q0 k e hk)), fun k hk e => ?_, Nat.le_trans q2 hg.size, src_sameS q3 (hg.block b q3.2.2.2.2.2.1 (fun e => by have := (q1.lt b e.symm).1; omega)) hg.size, q4.grown hg (by omega) (fun k hk => by have := (q1.lt k hk).1; omega)⟩
  · rw [List.length_append, seCells_append]; exact ho
  · have hk2 : g = k := by simpa [Value.ownBlock] using hk
    subst hk2
    rcases hat with h | h
    · exact q0 g h e
    · have := (q1'.lt g e).2; omega
theorem SeSt.pushB {w : World} {b : Nat} {a : Option Addr} {len cap : Nat} {va vb : Value} {M K : List RSe} {at' sd : Int} {wr w' : World} {g cp : Nat} {r : RSe} (h : SeSt w b a len cap va vb M K at' sd wr)
    (ho : w'.ownsRow (b + 1) 33 2 (.slice (some ⟨g, 0, none⟩) (K.length + 1) cp) (K.length + 1) (seCells K ++ [.string r.id, .int .i64 r.am])) (hg : wr.grownBy w' vb.ownBlock) (hat : vb.ownBlock = some g ∨ g = wr.heap.size) : SeSt w b a len cap va (.slice (some ⟨g, 0, none⟩) (K.length + 1) cp) M (K ++ [r]) at' sd w' := by
  obtain ⟨q1, q1', q0, q2, q3, q4⟩ := h
  have hf := fr_grown hg
  refine ⟨row_of q1 (fun k hk => hf.block k (q1.lt k hk).2 (fun e => q0 k hk e)), ?_, fun k hk e => ?_, Nat.le_trans q2 hg.size, src_sameS q3 (hg.block b q3.2.2.2.2.2.1 (fun e => by have := (q1'.lt b e.symm).1; omega)) hg.size, q4.grown hg (by omega) (fun k hk => by have := (q1'.lt k hk).1; omega)⟩
  · rw [List.length_append, seCells_append]; exact ho
  · have hk2 : g = k := by simpa [Value.ownBlock] using e
    subst hk2
    rcases hat with h | h
    · exact q0 g hk h
    · have := (q1.lt g hk).2; omega
theorem SeSt.start {w0 w : World} {b : Nat} {a : Option Addr} {len cap : Nat} {at' sd : Int} (hs : Src w b a len cap at' sd) (hb : Below b w0 w) (W : World) (hW : W = (w.alloc (Obj.cells #[] 33)).alloc (Obj.cells #[] 33)) : SeSt w0 b a len cap (.slice (some ⟨w.heap.size, 0, none⟩) 0 0) (.slice (some ⟨w.heap.size + 1, 0, none⟩) 0 0) [] [] at' sd W := by
  have hl := hs.2.2.2.2.2.1
  have q1 := below_alloc w (Obj.cells #[] 33)
  have q2 := heapNew w (Obj.cells #[] 33)
  have q3 : (w.alloc (Obj.cells #[] 33)).heap.size = w.heap.size + 1 := by simp
  generalize w.alloc (Obj.cells #[] 33) = w1 at *
  have q4 := below_alloc w1 (Obj.cells #[] 33)
  have q5 := heapNew w1 (Obj.cells #[] 33)
  rw [← hW] at q4 q5
  rw [q3] at q5
  have q6 := chain q1 q4
  refine ⟨⟨rfl, .inr ⟨w.heap.size, 0, #[], rfl, hl, (q4.block _ (by omega)).trans q2, Nat.le_refl _, by unfold maxLen; omega, rfl, rfl⟩⟩, ⟨rfl, .inr ⟨w.heap.size + 1, 0, #[], rfl, by omega, q5, Nat.le_refl _, by unfold maxLen; omega, rfl, rfl⟩⟩, fun k hk e => ?_, by have := q6.size; omega, src_sameS hs (q6.block b hl) q6.size, hb.trans (q6.mono (Nat.le_of_lt hl))⟩
  have h1 : w.heap.size = k := by simpa [Value.ownBlock] using hk
  have h2 : w.heap.size + 1 = k := by simpa [Value.ownBlock] using e
  omega
theorem seInf : (Try.prog.info? 33).map (fun i => (i.zero, i.size, i.bytes)) = some (some (.agg #[.string ⟨#[]⟩, .int .i64 0]), 2, 24) := by kernel_rfl
theorem one2 (q : ByteArray) (x1 : Int) : ∀ u ∈ [Value.string q, .int .i64 x1], u.oneCell' = true := by
  intro u hu
  simp at hu
  rcases hu with rfl | rfl <;> rfl
def abc : List ByteArray := [⟨#[97]⟩, ⟨#[98]⟩, ⟨#[99]⟩]
theorem abc_ok (j : Nat) (hj : j < 3) : nameB (abc.getD j ⟨#[]⟩) = true ∧ (abc.getD j ⟨#[]⟩).size ≤ 2000000 := by
  rcases (by omega : j = 0 ∨ j = 1 ∨ j = 2) with rfl | rfl | rfl
  · exact ⟨by decide +kernel, by decide +kernel⟩
  · exact ⟨by decide +kernel, by decide +kernel⟩
  · exact ⟨by decide +kernel, by decide +kernel⟩
def DrSe (r : RSe) : Prop := seOne r = true ∧ SeOK r
theorem drSe_of (q : ByteArray) (hq : nameB q = true ∧ q.size ≤ 2000000) (am : Int) (h0 : 0 ≤ am) (h1 : am ≤ 15) : DrSe ⟨q, am⟩ := by
  refine ⟨?_, hq.2⟩
  unfold seOne
  dsimp only
  rw [hq.1, Bool.true_and]
  exact decide_eq_true (by omega)
theorem dr_push {rs : List RSe} {r : RSe} (h : ∀ x ∈ rs, DrSe x) (hr : DrSe r) : ∀ x ∈ rs ++ [r], DrSe x := fun x hx => by
  rcases List.mem_append.1 hx with h' | h'
  · exact h x h'
  · simp at h'; rw [h']; exact hr
/-- What SettledOf answers. -/
def SePost (w : World) (e : Ending) (w' : World) : Prop := ∃ (M K : List RSe) (g cp h ch : Nat), e = .returned (.tuple #[.slice (some ⟨g, 0, none⟩) M.length cp, .slice (some ⟨h, 0, none⟩) K.length ch]) ∧ M.length ≤ 10 ∧ K.length ≤ 10 ∧ (∀ r ∈ M, DrSe r) ∧ (∀ r ∈ K, DrSe r) ∧ SesAt w' g 0 M ∧ g < w'.heap.size ∧ SesAt w' h 0 K ∧ h < w'.heap.size ∧ Below w.heap.size w w'
set_option maxHeartbeats 8000000 in
set_option maxRecDepth 4000 in
theorem settledOf_any (a : Option Addr) (len cap : Nat) (zs : List Int) (w : World) (hr : RowB w.heap.size w a len zs) :
    Calls Try.prog 5 #[.slice a len cap] w (SePost w) := by
  have hsrc := source_any a len cap w hr.1
  obtain ⟨b, hb⟩ : ∃ b, b = w.heap.size := ⟨_, rfl⟩
  have hrl := hr.1
  rw [← hb] at hsrc hr
  have HNx : Hid (∀ W (n at' sd : Int), Below b w W → Src W b a len cap at' sd → at' ≤ 1000 → n ≤ 256 → Calls Try.prog 16 #[.pointer (some ⟨b, 0, none⟩), .int .i64 n] W fun e w' => ∃ x at2 s' : Int, e = .returned (.int .i64 x) ∧ Drawn x n ∧ at' ≤ at2 ∧ at2 ≤ at' + 3 ∧ Src w' b a len cap at2 s' ∧ Below b W w' ∧ Apt b W w') := fun W n at' sd hW hs h1 h2 => next_anyA b b a len cap zs n at' sd W (Nat.le_refl _) hs (hr.below hW) (by omega) (by omega)
  have HCh : Hid (∀ W (at' sd : Int), Below b w W → Src W b a len cap at' sd → at' ≤ 1000 → Calls Try.prog 19 #[.pointer (some ⟨b, 0, none⟩), .int .i64 4] W fun e w' => ∃ (x : Bool) (at2 s' : Int), e = .returned (.bool x) ∧ at' ≤ at2 ∧ at2 ≤ at' + 3 ∧ Src w' b a len cap at2 s' ∧ Below b W w' ∧ Apt b W w') := fun W at' sd hW hs h1 => chance_se b b a len cap zs 4 at' sd W (Nat.le_refl _) hs (hr.below hW) (by omega) (by omega) (by omega)
  have HPk : Hid (∀ W bl (at' sd : Int), Below b w W → Src W b a len cap at' sd → at' ≤ 1000 → bl ≠ b → (∀ j, j < 3 → W.cell? ⟨bl, j, none⟩ = some (.string (abc.getD j ⟨#[]⟩))) → Calls Try.prog 18 #[.pointer (some ⟨b, 0, none⟩), .slice (some ⟨bl, 0, none⟩) 3 3] W fun e w' => ∃ (j : Nat) (at2 s' : Int), j < 3 ∧ e = .returned (.string (abc.getD j ⟨#[]⟩)) ∧ at' ≤ at2 ∧ at2 ≤ at' + 3 ∧ Src w' b a len cap at2 s' ∧ Below b W w' ∧ Apt b W w') := fun W bl at' sd hW hs h1 h2 h3 => pick_any b b bl a len cap zs at' sd abc W (Nat.le_refl _) hs (hr.below hW) (by omega) (by decide) (by decide) h2 h3 3
  have HSz : Hid (∀ W (at' sd : Int), Src W b a len cap at' sd → Calls Try.prog 17 #[.pointer (some ⟨b, 0, none⟩), .int .i64 9] W fun e w' => (∃ x : Int, e = .returned (.int .i64 x) ∧ 1 ≤ x ∧ x ≤ 9) ∧ w' = W) := fun W at' sd hs => size_src b a len cap 9 at' sd W hs hrl (by omega) (by omega)
  have HBw : Hid (b = w.heap.size) := hb
  obtain ⟨i0, hi, hzz⟩ := Option.map_eq_some_iff.1 seInf
  simp only [Prod.mk.injEq] at hzz
  obtain ⟨hi0, hi1, hi2⟩ := hzz
  clear hr hb hrl
  go_enter Try.func5, Try.ntmps5
  go_wp2_with fail
  (first | go_at_call 15 | skip)
  refine hsrc.mono ?_
  rintro e w1 ⟨s1, rfl, hs1, hb1⟩
  obtain ⟨W1, hW1⟩ : ∃ W1, W1 = (w1.alloc (Obj.cells #[] 33)).alloc (Obj.cells #[] 33) := ⟨_, rfl⟩
  have HW1 : Hid (W1 = (w1.alloc (Obj.cells #[] 33)).alloc (Obj.cells #[] 33)) := hW1
  have H1 : Hid (SeSt w b a len cap (.slice (some ⟨w1.heap.size, 0, none⟩) 0 0) (.slice (some ⟨w1.heap.size + 1, 0, none⟩) 0 0) [] [] 0 s1 W1) := SeSt.start hs1 hb1 W1 hW1
  clear hs1 hb1 hsrc hW1
  go_wp2_with fail
  (first | go_at_call 17 | skip)
  rw [← HW1.out]
  refine (HSz.out W1 0 s1 H1.out.2.2.2.2.1).mono ?_
  rintro e w2' ⟨⟨z, rfl, hz1, hz2⟩, h⟩
  rw [h]
  clear h w2' HW1 HSz
  generalize w1.heap.size = g0 at *
  go_wp2_with fail
  (first | go_at_call 16 | skip)
  refine (HNx.out W1 (z + 1) 0 s1 H1.out.2.2.2.2.2 H1.out.2.2.2.2.1 (by omega) (by omega)).mono ?_
  rintro e w2 ⟨x0, a2, s2, rfl, ⟨hx0, hx1⟩, ha2, hb2, hs2, hb2', hf2⟩
  have H2 : Hid (SeSt w b a len cap (.slice (some ⟨g0, 0, none⟩) 0 0) (.slice (some ⟨g0 + 1, 0, none⟩) 0 0) [] [] a2 s2 w2) := H1.out.draw hf2 hb2' hs2
  have hx9 : x0 ≤ 9 := by omega
  clear hs2 hb2' hf2 H1
  go_wp2
  go_loopw [5, 6, 7, 8] (fun va vb x _ wr => ∃ (M K : List RSe) (i at' sd : Int) (g cp h ch : Nat), x = .int .i64 i ∧ va = .slice (some ⟨g, 0, none⟩) M.length cp ∧ vb = .slice (some ⟨h, 0, none⟩) K.length ch ∧ 0 ≤ i ∧ (M.length : Int) + i ≤ 9 ∧ (K.length : Int) + i ≤ 9 ∧ at' ≤ 300 - 20 * i ∧ (∀ r ∈ M, DrSe r) ∧ (∀ r ∈ K, DrSe r) ∧ SeSt w b a len cap va vb M K at' sd wr) (fun _ _ x _ _ => (intOf x).toNat)
  case atStart => exact ⟨[], [], x0, a2, s2, g0, 0, g0 + 1, 0, rfl, rfl, rfl, hx0, by simp; omega, by simp; omega, by omega, fun r hr => by simp at hr, fun r hr => by simp at hr, H2.out⟩
  case round =>
    clear H2
    obtain ⟨M, K, i, at', sd, g, cp, h, ch, rfl, rfl, rfl, hi9, hlM, hlK, hat, hM, hK, hst⟩ := hrel
    have HS : Hid (SeSt w b a len cap (.slice (some ⟨g, 0, none⟩) M.length cp) (.slice (some ⟨h, 0, none⟩) K.length ch) M K at' sd wr) := hst
    have HMd : Hid (∀ r ∈ M, DrSe r) := hM
    have HKd : Hid (∀ r ∈ K, DrSe r) := hK
    clear hst hM hK
    by_cases hpos : 0 < i
    · obtain ⟨W2, hW2⟩ : ∃ W2, W2 = wr.alloc (Obj.cells #[.string ⟨#[97]⟩, .string ⟨#[98]⟩, .string ⟨#[99]⟩] 9) := ⟨_, rfl⟩
      have HW2 : Hid (W2 = wr.alloc (Obj.cells #[.string ⟨#[97]⟩, .string ⟨#[98]⟩, .string ⟨#[99]⟩] 9)) := hW2
      have HS2 : Hid (SeSt w b a len cap (.slice (some ⟨g, 0, none⟩) M.length cp) (.slice (some ⟨h, 0, none⟩) K.length ch) M K at' sd W2) := by rw [hW2]; exact HS.out.alloc _
      have hbw : b ≠ wr.heap.size := by have := HS.out.2.2.2.1; omega
      have HPc : Hid (∀ j, j < 3 → W2.cell? ⟨wr.heap.size, j, none⟩ = some (.string (abc.getD j ⟨#[]⟩))) := fun j hj => by
        have hn : W2.heap[wr.heap.size]? = some (.cells #[.string ⟨#[97]⟩, .string ⟨#[98]⟩, .string ⟨#[99]⟩] 9 (0, 0)) := by rw [hW2]; exact heapNew _ _
        rcases (by omega : j = 0 ∨ j = 1 ∨ j = 2) with rfl | rfl | rfl
        · exact blkCell hn 0 _ rfl
        · exact blkCell hn 1 _ rfl
        · exact blkCell hn 2 _ rfl
      clear hW2
      go_wp2_with fail
      (first | go_at_call 18 | skip)
      rw [← HW2.out]
      refine (HPk.out W2 wr.heap.size at' sd HS2.out.2.2.2.2.2 HS2.out.2.2.2.2.1 (by omega) hbw.symm HPc.out).mono ?_
      rintro e w3 ⟨j, a3, s3, hj3, rfl, ha3, hb3, hs3, hb3', hf3⟩
      have H3 : Hid (SeSt w b a len cap (.slice (some ⟨g, 0, none⟩) M.length cp) (.slice (some ⟨h, 0, none⟩) K.length ch) M K a3 s3 w3) := HS2.out.draw hf3 hb3' hs3
      have hq := abc_ok j hj3
      generalize abc.getD j ⟨#[]⟩ = q at *
      clear hs3 hb3' hf3 HS HS2 HPc HW2
      go_wp2_with fail
      (first | go_at_call 16 | skip)
      refine (HNx.out w3 4 a3 s3 H3.out.2.2.2.2.2 H3.out.2.2.2.2.1 (by omega) (by omega)).mono ?_
      rintro e w4 ⟨x4, a4, s4, rfl, ⟨hx40, hx41⟩, ha4, hb4, hs4, hb4', hf4⟩
      have H4 : Hid (SeSt w b a len cap (.slice (some ⟨g, 0, none⟩) M.length cp) (.slice (some ⟨h, 0, none⟩) K.length ch) M K a4 s4 w4) := H3.out.draw hf4 hb4' hs4
      clear hs4 hb4' hf4 H3
      obtain ⟨am, ham⟩ : ∃ am, am = 5 * x4 := ⟨_, rfl⟩
      have HDr : Hid (DrSe ⟨q, am⟩) := drSe_of q hq am (by omega) (by omega)
      have hwm : wrap64 (5 * x4) = am := by unfold wrap64; omega
      have hwm' : IntKind.i64.wrap (5 * x4) = am := by rw [ham]; exact wrap_id _ (by omega) (by omega)
      clear hq ham
      obtain ⟨W5, hW5⟩ : ∃ W5, W5 = w4.alloc (Obj.cells #[.string q, .int .i64 am] 33) := ⟨_, rfl⟩
      have HW5 : Hid (W5 = w4.alloc (Obj.cells #[.string q, .int .i64 am] 33)) := hW5
      have H5 : Hid (SeSt w b a len cap (.slice (some ⟨g, 0, none⟩) M.length cp) (.slice (some ⟨h, 0, none⟩) K.length ch) M K a4 s4 W5) := by rw [hW5]; exact H4.out.alloc _
      have HT5 : Hid (W5.heap[w4.heap.size]? = some (.cells #[.string q, .int .i64 am] 33 (0, 0))) := by rw [hW5]; exact heapNew _ _
      have htbA : Value.ownBlock (.slice (some ⟨g, 0, none⟩) M.length cp) ≠ some w4.heap.size := fun e => by have := (row_lt H4.out.1 _ e).2; omega
      have htbB : Value.ownBlock (.slice (some ⟨h, 0, none⟩) K.length ch) ≠ some w4.heap.size := fun e => by have := (row_lt H4.out.2.1 _ e).2; omega
      have htb : w4.heap.size ≠ b := by have := H4.out.2.2.2.1; omega
      clear hW5 H4
      go_wp2_with fail
      (first | go_at_call 19 | skip)
      rw [← HW5.out]
      refine (HCh.out W5 a4 s4 H5.out.2.2.2.2.2 H5.out.2.2.2.2.1 (by omega)).mono ?_
      rintro e w6 ⟨x6, a6, s6, rfl, ha6, hb6, hs6, hb6', hf6⟩
      have H6 : Hid (SeSt w b a len cap (.slice (some ⟨g, 0, none⟩) M.length cp) (.slice (some ⟨h, 0, none⟩) K.length ch) M K a6 s6 w6) := H5.out.draw hf6 hb6' hs6
      have HTB : Hid (w6.heap[w4.heap.size]? = some (.cells #[.string q, .int .i64 am] 33 (0, 0))) := (hf6 w4.heap.size htb).trans HT5.out
      generalize w4.heap.size = tb at *
      clear hs6 hb6' hf6 H5 HT5 HW5
      have HtA : Hid (Value.ownBlock (.slice (some ⟨g, 0, none⟩) M.length cp) ≠ some tb) := htbA
      have HtB : Hid (Value.ownBlock (.slice (some ⟨h, 0, none⟩) K.length ch) ≠ some tb) := htbB
      clear htbA htbB
      have htl : tb < w6.heap.size := blkLt HTB.out
      cases x6
      · skip
        have m0 : w6.cell? ⟨tb, 0, none⟩ = some (.string q) := blkCell HTB.out 0 _ rfl
        have m1 : w6.cell? ⟨tb, 1, none⟩ = some (.int .i64 am) := blkCell HTB.out 1 _ rfl
        have htl_7 : tb < w6.heap.size := blkLt HTB.out
        go_wp2_with (at_builtin; refine wpList_append_lies _ rfl _ _ 23 rfl (b + 1) 33 i0 (.agg #[.string ⟨#[]⟩, .int .i64 0]) 2 24 Try.underlying23 hi hi0 hi1 hi2 rfl (by decide) _ _ _ rfl (H6.out.alloc _).1 ⟨w6.heap.size, 0, none⟩ 1 1 [.string q, .int .i64 am] rfl rfl (World.news_of_block (heapNew w6 (Obj.cells #[.string q, .int .i64 am] 33))) (one2 _ _) (by omega) (by unfold maxLen; omega) (by omega) (H6.out.alloc _).2.2.2.1 _ rfl ?_; intro g7 c7 w7 hown1 hgrow1 hat1 hglt1; have H70 := (H6.out.alloc _).pushA (r := ⟨q, am⟩) hown1 hgrow1 hat1; have H7 : Hid (SeSt w b a len cap (.slice (some ⟨g7, 0, none⟩) (M.length + 1) c7) (.slice (some ⟨h, 0, none⟩) K.length ch) (M ++ [⟨q, am⟩]) K a6 s6 w7) := H70; have HT70 : w7.heap[tb]? = some (.cells #[.string q, .int .i64 am] 33 (0, 0)) := (hgrow1.block tb (by simp; omega) (fun e => HtA.out e.symm)).trans ((Below.heap_alloc _ _ _ htl_7).trans HTB.out); have HT7 : Hid (w7.heap[tb]? = some (.cells #[.string q, .int .i64 am] 33 (0, 0))) := HT70; clear H70 HT70 hown1 hgrow1 hat1 hglt1 m0 m1)
        go_wp2_with fail
        (first | go_at_call 19 | skip)
        refine (HCh.out w7 a6 s6 H7.out.2.2.2.2.2 H7.out.2.2.2.2.1 (by omega)).mono ?_
        rintro e w8 ⟨x8, a8, s8, rfl, ha8, hb8, hs8, hb8', hf8⟩
        have H8 : Hid (SeSt w b a len cap (.slice (some ⟨g7, 0, none⟩) (M.length + 1) c7) (.slice (some ⟨h, 0, none⟩) K.length ch) (M ++ [⟨q, am⟩]) K a8 s8 w8) := H7.out.draw hf8 hb8' hs8
        have HT8 : Hid (w8.heap[tb]? = some (.cells #[.string q, .int .i64 am] 33 (0, 0))) := (hf8 tb htb).trans HT7.out
        clear hs8 hb8' hf8 H7 HT7
        cases x8
        · skip
          have m0 : w8.cell? ⟨tb, 0, none⟩ = some (.string q) := blkCell HT8.out 0 _ rfl
          have m1 : w8.cell? ⟨tb, 1, none⟩ = some (.int .i64 am) := blkCell HT8.out 1 _ rfl
          have htl_9 : tb < w8.heap.size := blkLt HT8.out
          go_wp2_with (at_builtin; refine wpList_append_lies _ rfl _ _ 23 rfl (b + 1) 33 i0 (.agg #[.string ⟨#[]⟩, .int .i64 0]) 2 24 Try.underlying23 hi hi0 hi1 hi2 rfl (by decide) _ _ _ rfl (H8.out.alloc _).2.1 ⟨w8.heap.size, 0, none⟩ 1 1 [.string q, .int .i64 am] rfl rfl (World.news_of_block (heapNew w8 (Obj.cells #[.string q, .int .i64 am] 33))) (one2 _ _) (by omega) (by unfold maxLen; omega) (by omega) (H8.out.alloc _).2.2.2.1 _ rfl ?_; intro g9 c9 w9 hown1 hgrow1 hat1 hglt1; have H90 := (H8.out.alloc _).pushB (r := ⟨q, am⟩) hown1 hgrow1 hat1; have H9 : Hid (SeSt w b a len cap (.slice (some ⟨g7, 0, none⟩) (M.length + 1) c7) (.slice (some ⟨g9, 0, none⟩) (K.length + 1) c9) (M ++ [⟨q, am⟩]) (K ++ [⟨q, am⟩]) a8 s8 w9) := H90; have HT90 : w9.heap[tb]? = some (.cells #[.string q, .int .i64 am] 33 (0, 0)) := (hgrow1.block tb (by simp; omega) (fun e => HtB.out e.symm)).trans ((Below.heap_alloc _ _ _ htl_9).trans HT8.out); have HT9 : Hid (w9.heap[tb]? = some (.cells #[.string q, .int .i64 am] 33 (0, 0))) := HT90; clear H90 HT90 hown1 hgrow1 hat1 hglt1 m0 m1)
          exact ⟨⟨M ++ [⟨q, am⟩], K ++ [⟨q, am⟩], i - 1, a8, s8, g7, c7, g9, c9, by go_num, by first | rfl | simp, by first | rfl | simp, by omega, by first | omega | (simp; omega), by first | omega | (simp; omega), by omega, dr_push HMd.out HDr.out, dr_push HKd.out HDr.out, H9.out⟩, by simp [intOf]; omega⟩
        · go_wp2
          exact ⟨⟨M ++ [⟨q, am⟩], K, i - 1, a8, s8, g7, c7, h, ch, by go_num, by first | rfl | simp, by first | rfl | simp, by omega, by first | omega | (simp; omega), by first | omega | (simp; omega), by omega, dr_push HMd.out HDr.out, HKd.out, H8.out⟩, by simp [intOf]; omega⟩
      · skip
        go_wp2_with fail
        (first | go_at_call 19 | skip)
        refine (HCh.out w6 a6 s6 H6.out.2.2.2.2.2 H6.out.2.2.2.2.1 (by omega)).mono ?_
        rintro e w8 ⟨x8, a8, s8, rfl, ha8, hb8, hs8, hb8', hf8⟩
        have H8 : Hid (SeSt w b a len cap (.slice (some ⟨g, 0, none⟩) M.length cp) (.slice (some ⟨h, 0, none⟩) K.length ch) (M) K a8 s8 w8) := H6.out.draw hf8 hb8' hs8
        have HT8 : Hid (w8.heap[tb]? = some (.cells #[.string q, .int .i64 am] 33 (0, 0))) := (hf8 tb htb).trans HTB.out
        clear hs8 hb8' hf8 H6 HTB
        cases x8
        · skip
          have m0 : w8.cell? ⟨tb, 0, none⟩ = some (.string q) := blkCell HT8.out 0 _ rfl
          have m1 : w8.cell? ⟨tb, 1, none⟩ = some (.int .i64 am) := blkCell HT8.out 1 _ rfl
          have htl_9 : tb < w8.heap.size := blkLt HT8.out
          go_wp2_with (at_builtin; refine wpList_append_lies _ rfl _ _ 23 rfl (b + 1) 33 i0 (.agg #[.string ⟨#[]⟩, .int .i64 0]) 2 24 Try.underlying23 hi hi0 hi1 hi2 rfl (by decide) _ _ _ rfl (H8.out.alloc _).2.1 ⟨w8.heap.size, 0, none⟩ 1 1 [.string q, .int .i64 am] rfl rfl (World.news_of_block (heapNew w8 (Obj.cells #[.string q, .int .i64 am] 33))) (one2 _ _) (by omega) (by unfold maxLen; omega) (by omega) (H8.out.alloc _).2.2.2.1 _ rfl ?_; intro g9 c9 w9 hown1 hgrow1 hat1 hglt1; have H90 := (H8.out.alloc _).pushB (r := ⟨q, am⟩) hown1 hgrow1 hat1; have H9 : Hid (SeSt w b a len cap (.slice (some ⟨g, 0, none⟩) M.length cp) (.slice (some ⟨g9, 0, none⟩) (K.length + 1) c9) (M) (K ++ [⟨q, am⟩]) a8 s8 w9) := H90; have HT90 : w9.heap[tb]? = some (.cells #[.string q, .int .i64 am] 33 (0, 0)) := (hgrow1.block tb (by simp; omega) (fun e => HtB.out e.symm)).trans ((Below.heap_alloc _ _ _ htl_9).trans HT8.out); have HT9 : Hid (w9.heap[tb]? = some (.cells #[.string q, .int .i64 am] 33 (0, 0))) := HT90; clear H90 HT90 hown1 hgrow1 hat1 hglt1 m0 m1)
          exact ⟨⟨M, K ++ [⟨q, am⟩], i - 1, a8, s8, g, cp, g9, c9, by go_num, by first | rfl | simp, by first | rfl | simp, by omega, by first | omega | (simp; omega), by first | omega | (simp; omega), by omega, HMd.out, dr_push HKd.out HDr.out, H9.out⟩, by simp [intOf]; omega⟩
        · go_wp2
          exact ⟨⟨M, K, i - 1, a8, s8, g, cp, h, ch, by go_num, by first | rfl | simp, by first | rfl | simp, by omega, by first | omega | (simp; omega), by first | omega | (simp; omega), by omega, HMd.out, HKd.out, H8.out⟩, by simp [intOf]; omega⟩
    · have hi00 : i = 0 := by omega
      subst hi00
      go_wp2
      go_ret2
      exact ⟨M, K, g, cp, h, ch, rfl, by omega, by omega, HMd.out, HKd.out, ses_of_row HS.out.1, (row_lt HS.out.1 g rfl).2, ses_of_row HS.out.2.1, (row_lt HS.out.2.1 h rfl).2, by have := HS.out.2.2.2.2.2; rw [HBw.out] at this; exact this⟩
end Go.Proofs.Ytgjffmeafdpfhaa

/-
  Texts of this claim laid together: DrawUn.
-/
import Derived.Test.YtkfmifbffgbiiaaM3
import Derived.Test.YtkfmifbffgbiiaaM4
import Derived.Test.YtkfmifbffgbiiaaM11
import Derived.Deep.AppendLies
import Derived.Laws.OwnMore
import Derived.Deep.RegionHeld3
/-
  The specification's drawn units: whatever the code, they are right.
-/
namespace Go.Proofs.Ytkfmifbffgbiiaa
open Go.ChangeShapes Go.WideShapes Go.ChangeAt Go.RowKit
set_option linter.unusedVariables false

theorem ownsRow_sameP {w w' : World} {B : Nat} {e : TypeId} {size : Nat} {v : Value} {n : Nat} {xs : List Value} (h : w.ownsRow B e size v n xs) (hs : ∀ k, v.ownBlock = some k → w'.heap[k]? = w.heap[k]?) : w'.ownsRow B e size v n xs := by
  obtain ⟨h1, h2⟩ := h
  refine ⟨h1, ?_⟩
  rcases h2 with h2 | ⟨g, cap, cur, e, hB, hg, r⟩
  · exact .inl h2
  · exact .inr ⟨g, cap, cur, e, hB, (hs g (by rw [e]; rfl)).trans hg, r⟩
theorem Src.grownP {w w' : World} {b : Nat} {a : Option Addr} {len cap : Nat} {x s : Int} {row : Option Nat} (h : Src w b a len cap x s) (hg : w.grownBy w' row) (hr : ∀ k, row = some k → k ≠ b) : Src w' b a len cap x s := by
  have hb := h.2.2.2.2.2.1
  have e : w'.heap[b]? = w.heap[b]? := hg.block b hb (fun e => hr b e.symm rfl)
  obtain ⟨h0, h1, h2, f1, f2, _, r⟩ := h
  exact ⟨(World.cell?_of_block (w := w) (a := ⟨b, 0, none⟩) e).trans h0, (World.cell?_of_block (w := w) (a := ⟨b, 1, none⟩) e).trans h1, (World.cell?_of_block (w := w) (a := ⟨b, 2, none⟩) e).trans h2, (World.frozen?_of_block (w := w) (a := ⟨b, 1, none⟩) e).trans f1, (World.frozen?_of_block (w := w) (a := ⟨b, 2, none⟩) e).trans f2, Nat.lt_of_lt_of_le hb hg.size, r⟩
theorem Src.laterP {w w' : World} {b : Nat} {a : Option Addr} {len cap : Nat} {x s : Int} (h : Src w b a len cap x s) (hB : Below w.heap.size w w') : Src w' b a len cap x s := by
  obtain ⟨h0, h1, h2, f1, f2, hb, r⟩ := h
  exact ⟨(hB.cell (p := ⟨b, 0, none⟩) hb).trans h0, (hB.cell (p := ⟨b, 1, none⟩) hb).trans h1, (hB.cell (p := ⟨b, 2, none⟩) hb).trans h2, (hB.frozen (p := ⟨b, 1, none⟩) hb).trans f1, (hB.frozen (p := ⟨b, 2, none⟩) hb).trans f2, Nat.lt_of_lt_of_le hb hB.size, r⟩

def unRow (r : RUn) : List Value := [.string r.art, .int .i64 r.pr]
def unCells : List RUn → List Value
  | [] => []
  | r :: rs => unRow r ++ unCells rs
theorem unCells_length : ∀ rs, (unCells rs).length = rs.length * 2
  | [] => rfl
  | r :: rs => by simp [unCells, unRow, unCells_length rs]; omega
theorem unCells_append : ∀ rs qs, unCells (rs ++ qs) = unCells rs ++ unCells qs
  | [], qs => rfl
  | r :: rs, qs => by simp [unCells, unCells_append rs qs]
theorem unCells_get : ∀ (rs : List RUn) (i j : Nat), i < rs.length → j < 2 → (unCells rs)[i * 2 + j]? = (unRow (rs.getD i zUn))[j]?
  | r :: rs, 0, j, h, hj => by
    rw [show 0 * 2 + j = j by omega, unCells, List.getElem?_append_left (by simp [unRow]; omega)]; rfl
  | r :: rs, i + 1, j, h, hj => by
    rw [unCells, List.getElem?_append_right (by simp [unRow]; omega), show (i + 1) * 2 + j - (unRow r).length = i * 2 + j by simp [unRow]; omega, unCells_get rs i j (by simpa using h) hj]
    rfl
theorem unAt_own {w : World} {base : Nat} {g cap n : Nat} {rs : List RUn} (h : w.ownsRow base 41 2 (.slice (some ⟨g, 0, none⟩) n cap) rs.length (unCells rs)) : UnsAt w g 0 rs := fun i hi => by
  have hn : n = rs.length := by
    rcases h.2 with ⟨e, _⟩ | ⟨_, _, _, e, _⟩
    · cases e
    · simp at e; exact e.2.1
  subst hn
  have q := fun j hj => unCells_get rs i j hi hj
  refine ⟨?_, ?_⟩
  · rw [h.cellAt (0 + i * 2) (by omega), show 0 + i * 2 = i * 2 + 0 by omega, q 0 (by omega)]; rfl
  · rw [h.cellAt (0 + i * 2 + 1) (by omega), show 0 + i * 2 + 1 = i * 2 + 1 by omega, q 1 (by omega)]; rfl
theorem un_reads {w : World} {base : Nat} {g cap n : Nat} {rs : List RUn} (h : w.ownsRow base 41 2 (.slice (some ⟨g, 0, none⟩) n cap) rs.length (unCells rs)) : ReadsUn w.heap.size w (some ⟨g, 0, none⟩) rs :=
  .inr ⟨g, 0, rfl, (h.lt g rfl).2, unAt_own h⟩
theorem oneRowU (r : RUn) : ∀ u ∈ unRow r, u.oneCell' = true := fun u hu => by
  simp [unRow] at hu; rcases hu with rfl | rfl <;> rfl

/-- The source in block b; the units drawn so far in a row of their own. -/
def UnSt (w : World) (b : Nat) (a : Option Addr) (len cap : Nat) (v : Value) (rs : List RUn) (at' sd : Int) (wr : World) : Prop :=
  wr.ownsRow (b + 1) 41 2 v rs.length (unCells rs) ∧ Src wr b a len cap at' sd ∧ b + 1 ≤ wr.heap.size ∧ Below b w wr
theorem UnSt.step {w : World} {b : Nat} {a : Option Addr} {len cap : Nat} {v : Value} {rs : List RUn} {at' sd at2 sd2 : Int} {wr w' : World} (h : UnSt w b a len cap v rs at' sd wr) (ha : Apart b wr w') (hb : Below b wr w') (hs : Src w' b a len cap at2 sd2) : UnSt w b a len cap v rs at2 sd2 w' := by
  obtain ⟨h1, h2, h3, h4⟩ := h
  exact ⟨ownsRow_sameP h1 (fun k hk => ha.2 k (by have := (h1.lt k hk).1; omega) (h1.lt k hk).2), hs, Nat.le_trans h3 ha.1, h4.trans hb⟩
theorem UnSt.later {w : World} {b : Nat} {a : Option Addr} {len cap : Nat} {v : Value} {rs : List RUn} {at' sd : Int} {wr w' : World} (h : UnSt w b a len cap v rs at' sd wr) (hb : Below wr.heap.size wr w') : UnSt w b a len cap v rs at' sd w' := by
  obtain ⟨h1, h2, h3, h4⟩ := h
  exact ⟨ownsRow_sameP h1 (fun k hk => hb.block k (h1.lt k hk).2), h2.laterP hb, Nat.le_trans h3 hb.size, h4.trans (hb.mono (by omega))⟩
theorem UnSt.push {w : World} {b : Nat} {a : Option Addr} {len cap : Nat} {v : Value} {rs : List RUn} {at' sd : Int} {wr w' : World} {g cp : Nat} {r : RUn} (h : UnSt w b a len cap v rs at' sd wr)
    (ho : w'.ownsRow (b + 1) 41 2 (.slice (some ⟨g, 0, none⟩) (rs.length + 1) cp) (rs.length + 1) (unCells rs ++ unRow r)) (hg : wr.grownBy w' v.ownBlock) : UnSt w b a len cap (.slice (some ⟨g, 0, none⟩) (rs.length + 1) cp) (rs ++ [r]) at' sd w' := by
  obtain ⟨h1, h2, h3, h4⟩ := h
  refine ⟨?_, h2.grownP hg (fun k hk => by have := (h1.lt k hk).1; omega), Nat.le_trans h3 hg.size, h4.grown hg (by omega) (fun k hk => by have := (h1.lt k hk).1; omega)⟩
  rw [List.length_append, unCells_append]
  have : unCells [r] = unRow r := by simp [unCells]
  rw [this]; exact ho
theorem UnSt.start {w : World} {b : Nat} {a : Option Addr} {len cap : Nat} {at' sd : Int} (hs : Src w b a len cap at' sd) :
    UnSt w b a len cap (.slice (some ⟨w.heap.size, 0, none⟩) 0 0) [] at' sd (w.alloc (Obj.cells #[] 41)) := by
  have hb := hs.2.2.2.2.2.1
  exact ⟨⟨rfl, .inr ⟨w.heap.size, 0, #[], rfl, hb, heapNew w _, Nat.le_refl _, by unfold maxLen; omega, rfl, rfl⟩⟩, hs.allocT _, by simp; omega, (Below.refl _ _).alloc (by omega) _⟩

/-- The articles that are drawn. -/
def arts : List ByteArray := [⟨#[109, 105, 108, 107]⟩, ⟨#[98, 114, 111, 116]⟩, ⟨#[107, 195, 164, 115, 101]⟩]
theorem three_cells (w : World) (x y z : ByteArray) : ∀ j, j < 3 → (w.alloc (Obj.cells #[.string x, .string y, .string z] 9)).cell? ⟨w.heap.size, j, none⟩ = some (.string ([x, y, z].getD j ⟨#[]⟩)) := fun j hj => by
  have h := heapNew w (Obj.cells #[.string x, .string y, .string z] 9)
  unfold World.cell?
  rw [h]
  match j, hj with
  | 0, _ => rfl
  | 1, _ => rfl
  | 2, _ => rfl
theorem article_any (B b : Nat) (a : Option Addr) (len cap : Nat) (zs : List Int) (at' seed : Int) (w : World) (hB : B ≤ b) (hs : Src w b a len cap at' seed) (hr : RowB B w a len zs) (a1 : at' ≤ 999999999000) :
    Calls Try.prog 23 #[.pointer (some ⟨b, 0, none⟩)] w fun e w' => ∃ (j : Nat) (at2 s' : Int), j < 3 ∧ e = .returned (.string (arts.getD j ⟨#[]⟩)) ∧ at' ≤ at2 ∧ at2 ≤ at' + 3 ∧ Src w' b a len cap at2 s' ∧ Below B w w' ∧ Apart b w w' := by
  have hb := hs.2.2.2.2.2.1
  have hp := pick_any B b w.heap.size a len cap zs at' seed arts (w.alloc (Obj.cells #[.string ⟨#[109, 105, 108, 107]⟩, .string ⟨#[98, 114, 111, 116]⟩, .string ⟨#[107, 195, 164, 115, 101]⟩] 9)) hB (hs.allocT _) (hr.below ((Below.refl _ _).alloc (by omega) _)) a1 (by decide) (by decide) (by omega) (three_cells w _ _ _) 3
  have HW : Hid (Below B w (w.alloc (Obj.cells #[.string ⟨#[109, 105, 108, 107]⟩, .string ⟨#[98, 114, 111, 116]⟩, .string ⟨#[107, 195, 164, 115, 101]⟩] 9))) := (Below.refl _ _).alloc (by omega) _
  clear hs hr
  go_enter Try.func23, Try.ntmps23
  go_wp2_with (go_at_call 50; refine hp.mono ?_; rintro e w1 ⟨j, at2, s', hj, rfl, q1, q2, hs1, hb1, ha1⟩; have HS1 : Hid (_ ∧ _ ∧ _) := ⟨hs1, hb1, ha1⟩; clear hs1 hb1 ha1; generalize hq : arts.getD j ⟨#[]⟩ = q at *)
  go_ret
  exact ⟨j, at2, s', hj, by rw [hq]; rfl, q1, q2, HS1.out.1, HW.out.trans HS1.out.2.1, (apart_alloc b w _).trans ⟨HS1.out.2.1.size, fun k hk _ => HS1.out.2.2 k hk⟩⟩
theorem arts_ok : ∀ j, j < 3 → nameB (arts.getD j ⟨#[]⟩) = true ∧ (arts.getD j ⟨#[]⟩).size ≤ 6 := fun j hj => by
  match j, hj with
  | 0, _ => exact ⟨by kernel_rfl, by decide⟩
  | 1, _ => exact ⟨by kernel_rfl, by decide⟩
  | 2, _ => exact ⟨by kernel_rfl, by decide⟩
/-- What a drawn unit is like. -/
def DrU (r : RUn) : Prop := (∃ j, j < 3 ∧ r.art = arts.getD j ⟨#[]⟩) ∧ 25 ≤ r.pr ∧ r.pr ≤ 300
theorem DrU.ok {r : RUn} (h : DrU r) : UnOK r := by
  obtain ⟨⟨j, hj, e⟩, _⟩ := h
  unfold UnOK
  rw [e]; exact Nat.le_trans (arts_ok j hj).2 (by omega)
theorem DrU.one {r : RUn} (h : DrU r) : unOne r = true := by
  obtain ⟨⟨j, hj, e⟩, h1, h2⟩ := h
  unfold unOne
  rw [e, (arts_ok j hj).1, show inB r.pr 0 100000000 = true from decide_eq_true ⟨by omega, by omega⟩]
  rfl
theorem drU_all {rs : List RUn} (h : ∀ r ∈ rs, DrU r) (hl : rs.length ≤ 8) : unAll rs = true := by
  unfold unAll
  rw [decide_eq_true hl, Bool.true_and, List.all_eq_true]
  exact fun r hr => (h r hr).one
def UnPost (a : Option Addr) (len cap : Nat) (b : Nat) (at0 : Int) (w : World) (e : Ending) (w' : World) : Prop := ∃ (rs : List RUn) (g cp : Nat) (at' sd : Int), e = .returned (.slice (some ⟨g, 0, none⟩) rs.length cp) ∧ rs.length ≤ 7 ∧ at' ≤ at0 + 60 ∧ (∀ r ∈ rs, DrU r) ∧ UnSt w b a len cap (.slice (some ⟨g, 0, none⟩) rs.length cp) rs at' sd w'

set_option maxHeartbeats 8000000 in
set_option maxRecDepth 8000 in
theorem units_any (b : Nat) (a : Option Addr) (len cap : Nat) (zs : List Int) (at0 seed : Int) (w : World) (hs : Src w b a len cap at0 seed) (hr : RowB b w a len zs) (h0 : at0 ≤ 1000) :
    Calls Try.prog 9 #[.pointer (some ⟨b, 0, none⟩)] w (UnPost a len cap b at0 w) := by
  have hlen : len ≤ maxLen := hr.1
  have HR : Hid (RowB b w a len zs) := hr
  have HNx : Hid (∀ (n at' sd : Int) (W : World), n ≤ 256 → at' ≤ 999999999000 → Src W b a len cap at' sd → Below b w W → Calls Try.prog 21 #[.pointer (some ⟨b, 0, none⟩), .int .i64 n] W fun e w' => ∃ x at2 s' : Int, e = .returned (.int .i64 x) ∧ Drawn x n ∧ at' ≤ at2 ∧ at2 ≤ at' + 3 ∧ Src w' b a len cap at2 s' ∧ Below b W w' ∧ Apt b W w') := fun n at' sd W hn ha hS hB => next_anyA b b a len cap zs n at' sd W (Nat.le_refl _) hS (HR.out.below hB) ha hn
  have HAr : Hid (∀ (at' sd : Int) (W : World), at' ≤ 999999999000 → Src W b a len cap at' sd → Below b w W → Calls Try.prog 23 #[.pointer (some ⟨b, 0, none⟩)] W fun e w' => ∃ (j : Nat) (at2 s' : Int), j < 3 ∧ e = .returned (.string (arts.getD j ⟨#[]⟩)) ∧ at' ≤ at2 ∧ at2 ≤ at' + 3 ∧ Src w' b a len cap at2 s' ∧ Below b W w' ∧ Apart b W w') := fun at' sd W ha hS hB => article_any b b a len cap zs at' sd W (Nat.le_refl _) hS (HR.out.below hB) ha
  have HT0 : Hid (UnSt w b a len cap (.slice (some ⟨w.heap.size, 0, none⟩) 0 0) [] at0 seed (w.alloc (Obj.cells #[] 41))) := UnSt.start hs
  have HSz : Hid (Calls Try.prog 22 #[.pointer (some ⟨b, 0, none⟩), .int .i64 6] (w.alloc (Obj.cells #[] 41)) fun e w' => (∃ x : Int, e = .returned (.int .i64 x) ∧ 1 ≤ x ∧ x ≤ 6) ∧ w' = w.alloc (Obj.cells #[] 41)) := size_src b a len cap 6 at0 seed _ HT0.out.2.1 hlen (by omega) (by omega)
  obtain ⟨i0, hti, hzz⟩ := Option.map_eq_some_iff.1 unInfo
  simp only [Prod.mk.injEq] at hzz
  obtain ⟨hi0, hi1, hi2⟩ := hzz
  clear hs hr
  go_enter Try.func9, Try.ntmps9
  go_wp2_with fail
  (first | go_at_call 22 | skip)
  refine HSz.out.mono ?_
  rintro e w0 ⟨⟨y, rfl, y1, y2⟩, hw0⟩
  rw [hw0]
  clear hw0 w0
  go_wp2_with fail
  (first | go_at_call 21 | skip)
  refine (HNx.out _ _ _ _ (by omega) (by omega) HT0.out.2.1 HT0.out.2.2.2).mono ?_
  rintro e w0 ⟨x0, a0, s0, rfl, hx0, ql0, qu0, hs0, hb0, ha0⟩
  have HT1 : Hid (UnSt w b a len cap (.slice (some ⟨w.heap.size, 0, none⟩) 0 0) [] a0 s0 w0) := HT0.out.step (ha0.apart hb0) hb0 hs0
  have hx00 : 0 ≤ x0 := hx0.1
  have hx01 : x0 ≤ 6 := by rcases hx0.2 with h | h <;> omega
  clear hs0 hb0 ha0 hx0 HT0 HSz
  go_wp2_with fail
  go_loopw [3, 4] (fun v c wr => ∃ (rs : List RUn) (g cp : Nat) (i at' sd : Int), v = .slice (some ⟨g, 0, none⟩) rs.length cp ∧ c = .int .i64 i ∧ -1 ≤ i ∧ (rs.length : Int) + i ≤ 6 ∧ at' + 6 * (i + 1) ≤ at0 + 60 ∧ (∀ r ∈ rs, DrU r) ∧ UnSt w b a len cap (.slice (some ⟨g, 0, none⟩) rs.length cp) rs at' sd wr) (fun _ c _ => (intOf c + 1).toNat)
  case atStart => exact ⟨[], w.heap.size, 0, x0, a0, s0, rfl, rfl, by omega, by simp; omega, by omega, by simp, HT1.out⟩
  case round =>
    clear HT1
    obtain ⟨rs, g, cp, i, at', sd, rfl, rfl, hi, hil, hat, hdr, hT⟩ := hrel
    have HT : Hid (UnSt w b a len cap (.slice (some ⟨g, 0, none⟩) rs.length cp) rs at' sd wr) := hT
    have HG : Hid (∀ r ∈ rs, DrU r) := hdr
    clear hT hdr
    by_cases hz : i = -1
    · subst hz
      go_wp2
      go_ret
      exact ⟨rs, g, cp, at', sd, rfl, by omega, by omega, HG.out, HT.out⟩
    · have hpos : 0 ≤ i := by omega
      clear hz
      go_wp2_with fail
      (first | go_at_call 23 | skip)
      refine (HAr.out at' sd wr (by omega) HT.out.2.1 HT.out.2.2.2).mono ?_
      rintro e w2 ⟨ja, a2, s2, hja, rfl, ql2, qu2, hs2, hb2, ha2⟩
      have HT2 : Hid (UnSt w b a len cap (.slice (some ⟨g, 0, none⟩) rs.length cp) rs a2 s2 w2) := HT.out.step ha2 hb2 hs2
      have HP : Hid (∃ j, j < 3 ∧ arts.getD ja ⟨#[]⟩ = arts.getD j ⟨#[]⟩) := ⟨ja, hja, rfl⟩
      clear hs2 hb2 ha2 hja
      generalize arts.getD ja ⟨#[]⟩ = p at *
      go_wp2_with fail
      (first | go_at_call 21 | skip)
      refine (HNx.out 12 a2 s2 w2 (by omega) (by omega) HT2.out.2.1 HT2.out.2.2.2).mono ?_
      rintro e w6 ⟨x6, a6, s6, rfl, hx6, ql6, qu6, hs6, hb6, ha6⟩
      have HT6 : Hid (UnSt w b a len cap (.slice (some ⟨g, 0, none⟩) rs.length cp) rs a6 s6 w6) := HT2.out.step (ha6.apart hb6) hb6 hs6
      have d6 : 0 ≤ x6 ∧ x6 ≤ 11 := ⟨hx6.1, by rcases hx6.2 with h | h <;> omega⟩
      obtain ⟨d60, d61⟩ := d6
      clear hs6 hb6 ha6 hx6 HT HT2
      have hrl : rs.length ≤ 6 := by omega
      have HT7 : Hid (UnSt w b a len cap (.slice (some ⟨g, 0, none⟩) rs.length cp) rs a6 s6 (w6.alloc (Obj.cells #[.string p, .int .i64 (25 * (1 + x6))] 41))) := HT6.out.later (below_alloc _ _)
      have HD : Hid (∀ r ∈ rs ++ [(⟨p, 25 * (1 + x6)⟩ : RUn)], DrU r) := fun r hr => by
        rcases List.mem_append.1 hr with h | h
        · exact HG.out r h
        · rw [List.mem_singleton.1 h]
          exact ⟨HP.out, by dsimp only; omega, by dsimp only; omega⟩
      clear HG
      go_wp2_with (at_builtin; refine wpList_append_lies _ rfl _ _ 23 rfl (b + 1) 41 i0 (.agg #[.string ⟨#[]⟩, .int .i64 0]) 2 24 Try.underlying23 hti hi0 hi1 hi2 rfl (by decide) _ _ _ rfl HT7.out.1 ⟨w6.heap.size, 0, none⟩ 1 1 [.string p, .int .i64 (25 * (1 + x6))] rfl rfl (World.news_of_block (heapNew w6 _)) (oneRowU (⟨p, 25 * (1 + x6)⟩ : RUn)) (by omega) (by unfold maxLen; omega) (by omega) HT7.out.2.2.1 _ rfl ?_; intro g7 cp7 W7 own7 grow7 hat7 hlt7; have HT8 : Hid (UnSt w b a len cap (.slice (some ⟨g7, 0, none⟩) (rs.length + 1) cp7) (rs ++ [(⟨p, 25 * (1 + x6)⟩ : RUn)]) a6 s6 W7) := HT7.out.push own7 grow7; clear own7 grow7 hat7 hlt7)
      go_roundw
      case rel => exact ⟨rs ++ [(⟨p, 25 * (1 + x6)⟩ : RUn)], g7, cp7, i - 1, a6, s6, by rw [List.length_append]; rfl, by go_num, by omega, by rw [List.length_append]; simp; omega, by omega, HD.out, by rw [List.length_append]; exact HT8.out⟩
      case measure => simp [intOf]; omega
end Go.Proofs.Ytkfmifbffgbiiaa

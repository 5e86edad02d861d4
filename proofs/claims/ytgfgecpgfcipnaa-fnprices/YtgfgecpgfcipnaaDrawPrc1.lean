/-
  Drawn price rows in a row of their own: the state of the draws.
-/
import Derived.Test.YtgfgecpgfcipnaaDrawTax1
import Derived.Test.YtgfgecpgfcipnaaPrE
import Derived.Test.YtgfgecpgfcipnaaPriceB
import Derived.Deep.AppendLies
import Derived.Laws.OwnMore
namespace Go.Proofs.Ytgfgecpgfcipnaa
open Go.ChangeShapes Go.WideShapes Go.ChangeAt Go.RowKit
set_option linter.unusedVariables false

theorem ownsRow_sameP {w w' : World} {B : Nat} {e : TypeId} {size : Nat} {v : Value} {n : Nat} {xs : List Value} (h : w.ownsRow B e size v n xs) (hs : ∀ k, v.ownBlock = some k → w'.heap[k]? = w.heap[k]?) : w'.ownsRow B e size v n xs := by
  obtain ⟨h1, h2⟩ := h
  refine ⟨h1, ?_⟩
  rcases h2 with h2 | ⟨g, cap, cur, e, hB, hg, r⟩
  · exact .inl h2
  · exact .inr ⟨g, cap, cur, e, hB, (hs g (by rw [e]; rfl)).trans hg, r⟩
theorem Src.grownP {w w' : World} {b : Nat} {a : Option Addr} {len cap : Nat} {x s : Int} {row : Option Nat} (h : Src w b a len cap x s) (hg : w.grownBy w' row) (hr : ∀ k, row = some k → k ≠ b) : Src w' b a len cap x s := by
  have hb := h.2.2.2.2.2.1
  have e : w'.heap[b]? = w.heap[b]? := hg.block b hb (fun e => hr b e.symm rfl)
  obtain ⟨h0, h1, h2, f1, f2, _, r⟩ := h
  exact ⟨(World.cell?_of_block (w := w) (a := ⟨b, 0, none⟩) e).trans h0, (World.cell?_of_block (w := w) (a := ⟨b, 1, none⟩) e).trans h1, (World.cell?_of_block (w := w) (a := ⟨b, 2, none⟩) e).trans h2, (World.frozen?_of_block (w := w) (a := ⟨b, 1, none⟩) e).trans f1, (World.frozen?_of_block (w := w) (a := ⟨b, 2, none⟩) e).trans f2, Nat.lt_of_lt_of_le hb hg.size, r⟩
theorem Src.laterP {w w' : World} {b : Nat} {a : Option Addr} {len cap : Nat} {x s : Int} (h : Src w b a len cap x s) (hB : Below w.heap.size w w') : Src w' b a len cap x s := by
  obtain ⟨h0, h1, h2, f1, f2, hb, r⟩ := h
  exact ⟨(hB.cell (p := ⟨b, 0, none⟩) hb).trans h0, (hB.cell (p := ⟨b, 1, none⟩) hb).trans h1, (hB.cell (p := ⟨b, 2, none⟩) hb).trans h2, (hB.frozen (p := ⟨b, 1, none⟩) hb).trans f1, (hB.frozen (p := ⟨b, 2, none⟩) hb).trans f2, Nat.lt_of_lt_of_le hb hB.size, r⟩

def prcRow (r : RPr) : List Value := [.string r.art, .string r.zn, .int .i64 r.lv, .int .i64 r.fr, .int .i64 r.to, .int .i64 r.am]
def prcCells : List RPr → List Value
  | [] => []
  | r :: rs => prcRow r ++ prcCells rs
theorem prcCells_length : ∀ rs, (prcCells rs).length = rs.length * 6
  | [] => rfl
  | r :: rs => by simp [prcCells, prcRow, prcCells_length rs]; omega
theorem prcCells_append : ∀ rs qs, prcCells (rs ++ qs) = prcCells rs ++ prcCells qs
  | [], qs => rfl
  | r :: rs, qs => by simp [prcCells, prcCells_append rs qs]
theorem prcCells_get : ∀ (rs : List RPr) (i j : Nat), i < rs.length → j < 6 → (prcCells rs)[i * 6 + j]? = (prcRow (rs.getD i zPr))[j]?
  | r :: rs, 0, j, h, hj => by
    rw [show 0 * 6 + j = j by omega, prcCells, List.getElem?_append_left (by simp [prcRow]; omega)]; rfl
  | r :: rs, i + 1, j, h, hj => by
    rw [prcCells, List.getElem?_append_right (by simp [prcRow]; omega), show (i + 1) * 6 + j - (prcRow r).length = i * 6 + j by simp [prcRow]; omega, prcCells_get rs i j (by simpa using h) hj]
    rfl
theorem prcAt_own {w : World} {base : Nat} {g cap n : Nat} {rs : List RPr} (h : w.ownsRow base 36 6 (.slice (some ⟨g, 0, none⟩) n cap) rs.length (prcCells rs)) : PrsAt w g 0 rs := fun i hi => by
  have hn : n = rs.length := by
    rcases h.2 with ⟨e, _⟩ | ⟨_, _, _, e, _⟩
    · cases e
    · simp at e; exact e.2.1
  subst hn
  have q := fun j hj => prcCells_get rs i j hi hj
  refine ⟨?_, ?_, ?_, ?_, ?_, ?_⟩
  · rw [h.cellAt (0 + i * 6) (by omega), show 0 + i * 6 = i * 6 + 0 by omega, q 0 (by omega)]; rfl
  · rw [h.cellAt (0 + i * 6 + 1) (by omega), show 0 + i * 6 + 1 = i * 6 + 1 by omega, q 1 (by omega)]; rfl
  · rw [h.cellAt (0 + i * 6 + 2) (by omega), show 0 + i * 6 + 2 = i * 6 + 2 by omega, q 2 (by omega)]; rfl
  · rw [h.cellAt (0 + i * 6 + 3) (by omega), show 0 + i * 6 + 3 = i * 6 + 3 by omega, q 3 (by omega)]; rfl
  · rw [h.cellAt (0 + i * 6 + 4) (by omega), show 0 + i * 6 + 4 = i * 6 + 4 by omega, q 4 (by omega)]; rfl
  · rw [h.cellAt (0 + i * 6 + 5) (by omega), show 0 + i * 6 + 5 = i * 6 + 5 by omega, q 5 (by omega)]; rfl
theorem prc_reads {w : World} {base : Nat} {g cap n : Nat} {rs : List RPr} (h : w.ownsRow base 36 6 (.slice (some ⟨g, 0, none⟩) n cap) rs.length (prcCells rs)) : ReadsPr w.heap.size w (some ⟨g, 0, none⟩) rs :=
  .inr ⟨g, 0, rfl, (h.lt g rfl).2, prcAt_own h⟩
theorem oneRowP (r : RPr) : ∀ u ∈ prcRow r, u.oneCell' = true := fun u hu => by
  simp [prcRow] at hu; rcases hu with rfl | rfl | rfl | rfl | rfl | rfl <;> rfl

/-- The source in block b; the rows drawn so far in a row of their own. -/
def PcSt (w : World) (b : Nat) (a : Option Addr) (len cap : Nat) (v : Value) (rs : List RPr) (at' sd : Int) (wr : World) : Prop :=
  wr.ownsRow (b + 1) 36 6 v rs.length (prcCells rs) ∧ Src wr b a len cap at' sd ∧ b + 1 ≤ wr.heap.size ∧ Below b w wr
theorem PcSt.step {w : World} {b : Nat} {a : Option Addr} {len cap : Nat} {v : Value} {rs : List RPr} {at' sd at2 sd2 : Int} {wr w' : World} (h : PcSt w b a len cap v rs at' sd wr) (ha : Apart b wr w') (hb : Below b wr w') (hs : Src w' b a len cap at2 sd2) : PcSt w b a len cap v rs at2 sd2 w' := by
  obtain ⟨h1, h2, h3, h4⟩ := h
  exact ⟨ownsRow_sameP h1 (fun k hk => ha.2 k (by have := (h1.lt k hk).1; omega) (h1.lt k hk).2), hs, Nat.le_trans h3 ha.1, h4.trans hb⟩
theorem PcSt.later {w : World} {b : Nat} {a : Option Addr} {len cap : Nat} {v : Value} {rs : List RPr} {at' sd : Int} {wr w' : World} (h : PcSt w b a len cap v rs at' sd wr) (hb : Below wr.heap.size wr w') : PcSt w b a len cap v rs at' sd w' := by
  obtain ⟨h1, h2, h3, h4⟩ := h
  exact ⟨ownsRow_sameP h1 (fun k hk => hb.block k (h1.lt k hk).2), h2.laterP hb, Nat.le_trans h3 hb.size, h4.trans (hb.mono (by omega))⟩
theorem PcSt.push {w : World} {b : Nat} {a : Option Addr} {len cap : Nat} {v : Value} {rs : List RPr} {at' sd : Int} {wr w' : World} {g cp : Nat} {r : RPr} (h : PcSt w b a len cap v rs at' sd wr)
    (ho : w'.ownsRow (b + 1) 36 6 (.slice (some ⟨g, 0, none⟩) (rs.length + 1) cp) (rs.length + 1) (prcCells rs ++ prcRow r)) (hg : wr.grownBy w' v.ownBlock) : PcSt w b a len cap (.slice (some ⟨g, 0, none⟩) (rs.length + 1) cp) (rs ++ [r]) at' sd w' := by
  obtain ⟨h1, h2, h3, h4⟩ := h
  refine ⟨?_, h2.grownP hg (fun k hk => by have := (h1.lt k hk).1; omega), Nat.le_trans h3 hg.size, h4.grown hg (by omega) (fun k hk => by have := (h1.lt k hk).1; omega)⟩
  rw [List.length_append, prcCells_append]
  have : prcCells [r] = prcRow r := by simp [prcCells]
  rw [this]; exact ho
theorem PcSt.start {w : World} {b : Nat} {a : Option Addr} {len cap : Nat} {at' sd : Int} (hs : Src w b a len cap at' sd) :
    PcSt w b a len cap (.slice (some ⟨w.heap.size, 0, none⟩) 0 0) [] at' sd (w.alloc (Obj.cells #[] 36)) := by
  have hb := hs.2.2.2.2.2.1
  exact ⟨⟨rfl, .inr ⟨w.heap.size, 0, #[], rfl, hb, heapNew w _, Nat.le_refl _, by unfold maxLen; omega, rfl, rfl⟩⟩, hs.allocT _, by simp; omega, (Below.refl _ _).alloc (by omega) _⟩

/-- The articles and the zones that are drawn. -/
def arts : List ByteArray := [⟨#[109, 105, 108, 107]⟩, ⟨#[98, 114, 111, 116]⟩, ⟨#[107, 195, 164, 115, 101]⟩]
def zons : List ByteArray := [⟨#[]⟩, ⟨#[110, 111, 114, 116, 104]⟩, ⟨#[115, 111, 117, 116, 104]⟩]
theorem three_cells (w : World) (x y z : ByteArray) : ∀ j, j < 3 → (w.alloc (Obj.cells #[.string x, .string y, .string z] 9)).cell? ⟨w.heap.size, j, none⟩ = some (.string ([x, y, z].getD j ⟨#[]⟩)) := fun j hj => by
  have h := heapNew w (Obj.cells #[.string x, .string y, .string z] 9)
  unfold World.cell?
  rw [h]
  match j, hj with
  | 0, _ => rfl
  | 1, _ => rfl
  | 2, _ => rfl
theorem article_any (B b : Nat) (a : Option Addr) (len cap : Nat) (zs : List Int) (at' seed : Int) (w : World) (hB : B ≤ b) (hs : Src w b a len cap at' seed) (hr : RowB B w a len zs) (a1 : at' ≤ 999999999000) :
    Calls Try.prog 24 #[.pointer (some ⟨b, 0, none⟩)] w fun e w' => ∃ (j : Nat) (at2 s' : Int), j < 3 ∧ e = .returned (.string (arts.getD j ⟨#[]⟩)) ∧ at' ≤ at2 ∧ at2 ≤ at' + 3 ∧ Src w' b a len cap at2 s' ∧ Below B w w' ∧ Apart b w w' := by
  have hb := hs.2.2.2.2.2.1
  have hp := pick_any B b w.heap.size a len cap zs at' seed arts (w.alloc (Obj.cells #[.string ⟨#[109, 105, 108, 107]⟩, .string ⟨#[98, 114, 111, 116]⟩, .string ⟨#[107, 195, 164, 115, 101]⟩] 9)) hB (hs.allocT _) (hr.below ((Below.refl _ _).alloc (by omega) _)) a1 (by decide) (by decide) (by omega) (three_cells w _ _ _) 3
  have HW : Hid (Below B w (w.alloc (Obj.cells #[.string ⟨#[109, 105, 108, 107]⟩, .string ⟨#[98, 114, 111, 116]⟩, .string ⟨#[107, 195, 164, 115, 101]⟩] 9))) := (Below.refl _ _).alloc (by omega) _
  clear hs hr
  go_enter Try.func24, Try.ntmps24
  go_wp2_with (go_at_call 36; refine hp.mono ?_; rintro e w1 ⟨j, at2, s', hj, rfl, q1, q2, hs1, hb1, ha1⟩; have HS1 : Hid (_ ∧ _ ∧ _) := ⟨hs1, hb1, ha1⟩; clear hs1 hb1 ha1; generalize hq : arts.getD j ⟨#[]⟩ = q at *)
  go_ret
  exact ⟨j, at2, s', hj, by rw [hq]; rfl, q1, q2, HS1.out.1, HW.out.trans HS1.out.2.1, (apart_alloc b w _).trans ⟨HS1.out.2.1.size, fun k hk _ => HS1.out.2.2 k hk⟩⟩
theorem zone_any (B b : Nat) (a : Option Addr) (len cap : Nat) (zs : List Int) (at' seed : Int) (w : World) (hB : B ≤ b) (hs : Src w b a len cap at' seed) (hr : RowB B w a len zs) (a1 : at' ≤ 999999999000) :
    Calls Try.prog 25 #[.pointer (some ⟨b, 0, none⟩)] w fun e w' => ∃ (j : Nat) (at2 s' : Int), j < 3 ∧ e = .returned (.string (zons.getD j ⟨#[]⟩)) ∧ at' ≤ at2 ∧ at2 ≤ at' + 3 ∧ Src w' b a len cap at2 s' ∧ Below B w w' ∧ Apart b w w' := by
  have hb := hs.2.2.2.2.2.1
  have hp := pick_any B b w.heap.size a len cap zs at' seed zons (w.alloc (Obj.cells #[.string ⟨#[]⟩, .string ⟨#[110, 111, 114, 116, 104]⟩, .string ⟨#[115, 111, 117, 116, 104]⟩] 9)) hB (hs.allocT _) (hr.below ((Below.refl _ _).alloc (by omega) _)) a1 (by decide) (by decide) (by omega) (three_cells w _ _ _) 3
  have HW : Hid (Below B w (w.alloc (Obj.cells #[.string ⟨#[]⟩, .string ⟨#[110, 111, 114, 116, 104]⟩, .string ⟨#[115, 111, 117, 116, 104]⟩] 9))) := (Below.refl _ _).alloc (by omega) _
  clear hs hr
  go_enter Try.func25, Try.ntmps25
  go_wp2_with (go_at_call 36; refine hp.mono ?_; rintro e w1 ⟨j, at2, s', hj, rfl, q1, q2, hs1, hb1, ha1⟩; have HS1 : Hid (_ ∧ _ ∧ _) := ⟨hs1, hb1, ha1⟩; clear hs1 hb1 ha1; generalize hq : zons.getD j ⟨#[]⟩ = q at *)
  go_ret
  exact ⟨j, at2, s', hj, by rw [hq]; rfl, q1, q2, HS1.out.1, HW.out.trans HS1.out.2.1, (apart_alloc b w _).trans ⟨HS1.out.2.1.size, fun k hk _ => HS1.out.2.2 k hk⟩⟩

/-- What a drawn row is like. -/
def DrP (r : RPr) : Prop := (∃ j, j < 3 ∧ r.art = arts.getD j ⟨#[]⟩) ∧ (∃ j, j < 3 ∧ r.zn = zons.getD j ⟨#[]⟩) ∧ 1 ≤ r.lv ∧ r.lv ≤ 3 ∧ 0 ≤ r.fr ∧ r.fr < r.to ∧ r.to ≤ 120 ∧ 50 ≤ r.am ∧ r.am ≤ 130
theorem arts_ok : ∀ j, j < 3 → nameB (arts.getD j ⟨#[]⟩) = true ∧ (arts.getD j ⟨#[]⟩).size ≤ 6 := fun j hj => by
  match j, hj with
  | 0, _ => exact ⟨by kernel_rfl, by decide⟩
  | 1, _ => exact ⟨by kernel_rfl, by decide⟩
  | 2, _ => exact ⟨by kernel_rfl, by decide⟩
theorem zons_ok : ∀ j, j < 3 → ((zons.getD j ⟨#[]⟩).toList.isEmpty || nameB (zons.getD j ⟨#[]⟩)) = true ∧ (zons.getD j ⟨#[]⟩).size ≤ 6 := fun j hj => by
  match j, hj with
  | 0, _ => exact ⟨by kernel_rfl, by decide⟩
  | 1, _ => exact ⟨by kernel_rfl, by decide⟩
  | 2, _ => exact ⟨by kernel_rfl, by decide⟩
theorem DrP.ok {r : RPr} (h : DrP r) : PrOK r := by
  obtain ⟨⟨j, hj, e⟩, ⟨k, hk, e'⟩, _⟩ := h
  refine ⟨?_, ?_⟩
  · rw [e]; exact Nat.le_trans (arts_ok j hj).2 (by omega)
  · rw [e']; exact Nat.le_trans (zons_ok k hk).2 (by omega)
theorem DrP.one {r : RPr} (h : DrP r) : prOne r = true := by
  obtain ⟨⟨j, hj, e⟩, ⟨k, hk, e'⟩, h1, h2, h3, h4, h5, h6, h7⟩ := h
  unfold prOne
  rw [e, (arts_ok j hj).1, e', (zons_ok k hk).1, show inB r.lv 1 5 = true from decide_eq_true ⟨h1, by omega⟩, decide_eq_true (show 0 ≤ r.fr ∧ r.fr < r.to ∧ r.to ≤ 10000000 by omega), show inB r.am 0 1000000000 = true from decide_eq_true ⟨by omega, by omega⟩]
  rfl
theorem drP_all {rs : List RPr} (h : ∀ r ∈ rs, DrP r) (hl : rs.length ≤ 80) : prAll rs = true := by
  unfold prAll
  rw [if_neg (by omega), List.all_eq_true]
  exact fun r hr => (h r hr).one
end Go.Proofs.Ytgfgecpgfcipnaa

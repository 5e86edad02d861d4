/-
  The specification's drawn terms: of every list of bytes each is right.
-/
import Derived.Test.YtfofdeenpcbglaaSrcSize
import Derived.Test.YtfofdeenpcbglaaSrcApt
import Derived.Test.YtfofdeenpcbglaaRuD
import Derived.Test.YtfofdeenpcbglaaMark0
namespace Go.Proofs.Ytfofdeenpcbglaa
open Go.ChangeShapes Go.WideShapes Go.ChangeAt Go.RowKit Go.Deep
set_option linter.unusedVariables false

theorem Src.later2 {w w' : World} {b : Nat} {a : Option Addr} {len cap : Nat} {x s : Int} (h : Src w b a len cap x s) (hb : Below w.heap.size w w') : Src w' b a len cap x s := by
  obtain ⟨h0, h1, h2, f1, f2, hlt, r⟩ := h
  have e := hb.block b hlt
  exact ⟨(World.cell?_of_block (a := ⟨b, 0, none⟩) e).trans h0, (World.cell?_of_block (a := ⟨b, 1, none⟩) e).trans h1, (World.cell?_of_block (a := ⟨b, 2, none⟩) e).trans h2, (World.frozen?_of_block (a := ⟨b, 1, none⟩) e).trans f1, (World.frozen?_of_block (a := ⟨b, 2, none⟩) e).trans f2, Nat.lt_of_lt_of_le hlt hb.size, r⟩
theorem Apart.refl2 (b : Nat) (w : World) : Apart b w w := ⟨Nat.le_refl _, fun _ _ _ => rfl⟩
theorem Apart.trans2 {b : Nat} {w w' w'' : World} (h : Apart b w w') (k : Apart b w' w'') : Apart b w w'' := ⟨Nat.le_trans h.1 k.1, fun c hc hl => (k.2 c hc (Nat.lt_of_lt_of_le hl h.1)).trans (h.2 c hc hl)⟩
theorem Apart.below2 {b : Nat} {w w' : World} (h : Below w.heap.size w w') : Apart b w w' := ⟨h.size, fun c _ hl => h.block c hl⟩
theorem Apart.apt2 {b : Nat} {w w' : World} (h : Apt b w w') (hb : w.heap.size ≤ w'.heap.size) : Apart b w w' := ⟨hb, fun c hc _ => h c hc⟩
/-- What a draw leaves: the source goes on; of what was there its block alone may have turned. -/
def SrcOn (b : Nat) (a : Option Addr) (len cap : Nat) (zs : List Int) (B : Nat) (at' : Int) (w : World) : Prop := (∃ s, Src w b a len cap at' s) ∧ RowB B w a len zs
def Going (b : Nat) (a : Option Addr) (len cap : Nat) (zs : List Int) (B : Nat) (lo hi : Int) (w w' : World) : Prop := (∃ at2, lo ≤ at2 ∧ at2 ≤ hi ∧ SrcOn b a len cap zs B at2 w') ∧ Below B w w' ∧ Apart b w w'
theorem next_going (b : Nat) (a : Option Addr) (len cap : Nat) (zs : List Int) (B : Nat) (hB : B ≤ b) (lo hi n : Int) (w0 w : World) (hn : n ≤ 256) (hhi : hi ≤ 1000000) (h : Going b a len cap zs B lo hi w0 w) :
    Calls Try.prog 22 #[.pointer (some ⟨b, 0, none⟩), .int .i64 n] w fun e w' => ∃ x : Int, e = .returned (.int .i64 x) ∧ Drawn x n ∧ Going b a len cap zs B lo (hi + 3) w0 w' := by
  obtain ⟨⟨at2, h1, h2, ⟨s, hs⟩, hr⟩, hb, ha⟩ := h
  refine (next_anyA B b a len cap zs n at2 s w hB hs hr (by omega) hn).mono ?_
  rintro e w' ⟨x, at3, s', rfl, hx, k1, k2, k3, k4, k5⟩
  exact ⟨x, rfl, hx, ⟨at3, by omega, by omega, ⟨s', k3⟩, hr.below k4⟩, hb.trans k4, ha.trans2 (Apart.apt2 k5 k4.size)⟩
theorem chance_going (b : Nat) (a : Option Addr) (len cap : Nat) (zs : List Int) (B : Nat) (hB : B ≤ b) (lo hi n : Int) (w0 w : World) (hn1 : 1 ≤ n) (hn : n ≤ 256) (hhi : hi ≤ 1000000) (h : Going b a len cap zs B lo hi w0 w) :
    Calls Try.prog 41 #[.pointer (some ⟨b, 0, none⟩), .int .i64 n] w fun e w' => ∃ x : Bool, e = .returned (.bool x) ∧ Going b a len cap zs B lo (hi + 3) w0 w' := by
  have hnx := next_going b a len cap zs B hB lo hi n w0 w hn hhi h
  go_enter Try.func41, Try.ntmps41
  go_wp2_with (go_at_call 22; refine hnx.mono ?_; rintro e w1 ⟨x, rfl, hx, h1⟩; have H1 : Hid _ := h1; clear h1)
  go_ret
  exact ⟨_, rfl, H1.out⟩
theorem Going.later {b : Nat} {a : Option Addr} {len cap : Nat} {zs : List Int} {B : Nat} {lo hi : Int} {w0 w w' : World} (h : Going b a len cap zs B lo hi w0 w) (hBw : B ≤ w.heap.size) (hb : Below w.heap.size w w') : Going b a len cap zs B lo hi w0 w' := by
  obtain ⟨⟨at2, h1, h2, ⟨s, hs⟩, hr⟩, hb0, ha⟩ := h
  exact ⟨⟨at2, h1, h2, ⟨s, hs.later2 hb⟩, hr.below (hb.mono hBw)⟩, hb0.trans (hb.mono hBw), ha.trans2 (Apart.below2 hb)⟩
theorem Going.wider {b : Nat} {a : Option Addr} {len cap : Nat} {zs : List Int} {B : Nat} {lo hi hi' : Int} {w0 w : World} (h : Going b a len cap zs B lo hi w0 w) (hh : hi ≤ hi') : Going b a len cap zs B lo hi' w0 w := by
  obtain ⟨⟨at2, h1, h2, r⟩, k⟩ := h
  exact ⟨⟨at2, h1, by omega, r⟩, k⟩
theorem lohi (m : Nat) (h : 1 ≤ m) (h' : m ≤ 5) : 0 ≤ loF (m : Int) ∧ loF (m : Int) + 6 ≤ hiF (m : Int) ∧ hiF (m : Int) ≤ 1000000 := by
  rcases (by omega : m = 1 ∨ m = 2 ∨ m = 3 ∨ m = 4 ∨ m = 5) with rfl | rfl | rfl | rfl | rfl <;> decide
end Go.Proofs.Ytfofdeenpcbglaa

/-
  The specification's draw of segments: pick, and what lies in memory while the source is drawn from.
-/
import Derived.Test.YtjnlghngneonhaaScX
import Derived.Test.YtjnlghngneonhaaQdA
import Derived.Test.YtjnlghngneonhaaSrcApt
namespace Go.Proofs.Ytjnlghngneonhaa
open Go.ChangeShapes Go.WideShapes Go.ChangeAt Go.RowKit Go.Joins Go.Deep
set_option linter.unusedVariables false

theorem pick_v (B b bl : Nat) (a : Option Addr) (len cap : Nat) (zs : List Int) (at' seed : Int) (ss : List ByteArray) (w : World) (hB : B ≤ b) (hs : Src w b a len cap at' seed) (hr : RowB B w a len zs) (a1 : at' ≤ 999999999000)
    (hl : 1 ≤ ss.length) (hl' : ss.length ≤ 256) (hne : bl ≠ b) (hc : ∀ j, j < ss.length → w.cell? ⟨bl, j, none⟩ = some (.string (ss.getD j ⟨#[]⟩))) (c : Nat) :
    Calls Try.prog 33 #[.pointer (some ⟨b, 0, none⟩), .slice (some ⟨bl, 0, none⟩) ss.length c] w fun e w' => ∃ (j : Nat) (at2 s' : Int), j < ss.length ∧ e = .returned (.string (ss.getD j ⟨#[]⟩)) ∧ at' ≤ at2 ∧ at2 ≤ at' + 3 ∧ Src w' b a len cap at2 s' ∧ Below B w w' ∧ Apt b w w' := by
  have hn := next_anyA B b a len cap zs (ss.length : Int) at' seed w hB hs hr a1 (by omega)
  have HC : Hid (∀ j, j < ss.length → w.cell? ⟨bl, j, none⟩ = some (.string (ss.getD j ⟨#[]⟩))) := hc
  have hz : ((ss.length : Int) == 0) = false := by rw [beq_eq_false_iff_ne]; omega
  have hz' : ¬ (ss.length : Int) = 0 := by omega
  clear hc hs hr
  go_enter Try.func33, Try.ntmps33
  go_wp2_with fail
  (first | go_at_call 31 | skip)
  refine hn.mono ?_
  rintro e w1 ⟨x, at2, s', rfl, hx, q1, q2, hs1, hb1, ha1⟩
  obtain ⟨j, rfl⟩ : ∃ j : Nat, x = (j : Int) := ⟨x.toNat, by have := hx.1; omega⟩
  have hj : j < ss.length := by rcases hx.2 with h | h <;> omega
  have hj' : (j : Int) < (ss.length : Int) := by omega
  have cj : w1.cell? ⟨bl, j, none⟩ = some (.string (ss.getD j ⟨#[]⟩)) := (World.cell?_of_block (w := w) (a := ⟨bl, j, none⟩) (ha1 bl hne)).trans (HC.out j hj)
  have HS1 : Hid (Src w1 b a len cap at2 s' ∧ Below B w w1 ∧ Apt b w w1) := ⟨hs1, hb1, ha1⟩
  clear hs1 hb1 ha1 hx
  generalize hq : ss.getD j ⟨#[]⟩ = q at *
  go_wp2
  go_ret
  exact ⟨j, at2, s', hj, by rw [hq]; rfl, q1, q2, HS1.out.1, HS1.out.2.1, HS1.out.2.2⟩
theorem SpR.apart {B b : Nat} {E : List SgE} {la : Option Addr} {lk : Nat} {W W' : World} (h : SpR B E la lk W) (ha : Apart b W W') (hb : b < B) : SpR B E la lk W' :=
  ⟨row_of h.rowL (fun q hq => ha.2 q (by have := (row_lt h.rowL q hq).1; omega) (row_lt h.rowL q hq).2), fun e he => row_of (h.old e he) (fun q hq => ha.2 q (by have := (row_lt (h.old e he) q hq).1; omega) (row_lt (h.old e he) q hq).2), h.dst, Nat.le_trans h.low ha.1⟩
theorem SpG.apart {B b gb pb : Nat} {E : List SgE} {la : Option Addr} {lk : Nat} {tg : ByteArray} {ps : List ByteArray} {pa : Option Addr} {pk : Nat} {W W' : World} (h : SpG B gb pb E la lk tg ps pa pk W) (ha : Apart b W W') (hb : b < B) : SpG B gb pb E la lk tg ps pa pk W' :=
  ⟨h.base.apart ha hb, (ha.2 gb (by have := h.ge; omega) (blkLt h.box)).trans h.box, row_of h.rowP (fun q hq => ha.2 q (by have := (row_lt h.rowP q hq).1; have := h.ge; omega) (row_lt h.rowP q hq).2), h.frz, h.off, ⟨h.ge.1, h.ge.2.1, Nat.le_trans h.ge.2.2 ha.1⟩⟩
/-- The source, while a list of our own (from block B on, the source's block b below) is made. -/
structure DrS (b B : Nat) (a : Option Addr) (len cap : Nat) (V : World) (at' sd : Int) (W : World) : Prop where
  ap : Apart b V W
  low : Below b V W
  src : Src W b a len cap at' sd
  bv : b < B ∧ B ≤ V.heap.size
theorem DrS.draw {b B : Nat} {a : Option Addr} {len cap : Nat} {V W W' : World} {at' sd at2 sd2 : Int} (h : DrS b B a len cap V at' sd W) (ha : Apart b W W') (hb : Below b W W') (hs : Src W' b a len cap at2 sd2) : DrS b B a len cap V at2 sd2 W' := ⟨h.ap.trans ha, h.low.trans hb, hs, h.bv⟩
/-- What is written from block B on leaves the source. -/
theorem DrS.own {b B : Nat} {a : Option Addr} {len cap : Nat} {V W W' : World} {at' sd : Int} (h : DrS b B a len cap V at' sd W) (hB : B = V.heap.size) (hb : Below B W W') : DrS b B a len cap V at' sd W' :=
  ⟨⟨Nat.le_trans h.ap.1 hb.size, fun k h1 h2 => (hb.block k (by omega)).trans (h.ap.2 k h1 h2)⟩, h.low.trans (hb.mono (Nat.le_of_lt h.bv.1)), src_sameW h.src (hb.block b h.bv.1) hb.size, h.bv⟩
end Go.Proofs.Ytjnlghngneonhaa

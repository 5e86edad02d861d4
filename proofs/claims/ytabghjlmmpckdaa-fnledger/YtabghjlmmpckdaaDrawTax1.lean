/-
  Contracts of the source's pick and place.
-/
import Derived.Test.YtabghjlmmpckdaaSrcSize
import Derived.Test.YtabghjlmmpckdaaMark0
namespace Go.Proofs.Ytabghjlmmpckdaa
open Go.ChangeShapes Go.WideShapes Go.ChangeAt Go.RowKit
set_option linter.unusedVariables false

theorem Src.allocT {w : World} {b : Nat} {a : Option Addr} {len cap : Nat} {x s : Int} (h : Src w b a len cap x s) (o : Obj) : Src (w.alloc o) b a len cap x s := by
  obtain ⟨h0, h1, h2, f1, f2, hb, r⟩ := h
  have hB := below_alloc w o
  exact ⟨(hB.cell (p := ⟨b, 0, none⟩) hb).trans h0, (hB.cell (p := ⟨b, 1, none⟩) hb).trans h1, (hB.cell (p := ⟨b, 2, none⟩) hb).trans h2, (hB.frozen (p := ⟨b, 1, none⟩) hb).trans f1, (hB.frozen (p := ⟨b, 2, none⟩) hb).trans f2, Nat.lt_of_lt_of_le hb hB.size, r⟩
theorem pick_any (B b bl : Nat) (a : Option Addr) (len cap : Nat) (zs : List Int) (at' seed : Int) (ss : List ByteArray) (w : World) (hB : B ≤ b) (hs : Src w b a len cap at' seed) (hr : RowB B w a len zs) (a1 : at' ≤ 999999999000)
    (hl : 1 ≤ ss.length) (hl' : ss.length ≤ 256) (hne : bl ≠ b) (hc : ∀ j, j < ss.length → w.cell? ⟨bl, j, none⟩ = some (.string (ss.getD j ⟨#[]⟩))) (c : Nat) :
    Calls Try.prog 48 #[.pointer (some ⟨b, 0, none⟩), .slice (some ⟨bl, 0, none⟩) ss.length c] w fun e w' => ∃ (j : Nat) (at2 s' : Int), j < ss.length ∧ e = .returned (.string (ss.getD j ⟨#[]⟩)) ∧ at' ≤ at2 ∧ at2 ≤ at' + 3 ∧ Src w' b a len cap at2 s' ∧ Below B w w' ∧ Apt b w w' := by
  have hn := next_anyA B b a len cap zs (ss.length : Int) at' seed w hB hs hr a1 (by omega)
  have HC : Hid (∀ j, j < ss.length → w.cell? ⟨bl, j, none⟩ = some (.string (ss.getD j ⟨#[]⟩))) := hc
  have hz : ((ss.length : Int) == 0) = false := by rw [beq_eq_false_iff_ne]; omega
  have hz' : ¬ (ss.length : Int) = 0 := by omega
  clear hc hs hr
  go_enter Try.func48, Try.ntmps48
  go_wp2_with fail
  (first | go_at_call 46 | skip)
  refine hn.mono ?_
  rintro e w1 ⟨x, at2, s', rfl, hx, q1, q2, hs1, hb1, ha1⟩
  obtain ⟨j, rfl⟩ : ∃ j : Nat, x = (j : Int) := ⟨x.toNat, by have := hx.1; omega⟩
  have hj : j < ss.length := by rcases hx.2 with h | h <;> omega
  have hj' : (j : Int) < (ss.length : Int) := by omega
  have cj : w1.cell? ⟨bl, j, none⟩ = some (.string (ss.getD j ⟨#[]⟩)) := (World.cell?_of_block (w := w) (a := ⟨bl, j, none⟩) (ha1 bl hne)).trans (HC.out j hj)
  have HS1 : Hid (Src w1 b a len cap at2 s' ∧ Below B w w1 ∧ Apt b w w1) := ⟨hs1, hb1, ha1⟩
  clear hs1 hb1 ha1 hx
  generalize hq : ss.getD j ⟨#[]⟩ = q at *
  go_wp2
  go_ret
  exact ⟨j, at2, s', hj, by rw [hq]; rfl, q1, q2, HS1.out.1, HS1.out.2.1, HS1.out.2.2⟩

theorem Apt.apart {b : Nat} {w w' : World} (h : Apt b w w') (hb : Below b w w') : Apart b w w' := ⟨hb.size, fun k hk _ => h k hk⟩
theorem Apart.trans {b : Nat} {w w' w'' : World} (h : Apart b w w') (k : Apart b w' w'') : Apart b w w'' := ⟨Nat.le_trans h.1 k.1, fun c hc hl => (k.2 c hc (Nat.lt_of_lt_of_le hl h.1)).trans (h.2 c hc hl)⟩
theorem apart_alloc (b : Nat) (w : World) (o : Obj) : Apart b w (w.alloc o) := ⟨by simp, fun k _ hl => Below.heap_alloc _ _ _ hl⟩

/-- The places that are drawn. -/
def plc : List ByteArray := [⟨#[]⟩, ⟨#[110, 111, 114, 116, 104]⟩, ⟨#[115, 111, 117, 116, 104]⟩, ⟨#[107, 195, 164, 115, 101]⟩, ⟨#[110, 111, 114, 116, 104]⟩]
theorem plc_cells (w : World) : ∀ j, j < plc.length → (w.alloc (Obj.cells #[.string ⟨#[]⟩, .string ⟨#[110, 111, 114, 116, 104]⟩, .string ⟨#[115, 111, 117, 116, 104]⟩, .string ⟨#[107, 195, 164, 115, 101]⟩, .string ⟨#[110, 111, 114, 116, 104]⟩] 9)).cell? ⟨w.heap.size, j, none⟩ = some (.string (plc.getD j ⟨#[]⟩)) := fun j hj => by
  have h := heapNew w (Obj.cells #[.string ⟨#[]⟩, .string ⟨#[110, 111, 114, 116, 104]⟩, .string ⟨#[115, 111, 117, 116, 104]⟩, .string ⟨#[107, 195, 164, 115, 101]⟩, .string ⟨#[110, 111, 114, 116, 104]⟩] 9)
  unfold World.cell?
  rw [h]
  match j, hj with
  | 0, _ => rfl
  | 1, _ => rfl
  | 2, _ => rfl
  | 3, _ => rfl
  | 4, _ => rfl

end Go.Proofs.Ytabghjlmmpckdaa

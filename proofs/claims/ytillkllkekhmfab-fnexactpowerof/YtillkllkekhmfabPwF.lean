/-
  The laws' own helper eqPowerS; a list of Power that came in, opened.
-/
import Derived.Test.YtillkllkekhmfabPwE
import Derived.Test.YtillkllkekhmfabRowG
import Derived.Deep.RegionHeld3
namespace Go.Proofs.Ytillkllkekhmfab
open Go.ChangeShapes Go.WideShapes Go.ChangeAt Go.RowKit Go.Deep
set_option linter.unusedVariables false
attribute [local go_sem] run_store_float

theorem eqPw_any (r0 : Nat) (r1 : Nat) (w : World) :
    Calls Try.prog 9 #[.agg #[.float .f64 r0, .float .f64 r1], .agg #[.float .f64 r0, .float .f64 r1]] w fun e w' => e = .returned (.bool true) ∧ Below w.heap.size w w' := by
  have HS : Hid (∀ x W, Calls Try.prog 21 #[.float .f64 x, .float .f64 x] W fun e w' => e = .returned (.bool true) ∧ Below W.heap.size W w') := fun x W => sameF_any x W
  obtain ⟨W0, hW0⟩ : ∃ W0, W0 = (w.alloc (Obj.cells #[.float .f64 r0, .float .f64 r1] 26)).alloc (Obj.cells #[.float .f64 r0, .float .f64 r1] 26) := ⟨_, rfl⟩
  have HW0 : Hid (W0 = (w.alloc (Obj.cells #[.float .f64 r0, .float .f64 r1] 26)).alloc (Obj.cells #[.float .f64 r0, .float .f64 r1] 26)) := hW0
  have hz : W0.heap.size = w.heap.size + 1 + 1 := by rw [hW0]; simp
  have HB : Hid (Below w.heap.size w W0) := by show Below _ _ _; rw [hW0]; exact chain (below_alloc _ _) (below_alloc _ _)
  have g0 : W0.heap[w.heap.size]? = some (.cells #[.float .f64 r0, .float .f64 r1] 26 (0, 0)) := by rw [hW0]; exact (Below.heap_alloc _ _ _ (by simp)).trans (heapNew _ _)
  have g1 : W0.heap[w.heap.size + 1]? = some (.cells #[.float .f64 r0, .float .f64 r1] 26 (0, 0)) := by
    rw [hW0]
    have := heapNew (w.alloc (Obj.cells #[.float .f64 r0, .float .f64 r1] 26)) (Obj.cells #[.float .f64 r0, .float .f64 r1] 26)
    rwa [World.size_alloc] at this
  have HC : Hid (∀ W, Below W0.heap.size W0 W → (W.cell? ⟨w.heap.size, 0, none⟩ = some (.float .f64 r0) ∧ W.cell? ⟨w.heap.size, 1, none⟩ = some (.float .f64 r1)) ∧ W.cell? ⟨w.heap.size + 1, 0, none⟩ = some (.float .f64 r0) ∧ W.cell? ⟨w.heap.size + 1, 1, none⟩ = some (.float .f64 r1)) := fun W hb => by
    have k0 := (hb.block _ (by omega)).trans g0
    have k1 := (hb.block _ (by omega)).trans g1
    exact ⟨⟨blkCell k0 0 _ rfl, blkCell k0 1 _ rfl⟩, blkCell k1 0 _ rfl, blkCell k1 1 _ rfl⟩
  clear hW0 g0 g1 hz
  go_enter Try.func9, Try.ntmps9
  go_upto_region 1 with fail
  rw [← HW0.out]
  obtain ⟨⟨a0, a1⟩, b0, b1⟩ := HC.out W0 (Below.refl _ _)
  go_wp2_with fail
  (first | go_at_call 21 | skip)
  refine (HS.out _ _).mono ?_
  rintro e w1 ⟨rfl, hb1⟩
  have H1 : Hid (Below W0.heap.size W0 w1) := hb1
  clear a0 a1 b0 b1 hb1
  obtain ⟨⟨a0, a1⟩, b0, b1⟩ := HC.out w1 H1.out
  go_wp2_with fail
  (first | go_at_call 21 | skip)
  refine (HS.out _ _).mono ?_
  rintro e w2 ⟨rfl, hb2⟩
  go_wp2
  go_ret
  exact ⟨rfl, chain HB.out (chain H1.out hb2)⟩
theorem keepPw {W w1 : World} {b0 b1 p0 p1 q0 q1 : Nat} {c0 c1 d0 d1 : Value} (hb : Below W.heap.size W w1) (h : W.cell? ⟨b0, p0, none⟩ = some c0 ∧ W.cell? ⟨b0, p1, none⟩ = some c1 ∧ W.cell? ⟨b1, q0, none⟩ = some d0 ∧ W.cell? ⟨b1, q1, none⟩ = some d1 ∧ b0 < W.heap.size ∧ b1 < W.heap.size) :
    w1.cell? ⟨b0, p0, none⟩ = some c0 ∧ w1.cell? ⟨b0, p1, none⟩ = some c1 ∧ w1.cell? ⟨b1, q0, none⟩ = some d0 ∧ w1.cell? ⟨b1, q1, none⟩ = some d1 ∧ b0 < w1.heap.size ∧ b1 < w1.heap.size := by
  obtain ⟨h0, h1, k0, k1, l0, l1⟩ := h
  exact ⟨(hb.cell (p := ⟨b0, p0, none⟩) l0).trans h0, (hb.cell (p := ⟨b0, p1, none⟩) l0).trans h1, (hb.cell (p := ⟨b1, q0, none⟩) l1).trans k0, (hb.cell (p := ⟨b1, q1, none⟩) l1).trans k1, Nat.lt_of_lt_of_le l0 hb.size, Nat.lt_of_lt_of_le l1 hb.size⟩

set_option maxHeartbeats 2000000 in
theorem eqPws_any (a b : Option Addr) (ca cb : Nat) (rs : List RPw) (hn : rs.length ≤ 1048576) (w : World) (ra : ReadsPw w.heap.size w a rs) (rb : ReadsPw w.heap.size w b rs) :
    Calls Try.prog 10 #[.slice a rs.length ca, .slice b rs.length cb] w fun e w' => e = .returned (.bool true) ∧ Below w.heap.size w w' := by
  have HA : Hid (ReadsPw w.heap.size w a rs) := ra
  have HBb : Hid (ReadsPw w.heap.size w b rs) := rb
  clear ra rb
  go_enter Try.func10, Try.ntmps10
  go_wp2
  go_loopw [5] (fun i wr => ∃ k : Nat, k ≤ rs.length ∧ i = .int .i64 (k : Int) ∧ Below w.heap.size w wr) (fun i _ => rs.length - (intOf i).toNat)
  case atStart => exact ⟨0, Nat.zero_le _, rfl, Below.refl _ _⟩
  case round =>
    obtain ⟨k, hk, rfl, hb⟩ := hrel
    have HB : Hid (Below w.heap.size w wr) := hb
    clear hb
    by_cases hlt : k < rs.length
    · have hlt' : (k : Int) < (rs.length : Int) := by omega
      rcases HA.out with h | ⟨b0, o0, ha, hB0, ia⟩
      · rw [h] at hlt; simp at hlt
      rcases HBb.out with h | ⟨b1, o1, hbb, hB1, ib⟩
      · rw [h] at hlt; simp at hlt
      obtain ⟨c0, c1⟩ := (ia.below HB.out hB0) k hlt
      obtain ⟨d0, d1⟩ := (ib.below HB.out hB1) k hlt
      have lt0 : b0 < wr.heap.size := Nat.lt_of_lt_of_le hB0 HB.out.size
      have lt1 : b1 < wr.heap.size := Nat.lt_of_lt_of_le hB1 HB.out.size
      rw [ha, hbb]
      clear ia ib
      generalize rs.getD k zPw = r at *
      obtain ⟨r0, r1⟩ := r
      dsimp only at c0 c1 d0 d1
      go_wp2
      go_region_held3 (fun W => W.cell? ⟨b0, o0 + k * 2, none⟩ = some (.float .f64 r0) ∧ W.cell? ⟨b0, o0 + k * 2 + 1, none⟩ = some (.float .f64 r1) ∧ W.cell? ⟨b1, o1 + k * 2, none⟩ = some (.float .f64 r0) ∧ W.cell? ⟨b1, o1 + k * 2 + 1, none⟩ = some (.float .f64 r1) ∧ b0 < W.heap.size ∧ b1 < W.heap.size) (first | exact ⟨c0, c1, d0, d1, lt0, lt1⟩ | exact keepPw (by assumption) (by assumption)) (first | (go_at_call 9; refine (eqPw_any _ _ _).mono ?_; rintro e w2 ⟨rfl, hb2⟩))
      have HB2 : Hid (Below w.heap.size w w2) := chain HB.out.drew hb2
      go_wp2
      go_roundw
      case rel => exact ⟨k + 1, by omega, by go_num, HB2.out⟩
      case measure => simp [intOf]; omega
    · go_wp2
      go_ret
      exact ⟨rfl, HB.out⟩

/-! ### A list that came in -/
def IsPws (w : World) (a : Option Addr) (len cap : Nat) (rs : List RPw) : Prop := rs.length = len ∧ len ≤ cap ∧ cap ≤ maxLen ∧ (∀ r ∈ rs, PwWide r) ∧ ReadsPw w.heap.size w a rs
theorem openPw {H : Type} {enc : TypeId × Value → H} {w : World} {base : Nat} {spare : Nat → Bool} {held : Bool} {fuel : Nat} {cs : List Value} {x : DataW H × List MemPlace} (h : DataW.trod enc Try.prog w base spare held fuel 39 cs = some x) :
    ∃ r : RPw, cs = [.float .f64 r.re, .float .f64 r.im] ∧ PwWide r := by
  obtain ⟨xs, n, _, _, hl, hlen, hf⟩ := DataW.trod_struct Try.underlying39 h
  have hc : Try.prog.cellsOf 39 = 2 := by kernel_rfl
  have hci : Try.prog.cellsOf 24 = 1 := by kernel_rfl
  rw [hc] at hl
  obtain ⟨v0, v1, rfl⟩ : ∃ a0 a1, cs = [a0, a1] := by
    rcases cs with _ | ⟨a0, _ | ⟨a1, _ | ⟨g, r⟩⟩⟩ <;> simp at hl
    exact ⟨a0, a1, rfl⟩
  have hlen' : xs.length = 2 := hlen
  obtain ⟨y0, y1, rfl⟩ : ∃ a0 a1, xs = [a0, a1] := by
    rcases xs with _ | ⟨a0, _ | ⟨a1, _ | ⟨g, r⟩⟩⟩ <;> simp at hlen'
    exact ⟨a0, a1, rfl⟩
  clear hlen hlen' h hl
  have h0 := hf 0 _ rfl
  have h1 := hf 1 _ rfl
  clear hf
  simp [hci] at h0 h1
  obtain ⟨u0, rfl⟩ := trod_float h0
  obtain ⟨u1, rfl⟩ := trod_float h1
  exact ⟨⟨u0, u1⟩, rfl, trivial⟩
theorem openPws {H : Type} {enc : TypeId × Value → H} {w : World} {spare : Nat → Bool} {held : Bool} {fuel : Nat} {a : Option Addr} {len cap : Nat} {x : DataW H × List MemPlace} (h : DataW.trod enc Try.prog w 0 spare held fuel 22 [.slice a len cap] = some x) :
    ∃ rs, IsPws w a len cap rs := by
  haveI : Inhabited RPw := ⟨zPw⟩
  rcases open_slice Try.underlying22 h with ⟨hcs, _⟩ | ⟨ad, l, c, m, n, D, Pl, hcs, _, hl, hm, hmm, _, hx⟩
  · simp at hcs
    obtain ⟨rfl, rfl, rfl⟩ := hcs
    exact ⟨[], rfl, Nat.le_refl _, by unfold maxLen; omega, by simp, .inl rfl⟩
  · simp at hcs
    obtain ⟨rfl, rfl, rfl⟩ := hcs
    have hlm : len ≤ m := by rw [hmm]; split <;> omega
    have hc : Try.prog.cellsOf 39 = 2 := by kernel_rfl
    rw [hc] at hx
    obtain ⟨f, hf⟩ := choose_lt (α := RPw) (n := len) (p := fun i r => w.cell? ((ad.add (i * 2)).add 0) = some (.float .f64 r.re) ∧ w.cell? ((ad.add (i * 2)).add 1) = some (.float .f64 r.im) ∧ PwWide r) (fun i hi => by
      obtain ⟨cs', h1, h2⟩ := hx i (by omega)
      obtain ⟨r, rfl, hw⟩ := openPw h2
      obtain ⟨_, _, hcell⟩ := World.cells?_some h1
      exact ⟨r, hcell 0 (by omega), hcell 1 (by omega), hw⟩)
    have hg : ∀ i, i < len → ((List.range len).map f).getD i zPw = f i := fun i hi => by simp [List.getD_eq_getElem?_getD, hi]
    refine ⟨(List.range len).map f, by simp, hl, hm, fun r hr => ?_, ?_⟩
    · obtain ⟨i, hi, rfl⟩ := List.mem_map.mp hr
      exact (hf i (by simpa using hi)).2.2
    · by_cases h0 : len = 0
      · exact .inl (by subst h0; rfl)
      · obtain ⟨b, off, spot⟩ := ad
        have hspot : spot = none := by simpa [Addr.add] using World.cell?_spot (hf 0 (by omega)).1
        subst hspot
        refine .inr ⟨b, off, rfl, ?_, fun i hi => ?_⟩
        · have := (hf 0 (by omega)).1
          rw [Go.WideShapes.add_plain, Go.WideShapes.add_plain] at this
          exact World.block_lt_of_cell? _ _ this
        · have hi' : i < len := by simpa using hi
          obtain ⟨q0, q1, _⟩ := hf i hi'
          rw [Go.WideShapes.add_plain, Go.WideShapes.add_plain] at q0 q1
          rw [hg i hi']
          exact ⟨q0, q1⟩
end Go.Proofs.Ytillkllkekhmfab

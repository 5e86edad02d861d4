/-
  Texts of this claim laid together: UnF, UnM, PricedW.
-/
import Derived.Test.YtbijgoaanphojaaM44
import Derived.Test.YtbijgoaanphojaaM13
import Derived.Test.YtbijgoaanphojaaM42
import Derived.Test.YtbijgoaanphojaaM43
import Derived.Test.YtbijgoaanphojaaM18
/-
  The laws' own helper eqUnitS; a list of Unit that came in, opened.
-/
namespace Go.Proofs.Ytbijgoaanphojaa
open Go.ChangeShapes Go.WideShapes Go.ChangeAt Go.RowKit Go.Deep
set_option linter.unusedVariables false

theorem eqUn_any (r0 : ByteArray) (r1 : Int) (w : World) :
    Calls Try.prog 46 #[.agg #[.string r0, .int .i64 r1], .agg #[.string r0, .int .i64 r1]] w fun e w' => e = .returned (.bool true) ∧ Below w.heap.size w w' := by
  have l1 : ∀ n : Nat, n < n + 1 + 1 := fun n => by omega
  have l2 : ∀ n : Nat, n < n + 2 := fun n => by omega
  go_enter Try.func46, Try.ntmps46
  go_wp2
  go_ret
  exact ⟨rfl, chain (below_alloc _ _) (below_alloc _ _)⟩
theorem keepUn {W w1 : World} {b0 b1 p0 p1 q0 q1 : Nat} {c0 c1 d0 d1 : Value} (hb : Below W.heap.size W w1) (h : W.cell? ⟨b0, p0, none⟩ = some c0 ∧ W.cell? ⟨b0, p1, none⟩ = some c1 ∧ W.cell? ⟨b1, q0, none⟩ = some d0 ∧ W.cell? ⟨b1, q1, none⟩ = some d1 ∧ b0 < W.heap.size ∧ b1 < W.heap.size) :
    w1.cell? ⟨b0, p0, none⟩ = some c0 ∧ w1.cell? ⟨b0, p1, none⟩ = some c1 ∧ w1.cell? ⟨b1, q0, none⟩ = some d0 ∧ w1.cell? ⟨b1, q1, none⟩ = some d1 ∧ b0 < w1.heap.size ∧ b1 < w1.heap.size := by
  obtain ⟨h0, h1, k0, k1, l0, l1⟩ := h
  exact ⟨(hb.cell (p := ⟨b0, p0, none⟩) l0).trans h0, (hb.cell (p := ⟨b0, p1, none⟩) l0).trans h1, (hb.cell (p := ⟨b1, q0, none⟩) l1).trans k0, (hb.cell (p := ⟨b1, q1, none⟩) l1).trans k1, Nat.lt_of_lt_of_le l0 hb.size, Nat.lt_of_lt_of_le l1 hb.size⟩

set_option maxHeartbeats 2000000 in
theorem eqUns_any (a b : Option Addr) (ca cb : Nat) (rs : List RUn) (hn : rs.length ≤ 1048576) (w : World) (ra : ReadsUn w.heap.size w a rs) (rb : ReadsUn w.heap.size w b rs) :
    Calls Try.prog 15 #[.slice a rs.length ca, .slice b rs.length cb] w fun e w' => e = .returned (.bool true) ∧ Below w.heap.size w w' := by
  have HA : Hid (ReadsUn w.heap.size w a rs) := ra
  have HBb : Hid (ReadsUn w.heap.size w b rs) := rb
  clear ra rb
  go_enter Try.func15, Try.ntmps15
  go_wp2
  go_loopw [5] (fun i wr => ∃ k : Nat, k ≤ rs.length ∧ i = .int .i64 (k : Int) ∧ Below w.heap.size w wr) (fun i _ => rs.length - (intOf i).toNat)
  case atStart => exact ⟨0, Nat.zero_le _, rfl, Below.refl _ _⟩
  case round =>
    obtain ⟨k, hk, rfl, hb⟩ := hrel
    have HB : Hid (Below w.heap.size w wr) := hb
    clear hb
    by_cases hlt : k < rs.length
    · have hlt' : (k : Int) < (rs.length : Int) := by omega
      rcases HA.out with h | ⟨b0, o0, ha, hB0, ia⟩
      · rw [h] at hlt; simp at hlt
      rcases HBb.out with h | ⟨b1, o1, hbb, hB1, ib⟩
      · rw [h] at hlt; simp at hlt
      obtain ⟨c0, c1⟩ := (ia.below HB.out hB0) k hlt
      obtain ⟨d0, d1⟩ := (ib.below HB.out hB1) k hlt
      have lt0 : b0 < wr.heap.size := Nat.lt_of_lt_of_le hB0 HB.out.size
      have lt1 : b1 < wr.heap.size := Nat.lt_of_lt_of_le hB1 HB.out.size
      rw [ha, hbb]
      clear ia ib
      generalize rs.getD k zUn = r at *
      obtain ⟨r0, r1⟩ := r
      dsimp only at c0 c1 d0 d1
      go_wp2
      go_region_held3 (fun W => W.cell? ⟨b0, o0 + k * 2, none⟩ = some (.string r0) ∧ W.cell? ⟨b0, o0 + k * 2 + 1, none⟩ = some (.int .i64 r1) ∧ W.cell? ⟨b1, o1 + k * 2, none⟩ = some (.string r0) ∧ W.cell? ⟨b1, o1 + k * 2 + 1, none⟩ = some (.int .i64 r1) ∧ b0 < W.heap.size ∧ b1 < W.heap.size) (first | exact ⟨c0, c1, d0, d1, lt0, lt1⟩ | exact keepUn (by assumption) (by assumption)) (first | (go_at_call 46; refine (eqUn_any _ _ _).mono ?_; rintro e w2 ⟨rfl, hb2⟩))
      have HB2 : Hid (Below w.heap.size w w2) := chain HB.out.drew hb2
      go_wp2
      go_roundw
      case rel => exact ⟨k + 1, by omega, by go_num, HB2.out⟩
      case measure => simp [intOf]; omega
    · go_wp2
      go_ret
      exact ⟨rfl, HB.out⟩

/-! ### A list that came in -/
def IsUns (w : World) (a : Option Addr) (len cap : Nat) (rs : List RUn) : Prop := rs.length = len ∧ len ≤ cap ∧ cap ≤ maxLen ∧ (∀ r ∈ rs, UnWide r) ∧ ReadsUn w.heap.size w a rs
theorem openUn {H : Type} {enc : TypeId × Value → H} {w : World} {base : Nat} {spare : Nat → Bool} {held : Bool} {fuel : Nat} {cs : List Value} {x : DataW H × List MemPlace} (h : DataW.trod enc Try.prog w base spare held fuel 68 cs = some x) :
    ∃ r : RUn, cs = [.string r.art, .int .i64 r.pr] ∧ UnWide r := by
  obtain ⟨xs, n, _, _, hl, hlen, hf⟩ := DataW.trod_struct Try.underlying68 h
  have hc : Try.prog.cellsOf 68 = 2 := by kernel_rfl
  have hcs : Try.prog.cellsOf 9 = 1 := by kernel_rfl
  have hci : Try.prog.cellsOf 3 = 1 := by kernel_rfl
  rw [hc] at hl
  obtain ⟨v0, v1, rfl⟩ : ∃ a0 a1, cs = [a0, a1] := by
    rcases cs with _ | ⟨a0, _ | ⟨a1, _ | ⟨g, r⟩⟩⟩ <;> simp at hl
    exact ⟨a0, a1, rfl⟩
  have hlen' : xs.length = 2 := hlen
  obtain ⟨y0, y1, rfl⟩ : ∃ a0 a1, xs = [a0, a1] := by
    rcases xs with _ | ⟨a0, _ | ⟨a1, _ | ⟨g, r⟩⟩⟩ <;> simp at hlen'
    exact ⟨a0, a1, rfl⟩
  clear hlen hlen' h hl
  have h0 := hf 0 _ rfl
  have h1 := hf 1 _ rfl
  clear hf
  simp [hcs, hci] at h0 h1
  obtain ⟨u0, e0, _, w0⟩ := DataW.trod_string Try.underlying9 h0
  obtain ⟨u1, e1, _, w1⟩ := DataW.trod_int Try.underlying3 h1
  simp at e0 e1
  subst e0 e1
  exact ⟨⟨u0, u1⟩, rfl, w0, w1⟩
theorem openUns {H : Type} {enc : TypeId × Value → H} {w : World} {spare : Nat → Bool} {held : Bool} {fuel : Nat} {a : Option Addr} {len cap : Nat} {x : DataW H × List MemPlace} (h : DataW.trod enc Try.prog w 0 spare held fuel 43 [.slice a len cap] = some x) :
    ∃ rs, IsUns w a len cap rs := by
  haveI : Inhabited RUn := ⟨zUn⟩
  rcases open_slice Try.underlying43 h with ⟨hcs, _⟩ | ⟨ad, l, c, m, n, D, Pl, hcs, _, hl, hm, hmm, _, hx⟩
  · simp at hcs
    obtain ⟨rfl, rfl, rfl⟩ := hcs
    exact ⟨[], rfl, Nat.le_refl _, by unfold maxLen; omega, by simp, .inl rfl⟩
  · simp at hcs
    obtain ⟨rfl, rfl, rfl⟩ := hcs
    have hlm : len ≤ m := by rw [hmm]; split <;> omega
    have hc : Try.prog.cellsOf 68 = 2 := by kernel_rfl
    rw [hc] at hx
    obtain ⟨f, hf⟩ := choose_lt (α := RUn) (n := len) (p := fun i r => w.cell? ((ad.add (i * 2)).add 0) = some (.string r.art) ∧ w.cell? ((ad.add (i * 2)).add 1) = some (.int .i64 r.pr) ∧ UnWide r) (fun i hi => by
      obtain ⟨cs', h1, h2⟩ := hx i (by omega)
      obtain ⟨r, rfl, hw⟩ := openUn h2
      obtain ⟨_, _, hcell⟩ := World.cells?_some h1
      exact ⟨r, hcell 0 (by omega), hcell 1 (by omega), hw⟩)
    have hg : ∀ i, i < len → ((List.range len).map f).getD i zUn = f i := fun i hi => by simp [List.getD_eq_getElem?_getD, hi]
    refine ⟨(List.range len).map f, by simp, hl, hm, fun r hr => ?_, ?_⟩
    · obtain ⟨i, hi, rfl⟩ := List.mem_map.mp hr
      exact (hf i (by simpa using hi)).2.2
    · by_cases h0 : len = 0
      · exact .inl (by subst h0; rfl)
      · obtain ⟨b, off, spot⟩ := ad
        have hspot : spot = none := by simpa [Addr.add] using World.cell?_spot (hf 0 (by omega)).1
        subst hspot
        refine .inr ⟨b, off, rfl, ?_, fun i hi => ?_⟩
        · have := (hf 0 (by omega)).1
          rw [Go.WideShapes.add_plain, Go.WideShapes.add_plain] at this
          exact World.block_lt_of_cell? _ _ this
        · have hi' : i < len := by simpa using hi
          obtain ⟨q0, q1, _⟩ := hf i hi'
          rw [Go.WideShapes.add_plain, Go.WideShapes.add_plain] at q0 q1
          rw [hg i hi']
          exact ⟨q0, q1⟩
end Go.Proofs.Ytbijgoaanphojaa

/-
  The laws' own markUnitS turns one block alone.
-/
namespace Go.Proofs.Ytbijgoaanphojaa
open Go.ChangeShapes Go.WideShapes Go.ChangeAt Go.RowKit Go.Deep
set_option linter.unusedVariables false

theorem uns_some {w : World} {b : Nat} {rs : List RUn} (h : UnsAt w b 0 rs) : ∀ j, j < rs.length * 2 → (w.cell? ⟨b, j, none⟩).isSome = true := fun j hj => by
  obtain ⟨h0, h1⟩ := h (j / 2) (by omega)
  rcases (show j % 2 = 0 ∨ j % 2 = 1 by omega) with e | e
  · rw [show j = 0 + j / 2 * 2 by omega, h0]; rfl
  · rw [show j = 0 + j / 2 * 2 + 1 by omega, h1]; rfl

set_option maxHeartbeats 2000000 in
theorem markUns_any (b n cap : Nat) (hn : n ≤ 1048576) (k0 : Nat) (hk : k0 ≤ 100000000) (hk1 : 1 ≤ k0) (w : World) (hM : Mk b (n * 2) w w) :
    Calls Try.prog 17 #[.slice (some ⟨b, 0, none⟩) n cap, .int .i64 (k0 : Int)] w fun e w' => e = .returned (.int .i64 ((k0 : Int) + (n : Int) * 2)) ∧ Mk b (n * 2) w w' := by
  have H0 : Hid (Mk b (n * 2) w w) := hM
  clear hM
  go_enter Try.func17, Try.ntmps17
  go_wp2
  go_loopw [1, 5] (fun k i wr => ∃ j : Nat, j ≤ n ∧ i = .int .i64 (j : Int) ∧ k = .int .i64 ((k0 : Int) + (j : Int) * 2) ∧ Mk b (n * 2) w wr) (fun _ i _ => n - (intOf i).toNat)
  case atStart => exact ⟨0, Nat.zero_le _, rfl, by simp, H0.out⟩
  case round =>
    obtain ⟨j, hj, rfl, rfl, hm⟩ := hrel
    have HM : Hid (Mk b (n * 2) w wr) := hm
    clear hm
    by_cases hlt : j < n
    · have hlt' : (j : Int) < (n : Int) := by omega
      have t0 := fun w => markText_any (k0 + j * 2) (by omega) (by omega) w
      have e0 : ((k0 + j * 2 : Nat) : Int) = (k0 : Int) + (j : Int) * 2 := by omega
      rw [e0] at t0
      clear e0
      generalize mkS (k0 + j * 2) = s0 at *
      go_wp2_with fail
      (first | go_at_call 48 | skip)
      refine (t0 _).mono ?_
      rintro e w0' ⟨rfl, hb0⟩
      have HM0 : Hid (Mk b (n * 2) w w0') := HM.out.later hb0
      obtain ⟨v0, hv0, hf0⟩ := HM0.out.at (j * 2) (by omega)
      obtain ⟨v1, hv1, hf1⟩ := HM0.out.at (j * 2 + 1) (by omega)
      clear hb0 t0
      go_wp2
      exact ⟨⟨j + 1, by omega, by go_num, by go_num, (HM0.out.set _ _).set _ _⟩, by simp [intOf]; omega⟩
    · obtain rfl : j = n := by omega
      go_wp2
      go_ret
      exact ⟨rfl, HM.out⟩
end Go.Proofs.Ytbijgoaanphojaa

/-
  The walk through the law FnExactPriced, with what the specification's Priced does as a premise.
-/
namespace Go.Proofs.Ytbijgoaanphojaa
open Go.ChangeShapes Go.WideShapes Go.ChangeAt Go.RowKit Go.Joins
open Go.ChangeMaps (open_string shut_string)
set_option linter.unusedVariables false

/-- What the specification's Priced is known to do, by its own text. -/
def SpecP (F : Nat) : Prop := ∀ (us : List RUn) (ds : List CDl) (cs : List CUs), us.length ≤ 100000000 → (∀ r ∈ us, UnOK r) → ds.length ≤ 100000000 → (∀ r ∈ ds, DlOK r) → cs.length ≤ 1048576 → (∀ r ∈ cs, UsOK r) →
  ∀ (a : Option Addr) (ca : Nat) (b : Option Addr) (cb : Nat) (g : Option Addr) (cg : Nat) (w : World), ReadsUn w.heap.size w a us → ReadsDl w.heap.size w b ds → ReadsUs w.heap.size w g cs → Calls Try.prog F #[.slice a us.length ca, .slice b ds.length cb, .slice g cs.length cg] w (AnsP us ds cs w)
theorem ptold_facts (us : List RUn) (ds : List CDl) (cs : List CUs) (hc : cs.length ≤ 1048576) (ht : totU cs ≤ 1048576) (hu : ∀ r ∈ cs, UsOK r) : (ptold us ds cs).length ≤ 1048576 ∧ totU (ptold us ds cs) ≤ 1048576 ∧ ∀ r ∈ ptold us ds cs, UsOK r := by
  unfold ptold
  split
  · refine ⟨by rw [List.length_map]; exact hc, ?_, fun r hr => ?_⟩
    · have e : totU (cs.map (told us ds)) = totU cs := by
        unfold totU; rw [List.map_map]; rfl
      omega
    · obtain ⟨u, hu', rfl⟩ := List.mem_map.mp hr
      exact hu u hu'
  · exact ⟨Nat.zero_le _, Nat.zero_le _, fun r hr => nomatch hr⟩
/-- A bargain that lies in a block of its own. -/
def BgAt (W : World) (b : Nat) (x y : Int) (q : Option Addr) (n c : Nat) : Prop := W.cell? ⟨b, 0, none⟩ = some (.int .i64 x) ∧ W.cell? ⟨b, 1, none⟩ = some (.int .i64 y) ∧ W.cell? ⟨b, 2, none⟩ = some (.slice q n c) ∧ b < W.heap.size
theorem BgAt.low {W W' : World} {b : Nat} {x y : Int} {q : Option Addr} {n c D : Nat} (h : BgAt W b x y q n c) (hb : Below D W W') (hD : b < D) : BgAt W' b x y q n c :=
  ⟨(hb.cell (p := ⟨b, 0, none⟩) hD).trans h.1, (hb.cell (p := ⟨b, 1, none⟩) hD).trans h.2.1, (hb.cell (p := ⟨b, 2, none⟩) hD).trans h.2.2.1, Nat.lt_of_lt_of_le h.2.2.2 hb.size⟩
theorem BgAt.later {W W' : World} {b : Nat} {x y : Int} {q : Option Addr} {n c : Nat} (h : BgAt W b x y q n c) (hb : Below W.heap.size W W') : BgAt W' b x y q n c := h.low hb h.2.2.2
theorem BgAt.above {W W' : World} {b : Nat} {x y : Int} {q : Option Addr} {n c lo hi : Nat} (h : BgAt W b x y q n c) (hs : Span lo hi W W') (hD : hi ≤ b) : BgAt W' b x y q n c :=
  ⟨(hs.above hD h.2.2.2 0).1.trans h.1, (hs.above hD h.2.2.2 1).1.trans h.2.1, (hs.above hD h.2.2.2 2).1.trans h.2.2.1, Nat.lt_of_lt_of_le h.2.2.2 hs.1.size⟩
theorem BgAt.new (w : World) (x y : Int) (q : Option Addr) (n c : Nat) (t : TypeId) : BgAt (w.alloc (Obj.cells #[.int .i64 x, .int .i64 y, .slice q n c] t)) w.heap.size x y q n c :=
  ⟨cellNew _ _ _ _ rfl rfl, cellNew _ _ _ _ rfl rfl, cellNew _ _ _ _ rfl rfl, by simp⟩
theorem RowUs.later {lo hi : Nat} {w w' : World} {g : Option Addr} {n : Nat} {F : Nat → CUs} (h : RowUs lo hi w g n F) (hb : Below w.heap.size w w') : RowUs lo hi w' g n F := by
  rcases h with h | ⟨b, G, C, hg, h⟩
  · exact .inl h
  · exact .inr ⟨b, G, C, hg, h.below hb h.1.2.2⟩
theorem Span.wide {lo hi lo' hi' : Nat} {w w' : World} (h : Span lo hi w w') (h1 : lo' ≤ lo) (h2 : hi ≤ hi') : Span lo' hi' w w' := ⟨h.1.mono h1, fun c o k1 k2 => h.2 c o (Nat.le_trans h2 k1) k2⟩
theorem DlMk.apart {lo hi lo' hi' : Nat} {w w' : World} {b n : Nat} {M : Nat → Nat} (h : DlMk lo hi w b n M) (hs : Span lo' hi' w w') (hD : hi' ≤ lo) : DlMk lo hi w' b n M := by
  obtain ⟨⟨h1, h2, h3⟩, h4, h5⟩ := h
  refine ⟨⟨h1, h2, Nat.le_trans h3 hs.1.size⟩, fun j hj => ?_, fun i hi => ?_⟩
  · obtain ⟨k1, k2⟩ := h4 j hj
    obtain ⟨e1, e2⟩ := hs.above (b := b) (by omega) (by omega) j
    exact ⟨by rw [e1]; exact k1, e2.trans k2⟩
  · obtain ⟨c, cp, k1, k2, k3⟩ := h5 i hi
    refine ⟨c, cp, (hs.above (b := b) (by omega) (by omega) _).1.trans k1, k2, fun j hj => ?_⟩
    obtain ⟨e1, e2⟩ := hs.above (b := c) (by omega) (by omega) j
    exact ⟨by rw [e1]; exact (k3 j hj).1, e2.trans (k3 j hj).2⟩
def UnP (W : World) (b : Nat) (us : List RUn) : Prop := b < W.heap.size ∧ UnsAt W b 0 us ∧ FreeUn W b us.length
theorem UnP.later {W W' : World} {b : Nat} {us : List RUn} (h : UnP W b us) (hb : Below W.heap.size W W') : UnP W' b us := ⟨Nat.lt_of_lt_of_le h.1 hb.size, h.2.1.below hb h.1, h.2.2.below hb h.1⟩
theorem UnP.reads {W : World} {b : Nat} {us : List RUn} (h : UnP W b us) : ReadsUn W.heap.size W (some ⟨b, 0, none⟩) us := .inr ⟨_, _, rfl, h.1, h.2.1⟩
theorem keepBB {W w1 : World} {b0 b1 : Nat} {c0 c1 c2 d0 d1 d2 : Value} (hb : Below W.heap.size W w1) (x : W.cell? ⟨b0, 0, none⟩ = some c0 ∧ W.cell? ⟨b0, 1, none⟩ = some c1 ∧ W.cell? ⟨b0, 2, none⟩ = some c2 ∧ b0 < W.heap.size ∧ W.cell? ⟨b1, 0, none⟩ = some d0 ∧ W.cell? ⟨b1, 1, none⟩ = some d1 ∧ W.cell? ⟨b1, 2, none⟩ = some d2 ∧ b1 < W.heap.size) :
    w1.cell? ⟨b0, 0, none⟩ = some c0 ∧ w1.cell? ⟨b0, 1, none⟩ = some c1 ∧ w1.cell? ⟨b0, 2, none⟩ = some c2 ∧ b0 < w1.heap.size ∧ w1.cell? ⟨b1, 0, none⟩ = some d0 ∧ w1.cell? ⟨b1, 1, none⟩ = some d1 ∧ w1.cell? ⟨b1, 2, none⟩ = some d2 ∧ b1 < w1.heap.size := by
  obtain ⟨h0, h1, h2, l0, k0, k1, k2, l1⟩ := x
  exact ⟨(hb.cell (p := ⟨b0, 0, none⟩) l0).trans h0, (hb.cell (p := ⟨b0, 1, none⟩) l0).trans h1, (hb.cell (p := ⟨b0, 2, none⟩) l0).trans h2, Nat.lt_of_lt_of_le l0 hb.size, (hb.cell (p := ⟨b1, 0, none⟩) l1).trans k0, (hb.cell (p := ⟨b1, 1, none⟩) l1).trans k1, (hb.cell (p := ⟨b1, 2, none⟩) l1).trans k2, Nat.lt_of_lt_of_le l1 hb.size⟩
def MK (L : List CUs) : Nat → CUs := mkU 1 (fun i => (L.getD i zUs).us.length)
theorem marks_all (us : List RUn) (ds : List CDl) (cs L : List CUs) (hlen : us.length ≤ 1048576) (hdlen : ds.length ≤ 1048576) (hdt : totD ds ≤ 1048576) (hdok : ∀ r ∈ ds, DlOK r) (hclen : cs.length ≤ 1048576) (hct : totU cs ≤ 1048576) (pl : L.length ≤ 1048576) (pt : totU L ≤ 1048576) :
    ∃ k1 kD kU kL : Nat,
      (∀ b cap W, Mk b (us.length * 2) W W → Calls Try.prog 17 #[.slice (some ⟨b, 0, none⟩) us.length cap, .int .i64 1] W fun e w' => e = .returned (.int .i64 (k1 : Int)) ∧ Mk b (us.length * 2) W w') ∧
      (∀ lo hi b cap W, DlMk lo hi W b ds.length (fun i => (ds.getD i zDl).arts.length) → Calls Try.prog 18 #[.slice (some ⟨b, 0, none⟩) ds.length cap, .int .i64 (k1 : Int)] W fun e w' => e = .returned (.int .i64 (kD : Int)) ∧ Span lo hi W w') ∧
      (∀ lo hi g cap W, RowUs lo hi W g cs.length (fun i => cs.getD i zUs) → Calls Try.prog 50 #[.slice g cs.length cap, .int .i64 (kD : Int)] W fun e w' => e = .returned (.int .i64 (kU : Int)) ∧ Span lo hi W w') ∧
      (∀ x y lo hi g cap W, RowUs lo hi W g L.length (fun i => L.getD i zUs) → hi ≤ W.heap.size → lo ≤ hi → Calls Try.prog 19 #[.agg #[.int .i64 x, .int .i64 y, .slice g L.length cap], .int .i64 1] W fun e w' => e = .returned (.int .i64 (kL : Int)) ∧ Span lo hi W w' ∧ RowUs lo hi w' g L.length (MK L)) ∧
      (∀ x y lo hi g cap W, RowUs lo hi W g L.length (MK L) → hi ≤ W.heap.size → Calls Try.prog 20 #[.agg #[.int .i64 x, .int .i64 y, .slice g L.length cap], .int .i64 1] W fun e w' => e = .returned (.int .i64 (kL : Int)) ∧ Below W.heap.size W w') := by
  have e1 := kAtD_all (1 + us.length * 2) ds
  have e2 := kAt_all (kAtD (1 + us.length * 2) (fun i => (ds.getD i zDl).arts.length) ds.length) cs
  have e3 := kAt_all 1 L
  refine ⟨1 + us.length * 2, kAtD (1 + us.length * 2) (fun i => (ds.getD i zDl).arts.length) ds.length, kAt (kAtD (1 + us.length * 2) (fun i => (ds.getD i zDl).arts.length) ds.length) (fun i => (cs.getD i zUs).us.length) cs.length, kAt 1 (fun i => (L.getD i zUs).us.length) L.length, ?_, ?_, ?_, ?_, ?_⟩
  · intro b cap W hM
    have h := markUns_any b us.length cap hlen 1 (by omega) (by omega) W hM
    rw [show ((1 : Nat) : Int) + (us.length : Int) * 2 = ((1 + us.length * 2 : Nat) : Int) by omega] at h
    exact h
  · intro lo hi b cap W hM
    exact markDls_any lo hi b ds.length cap _ hdlen (fun i hi => (getDl hdok hi).2.1) _ (by omega) (by omega) W hM
  · intro lo hi g cap W hM
    exact (markUss_own lo hi g cs.length cap _ hclen _ (by omega) W hM).mono fun e w' h => ⟨h.1, h.2.1⟩
  · intro x y lo hi g cap W hM h1 h2
    exact markBg_span x y lo hi g L.length cap _ pl 1 (by omega) W hM h1 h2
  · intro x y lo hi g cap W hM h1
    exact heldBg_own x y lo hi g L.length cap _ pl 1 (by omega) W hM h1
namespace PricedLaw
end PricedLaw
end Go.Proofs.Ytbijgoaanphojaa

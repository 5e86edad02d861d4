/-
  Lists of numbers and routes in bands of memory: what stays of them where other bands are written; the laws' own markIntS, eqRoute, markRoute, heldRoute.
-/
import Derived.Test.YthmhpgbkapjjkaaCellNo
import Derived.Test.YthmhpgbkapjjkaaLists
import Derived.Test.YthmhpgbkapjjkaaZiE
import Derived.Test.YthmhpgbkapjjkaaMark0
import Derived.Test.YthmhpgbkapjjkaaMarkText
import Derived.Test.YthmhpgbkapjjkaaOwn2
namespace Go.Proofs.Ythmhpgbkapjjkaa
open Go.ChangeShapes Go.WideShapes Go.ChangeAt Go.RowKit Go.Deep
set_option linter.unusedVariables false

theorem Reads.later {w w' : World} {a : Option Addr} {xs : List Int} (h : Reads w.heap.size w a xs) (hb : Below w.heap.size w w') : Reads w'.heap.size w' a xs := (h.below hb).mono hb.size
theorem IntsAt.set {w : World} {g off : Nat} {ss : List Int} (h : IntsAt w g off ss) {c : Nat} (hne : c ≠ g) (o : Nat) (v : Value) : IntsAt (w.setCell ⟨c, o, none⟩ v) g off ss := fun i hi => by
  rw [World.cell?_setCell_far _ _ _ _ hne]; exact h i hi
def Span (lo hi : Nat) (w w' : World) : Prop := Below lo w w' ∧ ∀ c o, hi ≤ c → c < w.heap.size → w'.cell? ⟨c, o, none⟩ = w.cell? ⟨c, o, none⟩ ∧ w'.frozen? ⟨c, o, none⟩ = w.frozen? ⟨c, o, none⟩
theorem Span.refl (lo hi : Nat) (w : World) : Span lo hi w w := ⟨Below.refl _ _, fun _ _ _ _ => ⟨rfl, rfl⟩⟩
theorem Span.trans {lo hi : Nat} {w w' w'' : World} (h : Span lo hi w w') (k : Span lo hi w' w'') : Span lo hi w w'' := ⟨h.1.trans k.1, fun c o h1 h2 => ⟨(k.2 c o h1 (Nat.lt_of_lt_of_le h2 h.1.size)).1.trans (h.2 c o h1 h2).1, (k.2 c o h1 (Nat.lt_of_lt_of_le h2 h.1.size)).2.trans (h.2 c o h1 h2).2⟩⟩
theorem Span.later {lo hi : Nat} {w w' w'' : World} (h : Span lo hi w w') (hlo : lo ≤ w'.heap.size) (k : Below w'.heap.size w' w'') : Span lo hi w w'' := h.trans ⟨k.mono hlo, fun c o h1 h2 => ⟨k.cell (p := ⟨c, o, none⟩) h2, k.frozen (p := ⟨c, o, none⟩) h2⟩⟩
theorem Span.set {lo hi : Nat} {w w' : World} (h : Span lo hi w w') {c : Nat} (h1 : lo ≤ c) (h2 : c < hi) (o : Nat) (v : Value) : Span lo hi w (w'.setCell ⟨c, o, none⟩ v) := h.trans ⟨(Below.refl _ _).setCell h1 _, fun d q k1 k2 => ⟨World.cell?_setCell_far _ _ _ _ (show c ≠ d by omega), World.frozen?_setCell _ _ _ _⟩⟩
theorem Span.ofMk {lo hi b m : Nat} {w w' : World} (h : Mk b m w w') (h1 : lo ≤ b) (h2 : b < hi) : Span lo hi w w' := ⟨h.1.1.mono h1, fun c o k1 k2 => ⟨World.cell?_of_block (w := w) (a := ⟨c, o, none⟩) (h.1.2.2 c (by omega) k2), World.frozen?_of_block (w := w) (a := ⟨c, o, none⟩) (h.1.2.2 c (by omega) k2)⟩⟩
theorem Span.ofOthers {lo hi b : Nat} {w w' : World} (h : Others b w w') (h1 : lo ≤ b) (h2 : b < hi) : Span lo hi w w' := ⟨h.2.2.2 lo h1, fun c o k1 k2 => ⟨h.1 c o (by omega), h.2.1 c o⟩⟩
/-- What lies from hi on is as it was. -/
theorem Span.above {lo hi : Nat} {w w' : World} (h : Span lo hi w w') {b : Nat} (h1 : hi ≤ b) (h2 : b < w.heap.size) (o : Nat) : w'.cell? ⟨b, o, none⟩ = w.cell? ⟨b, o, none⟩ ∧ w'.frozen? ⟨b, o, none⟩ = w.frozen? ⟨b, o, none⟩ := h.2 b o h1 h2
/-- Every cell that was there is there, and none of them is frozen that was not. -/
def SomeK (w w' : World) : Prop := ∀ c o, c < w.heap.size → ((w.cell? ⟨c, o, none⟩).isSome = true → (w'.cell? ⟨c, o, none⟩).isSome = true) ∧ w'.frozen? ⟨c, o, none⟩ = w.frozen? ⟨c, o, none⟩
theorem SomeK.refl (w : World) : SomeK w w := fun _ _ _ => ⟨id, rfl⟩
theorem SomeK.later {w w1 w2 : World} (h : SomeK w w1) (hz : w.heap.size ≤ w1.heap.size) (hb : Below w1.heap.size w1 w2) : SomeK w w2 := fun c o hc => by
  obtain ⟨h1, h2⟩ := h c o hc
  exact ⟨fun q => by rw [hb.cell (p := ⟨c, o, none⟩) (show c < w1.heap.size by omega)]; exact h1 q, (hb.frozen (p := ⟨c, o, none⟩) (show c < w1.heap.size by omega)).trans h2⟩
theorem SomeK.set {w w1 : World} (h : SomeK w w1) (d q : Nat) (v : Value) : SomeK w (w1.setCell ⟨d, q, none⟩ v) := fun c o hc => by
  obtain ⟨h1, h2⟩ := h c o hc
  refine ⟨fun s => ?_, by rw [World.frozen?_setCell]; exact h2⟩
  obtain ⟨u, hu⟩ := Option.isSome_iff_exists.mp (h1 s)
  by_cases e : (⟨d, q, none⟩ : Addr) = ⟨c, o, none⟩
  · rw [← e] at hu ⊢
    rw [World.cell?_setCell_same _ _ _ hu]; rfl
  · rw [World.cell?_setCell_other _ _ _ _ e, hu]; rfl
set_option maxHeartbeats 2000000 in
theorem markInts2_any (b n cap : Nat) (hn : n ≤ 1048576) (k0 : Nat) (hk : k0 ≤ 100000000) (hk1 : 1 ≤ k0) (w : World) (hM : Mk b n w w) :
    Calls Try.prog 20 #[.slice (some ⟨b, 0, none⟩) n cap, .int .i64 (k0 : Int)] w fun e w' => e = .returned (.int .i64 ((k0 : Int) + (n : Int))) ∧ Mk b n w w' ∧ SomeK w w' := by
  have H0 : Hid (Mk b n w w) := hM
  clear hM
  go_enter Try.func20, Try.ntmps20
  go_wp2
  go_loopw [1, 5] (fun k i wr => ∃ j : Nat, j ≤ n ∧ i = .int .i64 (j : Int) ∧ k = .int .i64 ((k0 : Int) + (j : Int)) ∧ Mk b n w wr ∧ SomeK w wr) (fun _ i _ => n - (intOf i).toNat)
  case atStart => exact ⟨0, Nat.zero_le _, rfl, by simp, H0.out, SomeK.refl _⟩
  case round =>
    obtain ⟨j, hj, rfl, rfl, hm, hs⟩ := hrel
    have HS : Hid (SomeK w wr) := hs
    have HM : Hid (Mk b n w wr) := hm
    clear hm hs
    by_cases hlt : j < n
    · have hlt' : (j : Int) < (n : Int) := by omega
      obtain ⟨v0, hv0, hf0⟩ := HM.out.at j (by omega)
      go_wp2
      exact ⟨⟨j + 1, by omega, by go_num, by go_num, HM.out.set _ _, HS.out.set _ _ _⟩, by simp [intOf]; omega⟩
    · obtain rfl : j = n := by omega
      go_wp2
      go_ret
      exact ⟨rfl, HM.out, HS.out⟩
/-- The numbers L in a block of their own from lo on, below hi. -/
def RowI (lo hi : Nat) (w : World) (g : Option Addr) (L : List Int) : Prop := L = [] ∨ ∃ b, g = some ⟨b, 0, none⟩ ∧ (lo ≤ b ∧ b < hi ∧ hi ≤ w.heap.size) ∧ IntsAt w b 0 L ∧ FreeAt w b 0 L.length
theorem Own2.rowI {lo : Nat} {w : World} {g : Option Addr} {L : List Int} (h : Own2 lo w g L) : RowI lo w.heap.size w g L := by
  rcases h with h | ⟨b, h1, h2, h3, h4, h5⟩
  · exact .inl h
  · exact .inr ⟨b, h1, ⟨h2, h3, Nat.le_refl _⟩, h4, h5⟩
theorem RowI.below {lo hi : Nat} {w w' : World} {g : Option Addr} {L : List Int} (h : RowI lo hi w g L) {D : Nat} (hb : Below D w w') (hD : hi ≤ D) : RowI lo hi w' g L := by
  rcases h with h | ⟨b, h1, ⟨h2, h3, h4⟩, h5, h6⟩
  · exact .inl h
  · exact .inr ⟨b, h1, ⟨h2, h3, Nat.le_trans h4 hb.size⟩, h5.below hb (by omega), h6.below hb (by omega)⟩
theorem RowI.later {lo hi : Nat} {w w' : World} {g : Option Addr} {L : List Int} (h : RowI lo hi w g L) (hb : Below w.heap.size w w') : RowI lo hi w' g L := by
  rcases h with h | ⟨b, h1, ⟨h2, h3, h4⟩, h5, h6⟩
  · exact .inl h
  · exact .inr ⟨b, h1, ⟨h2, h3, Nat.le_trans h4 hb.size⟩, h5.below hb (by omega), h6.below hb (by omega)⟩
theorem RowI.apart {lo hi : Nat} {w w' : World} {g : Option Addr} {L : List Int} (h : RowI lo hi w g L) {lo' hi' : Nat} (hs : Span lo' hi' w w') (hD : hi' ≤ lo) : RowI lo hi w' g L := by
  rcases h with h | ⟨b, h1, ⟨h2, h3, h4⟩, h5, h6⟩
  · exact .inl h
  · exact .inr ⟨b, h1, ⟨h2, h3, Nat.le_trans h4 hs.1.size⟩, fun i hi => (hs.above (b := b) (by omega) (by omega) _).1.trans (h5 i hi), fun i hi => (hs.above (b := b) (by omega) (by omega) _).2.trans (h6 i hi)⟩
theorem RowI.reads {lo hi : Nat} {w : World} {g : Option Addr} {L : List Int} (h : RowI lo hi w g L) : Reads w.heap.size w g L := by
  rcases h with h | ⟨b, h1, ⟨h2, h3, h4⟩, h5, h6⟩
  · exact .inl h
  · exact .inr ⟨b, 0, h1, by omega, h5⟩
theorem Span.wide {lo hi lo' hi' : Nat} {w w' : World} (h : Span lo hi w w') (h1 : lo' ≤ lo) (h2 : hi ≤ hi') : Span lo' hi' w w' := ⟨h.1.mono h1, fun c o k1 k2 => h.2 c o (Nat.le_trans h2 k1) k2⟩
theorem markI_any (lo hi : Nat) (g : Option Addr) (cap : Nat) (L : List Int) (hn : L.length ≤ 1048576) (k0 : Nat) (hk : k0 ≤ 90000000) (w : World) (h : RowI lo hi w g L) :
    Calls Try.prog 20 #[.slice g L.length cap, .int .i64 (k0 : Int)] w fun e w' => e = .returned (.int .i64 ((k0 + L.length : Nat) : Int)) ∧ Span lo hi w w' ∧ RowI lo hi w' g (marks k0 L.length) := by
  have e1 : ((k0 + L.length : Nat) : Int) = (k0 : Int) + (L.length : Int) := by omega
  rw [e1]
  rcases h with h | ⟨b, rfl, ⟨h2, h3, h4⟩, h5, h6⟩
  · subst h
    refine (mark_none g cap k0 w).mono ?_
    rintro e w' ⟨rfl, rfl⟩
    exact ⟨ret_int (by simp), Span.refl _ _ _, .inl rfl⟩
  · refine (mark_any b 0 L.length cap (by omega) k0 (by omega) (by omega) w (fun i h => by rw [h5 i h]; rfl) h6).mono ?_
    rintro e w' ⟨rfl, ho, hm⟩
    exact ⟨rfl, Span.ofOthers ho h2 h3, .inr ⟨b, rfl, ⟨h2, h3, by rw [ho.2.2.1]; exact h4⟩, hm, by rw [marks_length]; exact ho.free h6⟩⟩
theorem heldI_any (lo hi : Nat) (g : Option Addr) (cap n : Nat) (hn : n ≤ 1048576) (k0 : Nat) (hk : k0 ≤ 90000000) (w : World) (h : RowI lo hi w g (marks k0 n)) :
    Calls Try.prog 21 #[.slice g n cap, .int .i64 (k0 : Int)] w fun e w' => e = .returned (.int .i64 ((k0 + n : Nat) : Int)) ∧ w' = w := by
  have e1 : ((k0 + n : Nat) : Int) = (k0 : Int) + (n : Int) := by omega
  rw [e1]
  rcases h with h | ⟨b, rfl, _, hi, _⟩
  · have hz : n = 0 := by rw [← marks_length k0 n, h]; rfl
    subst hz
    refine (held_none g cap k0 w).mono ?_
    rintro e w' ⟨rfl, rfl⟩
    exact ⟨ret_int (by simp), rfl⟩
  · exact held_any b 0 n cap (by omega) k0 (by omega) (by omega) w hi
/-- A plan that lies in a block of its own: two lists, two numbers. -/
def MpAt (W : World) (b : Nat) (q : Option Addr) (n c : Nat) (s : Option Addr) (m d : Nat) (x y : Int) : Prop := (W.cell? ⟨b, 0, none⟩ = some (.slice q n c) ∧ W.cell? ⟨b, 1, none⟩ = some (.slice s m d) ∧ W.cell? ⟨b, 2, none⟩ = some (.int .i64 x) ∧ W.cell? ⟨b, 3, none⟩ = some (.int .i64 y)) ∧ b < W.heap.size
theorem MpAt.low {W W' : World} {b : Nat} {q : Option Addr} {n c : Nat} {s : Option Addr} {m d : Nat} {x y : Int} {D : Nat} (h : MpAt W b q n c s m d x y) (hb : Below D W W') (hD : b < D) : MpAt W' b q n c s m d x y :=
  ⟨⟨(hb.cell (p := ⟨b, 0, none⟩) hD).trans h.1.1, (hb.cell (p := ⟨b, 1, none⟩) hD).trans h.1.2.1, (hb.cell (p := ⟨b, 2, none⟩) hD).trans h.1.2.2.1, (hb.cell (p := ⟨b, 3, none⟩) hD).trans h.1.2.2.2⟩, Nat.lt_of_lt_of_le h.2 hb.size⟩
theorem MpAt.later {W W' : World} {b : Nat} {q : Option Addr} {n c : Nat} {s : Option Addr} {m d : Nat} {x y : Int} (h : MpAt W b q n c s m d x y) (hb : Below W.heap.size W W') : MpAt W' b q n c s m d x y := h.low hb h.2
theorem MpAt.above {W W' : World} {b : Nat} {q : Option Addr} {n c : Nat} {s : Option Addr} {m d : Nat} {x y : Int} {lo hi : Nat} (h : MpAt W b q n c s m d x y) (hs : Span lo hi W W') (hD : hi ≤ b) : MpAt W' b q n c s m d x y :=
  ⟨⟨(hs.above hD h.2 0).1.trans h.1.1, (hs.above hD h.2 1).1.trans h.1.2.1, (hs.above hD h.2 2).1.trans h.1.2.2.1, (hs.above hD h.2 3).1.trans h.1.2.2.2⟩, Nat.lt_of_lt_of_le h.2 hs.1.size⟩
theorem MpAt.new (w : World) (q : Option Addr) (n c : Nat) (s : Option Addr) (m d : Nat) (x y : Int) (t : TypeId) : MpAt (w.alloc (Obj.cells #[.slice q n c, .slice s m d, .int .i64 x, .int .i64 y] t)) w.heap.size q n c s m d x y :=
  ⟨⟨cellNew _ _ _ _ rfl rfl, cellNew _ _ _ _ rfl rfl, cellNew _ _ _ _ rfl rfl, cellNew _ _ _ _ rfl rfl⟩, by simp⟩
theorem Span.box {lo hi : Nat} {w w' : World} {o : Obj} (h : Span lo hi (w.alloc o) w') (h1 : hi ≤ w.heap.size) (h2 : lo ≤ hi) : Span lo hi w w' := by
  refine ⟨((below_alloc _ _).mono (by omega)).trans h.1, fun c o' k1 k2 => ?_⟩
  have k3 := h.2 c o' k1 (by rw [World.size_alloc]; omega)
  exact ⟨k3.1.trans (cellOld _ _ k2), k3.2.trans ((below_alloc _ _).frozen (p := ⟨c, o', none⟩) k2)⟩
theorem own2_mono' {B B' : Nat} {w : World} {g : Option Addr} {L : List Int} (h : Own2 B w g L) (hB : B' ≤ B) : Own2 B' w g L := by
  rcases h with h | ⟨b, h1, h2, h3⟩
  · exact .inl h
  · exact .inr ⟨b, h1, by omega, h3⟩
theorem RowI.set {lo hi : Nat} {w : World} {g : Option Addr} {L : List Int} (h : RowI lo hi w g L) {c : Nat} (hc : c < lo) (o : Nat) (v : Value) : RowI lo hi (w.setCell ⟨c, o, none⟩ v) g L := by
  rcases h with h | ⟨b, h1, ⟨h2, h3, h4⟩, h5, h6⟩
  · exact .inl h
  · exact .inr ⟨b, h1, ⟨h2, h3, by rw [World.size_setCell]; exact h4⟩, IntsAt.set h5 (by omega) _ _, fun i hi => by rw [World.frozen?_setCell]; exact h6 i hi⟩
theorem RowI.wide {lo hi lo' hi' : Nat} {w : World} {g : Option Addr} {L : List Int} (h : RowI lo hi w g L) (h1 : lo' ≤ lo) (h2 : hi ≤ hi') (h3 : hi' ≤ w.heap.size) : RowI lo' hi' w g L := by
  rcases h with h | ⟨b, k1, ⟨k2, k3, k4⟩, k5, k6⟩
  · exact .inl h
  · exact .inr ⟨b, k1, ⟨by omega, by omega, h3⟩, k5, k6⟩
end Go.Proofs.Ythmhpgbkapjjkaa

/-
  Texts of this claim laid together: UsM.
-/
import Derived.Test.YtbijgoaanphojaaM13
/-
  The laws' own marks on lists of uses (markUseS, markBargain), and what holds them (heldUseS, heldBargain).
-/
namespace Go.Proofs.Ytbijgoaanphojaa
open Go.ChangeShapes Go.WideShapes Go.ChangeAt Go.RowKit Go.Deep
set_option linter.unusedVariables false

/-- Blocks below lo, and those from hi on, are as they were. -/
def Span (lo hi : Nat) (w w' : World) : Prop := Below lo w w' ∧ ∀ c o, hi ≤ c → c < w.heap.size → w'.cell? ⟨c, o, none⟩ = w.cell? ⟨c, o, none⟩ ∧ w'.frozen? ⟨c, o, none⟩ = w.frozen? ⟨c, o, none⟩
theorem Span.refl (lo hi : Nat) (w : World) : Span lo hi w w := ⟨Below.refl _ _, fun _ _ _ _ => ⟨rfl, rfl⟩⟩
theorem Span.trans {lo hi : Nat} {w w' w'' : World} (h : Span lo hi w w') (k : Span lo hi w' w'') : Span lo hi w w'' := ⟨h.1.trans k.1, fun c o h1 h2 => ⟨(k.2 c o h1 (Nat.lt_of_lt_of_le h2 h.1.size)).1.trans (h.2 c o h1 h2).1, (k.2 c o h1 (Nat.lt_of_lt_of_le h2 h.1.size)).2.trans (h.2 c o h1 h2).2⟩⟩
theorem Span.later {lo hi : Nat} {w w' w'' : World} (h : Span lo hi w w') (hlo : lo ≤ w'.heap.size) (k : Below w'.heap.size w' w'') : Span lo hi w w'' := h.trans ⟨k.mono hlo, fun c o h1 h2 => ⟨k.cell (p := ⟨c, o, none⟩) h2, k.frozen (p := ⟨c, o, none⟩) h2⟩⟩
theorem Span.set {lo hi : Nat} {w w' : World} (h : Span lo hi w w') {c : Nat} (h1 : lo ≤ c) (h2 : c < hi) (o : Nat) (v : Value) : Span lo hi w (w'.setCell ⟨c, o, none⟩ v) := h.trans ⟨(Below.refl _ _).setCell h1 _, fun d q k1 k2 => ⟨World.cell?_setCell_far _ _ _ _ (show c ≠ d by omega), World.frozen?_setCell _ _ _ _⟩⟩
theorem Span.ofMk {lo hi b m : Nat} {w w' : World} (h : Mk b m w w') (h1 : lo ≤ b) (h2 : b < hi) : Span lo hi w w' := ⟨h.1.1.mono h1, fun c o k1 k2 => ⟨World.cell?_of_block (w := w) (a := ⟨c, o, none⟩) (h.1.2.2 c (by omega) k2), World.frozen?_of_block (w := w) (a := ⟨c, o, none⟩) (h.1.2.2 c (by omega) k2)⟩⟩
theorem Span.ofOthers {lo hi b : Nat} {w w' : World} (h : Others b w w') (h1 : lo ≤ b) (h2 : b < hi) : Span lo hi w w' := ⟨h.2.2.2 lo h1, fun c o k1 k2 => ⟨h.1 c o (by omega), h.2.1 c o⟩⟩
/-- What lies from hi on is as it was. -/
theorem Span.above {lo hi : Nat} {w w' : World} (h : Span lo hi w w') {b : Nat} (h1 : hi ≤ b) (h2 : b < w.heap.size) (o : Nat) : w'.cell? ⟨b, o, none⟩ = w.cell? ⟨b, o, none⟩ ∧ w'.frozen? ⟨b, o, none⟩ = w.frozen? ⟨b, o, none⟩ := h.2 b o h1 h2

def UsRow (lo hi : Nat) (w : World) (b n : Nat) (F : Nat → CUs) (G C : Nat → Nat) : Prop := (lo ≤ b ∧ b < hi ∧ hi ≤ w.heap.size) ∧ (∀ j, j < n * 3 → w.frozen? ⟨b, j, none⟩ = false) ∧
  (∀ i, i < n → (lo ≤ G i ∧ G i < hi ∧ G i ≠ b) ∧ UsAt w b (i * 3) (some ⟨G i, 0, none⟩) (C i) (F i) ∧ (IntsAt w (G i) 0 (F i).us ∧ (F i).us.length ≤ C i) ∧ FreeAt w (G i) 0 (F i).us.length) ∧
  ∀ i j, i < j → j < n → G i ≠ G j
theorem UsRow.below {lo hi : Nat} {w w' : World} {b n : Nat} {F : Nat → CUs} {G C : Nat → Nat} (h : UsRow lo hi w b n F G C) {D : Nat} (hb : Below D w w') (hD : hi ≤ D) : UsRow lo hi w' b n F G C := by
  obtain ⟨⟨h1, h2, h2'⟩, h3, h4, h5⟩ := h
  refine ⟨⟨h1, h2, Nat.le_trans h2' hb.size⟩, fun j hj => (hb.frozen (p := ⟨b, j, none⟩) (show b < D by omega)).trans (h3 j hj), fun i hi => ?_, h5⟩
  obtain ⟨⟨k1, k2, k3⟩, k4, k6, k7⟩ := h4 i hi
  exact ⟨⟨k1, k2, k3⟩, k4.below hb (by omega), ⟨k6.1.below hb (by omega), k6.2⟩, k7.below hb (by omega)⟩
/-- Marks elsewhere leave it as it was. -/
theorem UsRow.apart {lo hi : Nat} {w w' : World} {b n : Nat} {F : Nat → CUs} {G C : Nat → Nat} (h : UsRow lo hi w b n F G C) {lo' hi' : Nat} (hs : Span lo' hi' w w') (hD : hi' ≤ lo) : UsRow lo hi w' b n F G C := by
  obtain ⟨⟨h1, h2, h2'⟩, h3, h4, h5⟩ := h
  have A := fun c o (k1 : lo ≤ c) (k2 : c < hi) => hs.above (b := c) (by omega) (by omega) o
  refine ⟨⟨h1, h2, Nat.le_trans h2' hs.1.size⟩, fun j hj => (A b j h1 h2).2.trans (h3 j hj), fun i hi => ?_, h5⟩
  obtain ⟨⟨k1, k2, k3⟩, ⟨m0, m1, m2⟩, k6, k7⟩ := h4 i hi
  exact ⟨⟨k1, k2, k3⟩, ⟨(A b _ h1 h2).1.trans m0, (A b _ h1 h2).1.trans m1, (A b _ h1 h2).1.trans m2⟩, ⟨fun j hj => (A (G i) _ k1 k2).1.trans (k6.1 j hj), k6.2⟩, fun j hj => (A (G i) _ k1 k2).2.trans (k7 j hj)⟩
theorem UsRow.congr {lo hi : Nat} {w : World} {b n : Nat} {F F' : Nat → CUs} {G C : Nat → Nat} (h : UsRow lo hi w b n F G C) (e : ∀ i, i < n → F i = F' i) : UsRow lo hi w b n F' G C := by
  obtain ⟨h1, h3, h4, h5⟩ := h
  refine ⟨h1, h3, fun i hi => ?_, h5⟩
  have := h4 i hi
  rwa [e i hi] at this
theorem OwnUs.row {lo : Nat} {w : World} {g : Option Addr} {cs : List CUs} (h : OwnUs lo w g cs) : cs = [] ∨ ∃ b G C, g = some ⟨b, 0, none⟩ ∧ UsRow lo w.heap.size w b cs.length (fun i => cs.getD i zUs) G C := by
  rcases h with h | ⟨b, G, C, hg, ⟨h1, h2⟩, h3, h4, h5⟩
  · exact .inl h
  refine .inr ⟨b, G, C, hg, ⟨h1, h2, Nat.le_refl _⟩, h3, fun i hi => ?_, h5⟩
  obtain ⟨⟨k1, k2, k3⟩, k4, k5, k6, k7⟩ := h4 i hi
  exact ⟨⟨k1, k2, k3⟩, k4, ⟨k6, k5⟩, k7⟩
theorem reads_row {lo hi : Nat} {w : World} {b : Nat} {cs : List CUs} {G C : Nat → Nat} (h : UsRow lo hi w b cs.length (fun i => cs.getD i zUs) G C) : ReadsUs w.heap.size w (some ⟨b, 0, none⟩) cs := by
  obtain ⟨⟨h1, h2, h2'⟩, h3, h4, h5⟩ := h
  refine .inr ⟨b, 0, rfl, by omega, fun i hi => ?_⟩
  obtain ⟨⟨k1, k2, k3⟩, k4, k6, k7⟩ := h4 i hi
  rw [Nat.zero_add]
  exact ⟨_, _, k4, k6.2, .inr ⟨G i, 0, rfl, by omega, k6.1⟩⟩

/-- The mark that use i begins with. -/
def kAt (k0 : Nat) (L : Nat → Nat) : Nat → Nat
  | 0 => k0
  | i + 1 => kAt k0 L i + 2 + L i
theorem kAt_le (k0 : Nat) (L : Nat → Nat) (i j : Nat) (h : i ≤ j) : kAt k0 L i ≤ kAt k0 L j := by
  induction j with
  | zero => obtain rfl : i = 0 := by omega
            exact Nat.le_refl _
  | succ j ih =>
    by_cases e : i = j + 1
    · subst e; exact Nat.le_refl _
    · have := ih (by omega)
      show _ ≤ kAt k0 L j + 2 + L j
      omega
def mkU (k0 : Nat) (L : Nat → Nat) (i : Nat) : CUs := ⟨(kAt k0 L i : Int), (kAt k0 L i : Int) + 1, marks ((kAt k0 L i : Int) + 2) (L i)⟩
theorem usRow_mark {lo hi : Nat} {w w2 : World} {b n : Nat} {F : Nat → CUs} {G C : Nat → Nat} {j : Nat} {K : Int} (h : UsRow lo hi w b n F G C) (hj : j < n)
    (ho : Others (G j) ((w.setCell ⟨b, j * 3, none⟩ (.int .i64 K)).setCell ⟨b, j * 3 + 1, none⟩ (.int .i64 (K + 1))) w2) (hm : IntsAt w2 (G j) 0 (marks (K + 2) (F j).us.length)) :
    UsRow lo hi w2 b n (fun i => if i = j then ⟨K, K + 1, marks (K + 2) (F j).us.length⟩ else F i) G C ∧ w2.heap.size = w.heap.size := by
  obtain ⟨⟨h1, h2, h2'⟩, h3, h4, h5⟩ := h
  have hz : w2.heap.size = w.heap.size := by rw [ho.2.2.1, World.size_setCell, World.size_setCell]
  have fz : ∀ c o, w2.frozen? ⟨c, o, none⟩ = w.frozen? ⟨c, o, none⟩ := fun c o => by rw [ho.2.1, World.frozen?_setCell, World.frozen?_setCell]
  obtain ⟨⟨j1, j2, j3⟩, ⟨m0, m1, m2⟩, j6, j7⟩ := h4 j hj
  have cb : ∀ o, w2.cell? ⟨b, o, none⟩ = ((w.setCell ⟨b, j * 3, none⟩ (.int .i64 K)).setCell ⟨b, j * 3 + 1, none⟩ (.int .i64 (K + 1))).cell? ⟨b, o, none⟩ := fun o => ho.1 b o (Ne.symm j3)
  have ne : ∀ x y : Nat, x ≠ y → (⟨b, x, none⟩ : Addr) ≠ ⟨b, y, none⟩ := fun x y h e => h (by cases e; rfl)
  have co : ∀ o, o ≠ j * 3 → o ≠ j * 3 + 1 → w2.cell? ⟨b, o, none⟩ = w.cell? ⟨b, o, none⟩ := fun o e1 e2 => by
    rw [cb, World.cell?_setCell_other _ _ _ _ (ne _ _ (Ne.symm e2)), World.cell?_setCell_other _ _ _ _ (ne _ _ (Ne.symm e1))]
  refine ⟨⟨⟨h1, h2, by omega⟩, fun o ho' => (fz b o).trans (h3 o ho'), fun i hi => ?_, h5⟩, hz⟩
  by_cases e : i = j
  · subst e
    simp only [if_true]
    refine ⟨⟨j1, j2, j3⟩, ⟨?_, ?_, ?_⟩, ⟨hm, by rw [marks_length]; exact j6.2⟩, ?_⟩
    · rw [cb, World.cell?_setCell_other _ _ _ _ (ne _ _ (by omega)), World.cell?_setCell_same _ _ _ m0]
    · obtain ⟨v, hv⟩ : ∃ v, (w.setCell ⟨b, i * 3, none⟩ (.int .i64 K)).cell? ⟨b, i * 3 + 1, none⟩ = some v := ⟨_, by rw [World.cell?_setCell_other _ _ _ _ (ne _ _ (by omega)), m1]⟩
      rw [cb, World.cell?_setCell_same _ _ _ hv]
    · rw [co _ (by omega) (by omega), m2, marks_length]
    · rw [marks_length]; exact fun o ho' => (fz _ _).trans (j7 o ho')
  · simp only [if_neg e]
    obtain ⟨⟨k1, k2, k3⟩, ⟨n0, n1, n2⟩, k6, k7⟩ := h4 i hi
    have hne : G i ≠ G j := by
      rcases Nat.lt_or_gt_of_ne e with q | q
      · exact h5 i j q hj
      · exact Ne.symm (h5 j i q hi)
    refine ⟨⟨k1, k2, k3⟩, ⟨(co _ (by omega) (by omega)).trans n0, (co _ (by omega) (by omega)).trans n1, (co _ (by omega) (by omega)).trans n2⟩, ⟨fun o ho' => ?_, k6.2⟩, fun o ho' => (fz _ _).trans (k7 o ho')⟩
    rw [ho.1 _ _ hne, World.cell?_setCell_far _ _ _ _ (Ne.symm k3), World.cell?_setCell_far _ _ _ _ (Ne.symm k3)]
    exact k6.1 o ho'
theorem span_mark {lo hi : Nat} {w w1 w2 : World} {b n : Nat} {F : Nat → CUs} {G C : Nat → Nat} {j : Nat} {K : Int} (hs : Span lo hi w w1) (h : UsRow lo hi w1 b n F G C) (hj : j < n)
    (ho : Others (G j) ((w1.setCell ⟨b, j * 3, none⟩ (.int .i64 K)).setCell ⟨b, j * 3 + 1, none⟩ (.int .i64 (K + 1))) w2) : Span lo hi w w2 := by
  obtain ⟨⟨j1, j2, j3⟩, _⟩ := h.2.2.1 j hj
  have s1 := (hs.set h.1.1 h.1.2.1 (j * 3) (.int .i64 K)).set h.1.1 h.1.2.1 (j * 3 + 1) (.int .i64 (K + 1))
  exact s1.trans (Span.ofOthers ho j1 j2)


set_option maxHeartbeats 2000000 in
theorem markUss_any (lo hi b n cap : Nat) (F : Nat → CUs) (G C : Nat → Nat) (hn : n ≤ 1048576) (k0 : Nat) (hk : kAt k0 (fun i => (F i).us.length) n ≤ 100000000) (w : World) (hM : UsRow lo hi w b n F G C) :
    Calls Try.prog 50 #[.slice (some ⟨b, 0, none⟩) n cap, .int .i64 (k0 : Int)] w fun e w' => e = .returned (.int .i64 (kAt k0 (fun i => (F i).us.length) n : Int)) ∧ Span lo hi w w' ∧ UsRow lo hi w' b n (mkU k0 (fun i => (F i).us.length)) G C := by
  have H0 : Hid (UsRow lo hi w b n F G C) := hM
  have HK : Hid (∀ j, j ≤ n → kAt k0 (fun i => (F i).us.length) j ≤ 100000000) := fun j hj => Nat.le_trans (kAt_le _ _ j n hj) hk
  clear hM
  go_enter Try.func50, Try.ntmps50
  go_wp2
  go_loopw [1, 5] (fun k i wr => ∃ j : Nat, j ≤ n ∧ i = .int .i64 (j : Int) ∧ k = .int .i64 (kAt k0 (fun i => (F i).us.length) j : Int) ∧ Span lo hi w wr ∧ UsRow lo hi wr b n (fun i => if i < j then mkU k0 (fun i => (F i).us.length) i else F i) G C) (fun _ i _ => n - (intOf i).toNat)
  case atStart => exact ⟨0, Nat.zero_le _, rfl, rfl, Span.refl _ _ _, H0.out.congr (fun i hi => by rw [if_neg (by omega)])⟩
  case round =>
    obtain ⟨j, hj, rfl, rfl, hs, hm⟩ := hrel
    have HS : Hid (Span lo hi w wr) := hs
    have HM : Hid (UsRow lo hi wr b n (fun i => if i < j then mkU k0 (fun i => (F i).us.length) i else F i) G C) := hm
    clear hs hm
    by_cases hlt : j < n
    · have hlt' : (j : Int) < (n : Int) := by omega
      have hkj := HK.out j hj
      have hkj1 : kAt k0 (fun i => (F i).us.length) j + 2 + (F j).us.length ≤ 100000000 := HK.out (j + 1) hlt
      obtain ⟨_, ⟨c0, c1, c2⟩, c3, c4⟩ := HM.out.2.2.1 j hlt
      simp only [Nat.lt_irrefl, if_false] at c0 c1 c2 c3 c4
      have f0 : wr.frozen? ⟨b, j * 3, none⟩ = false := HM.out.2.1 _ (by omega)
      have f1 : wr.frozen? ⟨b, j * 3 + 1, none⟩ = false := HM.out.2.1 _ (by omega)
      have hGb : G j ≠ b := (HM.out.2.2.1 j hlt).1.2.2
      have HT : Hid (∀ W, W = ((wr.setCell ⟨b, j * 3, none⟩ (.int .i64 (kAt k0 (fun i => (F i).us.length) j : Int))).setCell ⟨b, j * 3 + 1, none⟩ (.int .i64 ((kAt k0 (fun i => (F i).us.length) j : Int) + 1))) → Calls Try.prog 84 #[.slice (some ⟨G j, 0, none⟩) (F j).us.length (C j), .int .i64 ((kAt k0 (fun i => (F i).us.length) j : Int) + 1 + 1)] W fun e w' => e = .returned (.int .i64 ((kAt k0 (fun i => (F i).us.length) j : Int) + 1 + 1 + ((F j).us.length : Int))) ∧ Span lo hi w w' ∧ UsRow lo hi w' b n (fun i => if i < j + 1 then mkU k0 (fun i => (F i).us.length) i else F i) G C) := fun W hW => by
        subst hW
        refine (mark_any (G j) 0 (F j).us.length (C j) (by omega) _ (by omega) (by omega) _ (fun i hi => ?_) (fun i hi => ?_)).mono ?_
        · rw [World.cell?_setCell_far _ _ _ _ (Ne.symm hGb), World.cell?_setCell_far _ _ _ _ (Ne.symm hGb), c3.1 i hi]; rfl
        · rw [World.frozen?_setCell, World.frozen?_setCell]; exact c4 i hi
        · rintro e w' ⟨rfl, ho, hi⟩
          have e2 : (kAt k0 (fun i => (F i).us.length) j : Int) + 1 + 1 = (kAt k0 (fun i => (F i).us.length) j : Int) + 2 := by omega
          rw [e2] at hi
          have hr := (usRow_mark (K := (kAt k0 (fun i => (F i).us.length) j : Int)) HM.out hlt ho (by simpa only [Nat.lt_irrefl, if_false] using hi)).1
          refine ⟨rfl, span_mark HS.out HM.out hlt ho, hr.congr fun i hi' => ?_⟩
          by_cases q : i = j
          · subst q
            rw [if_pos rfl]; simp only [Nat.lt_irrefl, if_false, Nat.lt_succ_self, if_true]; rfl
          · rw [if_neg q]
            by_cases q2 : i < j
            · rw [if_pos q2, if_pos (by omega)]
            · rw [if_neg q2, if_neg (by omega)]
      have HE : Hid ((kAt k0 (fun i => (F i).us.length) (j + 1) : Int) = (kAt k0 (fun i => (F i).us.length) j : Int) + 1 + 1 + ((F j).us.length : Int)) := by
        show ((kAt k0 (fun i => (F i).us.length) j + 2 + (F j).us.length : Nat) : Int) = _
        omega
      clear c3 c4 hkj1
      generalize hKj : kAt k0 (fun i => (F i).us.length) j = K at *
      clear hKj
      generalize (F j).us.length = m at *
      generalize (F j).dl = x0 at *
      generalize (F j).sv = x1 at *
      have hne : b ≠ G j := Ne.symm hGb
      generalize G j = gj at *
      generalize C j = cj at *
      go_wp2_with (go_at_call 84; refine (HT.out _ rfl).mono ?_; rintro e w2 ⟨rfl, hs2, hr2⟩; have HS2 : Hid _ := hs2; have HR2 : Hid _ := hr2; clear hs2 hr2)
      exact ⟨⟨j + 1, by omega, by go_num, by rw [HE.out], HS2.out, HR2.out⟩, by simp [intOf]; omega⟩
    · obtain rfl : j = n := by omega
      go_wp2
      go_ret
      exact ⟨rfl, HS.out, HM.out.congr (fun i hi => by rw [if_pos hi])⟩
theorem markUss_none (a : Option Addr) (cap : Nat) (k0 : Int) (w : World) :
    Calls Try.prog 50 #[.slice a 0 cap, .int .i64 k0] w fun e w' => e = .returned (.int .i64 k0) ∧ w' = w := by
  go_enter Try.func50, Try.ntmps50
  go_wp2
  go_loop [1, 5] (fun k i => i = .int .i64 0 ∧ k = .int .i64 k0) (fun _ i => 0)
  case atStart => exact ⟨rfl, rfl⟩
  case round =>
    obtain ⟨rfl, rfl⟩ := hrel
    go_wp2
    go_ret
    exact ⟨rfl, rfl⟩
def RowUs (lo hi : Nat) (w : World) (g : Option Addr) (n : Nat) (F : Nat → CUs) : Prop := n = 0 ∨ ∃ b G C, g = some ⟨b, 0, none⟩ ∧ UsRow lo hi w b n F G C
theorem RowUs.below {lo hi : Nat} {w w' : World} {g : Option Addr} {n : Nat} {F : Nat → CUs} (h : RowUs lo hi w g n F) {D : Nat} (hb : Below D w w') (hD : hi ≤ D) : RowUs lo hi w' g n F := by
  rcases h with h | ⟨b, G, C, hg, h⟩
  · exact .inl h
  · exact .inr ⟨b, G, C, hg, h.below hb hD⟩
theorem RowUs.apart {lo hi : Nat} {w w' : World} {g : Option Addr} {n : Nat} {F : Nat → CUs} (h : RowUs lo hi w g n F) {lo' hi' : Nat} (hs : Span lo' hi' w w') (hD : hi' ≤ lo) : RowUs lo hi w' g n F := by
  rcases h with h | ⟨b, G, C, hg, h⟩
  · exact .inl h
  · exact .inr ⟨b, G, C, hg, h.apart hs hD⟩
theorem OwnUs.rowUs {lo : Nat} {w : World} {g : Option Addr} {cs : List CUs} (h : OwnUs lo w g cs) : RowUs lo w.heap.size w g cs.length (fun i => cs.getD i zUs) := by
  rcases h.row with h | h
  · exact .inl (by rw [h]; rfl)
  · exact .inr h
theorem RowUs.reads {lo hi : Nat} {w : World} {g : Option Addr} {cs : List CUs} (h : RowUs lo hi w g cs.length (fun i => cs.getD i zUs)) : ReadsUs w.heap.size w g cs := by
  rcases h with h | ⟨b, G, C, rfl, h⟩
  · exact .inl (List.eq_nil_of_length_eq_zero h)
  · exact reads_row h
theorem markUss_own (lo hi : Nat) (g : Option Addr) (n cap : Nat) (F : Nat → CUs) (hn : n ≤ 1048576) (k0 : Nat) (hk : kAt k0 (fun i => (F i).us.length) n ≤ 100000000) (w : World) (hM : RowUs lo hi w g n F) :
    Calls Try.prog 50 #[.slice g n cap, .int .i64 (k0 : Int)] w fun e w' => e = .returned (.int .i64 (kAt k0 (fun i => (F i).us.length) n : Int)) ∧ Span lo hi w w' ∧ RowUs lo hi w' g n (mkU k0 (fun i => (F i).us.length)) := by
  rcases hM with h | ⟨b, G, C, rfl, h⟩
  · subst h
    exact (markUss_none g cap k0 w).mono fun e w' ⟨h1, h2⟩ => ⟨h1, by rw [h2]; exact Span.refl _ _ _, .inl rfl⟩
  · exact (markUss_any lo hi b n cap F G C hn k0 hk w h).mono fun e w' ⟨h1, h2, h3⟩ => ⟨h1, h2, .inr ⟨b, G, C, rfl, h3⟩⟩


set_option maxHeartbeats 2000000 in
theorem heldUss_any (lo hi b n cap : Nat) (L : Nat → Nat) (G C : Nat → Nat) (hn : n ≤ 1048576) (k0 : Nat) (hk : kAt k0 L n ≤ 100000000) (w : World) (hM : UsRow lo hi w b n (mkU k0 L) G C) :
    Calls Try.prog 51 #[.slice (some ⟨b, 0, none⟩) n cap, .int .i64 (k0 : Int)] w fun e w' => e = .returned (.int .i64 (kAt k0 L n : Int)) ∧ w' = w := by
  have HM : Hid (UsRow lo hi w b n (mkU k0 L) G C) := hM
  have HK : Hid (∀ j, j ≤ n → kAt k0 L j ≤ 100000000) := fun j hj => Nat.le_trans (kAt_le _ _ j n hj) hk
  clear hM
  go_enter Try.func51, Try.ntmps51
  go_wp2
  go_loop [1, 5] (fun k i => ∃ j : Nat, j ≤ n ∧ i = .int .i64 (j : Int) ∧ k = .int .i64 (kAt k0 L j : Int)) (fun _ i => n - (intOf i).toNat)
  case atStart => exact ⟨0, Nat.zero_le _, rfl, rfl⟩
  case round =>
    obtain ⟨j, hj, rfl, rfl⟩ := hrel
    by_cases hlt : j < n
    · have hlt' : (j : Int) < (n : Int) := by omega
      have hkj := HK.out j hj
      have hkj1 : kAt k0 L j + 2 + L j ≤ 100000000 := HK.out (j + 1) hlt
      obtain ⟨_, ⟨c0, c1, c2⟩, ⟨c3, _⟩, _⟩ := HM.out.2.2.1 j hlt
      have c0' : w.cell? ⟨b, j * 3, none⟩ = some (.int .i64 (kAt k0 L j : Int)) := c0
      have c1' : w.cell? ⟨b, j * 3 + 1, none⟩ = some (.int .i64 ((kAt k0 L j : Int) + 1)) := c1
      have c2' : w.cell? ⟨b, j * 3 + 2, none⟩ = some (.slice (some ⟨G j, 0, none⟩) (L j) (C j)) := by rw [c2]; show some (Value.slice _ (marks _ _).length _) = _; rw [marks_length]
      have HT : Hid (∀ W, W = w → Calls Try.prog 85 #[.slice (some ⟨G j, 0, none⟩) (L j) (C j), .int .i64 ((kAt k0 L j : Int) + 1 + 1)] W fun e w' => e = .returned (.int .i64 ((kAt k0 L j : Int) + 1 + 1 + (L j : Int))) ∧ w' = W) := fun W hW => by
        subst hW
        refine held_any (G j) 0 (L j) (C j) (by omega) _ (by omega) (by omega) _ ?_
        have e2 : (kAt k0 L j : Int) + 1 + 1 = (kAt k0 L j : Int) + 2 := by omega
        rw [e2]; exact c3
      have HE : Hid ((kAt k0 L (j + 1) : Int) = (kAt k0 L j : Int) + 1 + 1 + (L j : Int)) := by
        show ((kAt k0 L j + 2 + L j : Nat) : Int) = _
        omega
      clear c0 c1 c2 c3 hkj1
      generalize kAt k0 L j = K at *
      generalize L j = m at *
      generalize G j = gj at *
      generalize C j = cj at *
      have hpos : ¬ ((K : Int) + 1 + 1 + (m : Int) < 0) := by omega
      go_wp2_with (go_at_call 85; refine (HT.out _ rfl).mono ?_; rintro e w2 ⟨rfl, rfl⟩)
      exact ⟨⟨j + 1, by omega, by go_num, by rw [HE.out]⟩, by simp [intOf]; omega⟩
    · obtain rfl : j = n := by omega
      go_wp2
      go_ret
      exact ⟨rfl, rfl⟩
theorem heldUss_none (a : Option Addr) (cap : Nat) (k0 : Int) (w : World) :
    Calls Try.prog 51 #[.slice a 0 cap, .int .i64 k0] w fun e w' => e = .returned (.int .i64 k0) ∧ w' = w := by
  go_enter Try.func51, Try.ntmps51
  go_wp2
  go_loop [1, 5] (fun k i => i = .int .i64 0 ∧ k = .int .i64 k0) (fun _ i => 0)
  case atStart => exact ⟨rfl, rfl⟩
  case round =>
    obtain ⟨rfl, rfl⟩ := hrel
    go_wp2
    go_ret
    exact ⟨rfl, rfl⟩
theorem heldUss_own (lo hi : Nat) (g : Option Addr) (n cap : Nat) (L : Nat → Nat) (hn : n ≤ 1048576) (k0 : Nat) (hk : kAt k0 L n ≤ 100000000) (w : World) (hM : RowUs lo hi w g n (mkU k0 L)) :
    Calls Try.prog 51 #[.slice g n cap, .int .i64 (k0 : Int)] w fun e w' => e = .returned (.int .i64 (kAt k0 L n : Int)) ∧ w' = w := by
  rcases hM with h | ⟨b, G, C, rfl, h⟩
  · subst h
    exact heldUss_none g cap k0 w
  · exact heldUss_any lo hi b n cap L G C hn k0 hk w h


theorem markBg_own (x y : Int) (lo hi : Nat) (g : Option Addr) (n cap : Nat) (F : Nat → CUs) (hn : n ≤ 1048576) (k0 : Nat) (hk : kAt k0 (fun i => (F i).us.length) n ≤ 100000000) (w : World) (hM : RowUs lo hi w g n F) (hlo : hi ≤ w.heap.size) (hl2 : lo ≤ hi) :
    Calls Try.prog 19 #[.agg #[.int .i64 x, .int .i64 y, .slice g n cap], .int .i64 (k0 : Int)] w fun e w' => e = .returned (.int .i64 (kAt k0 (fun i => (F i).us.length) n : Int)) ∧ Below lo w w' ∧ RowUs lo hi w' g n (mkU k0 (fun i => (F i).us.length)) := by
  have HT : Hid (∀ W, Below w.heap.size w W → Calls Try.prog 50 #[.slice g n cap, .int .i64 (k0 : Int)] W fun e w' => e = .returned (.int .i64 (kAt k0 (fun i => (F i).us.length) n : Int)) ∧ Span lo hi W w' ∧ RowUs lo hi w' g n (mkU k0 (fun i => (F i).us.length))) := fun W hb => markUss_own lo hi g n cap F hn k0 hk W (hM.below hb hlo)
  clear hM
  generalize kAt k0 (fun i => (F i).us.length) n = kk at *
  go_enter Try.func19, Try.ntmps19
  go_wp2_with (go_at_call 50; refine (HT.out _ (below_alloc _ _)).mono ?_; rintro e w2 ⟨rfl, hs2, hr2⟩; have HS2 : Hid _ := hs2; have HR2 : Hid _ := hr2; clear hs2 hr2)
  go_ret
  exact ⟨rfl, ((below_alloc _ _).mono (by omega)).trans HS2.out.1, HR2.out⟩
theorem heldBg_own (x y : Int) (lo hi : Nat) (g : Option Addr) (n cap : Nat) (L : Nat → Nat) (hn : n ≤ 1048576) (k0 : Nat) (hk : kAt k0 L n ≤ 100000000) (w : World) (hM : RowUs lo hi w g n (mkU k0 L)) (hlo : hi ≤ w.heap.size) :
    Calls Try.prog 20 #[.agg #[.int .i64 x, .int .i64 y, .slice g n cap], .int .i64 (k0 : Int)] w fun e w' => e = .returned (.int .i64 (kAt k0 L n : Int)) ∧ Below w.heap.size w w' := by
  have HT : Hid (∀ W, Below w.heap.size w W → Calls Try.prog 51 #[.slice g n cap, .int .i64 (k0 : Int)] W fun e w' => e = .returned (.int .i64 (kAt k0 L n : Int)) ∧ w' = W) := fun W hb => heldUss_own lo hi g n cap L hn k0 hk W (hM.below hb hlo)
  clear hM
  generalize kAt k0 L n = kk at *
  have hpos : ¬ ((kk : Int) < 0) := by omega
  go_enter Try.func20, Try.ntmps20
  go_wp2_with (go_at_call 51; refine (HT.out _ (below_alloc _ _)).mono ?_; rintro e w2 ⟨rfl, rfl⟩)
  go_ret
  exact ⟨rfl, below_alloc _ _⟩

end Go.Proofs.Ytbijgoaanphojaa

/-
  The specification's HeldOf: right coins and some of them; what coins come to, and how many they are.
-/
import Derived.Test.YtngnmlifbjpkoaaDrawCo
import Derived.Test.YtngnmlifbjpkoaaChM
namespace Go.Proofs.Ytngnmlifbjpkoaa
open Go.ChangeShapes Go.WideShapes Go.ChangeAt Go.RowKit
set_option linter.unusedVariables false

/-- A list's numbers as counts. -/
def cF (L : List Int) (i : Nat) : Nat := (L.getD i 0).toNat
theorem wrt_bound (rs : List RCo) (hr : ∀ r ∈ rs, 1 ≤ r.vl ∧ r.vl ≤ 100000 ∧ 0 ≤ r.ct ∧ r.ct ≤ 60) (L : List Int) (hL : ∀ i, i < rs.length → 0 ≤ L.getD i 0 ∧ L.getD i 0 ≤ 60) : ∀ k, k ≤ rs.length → wrt rs (cF L) k ≤ 6000000 * k
  | 0, _ => by simp [wrt]
  | k + 1, hk => by
    have ih := wrt_bound rs hr L hL k (by omega)
    have h1 := getCo hr (show k < rs.length by omega)
    have h2 := hL k (by omega)
    have h3 : (rs.getD k zCo).vl.toNat * cF L k ≤ 100000 * 60 := Nat.mul_le_mul (by omega) (by unfold cF; omega)
    show wrt rs (cF L) k + (rs.getD k zCo).vl.toNat * cF L k ≤ _
    omega
theorem wrt_next (rs : List RCo) (L : List Int) (k : Nat) (h1 : 1 ≤ (rs.getD k zCo).vl) (h2 : 0 ≤ L.getD k 0) : ((wrt rs (cF L) (k + 1) : Nat) : Int) = (wrt rs (cF L) k : Int) + (rs.getD k zCo).vl * L.getD k 0 := by
  show ((wrt rs (cF L) k + (rs.getD k zCo).vl.toNat * cF L k : Nat) : Int) = _
  rw [Int.natCast_add, Int.natCast_mul]
  unfold cF
  rw [Int.toNat_of_nonneg h2, Int.toNat_of_nonneg (by omega)]
theorem prod_bound (v x : Int) (h1 : 1 ≤ v) (h2 : v ≤ 100000) (h3 : 0 ≤ x) (h4 : x ≤ 60) : 0 ≤ v * x ∧ v * x ≤ 6000000 := by
  refine ⟨Int.mul_nonneg (by omega) h3, ?_⟩
  have := Int.mul_le_mul h2 h4 h3 (by omega)
  omega

set_option maxHeartbeats 800000 in
theorem worth_any1 (a1 a2 : Option Addr) (c1 c2 : Nat) (rs : List RCo) (L : List Int) (hl : L.length = rs.length) (h12 : rs.length ≤ 12) (hr : ∀ r ∈ rs, 1 ≤ r.vl ∧ r.vl ≤ 100000 ∧ 0 ≤ r.ct ∧ r.ct ≤ 60) (hL : ∀ i, i < rs.length → 0 ≤ L.getD i 0 ∧ L.getD i 0 ≤ 60) (w : World) (h1 : ReadsCo w.heap.size w a1 rs) (h2 : Reads w.heap.size w a2 L) :
    Calls Try.prog 5 #[.slice a1 rs.length c1, .slice a2 rs.length c2] w fun e w' => e = .returned (.int .i64 ((wrt rs (cF L) rs.length : Nat) : Int)) ∧ Below w.heap.size w w' := by
  have H1 : Hid (ReadsCo w.heap.size w a1 rs) := h1
  have H2 : Hid (Reads w.heap.size w a2 L) := h2
  have HB : Hid (∀ k, k ≤ rs.length → wrt rs (cF L) k ≤ 6000000 * k) := wrt_bound rs hr L hL
  have HR : Hid (∀ r ∈ rs, 1 ≤ r.vl ∧ r.vl ≤ 100000 ∧ 0 ≤ r.ct ∧ r.ct ≤ 60) := hr
  have HL : Hid (∀ i, i < rs.length → 0 ≤ L.getD i 0 ∧ L.getD i 0 ≤ 60) := hL
  have HLl : Hid (L.length = rs.length) := hl
  clear h1 h2 hr hL hl
  go_enter Try.func5, Try.ntmps5
  go_wp2
  go_loopw [5, 6] (fun n x wr => ∃ (k : Nat) (z : Int), k ≤ rs.length ∧ x = .int .i64 (k : Int) ∧ n = .int .i64 z ∧ z = ((wrt rs (cF L) k : Nat) : Int) ∧ Below w.heap.size w wr) (fun _ x _ => rs.length - (intOf x).toNat)
  case atStart => exact ⟨0, 0, Nat.zero_le _, rfl, rfl, rfl, Below.refl _ _⟩
  case round =>
    obtain ⟨k, z, hk, rfl, rfl, hz, hb⟩ := hrel
    have HBl : Hid (Below w.heap.size w wr) := hb
    clear hb
    by_cases hlt : k < rs.length
    · have hlt' : (k : Int) < (rs.length : Int) := by omega
      have hzb : 0 ≤ z ∧ z ≤ 72000000 := by have := HB.out k hk; omega
      rcases H1.out with h | ⟨b0, o0, ha, hB0, ia⟩
      · rw [h] at hlt; simp at hlt
      rcases H2.out with h | ⟨b1, o1, ha1, hB1, ib⟩
      · exfalso; have := HLl.out; rw [h] at this; simp at this; omega
      subst ha ha1
      obtain ⟨q0, q1⟩ := (ia.below HBl.out hB0) k hlt
      have q2 := (ib.below HBl.out hB1) k (by rw [HLl.out]; exact hlt)
      have hn := wrt_next rs L k (getCo HR.out hlt).1 (HL.out k hlt).1
      have g1 := getCo HR.out hlt
      have g2 := HL.out k hlt
      have HN : Hid (((wrt rs (cF L) (k + 1) : Nat) : Int) = z + (rs.getD k zCo).vl * L.getD k 0) := by rw [hz]; exact hn
      clear ia ib hn hz
      generalize rs.getD k zCo = r at *
      obtain ⟨rv, rc⟩ := r
      generalize L.getD k 0 = x at *
      dsimp only at q0 q1 g1 HN
      have pb := prod_bound rv x g1.1 g1.2.1 g2.1 g2.2
      have wr1 : IntKind.i64.wrap (rv * x) = rv * x := wrap_id _ (by omega) (by omega)
      have wr2 : IntKind.i64.wrap (z + rv * x) = z + rv * x := wrap_id _ (by omega) (by omega)
      go_wp2
      go_quiet (fail)
      go_wp2
      exact ⟨⟨k + 1, _, by omega, by go_num, rfl, by rw [HN.out], below_drewN HBl.out _⟩, by simp [intOf]; omega⟩
    · obtain rfl : k = rs.length := by omega
      go_wp2
      go_ret
      exact ⟨ret_int hz, HBl.out⟩

set_option maxHeartbeats 800000 in
theorem worth_any2 (a1 a2 : Option Addr) (c1 c2 : Nat) (rs : List RCo) (L : List Int) (hl : L.length = rs.length) (h12 : rs.length ≤ 12) (hr : ∀ r ∈ rs, 1 ≤ r.vl ∧ r.vl ≤ 100000 ∧ 0 ≤ r.ct ∧ r.ct ≤ 60) (hL : ∀ i, i < rs.length → 0 ≤ L.getD i 0 ∧ L.getD i 0 ≤ 60) (w : World) (h1 : ReadsCo w.heap.size w a1 rs) (h2 : Reads w.heap.size w a2 L) :
    Calls Try.prog 15 #[.slice a1 rs.length c1, .slice a2 rs.length c2] w fun e w' => e = .returned (.int .i64 ((wrt rs (cF L) rs.length : Nat) : Int)) ∧ Below w.heap.size w w' := by
  have H1 : Hid (ReadsCo w.heap.size w a1 rs) := h1
  have H2 : Hid (Reads w.heap.size w a2 L) := h2
  have HB : Hid (∀ k, k ≤ rs.length → wrt rs (cF L) k ≤ 6000000 * k) := wrt_bound rs hr L hL
  have HR : Hid (∀ r ∈ rs, 1 ≤ r.vl ∧ r.vl ≤ 100000 ∧ 0 ≤ r.ct ∧ r.ct ≤ 60) := hr
  have HL : Hid (∀ i, i < rs.length → 0 ≤ L.getD i 0 ∧ L.getD i 0 ≤ 60) := hL
  have HLl : Hid (L.length = rs.length) := hl
  clear h1 h2 hr hL hl
  go_enter Try.func15, Try.ntmps15
  go_wp2
  go_loopw [5, 6] (fun n x wr => ∃ (k : Nat) (z : Int), k ≤ rs.length ∧ x = .int .i64 (k : Int) ∧ n = .int .i64 z ∧ z = ((wrt rs (cF L) k : Nat) : Int) ∧ Below w.heap.size w wr) (fun _ x _ => rs.length - (intOf x).toNat)
  case atStart => exact ⟨0, 0, Nat.zero_le _, rfl, rfl, rfl, Below.refl _ _⟩
  case round =>
    obtain ⟨k, z, hk, rfl, rfl, hz, hb⟩ := hrel
    have HBl : Hid (Below w.heap.size w wr) := hb
    clear hb
    by_cases hlt : k < rs.length
    · have hlt' : (k : Int) < (rs.length : Int) := by omega
      have hzb : 0 ≤ z ∧ z ≤ 72000000 := by have := HB.out k hk; omega
      rcases H1.out with h | ⟨b0, o0, ha, hB0, ia⟩
      · rw [h] at hlt; simp at hlt
      rcases H2.out with h | ⟨b1, o1, ha1, hB1, ib⟩
      · exfalso; have := HLl.out; rw [h] at this; simp at this; omega
      subst ha ha1
      obtain ⟨q0, q1⟩ := (ia.below HBl.out hB0) k hlt
      have q2 := (ib.below HBl.out hB1) k (by rw [HLl.out]; exact hlt)
      have hn := wrt_next rs L k (getCo HR.out hlt).1 (HL.out k hlt).1
      have g1 := getCo HR.out hlt
      have g2 := HL.out k hlt
      have HN : Hid (((wrt rs (cF L) (k + 1) : Nat) : Int) = z + (rs.getD k zCo).vl * L.getD k 0) := by rw [hz]; exact hn
      clear ia ib hn hz
      generalize rs.getD k zCo = r at *
      obtain ⟨rv, rc⟩ := r
      generalize L.getD k 0 = x at *
      dsimp only at q0 q1 g1 HN
      have pb := prod_bound rv x g1.1 g1.2.1 g2.1 g2.2
      have wr1 : IntKind.i64.wrap (rv * x) = rv * x := wrap_id _ (by omega) (by omega)
      have wr2 : IntKind.i64.wrap (z + rv * x) = z + rv * x := wrap_id _ (by omega) (by omega)
      go_wp2
      go_quiet (fail)
      go_wp2
      exact ⟨⟨k + 1, _, by omega, by go_num, rfl, by rw [HN.out], below_drewN HBl.out _⟩, by simp [intOf]; omega⟩
    · obtain rfl : k = rs.length := by omega
      go_wp2
      go_ret
      exact ⟨ret_int hz, HBl.out⟩

theorem cnt_next (L : List Int) (k : Nat) (h : 0 ≤ L.getD k 0) : ((cnt (cF L) (k + 1) : Nat) : Int) = (cnt (cF L) k : Int) + L.getD k 0 := by
  show ((cnt (cF L) k + cF L k : Nat) : Int) = _
  unfold cF
  omega
theorem cnt_bound (L : List Int) (hL : ∀ i, i < L.length → 0 ≤ L.getD i 0 ∧ L.getD i 0 ≤ 60) : ∀ k, k ≤ L.length → cnt (cF L) k ≤ 60 * k
  | 0, _ => by simp [cnt]
  | k + 1, hk => by
    have ih := cnt_bound L hL k (by omega)
    have h2 := hL k (by omega)
    show cnt (cF L) k + cF L k ≤ _
    unfold cF at *
    omega
set_option maxHeartbeats 800000 in
theorem sum_co (a2 : Option Addr) (c2 : Nat) (L : List Int) (h12 : L.length ≤ 12) (hL : ∀ i, i < L.length → 0 ≤ L.getD i 0 ∧ L.getD i 0 ≤ 60) (w : World) (h2 : Reads w.heap.size w a2 L) :
    Calls Try.prog 8 #[.slice a2 L.length c2] w fun e w' => e = .returned (.int .i64 ((cnt (cF L) L.length : Nat) : Int)) ∧ Below w.heap.size w w' := by
  have H2 : Hid (Reads w.heap.size w a2 L) := h2
  have HB : Hid (∀ k, k ≤ L.length → cnt (cF L) k ≤ 60 * k) := cnt_bound L hL
  have HL : Hid (∀ i, i < L.length → 0 ≤ L.getD i 0 ∧ L.getD i 0 ≤ 60) := hL
  clear h2 hL
  go_enter Try.func8, Try.ntmps8
  go_wp2
  go_loopw [3, 4] (fun n x wr => ∃ (k : Nat) (z : Int), k ≤ L.length ∧ x = .int .i64 (k : Int) ∧ n = .int .i64 z ∧ z = ((cnt (cF L) k : Nat) : Int) ∧ Below w.heap.size w wr) (fun _ x _ => L.length - (intOf x).toNat)
  case atStart => exact ⟨0, 0, Nat.zero_le _, rfl, rfl, rfl, Below.refl _ _⟩
  case round =>
    obtain ⟨k, z, hk, rfl, rfl, hz, hb⟩ := hrel
    have HBl : Hid (Below w.heap.size w wr) := hb
    clear hb
    by_cases hlt : k < L.length
    · have hlt' : (k : Int) < (L.length : Int) := by omega
      have hzb : 0 ≤ z ∧ z ≤ 1000 := by have := HB.out k hk; omega
      rcases H2.out with h | ⟨b1, o1, ha1, hB1, ib⟩
      · rw [h] at hlt; simp at hlt
      subst ha1
      have q2 := (ib.below HBl.out hB1) k hlt
      have g2 := HL.out k hlt
      have HN : Hid (((cnt (cF L) (k + 1) : Nat) : Int) = z + L.getD k 0) := by rw [hz]; exact cnt_next L k (HL.out k hlt).1
      clear ib hz
      generalize L.getD k 0 = x at *
      go_wp2
      (first | go_quiet (fail) | skip)
      go_wp2
      exact ⟨⟨k + 1, _, by omega, by go_num, rfl, by rw [HN.out], by first | exact below_drewN HBl.out _ | exact HBl.out.drew | exact HBl.out⟩, by simp [intOf]; omega⟩
    · obtain rfl : k = L.length := by omega
      go_wp2
      go_ret
      exact ⟨ret_int hz, HBl.out⟩

/-- The source in block b, the coins in block g, some of them in a row of their own from block B on. -/
def HoSt (w : World) (b : Nat) (a : Option Addr) (len cap g B : Nat) (rs : List RCo) (v : Value) (L : List Int) (at' sd : Int) (wr : World) : Prop :=
  wr.ownsRow B 3 1 v L.length (L.map (Value.int .i64)) ∧ B ≤ wr.heap.size ∧ Src wr b a len cap at' sd ∧ Below b w wr ∧ CosAt wr g 0 rs ∧ b < g ∧ g < B
theorem cosAt_same {w w' : World} {g : Nat} {rs : List RCo} (h : CosAt w g 0 rs) (e : w'.heap[g]? = w.heap[g]?) : CosAt w' g 0 rs := fun i hi =>
  ⟨(World.cell?_of_block (w := w) (a := ⟨g, 0 + i * 2, none⟩) e).trans (h i hi).1, (World.cell?_of_block (w := w) (a := ⟨g, 0 + i * 2 + 1, none⟩) e).trans (h i hi).2⟩
theorem HoSt.draw {w : World} {b : Nat} {a : Option Addr} {len cap g B : Nat} {rs : List RCo} {v : Value} {L : List Int} {at' sd at2 sd2 : Int} {wr w' : World} (h : HoSt w b a len cap g B rs v L at' sd wr) (ha : Apt b wr w') (hb : Below b wr w') (hs : Src w' b a len cap at2 sd2) : HoSt w b a len cap g B rs v L at2 sd2 w' := by
  obtain ⟨h1, h2, h3, h4, h5, h6, h7⟩ := h
  exact ⟨owns_sameC h1 (fun k hk => ha k (by have := (h1.lt k hk).1; omega)), Nat.le_trans h2 hb.size, hs, h4.trans hb, cosAt_same h5 (ha g (by omega)), h6, h7⟩
theorem HoSt.alloc {w : World} {b : Nat} {a : Option Addr} {len cap g B : Nat} {rs : List RCo} {v : Value} {L : List Int} {at' sd : Int} {wr : World} (h : HoSt w b a len cap g B rs v L at' sd wr) (o : Obj) : HoSt w b a len cap g B rs v L at' sd (wr.alloc o) := by
  obtain ⟨h1, h2, h3, h4, h5, h6, h7⟩ := h
  exact ⟨h1.alloc _, by simp; omega, src_sameC h3 (Below.heap_alloc _ _ _ h3.2.2.2.2.2.1) (by simp), h4.alloc (by omega) _, cosAt_same h5 (Below.heap_alloc _ _ _ (by omega)), h6, h7⟩
theorem HoSt.push {w : World} {b : Nat} {a : Option Addr} {len cap g B : Nat} {rs : List RCo} {v : Value} {L : List Int} {at' sd : Int} {wr w' : World} {g1 cp : Nat} {x : Int} (h : HoSt w b a len cap g B rs v L at' sd wr)
    (ho : w'.ownsRow B 3 1 (.slice (some ⟨g1, 0, none⟩) (L.length + 1) cp) (L.length + 1) (L.map (Value.int .i64) ++ [.int .i64 x])) (hg : wr.grownBy w' v.ownBlock) : HoSt w b a len cap g B rs (.slice (some ⟨g1, 0, none⟩) (L.length + 1) cp) (L ++ [x]) at' sd w' := by
  obtain ⟨q1, q2, q3, q4, q5, q6, q7⟩ := h
  refine ⟨?_, Nat.le_trans q2 hg.size, src_sameC q3 (hg.block b q3.2.2.2.2.2.1 (fun e => by have := (q1.lt b e.symm).1; omega)) hg.size, q4.grown hg (by omega) (fun k hk => by have := (q1.lt k hk).1; omega), cosAt_same q5 (hg.block g (by omega) (fun e => by have := (q1.lt g e.symm).1; omega)), q6, q7⟩
  rw [List.length_append, List.map_append]; exact ho
theorem HoSt.start {w : World} {b : Nat} {a : Option Addr} {len cap g cp : Nat} {rs : List RCo} {at' sd : Int} {wr : World} (h : CoSt w b a len cap (.slice (some ⟨g, 0, none⟩) rs.length cp) rs at' sd wr) : HoSt w b a len cap g wr.heap.size rs (.slice (some ⟨wr.heap.size, 0, none⟩) 0 0) [] at' sd (wr.alloc (Obj.cells #[] 3)) := by
  have hg := h.1.lt g rfl
  exact ⟨⟨rfl, .inr ⟨wr.heap.size, 0, #[], rfl, Nat.le_refl _, heapNew wr _, Nat.le_refl _, by unfold maxLen; omega, rfl, rfl⟩⟩, by simp, src_sameC h.2.2.1 (Below.heap_alloc _ _ _ h.2.2.1.2.2.2.2.2.1) (by simp), h.2.2.2.alloc (by have := h.2.1; omega) _, cosAt_same (cos_of_row h.1) (Below.heap_alloc _ _ _ hg.2), by omega, hg.2⟩
theorem HoSt.ints {w : World} {b : Nat} {a : Option Addr} {len cap g B : Nat} {rs : List RCo} {g1 cp : Nat} {L : List Int} {at' sd : Int} {wr : World} (h : HoSt w b a len cap g B rs (.slice (some ⟨g1, 0, none⟩) L.length cp) L at' sd wr) : IntsAt wr g1 0 L ∧ g1 < wr.heap.size ∧ B ≤ g1 :=
  ⟨fun i hi => by rw [Nat.zero_add, h.1.cellAt i (by omega)]; simp [List.getD_eq_getElem?_getD, hi], (h.1.lt g1 rfl).2, (h.1.lt g1 rfl).1⟩
theorem wrt_small : ∀ (rs : List RCo) (hr : ∀ r ∈ rs, 1 ≤ r.vl) (f : Nat → Nat) (hf : ∀ i, i < rs.length → f i ≤ 5) (k : Nat), k ≤ rs.length → (wrt rs f k : Int) ≤ 5 * tvV (rs.take k)
  | rs, hr, f, hf, 0, _ => by simp [wrt, tvV]
  | rs, hr, f, hf, k + 1, hk => by
    have ih := wrt_small rs hr f hf k (by omega)
    have h1 := getCo hr (show k < rs.length by omega)
    have h2 := hf k (by omega)
    have h3 : (rs.getD k zCo).vl.toNat * f k ≤ (rs.getD k zCo).vl.toNat * 5 := Nat.mul_le_mul_left _ h2
    have e : rs.take (k + 1) = rs.take k ++ [rs.getD k zCo] := by rw [List.take_succ_eq_append_getElem (by omega)]; simp [List.getD_eq_getElem?_getD, show k < rs.length by omega]
    rw [e, tvV_snoc]
    show ((wrt rs f k + (rs.getD k zCo).vl.toNat * f k : Nat) : Int) ≤ _
    omega
/-- What HeldOf answers. -/
def HoPost (w : World) (e : Ending) (w' : World) : Prop := ∃ (rs : List RCo) (L : List Int) (g cp g1 cp1 : Nat), e = .returned (.tuple #[.slice (some ⟨g, 0, none⟩) rs.length cp, .slice (some ⟨g1, 0, none⟩) rs.length cp1]) ∧ L.length = rs.length ∧ heAll rs = true ∧ rs.length ≤ 9 ∧ (∀ i, i < rs.length → 0 ≤ L.getD i 0 ∧ L.getD i 0 ≤ (rs.getD i zCo).ct) ∧ wrt rs (cF L) rs.length ≤ 10000 ∧ CosAt w' g 0 rs ∧ g < w'.heap.size ∧ IntsAt w' g1 0 L ∧ g1 < w'.heap.size ∧ Below w.heap.size w w'
theorem snoc_count {rs : List RCo} {L : List Int} {x : Int} (h : ∀ i, i < L.length → 0 ≤ L.getD i 0 ∧ L.getD i 0 ≤ (rs.getD i zCo).ct) (h0 : 0 ≤ x) (h1 : x ≤ (rs.getD L.length zCo).ct) : ∀ i, i < (L ++ [x]).length → 0 ≤ (L ++ [x]).getD i 0 ∧ (L ++ [x]).getD i 0 ≤ (rs.getD i zCo).ct := fun i hi => by
  rw [List.length_append] at hi
  simp at hi
  by_cases e : i < L.length
  · have q : (L ++ [x]).getD i 0 = L.getD i 0 := by simp [List.getD_eq_getElem?_getD, List.getElem?_append_left e]
    rw [q]; exact h i e
  · obtain rfl : i = L.length := by omega
    have q : (L ++ [x]).getD L.length 0 = x := by simp [List.getD_eq_getElem?_getD]
    rw [q]; exact ⟨h0, h1⟩

set_option maxHeartbeats 4000000 in
set_option maxRecDepth 4000 in
theorem heldOf_any (a : Option Addr) (len cap : Nat) (zs : List Int) (w : World) (hr : RowB w.heap.size w a len zs) :
    Calls Try.prog 4 #[.slice a len cap] w (HoPost w) := by
  have hsrc := source_any a len cap w hr.1
  obtain ⟨b, hb⟩ : ∃ b, b = w.heap.size := ⟨_, rfl⟩
  rw [← hb] at hsrc hr
  have HNx : Hid (∀ W (n at' sd : Int), Below b w W → Src W b a len cap at' sd → at' ≤ 1000 → n ≤ 256 → Calls Try.prog 14 #[.pointer (some ⟨b, 0, none⟩), .int .i64 n] W fun e w' => ∃ x at2 s' : Int, e = .returned (.int .i64 x) ∧ Drawn x n ∧ at' ≤ at2 ∧ at2 ≤ at' + 3 ∧ Src w' b a len cap at2 s' ∧ Below b W w' ∧ Apt b W w') := fun W n at' sd hW hs h1 h2 => next_anyA b b a len cap zs n at' sd W (Nat.le_refl _) hs (hr.below hW) (by omega) (by omega)
  have HHe : Hid (∀ w1 s0, Src w1 b a len cap 0 s0 → Below b w w1 → Calls Try.prog 13 #[.pointer (some ⟨b, 0, none⟩)] w1 (HePost w b a len cap)) := fun w1 s0 h1 h2 => held_any b a len cap zs s0 w w1 h1 h2 hr
  have HBw : Hid (b = w.heap.size) := hb
  obtain ⟨i0, hi, hzz⟩ := Option.map_eq_some_iff.1 intInfo1
  simp only [Prod.mk.injEq] at hzz
  obtain ⟨hi0, hi1, hi2⟩ := hzz
  clear hr hb
  go_enter Try.func4, Try.ntmps4
  go_wp2_with fail
  (first | go_at_call 12 | skip)
  refine hsrc.mono ?_
  rintro e w1 ⟨s1, rfl, hs1, hb1⟩
  clear hsrc
  go_wp2_with fail
  (first | go_at_call 13 | skip)
  refine (HHe.out w1 s1 hs1 hb1).mono ?_
  rintro e w2 ⟨rs, g, cp, a2, s2, rfl, hgo, hl9, hct, htv, ha2, hst⟩
  have H2 : Hid (HoSt w b a len cap g w2.heap.size rs (.slice (some ⟨w2.heap.size, 0, none⟩) 0 0) [] a2 s2 (w2.alloc (Obj.cells #[] 3))) := HoSt.start hst
  have HG : Hid (heGo 0 rs = true ∧ tvV rs ≤ 888) := ⟨hgo, htv⟩
  have HC : Hid (∀ r ∈ rs, 0 ≤ r.ct ∧ r.ct ≤ 5) := hct
  clear hs1 hb1 hst HHe hgo hct htv
  go_wp2
  go_loopw [6, 7] (fun v x wr => ∃ (L : List Int) (at' sd : Int) (g1 cp1 : Nat), L.length ≤ rs.length ∧ x = .int .i64 (L.length : Int) ∧ v = .slice (some ⟨g1, 0, none⟩) L.length cp1 ∧ at' ≤ 100 + 3 * (L.length : Int) ∧ (∀ i, i < L.length → 0 ≤ L.getD i 0 ∧ L.getD i 0 ≤ (rs.getD i zCo).ct) ∧ HoSt w b a len cap g w2.heap.size rs v L at' sd wr) (fun _ x _ => rs.length - (intOf x).toNat)
  case atStart => exact ⟨[], a2, s2, w2.heap.size, 0, by simp, rfl, rfl, by simp; omega, by simp, H2.out⟩
  case round =>
    obtain ⟨L, at', sd, g1, cp1, hk, rfl, rfl, hat, hLc, hst⟩ := hrel
    have HS : Hid (HoSt w b a len cap g w2.heap.size rs (.slice (some ⟨g1, 0, none⟩) L.length cp1) L at' sd wr) := hst
    have HLc : Hid (∀ i, i < L.length → 0 ≤ L.getD i 0 ∧ L.getD i 0 ≤ (rs.getD i zCo).ct) := hLc
    clear hst hLc H2
    by_cases hlt : L.length < rs.length
    · have hlt' : (L.length : Int) < (rs.length : Int) := by omega
      obtain ⟨q0, q1⟩ := HS.out.2.2.2.2.1 L.length hlt
      rw [Nat.zero_add] at q0 q1
      have gc := getCo HC.out hlt
      have HSn : Hid (∀ x, 0 ≤ x → x ≤ (rs.getD L.length zCo).ct → ∀ i, i < (L ++ [x]).length → 0 ≤ (L ++ [x]).getD i 0 ∧ (L ++ [x]).getD i 0 ≤ (rs.getD i zCo).ct) := fun x h0 h1 => snoc_count HLc.out h0 h1
      generalize hrk : rs.getD L.length zCo = r at *
      clear hrk
      obtain ⟨rv, rc⟩ := r
      dsimp only at q0 q1 gc HSn
      go_wp2_with fail
      (first | go_at_call 14 | skip)
      refine (HNx.out _ (rc + 1) at' sd HS.out.2.2.2.1 HS.out.2.2.1 (by omega) (by omega)).mono ?_
      rintro e w3 ⟨x3, a3, s3, rfl, ⟨hx30, hx31⟩, ha3, hb3, hs3, hb3', hf3⟩
      have H3 : Hid (HoSt w b a len cap g w2.heap.size rs (.slice (some ⟨g1, 0, none⟩) L.length cp1) L a3 s3 w3) := HS.out.draw hf3 hb3' hs3
      clear hs3 hb3' hf3 HS q0 q1
      go_wp2_with (at_builtin; refine wpList_append_lies _ rfl _ _ 24 rfl w2.heap.size 3 i0 (.int .i64 0) 1 8 Try.underlying24 hi hi0 hi1 hi2 rfl (by decide) _ _ _ rfl (H3.out.alloc _).1 ⟨w3.heap.size, 0, none⟩ 1 1 [.int .i64 x3] rfl rfl (newsOne _ _ _) (by simp [Value.oneCell']) (by omega) (by unfold maxLen; omega) (by omega) (H3.out.alloc _).2.1 _ rfl ?_; intro g2 cp2 w9 hown1 hgrow1 hat1 hglt1; have HF : Hid (HoSt w b a len cap g w2.heap.size rs (.slice (some ⟨g2, 0, none⟩) (L.length + 1) cp2) (L ++ [x3]) a3 s3 w9) := (H3.out.alloc _).push hown1 hgrow1; clear hown1 hgrow1 hat1 hglt1)
      refine ⟨⟨L ++ [x3], a3, s3, g2, cp2, by simp; omega, by simp, by simp, by simp; omega, HSn.out x3 hx30 (by omega), HF.out⟩, by simp [intOf]; omega⟩
    · have hle : L.length = rs.length := by omega
      obtain ⟨hi1', hi2', hi3'⟩ := HS.out.ints
      have HLl : Hid (L.length = rs.length) := hle
      have hall : heAll rs = true := by unfold heAll; rw [HG.out.1, Bool.and_true, decide_eq_true_eq]; omega
      have hmem := (heAll_mem hall).2
      have hL60 : ∀ i, i < rs.length → 0 ≤ L.getD i 0 ∧ L.getD i 0 ≤ 60 := fun i hi => by have h1 := HLc.out i (by omega); have h2 := getCo hmem hi; omega
      have hsm := wrt_small rs (fun r hr => (hmem r hr).1) (cF L) (fun i hi => by have h1 := HLc.out i (by omega); have h2 := getCo HC.out hi; unfold cF; omega) rs.length (Nat.le_refl _)
      rw [List.take_length] at hsm
      have hw10 : wrt rs (cF L) rs.length ≤ 10000 := by have := HG.out.2; omega
      have HWo : Hid (∀ W, Below wr.heap.size wr W → Calls Try.prog 15 #[.slice (some ⟨g, 0, none⟩) rs.length cp, .slice (some ⟨g1, 0, none⟩) rs.length cp1] W fun e w' => e = .returned (.int .i64 ((wrt rs (cF L) rs.length : Nat) : Int)) ∧ Below W.heap.size W w') := fun W hW =>
        worth_any2 _ _ cp cp1 rs L hle (by omega) hmem hL60 W (.inr ⟨_, _, rfl, by have := hW.size; have := HS.out.2.1; have := HS.out.2.2.2.2.2.2; omega, HS.out.2.2.2.2.1.below hW (by have := HS.out.2.1; have := HS.out.2.2.2.2.2.2; omega)⟩) (.inr ⟨_, _, rfl, by have := hW.size; omega, hi1'.below hW hi2'⟩)
      have HP : Hid (∀ W, Below wr.heap.size wr W → HoPost w (.returned (.tuple #[.slice (some ⟨g, 0, none⟩) rs.length cp, .slice (some ⟨g1, 0, none⟩) rs.length cp1])) W) := fun W hW =>
        ⟨rs, L, g, cp, g1, cp1, rfl, hle, hall, hl9, fun i hi => HLc.out i (by omega), hw10, HS.out.2.2.2.2.1.below hW (by have := HS.out.2.1; have := HS.out.2.2.2.2.2.2; omega), by have := hW.size; have := HS.out.2.1; have := HS.out.2.2.2.2.2.2; omega, hi1'.below hW hi2', by have := hW.size; omega, by rw [← HBw.out]; exact HS.out.2.2.2.1.trans (hW.mono (by have := HS.out.2.1; have := HS.out.2.2.2.2.2; omega))⟩
      have hwn : ((wrt rs (cF L) rs.length : Nat) : Int) ≤ 10000 := by omega
      generalize wrt rs (cF L) rs.length = wn at *
      rw [hle]
      generalize wr = W0 at *
      clear HLc HS hmem hL60 hsm hi1' hall HC HG hle hw10 hlt hk hat HNx
      go_wp2
      go_loopw [8] (fun x wr' => ∃ z : Int, x = .int .i64 z ∧ -1 ≤ z ∧ z < (rs.length : Int) ∧ Below W0.heap.size W0 wr') (fun x _ => (intOf x + 1).toNat)
      case atStart => exact ⟨_, rfl, by omega, by omega, Below.refl _ _⟩
      case round =>
        obtain ⟨z, rfl, hz1, hz2, hb3⟩ := hrel
        have HB3 : Hid (Below W0.heap.size W0 wr) := hb3
        clear hb3
        by_cases hz : 0 ≤ z
        · go_wp2
          go_loopw [] (fun wr' => Below W0.heap.size W0 wr') (fun _ => 0)
          case atStart => exact HB3.out
          case round =>
            have HB4 : Hid (Below W0.heap.size W0 wr) := hrel
            clear hrel
            have hfl : ¬ (10000 : Int) < (wn : Int) := by omega
            go_wp2_with fail
            (first | go_at_call 15 | skip)
            refine (HWo.out _ HB4.out).mono ?_
            rintro e w5 ⟨rfl, hb5⟩
            have HB5 : Hid (Below W0.heap.size W0 w5) := chain HB4.out hb5
            clear hb5
            go_wp2
            exact ⟨⟨z - 1, by go_num, by omega, by omega, HB5.out⟩, by simp [intOf]; omega⟩
        · obtain rfl : z = -1 := by omega
          go_wp2
          go_ret2
          exact HP.out _ HB3.out
end Go.Proofs.Ytngnmlifbjpkoaa

/-
  The specification's drawn acts on stock.
-/
import Derived.Test.YtlfcaijhlgldnaaDrawSk
import Derived.Test.YtlfcaijhlgldnaaRowG
import Derived.Test.YtlfcaijhlgldnaaRegI
namespace Go.Proofs.Ytlfcaijhlgldnaa
open Go.ChangeShapes Go.WideShapes Go.ChangeAt Go.RowKit Go.Deep
set_option linter.unusedVariables false

theorem pick_sk (B b bl : Nat) (a : Option Addr) (len cap : Nat) (zs : List Int) (at' seed : Int) (ss : List ByteArray) (w : World) (hB : B ≤ b) (hs : Src w b a len cap at' seed) (hr : RowB B w a len zs) (a1 : at' ≤ 999999999000)
    (hl : 1 ≤ ss.length) (hl' : ss.length ≤ 256) (hne : bl ≠ b) (hc : ∀ j, j < ss.length → w.cell? ⟨bl, j, none⟩ = some (.string (ss.getD j ⟨#[]⟩))) (c : Nat) :
    Calls Try.prog 37 #[.pointer (some ⟨b, 0, none⟩), .slice (some ⟨bl, 0, none⟩) ss.length c] w fun e w' => ∃ (j : Nat) (at2 s' : Int), j < ss.length ∧ e = .returned (.string (ss.getD j ⟨#[]⟩)) ∧ at' ≤ at2 ∧ at2 ≤ at' + 3 ∧ Src w' b a len cap at2 s' ∧ Below B w w' ∧ Apt b w w' := by
  have hn := next_anyA B b a len cap zs (ss.length : Int) at' seed w hB hs hr a1 (by omega)
  have HC : Hid (∀ j, j < ss.length → w.cell? ⟨bl, j, none⟩ = some (.string (ss.getD j ⟨#[]⟩))) := hc
  have hz : ((ss.length : Int) == 0) = false := by rw [beq_eq_false_iff_ne]; omega
  have hz' : ¬ (ss.length : Int) = 0 := by omega
  clear hc hs hr
  go_enter Try.func37, Try.ntmps37
  go_wp2_with fail
  (first | go_at_call 35 | skip)
  refine hn.mono ?_
  rintro e w1 ⟨x, at2, s', rfl, hx, q1, q2, hs1, hb1, ha1⟩
  obtain ⟨j, rfl⟩ : ∃ j : Nat, x = (j : Int) := ⟨x.toNat, by have := hx.1; omega⟩
  have hj : j < ss.length := by rcases hx.2 with h | h <;> omega
  have hj' : (j : Int) < (ss.length : Int) := by omega
  have cj : w1.cell? ⟨bl, j, none⟩ = some (.string (ss.getD j ⟨#[]⟩)) := (World.cell?_of_block (w := w) (a := ⟨bl, j, none⟩) (ha1 bl hne)).trans (HC.out j hj)
  have HS1 : Hid (Src w1 b a len cap at2 s' ∧ Below B w w1 ∧ Apt b w w1) := ⟨hs1, hb1, ha1⟩
  clear hs1 hb1 ha1 hx
  generalize hq : ss.getD j ⟨#[]⟩ = q at *
  go_wp2
  go_ret
  exact ⟨j, at2, s', hj, by rw [hq]; rfl, q1, q2, HS1.out.1, HS1.out.2.1, HS1.out.2.2⟩
theorem setA_ne {g n cp k A : Nat} (hk : Value.ownBlock (.slice (some ⟨g, 0, none⟩) n cp) = some k) (hg : g ≠ A) : k ≠ A := by
  have e : g = k := by simpa [Value.ownBlock] using hk
  omega
theorem twoStr (w : World) (j : Nat) (hj : j < 2) : (w.alloc (Obj.cells #[.string ⟨#[109, 105, 108, 107]⟩, .string ⟨#[98, 114, 111, 116]⟩] 9)).cell? ⟨w.heap.size, j, none⟩ = some (.string ([⟨#[109, 105, 108, 107]⟩, ⟨#[98, 114, 111, 116]⟩].getD j ⟨#[]⟩)) := by
  have e := blkCell (heapNew w (Obj.cells #[.string ⟨#[109, 105, 108, 107]⟩, .string ⟨#[98, 114, 111, 116]⟩] 9))
  rcases (by omega : j = 0 ∨ j = 1) with rfl | rfl
  · exact e 0 _ rfl
  · exact e 1 _ rfl
theorem SkSo.setA {w : World} {b : Nat} {a : Option Addr} {len cap : Nat} {g n cp : Nat} {rs : List RSk} {at' sd : Int} {wr : World} (h : SkSo w b a len cap (.slice (some ⟨g, 0, none⟩) n cp) rs at' sd wr) {A : Nat} (hA : b < A) (hg : g ≠ A) (o : Nat) (v : Value) : SkSo w b a len cap (.slice (some ⟨g, 0, none⟩) n cp) rs at' sd (wr.setCell ⟨A, o, none⟩ v) := by
  obtain ⟨h1, h2, h3, h4⟩ := h
  exact ⟨owns_sameP h1 (fun k hk => Below.heap_setCell _ _ _ _ (setA_ne hk hg)), by rw [World.size_setCell]; exact h2, src_sameP h3 (Below.heap_setCell _ _ _ _ (by show b ≠ A; omega)) (by rw [World.size_setCell]; exact Nat.le_refl _), h4.setCell (by show b ≤ A; omega) _⟩
theorem act_set {W : World} {b : Nat} {v0 v1 v2 v3 v4 : Value} {t : TypeId} (h : W.heap[b]? = some (.cells #[v0, v1, v2, v3, v4] t (0, 0))) (x0 x1 x2 x3 x4 : Value) : (((((W.setCell ⟨b, 0, none⟩ x0).setCell ⟨b, 1, none⟩ x1).setCell ⟨b, 2, none⟩ x2).setCell ⟨b, 3, none⟩ x3).setCell ⟨b, 4, none⟩ x4).heap[b]? = some (.cells #[x0, x1, x2, x3, x4] t (0, 0)) := by
  have e := heap_setCell_same _ _ 4 _ _ x4 (heap_setCell_same _ _ 3 _ _ x3 (heap_setCell_same _ _ 2 _ _ x2 (heap_setCell_same _ _ 1 _ _ x1 (heap_setCell_same _ _ 0 _ _ x0 h))))
  simp only [List.setIfInBounds_toArray, List.set_cons_zero, List.set_cons_succ] at e
  exact e
def J1 (l : Bool) (v x : Value) : Prop := l = true → v = x
def JI (lo hi : Int) (l : Bool) (v : Value) : Prop := l = true → ∃ x : Int, v = .int .i64 x ∧ lo ≤ x ∧ x ≤ hi
def JS (l : Bool) (v : Value) : Prop := l = true → ∃ s : ByteArray, v = .string s ∧ s.size ≤ 4
def JT (b A : Nat) (V : Array Value) (t : TypeId) (n : Nat) (l : Bool) (v : Value) (w : World) : Prop := l = true → ∃ B, v = .slice (some ⟨B, 0, none⟩) n n ∧ (B ≠ b ∧ B ≠ A) ∧ w.heap[B]? = some (.cells V t (0, 0))
def JA (b A : Nat) (V : Array Value) (t : TypeId) (n : Nat) (l : Bool) (v : Value) (w : World) : Prop := l = true → ∃ B j, v = .pointer (some ⟨B, j, none⟩) ∧ j < n ∧ (B ≠ b ∧ B ≠ A) ∧ w.heap[B]? = some (.cells V t (0, 0))
def JG (l : Bool) (v : Value) : Prop := l = true → ∃ (y0 : Int) (s : ByteArray) (y1 y2 y3 : Int), v = .agg #[.int .i64 y0, .string s, .int .i64 y1, .int .i64 y2, .int .i64 y3] ∧ SkD ⟨y0, s, y1, y2, y3⟩
def JX (A : Nat) (o : Obj) (l : Bool) (w : World) : Prop := (l = false → w.heap[A]? = some o) ∧ (l = true → ∃ (y0 : Int) (s : ByteArray) (y1 y2 y3 : Int), w.heap[A]? = some (.cells #[.int .i64 y0, .string s, .int .i64 y1, .int .i64 y2, .int .i64 y3] 34 (0, 0)) ∧ SkD ⟨y0, s, y1, y2, y3⟩)
def JW (w : World) (b : Nat) (a : Option Addr) (len cap : Nat) (v : Value) (rs : List RSk) (a9 : Int) (l1 l2 l3 l4 l5 : Bool) (wr : World) : Prop := ∃ at' sd : Int, at' ≤ a9 + 3 * ((l1.toNat + l2.toNat + l3.toNat + l4.toNat + l5.toNat : Nat) : Int) ∧ SkSo w b a len cap v rs at' sd wr
theorem JT.mono {b A : Nat} {V : Array Value} {t : TypeId} {n : Nat} {l : Bool} {v : Value} {w w' : World} (h : JT b A V t n l v w) (k : ∀ k, k ≠ b → k < w.heap.size → w'.heap[k]? = w.heap[k]?) : JT b A V t n l v w' := fun q => by
  obtain ⟨B, e, hB, hh⟩ := h q
  exact ⟨B, e, hB, (k B hB.1 (blkLt hh)).trans hh⟩
theorem JA.mono {b A : Nat} {V : Array Value} {t : TypeId} {n : Nat} {l : Bool} {v : Value} {w w' : World} (h : JA b A V t n l v w) (k : ∀ k, k ≠ b → k < w.heap.size → w'.heap[k]? = w.heap[k]?) : JA b A V t n l v w' := fun q => by
  obtain ⟨B, j, e, hj, hB, hh⟩ := h q
  exact ⟨B, j, e, hj, hB, (k B hB.1 (blkLt hh)).trans hh⟩
theorem JX.mono {A b : Nat} {o : Obj} {l : Bool} {w w' : World} (h : JX A o l w) (hA : A ≠ b) (k : ∀ k, k ≠ b → k < w.heap.size → w'.heap[k]? = w.heap[k]?) : JX A o l w' := by
  refine ⟨fun q => ?_, fun q => ?_⟩
  · exact (k A hA (blkLt (h.1 q))).trans (h.1 q)
  · obtain ⟨y0, s, y1, y2, y3, hh, r⟩ := h.2 q
    exact ⟨y0, s, y1, y2, y3, (k A hA (blkLt hh)).trans hh, r⟩
theorem JT.monoA {b A : Nat} {V : Array Value} {t : TypeId} {n : Nat} {l : Bool} {v : Value} {w w' : World} (h : JT b A V t n l v w) (k : ∀ k, k ≠ A → w'.heap[k]? = w.heap[k]?) : JT b A V t n l v w' := fun q => by
  obtain ⟨B, e, hB, hh⟩ := h q
  exact ⟨B, e, hB, (k B hB.2).trans hh⟩
theorem JA.monoA {b A : Nat} {V : Array Value} {t : TypeId} {n : Nat} {l : Bool} {v : Value} {w w' : World} (h : JA b A V t n l v w) (k : ∀ k, k ≠ A → w'.heap[k]? = w.heap[k]?) : JA b A V t n l v w' := fun q => by
  obtain ⟨B, j, e, hj, hB, hh⟩ := h q
  exact ⟨B, j, e, hj, hB, (k B hB.2).trans hh⟩
theorem JX.lt {A : Nat} {o : Obj} {l : Bool} {w : World} (h : JX A o l w) : A < w.heap.size := by
  cases l with
  | false => exact blkLt (h.1 rfl)
  | true => obtain ⟨_, _, _, _, _, hh, _⟩ := h.2 rfl; exact blkLt hh
theorem threeStr {w : World} {B : Nat} {t : TypeId} (h : w.heap[B]? = some (.cells #[.string ⟨#[]⟩, .string ⟨#[57]⟩, .string ⟨#[109, 105, 108, 107]⟩] t (0, 0))) (j : Nat) (hj : j < 3) : w.cell? ⟨B, j, none⟩ = some (.string ([⟨#[]⟩, ⟨#[57]⟩, ⟨#[109, 105, 108, 107]⟩].getD j ⟨#[]⟩)) := by
  rcases (by omega : j = 0 ∨ j = 1 ∨ j = 2) with rfl | rfl | rfl
  · exact blkCell h 0 _ rfl
  · exact blkCell h 1 _ rfl
  · exact blkCell h 2 _ rfl
theorem threeSz (j : Nat) (hj : j < 3) : ([⟨#[]⟩, ⟨#[57]⟩, ⟨#[109, 105, 108, 107]⟩].getD j (⟨#[]⟩ : ByteArray)).size ≤ 4 := by
  rcases (by omega : j = 0 ∨ j = 1 ∨ j = 2) with rfl | rfl | rfl <;> decide
theorem far5 (w : World) (A : Nat) (v0 v1 v2 v3 v4 : Value) (k : Nat) (hk : k ≠ A) : (((((w.setCell ⟨A, 0, none⟩ v0).setCell ⟨A, 1, none⟩ v1).setCell ⟨A, 2, none⟩ v2).setCell ⟨A, 3, none⟩ v3).setCell ⟨A, 4, none⟩ v4).heap[k]? = w.heap[k]? := by
  rw [Below.heap_setCell _ _ _ _ hk, Below.heap_setCell _ _ _ _ hk, Below.heap_setCell _ _ _ _ hk, Below.heap_setCell _ _ _ _ hk, Below.heap_setCell _ _ _ _ hk]
theorem below24 (i : Nat) (h : i < 24) : i = 0 ∨ i = 1 ∨ i = 2 ∨ i = 3 ∨ i = 4 ∨ i = 5 ∨ i = 6 ∨ i = 7 ∨ i = 8 ∨ i = 9 ∨ i = 10 ∨ i = 11 ∨ i = 12 ∨ i = 13 ∨ i = 14 ∨ i = 15 ∨ i = 16 ∨ i = 17 ∨ i = 18 ∨ i = 19 ∨ i = 20 ∨ i = 21 ∨ i = 22 ∨ i = 23 := by omega
structure Inv7 (w : World) (b : Nat) (a : Option Addr) (len cap g cp : Nat) (rs : List RSk) (a9 : Int) (A : Nat) (ob : Obj) (day : Int) (c : Nat → Bool) (v : Nat → Value) (wz : World) : Prop where
  f0 : J1 (c 0) (v 0) (.pointer (some ⟨b, 0, none⟩))
  f1 : JI (0) 9 (c 1) (v 1)
  f2 : JI (-1) 8 (c 2) (v 2)
  f3 : J1 (c 3) (v 3) (.pointer (some ⟨b, 0, none⟩))
  f4 : JT b A #[.string ⟨#[]⟩, .string ⟨#[57]⟩, .string ⟨#[109, 105, 108, 107]⟩] 9 3 (c 4) (v 4) wz
  f5 : JS (c 5) (v 5)
  f6 : JT b A #[.int .i64 0, .int .i64 1, .int .i64 1000000, .int .i64 1000001] 3 4 (c 6) (v 6) wz
  f7 : J1 (c 7) (v 7) (.pointer (some ⟨b, 0, none⟩))
  f8 : JI (0) 3 (c 8) (v 8)
  f9 : JA b A #[.int .i64 0, .int .i64 1, .int .i64 1000000, .int .i64 1000001] 3 4 (c 9) (v 9) wz
  f10 : JI (-1) 1000001 (c 10) (v 10)
  f11 : JT b A #[.int .i64 0, .int .i64 1, .int .i64 100000, .int .i64 100001, .int .i64 (-1), .int .i64 100000] 3 6 (c 11) (v 11) wz
  f12 : J1 (c 12) (v 12) (.pointer (some ⟨b, 0, none⟩))
  f13 : JI (0) 5 (c 13) (v 13)
  f14 : JA b A #[.int .i64 0, .int .i64 1, .int .i64 100000, .int .i64 100001, .int .i64 (-1), .int .i64 100000] 3 6 (c 14) (v 14) wz
  f15 : JI (-1) 1000001 (c 15) (v 15)
  f16 : J1 (c 16) (v 16) (.int .i64 day)
  f17 : JT b A #[.int .i64 (-1), .int .i64 100000, .int .i64 100001, .int .i64 day] 3 4 (c 17) (v 17) wz
  f18 : J1 (c 18) (v 18) (.pointer (some ⟨b, 0, none⟩))
  f19 : JI (0) 3 (c 19) (v 19)
  f20 : JA b A #[.int .i64 (-1), .int .i64 100000, .int .i64 100001, .int .i64 day] 3 4 (c 20) (v 20) wz
  f21 : JI (-1) 1000001 (c 21) (v 21)
  f22 : JG (c 22) (v 22)
  fX : JX A ob (c 23) wz
  fW : JW w b a len cap (.slice (some ⟨g, 0, none⟩) rs.length cp) rs a9 (c 1) (c 5) (c 8) (c 13) (c 19) wz
set_option maxRecDepth 8000 in
set_option maxHeartbeats 40000000 in
theorem stockActs_drawn (b : Nat) (a : Option Addr) (len cap : Nat) (zs : List Int) (s0 : Int) (w w1 : World) (hs : Src w1 b a len cap 0 s0) (hb : Below b w w1) (hr : RowB b w a len zs) (hlen : len ≤ maxLen) :
    Calls Try.prog 22 #[.pointer (some ⟨b, 0, none⟩)] w1 fun e w' => ∃ (rs : List RSk) (g cp : Nat) (at' sd : Int), e = .returned (.slice (some ⟨g, 0, none⟩) rs.length cp) ∧ rs.length ≤ 28 ∧ (∀ r ∈ rs, SkD r) ∧ SkSo w b a len cap (.slice (some ⟨g, 0, none⟩) rs.length cp) rs at' sd w' := by
  have HNx : Hid (∀ W (n at' sd : Int), Below b w W → Src W b a len cap at' sd → at' ≤ 1000 → n ≤ 256 → Calls Try.prog 35 #[.pointer (some ⟨b, 0, none⟩), .int .i64 n] W fun e w' => ∃ x at2 s' : Int, e = .returned (.int .i64 x) ∧ Drawn x n ∧ at' ≤ at2 ∧ at2 ≤ at' + 3 ∧ Src w' b a len cap at2 s' ∧ Below b W w' ∧ Apt b W w') := fun W n at' sd hW hs h1 h2 => next_anyA b b a len cap zs n at' sd W (Nat.le_refl _) hs (hr.below hW) (by omega) (by omega)
  have HPk : Hid (∀ (ss : List ByteArray) (bl c : Nat) (W : World) (at' sd : Int), Below b w W → Src W b a len cap at' sd → at' ≤ 1000 → 1 ≤ ss.length → ss.length ≤ 256 → bl ≠ b → (∀ j, j < ss.length → W.cell? ⟨bl, j, none⟩ = some (.string (ss.getD j ⟨#[]⟩))) → Calls Try.prog 37 #[.pointer (some ⟨b, 0, none⟩), .slice (some ⟨bl, 0, none⟩) ss.length c] W fun e w' => ∃ (j : Nat) (at2 s' : Int), j < ss.length ∧ e = .returned (.string (ss.getD j ⟨#[]⟩)) ∧ at' ≤ at2 ∧ at2 ≤ at' + 3 ∧ Src w' b a len cap at2 s' ∧ Below b W w' ∧ Apt b W w') := fun ss bl c W at' sd hW hs h1 h2 h3 h4 h5 => pick_sk b b bl a len cap zs at' sd ss W (Nat.le_refl _) hs (hr.below hW) (by omega) h2 h3 h4 h5 c
  have HSz : Hid (∀ W (at' sd : Int), Src W b a len cap at' sd → Calls Try.prog 36 #[.pointer (some ⟨b, 0, none⟩), .int .i64 26] W fun e w' => (∃ x : Int, e = .returned (.int .i64 x) ∧ 1 ≤ x ∧ x ≤ 26) ∧ w' = W) := fun W at' sd h => size_src b a len cap 26 at' sd W h hlen (by omega) (by omega)
  obtain ⟨i0, hi, hzz⟩ := Option.map_eq_some_iff.1 skInf
  simp only [Prod.mk.injEq] at hzz
  obtain ⟨hi0, hi1, hi2⟩ := hzz
  have H1 : Hid (SkSo w b a len cap (.slice (some ⟨w1.heap.size, 0, none⟩) 0 0) [] 0 s0 (w1.alloc (Obj.cells #[] 34))) := SkSo.start hs hb
  clear hr hs hb
  go_enter Try.func22, Try.ntmps22
  go_wp2_with fail
  (first | go_at_call 36 | skip)
  refine (HSz.out _ 0 s0 H1.out.2.2.1).mono ?_
  rintro e w2 ⟨⟨xs, rfl, hxs1, hxs2⟩, rfl⟩
  clear HSz
  go_wp2_with fail
  (first | go_at_call 35 | skip)
  refine (HNx.out _ (xs + 3) 0 s0 H1.out.2.2.2 H1.out.2.2.1 (by omega) (by omega)).mono ?_
  rintro e w3 ⟨x3, a3, s3, rfl, ⟨hx30, hx31⟩, ha3, hb3, hs3, hb3', hf3⟩
  have H3 : Hid (SkSo w b a len cap (.slice (some ⟨w1.heap.size, 0, none⟩) 0 0) [] a3 s3 w3) := H1.out.draw hf3 hb3' hs3
  clear hs3 hb3' hf3 H1
  obtain ⟨k3, rfl⟩ := Int.eq_ofNat_of_zero_le hx30
  have hk3 : k3 ≤ 28 := by omega
  generalize w1.heap.size = g3 at *
  go_wp2_with fail
  go_loopw [3, 4, 5, 6, 33, 44, 52, 62] (fun v d x _ _ _ _ _ wr => ∃ (rs : List RSk) (k g cp : Nat) (at' sd day : Int), rs.length + k ≤ 28 ∧ v = .slice (some ⟨g, 0, none⟩) rs.length cp ∧ x = .int .i64 (k : Int) ∧ d = .int .i64 day ∧ (∀ r ∈ rs, SkD r) ∧ 0 ≤ day ∧ day ≤ 5 * (rs.length : Int) ∧ at' ≤ 10 + 33 * (rs.length : Int) ∧ SkSo w b a len cap v rs at' sd wr) (fun _ _ x _ _ _ _ _ _ => (intOf x).toNat)
  case atStart => exact ⟨[], k3, g3, 0, a3, s3, 0, by simpa using hk3, rfl, rfl, rfl, (fun r hr => by simp at hr), by omega, by simp, by simp; omega, H3.out⟩
  case round =>
    obtain ⟨rs, k, g, cp, at', sd, day, hk, rfl, rfl, rfl, hD, hd0, hd1, hat, hst⟩ := hrel
    have HS : Hid (SkSo w b a len cap (.slice (some ⟨g, 0, none⟩) rs.length cp) rs at' sd wr) := hst
    have HD : Hid (∀ r ∈ rs, SkD r) := hD
    clear hst hD H3
    by_cases hlt : 0 < k
    · have hlt' : (0 : Int) < (k : Int) := by omega
      have hT0 : ∀ j, j < 2 → (wr.alloc (Obj.cells #[.string ⟨#[109, 105, 108, 107]⟩, .string ⟨#[98, 114, 111, 116]⟩] 9)).cell? ⟨wr.heap.size, j, none⟩ = some (.string ([⟨#[109, 105, 108, 107]⟩, ⟨#[98, 114, 111, 116]⟩].getD j ⟨#[]⟩)) := fun j hj => twoStr _ _ hj
      have HT0 : Hid _ := hT0
      have hbz : b < wr.heap.size := HS.out.2.2.1.2.2.2.2.2.1
      have HSa : Hid (SkSo w b a len cap (.slice (some ⟨g, 0, none⟩) rs.length cp) rs at' sd (wr.alloc (Obj.cells #[.string ⟨#[109, 105, 108, 107]⟩, .string ⟨#[98, 114, 111, 116]⟩] 9))) := HS.out.alloc _
      clear hT0
      go_wp2_with fail
      (first | go_at_call 37 | skip)
      refine (HPk.out [⟨#[109, 105, 108, 107]⟩, ⟨#[98, 114, 111, 116]⟩] wr.heap.size 2 _ at' sd HSa.out.2.2.2 HSa.out.2.2.1 (by omega) (by simp) (by simp) (by omega) HT0.out).mono ?_
      rintro e w4 ⟨j4, a4, s4, hj4, rfl, ha4, hb4, hs4, hb4', hf4⟩
      have H4 : Hid (SkSo w b a len cap (.slice (some ⟨g, 0, none⟩) rs.length cp) rs a4 s4 w4) := HSa.out.draw hf4 hb4' hs4
      have har : ([⟨#[109, 105, 108, 107]⟩, ⟨#[98, 114, 111, 116]⟩].getD j4 (⟨#[]⟩ : ByteArray)).size ≤ 4 := by
        have hj : j4 < 2 := hj4
        rcases (by omega : j4 = 0 ∨ j4 = 1) with rfl | rfl <;> decide
      generalize [⟨#[109, 105, 108, 107]⟩, ⟨#[98, 114, 111, 116]⟩].getD j4 (⟨#[]⟩ : ByteArray) = ar at *
      clear hs4 hb4' hf4 HSa HS HT0 hj4 hbz
      go_wp2_with fail
      (first | go_at_call 35 | skip)
      refine (HNx.out _ 6 a4 s4 H4.out.2.2.2 H4.out.2.2.1 (by omega) (by omega)).mono ?_
      rintro e w5 ⟨x5, a5, s5, rfl, ⟨hx50, hx51⟩, ha5, hb5, hs5, hb5', hf5⟩
      have H5 : Hid (SkSo w b a len cap (.slice (some ⟨g, 0, none⟩) rs.length cp) rs a5 s5 w5) := H4.out.draw hf5 hb5' hs5
      clear hs5 hb5' hf5 H4
      go_wp2_with fail
      (first | go_at_call 35 | skip)
      refine (HNx.out _ 20 a5 s5 H5.out.2.2.2 H5.out.2.2.1 (by omega) (by omega)).mono ?_
      rintro e w6 ⟨x6, a6, s6, rfl, ⟨hx60, hx61⟩, ha6, hb6, hs6, hb6', hf6⟩
      have H6 : Hid (SkSo w b a len cap (.slice (some ⟨g, 0, none⟩) rs.length cp) rs a6 s6 w6) := H5.out.draw hf6 hb6' hs6
      clear hs6 hb6' hf6 H5
      go_wp2_with fail
      (first | go_at_call 35 | skip)
      refine (HNx.out _ 12 a6 s6 H6.out.2.2.2 H6.out.2.2.1 (by omega) (by omega)).mono ?_
      rintro e w7 ⟨x7, a7, s7, rfl, ⟨hx70, hx71⟩, ha7, hb7, hs7, hb7', hf7⟩
      have H7 : Hid (SkSo w b a len cap (.slice (some ⟨g, 0, none⟩) rs.length cp) rs a7 s7 w7) := H6.out.draw hf7 hb7' hs7
      clear hs7 hb7' hf7 H6
      obtain ⟨w8, hw8⟩ : ∃ w8, w8 = w7.alloc (Obj.cells #[.int .i64 1, .string ar, .int .i64 (1 + x5), .int .i64 (1 + x6), .int .i64 (day + x7)] 34) := ⟨_, rfl⟩
      obtain ⟨A, hA⟩ : ∃ A, A = w7.heap.size := ⟨_, rfl⟩
      have HW8 : Hid (w8 = w7.alloc (Obj.cells #[.int .i64 1, .string ar, .int .i64 (1 + x5), .int .i64 (1 + x6), .int .i64 (day + x7)] 34) ∧ A = w7.heap.size) := ⟨hw8, hA⟩
      have H8 : Hid (SkSo w b a len cap (.slice (some ⟨g, 0, none⟩) rs.length cp) rs a7 s7 w8) := by show SkSo _ _ _ _ _ _ _ _ _ _; rw [hw8]; exact H7.out.alloc _
      have X8 : Hid (w8.heap[A]? = some (.cells #[.int .i64 1, .string ar, .int .i64 (1 + x5), .int .i64 (1 + x6), .int .i64 (day + x7)] 34 (0, 0))) := by show _ = _; rw [hw8, hA]; exact heapNew _ _
      have hbA : b < A := by rw [hA]; exact H7.out.2.2.1.2.2.2.2.2.1
      have hgA : g ≠ A := by have := (H7.out.1.lt g rfl).2; omega
      have hAb : A ≠ b := by omega
      clear hw8 hA H7
      go_upto_region 7 with fail
      rw [← HW8.out.1, ← HW8.out.2]
      clear HW8
      go_wp2_with fail
      (first | go_at_call 35 | skip)
      refine (HNx.out _ 11 a7 s7 H8.out.2.2.2 H8.out.2.2.1 (by omega) (by omega)).mono ?_
      rintro e w9 ⟨x9, a9, s9, rfl, ⟨hx90, hx91⟩, ha9, hb9, hs9, hb9', hf9⟩
      have H9 : Hid (SkSo w b a len cap (.slice (some ⟨g, 0, none⟩) rs.length cp) rs a9 s9 w9) := H8.out.draw hf9 hb9' hs9
      have X9 : Hid (w9.heap[A]? = some (.cells #[.int .i64 1, .string ar, .int .i64 (1 + x5), .int .i64 (1 + x6), .int .i64 (day + x7)] 34 (0, 0))) := (hf9 A (by omega)).trans X8.out
      clear hs9 hb9' hf9 H8 X8
      rcases (by omega : x9 = 0 ∨ x9 = 1 ∨ x9 = 2 ∨ x9 = 3 ∨ x9 = 4 ∨ x9 = 5 ∨ x9 = 6 ∨ x9 = 7 ∨ x9 = 8 ∨ x9 = 9 ∨ x9 = 10) with rfl | rfl | rfl | rfl | rfl | rfl | rfl | rfl | rfl | rfl | rfl
      · go_upto_region 12 with fail
        have H9d : Hid (SkSo w b a len cap (.slice (some ⟨g, 0, none⟩) rs.length cp) rs a9 s9 w9.drew) := H9.out.drew
        have X9d : Hid (w9.drew.heap[A]? = some (.cells #[.int .i64 1, .string ar, .int .i64 (1 + x5), .int .i64 (1 + x6), .int .i64 (day + x7)] 34 (0, 0))) := X9.out
        refine wp_region_held_drew (S := fun X => X.cell? ⟨A, 1, none⟩ = some (.string ar)) (by kernel_rfl) (blkCell X9d.out 1 _ rfl) (fun hH => ?_)
        clear H9 X9
        generalize w9.drew = w9d at *
        refine wpAnyH_take (i := 0) (v := .pointer (some ⟨A, 1, none⟩)) rfl (by kernel_rfl) (by kernel_rfl) (by kernel_rfl) (fun _ _ _ h => h) (Or.inl ⟨by rfl, fun w hSw => by clear hSw; go_simp⟩) hH ?_
        refine wpAnyH_take (i := 1) (v := .string ar) rfl (by kernel_rfl) (by kernel_rfl) (by kernel_rfl) (fun _ _ _ h => h) (Or.inl ⟨by rfl, fun w hSw => by go_simp⟩) hH ?_
        try simp only [Act.put, List.setIfInBounds_toArray, List.set_cons_zero, List.set_cons_succ, List.getElem_toArray, List.getElem_cons_succ, List.getElem_cons_zero]
        refine wpAnyH_take (i := 2) (v := .pointer (some ⟨b, 0, none⟩)) rfl (by kernel_rfl) (by kernel_rfl) (by kernel_rfl) (fun _ _ _ h => h) (Or.inl ⟨by rfl, fun w hSw => by clear hSw; go_simp⟩) hH ?_
        try simp only [Act.put, List.setIfInBounds_toArray, List.set_cons_zero, List.set_cons_succ, List.getElem_toArray, List.getElem_cons_succ, List.getElem_cons_zero]
        refine wpAnyH_ready (rs := [3]) (by kernel_rfl) (by simp) ?_
        refine AllReadyH.cons rfl (fun K hK => ?_) AllReadyH.nil
        go_simp
        go_at_call 35
        refine (HNx.out _ 16 a9 s9 H9d.out.2.2.2 H9d.out.2.2.1 (by omega) (by omega)).mono ?_
        rintro e w10 ⟨x10, a10, s10, rfl, ⟨hx100, hx101⟩, ha10, hb10, hs10, hb10', hf10⟩
        have H10 : Hid (SkSo w b a len cap (.slice (some ⟨g, 0, none⟩) rs.length cp) rs a10 s10 w10) := H9d.out.draw hf10 hb10' hs10
        have X10 : Hid (w10.heap[A]? = some (.cells #[.int .i64 1, .string ar, .int .i64 (1 + x5), .int .i64 (1 + x6), .int .i64 (day + x7)] 34 (0, 0))) := (hf10 A hAb).trans X9d.out
        have h10 : (fun X => X.cell? ⟨A, 1, none⟩ = some (.string ar)) w10 := blkCell X10.out 1 _ rfl
        clear hs10 hb10' hf10 H9d X9d
        refine hK.out _ _ h10 (fun _ => ?_)
        clear hK K
        try simp only [Act.put, List.setIfInBounds_toArray, List.set_cons_zero, List.set_cons_succ, List.getElem_toArray, List.getElem_cons_succ, List.getElem_cons_zero]
        have hw10 : IntKind.i64.wrap (1 + x10) = 1 + x10 := wrap_id _ (by omega) (by omega)
        refine wpAnyH_take (i := 4) (v := .int .i64 (1 + x10)) rfl (by kernel_rfl) (by kernel_rfl) (by kernel_rfl) (fun _ _ _ h => h) (Or.inl ⟨by rfl, fun w hSw => by have f0 := hw10; clear hSw; go_simp⟩) h10 ?_
        try simp only [Act.put, List.setIfInBounds_toArray, List.set_cons_zero, List.set_cons_succ, List.getElem_toArray, List.getElem_cons_succ, List.getElem_cons_zero]
        refine wpAnyH_take (i := 5) (v := .agg #[.int .i64 2, .string ar, .int .i64 0, .int .i64 (1 + x10), .int .i64 0]) rfl (by kernel_rfl) (by kernel_rfl) (by kernel_rfl) (fun _ _ _ h => h) (Or.inl ⟨by rfl, fun w hSw => by clear hSw; go_simp⟩) h10 ?_
        try simp only [Act.put, List.setIfInBounds_toArray, List.set_cons_zero, List.set_cons_succ, List.getElem_toArray, List.getElem_cons_succ, List.getElem_cons_zero]
        refine wpAnyH_ready (rs := [6]) (by kernel_rfl) (by simp) ?_
        refine AllReadyH.cons rfl (fun K hK => ?_) AllReadyH.nil
        have z0 := blkCell X10.out 0 _ rfl
        have z1 := blkCell X10.out 1 _ rfl
        have z2 := blkCell X10.out 2 _ rfl
        have z3 := blkCell X10.out 3 _ rfl
        have z4 := blkCell X10.out 4 _ rfl
        have q0 := blkFree X10.out 0
        have q1 := blkFree X10.out 1
        have q2 := blkFree X10.out 2
        have q3 := blkFree X10.out 3
        have q4 := blkFree X10.out 4
        simp only [List.getElem_toArray, List.getElem_cons_zero, List.getElem_cons_succ] at z0 z1 z2 z3 z4
        have X11 : Hid ((((((w10.setCell ⟨A, 0, none⟩ (.int .i64 2)).setCell ⟨A, 1, none⟩ (.string ar)).setCell ⟨A, 2, none⟩ (.int .i64 0)).setCell ⟨A, 3, none⟩ (.int .i64 (1 + x10))).setCell ⟨A, 4, none⟩ (.int .i64 0)).heap[A]? = some (.cells #[.int .i64 2, .string ar, .int .i64 0, .int .i64 (1 + x10), .int .i64 0] 34 (0, 0))) := act_set X10.out _ _ _ _ _
        have H11 : Hid (SkSo w b a len cap (.slice (some ⟨g, 0, none⟩) rs.length cp) rs a10 s10 (((((w10.setCell ⟨A, 0, none⟩ (.int .i64 2)).setCell ⟨A, 1, none⟩ (.string ar)).setCell ⟨A, 2, none⟩ (.int .i64 0)).setCell ⟨A, 3, none⟩ (.int .i64 (1 + x10))).setCell ⟨A, 4, none⟩ (.int .i64 0))) := ((((H10.out.setA hbA hgA _ _).setA hbA hgA _ _).setA hbA hgA _ _).setA hbA hgA _ _).setA hbA hgA _ _
        have h11 : (fun X => X.cell? ⟨A, 1, none⟩ = some (.string ar)) (((((w10.setCell ⟨A, 0, none⟩ (.int .i64 2)).setCell ⟨A, 1, none⟩ (.string ar)).setCell ⟨A, 2, none⟩ (.int .i64 0)).setCell ⟨A, 3, none⟩ (.int .i64 (1 + x10))).setCell ⟨A, 4, none⟩ (.int .i64 0)) := blkCell X11.out 1 _ rfl
        go_simp
        refine hK.out _ _ h11 (fun _ => ?_)
        clear hK K
        try simp only [Act.put, List.setIfInBounds_toArray, List.set_cons_zero, List.set_cons_succ, List.getElem_toArray, List.getElem_cons_succ, List.getElem_cons_zero]
        refine wpAnyH_done (by kernel_rfl) ?_ _
        clear z0 z1 z2 z3 z4 q0 q1 q2 q3 q4 H10 X10 h10 h11 hH
        generalize (((((w10.setCell ⟨A, 0, none⟩ (.int .i64 2)).setCell ⟨A, 1, none⟩ (.string ar)).setCell ⟨A, 2, none⟩ (.int .i64 0)).setCell ⟨A, 3, none⟩ (.int .i64 (1 + x10))).setCell ⟨A, 4, none⟩ (.int .i64 0)) = w11 at *
        go_upto_region 22 with fail
        have y0 := blkCell X11.out 0 _ rfl
        have y1 := blkCell X11.out 1 _ rfl
        have y2 := blkCell X11.out 2 _ rfl
        have y3 := blkCell X11.out 3 _ rfl
        have y4 := blkCell X11.out 4 _ rfl
        simp only [List.getElem_toArray, List.getElem_cons_zero, List.getElem_cons_succ] at y0 y1 y2 y3 y4
        have HA : Hid (SkSo w b a len cap (.slice (some ⟨g, 0, none⟩) rs.length cp) rs a10 s10 (w11.alloc (Obj.cells #[.int .i64 2, .string ar, .int .i64 0, .int .i64 (1 + x10), .int .i64 0] 34))) := H11.out.alloc _
        have HN : Hid ((w11.alloc (Obj.cells #[.int .i64 2, .string ar, .int .i64 0, .int .i64 (1 + x10), .int .i64 0] 34)).heap[w11.heap.size]? = some (.cells #[.int .i64 2, .string ar, .int .i64 0, .int .i64 (1 + x10), .int .i64 0] 34 (0, 0))) := heapNew _ _
        have hzz := HA.out.2.1
        clear H11
        go_wp2_with (at_builtin; refine wpList_append_lies _ rfl _ _ 23 rfl (b + 1) 34 i0 (.agg #[.int .i64 0, .string ⟨#[]⟩, .int .i64 0, .int .i64 0, .int .i64 0]) 5 48 Try.underlying23 hi hi0 hi1 hi2 rfl (by decide) _ _ _ rfl HA.out.1 ⟨w11.heap.size, 0, none⟩ 1 1 [.int .i64 2, .string ar, .int .i64 0, .int .i64 (1 + x10), .int .i64 0] rfl rfl (World.news_of_block HN.out) (by simp [Value.oneCell']) (by omega) (by unfold maxLen; omega) (by omega) hzz _ rfl ?_; intro g1 cp1 wz hown1 hgrow1 hat1 hglt1; have HF : Hid (SkSo w b a len cap (.slice (some ⟨g1, 0, none⟩) (rs.length + 1) cp1) (rs ++ [⟨2, ar, 0, (1 + x10), 0⟩]) a10 s10 wz) := HA.out.push (r := ⟨2, ar, 0, (1 + x10), 0⟩) hown1 hgrow1; clear hown1 hgrow1 hat1 hglt1)
        refine ⟨⟨rs ++ [⟨2, ar, 0, (1 + x10), 0⟩], k - 1, g1, cp1, a10, s10, day, by rw [List.length_append]; simp; omega, by simp, by go_num, rfl, fun r hr => ?_, by omega, by rw [List.length_append]; push_cast; simp; omega, by rw [List.length_append]; push_cast; simp; omega, HF.out⟩, by simp [intOf]; omega⟩
        rcases List.mem_append.1 hr with q | q
        · exact HD.out r q
        · rw [List.mem_singleton.1 q]; exact ⟨⟨by dsimp only; omega, by dsimp only; omega⟩, by first | exact har | (show (0 : Nat) ≤ 4; omega) | simp, ⟨by dsimp only; omega, by dsimp only; omega⟩, ⟨by dsimp only; omega, by dsimp only; omega⟩, by dsimp only; omega, by dsimp only; omega⟩
      · go_upto_region 12 with fail
        have H9d : Hid (SkSo w b a len cap (.slice (some ⟨g, 0, none⟩) rs.length cp) rs a9 s9 w9.drew) := H9.out.drew
        have X9d : Hid (w9.drew.heap[A]? = some (.cells #[.int .i64 1, .string ar, .int .i64 (1 + x5), .int .i64 (1 + x6), .int .i64 (day + x7)] 34 (0, 0))) := X9.out
        refine wp_region_held_drew (S := fun X => X.cell? ⟨A, 1, none⟩ = some (.string ar)) (by kernel_rfl) (blkCell X9d.out 1 _ rfl) (fun hH => ?_)
        clear H9 X9
        generalize w9.drew = w9d at *
        refine wpAnyH_take (i := 0) (v := .pointer (some ⟨A, 1, none⟩)) rfl (by kernel_rfl) (by kernel_rfl) (by kernel_rfl) (fun _ _ _ h => h) (Or.inl ⟨by rfl, fun w hSw => by clear hSw; go_simp⟩) hH ?_
        refine wpAnyH_take (i := 1) (v := .string ar) rfl (by kernel_rfl) (by kernel_rfl) (by kernel_rfl) (fun _ _ _ h => h) (Or.inl ⟨by rfl, fun w hSw => by go_simp⟩) hH ?_
        try simp only [Act.put, List.setIfInBounds_toArray, List.set_cons_zero, List.set_cons_succ, List.getElem_toArray, List.getElem_cons_succ, List.getElem_cons_zero]
        refine wpAnyH_take (i := 2) (v := .pointer (some ⟨b, 0, none⟩)) rfl (by kernel_rfl) (by kernel_rfl) (by kernel_rfl) (fun _ _ _ h => h) (Or.inl ⟨by rfl, fun w hSw => by clear hSw; go_simp⟩) hH ?_
        try simp only [Act.put, List.setIfInBounds_toArray, List.set_cons_zero, List.set_cons_succ, List.getElem_toArray, List.getElem_cons_succ, List.getElem_cons_zero]
        refine wpAnyH_ready (rs := [3]) (by kernel_rfl) (by simp) ?_
        refine AllReadyH.cons rfl (fun K hK => ?_) AllReadyH.nil
        go_simp
        go_at_call 35
        refine (HNx.out _ 16 a9 s9 H9d.out.2.2.2 H9d.out.2.2.1 (by omega) (by omega)).mono ?_
        rintro e w10 ⟨x10, a10, s10, rfl, ⟨hx100, hx101⟩, ha10, hb10, hs10, hb10', hf10⟩
        have H10 : Hid (SkSo w b a len cap (.slice (some ⟨g, 0, none⟩) rs.length cp) rs a10 s10 w10) := H9d.out.draw hf10 hb10' hs10
        have X10 : Hid (w10.heap[A]? = some (.cells #[.int .i64 1, .string ar, .int .i64 (1 + x5), .int .i64 (1 + x6), .int .i64 (day + x7)] 34 (0, 0))) := (hf10 A hAb).trans X9d.out
        have h10 : (fun X => X.cell? ⟨A, 1, none⟩ = some (.string ar)) w10 := blkCell X10.out 1 _ rfl
        clear hs10 hb10' hf10 H9d X9d
        refine hK.out _ _ h10 (fun _ => ?_)
        clear hK K
        try simp only [Act.put, List.setIfInBounds_toArray, List.set_cons_zero, List.set_cons_succ, List.getElem_toArray, List.getElem_cons_succ, List.getElem_cons_zero]
        have hw10 : IntKind.i64.wrap (1 + x10) = 1 + x10 := wrap_id _ (by omega) (by omega)
        refine wpAnyH_take (i := 4) (v := .int .i64 (1 + x10)) rfl (by kernel_rfl) (by kernel_rfl) (by kernel_rfl) (fun _ _ _ h => h) (Or.inl ⟨by rfl, fun w hSw => by have f0 := hw10; clear hSw; go_simp⟩) h10 ?_
        try simp only [Act.put, List.setIfInBounds_toArray, List.set_cons_zero, List.set_cons_succ, List.getElem_toArray, List.getElem_cons_succ, List.getElem_cons_zero]
        refine wpAnyH_take (i := 5) (v := .agg #[.int .i64 2, .string ar, .int .i64 0, .int .i64 (1 + x10), .int .i64 0]) rfl (by kernel_rfl) (by kernel_rfl) (by kernel_rfl) (fun _ _ _ h => h) (Or.inl ⟨by rfl, fun w hSw => by clear hSw; go_simp⟩) h10 ?_
        try simp only [Act.put, List.setIfInBounds_toArray, List.set_cons_zero, List.set_cons_succ, List.getElem_toArray, List.getElem_cons_succ, List.getElem_cons_zero]
        refine wpAnyH_ready (rs := [6]) (by kernel_rfl) (by simp) ?_
        refine AllReadyH.cons rfl (fun K hK => ?_) AllReadyH.nil
        have z0 := blkCell X10.out 0 _ rfl
        have z1 := blkCell X10.out 1 _ rfl
        have z2 := blkCell X10.out 2 _ rfl
        have z3 := blkCell X10.out 3 _ rfl
        have z4 := blkCell X10.out 4 _ rfl
        have q0 := blkFree X10.out 0
        have q1 := blkFree X10.out 1
        have q2 := blkFree X10.out 2
        have q3 := blkFree X10.out 3
        have q4 := blkFree X10.out 4
        simp only [List.getElem_toArray, List.getElem_cons_zero, List.getElem_cons_succ] at z0 z1 z2 z3 z4
        have X11 : Hid ((((((w10.setCell ⟨A, 0, none⟩ (.int .i64 2)).setCell ⟨A, 1, none⟩ (.string ar)).setCell ⟨A, 2, none⟩ (.int .i64 0)).setCell ⟨A, 3, none⟩ (.int .i64 (1 + x10))).setCell ⟨A, 4, none⟩ (.int .i64 0)).heap[A]? = some (.cells #[.int .i64 2, .string ar, .int .i64 0, .int .i64 (1 + x10), .int .i64 0] 34 (0, 0))) := act_set X10.out _ _ _ _ _
        have H11 : Hid (SkSo w b a len cap (.slice (some ⟨g, 0, none⟩) rs.length cp) rs a10 s10 (((((w10.setCell ⟨A, 0, none⟩ (.int .i64 2)).setCell ⟨A, 1, none⟩ (.string ar)).setCell ⟨A, 2, none⟩ (.int .i64 0)).setCell ⟨A, 3, none⟩ (.int .i64 (1 + x10))).setCell ⟨A, 4, none⟩ (.int .i64 0))) := ((((H10.out.setA hbA hgA _ _).setA hbA hgA _ _).setA hbA hgA _ _).setA hbA hgA _ _).setA hbA hgA _ _
        have h11 : (fun X => X.cell? ⟨A, 1, none⟩ = some (.string ar)) (((((w10.setCell ⟨A, 0, none⟩ (.int .i64 2)).setCell ⟨A, 1, none⟩ (.string ar)).setCell ⟨A, 2, none⟩ (.int .i64 0)).setCell ⟨A, 3, none⟩ (.int .i64 (1 + x10))).setCell ⟨A, 4, none⟩ (.int .i64 0)) := blkCell X11.out 1 _ rfl
        go_simp
        refine hK.out _ _ h11 (fun _ => ?_)
        clear hK K
        try simp only [Act.put, List.setIfInBounds_toArray, List.set_cons_zero, List.set_cons_succ, List.getElem_toArray, List.getElem_cons_succ, List.getElem_cons_zero]
        refine wpAnyH_done (by kernel_rfl) ?_ _
        clear z0 z1 z2 z3 z4 q0 q1 q2 q3 q4 H10 X10 h10 h11 hH
        generalize (((((w10.setCell ⟨A, 0, none⟩ (.int .i64 2)).setCell ⟨A, 1, none⟩ (.string ar)).setCell ⟨A, 2, none⟩ (.int .i64 0)).setCell ⟨A, 3, none⟩ (.int .i64 (1 + x10))).setCell ⟨A, 4, none⟩ (.int .i64 0)) = w11 at *
        go_upto_region 22 with fail
        have y0 := blkCell X11.out 0 _ rfl
        have y1 := blkCell X11.out 1 _ rfl
        have y2 := blkCell X11.out 2 _ rfl
        have y3 := blkCell X11.out 3 _ rfl
        have y4 := blkCell X11.out 4 _ rfl
        simp only [List.getElem_toArray, List.getElem_cons_zero, List.getElem_cons_succ] at y0 y1 y2 y3 y4
        have HA : Hid (SkSo w b a len cap (.slice (some ⟨g, 0, none⟩) rs.length cp) rs a10 s10 (w11.alloc (Obj.cells #[.int .i64 2, .string ar, .int .i64 0, .int .i64 (1 + x10), .int .i64 0] 34))) := H11.out.alloc _
        have HN : Hid ((w11.alloc (Obj.cells #[.int .i64 2, .string ar, .int .i64 0, .int .i64 (1 + x10), .int .i64 0] 34)).heap[w11.heap.size]? = some (.cells #[.int .i64 2, .string ar, .int .i64 0, .int .i64 (1 + x10), .int .i64 0] 34 (0, 0))) := heapNew _ _
        have hzz := HA.out.2.1
        clear H11
        go_wp2_with (at_builtin; refine wpList_append_lies _ rfl _ _ 23 rfl (b + 1) 34 i0 (.agg #[.int .i64 0, .string ⟨#[]⟩, .int .i64 0, .int .i64 0, .int .i64 0]) 5 48 Try.underlying23 hi hi0 hi1 hi2 rfl (by decide) _ _ _ rfl HA.out.1 ⟨w11.heap.size, 0, none⟩ 1 1 [.int .i64 2, .string ar, .int .i64 0, .int .i64 (1 + x10), .int .i64 0] rfl rfl (World.news_of_block HN.out) (by simp [Value.oneCell']) (by omega) (by unfold maxLen; omega) (by omega) hzz _ rfl ?_; intro g1 cp1 wz hown1 hgrow1 hat1 hglt1; have HF : Hid (SkSo w b a len cap (.slice (some ⟨g1, 0, none⟩) (rs.length + 1) cp1) (rs ++ [⟨2, ar, 0, (1 + x10), 0⟩]) a10 s10 wz) := HA.out.push (r := ⟨2, ar, 0, (1 + x10), 0⟩) hown1 hgrow1; clear hown1 hgrow1 hat1 hglt1)
        refine ⟨⟨rs ++ [⟨2, ar, 0, (1 + x10), 0⟩], k - 1, g1, cp1, a10, s10, day, by rw [List.length_append]; simp; omega, by simp, by go_num, rfl, fun r hr => ?_, by omega, by rw [List.length_append]; push_cast; simp; omega, by rw [List.length_append]; push_cast; simp; omega, HF.out⟩, by simp [intOf]; omega⟩
        rcases List.mem_append.1 hr with q | q
        · exact HD.out r q
        · rw [List.mem_singleton.1 q]; exact ⟨⟨by dsimp only; omega, by dsimp only; omega⟩, by first | exact har | (show (0 : Nat) ≤ 4; omega) | simp, ⟨by dsimp only; omega, by dsimp only; omega⟩, ⟨by dsimp only; omega, by dsimp only; omega⟩, by dsimp only; omega, by dsimp only; omega⟩
      · go_upto_region 12 with fail
        have H9d : Hid (SkSo w b a len cap (.slice (some ⟨g, 0, none⟩) rs.length cp) rs a9 s9 w9.drew) := H9.out.drew
        have X9d : Hid (w9.drew.heap[A]? = some (.cells #[.int .i64 1, .string ar, .int .i64 (1 + x5), .int .i64 (1 + x6), .int .i64 (day + x7)] 34 (0, 0))) := X9.out
        refine wp_region_held_drew (S := fun X => X.cell? ⟨A, 1, none⟩ = some (.string ar)) (by kernel_rfl) (blkCell X9d.out 1 _ rfl) (fun hH => ?_)
        clear H9 X9
        generalize w9.drew = w9d at *
        refine wpAnyH_take (i := 0) (v := .pointer (some ⟨A, 1, none⟩)) rfl (by kernel_rfl) (by kernel_rfl) (by kernel_rfl) (fun _ _ _ h => h) (Or.inl ⟨by rfl, fun w hSw => by clear hSw; go_simp⟩) hH ?_
        refine wpAnyH_take (i := 1) (v := .string ar) rfl (by kernel_rfl) (by kernel_rfl) (by kernel_rfl) (fun _ _ _ h => h) (Or.inl ⟨by rfl, fun w hSw => by go_simp⟩) hH ?_
        try simp only [Act.put, List.setIfInBounds_toArray, List.set_cons_zero, List.set_cons_succ, List.getElem_toArray, List.getElem_cons_succ, List.getElem_cons_zero]
        refine wpAnyH_take (i := 2) (v := .pointer (some ⟨b, 0, none⟩)) rfl (by kernel_rfl) (by kernel_rfl) (by kernel_rfl) (fun _ _ _ h => h) (Or.inl ⟨by rfl, fun w hSw => by clear hSw; go_simp⟩) hH ?_
        try simp only [Act.put, List.setIfInBounds_toArray, List.set_cons_zero, List.set_cons_succ, List.getElem_toArray, List.getElem_cons_succ, List.getElem_cons_zero]
        refine wpAnyH_ready (rs := [3]) (by kernel_rfl) (by simp) ?_
        refine AllReadyH.cons rfl (fun K hK => ?_) AllReadyH.nil
        go_simp
        go_at_call 35
        refine (HNx.out _ 16 a9 s9 H9d.out.2.2.2 H9d.out.2.2.1 (by omega) (by omega)).mono ?_
        rintro e w10 ⟨x10, a10, s10, rfl, ⟨hx100, hx101⟩, ha10, hb10, hs10, hb10', hf10⟩
        have H10 : Hid (SkSo w b a len cap (.slice (some ⟨g, 0, none⟩) rs.length cp) rs a10 s10 w10) := H9d.out.draw hf10 hb10' hs10
        have X10 : Hid (w10.heap[A]? = some (.cells #[.int .i64 1, .string ar, .int .i64 (1 + x5), .int .i64 (1 + x6), .int .i64 (day + x7)] 34 (0, 0))) := (hf10 A hAb).trans X9d.out
        have h10 : (fun X => X.cell? ⟨A, 1, none⟩ = some (.string ar)) w10 := blkCell X10.out 1 _ rfl
        clear hs10 hb10' hf10 H9d X9d
        refine hK.out _ _ h10 (fun _ => ?_)
        clear hK K
        try simp only [Act.put, List.setIfInBounds_toArray, List.set_cons_zero, List.set_cons_succ, List.getElem_toArray, List.getElem_cons_succ, List.getElem_cons_zero]
        have hw10 : IntKind.i64.wrap (1 + x10) = 1 + x10 := wrap_id _ (by omega) (by omega)
        refine wpAnyH_take (i := 4) (v := .int .i64 (1 + x10)) rfl (by kernel_rfl) (by kernel_rfl) (by kernel_rfl) (fun _ _ _ h => h) (Or.inl ⟨by rfl, fun w hSw => by have f0 := hw10; clear hSw; go_simp⟩) h10 ?_
        try simp only [Act.put, List.setIfInBounds_toArray, List.set_cons_zero, List.set_cons_succ, List.getElem_toArray, List.getElem_cons_succ, List.getElem_cons_zero]
        refine wpAnyH_take (i := 5) (v := .agg #[.int .i64 2, .string ar, .int .i64 0, .int .i64 (1 + x10), .int .i64 0]) rfl (by kernel_rfl) (by kernel_rfl) (by kernel_rfl) (fun _ _ _ h => h) (Or.inl ⟨by rfl, fun w hSw => by clear hSw; go_simp⟩) h10 ?_
        try simp only [Act.put, List.setIfInBounds_toArray, List.set_cons_zero, List.set_cons_succ, List.getElem_toArray, List.getElem_cons_succ, List.getElem_cons_zero]
        refine wpAnyH_ready (rs := [6]) (by kernel_rfl) (by simp) ?_
        refine AllReadyH.cons rfl (fun K hK => ?_) AllReadyH.nil
        have z0 := blkCell X10.out 0 _ rfl
        have z1 := blkCell X10.out 1 _ rfl
        have z2 := blkCell X10.out 2 _ rfl
        have z3 := blkCell X10.out 3 _ rfl
        have z4 := blkCell X10.out 4 _ rfl
        have q0 := blkFree X10.out 0
        have q1 := blkFree X10.out 1
        have q2 := blkFree X10.out 2
        have q3 := blkFree X10.out 3
        have q4 := blkFree X10.out 4
        simp only [List.getElem_toArray, List.getElem_cons_zero, List.getElem_cons_succ] at z0 z1 z2 z3 z4
        have X11 : Hid ((((((w10.setCell ⟨A, 0, none⟩ (.int .i64 2)).setCell ⟨A, 1, none⟩ (.string ar)).setCell ⟨A, 2, none⟩ (.int .i64 0)).setCell ⟨A, 3, none⟩ (.int .i64 (1 + x10))).setCell ⟨A, 4, none⟩ (.int .i64 0)).heap[A]? = some (.cells #[.int .i64 2, .string ar, .int .i64 0, .int .i64 (1 + x10), .int .i64 0] 34 (0, 0))) := act_set X10.out _ _ _ _ _
        have H11 : Hid (SkSo w b a len cap (.slice (some ⟨g, 0, none⟩) rs.length cp) rs a10 s10 (((((w10.setCell ⟨A, 0, none⟩ (.int .i64 2)).setCell ⟨A, 1, none⟩ (.string ar)).setCell ⟨A, 2, none⟩ (.int .i64 0)).setCell ⟨A, 3, none⟩ (.int .i64 (1 + x10))).setCell ⟨A, 4, none⟩ (.int .i64 0))) := ((((H10.out.setA hbA hgA _ _).setA hbA hgA _ _).setA hbA hgA _ _).setA hbA hgA _ _).setA hbA hgA _ _
        have h11 : (fun X => X.cell? ⟨A, 1, none⟩ = some (.string ar)) (((((w10.setCell ⟨A, 0, none⟩ (.int .i64 2)).setCell ⟨A, 1, none⟩ (.string ar)).setCell ⟨A, 2, none⟩ (.int .i64 0)).setCell ⟨A, 3, none⟩ (.int .i64 (1 + x10))).setCell ⟨A, 4, none⟩ (.int .i64 0)) := blkCell X11.out 1 _ rfl
        go_simp
        refine hK.out _ _ h11 (fun _ => ?_)
        clear hK K
        try simp only [Act.put, List.setIfInBounds_toArray, List.set_cons_zero, List.set_cons_succ, List.getElem_toArray, List.getElem_cons_succ, List.getElem_cons_zero]
        refine wpAnyH_done (by kernel_rfl) ?_ _
        clear z0 z1 z2 z3 z4 q0 q1 q2 q3 q4 H10 X10 h10 h11 hH
        generalize (((((w10.setCell ⟨A, 0, none⟩ (.int .i64 2)).setCell ⟨A, 1, none⟩ (.string ar)).setCell ⟨A, 2, none⟩ (.int .i64 0)).setCell ⟨A, 3, none⟩ (.int .i64 (1 + x10))).setCell ⟨A, 4, none⟩ (.int .i64 0)) = w11 at *
        go_upto_region 22 with fail
        have y0 := blkCell X11.out 0 _ rfl
        have y1 := blkCell X11.out 1 _ rfl
        have y2 := blkCell X11.out 2 _ rfl
        have y3 := blkCell X11.out 3 _ rfl
        have y4 := blkCell X11.out 4 _ rfl
        simp only [List.getElem_toArray, List.getElem_cons_zero, List.getElem_cons_succ] at y0 y1 y2 y3 y4
        have HA : Hid (SkSo w b a len cap (.slice (some ⟨g, 0, none⟩) rs.length cp) rs a10 s10 (w11.alloc (Obj.cells #[.int .i64 2, .string ar, .int .i64 0, .int .i64 (1 + x10), .int .i64 0] 34))) := H11.out.alloc _
        have HN : Hid ((w11.alloc (Obj.cells #[.int .i64 2, .string ar, .int .i64 0, .int .i64 (1 + x10), .int .i64 0] 34)).heap[w11.heap.size]? = some (.cells #[.int .i64 2, .string ar, .int .i64 0, .int .i64 (1 + x10), .int .i64 0] 34 (0, 0))) := heapNew _ _
        have hzz := HA.out.2.1
        clear H11
        go_wp2_with (at_builtin; refine wpList_append_lies _ rfl _ _ 23 rfl (b + 1) 34 i0 (.agg #[.int .i64 0, .string ⟨#[]⟩, .int .i64 0, .int .i64 0, .int .i64 0]) 5 48 Try.underlying23 hi hi0 hi1 hi2 rfl (by decide) _ _ _ rfl HA.out.1 ⟨w11.heap.size, 0, none⟩ 1 1 [.int .i64 2, .string ar, .int .i64 0, .int .i64 (1 + x10), .int .i64 0] rfl rfl (World.news_of_block HN.out) (by simp [Value.oneCell']) (by omega) (by unfold maxLen; omega) (by omega) hzz _ rfl ?_; intro g1 cp1 wz hown1 hgrow1 hat1 hglt1; have HF : Hid (SkSo w b a len cap (.slice (some ⟨g1, 0, none⟩) (rs.length + 1) cp1) (rs ++ [⟨2, ar, 0, (1 + x10), 0⟩]) a10 s10 wz) := HA.out.push (r := ⟨2, ar, 0, (1 + x10), 0⟩) hown1 hgrow1; clear hown1 hgrow1 hat1 hglt1)
        refine ⟨⟨rs ++ [⟨2, ar, 0, (1 + x10), 0⟩], k - 1, g1, cp1, a10, s10, day, by rw [List.length_append]; simp; omega, by simp, by go_num, rfl, fun r hr => ?_, by omega, by rw [List.length_append]; push_cast; simp; omega, by rw [List.length_append]; push_cast; simp; omega, HF.out⟩, by simp [intOf]; omega⟩
        rcases List.mem_append.1 hr with q | q
        · exact HD.out r q
        · rw [List.mem_singleton.1 q]; exact ⟨⟨by dsimp only; omega, by dsimp only; omega⟩, by first | exact har | (show (0 : Nat) ≤ 4; omega) | simp, ⟨by dsimp only; omega, by dsimp only; omega⟩, ⟨by dsimp only; omega, by dsimp only; omega⟩, by dsimp only; omega, by dsimp only; omega⟩
      · go_upto_region 12 with fail
        have H9d : Hid (SkSo w b a len cap (.slice (some ⟨g, 0, none⟩) rs.length cp) rs a9 s9 w9.drew) := H9.out.drew
        have X9d : Hid (w9.drew.heap[A]? = some (.cells #[.int .i64 1, .string ar, .int .i64 (1 + x5), .int .i64 (1 + x6), .int .i64 (day + x7)] 34 (0, 0))) := X9.out
        refine wp_region_held_drew (S := fun X => X.cell? ⟨A, 1, none⟩ = some (.string ar)) (by kernel_rfl) (blkCell X9d.out 1 _ rfl) (fun hH => ?_)
        clear H9 X9
        generalize w9.drew = w9d at *
        refine wpAnyH_take (i := 0) (v := .pointer (some ⟨A, 1, none⟩)) rfl (by kernel_rfl) (by kernel_rfl) (by kernel_rfl) (fun _ _ _ h => h) (Or.inl ⟨by rfl, fun w hSw => by clear hSw; go_simp⟩) hH ?_
        refine wpAnyH_take (i := 1) (v := .string ar) rfl (by kernel_rfl) (by kernel_rfl) (by kernel_rfl) (fun _ _ _ h => h) (Or.inl ⟨by rfl, fun w hSw => by go_simp⟩) hH ?_
        try simp only [Act.put, List.setIfInBounds_toArray, List.set_cons_zero, List.set_cons_succ, List.getElem_toArray, List.getElem_cons_succ, List.getElem_cons_zero]
        refine wpAnyH_take (i := 2) (v := .pointer (some ⟨b, 0, none⟩)) rfl (by kernel_rfl) (by kernel_rfl) (by kernel_rfl) (fun _ _ _ h => h) (Or.inl ⟨by rfl, fun w hSw => by clear hSw; go_simp⟩) hH ?_
        try simp only [Act.put, List.setIfInBounds_toArray, List.set_cons_zero, List.set_cons_succ, List.getElem_toArray, List.getElem_cons_succ, List.getElem_cons_zero]
        refine wpAnyH_ready (rs := [3]) (by kernel_rfl) (by simp) ?_
        refine AllReadyH.cons rfl (fun K hK => ?_) AllReadyH.nil
        go_simp
        go_at_call 35
        refine (HNx.out _ 16 a9 s9 H9d.out.2.2.2 H9d.out.2.2.1 (by omega) (by omega)).mono ?_
        rintro e w10 ⟨x10, a10, s10, rfl, ⟨hx100, hx101⟩, ha10, hb10, hs10, hb10', hf10⟩
        have H10 : Hid (SkSo w b a len cap (.slice (some ⟨g, 0, none⟩) rs.length cp) rs a10 s10 w10) := H9d.out.draw hf10 hb10' hs10
        have X10 : Hid (w10.heap[A]? = some (.cells #[.int .i64 1, .string ar, .int .i64 (1 + x5), .int .i64 (1 + x6), .int .i64 (day + x7)] 34 (0, 0))) := (hf10 A hAb).trans X9d.out
        have h10 : (fun X => X.cell? ⟨A, 1, none⟩ = some (.string ar)) w10 := blkCell X10.out 1 _ rfl
        clear hs10 hb10' hf10 H9d X9d
        refine hK.out _ _ h10 (fun _ => ?_)
        clear hK K
        try simp only [Act.put, List.setIfInBounds_toArray, List.set_cons_zero, List.set_cons_succ, List.getElem_toArray, List.getElem_cons_succ, List.getElem_cons_zero]
        have hw10 : IntKind.i64.wrap (1 + x10) = 1 + x10 := wrap_id _ (by omega) (by omega)
        refine wpAnyH_take (i := 4) (v := .int .i64 (1 + x10)) rfl (by kernel_rfl) (by kernel_rfl) (by kernel_rfl) (fun _ _ _ h => h) (Or.inl ⟨by rfl, fun w hSw => by have f0 := hw10; clear hSw; go_simp⟩) h10 ?_
        try simp only [Act.put, List.setIfInBounds_toArray, List.set_cons_zero, List.set_cons_succ, List.getElem_toArray, List.getElem_cons_succ, List.getElem_cons_zero]
        refine wpAnyH_take (i := 5) (v := .agg #[.int .i64 2, .string ar, .int .i64 0, .int .i64 (1 + x10), .int .i64 0]) rfl (by kernel_rfl) (by kernel_rfl) (by kernel_rfl) (fun _ _ _ h => h) (Or.inl ⟨by rfl, fun w hSw => by clear hSw; go_simp⟩) h10 ?_
        try simp only [Act.put, List.setIfInBounds_toArray, List.set_cons_zero, List.set_cons_succ, List.getElem_toArray, List.getElem_cons_succ, List.getElem_cons_zero]
        refine wpAnyH_ready (rs := [6]) (by kernel_rfl) (by simp) ?_
        refine AllReadyH.cons rfl (fun K hK => ?_) AllReadyH.nil
        have z0 := blkCell X10.out 0 _ rfl
        have z1 := blkCell X10.out 1 _ rfl
        have z2 := blkCell X10.out 2 _ rfl
        have z3 := blkCell X10.out 3 _ rfl
        have z4 := blkCell X10.out 4 _ rfl
        have q0 := blkFree X10.out 0
        have q1 := blkFree X10.out 1
        have q2 := blkFree X10.out 2
        have q3 := blkFree X10.out 3
        have q4 := blkFree X10.out 4
        simp only [List.getElem_toArray, List.getElem_cons_zero, List.getElem_cons_succ] at z0 z1 z2 z3 z4
        have X11 : Hid ((((((w10.setCell ⟨A, 0, none⟩ (.int .i64 2)).setCell ⟨A, 1, none⟩ (.string ar)).setCell ⟨A, 2, none⟩ (.int .i64 0)).setCell ⟨A, 3, none⟩ (.int .i64 (1 + x10))).setCell ⟨A, 4, none⟩ (.int .i64 0)).heap[A]? = some (.cells #[.int .i64 2, .string ar, .int .i64 0, .int .i64 (1 + x10), .int .i64 0] 34 (0, 0))) := act_set X10.out _ _ _ _ _
        have H11 : Hid (SkSo w b a len cap (.slice (some ⟨g, 0, none⟩) rs.length cp) rs a10 s10 (((((w10.setCell ⟨A, 0, none⟩ (.int .i64 2)).setCell ⟨A, 1, none⟩ (.string ar)).setCell ⟨A, 2, none⟩ (.int .i64 0)).setCell ⟨A, 3, none⟩ (.int .i64 (1 + x10))).setCell ⟨A, 4, none⟩ (.int .i64 0))) := ((((H10.out.setA hbA hgA _ _).setA hbA hgA _ _).setA hbA hgA _ _).setA hbA hgA _ _).setA hbA hgA _ _
        have h11 : (fun X => X.cell? ⟨A, 1, none⟩ = some (.string ar)) (((((w10.setCell ⟨A, 0, none⟩ (.int .i64 2)).setCell ⟨A, 1, none⟩ (.string ar)).setCell ⟨A, 2, none⟩ (.int .i64 0)).setCell ⟨A, 3, none⟩ (.int .i64 (1 + x10))).setCell ⟨A, 4, none⟩ (.int .i64 0)) := blkCell X11.out 1 _ rfl
        go_simp
        refine hK.out _ _ h11 (fun _ => ?_)
        clear hK K
        try simp only [Act.put, List.setIfInBounds_toArray, List.set_cons_zero, List.set_cons_succ, List.getElem_toArray, List.getElem_cons_succ, List.getElem_cons_zero]
        refine wpAnyH_done (by kernel_rfl) ?_ _
        clear z0 z1 z2 z3 z4 q0 q1 q2 q3 q4 H10 X10 h10 h11 hH
        generalize (((((w10.setCell ⟨A, 0, none⟩ (.int .i64 2)).setCell ⟨A, 1, none⟩ (.string ar)).setCell ⟨A, 2, none⟩ (.int .i64 0)).setCell ⟨A, 3, none⟩ (.int .i64 (1 + x10))).setCell ⟨A, 4, none⟩ (.int .i64 0)) = w11 at *
        go_upto_region 22 with fail
        have y0 := blkCell X11.out 0 _ rfl
        have y1 := blkCell X11.out 1 _ rfl
        have y2 := blkCell X11.out 2 _ rfl
        have y3 := blkCell X11.out 3 _ rfl
        have y4 := blkCell X11.out 4 _ rfl
        simp only [List.getElem_toArray, List.getElem_cons_zero, List.getElem_cons_succ] at y0 y1 y2 y3 y4
        have HA : Hid (SkSo w b a len cap (.slice (some ⟨g, 0, none⟩) rs.length cp) rs a10 s10 (w11.alloc (Obj.cells #[.int .i64 2, .string ar, .int .i64 0, .int .i64 (1 + x10), .int .i64 0] 34))) := H11.out.alloc _
        have HN : Hid ((w11.alloc (Obj.cells #[.int .i64 2, .string ar, .int .i64 0, .int .i64 (1 + x10), .int .i64 0] 34)).heap[w11.heap.size]? = some (.cells #[.int .i64 2, .string ar, .int .i64 0, .int .i64 (1 + x10), .int .i64 0] 34 (0, 0))) := heapNew _ _
        have hzz := HA.out.2.1
        clear H11
        go_wp2_with (at_builtin; refine wpList_append_lies _ rfl _ _ 23 rfl (b + 1) 34 i0 (.agg #[.int .i64 0, .string ⟨#[]⟩, .int .i64 0, .int .i64 0, .int .i64 0]) 5 48 Try.underlying23 hi hi0 hi1 hi2 rfl (by decide) _ _ _ rfl HA.out.1 ⟨w11.heap.size, 0, none⟩ 1 1 [.int .i64 2, .string ar, .int .i64 0, .int .i64 (1 + x10), .int .i64 0] rfl rfl (World.news_of_block HN.out) (by simp [Value.oneCell']) (by omega) (by unfold maxLen; omega) (by omega) hzz _ rfl ?_; intro g1 cp1 wz hown1 hgrow1 hat1 hglt1; have HF : Hid (SkSo w b a len cap (.slice (some ⟨g1, 0, none⟩) (rs.length + 1) cp1) (rs ++ [⟨2, ar, 0, (1 + x10), 0⟩]) a10 s10 wz) := HA.out.push (r := ⟨2, ar, 0, (1 + x10), 0⟩) hown1 hgrow1; clear hown1 hgrow1 hat1 hglt1)
        refine ⟨⟨rs ++ [⟨2, ar, 0, (1 + x10), 0⟩], k - 1, g1, cp1, a10, s10, day, by rw [List.length_append]; simp; omega, by simp, by go_num, rfl, fun r hr => ?_, by omega, by rw [List.length_append]; push_cast; simp; omega, by rw [List.length_append]; push_cast; simp; omega, HF.out⟩, by simp [intOf]; omega⟩
        rcases List.mem_append.1 hr with q | q
        · exact HD.out r q
        · rw [List.mem_singleton.1 q]; exact ⟨⟨by dsimp only; omega, by dsimp only; omega⟩, by first | exact har | (show (0 : Nat) ≤ 4; omega) | simp, ⟨by dsimp only; omega, by dsimp only; omega⟩, ⟨by dsimp only; omega, by dsimp only; omega⟩, by dsimp only; omega, by dsimp only; omega⟩
      · go_wp2_with fail
        (first | go_at_call 35 | skip)
        refine (HNx.out _ 5 a9 s9 H9.out.2.2.2 H9.out.2.2.1 (by omega) (by omega)).mono ?_
        rintro e w10 ⟨x10, a10, s10, rfl, ⟨hx100, hx101⟩, ha10, hb10, hs10, hb10', hf10⟩
        have H10 : Hid (SkSo w b a len cap (.slice (some ⟨g, 0, none⟩) rs.length cp) rs a10 s10 w10) := H9.out.draw hf10 hb10' hs10
        have X10 : Hid (w10.heap[A]? = some (.cells #[.int .i64 1, .string ar, .int .i64 (1 + x5), .int .i64 (1 + x6), .int .i64 (day + x7)] 34 (0, 0))) := (hf10 A (by omega)).trans X9.out
        clear hs10 hb10' hf10 H9 X9
        have hw10 : IntKind.i64.wrap (day + x10) = day + x10 := wrap_id _ (by omega) (by omega)
        have z0 := blkCell X10.out 0 _ rfl
        have q0 := blkFree X10.out 0
        have z1 := blkCell X10.out 1 _ rfl
        have q1 := blkFree X10.out 1
        have z2 := blkCell X10.out 2 _ rfl
        have q2 := blkFree X10.out 2
        have z3 := blkCell X10.out 3 _ rfl
        have q3 := blkFree X10.out 3
        have z4 := blkCell X10.out 4 _ rfl
        have q4 := blkFree X10.out 4
        simp only [List.getElem_toArray, List.getElem_cons_zero, List.getElem_cons_succ] at z0 z1 z2 z3 z4
        have X11 : Hid ((((((w10.setCell ⟨A, 0, none⟩ (.int .i64 3)).setCell ⟨A, 1, none⟩ (.string ⟨#[]⟩)).setCell ⟨A, 2, none⟩ (.int .i64 0)).setCell ⟨A, 3, none⟩ (.int .i64 (day + x10))).setCell ⟨A, 4, none⟩ (.int .i64 0)).heap[A]? = some (.cells #[.int .i64 3, .string ⟨#[]⟩, .int .i64 0, .int .i64 (day + x10), .int .i64 0] 34 (0, 0))) := act_set X10.out _ _ _ _ _
        have H11 : Hid (SkSo w b a len cap (.slice (some ⟨g, 0, none⟩) rs.length cp) rs a10 s10 (((((w10.setCell ⟨A, 0, none⟩ (.int .i64 3)).setCell ⟨A, 1, none⟩ (.string ⟨#[]⟩)).setCell ⟨A, 2, none⟩ (.int .i64 0)).setCell ⟨A, 3, none⟩ (.int .i64 (day + x10))).setCell ⟨A, 4, none⟩ (.int .i64 0))) := ((((H10.out.setA hbA hgA _ _).setA hbA hgA _ _).setA hbA hgA _ _).setA hbA hgA _ _).setA hbA hgA _ _
        go_upto_region 22 with fail
        clear z0 z1 z2 z3 z4 q0 q1 q2 q3 q4 H10 X10
        generalize (((((w10.setCell ⟨A, 0, none⟩ (.int .i64 3)).setCell ⟨A, 1, none⟩ (.string ⟨#[]⟩)).setCell ⟨A, 2, none⟩ (.int .i64 0)).setCell ⟨A, 3, none⟩ (.int .i64 (day + x10))).setCell ⟨A, 4, none⟩ (.int .i64 0)) = w11 at *
        have y0 := blkCell X11.out 0 _ rfl
        have y1 := blkCell X11.out 1 _ rfl
        have y2 := blkCell X11.out 2 _ rfl
        have y3 := blkCell X11.out 3 _ rfl
        have y4 := blkCell X11.out 4 _ rfl
        simp only [List.getElem_toArray, List.getElem_cons_zero, List.getElem_cons_succ] at y0 y1 y2 y3 y4
        have HA : Hid (SkSo w b a len cap (.slice (some ⟨g, 0, none⟩) rs.length cp) rs a10 s10 (w11.alloc (Obj.cells #[.int .i64 3, .string ⟨#[]⟩, .int .i64 0, .int .i64 (day + x10), .int .i64 0] 34))) := H11.out.alloc _
        have HN : Hid ((w11.alloc (Obj.cells #[.int .i64 3, .string ⟨#[]⟩, .int .i64 0, .int .i64 (day + x10), .int .i64 0] 34)).heap[w11.heap.size]? = some (.cells #[.int .i64 3, .string ⟨#[]⟩, .int .i64 0, .int .i64 (day + x10), .int .i64 0] 34 (0, 0))) := heapNew _ _
        have hzz := HA.out.2.1
        clear H11
        go_wp2_with (at_builtin; refine wpList_append_lies _ rfl _ _ 23 rfl (b + 1) 34 i0 (.agg #[.int .i64 0, .string ⟨#[]⟩, .int .i64 0, .int .i64 0, .int .i64 0]) 5 48 Try.underlying23 hi hi0 hi1 hi2 rfl (by decide) _ _ _ rfl HA.out.1 ⟨w11.heap.size, 0, none⟩ 1 1 [.int .i64 3, .string ⟨#[]⟩, .int .i64 0, .int .i64 (day + x10), .int .i64 0] rfl rfl (World.news_of_block HN.out) (by simp [Value.oneCell']) (by omega) (by unfold maxLen; omega) (by omega) hzz _ rfl ?_; intro g1 cp1 wz hown1 hgrow1 hat1 hglt1; have HF : Hid (SkSo w b a len cap (.slice (some ⟨g1, 0, none⟩) (rs.length + 1) cp1) (rs ++ [⟨3, ⟨#[]⟩, 0, (day + x10), 0⟩]) a10 s10 wz) := HA.out.push (r := ⟨3, ⟨#[]⟩, 0, (day + x10), 0⟩) hown1 hgrow1; clear hown1 hgrow1 hat1 hglt1)
        refine ⟨⟨rs ++ [⟨3, ⟨#[]⟩, 0, (day + x10), 0⟩], k - 1, g1, cp1, a10, s10, (day + x10), by rw [List.length_append]; simp; omega, by simp, by go_num, rfl, fun r hr => ?_, by omega, by rw [List.length_append]; push_cast; simp; omega, by rw [List.length_append]; push_cast; simp; omega, HF.out⟩, by simp [intOf]; omega⟩
        rcases List.mem_append.1 hr with q | q
        · exact HD.out r q
        · rw [List.mem_singleton.1 q]; exact ⟨⟨by dsimp only; omega, by dsimp only; omega⟩, by first | exact har | (show (0 : Nat) ≤ 4; omega) | simp, ⟨by dsimp only; omega, by dsimp only; omega⟩, ⟨by dsimp only; omega, by dsimp only; omega⟩, by dsimp only; omega, by dsimp only; omega⟩
      · go_wp2_with fail
        (first | go_at_call 35 | skip)
        refine (HNx.out _ 4 a9 s9 H9.out.2.2.2 H9.out.2.2.1 (by omega) (by omega)).mono ?_
        rintro e w10 ⟨x10, a10, s10, rfl, ⟨hx100, hx101⟩, ha10, hb10, hs10, hb10', hf10⟩
        have H10 : Hid (SkSo w b a len cap (.slice (some ⟨g, 0, none⟩) rs.length cp) rs a10 s10 w10) := H9.out.draw hf10 hb10' hs10
        have X10 : Hid (w10.heap[A]? = some (.cells #[.int .i64 1, .string ar, .int .i64 (1 + x5), .int .i64 (1 + x6), .int .i64 (day + x7)] 34 (0, 0))) := (hf10 A (by omega)).trans X9.out
        clear hs10 hb10' hf10 H9 X9
        have hw10 : IntKind.i64.wrap (4 + x10) = 4 + x10 := wrap_id _ (by omega) (by omega)
        have z0 := blkCell X10.out 0 _ rfl
        have q0 := blkFree X10.out 0
        simp only [List.getElem_toArray, List.getElem_cons_zero] at z0
        have X11 : Hid ((w10.setCell ⟨A, 0, none⟩ (.int .i64 (4 + x10))).heap[A]? = some (.cells #[.int .i64 (4 + x10), .string ar, .int .i64 (1 + x5), .int .i64 (1 + x6), .int .i64 (day + x7)] 34 (0, 0))) := by
          have e := heap_setCell_same _ _ 0 _ _ (.int .i64 (4 + x10)) X10.out
          simp only [List.setIfInBounds_toArray, List.set_cons_zero] at e
          exact e
        have H11 : Hid (SkSo w b a len cap (.slice (some ⟨g, 0, none⟩) rs.length cp) rs a10 s10 (w10.setCell ⟨A, 0, none⟩ (.int .i64 (4 + x10)))) := H10.out.setA hbA hgA _ _
        go_upto_region 19 with fail
        clear z0 q0 H10 X10
        generalize w10.setCell ⟨A, 0, none⟩ (.int .i64 (4 + x10)) = w11 at *
        go_wp2_with fail
        (first | go_at_call 35 | skip)
        refine (HNx.out _ 14 a10 s10 H11.out.2.2.2 H11.out.2.2.1 (by omega) (by omega)).mono ?_
        rintro e w12 ⟨x12, a12, s12, rfl, ⟨hx120, hx121⟩, ha12, hb12, hs12, hb12', hf12⟩
        have H12 : Hid (SkSo w b a len cap (.slice (some ⟨g, 0, none⟩) rs.length cp) rs a12 s12 w12) := H11.out.draw hf12 hb12' hs12
        have X12 : Hid (w12.heap[A]? = some (.cells #[.int .i64 (4 + x10), .string ar, .int .i64 (1 + x5), .int .i64 (1 + x6), .int .i64 (day + x7)] 34 (0, 0))) := (hf12 A (by omega)).trans X11.out
        clear hs12 hb12' hf12 H11 X11
        have z0 := blkCell X12.out 3 _ rfl
        have q0 := blkFree X12.out 3
        simp only [List.getElem_toArray, List.getElem_cons_zero, List.getElem_cons_succ] at z0
        have X13 : Hid ((w12.setCell ⟨A, 3, none⟩ (.int .i64 x12)).heap[A]? = some (.cells #[.int .i64 (4 + x10), .string ar, .int .i64 (1 + x5), .int .i64 x12, .int .i64 (day + x7)] 34 (0, 0))) := by
          have e := heap_setCell_same _ _ 3 _ _ (.int .i64 x12) X12.out
          simp only [List.setIfInBounds_toArray, List.set_cons_zero, List.set_cons_succ] at e
          exact e
        have H13 : Hid (SkSo w b a len cap (.slice (some ⟨g, 0, none⟩) rs.length cp) rs a12 s12 (w12.setCell ⟨A, 3, none⟩ (.int .i64 x12))) := H12.out.setA hbA hgA _ _
        go_upto_region 22 with fail
        clear z0 q0 H12 X12
        generalize w12.setCell ⟨A, 3, none⟩ (.int .i64 x12) = w13 at *
        have y0 := blkCell X13.out 0 _ rfl
        have y1 := blkCell X13.out 1 _ rfl
        have y2 := blkCell X13.out 2 _ rfl
        have y3 := blkCell X13.out 3 _ rfl
        have y4 := blkCell X13.out 4 _ rfl
        simp only [List.getElem_toArray, List.getElem_cons_zero, List.getElem_cons_succ] at y0 y1 y2 y3 y4
        have HA : Hid (SkSo w b a len cap (.slice (some ⟨g, 0, none⟩) rs.length cp) rs a12 s12 (w13.alloc (Obj.cells #[.int .i64 (4 + x10), .string ar, .int .i64 (1 + x5), .int .i64 x12, .int .i64 (day + x7)] 34))) := H13.out.alloc _
        have HN : Hid ((w13.alloc (Obj.cells #[.int .i64 (4 + x10), .string ar, .int .i64 (1 + x5), .int .i64 x12, .int .i64 (day + x7)] 34)).heap[w13.heap.size]? = some (.cells #[.int .i64 (4 + x10), .string ar, .int .i64 (1 + x5), .int .i64 x12, .int .i64 (day + x7)] 34 (0, 0))) := heapNew _ _
        have hzz := HA.out.2.1
        clear H13
        go_wp2_with (at_builtin; refine wpList_append_lies _ rfl _ _ 23 rfl (b + 1) 34 i0 (.agg #[.int .i64 0, .string ⟨#[]⟩, .int .i64 0, .int .i64 0, .int .i64 0]) 5 48 Try.underlying23 hi hi0 hi1 hi2 rfl (by decide) _ _ _ rfl HA.out.1 ⟨w13.heap.size, 0, none⟩ 1 1 [.int .i64 (4 + x10), .string ar, .int .i64 (1 + x5), .int .i64 x12, .int .i64 (day + x7)] rfl rfl (World.news_of_block HN.out) (by simp [Value.oneCell']) (by omega) (by unfold maxLen; omega) (by omega) hzz _ rfl ?_; intro g1 cp1 wz hown1 hgrow1 hat1 hglt1; have HF : Hid (SkSo w b a len cap (.slice (some ⟨g1, 0, none⟩) (rs.length + 1) cp1) (rs ++ [⟨(4 + x10), ar, (1 + x5), x12, (day + x7)⟩]) a12 s12 wz) := HA.out.push (r := ⟨(4 + x10), ar, (1 + x5), x12, (day + x7)⟩) hown1 hgrow1; clear hown1 hgrow1 hat1 hglt1)
        refine ⟨⟨rs ++ [⟨(4 + x10), ar, (1 + x5), x12, (day + x7)⟩], k - 1, g1, cp1, a12, s12, day, by rw [List.length_append]; simp; omega, by simp, by go_num, rfl, fun r hr => ?_, by omega, by rw [List.length_append]; push_cast; simp; omega, by rw [List.length_append]; push_cast; simp; omega, HF.out⟩, by simp [intOf]; omega⟩
        rcases List.mem_append.1 hr with q | q
        · exact HD.out r q
        · rw [List.mem_singleton.1 q]; exact ⟨⟨by dsimp only; omega, by dsimp only; omega⟩, by first | exact har | (show (0 : Nat) ≤ 4; omega) | simp, ⟨by dsimp only; omega, by dsimp only; omega⟩, ⟨by dsimp only; omega, by dsimp only; omega⟩, by dsimp only; omega, by dsimp only; omega⟩
      · go_wp2_with fail
        (first | go_at_call 35 | skip)
        refine (HNx.out _ 4 a9 s9 H9.out.2.2.2 H9.out.2.2.1 (by omega) (by omega)).mono ?_
        rintro e w10 ⟨x10, a10, s10, rfl, ⟨hx100, hx101⟩, ha10, hb10, hs10, hb10', hf10⟩
        have H10 : Hid (SkSo w b a len cap (.slice (some ⟨g, 0, none⟩) rs.length cp) rs a10 s10 w10) := H9.out.draw hf10 hb10' hs10
        have X10 : Hid (w10.heap[A]? = some (.cells #[.int .i64 1, .string ar, .int .i64 (1 + x5), .int .i64 (1 + x6), .int .i64 (day + x7)] 34 (0, 0))) := (hf10 A (by omega)).trans X9.out
        clear hs10 hb10' hf10 H9 X9
        have hw10 : IntKind.i64.wrap (4 + x10) = 4 + x10 := wrap_id _ (by omega) (by omega)
        have z0 := blkCell X10.out 0 _ rfl
        have q0 := blkFree X10.out 0
        simp only [List.getElem_toArray, List.getElem_cons_zero] at z0
        have X11 : Hid ((w10.setCell ⟨A, 0, none⟩ (.int .i64 (4 + x10))).heap[A]? = some (.cells #[.int .i64 (4 + x10), .string ar, .int .i64 (1 + x5), .int .i64 (1 + x6), .int .i64 (day + x7)] 34 (0, 0))) := by
          have e := heap_setCell_same _ _ 0 _ _ (.int .i64 (4 + x10)) X10.out
          simp only [List.setIfInBounds_toArray, List.set_cons_zero] at e
          exact e
        have H11 : Hid (SkSo w b a len cap (.slice (some ⟨g, 0, none⟩) rs.length cp) rs a10 s10 (w10.setCell ⟨A, 0, none⟩ (.int .i64 (4 + x10)))) := H10.out.setA hbA hgA _ _
        go_upto_region 19 with fail
        clear z0 q0 H10 X10
        generalize w10.setCell ⟨A, 0, none⟩ (.int .i64 (4 + x10)) = w11 at *
        go_wp2_with fail
        (first | go_at_call 35 | skip)
        refine (HNx.out _ 14 a10 s10 H11.out.2.2.2 H11.out.2.2.1 (by omega) (by omega)).mono ?_
        rintro e w12 ⟨x12, a12, s12, rfl, ⟨hx120, hx121⟩, ha12, hb12, hs12, hb12', hf12⟩
        have H12 : Hid (SkSo w b a len cap (.slice (some ⟨g, 0, none⟩) rs.length cp) rs a12 s12 w12) := H11.out.draw hf12 hb12' hs12
        have X12 : Hid (w12.heap[A]? = some (.cells #[.int .i64 (4 + x10), .string ar, .int .i64 (1 + x5), .int .i64 (1 + x6), .int .i64 (day + x7)] 34 (0, 0))) := (hf12 A (by omega)).trans X11.out
        clear hs12 hb12' hf12 H11 X11
        have z0 := blkCell X12.out 3 _ rfl
        have q0 := blkFree X12.out 3
        simp only [List.getElem_toArray, List.getElem_cons_zero, List.getElem_cons_succ] at z0
        have X13 : Hid ((w12.setCell ⟨A, 3, none⟩ (.int .i64 x12)).heap[A]? = some (.cells #[.int .i64 (4 + x10), .string ar, .int .i64 (1 + x5), .int .i64 x12, .int .i64 (day + x7)] 34 (0, 0))) := by
          have e := heap_setCell_same _ _ 3 _ _ (.int .i64 x12) X12.out
          simp only [List.setIfInBounds_toArray, List.set_cons_zero, List.set_cons_succ] at e
          exact e
        have H13 : Hid (SkSo w b a len cap (.slice (some ⟨g, 0, none⟩) rs.length cp) rs a12 s12 (w12.setCell ⟨A, 3, none⟩ (.int .i64 x12))) := H12.out.setA hbA hgA _ _
        go_upto_region 22 with fail
        clear z0 q0 H12 X12
        generalize w12.setCell ⟨A, 3, none⟩ (.int .i64 x12) = w13 at *
        have y0 := blkCell X13.out 0 _ rfl
        have y1 := blkCell X13.out 1 _ rfl
        have y2 := blkCell X13.out 2 _ rfl
        have y3 := blkCell X13.out 3 _ rfl
        have y4 := blkCell X13.out 4 _ rfl
        simp only [List.getElem_toArray, List.getElem_cons_zero, List.getElem_cons_succ] at y0 y1 y2 y3 y4
        have HA : Hid (SkSo w b a len cap (.slice (some ⟨g, 0, none⟩) rs.length cp) rs a12 s12 (w13.alloc (Obj.cells #[.int .i64 (4 + x10), .string ar, .int .i64 (1 + x5), .int .i64 x12, .int .i64 (day + x7)] 34))) := H13.out.alloc _
        have HN : Hid ((w13.alloc (Obj.cells #[.int .i64 (4 + x10), .string ar, .int .i64 (1 + x5), .int .i64 x12, .int .i64 (day + x7)] 34)).heap[w13.heap.size]? = some (.cells #[.int .i64 (4 + x10), .string ar, .int .i64 (1 + x5), .int .i64 x12, .int .i64 (day + x7)] 34 (0, 0))) := heapNew _ _
        have hzz := HA.out.2.1
        clear H13
        go_wp2_with (at_builtin; refine wpList_append_lies _ rfl _ _ 23 rfl (b + 1) 34 i0 (.agg #[.int .i64 0, .string ⟨#[]⟩, .int .i64 0, .int .i64 0, .int .i64 0]) 5 48 Try.underlying23 hi hi0 hi1 hi2 rfl (by decide) _ _ _ rfl HA.out.1 ⟨w13.heap.size, 0, none⟩ 1 1 [.int .i64 (4 + x10), .string ar, .int .i64 (1 + x5), .int .i64 x12, .int .i64 (day + x7)] rfl rfl (World.news_of_block HN.out) (by simp [Value.oneCell']) (by omega) (by unfold maxLen; omega) (by omega) hzz _ rfl ?_; intro g1 cp1 wz hown1 hgrow1 hat1 hglt1; have HF : Hid (SkSo w b a len cap (.slice (some ⟨g1, 0, none⟩) (rs.length + 1) cp1) (rs ++ [⟨(4 + x10), ar, (1 + x5), x12, (day + x7)⟩]) a12 s12 wz) := HA.out.push (r := ⟨(4 + x10), ar, (1 + x5), x12, (day + x7)⟩) hown1 hgrow1; clear hown1 hgrow1 hat1 hglt1)
        refine ⟨⟨rs ++ [⟨(4 + x10), ar, (1 + x5), x12, (day + x7)⟩], k - 1, g1, cp1, a12, s12, day, by rw [List.length_append]; simp; omega, by simp, by go_num, rfl, fun r hr => ?_, by omega, by rw [List.length_append]; push_cast; simp; omega, by rw [List.length_append]; push_cast; simp; omega, HF.out⟩, by simp [intOf]; omega⟩
        rcases List.mem_append.1 hr with q | q
        · exact HD.out r q
        · rw [List.mem_singleton.1 q]; exact ⟨⟨by dsimp only; omega, by dsimp only; omega⟩, by first | exact har | (show (0 : Nat) ≤ 4; omega) | simp, ⟨by dsimp only; omega, by dsimp only; omega⟩, ⟨by dsimp only; omega, by dsimp only; omega⟩, by dsimp only; omega, by dsimp only; omega⟩
      · go_upto_region 21 with fail
        refine wp_region_inv (fun L ac wz => ∃ (c : Nat → Bool) (v : Nat → Value), L = #[c 0, c 1, c 2, c 3, c 4, c 5, c 6, c 7, c 8, c 9, c 10, c 11, c 12, c 13, c 14, c 15, c 16, c 17, c 18, c 19, c 20, c 21, c 22, c 23] ∧ ac = ⟨#[.pointer (some ⟨b, 0, none⟩), undef, .slice none 0 0, .slice (some ⟨g, 0, none⟩) rs.length cp, .int .i64 day, .int .i64 (k : Int), .pointer (some ⟨A, 0, none⟩), .slice (some ⟨g3, 0, none⟩) 0 0, .pointer (some ⟨b, 0, none⟩), .pointer (some ⟨b, 0, none⟩), .int .i64 xs, .int .i64 (xs + 3), .int .i64 (k3 : Int), .int .i64 (k : Int), .bool true, u15, u16, .pointer (some ⟨b, 0, none⟩), .slice (some ⟨wr.heap.size, 0, none⟩) 2 2, .string ar, .pointer (some ⟨b, 0, none⟩), .int .i64 x5, .int .i64 (1 + x5), .pointer (some ⟨b, 0, none⟩), .int .i64 x6, .int .i64 (1 + x6), .int .i64 day, .pointer (some ⟨b, 0, none⟩), .int .i64 x7, .int .i64 (day + x7), .agg #[.int .i64 1, .string ar, .int .i64 (1 + x5), .int .i64 (1 + x6), .int .i64 (day + x7)], .pointer (some ⟨b, 0, none⟩), .int .i64 7, .bool false, .bool false, .bool false, .bool false, .bool false, u38, u39, u40, u41, u42, u43, .bool false, .bool false, u46, u47, u48, u49, u50, u51, .bool false, .bool false, .bool false, u55, u56, u57, u58, u59, u60, u61, .bool true, .bool true, v 0, v 1, v 2, v 3, v 4, v 5, v 6, v 7, v 8, v 9, v 10, v 11, v 12, v 13, v 14, v 15, v 16, v 17, v 18, v 19, v 20, v 21, v 22, u87, u88, u89, u90, undef], []⟩ ∧ Inv7 w b a len cap g cp rs a9 A (.cells #[.int .i64 1, .string ar, .int .i64 (1 + x5), .int .i64 (1 + x6), .int .i64 (day + x7)] 34 (0, 0)) day c v wz) (by kernel_rfl) ?_ ?_ ?_
        · refine ⟨fun _ => false, fun j => #[u64, u65, u66, u67, u68, u69, u70, u71, u72, u73, u74, u75, u76, u77, u78, u79, u80, u81, u82, u83, u84, u85, u86].getD j undef, rfl, rfl, ⟨(fun h => by cases h), (fun h => by cases h), (fun h => by cases h), (fun h => by cases h), (fun h => by cases h), (fun h => by cases h), (fun h => by cases h), (fun h => by cases h), (fun h => by cases h), (fun h => by cases h), (fun h => by cases h), (fun h => by cases h), (fun h => by cases h), (fun h => by cases h), (fun h => by cases h), (fun h => by cases h), (fun h => by cases h), (fun h => by cases h), (fun h => by cases h), (fun h => by cases h), (fun h => by cases h), (fun h => by cases h), (fun h => by cases h), ⟨fun _ => X9.out, (fun h => by cases h)⟩, a9, s9, by simp, H9.out.drew⟩⟩
        · rintro L ac wz ⟨c, v, rfl, rfl, h⟩ hrd
          have hz23 : c 23 = true := all_listed (by kernel_rfl) rfl hrd 23 (by decide)
          obtain ⟨nn0, ys, nn1, nn2, nn3, hX, hSD⟩ := h.fX.2 hz23
          obtain ⟨at9, sd9, hat9, hSo9⟩ := h.fW
          have hat9' : at9 ≤ a9 + 15 := by
            have b1 : ∀ q : Bool, q.toNat ≤ 1 := fun q => by cases q <;> decide
            have := b1 (c 1); have := b1 (c 5); have := b1 (c 8); have := b1 (c 13); have := b1 (c 19)
            omega
          have H11 : Hid (SkSo w b a len cap (.slice (some ⟨g, 0, none⟩) rs.length cp) rs at9 sd9 wz) := hSo9
          have X11 : Hid (wz.heap[A]? = some (.cells #[.int .i64 nn0, .string ys, .int .i64 nn1, .int .i64 nn2, .int .i64 nn3] 34 (0, 0))) := hX
          have HSD : Hid (SkD ⟨nn0, ys, nn1, nn2, nn3⟩) := hSD
          clear hrd hz23 hat9 hSo9 hX hSD h H9 X9
          go_upto_region 22 with fail
          have y0 := blkCell X11.out 0 _ rfl
          have y1 := blkCell X11.out 1 _ rfl
          have y2 := blkCell X11.out 2 _ rfl
          have y3 := blkCell X11.out 3 _ rfl
          have y4 := blkCell X11.out 4 _ rfl
          simp only [List.getElem_toArray, List.getElem_cons_zero, List.getElem_cons_succ] at y0 y1 y2 y3 y4
          have HA : Hid (SkSo w b a len cap (.slice (some ⟨g, 0, none⟩) rs.length cp) rs at9 sd9 (wz.alloc (Obj.cells #[.int .i64 nn0, .string ys, .int .i64 nn1, .int .i64 nn2, .int .i64 nn3] 34))) := H11.out.alloc _
          have HN : Hid ((wz.alloc (Obj.cells #[.int .i64 nn0, .string ys, .int .i64 nn1, .int .i64 nn2, .int .i64 nn3] 34)).heap[wz.heap.size]? = some (.cells #[.int .i64 nn0, .string ys, .int .i64 nn1, .int .i64 nn2, .int .i64 nn3] 34 (0, 0))) := heapNew _ _
          have hzz := HA.out.2.1
          clear H11
          go_wp2_with (at_builtin; refine wpList_append_lies _ rfl _ _ 23 rfl (b + 1) 34 i0 (.agg #[.int .i64 0, .string ⟨#[]⟩, .int .i64 0, .int .i64 0, .int .i64 0]) 5 48 Try.underlying23 hi hi0 hi1 hi2 rfl (by decide) _ _ _ rfl HA.out.1 ⟨wz.heap.size, 0, none⟩ 1 1 [.int .i64 nn0, .string ys, .int .i64 nn1, .int .i64 nn2, .int .i64 nn3] rfl rfl (World.news_of_block HN.out) (by simp [Value.oneCell']) (by omega) (by unfold maxLen; omega) (by omega) hzz _ rfl ?_; intro g1 cp1 wz hown1 hgrow1 hat1 hglt1; have HF : Hid (SkSo w b a len cap (.slice (some ⟨g1, 0, none⟩) (rs.length + 1) cp1) (rs ++ [⟨nn0, ys, nn1, nn2, nn3⟩]) at9 sd9 wz) := HA.out.push (r := ⟨nn0, ys, nn1, nn2, nn3⟩) hown1 hgrow1; clear hown1 hgrow1 hat1 hglt1)
          refine ⟨⟨rs ++ [⟨nn0, ys, nn1, nn2, nn3⟩], k - 1, g1, cp1, at9, sd9, day, by rw [List.length_append]; simp; omega, by simp, by go_num, rfl, fun r hr => ?_, by omega, by rw [List.length_append]; push_cast; simp; omega, by rw [List.length_append]; push_cast; simp; omega, HF.out⟩, by simp [intOf]; omega⟩
          rcases List.mem_append.1 hr with q | q
          · exact HD.out r q
          · rw [List.mem_singleton.1 q]; exact HSD.out
        · rintro L ac wz ⟨c, v, rfl, rfl, h⟩ i hn o ho hdep KK hK
          clear H9 X9
          have H : Hid (Inv7 w b a len cap g cp rs a9 A (.cells #[.int .i64 1, .string ar, .int .i64 (1 + x5), .int .i64 (1 + x6), .int .i64 (day + x7)] 34 (0, 0)) day c v wz) := h
          clear h
          have hi : i < 24 := (Array.getElem?_eq_some_iff.1 ho).1
          rcases (below24 i hi) with rfl | rfl | rfl | rfl | rfl | rfl | rfl | rfl | rfl | rfl | rfl | rfl | rfl | rfl | rfl | rfl | rfl | rfl | rfl | rfl | rfl | rfl | rfl | rfl
          · obtain rfl : _ = o := Option.some.inj ho
            have hni : c 0 = false := hn
            clear hdep hn hi ho
            clear hni
            go_simp
            refine hK.out _ _ ?_
            refine ⟨fun j => if j = 0 then true else c j, fun j => if j = 0 then .pointer (some ⟨b, 0, none⟩) else v j, rfl, rfl, ⟨(fun _ => rfl), H.out.f1, H.out.f2, H.out.f3, H.out.f4, H.out.f5, H.out.f6, H.out.f7, H.out.f8, H.out.f9, H.out.f10, H.out.f11, H.out.f12, H.out.f13, H.out.f14, H.out.f15, H.out.f16, H.out.f17, H.out.f18, H.out.f19, H.out.f20, H.out.f21, H.out.f22, H.out.fX, H.out.fW⟩⟩
          · obtain rfl : _ = o := Option.some.inj ho
            have d0 : c 0 = true := hdep ⟨0, .data⟩ (by simp) rfl
            have hni : c 1 = false := hn
            clear hdep hn hi ho
            obtain ⟨ax, sx, hax, hSo⟩ := H.out.fW
            have HSo : Hid (SkSo w b a len cap (.slice (some ⟨g, 0, none⟩) rs.length cp) rs ax sx wz) := hSo
            clear hSo
            have e0 := H.out.f0 d0
            have g0 : J1 (c 0) (.pointer (some ⟨b, 0, none⟩)) (.pointer (some ⟨b, 0, none⟩)) := fun _ => rfl
            have hcc : ax ≤ a9 + 12 := by
              have b1 : ∀ q : Bool, q.toNat ≤ 1 := fun q => by cases q <;> decide
              have := b1 (c 1); have := b1 (c 5); have := b1 (c 8); have := b1 (c 13); have := b1 (c 19)
              rw [hni] at hax; simp only [Bool.toNat_false] at hax
              omega
            have Hax : Hid (c 1 = false ∧ _) := ⟨hni, hax⟩
            clear hax hni d0
            go_simp
            go_at_call 35
            refine (HNx.out _ 10 ax sx HSo.out.2.2.2 HSo.out.2.2.1 (by omega) (by omega)).mono ?_
            rintro e w10 ⟨x10, a10, s10, rfl, ⟨hx100, hx101⟩, ha10, hb10, hs10, hb10', hf10⟩
            refine hK.out _ _ ?_
            refine ⟨fun j => if j = 1 then true else c j, fun j => if j = 1 then .int .i64 x10 else if j = 0 then .pointer (some ⟨b, 0, none⟩) else v j, rfl, rfl, ⟨g0, (fun _ => ⟨x10, rfl, by omega, by omega⟩), H.out.f2, H.out.f3, H.out.f4.mono (fun k hk _ => hf10 k hk), H.out.f5, H.out.f6.mono (fun k hk _ => hf10 k hk), H.out.f7, H.out.f8, H.out.f9.mono (fun k hk _ => hf10 k hk), H.out.f10, H.out.f11.mono (fun k hk _ => hf10 k hk), H.out.f12, H.out.f13, H.out.f14.mono (fun k hk _ => hf10 k hk), H.out.f15, H.out.f16, H.out.f17.mono (fun k hk _ => hf10 k hk), H.out.f18, H.out.f19, H.out.f20.mono (fun k hk _ => hf10 k hk), H.out.f21, H.out.f22, H.out.fX.mono hAb (fun k hk _ => hf10 k hk), a10, s10, ?_, HSo.out.draw hf10 hb10' hs10⟩⟩
            have hq := Hax.out.2
            rw [Hax.out.1] at hq; simp only [Bool.toNat_false] at hq
            show a10 ≤ a9 + 3 * ((1 + (c 5).toNat + (c 8).toNat + (c 13).toNat + (c 19).toNat : Nat) : Int)
            omega
          · obtain rfl : _ = o := Option.some.inj ho
            have d1 : c 1 = true := hdep ⟨1, .data⟩ (by simp) rfl
            have hni : c 2 = false := hn
            clear hdep hn hi ho
            obtain ⟨x, e1, hx1, hx2⟩ := H.out.f1 d1
            have g1 : JI (0) 9 (c 1) (.int .i64 x) := by rw [← e1]; exact H.out.f1
            have hwx : IntKind.i64.wrap (x - 1) = x - 1 := wrap_id _ (by omega) (by omega)
            clear hni d1
            go_simp
            refine hK.out _ _ ?_
            refine ⟨fun j => if j = 2 then true else c j, fun j => if j = 2 then .int .i64 (x - 1) else if j = 1 then .int .i64 x else v j, rfl, rfl, ⟨H.out.f0, g1, (fun _ => ⟨x - 1, rfl, by omega, by omega⟩), H.out.f3, H.out.f4, H.out.f5, H.out.f6, H.out.f7, H.out.f8, H.out.f9, H.out.f10, H.out.f11, H.out.f12, H.out.f13, H.out.f14, H.out.f15, H.out.f16, H.out.f17, H.out.f18, H.out.f19, H.out.f20, H.out.f21, H.out.f22, H.out.fX, H.out.fW⟩⟩
          · obtain rfl : _ = o := Option.some.inj ho
            have hni : c 3 = false := hn
            clear hdep hn hi ho
            clear hni
            go_simp
            refine hK.out _ _ ?_
            refine ⟨fun j => if j = 3 then true else c j, fun j => if j = 3 then .pointer (some ⟨b, 0, none⟩) else v j, rfl, rfl, ⟨H.out.f0, H.out.f1, H.out.f2, (fun _ => rfl), H.out.f4, H.out.f5, H.out.f6, H.out.f7, H.out.f8, H.out.f9, H.out.f10, H.out.f11, H.out.f12, H.out.f13, H.out.f14, H.out.f15, H.out.f16, H.out.f17, H.out.f18, H.out.f19, H.out.f20, H.out.f21, H.out.f22, H.out.fX, H.out.fW⟩⟩
          · obtain rfl : _ = o := Option.some.inj ho
            have hni : c 4 = false := hn
            clear hdep hn hi ho
            obtain ⟨ax, sx, hax, hSo⟩ := H.out.fW
            have hAz := H.out.fX.lt
            have hbz : b < wz.heap.size := hSo.2.2.1.2.2.2.2.2.1
            have HSo : Hid (_ ∧ SkSo w b a len cap (.slice (some ⟨g, 0, none⟩) rs.length cp) rs ax sx wz) := ⟨hax, hSo⟩
            clear hSo hax hni
            go_simp
            refine hK.out _ _ ?_
            refine ⟨fun j => if j = 4 then true else c j, fun j => if j = 4 then .slice (some ⟨wz.heap.size, 0, none⟩) 3 3 else v j, rfl, rfl, ⟨H.out.f0, H.out.f1, H.out.f2, H.out.f3, (fun _ => ⟨wz.heap.size, rfl, ⟨by omega, by omega⟩, heapNew _ _⟩), H.out.f5, H.out.f6.mono (fun k _ hl => Below.heap_alloc _ _ _ hl), H.out.f7, H.out.f8, H.out.f9.mono (fun k _ hl => Below.heap_alloc _ _ _ hl), H.out.f10, H.out.f11.mono (fun k _ hl => Below.heap_alloc _ _ _ hl), H.out.f12, H.out.f13, H.out.f14.mono (fun k _ hl => Below.heap_alloc _ _ _ hl), H.out.f15, H.out.f16, H.out.f17.mono (fun k _ hl => Below.heap_alloc _ _ _ hl), H.out.f18, H.out.f19, H.out.f20.mono (fun k _ hl => Below.heap_alloc _ _ _ hl), H.out.f21, H.out.f22, H.out.fX.mono hAb (fun k _ hl => Below.heap_alloc _ _ _ hl), ax, sx, HSo.out.1, HSo.out.2.alloc _⟩⟩
          · obtain rfl : _ = o := Option.some.inj ho
            have d3 : c 3 = true := hdep ⟨3, .data⟩ (by simp) rfl
            have d4 : c 4 = true := hdep ⟨4, .data⟩ (by simp) rfl
            have hni : c 5 = false := hn
            clear hdep hn hi ho
            obtain ⟨ax, sx, hax, hSo⟩ := H.out.fW
            have HSo : Hid (SkSo w b a len cap (.slice (some ⟨g, 0, none⟩) rs.length cp) rs ax sx wz) := hSo
            clear hSo
            have e3 := H.out.f3 d3
            have g3 : J1 (c 3) (.pointer (some ⟨b, 0, none⟩)) (.pointer (some ⟨b, 0, none⟩)) := fun _ => rfl
            obtain ⟨B, e4, hB, hh⟩ := H.out.f4 d4
            have g4 : JT b A #[.string ⟨#[]⟩, .string ⟨#[57]⟩, .string ⟨#[109, 105, 108, 107]⟩] 9 3 (c 4) (.slice (some ⟨B, 0, none⟩) 3 3) wz := by rw [← e4]; exact H.out.f4
            have HH : Hid (∀ j, j < 3 → wz.cell? ⟨B, j, none⟩ = some (.string ([⟨#[]⟩, ⟨#[57]⟩, ⟨#[109, 105, 108, 107]⟩].getD j ⟨#[]⟩))) := threeStr hh
            clear hh d4
            have hcc : ax ≤ a9 + 12 := by
              have b1 : ∀ q : Bool, q.toNat ≤ 1 := fun q => by cases q <;> decide
              have := b1 (c 1); have := b1 (c 5); have := b1 (c 8); have := b1 (c 13); have := b1 (c 19)
              rw [hni] at hax; simp only [Bool.toNat_false] at hax
              omega
            have Hax : Hid (c 5 = false ∧ _) := ⟨hni, hax⟩
            clear hax hni d3
            go_simp
            go_at_call 37
            refine (HPk.out [⟨#[]⟩, ⟨#[57]⟩, ⟨#[109, 105, 108, 107]⟩] B 3 _ ax sx HSo.out.2.2.2 HSo.out.2.2.1 (by omega) (by simp) (by simp) hB.1 HH.out).mono ?_
            rintro e w10 ⟨j10, a10, s10, hj10, rfl, ha10, hb10, hs10, hb10', hf10⟩
            refine hK.out _ _ ?_
            refine ⟨fun j => if j = 5 then true else c j, fun j => if j = 5 then .string ([⟨#[]⟩, ⟨#[57]⟩, ⟨#[109, 105, 108, 107]⟩].getD j10 ⟨#[]⟩) else if j = 3 then .pointer (some ⟨b, 0, none⟩) else if j = 4 then .slice (some ⟨B, 0, none⟩) 3 3 else v j, rfl, rfl, ⟨H.out.f0, H.out.f1, H.out.f2, g3, g4.mono (fun k hk _ => hf10 k hk), (fun _ => ⟨_, rfl, threeSz j10 hj10⟩), H.out.f6.mono (fun k hk _ => hf10 k hk), H.out.f7, H.out.f8, H.out.f9.mono (fun k hk _ => hf10 k hk), H.out.f10, H.out.f11.mono (fun k hk _ => hf10 k hk), H.out.f12, H.out.f13, H.out.f14.mono (fun k hk _ => hf10 k hk), H.out.f15, H.out.f16, H.out.f17.mono (fun k hk _ => hf10 k hk), H.out.f18, H.out.f19, H.out.f20.mono (fun k hk _ => hf10 k hk), H.out.f21, H.out.f22, H.out.fX.mono hAb (fun k hk _ => hf10 k hk), a10, s10, ?_, HSo.out.draw hf10 hb10' hs10⟩⟩
            have hq := Hax.out.2
            rw [Hax.out.1] at hq; simp only [Bool.toNat_false] at hq
            show a10 ≤ a9 + 3 * (((c 1).toNat + 1 + (c 8).toNat + (c 13).toNat + (c 19).toNat : Nat) : Int)
            omega
          · obtain rfl : _ = o := Option.some.inj ho
            have hni : c 6 = false := hn
            clear hdep hn hi ho
            obtain ⟨ax, sx, hax, hSo⟩ := H.out.fW
            have hAz := H.out.fX.lt
            have hbz : b < wz.heap.size := hSo.2.2.1.2.2.2.2.2.1
            have HSo : Hid (_ ∧ SkSo w b a len cap (.slice (some ⟨g, 0, none⟩) rs.length cp) rs ax sx wz) := ⟨hax, hSo⟩
            clear hSo hax hni
            go_simp
            refine hK.out _ _ ?_
            refine ⟨fun j => if j = 6 then true else c j, fun j => if j = 6 then .slice (some ⟨wz.heap.size, 0, none⟩) 4 4 else v j, rfl, rfl, ⟨H.out.f0, H.out.f1, H.out.f2, H.out.f3, H.out.f4.mono (fun k _ hl => Below.heap_alloc _ _ _ hl), H.out.f5, (fun _ => ⟨wz.heap.size, rfl, ⟨by omega, by omega⟩, heapNew _ _⟩), H.out.f7, H.out.f8, H.out.f9.mono (fun k _ hl => Below.heap_alloc _ _ _ hl), H.out.f10, H.out.f11.mono (fun k _ hl => Below.heap_alloc _ _ _ hl), H.out.f12, H.out.f13, H.out.f14.mono (fun k _ hl => Below.heap_alloc _ _ _ hl), H.out.f15, H.out.f16, H.out.f17.mono (fun k _ hl => Below.heap_alloc _ _ _ hl), H.out.f18, H.out.f19, H.out.f20.mono (fun k _ hl => Below.heap_alloc _ _ _ hl), H.out.f21, H.out.f22, H.out.fX.mono hAb (fun k _ hl => Below.heap_alloc _ _ _ hl), ax, sx, HSo.out.1, HSo.out.2.alloc _⟩⟩
          · obtain rfl : _ = o := Option.some.inj ho
            have hni : c 7 = false := hn
            clear hdep hn hi ho
            clear hni
            go_simp
            refine hK.out _ _ ?_
            refine ⟨fun j => if j = 7 then true else c j, fun j => if j = 7 then .pointer (some ⟨b, 0, none⟩) else v j, rfl, rfl, ⟨H.out.f0, H.out.f1, H.out.f2, H.out.f3, H.out.f4, H.out.f5, H.out.f6, (fun _ => rfl), H.out.f8, H.out.f9, H.out.f10, H.out.f11, H.out.f12, H.out.f13, H.out.f14, H.out.f15, H.out.f16, H.out.f17, H.out.f18, H.out.f19, H.out.f20, H.out.f21, H.out.f22, H.out.fX, H.out.fW⟩⟩
          · obtain rfl : _ = o := Option.some.inj ho
            have d7 : c 7 = true := hdep ⟨7, .data⟩ (by simp) rfl
            have hni : c 8 = false := hn
            clear hdep hn hi ho
            obtain ⟨ax, sx, hax, hSo⟩ := H.out.fW
            have HSo : Hid (SkSo w b a len cap (.slice (some ⟨g, 0, none⟩) rs.length cp) rs ax sx wz) := hSo
            clear hSo
            have e7 := H.out.f7 d7
            have g7 : J1 (c 7) (.pointer (some ⟨b, 0, none⟩)) (.pointer (some ⟨b, 0, none⟩)) := fun _ => rfl
            have hcc : ax ≤ a9 + 12 := by
              have b1 : ∀ q : Bool, q.toNat ≤ 1 := fun q => by cases q <;> decide
              have := b1 (c 1); have := b1 (c 5); have := b1 (c 8); have := b1 (c 13); have := b1 (c 19)
              rw [hni] at hax; simp only [Bool.toNat_false] at hax
              omega
            have Hax : Hid (c 8 = false ∧ _) := ⟨hni, hax⟩
            clear hax hni d7
            go_simp
            go_at_call 35
            refine (HNx.out _ 4 ax sx HSo.out.2.2.2 HSo.out.2.2.1 (by omega) (by omega)).mono ?_
            rintro e w10 ⟨x10, a10, s10, rfl, ⟨hx100, hx101⟩, ha10, hb10, hs10, hb10', hf10⟩
            refine hK.out _ _ ?_
            refine ⟨fun j => if j = 8 then true else c j, fun j => if j = 8 then .int .i64 x10 else if j = 7 then .pointer (some ⟨b, 0, none⟩) else v j, rfl, rfl, ⟨H.out.f0, H.out.f1, H.out.f2, H.out.f3, H.out.f4.mono (fun k hk _ => hf10 k hk), H.out.f5, H.out.f6.mono (fun k hk _ => hf10 k hk), g7, (fun _ => ⟨x10, rfl, by omega, by omega⟩), H.out.f9.mono (fun k hk _ => hf10 k hk), H.out.f10, H.out.f11.mono (fun k hk _ => hf10 k hk), H.out.f12, H.out.f13, H.out.f14.mono (fun k hk _ => hf10 k hk), H.out.f15, H.out.f16, H.out.f17.mono (fun k hk _ => hf10 k hk), H.out.f18, H.out.f19, H.out.f20.mono (fun k hk _ => hf10 k hk), H.out.f21, H.out.f22, H.out.fX.mono hAb (fun k hk _ => hf10 k hk), a10, s10, ?_, HSo.out.draw hf10 hb10' hs10⟩⟩
            have hq := Hax.out.2
            rw [Hax.out.1] at hq; simp only [Bool.toNat_false] at hq
            show a10 ≤ a9 + 3 * (((c 1).toNat + (c 5).toNat + 1 + (c 13).toNat + (c 19).toNat : Nat) : Int)
            omega
          · obtain rfl : _ = o := Option.some.inj ho
            have d6 : c 6 = true := hdep ⟨6, .data⟩ (by simp) rfl
            have d8 : c 8 = true := hdep ⟨8, .data⟩ (by simp) rfl
            have hni : c 9 = false := hn
            clear hdep hn hi ho
            obtain ⟨B, e6, hB, hh⟩ := H.out.f6 d6
            have HH : Hid _ := hh
            have g6 : JT b A #[.int .i64 0, .int .i64 1, .int .i64 1000000, .int .i64 1000001] 3 4 (c 6) (.slice (some ⟨B, 0, none⟩) 4 4) wz := by rw [← e6]; exact H.out.f6
            obtain ⟨x, e8, hx1, hx2⟩ := H.out.f8 d8
            have g8 : JI (0) 3 (c 8) (.int .i64 x) := by rw [← e8]; exact H.out.f8
            clear hh d6 d8 hni
            rcases (by omega : x = 0 ∨ x = 1 ∨ x = 2 ∨ x = 3) with rfl | rfl | rfl | rfl
            · go_simp
              refine hK.out _ _ ?_
              refine ⟨fun j => if j = 9 then true else c j, fun j => if j = 9 then .pointer (some ⟨B, 0, none⟩) else if j = 6 then .slice (some ⟨B, 0, none⟩) 4 4 else if j = 8 then .int .i64 0 else v j, rfl, rfl, ⟨H.out.f0, H.out.f1, H.out.f2, H.out.f3, H.out.f4, H.out.f5, g6, H.out.f7, g8, (fun _ => ⟨B, 0, rfl, by decide, hB, HH.out⟩), H.out.f10, H.out.f11, H.out.f12, H.out.f13, H.out.f14, H.out.f15, H.out.f16, H.out.f17, H.out.f18, H.out.f19, H.out.f20, H.out.f21, H.out.f22, H.out.fX, H.out.fW⟩⟩
            · go_simp
              refine hK.out _ _ ?_
              refine ⟨fun j => if j = 9 then true else c j, fun j => if j = 9 then .pointer (some ⟨B, 1, none⟩) else if j = 6 then .slice (some ⟨B, 0, none⟩) 4 4 else if j = 8 then .int .i64 1 else v j, rfl, rfl, ⟨H.out.f0, H.out.f1, H.out.f2, H.out.f3, H.out.f4, H.out.f5, g6, H.out.f7, g8, (fun _ => ⟨B, 1, rfl, by decide, hB, HH.out⟩), H.out.f10, H.out.f11, H.out.f12, H.out.f13, H.out.f14, H.out.f15, H.out.f16, H.out.f17, H.out.f18, H.out.f19, H.out.f20, H.out.f21, H.out.f22, H.out.fX, H.out.fW⟩⟩
            · go_simp
              refine hK.out _ _ ?_
              refine ⟨fun j => if j = 9 then true else c j, fun j => if j = 9 then .pointer (some ⟨B, 2, none⟩) else if j = 6 then .slice (some ⟨B, 0, none⟩) 4 4 else if j = 8 then .int .i64 2 else v j, rfl, rfl, ⟨H.out.f0, H.out.f1, H.out.f2, H.out.f3, H.out.f4, H.out.f5, g6, H.out.f7, g8, (fun _ => ⟨B, 2, rfl, by decide, hB, HH.out⟩), H.out.f10, H.out.f11, H.out.f12, H.out.f13, H.out.f14, H.out.f15, H.out.f16, H.out.f17, H.out.f18, H.out.f19, H.out.f20, H.out.f21, H.out.f22, H.out.fX, H.out.fW⟩⟩
            · go_simp
              refine hK.out _ _ ?_
              refine ⟨fun j => if j = 9 then true else c j, fun j => if j = 9 then .pointer (some ⟨B, 3, none⟩) else if j = 6 then .slice (some ⟨B, 0, none⟩) 4 4 else if j = 8 then .int .i64 3 else v j, rfl, rfl, ⟨H.out.f0, H.out.f1, H.out.f2, H.out.f3, H.out.f4, H.out.f5, g6, H.out.f7, g8, (fun _ => ⟨B, 3, rfl, by decide, hB, HH.out⟩), H.out.f10, H.out.f11, H.out.f12, H.out.f13, H.out.f14, H.out.f15, H.out.f16, H.out.f17, H.out.f18, H.out.f19, H.out.f20, H.out.f21, H.out.f22, H.out.fX, H.out.fW⟩⟩
          · obtain rfl : _ = o := Option.some.inj ho
            have d9 : c 9 = true := hdep ⟨9, .data⟩ (by simp) rfl
            have hni : c 10 = false := hn
            clear hdep hn hi ho
            obtain ⟨B, j, e9, hj, hB, hh⟩ := H.out.f9 d9
            have g9 : JA b A #[.int .i64 0, .int .i64 1, .int .i64 1000000, .int .i64 1000001] 3 4 (c 9) (.pointer (some ⟨B, j, none⟩)) wz := by rw [← e9]; exact H.out.f9
            clear d9 hni
            rcases (by omega : j = 0 ∨ j = 1 ∨ j = 2 ∨ j = 3) with rfl | rfl | rfl | rfl
            · have z := blkCell hh 0 _ rfl
              simp only [List.getElem_toArray, List.getElem_cons_zero] at z
              clear hh
              go_simp
              refine hK.out _ _ ?_
              refine ⟨fun j => if j = 10 then true else c j, fun j => if j = 10 then .int .i64 0 else if j = 9 then .pointer (some ⟨B, 0, none⟩) else v j, rfl, rfl, ⟨H.out.f0, H.out.f1, H.out.f2, H.out.f3, H.out.f4, H.out.f5, H.out.f6, H.out.f7, H.out.f8, g9, (fun _ => ⟨_, rfl, by omega, by omega⟩), H.out.f11, H.out.f12, H.out.f13, H.out.f14, H.out.f15, H.out.f16, H.out.f17, H.out.f18, H.out.f19, H.out.f20, H.out.f21, H.out.f22, H.out.fX, H.out.fW⟩⟩
            · have z := blkCell hh 1 _ rfl
              simp only [List.getElem_toArray, List.getElem_cons_zero, List.getElem_cons_succ] at z
              clear hh
              go_simp
              refine hK.out _ _ ?_
              refine ⟨fun j => if j = 10 then true else c j, fun j => if j = 10 then .int .i64 1 else if j = 9 then .pointer (some ⟨B, 1, none⟩) else v j, rfl, rfl, ⟨H.out.f0, H.out.f1, H.out.f2, H.out.f3, H.out.f4, H.out.f5, H.out.f6, H.out.f7, H.out.f8, g9, (fun _ => ⟨_, rfl, by omega, by omega⟩), H.out.f11, H.out.f12, H.out.f13, H.out.f14, H.out.f15, H.out.f16, H.out.f17, H.out.f18, H.out.f19, H.out.f20, H.out.f21, H.out.f22, H.out.fX, H.out.fW⟩⟩
            · have z := blkCell hh 2 _ rfl
              simp only [List.getElem_toArray, List.getElem_cons_zero, List.getElem_cons_succ] at z
              clear hh
              go_simp
              refine hK.out _ _ ?_
              refine ⟨fun j => if j = 10 then true else c j, fun j => if j = 10 then .int .i64 1000000 else if j = 9 then .pointer (some ⟨B, 2, none⟩) else v j, rfl, rfl, ⟨H.out.f0, H.out.f1, H.out.f2, H.out.f3, H.out.f4, H.out.f5, H.out.f6, H.out.f7, H.out.f8, g9, (fun _ => ⟨_, rfl, by omega, by omega⟩), H.out.f11, H.out.f12, H.out.f13, H.out.f14, H.out.f15, H.out.f16, H.out.f17, H.out.f18, H.out.f19, H.out.f20, H.out.f21, H.out.f22, H.out.fX, H.out.fW⟩⟩
            · have z := blkCell hh 3 _ rfl
              simp only [List.getElem_toArray, List.getElem_cons_zero, List.getElem_cons_succ] at z
              clear hh
              go_simp
              refine hK.out _ _ ?_
              refine ⟨fun j => if j = 10 then true else c j, fun j => if j = 10 then .int .i64 1000001 else if j = 9 then .pointer (some ⟨B, 3, none⟩) else v j, rfl, rfl, ⟨H.out.f0, H.out.f1, H.out.f2, H.out.f3, H.out.f4, H.out.f5, H.out.f6, H.out.f7, H.out.f8, g9, (fun _ => ⟨_, rfl, by omega, by omega⟩), H.out.f11, H.out.f12, H.out.f13, H.out.f14, H.out.f15, H.out.f16, H.out.f17, H.out.f18, H.out.f19, H.out.f20, H.out.f21, H.out.f22, H.out.fX, H.out.fW⟩⟩
          · obtain rfl : _ = o := Option.some.inj ho
            have hni : c 11 = false := hn
            clear hdep hn hi ho
            obtain ⟨ax, sx, hax, hSo⟩ := H.out.fW
            have hAz := H.out.fX.lt
            have hbz : b < wz.heap.size := hSo.2.2.1.2.2.2.2.2.1
            have HSo : Hid (_ ∧ SkSo w b a len cap (.slice (some ⟨g, 0, none⟩) rs.length cp) rs ax sx wz) := ⟨hax, hSo⟩
            clear hSo hax hni
            go_simp
            refine hK.out _ _ ?_
            refine ⟨fun j => if j = 11 then true else c j, fun j => if j = 11 then .slice (some ⟨wz.heap.size, 0, none⟩) 6 6 else v j, rfl, rfl, ⟨H.out.f0, H.out.f1, H.out.f2, H.out.f3, H.out.f4.mono (fun k _ hl => Below.heap_alloc _ _ _ hl), H.out.f5, H.out.f6.mono (fun k _ hl => Below.heap_alloc _ _ _ hl), H.out.f7, H.out.f8, H.out.f9.mono (fun k _ hl => Below.heap_alloc _ _ _ hl), H.out.f10, (fun _ => ⟨wz.heap.size, rfl, ⟨by omega, by omega⟩, heapNew _ _⟩), H.out.f12, H.out.f13, H.out.f14.mono (fun k _ hl => Below.heap_alloc _ _ _ hl), H.out.f15, H.out.f16, H.out.f17.mono (fun k _ hl => Below.heap_alloc _ _ _ hl), H.out.f18, H.out.f19, H.out.f20.mono (fun k _ hl => Below.heap_alloc _ _ _ hl), H.out.f21, H.out.f22, H.out.fX.mono hAb (fun k _ hl => Below.heap_alloc _ _ _ hl), ax, sx, HSo.out.1, HSo.out.2.alloc _⟩⟩
          · obtain rfl : _ = o := Option.some.inj ho
            have hni : c 12 = false := hn
            clear hdep hn hi ho
            clear hni
            go_simp
            refine hK.out _ _ ?_
            refine ⟨fun j => if j = 12 then true else c j, fun j => if j = 12 then .pointer (some ⟨b, 0, none⟩) else v j, rfl, rfl, ⟨H.out.f0, H.out.f1, H.out.f2, H.out.f3, H.out.f4, H.out.f5, H.out.f6, H.out.f7, H.out.f8, H.out.f9, H.out.f10, H.out.f11, (fun _ => rfl), H.out.f13, H.out.f14, H.out.f15, H.out.f16, H.out.f17, H.out.f18, H.out.f19, H.out.f20, H.out.f21, H.out.f22, H.out.fX, H.out.fW⟩⟩
          · obtain rfl : _ = o := Option.some.inj ho
            have d12 : c 12 = true := hdep ⟨12, .data⟩ (by simp) rfl
            have hni : c 13 = false := hn
            clear hdep hn hi ho
            obtain ⟨ax, sx, hax, hSo⟩ := H.out.fW
            have HSo : Hid (SkSo w b a len cap (.slice (some ⟨g, 0, none⟩) rs.length cp) rs ax sx wz) := hSo
            clear hSo
            have e12 := H.out.f12 d12
            have g12 : J1 (c 12) (.pointer (some ⟨b, 0, none⟩)) (.pointer (some ⟨b, 0, none⟩)) := fun _ => rfl
            have hcc : ax ≤ a9 + 12 := by
              have b1 : ∀ q : Bool, q.toNat ≤ 1 := fun q => by cases q <;> decide
              have := b1 (c 1); have := b1 (c 5); have := b1 (c 8); have := b1 (c 13); have := b1 (c 19)
              rw [hni] at hax; simp only [Bool.toNat_false] at hax
              omega
            have Hax : Hid (c 13 = false ∧ _) := ⟨hni, hax⟩
            clear hax hni d12
            go_simp
            go_at_call 35
            refine (HNx.out _ 6 ax sx HSo.out.2.2.2 HSo.out.2.2.1 (by omega) (by omega)).mono ?_
            rintro e w10 ⟨x10, a10, s10, rfl, ⟨hx100, hx101⟩, ha10, hb10, hs10, hb10', hf10⟩
            refine hK.out _ _ ?_
            refine ⟨fun j => if j = 13 then true else c j, fun j => if j = 13 then .int .i64 x10 else if j = 12 then .pointer (some ⟨b, 0, none⟩) else v j, rfl, rfl, ⟨H.out.f0, H.out.f1, H.out.f2, H.out.f3, H.out.f4.mono (fun k hk _ => hf10 k hk), H.out.f5, H.out.f6.mono (fun k hk _ => hf10 k hk), H.out.f7, H.out.f8, H.out.f9.mono (fun k hk _ => hf10 k hk), H.out.f10, H.out.f11.mono (fun k hk _ => hf10 k hk), g12, (fun _ => ⟨x10, rfl, by omega, by omega⟩), H.out.f14.mono (fun k hk _ => hf10 k hk), H.out.f15, H.out.f16, H.out.f17.mono (fun k hk _ => hf10 k hk), H.out.f18, H.out.f19, H.out.f20.mono (fun k hk _ => hf10 k hk), H.out.f21, H.out.f22, H.out.fX.mono hAb (fun k hk _ => hf10 k hk), a10, s10, ?_, HSo.out.draw hf10 hb10' hs10⟩⟩
            have hq := Hax.out.2
            rw [Hax.out.1] at hq; simp only [Bool.toNat_false] at hq
            show a10 ≤ a9 + 3 * (((c 1).toNat + (c 5).toNat + (c 8).toNat + 1 + (c 19).toNat : Nat) : Int)
            omega
          · obtain rfl : _ = o := Option.some.inj ho
            have d11 : c 11 = true := hdep ⟨11, .data⟩ (by simp) rfl
            have d13 : c 13 = true := hdep ⟨13, .data⟩ (by simp) rfl
            have hni : c 14 = false := hn
            clear hdep hn hi ho
            obtain ⟨B, e11, hB, hh⟩ := H.out.f11 d11
            have HH : Hid _ := hh
            have g11 : JT b A #[.int .i64 0, .int .i64 1, .int .i64 100000, .int .i64 100001, .int .i64 (-1), .int .i64 100000] 3 6 (c 11) (.slice (some ⟨B, 0, none⟩) 6 6) wz := by rw [← e11]; exact H.out.f11
            obtain ⟨x, e13, hx1, hx2⟩ := H.out.f13 d13
            have g13 : JI (0) 5 (c 13) (.int .i64 x) := by rw [← e13]; exact H.out.f13
            clear hh d11 d13 hni
            rcases (by omega : x = 0 ∨ x = 1 ∨ x = 2 ∨ x = 3 ∨ x = 4 ∨ x = 5) with rfl | rfl | rfl | rfl | rfl | rfl
            · go_simp
              refine hK.out _ _ ?_
              refine ⟨fun j => if j = 14 then true else c j, fun j => if j = 14 then .pointer (some ⟨B, 0, none⟩) else if j = 11 then .slice (some ⟨B, 0, none⟩) 6 6 else if j = 13 then .int .i64 0 else v j, rfl, rfl, ⟨H.out.f0, H.out.f1, H.out.f2, H.out.f3, H.out.f4, H.out.f5, H.out.f6, H.out.f7, H.out.f8, H.out.f9, H.out.f10, g11, H.out.f12, g13, (fun _ => ⟨B, 0, rfl, by decide, hB, HH.out⟩), H.out.f15, H.out.f16, H.out.f17, H.out.f18, H.out.f19, H.out.f20, H.out.f21, H.out.f22, H.out.fX, H.out.fW⟩⟩
            · go_simp
              refine hK.out _ _ ?_
              refine ⟨fun j => if j = 14 then true else c j, fun j => if j = 14 then .pointer (some ⟨B, 1, none⟩) else if j = 11 then .slice (some ⟨B, 0, none⟩) 6 6 else if j = 13 then .int .i64 1 else v j, rfl, rfl, ⟨H.out.f0, H.out.f1, H.out.f2, H.out.f3, H.out.f4, H.out.f5, H.out.f6, H.out.f7, H.out.f8, H.out.f9, H.out.f10, g11, H.out.f12, g13, (fun _ => ⟨B, 1, rfl, by decide, hB, HH.out⟩), H.out.f15, H.out.f16, H.out.f17, H.out.f18, H.out.f19, H.out.f20, H.out.f21, H.out.f22, H.out.fX, H.out.fW⟩⟩
            · go_simp
              refine hK.out _ _ ?_
              refine ⟨fun j => if j = 14 then true else c j, fun j => if j = 14 then .pointer (some ⟨B, 2, none⟩) else if j = 11 then .slice (some ⟨B, 0, none⟩) 6 6 else if j = 13 then .int .i64 2 else v j, rfl, rfl, ⟨H.out.f0, H.out.f1, H.out.f2, H.out.f3, H.out.f4, H.out.f5, H.out.f6, H.out.f7, H.out.f8, H.out.f9, H.out.f10, g11, H.out.f12, g13, (fun _ => ⟨B, 2, rfl, by decide, hB, HH.out⟩), H.out.f15, H.out.f16, H.out.f17, H.out.f18, H.out.f19, H.out.f20, H.out.f21, H.out.f22, H.out.fX, H.out.fW⟩⟩
            · go_simp
              refine hK.out _ _ ?_
              refine ⟨fun j => if j = 14 then true else c j, fun j => if j = 14 then .pointer (some ⟨B, 3, none⟩) else if j = 11 then .slice (some ⟨B, 0, none⟩) 6 6 else if j = 13 then .int .i64 3 else v j, rfl, rfl, ⟨H.out.f0, H.out.f1, H.out.f2, H.out.f3, H.out.f4, H.out.f5, H.out.f6, H.out.f7, H.out.f8, H.out.f9, H.out.f10, g11, H.out.f12, g13, (fun _ => ⟨B, 3, rfl, by decide, hB, HH.out⟩), H.out.f15, H.out.f16, H.out.f17, H.out.f18, H.out.f19, H.out.f20, H.out.f21, H.out.f22, H.out.fX, H.out.fW⟩⟩
            · go_simp
              refine hK.out _ _ ?_
              refine ⟨fun j => if j = 14 then true else c j, fun j => if j = 14 then .pointer (some ⟨B, 4, none⟩) else if j = 11 then .slice (some ⟨B, 0, none⟩) 6 6 else if j = 13 then .int .i64 4 else v j, rfl, rfl, ⟨H.out.f0, H.out.f1, H.out.f2, H.out.f3, H.out.f4, H.out.f5, H.out.f6, H.out.f7, H.out.f8, H.out.f9, H.out.f10, g11, H.out.f12, g13, (fun _ => ⟨B, 4, rfl, by decide, hB, HH.out⟩), H.out.f15, H.out.f16, H.out.f17, H.out.f18, H.out.f19, H.out.f20, H.out.f21, H.out.f22, H.out.fX, H.out.fW⟩⟩
            · go_simp
              refine hK.out _ _ ?_
              refine ⟨fun j => if j = 14 then true else c j, fun j => if j = 14 then .pointer (some ⟨B, 5, none⟩) else if j = 11 then .slice (some ⟨B, 0, none⟩) 6 6 else if j = 13 then .int .i64 5 else v j, rfl, rfl, ⟨H.out.f0, H.out.f1, H.out.f2, H.out.f3, H.out.f4, H.out.f5, H.out.f6, H.out.f7, H.out.f8, H.out.f9, H.out.f10, g11, H.out.f12, g13, (fun _ => ⟨B, 5, rfl, by decide, hB, HH.out⟩), H.out.f15, H.out.f16, H.out.f17, H.out.f18, H.out.f19, H.out.f20, H.out.f21, H.out.f22, H.out.fX, H.out.fW⟩⟩
          · obtain rfl : _ = o := Option.some.inj ho
            have d14 : c 14 = true := hdep ⟨14, .data⟩ (by simp) rfl
            have hni : c 15 = false := hn
            clear hdep hn hi ho
            obtain ⟨B, j, e14, hj, hB, hh⟩ := H.out.f14 d14
            have g14 : JA b A #[.int .i64 0, .int .i64 1, .int .i64 100000, .int .i64 100001, .int .i64 (-1), .int .i64 100000] 3 6 (c 14) (.pointer (some ⟨B, j, none⟩)) wz := by rw [← e14]; exact H.out.f14
            clear d14 hni
            rcases (by omega : j = 0 ∨ j = 1 ∨ j = 2 ∨ j = 3 ∨ j = 4 ∨ j = 5) with rfl | rfl | rfl | rfl | rfl | rfl
            · have z := blkCell hh 0 _ rfl
              simp only [List.getElem_toArray, List.getElem_cons_zero] at z
              clear hh
              go_simp
              refine hK.out _ _ ?_
              refine ⟨fun j => if j = 15 then true else c j, fun j => if j = 15 then .int .i64 0 else if j = 14 then .pointer (some ⟨B, 0, none⟩) else v j, rfl, rfl, ⟨H.out.f0, H.out.f1, H.out.f2, H.out.f3, H.out.f4, H.out.f5, H.out.f6, H.out.f7, H.out.f8, H.out.f9, H.out.f10, H.out.f11, H.out.f12, H.out.f13, g14, (fun _ => ⟨_, rfl, by omega, by omega⟩), H.out.f16, H.out.f17, H.out.f18, H.out.f19, H.out.f20, H.out.f21, H.out.f22, H.out.fX, H.out.fW⟩⟩
            · have z := blkCell hh 1 _ rfl
              simp only [List.getElem_toArray, List.getElem_cons_zero, List.getElem_cons_succ] at z
              clear hh
              go_simp
              refine hK.out _ _ ?_
              refine ⟨fun j => if j = 15 then true else c j, fun j => if j = 15 then .int .i64 1 else if j = 14 then .pointer (some ⟨B, 1, none⟩) else v j, rfl, rfl, ⟨H.out.f0, H.out.f1, H.out.f2, H.out.f3, H.out.f4, H.out.f5, H.out.f6, H.out.f7, H.out.f8, H.out.f9, H.out.f10, H.out.f11, H.out.f12, H.out.f13, g14, (fun _ => ⟨_, rfl, by omega, by omega⟩), H.out.f16, H.out.f17, H.out.f18, H.out.f19, H.out.f20, H.out.f21, H.out.f22, H.out.fX, H.out.fW⟩⟩
            · have z := blkCell hh 2 _ rfl
              simp only [List.getElem_toArray, List.getElem_cons_zero, List.getElem_cons_succ] at z
              clear hh
              go_simp
              refine hK.out _ _ ?_
              refine ⟨fun j => if j = 15 then true else c j, fun j => if j = 15 then .int .i64 100000 else if j = 14 then .pointer (some ⟨B, 2, none⟩) else v j, rfl, rfl, ⟨H.out.f0, H.out.f1, H.out.f2, H.out.f3, H.out.f4, H.out.f5, H.out.f6, H.out.f7, H.out.f8, H.out.f9, H.out.f10, H.out.f11, H.out.f12, H.out.f13, g14, (fun _ => ⟨_, rfl, by omega, by omega⟩), H.out.f16, H.out.f17, H.out.f18, H.out.f19, H.out.f20, H.out.f21, H.out.f22, H.out.fX, H.out.fW⟩⟩
            · have z := blkCell hh 3 _ rfl
              simp only [List.getElem_toArray, List.getElem_cons_zero, List.getElem_cons_succ] at z
              clear hh
              go_simp
              refine hK.out _ _ ?_
              refine ⟨fun j => if j = 15 then true else c j, fun j => if j = 15 then .int .i64 100001 else if j = 14 then .pointer (some ⟨B, 3, none⟩) else v j, rfl, rfl, ⟨H.out.f0, H.out.f1, H.out.f2, H.out.f3, H.out.f4, H.out.f5, H.out.f6, H.out.f7, H.out.f8, H.out.f9, H.out.f10, H.out.f11, H.out.f12, H.out.f13, g14, (fun _ => ⟨_, rfl, by omega, by omega⟩), H.out.f16, H.out.f17, H.out.f18, H.out.f19, H.out.f20, H.out.f21, H.out.f22, H.out.fX, H.out.fW⟩⟩
            · have z := blkCell hh 4 _ rfl
              simp only [List.getElem_toArray, List.getElem_cons_zero, List.getElem_cons_succ] at z
              clear hh
              go_simp
              refine hK.out _ _ ?_
              refine ⟨fun j => if j = 15 then true else c j, fun j => if j = 15 then .int .i64 (-1) else if j = 14 then .pointer (some ⟨B, 4, none⟩) else v j, rfl, rfl, ⟨H.out.f0, H.out.f1, H.out.f2, H.out.f3, H.out.f4, H.out.f5, H.out.f6, H.out.f7, H.out.f8, H.out.f9, H.out.f10, H.out.f11, H.out.f12, H.out.f13, g14, (fun _ => ⟨_, rfl, by omega, by omega⟩), H.out.f16, H.out.f17, H.out.f18, H.out.f19, H.out.f20, H.out.f21, H.out.f22, H.out.fX, H.out.fW⟩⟩
            · have z := blkCell hh 5 _ rfl
              simp only [List.getElem_toArray, List.getElem_cons_zero, List.getElem_cons_succ] at z
              clear hh
              go_simp
              refine hK.out _ _ ?_
              refine ⟨fun j => if j = 15 then true else c j, fun j => if j = 15 then .int .i64 100000 else if j = 14 then .pointer (some ⟨B, 5, none⟩) else v j, rfl, rfl, ⟨H.out.f0, H.out.f1, H.out.f2, H.out.f3, H.out.f4, H.out.f5, H.out.f6, H.out.f7, H.out.f8, H.out.f9, H.out.f10, H.out.f11, H.out.f12, H.out.f13, g14, (fun _ => ⟨_, rfl, by omega, by omega⟩), H.out.f16, H.out.f17, H.out.f18, H.out.f19, H.out.f20, H.out.f21, H.out.f22, H.out.fX, H.out.fW⟩⟩
          · obtain rfl : _ = o := Option.some.inj ho
            have hni : c 16 = false := hn
            clear hdep hn hi ho
            clear hni
            go_simp
            refine hK.out _ _ ?_
            refine ⟨fun j => if j = 16 then true else c j, fun j => if j = 16 then .int .i64 day else v j, rfl, rfl, ⟨H.out.f0, H.out.f1, H.out.f2, H.out.f3, H.out.f4, H.out.f5, H.out.f6, H.out.f7, H.out.f8, H.out.f9, H.out.f10, H.out.f11, H.out.f12, H.out.f13, H.out.f14, H.out.f15, (fun _ => rfl), H.out.f17, H.out.f18, H.out.f19, H.out.f20, H.out.f21, H.out.f22, H.out.fX, H.out.fW⟩⟩
          · obtain rfl : _ = o := Option.some.inj ho
            have d16 : c 16 = true := hdep ⟨16, .data⟩ (by simp) rfl
            have hni : c 17 = false := hn
            clear hdep hn hi ho
            have e16 := H.out.f16 d16
            have g16 : J1 (c 16) (.int .i64 day) (.int .i64 day) := fun _ => rfl
            clear d16
            obtain ⟨ax, sx, hax, hSo⟩ := H.out.fW
            have hAz := H.out.fX.lt
            have hbz : b < wz.heap.size := hSo.2.2.1.2.2.2.2.2.1
            have HSo : Hid (_ ∧ SkSo w b a len cap (.slice (some ⟨g, 0, none⟩) rs.length cp) rs ax sx wz) := ⟨hax, hSo⟩
            clear hSo hax hni
            go_simp
            refine hK.out _ _ ?_
            refine ⟨fun j => if j = 17 then true else c j, fun j => if j = 17 then .slice (some ⟨wz.heap.size, 0, none⟩) 4 4 else if j = 16 then .int .i64 day else v j, rfl, rfl, ⟨H.out.f0, H.out.f1, H.out.f2, H.out.f3, H.out.f4.mono (fun k _ hl => Below.heap_alloc _ _ _ hl), H.out.f5, H.out.f6.mono (fun k _ hl => Below.heap_alloc _ _ _ hl), H.out.f7, H.out.f8, H.out.f9.mono (fun k _ hl => Below.heap_alloc _ _ _ hl), H.out.f10, H.out.f11.mono (fun k _ hl => Below.heap_alloc _ _ _ hl), H.out.f12, H.out.f13, H.out.f14.mono (fun k _ hl => Below.heap_alloc _ _ _ hl), H.out.f15, g16, (fun _ => ⟨wz.heap.size, rfl, ⟨by omega, by omega⟩, heapNew _ _⟩), H.out.f18, H.out.f19, H.out.f20.mono (fun k _ hl => Below.heap_alloc _ _ _ hl), H.out.f21, H.out.f22, H.out.fX.mono hAb (fun k _ hl => Below.heap_alloc _ _ _ hl), ax, sx, HSo.out.1, HSo.out.2.alloc _⟩⟩
          · obtain rfl : _ = o := Option.some.inj ho
            have hni : c 18 = false := hn
            clear hdep hn hi ho
            clear hni
            go_simp
            refine hK.out _ _ ?_
            refine ⟨fun j => if j = 18 then true else c j, fun j => if j = 18 then .pointer (some ⟨b, 0, none⟩) else v j, rfl, rfl, ⟨H.out.f0, H.out.f1, H.out.f2, H.out.f3, H.out.f4, H.out.f5, H.out.f6, H.out.f7, H.out.f8, H.out.f9, H.out.f10, H.out.f11, H.out.f12, H.out.f13, H.out.f14, H.out.f15, H.out.f16, H.out.f17, (fun _ => rfl), H.out.f19, H.out.f20, H.out.f21, H.out.f22, H.out.fX, H.out.fW⟩⟩
          · obtain rfl : _ = o := Option.some.inj ho
            have d18 : c 18 = true := hdep ⟨18, .data⟩ (by simp) rfl
            have hni : c 19 = false := hn
            clear hdep hn hi ho
            obtain ⟨ax, sx, hax, hSo⟩ := H.out.fW
            have HSo : Hid (SkSo w b a len cap (.slice (some ⟨g, 0, none⟩) rs.length cp) rs ax sx wz) := hSo
            clear hSo
            have e18 := H.out.f18 d18
            have g18 : J1 (c 18) (.pointer (some ⟨b, 0, none⟩)) (.pointer (some ⟨b, 0, none⟩)) := fun _ => rfl
            have hcc : ax ≤ a9 + 12 := by
              have b1 : ∀ q : Bool, q.toNat ≤ 1 := fun q => by cases q <;> decide
              have := b1 (c 1); have := b1 (c 5); have := b1 (c 8); have := b1 (c 13); have := b1 (c 19)
              rw [hni] at hax; simp only [Bool.toNat_false] at hax
              omega
            have Hax : Hid (c 19 = false ∧ _) := ⟨hni, hax⟩
            clear hax hni d18
            go_simp
            go_at_call 35
            refine (HNx.out _ 4 ax sx HSo.out.2.2.2 HSo.out.2.2.1 (by omega) (by omega)).mono ?_
            rintro e w10 ⟨x10, a10, s10, rfl, ⟨hx100, hx101⟩, ha10, hb10, hs10, hb10', hf10⟩
            refine hK.out _ _ ?_
            refine ⟨fun j => if j = 19 then true else c j, fun j => if j = 19 then .int .i64 x10 else if j = 18 then .pointer (some ⟨b, 0, none⟩) else v j, rfl, rfl, ⟨H.out.f0, H.out.f1, H.out.f2, H.out.f3, H.out.f4.mono (fun k hk _ => hf10 k hk), H.out.f5, H.out.f6.mono (fun k hk _ => hf10 k hk), H.out.f7, H.out.f8, H.out.f9.mono (fun k hk _ => hf10 k hk), H.out.f10, H.out.f11.mono (fun k hk _ => hf10 k hk), H.out.f12, H.out.f13, H.out.f14.mono (fun k hk _ => hf10 k hk), H.out.f15, H.out.f16, H.out.f17.mono (fun k hk _ => hf10 k hk), g18, (fun _ => ⟨x10, rfl, by omega, by omega⟩), H.out.f20.mono (fun k hk _ => hf10 k hk), H.out.f21, H.out.f22, H.out.fX.mono hAb (fun k hk _ => hf10 k hk), a10, s10, ?_, HSo.out.draw hf10 hb10' hs10⟩⟩
            have hq := Hax.out.2
            rw [Hax.out.1] at hq; simp only [Bool.toNat_false] at hq
            show a10 ≤ a9 + 3 * (((c 1).toNat + (c 5).toNat + (c 8).toNat + (c 13).toNat + 1 : Nat) : Int)
            omega
          · obtain rfl : _ = o := Option.some.inj ho
            have d17 : c 17 = true := hdep ⟨17, .data⟩ (by simp) rfl
            have d19 : c 19 = true := hdep ⟨19, .data⟩ (by simp) rfl
            have hni : c 20 = false := hn
            clear hdep hn hi ho
            obtain ⟨B, e17, hB, hh⟩ := H.out.f17 d17
            have HH : Hid _ := hh
            have g17 : JT b A #[.int .i64 (-1), .int .i64 100000, .int .i64 100001, .int .i64 day] 3 4 (c 17) (.slice (some ⟨B, 0, none⟩) 4 4) wz := by rw [← e17]; exact H.out.f17
            obtain ⟨x, e19, hx1, hx2⟩ := H.out.f19 d19
            have g19 : JI (0) 3 (c 19) (.int .i64 x) := by rw [← e19]; exact H.out.f19
            clear hh d17 d19 hni
            rcases (by omega : x = 0 ∨ x = 1 ∨ x = 2 ∨ x = 3) with rfl | rfl | rfl | rfl
            · go_simp
              refine hK.out _ _ ?_
              refine ⟨fun j => if j = 20 then true else c j, fun j => if j = 20 then .pointer (some ⟨B, 0, none⟩) else if j = 17 then .slice (some ⟨B, 0, none⟩) 4 4 else if j = 19 then .int .i64 0 else v j, rfl, rfl, ⟨H.out.f0, H.out.f1, H.out.f2, H.out.f3, H.out.f4, H.out.f5, H.out.f6, H.out.f7, H.out.f8, H.out.f9, H.out.f10, H.out.f11, H.out.f12, H.out.f13, H.out.f14, H.out.f15, H.out.f16, g17, H.out.f18, g19, (fun _ => ⟨B, 0, rfl, by decide, hB, HH.out⟩), H.out.f21, H.out.f22, H.out.fX, H.out.fW⟩⟩
            · go_simp
              refine hK.out _ _ ?_
              refine ⟨fun j => if j = 20 then true else c j, fun j => if j = 20 then .pointer (some ⟨B, 1, none⟩) else if j = 17 then .slice (some ⟨B, 0, none⟩) 4 4 else if j = 19 then .int .i64 1 else v j, rfl, rfl, ⟨H.out.f0, H.out.f1, H.out.f2, H.out.f3, H.out.f4, H.out.f5, H.out.f6, H.out.f7, H.out.f8, H.out.f9, H.out.f10, H.out.f11, H.out.f12, H.out.f13, H.out.f14, H.out.f15, H.out.f16, g17, H.out.f18, g19, (fun _ => ⟨B, 1, rfl, by decide, hB, HH.out⟩), H.out.f21, H.out.f22, H.out.fX, H.out.fW⟩⟩
            · go_simp
              refine hK.out _ _ ?_
              refine ⟨fun j => if j = 20 then true else c j, fun j => if j = 20 then .pointer (some ⟨B, 2, none⟩) else if j = 17 then .slice (some ⟨B, 0, none⟩) 4 4 else if j = 19 then .int .i64 2 else v j, rfl, rfl, ⟨H.out.f0, H.out.f1, H.out.f2, H.out.f3, H.out.f4, H.out.f5, H.out.f6, H.out.f7, H.out.f8, H.out.f9, H.out.f10, H.out.f11, H.out.f12, H.out.f13, H.out.f14, H.out.f15, H.out.f16, g17, H.out.f18, g19, (fun _ => ⟨B, 2, rfl, by decide, hB, HH.out⟩), H.out.f21, H.out.f22, H.out.fX, H.out.fW⟩⟩
            · go_simp
              refine hK.out _ _ ?_
              refine ⟨fun j => if j = 20 then true else c j, fun j => if j = 20 then .pointer (some ⟨B, 3, none⟩) else if j = 17 then .slice (some ⟨B, 0, none⟩) 4 4 else if j = 19 then .int .i64 3 else v j, rfl, rfl, ⟨H.out.f0, H.out.f1, H.out.f2, H.out.f3, H.out.f4, H.out.f5, H.out.f6, H.out.f7, H.out.f8, H.out.f9, H.out.f10, H.out.f11, H.out.f12, H.out.f13, H.out.f14, H.out.f15, H.out.f16, g17, H.out.f18, g19, (fun _ => ⟨B, 3, rfl, by decide, hB, HH.out⟩), H.out.f21, H.out.f22, H.out.fX, H.out.fW⟩⟩
          · obtain rfl : _ = o := Option.some.inj ho
            have d20 : c 20 = true := hdep ⟨20, .data⟩ (by simp) rfl
            have hni : c 21 = false := hn
            clear hdep hn hi ho
            obtain ⟨B, j, e20, hj, hB, hh⟩ := H.out.f20 d20
            have g20 : JA b A #[.int .i64 (-1), .int .i64 100000, .int .i64 100001, .int .i64 day] 3 4 (c 20) (.pointer (some ⟨B, j, none⟩)) wz := by rw [← e20]; exact H.out.f20
            clear d20 hni
            rcases (by omega : j = 0 ∨ j = 1 ∨ j = 2 ∨ j = 3) with rfl | rfl | rfl | rfl
            · have z := blkCell hh 0 _ rfl
              simp only [List.getElem_toArray, List.getElem_cons_zero] at z
              clear hh
              go_simp
              refine hK.out _ _ ?_
              refine ⟨fun j => if j = 21 then true else c j, fun j => if j = 21 then .int .i64 (-1) else if j = 20 then .pointer (some ⟨B, 0, none⟩) else v j, rfl, rfl, ⟨H.out.f0, H.out.f1, H.out.f2, H.out.f3, H.out.f4, H.out.f5, H.out.f6, H.out.f7, H.out.f8, H.out.f9, H.out.f10, H.out.f11, H.out.f12, H.out.f13, H.out.f14, H.out.f15, H.out.f16, H.out.f17, H.out.f18, H.out.f19, g20, (fun _ => ⟨_, rfl, by omega, by omega⟩), H.out.f22, H.out.fX, H.out.fW⟩⟩
            · have z := blkCell hh 1 _ rfl
              simp only [List.getElem_toArray, List.getElem_cons_zero, List.getElem_cons_succ] at z
              clear hh
              go_simp
              refine hK.out _ _ ?_
              refine ⟨fun j => if j = 21 then true else c j, fun j => if j = 21 then .int .i64 100000 else if j = 20 then .pointer (some ⟨B, 1, none⟩) else v j, rfl, rfl, ⟨H.out.f0, H.out.f1, H.out.f2, H.out.f3, H.out.f4, H.out.f5, H.out.f6, H.out.f7, H.out.f8, H.out.f9, H.out.f10, H.out.f11, H.out.f12, H.out.f13, H.out.f14, H.out.f15, H.out.f16, H.out.f17, H.out.f18, H.out.f19, g20, (fun _ => ⟨_, rfl, by omega, by omega⟩), H.out.f22, H.out.fX, H.out.fW⟩⟩
            · have z := blkCell hh 2 _ rfl
              simp only [List.getElem_toArray, List.getElem_cons_zero, List.getElem_cons_succ] at z
              clear hh
              go_simp
              refine hK.out _ _ ?_
              refine ⟨fun j => if j = 21 then true else c j, fun j => if j = 21 then .int .i64 100001 else if j = 20 then .pointer (some ⟨B, 2, none⟩) else v j, rfl, rfl, ⟨H.out.f0, H.out.f1, H.out.f2, H.out.f3, H.out.f4, H.out.f5, H.out.f6, H.out.f7, H.out.f8, H.out.f9, H.out.f10, H.out.f11, H.out.f12, H.out.f13, H.out.f14, H.out.f15, H.out.f16, H.out.f17, H.out.f18, H.out.f19, g20, (fun _ => ⟨_, rfl, by omega, by omega⟩), H.out.f22, H.out.fX, H.out.fW⟩⟩
            · have z := blkCell hh 3 _ rfl
              simp only [List.getElem_toArray, List.getElem_cons_zero, List.getElem_cons_succ] at z
              clear hh
              go_simp
              refine hK.out _ _ ?_
              refine ⟨fun j => if j = 21 then true else c j, fun j => if j = 21 then .int .i64 day else if j = 20 then .pointer (some ⟨B, 3, none⟩) else v j, rfl, rfl, ⟨H.out.f0, H.out.f1, H.out.f2, H.out.f3, H.out.f4, H.out.f5, H.out.f6, H.out.f7, H.out.f8, H.out.f9, H.out.f10, H.out.f11, H.out.f12, H.out.f13, H.out.f14, H.out.f15, H.out.f16, H.out.f17, H.out.f18, H.out.f19, g20, (fun _ => ⟨_, rfl, by omega, by omega⟩), H.out.f22, H.out.fX, H.out.fW⟩⟩
          · obtain rfl : _ = o := Option.some.inj ho
            have d2 : c 2 = true := hdep ⟨2, .data⟩ (by simp) rfl
            have d5 : c 5 = true := hdep ⟨5, .data⟩ (by simp) rfl
            have d10 : c 10 = true := hdep ⟨10, .data⟩ (by simp) rfl
            have d15 : c 15 = true := hdep ⟨15, .data⟩ (by simp) rfl
            have d21 : c 21 = true := hdep ⟨21, .data⟩ (by simp) rfl
            have hni : c 22 = false := hn
            clear hdep hn hi ho
            obtain ⟨y0, e2, hy0, hz0⟩ := H.out.f2 d2
            have g2 : JI (-1) 8 (c 2) (.int .i64 y0) := by rw [← e2]; exact H.out.f2
            obtain ⟨y1, e10, hy1, hz1⟩ := H.out.f10 d10
            have g10 : JI (-1) 1000001 (c 10) (.int .i64 y1) := by rw [← e10]; exact H.out.f10
            obtain ⟨y2, e15, hy2, hz2⟩ := H.out.f15 d15
            have g15 : JI (-1) 1000001 (c 15) (.int .i64 y2) := by rw [← e15]; exact H.out.f15
            obtain ⟨y3, e21, hy3, hz3⟩ := H.out.f21 d21
            have g21 : JI (-1) 1000001 (c 21) (.int .i64 y3) := by rw [← e21]; exact H.out.f21
            obtain ⟨ys, e5, hys⟩ := H.out.f5 d5
            have g5 : JS (c 5) (.string ys) := by rw [← e5]; exact H.out.f5
            clear d2 d5 d10 d15 d21 hni
            go_simp
            refine hK.out _ _ ?_
            refine ⟨fun j => if j = 22 then true else c j, fun j => if j = 22 then .agg #[.int .i64 y0, .string ys, .int .i64 y1, .int .i64 y2, .int .i64 y3] else if j = 2 then .int .i64 y0 else if j = 10 then .int .i64 y1 else if j = 15 then .int .i64 y2 else if j = 21 then .int .i64 y3 else if j = 5 then .string ys else v j, rfl, rfl, ⟨H.out.f0, H.out.f1, g2, H.out.f3, H.out.f4, g5, H.out.f6, H.out.f7, H.out.f8, H.out.f9, g10, H.out.f11, H.out.f12, H.out.f13, H.out.f14, g15, H.out.f16, H.out.f17, H.out.f18, H.out.f19, H.out.f20, g21, (fun _ => ⟨y0, ys, y1, y2, y3, rfl, ⟨by dsimp only; omega, by dsimp only; omega⟩, hys, ⟨hy1, hz1⟩, ⟨hy2, hz2⟩, hy3, hz3⟩), H.out.fX, H.out.fW⟩⟩
          · obtain rfl : _ = o := Option.some.inj ho
            have d22 : c 22 = true := hdep ⟨22, .data⟩ (by simp) rfl
            have hni : c 23 = false := hn
            clear hdep hn hi ho
            obtain ⟨y0, ys, y1, y2, y3, e22, hSD⟩ := H.out.f22 d22
            have g22 : JG (c 22) (.agg #[.int .i64 y0, .string ys, .int .i64 y1, .int .i64 y2, .int .i64 y3]) := by rw [← e22]; exact H.out.f22
            obtain ⟨ax, sx, hax, hSo⟩ := H.out.fW
            have HSo : Hid (_ ∧ SkSo w b a len cap (.slice (some ⟨g, 0, none⟩) rs.length cp) rs ax sx wz) := ⟨hax, hSo⟩
            have HSD : Hid (SkD _) := hSD
            have hX := H.out.fX.1 hni
            have z0 := blkCell hX 0 _ rfl
            have q0 := blkFree hX 0
            have z1 := blkCell hX 1 _ rfl
            have q1 := blkFree hX 1
            have z2 := blkCell hX 2 _ rfl
            have q2 := blkFree hX 2
            have z3 := blkCell hX 3 _ rfl
            have q3 := blkFree hX 3
            have z4 := blkCell hX 4 _ rfl
            have q4 := blkFree hX 4
            simp only [List.getElem_toArray, List.getElem_cons_zero, List.getElem_cons_succ] at z0 z1 z2 z3 z4
            have X10 : Hid ((((((wz.setCell ⟨A, 0, none⟩ (.int .i64 y0)).setCell ⟨A, 1, none⟩ (.string ys)).setCell ⟨A, 2, none⟩ (.int .i64 y1)).setCell ⟨A, 3, none⟩ (.int .i64 y2)).setCell ⟨A, 4, none⟩ (.int .i64 y3)).heap[A]? = some (.cells #[.int .i64 y0, .string ys, .int .i64 y1, .int .i64 y2, .int .i64 y3] 34 (0, 0))) := act_set hX _ _ _ _ _
            have H10 : Hid (SkSo w b a len cap (.slice (some ⟨g, 0, none⟩) rs.length cp) rs ax sx (((((wz.setCell ⟨A, 0, none⟩ (.int .i64 y0)).setCell ⟨A, 1, none⟩ (.string ys)).setCell ⟨A, 2, none⟩ (.int .i64 y1)).setCell ⟨A, 3, none⟩ (.int .i64 y2)).setCell ⟨A, 4, none⟩ (.int .i64 y3))) := ((((HSo.out.2.setA hbA hgA _ _).setA hbA hgA _ _).setA hbA hgA _ _).setA hbA hgA _ _).setA hbA hgA _ _
            clear hX hSo hSD hax d22 hni
            go_simp
            refine hK.out _ _ ?_
            refine ⟨fun j => if j = 23 then true else c j, fun j => if j = 22 then .agg #[.int .i64 y0, .string ys, .int .i64 y1, .int .i64 y2, .int .i64 y3] else v j, rfl, rfl, ⟨H.out.f0, H.out.f1, H.out.f2, H.out.f3, H.out.f4.monoA (far5 _ _ _ _ _ _ _), H.out.f5, H.out.f6.monoA (far5 _ _ _ _ _ _ _), H.out.f7, H.out.f8, H.out.f9.monoA (far5 _ _ _ _ _ _ _), H.out.f10, H.out.f11.monoA (far5 _ _ _ _ _ _ _), H.out.f12, H.out.f13, H.out.f14.monoA (far5 _ _ _ _ _ _ _), H.out.f15, H.out.f16, H.out.f17.monoA (far5 _ _ _ _ _ _ _), H.out.f18, H.out.f19, H.out.f20.monoA (far5 _ _ _ _ _ _ _), H.out.f21, g22, ⟨(fun h => by cases h), fun _ => ⟨y0, ys, y1, y2, y3, X10.out, HSD.out⟩⟩, ax, sx, HSo.out.1, H10.out⟩⟩
      · go_upto_region 22 with fail
        have y0 := blkCell X9.out 0 _ rfl
        have y1 := blkCell X9.out 1 _ rfl
        have y2 := blkCell X9.out 2 _ rfl
        have y3 := blkCell X9.out 3 _ rfl
        have y4 := blkCell X9.out 4 _ rfl
        simp only [List.getElem_toArray, List.getElem_cons_zero, List.getElem_cons_succ] at y0 y1 y2 y3 y4
        have HA : Hid (SkSo w b a len cap (.slice (some ⟨g, 0, none⟩) rs.length cp) rs a9 s9 (w9.alloc (Obj.cells #[.int .i64 1, .string ar, .int .i64 (1 + x5), .int .i64 (1 + x6), .int .i64 (day + x7)] 34))) := H9.out.alloc _
        have HN : Hid ((w9.alloc (Obj.cells #[.int .i64 1, .string ar, .int .i64 (1 + x5), .int .i64 (1 + x6), .int .i64 (day + x7)] 34)).heap[w9.heap.size]? = some (.cells #[.int .i64 1, .string ar, .int .i64 (1 + x5), .int .i64 (1 + x6), .int .i64 (day + x7)] 34 (0, 0))) := heapNew _ _
        have hzz := HA.out.2.1
        clear H9
        go_wp2_with (at_builtin; refine wpList_append_lies _ rfl _ _ 23 rfl (b + 1) 34 i0 (.agg #[.int .i64 0, .string ⟨#[]⟩, .int .i64 0, .int .i64 0, .int .i64 0]) 5 48 Try.underlying23 hi hi0 hi1 hi2 rfl (by decide) _ _ _ rfl HA.out.1 ⟨w9.heap.size, 0, none⟩ 1 1 [.int .i64 1, .string ar, .int .i64 (1 + x5), .int .i64 (1 + x6), .int .i64 (day + x7)] rfl rfl (World.news_of_block HN.out) (by simp [Value.oneCell']) (by omega) (by unfold maxLen; omega) (by omega) hzz _ rfl ?_; intro g1 cp1 wz hown1 hgrow1 hat1 hglt1; have HF : Hid (SkSo w b a len cap (.slice (some ⟨g1, 0, none⟩) (rs.length + 1) cp1) (rs ++ [⟨1, ar, (1 + x5), (1 + x6), (day + x7)⟩]) a9 s9 wz) := HA.out.push (r := ⟨1, ar, (1 + x5), (1 + x6), (day + x7)⟩) hown1 hgrow1; clear hown1 hgrow1 hat1 hglt1)
        refine ⟨⟨rs ++ [⟨1, ar, (1 + x5), (1 + x6), (day + x7)⟩], k - 1, g1, cp1, a9, s9, day, by rw [List.length_append]; simp; omega, by simp, by go_num, rfl, fun r hr => ?_, by omega, by rw [List.length_append]; push_cast; simp; omega, by rw [List.length_append]; push_cast; simp; omega, HF.out⟩, by simp [intOf]; omega⟩
        rcases List.mem_append.1 hr with q | q
        · exact HD.out r q
        · rw [List.mem_singleton.1 q]; exact ⟨⟨by dsimp only; omega, by dsimp only; omega⟩, by first | exact har | (show (0 : Nat) ≤ 4; omega) | simp, ⟨by dsimp only; omega, by dsimp only; omega⟩, ⟨by dsimp only; omega, by dsimp only; omega⟩, by dsimp only; omega, by dsimp only; omega⟩
      · go_upto_region 22 with fail
        have y0 := blkCell X9.out 0 _ rfl
        have y1 := blkCell X9.out 1 _ rfl
        have y2 := blkCell X9.out 2 _ rfl
        have y3 := blkCell X9.out 3 _ rfl
        have y4 := blkCell X9.out 4 _ rfl
        simp only [List.getElem_toArray, List.getElem_cons_zero, List.getElem_cons_succ] at y0 y1 y2 y3 y4
        have HA : Hid (SkSo w b a len cap (.slice (some ⟨g, 0, none⟩) rs.length cp) rs a9 s9 (w9.alloc (Obj.cells #[.int .i64 1, .string ar, .int .i64 (1 + x5), .int .i64 (1 + x6), .int .i64 (day + x7)] 34))) := H9.out.alloc _
        have HN : Hid ((w9.alloc (Obj.cells #[.int .i64 1, .string ar, .int .i64 (1 + x5), .int .i64 (1 + x6), .int .i64 (day + x7)] 34)).heap[w9.heap.size]? = some (.cells #[.int .i64 1, .string ar, .int .i64 (1 + x5), .int .i64 (1 + x6), .int .i64 (day + x7)] 34 (0, 0))) := heapNew _ _
        have hzz := HA.out.2.1
        clear H9
        go_wp2_with (at_builtin; refine wpList_append_lies _ rfl _ _ 23 rfl (b + 1) 34 i0 (.agg #[.int .i64 0, .string ⟨#[]⟩, .int .i64 0, .int .i64 0, .int .i64 0]) 5 48 Try.underlying23 hi hi0 hi1 hi2 rfl (by decide) _ _ _ rfl HA.out.1 ⟨w9.heap.size, 0, none⟩ 1 1 [.int .i64 1, .string ar, .int .i64 (1 + x5), .int .i64 (1 + x6), .int .i64 (day + x7)] rfl rfl (World.news_of_block HN.out) (by simp [Value.oneCell']) (by omega) (by unfold maxLen; omega) (by omega) hzz _ rfl ?_; intro g1 cp1 wz hown1 hgrow1 hat1 hglt1; have HF : Hid (SkSo w b a len cap (.slice (some ⟨g1, 0, none⟩) (rs.length + 1) cp1) (rs ++ [⟨1, ar, (1 + x5), (1 + x6), (day + x7)⟩]) a9 s9 wz) := HA.out.push (r := ⟨1, ar, (1 + x5), (1 + x6), (day + x7)⟩) hown1 hgrow1; clear hown1 hgrow1 hat1 hglt1)
        refine ⟨⟨rs ++ [⟨1, ar, (1 + x5), (1 + x6), (day + x7)⟩], k - 1, g1, cp1, a9, s9, day, by rw [List.length_append]; simp; omega, by simp, by go_num, rfl, fun r hr => ?_, by omega, by rw [List.length_append]; push_cast; simp; omega, by rw [List.length_append]; push_cast; simp; omega, HF.out⟩, by simp [intOf]; omega⟩
        rcases List.mem_append.1 hr with q | q
        · exact HD.out r q
        · rw [List.mem_singleton.1 q]; exact ⟨⟨by dsimp only; omega, by dsimp only; omega⟩, by first | exact har | (show (0 : Nat) ≤ 4; omega) | simp, ⟨by dsimp only; omega, by dsimp only; omega⟩, ⟨by dsimp only; omega, by dsimp only; omega⟩, by dsimp only; omega, by dsimp only; omega⟩
      · go_upto_region 22 with fail
        have y0 := blkCell X9.out 0 _ rfl
        have y1 := blkCell X9.out 1 _ rfl
        have y2 := blkCell X9.out 2 _ rfl
        have y3 := blkCell X9.out 3 _ rfl
        have y4 := blkCell X9.out 4 _ rfl
        simp only [List.getElem_toArray, List.getElem_cons_zero, List.getElem_cons_succ] at y0 y1 y2 y3 y4
        have HA : Hid (SkSo w b a len cap (.slice (some ⟨g, 0, none⟩) rs.length cp) rs a9 s9 (w9.alloc (Obj.cells #[.int .i64 1, .string ar, .int .i64 (1 + x5), .int .i64 (1 + x6), .int .i64 (day + x7)] 34))) := H9.out.alloc _
        have HN : Hid ((w9.alloc (Obj.cells #[.int .i64 1, .string ar, .int .i64 (1 + x5), .int .i64 (1 + x6), .int .i64 (day + x7)] 34)).heap[w9.heap.size]? = some (.cells #[.int .i64 1, .string ar, .int .i64 (1 + x5), .int .i64 (1 + x6), .int .i64 (day + x7)] 34 (0, 0))) := heapNew _ _
        have hzz := HA.out.2.1
        clear H9
        go_wp2_with (at_builtin; refine wpList_append_lies _ rfl _ _ 23 rfl (b + 1) 34 i0 (.agg #[.int .i64 0, .string ⟨#[]⟩, .int .i64 0, .int .i64 0, .int .i64 0]) 5 48 Try.underlying23 hi hi0 hi1 hi2 rfl (by decide) _ _ _ rfl HA.out.1 ⟨w9.heap.size, 0, none⟩ 1 1 [.int .i64 1, .string ar, .int .i64 (1 + x5), .int .i64 (1 + x6), .int .i64 (day + x7)] rfl rfl (World.news_of_block HN.out) (by simp [Value.oneCell']) (by omega) (by unfold maxLen; omega) (by omega) hzz _ rfl ?_; intro g1 cp1 wz hown1 hgrow1 hat1 hglt1; have HF : Hid (SkSo w b a len cap (.slice (some ⟨g1, 0, none⟩) (rs.length + 1) cp1) (rs ++ [⟨1, ar, (1 + x5), (1 + x6), (day + x7)⟩]) a9 s9 wz) := HA.out.push (r := ⟨1, ar, (1 + x5), (1 + x6), (day + x7)⟩) hown1 hgrow1; clear hown1 hgrow1 hat1 hglt1)
        refine ⟨⟨rs ++ [⟨1, ar, (1 + x5), (1 + x6), (day + x7)⟩], k - 1, g1, cp1, a9, s9, day, by rw [List.length_append]; simp; omega, by simp, by go_num, rfl, fun r hr => ?_, by omega, by rw [List.length_append]; push_cast; simp; omega, by rw [List.length_append]; push_cast; simp; omega, HF.out⟩, by simp [intOf]; omega⟩
        rcases List.mem_append.1 hr with q | q
        · exact HD.out r q
        · rw [List.mem_singleton.1 q]; exact ⟨⟨by dsimp only; omega, by dsimp only; omega⟩, by first | exact har | (show (0 : Nat) ≤ 4; omega) | simp, ⟨by dsimp only; omega, by dsimp only; omega⟩, ⟨by dsimp only; omega, by dsimp only; omega⟩, by dsimp only; omega, by dsimp only; omega⟩
    · obtain rfl : k = 0 := by omega
      go_wp2
      go_ret
      exact ⟨rs, g, cp, at', sd, rfl, by omega, HD.out, HS.out⟩
end Go.Proofs.Ytlfcaijhlgldnaa

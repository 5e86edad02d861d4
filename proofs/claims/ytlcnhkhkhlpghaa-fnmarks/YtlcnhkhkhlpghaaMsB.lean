/-
  The specification's drawn demand: as many rows of numbers as days, each with a number from 0 to 200 for each percent.
-/
import Derived.Test.YtlcnhkhkhlpghaaMsA
import Derived.Test.YtlcnhkhkhlpghaaAppAny
namespace Go.Proofs.Ytlcnhkhkhlpghaa
open Go.ChangeShapes Go.WideShapes Go.ChangeAt Go.RowKit Go.Deep
set_option linter.unusedVariables false

/-- A row that was drawn: its block, its capacity, its numbers. -/
abbrev RwE := Nat × Nat × List Int
def rwV (r : RwE) : Value := .slice (some ⟨r.1, 0, none⟩) r.2.2.length r.2.1
/-- The rows drawn so far, in a row of slices of its own behind V's heap, each in a block of its own. -/
structure DeSt (b : Nat) (a : Option Addr) (len cap : Nat) (V : World) (v : Value) (R : List RwE) (at' sd : Int) (wr : World) : Prop where
  ap : Apart b V wr
  low : Below b V wr
  src : Src wr b a len cap at' sd
  row : wr.ownsRow V.heap.size 23 1 v R.length (R.map rwV)
  bv : b < V.heap.size
  ins : ∀ r ∈ R, (V.heap.size ≤ r.1 ∧ r.1 < wr.heap.size) ∧ r.2.2.length ≤ r.2.1 ∧ IntsAt wr r.1 0 r.2.2 ∧ ∀ q, v.ownBlock = some q → q ≠ r.1
theorem DeSt.start {b : Nat} {a : Option Addr} {len cap : Nat} {V : World} {at' sd : Int} (hs : Src V b a len cap at' sd) : DeSt b a len cap V (.slice (some ⟨V.heap.size, 0, none⟩) 0 0) [] at' sd (V.alloc (Obj.cells #[] 23)) :=
  ⟨apart_alloc b V _, (Below.refl _ _).alloc (by have := src_ltW hs; omega) _, hs.allocT _, ⟨rfl, .inr ⟨V.heap.size, 0, #[], rfl, Nat.le_refl _, heapNew V _, Nat.le_refl _, by unfold maxLen; omega, rfl, rfl⟩⟩, src_ltW hs, fun r hr => by cases hr⟩
theorem intsAt_of {w w' : World} {g off : Nat} {L : List Int} (h : IntsAt w g off L) (e : w'.heap[g]? = w.heap[g]?) : IntsAt w' g off L := fun i hi => (World.cell?_of_block (w := w) (a := ⟨g, off + i, none⟩) e).trans (h i hi)
theorem DeSt.step {b : Nat} {a : Option Addr} {len cap : Nat} {V : World} {v : Value} {R : List RwE} {at' sd at2 sd2 : Int} {wr w' : World} (h : DeSt b a len cap V v R at' sd wr) (ha : Apart b wr w') (hb : Below b wr w') (hs : Src w' b a len cap at2 sd2) : DeSt b a len cap V v R at2 sd2 w' := by
  have hbv := h.bv
  refine ⟨h.ap.trans ha, h.low.trans hb, hs, ownsRow_sameW h.row (fun k hk => ha.2 k (by have := (h.row.lt k hk).1; omega) (h.row.lt k hk).2), h.bv, fun r hr => ?_⟩
  obtain ⟨⟨k1, k2⟩, k3, k4, k5⟩ := h.ins r hr
  exact ⟨⟨k1, Nat.lt_of_lt_of_le k2 ha.1⟩, k3, intsAt_of k4 (ha.2 r.1 (by omega) k2), k5⟩
theorem DeSt.later {b : Nat} {a : Option Addr} {len cap : Nat} {V : World} {v : Value} {R : List RwE} {at' sd : Int} {wr w' : World} (h : DeSt b a len cap V v R at' sd wr) (hb : Below wr.heap.size wr w') : DeSt b a len cap V v R at' sd w' :=
  h.step (later_apart hb) (hb.mono (by have := src_ltW h.src; omega)) (src_sameW h.src (hb.block b (src_ltW h.src)) hb.size)
/-- A row drawn behind the others, whose state is that of numbers in a row of their own. -/
theorem DeSt.over {b : Nat} {a : Option Addr} {len cap : Nat} {V : World} {v : Value} {R : List RwE} {at' sd at2 sd2 : Int} {wr w' : World} {v2 : Value} {L : List Int} (h : DeSt b a len cap V v R at' sd wr) (k : FoSt b a len cap wr v2 L at2 sd2 w') : DeSt b a len cap V v R at2 sd2 w' := h.step k.ap k.low k.src
theorem DeSt.push {b : Nat} {a : Option Addr} {len cap : Nat} {V : World} {v : Value} {R : List RwE} {at' sd : Int} {wr w' : World} (h : DeSt b a len cap V v R at' sd wr) {r : RwE} (hr : (V.heap.size ≤ r.1 ∧ r.1 < wr.heap.size) ∧ r.2.2.length ≤ r.2.1 ∧ IntsAt wr r.1 0 r.2.2 ∧ ∀ q, v.ownBlock = some q → q ≠ r.1) {g c : Nat}
    (ho : w'.ownsRow V.heap.size 23 1 (.slice (some ⟨g, 0, none⟩) (R.length + 1) c) (R.length + 1) (R.map rwV ++ [rwV r])) (hg : wr.grownBy w' v.ownBlock) (hat : v.ownBlock = some g ∨ g = wr.heap.size) : DeSt b a len cap V (.slice (some ⟨g, 0, none⟩) (R.length + 1) c) (R ++ [r]) at' sd w' := by
  have hbv := h.bv
  have hk : ∀ k, k < V.heap.size → w'.heap[k]? = wr.heap[k]? := fun k h1 => hg.block k (by have := h.ap.1; omega) (fun e => by have := (h.row.lt k e.symm).1; omega)
  have keep : ∀ x : RwE, ((V.heap.size ≤ x.1 ∧ x.1 < wr.heap.size) ∧ x.2.2.length ≤ x.2.1 ∧ IntsAt wr x.1 0 x.2.2 ∧ ∀ q, v.ownBlock = some q → q ≠ x.1) → ((V.heap.size ≤ x.1 ∧ x.1 < w'.heap.size) ∧ x.2.2.length ≤ x.2.1 ∧ IntsAt w' x.1 0 x.2.2 ∧ ∀ q, Value.ownBlock (.slice (some ⟨g, 0, none⟩) (R.length + 1) c) = some q → q ≠ x.1) := fun x ⟨⟨k1, k2⟩, k3, k4, k5⟩ => by
    refine ⟨⟨k1, Nat.lt_of_lt_of_le k2 hg.size⟩, k3, intsAt_of k4 (hg.block x.1 k2 (fun e => k5 x.1 e.symm rfl)), fun q hq => ?_⟩
    have e : g = q := by simpa [Value.ownBlock] using hq
    subst e
    rcases hat with h1 | h1
    · exact k5 g h1
    · omega
  refine ⟨⟨Nat.le_trans h.ap.1 hg.size, fun k h1 h2 => (hk k h2).trans (h.ap.2 k h1 h2)⟩, h.low.grown hg (by have := h.ap.1; omega) (fun k e => by have := (h.row.lt k e).1; omega), src_sameW h.src (hk b hbv) hg.size, by rw [List.length_append, List.map_append]; exact ho, hbv, fun x hx => ?_⟩
  rcases List.mem_append.mp hx with hx | hx
  · exact keep x (h.ins x hx)
  · simp at hx; subst hx; exact keep _ hr
theorem DeSt.reads {b : Nat} {a : Option Addr} {len cap : Nat} {V : World} {g n c : Nat} {R : List RwE} {at' sd : Int} {wr : World} (h : DeSt b a len cap V (.slice (some ⟨g, 0, none⟩) n c) R at' sd wr) (hn : n = R.length) : ReadsDm wr.heap.size wr (some ⟨g, 0, none⟩) (R.map (fun r => r.2.2)) := by
  subst hn
  refine .inr ⟨g, 0, rfl, (h.row.lt g rfl).2, fun i hi => ?_⟩
  have hi' : i < R.length := by simpa using hi
  have e : (R.map (fun r => r.2.2)).getD i [] = R[i].2.2 := by simp [List.getD_eq_getElem?_getD, hi']
  obtain ⟨⟨k1, k2⟩, k3, k4, _⟩ := h.ins R[i] (List.getElem_mem _)
  rw [e]
  refine ⟨some ⟨R[i].1, 0, none⟩, R[i].2.1, ?_, k3, .inr ⟨R[i].1, 0, rfl, k2, k4⟩⟩
  rw [Nat.zero_add, h.row.cellAt i (by omega)]
  simp [hi', rwV]
def DaG (n : Nat) (L : List Int) : Prop := L.length ≤ n ∧ ∀ x ∈ L, 0 ≤ x ∧ x ≤ 200
def DePost (a : Option Addr) (len cap : Nat) (b n : Nat) (at0 : Int) (w : World) (e : Ending) (w' : World) : Prop := ∃ (R : List RwE) (g cp : Nat) (at' sd : Int), e = .returned (.slice (some ⟨g, 0, none⟩) R.length cp) ∧ (1 ≤ R.length ∧ R.length ≤ 6) ∧ (∀ r ∈ R, r.2.2.length = n ∧ ∀ x ∈ r.2.2, 0 ≤ x ∧ x ≤ 200) ∧ at' ≤ at0 + 100 ∧ DeSt b a len cap w (.slice (some ⟨g, 0, none⟩) R.length cp) R at' sd w'
theorem dmInfo' : (Try.prog.info? 23).map (fun i => (i.zero, i.size, i.bytes)) = some (some (.slice none 0 0), 1, 24) := by kernel_rfl
set_option maxHeartbeats 8000000 in
theorem demand_any (b : Nat) (a : Option Addr) (len cap : Nat) (zs : List Int) (n : Nat) (hn : n ≤ 4) (at0 seed : Int) (w : World) (hs : Src w b a len cap at0 seed) (hr : RowB b w a len zs) (h0 : at0 ≤ 1000) :
    Calls Try.prog 27 #[.pointer (some ⟨b, 0, none⟩), .int .i64 (n : Int)] w (DePost a len cap b n at0 w) := by
  have HR : Hid (RowB b w a len zs) := hr
  have hlen := hr.1
  have HNx : Hid (∀ (n at' sd : Int) (W : World), n ≤ 256 → at' ≤ 999999999000 → Src W b a len cap at' sd → Below b w W → Calls Try.prog 29 #[.pointer (some ⟨b, 0, none⟩), .int .i64 n] W fun e w' => ∃ x at2 s' : Int, e = .returned (.int .i64 x) ∧ Drawn x n ∧ at' ≤ at2 ∧ at2 ≤ at' + 3 ∧ Src w' b a len cap at2 s' ∧ Below b W w' ∧ Apt b W w') := fun n at' sd W hn ha hS hB => next_anyA b b a len cap zs n at' sd W (Nat.le_refl _) hS (HR.out.below hB) ha hn
  have HT0 : Hid (DeSt b a len cap w (.slice (some ⟨w.heap.size, 0, none⟩) 0 0) [] at0 seed (w.alloc (Obj.cells #[] 23))) := DeSt.start hs
  have HSz : Hid (Calls Try.prog 49 #[.pointer (some ⟨b, 0, none⟩), .int .i64 5] (w.alloc (Obj.cells #[] 23)) fun e w' => (∃ x : Int, e = .returned (.int .i64 x) ∧ 1 ≤ x ∧ x ≤ 5) ∧ w' = w.alloc (Obj.cells #[] 23)) := size_src b a len cap 5 at0 seed _ HT0.out.src hlen (by omega) (by omega)
  obtain ⟨i0, hi, hzz⟩ := Option.map_eq_some_iff.1 intInfo
  simp only [Prod.mk.injEq] at hzz
  obtain ⟨hi0, hi1, hi2⟩ := hzz
  obtain ⟨j0, hj, hyy⟩ := Option.map_eq_some_iff.1 dmInfo'
  simp only [Prod.mk.injEq] at hyy
  obtain ⟨hj0, hj1, hj2⟩ := hyy
  clear hs hr hlen
  obtain ⟨G, hG⟩ : ∃ G, G = w.heap.size := ⟨_, rfl⟩
  obtain ⟨W0, hW0⟩ : ∃ W0, W0 = w.alloc (Obj.cells #[] 23) := ⟨_, rfl⟩
  have HW0 : Hid (W0 = w.alloc (Obj.cells #[] 23) ∧ G = w.heap.size) := ⟨hW0, hG⟩
  rw [← hW0] at HSz
  rw [← hW0, ← hG] at HT0
  clear hW0
  go_enter Try.func27, Try.ntmps27
  go_upto_region 2 with fail
  rw [← HW0.out.1, ← HW0.out.2]
  clear HW0 hG
  go_wp2_with fail
  (first | go_at_call 49 | skip)
  refine HSz.out.mono ?_
  rintro e w1 ⟨⟨sz, rfl, hz1, hz2⟩, h1⟩
  rw [h1]
  clear h1 HSz
  have hwz : IntKind.i64.wrap (sz + 1) = sz + 1 := wrap_id _ (by omega) (by omega)
  go_wp2_with fail
  (first | go_at_call 29 | skip)
  refine (HNx.out (sz + 1) at0 seed W0 (by omega) (by omega) HT0.out.src HT0.out.low).mono ?_
  rintro e w2 ⟨y, at2, s2, rfl, hy, q3, q4, hs2, hb2, ha2⟩
  have HT2 : Hid (DeSt b a len cap w (.slice (some ⟨G, 0, none⟩) 0 0) [] at2 s2 w2) := HT0.out.step (ha2.apart hb2) hb2 hs2
  have hy2 : 0 ≤ y ∧ y ≤ 5 := by obtain ⟨u1, u2⟩ := hy; omega
  clear hs2 hb2 ha2 HT0 hy hwz hz1 hz2
  go_wp2_with fail
  go_loopw [5, 6, 7, 8] (fun v dv _ _ wr => ∃ (R : List RwE) (g cp : Nat) (d at' sd : Int), v = .slice (some ⟨g, 0, none⟩) R.length cp ∧ dv = .int .i64 d ∧ d = y - (R.length : Int) ∧ (R.length : Int) ≤ y + 1 ∧ (∀ r ∈ R, r.2.2.length = n ∧ ∀ x ∈ r.2.2, 0 ≤ x ∧ x ≤ 200) ∧ at' ≤ at0 + 3 + 12 * (R.length : Int) ∧ DeSt b a len cap w (.slice (some ⟨g, 0, none⟩) R.length cp) R at' sd wr) (fun _ dv _ _ _ => (intOf dv + 1).toNat)
  case atStart => exact ⟨[], G, 0, y, at2, s2, rfl, rfl, by simp, by simp; omega, (fun r hr => by cases hr), by simp; omega, HT2.out⟩
  case round =>
    clear HT2
    obtain ⟨R, g, cp, d, at', sd, rfl, rfl, hde, hRy, hall, hat, hT⟩ := hrel
    obtain ⟨v, hv⟩ : ∃ v, v = wr := ⟨_, rfl⟩
    rw [← hv] at hT ⊢
    have HT : Hid (DeSt b a len cap w (.slice (some ⟨g, 0, none⟩) R.length cp) R at' sd v) := hT
    have HAll : Hid (∀ r ∈ R, r.2.2.length = n ∧ ∀ x ∈ r.2.2, 0 ≤ x ∧ x ≤ 200) := hall
    have HDe : Hid (d = y - (R.length : Int)) := hde
    clear hT hall hde hv
    by_cases hc : 0 ≤ d
    · have hRs : R.length ≤ 5 := by have := HDe.out; omega
      have HF0 : Hid (FoSt b a len cap v (.slice (some ⟨v.heap.size, 0, none⟩) 0 0) [] at' sd (v.alloc (Obj.cells #[] 3))) := FoSt.start HT.out.src
      obtain ⟨H, hH⟩ : ∃ H, H = v.heap.size := ⟨_, rfl⟩
      obtain ⟨v1, hv1⟩ : ∃ v1, v1 = v.alloc (Obj.cells #[] 3) := ⟨_, rfl⟩
      have HV1 : Hid (v1 = v.alloc (Obj.cells #[] 3) ∧ H = v.heap.size) := ⟨hv1, hH⟩
      rw [← hv1, ← hH] at HF0
      clear hv1
      go_upto_region 6 with fail
      rw [← HV1.out.1, ← HV1.out.2]
      clear HV1 hH
      go_wp2_with fail
      go_loopw [7, 8] (fun rv c wq => ∃ (L : List Int) (g2 c2 : Nat) (at3 sd3 : Int), rv = .slice (some ⟨g2, 0, none⟩) L.length c2 ∧ c = .int .i64 (L.length : Int) ∧ L.length ≤ n ∧ (∀ x ∈ L, 0 ≤ x ∧ x ≤ 200) ∧ at3 ≤ at' + 3 * (L.length : Int) ∧ FoSt b a len cap v (.slice (some ⟨g2, 0, none⟩) L.length c2) L at3 sd3 wq) (fun _ c _ => n - (intOf c).toNat)
      case atStart => exact ⟨[], H, 0, at', sd, rfl, rfl, Nat.zero_le _, (fun x hx => by cases hx), by simp, HF0.out⟩
      case round =>
        clear HF0
        obtain ⟨L, g2, c2, at3, sd3, rfl, rfl, hLn, hLx, hat3, hF⟩ := hrel
        obtain ⟨u, hu⟩ : ∃ u, u = wr := ⟨_, rfl⟩
        rw [← hu] at hF ⊢
        have HF : Hid (FoSt b a len cap v (.slice (some ⟨g2, 0, none⟩) L.length c2) L at3 sd3 u) := hF
        have HLx : Hid (∀ x ∈ L, 0 ≤ x ∧ x ≤ 200) := hLx
        clear hF hLx hu
        by_cases hlt : L.length < n
        · have hlt' : (L.length : Int) < (n : Int) := by omega
          go_wp2_with fail
          (first | go_at_call 29 | skip)
          refine (HNx.out 8 at3 sd3 u (by omega) (by omega) HF.out.src (HT.out.low.trans HF.out.low)).mono ?_
          rintro e w5 ⟨x, at5, s5, rfl, hx, q5, q6, hs5, hb5, ha5⟩
          have HF5 : Hid (FoSt b a len cap v (.slice (some ⟨g2, 0, none⟩) L.length c2) L at5 s5 w5) := HF.out.step (ha5.apart hb5) hb5 hs5
          have hx2 : 0 ≤ x ∧ x < 8 := by obtain ⟨u1, u2⟩ := hx; omega
          clear hs5 hb5 ha5 HF hx
          have hw1 : IntKind.i64.wrap (3 * (L.length : Int)) = 3 * (L.length : Int) := wrap_id _ (by omega) (by omega)
          have hw2 : IntKind.i64.wrap (x + 3 * (L.length : Int)) = x + 3 * (L.length : Int) := wrap_id _ (by omega) (by omega)
          have HF6 : Hid (FoSt b a len cap v (.slice (some ⟨g2, 0, none⟩) L.length c2) L at5 s5 (w5.alloc (Obj.cells #[.int .i64 (x + 3 * (L.length : Int))] 3))) := HF5.out.later (below_alloc _ _)
          have HNw : Hid (∀ j u, [Value.int .i64 (x + 3 * (L.length : Int))][j]? = some u → (w5.alloc (Obj.cells #[.int .i64 (x + 3 * (L.length : Int))] 3)).cell? ((⟨w5.heap.size, 0, none⟩ : Addr).add j) = some u) := World.news_of_block (heapNew w5 (Obj.cells #[.int .i64 (x + 3 * (L.length : Int))] 3))
          have HZb : Hid (v.heap.size ≤ (w5.alloc (Obj.cells #[.int .i64 (x + 3 * (L.length : Int))] 3)).heap.size) := HF6.out.ap.1
          go_upto_region 8 with (at_builtin; refine wpList_append_lies _ rfl _ _ 23 rfl v.heap.size 3 i0 (.int .i64 0) 1 8 Try.underlying23 hi hi0 hi1 hi2 rfl (by decide) _ _ _ rfl HF6.out.row ⟨w5.heap.size, 0, none⟩ 1 1 [.int .i64 (x + 3 * (L.length : Int))] rfl rfl HNw.out (by intro u hu; simp at hu; rcases hu with rfl; rfl) (by omega) (by unfold maxLen; omega) (by omega) HZb.out _ rfl ?_; intro g1 cp1 w7 hown1 hgrow1 hat1 hglt1; have HF7 : Hid (FoSt b a len cap v (.slice (some ⟨g1, 0, none⟩) (L.length + 1) cp1) (L ++ [x + 3 * (L.length : Int)]) at5 s5 w7) := HF6.out.push hown1 hgrow1; clear hown1 hgrow1 hat1)
          clear HF6 HNw HZb HF5
          have HLen : Hid ((L ++ [x + 3 * (L.length : Int)]).length = L.length + 1) := by show _ = _; simp
          have HLx2 : Hid (∀ z ∈ L ++ [x + 3 * (L.length : Int)], 0 ≤ z ∧ z ≤ 200) := fun z hz => by
            rcases List.mem_append.mp hz with hz | hz
            · exact HLx.out z hz
            · simp at hz; subst hz; omega
          go_wp2_with fail
          go_roundw
          case rel => exact ⟨L ++ [x + 3 * (L.length : Int)], g1, cp1, at5, s5, by rw [HLen.out], by rw [HLen.out]; go_num, by rw [HLen.out]; omega, HLx2.out, by rw [HLen.out]; omega, by rw [HLen.out]; exact HF7.out⟩
          case measure => simp [intOf]; omega
        · have hLe : L.length = n := by omega
          have HLe : Hid (L.length = n) := hLe
          have hge : ¬ (L.length : Int) < (n : Int) := by omega
          have HT2 : Hid (DeSt b a len cap w (.slice (some ⟨g, 0, none⟩) R.length cp) R at3 sd3 u) := HT.out.over HF.out
          have HT3 : Hid (DeSt b a len cap w (.slice (some ⟨g, 0, none⟩) R.length cp) R at3 sd3 (u.alloc (Obj.cells #[.slice (some ⟨g2, 0, none⟩) L.length c2] 23))) := HT2.out.later (below_alloc _ _)
          have HRr : Hid ((w.heap.size ≤ g2 ∧ g2 < (u.alloc (Obj.cells #[.slice (some ⟨g2, 0, none⟩) L.length c2] 23)).heap.size) ∧ L.length ≤ c2 ∧ IntsAt (u.alloc (Obj.cells #[.slice (some ⟨g2, 0, none⟩) L.length c2] 23)) g2 0 L ∧ ∀ q, Value.ownBlock (.slice (some ⟨g, 0, none⟩) R.length cp) = some q → q ≠ g2) := by
            have h1 := HF.out.row.lt g2 rfl
            have h2 := HT.out.ap.1
            have h3 := (HF.out.later (below_alloc u (Obj.cells #[.slice (some ⟨g2, 0, none⟩) L.length c2] 23))).row
            refine ⟨⟨by omega, by simp; omega⟩, row_cap HF.out.row, fun i hi => ?_, fun q hq => ?_⟩
            · rw [Nat.zero_add, h3.cellAt i (by omega)]; simp [List.getD_eq_getElem?_getD, hi]
            · have := (HT.out.row.lt q hq).2
              omega
          have HNw : Hid (∀ j x, [Value.slice (some ⟨g2, 0, none⟩) L.length c2][j]? = some x → (u.alloc (Obj.cells #[.slice (some ⟨g2, 0, none⟩) L.length c2] 23)).cell? ((⟨u.heap.size, 0, none⟩ : Addr).add j) = some x) := World.news_of_block (heapNew u (Obj.cells #[.slice (some ⟨g2, 0, none⟩) L.length c2] 23))
          have HZb : Hid (w.heap.size ≤ (u.alloc (Obj.cells #[.slice (some ⟨g2, 0, none⟩) L.length c2] 23)).heap.size) := HT3.out.ap.1
          clear hLe
          go_upto_region 4 with (at_builtin; refine wpList_append_lies _ rfl _ _ 24 rfl w.heap.size 23 j0 (.slice none 0 0) 1 24 Try.underlying24 hj hj0 hj1 hj2 rfl (by decide) _ _ _ rfl HT3.out.row ⟨u.heap.size, 0, none⟩ 1 1 [.slice (some ⟨g2, 0, none⟩) L.length c2] rfl rfl HNw.out (by intro u hu; simp at hu; rcases hu with rfl; rfl) (by omega) (by unfold maxLen; omega) (by omega) HZb.out _ rfl ?_; intro g1 cp1 w7 hown1 hgrow1 hat1 hglt1; have HT7 : Hid (DeSt b a len cap w (.slice (some ⟨g1, 0, none⟩) (R.length + 1) cp1) (R ++ [(g2, c2, L)]) at3 sd3 w7) := HT3.out.push (r := (g2, c2, L)) HRr.out hown1 hgrow1 hat1; clear hown1 hgrow1 hat1)
          clear HT3 HNw HZb HT2 HRr
          have HLen : Hid ((R ++ [(g2, c2, L)]).length = R.length + 1) := by show _ = _; simp
          have HAl2 : Hid (∀ r ∈ R ++ [(g2, c2, L)], r.2.2.length = n ∧ ∀ x ∈ r.2.2, 0 ≤ x ∧ x ≤ 200) := fun r hr => by
            rcases List.mem_append.mp hr with hr | hr
            · exact HAll.out r hr
            · simp at hr; subst hr; exact ⟨HLe.out, HLx.out⟩
          have hd5 : d ≤ 5 := by have := HDe.out; omega
          have hwd : IntKind.i64.wrap (d - 1) = d - 1 := wrap_id _ (by omega) (by omega)
          go_wp2_with fail
          go_roundw
          case rel => exact ⟨R ++ [(g2, c2, L)], g1, cp1, d - 1, at3, sd3, by rw [HLen.out], rfl, by have := HDe.out; rw [HLen.out]; omega, by have := HDe.out; rw [HLen.out]; omega, HAl2.out, by rw [HLen.out]; omega, by rw [HLen.out]; exact HT7.out⟩
          case measure => simp [intOf]; omega
    · have HE : Hid (1 ≤ R.length ∧ R.length ≤ 6) := by
        have h1 := HDe.out
        show _ ∧ _
        omega
      go_wp2_with fail
      go_ret
      exact ⟨R, g, cp, at', sd, rfl, HE.out, HAll.out, by have := HE.out.2; omega, HT.out⟩
end Go.Proofs.Ytlcnhkhkhlpghaa

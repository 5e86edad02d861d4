/-
  The specification's someOf and HistoryOf: a short right history and three parts of it.
-/
import Derived.Test.YtabghjlmmpckdaaShB
namespace Go.Proofs.Ytabghjlmmpckdaa
open Go.ChangeShapes Go.WideShapes Go.ChangeAt Go.RowKit Go.Deep
set_option linter.unusedVariables false

theorem chance_ev (B b : Nat) (a : Option Addr) (len cap : Nat) (zs : List Int) (n at' seed : Int) (w : World) (hB : B ≤ b) (hs : Src w b a len cap at' seed) (hr : RowB B w a len zs) (a1 : at' ≤ 1000000) (hn : 1 ≤ n) (hn' : n ≤ 256) :
    Calls Try.prog 49 #[.pointer (some ⟨b, 0, none⟩), .int .i64 n] w fun e w' => ∃ (x : Bool) (at2 s' : Int), e = .returned (.bool x) ∧ at' ≤ at2 ∧ at2 ≤ at' + 3 ∧ Src w' b a len cap at2 s' ∧ Below B w w' ∧ Apt b w w' := by
  have hnx := next_anyA B b a len cap zs n at' seed w hB hs hr (by omega) hn'
  go_enter Try.func49, Try.ntmps49
  go_wp2_with (go_at_call 46; refine hnx.mono ?_; rintro e w1 ⟨x, a2, s2, rfl, hx, h1, h2, h3, h4, h5⟩)
  go_ret
  exact ⟨_, a2, s2, rfl, h1, h2, h3, h4, h5⟩
/-- Some of a list in a row of its own; of what was there block b alone has turned. -/
structure SoSt (w : World) (b : Nat) (a : Option Addr) (len cap : Nat) (g cp : Nat) (M : List REv) (at' sd : Int) (wr : World) : Prop where
  row : wr.ownsRow w.heap.size 35 6 (.slice (some ⟨g, 0, none⟩) M.length cp) M.length (evCells M)
  src : Src wr b a len cap at' sd
  low : Below b w wr
  apart : ∀ k, k ≠ b → k < w.heap.size → wr.heap[k]? = w.heap[k]?
  size : w.heap.size ≤ wr.heap.size
  bw : b < w.heap.size
theorem SoSt.draw {w : World} {b : Nat} {a : Option Addr} {len cap g cp : Nat} {M : List REv} {at' sd at2 sd2 : Int} {wr w' : World} (h : SoSt w b a len cap g cp M at' sd wr) (ha : Apt b wr w') (hb : Below b wr w') (hs : Src w' b a len cap at2 sd2) : SoSt w b a len cap g cp M at2 sd2 w' :=
  ⟨row_of h.row (fun k hk => ha k (by have := (h.row.lt k hk).1; have := h.bw; omega)), hs, h.low.trans hb, fun k h1 h2 => (ha k h1).trans (h.apart k h1 h2), Nat.le_trans h.size hb.size, h.bw⟩
theorem SoSt.later {w : World} {b : Nat} {a : Option Addr} {len cap g cp : Nat} {M : List REv} {at' sd : Int} {wr w' : World} (h : SoSt w b a len cap g cp M at' sd wr) (hb : Below wr.heap.size wr w') : SoSt w b a len cap g cp M at' sd w' :=
  ⟨row_of h.row (fun k hk => hb.block k (h.row.lt k hk).2), src_sameE h.src (hb.block b (Nat.lt_of_lt_of_le h.bw h.size)) hb.size, h.low.trans (hb.mono (by have := h.bw; have := h.size; omega)), fun k h1 h2 => (hb.block k (Nat.lt_of_lt_of_le h2 h.size)).trans (h.apart k h1 h2), Nat.le_trans h.size hb.size, h.bw⟩
theorem SoSt.push {w : World} {b : Nat} {a : Option Addr} {len cap g cp : Nat} {M : List REv} {at' sd : Int} {wr w' : World} {va : Option Addr} {vc : Nat} {e : REv} (h : SoSt w b a len cap g cp M at' sd wr) (ho : w'.ownsRow w.heap.size 35 6 (.slice va (M.length + 1) vc) (M.length + 1) (evCells M ++ evC e)) (hg : wr.grownBy w' (some g)) :
    ∃ g2, (.slice va (M.length + 1) vc : Value) = .slice (some ⟨g2, 0, none⟩) (M ++ [e]).length vc ∧ SoSt w b a len cap g2 vc (M ++ [e]) at' sd w' := by
  have f := fr_grown hg
  have hgl := row_lt h.row g rfl
  have hbw := h.bw
  have hsz := h.size
  obtain ⟨g2, c2, hq2⟩ := row_some ho (by omega)
  have hc2 : c2 = vc := by simp only [Value.slice.injEq, true_and] at hq2; exact hq2.2.symm
  subst hc2
  have hn : M.length + 1 = (M ++ [e]).length := by simp
  refine ⟨g2, by rw [hq2, hn], ?_, src_sameE h.src (f.block b (by omega) (fun q => ?_)) f.size, h.low.grown hg (by omega) (fun q hq => ?_), fun k h1 h2 => (f.block k (by omega) (fun q => ?_)).trans (h.apart k h1 h2), Nat.le_trans h.size f.size, hbw⟩
  · rw [hq2, hn] at ho
    rw [evCells_append, show evCells [e] = evC e by rw [evCells_cons]; simp [evCells]]
    exact ho
  · have := Option.some.inj q; omega
  · have := Option.some.inj hq; omega
  · have := Option.some.inj q; omega
def SoP (w : World) (b : Nat) (a : Option Addr) (len cap : Nat) (L : List REv) (at0 : Int) (e : Ending) (w' : World) : Prop := ∃ (g cp : Nat) (M : List REv) (at2 s' : Int), e = .returned (.slice (some ⟨g, 0, none⟩) M.length cp) ∧ M.Sublist L ∧ at2 ≤ at0 + 3 * (L.length : Int) ∧ SoSt w b a len cap g cp M at2 s' w'
set_option maxHeartbeats 8000000 in
set_option maxRecDepth 4000 in
theorem someOf_any (b : Nat) (a : Option Addr) (len cap : Nat) (zs : List Int) (at0 seed : Int) (gl lc : Nat) (L : List REv) (w : World) (hs : Src w b a len cap at0 seed) (hr : RowB b w a len zs) (a1 : at0 ≤ 10000) (hl : L.length ≤ 21) (hL : EvsAt w gl 0 L) (hgl : gl < w.heap.size) (hgb : gl ≠ b) :
    Calls Try.prog 25 #[.pointer (some ⟨b, 0, none⟩), .slice (some ⟨gl, 0, none⟩) L.length lc] w (SoP w b a len cap L at0) := by
  have HCh : Hid (∀ W (at' sd : Int), Below b w W → Src W b a len cap at' sd → at' ≤ 20000 → Calls Try.prog 49 #[.pointer (some ⟨b, 0, none⟩), .int .i64 3] W fun e w' => ∃ (x : Bool) (at2 s' : Int), e = .returned (.bool x) ∧ at' ≤ at2 ∧ at2 ≤ at' + 3 ∧ Src w' b a len cap at2 s' ∧ Below b W w' ∧ Apt b W w') := fun W at' sd hW h1 h2 => chance_ev b b a len cap zs 3 at' sd W (Nat.le_refl _) h1 (hr.below hW) (by omega) (by omega) (by omega)
  have HL : Hid (EvsAt w gl 0 L) := hL
  obtain ⟨i0, hi, hzz⟩ := Option.map_eq_some_iff.1 evInf
  simp only [Prod.mk.injEq] at hzz
  obtain ⟨hi0', hi1, hi2⟩ := hzz
  obtain ⟨W1, hW1⟩ : ∃ W1, W1 = w.alloc (Obj.cells #[] 35) := ⟨_, rfl⟩
  have HW1 : Hid (SoSt w b a len cap w.heap.size 0 [] at0 seed W1) := by
    have hb := below_alloc w (Obj.cells #[] 35)
    have hlb := hs.2.2.2.2.2.1
    rw [hW1]
    exact ⟨row_empty w _ (by omega), src_sameE hs (hb.block b hlb) hb.size, hb.mono (by omega), fun k h1 h2 => hb.block k h2, hb.size, hlb⟩
  have HW1e : Hid (W1 = w.alloc (Obj.cells #[] 35)) := hW1
  clear hr hs hW1 hL
  go_enter Try.func25, Try.ntmps25
  go_wp2
  rw [← HW1e.out]
  clear HW1e
  generalize hg0 : w.heap.size = g0 at HW1 ⊢
  clear hg0
  go_loopw [5, 6] (fun v c wr => ∃ (k : Nat) (M : List REv) (g cp : Nat) (at1 sd : Int), k ≤ L.length ∧ c = .int .i64 (k : Int) ∧ v = .slice (some ⟨g, 0, none⟩) M.length cp ∧ M.Sublist (L.take k) ∧ at1 ≤ at0 + 3 * (k : Int) ∧ SoSt w b a len cap g cp M at1 sd wr) (fun _ c _ => L.length - (intOf c).toNat)
  case atStart => exact ⟨0, [], g0, 0, at0, seed, Nat.zero_le _, rfl, rfl, List.nil_sublist _, by omega, HW1.out⟩
  case round =>
    clear HW1
    obtain ⟨k, M, g, cp, at1, sd, hk, rfl, rfl, hsub, hat, hst⟩ := hrel
    have HSub : Hid (M.Sublist (L.take k)) := hsub
    have HS : Hid (SoSt w b a len cap g cp M at1 sd wr) := hst
    have hml : M.length ≤ k := by have := hsub.length_le; rw [List.length_take] at this; omega
    clear hsub hst
    by_cases hlt : k < L.length
    · have hlt' : (k : Int) < (L.length : Int) := by omega
      have HNo : Hid (M.Sublist (L.take (k + 1))) := by rw [List.take_succ_eq_append_getElem hlt]; exact HSub.out.trans (List.sublist_append_left _ _)
      have HYes : Hid ((M ++ [L.getD k zEv]).Sublist (L.take (k + 1))) := by rw [List.take_succ_eq_append_getElem hlt, getD_in hlt]; exact HSub.out.append (List.Sublist.refl _)
      go_wp2_with fail
      (first | go_at_call 49 | skip)
      refine (HCh.out wr at1 sd HS.out.low HS.out.src (by omega)).mono ?_
      rintro e w2 ⟨x, a2, s2, rfl, ha2, hb2, hs2, hb2', hf2⟩
      have H2 : Hid (SoSt w b a len cap g cp M a2 s2 w2) := HS.out.draw hf2 hb2' hs2
      clear hs2 hb2' hf2 HS HSub
      cases x
      · have hcell := HL.out k hlt
        have hk2 : ∀ o, w2.cell? ⟨gl, o, none⟩ = w.cell? ⟨gl, o, none⟩ := fun o => World.cell?_of_block (w := w) (a := ⟨gl, o, none⟩) (H2.out.apart gl hgb hgl)
        obtain ⟨c0, c1, c2, c3, c4, c5⟩ := hcell
        rw [← hk2] at c0 c1 c2 c3 c4 c5
        simp only [Nat.zero_add] at c0 c1 c2 c3 c4 c5
        clear HNo hk2
        generalize L.getD k zEv = ev at *
        obtain ⟨e0, e1, e2, e3, e4, e5⟩ := ev
        dsimp only at c0 c1 c2 c3 c4 c5
        have HM4 : Hid (SoSt w b a len cap g cp M a2 s2 (w2.alloc (Obj.cells #[.int .i64 e0, .int .i64 e1, .int .i64 e2, .int .i64 e3, .string e4, .int .i64 e5] 35))) := H2.out.later (below_alloc _ _)
        have hB4 : w.heap.size ≤ (w2.alloc (Obj.cells #[.int .i64 e0, .int .i64 e1, .int .i64 e2, .int .i64 e3, .string e4, .int .i64 e5] 35)).heap.size := HM4.out.size
        have HNw : Hid (∀ j u, [Value.int .i64 e0, .int .i64 e1, .int .i64 e2, .int .i64 e3, .string e4, .int .i64 e5][j]? = some u → (w2.alloc (Obj.cells #[.int .i64 e0, .int .i64 e1, .int .i64 e2, .int .i64 e3, .string e4, .int .i64 e5] 35)).cell? ((⟨w2.heap.size, 0, none⟩ : Addr).add j) = some u) := World.news_of_block (heapNew w2 _)
        have hgw : gl < w2.heap.size := Nat.lt_of_lt_of_le hgl H2.out.size
        clear H2
        go_wp2_with (at_builtin; refine wpList_append_any rfl _ _ 24 rfl w.heap.size 35 i0 (.agg #[.int .i64 0, .int .i64 0, .int .i64 0, .int .i64 0, .string ⟨#[]⟩, .int .i64 0]) 6 56 Try.underlying24 hi hi0' hi1 hi2 rfl (by decide) _ _ _ rfl HM4.out.row (some ⟨w2.heap.size, 0, none⟩) 1 1 [.int .i64 e0, .int .i64 e1, .int .i64 e2, .int .i64 e3, .string e4, .int .i64 e5] rfl rfl (fun _ => ⟨_, rfl, HNw.out⟩) (by intro u hu; simp at hu; rcases hu with rfl | rfl | rfl | rfl | rfl | rfl <;> rfl) (by unfold maxLen; omega) (by omega) hB4 ?_; intro va vc w5 hown hgr hat; have HT : Hid (∃ g2, (.slice va (M.length + 1) vc : Value) = .slice (some ⟨g2, 0, none⟩) (M ++ [(⟨e0, e1, e2, e3, e4, e5⟩ : REv)]).length vc ∧ SoSt w b a len cap g2 vc (M ++ [(⟨e0, e1, e2, e3, e4, e5⟩ : REv)]) a2 s2 w5) := HM4.out.push (e := ⟨e0, e1, e2, e3, e4, e5⟩) hown hgr; clear hown hgr hat)
        first
        | (go_roundw
           case rel =>
             obtain ⟨g2, hv2, hst2⟩ := HT.out
             exact ⟨k + 1, _, g2, vc, a2, s2, by omega, by go_num, hv2, HYes.out, by omega, hst2⟩
           case measure => simp [intOf]; omega)
        | (obtain ⟨g2, hv2, hst2⟩ := HT.out
           exact ⟨⟨k + 1, _, g2, vc, a2, s2, by omega, by go_num, hv2, HYes.out, by omega, hst2⟩, by simp [intOf]; omega⟩)
      · clear HYes
        go_wp2
        first
        | (go_roundw
           case rel => exact ⟨k + 1, M, g, cp, a2, s2, by omega, by go_num, rfl, HNo.out, by omega, H2.out⟩
           case measure => simp [intOf]; omega)
        | exact ⟨⟨k + 1, M, g, cp, a2, s2, by omega, by go_num, rfl, HNo.out, by omega, H2.out⟩, by simp [intOf]; omega⟩
    · have hle : (L.length : Int) ≤ (k : Int) := by omega
      have HE : Hid (M.Sublist L) := by have := HSub.out; rwa [List.take_of_length_le (by omega)] at this
      go_wp2
      go_ret
      exact ⟨g, cp, M, at1, sd, rfl, HE.out, by omega, HS.out⟩
end Go.Proofs.Ytabghjlmmpckdaa

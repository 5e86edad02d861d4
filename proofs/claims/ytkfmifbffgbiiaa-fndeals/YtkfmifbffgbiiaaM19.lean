/-
  Texts of this claim laid together: DrawUsW.
-/
import Derived.Test.YtkfmifbffgbiiaaM16
import Derived.Test.YtkfmifbffgbiiaaM17
import Derived.Test.YtkfmifbffgbiiaaM18
import Derived.BigQuiet
import Derived.Deep.QuietTactic
import Derived.Deep.DeepCutAuto
import Derived.Laws.OwnMore
/-
  The specification's drawn uses: short lists in a row of their own.
-/
namespace Go.Proofs.Ytkfmifbffgbiiaa
open Go.ChangeShapes Go.WideShapes Go.ChangeAt Go.RowKit Go.Deep
set_option linter.unusedVariables false

theorem apart_of {b : Nat} {W W' : World} (hb : Below W.heap.size W W') : Apart b W W' := ⟨hb.size, fun k _ hk => hb.block k hk⟩
theorem apart_trans {b : Nat} {w W W' : World} (h : Apart b w W) (h' : Apart b W W') : Apart b w W' := ⟨Nat.le_trans h.1 h'.1, fun k h1 h2 => (h'.2 k h1 (Nat.lt_of_lt_of_le h2 h.1)).trans (h.2 k h1 h2)⟩
theorem UuSt.later {w : World} {b : Nat} {a : Option Addr} {len cap n g cp : Nat} {cs : List CUs} {C : List Value} {tb : Nat} {T : Nat → Bool} {Z : Nat} {at' sd : Int} {W W' : World} (h : UuSt w b a len cap n g cp cs C tb T Z at' sd W) (hb : Below W.heap.size W W') : UuSt w b a len cap n g cp cs C tb T Z at' sd W' := by
  have := h.src.2.2.2.2.2.1
  exact h.step (apart_of hb) (hb.mono (by omega)) (src_sameD h.src (hb.block b this) hb.size)
theorem UuB.later {w : World} {b : Nat} {a : Option Addr} {len cap n g cp : Nat} {cs : List CUs} {C : List Value} {tb : Nat} {T : Nat → Bool} {Z : Nat} {at' sd : Int} {ub : Nat} {h : Option Addr} {c : Nat} {dl : Int} {l : List Int} {W W' : World} (k : UuB w b a len cap n g cp cs C tb T Z at' sd ub h c dl l W) (hb : Below W.heap.size W W') : UuB w b a len cap n g cp cs C tb T Z at' sd ub h c dl l W' := by
  have := k.st.src.2.2.2.2.2.1
  exact k.step (apart_of hb) (hb.mono (by omega)) (src_sameD k.st.src (hb.block b this) hb.size)
theorem UuSt.start {w : World} {b : Nat} {a : Option Addr} {len cap : Nat} {at' sd : Int} (hs : Src w b a len cap at' sd) (n : Nat) (hn : n ≤ 1000) (W : World) (e : W = (w.alloc (Obj.cells #[] 36)).alloc (Obj.cells (madeCells #[.bool false] n) 4)) :
    UuSt w b a len cap n w.heap.size 0 [] [] (w.heap.size + 1) (fun _ => false) W.heap.size at' sd W := by
  have hb := hs.2.2.2.2.2.1
  have q1 := below_alloc w (Obj.cells #[] 36)
  have r1 : (w.alloc (Obj.cells #[] 36)).ownsRow w.heap.size 36 3 (.slice (some ⟨w.heap.size, 0, none⟩) 0 0) 0 [] := ⟨rfl, .inr ⟨w.heap.size, 0, #[], rfl, Nat.le_refl _, heapNew w _, Nat.le_refl _, by unfold maxLen; omega, rfl, rfl⟩⟩
  have hz : (w.alloc (Obj.cells #[] 36)).heap.size = w.heap.size + 1 := by simp
  generalize w.alloc (Obj.cells #[] 36) = W1 at *
  have q2 := below_alloc W1 (Obj.cells (madeCells #[.bool false] n) 4)
  have r2 := World.rowIs_made W1 (.bool false) n 4
  rw [hz] at r2
  have r3 := r1.alloc (Obj.cells (madeCells #[.bool false] n) 4)
  rw [← e] at q2 r2 r3
  have q3 : Below w.heap.size w W := chain q1 q2
  exact ⟨hb, apart_of q3, q3.mono (by omega), src_sameD hs (q3.block b hb) q3.size, r3, fun i hi => by simp at hi, r2, by omega, q3.size, Nat.le_refl _⟩
theorem cell_apart {b : Nat} {W W' : World} {q o : Nat} {v : Value} (ha : Apart b W W') (hq : q ≠ b) (hl : q < W.heap.size) (hc : W.cell? ⟨q, o, none⟩ = some v) : W'.cell? ⟨q, o, none⟩ = some v := (World.cell?_of_block (w := W) (a := ⟨q, o, none⟩) (ha.2 q hq hl)).trans hc
theorem us_push {cs : List CUs} {r : CUs} {n : Nat} (h : ∀ r ∈ cs, r.us.length ≤ n) (hr : r.us.length ≤ n) : ∀ x ∈ cs ++ [r], x.us.length ≤ n := fun x hx => by
  rcases List.mem_append.1 hx with h1 | h1
  · exact h x h1
  · rw [List.mem_singleton.1 h1]; exact hr
theorem in_push {n : Nat} {l : List Int} (h : ∀ x ∈ l, ∃ j : Nat, j < n ∧ x = (j : Int)) {k : Nat} (hk : k < n) : ∀ x ∈ l ++ [(k : Int)], ∃ j : Nat, j < n ∧ x = (j : Int) := fun x hx => by
  rcases List.mem_append.1 hx with h1 | h1
  · exact h x h1
  · exact ⟨k, hk, List.mem_singleton.1 h1⟩
def SuPost (a : Option Addr) (len cap : Nat) (b n : Nat) (at0 : Int) (w : World) (e : Ending) (w' : World) : Prop := ∃ (cs : List CUs) (C : List Value) (g cp tb : Nat) (T : Nat → Bool) (Z : Nat) (at' sd : Int), e = .returned (.slice (some ⟨g, 0, none⟩) cs.length cp) ∧ cs.length ≤ 3 ∧ (∀ r ∈ cs, r.us.length ≤ 7) ∧ at' ≤ at0 + 100 ∧ UuSt w b a len cap n g cp cs C tb T Z at' sd w'
/-- Units that are there. -/
def InU (n : Nat) (l : List Int) : Prop := ∀ x ∈ l, ∃ j : Nat, j < n ∧ x = (j : Int)
set_option maxHeartbeats 8000000 in
set_option maxRecDepth 8000 in
theorem someUses_any (b : Nat) (a : Option Addr) (len cap : Nat) (zs : List Int) (at0 seed : Int) (w w1 w2 : World) (hr : RowB b w a len zs) (h0 : at0 ≤ 2000) (us : List RUn) (ug uc : Nat) (hul : us.length ≤ 7) (hu : UnSt w1 b a len cap (.slice (some ⟨ug, 0, none⟩) us.length uc) us at0 seed w)
    (ds : List CDl) (Cd : List Value) (dg dc : Nat) (hdl : ds.length ≤ 5) (hdr : ∀ i, i < ds.length → DrD i (ds.getD i zDl)) (hd : DdSt w2 b a len cap (.slice (some ⟨dg, 0, none⟩) ds.length dc) ds Cd at0 seed w) :
    Calls Try.prog 11 #[.pointer (some ⟨b, 0, none⟩), .slice (some ⟨ug, 0, none⟩) us.length uc, .slice (some ⟨dg, 0, none⟩) ds.length dc] w (SuPost a len cap b us.length at0 w) := by
  have hs := hd.src
  have hlen : len ≤ maxLen := hr.1
  have HR : Hid (RowB b w a len zs) := hr
  have HG : Hid (∀ i, i < ds.length → DrD i (ds.getD i zDl)) := hdr
  have HUn : Hid (∀ (at' sd : Int) (W : World), Apart b w W → Below b w W → Src W b a len cap at' sd → UnSt w1 b a len cap (.slice (some ⟨ug, 0, none⟩) us.length uc) us at' sd W) := fun _ _ _ h1 h2 h3 => hu.step h1 h2 h3
  have HDd : Hid (∀ (at' sd : Int) (W : World), Apart b w W → Below b w W → Src W b a len cap at' sd → DdSt w2 b a len cap (.slice (some ⟨dg, 0, none⟩) ds.length dc) ds Cd at' sd W) := fun _ _ _ h1 h2 h3 => hd.step h1 h2 h3
  have HNx : Hid (∀ (n at' sd : Int) (W : World), n ≤ 256 → at' ≤ 999999999000 → Src W b a len cap at' sd → Below b w W → Calls Try.prog 21 #[.pointer (some ⟨b, 0, none⟩), .int .i64 n] W fun e w' => ∃ x at2 s' : Int, e = .returned (.int .i64 x) ∧ Drawn x n ∧ at' ≤ at2 ∧ at2 ≤ at' + 3 ∧ Src w' b a len cap at2 s' ∧ Below b W w' ∧ Apt b W w') := fun n at' sd W hn ha hS hB => next_anyA b b a len cap zs n at' sd W (Nat.le_refl _) hS (HR.out.below hB) ha hn
  have HCh : Hid (∀ (n at' sd : Int) (W : World), 1 ≤ n → n ≤ 256 → at' ≤ 1000000 → Src W b a len cap at' sd → Below b w W → Calls Try.prog 25 #[.pointer (some ⟨b, 0, none⟩), .int .i64 n] W fun e w' => ∃ (x : Bool) (at2 s' : Int), e = .returned (.bool x) ∧ at' ≤ at2 ∧ at2 ≤ at' + 3 ∧ Src w' b a len cap at2 s' ∧ Below b W w' ∧ Apt b W w') := fun n at' sd W hn hn' ha hS hB => chance_any b b a len cap zs n at' sd W (Nat.le_refl _) hS (HR.out.below hB) ha hn hn'
  have hmk := fun w => makeTaken us.length (by omega) w
  obtain ⟨W0, hW0⟩ : ∃ W0, W0 = (w.alloc (Obj.cells #[] 36)).alloc (Obj.cells (madeCells #[.bool false] us.length) 4) := ⟨_, rfl⟩
  have HW0 : Hid (W0 = (w.alloc (Obj.cells #[] 36)).alloc (Obj.cells (madeCells #[.bool false] us.length) 4)) := hW0
  have HT0 : Hid (UuSt w b a len cap us.length w.heap.size 0 [] [] (w.heap.size + 1) (fun _ => false) W0.heap.size at0 seed W0) := UuSt.start hs us.length (by omega) W0 hW0
  obtain ⟨i0, hti, hzz⟩ := Option.map_eq_some_iff.1 usInfo'
  simp only [Prod.mk.injEq] at hzz
  obtain ⟨hi0, hi1, hi2⟩ := hzz
  obtain ⟨iti, hii, hzi⟩ := Option.map_eq_some_iff.1 intInfo'
  simp only [Prod.mk.injEq] at hzi
  obtain ⟨hii0, hii1, hii2⟩ := hzi
  clear hs hr hW0 hu hd hdr
  go_enter Try.func11, Try.ntmps11
  go_wp2_with fail
  (first | go_at_call 21 | skip)
  rw [← HW0.out]
  refine (HNx.out 4 at0 seed W0 (by omega) (by omega) HT0.out.src HT0.out.lo).mono ?_
  rintro e w3 ⟨x3, a3, s3, rfl, hx3, ql3, qu3, hs3, hb3, ha3⟩
  have HT3 : Hid (UuSt w b a len cap us.length w.heap.size 0 [] [] (w.heap.size + 1) (fun _ => false) W0.heap.size a3 s3 w3) := HT0.out.step (ha3.apart hb3) hb3 hs3
  have d30 : 0 ≤ x3 := hx3.1
  have d31 : x3 ≤ 3 := by rcases hx3.2 with h | h <;> omega
  clear hs3 hb3 ha3 hx3 HT0 HW0 hmk
  go_wp2_with fail
  go_loopw [7, 9, 10, 11, 12] (fun v c _ _ _ wr => ∃ (cs : List CUs) (C : List Value) (g cp : Nat) (T : Nat → Bool) (Z : Nat) (i at' sd : Int), v = .slice (some ⟨g, 0, none⟩) cs.length cp ∧ c = .int .i64 i ∧ 0 ≤ i ∧ (cs.length : Int) + i ≤ 3 ∧ at' + 24 * i ≤ at0 + 100 ∧ (∀ r ∈ cs, r.us.length ≤ 7) ∧ UuSt w b a len cap us.length g cp cs C (w.heap.size + 1) T Z at' sd wr) (fun _ c _ _ _ _ => (intOf c).toNat)
  case atStart => exact ⟨[], [], w.heap.size, 0, fun _ => false, W0.heap.size, x3, a3, s3, rfl, rfl, by omega, by simp; omega, by omega, by simp, HT3.out⟩
  case round =>
    clear HT3
    obtain ⟨cs, C, g, cp, T, Z, i, at', sd, rfl, rfl, hi, hil, hat, hlc, hT⟩ := hrel
    have HT : Hid (UuSt w b a len cap us.length g cp cs C (w.heap.size + 1) T Z at' sd wr) := hT
    have HL : Hid (∀ r ∈ cs, r.us.length ≤ 7) := hlc
    have hcs : cs.length ≤ 3 := by omega
    clear hT hlc
    by_cases hz : i = 0
    · subst hz
      go_wp2
      go_ret
      exact ⟨cs, C, g, cp, _, T, Z, at', sd, rfl, hcs, HL.out, by omega, HT.out⟩
    · have hpos : 0 < i := by omega
      clear hz
      by_cases hd0 : ds.length = 0
      · have hdz : ¬ (0 : Int) < (ds.length : Int) := by omega
        clear hd0
        go_wp2
        go_ret
        exact ⟨cs, C, g, cp, _, T, Z, at', sd, rfl, hcs, HL.out, by omega, HT.out⟩
      · have hdp : (0 : Int) < (ds.length : Int) := by omega
        by_cases hu0 : us.length = 0
        · have huz : ¬ (0 : Int) < (us.length : Int) := by omega
          clear hu0
          go_wp2
          go_ret
          exact ⟨cs, C, g, cp, _, T, Z, at', sd, rfl, hcs, HL.out, by omega, HT.out⟩
        · have hup : (0 : Int) < (us.length : Int) := by omega
          go_wp2_with fail
          (first | go_at_call 21 | skip)
          refine (HNx.out (ds.length : Int) at' sd wr (by omega) (by omega) HT.out.src HT.out.lo).mono ?_
          rintro e w4 ⟨x4, a4, s4, rfl, hx4, ql4, qu4, hs4, hb4, ha4⟩
          have HT4 : Hid (UuSt w b a len cap us.length g cp cs C (w.heap.size + 1) T Z a4 s4 w4) := HT.out.step (ha4.apart hb4) hb4 hs4
          have d40 : 0 ≤ x4 := hx4.1
          have d41 : x4 < (ds.length : Int) := by rcases hx4.2 with h | h <;> omega
          clear hs4 hb4 ha4 hx4 HT
          obtain ⟨m, rfl⟩ : ∃ m : Nat, x4 = (m : Int) := ⟨x4.toNat, by omega⟩
          have hm : m < ds.length := by omega
          obtain ⟨W5, hW5⟩ : ∃ W5, W5 = w4.alloc (Obj.cells #[.int .i64 (m : Int), .int .i64 0, .slice none 0 0] 36) := ⟨_, rfl⟩
          have H5 : Hid (UuB w b a len cap us.length g cp cs C (w.heap.size + 1) T w4.heap.size a4 s4 w4.heap.size none 0 (m : Int) [] W5) := UuB.new HT4.out (m : Int) W5 hW5
          have HW5 : Hid (W5 = w4.alloc (Obj.cells #[.int .i64 (m : Int), .int .i64 0, .slice none 0 0] 36)) := hW5
          clear hW5 HT4
          go_wp2_with fail
          rw [← HW5.out]
          clear HW5
          generalize w4.heap.size = ub at *
          go_loopw [11] (fun c wr => ∃ (k : Nat) (l : List Int) (h : Option Addr) (cc : Nat) (at2 sd2 : Int), c = .int .i64 (k : Int) ∧ k ≤ us.length ∧ l.length ≤ k ∧ InU us.length l ∧ at2 ≤ a4 + 3 * (k : Int) ∧ UuB w b a len cap us.length g cp cs C (w.heap.size + 1) T ub at2 sd2 ub h cc (m : Int) l wr) (fun c _ => us.length - (intOf c).toNat)
          case atStart => exact ⟨0, [], none, 0, a4, s4, rfl, Nat.zero_le _, Nat.le_refl _, fun x hx => by simp at hx, by omega, H5.out⟩
          case round =>
            clear H5
            obtain ⟨k, l, h, cc, at2, sd2, rfl, hk, hlk, hin, hat2, hB⟩ := hrel
            have HB : Hid (UuB w b a len cap us.length g cp cs C (w.heap.size + 1) T ub at2 sd2 ub h cc (m : Int) l wr) := hB
            have HI : Hid (InU us.length l) := hin
            clear hB hin
            have hDd := HDd.out at2 sd2 wr HB.out.st.ap HB.out.st.lo HB.out.st.src
            obtain ⟨ha, ca, q0, q1, q2, q3, q4, q5, q6, q7⟩ := hDd.fit m hm
            have e2 := hDd.own.cellAt (m * 6 + 2) (by omega)
            have e3 := hDd.own.cellAt (m * 6 + 3) (by omega)
            rw [q2] at e2
            rw [q3] at e3
            have HRS : Hid (ReadsS wr.heap.size wr ha (ds.getD m zDl).arts) := q7.reads
            have hal : (ds.getD m zDl).arts.length ≤ 1048576 := by have := (HG.out m hm).2.2.2.1; omega
            clear hDd q0 q1 q2 q3 q4 q5 q6 q7
            generalize ds.getD m zDl = d at *
            obtain ⟨nm, kd, arts, nd, vl, on⟩ := d
            dsimp only at e2 e3 HRS hal
            have b0 := blkCell HB.out.box 0 _ rfl
            have b1 := blkCell HB.out.box 1 _ rfl
            have b2 := blkCell HB.out.box 2 _ rfl
            have f2 := blkFree HB.out.box 2
            by_cases hlt : k < us.length
            · have hlt' : (k : Int) < (us.length : Int) := by omega
              by_cases hnl : (l.length : Int) < nd
              · have hdn : decide ((l.length : Int) < nd) = true := decide_eq_true hnl
                go_wp2_with fail
                go_quiet (fail)
                go_wp2_with fail
                have HB2 : Hid (∀ W, Below wr.heap.size wr W → UuB w b a len cap us.length g cp cs C (w.heap.size + 1) T ub at2 sd2 ub h cc (m : Int) l W) := fun W hb => HB.out.later hb
                have hUn := HUn.out at2 sd2 wr HB.out.st.ap HB.out.st.lo HB.out.st.src
                have u0 := (unAt_own hUn.1 k hlt).1
                rw [Nat.zero_add] at u0
                have hugb := hUn.1.lt ug rfl
                have hDg := (HDd.out at2 sd2 wr HB.out.st.ap HB.out.st.lo HB.out.st.src).own.lt dg rfl
                have t0 := HB.out.st.tk.cell (i := k) hlt
                have htl := HB.out.st.tk.lt
                have hbw := HB.out.st.hb
                have hubw := HB.out.ubz
                generalize (us.getD k zUn).art = ar at *
                clear hUn
                have HHas : Hid (∀ W, Below wr.heap.size wr W → Calls Try.prog 26 #[.slice ha arts.length ca, .string ar] W fun e w' => e = .returned (.bool (hasB arts ar)) ∧ w' = W) := fun W hb => has_any ha ca arts (by omega) ar W (HRS.out.later hb)
                cases hTk : T k
                · rw [hTk] at t0
                  have HC : Hid (∀ W, Apart b wr W → W.cell? ⟨w.heap.size + 1, k, none⟩ = some (.bool false) ∧ W.cell? ⟨ub, 0, none⟩ = some (.int .i64 (m : Int)) ∧ W.cell? ⟨dg, m * 6 + 2, none⟩ = some (.slice ha arts.length ca) ∧ W.cell? ⟨ug, k * 2, none⟩ = some (.string ar)) := fun W hA =>
                    ⟨cell_apart hA (by omega) htl t0, cell_apart hA (by omega) (blkLt HB.out.box) b0, cell_apart hA (by omega) hDg.2 e2, cell_apart hA (by omega) hugb.2 u0⟩
                  have HCh2 : Hid (∀ W, Below wr.heap.size wr W → Calls Try.prog 25 #[.pointer (some ⟨b, 0, none⟩), .int .i64 4] W fun e w' => ∃ (x : Bool) (a3 s3 : Int), e = .returned (.bool x) ∧ a3 ≤ at2 + 3 ∧ UuB w b a len cap us.length g cp cs C (w.heap.size + 1) T ub a3 s3 ub h cc (m : Int) l w' ∧ Apart b W w') := fun W hb => (HCh.out 4 at2 sd2 W (by omega) (by omega) (by omega) (HB2.out W hb).st.src (HB2.out W hb).st.lo).mono (fun e w' ⟨x, a3, s3, he, h1, h2, hs, hbb, hap⟩ => ⟨x, a3, s3, he, h2, (HB2.out W hb).step (hap.apart hbb) hbb hs, hap.apart hbb⟩)
                  clear t0 b0 b1 b2 f2 e2 e3 u0
                  refine wp_region_held_drew (S := fun W' => Apart b wr W') (by kernel_rfl) (apart_of (chain (drewBelow _ _) (below_drew _))) (fun hH => ?_)
                  refine wpAnyH_take (i := 0) (v := .slice (some ⟨w.heap.size + 1, 0, none⟩) us.length us.length) rfl (by kernel_rfl) (by kernel_rfl) (by kernel_rfl) (fun _ _ _ h => h) (Or.inl ⟨by rfl, fun w hSw => by go_simp⟩) hH ?_
                  refine wpAnyH_take (i := 1) (v := .int .i64 (k : Int)) rfl (by kernel_rfl) (by kernel_rfl) (by kernel_rfl) (fun _ _ _ h => h) (Or.inl ⟨by rfl, fun w hSw => by go_simp⟩) hH ?_
                  try simp only [Act.put, List.setIfInBounds_toArray, List.set_cons_zero, List.set_cons_succ, List.getElem_toArray, List.getElem_cons_succ, List.getElem_cons_zero]
                  refine wpAnyH_take (i := 2) (v := .pointer (some ⟨w.heap.size + 1, k, none⟩)) rfl (by kernel_rfl) (by kernel_rfl) (by kernel_rfl) (fun _ _ _ h => h) (Or.inl ⟨by rfl, fun w hSw => by go_simp⟩) hH ?_
                  try simp only [Act.put, List.setIfInBounds_toArray, List.set_cons_zero, List.set_cons_succ, List.getElem_toArray, List.getElem_cons_succ, List.getElem_cons_zero]
                  refine wpAnyH_take (i := 3) (v := .bool false) rfl (by kernel_rfl) (by kernel_rfl) (by kernel_rfl) (fun _ _ _ h => h) (Or.inl ⟨by rfl, fun w hSw => by have f := (HC.out w hSw).1; go_simp⟩) hH ?_
                  try simp only [Act.put, List.setIfInBounds_toArray, List.set_cons_zero, List.set_cons_succ, List.getElem_toArray, List.getElem_cons_succ, List.getElem_cons_zero]
                  refine wpAnyH_take (i := 4) (v := .bool true) rfl (by kernel_rfl) (by kernel_rfl) (by kernel_rfl) (fun _ _ _ h => h) (Or.inl ⟨by rfl, fun w hSw => by go_simp⟩) hH ?_
                  try simp only [Act.put, List.setIfInBounds_toArray, List.set_cons_zero, List.set_cons_succ, List.getElem_toArray, List.getElem_cons_succ, List.getElem_cons_zero]
                  refine wpAnyH_take (i := 5) (v := .bool true) rfl (by kernel_rfl) (by kernel_rfl) (by kernel_rfl) (fun _ _ _ h => h) (Or.inl ⟨by rfl, fun w hSw => by go_simp⟩) hH ?_
                  try simp only [Act.put, List.setIfInBounds_toArray, List.set_cons_zero, List.set_cons_succ, List.getElem_toArray, List.getElem_cons_succ, List.getElem_cons_zero]
                  refine wpAnyH_take (i := 6) (v := .slice (some ⟨dg, 0, none⟩) ds.length dc) rfl (by kernel_rfl) (by kernel_rfl) (by kernel_rfl) (fun _ _ _ h => h) (Or.inl ⟨by rfl, fun w hSw => by go_simp⟩) hH ?_
                  try simp only [Act.put, List.setIfInBounds_toArray, List.set_cons_zero, List.set_cons_succ, List.getElem_toArray, List.getElem_cons_succ, List.getElem_cons_zero]
                  refine wpAnyH_take (i := 7) (v := .pointer (some ⟨ub, 0, none⟩)) rfl (by kernel_rfl) (by kernel_rfl) (by kernel_rfl) (fun _ _ _ h => h) (Or.inl ⟨by rfl, fun w hSw => by go_simp⟩) hH ?_
                  try simp only [Act.put, List.setIfInBounds_toArray, List.set_cons_zero, List.set_cons_succ, List.getElem_toArray, List.getElem_cons_succ, List.getElem_cons_zero]
                  refine wpAnyH_take (i := 8) (v := .int .i64 (m : Int)) rfl (by kernel_rfl) (by kernel_rfl) (by kernel_rfl) (fun _ _ _ h => h) (Or.inl ⟨by rfl, fun w hSw => by have f := (HC.out w hSw).2.1; go_simp⟩) hH ?_
                  try simp only [Act.put, List.setIfInBounds_toArray, List.set_cons_zero, List.set_cons_succ, List.getElem_toArray, List.getElem_cons_succ, List.getElem_cons_zero]
                  refine wpAnyH_take (i := 9) (v := .pointer (some ⟨dg, m * 6, none⟩)) rfl (by kernel_rfl) (by kernel_rfl) (by kernel_rfl) (fun _ _ _ h => h) (Or.inl ⟨by rfl, fun w hSw => by go_simp⟩) hH ?_
                  try simp only [Act.put, List.setIfInBounds_toArray, List.set_cons_zero, List.set_cons_succ, List.getElem_toArray, List.getElem_cons_succ, List.getElem_cons_zero]
                  refine wpAnyH_take (i := 10) (v := .pointer (some ⟨dg, m * 6 + 2, none⟩)) rfl (by kernel_rfl) (by kernel_rfl) (by kernel_rfl) (fun _ _ _ h => h) (Or.inl ⟨by rfl, fun w hSw => by go_simp⟩) hH ?_
                  try simp only [Act.put, List.setIfInBounds_toArray, List.set_cons_zero, List.set_cons_succ, List.getElem_toArray, List.getElem_cons_succ, List.getElem_cons_zero]
                  refine wpAnyH_take (i := 11) (v := .slice ha arts.length ca) rfl (by kernel_rfl) (by kernel_rfl) (by kernel_rfl) (fun _ _ _ h => h) (Or.inl ⟨by rfl, fun w hSw => by have f := (HC.out w hSw).2.2.1; go_simp⟩) hH ?_
                  try simp only [Act.put, List.setIfInBounds_toArray, List.set_cons_zero, List.set_cons_succ, List.getElem_toArray, List.getElem_cons_succ, List.getElem_cons_zero]
                  refine wpAnyH_take (i := 12) (v := .slice (some ⟨ug, 0, none⟩) us.length uc) rfl (by kernel_rfl) (by kernel_rfl) (by kernel_rfl) (fun _ _ _ h => h) (Or.inl ⟨by rfl, fun w hSw => by go_simp⟩) hH ?_
                  try simp only [Act.put, List.setIfInBounds_toArray, List.set_cons_zero, List.set_cons_succ, List.getElem_toArray, List.getElem_cons_succ, List.getElem_cons_zero]
                  refine wpAnyH_take (i := 13) (v := .int .i64 (k : Int)) rfl (by kernel_rfl) (by kernel_rfl) (by kernel_rfl) (fun _ _ _ h => h) (Or.inl ⟨by rfl, fun w hSw => by go_simp⟩) hH ?_
                  try simp only [Act.put, List.setIfInBounds_toArray, List.set_cons_zero, List.set_cons_succ, List.getElem_toArray, List.getElem_cons_succ, List.getElem_cons_zero]
                  refine wpAnyH_take (i := 14) (v := .pointer (some ⟨ug, k * 2, none⟩)) rfl (by kernel_rfl) (by kernel_rfl) (by kernel_rfl) (fun _ _ _ h => h) (Or.inl ⟨by rfl, fun w hSw => by go_simp⟩) hH ?_
                  try simp only [Act.put, List.setIfInBounds_toArray, List.set_cons_zero, List.set_cons_succ, List.getElem_toArray, List.getElem_cons_succ, List.getElem_cons_zero]
                  refine wpAnyH_take (i := 15) (v := .pointer (some ⟨ug, k * 2, none⟩)) rfl (by kernel_rfl) (by kernel_rfl) (by kernel_rfl) (fun _ _ _ h => h) (Or.inl ⟨by rfl, fun w hSw => by go_simp⟩) hH ?_
                  try simp only [Act.put, List.setIfInBounds_toArray, List.set_cons_zero, List.set_cons_succ, List.getElem_toArray, List.getElem_cons_succ, List.getElem_cons_zero]
                  refine wpAnyH_take (i := 16) (v := .string ar) rfl (by kernel_rfl) (by kernel_rfl) (by kernel_rfl) (fun _ _ _ h => h) (Or.inl ⟨by rfl, fun w hSw => by have f := (HC.out w hSw).2.2.2; go_simp⟩) hH ?_
                  try simp only [Act.put, List.setIfInBounds_toArray, List.set_cons_zero, List.set_cons_succ, List.getElem_toArray, List.getElem_cons_succ, List.getElem_cons_zero]
                  refine wpAnyH_ready (rs := [17]) (by kernel_rfl) (by simp) ?_
                  refine AllReadyH.cons rfl (fun K hK => ?_) AllReadyH.nil
                  go_simp
                  go_at_call 26
                  refine (HHas.out _ (by first | exact drewBelow _ _ | exact chain (drewBelow _ _) (drewBelow _ _) | exact chain (drewBelow _ _) (below_drew _) | exact below_drew _)).mono ?_
                  rintro e w17 ⟨rfl, rfl⟩
                  refine hK.out _ _ hH (fun _ => ?_)
                  clear hK K
                  try simp only [Act.put, List.setIfInBounds_toArray, List.set_cons_zero, List.set_cons_succ, List.getElem_toArray, List.getElem_cons_succ, List.getElem_cons_zero]
                  cases hha : hasB arts ar
                  · skip
                    refine wpAnyH_take (i := 18) (v := .bool false) rfl (by kernel_rfl) (by kernel_rfl) (by kernel_rfl) (fun _ _ _ h => h) (Or.inl ⟨by rfl, fun w hSw => by go_simp⟩) hH ?_
                    try simp only [Act.put, List.setIfInBounds_toArray, List.set_cons_zero, List.set_cons_succ, List.getElem_toArray, List.getElem_cons_succ, List.getElem_cons_zero]
                    refine wpAnyH_take (i := 19) (v := .bool false) rfl (by kernel_rfl) (by kernel_rfl) (by kernel_rfl) (fun _ _ _ h => h) (Or.inl ⟨by rfl, fun w hSw => by go_simp⟩) hH ?_
                    try simp only [Act.put, List.setIfInBounds_toArray, List.set_cons_zero, List.set_cons_succ, List.getElem_toArray, List.getElem_cons_succ, List.getElem_cons_zero]
                    refine wpAnyH_take (i := 20) (v := undef) rfl (by kernel_rfl) (by kernel_rfl) (by kernel_rfl) (fun _ _ _ h => h) (Or.inr ⟨by rfl, rfl⟩) hH ?_
                    try simp only [Act.put, List.setIfInBounds_toArray, List.set_cons_zero, List.set_cons_succ, List.getElem_toArray, List.getElem_cons_succ, List.getElem_cons_zero]
                    refine wpAnyH_take (i := 21) (v := undef) rfl (by kernel_rfl) (by kernel_rfl) (by kernel_rfl) (fun _ _ _ h => h) (Or.inr ⟨by rfl, rfl⟩) hH ?_
                    try simp only [Act.put, List.setIfInBounds_toArray, List.set_cons_zero, List.set_cons_succ, List.getElem_toArray, List.getElem_cons_succ, List.getElem_cons_zero]
                    refine wpAnyH_take (i := 22) (v := undef) rfl (by kernel_rfl) (by kernel_rfl) (by kernel_rfl) (fun _ _ _ h => h) (Or.inr ⟨by rfl, rfl⟩) hH ?_
                    try simp only [Act.put, List.setIfInBounds_toArray, List.set_cons_zero, List.set_cons_succ, List.getElem_toArray, List.getElem_cons_succ, List.getElem_cons_zero]
                    refine wpAnyH_take (i := 23) (v := .bool false) rfl (by kernel_rfl) (by kernel_rfl) (by kernel_rfl) (fun _ _ _ h => h) (Or.inl ⟨by rfl, fun w hSw => by go_simp⟩) hH ?_
                    try simp only [Act.put, List.setIfInBounds_toArray, List.set_cons_zero, List.set_cons_succ, List.getElem_toArray, List.getElem_cons_succ, List.getElem_cons_zero]
                    refine wpAnyH_done (by kernel_rfl) ?_ _
                    clear HC HB HCh2 HHas
                    go_wp2_with fail
                    go_roundw
                    case rel => exact ⟨k + 1, l, h, cc, at2, sd2, by go_num, by omega, by omega, HI.out, by omega, HB2.out _ (by first | exact drewBelow _ _ | exact chain (drewBelow _ _) (drewBelow _ _) | exact chain (drewBelow _ _) (below_drew _) | exact below_drew _)⟩
                    case measure => simp [intOf]; omega
                  · skip
                    refine wpAnyH_take (i := 18) (v := .bool true) rfl (by kernel_rfl) (by kernel_rfl) (by kernel_rfl) (fun _ _ _ h => h) (Or.inl ⟨by rfl, fun w hSw => by go_simp⟩) hH ?_
                    try simp only [Act.put, List.setIfInBounds_toArray, List.set_cons_zero, List.set_cons_succ, List.getElem_toArray, List.getElem_cons_succ, List.getElem_cons_zero]
                    refine wpAnyH_take (i := 19) (v := .bool true) rfl (by kernel_rfl) (by kernel_rfl) (by kernel_rfl) (fun _ _ _ h => h) (Or.inl ⟨by rfl, fun w hSw => by go_simp⟩) hH ?_
                    try simp only [Act.put, List.setIfInBounds_toArray, List.set_cons_zero, List.set_cons_succ, List.getElem_toArray, List.getElem_cons_succ, List.getElem_cons_zero]
                    refine wpAnyH_take (i := 20) (v := .pointer (some ⟨b, 0, none⟩)) rfl (by kernel_rfl) (by kernel_rfl) (by kernel_rfl) (fun _ _ _ h => h) (Or.inl ⟨by rfl, fun w hSw => by go_simp⟩) hH ?_
                    try simp only [Act.put, List.setIfInBounds_toArray, List.set_cons_zero, List.set_cons_succ, List.getElem_toArray, List.getElem_cons_succ, List.getElem_cons_zero]
                    refine wpAnyH_ready (rs := [21]) (by kernel_rfl) (by simp) ?_
                    refine AllReadyH.cons rfl (fun K hK => ?_) AllReadyH.nil
                    go_simp
                    go_at_call 25
                    refine (HCh2.out _ (by first | exact drewBelow _ _ | exact chain (drewBelow _ _) (drewBelow _ _) | exact chain (drewBelow _ _) (below_drew _) | exact below_drew _)).mono ?_
                    rintro e w21 ⟨x, a21, s21, rfl, ql21, hB21, hA21⟩
                    have h21 : Apart b wr w21 := apart_trans hH hA21
                    have HB21 : Hid (UuB w b a len cap us.length g cp cs C (w.heap.size + 1) T ub a21 s21 ub h cc (m : Int) l w21) := hB21
                    clear hB21 hA21 hH
                    refine hK.out _ _ h21 (fun _ => ?_)
                    clear hK K
                    try simp only [Act.put, List.setIfInBounds_toArray, List.set_cons_zero, List.set_cons_succ, List.getElem_toArray, List.getElem_cons_succ, List.getElem_cons_zero]
                    cases x
                    · skip
                      refine wpAnyH_take (i := 22) (v := .bool true) rfl (by kernel_rfl) (by kernel_rfl) (by kernel_rfl) (fun _ _ _ h => h) (Or.inl ⟨by rfl, fun w hSw => by go_simp⟩) h21 ?_
                      try simp only [Act.put, List.setIfInBounds_toArray, List.set_cons_zero, List.set_cons_succ, List.getElem_toArray, List.getElem_cons_succ, List.getElem_cons_zero]
                      refine wpAnyH_take (i := 23) (v := .bool true) rfl (by kernel_rfl) (by kernel_rfl) (by kernel_rfl) (fun _ _ _ h => h) (Or.inl ⟨by rfl, fun w hSw => by go_simp⟩) h21 ?_
                      try simp only [Act.put, List.setIfInBounds_toArray, List.set_cons_zero, List.set_cons_succ, List.getElem_toArray, List.getElem_cons_succ, List.getElem_cons_zero]
                      refine wpAnyH_done (by kernel_rfl) ?_ _
                      clear h21 HC HB HB2 HCh2 HHas
                      have b2 := blkCell HB21.out.box 2 _ rfl
                      have HR11 : Hid ((w21.alloc (Obj.cells #[.int .i64 (k : Int)] 3)).ownsRow ub 3 1 (.slice h l.length cc) l.length (l.map (.int .i64))) := HB21.out.us.alloc _
                      have HB11 : Hid (ub ≤ (w21.alloc (Obj.cells #[.int .i64 (k : Int)] 3)).heap.size) := le_alloc HB21.out.st.top _
                      have HN11 : Hid (∀ j u, [Value.int .i64 (k : Int)][j]? = some u → (w21.alloc (Obj.cells #[.int .i64 (k : Int)] 3)).cell? ((⟨w21.heap.size, 0, none⟩ : Addr).add j) = some u) := newsZ w21 w21.heap.size rfl #[.int .i64 (k : Int)] _
                      go_wp2_with (at_builtin; refine wpList_append_any rfl _ _ 34 rfl ub 3 iti (.int .i64 0) 1 8 Try.underlying34 hii hii0 hii1 hii2 rfl (by decide) _ _ _ rfl HR11.out (some ⟨w21.heap.size, 0, none⟩) 1 1 [.int .i64 (k : Int)] rfl rfl (fun _ => ⟨_, rfl, HN11.out⟩) (by simp [Value.oneCell']) (by unfold maxLen; omega) (by omega) HB11.out ?_; intro va vc w23 hown23 hgr23 hat23; have hmo := HB21.out.more hown23 hgr23; have HD : Hid (UuB w b a len cap us.length g cp cs C (w.heap.size + 1) T ub a21 s21 ub va vc (m : Int) (l ++ [(k : Int)]) (w23.setCell ⟨ub, 2, none⟩ (.slice va (l.length + 1) vc))) := hmo.2; have g2 := blkCell hmo.1 2 _ rfl; have k2 := blkFree hmo.1 2; have hl23 : ub < w23.heap.size := blkLt hmo.1; clear hmo hown23 hgr23 hat23 b2)
                      go_roundw
                      case rel => exact ⟨k + 1, l ++ [(k : Int)], va, vc, a21, s21, by go_num, by omega, by simp; omega, in_push HI.out hlt, by omega, HD.out⟩
                      case measure => simp [intOf]; omega
                    · skip
                      refine wpAnyH_take (i := 22) (v := .bool false) rfl (by kernel_rfl) (by kernel_rfl) (by kernel_rfl) (fun _ _ _ h => h) (Or.inl ⟨by rfl, fun w hSw => by go_simp⟩) h21 ?_
                      try simp only [Act.put, List.setIfInBounds_toArray, List.set_cons_zero, List.set_cons_succ, List.getElem_toArray, List.getElem_cons_succ, List.getElem_cons_zero]
                      refine wpAnyH_take (i := 23) (v := .bool false) rfl (by kernel_rfl) (by kernel_rfl) (by kernel_rfl) (fun _ _ _ h => h) (Or.inl ⟨by rfl, fun w hSw => by go_simp⟩) h21 ?_
                      try simp only [Act.put, List.setIfInBounds_toArray, List.set_cons_zero, List.set_cons_succ, List.getElem_toArray, List.getElem_cons_succ, List.getElem_cons_zero]
                      refine wpAnyH_done (by kernel_rfl) ?_ _
                      clear h21 HC HB HB2 HCh2 HHas
                      go_wp2_with fail
                      go_roundw
                      case rel => exact ⟨k + 1, l, h, cc, a21, s21, by go_num, by omega, by omega, HI.out, by omega, HB21.out⟩
                      case measure => simp [intOf]; omega
                · rw [hTk] at t0
                  go_quiet (fail)
                  go_wp2_with fail
                  go_roundw
                  case rel => exact ⟨k + 1, l, h, cc, at2, sd2, by go_num, by omega, by omega, HI.out, by omega, HB2.out _ (by first | exact drewBelow _ _ | exact chain (drewBelow _ _) (drewBelow _ _) | exact chain (drewBelow _ _) (below_drew _) | exact below_drew _)⟩
                  case measure => simp [intOf]; omega
              · have hdn : decide ((l.length : Int) < nd) = false := decide_eq_false hnl
                go_wp2_with fail
                go_quiet (fail)
                go_wp2_with fail
                have HB2 : Hid (∀ W, Below wr.heap.size wr W → UuB w b a len cap us.length g cp cs C (w.heap.size + 1) T ub at2 sd2 ub h cc (m : Int) l W) := fun W hb => HB.out.later hb
                have hl7 : l.length ≤ 7 := by omega
                by_cases hq : (l.length : Int) = nd
                · have hbq : ((l.length : Int) == nd) = true := by simpa using hq
                  clear hq
                  go_quiet (fail)
                  go_wp2_with fail
                  go_loopw [12] (fun c wx => ∃ (j : Nat) (T' : Nat → Bool), c = .int .i64 (j : Int) ∧ j ≤ l.length ∧ UuB w b a len cap us.length g cp cs C (w.heap.size + 1) T' ub at2 sd2 ub h cc (m : Int) l wx) (fun c _ => l.length - (intOf c).toNat)
                  case atStart => exact ⟨0, T, rfl, Nat.zero_le _, HB2.out _ (by first | exact drewBelow _ _ | exact chain (drewBelow _ _) (drewBelow _ _) | exact chain (drewBelow _ _) (below_drew _) | exact below_drew _)⟩
                  case round =>
                    clear HB HB2 b0 b1 b2 f2 e2 e3 HRS
                    obtain ⟨j, T', rfl, hj, hB⟩ := hrel
                    have HB : Hid (UuB w b a len cap us.length g cp cs C (w.heap.size + 1) T' ub at2 sd2 ub h cc (m : Int) l wr) := hB
                    clear hB
                    have b0 := blkCell HB.out.box 0 _ rfl
                    have b1 := blkCell HB.out.box 1 _ rfl
                    have b2 := blkCell HB.out.box 2 _ rfl
                    by_cases hjl : j < l.length
                    · have hjl' : (j : Int) < (l.length : Int) := by omega
                      obtain ⟨t, ht, het⟩ := HI.out (l.getD j 0) (by simp [List.getD_eq_getElem?_getD, hjl])
                      obtain ⟨hg, cg, eh⟩ := row_some HB.out.us (by omega)
                      simp only [Value.slice.injEq] at eh
                      obtain ⟨eh, _, _⟩ := eh
                      subst eh
                      have ht' : (t : Int) < (us.length : Int) := by omega
                      have ec : wr.cell? ⟨hg, j, none⟩ = some (.int .i64 (t : Int)) := by rw [HB.out.us.cellAt j (by omega), ← het]; simp [List.getD_eq_getElem?_getD, hjl]
                      have tc := HB.out.st.tk.cell (i := t) ht
                      have tf := HB.out.st.tk.frozen t
                      have HTk : Hid (UuB w b a len cap us.length g cp cs C (w.heap.size + 1) (fun x => if x = t then true else T' x) ub at2 sd2 ub (some ⟨hg, 0, none⟩) cc (m : Int) l (wr.setCell ⟨w.heap.size + 1, t, none⟩ (.bool true))) := HB.out.take t
                      clear het
                      go_wp2_with fail
                      go_roundw
                      case rel => exact ⟨j + 1, _, by go_num, by omega, HTk.out⟩
                      case measure => simp [intOf]; omega
                    · have hjl' : ¬ (j : Int) < (l.length : Int) := by omega
                      have HR9 : Hid ((wr.alloc (Obj.cells #[.int .i64 (m : Int), .int .i64 0, .slice h l.length cc] 36)).ownsRow w.heap.size 36 3 (.slice (some ⟨g, 0, none⟩) cs.length cp) cs.length C) := HB.out.st.row.alloc _
                      have HB9 : Hid (w.heap.size ≤ (wr.alloc (Obj.cells #[.int .i64 (m : Int), .int .i64 0, .slice h l.length cc] 36)).heap.size) := le_alloc HB.out.st.ap.1 _
                      have HNw : Hid (∀ j u, [.int .i64 (m : Int), .int .i64 0, .slice h l.length cc][j]? = some u → (wr.alloc (Obj.cells #[.int .i64 (m : Int), .int .i64 0, .slice h l.length cc] 36)).cell? ((⟨wr.heap.size, 0, none⟩ : Addr).add j) = some u) := newsZ wr wr.heap.size rfl #[.int .i64 (m : Int), .int .i64 0, .slice h l.length cc] _
                      go_wp2_with (at_builtin; refine wpList_append_lies _ rfl _ _ 25 rfl w.heap.size 36 i0 (.agg #[.int .i64 0, .int .i64 0, .slice none 0 0]) 3 40 Try.underlying25 hti hi0 hi1 hi2 rfl (by decide) _ _ _ rfl HR9.out ⟨wr.heap.size, 0, none⟩ 1 1 [.int .i64 (m : Int), .int .i64 0, .slice h l.length cc] rfl rfl HNw.out (by simp [Value.oneCell']) (by omega) (by unfold maxLen; omega) (by omega) HB9.out _ rfl ?_; intro g9 c9 w9 hown9 hgrow9 hat9 hglt9; have H9 : Hid (UuSt w b a len cap us.length g9 c9 (cs ++ [⟨(m : Int), 0, l⟩]) _ (w.heap.size + 1) T' w9.heap.size at2 sd2 w9) := HB.out.push hown9 hgrow9; clear hown9 hgrow9 hat9 hglt9)
                      go_roundw
                      case rel => exact ⟨cs ++ [⟨(m : Int), 0, l⟩], _, g9, c9, T', w9.heap.size, i - 1, at2, sd2, by simp, by go_num, by omega, by simp; omega, by omega, us_push HL.out hl7, H9.out⟩
                      case measure => simp [intOf]; omega
                · have hbq : ((l.length : Int) == nd) = false := by simpa using hq
                  clear hq
                  go_quiet (fail)
                  go_wp2_with fail
                  go_roundw
                  case rel => exact ⟨cs, C, g, cp, T, ub, i - 1, at2, sd2, rfl, by go_num, by omega, by omega, by omega, HL.out, (HB2.out _ (by first | exact drewBelow _ _ | exact chain (drewBelow _ _) (drewBelow _ _) | exact chain (drewBelow _ _) (below_drew _) | exact below_drew _)).st⟩
                  case measure => simp [intOf]; omega
            · have hlt' : ¬ (k : Int) < (us.length : Int) := by omega
              go_wp2_with fail
              go_quiet (fail)
              go_wp2_with fail
              have HB2 : Hid (∀ W, Below wr.heap.size wr W → UuB w b a len cap us.length g cp cs C (w.heap.size + 1) T ub at2 sd2 ub h cc (m : Int) l W) := fun W hb => HB.out.later hb
              have hl7 : l.length ≤ 7 := by omega
              by_cases hq : (l.length : Int) = nd
              · have hbq : ((l.length : Int) == nd) = true := by simpa using hq
                clear hq
                go_quiet (fail)
                go_wp2_with fail
                go_loopw [12] (fun c wx => ∃ (j : Nat) (T' : Nat → Bool), c = .int .i64 (j : Int) ∧ j ≤ l.length ∧ UuB w b a len cap us.length g cp cs C (w.heap.size + 1) T' ub at2 sd2 ub h cc (m : Int) l wx) (fun c _ => l.length - (intOf c).toNat)
                case atStart => exact ⟨0, T, rfl, Nat.zero_le _, HB2.out _ (by first | exact drewBelow _ _ | exact chain (drewBelow _ _) (drewBelow _ _) | exact chain (drewBelow _ _) (below_drew _) | exact below_drew _)⟩
                case round =>
                  clear HB HB2 b0 b1 b2 f2 e2 e3 HRS
                  obtain ⟨j, T', rfl, hj, hB⟩ := hrel
                  have HB : Hid (UuB w b a len cap us.length g cp cs C (w.heap.size + 1) T' ub at2 sd2 ub h cc (m : Int) l wr) := hB
                  clear hB
                  have b0 := blkCell HB.out.box 0 _ rfl
                  have b1 := blkCell HB.out.box 1 _ rfl
                  have b2 := blkCell HB.out.box 2 _ rfl
                  by_cases hjl : j < l.length
                  · have hjl' : (j : Int) < (l.length : Int) := by omega
                    obtain ⟨t, ht, het⟩ := HI.out (l.getD j 0) (by simp [List.getD_eq_getElem?_getD, hjl])
                    obtain ⟨hg, cg, eh⟩ := row_some HB.out.us (by omega)
                    simp only [Value.slice.injEq] at eh
                    obtain ⟨eh, _, _⟩ := eh
                    subst eh
                    have ht' : (t : Int) < (us.length : Int) := by omega
                    have ec : wr.cell? ⟨hg, j, none⟩ = some (.int .i64 (t : Int)) := by rw [HB.out.us.cellAt j (by omega), ← het]; simp [List.getD_eq_getElem?_getD, hjl]
                    have tc := HB.out.st.tk.cell (i := t) ht
                    have tf := HB.out.st.tk.frozen t
                    have HTk : Hid (UuB w b a len cap us.length g cp cs C (w.heap.size + 1) (fun x => if x = t then true else T' x) ub at2 sd2 ub (some ⟨hg, 0, none⟩) cc (m : Int) l (wr.setCell ⟨w.heap.size + 1, t, none⟩ (.bool true))) := HB.out.take t
                    clear het
                    go_wp2_with fail
                    go_roundw
                    case rel => exact ⟨j + 1, _, by go_num, by omega, HTk.out⟩
                    case measure => simp [intOf]; omega
                  · have hjl' : ¬ (j : Int) < (l.length : Int) := by omega
                    have HR9 : Hid ((wr.alloc (Obj.cells #[.int .i64 (m : Int), .int .i64 0, .slice h l.length cc] 36)).ownsRow w.heap.size 36 3 (.slice (some ⟨g, 0, none⟩) cs.length cp) cs.length C) := HB.out.st.row.alloc _
                    have HB9 : Hid (w.heap.size ≤ (wr.alloc (Obj.cells #[.int .i64 (m : Int), .int .i64 0, .slice h l.length cc] 36)).heap.size) := le_alloc HB.out.st.ap.1 _
                    have HNw : Hid (∀ j u, [.int .i64 (m : Int), .int .i64 0, .slice h l.length cc][j]? = some u → (wr.alloc (Obj.cells #[.int .i64 (m : Int), .int .i64 0, .slice h l.length cc] 36)).cell? ((⟨wr.heap.size, 0, none⟩ : Addr).add j) = some u) := newsZ wr wr.heap.size rfl #[.int .i64 (m : Int), .int .i64 0, .slice h l.length cc] _
                    go_wp2_with (at_builtin; refine wpList_append_lies _ rfl _ _ 25 rfl w.heap.size 36 i0 (.agg #[.int .i64 0, .int .i64 0, .slice none 0 0]) 3 40 Try.underlying25 hti hi0 hi1 hi2 rfl (by decide) _ _ _ rfl HR9.out ⟨wr.heap.size, 0, none⟩ 1 1 [.int .i64 (m : Int), .int .i64 0, .slice h l.length cc] rfl rfl HNw.out (by simp [Value.oneCell']) (by omega) (by unfold maxLen; omega) (by omega) HB9.out _ rfl ?_; intro g9 c9 w9 hown9 hgrow9 hat9 hglt9; have H9 : Hid (UuSt w b a len cap us.length g9 c9 (cs ++ [⟨(m : Int), 0, l⟩]) _ (w.heap.size + 1) T' w9.heap.size at2 sd2 w9) := HB.out.push hown9 hgrow9; clear hown9 hgrow9 hat9 hglt9)
                    go_roundw
                    case rel => exact ⟨cs ++ [⟨(m : Int), 0, l⟩], _, g9, c9, T', w9.heap.size, i - 1, at2, sd2, by simp, by go_num, by omega, by simp; omega, by omega, us_push HL.out hl7, H9.out⟩
                    case measure => simp [intOf]; omega
              · have hbq : ((l.length : Int) == nd) = false := by simpa using hq
                clear hq
                go_quiet (fail)
                go_wp2_with fail
                go_roundw
                case rel => exact ⟨cs, C, g, cp, T, ub, i - 1, at2, sd2, rfl, by go_num, by omega, by omega, by omega, HL.out, (HB2.out _ (by first | exact drewBelow _ _ | exact chain (drewBelow _ _) (drewBelow _ _) | exact chain (drewBelow _ _) (below_drew _) | exact below_drew _)).st⟩
                case measure => simp [intOf]; omega
end Go.Proofs.Ytkfmifbffgbiiaa

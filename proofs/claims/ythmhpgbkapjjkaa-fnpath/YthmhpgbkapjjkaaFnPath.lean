/-
  For every code the law FnPath answers true, with no condition: drawn picks are right; the program's way over them is as long as it tells and as long the other way round, no drawn order is shorter, and a pick less is no longer.
-/
import Derived.Test.YthmhpgbkapjjkaaBpD
import Derived.Test.YthmhpgbkapjjkaaBpH
import Derived.Test.YthmhpgbkapjjkaaPlC
import Derived.Test.YthmhpgbkapjjkaaPkE
import Derived.Test.YthmhpgbkapjjkaaPkG
import Derived.Test.YthmhpgbkapjjkaaFqM
import Derived.Test.YthmhpgbkapjjkaaLwSame
namespace Go.Proofs.Ythmhpgbkapjjkaa
open Go.ChangeShapes Go.WideShapes Go.ChangeAt Go.RowKit Go.Joins Go.Deep
set_option linter.unusedVariables false

theorem lf_range (n : Nat) : lfL [] n = List.range n := by
  unfold lfL unL
  rw [List.filter_eq_self]
  intro i _
  rfl
theorem spsB_of {a p : Int} : ∀ {rs : List RPt}, (∀ r ∈ rs, spB a p r = true) → spsB a p rs = true := by
  intro rs h
  unfold spsB
  rw [List.all_eq_true]
  exact h
theorem hall_right {A P G : Int} (h : (1 ≤ A ∧ A ≤ 6) ∧ (1 ≤ P ∧ P ≤ 12) ∧ 1 ≤ G ∧ G ≤ 4) : hlB A P G = true := by
  unfold hlB inB
  simp only [Bool.and_eq_true, decide_eq_true_eq]
  omega
theorem spot_right {A P : Int} {r : RPt} (h : (0 ≤ r.ai ∧ r.ai < A) ∧ 0 ≤ r.pl ∧ r.pl < P + 2) : spB A P r = true := by
  unfold spB inB
  simp only [Bool.and_eq_true, decide_eq_true_eq]
  omega
theorem bp_right {A P G : Int} {rs : List RPt} (hh : hlB A P G = true) (hs : spsB A P rs = true) (h6 : rs.length ≤ 9) : bpC A P G rs = 0 ∧ bpL A P G rs = bpO P G rs ∧ bpN A P G rs = bestN P G rs := by
  rcases bp_ways A P G rs with ⟨t, _⟩ | ⟨_, t, _⟩ | ⟨_, t, _⟩ | ⟨_, _, _, h1, h2, h3⟩
  · omega
  · omega
  · rw [hh, hs] at t; cases t
  · refine ⟨h1, h2, h3.trans ?_⟩
    unfold bpV bestN
    rw [lf_range]
theorem pl_right {A P G : Int} {rs : List RPt} {os : List Int} (hh : hlB A P G = true) (hs : spsB A P rs = true) (h6 : rs.length ≤ 9) (ho : OnP os rs.length) : plC A P G rs os = 0 ∧ plV A P G rs os = wyN P G rs zPt os := by
  have hl := ho.len
  have hb := (on_iff os rs.length).2 ho
  rcases pl_ways A P G rs os with ⟨t, _⟩ | ⟨_, _, t, _⟩ | ⟨_, _, t, _⟩ | ⟨_, _, _, _, t, _⟩ | ⟨_, _, _, _, _, h1, h2⟩
  · omega
  · omega
  · rw [hh, hs] at t; cases t
  · rw [hb] at t; cases t
  · exact ⟨h1, h2⟩
theorem bt_right {A P G : Int} {r : RPt} (hh : hlB A P G = true) (hr : spB A P r = true) : btC A P G 0 0 r.ai r.pl = 0 ∧ btV A P G 0 0 r.ai r.pl = farN P G zPt r := by
  rcases bt_ways A P G 0 0 r.ai r.pl with ⟨_, _, _, h1, h2⟩ | ⟨t, _⟩
  · exact ⟨h1, h2⟩
  · rw [hh, show spB A P ⟨0, 0⟩ = true from sp_z hh, show spB A P ⟨r.ai, r.pl⟩ = true from hr] at t
    cases t
theorem bestN_nil (p g : Int) : bestN p g [] = 0 := by
  show farN p g zPt zPt = 0
  unfold farN apN zPt
  rw [if_pos rfl]
  omega
theorem pts_tail {B : Nat} {w : World} {g : Nat} {r : RPt} {rs : List RPt} (h : ReadsPt B w (some ⟨g, 0, none⟩) (r :: rs)) : ReadsPt B w (some ⟨g, 2, none⟩) rs ∧ PtAt w g 0 r := by
  rcases h with h | ⟨b, o, e, hB, hat⟩
  · cases h
  · cases e
    refine ⟨.inr ⟨g, 2, rfl, hB, fun i hi => ?_⟩, ?_⟩
    · have := hat (i + 1) (by simpa using hi)
      rw [show 0 + (i + 1) * 2 = 2 + i * 2 by omega] at this
      simpa using this
    · have := hat 0 (by simp)
      simpa using this

theorem tour_bd {a p g : Int} (hh : hlB a p g = true) : ∀ (S : List RPt) (q : RPt), spB a p q = true → (∀ s ∈ S, spB a p s = true) → 0 ≤ tourN p g q S ∧ tourN p g q S ≤ 2300 * ((S.length : Int) + 1)
  | [], q, hq, _ => by
    have := farN_bd hh hq (sp_z hh)
    show 0 ≤ farN p g q zPt ∧ farN p g q zPt ≤ 2300 * ((0 : Int) + 1)
    omega
  | s :: S, q, hq, hS => by
    have h1 := tour_bd hh S s (hS s (by simp)) (fun t ht => hS t (List.mem_cons_of_mem _ ht))
    have h2 := farN_bd hh hq (hS s (by simp))
    show 0 ≤ farN p g q s + tourN p g s S ∧ farN p g q s + tourN p g s S ≤ 2300 * (((S.length + 1 : Nat) : Int) + 1)
    omega
theorem bestN_bd {a p g : Int} (hh : hlB a p g = true) {rs : List RPt} (hs : ∀ s ∈ rs, spB a p s = true) (hl : rs.length ≤ 9) : 0 ≤ bestN p g rs ∧ bestN p g rs ≤ 23000 := by
  obtain ⟨S, h1, h2⟩ := best_at p g rs
  have := tour_bd hh S zPt (sp_z hh) (fun s hm => hs s (h1.mem_iff.1 hm))
  have hL := h1.length_eq
  rw [← h2]
  omega

namespace FnPath
set_option maxHeartbeats 16000000 in
set_option maxRecDepth 8000 in
theorem walk (a0 : Option Addr) (len0 cap0 : Nat) (z0 : List Int) (w : World) (r0 : RowB w.heap.size w a0 len0 z0) :
    Calls Try.prog 3 #[.slice a0 len0 cap0] w fun e w' => e = .returned (.bool true) ∧ Below w.heap.size w w' := by
  by_cases hbig : (1048576 : Int) < (len0 : Int)
  · clear r0
    go_enter Try.func3, Try.ntmps3
    go_wp2
    go_ret
    exact ⟨rfl, Below.refl _ _⟩
  have hT := picksOf_any a0 len0 cap0 z0 w r0
  clear r0
  go_enter Try.func3, Try.ntmps3
  go_wp2_with fail
  (first | go_at_call 7 | skip)
  refine hT.mono ?_
  rintro e w1 ⟨A, P, G, rs, L, g0, cp, gL, cL, rfl, hdim, h6, hall, hon, hcp, hA, hL, hb⟩
  obtain ⟨ad, had⟩ : ∃ ad : Option Addr, ad = some ⟨g0, 0, none⟩ := ⟨_, rfl⟩
  obtain ⟨al, hal⟩ : ∃ al : Option Addr, al = some ⟨gL, 0, none⟩ := ⟨_, rfl⟩
  rw [← had] at hA ⊢
  rw [← hal] at hL ⊢
  clear hal
  have A1 : Hid (ReadsPt w1.heap.size w1 ad rs) := hA
  have R1 : Hid (Reads w1.heap.size w1 al L) := hL
  have B1 : Hid (Below w.heap.size w w1) := hb
  have HAd : Hid (ad = some ⟨g0, 0, none⟩) := had
  clear hA hL hb hT hbig had
  have hh := hall_right hdim
  have hsp : ∀ r ∈ rs, spB A P r = true := fun r hr => spot_right (hall r hr)
  have hsps := spsB_of hsp
  obtain ⟨hbc, hbl, hbn⟩ := bp_right hh hsps (by omega)
  obtain ⟨hpo, hpn⟩ := path_best P G rs
  obtain ⟨hle, _⟩ := path_orders P G hon
  obtain ⟨_, hrev⟩ := path_orders P G hpo
  rw [← lf_range] at hpo hpn hrev
  obtain ⟨O, hO⟩ : ∃ O, O = bpO P G rs := ⟨_, rfl⟩
  rw [show bsO P G rs rs.length (lfL [] rs.length) zPt = O from hO.symm] at hpo hpn hrev
  rw [← hO] at hbl
  obtain ⟨n0, hn0⟩ : ∃ n0, n0 = bestN P G rs := ⟨_, rfl⟩
  obtain ⟨ml, hml⟩ : ∃ ml, ml = wyN P G rs zPt L := ⟨_, rfl⟩
  have hOl := hpo.len
  have hLl := hon.len
  have HB : Hid (∀ W, ReadsPt W.heap.size W ad rs → Calls Try.prog 8 #[.agg #[.int .i64 A, .int .i64 P, .int .i64 G], .slice ad rs.length cp] W fun e w' => ∃ q c, e = .returned (.tuple #[.slice q rs.length c, .int .i64 n0, .int .i64 0]) ∧ Reads w'.heap.size w' q O ∧ Below W.heap.size W w') := fun W h => by
    have := implBest_any A P G ad cp rs (by omega) W h
    rw [hbc, hbl, hbn, ← hn0] at this
    refine this.mono ?_
    rintro e w' ⟨q, c, he, hrow, hb⟩
    rw [hOl] at he
    exact ⟨q, c, he, ((row_reads hrow).mono (Nat.le_refl _)), hb⟩
  have HS : Hid (∀ W, ReadsPt W.heap.size W ad rs → Calls Try.prog 10 #[.agg #[.int .i64 A, .int .i64 P, .int .i64 G], .slice ad rs.length cp] W fun e w' => ∃ q n c, e = .returned (.tuple #[.slice q n c, .int .i64 n0, .int .i64 0]) ∧ Below W.heap.size W w') := fun W h => by
    have := specBest_any A P G ad cp rs (by omega) W h
    rw [hbc, hbl, hbn, ← hn0] at this
    refine this.mono ?_
    rintro e w' ⟨q, c, he, _, hb⟩
    exact ⟨q, _, c, he, hb⟩
  have HPL : Hid (∀ W q c, ReadsPt W.heap.size W ad rs → Reads W.heap.size W q L → Calls Try.prog 9 #[.agg #[.int .i64 A, .int .i64 P, .int .i64 G], .slice ad rs.length cp, .slice q rs.length c] W fun e w' => e = .returned (.tuple #[.int .i64 ml, .int .i64 0]) ∧ Below W.heap.size W w') := fun W q c h1 h2 => by
    have := implPath_any A P G ad cp rs q c L (by omega) (by omega) W h1 h2
    rw [(pl_right hh hsps (by omega) hon).1, (pl_right hh hsps (by omega) hon).2, ← hml, hLl] at this
    exact this
  have HPO : Hid (∀ W q c, ReadsPt W.heap.size W ad rs → Reads W.heap.size W q O → Calls Try.prog 9 #[.agg #[.int .i64 A, .int .i64 P, .int .i64 G], .slice ad rs.length cp, .slice q rs.length c] W fun e w' => e = .returned (.tuple #[.int .i64 n0, .int .i64 0]) ∧ Below W.heap.size W w') := fun W q c h1 h2 => by
    have := implPath_any A P G ad cp rs q c O (by omega) (by omega) W h1 h2
    rw [(pl_right hh hsps (by omega) hpo).1, (pl_right hh hsps (by omega) hpo).2, hpn, ← hn0, hOl] at this
    exact this
  have HPR : Hid (∀ W q c, ReadsPt W.heap.size W ad rs → Reads W.heap.size W q O.reverse → Calls Try.prog 9 #[.agg #[.int .i64 A, .int .i64 P, .int .i64 G], .slice ad rs.length cp, .slice q rs.length c] W fun e w' => e = .returned (.tuple #[.int .i64 n0, .int .i64 0]) ∧ Below W.heap.size W w') := fun W q c h1 h2 => by
    have hr := onP_reverse hpo
    have hrl := hr.len
    have := implPath_any A P G ad cp rs q c O.reverse (by omega) (by omega) W h1 h2
    rw [(pl_right hh hsps (by omega) hr).1, (pl_right hh hsps (by omega) hr).2, hrev, hpn, ← hn0, hrl] at this
    exact this
  have HZ : Hid (rs.length = 0 → n0 = 0) := fun h => by
    rw [hn0, List.eq_nil_of_length_eq_zero h]
    exact bestN_nil P G
  have HY : Hid (∀ r rs2, rs = r :: rs2 → ∃ ls a1, (Hid (∀ W q c, ReadsPt W.heap.size W q rs2 → Calls Try.prog 8 #[.agg #[.int .i64 A, .int .i64 P, .int .i64 G], .slice q rs2.length c] W fun e w' => ∃ q n c, e = .returned (.tuple #[.slice q n c, .int .i64 ls, .int .i64 0]) ∧ Below W.heap.size W w')) ∧ (Hid (∀ W, Calls Try.prog 11 #[.agg #[.int .i64 A, .int .i64 P, .int .i64 G], .agg #[.int .i64 0, .int .i64 0], .agg #[.int .i64 r.ai, .int .i64 r.pl]] W fun e w' => e = .returned (.tuple #[.int .i64 a1, .int .i64 0]) ∧ Below W.heap.size W w')) ∧ Hid (ls ≤ n0 ∧ 2 * a1 ≤ n0 ∧ n0 ≤ ls + 2 * a1 ∧ 0 ≤ a1 ∧ a1 ≤ 2300 ∧ -10000 ≤ ls ∧ n0 ≤ 100000000)) := fun r rs2 hrs => by
    have hs2 : ∀ s ∈ r :: rs2, spB A P s = true := by rw [← hrs]; exact hsp
    have hr := hs2 r (by simp)
    obtain ⟨k1, k2, k3⟩ := best_less hh hs2
    have hb2 := farN_bd hh (sp_z hh) hr
    have hss2 : spsB A P rs2 = true := spsB_of fun s hs => hs2 s (List.mem_cons_of_mem _ hs)
    have hl2 : rs2.length + 1 = rs.length := by rw [hrs]; rfl
    obtain ⟨m1, m2, m3⟩ := bp_right hh hss2 (by omega)
    refine ⟨bestN P G rs2, farN P G zPt r, fun W q c h => ?_, fun W => ?_, ?_⟩
    · have := implBest_any A P G q c rs2 (by omega) W h
      rw [m1, m3] at this
      refine this.mono ?_
      rintro e w' ⟨q, c, he, _, hb⟩
      exact ⟨q, _, c, he, hb⟩
    · have := impBetween_any A P G 0 0 r.ai r.pl W
      rw [(bt_right hh hr).1, (bt_right hh hr).2] at this
      exact this
    · show _ ∧ _ ∧ _ ∧ _ ∧ _ ∧ _ ∧ _
      rw [hn0, hrs]
      have hb3 := bestN_bd hh hs2 (by rw [← hrs]; omega)
      have hb4 := bestN_bd hh (rs := rs2) (fun s hs => hs2 s (List.mem_cons_of_mem _ hs)) (by omega)
      exact ⟨k1, k2, k3, hb2.1, hb2.2, by omega, by omega⟩
  rw [← hn0, ← hml] at hle
  rw [hLl]
  have HCp : Hid (∃ off, (cp = 1 ∧ off = 0 ∧ rs.length ≤ 1) ∨ (cp ≠ 1 ∧ off = 2)) := by
    by_cases h : cp = 1
    · exact ⟨0, .inl ⟨h, rfl, by omega⟩⟩
    · exact ⟨2, .inr ⟨h, rfl⟩⟩
  clear hcp hdim hall hon hh hsp hsps hbc hbl hbn hpo hpn hrev hO hn0 hml hLl
  as_aux_lemma =>
    obtain ⟨w2, hw2⟩ : ∃ w2, w2 = w1.alloc (Obj.cells #[.int .i64 A, .int .i64 P, .int .i64 G] 24) := ⟨_, rfl⟩
    obtain ⟨b3, hb3⟩ : ∃ b3, b3 = w1.heap.size := ⟨_, rfl⟩
    have HWw2 : Hid (w2 = w1.alloc (Obj.cells #[.int .i64 A, .int .i64 P, .int .i64 G] 24) ∧ b3 = w1.heap.size) := ⟨hw2, hb3⟩
    have hb : Below w1.heap.size w1 w2 := by rw [hw2]; exact below_alloc _ _
    have H2 : Hid (w2.heap[b3]? = some (.cells #[.int .i64 A, .int .i64 P, .int .i64 G] 24 (0, 0))) := by show _ = _; rw [hw2, hb3]; exact heapNew _ _
    clear hw2 hb3
    have A2 : Hid (ReadsPt w2.heap.size w2 ad rs) := ((A1.out.below hb).mono hb.size)
    have R2 : Hid (Reads w2.heap.size w2 al L) := ((R1.out.below hb).mono hb.size)
    have B2 : Hid (Below w.heap.size w w2) := chain B1.out hb
    clear hb A1 R1 B1
    go_upto_region 4 with fail
    rw [← HWw2.out.1, ← HWw2.out.2]
    clear HWw2
    have c0 := blkCell H2.out 0 _ rfl
    have c1 := blkCell H2.out 1 _ rfl
    have c2 := blkCell H2.out 2 _ rfl
    simp only [List.getElem_toArray, List.getElem_cons_zero, List.getElem_cons_succ] at c0 c1 c2
    go_wp2_with fail
    (first | go_at_call 8 | skip)
    refine (HB.out w2 A2.out).mono ?_
    rintro e w3 ⟨q3, c3, rfl, ho, hb⟩
    have O3 : Hid (Reads w3.heap.size w3 q3 O) := ho
    clear ho c0 c1 c2
    have A3 : Hid (ReadsPt w3.heap.size w3 ad rs) := ((A2.out.below hb).mono hb.size)
    have R3 : Hid (Reads w3.heap.size w3 al L) := ((R2.out.below hb).mono hb.size)
    have B3 : Hid (Below w.heap.size w w3) := chain B2.out hb
    have H3 : Hid (w3.heap[b3]? = some (.cells #[.int .i64 A, .int .i64 P, .int .i64 G] 24 (0, 0))) := (hb.block b3 (blkLt H2.out)).trans H2.out
    clear hb A2 R2 B2 H2
    have c0 := blkCell H3.out 0 _ rfl
    have c1 := blkCell H3.out 1 _ rfl
    have c2 := blkCell H3.out 2 _ rfl
    simp only [List.getElem_toArray, List.getElem_cons_zero, List.getElem_cons_succ] at c0 c1 c2
    go_wp2_with fail
    (first | go_at_call 9 | skip)
    refine (HPL.out w3 al cL A3.out R3.out).mono ?_
    rintro e w4 ⟨rfl, hb⟩
    clear c0 c1 c2
    have A4 : Hid (ReadsPt w4.heap.size w4 ad rs) := ((A3.out.below hb).mono hb.size)
    have B4 : Hid (Below w.heap.size w w4) := chain B3.out hb
    have H4 : Hid (w4.heap[b3]? = some (.cells #[.int .i64 A, .int .i64 P, .int .i64 G] 24 (0, 0))) := (hb.block b3 (blkLt H3.out)).trans H3.out
    have O4 : Hid (Reads w4.heap.size w4 q3 O) := ((O3.out.below hb).mono hb.size)
    clear hb A3 R3 B3 H3 O3
    have c0 := blkCell H4.out 0 _ rfl
    have c1 := blkCell H4.out 1 _ rfl
    have c2 := blkCell H4.out 2 _ rfl
    simp only [List.getElem_toArray, List.getElem_cons_zero, List.getElem_cons_succ] at c0 c1 c2
    go_wp2_with fail
    (first | go_at_call 9 | skip)
    refine (HPO.out w4 q3 c3 A4.out O4.out).mono ?_
    rintro e w5 ⟨rfl, hb⟩
    clear c0 c1 c2 HPL HPO HB
    have A5 : Hid (ReadsPt w5.heap.size w5 ad rs) := ((A4.out.below hb).mono hb.size)
    have B5 : Hid (Below w.heap.size w w5) := chain B4.out hb
    have H5 : Hid (w5.heap[b3]? = some (.cells #[.int .i64 A, .int .i64 P, .int .i64 G] 24 (0, 0))) := (hb.block b3 (blkLt H4.out)).trans H4.out
    have O5 : Hid (Reads w5.heap.size w5 q3 O) := ((O4.out.below hb).mono hb.size)
    clear hb A4 B4 H4 O4
    have HL0 : Hid ((w5.alloc (Obj.cells #[] 3)).ownsRow w5.heap.size 3 1 (.slice (some ⟨w5.heap.size, 0, none⟩) 0 0) 0 (inV [])) := ⟨rfl, .inr ⟨w5.heap.size, 0, #[], rfl, Nat.le_refl _, heapNew w5 _, Nat.le_refl _, by unfold maxLen; omega, rfl, rfl⟩⟩
    have hlO : (O.length : Int) = (rs.length : Int) := by rw [hOl]
    have hwi0 : IntKind.i64.wrap ((rs.length : Int) - 1) = (rs.length : Int) - 1 := wrap_id _ (by omega) (by omega)
    go_wp2_with fail
    go_loopw [13, 14] (fun v iv wr => ∃ (M : List Int) (k g cp2 : Nat) (i : Int), v = .slice (some ⟨g, 0, none⟩) k cp2 ∧ iv = .int .i64 i ∧ i = (rs.length : Int) - 1 - k ∧ k ≤ rs.length ∧ M.length = k ∧ M = O.reverse.take k ∧ wr.ownsRow w5.heap.size 3 1 (.slice (some ⟨g, 0, none⟩) k cp2) k (inV M) ∧ Below w5.heap.size w5 wr) (fun _ iv _ => (intOf iv + 1).toNat)
    case atStart => exact ⟨[], 0, w5.heap.size, 0, (rs.length : Int) - 1, rfl, by go_num, by omega, Nat.zero_le _, rfl, rfl, HL0.out, below_alloc _ _⟩
    case round =>
      clear HL0 hwi0
      obtain ⟨M, k, g, cp2, i, rfl, rfl, hik, hk, hMk, hM, hrow, hbl⟩ := hrel
      have HO : Hid (wr.ownsRow w5.heap.size 3 1 (.slice (some ⟨g, 0, none⟩) k cp2) k (inV M)) := hrow
      have HBl : Hid (Below w5.heap.size w5 wr) := hbl
      clear hrow hbl
      by_cases hlt : 0 ≤ i
      · have HMk : Hid (M = O.reverse.take k) := hM
        clear hM
        obtain ⟨m, hm⟩ : ∃ m : Nat, i = (m : Int) := ⟨i.toNat, by omega⟩
        subst hm
        subst hMk
        have hml : m < rs.length := by omega
        rcases O5.out with h | ⟨bq, oq, hq, hBq, iq⟩
        · have : O.length = 0 := by rw [h]; rfl
          omega
        subst hq
        have v0 := (iq.below HBl.out hBq) m (by omega)
        obtain ⟨x, hx⟩ : ∃ x, O.getD m 0 = x := ⟨_, rfl⟩
        rw [hx] at v0
        have HM2 : Hid (M ++ [x] = O.reverse.take (M.length + 1)) := by
          have h1 : M.length < O.reverse.length := by rw [List.length_reverse]; omega
          have h2 : O.reverse[M.length] = x := by
            rw [List.getElem_reverse, ← hx]
            have e : O.length - 1 - M.length = m := by omega
            simp [e, List.getD_eq_getElem?_getD, show m < O.length by omega]
          show _ = _
          rw [List.take_succ_eq_append_getElem h1, h2, ← HMk.out]
        have hmlO : (m : Int) < (rs.length : Int) := by omega
        have HN : Hid ((m : Int) - 1 = (rs.length : Int) - 1 - ((M.length + 1 : Nat) : Int) ∧ M.length + 1 ≤ rs.length ∧ M.length ≤ 1000) := ⟨by omega, by omega, by omega⟩
        have HBw : Hid (w5.heap.size ≤ wr.heap.size) := HBl.out.size
        clear HMk hx iq hlO hik
        have hwi : IntKind.i64.wrap ((m : Int) - 1) = (m : Int) - 1 := wrap_id _ (by omega) (by omega)
        go_wp2_with (at_builtin; refine wpList_int1 rfl _ _ rfl w5.heap.size (some ⟨g, 0, none⟩) cp2 M x (wr.alloc (Obj.cells #[.int .i64 x] 3)) rfl (HO.out.alloc _) wr.heap.size rfl (cellNew _ _ _ _ rfl rfl) HN.out.2.2 (by have := HBw.out; simp; omega) ?_; intro g1 c1 w7 hr1 hr2 hg hg1; have HO7 : Hid (w7.ownsRow w5.heap.size 3 1 (.slice (some ⟨g1, 0, none⟩) (M.length + 1) c1) (M.length + 1) (inV (M ++ [x])) ∧ Below w5.heap.size w5 w7) := ⟨hr1, (chain HBl.out (below_alloc _ _)).grown hg (by have := HBw.out; simp; omega) (fun q hq => (HO.out.lt q hq).1)⟩; clear hr1 hr2 hg hg1 v0)
        go_roundw
        case rel => exact ⟨M ++ [x], M.length + 1, g1, c1, (m : Int) - 1, rfl, by go_num, HN.out.1, HN.out.2.1, by simp, HM2.out, HO7.out.1, HO7.out.2⟩
        case measure => simp [intOf] <;> omega
      · have hk2 : k = rs.length := by omega
        subst hk2
        have hMr : M = O.reverse := by rw [hM]; exact List.take_of_length_le (by rw [List.length_reverse]; omega)
        subst hMr
        have R6 : Hid (Reads wr.heap.size wr (some ⟨g, 0, none⟩) O.reverse) := by
          have h := HO.out
          rw [← hMk] at h
          exact row_reads h
        have hb := HBl.out
        clear HO HBl hM hMk hlO hik
        generalize wr = w6 at *
        have A6 : Hid (ReadsPt w6.heap.size w6 ad rs) := ((A5.out.below hb).mono hb.size)
        have B6 : Hid (Below w.heap.size w w6) := chain B5.out hb
        have H6 : Hid (w6.heap[b3]? = some (.cells #[.int .i64 A, .int .i64 P, .int .i64 G] 24 (0, 0))) := (hb.block b3 (blkLt H5.out)).trans H5.out
        clear hb A5 B5 H5 O5
        have c0 := blkCell H6.out 0 _ rfl
        have c1 := blkCell H6.out 1 _ rfl
        have c2 := blkCell H6.out 2 _ rfl
        simp only [List.getElem_toArray, List.getElem_cons_zero, List.getElem_cons_succ] at c0 c1 c2
        go_wp2_with fail
        (first | go_at_call 9 | skip)
        refine (HPR.out w6 _ cp2 A6.out R6.out).mono ?_
        rintro e w7 ⟨rfl, hb⟩
        clear c0 c1 c2 R6
        have A7 : Hid (ReadsPt w7.heap.size w7 ad rs) := ((A6.out.below hb).mono hb.size)
        have B7 : Hid (Below w.heap.size w w7) := chain B6.out hb
        have H7 : Hid (w7.heap[b3]? = some (.cells #[.int .i64 A, .int .i64 P, .int .i64 G] 24 (0, 0))) := (hb.block b3 (blkLt H6.out)).trans H6.out
        clear hb A6 B6 H6
        have c0 := blkCell H7.out 0 _ rfl
        have c1 := blkCell H7.out 1 _ rfl
        have c2 := blkCell H7.out 2 _ rfl
        simp only [List.getElem_toArray, List.getElem_cons_zero, List.getElem_cons_succ] at c0 c1 c2
        go_wp2_with fail
        (first | go_at_call 10 | skip)
        refine (HS.out w7 A7.out).mono ?_
        rintro e w8 ⟨q8, n8, c8, rfl, hb⟩
        clear c0 c1 c2
        have A8 : Hid (ReadsPt w8.heap.size w8 ad rs) := ((A7.out.below hb).mono hb.size)
        have B8 : Hid (Below w.heap.size w w8) := chain B7.out hb
        have H8 : Hid (w8.heap[b3]? = some (.cells #[.int .i64 A, .int .i64 P, .int .i64 G] 24 (0, 0))) := (hb.block b3 (blkLt H7.out)).trans H7.out
        clear hb A7 B7 H7
        have k1 : (n0 != n0) = false := by simp
        have k2 : ¬ ml < n0 := by omega
        have k2b : decide (ml < n0) = false := decide_eq_false k2
        have k3 : ((0 : Int) != 0) = false := rfl
        go_upto_region 16 with fail
        clear k1 k2 k2b k3 HPR HS
        by_cases hr0 : rs.length = 0
        · have hn0 := HZ.out hr0
          have hr0' : (rs.length : Int) = 0 := by omega
          go_wp2
          go_ret
          exact ⟨rfl, B8.out⟩
        · obtain ⟨r, rs2, hrs⟩ : ∃ r rs2, rs = r :: rs2 := by
            cases rs with
            | nil => simp at hr0
            | cons r rs2 => exact ⟨r, rs2, rfl⟩
          have hr0' : ¬ (rs.length : Int) = 0 := by omega
          have hr1 : (1 : Int) ≤ (rs.length : Int) := by omega
          have hr2 : (0 : Int) < (rs.length : Int) := by omega
          obtain ⟨ls, a1, HBl, HBt, HF⟩ := HY.out r rs2 hrs
          have HC : Hid (∀ X, Below w8.heap.size w8 X → (X.cell? ⟨b3, 0, none⟩ = some (.int .i64 A) ∧ X.cell? ⟨b3, 1, none⟩ = some (.int .i64 P) ∧ X.cell? ⟨b3, 2, none⟩ = some (.int .i64 G)) ∧ X.cell? ⟨g0, 0, none⟩ = some (.int .i64 r.ai) ∧ X.cell? ⟨g0, 1, none⟩ = some (.int .i64 r.pl) ∧ ReadsPt X.heap.size X (some ⟨g0, 2, none⟩) rs2) := fun X hX => by
            have f := (hX.block b3 (blkLt H8.out)).trans H8.out
            have A9 := ((A8.out.below hX).mono hX.size)
            rw [hrs, HAd.out] at A9
            obtain ⟨t1, t2, t3⟩ := pts_tail A9
            exact ⟨⟨blkCell f 0 _ rfl, blkCell f 1 _ rfl, blkCell f 2 _ rfl⟩, t2, t3, t1⟩
          have HLn : Hid (rs.length = rs2.length + 1) := by show _ = _; rw [hrs]; rfl
          clear H8 A8 HZ HY hrs
          have had := HAd.out
          clear HAd
          subst had
          obtain ⟨off, hoff⟩ := HCp.out
          have HOf : Hid ((cp = 1 ∧ off = 0 ∧ rs.length ≤ 1) ∨ (cp ≠ 1 ∧ off = 2)) := hoff
          clear hoff HCp
          go_upto_region 18 with fail
          refine wp_region_held_drew (S := fun W' => Below w8.heap.size w8 W') (by kernel_rfl) (below_drew _) (fun hH => ?_)
          refine wpAnyH_take (i := 0) (v := .agg #[.int .i64 A, .int .i64 P, .int .i64 G]) rfl (by kernel_rfl) (by kernel_rfl) (by kernel_rfl) (fun _ _ _ h => h) (Or.inl ⟨by rfl, fun w hSw => by obtain ⟨f0, f1, f2⟩ := (HC.out w hSw).1; go_simp⟩) hH ?_
          refine wpAnyH_take (i := 1) (v := .slice (some ⟨g0, 0, none⟩) rs.length cp) rfl (by kernel_rfl) (by kernel_rfl) (by kernel_rfl) (fun _ _ _ h => h) (Or.inl ⟨by rfl, fun w hSw => by clear hSw; go_simp⟩) hH ?_
          try simp only [Act.put, List.setIfInBounds_toArray, List.set_cons_zero, List.set_cons_succ, List.getElem_toArray, List.getElem_cons_succ, List.getElem_cons_zero]
          refine wpAnyH_take (i := 2) (v := .slice (some ⟨g0, off, none⟩) (rs.length - 1) (cp - 1)) rfl (by kernel_rfl) (by kernel_rfl) (by kernel_rfl) (fun _ _ _ h => h) (Or.inl ⟨by rfl, fun w hSw => by clear hSw; refine Or.elim HOf.out (fun t => by obtain ⟨t1, t2, _⟩ := t; subst t2; go_simp) (fun t => ?_); obtain ⟨t1, t2⟩ := t; subst t2; go_simp⟩) hH ?_
          try simp only [Act.put, List.setIfInBounds_toArray, List.set_cons_zero, List.set_cons_succ, List.getElem_toArray, List.getElem_cons_succ, List.getElem_cons_zero]
          refine wpAnyH_ready (rs := [3]) (by kernel_rfl) (by simp) ?_
          refine AllReadyH.cons rfl (fun K hK => ?_) AllReadyH.nil
          go_simp
          go_at_call 8
          rw [show rs.length - 1 = rs2.length by have := HLn.out; omega]
          have hrd : ReadsPt w8.drew.heap.size w8.drew (some ⟨g0, off, none⟩) rs2 := by
            rcases HOf.out with ⟨_, _, t3⟩ | ⟨_, t2⟩
            · exact .inl (List.eq_nil_of_length_eq_zero (by have := HLn.out; omega))
            · subst t2; exact (HC.out _ (below_drew _)).2.2.2
          refine (HBl.out _ _ (cp - 1) hrd).mono ?_
          rintro e w9 ⟨q9, n9, c9, rfl, hb⟩
          have hH9 : Below w8.heap.size w8 w9 := chain (below_drew _) hb
          clear hb hH
          refine hK.out _ _ hH9 (fun _ => ?_)
          clear hK K
          try simp only [Act.put, List.setIfInBounds_toArray, List.set_cons_zero, List.set_cons_succ, List.getElem_toArray, List.getElem_cons_succ, List.getElem_cons_zero]
          refine wpAnyH_take (i := 4) (v := .tuple #[.slice q9 n9 c9, .int .i64 ls, .int .i64 0]) rfl (by kernel_rfl) (by kernel_rfl) (by kernel_rfl) (fun _ _ _ h => h) (Or.inl ⟨by rfl, fun w hSw => by clear hSw; go_simp⟩) hH9 ?_
          try simp only [Act.put, List.setIfInBounds_toArray, List.set_cons_zero, List.set_cons_succ, List.getElem_toArray, List.getElem_cons_succ, List.getElem_cons_zero]
          refine wpAnyH_take (i := 5) (v := .slice q9 n9 c9) rfl (by kernel_rfl) (by kernel_rfl) (by kernel_rfl) (fun _ _ _ h => h) (Or.inl ⟨by rfl, fun w hSw => by clear hSw; go_simp⟩) hH9 ?_
          try simp only [Act.put, List.setIfInBounds_toArray, List.set_cons_zero, List.set_cons_succ, List.getElem_toArray, List.getElem_cons_succ, List.getElem_cons_zero]
          refine wpAnyH_take (i := 6) (v := .int .i64 ls) rfl (by kernel_rfl) (by kernel_rfl) (by kernel_rfl) (fun _ _ _ h => h) (Or.inl ⟨by rfl, fun w hSw => by clear hSw; go_simp⟩) hH9 ?_
          try simp only [Act.put, List.setIfInBounds_toArray, List.set_cons_zero, List.set_cons_succ, List.getElem_toArray, List.getElem_cons_succ, List.getElem_cons_zero]
          refine wpAnyH_take (i := 7) (v := .int .i64 0) rfl (by kernel_rfl) (by kernel_rfl) (by kernel_rfl) (fun _ _ _ h => h) (Or.inl ⟨by rfl, fun w hSw => by clear hSw; go_simp⟩) hH9 ?_
          try simp only [Act.put, List.setIfInBounds_toArray, List.set_cons_zero, List.set_cons_succ, List.getElem_toArray, List.getElem_cons_succ, List.getElem_cons_zero]
          refine wpAnyH_take (i := 8) (v := .slice q9 n9 c9) rfl (by kernel_rfl) (by kernel_rfl) (by kernel_rfl) (fun _ _ _ h => h) (Or.inl ⟨by rfl, fun w hSw => by clear hSw; go_simp⟩) hH9 ?_
          try simp only [Act.put, List.setIfInBounds_toArray, List.set_cons_zero, List.set_cons_succ, List.getElem_toArray, List.getElem_cons_succ, List.getElem_cons_zero]
          refine wpAnyH_take (i := 9) (v := .int .i64 ls) rfl (by kernel_rfl) (by kernel_rfl) (by kernel_rfl) (fun _ _ _ h => h) (Or.inl ⟨by rfl, fun w hSw => by clear hSw; go_simp⟩) hH9 ?_
          try simp only [Act.put, List.setIfInBounds_toArray, List.set_cons_zero, List.set_cons_succ, List.getElem_toArray, List.getElem_cons_succ, List.getElem_cons_zero]
          refine wpAnyH_take (i := 10) (v := .int .i64 0) rfl (by kernel_rfl) (by kernel_rfl) (by kernel_rfl) (fun _ _ _ h => h) (Or.inl ⟨by rfl, fun w hSw => by clear hSw; go_simp⟩) hH9 ?_
          try simp only [Act.put, List.setIfInBounds_toArray, List.set_cons_zero, List.set_cons_succ, List.getElem_toArray, List.getElem_cons_succ, List.getElem_cons_zero]
          refine wpAnyH_done (by kernel_rfl) ?_ _
          have H9 : Hid (Below w8.heap.size w8 w9) := hH9
          clear hH9 HBl
          go_upto_region 19 with fail
          refine wp_region_held_drew (S := fun W' => Below w8.heap.size w8 W') (by kernel_rfl) H9.out.drew (fun hH => ?_)
          refine wpAnyH_take (i := 0) (v := .agg #[.int .i64 A, .int .i64 P, .int .i64 G]) rfl (by kernel_rfl) (by kernel_rfl) (by kernel_rfl) (fun _ _ _ h => h) (Or.inl ⟨by rfl, fun w hSw => by obtain ⟨f0, f1, f2⟩ := (HC.out w hSw).1; go_simp⟩) hH ?_
          refine wpAnyH_take (i := 1) (v := .agg #[.int .i64 0, .int .i64 0]) rfl (by kernel_rfl) (by kernel_rfl) (by kernel_rfl) (fun _ _ _ h => h) (Or.inl ⟨by rfl, fun w hSw => by clear hSw; go_simp⟩) hH ?_
          try simp only [Act.put, List.setIfInBounds_toArray, List.set_cons_zero, List.set_cons_succ, List.getElem_toArray, List.getElem_cons_succ, List.getElem_cons_zero]
          refine wpAnyH_take (i := 2) (v := .slice (some ⟨g0, 0, none⟩) rs.length cp) rfl (by kernel_rfl) (by kernel_rfl) (by kernel_rfl) (fun _ _ _ h => h) (Or.inl ⟨by rfl, fun w hSw => by clear hSw; go_simp⟩) hH ?_
          try simp only [Act.put, List.setIfInBounds_toArray, List.set_cons_zero, List.set_cons_succ, List.getElem_toArray, List.getElem_cons_succ, List.getElem_cons_zero]
          refine wpAnyH_take (i := 3) (v := .pointer (some ⟨g0, 0, none⟩)) rfl (by kernel_rfl) (by kernel_rfl) (by kernel_rfl) (fun _ _ _ h => h) (Or.inl ⟨by rfl, fun w hSw => by clear hSw; go_simp⟩) hH ?_
          try simp only [Act.put, List.setIfInBounds_toArray, List.set_cons_zero, List.set_cons_succ, List.getElem_toArray, List.getElem_cons_succ, List.getElem_cons_zero]
          refine wpAnyH_take (i := 4) (v := .agg #[.int .i64 r.ai, .int .i64 r.pl]) rfl (by kernel_rfl) (by kernel_rfl) (by kernel_rfl) (fun _ _ _ h => h) (Or.inl ⟨by rfl, fun w hSw => by obtain ⟨_, f0, f1, _⟩ := HC.out w hSw; go_simp⟩) hH ?_
          try simp only [Act.put, List.setIfInBounds_toArray, List.set_cons_zero, List.set_cons_succ, List.getElem_toArray, List.getElem_cons_succ, List.getElem_cons_zero]
          refine wpAnyH_ready (rs := [5]) (by kernel_rfl) (by simp) ?_
          refine AllReadyH.cons rfl (fun K hK => ?_) AllReadyH.nil
          go_simp
          go_at_call 11
          refine (HBt.out _).mono ?_
          rintro e w10 ⟨rfl, hb⟩
          have hH10 : Below w8.heap.size w8 w10 := chain H9.out.drew hb
          clear hb hH
          refine hK.out _ _ hH10 (fun _ => ?_)
          clear hK K
          try simp only [Act.put, List.setIfInBounds_toArray, List.set_cons_zero, List.set_cons_succ, List.getElem_toArray, List.getElem_cons_succ, List.getElem_cons_zero]
          refine wpAnyH_take (i := 6) (v := .tuple #[.int .i64 a1, .int .i64 0]) rfl (by kernel_rfl) (by kernel_rfl) (by kernel_rfl) (fun _ _ _ h => h) (Or.inl ⟨by rfl, fun w hSw => by clear hSw; go_simp⟩) hH10 ?_
          try simp only [Act.put, List.setIfInBounds_toArray, List.set_cons_zero, List.set_cons_succ, List.getElem_toArray, List.getElem_cons_succ, List.getElem_cons_zero]
          refine wpAnyH_take (i := 7) (v := .int .i64 a1) rfl (by kernel_rfl) (by kernel_rfl) (by kernel_rfl) (fun _ _ _ h => h) (Or.inl ⟨by rfl, fun w hSw => by clear hSw; go_simp⟩) hH10 ?_
          try simp only [Act.put, List.setIfInBounds_toArray, List.set_cons_zero, List.set_cons_succ, List.getElem_toArray, List.getElem_cons_succ, List.getElem_cons_zero]
          refine wpAnyH_take (i := 8) (v := .int .i64 0) rfl (by kernel_rfl) (by kernel_rfl) (by kernel_rfl) (fun _ _ _ h => h) (Or.inl ⟨by rfl, fun w hSw => by clear hSw; go_simp⟩) hH10 ?_
          try simp only [Act.put, List.setIfInBounds_toArray, List.set_cons_zero, List.set_cons_succ, List.getElem_toArray, List.getElem_cons_succ, List.getElem_cons_zero]
          refine wpAnyH_take (i := 9) (v := .int .i64 a1) rfl (by kernel_rfl) (by kernel_rfl) (by kernel_rfl) (fun _ _ _ h => h) (Or.inl ⟨by rfl, fun w hSw => by clear hSw; go_simp⟩) hH10 ?_
          try simp only [Act.put, List.setIfInBounds_toArray, List.set_cons_zero, List.set_cons_succ, List.getElem_toArray, List.getElem_cons_succ, List.getElem_cons_zero]
          refine wpAnyH_take (i := 10) (v := .int .i64 0) rfl (by kernel_rfl) (by kernel_rfl) (by kernel_rfl) (fun _ _ _ h => h) (Or.inl ⟨by rfl, fun w hSw => by clear hSw; go_simp⟩) hH10 ?_
          try simp only [Act.put, List.setIfInBounds_toArray, List.set_cons_zero, List.set_cons_succ, List.getElem_toArray, List.getElem_cons_succ, List.getElem_cons_zero]
          refine wpAnyH_done (by kernel_rfl) ?_ _
          have B10 : Hid (Below w.heap.size w w10) := chain B8.out hH10
          clear hH10 H9 HC HBt B8
          obtain ⟨x1, x2, x3, x4, x5, x6, x7⟩ := HF.out
          have hw1 : IntKind.i64.wrap (2 * a1) = 2 * a1 := wrap_id _ (by omega) (by omega)
          have hw2 : IntKind.i64.wrap (ls + 2 * a1) = ls + 2 * a1 := wrap_id _ (by omega) (by omega)
          have y1 : decide (ls ≤ n0) = true := decide_eq_true x1
          have y2 : decide (2 * a1 ≤ n0) = true := decide_eq_true x2
          have y3 : decide (n0 ≤ ls + 2 * a1) = true := decide_eq_true x3
          go_wp2
          go_ret
          exact ⟨rfl, B10.out⟩

theorem own : ownKnob Try.prog.godebug = none := by kernel_rfl
theorem laidOut : laidOutB Try.prog = true := by kernel_rfl

set_option maxRecDepth 100000 in
theorem lifted (os : Os) (started : os.Started) (H : Type) (enc : TypeId × Value → H) :
    ReturnsInHanded {} Try.checked os 3 .any (Rows.fnPathSpec.pre6 enc Try.prog Try.f3 Rows.fnPathRow.domain false) (Rows.fnPathSpec.post enc Try.prog Try.f3 false true false false) := by
  refine returnsInHanded_of_change (C := Try.checked) own started (by kernel_rfl) Try.func3
    (ChangeSpec.witness6 (enc := enc) (C := Try.checked) false ⟨#[], #[.slice none 0 0], []⟩ 8 (by kernel_rfl) (by kernel_rfl) (by kernel_rfl) (by kernel_rfl)) ?_
  intro W base args ds gs before hval0 hW hcnd _
  have hval : ∀ (j : Nat) t v, Try.f3.params[j]? = some t → args[j]? = some v → Value.okWide Try.prog W .any base t v := hval0
  have hW' := hW
  obtain ⟨p, q, hA0, hV, rfl, hfz, hnd⟩ := hW
  have hA : DataW.TrodAll enc Try.prog W 0 (fun _ => true) true Try.f3.params.toList args.toList ds p := hA0
  rw [Try.params3] at hA hval
  obtain ⟨v0, vs0, d0, ds0, p0, q0, hargs, rfl, rfl, h0, r0⟩ := trodAll_cons hA
  obtain ⟨rfl, rfl, rfl⟩ := trodAll_nil r0
  obtain rfl : args = #[v0] := by cases args; simp_all
  obtain ⟨rfl, rfl⟩ := trodVars_none hV
  have k0 := h0
  have lt0 : ∀ x ∈ p0, x.block < W.heap.size := by obtain ⟨m, hm⟩ := k0; exact DataW.trod_lt m _ _ _ hm
  obtain ⟨a0, len0, cap0, rfl⟩ := okWide_slice Try.underlying22 (hval 0 22 v0 rfl rfl)
  obtain ⟨z0, w0⟩ : ∃ zs, IsRow .u8 W a0 len0 cap0 zs := by
    obtain ⟨fuel, hf⟩ := h0
    rcases open_ints Try.underlying22 Try.underlying5 (by kernel_rfl) hf with ⟨hcs, _⟩ | ⟨x, l, c, zs, hcs, _, hl, hm, hz, _, hcell, hwz⟩
    · simp [Value.cells] at hcs
      obtain ⟨rfl, rfl, rfl⟩ := hcs
      exact ⟨[], .inl ⟨rfl, rfl, rfl, rfl⟩⟩
    · simp [Value.cells] at hcs
      obtain ⟨rfl, rfl, rfl⟩ := hcs
      exact ⟨zs, .inr ⟨_, rfl, hl, hm, by simpa using hz, hcell, hwz⟩⟩
  clear hA0 hval0
  refine (walk a0 len0 cap0 z0 W (rowB_of _ _ _ _ _ w0)).mono fun e W' ⟨he, bel⟩ => ?_
  subst he
  exact ⟨_, rfl, _, _, _, [], _, [], hW', trodAll_mk1 (shut_bool Try.underlying4 _), (trodAll_cons_mk (Below.trod laidOut (by kernel_rfl) (of_decide_eq_true (by kernel_rfl)) k0 bel lt0) trodAll_mk0), rfl, bel.frame _, fun h => by cases h⟩

theorem over : Rows.fnPathRow.holds Try.pinned (OpenSpec.ofChange Rows.fnPathSpec) :=
  OpenClaim.holds_of_wide 3 Try.f3 rfl rfl rfl rfl rfl rfl rfl ⟨rfl, rfl, rfl, rfl, rfl⟩ rfl rfl rfl rfl rfl (by kernel_rfl) Try.func3 (by kernel_rfl)
    (of_decide_eq_true (by kernel_rfl)) (by unfold Func.isWrapper; first | (rw [if_pos (by decide +kernel)]; kernel_rfl) | (rw [if_neg (by decide +kernel)]; exact ⟨rfl, rfl⟩))
    (fun os started H enc _ => lifted os started H enc)
end FnPath

theorem fnPath_holds : Rows.FnPathSaid := FnPath.over
end Go.Proofs.Ythmhpgbkapjjkaa

/-
  For every two lists of bytes the law FnClash answers true; with no condition.
-/
import Derived.Test.YthkmgccmeoigpaaLwHid
import Derived.Test.YthkmgccmeoigpaaLwFires
import Derived.Test.YthkmgccmeoigpaaLwSame
import Derived.Test.YthkmgccmeoigpaaDrawCl7
import Derived.Test.YthkmgccmeoigpaaRhF
import Derived.Test.YthkmgccmeoigpaaRhG
import Derived.Test.YthkmgccmeoigpaaRcE
namespace Go.Proofs.Ythkmgccmeoigpaa
open Go.ChangeShapes Go.WideShapes Go.ChangeAt Go.RowKit Go.Joins Go.Deep
set_option linter.unusedVariables false

namespace FnClash
theorem drawn_ok {rs : List CCl} (h : ∀ c ∈ rs, clOne c = true) : ∀ c ∈ rs, ClOK c := fun c hc => by
  have q := h c hc
  unfold clOne nameB at q
  simp only [Bool.and_eq_true, decide_eq_true_eq] at q
  obtain ⟨⟨q1, ⟨q2, _⟩⟩, _⟩ := q
  exact ⟨by omega, by omega⟩
def K4 (w : World) (b : Nat) (c : CCl) (h : Option Addr) (cp : Nat) : Prop := w.cell? ⟨b, 0, none⟩ = some (.string c.nm) ∧ w.cell? ⟨b, 1, none⟩ = some (.slice h c.ts.length cp) ∧ w.cell? ⟨b, 2, none⟩ = some (.int .i64 c.ac) ∧ w.cell? ⟨b, 3, none⟩ = some (.int .i64 c.nu)
theorem K4.lt {w : World} {b : Nat} {c : CCl} {h : Option Addr} {cp : Nat} (k : K4 w b c h cp) : b < w.heap.size := World.block_lt_of_cell? _ _ k.1
theorem K4.later {w w' : World} {b : Nat} {c : CCl} {h : Option Addr} {cp : Nat} (k : K4 w b c h cp) (hb : Below w.heap.size w w') : K4 w' b c h cp := by
  have e := hb.block b k.lt
  exact ⟨(World.cell?_of_block (a := ⟨b, 0, none⟩) e).trans k.1, (World.cell?_of_block (a := ⟨b, 1, none⟩) e).trans k.2.1, (World.cell?_of_block (a := ⟨b, 2, none⟩) e).trans k.2.2.1, (World.cell?_of_block (a := ⟨b, 3, none⟩) e).trans k.2.2.2⟩
theorem K4.new (w : World) (c : CCl) (h : Option Addr) (cp : Nat) (t : TypeId) : K4 (w.alloc (Obj.cells #[.string c.nm, .slice h c.ts.length cp, .int .i64 c.ac, .int .i64 c.nu] t)) w.heap.size c h cp := ⟨cellNew _ _ _ _ rfl rfl, cellNew _ _ _ _ rfl rfl, cellNew _ _ _ _ rfl rfl, cellNew _ _ _ _ rfl rfl⟩
theorem ck_facts {a b : CCl} (oka : clOne a = true) (okb : clOne b = true) : ∃ v1 v2 v3 v4 v5 : Int, ckV a b = #[.int .i64 v1, .int .i64 v2, .int .i64 v3, .int .i64 v4, .int .i64 v5] ∧ ckC a b = 0 ∧ (ckT a b = true → (fireB [0, v1, v2, v3, v4, v5] a.ts = true ∧ fireB [0, v1, v2, v3, v4, v5] b.ts = true) ∧ ((a.ac == b.ac) = false ∨ (a.nu == b.nu) = false)) ∧ (ckT a b = false → canT (a.ts ++ b.ts) = false ∨ (a.ac = b.ac ∧ a.nu = b.nu)) := by
  have hf : canT (a.ts ++ b.ts) = true → (fireB (lowF (a.ts ++ b.ts)) a.ts = true ∧ fireB (lowF (a.ts ++ b.ts)) b.ts = true) := fun hc => by
    have q := lowF_fires (ts := a.ts ++ b.ts) (fun t ht => by
      rcases List.mem_append.1 ht with h | h
      · exact List.all_eq_true.mp (clOne_terms oka) t h
      · exact List.all_eq_true.mp (clOne_terms okb) t h) hc
    unfold fireB at q ⊢
    rwa [List.all_append, Bool.and_eq_true] at q
  rcases ck_ways a b with ⟨h, _⟩ | ⟨_, h, _⟩ | ⟨_, _, ⟨h, h1, h2, h3⟩ | ⟨h, k1, k2, h1, h2, h3⟩ | ⟨h, k1, k2, h1, h2, h3⟩ | ⟨h, k1, h1, h2, h3⟩⟩
  · rw [oka] at h; cases h
  · rw [okb] at h; cases h
  · exact ⟨0, 0, 0, 0, 0, h3, h2, fun q => (by rw [h1] at q; cases q), fun _ => .inl h⟩
  · exact ⟨0, 0, 0, 0, 0, h3, h2, fun q => (by rw [h1] at q; cases q), fun _ => .inr ⟨k1, k2⟩⟩
  · exact ⟨_, _, _, _, _, h3.trans (leastV_yes h), h2, fun _ => ⟨hf h, .inr k2⟩, fun q => by rw [h1] at q; cases q⟩
  · exact ⟨_, _, _, _, _, h3.trans (leastV_yes h), h2, fun _ => ⟨hf h, .inl k1⟩, fun q => by rw [h1] at q; cases q⟩
theorem reads_later {w w' : World} {a : Option Addr} {L : List Int} (h : Reads w.heap.size w a L) (hb : Below w.heap.size w w') : Reads w'.heap.size w' a L := by
  rcases h with h | ⟨b, off, ha, hB, hi⟩
  · exact .inl h
  · exact .inr ⟨b, off, ha, Nat.lt_of_lt_of_le hB hb.size, hi.below hb hB⟩
set_option maxHeartbeats 20000000 in
set_option maxRecDepth 8000 in
theorem walk (a0 : Option Addr) (len0 cap0 : Nat) (z0 : List Int) (a1 : Option Addr) (len1 cap1 : Nat) (z1 : List Int) (w : World) (r0 : RowB w.heap.size w a0 len0 z0) (r1 : RowB w.heap.size w a1 len1 z1) :
    Calls Try.prog 4 #[.slice a0 len0 cap0, .slice a1 len1 cap1] w fun e w' => e = .returned (.bool true) ∧ Below w.heap.size w w' := by
  have hl0 := r0.1
  have hl1 := r1.1
  unfold maxLen at hl0 hl1
  rcases (by omega : (1048576 : Int) < (len0 : Int) ∨ ((len0 : Int) ≤ 1048576 ∧ (1048576 : Int) < (len1 : Int)) ∨ ((len0 : Int) ≤ 1048576 ∧ (len1 : Int) ≤ 1048576)) with h | ⟨h, h'⟩ | ⟨h, h'⟩
  · clear r0 r1
    go_enter Try.func4, Try.ntmps4
    go_wp2
    go_ret
    exact ⟨rfl, Below.refl _ _⟩
  · clear r0 r1
    go_enter Try.func4, Try.ntmps4
    go_wp2
    go_ret
    exact ⟨rfl, Below.refl _ _⟩
  have hco := clausesOf_any a0 len0 cap0 z0 w r0
  have HAt : Hid (∀ (i n : Int) (W : World), 0 ≤ i → i ≤ 10 → n ≤ 1000 → Below w.heap.size w W → Calls Try.prog 14 #[.slice a1 len1 cap1, .int .i64 i, .int .i64 n] W fun e w' => ∃ x : Int, e = .returned (.int .i64 x) ∧ Drawn x n ∧ Below W.heap.size W w') := fun i n W h1 h2 h3 hB => at_any W.heap.size a1 len1 cap1 z1 i n W ((r1.below hB).mono hB.size) h1 (by omega) (by omega)
  clear r0 r1 hl0 hl1
  go_enter Try.func4, Try.ntmps4
  go_wp2_with fail
  (first | go_at_call 10 | skip)
  refine hco.mono ?_
  rintro e w1 ⟨E, g, cp, x1, x2, x3, x4, x5, rfl, hcp, hEl, hone, hnms, hR, hbd, hb1⟩
  obtain ⟨hcl, hflt⟩ := drawn_all hEl hone hnms
  have hone' : ∀ c ∈ E.map (·.1), clOne c = true := clAll_mem hcl
  have elen : E.length = (E.map (·.1)).length := by simp
  rw [elen] at hEl hcp ⊢
  clear hone hnms elen hco
  generalize E.map (·.1) = rs at *
  have B1 : Hid (Below w.heap.size w w1) := hb1
  have HR : Hid (ReadsCl w1.heap.size w1 (some ⟨g, 0, none⟩) rs) := hR
  have HO : Hid (∀ c ∈ rs, clOne c = true) := hone'
  have HF : Hid (hasL (rm []) [0, x1, x2, x3, x4, x5] = true) := by
    refine (hasL_iff [] _ rfl).2 (fun i h1 h2 => ?_)
    rcases (by omega : i = 1 ∨ i = 2 ∨ i = 3 ∨ i = 4 ∨ i = 5) with rfl | rfl | rfl | rfl | rfl
    · exact ⟨by show (1 : Int) ≤ x1; omega, by show x1 ≤ (999 : Int); omega⟩
    · exact ⟨by show (0 : Int) ≤ x2; omega, by show x2 ≤ (1000000 : Int); omega⟩
    · exact ⟨by show (0 : Int) ≤ x3; omega, by show x3 ≤ (23 : Int); omega⟩
    · exact ⟨by show (1 : Int) ≤ x4; omega, by show x4 ≤ (7 : Int); omega⟩
    · exact ⟨by show (0 : Int) ≤ x5; omega, by show x5 ≤ (120 : Int); omega⟩
  have HH : Hid (∀ W, Below w1.heap.size w1 W → Calls Try.prog 11 #[.slice (some ⟨g, 0, none⟩) rs.length cp] W fun e w' => ∃ g' cp', e = .returned (.tuple #[.slice g' (hidL rs).length cp', .int .i64 0]) ∧ Own2 W.heap.size w' g' (hidL rs) ∧ Below W.heap.size W w') := fun W hW => by
    have := implHidden_any (some ⟨g, 0, none⟩) cp rs (by omega) (drawn_ok HO.out) W (HR.out.later hW)
    rwa [hflt] at this
  have HS : Hid (∀ W, Below w1.heap.size w1 W → Calls Try.prog 12 #[.slice (some ⟨g, 0, none⟩) rs.length cp] W fun e w' => ∃ g' cp', e = .returned (.tuple #[.slice g' (hidL rs).length cp', .int .i64 0]) ∧ Own2 W.heap.size w' g' (hidL rs) ∧ Below W.heap.size W w') := fun W hW => by
    have := specHidden_any (some ⟨g, 0, none⟩) cp rs hcp (by omega) (drawn_ok HO.out) W (HR.out.later hW)
    rwa [hflt] at this
  have HD : Hid (∀ W, Below w1.heap.size w1 W → Calls Try.prog 8 #[.slice (some ⟨g, 0, none⟩) rs.length cp, .agg #[.int .i64 x1, .int .i64 x2, .int .i64 x3, .int .i64 x4, .int .i64 x5]] W fun e w' => e = .returned (.tuple #[.int .i64 (decN rs [0, x1, x2, x3, x4, x5]), .int .i64 (decC rs [0, x1, x2, x3, x4, x5])]) ∧ Below W.heap.size W w') := fun W hW => implDecide_any (some ⟨g, 0, none⟩) cp rs (by omega) (drawn_ok HO.out) x1 x2 x3 x4 x5 W (HR.out.later hW)
  clear hR hb1 hone' hbd hcl
  go_wp2_with fail
  (first | go_at_call 11 | skip)
  refine (HH.out _ (below_alloc _ _)).mono ?_
  rintro e w2 ⟨g2, cp2, rfl, own2, hb2⟩
  have B2 : Hid (Below w1.heap.size w1 w2) := chain (below_alloc _ _) hb2
  have O2 : Hid (Reads w2.heap.size w2 g2 (hidL rs)) := own2.reads
  have F2 : Hid (FcAt w2 w1.heap.size x1 x2 x3 x4 x5) := (FcAt.new w1 x1 x2 x3 x4 x5).later hb2
  have hhl := hidL_len rs
  clear hb2 own2 HH
  go_wp2_with fail
  (first | go_at_call 12 | skip)
  refine (HS.out _ B2.out).mono ?_
  rintro e w3 ⟨g3, cp3, rfl, own3, hb3⟩
  have B3 : Hid (Below w1.heap.size w1 w3) := chain B2.out hb3
  have O3 : Hid (Reads w3.heap.size w3 g3 (hidL rs)) := own3.reads
  have O2 : Hid (Reads w3.heap.size w3 g2 (hidL rs)) := reads_later O2.out hb3
  have F3 : Hid (FcAt w3 w1.heap.size x1 x2 x3 x4 x5) := F2.out.later hb3
  clear hb3 own3 HS F2
  go_wp2_with fail
  (first | go_at_call 13 | skip)
  refine (sameInts_any g2 g3 cp2 cp3 (hidL rs) (by omega) w3 O2.out O3.out).mono ?_
  rintro e w4 ⟨rfl, hb4⟩
  have B4 : Hid (Below w1.heap.size w1 w4) := chain B3.out hb4
  have O4 : Hid (Reads w4.heap.size w4 g2 (hidL rs)) := reads_later O2.out hb4
  have F4 : Hid (FcAt w4 w1.heap.size x1 x2 x3 x4 x5) := F3.out.later hb4
  obtain ⟨f0, f1, f2, f3, f4⟩ := F4.out
  clear hb4 O2 O3 F3 B3 B2
  go_wp2_with fail
  (first | go_at_call 8 | skip)
  refine (HD.out _ B4.out).mono ?_
  rintro e w5 ⟨rfl, hb5⟩
  have B5 : Hid (Below w1.heap.size w1 w5) := chain B4.out hb5
  have O5 : Hid (Reads w5.heap.size w5 g2 (hidL rs)) := reads_later O4.out hb5
  have F5 : Hid (FcAt w5 w1.heap.size x1 x2 x3 x4 x5) := F4.out.later hb5
  clear hb5 O4 F4 B4 f0 f1 f2 f3 f4 HD
  have HCl : Hid (∀ W, Below w1.heap.size w1 W → ∀ j, j < rs.length → ∃ h c, ClAt W g (j * 4) h c (rs.getD j zCl) ∧ (rs.getD j zCl).ts.length ≤ c ∧ ReadsTm W.heap.size W h (rs.getD j zCl).ts) := fun W hW j hj => by
    rcases HR.out.later hW with q | ⟨b, off, q, _, hi⟩
    · rw [q] at hj; simp at hj
    · simp only [Option.some.injEq, Addr.mk.injEq] at q
      obtain ⟨rfl, rfl, _⟩ := q
      have := hi j hj
      rwa [Nat.zero_add] at this
  have HMe : Hid (∀ j, j < rs.length → rs.getD j zCl ∈ rs) := fun j hj => by
    have e : rs.getD j zCl = rs[j] := by simp [List.getD_eq_getElem?_getD, hj]
    rw [e]; exact List.getElem_mem hj
  have HNh : Hid (∀ k : Nat, fidx (fun c => fireB [0, x1, x2, x3, x4, x5] c.ts) rs = (k : Int) → ((k : Nat) : Int) ∉ hidL rs) := fun k hk => first_not_hidden rfl (fun c hc => List.all_eq_true.mp (clOne_terms (HO.out c hc))) HF.out k hk
  have hdw := decideWays rs [0, x1, x2, x3, x4, x5]
  rcases hdw with ⟨q, _⟩ | ⟨_, q, _⟩ | ⟨_, _, ⟨q1, q2, q3⟩ | ⟨q1, q2, q3⟩⟩
  · exact absurd hflt q
  · rw [HF.out] at q; cases q
  · rw [q2, q3]
    clear q1 q2 q3 O5 HNh
    by_cases hn2 : rs.length < 2
    · have hn2' : (rs.length : Int) < 2 := by omega
      go_wp2
      go_ret
      exact ⟨rfl, chain B1.out B5.out⟩
    have hn2' : (2 : Int) ≤ (rs.length : Int) := by omega
    go_wp2_with fail
    (first | go_at_call 14 | skip)
    refine (HAt.out 0 rs.length _ (by omega) (by omega) (by omega) (chain B1.out B5.out)).mono ?_
    rintro e w7 ⟨y7, rfl, hy7, hb7⟩
    obtain ⟨m7, n7⟩ := drawn5 hy7 (by omega)
    obtain ⟨j7, rfl⟩ : ∃ j : Nat, y7 = (j : Int) := ⟨y7.toNat, by omega⟩
    have B7 : Hid (Below w1.heap.size w1 w7) := chain B5.out hb7
    have F7 : Hid (FcAt w7 w1.heap.size x1 x2 x3 x4 x5) := F5.out.later hb7
    obtain ⟨ha, ca, ⟨k0, k1, k2, k3⟩, hla, hra⟩ := HCl.out w7 B7.out j7 (by omega)
    have RA : Hid (ReadsTm w7.heap.size w7 ha (rs.getD j7 zCl).ts) := hra
    clear hb7 hy7 hra
    have HMa : Hid (clOne (rs.getD j7 zCl) = true) := HO.out _ (HMe.out j7 (by omega))
    generalize rs.getD j7 zCl = A at *
    go_wp2_with fail
    (first | go_at_call 14 | skip)
    refine (HAt.out 1 rs.length _ (by omega) (by omega) (by omega) (chain B1.out (chain B7.out (below_alloc _ _)))).mono ?_
    rintro e w8 ⟨y8, rfl, hy8, hb8⟩
    obtain ⟨m8, n8⟩ := drawn5 hy8 (by omega)
    obtain ⟨j8, rfl⟩ : ∃ j : Nat, y8 = (j : Int) := ⟨y8.toNat, by omega⟩
    have b78 : Below w7.heap.size w7 w8 := chain (below_alloc _ _) hb8
    have B8 : Hid (Below w1.heap.size w1 w8) := chain B7.out b78
    have F8 : Hid (FcAt w8 w1.heap.size x1 x2 x3 x4 x5) := F7.out.later b78
    have RA8 : Hid (ReadsTm w8.heap.size w8 ha A.ts) := ReadsTm.later RA.out b78
    have KA : Hid (K4 w8 w7.heap.size A ha ca) := (K4.new w7 A ha ca _).later hb8
    clear hy8 hb8 k0 k1 k2 k3 b78 RA F7 B7
    obtain ⟨hbb, cb, ⟨k0, k1, k2, k3⟩, hlb, hrb⟩ := HCl.out w8 B8.out j8 (by omega)
    have RB8 : Hid (ReadsTm w8.heap.size w8 hbb (rs.getD j8 zCl).ts) := hrb
    have HMb : Hid (clOne (rs.getD j8 zCl) = true) := HO.out _ (HMe.out j8 (by omega))
    clear hrb
    generalize rs.getD j8 zCl = C at *
    obtain ⟨p0, p1, p2, p3⟩ := KA.out
    have hA8 := KA.out.lt
    obtain ⟨v1, v2, v3, v4, v5, hV, hC, hT, hN⟩ := ck_facts HMa.out HMb.out
    have HCab : Hid (∀ W, Below w8.heap.size w8 W → Calls Try.prog 15 #[.agg #[.string A.nm, .slice ha A.ts.length ca, .int .i64 A.ac, .int .i64 A.nu], .agg #[.string C.nm, .slice hbb C.ts.length cb, .int .i64 C.ac, .int .i64 C.nu]] W fun e w' => e = .returned (.tuple #[.agg #[.int .i64 v1, .int .i64 v2, .int .i64 v3, .int .i64 v4, .int .i64 v5], .bool (ckT A C), .int .i64 0]) ∧ Below W.heap.size W w') := fun W hW => by
      have := implClash_any A C ha hbb ca cb (drawn_ok (rs := [A]) (by simpa using HMa.out) A (by simp)) (drawn_ok (rs := [C]) (by simpa using HMb.out) C (by simp)) W (ReadsTm.later RA8.out hW) (ReadsTm.later RB8.out hW)
      rwa [hV, hC] at this
    have HCba : Hid (∀ W, Below w8.heap.size w8 W → Calls Try.prog 15 #[.agg #[.string C.nm, .slice hbb C.ts.length cb, .int .i64 C.ac, .int .i64 C.nu], .agg #[.string A.nm, .slice ha A.ts.length ca, .int .i64 A.ac, .int .i64 A.nu]] W fun e w' => e = .returned (.tuple #[.agg #[.int .i64 v1, .int .i64 v2, .int .i64 v3, .int .i64 v4, .int .i64 v5], .bool (ckT A C), .int .i64 0]) ∧ Below W.heap.size W w') := fun W hW => by
      have := implClash_any C A hbb ha cb ca (drawn_ok (rs := [C]) (by simpa using HMb.out) C (by simp)) (drawn_ok (rs := [A]) (by simpa using HMa.out) A (by simp)) W (ReadsTm.later RB8.out hW) (ReadsTm.later RA8.out hW)
      rw [(ck_comm C A).1, (ck_comm C A).2.1, (ck_comm C A).2.2] at this
      rwa [hV, hC] at this
    have HCsp : Hid (∀ W, Below w8.heap.size w8 W → Calls Try.prog 16 #[.agg #[.string A.nm, .slice ha A.ts.length ca, .int .i64 A.ac, .int .i64 A.nu], .agg #[.string C.nm, .slice hbb C.ts.length cb, .int .i64 C.ac, .int .i64 C.nu]] W fun e w' => e = .returned (.tuple #[.agg #[.int .i64 v1, .int .i64 v2, .int .i64 v3, .int .i64 v4, .int .i64 v5], .bool (ckT A C), .int .i64 0]) ∧ Below W.heap.size W w') := fun W hW => by
      have := specClashN_any A C ha hbb ca cb (drawn_ok (rs := [A]) (by simpa using HMa.out) A (by simp)) (drawn_ok (rs := [C]) (by simpa using HMb.out) C (by simp)) W (ReadsTm.later RA8.out hW) (ReadsTm.later RB8.out hW)
      rwa [hV, hC] at this
    clear hV hC
    go_wp2_with fail
    (first | go_at_call 15 | skip)
    refine (HCab.out _ (below_alloc _ _)).mono ?_
    rintro e w9 ⟨rfl, hb9⟩
    have b89 : Below w8.heap.size w8 w9 := chain (below_alloc _ _) hb9
    have KA9 : Hid (K4 w9 w7.heap.size A ha ca) := KA.out.later b89
    have KC9 : Hid (K4 w9 w8.heap.size C hbb cb) := (K4.new w8 C hbb cb _).later hb9
    have F9 : Hid (FcAt w9 w1.heap.size x1 x2 x3 x4 x5) := F8.out.later b89
    have D9 : Hid (Below w8.heap.size w8 w9) := b89
    clear k0 k1 k2 k3 p0 p1 p2 p3 hb9 KA F8 HCab
    obtain ⟨p0, p1, p2, p3⟩ := KA9.out
    obtain ⟨k0, k1, k2, k3⟩ := KC9.out
    have hA9 := KA9.out.lt
    have hC9 := KC9.out.lt
    go_wp2_with fail
    (first | go_at_call 15 | skip)
    refine (HCba.out _ (chain D9.out (below_alloc _ _))).mono ?_
    rintro e w10 ⟨rfl, hb10⟩
    have b910 : Below w9.heap.size w9 w10 := chain (below_alloc _ _) hb10
    have KA10 : Hid (K4 w10 w7.heap.size A ha ca) := KA9.out.later b910
    have KC10 : Hid (K4 w10 w8.heap.size C hbb cb) := KC9.out.later b910
    have G10 : Hid (FcAt w10 w9.heap.size v1 v2 v3 v4 v5) := (FcAt.new w9 v1 v2 v3 v4 v5).later hb10
    have F10 : Hid (FcAt w10 w1.heap.size x1 x2 x3 x4 x5) := F9.out.later b910
    have D10 : Hid (Below w8.heap.size w8 w10) := chain D9.out b910
    clear k0 k1 k2 k3 p0 p1 p2 p3 hb10 KA9 KC9 F9 HCba D9 b89 b910 hA9 hC9
    obtain ⟨p0, p1, p2, p3⟩ := KA10.out
    obtain ⟨k0, k1, k2, k3⟩ := KC10.out
    have hA9 := KA10.out.lt
    have hC9 := KC10.out.lt
    go_wp2_with fail
    (first | go_at_call 16 | skip)
    refine (HCsp.out _ (chain D10.out (below_alloc _ _))).mono ?_
    rintro e w11 ⟨rfl, hb11⟩
    have b1011 : Below w10.heap.size w10 w11 := chain (below_alloc _ _) hb11
    have KA11 : Hid (K4 w11 w7.heap.size A ha ca) := KA10.out.later b1011
    have KC11 : Hid (K4 w11 w8.heap.size C hbb cb) := KC10.out.later b1011
    have G11 : Hid (FcAt w11 w9.heap.size v1 v2 v3 v4 v5) := G10.out.later b1011
    have H11 : Hid (FcAt w11 w10.heap.size v1 v2 v3 v4 v5) := (FcAt.new w10 v1 v2 v3 v4 v5).later hb11
    have F11 : Hid (FcAt w11 w1.heap.size x1 x2 x3 x4 x5) := F10.out.later b1011
    have D11 : Hid (Below w8.heap.size w8 w11) := chain D10.out b1011
    clear k0 k1 k2 k3 p0 p1 p2 p3 hb11 KA10 KC10 F10 HCsp D10 b1011 hA9 hC9 G10
    obtain ⟨p0, p1, p2, p3⟩ := KA11.out
    obtain ⟨k0, k1, k2, k3⟩ := KC11.out
    obtain ⟨f0, f1, f2, f3, f4⟩ := F11.out
    obtain ⟨g0', g1', g2', g3', g4'⟩ := G11.out
    obtain ⟨h0', h1', h2', h3', h4'⟩ := H11.out
    have hA9 := KA11.out.lt
    have hC9 := KC11.out.lt
    have hF9 := F11.out.lt
    have hG9 := G11.out.lt
    have hH9 := H11.out.lt
    have hU : (A.ac == C.ac) = false ∨ (A.ac = C.ac ∧ (A.nu == C.nu) = false) ∨ (A.ac = C.ac ∧ A.nu = C.nu) := by
      by_cases u : A.ac = C.ac
      · by_cases u' : A.nu = C.nu
        · exact .inr (.inr ⟨u, u'⟩)
        · exact .inr (.inl ⟨u, by simpa using u'⟩)
      · exact .inl (by simpa using u)
    have tA := clOne_terms HMa.out
    have tC := clOne_terms HMb.out
    have okA := drawn_ok (rs := [A]) (by simpa using HMa.out) A (by simp)
    have okC := drawn_ok (rs := [C]) (by simpa using HMb.out) C (by simp)
    have HFa : Hid (∀ (ac nu y1 y2 y3 y4 y5 : Int) (W : World), Below w8.heap.size w8 W → Calls Try.prog 9 #[.agg #[.string A.nm, .slice ha A.ts.length ca, .int .i64 ac, .int .i64 nu], .agg #[.int .i64 y1, .int .i64 y2, .int .i64 y3, .int .i64 y4, .int .i64 y5]] W fun e w' => e = .returned (.bool (fireB [0, y1, y2, y3, y4, y5] A.ts)) ∧ Below W.heap.size W w') := fun ac nu y1 y2 y3 y4 y5 W hW => lawFires_any A.nm ac nu ha ca A.ts tA (by have := okA.2; omega) y1 y2 y3 y4 y5 W (ReadsTm.later RA8.out hW)
    have HFc : Hid (∀ (ac nu y1 y2 y3 y4 y5 : Int) (W : World), Below w8.heap.size w8 W → Calls Try.prog 9 #[.agg #[.string C.nm, .slice hbb C.ts.length cb, .int .i64 ac, .int .i64 nu], .agg #[.int .i64 y1, .int .i64 y2, .int .i64 y3, .int .i64 y4, .int .i64 y5]] W fun e w' => e = .returned (.bool (fireB [0, y1, y2, y3, y4, y5] C.ts)) ∧ Below W.heap.size W w') := fun ac nu y1 y2 y3 y4 y5 W hW => lawFires_any C.nm ac nu hbb cb C.ts tC (by have := okC.2; omega) y1 y2 y3 y4 y5 W (ReadsTm.later RB8.out hW)
    have HNo : Hid (canT (A.ts ++ C.ts) = false → fireB [0, x1, x2, x3, x4, x5] A.ts = true → fireB [0, x1, x2, x3, x4, x5] C.ts = false) := fun q q1 => by
      cases q2 : fireB [0, x1, x2, x3, x4, x5] C.ts with
      | false => rfl
      | true =>
        have q3 : fireB [0, x1, x2, x3, x4, x5] (A.ts ++ C.ts) = true := by
          unfold fireB at *
          rw [List.all_append, q1, q2]; rfl
        have q4 := fires_can rfl (fun t ht => by
          rcases List.mem_append.1 ht with h | h
          · exact List.all_eq_true.mp tA t h
          · exact List.all_eq_true.mp tC t h) HF.out q3
        rw [q4] at q
        cases q
    clear tA tC okA okC HCl HMe HAt hla hlb m7 n7 m8 n8
    generalize ckT A C = T at *
    cases T
    · have hN' := hN rfl
      clear hT hN
      rcases hU with u | ⟨u, u'⟩ | ⟨u, u'⟩
      · have hc : canT (A.ts ++ C.ts) = false := by
          rcases hN' with q | q
          · exact q
          · rw [q.1] at u; simp at u
        clear hN'
        have u1 : ¬ A.ac = C.ac := by simpa using u
        have u2 : (A.ac != C.ac) = true := by simpa using u1
        go_wp2_with fail
        (first | go_at_call 9 | skip)
        refine (HFa.out _ _ x1 x2 x3 x4 x5 _ (chain D11.out (below_alloc _ _))).mono ?_
        rintro e w12 ⟨rfl, hb12⟩
        have b12 : Below w11.heap.size w11 w12 := chain (below_alloc _ _) hb12
        obtain ⟨k0, k1, k2, k3⟩ := KC11.out.later b12
        obtain ⟨f0, f1, f2, f3, f4⟩ := F11.out.later b12
        have D12 : Hid (Below w8.heap.size w8 w12) := chain D11.out b12
        clear hb12 b12
        cases hfa : fireB [0, x1, x2, x3, x4, x5] A.ts
        · go_wp2
          go_ret
          exact ⟨rfl, chain B1.out (chain B8.out D12.out)⟩
        · have hfc := HNo.out hc hfa
          go_wp2_with fail
          (first | go_at_call 9 | skip)
          refine (HFc.out _ _ x1 x2 x3 x4 x5 _ D12.out).mono ?_
          rintro e w13 ⟨rfl, hb13⟩
          rw [hfc]
          have D13 : Hid (Below w8.heap.size w8 w13) := chain D12.out hb13
          clear hb13
          go_wp2
          go_ret
          exact ⟨rfl, chain B1.out (chain B8.out D13.out)⟩
      · have hc : canT (A.ts ++ C.ts) = false := by
          rcases hN' with q | q
          · exact q
          · rw [q.2] at u'; simp at u'
        clear hN'
        have u1 : ¬ A.nu = C.nu := by simpa using u'
        have u2 : (A.nu != C.nu) = true := by simpa using u1
        have u3 : (A.ac != C.ac) = false := by simpa using u
        go_wp2_with fail
        (first | go_at_call 9 | skip)
        refine (HFa.out _ _ x1 x2 x3 x4 x5 _ (chain D11.out (below_alloc _ _))).mono ?_
        rintro e w12 ⟨rfl, hb12⟩
        have b12 : Below w11.heap.size w11 w12 := chain (below_alloc _ _) hb12
        obtain ⟨k0, k1, k2, k3⟩ := KC11.out.later b12
        obtain ⟨f0, f1, f2, f3, f4⟩ := F11.out.later b12
        have D12 : Hid (Below w8.heap.size w8 w12) := chain D11.out b12
        clear hb12 b12
        cases hfa : fireB [0, x1, x2, x3, x4, x5] A.ts
        · go_wp2
          go_ret
          exact ⟨rfl, chain B1.out (chain B8.out D12.out)⟩
        · have hfc := HNo.out hc hfa
          go_wp2_with fail
          (first | go_at_call 9 | skip)
          refine (HFc.out _ _ x1 x2 x3 x4 x5 _ D12.out).mono ?_
          rintro e w13 ⟨rfl, hb13⟩
          rw [hfc]
          have D13 : Hid (Below w8.heap.size w8 w13) := chain D12.out hb13
          clear hb13
          go_wp2
          go_ret
          exact ⟨rfl, chain B1.out (chain B8.out D13.out)⟩
      · clear hN'
        have u2 : (A.nu != C.nu) = false := by simpa using u'
        have u3 : (A.ac != C.ac) = false := by simpa using u
        go_wp2
        go_ret
        exact ⟨rfl, chain B1.out (chain B8.out (chain D11.out (below_alloc _ _)))⟩
    · obtain ⟨⟨hv1, hv2⟩, hor⟩ := hT rfl
      clear hT hN
      have HV1 : Hid (fireB [0, v1, v2, v3, v4, v5] A.ts = true) := hv1
      have HV2 : Hid (fireB [0, v1, v2, v3, v4, v5] C.ts = true) := hv2
      clear hv1 hv2
      rcases hU with u | ⟨u, u'⟩ | ⟨u, u'⟩
      · clear hor
        have u1 : ¬ A.ac = C.ac := by simpa using u
        have u2 : (A.ac != C.ac) = true := by simpa using u1
        go_wp2_with fail
        (first | go_at_call 9 | skip)
        refine (HFa.out _ _ v1 v2 v3 v4 v5 _ (chain D11.out (below_alloc _ _))).mono ?_
        rintro e w12 ⟨rfl, hb12⟩
        have b12 : Below w11.heap.size w11 w12 := chain (below_alloc _ _) hb12
        obtain ⟨k0, k1, k2, k3⟩ := KC11.out.later b12
        obtain ⟨g0', g1', g2', g3', g4'⟩ := G11.out.later b12
        rw [HV1.out]
        have D12 : Hid (Below w8.heap.size w8 w12) := chain D11.out b12
        clear hb12 b12
        go_wp2_with fail
        (first | go_at_call 9 | skip)
        refine (HFc.out _ _ v1 v2 v3 v4 v5 _ D12.out).mono ?_
        rintro e w13 ⟨rfl, hb13⟩
        rw [HV2.out]
        have D13 : Hid (Below w8.heap.size w8 w13) := chain D12.out hb13
        clear hb13
        go_wp2
        go_ret
        exact ⟨rfl, chain B1.out (chain B8.out D13.out)⟩
      · clear hor
        have u1 : ¬ A.nu = C.nu := by simpa using u'
        have u2 : (A.nu != C.nu) = true := by simpa using u1
        have u3 : (A.ac != C.ac) = false := by simpa using u
        go_wp2_with fail
        (first | go_at_call 9 | skip)
        refine (HFa.out _ _ v1 v2 v3 v4 v5 _ (chain D11.out (below_alloc _ _))).mono ?_
        rintro e w12 ⟨rfl, hb12⟩
        have b12 : Below w11.heap.size w11 w12 := chain (below_alloc _ _) hb12
        obtain ⟨k0, k1, k2, k3⟩ := KC11.out.later b12
        obtain ⟨g0', g1', g2', g3', g4'⟩ := G11.out.later b12
        rw [HV1.out]
        have D12 : Hid (Below w8.heap.size w8 w12) := chain D11.out b12
        clear hb12 b12
        go_wp2_with fail
        (first | go_at_call 9 | skip)
        refine (HFc.out _ _ v1 v2 v3 v4 v5 _ D12.out).mono ?_
        rintro e w13 ⟨rfl, hb13⟩
        rw [HV2.out]
        have D13 : Hid (Below w8.heap.size w8 w13) := chain D12.out hb13
        clear hb13
        go_wp2
        go_ret
        exact ⟨rfl, chain B1.out (chain B8.out D13.out)⟩
      · rcases hor with q | q
        · rw [u] at q; simp at q
        · rw [u'] at q; simp at q
  · obtain ⟨kk, hkk⟩ : ∃ kk : Nat, fidx (fun c => fireB [0, x1, x2, x3, x4, x5] c.ts) rs = (kk : Int) := ⟨(fidx (fun c => fireB [0, x1, x2, x3, x4, x5] c.ts) rs).toNat, by omega⟩
    have HK : Hid ((kk : Int) ∉ hidL rs) := HNh.out kk hkk
    rw [q2, q3, hkk]
    clear q1 q2 q3 HNh hkk
    go_wp2_with fail
    go_loopw [13] (fun c wr => ∃ k : Nat, k ≤ (hidL rs).length ∧ c = .int .i64 (k : Int) ∧ Below w5.heap.size w5 wr) (fun c _ => (hidL rs).length - (intOf c).toNat)
    case atStart => exact ⟨0, Nat.zero_le _, rfl, Below.refl _ _⟩
    case round =>
      obtain ⟨k, hk, rfl, hbk⟩ := hrel
      have BK : Hid (Below w5.heap.size w5 wr) := hbk
      clear hbk
      by_cases hlt : k < (hidL rs).length
      · have hlt' : (k : Int) < ((hidL rs).length : Int) := by omega
        rcases O5.out with q | ⟨b0, o0, q, hB0, ia⟩
        · rw [q] at hlt; simp at hlt
        have c0 := (ia.below BK.out hB0) k hlt
        have hne : ¬ (hidL rs).getD k 0 = (kk : Int) := fun e => HK.out (by
          rw [← e, show (hidL rs).getD k 0 = (hidL rs)[k] by simp [List.getD_eq_getElem?_getD, hlt]]
          exact List.getElem_mem hlt)
        have hne2 : ((hidL rs).getD k 0 == (kk : Int)) = false := by simpa using hne
        rw [q]
        clear ia
        generalize (hidL rs).getD k 0 = xk at *
        go_wp2
        go_roundw
        case rel => exact ⟨k + 1, by omega, by go_num, BK.out⟩
        case measure => simp [intOf]; omega
      · have hle : ((hidL rs).length : Int) ≤ (k : Int) := by omega
        have B6 : Hid (Below w1.heap.size w1 wr) := chain B5.out BK.out
        have F6 : Hid (FcAt wr w1.heap.size x1 x2 x3 x4 x5) := F5.out.later BK.out
        clear BK O5 B5 F5 HK
        by_cases hn2 : rs.length < 2
        · have hn2' : (rs.length : Int) < 2 := by omega
          go_wp2
          go_ret
          exact ⟨rfl, chain B1.out B6.out⟩
        have hn2' : (2 : Int) ≤ (rs.length : Int) := by omega
        go_wp2_with fail
        (first | go_at_call 14 | skip)
        refine (HAt.out 0 rs.length _ (by omega) (by omega) (by omega) (chain B1.out B6.out)).mono ?_
        rintro e w7 ⟨y7, rfl, hy7, hb7⟩
        obtain ⟨m7, n7⟩ := drawn5 hy7 (by omega)
        obtain ⟨j7, rfl⟩ : ∃ j : Nat, y7 = (j : Int) := ⟨y7.toNat, by omega⟩
        have B7 : Hid (Below w1.heap.size w1 w7) := chain B6.out hb7
        have F7 : Hid (FcAt w7 w1.heap.size x1 x2 x3 x4 x5) := F6.out.later hb7
        obtain ⟨ha, ca, ⟨k0, k1, k2, k3⟩, hla, hra⟩ := HCl.out w7 B7.out j7 (by omega)
        have RA : Hid (ReadsTm w7.heap.size w7 ha (rs.getD j7 zCl).ts) := hra
        clear hb7 hy7 hra
        have HMa : Hid (clOne (rs.getD j7 zCl) = true) := HO.out _ (HMe.out j7 (by omega))
        generalize rs.getD j7 zCl = A at *
        go_wp2_with fail
        (first | go_at_call 14 | skip)
        refine (HAt.out 1 rs.length _ (by omega) (by omega) (by omega) (chain B1.out (chain B7.out (below_alloc _ _)))).mono ?_
        rintro e w8 ⟨y8, rfl, hy8, hb8⟩
        obtain ⟨m8, n8⟩ := drawn5 hy8 (by omega)
        obtain ⟨j8, rfl⟩ : ∃ j : Nat, y8 = (j : Int) := ⟨y8.toNat, by omega⟩
        have b78 : Below w7.heap.size w7 w8 := chain (below_alloc _ _) hb8
        have B8 : Hid (Below w1.heap.size w1 w8) := chain B7.out b78
        have F8 : Hid (FcAt w8 w1.heap.size x1 x2 x3 x4 x5) := F7.out.later b78
        have RA8 : Hid (ReadsTm w8.heap.size w8 ha A.ts) := ReadsTm.later RA.out b78
        have KA : Hid (K4 w8 w7.heap.size A ha ca) := (K4.new w7 A ha ca _).later hb8
        clear hy8 hb8 k0 k1 k2 k3 b78 RA F7 B7
        obtain ⟨hbb, cb, ⟨k0, k1, k2, k3⟩, hlb, hrb⟩ := HCl.out w8 B8.out j8 (by omega)
        have RB8 : Hid (ReadsTm w8.heap.size w8 hbb (rs.getD j8 zCl).ts) := hrb
        have HMb : Hid (clOne (rs.getD j8 zCl) = true) := HO.out _ (HMe.out j8 (by omega))
        clear hrb
        generalize rs.getD j8 zCl = C at *
        obtain ⟨p0, p1, p2, p3⟩ := KA.out
        have hA8 := KA.out.lt
        obtain ⟨v1, v2, v3, v4, v5, hV, hC, hT, hN⟩ := ck_facts HMa.out HMb.out
        have HCab : Hid (∀ W, Below w8.heap.size w8 W → Calls Try.prog 15 #[.agg #[.string A.nm, .slice ha A.ts.length ca, .int .i64 A.ac, .int .i64 A.nu], .agg #[.string C.nm, .slice hbb C.ts.length cb, .int .i64 C.ac, .int .i64 C.nu]] W fun e w' => e = .returned (.tuple #[.agg #[.int .i64 v1, .int .i64 v2, .int .i64 v3, .int .i64 v4, .int .i64 v5], .bool (ckT A C), .int .i64 0]) ∧ Below W.heap.size W w') := fun W hW => by
          have := implClash_any A C ha hbb ca cb (drawn_ok (rs := [A]) (by simpa using HMa.out) A (by simp)) (drawn_ok (rs := [C]) (by simpa using HMb.out) C (by simp)) W (ReadsTm.later RA8.out hW) (ReadsTm.later RB8.out hW)
          rwa [hV, hC] at this
        have HCba : Hid (∀ W, Below w8.heap.size w8 W → Calls Try.prog 15 #[.agg #[.string C.nm, .slice hbb C.ts.length cb, .int .i64 C.ac, .int .i64 C.nu], .agg #[.string A.nm, .slice ha A.ts.length ca, .int .i64 A.ac, .int .i64 A.nu]] W fun e w' => e = .returned (.tuple #[.agg #[.int .i64 v1, .int .i64 v2, .int .i64 v3, .int .i64 v4, .int .i64 v5], .bool (ckT A C), .int .i64 0]) ∧ Below W.heap.size W w') := fun W hW => by
          have := implClash_any C A hbb ha cb ca (drawn_ok (rs := [C]) (by simpa using HMb.out) C (by simp)) (drawn_ok (rs := [A]) (by simpa using HMa.out) A (by simp)) W (ReadsTm.later RB8.out hW) (ReadsTm.later RA8.out hW)
          rw [(ck_comm C A).1, (ck_comm C A).2.1, (ck_comm C A).2.2] at this
          rwa [hV, hC] at this
        have HCsp : Hid (∀ W, Below w8.heap.size w8 W → Calls Try.prog 16 #[.agg #[.string A.nm, .slice ha A.ts.length ca, .int .i64 A.ac, .int .i64 A.nu], .agg #[.string C.nm, .slice hbb C.ts.length cb, .int .i64 C.ac, .int .i64 C.nu]] W fun e w' => e = .returned (.tuple #[.agg #[.int .i64 v1, .int .i64 v2, .int .i64 v3, .int .i64 v4, .int .i64 v5], .bool (ckT A C), .int .i64 0]) ∧ Below W.heap.size W w') := fun W hW => by
          have := specClashN_any A C ha hbb ca cb (drawn_ok (rs := [A]) (by simpa using HMa.out) A (by simp)) (drawn_ok (rs := [C]) (by simpa using HMb.out) C (by simp)) W (ReadsTm.later RA8.out hW) (ReadsTm.later RB8.out hW)
          rwa [hV, hC] at this
        clear hV hC
        go_wp2_with fail
        (first | go_at_call 15 | skip)
        refine (HCab.out _ (below_alloc _ _)).mono ?_
        rintro e w9 ⟨rfl, hb9⟩
        have b89 : Below w8.heap.size w8 w9 := chain (below_alloc _ _) hb9
        have KA9 : Hid (K4 w9 w7.heap.size A ha ca) := KA.out.later b89
        have KC9 : Hid (K4 w9 w8.heap.size C hbb cb) := (K4.new w8 C hbb cb _).later hb9
        have F9 : Hid (FcAt w9 w1.heap.size x1 x2 x3 x4 x5) := F8.out.later b89
        have D9 : Hid (Below w8.heap.size w8 w9) := b89
        clear k0 k1 k2 k3 p0 p1 p2 p3 hb9 KA F8 HCab
        obtain ⟨p0, p1, p2, p3⟩ := KA9.out
        obtain ⟨k0, k1, k2, k3⟩ := KC9.out
        have hA9 := KA9.out.lt
        have hC9 := KC9.out.lt
        go_wp2_with fail
        (first | go_at_call 15 | skip)
        refine (HCba.out _ (chain D9.out (below_alloc _ _))).mono ?_
        rintro e w10 ⟨rfl, hb10⟩
        have b910 : Below w9.heap.size w9 w10 := chain (below_alloc _ _) hb10
        have KA10 : Hid (K4 w10 w7.heap.size A ha ca) := KA9.out.later b910
        have KC10 : Hid (K4 w10 w8.heap.size C hbb cb) := KC9.out.later b910
        have G10 : Hid (FcAt w10 w9.heap.size v1 v2 v3 v4 v5) := (FcAt.new w9 v1 v2 v3 v4 v5).later hb10
        have F10 : Hid (FcAt w10 w1.heap.size x1 x2 x3 x4 x5) := F9.out.later b910
        have D10 : Hid (Below w8.heap.size w8 w10) := chain D9.out b910
        clear k0 k1 k2 k3 p0 p1 p2 p3 hb10 KA9 KC9 F9 HCba D9 b89 b910 hA9 hC9
        obtain ⟨p0, p1, p2, p3⟩ := KA10.out
        obtain ⟨k0, k1, k2, k3⟩ := KC10.out
        have hA9 := KA10.out.lt
        have hC9 := KC10.out.lt
        go_wp2_with fail
        (first | go_at_call 16 | skip)
        refine (HCsp.out _ (chain D10.out (below_alloc _ _))).mono ?_
        rintro e w11 ⟨rfl, hb11⟩
        have b1011 : Below w10.heap.size w10 w11 := chain (below_alloc _ _) hb11
        have KA11 : Hid (K4 w11 w7.heap.size A ha ca) := KA10.out.later b1011
        have KC11 : Hid (K4 w11 w8.heap.size C hbb cb) := KC10.out.later b1011
        have G11 : Hid (FcAt w11 w9.heap.size v1 v2 v3 v4 v5) := G10.out.later b1011
        have H11 : Hid (FcAt w11 w10.heap.size v1 v2 v3 v4 v5) := (FcAt.new w10 v1 v2 v3 v4 v5).later hb11
        have F11 : Hid (FcAt w11 w1.heap.size x1 x2 x3 x4 x5) := F10.out.later b1011
        have D11 : Hid (Below w8.heap.size w8 w11) := chain D10.out b1011
        clear k0 k1 k2 k3 p0 p1 p2 p3 hb11 KA10 KC10 F10 HCsp D10 b1011 hA9 hC9 G10
        obtain ⟨p0, p1, p2, p3⟩ := KA11.out
        obtain ⟨k0, k1, k2, k3⟩ := KC11.out
        obtain ⟨f0, f1, f2, f3, f4⟩ := F11.out
        obtain ⟨g0', g1', g2', g3', g4'⟩ := G11.out
        obtain ⟨h0', h1', h2', h3', h4'⟩ := H11.out
        have hA9 := KA11.out.lt
        have hC9 := KC11.out.lt
        have hF9 := F11.out.lt
        have hG9 := G11.out.lt
        have hH9 := H11.out.lt
        have hU : (A.ac == C.ac) = false ∨ (A.ac = C.ac ∧ (A.nu == C.nu) = false) ∨ (A.ac = C.ac ∧ A.nu = C.nu) := by
          by_cases u : A.ac = C.ac
          · by_cases u' : A.nu = C.nu
            · exact .inr (.inr ⟨u, u'⟩)
            · exact .inr (.inl ⟨u, by simpa using u'⟩)
          · exact .inl (by simpa using u)
        have tA := clOne_terms HMa.out
        have tC := clOne_terms HMb.out
        have okA := drawn_ok (rs := [A]) (by simpa using HMa.out) A (by simp)
        have okC := drawn_ok (rs := [C]) (by simpa using HMb.out) C (by simp)
        have HFa : Hid (∀ (ac nu y1 y2 y3 y4 y5 : Int) (W : World), Below w8.heap.size w8 W → Calls Try.prog 9 #[.agg #[.string A.nm, .slice ha A.ts.length ca, .int .i64 ac, .int .i64 nu], .agg #[.int .i64 y1, .int .i64 y2, .int .i64 y3, .int .i64 y4, .int .i64 y5]] W fun e w' => e = .returned (.bool (fireB [0, y1, y2, y3, y4, y5] A.ts)) ∧ Below W.heap.size W w') := fun ac nu y1 y2 y3 y4 y5 W hW => lawFires_any A.nm ac nu ha ca A.ts tA (by have := okA.2; omega) y1 y2 y3 y4 y5 W (ReadsTm.later RA8.out hW)
        have HFc : Hid (∀ (ac nu y1 y2 y3 y4 y5 : Int) (W : World), Below w8.heap.size w8 W → Calls Try.prog 9 #[.agg #[.string C.nm, .slice hbb C.ts.length cb, .int .i64 ac, .int .i64 nu], .agg #[.int .i64 y1, .int .i64 y2, .int .i64 y3, .int .i64 y4, .int .i64 y5]] W fun e w' => e = .returned (.bool (fireB [0, y1, y2, y3, y4, y5] C.ts)) ∧ Below W.heap.size W w') := fun ac nu y1 y2 y3 y4 y5 W hW => lawFires_any C.nm ac nu hbb cb C.ts tC (by have := okC.2; omega) y1 y2 y3 y4 y5 W (ReadsTm.later RB8.out hW)
        have HNo : Hid (canT (A.ts ++ C.ts) = false → fireB [0, x1, x2, x3, x4, x5] A.ts = true → fireB [0, x1, x2, x3, x4, x5] C.ts = false) := fun q q1 => by
          cases q2 : fireB [0, x1, x2, x3, x4, x5] C.ts with
          | false => rfl
          | true =>
            have q3 : fireB [0, x1, x2, x3, x4, x5] (A.ts ++ C.ts) = true := by
              unfold fireB at *
              rw [List.all_append, q1, q2]; rfl
            have q4 := fires_can rfl (fun t ht => by
              rcases List.mem_append.1 ht with h | h
              · exact List.all_eq_true.mp tA t h
              · exact List.all_eq_true.mp tC t h) HF.out q3
            rw [q4] at q
            cases q
        clear tA tC okA okC HCl HMe HAt hla hlb m7 n7 m8 n8
        generalize ckT A C = T at *
        cases T
        · have hN' := hN rfl
          clear hT hN
          rcases hU with u | ⟨u, u'⟩ | ⟨u, u'⟩
          · have hc : canT (A.ts ++ C.ts) = false := by
              rcases hN' with q | q
              · exact q
              · rw [q.1] at u; simp at u
            clear hN'
            have u1 : ¬ A.ac = C.ac := by simpa using u
            have u2 : (A.ac != C.ac) = true := by simpa using u1
            go_wp2_with fail
            (first | go_at_call 9 | skip)
            refine (HFa.out _ _ x1 x2 x3 x4 x5 _ (chain D11.out (below_alloc _ _))).mono ?_
            rintro e w12 ⟨rfl, hb12⟩
            have b12 : Below w11.heap.size w11 w12 := chain (below_alloc _ _) hb12
            obtain ⟨k0, k1, k2, k3⟩ := KC11.out.later b12
            obtain ⟨f0, f1, f2, f3, f4⟩ := F11.out.later b12
            have D12 : Hid (Below w8.heap.size w8 w12) := chain D11.out b12
            clear hb12 b12
            cases hfa : fireB [0, x1, x2, x3, x4, x5] A.ts
            · go_wp2
              go_ret
              exact ⟨rfl, chain B1.out (chain B8.out D12.out)⟩
            · have hfc := HNo.out hc hfa
              go_wp2_with fail
              (first | go_at_call 9 | skip)
              refine (HFc.out _ _ x1 x2 x3 x4 x5 _ D12.out).mono ?_
              rintro e w13 ⟨rfl, hb13⟩
              rw [hfc]
              have D13 : Hid (Below w8.heap.size w8 w13) := chain D12.out hb13
              clear hb13
              go_wp2
              go_ret
              exact ⟨rfl, chain B1.out (chain B8.out D13.out)⟩
          · have hc : canT (A.ts ++ C.ts) = false := by
              rcases hN' with q | q
              · exact q
              · rw [q.2] at u'; simp at u'
            clear hN'
            have u1 : ¬ A.nu = C.nu := by simpa using u'
            have u2 : (A.nu != C.nu) = true := by simpa using u1
            have u3 : (A.ac != C.ac) = false := by simpa using u
            go_wp2_with fail
            (first | go_at_call 9 | skip)
            refine (HFa.out _ _ x1 x2 x3 x4 x5 _ (chain D11.out (below_alloc _ _))).mono ?_
            rintro e w12 ⟨rfl, hb12⟩
            have b12 : Below w11.heap.size w11 w12 := chain (below_alloc _ _) hb12
            obtain ⟨k0, k1, k2, k3⟩ := KC11.out.later b12
            obtain ⟨f0, f1, f2, f3, f4⟩ := F11.out.later b12
            have D12 : Hid (Below w8.heap.size w8 w12) := chain D11.out b12
            clear hb12 b12
            cases hfa : fireB [0, x1, x2, x3, x4, x5] A.ts
            · go_wp2
              go_ret
              exact ⟨rfl, chain B1.out (chain B8.out D12.out)⟩
            · have hfc := HNo.out hc hfa
              go_wp2_with fail
              (first | go_at_call 9 | skip)
              refine (HFc.out _ _ x1 x2 x3 x4 x5 _ D12.out).mono ?_
              rintro e w13 ⟨rfl, hb13⟩
              rw [hfc]
              have D13 : Hid (Below w8.heap.size w8 w13) := chain D12.out hb13
              clear hb13
              go_wp2
              go_ret
              exact ⟨rfl, chain B1.out (chain B8.out D13.out)⟩
          · clear hN'
            have u2 : (A.nu != C.nu) = false := by simpa using u'
            have u3 : (A.ac != C.ac) = false := by simpa using u
            go_wp2
            go_ret
            exact ⟨rfl, chain B1.out (chain B8.out (chain D11.out (below_alloc _ _)))⟩
        · obtain ⟨⟨hv1, hv2⟩, hor⟩ := hT rfl
          clear hT hN
          have HV1 : Hid (fireB [0, v1, v2, v3, v4, v5] A.ts = true) := hv1
          have HV2 : Hid (fireB [0, v1, v2, v3, v4, v5] C.ts = true) := hv2
          clear hv1 hv2
          rcases hU with u | ⟨u, u'⟩ | ⟨u, u'⟩
          · clear hor
            have u1 : ¬ A.ac = C.ac := by simpa using u
            have u2 : (A.ac != C.ac) = true := by simpa using u1
            go_wp2_with fail
            (first | go_at_call 9 | skip)
            refine (HFa.out _ _ v1 v2 v3 v4 v5 _ (chain D11.out (below_alloc _ _))).mono ?_
            rintro e w12 ⟨rfl, hb12⟩
            have b12 : Below w11.heap.size w11 w12 := chain (below_alloc _ _) hb12
            obtain ⟨k0, k1, k2, k3⟩ := KC11.out.later b12
            obtain ⟨g0', g1', g2', g3', g4'⟩ := G11.out.later b12
            rw [HV1.out]
            have D12 : Hid (Below w8.heap.size w8 w12) := chain D11.out b12
            clear hb12 b12
            go_wp2_with fail
            (first | go_at_call 9 | skip)
            refine (HFc.out _ _ v1 v2 v3 v4 v5 _ D12.out).mono ?_
            rintro e w13 ⟨rfl, hb13⟩
            rw [HV2.out]
            have D13 : Hid (Below w8.heap.size w8 w13) := chain D12.out hb13
            clear hb13
            go_wp2
            go_ret
            exact ⟨rfl, chain B1.out (chain B8.out D13.out)⟩
          · clear hor
            have u1 : ¬ A.nu = C.nu := by simpa using u'
            have u2 : (A.nu != C.nu) = true := by simpa using u1
            have u3 : (A.ac != C.ac) = false := by simpa using u
            go_wp2_with fail
            (first | go_at_call 9 | skip)
            refine (HFa.out _ _ v1 v2 v3 v4 v5 _ (chain D11.out (below_alloc _ _))).mono ?_
            rintro e w12 ⟨rfl, hb12⟩
            have b12 : Below w11.heap.size w11 w12 := chain (below_alloc _ _) hb12
            obtain ⟨k0, k1, k2, k3⟩ := KC11.out.later b12
            obtain ⟨g0', g1', g2', g3', g4'⟩ := G11.out.later b12
            rw [HV1.out]
            have D12 : Hid (Below w8.heap.size w8 w12) := chain D11.out b12
            clear hb12 b12
            go_wp2_with fail
            (first | go_at_call 9 | skip)
            refine (HFc.out _ _ v1 v2 v3 v4 v5 _ D12.out).mono ?_
            rintro e w13 ⟨rfl, hb13⟩
            rw [HV2.out]
            have D13 : Hid (Below w8.heap.size w8 w13) := chain D12.out hb13
            clear hb13
            go_wp2
            go_ret
            exact ⟨rfl, chain B1.out (chain B8.out D13.out)⟩
          · rcases hor with q | q
            · rw [u] at q; simp at q
            · rw [u'] at q; simp at q
theorem own : ownKnob Try.prog.godebug = none := by kernel_rfl
theorem laidOut : laidOutB Try.prog = true := by kernel_rfl

set_option maxRecDepth 100000 in
theorem lifted (os : Os) (started : os.Started) (H : Type) (enc : TypeId × Value → H) :
    ReturnsInHanded {} Try.checked os 4 .any (Rows.fnClashSpec.pre6 enc Try.prog Try.f4 Rows.fnClashRow.domain false) (Rows.fnClashSpec.post enc Try.prog Try.f4 false true false false) := by
  refine returnsInHanded_of_change (C := Try.checked) own started (by kernel_rfl) Try.func4
    (ChangeSpec.witness6 (enc := enc) (C := Try.checked) false ⟨#[], #[.slice none 0 0, .slice none 0 0], []⟩ 8 (by kernel_rfl) (by kernel_rfl) (by kernel_rfl) (by kernel_rfl)) ?_
  intro W base args ds gs before hval0 hW hcnd _
  have hval : ∀ (j : Nat) t v, Try.f4.params[j]? = some t → args[j]? = some v → Value.okWide Try.prog W .any base t v := hval0
  have hW' := hW
  obtain ⟨p, q, hA0, hV, rfl, hfz, hnd⟩ := hW
  have hA : DataW.TrodAll enc Try.prog W 0 (fun _ => true) true Try.f4.params.toList args.toList ds p := hA0
  rw [Try.params4] at hA hval
  obtain ⟨v0, vs0, d0, ds0, p0, q0, hargs, rfl, rfl, h0, r0⟩ := trodAll_cons hA
  obtain ⟨v1, vs1, d1, ds1, p1, q1, rfl, rfl, rfl, h1, r1⟩ := trodAll_cons r0
  obtain ⟨rfl, rfl, rfl⟩ := trodAll_nil r1
  obtain rfl : args = #[v0, v1] := by cases args; simp_all
  obtain ⟨rfl, rfl⟩ := trodVars_none hV
  have k0 := h0
  have lt0 : ∀ x ∈ p0, x.block < W.heap.size := by obtain ⟨m, hm⟩ := k0; exact DataW.trod_lt m _ _ _ hm
  have k1 := h1
  have lt1 : ∀ x ∈ p1, x.block < W.heap.size := by obtain ⟨m, hm⟩ := k1; exact DataW.trod_lt m _ _ _ hm
  obtain ⟨a0, len0, cap0, rfl⟩ := okWide_slice Try.underlying22 (hval 0 22 v0 rfl rfl)
  obtain ⟨z0, w0⟩ : ∃ zs, IsRow .u8 W a0 len0 cap0 zs := by
    obtain ⟨fuel, hf⟩ := h0
    rcases open_ints Try.underlying22 Try.underlying5 (by kernel_rfl) hf with ⟨hcs, _⟩ | ⟨x, l, c, zs, hcs, _, hl, hm, hz, _, hcell, hwz⟩
    · simp [Value.cells] at hcs
      obtain ⟨rfl, rfl, rfl⟩ := hcs
      exact ⟨[], .inl ⟨rfl, rfl, rfl, rfl⟩⟩
    · simp [Value.cells] at hcs
      obtain ⟨rfl, rfl, rfl⟩ := hcs
      exact ⟨zs, .inr ⟨_, rfl, hl, hm, by simpa using hz, hcell, hwz⟩⟩
  obtain ⟨a1, len1, cap1, rfl⟩ := okWide_slice Try.underlying22 (hval 1 22 v1 rfl rfl)
  obtain ⟨z1, w1⟩ : ∃ zs, IsRow .u8 W a1 len1 cap1 zs := by
    obtain ⟨fuel, hf⟩ := h1
    rcases open_ints Try.underlying22 Try.underlying5 (by kernel_rfl) hf with ⟨hcs, _⟩ | ⟨x, l, c, zs, hcs, _, hl, hm, hz, _, hcell, hwz⟩
    · simp [Value.cells] at hcs
      obtain ⟨rfl, rfl, rfl⟩ := hcs
      exact ⟨[], .inl ⟨rfl, rfl, rfl, rfl⟩⟩
    · simp [Value.cells] at hcs
      obtain ⟨rfl, rfl, rfl⟩ := hcs
      exact ⟨zs, .inr ⟨_, rfl, hl, hm, by simpa using hz, hcell, hwz⟩⟩
  clear hA0 hval0
  refine (walk a0 len0 cap0 z0 a1 len1 cap1 z1 W (rowB_of _ _ _ _ _ w0) (rowB_of _ _ _ _ _ w1)).mono fun e W' ⟨he, bel⟩ => ?_
  subst he
  exact ⟨_, rfl, _, _, _, [], _, [], hW', trodAll_mk1 (shut_bool Try.underlying4 _), (trodAll_cons_mk (Below.trod laidOut (by kernel_rfl) (of_decide_eq_true (by kernel_rfl)) k0 bel lt0) (trodAll_cons_mk (Below.trod laidOut (by kernel_rfl) (of_decide_eq_true (by kernel_rfl)) k1 bel lt1) trodAll_mk0)), rfl, bel.frame _, fun h => by cases h⟩

theorem over : Rows.fnClashRow.holds Try.pinned (OpenSpec.ofChange Rows.fnClashSpec) :=
  OpenClaim.holds_of_wide 4 Try.f4 rfl rfl rfl rfl rfl rfl rfl ⟨rfl, rfl, rfl, rfl, rfl⟩ rfl rfl rfl rfl rfl (by kernel_rfl) Try.func4 (by kernel_rfl)
    (of_decide_eq_true (by kernel_rfl)) (by unfold Func.isWrapper; first | (rw [if_pos (by decide +kernel)]; kernel_rfl) | (rw [if_neg (by decide +kernel)]; exact ⟨rfl, rfl⟩))
    (fun os started H enc _ => lifted os started H enc)
end FnClash

theorem fnClash_holds : Rows.FnClashSaid := FnClash.over
end Go.Proofs.Ythkmgccmeoigpaa

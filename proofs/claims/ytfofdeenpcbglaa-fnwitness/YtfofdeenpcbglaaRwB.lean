/-
  Contracts of the program's numbersBelow, neverTogether$1, of the library's slices.IndexFunc, slices.DeleteFunc over numbers with it, of slices.Clone.
-/
import Derived.Test.YtfofdeenpcbglaaRuB
import Derived.Test.YtfofdeenpcbglaaRow1
import Derived.Test.YtfofdeenpcbglaaShelf
import Derived.Lib.SliceRun
namespace Go.Proofs.Ytfofdeenpcbglaa
open Go.ChangeShapes Go.WideShapes Go.ChangeAt Go.RowKit Go.Deep
set_option linter.unusedVariables false

set_option maxHeartbeats 2000000 in
theorem clone_any (b : Nat) (off : Nat) (cb : Nat) (ns : List Int) (hn : ns.length ≤ 100) (h1 : 1 ≤ ns.length) (w : World) (ks : Reads w.heap.size w (some ⟨b, off, none⟩) ns) :
    Calls Try.prog 33 #[.slice (some ⟨b, off, none⟩) ns.length cb] w fun e w' => ∃ g cp, e = .returned (.slice (some ⟨g, 0, none⟩) ns.length cp) ∧ (w.heap.size ≤ g ∧ g < w'.heap.size) ∧ ns.length ≤ cp ∧ IntsAt w' g 0 ns ∧ FreeAt w' g 0 ns.length ∧ Below w.heap.size w w' := by
  rcases ks with h | ⟨b1, o1, hb1, hB1, ib⟩
  · rw [h] at h1; simp at h1
  cases hb1
  refine (Try.slices_Clone_int b off ns.length cb ns w (Nat.le_refl _) (by omega) (fun j hj => ib j hj)).mono ?_
  rintro e w' ⟨v', rfl, ho, hne, hb⟩
  rw [List.take_length] at ho
  have h2 := ho.2
  rcases h2 with ⟨h2, _⟩ | ⟨g, cap, cur, rfl, hB, hg, hle, _⟩
  · exact absurd h2 hne
  have hO : One w w.heap.size (.slice (some ⟨g, 0, none⟩) ns.length cap) ns w' := ⟨ho, hb.size, hb⟩
  rcases hO.own2 rfl with hz | ⟨g2, hg2, k1, k2, k3, k4⟩
  · rw [hz] at h1; simp at h1
  cases hg2
  exact ⟨g, cap, rfl, ⟨k1, k2⟩, hle, k3, k4, hb⟩
theorem run_make0 (n : Nat) (hn : n ≤ 100000000) (w : World) :
    (Instr.makeSlice 29 (.int .i64 0) (.int .i64 (n : Int))).run Try.prog w = .ok (.slice (some ⟨w.heap.size, 0, none⟩) 0 n) (w.alloc (.cells (madeCells #[.int .i64 0] n) 3)) := run_make_cap n hn w
theorem rowVal {w : World} {B : Nat} {e : TypeId} {k : Nat} {v : Value} {n : Nat} {xs : List Value} (h : w.ownsRow B e k v n xs) : ∃ g cp, v = .slice g n cp := by
  rcases h.2 with ⟨rfl, rfl⟩ | ⟨g, cap, cur, rfl, _⟩
  · exact ⟨_, _, rfl⟩
  · exact ⟨_, _, rfl⟩
/-- 0, 1, .. as numbers. -/
def numsZ (k : Nat) : List Int := (List.range k).map fun (i : Nat) => (i : Int)
theorem numsZ_next (k : Nat) : numsZ k ++ [(k : Int)] = numsZ (k + 1) := by simp [numsZ, List.range_succ]
theorem numsZ_length (k : Nat) : (numsZ k).length = k := by simp [numsZ]
set_option maxHeartbeats 2000000 in
set_option maxRecDepth 4000 in
theorem numbersBelow_any (n : Nat) (hn : n ≤ 1000000) (w : World) :
    Calls Try.prog 31 #[.int .i64 (n : Int)] w fun e w' => ∃ g cp, e = .returned (.slice g n cp) ∧ Own2 w.heap.size w' g (numsZ n) ∧ Below w.heap.size w w' := by
  have hmk := fun w => run_make0 n (by omega) w
  obtain ⟨i0, hi, hzz⟩ := Option.map_eq_some_iff.1 intInfo1
  simp only [Prod.mk.injEq] at hzz
  obtain ⟨hi0, hi1, hi2⟩ := hzz
  have H0 : Hid (One w w.heap.size (.slice (some ⟨w.heap.size, 0, none⟩) 0 n) [] (w.alloc (Obj.cells (madeCells #[.int .i64 0] n) 3))) := One.made w _ rfl n (by omega)
  go_enter Try.func31, Try.ntmps31
  go_wp2
  go_loopw [3, 4, 8] (fun v _ c wr => ∃ k : Nat, k ≤ n ∧ c = .int .i64 (k : Int) ∧ One w w.heap.size v (numsZ k) wr) (fun _ _ c _ => n - (intOf c).toNat)
  case atStart => exact ⟨0, Nat.zero_le _, rfl, H0.out⟩
  case round =>
    clear H0
    obtain ⟨k, hk, rfl, hO⟩ := hrel
    obtain ⟨gv, cv, rfl⟩ := rowVal hO.1
    have HO : Hid (One w w.heap.size (.slice gv (numsZ k).length cv) (numsZ k) wr) := hO
    clear hO
    by_cases hlt : k < n
    · have hlt' : (k : Int) < (n : Int) := by omega
      have HN : Hid (numsZ k ++ [(k : Int)] = numsZ (k + 1)) := numsZ_next k
      have HL : Hid ((numsZ k).length = k) := numsZ_length k
      generalize numsZ k = L at *
      go_wp2_with (at_builtin; refine wpList_append_lies _ rfl _ _ 29 rfl w.heap.size 3 i0 (.int .i64 0) 1 8 Try.underlying29 hi hi0 hi1 hi2 rfl (by decide) _ _ _ rfl (HO.out.alloc _).1 ⟨wr.heap.size, 0, none⟩ 1 1 [.int .i64 (k : Int)] rfl rfl (newsOne wr _ _) (by intro u hu; simp at hu; subst hu; rfl) (by omega) (by unfold maxLen; have := HL.out; omega) (by have := HL.out; omega) (HO.out.alloc _).2.1 _ rfl ?_; intro g1 cp1 w5 hown1 hgrow1 hat1 hglt1; have HT5 : Hid _ := (HO.out.alloc _).push hown1 hgrow1; clear hown1 hgrow1 hat1 hglt1)
      exact ⟨⟨k + 1, by omega, by go_num, by rw [← HN.out]; exact HT5.out⟩, by simp [intOf]; omega⟩
    · have hle : (n : Int) ≤ (k : Int) := by omega
      obtain rfl : k = n := by omega
      go_wp2
      go_ret
      exact ⟨gv, cv, congrArg (fun n => Ending.returned (Value.slice gv n cv)) (numsZ_length k), HO.out.own2 rfl, HO.out.2.2⟩
theorem never1_any (x y : Int) (vb : Nat) (w : World) (hc : w.cell? ⟨vb, 0, none⟩ = some (.int .i64 x)) :
    Calls Try.prog 34 #[.int .i64 y, .pointer (some ⟨vb, 0, none⟩)] w fun e w' => e = .returned (.bool (y == x)) ∧ w = w' := by
  go_enter Try.func34, Try.ntmps34
  go_wp2
  go_ret
  exact ⟨rfl, rfl⟩
set_option maxHeartbeats 2000000 in
set_option maxRecDepth 4000 in
theorem nIndex_any (b cap : Nat) (L : List Int) (hl : L.length ≤ 100000000) (x : Int) (p : Nat) (hp : p < L.length) (hx : L.getD p 0 = x) (hne : ∀ i, i < p → L.getD i 0 ≠ x) (vb : Nat) (w : World) (hc : w.cell? ⟨vb, 0, none⟩ = some (.int .i64 x)) (hr : IntsAt w b 0 L) :
    Calls Try.prog 51 #[.slice (some ⟨b, 0, none⟩) L.length cap, .func (.func 34) #[] #[.pointer (some ⟨vb, 0, none⟩)]] w fun e w' => e = .returned (.int .i64 (p : Int)) ∧ w = w' := by
  have HR : Hid (IntsAt w b 0 L) := hr
  have HC : Hid (w.cell? ⟨vb, 0, none⟩ = some (.int .i64 x)) := hc
  clear hr hc
  go_enter Try.func51, Try.ntmps51
  go_wp2
  go_loopw [5, 8] (fun _ c wr => ∃ k : Nat, k ≤ p ∧ c = .int .i64 (k : Int) ∧ w = wr) (fun _ c _ => L.length - (intOf c).toNat)
  case atStart => exact ⟨0, Nat.zero_le _, rfl, rfl⟩
  case round =>
    obtain ⟨k, hk, rfl, rfl⟩ := hrel
    have hlt' : (k : Int) < (L.length : Int) := by omega
    have c0 := HR.out k (by omega)
    rw [Nat.zero_add] at c0
    have hm := never1_any x (L.getD k 0) vb _ HC.out
    by_cases hkp : k < p
    · have hb : (L.getD k 0 == x) = false := by simpa using hne k hkp
      rw [hb] at hm
      generalize L.getD k 0 = y at *
      go_wp2_with (go_at_call 34; refine hm.mono ?_; rintro e w2 ⟨rfl, rfl⟩)
      exact ⟨⟨k + 1, by omega, by go_num, by trivial⟩, by simp [intOf]; omega⟩
    · obtain rfl : k = p := by omega
      have hb : (L.getD k 0 == x) = true := by simpa using hx
      rw [hb] at hm
      clear hx hne
      generalize L.getD k 0 = y at *
      go_wp2_with (go_at_call 34; refine hm.mono ?_; rintro e w2 ⟨rfl, rfl⟩)
      go_ret
      exact ⟨rfl, rfl⟩
end Go.Proofs.Ytfofdeenpcbglaa

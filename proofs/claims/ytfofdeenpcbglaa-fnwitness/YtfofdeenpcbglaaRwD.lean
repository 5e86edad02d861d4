/-
  Contract of the program's termsAt.
-/
import Derived.Test.YtfofdeenpcbglaaRwC
import Derived.Test.YtfofdeenpcbglaaRwT
namespace Go.Proofs.Ytfofdeenpcbglaa
open Go.ChangeShapes Go.WideShapes Go.ChangeAt Go.RowKit Go.Deep
set_option linter.unusedVariables false

theorem run_makeTm (n : Nat) (hn : n ≤ 100000000) (w : World) :
    (Instr.makeSlice 23 (.int .i64 0) (.int .i64 (n : Int))).run Try.prog w = .ok (.slice (some ⟨w.heap.size, 0, none⟩) 0 n) (w.alloc (.cells (madeCells #[.int .i64 0, .int .i64 0, .int .i64 0] (n * 3)) 37)) := by
  obtain ⟨i, hi, hzz⟩ := Option.map_eq_some_iff.1 tmInfoR
  simp only [Prod.mk.injEq] at hzz
  obtain ⟨hz, hs, hb⟩ := hzz
  have hr := run_make (P := Try.prog) w 23 37 i _ Try.underlying23 hi hz .i64 .i64 0 (n : Int) (Int.le_refl _) (by omega) (by rw [hb]; omega) (by omega)
  simp only [Int.toNat_natCast, hs, Int.toNat_zero] at hr
  exact hr
theorem pickT_next (ts : List RTm) (ns : List Nat) (k : Nat) (h : k < ns.length) : pickT ts (ns.take k) ++ [ts.getD (ns.getD k 0) zTm] = pickT ts (ns.take (k + 1)) := by
  have e : ns.getD k 0 = ns[k] := by simp [List.getD_eq_getElem?_getD, h]
  unfold pickT
  rw [List.take_succ_eq_append_getElem h, List.map_append, e]
  rfl
theorem pickT_len (ts : List RTm) (ns : List Nat) : (pickT ts ns).length = ns.length := by simp [pickT]
set_option maxHeartbeats 4000000 in
set_option maxRecDepth 4000 in
theorem termsAt_any (a : Option Addr) (ca : Nat) (ts : List RTm) (gn : Option Addr) (cn : Nat) (ns : List Nat) (hin : ∀ x ∈ ns, x < ts.length) (hl : ts.length ≤ 100000000) (hn : ns.length ≤ 1000000) (w : World) (hr : ReadsTm w.heap.size w a ts) (hz : Reads w.heap.size w gn (zs ns)) :
    Calls Try.prog 35 #[.slice a ts.length ca, .slice gn ns.length cn] w fun e w' => ∃ g cp, e = .returned (.slice g (pickT ts ns).length cp) ∧ ReadsTm w'.heap.size w' g (pickT ts ns) ∧ Below w.heap.size w w' := by
  have hmk := fun w => run_makeTm ns.length (by omega) w
  have HR : Hid (ReadsTm w.heap.size w a ts) := hr
  have HZ : Hid (Reads w.heap.size w gn (zs ns)) := hz
  have HIn : Hid (∀ x ∈ ns, x < ts.length) := hin
  obtain ⟨i0, hi, hzz⟩ := Option.map_eq_some_iff.1 tmInfoR
  simp only [Prod.mk.injEq] at hzz
  obtain ⟨hi0, hi1, hi2⟩ := hzz
  have H0 : Hid (OneT w w.heap.size (.slice (some ⟨w.heap.size, 0, none⟩) 0 ns.length) [] (w.alloc (Obj.cells (madeCells #[.int .i64 0, .int .i64 0, .int .i64 0] (ns.length * 3)) 37))) := OneT.made w _ rfl ns.length (by omega)
  clear hr hz hin
  go_enter Try.func35, Try.ntmps35
  go_wp2
  go_loopw [5, 7, 13] (fun v _ c wr => ∃ k : Nat, k ≤ ns.length ∧ c = .int .i64 (k : Int) ∧ OneT w w.heap.size v (pickT ts (ns.take k)) wr) (fun _ _ c _ => ns.length - (intOf c).toNat)
  case atStart => exact ⟨0, Nat.zero_le _, rfl, H0.out⟩
  case round =>
    clear H0
    obtain ⟨k, hk, rfl, hO⟩ := hrel
    obtain ⟨gv, cv, rfl⟩ := hO.form
    have HO : Hid (OneT w w.heap.size (.slice gv (pickT ts (ns.take k)).length cv) (pickT ts (ns.take k)) wr) := hO
    have HB : Hid (Below w.heap.size w wr) := hO.2.2
    clear hO
    by_cases hlt : k < ns.length
    · have hlt' : (k : Int) < (ns.length : Int) := by omega
      have hmem : ns.getD k 0 ∈ ns := by
        rw [show ns.getD k 0 = ns[k] by simp [List.getD_eq_getElem?_getD, hlt]]; exact List.getElem_mem _
      have hx := HIn.out _ hmem
      have hx' : ((ns.getD k 0 : Nat) : Int) < (ts.length : Int) := by omega
      rcases HZ.out with h | ⟨b1, o1, ha1, hB1, iz⟩
      · rw [← zs_length, h] at hlt; simp at hlt
      subst ha1
      have z0 := (iz.below HB.out hB1) k (by rw [zs_length]; exact hlt)
      rw [zs_at] at z0
      rcases HR.out with h | ⟨b0, o0, ha, hB0, ia⟩
      · rw [h] at hx; simp at hx
      subst ha
      obtain ⟨c0, c1, c2⟩ := (ia.below HB.out hB0) (ns.getD k 0) hx
      have HN : Hid (pickT ts (ns.take k) ++ [ts.getD (ns.getD k 0) zTm] = pickT ts (ns.take (k + 1))) := pickT_next ts ns k hlt
      have hL0 : (pickT ts (ns.take k)).length = k := by rw [pickT_len, List.length_take]; omega
      have HL : Hid ((pickT ts (ns.take k)).length = k) := hL0
      clear hL0
      clear ia iz hmem
      generalize pickT ts (ns.take k) = L at *
      generalize ts.getD (ns.getD k 0) zTm = r at *
      generalize ns.getD k 0 = x at *
      obtain ⟨f, o, n⟩ := r
      dsimp only at c0 c1 c2
      go_wp2_with (at_builtin; refine wpList_append_lies _ rfl _ _ 23 rfl w.heap.size 37 i0 (.agg #[.int .i64 0, .int .i64 0, .int .i64 0]) 3 24 Try.underlying23 hi hi0 hi1 hi2 rfl (by decide) _ _ _ rfl (HO.out.later (below_alloc _ _)).1 ⟨wr.heap.size, 0, none⟩ 1 1 [.int .i64 f, .int .i64 o, .int .i64 n] rfl rfl (World.news_of_block (heapNew wr _)) (by simp [Value.oneCell']) (by omega) (by unfold maxLen; have := HL.out; omega) (by have := HL.out; omega) (HO.out.later (below_alloc _ _)).2.1 _ rfl ?_; intro g1 cp1 w5 hown1 hgrow1 hat1 hglt1; have HT5 : Hid _ := (HO.out.later (below_alloc _ _)).push (t := ⟨f, o, n⟩) hown1 hgrow1; clear hown1 hgrow1 hat1 hglt1)
      exact ⟨⟨k + 1, by omega, by go_num, by rw [← HN.out]; exact HT5.out⟩, by simp [intOf]; omega⟩
    · have hle : (ns.length : Int) ≤ (k : Int) := by omega
      obtain rfl : k = ns.length := by omega
      have HE : Hid (OneT w w.heap.size (.slice gv (pickT ts ns).length cv) (pickT ts ns) wr) := by have := HO.out; rwa [List.take_length] at this
      have he : (pickT ts (ns.take ns.length)).length = (pickT ts ns).length := by rw [List.take_length]
      rw [he]
      clear HO he
      go_wp2
      go_ret
      exact ⟨gv, cv, rfl, HE.out.reads rfl, HB.out⟩
end Go.Proofs.Ytfofdeenpcbglaa

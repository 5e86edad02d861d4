/-
  Contract of the program's DealsOK, for every list of deals.
-/
import Derived.Test.YtlnhnocegfnllaaDlD
import Derived.Test.YtlnhnocegfnllaaRowS
namespace Go.Proofs.Ytlnhnocegfnllaa
open Go.ChangeShapes Go.WideShapes Go.ChangeAt Go.RowKit
set_option linter.unusedVariables false


set_option maxHeartbeats 4000000 in
theorem implDeals_any (a : Option Addr) (cap : Nat) (rs : List CDl) (hl : rs.length ≤ 100000000) (hp : ∀ r ∈ rs, DlOK r) (w : World) (hr : ReadsDl w.heap.size w a rs) :
    Calls Try.prog 50 #[.slice a rs.length cap] w fun e w' => e = .returned (.bool (dlAll rs)) ∧ Below w.heap.size w w' := by
  have HR : Hid (ReadsDl w.heap.size w a rs) := hr
  have HOK : Hid (∀ r ∈ rs, DlOK r) := hp
  clear hr hp
  by_cases h6 : (6 : Int) < (rs.length : Int)
  · have HA : Hid (dlAll rs = false) := by show _ = _; unfold dlAll; rw [if_pos (by omega)]
    go_enter Try.func50, Try.ntmps50
    go_wp2
    go_ret
    exact ⟨ret_bool HA.out.symm, Below.refl _ _⟩
  have HA : Hid (dlAll rs = (diffB (rs.map (·.nm)) && rs.all dlOne)) := by show _ = _; unfold dlAll; rw [if_neg (by omega)]
  have h6' : rs.length ≤ 6 := by omega
  have hmk : ∀ w, (Instr.makeSlice 51 (.int .i64 0) (.int .i64 (rs.length : Int))).run Try.prog w = .ok (.slice (some ⟨w.heap.size, 0, none⟩) 0 rs.length) (w.alloc (.cells (madeCells #[.string ⟨#[]⟩] rs.length) 9)) := fun w => makeStrs 0 rs.length (by omega) (by omega) w
  obtain ⟨i0, hi, hzz⟩ := Option.map_eq_some_iff.1 strInfo
  simp only [Prod.mk.injEq] at hzz
  obtain ⟨hi0, hi1, hi2⟩ := hzz
  have H0 : Hid (OneS w w.heap.size (.slice (some ⟨w.heap.size, 0, none⟩) 0 rs.length) [] (w.alloc (Obj.cells (madeCells #[.string ⟨#[]⟩] rs.length) 9))) := OneS.made w w.heap.size rfl rs.length (by omega)
  have HD : Hid (∀ g cp W, rs.length ≤ cp → Below w.heap.size w W → ReadsS W.heap.size W (some ⟨g, 0, none⟩) (rs.map (·.nm)) → Calls Try.prog 62 #[.slice (some ⟨g, 0, none⟩) rs.length cp] W fun e w' => e = .returned (.bool (diffB (rs.map (·.nm)))) ∧ Below W.heap.size W w') := fun g cp W h1 h2 h3 => by
    have := diff_any (some ⟨g, 0, none⟩) cp (rs.map (·.nm)) (by simp; omega) (by simpa using h1) (fun s hs => by obtain ⟨r, hr, rfl⟩ := List.mem_map.mp hs; exact (HOK.out r hr).1) W h3
    rwa [List.length_map] at this
  have HC : Hid (∀ W, Below w.heap.size w W → Calls Try.prog 63 #[.slice a rs.length cap, .func (.func 64) #[] #[]] W fun e w' => e = .returned (.bool (!rs.all dlOne)) ∧ Below W.heap.size W w') := fun W hb => dlContains_any a cap rs hl HOK.out W (HR.out.later hb)
  go_enter Try.func50, Try.ntmps50
  go_wp2
  go_loopw [3, 5, 14] (fun v _ c wr => ∃ k g cp : Nat, k ≤ rs.length ∧ k ≤ cp ∧ c = .int .i64 (k : Int) ∧ v = .slice (some ⟨g, 0, none⟩) k cp ∧ OneS w w.heap.size (.slice (some ⟨g, 0, none⟩) k cp) ((rs.take k).map (·.nm)) wr) (fun _ _ c _ => rs.length - (intOf c).toNat)
  case atStart => exact ⟨0, w.heap.size, rs.length, Nat.zero_le _, Nat.zero_le _, rfl, rfl, by simpa using H0.out⟩
  case round =>
    clear H0 hmk
    obtain ⟨k, g, cp, hk, hkc, rfl, rfl, hO⟩ := hrel
    have HO : Hid (OneS w w.heap.size (.slice (some ⟨g, 0, none⟩) k cp) ((rs.take k).map (·.nm)) wr) := hO
    have HB : Hid (Below w.heap.size w wr) := hO.2.2
    clear hO
    by_cases hlt : k < rs.length
    · have hlt' : (k : Int) < (rs.length : Int) := by omega
      rcases HR.out with h | ⟨b0, o0, ha, hB0, ia⟩
      · rw [h] at hlt; simp at hlt
      obtain ⟨h, cq, ⟨c0, c1, c2, c3, c4, c5⟩, _, _⟩ := (ia.below HB.out hB0 (Nat.le_refl _)) k hlt
      have hlen : ((rs.take k).map (·.nm)).length = k := by rw [List.length_map, List.length_take]; omega
      have HN : Hid ((rs.take k).map (·.nm) ++ [(rs.getD k zDl).nm] = (rs.take (k + 1)).map (·.nm)) := by
        have e : rs.getD k zDl = rs[k] := by simp [List.getD_eq_getElem?_getD, hlt]
        show _ = _
        rw [List.take_succ_eq_append_getElem hlt, List.map_append, e]; rfl
      rw [ha]
      clear ia
      generalize rs.getD k zDl = r at *
      obtain ⟨nm, kd, arts, nd, vl, on⟩ := r
      dsimp only at c0 c1 c2 c3 c4 c5 HN
      generalize arts.length = n at *
      have HW5 : Hid (OneS w w.heap.size (.slice (some ⟨g, 0, none⟩) k cp) ((rs.take k).map (·.nm)) ((wr.alloc (Obj.cells #[.string nm, .int .i64 kd, .slice h n cq, .int .i64 nd, .int .i64 vl, .bool on] 65)).alloc (Obj.cells #[.string nm] 9))) := (HO.out.alloc _).alloc _
      have HNw : Hid (∀ j u, [Value.string nm][j]? = some u → ((wr.alloc (Obj.cells #[.string nm, .int .i64 kd, .slice h n cq, .int .i64 nd, .int .i64 vl, .bool on] 65)).alloc (Obj.cells #[.string nm] 9)).cell? ((⟨wr.heap.size + 1, 0, none⟩ : Addr).add j) = some u) := by
        have e1 : (wr.alloc (Obj.cells #[.string nm, .int .i64 kd, .slice h n cq, .int .i64 nd, .int .i64 vl, .bool on] 65)).heap.size = wr.heap.size + 1 := by simp
        have := newsOneS (wr.alloc (Obj.cells #[.string nm, .int .i64 kd, .slice h n cq, .int .i64 nd, .int .i64 vl, .bool on] 65)) (.string nm) 9
        rw [e1] at this
        exact this
      generalize (rs.take k).map (·.nm) = L at *
      obtain rfl : L.length = k := hlen
      go_wp2_with (at_builtin; refine wpList_append_lies _ rfl _ _ 51 rfl w.heap.size 9 i0 (.string ⟨#[]⟩) 1 16 Try.underlying51 hi hi0 hi1 hi2 rfl (by decide) _ _ _ rfl HW5.out.1 ⟨wr.heap.size + 1, 0, none⟩ 1 1 [.string nm] rfl rfl HNw.out (by intro u hu; simp at hu; rcases hu with rfl; rfl) (by omega) (by unfold maxLen; omega) (by omega) HW5.out.2.1 _ rfl ?_; intro g1 cp1 w7 hown1 hgrow1 hat1 hglt1; have HO7 : Hid (OneS w w.heap.size (.slice (some ⟨g1, 0, none⟩) (L.length + 1) cp1) (L ++ [nm]) w7) := HW5.out.push hown1 hgrow1; clear hown1 hgrow1 hat1)
      have hc1 := HO7.out.cap
      have HO8 : Hid (OneS w w.heap.size (.slice (some ⟨g1, 0, none⟩) (L.length + 1) cp1) ((rs.take (L.length + 1)).map (·.nm)) w7) := by have := HO7.out; rwa [HN.out] at this
      go_roundw
      case rel => exact ⟨L.length + 1, g1, cp1, by omega, hc1, by go_num, rfl, HO8.out⟩
      case measure => simp [intOf]; omega
    · obtain rfl : k = rs.length := by omega
      have HO' : Hid (ReadsS wr.heap.size wr (some ⟨g, 0, none⟩) (rs.map (·.nm))) := by have := HO.out.reads (by rw [List.length_map, List.take_length]); rwa [List.take_length] at this
      generalize diffB (rs.map (·.nm)) = db at *
      generalize rs.all dlOne = ob at *
      cases db
      · go_wp2_with (go_at_call 62; refine (HD.out g cp wr hkc HB.out HO'.out).mono ?_; rintro e w2 ⟨rfl, hb2⟩)
        go_ret
        exact ⟨ret_bool (by rw [HA.out]; rfl), chain HB.out hb2⟩
      · go_wp2_with (first | (go_at_call 62; refine (HD.out g cp wr hkc HB.out HO'.out).mono ?_; rintro e w2 ⟨rfl, hb2⟩) | (go_at_call 63; refine (HC.out _ (chain HB.out hb2)).mono ?_; rintro e w3 ⟨rfl, hb3⟩))
        go_ret
        exact ⟨ret_bool (by rw [HA.out]; cases ob <;> rfl), chain (chain HB.out hb2) hb3⟩

end Go.Proofs.Ytlnhnocegfnllaa

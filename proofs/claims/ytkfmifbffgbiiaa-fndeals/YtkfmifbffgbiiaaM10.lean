/-
  Texts of this claim laid together: RowS, DlG.
-/
import Derived.Test.YtkfmifbffgbiiaaM4
import Derived.Deep.AppendLies
import Derived.Laws.OwnMore
import Derived.Test.YtkfmifbffgbiiaaM8
/-
  A row of texts of its own that grows by append; nothing of the program is in it.
-/
namespace Go.Proofs.Ytkfmifbffgbiiaa
open Go.ChangeShapes Go.WideShapes Go.ChangeAt Go.RowKit
set_option linter.unusedVariables false

/-- v is a row of its own, from block B on, whose texts are L. -/
def OneS (w : World) (B : Nat) (v : Value) (L : List ByteArray) (wr : World) : Prop :=
  wr.ownsRow B 9 1 v L.length (L.map Value.string) ∧ B ≤ wr.heap.size ∧ Below B w wr
theorem OneS.made (w : World) (B : Nat) (hB : w.heap.size = B) (n : Nat) (hn : n ≤ 100000000) : OneS w B (.slice (some ⟨B, 0, none⟩) 0 n) [] (w.alloc (Obj.cells (madeCells #[.string ⟨#[]⟩] n) 9)) := by
  subst hB
  refine ⟨⟨rfl, .inr ⟨w.heap.size, n, madeCells #[.string ⟨#[]⟩] n, rfl, Nat.le_refl _, heapNew w _, Nat.zero_le _, by unfold maxLen; omega, by rw [size_madeCells, Nat.mul_one], by simp⟩⟩, by simp, below_alloc w _⟩
theorem OneS.alloc {w : World} {B : Nat} {v : Value} {L : List ByteArray} {wr : World} (h : OneS w B v L wr) (o : Obj) : OneS w B v L (wr.alloc o) :=
  ⟨h.1.alloc _, by have := h.2.1; simp; omega, h.2.2.alloc h.2.1 _⟩
theorem OneS.push {w : World} {B : Nat} {v : Value} {L : List ByteArray} {wr w' : World} {g cp : Nat} {x : ByteArray} (h : OneS w B v L wr)
    (ho : w'.ownsRow B 9 1 (.slice (some ⟨g, 0, none⟩) (L.length + 1) cp) (L.length + 1) (L.map Value.string ++ [.string x])) (hg : wr.grownBy w' v.ownBlock) : OneS w B (.slice (some ⟨g, 0, none⟩) (L.length + 1) cp) (L ++ [x]) w' := by
  obtain ⟨h1, h4, h5⟩ := h
  refine ⟨?_, Nat.le_trans h4 hg.size, h5.grown hg h4 (fun q hq => (h1.lt q hq).1)⟩
  rw [List.length_append, List.map_append]; exact ho
theorem OneS.reads {w : World} {B : Nat} {a : Option Addr} {n cp : Nat} {L : List ByteArray} {wr : World} (h : OneS w B (.slice a n cp) L wr) (hn : n = L.length) : ReadsS wr.heap.size wr a L := by
  subst hn
  by_cases h0 : L.length = 0
  · exact .inl (List.eq_nil_of_length_eq_zero h0)
  · obtain ⟨g, cap, he, hB, hlt⟩ := h.1.form (by omega)
    simp at he
    obtain ⟨rfl, rfl⟩ := he
    refine .inr ⟨g, 0, rfl, hlt, fun i hi => ?_⟩
    rw [Nat.zero_add, h.1.cellAt i (by omega)]; simp [List.getD_eq_getElem?_getD, hi]
theorem OneS.cap {w : World} {B g n cp : Nat} {L : List ByteArray} {wr : World} (h : OneS w B (.slice (some ⟨g, 0, none⟩) n cp) L wr) : n ≤ cp := by
  obtain ⟨_, h2⟩ := h.1
  rcases h2 with h2 | ⟨g', cap, cur, e, _, _, hle, _⟩
  · simp at h2
  · simp at e; omega
theorem newsOneS (w : World) (v : Value) (t : TypeId) : ∀ j u, [v][j]? = some u → (w.alloc (Obj.cells #[v] t)).cell? ((⟨w.heap.size, 0, none⟩ : Addr).add j) = some u := by
  intro j u hj
  match j, hj with
  | 0, hj => simp at hj; subst hj; simp [Addr.add]
end Go.Proofs.Ytkfmifbffgbiiaa

/-
  Contract of the program's DealsOK, for every list of deals.
-/
namespace Go.Proofs.Ytkfmifbffgbiiaa
open Go.ChangeShapes Go.WideShapes Go.ChangeAt Go.RowKit
set_option linter.unusedVariables false


set_option maxHeartbeats 4000000 in
theorem implDeals_any (a : Option Addr) (cap : Nat) (rs : List CDl) (hl : rs.length ≤ 100000000) (hp : ∀ r ∈ rs, DlOK r) (w : World) (hr : ReadsDl w.heap.size w a rs) :
    Calls Try.prog 7 #[.slice a rs.length cap] w fun e w' => e = .returned (.bool (dlAll rs)) ∧ Below w.heap.size w w' := by
  have HR : Hid (ReadsDl w.heap.size w a rs) := hr
  have HOK : Hid (∀ r ∈ rs, DlOK r) := hp
  clear hr hp
  by_cases h6 : (6 : Int) < (rs.length : Int)
  · have HA : Hid (dlAll rs = false) := by show _ = _; unfold dlAll; rw [if_pos (by omega)]
    go_enter Try.func7, Try.ntmps7
    go_wp2
    go_ret
    exact ⟨ret_bool HA.out.symm, Below.refl _ _⟩
  have HA : Hid (dlAll rs = (diffB (rs.map (·.nm)) && rs.all dlOne)) := by show _ = _; unfold dlAll; rw [if_neg (by omega)]
  have h6' : rs.length ≤ 6 := by omega
  have hmk : ∀ w, (Instr.makeSlice 37 (.int .i64 0) (.int .i64 (rs.length : Int))).run Try.prog w = .ok (.slice (some ⟨w.heap.size, 0, none⟩) 0 rs.length) (w.alloc (.cells (madeCells #[.string ⟨#[]⟩] rs.length) 9)) := fun w => makeStrs 0 rs.length (by omega) (by omega) w
  obtain ⟨i0, hi, hzz⟩ := Option.map_eq_some_iff.1 strInfo
  simp only [Prod.mk.injEq] at hzz
  obtain ⟨hi0, hi1, hi2⟩ := hzz
  have H0 : Hid (OneS w w.heap.size (.slice (some ⟨w.heap.size, 0, none⟩) 0 rs.length) [] (w.alloc (Obj.cells (madeCells #[.string ⟨#[]⟩] rs.length) 9))) := OneS.made w w.heap.size rfl rs.length (by omega)
  have HD : Hid (∀ g cp W, rs.length ≤ cp → Below w.heap.size w W → ReadsS W.heap.size W (some ⟨g, 0, none⟩) (rs.map (·.nm)) → Calls Try.prog 17 #[.slice (some ⟨g, 0, none⟩) rs.length cp] W fun e w' => e = .returned (.bool (diffB (rs.map (·.nm)))) ∧ Below W.heap.size W w') := fun g cp W h1 h2 h3 => by
    have := diff_any (some ⟨g, 0, none⟩) cp (rs.map (·.nm)) (by simp; omega) (by simpa using h1) (fun s hs => by obtain ⟨r, hr, rfl⟩ := List.mem_map.mp hs; exact (HOK.out r hr).1) W h3
    rwa [List.length_map] at this
  have HC : Hid (∀ W, Below w.heap.size w W → Calls Try.prog 18 #[.slice a rs.length cap, .func (.func 19) #[] #[]] W fun e w' => e = .returned (.bool (!rs.all dlOne)) ∧ Below W.heap.size W w') := fun W hb => dlContains_any a cap rs hl HOK.out W (HR.out.later hb)
  go_enter Try.func7, Try.ntmps7
  go_wp2
  go_loopw [3, 5, 14] (fun v _ c wr => ∃ k g cp : Nat, k ≤ rs.length ∧ k ≤ cp ∧ c = .int .i64 (k : Int) ∧ v = .slice (some ⟨g, 0, none⟩) k cp ∧ OneS w w.heap.size (.slice (some ⟨g, 0, none⟩) k cp) ((rs.take k).map (·.nm)) wr) (fun _ _ c _ => rs.length - (intOf c).toNat)
  case atStart => exact ⟨0, w.heap.size, rs.length, Nat.zero_le _, Nat.zero_le _, rfl, rfl, by simpa using H0.out⟩
  case round =>
    clear H0 hmk
    obtain ⟨k, g, cp, hk, hkc, rfl, rfl, hO⟩ := hrel
    have HO : Hid (OneS w w.heap.size (.slice (some ⟨g, 0, none⟩) k cp) ((rs.take k).map (·.nm)) wr) := hO
    have HB : Hid (Below w.heap.size w wr) := hO.2.2
    clear hO
    by_cases hlt : k < rs.length
    · have hlt' : (k : Int) < (rs.length : Int) := by omega
      rcases HR.out with h | ⟨b0, o0, ha, hB0, ia⟩
      · rw [h] at hlt; simp at hlt
      obtain ⟨h, cq, ⟨c0, c1, c2, c3, c4, c5⟩, _, _⟩ := (ia.below HB.out hB0 (Nat.le_refl _)) k hlt
      have hlen : ((rs.take k).map (·.nm)).length = k := by rw [List.length_map, List.length_take]; omega
      have HN : Hid ((rs.take k).map (·.nm) ++ [(rs.getD k zDl).nm] = (rs.take (k + 1)).map (·.nm)) := by
        have e : rs.getD k zDl = rs[k] := by simp [List.getD_eq_getElem?_getD, hlt]
        show _ = _
        rw [List.take_succ_eq_append_getElem hlt, List.map_append, e]; rfl
      rw [ha]
      clear ia
      generalize rs.getD k zDl = r at *
      obtain ⟨nm, kd, arts, nd, vl, on⟩ := r
      dsimp only at c0 c1 c2 c3 c4 c5 HN
      generalize arts.length = n at *
      have HW5 : Hid (OneS w w.heap.size (.slice (some ⟨g, 0, none⟩) k cp) ((rs.take k).map (·.nm)) ((wr.alloc (Obj.cells #[.string nm, .int .i64 kd, .slice h n cq, .int .i64 nd, .int .i64 vl, .bool on] 39)).alloc (Obj.cells #[.string nm] 9))) := (HO.out.alloc _).alloc _
      have HNw : Hid (∀ j u, [Value.string nm][j]? = some u → ((wr.alloc (Obj.cells #[.string nm, .int .i64 kd, .slice h n cq, .int .i64 nd, .int .i64 vl, .bool on] 39)).alloc (Obj.cells #[.string nm] 9)).cell? ((⟨wr.heap.size + 1, 0, none⟩ : Addr).add j) = some u) := by
        have e1 : (wr.alloc (Obj.cells #[.string nm, .int .i64 kd, .slice h n cq, .int .i64 nd, .int .i64 vl, .bool on] 39)).heap.size = wr.heap.size + 1 := by simp
        have := newsOneS (wr.alloc (Obj.cells #[.string nm, .int .i64 kd, .slice h n cq, .int .i64 nd, .int .i64 vl, .bool on] 39)) (.string nm) 9
        rw [e1] at this
        exact this
      generalize (rs.take k).map (·.nm) = L at *
      obtain rfl : L.length = k := hlen
      go_wp2_with (at_builtin; refine wpList_append_lies _ rfl _ _ 37 rfl w.heap.size 9 i0 (.string ⟨#[]⟩) 1 16 Try.underlying37 hi hi0 hi1 hi2 rfl (by decide) _ _ _ rfl HW5.out.1 ⟨wr.heap.size + 1, 0, none⟩ 1 1 [.string nm] rfl rfl HNw.out (by intro u hu; simp at hu; rcases hu with rfl; rfl) (by omega) (by unfold maxLen; omega) (by omega) HW5.out.2.1 _ rfl ?_; intro g1 cp1 w7 hown1 hgrow1 hat1 hglt1; have HO7 : Hid (OneS w w.heap.size (.slice (some ⟨g1, 0, none⟩) (L.length + 1) cp1) (L ++ [nm]) w7) := HW5.out.push hown1 hgrow1; clear hown1 hgrow1 hat1)
      have hc1 := HO7.out.cap
      have HO8 : Hid (OneS w w.heap.size (.slice (some ⟨g1, 0, none⟩) (L.length + 1) cp1) ((rs.take (L.length + 1)).map (·.nm)) w7) := by have := HO7.out; rwa [HN.out] at this
      go_roundw
      case rel => exact ⟨L.length + 1, g1, cp1, by omega, hc1, by go_num, rfl, HO8.out⟩
      case measure => simp [intOf]; omega
    · obtain rfl : k = rs.length := by omega
      have HO' : Hid (ReadsS wr.heap.size wr (some ⟨g, 0, none⟩) (rs.map (·.nm))) := by have := HO.out.reads (by rw [List.length_map, List.take_length]); rwa [List.take_length] at this
      generalize diffB (rs.map (·.nm)) = db at *
      generalize rs.all dlOne = ob at *
      cases db
      · go_wp2_with (go_at_call 17; refine (HD.out g cp wr hkc HB.out HO'.out).mono ?_; rintro e w2 ⟨rfl, hb2⟩)
        go_ret
        exact ⟨ret_bool (by rw [HA.out]; rfl), chain HB.out hb2⟩
      · go_wp2_with (first | (go_at_call 17; refine (HD.out g cp wr hkc HB.out HO'.out).mono ?_; rintro e w2 ⟨rfl, hb2⟩) | (go_at_call 18; refine (HC.out _ (chain HB.out hb2)).mono ?_; rintro e w3 ⟨rfl, hb3⟩))
        go_ret
        exact ⟨ret_bool (by rw [HA.out]; cases ob <;> rfl), chain (chain HB.out hb2) hb3⟩

end Go.Proofs.Ytkfmifbffgbiiaa

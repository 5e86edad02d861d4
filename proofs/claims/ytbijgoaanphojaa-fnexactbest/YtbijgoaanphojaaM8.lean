/-
  Texts of this claim laid together: RowS, DlG, BgB.
-/
import Derived.Test.YtbijgoaanphojaaM2
import Derived.Deep.AppendLies
import Derived.Laws.OwnMore
import Derived.Test.YtbijgoaanphojaaM6
import Derived.Test.YtbijgoaanphojaaM7
/-
  A row of texts of its own that grows by append; nothing of the program is in it.
-/
namespace Go.Proofs.Ytbijgoaanphojaa
open Go.ChangeShapes Go.WideShapes Go.ChangeAt Go.RowKit
set_option linter.unusedVariables false

/-- v is a row of its own, from block B on, whose texts are L. -/
def OneS (w : World) (B : Nat) (v : Value) (L : List ByteArray) (wr : World) : Prop :=
  wr.ownsRow B 9 1 v L.length (L.map Value.string) ∧ B ≤ wr.heap.size ∧ Below B w wr
theorem OneS.made (w : World) (B : Nat) (hB : w.heap.size = B) (n : Nat) (hn : n ≤ 100000000) : OneS w B (.slice (some ⟨B, 0, none⟩) 0 n) [] (w.alloc (Obj.cells (madeCells #[.string ⟨#[]⟩] n) 9)) := by
  subst hB
  refine ⟨⟨rfl, .inr ⟨w.heap.size, n, madeCells #[.string ⟨#[]⟩] n, rfl, Nat.le_refl _, heapNew w _, Nat.zero_le _, by unfold maxLen; omega, by rw [size_madeCells, Nat.mul_one], by simp⟩⟩, by simp, below_alloc w _⟩
theorem OneS.alloc {w : World} {B : Nat} {v : Value} {L : List ByteArray} {wr : World} (h : OneS w B v L wr) (o : Obj) : OneS w B v L (wr.alloc o) :=
  ⟨h.1.alloc _, by have := h.2.1; simp; omega, h.2.2.alloc h.2.1 _⟩
theorem OneS.push {w : World} {B : Nat} {v : Value} {L : List ByteArray} {wr w' : World} {g cp : Nat} {x : ByteArray} (h : OneS w B v L wr)
    (ho : w'.ownsRow B 9 1 (.slice (some ⟨g, 0, none⟩) (L.length + 1) cp) (L.length + 1) (L.map Value.string ++ [.string x])) (hg : wr.grownBy w' v.ownBlock) : OneS w B (.slice (some ⟨g, 0, none⟩) (L.length + 1) cp) (L ++ [x]) w' := by
  obtain ⟨h1, h4, h5⟩ := h
  refine ⟨?_, Nat.le_trans h4 hg.size, h5.grown hg h4 (fun q hq => (h1.lt q hq).1)⟩
  rw [List.length_append, List.map_append]; exact ho
theorem OneS.reads {w : World} {B : Nat} {a : Option Addr} {n cp : Nat} {L : List ByteArray} {wr : World} (h : OneS w B (.slice a n cp) L wr) (hn : n = L.length) : ReadsS wr.heap.size wr a L := by
  subst hn
  by_cases h0 : L.length = 0
  · exact .inl (List.eq_nil_of_length_eq_zero h0)
  · obtain ⟨g, cap, he, hB, hlt⟩ := h.1.form (by omega)
    simp at he
    obtain ⟨rfl, rfl⟩ := he
    refine .inr ⟨g, 0, rfl, hlt, fun i hi => ?_⟩
    rw [Nat.zero_add, h.1.cellAt i (by omega)]; simp [List.getD_eq_getElem?_getD, hi]
theorem OneS.cap {w : World} {B g n cp : Nat} {L : List ByteArray} {wr : World} (h : OneS w B (.slice (some ⟨g, 0, none⟩) n cp) L wr) : n ≤ cp := by
  obtain ⟨_, h2⟩ := h.1
  rcases h2 with h2 | ⟨g', cap, cur, e, _, _, hle, _⟩
  · simp at h2
  · simp at e; omega
theorem newsOneS (w : World) (v : Value) (t : TypeId) : ∀ j u, [v][j]? = some u → (w.alloc (Obj.cells #[v] t)).cell? ((⟨w.heap.size, 0, none⟩ : Addr).add j) = some u := by
  intro j u hj
  match j, hj with
  | 0, hj => simp at hj; subst hj; simp [Addr.add]
end Go.Proofs.Ytbijgoaanphojaa

/-
  Contract of the program's DealsOK, for every list of deals.
-/
namespace Go.Proofs.Ytbijgoaanphojaa
open Go.ChangeShapes Go.WideShapes Go.ChangeAt Go.RowKit
set_option linter.unusedVariables false


set_option maxHeartbeats 4000000 in
theorem implDeals_any (a : Option Addr) (cap : Nat) (rs : List CDl) (hl : rs.length ≤ 100000000) (hp : ∀ r ∈ rs, DlOK r) (w : World) (hr : ReadsDl w.heap.size w a rs) :
    Calls Try.prog 8 #[.slice a rs.length cap] w fun e w' => e = .returned (.bool (dlAll rs)) ∧ Below w.heap.size w w' := by
  have HR : Hid (ReadsDl w.heap.size w a rs) := hr
  have HOK : Hid (∀ r ∈ rs, DlOK r) := hp
  clear hr hp
  by_cases h6 : (6 : Int) < (rs.length : Int)
  · have HA : Hid (dlAll rs = false) := by show _ = _; unfold dlAll; rw [if_pos (by omega)]
    go_enter Try.func8, Try.ntmps8
    go_wp2
    go_ret
    exact ⟨ret_bool HA.out.symm, Below.refl _ _⟩
  have HA : Hid (dlAll rs = (diffB (rs.map (·.nm)) && rs.all dlOne)) := by show _ = _; unfold dlAll; rw [if_neg (by omega)]
  have h6' : rs.length ≤ 6 := by omega
  have hmk : ∀ w, (Instr.makeSlice 37 (.int .i64 0) (.int .i64 (rs.length : Int))).run Try.prog w = .ok (.slice (some ⟨w.heap.size, 0, none⟩) 0 rs.length) (w.alloc (.cells (madeCells #[.string ⟨#[]⟩] rs.length) 9)) := fun w => makeStrs 0 rs.length (by omega) (by omega) w
  obtain ⟨i0, hi, hzz⟩ := Option.map_eq_some_iff.1 strInfo
  simp only [Prod.mk.injEq] at hzz
  obtain ⟨hi0, hi1, hi2⟩ := hzz
  have H0 : Hid (OneS w w.heap.size (.slice (some ⟨w.heap.size, 0, none⟩) 0 rs.length) [] (w.alloc (Obj.cells (madeCells #[.string ⟨#[]⟩] rs.length) 9))) := OneS.made w w.heap.size rfl rs.length (by omega)
  have HD : Hid (∀ g cp W, rs.length ≤ cp → Below w.heap.size w W → ReadsS W.heap.size W (some ⟨g, 0, none⟩) (rs.map (·.nm)) → Calls Try.prog 30 #[.slice (some ⟨g, 0, none⟩) rs.length cp] W fun e w' => e = .returned (.bool (diffB (rs.map (·.nm)))) ∧ Below W.heap.size W w') := fun g cp W h1 h2 h3 => by
    have := diff_any (some ⟨g, 0, none⟩) cp (rs.map (·.nm)) (by simp; omega) (by simpa using h1) (fun s hs => by obtain ⟨r, hr, rfl⟩ := List.mem_map.mp hs; exact (HOK.out r hr).1) W h3
    rwa [List.length_map] at this
  have HC : Hid (∀ W, Below w.heap.size w W → Calls Try.prog 31 #[.slice a rs.length cap, .func (.func 32) #[] #[]] W fun e w' => e = .returned (.bool (!rs.all dlOne)) ∧ Below W.heap.size W w') := fun W hb => dlContains_any a cap rs hl HOK.out W (HR.out.later hb)
  go_enter Try.func8, Try.ntmps8
  go_wp2
  go_loopw [3, 5, 14] (fun v _ c wr => ∃ k g cp : Nat, k ≤ rs.length ∧ k ≤ cp ∧ c = .int .i64 (k : Int) ∧ v = .slice (some ⟨g, 0, none⟩) k cp ∧ OneS w w.heap.size (.slice (some ⟨g, 0, none⟩) k cp) ((rs.take k).map (·.nm)) wr) (fun _ _ c _ => rs.length - (intOf c).toNat)
  case atStart => exact ⟨0, w.heap.size, rs.length, Nat.zero_le _, Nat.zero_le _, rfl, rfl, by simpa using H0.out⟩
  case round =>
    clear H0 hmk
    obtain ⟨k, g, cp, hk, hkc, rfl, rfl, hO⟩ := hrel
    have HO : Hid (OneS w w.heap.size (.slice (some ⟨g, 0, none⟩) k cp) ((rs.take k).map (·.nm)) wr) := hO
    have HB : Hid (Below w.heap.size w wr) := hO.2.2
    clear hO
    by_cases hlt : k < rs.length
    · have hlt' : (k : Int) < (rs.length : Int) := by omega
      rcases HR.out with h | ⟨b0, o0, ha, hB0, ia⟩
      · rw [h] at hlt; simp at hlt
      obtain ⟨h, cq, ⟨c0, c1, c2, c3, c4, c5⟩, _, _⟩ := (ia.below HB.out hB0 (Nat.le_refl _)) k hlt
      have hlen : ((rs.take k).map (·.nm)).length = k := by rw [List.length_map, List.length_take]; omega
      have HN : Hid ((rs.take k).map (·.nm) ++ [(rs.getD k zDl).nm] = (rs.take (k + 1)).map (·.nm)) := by
        have e : rs.getD k zDl = rs[k] := by simp [List.getD_eq_getElem?_getD, hlt]
        show _ = _
        rw [List.take_succ_eq_append_getElem hlt, List.map_append, e]; rfl
      rw [ha]
      clear ia
      generalize rs.getD k zDl = r at *
      obtain ⟨nm, kd, arts, nd, vl, on⟩ := r
      dsimp only at c0 c1 c2 c3 c4 c5 HN
      generalize arts.length = n at *
      have HW5 : Hid (OneS w w.heap.size (.slice (some ⟨g, 0, none⟩) k cp) ((rs.take k).map (·.nm)) ((wr.alloc (Obj.cells #[.string nm, .int .i64 kd, .slice h n cq, .int .i64 nd, .int .i64 vl, .bool on] 39)).alloc (Obj.cells #[.string nm] 9))) := (HO.out.alloc _).alloc _
      have HNw : Hid (∀ j u, [Value.string nm][j]? = some u → ((wr.alloc (Obj.cells #[.string nm, .int .i64 kd, .slice h n cq, .int .i64 nd, .int .i64 vl, .bool on] 39)).alloc (Obj.cells #[.string nm] 9)).cell? ((⟨wr.heap.size + 1, 0, none⟩ : Addr).add j) = some u) := by
        have e1 : (wr.alloc (Obj.cells #[.string nm, .int .i64 kd, .slice h n cq, .int .i64 nd, .int .i64 vl, .bool on] 39)).heap.size = wr.heap.size + 1 := by simp
        have := newsOneS (wr.alloc (Obj.cells #[.string nm, .int .i64 kd, .slice h n cq, .int .i64 nd, .int .i64 vl, .bool on] 39)) (.string nm) 9
        rw [e1] at this
        exact this
      generalize (rs.take k).map (·.nm) = L at *
      obtain rfl : L.length = k := hlen
      go_wp2_with (at_builtin; refine wpList_append_lies _ rfl _ _ 37 rfl w.heap.size 9 i0 (.string ⟨#[]⟩) 1 16 Try.underlying37 hi hi0 hi1 hi2 rfl (by decide) _ _ _ rfl HW5.out.1 ⟨wr.heap.size + 1, 0, none⟩ 1 1 [.string nm] rfl rfl HNw.out (by intro u hu; simp at hu; rcases hu with rfl; rfl) (by omega) (by unfold maxLen; omega) (by omega) HW5.out.2.1 _ rfl ?_; intro g1 cp1 w7 hown1 hgrow1 hat1 hglt1; have HO7 : Hid (OneS w w.heap.size (.slice (some ⟨g1, 0, none⟩) (L.length + 1) cp1) (L ++ [nm]) w7) := HW5.out.push hown1 hgrow1; clear hown1 hgrow1 hat1)
      have hc1 := HO7.out.cap
      have HO8 : Hid (OneS w w.heap.size (.slice (some ⟨g1, 0, none⟩) (L.length + 1) cp1) ((rs.take (L.length + 1)).map (·.nm)) w7) := by have := HO7.out; rwa [HN.out] at this
      go_roundw
      case rel => exact ⟨L.length + 1, g1, cp1, by omega, hc1, by go_num, rfl, HO8.out⟩
      case measure => simp [intOf]; omega
    · obtain rfl : k = rs.length := by omega
      have HO' : Hid (ReadsS wr.heap.size wr (some ⟨g, 0, none⟩) (rs.map (·.nm))) := by have := HO.out.reads (by rw [List.length_map, List.take_length]); rwa [List.take_length] at this
      generalize diffB (rs.map (·.nm)) = db at *
      generalize rs.all dlOne = ob at *
      cases db
      · go_wp2_with (go_at_call 30; refine (HD.out g cp wr hkc HB.out HO'.out).mono ?_; rintro e w2 ⟨rfl, hb2⟩)
        go_ret
        exact ⟨ret_bool (by rw [HA.out]; rfl), chain HB.out hb2⟩
      · go_wp2_with (first | (go_at_call 30; refine (HD.out g cp wr hkc HB.out HO'.out).mono ?_; rintro e w2 ⟨rfl, hb2⟩) | (go_at_call 31; refine (HC.out _ (chain HB.out hb2)).mono ?_; rintro e w3 ⟨rfl, hb3⟩))
        go_ret
        exact ⟨ret_bool (by rw [HA.out]; cases ob <;> rfl), chain (chain HB.out hb2) hb3⟩

end Go.Proofs.Ytbijgoaanphojaa

/-
  Contracts of the program's pricesOf, wants, unitsOK, basketFault, of the library's slices.Clone at numbers.
-/
namespace Go.Proofs.Ytbijgoaanphojaa
open Go.ChangeShapes Go.WideShapes Go.ChangeAt Go.RowKit
set_option linter.unusedVariables false

def unOne (u : RUn) : Bool := nameB u.art && inB u.pr 0 100000000
def unAll (us : List RUn) : Bool := decide (us.length ≤ 8) && us.all unOne
theorem ReadsUn.later {w w' : World} {a : Option Addr} {rs : List RUn} (h : ReadsUn w.heap.size w a rs) (hb : Below w.heap.size w w') : ReadsUn w'.heap.size w' a rs := (h.below hb).mono hb.size
theorem uns_take (p : RUn → Bool) (rs : List RUn) (k : Nat) (h : k < rs.length) : (rs.take (k + 1)).all p = ((rs.take k).all p && p (rs.getD k zUn)) := by
  rw [List.take_succ_eq_append_getElem h, List.all_append]
  have e : rs.getD k zUn = rs[k] := by simp [List.getD_eq_getElem?_getD, h]
  rw [e]; simp
theorem uns_fail {p : RUn → Bool} {rs : List RUn} {k : Nat} (h : k < rs.length) (hp : p (rs.getD k zUn) = false) : rs.all p = false := by
  have e : rs.getD k zUn = rs[k] := by simp [List.getD_eq_getElem?_getD, h]
  rw [e] at hp
  rw [List.all_eq_false]
  exact ⟨rs[k], List.getElem_mem _, by simp [hp]⟩
theorem unOne_ways (a : ByteArray) (p : Int) : (nameB a = false ∧ unOne ⟨a, p⟩ = false) ∨ (nameB a = true ∧ p < 0 ∧ inB p 0 100000000 = false ∧ unOne ⟨a, p⟩ = false) ∨ (nameB a = true ∧ 0 ≤ p ∧ 100000000 < p ∧ inB p 0 100000000 = false ∧ unOne ⟨a, p⟩ = false) ∨ (nameB a = true ∧ 0 ≤ p ∧ p ≤ 100000000 ∧ inB p 0 100000000 = true ∧ unOne ⟨a, p⟩ = true) := by
  have e : unOne ⟨a, p⟩ = (nameB a && inB p 0 100000000) := rfl
  rw [e]
  cases h : nameB a
  · exact .inl ⟨rfl, rfl⟩
  · rcases (by omega : p < 0 ∨ (0 ≤ p ∧ 100000000 < p) ∨ (0 ≤ p ∧ p ≤ 100000000)) with q | ⟨q, q'⟩ | ⟨q, q'⟩
    · have : inB p 0 100000000 = false := decide_eq_false (by omega)
      exact .inr (.inl ⟨rfl, q, this, by rw [this]; rfl⟩)
    · have : inB p 0 100000000 = false := decide_eq_false (by omega)
      exact .inr (.inr (.inl ⟨rfl, q, q', this, by rw [this]; rfl⟩))
    · have : inB p 0 100000000 = true := decide_eq_true (by omega)
      exact .inr (.inr (.inr ⟨rfl, q, q', this, by rw [this]; rfl⟩))


set_option maxHeartbeats 2000000 in
theorem unNot_any (a : ByteArray) (p : Int) (ha : a.size ≤ 2000000) (w : World) :
    Calls Try.prog 89 #[.agg #[.string a, .int .i64 p]] w fun e w' => e = .returned (.bool (!unOne ⟨a, p⟩)) ∧ Below w.heap.size w w' := by
  have HN : Hid (∀ b, nameB a = b → ∀ w, Calls Try.prog 73 #[.string a] w fun e w' => e = .returned (.bool b) ∧ Below w.heap.size w w') := fun b h w => h ▸ implName_any a (by unfold maxLen; omega) w
  rcases unOne_ways a p with ⟨h1, hE⟩ | ⟨h1, h2, _, hE⟩ | ⟨h1, h2, h3, _, hE⟩ | ⟨h1, h2, h3, _, hE⟩
  all_goals
    rw [hE]
    clear hE
    have H1 : Hid _ := HN.out _ h1
    clear h1 HN
    go_enter Try.func89, Try.ntmps89
    go_wp2_with fail
    (first | go_at_call 73 | skip)
    refine (H1.out _).mono ?_
    rintro e w1 ⟨rfl, hb1⟩
    have c1 : w1.cell? ⟨w.heap.size, 1, none⟩ = some (.int .i64 p) := (hb1.cell (p := ⟨w.heap.size, 1, none⟩) (by simp)).trans (cellNew _ _ _ _ rfl rfl)
    have HB1 : Hid (Below w.heap.size w w1) := chain (below_alloc _ _) hb1
    clear hb1 H1
    go_wp2
    go_ret
    exact ⟨ret_bool (by first | rfl | (simp; done) | (simp; omega)), HB1.out⟩
set_option maxHeartbeats 2000000 in
theorem unIndex_any (a : Option Addr) (cap : Nat) (rs : List RUn) (hl : rs.length ≤ 100000000) (hp : ∀ r ∈ rs, UnOK r) (w : World) (hr : ReadsUn w.heap.size w a rs) :
    Calls Try.prog 98 #[.slice a rs.length cap, .func (.func 89) #[] #[]] w fun e w' => (∃ x : Int, e = .returned (.int .i64 x) ∧ decide (0 ≤ x) = !rs.all unOne) ∧ Below w.heap.size w w' := by
  have HR : Hid (ReadsUn w.heap.size w a rs) := hr
  have HOK : Hid (∀ r ∈ rs, UnOK r) := hp
  clear hr hp
  go_enter Try.func98, Try.ntmps98
  go_wp2
  go_loopw [5, 8] (fun _ c wr => ∃ k : Nat, k ≤ rs.length ∧ c = .int .i64 (k : Int) ∧ (rs.take k).all unOne = true ∧ Below w.heap.size w wr) (fun _ c _ => rs.length - (intOf c).toNat)
  case atStart => exact ⟨0, Nat.zero_le _, rfl, rfl, Below.refl _ _⟩
  case round =>
    obtain ⟨k, hk, rfl, hf, hb⟩ := hrel
    have HF : Hid ((rs.take k).all unOne = true) := hf
    have HB : Hid (Below w.heap.size w wr) := hb
    clear hf hb
    by_cases hlt : k < rs.length
    · have hlt' : (k : Int) < (rs.length : Int) := by omega
      rcases HR.out with h | ⟨b0, o0, ha, hB0, ia⟩
      · rw [h] at hlt; simp at hlt
      obtain ⟨c0, c1⟩ := (ia.below HB.out hB0) k hlt
      have hW : UnOK (rs.getD k zUn) := getUn HOK.out hlt
      have HX : Hid (unOne (rs.getD k zUn) = false → rs.all unOne = false) := fun h => uns_fail hlt h
      have HN : Hid ((rs.take (k + 1)).all unOne = ((rs.take k).all unOne && unOne (rs.getD k zUn))) := uns_take unOne rs k hlt
      rw [ha]
      clear ia
      generalize rs.getD k zUn = q at *
      obtain ⟨qa, qp⟩ := q
      dsimp only at c0 c1
      have hm := unNot_any qa qp hW wr
      clear hW
      generalize unOne ⟨qa, qp⟩ = mb at *
      cases mb
      · go_wp2_with (go_at_call 89; refine hm.mono ?_; rintro e w2 ⟨rfl, hb2⟩)
        go_ret
        exact ⟨⟨(k : Int), rfl, by rw [HX.out trivial]; exact decide_eq_true (by omega)⟩, chain HB.out hb2⟩
      · go_wp2_with (go_at_call 89; refine hm.mono ?_; rintro e w2 ⟨rfl, hb2⟩)
        exact ⟨⟨k + 1, by omega, by go_num, by rw [HN.out, HF.out]; rfl, chain HB.out hb2⟩, by simp [intOf]; omega⟩
    · have hle : (rs.length : Int) ≤ (k : Int) := by omega
      have HE : Hid (rs.all unOne = true) := by have := HF.out; rwa [List.take_of_length_le (by omega)] at this
      go_wp2
      go_ret
      exact ⟨⟨-1, rfl, by rw [HE.out]; rfl⟩, HB.out⟩
theorem unContains_any (a : Option Addr) (cap : Nat) (rs : List RUn) (hl : rs.length ≤ 100000000) (hp : ∀ r ∈ rs, UnOK r) (w : World) (hr : ReadsUn w.heap.size w a rs) :
    Calls Try.prog 88 #[.slice a rs.length cap, .func (.func 89) #[] #[]] w fun e w' => e = .returned (.bool (!rs.all unOne)) ∧ Below w.heap.size w w' := by
  have hi := unIndex_any a cap rs hl hp w hr
  clear hr hp
  go_enter Try.func88, Try.ntmps88
  go_wp2_with (go_at_call 98; refine hi.mono ?_; rintro e w2 ⟨⟨x, rfl, hx⟩, hb2⟩; have HX : Hid (decide (0 ≤ x) = !rs.all unOne) := hx; clear hx)
  go_ret
  exact ⟨ret_bool HX.out, hb2⟩
theorem unitsOK_any (a : Option Addr) (cap : Nat) (rs : List RUn) (hl : rs.length ≤ 100000000) (hp : ∀ r ∈ rs, UnOK r) (w : World) (hr : ReadsUn w.heap.size w a rs) :
    Calls Try.prog 60 #[.slice a rs.length cap] w fun e w' => e = .returned (.bool (unAll rs)) ∧ Below w.heap.size w w' := by
  have hi := unContains_any a cap rs hl hp w hr
  clear hr hp
  by_cases h8 : (rs.length : Int) ≤ 8
  · have HA : Hid (unAll rs = rs.all unOne) := by show _ = _; unfold unAll; rw [decide_eq_true (by omega)]; rfl
    generalize rs.all unOne = b at *
    go_enter Try.func60, Try.ntmps60
    go_wp2_with (go_at_call 88; refine hi.mono ?_; rintro e w2 ⟨rfl, hb2⟩)
    go_ret
    exact ⟨ret_bool (by first | exact HA.out.symm | (rw [HA.out]; done) | (rw [HA.out]; cases b <;> simp; omega) | (rw [HA.out]; cases b <;> simp)), hb2⟩
  · have HA : Hid (unAll rs = false) := by show _ = _; unfold unAll; rw [decide_eq_false (by omega)]; rfl
    have h8' : (8 : Int) < (rs.length : Int) := by omega
    go_enter Try.func60, Try.ntmps60
    go_wp2
    go_ret
    exact ⟨ret_bool (by first | exact HA.out.symm | (rw [HA.out]; done) | (rw [HA.out]; simp; omega) | (rw [HA.out]; simp)), Below.refl _ _⟩

def faultOf (us : List RUn) (ds : List CDl) : Int := if 4096 < us.length ∨ 4096 < ds.length then 2 else if (unAll us && dlAll ds) = true then 0 else 1
theorem fault_ways (us : List RUn) (ds : List CDl) : ((4096 : Int) < (us.length : Int) ∧ faultOf us ds = 2) ∨ ((us.length : Int) ≤ 4096 ∧ (4096 : Int) < (ds.length : Int) ∧ faultOf us ds = 2) ∨ ((us.length : Int) ≤ 4096 ∧ (ds.length : Int) ≤ 4096 ∧ unAll us = false ∧ faultOf us ds = 1) ∨ ((us.length : Int) ≤ 4096 ∧ (ds.length : Int) ≤ 4096 ∧ unAll us = true ∧ dlAll ds = false ∧ faultOf us ds = 1) ∨ ((us.length : Int) ≤ 4096 ∧ (ds.length : Int) ≤ 4096 ∧ unAll us = true ∧ dlAll ds = true ∧ faultOf us ds = 0) := by
  unfold faultOf
  by_cases h1 : 4096 < us.length
  · exact .inl ⟨by omega, by rw [if_pos (.inl h1)]⟩
  · by_cases h2 : 4096 < ds.length
    · exact .inr (.inl ⟨by omega, by omega, by rw [if_pos (.inr h2)]⟩)
    · rw [if_neg (by omega)]
      cases h3 : unAll us
      · exact .inr (.inr (.inl ⟨by omega, by omega, rfl, rfl⟩))
      · cases h4 : dlAll ds
        · exact .inr (.inr (.inr (.inl ⟨by omega, by omega, rfl, rfl, rfl⟩)))
        · exact .inr (.inr (.inr (.inr ⟨by omega, by omega, rfl, rfl, rfl⟩)))

set_option maxHeartbeats 2000000 in
theorem fault_any (a : Option Addr) (cap : Nat) (us : List RUn) (hl : us.length ≤ 100000000) (hp : ∀ r ∈ us, UnOK r) (b : Option Addr) (cb : Nat) (ds : List CDl) (hd : ds.length ≤ 100000000) (hq : ∀ r ∈ ds, DlOK r) (w : World) (hr : ReadsUn w.heap.size w a us) (ks : ReadsDl w.heap.size w b ds) :
    Calls Try.prog 26 #[.slice a us.length cap, .slice b ds.length cb] w fun e w' => e = .returned (.int .i64 (faultOf us ds)) ∧ Below w.heap.size w w' := by
  have HU : Hid (∀ q, unAll us = q → ∀ W, Below w.heap.size w W → Calls Try.prog 60 #[.slice a us.length cap] W fun e w' => e = .returned (.bool q) ∧ Below W.heap.size W w') := fun q e W hb => e ▸ unitsOK_any a cap us hl hp W (hr.later hb)
  have HD : Hid (∀ q, dlAll ds = q → ∀ W, Below w.heap.size w W → Calls Try.prog 8 #[.slice b ds.length cb] W fun e w' => e = .returned (.bool q) ∧ Below W.heap.size W w') := fun q e W hb => e ▸ implDeals_any b cb ds hd hq W (ks.later hb)
  clear hr ks hp hq
  rcases fault_ways us ds with ⟨h1, hE⟩ | ⟨h1, h2, hE⟩ | ⟨h1, h2, h3, hE⟩ | ⟨h1, h2, h3, h4, hE⟩ | ⟨h1, h2, h3, h4, hE⟩
  · rw [hE]; clear hE
    go_enter Try.func26, Try.ntmps26
    go_wp2
    go_ret
    exact ⟨rfl, Below.refl _ _⟩
  · rw [hE]; clear hE
    go_enter Try.func26, Try.ntmps26
    go_wp2
    go_ret
    exact ⟨rfl, Below.refl _ _⟩
  · rw [hE]; clear hE
    have H3 : Hid _ := HU.out _ h3
    clear h3
    go_enter Try.func26, Try.ntmps26
    go_wp2_with (first | (go_at_call 60; refine (H3.out _ (Below.refl _ _)).mono ?_; rintro e w2 ⟨rfl, hb2⟩))
    go_ret
    exact ⟨rfl, hb2⟩
  · rw [hE]; clear hE
    have H3 : Hid _ := HU.out _ h3
    have H4 : Hid _ := HD.out _ h4
    clear h3 h4
    go_enter Try.func26, Try.ntmps26
    go_wp2_with (first | (go_at_call 60; refine (H3.out _ (Below.refl _ _)).mono ?_; rintro e w2 ⟨rfl, hb2⟩) | (go_at_call 8; refine (H4.out _ hb2).mono ?_; rintro e w3 ⟨rfl, hb3⟩))
    go_ret
    exact ⟨rfl, chain hb2 hb3⟩
  · rw [hE]; clear hE
    have H3 : Hid _ := HU.out _ h3
    have H4 : Hid _ := HD.out _ h4
    clear h3 h4
    go_enter Try.func26, Try.ntmps26
    go_wp2_with (first | (go_at_call 60; refine (H3.out _ (Below.refl _ _)).mono ?_; rintro e w2 ⟨rfl, hb2⟩) | (go_at_call 8; refine (H4.out _ hb2).mono ?_; rintro e w3 ⟨rfl, hb3⟩))
    go_ret
    exact ⟨rfl, chain hb2 hb3⟩

end Go.Proofs.Ytbijgoaanphojaa

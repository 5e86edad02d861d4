/-
  Lines of documents as mathematics; contracts of the program's DocLine.right, namesOf and linesOK.
-/
import Derived.Test.YtfiajiodehhmhaaDcF
import Derived.Test.YtfiajiodehhmhaaDlC
import Derived.Test.YtfiajiodehhmhaaRowS
import Derived.Test.YtfiajiodehhmhaaRate
namespace Go.Proofs.Ytfiajiodehhmhaa
open Go.ChangeShapes Go.WideShapes Go.ChangeAt Go.RowKit Go.Joins Go.Deep
set_option linter.unusedVariables false

def dcB (r : RDc) : Bool := inB r.un 1 100000 && inB r.am 0 1000000000
/-- A list of lines is right. -/
def dcsB (rs : List RDc) : Bool := decide (rs.length ≤ 60) && (diffB (rs.map (·.ar)) && rs.all dcB)
theorem dcs_take (r : List RDc) (k : Nat) (h : k < r.length) : (r.take (k + 1)).all dcB = ((r.take k).all dcB && dcB (r.getD k zDc)) := by
  rw [List.take_succ_eq_append_getElem h, List.all_append]
  have e : r.getD k zDc = r[k] := by simp [List.getD_eq_getElem?_getD, h]
  rw [e]; simp
theorem dcs_fail {r : List RDc} {k : Nat} (h : k < r.length) (hp : dcB (r.getD k zDc) = false) : r.all dcB = false := by
  have e : r.getD k zDc = r[k] := by simp [List.getD_eq_getElem?_getD, h]
  rw [e] at hp
  rw [List.all_eq_false]
  exact ⟨r[k], List.getElem_mem _, by simp [hp]⟩
theorem dc_facts {r : RDc} (h : dcB r = true) : (1 ≤ r.un ∧ r.un ≤ 100000) ∧ 0 ≤ r.am ∧ r.am ≤ 1000000000 := by
  unfold dcB inB at h
  simp only [Bool.and_eq_true, decide_eq_true_eq] at h
  omega
theorem cellOld (w : World) (o : Obj) {b j : Nat} (h : b < w.heap.size) : (w.alloc o).cell? ⟨b, j, none⟩ = w.cell? ⟨b, j, none⟩ := (below_alloc w o).cell (p := ⟨b, j, none⟩) h
theorem cellNew (w : World) (vs : Array Value) (t : TypeId) {b j : Nat} (v : Value) (hb : b = w.heap.size) (hj : vs[j]? = some v) : (w.alloc (.cells vs t)).cell? ⟨b, j, none⟩ = some v := by
  subst hb; unfold World.cell?; rw [heapNew]; simpa using hj
theorem dcSpan_any (x lo hi : Int) (w : World) :
    Calls Try.prog 125 #[.agg #[.int .i64 lo, .int .i64 hi], .int .i64 x] w fun e' w' => e' = .returned (.bool (inB x lo hi)) ∧ Below w.heap.size w w' := by
  rcases in_ways x lo hi with h | ⟨h1, h2⟩ | ⟨h1, h2⟩
  all_goals
    go_enter Try.func125, Try.ntmps125
    go_wp2
    go_ret
    exact ⟨ret_bool (by unfold inB; first | exact (decide_eq_false (by omega)).symm | exact (decide_eq_true (by omega)).symm | exact decide_eq_decide.mpr (by omega)), below_alloc _ _⟩
set_option maxHeartbeats 1000000 in
theorem dcRight_any (a : ByteArray) (n d : Int) (w : World) :
    Calls Try.prog 90 #[.agg #[.string a, .int .i64 n, .int .i64 d]] w fun e' w' => e' = .returned (.bool (dcB ⟨a, n, d⟩)) ∧ Below w.heap.size w w' := by
  have H1 : Hid (∀ X, Calls Try.prog 125 #[.agg #[.int .i64 1, .int .i64 100000], .int .i64 n] X fun e' w' => e' = .returned (.bool (inB n 1 100000)) ∧ Below X.heap.size X w') := fun X => dcSpan_any n 1 100000 X
  have H2 : Hid (∀ X, Calls Try.prog 125 #[.agg #[.int .i64 0, .int .i64 1000000000], .int .i64 d] X fun e' w' => e' = .returned (.bool (inB d 0 1000000000)) ∧ Below X.heap.size X w') := fun X => dcSpan_any d 0 1000000000 X
  show Calls Try.prog 90 #[.agg #[.string a, .int .i64 n, .int .i64 d]] w fun e' w' => e' = .returned (.bool (inB n 1 100000 && inB d 0 1000000000)) ∧ Below w.heap.size w w'
  generalize inB n 1 100000 = b1 at *
  generalize inB d 0 1000000000 = b2 at *
  cases b1
  · go_enter Try.func90, Try.ntmps90
    go_wp2_with fail
    (first | go_at_call 125 | skip)
    refine (H1.out _).mono ?_
    rintro e' w2 ⟨rfl, hb2⟩
    have HB2 : Hid (Below w.heap.size w w2) := chain (chain (chain (below_alloc _ _) (below_alloc _ _)) (below_alloc _ _)) hb2
    clear hb2
    go_wp2_with fail
    go_ret
    exact ⟨rfl, HB2.out⟩
  · go_enter Try.func90, Try.ntmps90
    go_wp2_with fail
    (first | go_at_call 125 | skip)
    refine (H1.out _).mono ?_
    rintro e' w2 ⟨rfl, hb2⟩
    have HB2 : Hid (Below w.heap.size w w2) := chain (chain (chain (below_alloc _ _) (below_alloc _ _)) (below_alloc _ _)) hb2
    have hz : w.heap.size + 2 < w2.heap.size := by have := hb2.size; simp at this; omega
    have k0 : w2.cell? ⟨w.heap.size, 2, none⟩ = some (.int .i64 d) := (hb2.cell (p := ⟨w.heap.size, 2, none⟩) (by simp only [World.size_alloc]; omega)).trans ((cellOld _ _ (by simp only [World.size_alloc]; omega)).trans ((cellOld _ _ (by simp only [World.size_alloc]; omega)).trans (cellNew _ _ _ _ rfl rfl)))
    have k1 : w2.cell? ⟨w.heap.size + 1 + 1, 0, none⟩ = some (.int .i64 0) := (hb2.cell (p := ⟨w.heap.size + 1 + 1, 0, none⟩) (by simp only [World.size_alloc]; omega)).trans (cellNew _ _ _ _ (by simp only [World.size_alloc]) rfl)
    have k2 : w2.cell? ⟨w.heap.size + 1 + 1, 1, none⟩ = some (.int .i64 1000000000) := (hb2.cell (p := ⟨w.heap.size + 1 + 1, 1, none⟩) (by simp only [World.size_alloc]; omega)).trans (cellNew _ _ _ _ (by simp only [World.size_alloc]) rfl)
    clear hb2
    go_wp2_with fail
    (first | go_at_call 125 | skip)
    refine (H2.out _).mono ?_
    rintro e' w3 ⟨rfl, hb3⟩
    have HB3 : Hid (Below w.heap.size w w3) := chain HB2.out hb3
    clear hb3
    go_wp2_with fail
    go_ret
    exact ⟨ret_bool (by simp), HB3.out⟩
theorem dcNot_any (a : ByteArray) (n d : Int) (w : World) :
    Calls Try.prog 89 #[.agg #[.string a, .int .i64 n, .int .i64 d]] w fun e' w' => e' = .returned (.bool (!dcB ⟨a, n, d⟩)) ∧ Below w.heap.size w w' := by
  have HC : Hid (∀ X, Calls Try.prog 90 #[.agg #[.string a, .int .i64 n, .int .i64 d]] X fun e' w' => e' = .returned (.bool (dcB ⟨a, n, d⟩)) ∧ Below X.heap.size X w') := fun X => dcRight_any a n d X
  generalize dcB ⟨a, n, d⟩ = b1 at *
  go_enter Try.func89, Try.ntmps89
  go_wp2_with (go_at_call 90; refine (HC.out _).mono ?_; rintro e' w2 ⟨rfl, hb2⟩)
  go_ret
  exact ⟨rfl, chain (below_alloc _ _) hb2⟩
set_option maxHeartbeats 2000000 in
theorem dcIndex_any (a : Option Addr) (cap : Nat) (rs : List RDc) (hl : rs.length ≤ 100000000) (w : World) (hr : ReadsDc w.heap.size w a rs) :
    Calls Try.prog 124 #[.slice a rs.length cap, .func (.func 89) #[] #[]] w fun e w' => (∃ x : Int, e = .returned (.int .i64 x) ∧ decide (0 ≤ x) = !rs.all dcB) ∧ Below w.heap.size w w' := by
  have HR : Hid (ReadsDc w.heap.size w a rs) := hr
  clear hr
  go_enter Try.func124, Try.ntmps124
  go_wp2
  go_loopw [5, 8] (fun _ c wr => ∃ k : Nat, k ≤ rs.length ∧ c = .int .i64 (k : Int) ∧ (rs.take k).all dcB = true ∧ Below w.heap.size w wr) (fun _ c _ => rs.length - (intOf c).toNat)
  case atStart => exact ⟨0, Nat.zero_le _, rfl, rfl, Below.refl _ _⟩
  case round =>
    obtain ⟨k, hk, rfl, hf, hb⟩ := hrel
    have HF : Hid ((rs.take k).all dcB = true) := hf
    have HB : Hid (Below w.heap.size w wr) := hb
    clear hf hb
    by_cases hlt : k < rs.length
    · have hlt' : (k : Int) < (rs.length : Int) := by omega
      rcases HR.out with h | ⟨b0, o0, ha, hB0, ia⟩
      · rw [h] at hlt; simp at hlt
      obtain ⟨c0, c1, c2⟩ := (ia.below HB.out hB0) k hlt
      have HX : Hid (dcB (rs.getD k zDc) = false → rs.all dcB = false) := fun h => dcs_fail hlt h
      have HN : Hid ((rs.take (k + 1)).all dcB = ((rs.take k).all dcB && dcB (rs.getD k zDc))) := dcs_take rs k hlt
      have hm : Hid (∀ W, Calls Try.prog 89 #[.agg #[.string (rs.getD k zDc).ar, .int .i64 (rs.getD k zDc).un, .int .i64 (rs.getD k zDc).am]] W fun e' w' => e' = .returned (.bool (!dcB (rs.getD k zDc))) ∧ Below W.heap.size W w') := fun W => dcNot_any _ _ _ W
      rw [ha]
      clear ia
      generalize dcB (rs.getD k zDc) = mb at *
      generalize (rs.getD k zDc).ar = p at *
      generalize (rs.getD k zDc).un = q at *
      generalize (rs.getD k zDc).am = s at *
      cases mb
      · go_wp2_with (go_at_call 89; refine (hm.out _).mono ?_; rintro e w2 ⟨rfl, hb2⟩)
        go_ret
        exact ⟨⟨(k : Int), rfl, by rw [HX.out trivial]; exact decide_eq_true (by omega)⟩, chain HB.out hb2⟩
      · go_wp2_with (go_at_call 89; refine (hm.out _).mono ?_; rintro e w2 ⟨rfl, hb2⟩)
        exact ⟨⟨k + 1, by omega, by go_num, by rw [HN.out, HF.out]; rfl, chain HB.out hb2⟩, by simp [intOf]; omega⟩
    · have hle : (rs.length : Int) ≤ (k : Int) := by omega
      have HE : Hid (rs.all dcB = true) := by have := HF.out; rwa [List.take_of_length_le (by omega)] at this
      go_wp2
      go_ret
      exact ⟨⟨-1, rfl, by rw [HE.out]; rfl⟩, HB.out⟩
theorem dcContains_any (a : Option Addr) (cap : Nat) (rs : List RDc) (hl : rs.length ≤ 100000000) (w : World) (hr : ReadsDc w.heap.size w a rs) :
    Calls Try.prog 88 #[.slice a rs.length cap, .func (.func 89) #[] #[]] w fun e w' => e = .returned (.bool (!rs.all dcB)) ∧ Below w.heap.size w w' := by
  have hi := dcIndex_any a cap rs hl w hr
  clear hr
  go_enter Try.func88, Try.ntmps88
  go_wp2_with (go_at_call 124; refine hi.mono ?_; rintro e w2 ⟨⟨x, rfl, hx⟩, hb2⟩; have HX : Hid (decide (0 ≤ x) = !rs.all dcB) := hx; clear hx)
  go_ret
  exact ⟨ret_bool HX.out, hb2⟩
theorem OneS.later {w : World} {B : Nat} {v : Value} {L : List ByteArray} {wr w' : World} (h : OneS w B v L wr) (hb : Below wr.heap.size wr w') : OneS w B v L w' := by
  obtain ⟨⟨h1, h2⟩, h4, h5⟩ := h
  refine ⟨⟨h1, ?_⟩, Nat.le_trans h4 hb.size, h5.trans (hb.mono h4)⟩
  rcases h2 with h2 | ⟨g, cap, cur, e, hB, hg, r⟩
  · exact .inl h2
  · exact .inr ⟨g, cap, cur, e, hB, (hb.block g (Array.getElem?_eq_some_iff.1 hg).1).trans hg, r⟩
theorem dcNames1_anyN (a : ByteArray) (n d : Int) (w : World) :
    Calls Try.prog 86 #[.agg #[.string a, .int .i64 n, .int .i64 d]] w fun e w' => e = .returned (.string a) ∧ Below w.heap.size w w' := by
  go_enter Try.func86, Try.ntmps86
  go_wp2
  go_ret
  exact ⟨rfl, below_alloc _ _⟩
set_option maxHeartbeats 4000000 in
theorem dcNames1_any (a : Option Addr) (cap : Nat) (rs : List RDc) (hl : rs.length ≤ 100000000) (w : World) (hr : ReadsDc w.heap.size w a rs) :
    Calls Try.prog 85 #[.slice a rs.length cap, .func (.func 86) #[] #[]] w fun e w' => ∃ g cp, e = .returned (.slice (some ⟨g, 0, none⟩) rs.length cp) ∧ rs.length ≤ cp ∧ ReadsS w'.heap.size w' (some ⟨g, 0, none⟩) (rs.map (·.ar)) ∧ Below w.heap.size w w' := by
  have HR : Hid (ReadsDc w.heap.size w a rs) := hr
  clear hr
  have hmk : ∀ w, (Instr.makeSlice 67 (.int .i64 0) (.int .i64 (rs.length : Int))).run Try.prog w = .ok (.slice (some ⟨w.heap.size, 0, none⟩) 0 rs.length) (w.alloc (.cells (madeCells #[.string ⟨#[]⟩] rs.length) 9)) := fun w => makeStrs 0 rs.length (by omega) (by omega) w
  obtain ⟨i0, hi, hzz⟩ := Option.map_eq_some_iff.1 strInfo
  simp only [Prod.mk.injEq] at hzz
  obtain ⟨hi0, hi1, hi2⟩ := hzz
  have H0 : Hid (OneS w w.heap.size (.slice (some ⟨w.heap.size, 0, none⟩) 0 rs.length) [] (w.alloc (Obj.cells (madeCells #[.string ⟨#[]⟩] rs.length) 9))) := OneS.made w w.heap.size rfl rs.length (by omega)
  go_enter Try.func85, Try.ntmps85
  go_wp2
  go_loopw [5, 7, 13] (fun v _ c wr => ∃ k g cp : Nat, k ≤ rs.length ∧ k ≤ cp ∧ c = .int .i64 (k : Int) ∧ v = .slice (some ⟨g, 0, none⟩) k cp ∧ OneS w w.heap.size (.slice (some ⟨g, 0, none⟩) k cp) ((rs.take k).map (·.ar)) wr) (fun _ _ c _ => rs.length - (intOf c).toNat)
  case atStart => exact ⟨0, w.heap.size, rs.length, Nat.zero_le _, Nat.zero_le _, rfl, rfl, by simpa using H0.out⟩
  case round =>
    clear H0 hmk
    obtain ⟨k, g, cp, hk, hkc, rfl, rfl, hO⟩ := hrel
    have HO : Hid (OneS w w.heap.size (.slice (some ⟨g, 0, none⟩) k cp) ((rs.take k).map (·.ar)) wr) := hO
    have HB : Hid (Below w.heap.size w wr) := hO.2.2
    clear hO
    by_cases hlt : k < rs.length
    · have hlt' : (k : Int) < (rs.length : Int) := by omega
      rcases HR.out with h | ⟨b0, o0, ha, hB0, ia⟩
      · rw [h] at hlt; simp at hlt
      obtain ⟨c0, c1, c2⟩ := (ia.below HB.out hB0) k hlt
      have hlen : ((rs.take k).map (·.ar)).length = k := by rw [List.length_map, List.length_take]; omega
      have HN : Hid ((rs.take k).map (·.ar) ++ [(rs.getD k zDc).ar] = (rs.take (k + 1)).map (·.ar)) := by
        have e : rs.getD k zDc = rs[k] := by simp [List.getD_eq_getElem?_getD, hlt]
        show _ = _
        rw [List.take_succ_eq_append_getElem hlt, List.map_append, e]; rfl
      have hNm := fun W => dcNames1_anyN (rs.getD k zDc).ar (rs.getD k zDc).un (rs.getD k zDc).am W
      rw [ha]
      clear ia
      generalize rs.getD k zDc = r at *
      obtain ⟨nm, un, am⟩ := r
      dsimp only at c0 c1 c2 HN hNm
      have HNm : Hid (∀ W, Calls Try.prog 86 #[.agg #[.string nm, .int .i64 un, .int .i64 am]] W fun e w' => e = .returned (.string nm) ∧ Below W.heap.size W w') := hNm
      clear hNm
      generalize (rs.take k).map (·.ar) = L at *
      obtain rfl : L.length = k := hlen
      go_wp2_with fail
      (first | go_at_call 86 | skip)
      refine (HNm.out _).mono ?_
      rintro e w2 ⟨rfl, hb2⟩
      have HO2 : Hid (OneS w w.heap.size (.slice (some ⟨g, 0, none⟩) L.length cp) L w2) := HO.out.later (chain (below_alloc _ _) hb2)
      have HW5 : Hid (OneS w w.heap.size (.slice (some ⟨g, 0, none⟩) L.length cp) L (w2.alloc (Obj.cells #[.string nm] 9))) := HO2.out.alloc _
      have HNw : Hid (∀ j u, [Value.string nm][j]? = some u → (w2.alloc (Obj.cells #[.string nm] 9)).cell? ((⟨w2.heap.size, 0, none⟩ : Addr).add j) = some u) := newsOneS w2 (.string nm) 9
      clear hb2 HO
      go_wp2_with (at_builtin; refine wpList_append_lies _ rfl _ _ 67 rfl w.heap.size 9 i0 (.string ⟨#[]⟩) 1 16 Try.underlying67 hi hi0 hi1 hi2 rfl (by decide) _ _ _ rfl HW5.out.1 ⟨w2.heap.size, 0, none⟩ 1 1 [.string nm] rfl rfl HNw.out (by intro u hu; simp at hu; rcases hu with rfl; rfl) (by omega) (by unfold maxLen; omega) (by omega) HW5.out.2.1 _ rfl ?_; intro g1 cp1 w7 hown1 hgrow1 hat1 hglt1; have HO7 : Hid (OneS w w.heap.size (.slice (some ⟨g1, 0, none⟩) (L.length + 1) cp1) (L ++ [nm]) w7) := HW5.out.push hown1 hgrow1; clear hown1 hgrow1 hat1)
      have hc1 := HO7.out.cap
      have HO8 : Hid (OneS w w.heap.size (.slice (some ⟨g1, 0, none⟩) (L.length + 1) cp1) ((rs.take (L.length + 1)).map (·.ar)) w7) := by have := HO7.out; rwa [HN.out] at this
      go_roundw
      case rel => exact ⟨L.length + 1, g1, cp1, by omega, hc1, by go_num, rfl, HO8.out⟩
      case measure => simp [intOf]; omega
    · obtain rfl : k = rs.length := by omega
      have HO' : Hid (ReadsS wr.heap.size wr (some ⟨g, 0, none⟩) (rs.map (·.ar))) := by have := HO.out.reads (by rw [List.length_map, List.take_length]); rwa [List.take_length] at this
      go_wp2
      go_ret
      exact ⟨g, cp, rfl, hkc, HO'.out, HB.out⟩
theorem dcNames2_anyN (a : ByteArray) (n d : Int) (w : World) :
    Calls Try.prog 92 #[.agg #[.string a, .int .i64 n, .int .i64 d]] w fun e w' => e = .returned (.string a) ∧ Below w.heap.size w w' := by
  go_enter Try.func92, Try.ntmps92
  go_wp2
  go_ret
  exact ⟨rfl, below_alloc _ _⟩
set_option maxHeartbeats 4000000 in
theorem dcNames2_any (a : Option Addr) (cap : Nat) (rs : List RDc) (hl : rs.length ≤ 100000000) (w : World) (hr : ReadsDc w.heap.size w a rs) :
    Calls Try.prog 85 #[.slice a rs.length cap, .func (.func 92) #[] #[]] w fun e w' => ∃ g cp, e = .returned (.slice (some ⟨g, 0, none⟩) rs.length cp) ∧ OneS w w.heap.size (.slice (some ⟨g, 0, none⟩) rs.length cp) (rs.map (·.ar)) w' := by
  have HR : Hid (ReadsDc w.heap.size w a rs) := hr
  clear hr
  have hmk : ∀ w, (Instr.makeSlice 67 (.int .i64 0) (.int .i64 (rs.length : Int))).run Try.prog w = .ok (.slice (some ⟨w.heap.size, 0, none⟩) 0 rs.length) (w.alloc (.cells (madeCells #[.string ⟨#[]⟩] rs.length) 9)) := fun w => makeStrs 0 rs.length (by omega) (by omega) w
  obtain ⟨i0, hi, hzz⟩ := Option.map_eq_some_iff.1 strInfo
  simp only [Prod.mk.injEq] at hzz
  obtain ⟨hi0, hi1, hi2⟩ := hzz
  have H0 : Hid (OneS w w.heap.size (.slice (some ⟨w.heap.size, 0, none⟩) 0 rs.length) [] (w.alloc (Obj.cells (madeCells #[.string ⟨#[]⟩] rs.length) 9))) := OneS.made w w.heap.size rfl rs.length (by omega)
  go_enter Try.func85, Try.ntmps85
  go_wp2
  go_loopw [5, 7, 13] (fun v _ c wr => ∃ k g cp : Nat, k ≤ rs.length ∧ k ≤ cp ∧ c = .int .i64 (k : Int) ∧ v = .slice (some ⟨g, 0, none⟩) k cp ∧ OneS w w.heap.size (.slice (some ⟨g, 0, none⟩) k cp) ((rs.take k).map (·.ar)) wr) (fun _ _ c _ => rs.length - (intOf c).toNat)
  case atStart => exact ⟨0, w.heap.size, rs.length, Nat.zero_le _, Nat.zero_le _, rfl, rfl, by simpa using H0.out⟩
  case round =>
    clear H0 hmk
    obtain ⟨k, g, cp, hk, hkc, rfl, rfl, hO⟩ := hrel
    have HO : Hid (OneS w w.heap.size (.slice (some ⟨g, 0, none⟩) k cp) ((rs.take k).map (·.ar)) wr) := hO
    have HB : Hid (Below w.heap.size w wr) := hO.2.2
    clear hO
    by_cases hlt : k < rs.length
    · have hlt' : (k : Int) < (rs.length : Int) := by omega
      rcases HR.out with h | ⟨b0, o0, ha, hB0, ia⟩
      · rw [h] at hlt; simp at hlt
      obtain ⟨c0, c1, c2⟩ := (ia.below HB.out hB0) k hlt
      have hlen : ((rs.take k).map (·.ar)).length = k := by rw [List.length_map, List.length_take]; omega
      have HN : Hid ((rs.take k).map (·.ar) ++ [(rs.getD k zDc).ar] = (rs.take (k + 1)).map (·.ar)) := by
        have e : rs.getD k zDc = rs[k] := by simp [List.getD_eq_getElem?_getD, hlt]
        show _ = _
        rw [List.take_succ_eq_append_getElem hlt, List.map_append, e]; rfl
      have hNm := fun W => dcNames2_anyN (rs.getD k zDc).ar (rs.getD k zDc).un (rs.getD k zDc).am W
      rw [ha]
      clear ia
      generalize rs.getD k zDc = r at *
      obtain ⟨nm, un, am⟩ := r
      dsimp only at c0 c1 c2 HN hNm
      have HNm : Hid (∀ W, Calls Try.prog 92 #[.agg #[.string nm, .int .i64 un, .int .i64 am]] W fun e w' => e = .returned (.string nm) ∧ Below W.heap.size W w') := hNm
      clear hNm
      generalize (rs.take k).map (·.ar) = L at *
      obtain rfl : L.length = k := hlen
      go_wp2_with fail
      (first | go_at_call 92 | skip)
      refine (HNm.out _).mono ?_
      rintro e w2 ⟨rfl, hb2⟩
      have HO2 : Hid (OneS w w.heap.size (.slice (some ⟨g, 0, none⟩) L.length cp) L w2) := HO.out.later (chain (below_alloc _ _) hb2)
      have HW5 : Hid (OneS w w.heap.size (.slice (some ⟨g, 0, none⟩) L.length cp) L (w2.alloc (Obj.cells #[.string nm] 9))) := HO2.out.alloc _
      have HNw : Hid (∀ j u, [Value.string nm][j]? = some u → (w2.alloc (Obj.cells #[.string nm] 9)).cell? ((⟨w2.heap.size, 0, none⟩ : Addr).add j) = some u) := newsOneS w2 (.string nm) 9
      clear hb2 HO
      go_wp2_with (at_builtin; refine wpList_append_lies _ rfl _ _ 67 rfl w.heap.size 9 i0 (.string ⟨#[]⟩) 1 16 Try.underlying67 hi hi0 hi1 hi2 rfl (by decide) _ _ _ rfl HW5.out.1 ⟨w2.heap.size, 0, none⟩ 1 1 [.string nm] rfl rfl HNw.out (by intro u hu; simp at hu; rcases hu with rfl; rfl) (by omega) (by unfold maxLen; omega) (by omega) HW5.out.2.1 _ rfl ?_; intro g1 cp1 w7 hown1 hgrow1 hat1 hglt1; have HO7 : Hid (OneS w w.heap.size (.slice (some ⟨g1, 0, none⟩) (L.length + 1) cp1) (L ++ [nm]) w7) := HW5.out.push hown1 hgrow1; clear hown1 hgrow1 hat1)
      have hc1 := HO7.out.cap
      have HO8 : Hid (OneS w w.heap.size (.slice (some ⟨g1, 0, none⟩) (L.length + 1) cp1) ((rs.take (L.length + 1)).map (·.ar)) w7) := by have := HO7.out; rwa [HN.out] at this
      go_roundw
      case rel => exact ⟨L.length + 1, g1, cp1, by omega, hc1, by go_num, rfl, HO8.out⟩
      case measure => simp [intOf]; omega
    · obtain rfl : k = rs.length := by omega
      have HO' : Hid (OneS w w.heap.size (.slice (some ⟨g, 0, none⟩) rs.length cp) (rs.map (·.ar)) wr) := by have := HO.out; rwa [List.take_length] at this
      go_wp2
      go_ret
      exact ⟨g, cp, rfl, HO'.out⟩
set_option maxHeartbeats 4000000 in
theorem linesOK_any (a : Option Addr) (cap : Nat) (rs : List RDc) (hl : rs.length ≤ 100000000) (hp : ∀ r ∈ rs, DcOK r) (w : World) (hr : ReadsDc w.heap.size w a rs) :
    Calls Try.prog 46 #[.slice a rs.length cap] w fun e w' => e = .returned (.bool (dcsB rs)) ∧ Below w.heap.size w w' := by
  by_cases h6 : 60 < rs.length
  · have l1 : (60 : Int) < (rs.length : Int) := by omega
    have e0 : dcsB rs = false := by unfold dcsB; rw [decide_eq_false (by omega)]; rfl
    rw [e0]
    clear hr hp
    go_enter Try.func46, Try.ntmps46
    go_wp2
    go_ret
    exact ⟨rfl, Below.refl _ _⟩
  have l1 : ¬ (60 : Int) < (rs.length : Int) := by omega
  have HA : Hid (dcsB rs = (diffB (rs.map (·.ar)) && rs.all dcB)) := by show _ = _; unfold dcsB; rw [decide_eq_true (by omega)]; rfl
  have HNa := dcNames1_any a cap rs hl w hr
  have HD : Hid (∀ g cp W, rs.length ≤ cp → ReadsS W.heap.size W (some ⟨g, 0, none⟩) (rs.map (·.ar)) → Calls Try.prog 87 #[.slice (some ⟨g, 0, none⟩) rs.length cp] W fun e w' => e = .returned (.bool (diffB (rs.map (·.ar)))) ∧ Below W.heap.size W w') := fun g cp W hc h => by
    have := diff_any (some ⟨g, 0, none⟩) cp (rs.map (·.ar)) (by rw [List.length_map]; exact hl) (by rw [List.length_map]; exact hc) (fun s hs => by obtain ⟨r, hr', rfl⟩ := List.mem_map.mp hs; exact hp r hr') W h
    rwa [List.length_map] at this
  have HC : Hid (∀ W, Below w.heap.size w W → Calls Try.prog 88 #[.slice a rs.length cap, .func (.func 89) #[] #[]] W fun e w' => e = .returned (.bool (!rs.all dcB)) ∧ Below W.heap.size W w') := fun W b => dcContains_any a cap rs hl W ((hr.below b).mono b.size)
  clear hr hp
  generalize dcsB rs = sb at *
  generalize rs.all dcB = b2 at *
  go_enter Try.func46, Try.ntmps46
  go_wp2_with fail
  (first | go_at_call 85 | skip)
  refine HNa.mono ?_
  rintro e w1 ⟨g, cp, rfl, hcp, hS, hb1⟩
  have HB1 : Hid (Below w.heap.size w w1) := hb1
  have HD1 : Hid (Calls Try.prog 87 #[.slice (some ⟨g, 0, none⟩) rs.length cp] w1 fun e w' => e = .returned (.bool (diffB (rs.map (·.ar)))) ∧ Below w1.heap.size w1 w') := HD.out g cp w1 hcp hS
  clear hb1 hS HD HNa
  generalize diffB (rs.map (·.ar)) = b1 at *
  cases b1
  · go_wp2_with (go_at_call 87; refine HD1.out.mono ?_; rintro e w2 ⟨rfl, hb2⟩)
    go_ret
    exact ⟨ret_bool (by rw [HA.out]; rfl), chain HB1.out hb2⟩
  · go_wp2_with fail
    (first | go_at_call 87 | skip)
    refine HD1.out.mono ?_
    rintro e w2 ⟨rfl, hb2⟩
    have HB2 : Hid (Below w.heap.size w w2) := chain HB1.out hb2
    clear hb2
    go_wp2_with (go_at_call 88; refine (HC.out _ HB2.out).mono ?_; rintro e w3 ⟨rfl, hb3⟩)
    go_ret
    exact ⟨ret_bool (by rw [HA.out]; simp), chain HB2.out hb3⟩
end Go.Proofs.Ytfiajiodehhmhaa

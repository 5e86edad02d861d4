/-
  Contracts of the program's Segment.right, segmentsOK, escapedBehind, writtenBehind and SegmentsText, for every list of segments.
-/
import Derived.Test.YtjnlghngneonhaaSbB
namespace Go.Proofs.Ytjnlghngneonhaa
open Go.ChangeShapes Go.WideShapes Go.ChangeAt Go.RowKit Go.Joins Go.Deep
set_option linter.unusedVariables false

section
variable {P : Program}
theorem wpList_push8 {ops : Array Oper} {rest : List Oper} {o : Oper} {a : Act} {Q : Exit → Act → World → Prop} (hgd : o.guard = none) (s x : Operand)
    (ho : o.op = .call { callee := .builtin .append, args := #[s, x], argTypes := #[22, 22] }) (w0 : World) (B : Nat) (v : Value) (L : List Int) (wr : World) (c : Int) (h : One8 w0 B v L wr) (hL : L.length ≤ 10000000) (hs : a.eval s = v) (hx : a.eval x = .slice (some ⟨wr.heap.size, 0, none⟩) 1 1)
    (K : ∀ g cp w', One8 w0 B (.slice (some ⟨g, 0, none⟩) (L.length + 1) cp) (L ++ [c]) w' → wpList Try.prog ops Q rest (a.put o.dst (.slice (some ⟨g, 0, none⟩) (L.length + 1) cp)) w') : wpList Try.prog ops Q (o :: rest) a (wr.alloc (Obj.cells #[.int .u8 c] 5)) := by
  obtain ⟨i0, hi, hzz⟩ := Option.map_eq_some_iff.1 u8Info
  simp only [Prod.mk.injEq] at hzz
  obtain ⟨hi0, hi1, hi2⟩ := hzz
  have h5 := h.alloc (Obj.cells #[.int .u8 c] 5)
  refine wpList_append_lies _ hgd s x 22 ho B 5 i0 (.int .u8 0) 1 1 Try.underlying22 hi hi0 hi1 hi2 rfl (by decide) v L.length _ hs h5.1 ⟨wr.heap.size, 0, none⟩ 1 1 [.int .u8 c] hx rfl (newsOne wr (.int .u8 c) 5) (by intro u hu; simp at hu; rcases hu with rfl; rfl) (by omega) (by unfold maxLen; omega) (by omega) h5.2.1 _ rfl ?_
  intro g cp w' h1 h2 _ _
  exact K g cp w' (h5.push h1 h2)
theorem wpList_pushS {ops : Array Oper} {rest : List Oper} {o : Oper} {a : Act} {Q : Exit → Act → World → Prop} (hgd : o.guard = none) (sl x : Operand)
    (ho : o.op = .call { callee := .builtin .append, args := #[sl, x], argTypes := #[22, 9] }) (w0 : World) (B : Nat) (v : Value) (L : List Int) (wr : World) (s : ByteArray) (h : One8 w0 B v L wr) (hL : L.length ≤ 10000000) (hsz : s.size ≤ 10000000) (hs : a.eval sl = v) (hx : a.eval x = .string s)
    (K : ∀ v' w', One8 w0 B v' (L ++ byL s) w' → wr.grownBy w' v.ownBlock → wpList Try.prog ops Q rest (a.put o.dst v') w') : wpList Try.prog ops Q (o :: rest) a wr := by
  obtain ⟨i0, hi, hzz⟩ := Option.map_eq_some_iff.1 u8Info
  simp only [Prod.mk.injEq] at hzz
  obtain ⟨hi0, hi1, hi2⟩ := hzz
  refine Lib.wpList_append_own_string _ hgd sl x 22 9 ho B 5 i0 Try.underlying22 Try.underlying9 hi hi0 hi1 hi2 v L.length _ hs h.1 s hx (by unfold maxLen; omega) (by omega) h.2.1 ?_
  intro v' w' h1 h2 _
  exact K v' w' (h.pushS h1 h2) h2
end
theorem prs_take (ss : List ByteArray) (k : Nat) (h : k < ss.length) : prsB (ss.take (k + 1)) = (prsB (ss.take k) && decide ((ss.getD k ByteArray.empty).size ≤ 80)) := by
  unfold prsB
  rw [List.take_succ_eq_append_getElem h, List.all_append]
  have e : ss.getD k ByteArray.empty = ss[k] := by simp [List.getD_eq_getElem?_getD, h]
  rw [e]; simp
theorem prs_fail {ss : List ByteArray} {k : Nat} (h : k < ss.length) (hp : ¬ (ss.getD k ByteArray.empty).size ≤ 80) : prsB ss = false := by
  have e : ss.getD k ByteArray.empty = ss[k] := by simp [List.getD_eq_getElem?_getD, h]
  rw [e] at hp
  unfold prsB
  rw [List.all_eq_false]
  exact ⟨ss[k], List.getElem_mem _, by simpa using hp⟩
theorem prs_at {ss : List ByteArray} (h : prsB ss = true) {k : Nat} (hk : k < ss.length) : (ss.getD k ByteArray.empty).size ≤ 80 := by
  unfold prsB at h
  rw [List.all_eq_true] at h
  have := getS (p := fun s => decide (s.size ≤ 80) = true) h hk
  simpa using this
theorem sgb_take (r : List CSg) (k : Nat) (h : k < r.length) : (r.take (k + 1)).all sgB = ((r.take k).all sgB && sgB (r.getD k zSg)) := by
  rw [List.take_succ_eq_append_getElem h, List.all_append]
  have e : r.getD k zSg = r[k] := by simp [List.getD_eq_getElem?_getD, h]
  rw [e]; simp
theorem sgb_fail {r : List CSg} {k : Nat} (h : k < r.length) (hp : sgB (r.getD k zSg) = false) : r.all sgB = false := by
  have e : r.getD k zSg = r[k] := by simp [List.getD_eq_getElem?_getD, h]
  rw [e] at hp
  rw [List.all_eq_false]
  exact ⟨r[k], List.getElem_mem _, by simp [hp]⟩
theorem sgb_at {rs : List CSg} (h : rs.all sgB = true) {k : Nat} (hk : k < rs.length) : sgB (rs.getD k zSg) = true := by
  rw [List.all_eq_true] at h
  exact getSg h hk
theorem sg_facts {c : CSg} (h : sgB c = true) : c.ps.length ≤ 20 ∧ c.nm.size = 3 ∧ prsB c.ps = true := by
  unfold sgB at h
  simp only [Bool.and_eq_true, decide_eq_true_eq] at h
  obtain ⟨h1, h2, h3⟩ := h
  refine ⟨h1, ?_, h3⟩
  unfold tagB at h2
  simp only [Bool.and_eq_true, decide_eq_true_eq] at h2
  exact h2.1
theorem long_any (s : ByteArray) (hs : s.size ≤ 100000000) (w : World) :
    Calls Try.prog 52 #[.string s] w fun e w' => e = .returned (.bool (!decide (s.size ≤ 80))) ∧ w = w' := by
  by_cases h : s.size ≤ 80
  · have l1 : ¬ (80 : Int) < (s.size : Int) := by omega
    rw [decide_eq_true h]
    go_enter Try.func52, Try.ntmps52
    go_wp2
    go_ret
    exact ⟨ret_bool (by simp), rfl⟩
  · have l1 : (80 : Int) < (s.size : Int) := by omega
    rw [decide_eq_false h]
    go_enter Try.func52, Try.ntmps52
    go_wp2
    go_ret
    exact ⟨ret_bool (by simp), rfl⟩
set_option maxHeartbeats 2000000 in
theorem prIndex_any (a : Option Addr) (cap : Nat) (ss : List ByteArray) (hl : ss.length ≤ 100000000) (hp : ∀ s ∈ ss, s.size ≤ 2000000) (w : World) (hr : ReadsS w.heap.size w a ss) :
    Calls Try.prog 55 #[.slice a ss.length cap, .func (.func 52) #[] #[]] w fun e w' => (∃ x : Int, e = .returned (.int .i64 x) ∧ decide (0 ≤ x) = !prsB ss) ∧ Below w.heap.size w w' := by
  have HR : Hid (ReadsS w.heap.size w a ss) := hr
  have HP : Hid (∀ s ∈ ss, s.size ≤ 2000000) := hp
  clear hr hp
  go_enter Try.func55, Try.ntmps55
  go_wp2
  go_loopw [5, 8] (fun _ c wr => ∃ k : Nat, k ≤ ss.length ∧ c = .int .i64 (k : Int) ∧ prsB (ss.take k) = true ∧ Below w.heap.size w wr) (fun _ c _ => ss.length - (intOf c).toNat)
  case atStart => exact ⟨0, Nat.zero_le _, rfl, rfl, Below.refl _ _⟩
  case round =>
    obtain ⟨k, hk, rfl, hf, hb⟩ := hrel
    have HF : Hid (prsB (ss.take k) = true) := hf
    have HB : Hid (Below w.heap.size w wr) := hb
    clear hf hb
    by_cases hlt : k < ss.length
    · have hlt' : (k : Int) < (ss.length : Int) := by omega
      rcases HR.out with h | ⟨b0, o0, ha, hB0, ia⟩
      · rw [h] at hlt; simp at hlt
      have c0 := (ia.below HB.out hB0) k hlt
      have HX : Hid (¬ (ss.getD k ByteArray.empty).size ≤ 80 → prsB ss = false) := fun h => prs_fail hlt h
      have HN : Hid (prsB (ss.take (k + 1)) = (prsB (ss.take k) && decide ((ss.getD k ByteArray.empty).size ≤ 80))) := prs_take ss k hlt
      have hq := getS HP.out hlt
      have hm : Hid (∀ W, Calls Try.prog 52 #[.string (ss.getD k ByteArray.empty)] W fun e' w' => e' = .returned (.bool (!decide ((ss.getD k ByteArray.empty).size ≤ 80))) ∧ W = w') := fun W => long_any _ (by omega) W
      rw [ha]
      clear ia hq
      have HX2 : Hid (decide ((ss.getD k ByteArray.empty).size ≤ 80) = false → prsB ss = false) := fun h => HX.out (by simpa using h)
      clear HX
      generalize decide ((ss.getD k ByteArray.empty).size ≤ 80) = mb at *
      generalize ss.getD k ByteArray.empty = p at *
      cases mb
      · go_wp2_with (go_at_call 52; refine (hm.out _).mono ?_; rintro e w2 ⟨rfl, rfl⟩)
        go_ret
        exact ⟨⟨(k : Int), rfl, by rw [HX2.out (by trivial)]; exact decide_eq_true (by omega)⟩, HB.out⟩
      · go_wp2_with (go_at_call 52; refine (hm.out _).mono ?_; rintro e w2 ⟨rfl, rfl⟩)
        exact ⟨⟨k + 1, by omega, by go_num, by rw [HN.out, HF.out]; rfl, HB.out⟩, by simp [intOf]; omega⟩
    · have hle : (ss.length : Int) ≤ (k : Int) := by omega
      have HE : Hid (prsB ss = true) := by have := HF.out; rwa [List.take_of_length_le (by omega)] at this
      go_wp2
      go_ret
      exact ⟨⟨-1, rfl, by rw [HE.out]; rfl⟩, HB.out⟩
theorem prContains_any (a : Option Addr) (cap : Nat) (ss : List ByteArray) (hl : ss.length ≤ 100000000) (hp : ∀ s ∈ ss, s.size ≤ 2000000) (w : World) (hr : ReadsS w.heap.size w a ss) :
    Calls Try.prog 51 #[.slice a ss.length cap, .func (.func 52) #[] #[]] w fun e w' => e = .returned (.bool (!prsB ss)) ∧ Below w.heap.size w w' := by
  have hi := prIndex_any a cap ss hl hp w hr
  clear hr hp
  go_enter Try.func51, Try.ntmps51
  go_wp2_with (go_at_call 55; refine hi.mono ?_; rintro e w2 ⟨⟨x, rfl, hx⟩, hb2⟩; have HX : Hid (decide (0 ≤ x) = !prsB ss) := hx; clear hx)
  go_ret
  exact ⟨ret_bool HX.out, hb2⟩
set_option maxHeartbeats 1000000 in
theorem sgRight_any (c : CSg) (h : Option Addr) (cp : Nat) (hok : SgOK c) (w : World) (hr : ReadsS w.heap.size w h c.ps) :
    Calls Try.prog 36 #[.agg #[.string c.nm, .slice h c.ps.length cp]] w fun e w' => e = .returned (.bool (sgB c)) ∧ Below w.heap.size w w' := by
  obtain ⟨k1, k2, k3⟩ := hok
  have HC : Hid (∀ W, Below w.heap.size w W → Calls Try.prog 51 #[.slice h c.ps.length cp, .func (.func 52) #[] #[]] W fun e w' => e = .returned (.bool (!prsB c.ps)) ∧ Below W.heap.size W w') := fun W b => prContains_any h cp c.ps (by omega) k3 W (hr.later b)
  have HT : Hid (∀ W, Calls Try.prog 50 #[.string c.nm] W fun e w' => e = .returned (.bool (tagB c.nm)) ∧ W = w') := fun W => tagOK_any c.nm (by omega) W
  have HE : Hid (sgB c = (decide (c.ps.length ≤ 20) && (tagB c.nm && prsB c.ps))) := rfl
  clear hr k3
  obtain ⟨nm, ps⟩ := c
  dsimp only at *
  generalize sgB ⟨nm, ps⟩ = sb at *
  generalize tagB nm = b1 at *
  generalize prsB ps = b2 at *
  generalize ps.length = n at *
  by_cases h20 : n ≤ 20
  · have l1 : ¬ (20 : Int) < (n : Int) := by omega
    rw [decide_eq_true h20] at HE
    cases b1
    · go_enter Try.func36, Try.ntmps36
      go_wp2_with (go_at_call 50; refine (HT.out _).mono ?_; rintro e w2 ⟨rfl, rfl⟩)
      go_ret
      exact ⟨ret_bool HE.out.symm, below_alloc _ _⟩
    · go_enter Try.func36, Try.ntmps36
      go_wp2_with (first | (go_at_call 50; refine (HT.out _).mono ?_; rintro e w2 ⟨rfl, rfl⟩) | (go_at_call 51; refine (HC.out _ (below_alloc _ _)).mono ?_; rintro e w2 ⟨rfl, hb2⟩))
      go_ret
      exact ⟨ret_bool (by rw [HE.out]; simp), chain (below_alloc _ _) hb2⟩
  · have l1 : (20 : Int) < (n : Int) := by omega
    rw [decide_eq_false h20] at HE
    go_enter Try.func36, Try.ntmps36
    go_wp2
    go_ret
    exact ⟨ret_bool HE.out.symm, below_alloc _ _⟩
theorem sgNot_any (c : CSg) (h : Option Addr) (cp : Nat) (hok : SgOK c) (w : World) (hr : ReadsS w.heap.size w h c.ps) :
    Calls Try.prog 35 #[.agg #[.string c.nm, .slice h c.ps.length cp]] w fun e w' => e = .returned (.bool (!sgB c)) ∧ Below w.heap.size w w' := by
  have HC : Hid (∀ W, Below w.heap.size w W → Calls Try.prog 36 #[.agg #[.string c.nm, .slice h c.ps.length cp]] W fun e w' => e = .returned (.bool (sgB c)) ∧ Below W.heap.size W w') := fun W b => sgRight_any c h cp hok W (hr.later b)
  clear hr hok
  generalize sgB c = b1 at *
  obtain ⟨nm, ps⟩ := c
  dsimp only at *
  generalize ps.length = n at *
  go_enter Try.func35, Try.ntmps35
  go_wp2_with (go_at_call 36; refine (HC.out _ (below_alloc _ _)).mono ?_; rintro e w2 ⟨rfl, hb2⟩)
  go_ret
  exact ⟨rfl, chain (below_alloc _ _) hb2⟩
set_option maxHeartbeats 2000000 in
theorem sgIndex_any (a : Option Addr) (cap : Nat) (rs : List CSg) (hl : rs.length ≤ 100000000) (hp : ∀ r ∈ rs, SgOK r) (w : World) (hr : ReadsSg w.heap.size w a rs) :
    Calls Try.prog 49 #[.slice a rs.length cap, .func (.func 35) #[] #[]] w fun e w' => (∃ x : Int, e = .returned (.int .i64 x) ∧ decide (0 ≤ x) = !rs.all sgB) ∧ Below w.heap.size w w' := by
  have HR : Hid (ReadsSg w.heap.size w a rs) := hr
  have HOK : Hid (∀ r ∈ rs, SgOK r) := hp
  clear hr hp
  go_enter Try.func49, Try.ntmps49
  go_wp2
  go_loopw [5, 8] (fun _ c wr => ∃ k : Nat, k ≤ rs.length ∧ c = .int .i64 (k : Int) ∧ (rs.take k).all sgB = true ∧ Below w.heap.size w wr) (fun _ c _ => rs.length - (intOf c).toNat)
  case atStart => exact ⟨0, Nat.zero_le _, rfl, rfl, Below.refl _ _⟩
  case round =>
    obtain ⟨k, hk, rfl, hf, hb⟩ := hrel
    have HF : Hid ((rs.take k).all sgB = true) := hf
    have HB : Hid (Below w.heap.size w wr) := hb
    clear hf hb
    by_cases hlt : k < rs.length
    · have hlt' : (k : Int) < (rs.length : Int) := by omega
      rcases HR.out with h | ⟨b0, o0, ha, hB0, ia⟩
      · rw [h] at hlt; simp at hlt
      obtain ⟨h, cp, ⟨c0, c1⟩, hcp, hS⟩ := (ia.below HB.out hB0 (Nat.le_refl _)) k hlt
      have HX : Hid (sgB (rs.getD k zSg) = false → rs.all sgB = false) := fun h => sgb_fail hlt h
      have HN : Hid ((rs.take (k + 1)).all sgB = ((rs.take k).all sgB && sgB (rs.getD k zSg))) := sgb_take rs k hlt
      have hm := sgNot_any (rs.getD k zSg) h cp (getSg HOK.out hlt) wr (hS.mono HB.out.size)
      rw [ha]
      clear ia hS hcp
      generalize rs.getD k zSg = q at *
      generalize sgB q = mb at *
      obtain ⟨nm, ps⟩ := q
      dsimp only at c0 c1 hm
      generalize ps.length = n at *
      cases mb
      · go_wp2_with (go_at_call 35; refine hm.mono ?_; rintro e w2 ⟨rfl, hb2⟩)
        go_ret
        exact ⟨⟨(k : Int), rfl, by rw [HX.out trivial]; exact decide_eq_true (by omega)⟩, chain HB.out hb2⟩
      · go_wp2_with (go_at_call 35; refine hm.mono ?_; rintro e w2 ⟨rfl, hb2⟩)
        exact ⟨⟨k + 1, by omega, by go_num, by rw [HN.out, HF.out]; rfl, chain HB.out hb2⟩, by simp [intOf]; omega⟩
    · have hle : (rs.length : Int) ≤ (k : Int) := by omega
      have HE : Hid (rs.all sgB = true) := by have := HF.out; rwa [List.take_of_length_le (by omega)] at this
      go_wp2
      go_ret
      exact ⟨⟨-1, rfl, by rw [HE.out]; rfl⟩, HB.out⟩
theorem sgContains_any (a : Option Addr) (cap : Nat) (rs : List CSg) (hl : rs.length ≤ 100000000) (hp : ∀ r ∈ rs, SgOK r) (w : World) (hr : ReadsSg w.heap.size w a rs) :
    Calls Try.prog 34 #[.slice a rs.length cap, .func (.func 35) #[] #[]] w fun e w' => e = .returned (.bool (!rs.all sgB)) ∧ Below w.heap.size w w' := by
  have hi := sgIndex_any a cap rs hl hp w hr
  clear hr hp
  go_enter Try.func34, Try.ntmps34
  go_wp2_with (go_at_call 49; refine hi.mono ?_; rintro e w2 ⟨⟨x, rfl, hx⟩, hb2⟩; have HX : Hid (decide (0 ≤ x) = !rs.all sgB) := hx; clear hx)
  go_ret
  exact ⟨ret_bool HX.out, hb2⟩
theorem segmentsOK_any (a : Option Addr) (cap : Nat) (rs : List CSg) (hl : rs.length ≤ 100000000) (hp : ∀ r ∈ rs, SgOK r) (w : World) (hr : ReadsSg w.heap.size w a rs) :
    Calls Try.prog 19 #[.slice a rs.length cap] w fun e w' => e = .returned (.bool (sgsB rs)) ∧ Below w.heap.size w w' := by
  have hi := sgContains_any a cap rs hl hp w hr
  clear hr hp
  have HE : Hid (sgsB rs = (decide (rs.length ≤ 200) && rs.all sgB)) := rfl
  generalize sgsB rs = sb at *
  generalize rs.all sgB = b1 at *
  by_cases h2 : rs.length ≤ 200
  · have l1 : (rs.length : Int) ≤ 200 := by omega
    rw [decide_eq_true h2] at HE
    go_enter Try.func19, Try.ntmps19
    go_wp2_with (go_at_call 34; refine hi.mono ?_; rintro e w2 ⟨rfl, hb2⟩)
    go_ret
    exact ⟨ret_bool (by rw [HE.out]; simp), hb2⟩
  · have l1 : ¬ (rs.length : Int) ≤ 200 := by omega
    rw [decide_eq_false h2] at HE
    clear hi
    go_enter Try.func19, Try.ntmps19
    go_wp2
    go_ret
    exact ⟨ret_bool (by rw [HE.out]; simp), Below.refl _ _⟩
def Ret8 (w0 : World) (B : Nat) (L : List Int) (e : Ending) (w' : World) : Prop := ∃ v, e = .returned v ∧ One8 w0 B v L w'
set_option maxHeartbeats 4000000 in
set_option maxRecDepth 8000 in
theorem escaped_any (w0 : World) (B : Nat) (v : Value) (L : List Int) (hL : L.length ≤ 5000000) (s : ByteArray) (hs : s.size ≤ 1000000) (w : World) (h : One8 w0 B v L w) :
    Calls Try.prog 37 #[v, .string s] w (Ret8 w0 B (L ++ escL (byL s))) := by
  have HO : Hid (One8 w0 B v L w) := h
  clear h
  go_enter Try.func37, Try.ntmps37
  go_wp2
  go_loopw [0, 5, 8] (fun u _ c wr => ∃ k : Nat, k ≤ s.size ∧ c = .int .i64 (k : Int) ∧ One8 w0 B u (L ++ escL ((byL s).take k)) wr) (fun _ _ c _ => s.size - (intOf c).toNat)
  case atStart => exact ⟨0, Nat.zero_le _, rfl, by simpa [escL] using HO.out⟩
  case round =>
    clear HO
    obtain ⟨k, hk, rfl, hO⟩ := hrel
    have HO : Hid (One8 w0 B u0 (L ++ escL ((byL s).take k)) wr) := hO
    clear hO
    by_cases hlt : k < s.size
    · have hlt' : (k : Int) < (s.size : Int) := by omega
      have hidx : ∀ w, (Instr.index 9 (.string s) (.int .i64 (k : Int))).run Try.prog w = .ok (.int .u8 ((byL s).getD k 0)) w := fun w => idx_any s k hlt w
      obtain ⟨c0, c1⟩ := byL_range s k
      have HM : Hid (∀ W, Calls Try.prog 43 #[.int .i64 ((byL s).getD k 0)] W fun e w' => e = .returned (.bool (mkB ((byL s).getD k 0))) ∧ W = w') := fun W => isMark_any _ c0 c1 W
      have HN : Hid ((L ++ escL ((byL s).take k)) ++ escC ((byL s).getD k 0) = L ++ escL ((byL s).take (k + 1))) := by
        show _ = _
        rw [escL_take (byL s) k (by rw [byL_len]; exact hlt), List.append_assoc]
      have hbd : (L ++ escL ((byL s).take k)).length ≤ 9000000 := by
        have h1 := escL_len ((byL s).take k)
        rw [List.length_take] at h1
        rw [List.length_append]
        omega
      unfold escC at HN
      generalize (byL s).getD k 0 = c at *
      generalize mkB c = b at *
      generalize (L ++ escL ((byL s).take k)) = M at *
      cases b
      · go_wp2_with (first | (go_at_call 43; refine (HM.out _).mono ?_; rintro e w2 ⟨rfl, rfl⟩) | (at_builtin; refine wpList_push8 (by rfl) _ _ (by rfl) w0 B _ M _ _ HO.out (by omega) (by rfl) (by rfl) ?_; intro g7 cp7 w7 h7; have HO7 : Hid (One8 w0 B (.slice (some ⟨g7, 0, none⟩) (M.length + 1) cp7) (M ++ [c]) w7) := h7; clear h7))
        have HO8 : Hid (One8 w0 B (.slice (some ⟨g7, 0, none⟩) (M.length + 1) cp7) (L ++ escL ((byL s).take (k + 1))) w7) := by have := HN.out; rw [if_neg (by simp)] at this; show One8 _ _ _ _ _; rw [← this]; exact HO7.out
        go_roundw
        case rel => exact ⟨k + 1, by omega, by go_num, HO8.out⟩
        case measure => simp [intOf]; omega
      · go_wp2_with (first | (go_at_call 43; refine (HM.out _).mono ?_; rintro e w2 ⟨rfl, rfl⟩) | (at_builtin; refine wpList_push8 (by rfl) _ _ (by rfl) w0 B _ (M ++ [63]) _ _ HO7.out (by simp; omega) (by rfl) (by rfl) ?_; intro g8 cp8 w8 h8; have HO8 : Hid (One8 w0 B (.slice (some ⟨g8, 0, none⟩) ((M ++ [63]).length + 1) cp8) ((M ++ [63]) ++ [c]) w8) := h8; clear h8) | (at_builtin; refine wpList_push8 (by rfl) _ _ (by rfl) w0 B _ M _ _ HO.out (by omega) (by rfl) (by rfl) ?_; intro g7 cp7 w7 h7; have HO7 : Hid (One8 w0 B (.slice (some ⟨g7, 0, none⟩) (M.length + 1) cp7) (M ++ [63]) w7) := h7; clear h7))
        have HO9 : Hid (One8 w0 B (.slice (some ⟨g8, 0, none⟩) (M.length + 1 + 1) cp8) (L ++ escL ((byL s).take (k + 1))) w8) := by have := HN.out; rw [if_pos trivial] at this; show One8 _ _ _ _ _; rw [← this]; simpa using HO8.out
        go_roundw
        case rel => exact ⟨k + 1, by omega, by go_num, HO9.out⟩
        case measure => simp [intOf]; omega
    · have hle : ¬ (k : Int) < (s.size : Int) := by omega
      obtain rfl : k = s.size := by omega
      have HE : Hid (One8 w0 B u0 (L ++ escL (byL s)) wr) := by have := HO.out; rwa [List.take_of_length_le (by rw [byL_len]; exact Nat.le_refl _)] at this
      go_wp2
      go_ret
      exact ⟨_, rfl, HE.out⟩
theorem psL_len (ss : List ByteArray) (h : prsB ss = true) : (psL ss).length ≤ 161 * ss.length := by
  induction ss with
  | nil => simp [psL]
  | cons s ss ih =>
    unfold prsB at h
    simp only [List.all_cons, Bool.and_eq_true, decide_eq_true_eq] at h
    have h1 := ih h.2
    have h2 := escL_len (byL s)
    rw [byL_len] at h2
    unfold psL at h1 ⊢
    simp only [List.map_cons, List.flatten_cons, List.length_append, List.length_cons, partL]; omega
theorem prs_takeT {ss : List ByteArray} (h : prsB ss = true) (k : Nat) : prsB (ss.take k) = true := by
  unfold prsB at *
  rw [List.all_eq_true] at *
  intro s hs
  exact h s (List.mem_of_mem_take hs)
theorem sgL_len {c : CSg} (h : sgB c = true) : (sgL c).length ≤ 4000 := by
  obtain ⟨h1, h2, h3⟩ := sg_facts h
  have := psL_len c.ps h3
  unfold sgL
  simp only [List.length_append, byL_len, List.length_cons, List.length_nil]; omega
theorem sgsL_len {cs : List CSg} (h : cs.all sgB = true) : (sgsL cs).length ≤ 4000 * cs.length := by
  induction cs with
  | nil => simp [sgsL]
  | cons c cs ih =>
    simp only [List.all_cons, Bool.and_eq_true] at h
    have h1 := ih h.2
    have h2 := sgL_len h.1
    unfold sgsL at h1 ⊢
    simp only [List.map_cons, List.flatten_cons, List.length_append, List.length_cons]; omega
set_option maxHeartbeats 4000000 in
set_option maxRecDepth 8000 in
theorem written_any (w0 : World) (B : Nat) (v : Value) (L : List Int) (hL : L.length ≤ 1000000) (c : CSg) (h : Option Addr) (cp : Nat) (hc : sgB c = true) (w : World) (hO : One8 w0 B v L w) (hr : ReadsS B w0 h c.ps) :
    Calls Try.prog 20 #[.agg #[.string c.nm, .slice h c.ps.length cp], v] w (Ret8 w0 B (L ++ sgL c)) := by
  obtain ⟨k1, k2, k3⟩ := sg_facts hc
  have HO : Hid (One8 w0 B v L w) := hO
  have HR : Hid (ReadsS B w0 h c.ps) := hr
  have HG : Hid (sgL c = byL c.nm ++ psL c.ps ++ [39]) := rfl
  have HP : Hid (prsB c.ps = true) := k3
  clear hO hr hc k3
  obtain ⟨nm, ps⟩ := c
  dsimp only at *
  generalize sgL ⟨nm, ps⟩ = G at *
  have HOb : Hid (One8 w0 B v L (w.alloc (Obj.cells #[.string nm, .slice h ps.length cp] 43))) := HO.out.alloc _
  have HQ : Hid (∀ W, (w.alloc (Obj.cells #[.string nm, .slice h ps.length cp] 43)).grownBy W v.ownBlock → W.cell? ⟨w.heap.size, 1, none⟩ = some (.slice h ps.length cp)) := fun W hg => by
    refine hg.cell (by simp) (fun e => ?_)
    have := (HO.out.1.lt _ e.symm).2
    exact absurd this (by simp)
  clear HO
  go_enter Try.func20, Try.ntmps20
  go_wp2_with (at_builtin; refine wpList_pushS (by rfl) _ _ (by rfl) w0 B _ L _ nm HOb.out (by omega) (by omega) (by rfl) (by rfl) ?_; intro v2 w2 h2 hg2; have HO2 : Hid (One8 w0 B v2 (L ++ byL nm) w2) := h2; have q1 := HQ.out w2 hg2; clear h2 hg2)
  have hps : ps.length ≤ 20 := k1
  go_loopw [1, 6, 14] (fun u _ c wr => ∃ k : Nat, k ≤ ps.length ∧ c = .int .i64 (k : Int) ∧ One8 w0 B u (L ++ byL nm ++ psL (ps.take k)) wr) (fun _ _ c _ => ps.length - (intOf c).toNat)
  case atStart => exact ⟨0, Nat.zero_le _, rfl, by simpa [psL] using HO2.out⟩
  case round =>
    clear HO2 HOb
    obtain ⟨k, hk, rfl, hO⟩ := hrel
    have HO : Hid (One8 w0 B u1 (L ++ byL nm ++ psL (ps.take k)) wr) := hO
    have hbd : (L ++ byL nm ++ psL (ps.take k)).length ≤ 2000000 := by
      have h1 := psL_len (ps.take k) (prs_takeT HP.out k)
      rw [List.length_take] at h1
      rw [List.length_append, List.length_append, byL_len]
      omega
    clear hO
    by_cases hlt : k < ps.length
    · have hlt' : (k : Int) < (ps.length : Int) := by omega
      rcases HR.out with h | ⟨b0, o0, ha, hB0, ia⟩
      · rw [h] at hlt; simp at hlt
      have c0 := (ia.below HO.out.2.2 hB0) k hlt
      have hsz := prs_at HP.out hlt
      have HE : Hid (∀ u W, One8 w0 B u ((L ++ byL nm ++ psL (ps.take k)) ++ [43]) W → Calls Try.prog 37 #[u, .string (ps.getD k ByteArray.empty)] W (Ret8 w0 B (L ++ byL nm ++ psL (ps.take (k + 1))))) := fun u W hu => by
        have := escaped_any w0 B u _ (by rw [List.length_append]; simp only [List.length_cons, List.length_nil]; omega) (ps.getD k ByteArray.empty) (by omega) W hu
        rw [psL_take ps k hlt]
        simpa using this
      rw [ha]
      clear ia hsz
      generalize ps.getD k ByteArray.empty = s at *
      generalize (L ++ byL nm ++ psL (ps.take k)) = M at *
      go_wp2_with (at_builtin; refine wpList_push8 (by rfl) _ _ (by rfl) w0 B _ M _ _ HO.out (by omega) (by rfl) (by rfl) ?_; intro g7 cp7 w7 h7; have HO7 : Hid (One8 w0 B (.slice (some ⟨g7, 0, none⟩) (M.length + 1) cp7) (M ++ [43]) w7) := h7; clear h7)
      (first | go_at_call 37 | skip)
      refine (HE.out _ _ HO7.out).mono ?_
      rintro e w8 ⟨v8, rfl, h8⟩
      have HO8 : Hid (One8 w0 B v8 (L ++ byL nm ++ psL (ps.take (k + 1))) w8) := h8
      clear h8 HE HO7
      go_wp2_with fail
      go_roundw
      case rel => exact ⟨k + 1, by omega, by go_num, HO8.out⟩
      case measure => simp [intOf]; omega
    · have hle : ¬ (k : Int) < (ps.length : Int) := by omega
      obtain rfl : k = ps.length := by omega
      have HE : Hid ((L ++ byL nm ++ psL (ps.take ps.length)) ++ [39] = L ++ G) := by show _ = _; rw [HG.out, List.take_length]; simp
      generalize (L ++ byL nm ++ psL (ps.take ps.length)) = M at *
      go_wp2_with (at_builtin; refine wpList_push8 (by rfl) _ _ (by rfl) w0 B _ M _ _ HO.out (by omega) (by rfl) (by rfl) ?_; intro g7 cp7 w7 h7; have HO7 : Hid (One8 w0 B (.slice (some ⟨g7, 0, none⟩) (M.length + 1) cp7) (M ++ [39]) w7) := h7; clear h7)
      go_ret
      exact ⟨_, rfl, by have := HO7.out; rwa [HE.out] at this⟩
def sgC (cs : List CSg) : Int := if 4096 < cs.length then 2 else if sgsB cs = false then 1 else if 65536 < (sgsL cs).length then 11 else 0
def sgT (cs : List CSg) : ByteArray := if sgC cs = 0 then txL (sgsL cs) else ByteArray.empty
theorem sgt_ways (cs : List CSg) : (4096 < cs.length ∧ sgC cs = 2 ∧ sgT cs = ByteArray.empty) ∨ (cs.length ≤ 4096 ∧ sgsB cs = false ∧ sgC cs = 1 ∧ sgT cs = ByteArray.empty) ∨ (cs.length ≤ 200 ∧ sgsB cs = true ∧ cs.all sgB = true ∧ 65536 < (sgsL cs).length ∧ sgC cs = 11 ∧ sgT cs = ByteArray.empty) ∨ (cs.length ≤ 200 ∧ sgsB cs = true ∧ cs.all sgB = true ∧ (sgsL cs).length ≤ 65536 ∧ sgC cs = 0 ∧ sgT cs = txL (sgsL cs)) := by
  by_cases h1 : 4096 < cs.length
  · have e : sgC cs = 2 := by unfold sgC; rw [if_pos h1]
    exact .inl ⟨h1, e, by unfold sgT; rw [e]; rfl⟩
  cases h2 : sgsB cs
  · have e : sgC cs = 1 := by unfold sgC; rw [if_neg h1, if_pos h2]
    exact .inr (.inl ⟨by omega, rfl, e, by unfold sgT; rw [e]; rfl⟩)
  have h3 := h2
  unfold sgsB at h3
  simp only [Bool.and_eq_true, decide_eq_true_eq] at h3
  by_cases h4 : 65536 < (sgsL cs).length
  · have e : sgC cs = 11 := by unfold sgC; rw [if_neg h1, if_neg (by rw [h2]; simp), if_pos h4]
    exact .inr (.inr (.inl ⟨h3.1, rfl, h3.2, h4, e, by unfold sgT; rw [e]; rfl⟩))
  · have e : sgC cs = 0 := by unfold sgC; rw [if_neg h1, if_neg (by rw [h2]; simp), if_neg h4]
    exact .inr (.inr (.inr ⟨h3.1, rfl, h3.2, by omega, e, by unfold sgT; rw [if_pos e]⟩))
def AnsX (w : World) (t : ByteArray) (c : Int) (e : Ending) (w' : World) : Prop := e = .returned (.tuple #[.string t, .int .i64 c]) ∧ Below w.heap.size w w'
set_option maxHeartbeats 4000000 in
set_option maxRecDepth 8000 in
theorem implSegText_any (a : Option Addr) (cap : Nat) (cs : List CSg) (hl : cs.length ≤ 100000000) (hp : ∀ r ∈ cs, SgOK r) (w : World) (hr : ReadsSg w.heap.size w a cs) :
    Calls Try.prog 7 #[.slice a cs.length cap] w (AnsX w (sgT cs) (sgC cs)) := by
  have HR : Hid (ReadsSg w.heap.size w a cs) := hr
  have hOK := segmentsOK_any a cap cs hl hp w hr
  clear hr hp
  by_cases g1 : 4096 < cs.length
  · rcases sgt_ways cs with ⟨_, e1, e2⟩ | ⟨h, _⟩ | ⟨h, _⟩ | ⟨h, _⟩
    · rw [e1, e2]
      have l1 : (4096 : Int) < (cs.length : Int) := by omega
      clear hOK e1 e2
      go_enter Try.func7, Try.ntmps7
      go_wp2
      go_ret2
      exact ⟨rfl, Below.refl _ _⟩
    all_goals omega
  have l1 : ¬ (4096 : Int) < (cs.length : Int) := by omega
  cases g2 : sgsB cs
  · rcases sgt_ways cs with ⟨h, _⟩ | ⟨_, _, e1, e2⟩ | ⟨_, h, _⟩ | ⟨_, h, _⟩
    · omega
    · rw [e1, e2]
      rw [g2] at hOK
      clear e1 e2
      go_enter Try.func7, Try.ntmps7
      go_wp2_with (go_at_call 19; refine hOK.mono ?_; rintro e w2 ⟨rfl, hb2⟩)
      go_ret2
      exact ⟨rfl, hb2⟩
    · rw [g2] at h; cases h
    · rw [g2] at h; cases h
  rw [g2] at hOK
  have h3 := g2
  unfold sgsB at h3
  simp only [Bool.and_eq_true, decide_eq_true_eq] at h3
  obtain ⟨h200, hall⟩ := h3
  have HA : Hid (cs.all sgB = true) := hall
  clear hall
  go_enter Try.func7, Try.ntmps7
  go_wp2_with fail
  (first | go_at_call 19 | skip)
  refine hOK.mono ?_
  rintro e w2 ⟨rfl, hb2⟩
  have HB2 : Hid (Below w.heap.size w w2) := hb2
  have HR2 : Hid (ReadsSg w2.heap.size w2 a cs) := HR.out.later hb2
  have H0 : Hid (One8 w2 w2.heap.size (.slice none 0 0) [] w2) := One8.nil w2 _ rfl
  clear hb2 hOK HR
  go_wp2
  go_loopw [4, 6, 15] (fun u _ c wr => ∃ k : Nat, k ≤ cs.length ∧ c = .int .i64 (k : Int) ∧ One8 w2 w2.heap.size u (sgsL (cs.take k)) wr) (fun _ _ c _ => cs.length - (intOf c).toNat)
  case atStart => exact ⟨0, Nat.zero_le _, rfl, by simpa [sgsL] using H0.out⟩
  case round =>
    clear H0
    obtain ⟨k, hk, rfl, hO⟩ := hrel
    have HO : Hid (One8 w2 w2.heap.size u4 (sgsL (cs.take k)) wr) := hO
    clear hO
    by_cases hlt : k < cs.length
    · have hlt' : (k : Int) < (cs.length : Int) := by omega
      rcases HR2.out with h | ⟨b0, o0, ha, hB0, ia⟩
      · rw [h] at hlt; simp at hlt
      obtain ⟨h, cp, ⟨c0, c1⟩, _, _⟩ := (ia.below HO.out.2.2 hB0 (Nat.le_refl _)) k hlt
      obtain ⟨h', cp', ⟨_, d1⟩, _, hS⟩ := ia k hlt
      have hd : h' = h ∧ cp' = cp := by
        have := (HO.out.2.2.cell (p := ⟨b0, o0 + k * 2 + 1, none⟩) hB0).trans d1
        rw [c1] at this
        simp at this
        exact ⟨this.1.symm, this.2.symm⟩
      obtain ⟨rfl, rfl⟩ := hd
      have hbd : (sgsL (cs.take k)).length ≤ 900000 := by
        have h1 : (cs.take k).all sgB = true := by
          rw [List.all_eq_true]
          intro r hr
          exact (List.all_eq_true.mp HA.out) r (List.mem_of_mem_take hr)
        have h2 := sgsL_len h1
        rw [List.length_take] at h2
        omega
      have HN : Hid (sgsL (cs.take k) ++ sgL (cs.getD k zSg) = sgsL (cs.take (k + 1))) := (sgsL_take cs k hlt).symm
      have HW : Hid (∀ u W, One8 w2 w2.heap.size u (sgsL (cs.take k)) W → Calls Try.prog 20 #[.agg #[.string (cs.getD k zSg).nm, .slice h' (cs.getD k zSg).ps.length cp'], u] W (Ret8 w2 w2.heap.size (sgsL (cs.take k) ++ sgL (cs.getD k zSg)))) := fun u W hu => written_any w2 w2.heap.size u _ (by omega) (cs.getD k zSg) h' cp' (sgb_at HA.out hlt) W hu hS
      rw [ha]
      clear ia hS d1
      generalize cs.getD k zSg = r at *
      obtain ⟨nm, ps⟩ := r
      dsimp only at c0 c1 HN HW
      generalize ps.length = n at *
      generalize sgsL (cs.take k) = M at *
      go_wp2_with fail
      (first | go_at_call 20 | skip)
      refine (HW.out _ _ (HO.out.alloc _)).mono ?_
      rintro e w8 ⟨v8, rfl, h8⟩
      have HO8 : Hid (One8 w2 w2.heap.size v8 (sgsL (cs.take (k + 1))) w8) := by show One8 _ _ _ _ _; rw [← HN.out]; exact h8
      clear h8 HW
      go_wp2_with fail
      go_roundw
      case rel => exact ⟨k + 1, by omega, by go_num, HO8.out⟩
      case measure => simp [intOf]; omega
    · have hle : ¬ (k : Int) < (cs.length : Int) := by omega
      obtain rfl : k = cs.length := by omega
      have HE : Hid (One8 w2 w2.heap.size u4 (sgsL cs) wr) := by have := HO.out; rwa [List.take_length] at this
      obtain ⟨av, cv, hv⟩ := HE.out.form
      subst hv
      have hstr := str_of HE.out rfl
      have HB9 : Hid (Below w.heap.size w wr) := chain HB2.out HE.out.2.2
      rcases sgt_ways cs with ⟨h, _⟩ | ⟨_, h, _⟩ | ⟨_, _, _, h4, e1, e2⟩ | ⟨_, _, _, h4, e1, e2⟩
      · omega
      · rw [g2] at h; cases h
      · have HE9 : Hid (sgT cs = ByteArray.empty ∧ sgC cs = 11) := ⟨e2, e1⟩
        clear e1 e2 HE HO hstr
        generalize (sgsL cs).length = m at *
        have l5 : (65536 : Int) < (m : Int) := by omega
        go_wp2
        go_ret2
        exact ⟨by rw [HE9.out.1, HE9.out.2]; rfl, HB9.out⟩
      · have HE9 : Hid (sgT cs = txL (sgsL cs) ∧ sgC cs = 0) := ⟨e2, e1⟩
        clear e1 e2 HE HO
        generalize txL (sgsL cs) = tx at *
        generalize (sgsL cs).length = m at *
        have l5 : ¬ (65536 : Int) < (m : Int) := by omega
        go_wp2
        go_ret2
        exact ⟨by rw [HE9.out.1, HE9.out.2]; rfl, HB9.out⟩
end Go.Proofs.Ytjnlghngneonhaa

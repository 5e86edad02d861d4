/-
  Contracts of the program's saysRight, clauseOK, ClausesOK, for every rule and every list of rules.
-/
import Derived.Test.YtfofdeenpcbglaaRuB
import Derived.Test.YtfofdeenpcbglaaRowS
namespace Go.Proofs.Ytfofdeenpcbglaa
open Go.ChangeShapes Go.WideShapes Go.ChangeAt Go.RowKit
set_option linter.unusedVariables false

theorem tms_take (p : RTm → Bool) (rs : List RTm) (k : Nat) (h : k < rs.length) : (rs.take (k + 1)).all p = ((rs.take k).all p && p (rs.getD k zTm)) := by
  rw [List.take_succ_eq_append_getElem h, List.all_append]
  have e : rs.getD k zTm = rs[k] := by simp [List.getD_eq_getElem?_getD, h]
  rw [e]; simp
theorem tms_fail {p : RTm → Bool} {rs : List RTm} {k : Nat} (h : k < rs.length) (hp : p (rs.getD k zTm) = false) : rs.all p = false := by
  have e : rs.getD k zTm = rs[k] := by simp [List.getD_eq_getElem?_getD, h]
  rw [e] at hp
  rw [List.all_eq_false]
  exact ⟨rs[k], List.getElem_mem _, by simp [hp]⟩
theorem cls_take (p : CCl → Bool) (rs : List CCl) (k : Nat) (h : k < rs.length) : (rs.take (k + 1)).all p = ((rs.take k).all p && p (rs.getD k zCl)) := by
  rw [List.take_succ_eq_append_getElem h, List.all_append]
  have e : rs.getD k zCl = rs[k] := by simp [List.getD_eq_getElem?_getD, h]
  rw [e]; simp
theorem cls_fail {p : CCl → Bool} {rs : List CCl} {k : Nat} (h : k < rs.length) (hp : p (rs.getD k zCl) = false) : rs.all p = false := by
  have e : rs.getD k zCl = rs[k] := by simp [List.getD_eq_getElem?_getD, h]
  rw [e] at hp
  rw [List.all_eq_false]
  exact ⟨rs[k], List.getElem_mem _, by simp [hp]⟩

theorem termNot_any (t : RTm) (w : World) :
    Calls Try.prog 48 #[.agg #[.int .i64 t.fd, .int .i64 t.op, .int .i64 t.nu]] w fun e w' => e = .returned (.bool (!tmB t)) ∧ Below w.heap.size w w' := by
  have hT := fun W => termOK_any t W
  generalize tmB t = b at *
  obtain ⟨f, o, n⟩ := t
  dsimp only at *
  go_enter Try.func48, Try.ntmps48
  go_wp2_with (go_at_call 49; refine (hT _).mono ?_; rintro e w2 ⟨rfl, hb2⟩)
  go_ret
  exact ⟨rfl, chain (below_alloc _ _) hb2⟩
set_option maxHeartbeats 2000000 in
theorem tmIndex_any (a : Option Addr) (cap : Nat) (rs : List RTm) (hl : rs.length ≤ 100000000) (w : World) (hr : ReadsTm w.heap.size w a rs) :
    Calls Try.prog 57 #[.slice a rs.length cap, .func (.func 48) #[] #[]] w fun e w' => (∃ x : Int, e = .returned (.int .i64 x) ∧ decide (0 ≤ x) = !rs.all tmB) ∧ Below w.heap.size w w' := by
  have HR : Hid (ReadsTm w.heap.size w a rs) := hr
  clear hr
  go_enter Try.func57, Try.ntmps57
  go_wp2
  go_loopw [5, 8] (fun _ c wr => ∃ k : Nat, k ≤ rs.length ∧ c = .int .i64 (k : Int) ∧ (rs.take k).all tmB = true ∧ Below w.heap.size w wr) (fun _ c _ => rs.length - (intOf c).toNat)
  case atStart => exact ⟨0, Nat.zero_le _, rfl, rfl, Below.refl _ _⟩
  case round =>
    obtain ⟨k, hk, rfl, hf, hb⟩ := hrel
    have HF : Hid ((rs.take k).all tmB = true) := hf
    have HB : Hid (Below w.heap.size w wr) := hb
    clear hf hb
    by_cases hlt : k < rs.length
    · have hlt' : (k : Int) < (rs.length : Int) := by omega
      rcases HR.out with h | ⟨b0, o0, ha, hB0, ia⟩
      · rw [h] at hlt; simp at hlt
      obtain ⟨c0, c1, c2⟩ := (ia.below HB.out hB0) k hlt
      have HX : Hid (tmB (rs.getD k zTm) = false → rs.all tmB = false) := fun h => tms_fail hlt h
      have HN : Hid ((rs.take (k + 1)).all tmB = ((rs.take k).all tmB && tmB (rs.getD k zTm))) := tms_take tmB rs k hlt
      have hm := termNot_any (rs.getD k zTm) wr
      rw [ha]
      clear ia
      generalize rs.getD k zTm = q at *
      generalize tmB q = mb at *
      obtain ⟨f, o, n⟩ := q
      dsimp only at c0 c1 c2 hm
      cases mb
      · go_wp2_with (go_at_call 48; refine hm.mono ?_; rintro e w2 ⟨rfl, hb2⟩)
        go_ret
        exact ⟨⟨(k : Int), rfl, by rw [HX.out trivial]; exact decide_eq_true (by omega)⟩, chain HB.out hb2⟩
      · go_wp2_with (go_at_call 48; refine hm.mono ?_; rintro e w2 ⟨rfl, hb2⟩)
        exact ⟨⟨k + 1, by omega, by go_num, by rw [HN.out, HF.out]; rfl, chain HB.out hb2⟩, by simp [intOf]; omega⟩
    · have hle : (rs.length : Int) ≤ (k : Int) := by omega
      have HE : Hid (rs.all tmB = true) := by have := HF.out; rwa [List.take_of_length_le (by omega)] at this
      go_wp2
      go_ret
      exact ⟨⟨-1, rfl, by rw [HE.out]; rfl⟩, HB.out⟩
theorem tmContains_any (a : Option Addr) (cap : Nat) (rs : List RTm) (hl : rs.length ≤ 100000000) (w : World) (hr : ReadsTm w.heap.size w a rs) :
    Calls Try.prog 47 #[.slice a rs.length cap, .func (.func 48) #[] #[]] w fun e w' => e = .returned (.bool (!rs.all tmB)) ∧ Below w.heap.size w w' := by
  have hi := tmIndex_any a cap rs hl w hr
  clear hr
  go_enter Try.func47, Try.ntmps47
  go_wp2_with (go_at_call 57; refine hi.mono ?_; rintro e w2 ⟨⟨x, rfl, hx⟩, hb2⟩; have HX : Hid (decide (0 ≤ x) = !rs.all tmB) := hx; clear hx)
  go_ret
  exact ⟨ret_bool HX.out, hb2⟩

set_option maxHeartbeats 2000000 in
theorem says_any (c : CCl) (h : Option Addr) (cp : Nat) (hn : c.ts.length ≤ 100000000) (w : World) (hr : ReadsTm w.heap.size w h c.ts) :
    Calls Try.prog 26 #[.agg #[.string c.nm, .slice h c.ts.length cp, .int .i64 c.ac, .int .i64 c.nu]] w fun e w' => e = .returned (.bool (sayB c)) ∧ Below w.heap.size w w' := by
  have HC : Hid (∀ W, Below w.heap.size w W → Calls Try.prog 47 #[.slice h c.ts.length cp, .func (.func 48) #[] #[]] W fun e w' => e = .returned (.bool (!c.ts.all tmB)) ∧ Below W.heap.size W w') := fun W hb => tmContains_any h cp c.ts hn W (hr.later hb)
  have hA := fun W => actOK_any c.ac c.nu W
  have HE : Hid (sayB c = (actB c.ac c.nu && c.ts.all tmB)) := rfl
  clear hr
  generalize sayB c = r at *
  obtain ⟨nm, ts, ac, nu⟩ := c
  dsimp only at *
  generalize actB ac nu = ab at *
  generalize ts.all tmB = tb at *
  generalize ts.length = n at *
  cases ab
  · go_enter Try.func26, Try.ntmps26
    go_wp2_with (go_at_call 46; refine (hA _).mono ?_; rintro e w2 ⟨rfl, hb2⟩)
    go_ret
    exact ⟨ret_bool (by rw [HE.out]; rfl), chain (below_alloc _ _) hb2⟩
  · go_enter Try.func26, Try.ntmps26
    go_wp2_with fail
    (first | go_at_call 46 | skip)
    refine (hA _).mono ?_
    rintro e w2 ⟨rfl, hb2⟩
    have q1 : w2.cell? ⟨w.heap.size, 1, none⟩ = some (.slice h n cp) := (hb2.cell (p := ⟨w.heap.size, 1, none⟩) (by simp only [World.size_alloc]; omega)).trans (cellNew _ _ _ _ rfl rfl)
    have HB2 : Hid (Below w.heap.size w w2) := chain (below_alloc _ _) hb2
    clear hb2 hA
    go_wp2_with (go_at_call 47; refine (HC.out _ HB2.out).mono ?_; rintro e w3 ⟨rfl, hb3⟩)
    go_ret
    exact ⟨ret_bool (by rw [HE.out]; cases tb <;> rfl), chain HB2.out hb3⟩

theorem one_ways (n : Nat) (d t o : Bool) (h : o = (decide (n ≤ 8) && d && t)) : (8 < (n : Int) ∧ o = false) ∨ ((n : Int) ≤ 8 ∧ d = false ∧ o = false) ∨ ((n : Int) ≤ 8 ∧ d = true ∧ o = t) := by
  subst h
  rcases (by omega : 8 < n ∨ n ≤ 8) with h | h
  · exact .inl ⟨by omega, by rw [decide_eq_false (by omega)]; rfl⟩
  · rw [decide_eq_true h]
    cases d
    · exact .inr (.inl ⟨by omega, rfl, rfl⟩)
    · exact .inr (.inr ⟨by omega, rfl, by simp⟩)
set_option maxHeartbeats 2000000 in
theorem clauseOK_any (c : CCl) (h : Option Addr) (cp : Nat) (hok : ClOK c) (w : World) (hr : ReadsTm w.heap.size w h c.ts) :
    Calls Try.prog 11 #[.agg #[.string c.nm, .slice h c.ts.length cp, .int .i64 c.ac, .int .i64 c.nu]] w fun e w' => e = .returned (.bool (clOne c)) ∧ Below w.heap.size w w' := by
  have HS : Hid (∀ W, Below w.heap.size w W → Calls Try.prog 26 #[.agg #[.string c.nm, .slice h c.ts.length cp, .int .i64 c.ac, .int .i64 c.nu]] W fun e w' => e = .returned (.bool (sayB c)) ∧ Below W.heap.size W w') := fun W hb => says_any c h cp (by have := hok.2; omega) W (hr.later hb)
  have hNm := fun W => implName_any c.nm (by have := hok.1; unfold maxLen; omega) W
  have HW := one_ways c.ts.length (nameB c.nm) (sayB c) (clOne c) rfl
  clear hr hok
  generalize clOne c = ob at *
  generalize sayB c = sb at *
  obtain ⟨nm, ts, ac, nu⟩ := c
  dsimp only at *
  generalize ts.length = n at *
  generalize nameB nm = nb at *
  rcases HW with ⟨h1, rfl⟩ | ⟨h1, rfl, rfl⟩ | ⟨h1, rfl, rfl⟩
  · go_enter Try.func11, Try.ntmps11
    go_wp2
    go_ret
    exact ⟨rfl, below_alloc _ _⟩
  · go_enter Try.func11, Try.ntmps11
    go_wp2_with (go_at_call 25; refine (hNm _).mono ?_; rintro e w2 ⟨rfl, hb2⟩)
    go_ret
    exact ⟨rfl, chain (below_alloc _ _) hb2⟩
  · go_enter Try.func11, Try.ntmps11
    go_wp2_with fail
    (first | go_at_call 25 | skip)
    refine (hNm _).mono ?_
    rintro e w2 ⟨rfl, hb2⟩
    have q0 : w2.cell? ⟨w.heap.size, 0, none⟩ = some (.string nm) := (hb2.cell (p := ⟨w.heap.size, 0, none⟩) (by simp only [World.size_alloc]; omega)).trans (cellNew _ _ _ _ rfl rfl)
    have q1 : w2.cell? ⟨w.heap.size, 1, none⟩ = some (.slice h n cp) := (hb2.cell (p := ⟨w.heap.size, 1, none⟩) (by simp only [World.size_alloc]; omega)).trans (cellNew _ _ _ _ rfl rfl)
    have q2 : w2.cell? ⟨w.heap.size, 2, none⟩ = some (.int .i64 ac) := (hb2.cell (p := ⟨w.heap.size, 2, none⟩) (by simp only [World.size_alloc]; omega)).trans (cellNew _ _ _ _ rfl rfl)
    have q3 : w2.cell? ⟨w.heap.size, 3, none⟩ = some (.int .i64 nu) := (hb2.cell (p := ⟨w.heap.size, 3, none⟩) (by simp only [World.size_alloc]; omega)).trans (cellNew _ _ _ _ rfl rfl)
    have HB2 : Hid (Below w.heap.size w w2) := chain (below_alloc _ _) hb2
    clear hb2 hNm
    go_wp2_with (go_at_call 26; refine (HS.out _ HB2.out).mono ?_; rintro e w3 ⟨rfl, hb3⟩)
    go_ret
    exact ⟨ret_bool (by simp), chain HB2.out hb3⟩

theorem clauseNot_any (c : CCl) (h : Option Addr) (cp : Nat) (hok : ClOK c) (w : World) (hr : ReadsTm w.heap.size w h c.ts) :
    Calls Try.prog 54 #[.agg #[.string c.nm, .slice h c.ts.length cp, .int .i64 c.ac, .int .i64 c.nu]] w fun e w' => e = .returned (.bool (!clOne c)) ∧ Below w.heap.size w w' := by
  have HD : Hid (∀ W, Below w.heap.size w W → Calls Try.prog 11 #[.agg #[.string c.nm, .slice h c.ts.length cp, .int .i64 c.ac, .int .i64 c.nu]] W fun e w' => e = .returned (.bool (clOne c)) ∧ Below W.heap.size W w') := fun W hb => clauseOK_any c h cp hok W (hr.later hb)
  clear hr hok
  generalize clOne c = b at *
  obtain ⟨nm, ts, ac, nu⟩ := c
  dsimp only at *
  generalize ts.length = n at *
  go_enter Try.func54, Try.ntmps54
  go_wp2_with (go_at_call 11; refine (HD.out _ (by repeat (first | exact Below.refl _ _ | refine chain ?_ (below_alloc _ _) | refine chain ?_ (below_drew _)))).mono ?_; rintro e w2 ⟨rfl, hb2⟩)
  go_ret
  exact ⟨rfl, by repeat (first | exact Below.refl _ _ | refine chain ?_ (by assumption) | refine chain ?_ (below_alloc _ _) | refine chain ?_ (below_drew _))⟩
set_option maxHeartbeats 2000000 in
theorem clIndex_any (a : Option Addr) (cap : Nat) (rs : List CCl) (hl : rs.length ≤ 100000000) (hp : ∀ r ∈ rs, ClOK r) (w : World) (hr : ReadsCl w.heap.size w a rs) :
    Calls Try.prog 19 #[.slice a rs.length cap, .func (.func 54) #[] #[]] w fun e w' => (∃ x : Int, e = .returned (.int .i64 x) ∧ decide (0 ≤ x) = !rs.all clOne) ∧ Below w.heap.size w w' := by
  have HR : Hid (ReadsCl w.heap.size w a rs) := hr
  have HOK : Hid (∀ r ∈ rs, ClOK r) := hp
  clear hr hp
  go_enter Try.func19, Try.ntmps19
  go_wp2
  go_loopw [5, 8] (fun _ c wr => ∃ k : Nat, k ≤ rs.length ∧ c = .int .i64 (k : Int) ∧ (rs.take k).all clOne = true ∧ Below w.heap.size w wr) (fun _ c _ => rs.length - (intOf c).toNat)
  case atStart => exact ⟨0, Nat.zero_le _, rfl, rfl, Below.refl _ _⟩
  case round =>
    obtain ⟨k, hk, rfl, hf, hb⟩ := hrel
    have HF : Hid ((rs.take k).all clOne = true) := hf
    have HB : Hid (Below w.heap.size w wr) := hb
    clear hf hb
    by_cases hlt : k < rs.length
    · have hlt' : (k : Int) < (rs.length : Int) := by omega
      rcases HR.out with h | ⟨b0, o0, ha, hB0, ia⟩
      · rw [h] at hlt; simp at hlt
      obtain ⟨h, cp, ⟨c0, c1, c2, c3⟩, hcp, hS⟩ := (ia.below HB.out hB0 (Nat.le_refl _)) k hlt
      have HX : Hid (clOne (rs.getD k zCl) = false → rs.all clOne = false) := fun h => cls_fail hlt h
      have HN : Hid ((rs.take (k + 1)).all clOne = ((rs.take k).all clOne && clOne (rs.getD k zCl))) := cls_take clOne rs k hlt
      have hm := clauseNot_any (rs.getD k zCl) h cp (getCl HOK.out hlt) wr (hS.mono HB.out.size)
      rw [ha]
      clear ia hS hcp
      generalize rs.getD k zCl = q at *
      generalize clOne q = mb at *
      obtain ⟨nm, ts, ac, nu⟩ := q
      dsimp only at c0 c1 c2 c3 hm
      generalize ts.length = n at *
      cases mb
      · go_wp2_with (go_at_call 54; refine hm.mono ?_; rintro e w2 ⟨rfl, hb2⟩)
        go_ret
        exact ⟨⟨(k : Int), rfl, by rw [HX.out trivial]; exact decide_eq_true (by omega)⟩, chain HB.out hb2⟩
      · go_wp2_with (go_at_call 54; refine hm.mono ?_; rintro e w2 ⟨rfl, hb2⟩)
        exact ⟨⟨k + 1, by omega, by go_num, by rw [HN.out, HF.out]; rfl, chain HB.out hb2⟩, by simp [intOf]; omega⟩
    · have hle : (rs.length : Int) ≤ (k : Int) := by omega
      have HE : Hid (rs.all clOne = true) := by have := HF.out; rwa [List.take_of_length_le (by omega)] at this
      go_wp2
      go_ret
      exact ⟨⟨-1, rfl, by rw [HE.out]; rfl⟩, HB.out⟩
theorem clContains_any (a : Option Addr) (cap : Nat) (rs : List CCl) (hl : rs.length ≤ 100000000) (hp : ∀ r ∈ rs, ClOK r) (w : World) (hr : ReadsCl w.heap.size w a rs) :
    Calls Try.prog 53 #[.slice a rs.length cap, .func (.func 54) #[] #[]] w fun e w' => e = .returned (.bool (!rs.all clOne)) ∧ Below w.heap.size w w' := by
  have hi := clIndex_any a cap rs hl hp w hr
  clear hr hp
  go_enter Try.func53, Try.ntmps53
  go_wp2_with (go_at_call 19; refine hi.mono ?_; rintro e w2 ⟨⟨x, rfl, hx⟩, hb2⟩; have HX : Hid (decide (0 ≤ x) = !rs.all clOne) := hx; clear hx)
  go_ret
  exact ⟨ret_bool HX.out, hb2⟩
set_option maxHeartbeats 4000000 in
theorem implClauses_any (a : Option Addr) (cap : Nat) (rs : List CCl) (hl : rs.length ≤ 100000000) (hp : ∀ r ∈ rs, ClOK r) (w : World) (hr : ReadsCl w.heap.size w a rs) :
    Calls Try.prog 36 #[.slice a rs.length cap] w fun e w' => e = .returned (.bool (clAll rs)) ∧ Below w.heap.size w w' := by
  have HR : Hid (ReadsCl w.heap.size w a rs) := hr
  have HOK : Hid (∀ r ∈ rs, ClOK r) := hp
  clear hr hp
  by_cases h6 : (40 : Int) < (rs.length : Int)
  · have HA : Hid (clAll rs = false) := by show _ = _; unfold clAll; rw [if_pos (by omega)]
    go_enter Try.func36, Try.ntmps36
    go_wp2
    go_ret
    exact ⟨ret_bool HA.out.symm, Below.refl _ _⟩
  have HA : Hid (clAll rs = (diffB (rs.map (·.nm)) && rs.all clOne)) := by show _ = _; unfold clAll; rw [if_neg (by omega)]
  have h6' : rs.length ≤ 40 := by omega
  have hmk : ∀ w, (Instr.makeSlice 87 (.int .i64 0) (.int .i64 (rs.length : Int))).run Try.prog w = .ok (.slice (some ⟨w.heap.size, 0, none⟩) 0 rs.length) (w.alloc (.cells (madeCells #[.string ⟨#[]⟩] rs.length) 9)) := fun w => makeStrs 0 rs.length (by omega) (by omega) w
  obtain ⟨i0, hi, hzz⟩ := Option.map_eq_some_iff.1 strInfo
  simp only [Prod.mk.injEq] at hzz
  obtain ⟨hi0, hi1, hi2⟩ := hzz
  have H0 : Hid (OneS w w.heap.size (.slice (some ⟨w.heap.size, 0, none⟩) 0 rs.length) [] (w.alloc (Obj.cells (madeCells #[.string ⟨#[]⟩] rs.length) 9))) := OneS.made w w.heap.size rfl rs.length (by omega)
  have HD : Hid (∀ g cp W, rs.length ≤ cp → Below w.heap.size w W → ReadsS W.heap.size W (some ⟨g, 0, none⟩) (rs.map (·.nm)) → Calls Try.prog 52 #[.slice (some ⟨g, 0, none⟩) rs.length cp] W fun e w' => e = .returned (.bool (diffB (rs.map (·.nm)))) ∧ Below W.heap.size W w') := fun g cp W h1 h2 h3 => by
    have := diff_any (some ⟨g, 0, none⟩) cp (rs.map (·.nm)) (by simp; omega) (by simpa using h1) (fun s hs => by obtain ⟨r, hr, rfl⟩ := List.mem_map.mp hs; exact (HOK.out r hr).1) W h3
    rwa [List.length_map] at this
  have HC : Hid (∀ W, Below w.heap.size w W → Calls Try.prog 53 #[.slice a rs.length cap, .func (.func 54) #[] #[]] W fun e w' => e = .returned (.bool (!rs.all clOne)) ∧ Below W.heap.size W w') := fun W hb => clContains_any a cap rs hl HOK.out W (HR.out.later hb)
  go_enter Try.func36, Try.ntmps36
  go_wp2
  go_loopw [3, 5, 14] (fun v _ c wr => ∃ k g cp : Nat, k ≤ rs.length ∧ k ≤ cp ∧ c = .int .i64 (k : Int) ∧ v = .slice (some ⟨g, 0, none⟩) k cp ∧ OneS w w.heap.size (.slice (some ⟨g, 0, none⟩) k cp) ((rs.take k).map (·.nm)) wr) (fun _ _ c _ => rs.length - (intOf c).toNat)
  case atStart => exact ⟨0, w.heap.size, rs.length, Nat.zero_le _, Nat.zero_le _, rfl, rfl, by simpa using H0.out⟩
  case round =>
    clear H0 hmk
    obtain ⟨k, g, cp, hk, hkc, rfl, rfl, hO⟩ := hrel
    have HO : Hid (OneS w w.heap.size (.slice (some ⟨g, 0, none⟩) k cp) ((rs.take k).map (·.nm)) wr) := hO
    have HB : Hid (Below w.heap.size w wr) := hO.2.2
    clear hO
    by_cases hlt : k < rs.length
    · have hlt' : (k : Int) < (rs.length : Int) := by omega
      rcases HR.out with h | ⟨b0, o0, ha, hB0, ia⟩
      · rw [h] at hlt; simp at hlt
      obtain ⟨h, cq, ⟨c0, c1, c2, c3⟩, _, _⟩ := (ia.below HB.out hB0 (Nat.le_refl _)) k hlt
      have hlen : ((rs.take k).map (·.nm)).length = k := by rw [List.length_map, List.length_take]; omega
      have HN : Hid ((rs.take k).map (·.nm) ++ [(rs.getD k zCl).nm] = (rs.take (k + 1)).map (·.nm)) := by
        have e : rs.getD k zCl = rs[k] := by simp [List.getD_eq_getElem?_getD, hlt]
        show _ = _
        rw [List.take_succ_eq_append_getElem hlt, List.map_append, e]; rfl
      rw [ha]
      clear ia
      generalize rs.getD k zCl = r at *
      obtain ⟨nm, ts, ac, nu⟩ := r
      dsimp only at c0 c1 c2 c3 HN
      generalize ts.length = n at *
      have HW5 : Hid (OneS w w.heap.size (.slice (some ⟨g, 0, none⟩) k cp) ((rs.take k).map (·.nm)) ((wr.alloc (Obj.cells #[.string nm, .slice h n cq, .int .i64 ac, .int .i64 nu] 25)).alloc (Obj.cells #[.string nm] 9))) := (HO.out.alloc _).alloc _
      have HNw : Hid (∀ j u, [Value.string nm][j]? = some u → ((wr.alloc (Obj.cells #[.string nm, .slice h n cq, .int .i64 ac, .int .i64 nu] 25)).alloc (Obj.cells #[.string nm] 9)).cell? ((⟨wr.heap.size + 1, 0, none⟩ : Addr).add j) = some u) := by
        have e1 : (wr.alloc (Obj.cells #[.string nm, .slice h n cq, .int .i64 ac, .int .i64 nu] 25)).heap.size = wr.heap.size + 1 := by simp
        have := newsOneS (wr.alloc (Obj.cells #[.string nm, .slice h n cq, .int .i64 ac, .int .i64 nu] 25)) (.string nm) 9
        rw [e1] at this
        exact this
      generalize (rs.take k).map (·.nm) = L at *
      obtain rfl : L.length = k := hlen
      go_wp2_with (at_builtin; refine wpList_append_lies _ rfl _ _ 87 rfl w.heap.size 9 i0 (.string ⟨#[]⟩) 1 16 Try.underlying87 hi hi0 hi1 hi2 rfl (by decide) _ _ _ rfl HW5.out.1 ⟨wr.heap.size + 1, 0, none⟩ 1 1 [.string nm] rfl rfl HNw.out (by intro u hu; simp at hu; rcases hu with rfl; rfl) (by omega) (by unfold maxLen; omega) (by omega) HW5.out.2.1 _ rfl ?_; intro g1 cp1 w7 hown1 hgrow1 hat1 hglt1; have HO7 : Hid (OneS w w.heap.size (.slice (some ⟨g1, 0, none⟩) (L.length + 1) cp1) (L ++ [nm]) w7) := HW5.out.push hown1 hgrow1; clear hown1 hgrow1 hat1)
      have hc1 := HO7.out.cap
      have HO8 : Hid (OneS w w.heap.size (.slice (some ⟨g1, 0, none⟩) (L.length + 1) cp1) ((rs.take (L.length + 1)).map (·.nm)) w7) := by have := HO7.out; rwa [HN.out] at this
      go_roundw
      case rel => exact ⟨L.length + 1, g1, cp1, by omega, hc1, by go_num, rfl, HO8.out⟩
      case measure => simp [intOf]; omega
    · obtain rfl : k = rs.length := by omega
      have HO' : Hid (ReadsS wr.heap.size wr (some ⟨g, 0, none⟩) (rs.map (·.nm))) := by have := HO.out.reads (by rw [List.length_map, List.take_length]); rwa [List.take_length] at this
      generalize diffB (rs.map (·.nm)) = db at *
      generalize rs.all clOne = ob at *
      cases db
      · go_wp2_with (go_at_call 52; refine (HD.out g cp wr hkc HB.out HO'.out).mono ?_; rintro e w2 ⟨rfl, hb2⟩)
        go_ret
        exact ⟨ret_bool (by rw [HA.out]; rfl), chain HB.out hb2⟩
      · go_wp2_with (first | (go_at_call 52; refine (HD.out g cp wr hkc HB.out HO'.out).mono ?_; rintro e w2 ⟨rfl, hb2⟩) | (go_at_call 53; refine (HC.out _ (chain HB.out hb2)).mono ?_; rintro e w3 ⟨rfl, hb3⟩))
        go_ret
        exact ⟨ret_bool (by rw [HA.out]; cases ob <;> rfl), chain (chain HB.out hb2) hb3⟩

end Go.Proofs.Ytfofdeenpcbglaa

/-
  Texts of this claim laid together: DlD.
-/
import Derived.Test.YtkfmifbffgbiiaaM7
import Derived.Test.YtkfmifbffgbiiaaM4
import Derived.Deep.AppendLies
import Derived.Laws.OwnMore
/-
  Contracts of the program's termsOK, dealOK, DealsOK, for every list of deals.
-/
namespace Go.Proofs.Ytkfmifbffgbiiaa
open Go.ChangeShapes Go.WideShapes Go.ChangeAt Go.RowKit
set_option linter.unusedVariables false

def termB (kd nd vl : Int) : Bool := decide ((kd = 1 ∧ nd = 1 ∧ 0 ≤ vl ∧ vl ≤ 100) ∨ ((kd = 2 ∨ kd = 4) ∧ 1 ≤ nd ∧ nd ≤ 4 ∧ 0 ≤ vl ∧ vl ≤ 100000000) ∨ (kd = 3 ∧ 2 ≤ nd ∧ nd ≤ 4 ∧ vl = 0))
/-- Is one deal right, its name aside? -/
def dlOne (c : CDl) : Bool := decide (1 ≤ c.arts.length ∧ c.arts.length ≤ 6) && diffB c.arts && termB c.kd c.nd c.vl
/-- Are the deals right? -/
def dlAll (cs : List CDl) : Bool := if 6 < cs.length then false else diffB (cs.map (·.nm)) && cs.all dlOne


set_option maxHeartbeats 2000000 in
theorem terms_any (kd nd vl : Int) (w : World) :
    Calls Try.prog 48 #[.int .i64 kd, .int .i64 nd, .int .i64 vl] w fun e w' => e = .returned (.bool (termB kd nd vl)) ∧ w' = w := by
  go_enter Try.func48, Try.ntmps48
  go_wp2
  all_goals
    go_ret
    refine ⟨ret_bool ?_, rfl⟩
    go_light
    try simp only [beq_eq_false_iff_ne, ne_eq, beq_iff_eq] at *
    unfold termB
    rw [Bool.eq_iff_iff]
    simp
    try omega



theorem dlOne_ways (n : Nat) (d t o : Bool) (h : o = (decide (1 ≤ n ∧ n ≤ 6) && d && t)) : ((n : Int) < 1 ∧ o = false) ∨ (1 ≤ (n : Int) ∧ 6 < (n : Int) ∧ o = false) ∨ (1 ≤ (n : Int) ∧ (n : Int) ≤ 6 ∧ d = false ∧ o = false) ∨ (1 ≤ (n : Int) ∧ (n : Int) ≤ 6 ∧ d = true ∧ o = t) := by
  subst h
  rcases (by omega : n < 1 ∨ (1 ≤ n ∧ 6 < n) ∨ (1 ≤ n ∧ n ≤ 6)) with h | ⟨h, h'⟩ | ⟨h, h'⟩
  · exact .inl ⟨by omega, by rw [decide_eq_false (by omega)]; rfl⟩
  · exact .inr (.inl ⟨by omega, by omega, by rw [decide_eq_false (by omega)]; rfl⟩)
  · rw [decide_eq_true (show 1 ≤ n ∧ n ≤ 6 from ⟨h, h'⟩)]
    cases d
    · exact .inr (.inr (.inl ⟨by omega, by omega, rfl, rfl⟩))
    · exact .inr (.inr (.inr ⟨by omega, by omega, rfl, by simp⟩))
set_option maxHeartbeats 2000000 in
theorem dealOK_any (c : CDl) (h : Option Addr) (cp : Nat) (hcp : c.arts.length ≤ cp) (hok : DlOK c) (w : World) (hr : ReadsS w.heap.size w h c.arts) :
    Calls Try.prog 20 #[.agg #[.string c.nm, .int .i64 c.kd, .slice h c.arts.length cp, .int .i64 c.nd, .int .i64 c.vl, .bool c.on]] w fun e w' => e = .returned (.bool (dlOne c)) ∧ Below w.heap.size w w' := by
  have HD : Hid (∀ W, Below w.heap.size w W → Calls Try.prog 17 #[.slice h c.arts.length cp] W fun e w' => e = .returned (.bool (diffB c.arts)) ∧ Below W.heap.size W w') := fun W hb => diff_any h cp c.arts (by have := hok.2.1; omega) hcp hok.2.2 W (hr.later hb)
  have hT := fun W => terms_any c.kd c.nd c.vl W
  have HW := dlOne_ways c.arts.length (diffB c.arts) (termB c.kd c.nd c.vl) (dlOne c) rfl
  clear hr hok
  obtain ⟨nm, kd, arts, nd, vl, on⟩ := c
  dsimp only at *
  generalize arts.length = n at *
  generalize diffB arts = db at *
  generalize termB kd nd vl = tb at *
  generalize dlOne ⟨nm, kd, arts, nd, vl, on⟩ = ob at *
  rcases HW with ⟨h1, rfl⟩ | ⟨h1, h2, rfl⟩ | ⟨h1, h2, rfl, rfl⟩ | ⟨h1, h2, rfl, rfl⟩
  · go_enter Try.func20, Try.ntmps20
    go_wp2
    go_ret
    exact ⟨rfl, by repeat (first | exact Below.refl _ _ | refine chain ?_ (below_alloc _ _) | refine chain ?_ (below_drew _))⟩
  · go_enter Try.func20, Try.ntmps20
    go_wp2
    go_ret
    exact ⟨rfl, by repeat (first | exact Below.refl _ _ | refine chain ?_ (below_alloc _ _) | refine chain ?_ (below_drew _))⟩
  · go_enter Try.func20, Try.ntmps20
    go_wp2_with (go_at_call 17; refine (HD.out _ (below_alloc _ _)).mono ?_; rintro e w2 ⟨rfl, hb2⟩)
    go_ret
    exact ⟨rfl, chain (below_alloc _ _) hb2⟩
  · go_enter Try.func20, Try.ntmps20
    go_wp2_with fail
    (first | go_at_call 17 | skip)
    refine (HD.out _ (below_alloc _ _)).mono ?_
    rintro e w2 ⟨rfl, hb2⟩
    have q1 : w2.cell? ⟨w.heap.size, 1, none⟩ = some (.int .i64 kd) := (hb2.cell (p := ⟨w.heap.size, 1, none⟩) (by simp only [World.size_alloc]; omega)).trans (cellNew _ _ _ _ rfl rfl)
    have q3 : w2.cell? ⟨w.heap.size, 3, none⟩ = some (.int .i64 nd) := (hb2.cell (p := ⟨w.heap.size, 3, none⟩) (by simp only [World.size_alloc]; omega)).trans (cellNew _ _ _ _ rfl rfl)
    have q4 : w2.cell? ⟨w.heap.size, 4, none⟩ = some (.int .i64 vl) := (hb2.cell (p := ⟨w.heap.size, 4, none⟩) (by simp only [World.size_alloc]; omega)).trans (cellNew _ _ _ _ rfl rfl)
    have HB2 : Hid (Below w.heap.size w w2) := chain (below_alloc _ _) hb2
    clear hb2 HD
    go_wp2_with (go_at_call 48; refine (hT _).mono ?_; rintro e w3 ⟨rfl, rfl⟩)
    go_ret
    exact ⟨ret_bool (by simp), HB2.out⟩
theorem dealNot_any (c : CDl) (h : Option Addr) (cp : Nat) (hcp : c.arts.length ≤ cp) (hok : DlOK c) (w : World) (hr : ReadsS w.heap.size w h c.arts) :
    Calls Try.prog 19 #[.agg #[.string c.nm, .int .i64 c.kd, .slice h c.arts.length cp, .int .i64 c.nd, .int .i64 c.vl, .bool c.on]] w fun e w' => e = .returned (.bool (!dlOne c)) ∧ Below w.heap.size w w' := by
  have HD : Hid (∀ W, Below w.heap.size w W → Calls Try.prog 20 #[.agg #[.string c.nm, .int .i64 c.kd, .slice h c.arts.length cp, .int .i64 c.nd, .int .i64 c.vl, .bool c.on]] W fun e w' => e = .returned (.bool (dlOne c)) ∧ Below W.heap.size W w') := fun W hb => dealOK_any c h cp hcp hok W (hr.later hb)
  clear hr hok
  generalize dlOne c = b at *
  obtain ⟨nm, kd, arts, nd, vl, on⟩ := c
  dsimp only at *
  generalize arts.length = n at *
  go_enter Try.func19, Try.ntmps19
  go_wp2_with (go_at_call 20; refine (HD.out _ (by repeat (first | exact Below.refl _ _ | refine chain ?_ (below_alloc _ _) | refine chain ?_ (below_drew _)))).mono ?_; rintro e w2 ⟨rfl, hb2⟩)
  go_ret
  exact ⟨rfl, by repeat (first | exact Below.refl _ _ | refine chain ?_ (by assumption) | refine chain ?_ (below_alloc _ _) | refine chain ?_ (below_drew _))⟩

theorem dls_take (p : CDl → Bool) (rs : List CDl) (k : Nat) (h : k < rs.length) : (rs.take (k + 1)).all p = ((rs.take k).all p && p (rs.getD k zDl)) := by
  rw [List.take_succ_eq_append_getElem h, List.all_append]
  have e : rs.getD k zDl = rs[k] := by simp [List.getD_eq_getElem?_getD, h]
  rw [e]; simp
theorem dls_fail {p : CDl → Bool} {rs : List CDl} {k : Nat} (h : k < rs.length) (hp : p (rs.getD k zDl) = false) : rs.all p = false := by
  have e : rs.getD k zDl = rs[k] := by simp [List.getD_eq_getElem?_getD, h]
  rw [e] at hp
  rw [List.all_eq_false]
  exact ⟨rs[k], List.getElem_mem _, by simp [hp]⟩


set_option maxHeartbeats 2000000 in
theorem dlIndex_any (a : Option Addr) (cap : Nat) (rs : List CDl) (hl : rs.length ≤ 100000000) (hp : ∀ r ∈ rs, DlOK r) (w : World) (hr : ReadsDl w.heap.size w a rs) :
    Calls Try.prog 47 #[.slice a rs.length cap, .func (.func 19) #[] #[]] w fun e w' => (∃ x : Int, e = .returned (.int .i64 x) ∧ decide (0 ≤ x) = !rs.all dlOne) ∧ Below w.heap.size w w' := by
  have HR : Hid (ReadsDl w.heap.size w a rs) := hr
  have HOK : Hid (∀ r ∈ rs, DlOK r) := hp
  clear hr hp
  go_enter Try.func47, Try.ntmps47
  go_wp2
  go_loopw [5, 8] (fun _ c wr => ∃ k : Nat, k ≤ rs.length ∧ c = .int .i64 (k : Int) ∧ (rs.take k).all dlOne = true ∧ Below w.heap.size w wr) (fun _ c _ => rs.length - (intOf c).toNat)
  case atStart => exact ⟨0, Nat.zero_le _, rfl, rfl, Below.refl _ _⟩
  case round =>
    obtain ⟨k, hk, rfl, hf, hb⟩ := hrel
    have HF : Hid ((rs.take k).all dlOne = true) := hf
    have HB : Hid (Below w.heap.size w wr) := hb
    clear hf hb
    by_cases hlt : k < rs.length
    · have hlt' : (k : Int) < (rs.length : Int) := by omega
      rcases HR.out with h | ⟨b0, o0, ha, hB0, ia⟩
      · rw [h] at hlt; simp at hlt
      obtain ⟨h, cp, ⟨c0, c1, c2, c3, c4, c5⟩, hcp, hS⟩ := (ia.below HB.out hB0 (Nat.le_refl _)) k hlt
      have HX : Hid (dlOne (rs.getD k zDl) = false → rs.all dlOne = false) := fun h => dls_fail hlt h
      have HN : Hid ((rs.take (k + 1)).all dlOne = ((rs.take k).all dlOne && dlOne (rs.getD k zDl))) := dls_take dlOne rs k hlt
      have hm := dealNot_any (rs.getD k zDl) h cp hcp (getDl HOK.out hlt) wr (hS.mono HB.out.size)
      rw [ha]
      clear ia hS hcp
      generalize rs.getD k zDl = q at *
      generalize dlOne q = mb at *
      obtain ⟨nm, kd, arts, nd, vl, on⟩ := q
      dsimp only at c0 c1 c2 c3 c4 c5 hm
      generalize arts.length = n at *
      cases mb
      · go_wp2_with (go_at_call 19; refine hm.mono ?_; rintro e w2 ⟨rfl, hb2⟩)
        go_ret
        exact ⟨⟨(k : Int), rfl, by rw [HX.out trivial]; exact decide_eq_true (by omega)⟩, chain HB.out hb2⟩
      · go_wp2_with (go_at_call 19; refine hm.mono ?_; rintro e w2 ⟨rfl, hb2⟩)
        exact ⟨⟨k + 1, by omega, by go_num, by rw [HN.out, HF.out]; rfl, chain HB.out hb2⟩, by simp [intOf]; omega⟩
    · have hle : (rs.length : Int) ≤ (k : Int) := by omega
      have HE : Hid (rs.all dlOne = true) := by have := HF.out; rwa [List.take_of_length_le (by omega)] at this
      go_wp2
      go_ret
      exact ⟨⟨-1, rfl, by rw [HE.out]; rfl⟩, HB.out⟩

theorem dlContains_any (a : Option Addr) (cap : Nat) (rs : List CDl) (hl : rs.length ≤ 100000000) (hp : ∀ r ∈ rs, DlOK r) (w : World) (hr : ReadsDl w.heap.size w a rs) :
    Calls Try.prog 18 #[.slice a rs.length cap, .func (.func 19) #[] #[]] w fun e w' => e = .returned (.bool (!rs.all dlOne)) ∧ Below w.heap.size w w' := by
  have hi := dlIndex_any a cap rs hl hp w hr
  clear hr hp
  go_enter Try.func18, Try.ntmps18
  go_wp2_with (go_at_call 47; refine hi.mono ?_; rintro e w2 ⟨⟨x, rfl, hx⟩, hb2⟩; have HX : Hid (decide (0 ≤ x) = !rs.all dlOne) := hx; clear hx)
  go_ret
  exact ⟨ret_bool HX.out, hb2⟩

end Go.Proofs.Ytkfmifbffgbiiaa

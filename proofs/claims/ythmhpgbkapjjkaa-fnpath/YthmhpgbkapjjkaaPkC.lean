/-
  Contracts of the program's rightWith (with the library's IndexFunc and ContainsFunc at spots), frontOfFirst, and of the specification's l19Hall, l19Spot.
-/
import Derived.Test.YthmhpgbkapjjkaaPkB
namespace Go.Proofs.Ythmhpgbkapjjkaa
open Go.ChangeShapes Go.WideShapes Go.ChangeAt Go.RowKit Go.Joins Go.Deep
set_option linter.unusedVariables false

def spsB (a p : Int) (rs : List RPt) : Bool := rs.all (spB a p)
theorem sps_take (a p : Int) (r : List RPt) (k : Nat) (h : k < r.length) : spsB a p (r.take (k + 1)) = (spsB a p (r.take k) && spB a p (r.getD k zPt)) := by
  unfold spsB
  rw [List.take_succ_eq_append_getElem h, List.all_append]
  have e : r.getD k zPt = r[k] := by simp [List.getD_eq_getElem?_getD, h]
  rw [e]; simp
theorem sps_fail {a p : Int} {r : List RPt} {k : Nat} (h : k < r.length) (hp : spB a p (r.getD k zPt) = false) : spsB a p r = false := by
  have e : r.getD k zPt = r[k] := by simp [List.getD_eq_getElem?_getD, h]
  rw [e] at hp
  unfold spsB
  rw [List.all_eq_false]
  exact ⟨r[k], List.getElem_mem _, by simp [hp]⟩
theorem sps_mem {a p : Int} {r : List RPt} (h : spsB a p r = true) : ∀ x ∈ r, spB a p x = true := fun x hx => by
  unfold spsB at h
  rw [List.all_eq_true] at h
  exact h x hx
/-- A hall's three numbers lie in block b. -/
def HlAt (w : World) (b : Nat) (a p g : Int) : Prop := w.cell? ⟨b, 0, none⟩ = some (.int .i64 a) ∧ w.cell? ⟨b, 1, none⟩ = some (.int .i64 p) ∧ w.cell? ⟨b, 2, none⟩ = some (.int .i64 g)
theorem HlAt.below {B : Nat} {w w' : World} {b : Nat} {a p g : Int} (h : HlAt w b a p g) (hb : Below B w w') (hB : b < B) : HlAt w' b a p g :=
  ⟨(hb.cell (p := ⟨b, 0, none⟩) hB).trans h.1, (hb.cell (p := ⟨b, 1, none⟩) hB).trans h.2.1, (hb.cell (p := ⟨b, 2, none⟩) hB).trans h.2.2⟩
theorem hlNew (w : World) (a p g : Int) : HlAt (w.alloc (Obj.cells #[.int .i64 a, .int .i64 p, .int .i64 g] 24)) w.heap.size a p g := ⟨cellNew _ _ _ _ rfl rfl, cellNew _ _ _ _ rfl rfl, cellNew _ _ _ _ rfl rfl⟩
theorem impNot_any (a p g x y : Int) (hh : hlB a p g = true) (hb : Nat) (w : World) (hl : hb < w.heap.size) (h : HlAt w hb a p g) :
    Calls Try.prog 65 #[.agg #[.int .i64 x, .int .i64 y], .pointer (some ⟨hb, 0, none⟩)] w fun e w' => e = .returned (.bool (!spB a p ⟨x, y⟩)) ∧ Below w.heap.size w w' := by
  have HS : Hid (∀ W, Calls Try.prog 66 #[.agg #[.int .i64 a, .int .i64 p, .int .i64 g], .agg #[.int .i64 x, .int .i64 y]] W fun e w' => e = .returned (.bool (spB a p ⟨x, y⟩)) ∧ Below W.heap.size W w') := fun W => impHas_any a p g x y hh W
  have h' := h.below (below_alloc w (Obj.cells #[.int .i64 x, .int .i64 y] 35)) hl
  obtain ⟨f0, f1, f2⟩ := h'
  clear h
  generalize spB a p ⟨x, y⟩ = b at *
  go_enter Try.func65, Try.ntmps65
  go_wp2_with (go_at_call 66; refine (HS.out _).mono ?_; rintro e w2 ⟨rfl, hb2⟩)
  go_ret
  exact ⟨rfl, chain (below_alloc _ _) hb2⟩
set_option maxHeartbeats 2000000 in
theorem impIndex_any (a p g : Int) (hh : hlB a p g = true) (ad : Option Addr) (cap : Nat) (rs : List RPt) (hl : rs.length ≤ 100000000) (sb : Nat) (w : World) (hr : ReadsPt w.heap.size w ad rs) (hs : sb < w.heap.size) (h0 : HlAt w sb a p g) :
    Calls Try.prog 78 #[.slice ad rs.length cap, .func (.func 65) #[] #[.pointer (some ⟨sb, 0, none⟩)]] w fun e w' => (∃ x : Int, e = .returned (.int .i64 x) ∧ decide (0 ≤ x) = !spsB a p rs) ∧ Below w.heap.size w w' := by
  have HR : Hid (ReadsPt w.heap.size w ad rs) := hr
  have HC : Hid (∀ x y W, Below w.heap.size w W → Calls Try.prog 65 #[.agg #[.int .i64 x, .int .i64 y], .pointer (some ⟨sb, 0, none⟩)] W fun e w' => e = .returned (.bool (!spB a p ⟨x, y⟩)) ∧ Below W.heap.size W w') := fun x y W hb => impNot_any a p g x y hh sb W (Nat.lt_of_lt_of_le hs hb.size) (h0.below hb hs)
  clear hr h0 hs hh
  go_enter Try.func78, Try.ntmps78
  go_wp2
  go_loopw [5, 8] (fun _ c wr => ∃ k : Nat, k ≤ rs.length ∧ c = .int .i64 (k : Int) ∧ spsB a p (rs.take k) = true ∧ Below w.heap.size w wr) (fun _ c _ => rs.length - (intOf c).toNat)
  case atStart => exact ⟨0, Nat.zero_le _, rfl, rfl, Below.refl _ _⟩
  case round =>
    obtain ⟨k, hk, rfl, hf, hb⟩ := hrel
    have HF : Hid (spsB a p (rs.take k) = true) := hf
    have HB : Hid (Below w.heap.size w wr) := hb
    clear hf hb
    by_cases hlt : k < rs.length
    · have hlt' : (k : Int) < (rs.length : Int) := by omega
      rcases HR.out with h | ⟨b0, o0, ha, hB0, ia⟩
      · rw [h] at hlt; simp at hlt
      obtain ⟨c0, c1⟩ := (ia.below HB.out hB0) k hlt
      have HX : Hid (spB a p (rs.getD k zPt) = false → spsB a p rs = false) := fun h => sps_fail hlt h
      have HN : Hid (spsB a p (rs.take (k + 1)) = (spsB a p (rs.take k) && spB a p (rs.getD k zPt))) := sps_take a p rs k hlt
      have hm := HC.out (rs.getD k zPt).ai (rs.getD k zPt).pl wr HB.out
      rw [ha]
      clear ia
      generalize rs.getD k zPt = q at *
      obtain ⟨q0, q1⟩ := q
      dsimp only at *
      generalize spB a p ⟨q0, q1⟩ = mb at *
      cases mb
      · go_wp2_with (go_at_call 65; refine hm.mono ?_; rintro e w2 ⟨rfl, hb2⟩)
        go_ret
        exact ⟨⟨(k : Int), rfl, by rw [HX.out trivial]; exact decide_eq_true (by omega)⟩, chain HB.out hb2⟩
      · go_wp2_with (go_at_call 65; refine hm.mono ?_; rintro e w2 ⟨rfl, hb2⟩)
        exact ⟨⟨k + 1, by omega, by go_num, by rw [HN.out, HF.out]; rfl, chain HB.out hb2⟩, by simp [intOf]; omega⟩
    · have hle : (rs.length : Int) ≤ (k : Int) := by omega
      have HE : Hid (spsB a p rs = true) := by have := HF.out; rwa [List.take_of_length_le (by omega)] at this
      go_wp2
      go_ret
      exact ⟨⟨-1, rfl, by rw [HE.out]; rfl⟩, HB.out⟩
theorem impContains_any (a p g : Int) (hh : hlB a p g = true) (ad : Option Addr) (cap : Nat) (rs : List RPt) (hl : rs.length ≤ 100000000) (sb : Nat) (w : World) (hr : ReadsPt w.heap.size w ad rs) (hs : sb < w.heap.size) (h0 : HlAt w sb a p g) :
    Calls Try.prog 64 #[.slice ad rs.length cap, .func (.func 65) #[] #[.pointer (some ⟨sb, 0, none⟩)]] w fun e w' => e = .returned (.bool (!spsB a p rs)) ∧ Below w.heap.size w w' := by
  have hi := impIndex_any a p g hh ad cap rs hl sb w hr hs h0
  clear hr h0 hh
  go_enter Try.func64, Try.ntmps64
  go_wp2_with (go_at_call 78; refine hi.mono ?_; rintro e w2 ⟨⟨x, rfl, hx⟩, hb2⟩; have HX : Hid (decide (0 ≤ x) = !spsB a p rs) := hx; clear hx)
  go_ret
  exact ⟨ret_bool HX.out, hb2⟩
theorem impWith_any (a p g : Int) (ad : Option Addr) (cap : Nat) (rs : List RPt) (hl : rs.length ≤ 100000000) (w : World) (hr : ReadsPt w.heap.size w ad rs) :
    Calls Try.prog 44 #[.agg #[.int .i64 a, .int .i64 p, .int .i64 g], .slice ad rs.length cap] w fun e w' => e = .returned (.bool (hlB a p g && spsB a p rs)) ∧ Below w.heap.size w w' := by
  have H1 : Hid (∀ W, Calls Try.prog 63 #[.agg #[.int .i64 a, .int .i64 p, .int .i64 g]] W fun e w' => e = .returned (.bool (hlB a p g)) ∧ Below W.heap.size W w') := fun W => impRight_any a p g W
  have H2 : Hid (hlB a p g = true → ∀ W, Below w.heap.size w W → w.heap.size < W.heap.size → HlAt W w.heap.size a p g → Calls Try.prog 64 #[.slice ad rs.length cap, .func (.func 65) #[] #[.pointer (some ⟨w.heap.size, 0, none⟩)]] W fun e w' => e = .returned (.bool (!spsB a p rs)) ∧ Below W.heap.size W w') := fun hh W hb hz h0 => impContains_any a p g hh ad cap rs hl w.heap.size W ((hr.below hb).mono hb.size) hz h0
  clear hr
  generalize hlB a p g = b1 at *
  generalize spsB a p rs = b2 at *
  have HN := hlNew w a p g
  have HNB : Hid (HlAt (w.alloc (Obj.cells #[.int .i64 a, .int .i64 p, .int .i64 g] 24)) w.heap.size a p g) := HN
  clear HN
  cases b1
  · go_enter Try.func44, Try.ntmps44
    go_wp2_with fail
    (first | go_at_call 63 | skip)
    refine (H1.out _).mono ?_
    rintro e w2 ⟨rfl, hb2⟩
    go_wp2
    go_ret
    exact ⟨rfl, chain (below_alloc _ _) hb2⟩
  · go_enter Try.func44, Try.ntmps44
    go_wp2_with fail
    (first | go_at_call 63 | skip)
    refine (H1.out _).mono ?_
    rintro e w2 ⟨rfl, hb2⟩
    have hz : w.heap.size < w2.heap.size := Nat.lt_of_lt_of_le (by simp) hb2.size
    go_wp2_with fail
    (first | go_at_call 64 | skip)
    refine (H2.out (by trivial) w2 (chain (below_alloc _ _) hb2) hz (HNB.out.below hb2 (by simp))).mono ?_
    rintro e w3 ⟨rfl, hb3⟩
    go_wp2
    go_ret
    exact ⟨ret_bool (by simp), chain (chain (below_alloc _ _) hb2) hb3⟩
theorem front_any (w : World) :
    Calls Try.prog 38 #[] w fun e w' => e = .returned (.agg #[.int .i64 0, .int .i64 0]) ∧ Below w.heap.size w w' := by
  go_enter Try.func38, Try.ntmps38
  go_wp2
  refine bodyPost_ret (v := .agg #[.int .i64 0, .int .i64 0]) (by simp [results, Try.results38, go_sem]) rfl ⟨rfl, ?_⟩
  repeat (first | exact Below.refl _ _ | refine chain ?_ (below_alloc _ _) | refine Below.setCell ?_ (by dsimp only; omega) _)
theorem specHall_any (a p g : Int) (w : World) :
    Calls Try.prog 61 #[.agg #[.int .i64 a, .int .i64 p, .int .i64 g]] w fun e w' => e = .returned (.bool (hlB a p g)) ∧ Below w.heap.size w w' := by
  have H1 : Hid (∀ W, Calls Try.prog 49 #[.int .i64 a, .int .i64 1, .int .i64 20] W fun e' w' => e' = .returned (.bool (inB a 1 20)) ∧ W = w') := fun W => (in_any _ _ _ W).mono (fun e' w' h => ⟨h.1, h.2.symm⟩)
  have H2 : Hid (∀ W, Calls Try.prog 49 #[.int .i64 p, .int .i64 1, .int .i64 100] W fun e' w' => e' = .returned (.bool (inB p 1 100)) ∧ W = w') := fun W => (in_any _ _ _ W).mono (fun e' w' h => ⟨h.1, h.2.symm⟩)
  have H3 : Hid (∀ W, Calls Try.prog 49 #[.int .i64 g, .int .i64 1, .int .i64 100] W fun e' w' => e' = .returned (.bool (inB g 1 100)) ∧ W = w') := fun W => (in_any _ _ _ W).mono (fun e' w' h => ⟨h.1, h.2.symm⟩)
  unfold hlB
  generalize inB a 1 20 = b1 at *
  generalize inB p 1 100 = b2 at *
  generalize inB g 1 100 = b3 at *
  go_enter Try.func61, Try.ntmps61
  go_wp2_with fail
  (first | go_at_call 49 | skip)
  refine (H1.out _).mono ?_
  rintro e w2 ⟨rfl, rfl⟩
  cases b1
  · go_wp2
    go_ret
    exact ⟨rfl, below_alloc _ _⟩
  go_wp2_with fail
  (first | go_at_call 49 | skip)
  refine (H2.out _).mono ?_
  rintro e w2 ⟨rfl, rfl⟩
  cases b2
  · go_wp2
    go_ret
    exact ⟨rfl, below_alloc _ _⟩
  go_wp2_with fail
  (first | go_at_call 49 | skip)
  refine (H3.out _).mono ?_
  rintro e w2 ⟨rfl, rfl⟩
  cases b3
  all_goals
    go_wp2
    go_ret
    exact ⟨rfl, below_alloc _ _⟩
theorem specSpot_any (a p g x y : Int) (hh : hlB a p g = true) (w : World) :
    Calls Try.prog 62 #[.agg #[.int .i64 a, .int .i64 p, .int .i64 g], .agg #[.int .i64 x, .int .i64 y]] w fun e w' => e = .returned (.bool (spB a p ⟨x, y⟩)) ∧ Below w.heap.size w w' := by
  obtain ⟨h1, h2, h3⟩ := hl_facts hh
  have hw : IntKind.i64.wrap (a - 1) = a - 1 := wrap_id _ (by omega) (by omega)
  have hw2 : IntKind.i64.wrap (p + 1) = p + 1 := wrap_id _ (by omega) (by omega)
  have H1 : Hid (∀ W, Calls Try.prog 49 #[.int .i64 x, .int .i64 0, .int .i64 (a - 1)] W fun e' w' => e' = .returned (.bool (inB x 0 (a - 1))) ∧ W = w') := fun W => (in_any _ _ _ W).mono (fun e' w' h => ⟨h.1, h.2.symm⟩)
  have H2 : Hid (∀ W, Calls Try.prog 49 #[.int .i64 y, .int .i64 0, .int .i64 (p + 1)] W fun e' w' => e' = .returned (.bool (inB y 0 (p + 1))) ∧ W = w') := fun W => (in_any _ _ _ W).mono (fun e' w' h => ⟨h.1, h.2.symm⟩)
  unfold spB
  dsimp only
  generalize inB x 0 (a - 1) = b1 at *
  generalize inB y 0 (p + 1) = b2 at *
  clear h1 h2 h3 hh
  go_enter Try.func62, Try.ntmps62
  go_wp2_with fail
  (first | go_at_call 49 | skip)
  refine (H1.out _).mono ?_
  rintro e w2 ⟨rfl, rfl⟩
  cases b1
  · go_wp2
    go_ret
    exact ⟨rfl, chain (below_alloc _ _) (below_alloc _ _)⟩
  go_wp2_with fail
  (first | go_at_call 49 | skip)
  refine (H2.out _).mono ?_
  rintro e w2 ⟨rfl, rfl⟩
  cases b2
  all_goals
    go_wp2
    go_ret
    exact ⟨rfl, chain (below_alloc _ _) (below_alloc _ _)⟩
end Go.Proofs.Ythmhpgbkapjjkaa

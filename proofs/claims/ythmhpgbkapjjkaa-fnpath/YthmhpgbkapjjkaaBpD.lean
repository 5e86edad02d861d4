/-
  Contract of the program's BestPath, for all arguments.
-/
import Derived.Test.YthmhpgbkapjjkaaBpC
import Derived.OwnWalk
namespace Go.Proofs.Ythmhpgbkapjjkaa
open Go.ChangeShapes Go.WideShapes Go.ChangeAt Go.RowKit Go.Joins Go.Deep
set_option linter.unusedVariables false

/-- What BestPath tells. -/
def bpC (a p g : Int) (rs : List RPt) : Int := if 4096 < rs.length then 2 else pkC a p g rs
def bpO (p g : Int) (rs : List RPt) : List Int := bsO p g rs rs.length (lfL [] rs.length) zPt
def bpV (p g : Int) (rs : List RPt) : Int := lsN p g rs rs.length (lfL [] rs.length) zPt
theorem bpO_len (p g : Int) (rs : List RPt) : (bpO p g rs).length = rs.length := bsO_len p g rs _ _ _
/-- An answer of BestPath. -/
def AnsBp (w : World) (O : List Int) (l c : Int) (e : Ending) (w' : World) : Prop :=
  ∃ ga gc, e = .returned (.tuple #[.slice ga O.length gc, .int .i64 l, .int .i64 c]) ∧ w'.ownsRow w.heap.size 3 1 (.slice ga O.length gc) O.length (inV O) ∧ Below w.heap.size w w'
theorem PsI.best {B sb : Nat} {a p g : Int} {ad : Option Addr} {cap : Nat} {rs : List RPt} {O : List Int} {l : Int} {ob : Option Nat} {W : World} (h : PsI B sb a p g ad cap rs (some (O, l)) ob W) : ∃ bb go co, W.heap[sb]? = some (.cells #[.int .i64 a, .int .i64 p, .int .i64 g, .slice ad rs.length cap, .pointer (some ⟨bb, 0, none⟩)] 73 (0, 0)) ∧ W.heap[bb]? = some (.cells #[.slice go O.length co, .int .i64 0, .int .i64 0, .int .i64 l] 77 (0, 0)) ∧ W.ownsRow B 3 1 (.slice go O.length co) O.length (inV O) := by
  obtain ⟨bp, h1, h2⟩ := h
  rcases h2 with ⟨h3, _⟩ | ⟨O', l', bb, go, co, h3, h4, h5, h6, _⟩
  · cases h3
  · simp at h3
    obtain ⟨rfl, rfl⟩ := h3
    subst h4
    exact ⟨bb, go, co, h1, h5, h6⟩
set_option maxHeartbeats 8000000 in
set_option maxRecDepth 4000 in
theorem implBest_ok (a p g : Int) (ad : Option Addr) (cap : Nat) (rs : List RPt) (h9 : rs.length ≤ 9) (hh : hlB a p g = true) (hs : spsB a p rs = true) (w : World) (hr : ReadsPt w.heap.size w ad rs) :
    Calls Try.prog 8 #[.agg #[.int .i64 a, .int .i64 p, .int .i64 g], .slice ad rs.length cap] w (AnsBp w (bpO p g rs) (bpV p g rs) 0) := by
  have HPf : Hid (∀ W, Below w.heap.size w W → Calls Try.prog 36 #[.agg #[.int .i64 a, .int .i64 p, .int .i64 g], .slice ad rs.length cap] W fun e w' => e = .returned (.int .i64 0) ∧ Below W.heap.size W w') := fun W hb => by
    have := picksFault_any a p g ad cap rs (by omega) W ((hr.below hb).mono hb.size)
    have e0 : pkC a p g rs = 0 := by unfold pkC; rw [if_neg (by omega), hh, hs]; rfl
    rwa [e0] at this
  have HFr : Hid (∀ W, Calls Try.prog 38 #[] W fun e w' => e = .returned (.agg #[.int .i64 0, .int .i64 0]) ∧ Below W.heap.size W w') := fun W => front_any W
  have HGo : Hid (∀ sb W, w.heap.size ≤ sb → PsI w.heap.size sb a p g ad cap rs none none W → Below w.heap.size w W → Calls Try.prog 37 #[.pointer (some ⟨sb, 0, none⟩), .agg #[.slice none 0 0, .int .i64 0, .int .i64 0, .int .i64 0]] W fun e w' => e = .returned (.tuple #[]) ∧ (∃ ob, PsI w.heap.size sb a p g ad cap rs (some (bpO p g rs, bpV p g rs)) ob w') ∧ Below w.heap.size w w') := fun sb W hsb hp hb => by
    have h := go_any w.heap.size sb a p g ad cap rs hh hs h9 w rfl hr hsb rs.length [] zPt 0 none none (.slice none 0 0) W (by simp) (by simp) List.nodup_nil (sp_z hh) (by simp) hp ⟨rfl, .inl ⟨rfl, rfl⟩⟩ (fun x hx => by cases hx) hb
    refine h.mono ?_
    rintro e w' ⟨h1, ob, h2, h3, h4, h5⟩
    refine ⟨h1, ⟨ob, ?_⟩, Fr.below hb h5 hb.size (fun k hk => ?_)⟩
    · have e1 : upd none (([] : List Int) ++ bsO p g rs rs.length (lfL [] rs.length) zPt, 0 + lsN p g rs rs.length (lfL [] rs.length) zPt) = some (bpO p g rs, bpV p g rs) := by
        rw [upd_none, List.nil_append, Int.zero_add]
        rfl
      rw [e1] at h2
      exact h2
    · rcases hk with rfl | hk
      · exact hsb
      · cases hk
  obtain ⟨O, hO⟩ : ∃ O, bpO p g rs = O := ⟨_, rfl⟩
  obtain ⟨l, hl⟩ : ∃ l, bpV p g rs = l := ⟨_, rfl⟩
  rw [hO, hl] at HGo
  rw [hO, hl]
  have hlr : (rs.length : Int) ≤ 9 := by omega
  clear hO hl hr hs hh
  have HN := hlNew w a p g
  have HN0 : Hid (HlAt (w.alloc (Obj.cells #[.int .i64 a, .int .i64 p, .int .i64 g] 24)) w.heap.size a p g) := HN
  clear HN
  go_enter Try.func8, Try.ntmps8
  go_wp2_with fail
  (first | go_at_call 36 | skip)
  refine (HPf.out _ (below_alloc _ _)).mono ?_
  rintro e w2 ⟨rfl, hb2⟩
  have HB2 : Hid (Below w.heap.size w w2) := chain (below_alloc _ _) hb2
  obtain ⟨x0, x1, x2⟩ : HlAt w2 w.heap.size a p g := HN0.out.below hb2 (by simp)
  clear hb2 HN0
  have HS3 : Hid (PsI w.heap.size w2.heap.size a p g ad cap rs none none (w2.alloc (Obj.cells #[.int .i64 a, .int .i64 p, .int .i64 g, .slice ad rs.length cap, .pointer none] 73)) ∧ Below w.heap.size w (w2.alloc (Obj.cells #[.int .i64 a, .int .i64 p, .int .i64 g, .slice ad rs.length cap, .pointer none] 73)) ∧ w.heap.size ≤ w2.heap.size) := ⟨⟨_, heapNew _ _, .inl ⟨rfl, rfl, rfl⟩⟩, chain HB2.out (below_alloc _ _), HB2.out.size⟩
  go_wp2_with fail
  (first | go_at_call 38 | skip)
  refine (HFr.out _).mono ?_
  rintro e w4 ⟨rfl, hb4⟩
  obtain ⟨sb, hsb⟩ : ∃ sb, sb = w2.heap.size := ⟨_, rfl⟩
  rw [← hsb] at HS3 ⊢
  have HS4 : Hid (PsI w.heap.size sb a p g ad cap rs none none w4 ∧ Below w.heap.size w w4 ∧ w.heap.size ≤ sb) := ⟨HS3.out.1.later hb4, chain HS3.out.2.1 hb4, HS3.out.2.2⟩
  clear hb4 HS3 hsb x0 x1 x2
  go_wp2_with fail
  (first | go_at_call 37 | skip)
  refine (HGo.out sb w4 HS4.out.2.2 HS4.out.1 HS4.out.2.1).mono ?_
  rintro e w5 ⟨rfl, ⟨ob, hp5⟩, hb5⟩
  have HB5 : Hid (Below w.heap.size w w5) := hb5
  obtain ⟨bb, go, co, k1, k2, k3⟩ := hp5.best
  have HK : Hid (∀ W, Below w5.heap.size w5 W → W.cell? ⟨sb, 4, none⟩ = some (.pointer (some ⟨bb, 0, none⟩)) ∧ W.cell? ⟨bb, 0, none⟩ = some (.slice go O.length co) ∧ W.cell? ⟨bb, 3, none⟩ = some (.int .i64 l)) := fun W hW => ⟨blkCell ((hW.block sb (blkLt k1)).trans k1) 4 _ rfl, blkCell ((hW.block bb (blkLt k2)).trans k2) 0 _ rfl, blkCell ((hW.block bb (blkLt k2)).trans k2) 3 _ rfl⟩
  have HR5 : Hid (w5.ownsRow w.heap.size 3 1 (.slice go O.length co) O.length (inV O)) := k3
  clear hp5 hb5 HS4 k1 k2 k3
  go_upto_region 8 with fail
  refine wp_region_held_drew (S := fun W' => Below w5.heap.size w5 W') (by kernel_rfl) (below_drew _) (fun hH => ?_)
  refine wpAnyH_take (i := 0) (v := .pointer (some ⟨sb, 4, none⟩)) rfl (by kernel_rfl) (by kernel_rfl) (by kernel_rfl) (fun _ _ _ h => h) (Or.inl ⟨by rfl, fun w hSw => by clear hSw; go_simp⟩) hH ?_
  refine wpAnyH_take (i := 1) (v := .pointer (some ⟨bb, 0, none⟩)) rfl (by kernel_rfl) (by kernel_rfl) (by kernel_rfl) (fun _ _ _ h => h) (Or.inl ⟨by rfl, fun w hSw => by obtain ⟨f0, f1, f2⟩ := HK.out _ hSw; clear hSw; go_simp⟩) hH ?_
  try simp only [Act.put, List.setIfInBounds_toArray, List.set_cons_zero, List.set_cons_succ, List.getElem_toArray, List.getElem_cons_succ, List.getElem_cons_zero]
  refine wpAnyH_take (i := 2) (v := .pointer (some ⟨bb, 0, none⟩)) rfl (by kernel_rfl) (by kernel_rfl) (by kernel_rfl) (fun _ _ _ h => h) (Or.inl ⟨by rfl, fun w hSw => by clear hSw; go_simp⟩) hH ?_
  try simp only [Act.put, List.setIfInBounds_toArray, List.set_cons_zero, List.set_cons_succ, List.getElem_toArray, List.getElem_cons_succ, List.getElem_cons_zero]
  refine wpAnyH_take (i := 3) (v := .pointer (some ⟨bb, 0, none⟩)) rfl (by kernel_rfl) (by kernel_rfl) (by kernel_rfl) (fun _ _ _ h => h) (Or.inl ⟨by rfl, fun w hSw => by clear hSw; go_simp⟩) hH ?_
  try simp only [Act.put, List.setIfInBounds_toArray, List.set_cons_zero, List.set_cons_succ, List.getElem_toArray, List.getElem_cons_succ, List.getElem_cons_zero]
  refine wpAnyH_take (i := 4) (v := .slice go O.length co) rfl (by kernel_rfl) (by kernel_rfl) (by kernel_rfl) (fun _ _ _ h => h) (Or.inl ⟨by rfl, fun w hSw => by obtain ⟨f0, f1, f2⟩ := HK.out _ hSw; clear hSw; go_simp⟩) hH ?_
  try simp only [Act.put, List.setIfInBounds_toArray, List.set_cons_zero, List.set_cons_succ, List.getElem_toArray, List.getElem_cons_succ, List.getElem_cons_zero]
  refine wpAnyH_take (i := 5) (v := .pointer (some ⟨sb, 4, none⟩)) rfl (by kernel_rfl) (by kernel_rfl) (by kernel_rfl) (fun _ _ _ h => h) (Or.inl ⟨by rfl, fun w hSw => by clear hSw; go_simp⟩) hH ?_
  try simp only [Act.put, List.setIfInBounds_toArray, List.set_cons_zero, List.set_cons_succ, List.getElem_toArray, List.getElem_cons_succ, List.getElem_cons_zero]
  refine wpAnyH_take (i := 6) (v := .pointer (some ⟨bb, 0, none⟩)) rfl (by kernel_rfl) (by kernel_rfl) (by kernel_rfl) (fun _ _ _ h => h) (Or.inl ⟨by rfl, fun w hSw => by obtain ⟨f0, f1, f2⟩ := HK.out _ hSw; clear hSw; go_simp⟩) hH ?_
  try simp only [Act.put, List.setIfInBounds_toArray, List.set_cons_zero, List.set_cons_succ, List.getElem_toArray, List.getElem_cons_succ, List.getElem_cons_zero]
  refine wpAnyH_take (i := 7) (v := .pointer (some ⟨bb, 0, none⟩)) rfl (by kernel_rfl) (by kernel_rfl) (by kernel_rfl) (fun _ _ _ h => h) (Or.inl ⟨by rfl, fun w hSw => by clear hSw; go_simp⟩) hH ?_
  try simp only [Act.put, List.setIfInBounds_toArray, List.set_cons_zero, List.set_cons_succ, List.getElem_toArray, List.getElem_cons_succ, List.getElem_cons_zero]
  refine wpAnyH_take (i := 8) (v := .pointer (some ⟨bb, 3, none⟩)) rfl (by kernel_rfl) (by kernel_rfl) (by kernel_rfl) (fun _ _ _ h => h) (Or.inl ⟨by rfl, fun w hSw => by clear hSw; go_simp⟩) hH ?_
  try simp only [Act.put, List.setIfInBounds_toArray, List.set_cons_zero, List.set_cons_succ, List.getElem_toArray, List.getElem_cons_succ, List.getElem_cons_zero]
  refine wpAnyH_take (i := 9) (v := .int .i64 l) rfl (by kernel_rfl) (by kernel_rfl) (by kernel_rfl) (fun _ _ _ h => h) (Or.inl ⟨by rfl, fun w hSw => by obtain ⟨f0, f1, f2⟩ := HK.out _ hSw; clear hSw; go_simp⟩) hH ?_
  try simp only [Act.put, List.setIfInBounds_toArray, List.set_cons_zero, List.set_cons_succ, List.getElem_toArray, List.getElem_cons_succ, List.getElem_cons_zero]
  refine wpAnyH_take (i := 10) (v := .slice go O.length co) rfl (by kernel_rfl) (by kernel_rfl) (by kernel_rfl) (fun _ _ _ h => h) (Or.inl ⟨by rfl, fun w hSw => by clear hSw; go_simp⟩) hH ?_
  try simp only [Act.put, List.setIfInBounds_toArray, List.set_cons_zero, List.set_cons_succ, List.getElem_toArray, List.getElem_cons_succ, List.getElem_cons_zero]
  refine wpAnyH_take (i := 11) (v := .int .i64 l) rfl (by kernel_rfl) (by kernel_rfl) (by kernel_rfl) (fun _ _ _ h => h) (Or.inl ⟨by rfl, fun w hSw => by clear hSw; go_simp⟩) hH ?_
  try simp only [Act.put, List.setIfInBounds_toArray, List.set_cons_zero, List.set_cons_succ, List.getElem_toArray, List.getElem_cons_succ, List.getElem_cons_zero]
  refine wpAnyH_take (i := 12) (v := .int .i64 0) rfl (by kernel_rfl) (by kernel_rfl) (by kernel_rfl) (fun _ _ _ h => h) (Or.inl ⟨by rfl, fun w hSw => by clear hSw; go_simp⟩) hH ?_
  try simp only [Act.put, List.setIfInBounds_toArray, List.set_cons_zero, List.set_cons_succ, List.getElem_toArray, List.getElem_cons_succ, List.getElem_cons_zero]
  refine wpAnyH_done (by kernel_rfl) ?_ _
  have HZ : Hid (w5.drew.ownsRow w.heap.size 3 1 (.slice go O.length co) O.length (inV O) ∧ Below w.heap.size w w5.drew) := ⟨row_of HR5.out (fun x hx => (below_drew w5).block x (row_lt HR5.out x hx).2), chain HB5.out (below_drew _)⟩
  clear hH HK HR5 HB5
  go_wp2
  go_ret3
  exact ⟨go, co, rfl, HZ.out.1, HZ.out.2⟩
def bpL (a p g : Int) (rs : List RPt) : List Int := if bpC a p g rs = 0 then bpO p g rs else []
def bpN (a p g : Int) (rs : List RPt) : Int := if bpC a p g rs = 0 then bpV p g rs else 0
theorem bp_ways (a p g : Int) (rs : List RPt) : (4096 < rs.length ∧ bpC a p g rs = 2 ∧ bpL a p g rs = [] ∧ bpN a p g rs = 0) ∨
    (rs.length ≤ 4096 ∧ 9 < rs.length ∧ bpC a p g rs = 9 ∧ bpL a p g rs = [] ∧ bpN a p g rs = 0 ∧ pkC a p g rs = 9) ∨
    (rs.length ≤ 9 ∧ (hlB a p g && spsB a p rs) = false ∧ bpC a p g rs = 1 ∧ bpL a p g rs = [] ∧ bpN a p g rs = 0 ∧ pkC a p g rs = 1) ∨
    (rs.length ≤ 9 ∧ hlB a p g = true ∧ spsB a p rs = true ∧ bpC a p g rs = 0 ∧ bpL a p g rs = bpO p g rs ∧ bpN a p g rs = bpV p g rs) := by
  unfold bpL bpN
  by_cases h1 : 4096 < rs.length
  · have e : bpC a p g rs = 2 := by unfold bpC; rw [if_pos h1]
    rw [e]; exact .inl ⟨h1, rfl, rfl, rfl⟩
  have e1 : bpC a p g rs = pkC a p g rs := by unfold bpC; rw [if_neg h1]
  rw [e1]
  by_cases h2 : 9 < rs.length
  · have e : pkC a p g rs = 9 := by unfold pkC; rw [if_pos h2]
    rw [e]; exact .inr (.inl ⟨by omega, h2, rfl, rfl, rfl, rfl⟩)
  cases h3 : (hlB a p g && spsB a p rs)
  · have e : pkC a p g rs = 1 := by unfold pkC; rw [if_neg h2, h3]; rfl
    rw [e]; exact .inr (.inr (.inl ⟨by omega, rfl, rfl, rfl, rfl, rfl⟩))
  · have e : pkC a p g rs = 0 := by unfold pkC; rw [if_neg h2, h3]; rfl
    simp only [Bool.and_eq_true] at h3
    rw [e]; exact .inr (.inr (.inr ⟨by omega, h3.1, h3.2, rfl, rfl, rfl⟩))
set_option maxHeartbeats 4000000 in
theorem implBest_any (a p g : Int) (ad : Option Addr) (cap : Nat) (rs : List RPt) (hl : rs.length ≤ 100000000) (w : World) (hr : ReadsPt w.heap.size w ad rs) :
    Calls Try.prog 8 #[.agg #[.int .i64 a, .int .i64 p, .int .i64 g], .slice ad rs.length cap] w (AnsBp w (bpL a p g rs) (bpN a p g rs) (bpC a p g rs)) := by
  have HPf : Hid (∀ W, Below w.heap.size w W → Calls Try.prog 36 #[.agg #[.int .i64 a, .int .i64 p, .int .i64 g], .slice ad rs.length cap] W fun e w' => e = .returned (.int .i64 (pkC a p g rs)) ∧ Below W.heap.size W w') := fun W hb => picksFault_any a p g ad cap rs hl W ((hr.below hb).mono hb.size)
  have HNo : Hid (∀ W : World, W.ownsRow w.heap.size 3 1 (.slice none 0 0) 0 (inV [])) := fun W => ⟨rfl, .inl ⟨rfl, rfl⟩⟩
  rcases bp_ways a p g rs with ⟨t1, e1, e2, e3⟩ | ⟨t1, t2, e1, e2, e3, e4⟩ | ⟨t1, t2, e1, e2, e3, e4⟩ | ⟨t1, t2, t3, e1, e2, e3⟩
  · rw [e1, e2, e3]
    have t1' : (4096 : Int) < (rs.length : Int) := by omega
    clear hr e1 e2 e3 t1 HPf
    go_enter Try.func8, Try.ntmps8
    go_wp2
    go_ret3
    exact ⟨none, 0, rfl, HNo.out _, below_alloc _ _⟩
  · rw [e1, e2, e3]
    rw [e4] at HPf
    have t1' : ¬ (4096 : Int) < (rs.length : Int) := by omega
    clear hr e1 e2 e3 e4 t1 t2
    go_enter Try.func8, Try.ntmps8
    go_wp2_with fail
    (first | go_at_call 36 | skip)
    refine (HPf.out _ (below_alloc _ _)).mono ?_
    rintro e w2 ⟨rfl, hb2⟩
    go_wp2
    go_ret3
    exact ⟨none, 0, rfl, HNo.out _, chain (below_alloc _ _) hb2⟩
  · rw [e1, e2, e3]
    rw [e4] at HPf
    have t1' : ¬ (4096 : Int) < (rs.length : Int) := by omega
    clear hr e1 e2 e3 e4 t1 t2
    go_enter Try.func8, Try.ntmps8
    go_wp2_with fail
    (first | go_at_call 36 | skip)
    refine (HPf.out _ (below_alloc _ _)).mono ?_
    rintro e w2 ⟨rfl, hb2⟩
    go_wp2
    go_ret3
    exact ⟨none, 0, rfl, HNo.out _, chain (below_alloc _ _) hb2⟩
  · rw [e1, e2, e3]
    exact implBest_ok a p g ad cap rs t1 t2 t3 w hr
end Go.Proofs.Ythmhpgbkapjjkaa

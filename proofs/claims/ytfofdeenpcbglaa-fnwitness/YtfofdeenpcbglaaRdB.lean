/-
  Contracts of the program's clausesFault, Decide.
-/
import Derived.Test.YtfofdeenpcbglaaRdA
import Derived.Test.YtfofdeenpcbglaaRfA
namespace Go.Proofs.Ytfofdeenpcbglaa
open Go.ChangeShapes Go.WideShapes Go.ChangeAt Go.RowKit Go.Deep
set_option linter.unusedVariables false

/-- The number of the first that p holds of, below 0 if there is none. -/
def fidx (p : CCl → Bool) : List CCl → Int
  | [] => -1
  | c :: cs => if p c = true then 0 else if fidx p cs < 0 then -1 else fidx p cs + 1
theorem fidx_at (p : CCl → Bool) : ∀ (rs : List CCl) (k : Nat), k < rs.length → (rs.take k).all (fun c => !p c) = true → p (rs.getD k zCl) = true → fidx p rs = (k : Int)
  | [], k, h, _, _ => by simp at h
  | c :: cs, 0, _, _, h => by
    have : p c = true := by simpa using h
    unfold fidx; rw [if_pos this]; rfl
  | c :: cs, k + 1, h, h1, h2 => by
    have hc : p c = false := by simp at h1; exact h1.1
    have ih := fidx_at p cs k (by simpa using h) (by simp at h1; simpa using h1.2) (by simpa using h2)
    unfold fidx
    rw [if_neg (by rw [hc]; simp), ih, if_neg (by omega)]
    omega
theorem fidx_none (p : CCl → Bool) : ∀ (rs : List CCl), rs.all (fun c => !p c) = true → fidx p rs = -1
  | [], _ => rfl
  | c :: cs, h => by
    have hc : p c = false := by simp at h; exact h.1
    have ih := fidx_none p cs (by simp at h; simpa using h.2)
    unfold fidx
    rw [if_neg (by rw [hc]; simp), ih, if_pos (by omega)]
/-- Facts lie in block b. -/
def FcAt (w : World) (b : Nat) (x1 x2 x3 x4 x5 : Int) : Prop := w.cell? ⟨b, 0, none⟩ = some (.int .i64 x1) ∧ w.cell? ⟨b, 1, none⟩ = some (.int .i64 x2) ∧ w.cell? ⟨b, 2, none⟩ = some (.int .i64 x3) ∧ w.cell? ⟨b, 3, none⟩ = some (.int .i64 x4) ∧ w.cell? ⟨b, 4, none⟩ = some (.int .i64 x5)
theorem FcAt.below {B : Nat} {w w' : World} {b : Nat} {x1 x2 x3 x4 x5 : Int} (h : FcAt w b x1 x2 x3 x4 x5) (hb : Below B w w') (hB : b < B) : FcAt w' b x1 x2 x3 x4 x5 := by
  obtain ⟨h0, h1, h2, h3, h4⟩ := h
  exact ⟨(hb.cell (p := ⟨b, 0, none⟩) hB).trans h0, (hb.cell (p := ⟨b, 1, none⟩) hB).trans h1, (hb.cell (p := ⟨b, 2, none⟩) hB).trans h2, (hb.cell (p := ⟨b, 3, none⟩) hB).trans h3, (hb.cell (p := ⟨b, 4, none⟩) hB).trans h4⟩
theorem FcAt.lt {w : World} {b : Nat} {x1 x2 x3 x4 x5 : Int} (h : FcAt w b x1 x2 x3 x4 x5) : b < w.heap.size := World.block_lt_of_cell? _ _ h.1
theorem FcAt.later {w w' : World} {b : Nat} {x1 x2 x3 x4 x5 : Int} (h : FcAt w b x1 x2 x3 x4 x5) (hb : Below w.heap.size w w') : FcAt w' b x1 x2 x3 x4 x5 := h.below hb h.lt
theorem FcAt.new (w : World) (x1 x2 x3 x4 x5 : Int) : FcAt (w.alloc (.cells #[.int .i64 x1, .int .i64 x2, .int .i64 x3, .int .i64 x4, .int .i64 x5] 28)) w.heap.size x1 x2 x3 x4 x5 :=
  ⟨cellNew _ _ _ _ rfl rfl, cellNew _ _ _ _ rfl rfl, cellNew _ _ _ _ rfl rfl, cellNew _ _ _ _ rfl rfl, cellNew _ _ _ _ rfl rfl⟩
set_option maxHeartbeats 4000000 in
theorem decideFn_any (c : CCl) (h : Option Addr) (cp : Nat) (hok : c.ts.all tmB = true) (hl : c.ts.length ≤ 100000000) (fb : Nat) (x1 x2 x3 x4 x5 : Int) (w : World) (hr : ReadsTm w.heap.size w h c.ts) (hf : FcAt w fb x1 x2 x3 x4 x5) :
    Calls Try.prog 20 #[.agg #[.string c.nm, .slice h c.ts.length cp, .int .i64 c.ac, .int .i64 c.nu], .pointer (some ⟨fb, 0, none⟩)] w fun e w' => e = .returned (.bool (hasL (rm c.ts) [0, x1, x2, x3, x4, x5])) ∧ Below w.heap.size w w' := by
  obtain ⟨nm, ts, ac, nu⟩ := c
  dsimp only at *
  have HR : Hid (∀ W, Below (w.alloc (Obj.cells #[.string nm, .slice h ts.length cp, .int .i64 ac, .int .i64 nu] 25)).heap.size (w.alloc (Obj.cells #[.string nm, .slice h ts.length cp, .int .i64 ac, .int .i64 nu] 25)) W → Calls Try.prog 12 #[.slice h ts.length cp] W fun e w' => e = .returned (.agg (rowI (rm ts))) ∧ Below W.heap.size W w') := fun W hW => roomOf_any h cp ts hok hl W (hr.later (chain (below_alloc _ _) hW))
  have HS : Hid (∀ W, Below (w.alloc (Obj.cells #[.string nm, .slice h ts.length cp, .int .i64 ac, .int .i64 nu] 25)).heap.size (w.alloc (Obj.cells #[.string nm, .slice h ts.length cp, .int .i64 ac, .int .i64 nu] 25)) W → W.cell? ⟨w.heap.size, 1, none⟩ = some (.slice h ts.length cp) ∧ FcAt W fb x1 x2 x3 x4 x5) := fun W hW => ⟨(hW.cell (p := ⟨w.heap.size, 1, none⟩) (by simp)).trans (cellNew _ _ _ _ rfl rfl), hf.later (chain (below_alloc _ _) hW)⟩
  have HH := fun W => roomHas_any (rm ts) rfl x1 x2 x3 x4 x5 W
  clear hr hf
  generalize hasL (rm ts) [0, x1, x2, x3, x4, x5] = b at *
  generalize rowI (rm ts) = V at *
  generalize ts.length = n at *
  go_enter Try.func20, Try.ntmps20
  go_wp2
  refine wp_region_held_drew (S := fun W => Below (w.alloc (Obj.cells #[.string nm, .slice h n cp, .int .i64 ac, .int .i64 nu] 25)).heap.size (w.alloc (Obj.cells #[.string nm, .slice h n cp, .int .i64 ac, .int .i64 nu] 25)) W) (by kernel_rfl) (below_drew _) (fun hH => ?_)
  refine wpAnyH_take (i := 0) (v := .pointer (some ⟨w.heap.size, 1, none⟩)) rfl (by kernel_rfl) (by kernel_rfl) (by kernel_rfl) (fun _ _ _ h => h) (Or.inl ⟨by rfl, fun w hSw => by go_simp⟩) hH ?_
  refine wpAnyH_take (i := 1) (v := .slice h n cp) rfl (by kernel_rfl) (by kernel_rfl) (by kernel_rfl) (fun _ _ _ h => h) (Or.inl ⟨by rfl, fun w hSw => by obtain ⟨s0, _⟩ := HS.out w hSw; go_simp⟩) hH ?_
  try simp only [Act.put, List.setIfInBounds_toArray, List.set_cons_zero, List.set_cons_succ, List.getElem_toArray, List.getElem_cons_succ, List.getElem_cons_zero]
  refine wpAnyH_take (i := 3) (v := .agg #[.int .i64 x1, .int .i64 x2, .int .i64 x3, .int .i64 x4, .int .i64 x5]) rfl (by kernel_rfl) (by kernel_rfl) (by kernel_rfl) (fun _ _ _ h => h) (Or.inl ⟨by rfl, fun w hSw => by obtain ⟨_, s0, s1, s2, s3, s4⟩ := HS.out w hSw; go_simp⟩) hH ?_
  try simp only [Act.put, List.setIfInBounds_toArray, List.set_cons_zero, List.set_cons_succ, List.getElem_toArray, List.getElem_cons_succ, List.getElem_cons_zero]
  refine wpAnyH_ready (rs := [2]) (by kernel_rfl) (by simp) ?_
  refine AllReadyH.cons rfl (fun K hK => ?_) AllReadyH.nil
  go_simp
  go_at_call 12
  refine (HR.out _ hH).mono ?_
  rintro e w2 ⟨rfl, hb2⟩
  have hw2 := chain hH hb2
  refine hK.out _ _ hw2 (fun _ => ?_)
  clear hK K
  try simp only [Act.put, List.setIfInBounds_toArray, List.set_cons_zero, List.set_cons_succ, List.getElem_toArray, List.getElem_cons_succ, List.getElem_cons_zero]
  refine wpAnyH_ready (rs := [4]) (by kernel_rfl) (by simp) ?_
  refine AllReadyH.cons rfl (fun K hK => ?_) AllReadyH.nil
  go_simp
  go_at_call 18
  refine (HH _).mono ?_
  rintro e w3 ⟨rfl, hb3⟩
  have hw3 := chain hw2 hb3
  refine hK.out _ _ hw3 (fun _ => ?_)
  clear hK K
  try simp only [Act.put, List.setIfInBounds_toArray, List.set_cons_zero, List.set_cons_succ, List.getElem_toArray, List.getElem_cons_succ, List.getElem_cons_zero]
  refine wpAnyH_take (i := 5) (v := .bool b) rfl (by kernel_rfl) (by kernel_rfl) (by kernel_rfl) (fun _ _ _ h => h) (Or.inl ⟨by rfl, fun w hSw => by go_simp⟩) hw3 ?_
  try simp only [Act.put, List.setIfInBounds_toArray, List.set_cons_zero, List.set_cons_succ, List.getElem_toArray, List.getElem_cons_succ, List.getElem_cons_zero]
  refine wpAnyH_done (by kernel_rfl) ?_ _
  try simp
  go_wp2
  go_ret
  exact ⟨rfl, chain (below_alloc _ _) hw3⟩
set_option maxHeartbeats 4000000 in
theorem decIndex_any (a : Option Addr) (cap : Nat) (rs : List CCl) (hl : rs.length ≤ 100000000) (hp : ∀ r ∈ rs, ClOK r ∧ r.ts.all tmB = true) (fb : Nat) (x1 x2 x3 x4 x5 : Int) (w : World) (hr : ReadsCl w.heap.size w a rs) (hf : FcAt w fb x1 x2 x3 x4 x5) :
    Calls Try.prog 19 #[.slice a rs.length cap, .func (.func 20) #[] #[.pointer (some ⟨fb, 0, none⟩)]] w fun e w' => e = .returned (.int .i64 (fidx (fun c => hasL (rm c.ts) [0, x1, x2, x3, x4, x5]) rs)) ∧ Below w.heap.size w w' := by
  have HR : Hid (ReadsCl w.heap.size w a rs) := hr
  have HOK : Hid (∀ r ∈ rs, ClOK r ∧ r.ts.all tmB = true) := hp
  have HFc : Hid (FcAt w fb x1 x2 x3 x4 x5) := hf
  clear hr hp hf
  generalize hfx : fidx (fun c => hasL (rm c.ts) [0, x1, x2, x3, x4, x5]) rs = fx
  have HFX : Hid (fidx (fun c => hasL (rm c.ts) [0, x1, x2, x3, x4, x5]) rs = fx) := hfx
  clear hfx
  go_enter Try.func19, Try.ntmps19
  go_wp2
  go_loopw [5, 8] (fun _ c wr => ∃ k : Nat, k ≤ rs.length ∧ c = .int .i64 (k : Int) ∧ (rs.take k).all (fun c => !hasL (rm c.ts) [0, x1, x2, x3, x4, x5]) = true ∧ Below w.heap.size w wr) (fun _ c _ => rs.length - (intOf c).toNat)
  case atStart => exact ⟨0, Nat.zero_le _, rfl, rfl, Below.refl _ _⟩
  case round =>
    obtain ⟨k, hk, rfl, hf, hb⟩ := hrel
    have HF : Hid ((rs.take k).all (fun c => !hasL (rm c.ts) [0, x1, x2, x3, x4, x5]) = true) := hf
    have HB : Hid (Below w.heap.size w wr) := hb
    clear hf hb
    by_cases hlt : k < rs.length
    · have hlt' : (k : Int) < (rs.length : Int) := by omega
      rcases HR.out with h | ⟨b0, o0, ha, hB0, ia⟩
      · rw [h] at hlt; simp at hlt
      obtain ⟨h, cp, ⟨c0, c1, c2, c3⟩, hcp, hS⟩ := (ia.below HB.out hB0 (Nat.le_refl _)) k hlt
      have hq := getCl HOK.out hlt
      have HX : Hid (hasL (rm (rs.getD k zCl).ts) [0, x1, x2, x3, x4, x5] = true → fx = (k : Int)) := fun h => HFX.out.symm.trans (fidx_at _ rs k hlt HF.out h)
      have HN : Hid (hasL (rm (rs.getD k zCl).ts) [0, x1, x2, x3, x4, x5] = false → (rs.take (k + 1)).all (fun c => !hasL (rm c.ts) [0, x1, x2, x3, x4, x5]) = true) := fun h => by rw [cls_take _ rs k hlt, HF.out, h]; rfl
      have hm := decideFn_any (rs.getD k zCl) h cp hq.2 (by have := hq.1.2; omega) fb x1 x2 x3 x4 x5 wr (hS.mono HB.out.size) (HFc.out.later HB.out)
      rw [ha]
      clear ia hS hcp hq
      generalize rs.getD k zCl = q at *
      generalize hasL (rm q.ts) [0, x1, x2, x3, x4, x5] = mb at *
      obtain ⟨nm, ts, ac, nu⟩ := q
      dsimp only at c0 c1 c2 c3 hm
      generalize ts.length = n at *
      cases mb
      · have H1 : Hid _ := HN.out rfl
        go_wp2_with (go_at_call 20; refine hm.mono ?_; rintro e w2 ⟨rfl, hb2⟩)
        exact ⟨⟨k + 1, by omega, by go_num, H1.out, chain HB.out hb2⟩, by simp [intOf]; omega⟩
      · have H1 : Hid (fx = (k : Int)) := HX.out rfl
        go_wp2_with (go_at_call 20; refine hm.mono ?_; rintro e w2 ⟨rfl, hb2⟩)
        go_ret
        exact ⟨ret_int H1.out.symm, chain HB.out hb2⟩
    · have hle : (rs.length : Int) ≤ (k : Int) := by omega
      have HE : Hid (fx = -1) := HFX.out.symm.trans <| fidx_none _ rs (by have := HF.out; rwa [List.take_of_length_le (by omega)] at this)
      go_wp2
      go_ret
      exact ⟨ret_int HE.out.symm, HB.out⟩
theorem fidx_congr {p q : CCl → Bool} : ∀ (rs : List CCl), (∀ c ∈ rs, p c = q c) → fidx p rs = fidx q rs
  | [], _ => rfl
  | c :: cs, h => by
    have ih := fidx_congr cs (fun x hx => h x (List.mem_cons_of_mem _ hx))
    unfold fidx
    rw [h c List.mem_cons_self, ih]
/-- What Decide answers: the number, the code. -/
def decN (rs : List CCl) (F : List Int) : Int := if fltC rs ≠ 0 then 0 else if hasL (rm []) F = false then 0 else if fidx (fun c => fireB F c.ts) rs < 0 then 0 else fidx (fun c => fireB F c.ts) rs
def decC (rs : List CCl) (F : List Int) : Int := if fltC rs ≠ 0 then fltC rs else if hasL (rm []) F = false then 5 else if fidx (fun c => fireB F c.ts) rs < 0 then 8 else 0
theorem decideWays (rs : List CCl) (F : List Int) : (fltC rs ≠ 0 ∧ decN rs F = 0 ∧ decC rs F = fltC rs) ∨ (fltC rs = 0 ∧ hasL (rm []) F = false ∧ decN rs F = 0 ∧ decC rs F = 5) ∨ (fltC rs = 0 ∧ hasL (rm []) F = true ∧ ((fidx (fun c => fireB F c.ts) rs < 0 ∧ decN rs F = 0 ∧ decC rs F = 8) ∨ (0 ≤ fidx (fun c => fireB F c.ts) rs ∧ decN rs F = fidx (fun c => fireB F c.ts) rs ∧ decC rs F = 0))) := by
  unfold decN decC
  by_cases h : fltC rs = 0
  · cases hh : hasL (rm []) F
    · exact .inr (.inl ⟨h, rfl, by simp, by simp [h]⟩)
    · refine .inr (.inr ⟨h, rfl, ?_⟩)
      by_cases h2 : fidx (fun c => fireB F c.ts) rs < 0
      · exact .inl ⟨h2, by simp [h2], by simp [h, h2]⟩
      · exact .inr ⟨by omega, by simp [h, h2], by simp [h, h2]⟩
  · exact .inl ⟨h, by simp [h], by simp [h]⟩
theorem fltC_zero {rs : List CCl} (h : fltC rs = 0) : clAll rs = true := by
  rcases fltC_ways rs with ⟨_, h1⟩ | ⟨_, _, h1⟩ | ⟨_, h1, _⟩
  · omega
  · omega
  · exact h1
set_option maxHeartbeats 4000000 in
theorem implDecide_any (a : Option Addr) (cap : Nat) (rs : List CCl) (hl : rs.length ≤ 100000000) (hp : ∀ r ∈ rs, ClOK r) (x1 x2 x3 x4 x5 : Int) (w : World) (hr : ReadsCl w.heap.size w a rs) :
    Calls Try.prog 6 #[.slice a rs.length cap, .agg #[.int .i64 x1, .int .i64 x2, .int .i64 x3, .int .i64 x4, .int .i64 x5]] w fun e w' => e = .returned (.tuple #[.int .i64 (decN rs [0, x1, x2, x3, x4, x5]), .int .i64 (decC rs [0, x1, x2, x3, x4, x5])]) ∧ Below w.heap.size w w' := by
  have HC : Hid (∀ W, Below w.heap.size w W → Calls Try.prog 16 #[.slice a rs.length cap] W fun e w' => e = .returned (.int .i64 (fltC rs)) ∧ Below W.heap.size W w') := fun W hb => clausesFault_any a cap rs hl hp W (hr.later hb)
  have HI : Hid (fltC rs = 0 → hasL (rm []) [0, x1, x2, x3, x4, x5] = true → ∀ W fb, Below w.heap.size w W → FcAt W fb x1 x2 x3 x4 x5 → Calls Try.prog 19 #[.slice a rs.length cap, .func (.func 20) #[] #[.pointer (some ⟨fb, 0, none⟩)]] W fun e w' => e = .returned (.int .i64 (fidx (fun c => fireB [0, x1, x2, x3, x4, x5] c.ts) rs)) ∧ Below W.heap.size W w') := fun h0 h1 W fb hb hf => by
    have hm := clAll_mem (fltC_zero h0)
    have := decIndex_any a cap rs hl (fun r hr => ⟨hp r hr, clOne_terms (hm r hr)⟩) fb x1 x2 x3 x4 x5 W (hr.later hb) hf
    rw [fidx_congr rs (fun c hc => has_fires c.ts [0, x1, x2, x3, x4, x5] rfl (List.all_eq_true.mp (clOne_terms (hm c hc))) h1)] at this
    exact this
  have hw := decideWays rs [0, x1, x2, x3, x4, x5]
  have HR0 := fun W => wholeRoom_any W
  have HH := fun W => roomHas_any (rm []) rfl x1 x2 x3 x4 x5 W
  clear hr hp
  generalize decN rs [0, x1, x2, x3, x4, x5] = dn at *
  generalize decC rs [0, x1, x2, x3, x4, x5] = dc at *
  generalize fidx (fun c => fireB [0, x1, x2, x3, x4, x5] c.ts) rs = fx at *
  generalize fltC rs = fc at *
  generalize hasL (rm []) [0, x1, x2, x3, x4, x5] = hb0 at *
  generalize rowI (rm []) = V at *
  generalize rs.length = n at *
  have HS : Hid (∀ W, Below (w.alloc (Obj.cells #[.int .i64 x1, .int .i64 x2, .int .i64 x3, .int .i64 x4, .int .i64 x5] 28)).heap.size (w.alloc (Obj.cells #[.int .i64 x1, .int .i64 x2, .int .i64 x3, .int .i64 x4, .int .i64 x5] 28)) W → FcAt W w.heap.size x1 x2 x3 x4 x5) := fun W hW => (FcAt.new w x1 x2 x3 x4 x5).below hW (by simp)
  rcases hw with ⟨h1, rfl, rfl⟩ | ⟨rfl, rfl, rfl, rfl⟩ | ⟨rfl, rfl, hw⟩
  · go_enter Try.func6, Try.ntmps6
    go_wp2_with (go_at_call 16; refine (HC.out _ (below_alloc _ _)).mono ?_; rintro e w2 ⟨rfl, hb2⟩)
    go_ret2
    exact ⟨rfl, chain (below_alloc _ _) hb2⟩
  · go_enter Try.func6, Try.ntmps6
    go_wp2_with (go_at_call 16; refine (HC.out _ (below_alloc _ _)).mono ?_; rintro e w2 ⟨rfl, hb2⟩; have hw2 : Below _ _ w2 := hb2)
    refine wp_region_held_drew (S := fun W => Below (w.alloc (Obj.cells #[.int .i64 x1, .int .i64 x2, .int .i64 x3, .int .i64 x4, .int .i64 x5] 28)).heap.size (w.alloc (Obj.cells #[.int .i64 x1, .int .i64 x2, .int .i64 x3, .int .i64 x4, .int .i64 x5] 28)) W) (by kernel_rfl) (chain hw2 (below_drew _)) (fun hH => ?_)
    refine wpAnyH_take (i := 1) (v := .agg #[.int .i64 x1, .int .i64 x2, .int .i64 x3, .int .i64 x4, .int .i64 x5]) rfl (by kernel_rfl) (by kernel_rfl) (by kernel_rfl) (fun _ _ _ h => h) (Or.inl ⟨by rfl, fun w hSw => by obtain ⟨s0, s1, s2, s3, s4⟩ := HS.out w hSw; go_simp⟩) hH ?_
    refine wpAnyH_ready (rs := [0]) (by kernel_rfl) (by simp) ?_
    refine AllReadyH.cons rfl (fun K hK => ?_) AllReadyH.nil
    go_simp
    go_at_call 17
    refine (HR0 _).mono ?_
    rintro e w3 ⟨rfl, hb3⟩
    have hw3 := chain hH hb3
    refine hK.out _ _ hw3 (fun _ => ?_)
    clear hK K
    try simp only [Act.put, List.setIfInBounds_toArray, List.set_cons_zero, List.set_cons_succ, List.getElem_toArray, List.getElem_cons_succ, List.getElem_cons_zero]
    refine wpAnyH_ready (rs := [2]) (by kernel_rfl) (by simp) ?_
    refine AllReadyH.cons rfl (fun K hK => ?_) AllReadyH.nil
    go_simp
    go_at_call 18
    refine (HH _).mono ?_
    rintro e w4 ⟨rfl, hb4⟩
    have hw4 := chain hw3 hb4
    refine hK.out _ _ hw4 (fun _ => ?_)
    clear hK K
    try simp only [Act.put, List.setIfInBounds_toArray, List.set_cons_zero, List.set_cons_succ, List.getElem_toArray, List.getElem_cons_succ, List.getElem_cons_zero]
    refine wpAnyH_take (i := 3) (v := .bool true) rfl (by kernel_rfl) (by kernel_rfl) (by kernel_rfl) (fun _ _ _ h => h) (Or.inl ⟨by rfl, fun w hSw => by go_simp⟩) hw4 ?_
    try simp only [Act.put, List.setIfInBounds_toArray, List.set_cons_zero, List.set_cons_succ, List.getElem_toArray, List.getElem_cons_succ, List.getElem_cons_zero]
    refine wpAnyH_done (by kernel_rfl) ?_ _
    try simp
    go_wp2
    go_ret2
    exact ⟨rfl, chain (below_alloc _ _) hw4⟩
  · have HI2 : Hid _ := HI.out rfl rfl
    clear HI
    go_enter Try.func6, Try.ntmps6
    go_wp2_with (go_at_call 16; refine (HC.out _ (below_alloc _ _)).mono ?_; rintro e w2 ⟨rfl, hb2⟩; have hw2 : Below _ _ w2 := hb2)
    refine wp_region_held_drew (S := fun W => Below (w.alloc (Obj.cells #[.int .i64 x1, .int .i64 x2, .int .i64 x3, .int .i64 x4, .int .i64 x5] 28)).heap.size (w.alloc (Obj.cells #[.int .i64 x1, .int .i64 x2, .int .i64 x3, .int .i64 x4, .int .i64 x5] 28)) W) (by kernel_rfl) (chain hw2 (below_drew _)) (fun hH => ?_)
    refine wpAnyH_take (i := 1) (v := .agg #[.int .i64 x1, .int .i64 x2, .int .i64 x3, .int .i64 x4, .int .i64 x5]) rfl (by kernel_rfl) (by kernel_rfl) (by kernel_rfl) (fun _ _ _ h => h) (Or.inl ⟨by rfl, fun w hSw => by obtain ⟨s0, s1, s2, s3, s4⟩ := HS.out w hSw; go_simp⟩) hH ?_
    refine wpAnyH_ready (rs := [0]) (by kernel_rfl) (by simp) ?_
    refine AllReadyH.cons rfl (fun K hK => ?_) AllReadyH.nil
    go_simp
    go_at_call 17
    refine (HR0 _).mono ?_
    rintro e w3 ⟨rfl, hb3⟩
    have hw3 := chain hH hb3
    refine hK.out _ _ hw3 (fun _ => ?_)
    clear hK K
    try simp only [Act.put, List.setIfInBounds_toArray, List.set_cons_zero, List.set_cons_succ, List.getElem_toArray, List.getElem_cons_succ, List.getElem_cons_zero]
    refine wpAnyH_ready (rs := [2]) (by kernel_rfl) (by simp) ?_
    refine AllReadyH.cons rfl (fun K hK => ?_) AllReadyH.nil
    go_simp
    go_at_call 18
    refine (HH _).mono ?_
    rintro e w4 ⟨rfl, hb4⟩
    have hw4 := chain hw3 hb4
    refine hK.out _ _ hw4 (fun _ => ?_)
    clear hK K
    try simp only [Act.put, List.setIfInBounds_toArray, List.set_cons_zero, List.set_cons_succ, List.getElem_toArray, List.getElem_cons_succ, List.getElem_cons_zero]
    refine wpAnyH_take (i := 3) (v := .bool false) rfl (by kernel_rfl) (by kernel_rfl) (by kernel_rfl) (fun _ _ _ h => h) (Or.inl ⟨by rfl, fun w hSw => by go_simp⟩) hw4 ?_
    try simp only [Act.put, List.setIfInBounds_toArray, List.set_cons_zero, List.set_cons_succ, List.getElem_toArray, List.getElem_cons_succ, List.getElem_cons_zero]
    refine wpAnyH_done (by kernel_rfl) ?_ _
    try simp
    have HB4 : Hid (Below w.heap.size w w4) := chain (below_alloc _ _) hw4
    have HF4 : Hid (FcAt w4 w.heap.size x1 x2 x3 x4 x5) := HS.out _ hw4
    clear hw4 hw3 hw2 hH hb2 hb3 hb4 HS HC
    rcases hw with ⟨g1, rfl, rfl⟩ | ⟨g1, rfl, rfl⟩
    · go_wp2_with (go_at_call 19; refine (HI2.out _ _ HB4.out HF4.out).mono ?_; rintro e w5 ⟨rfl, hb5⟩)
      go_ret2
      exact ⟨rfl, chain HB4.out hb5⟩
    · go_wp2_with (go_at_call 19; refine (HI2.out _ _ HB4.out HF4.out).mono ?_; rintro e w5 ⟨rfl, hb5⟩)
      go_ret2
      exact ⟨rfl, chain HB4.out hb5⟩
end Go.Proofs.Ytfofdeenpcbglaa

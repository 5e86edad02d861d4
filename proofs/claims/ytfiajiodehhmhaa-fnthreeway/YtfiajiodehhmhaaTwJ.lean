/-
  Contract of the specification's l00Sort: texts in their order, each once.
-/
import Derived.Test.YtfiajiodehhmhaaTwI
import Derived.Test.YtfiajiodehhmhaaAppAny
namespace Go.Proofs.Ytfiajiodehhmhaa
open Go.ChangeShapes Go.WideShapes Go.ChangeAt Go.RowKit Go.Joins Go.Deep Go.Sort Go.Shelf
set_option linter.unusedVariables false

theorem row_takeS {w : World} {B g n c k : Nat} {e : TypeId} {xs : List Value} (h : w.ownsRow B e k (.slice (some ⟨g, 0, none⟩) n c) n xs) (p : Nat) (hp : p ≤ n) : w.ownsRow B e k (.slice (some ⟨g, 0, none⟩) p c) p (xs.take (p * k)) := by
  obtain ⟨h1, h2⟩ := h
  have hpk : p * k ≤ n * k := Nat.mul_le_mul_right k hp
  refine ⟨by rw [List.length_take, h1]; omega, ?_⟩
  rcases h2 with ⟨q, _⟩ | ⟨g', cap, cur, q, hB, hg, hc, hm, hs, ht⟩
  · simp at q
  · simp at q
    obtain ⟨rfl, rfl⟩ := q
    refine .inr ⟨g, c, cur, rfl, hB, hg, by omega, hm, hs, ?_⟩
    rw [← ht, List.take_take, Nat.min_eq_left hpk]
theorem own_gS {g p cp q : Nat} (h : Value.ownBlock (.slice (some ⟨g, 0, none⟩) p cp) = some q) : q = g := by
  have h : g = q := by simpa [Value.ownBlock] using h
  exact h.symm
theorem row_emptyS (w : World) (B : Nat) (hB : B ≤ w.heap.size) : (w.alloc (Obj.cells #[] 9)).ownsRow B 9 1 (.slice (some ⟨w.heap.size, 0, none⟩) 0 0) 0 [] :=
  ⟨rfl, .inr ⟨w.heap.size, 0, #[], rfl, hB, heapNew _ _, Nat.le_refl _, by unfold maxLen; omega, rfl, rfl⟩⟩
theorem strs_one (L : List ByteArray) : ∀ u ∈ L.map Value.string, u.oneCell' = true := fun u hu => by
  obtain ⟨s, _, rfl⟩ := List.mem_map.1 hu; rfl
theorem OneS.laterS {w : World} {B : Nat} {v : Value} {L : List ByteArray} {wr w' : World} (h : OneS w B v L wr) (hb : Below wr.heap.size wr w') : OneS w B v L w' :=
  ⟨row_of h.1 (fun q hq => hb.block q (row_lt h.1 q hq).2), Nat.le_trans h.2.1 hb.size, h.2.2.trans (hb.mono h.2.1)⟩
theorem OneS.glt {w : World} {B g n cp : Nat} {L : List ByteArray} {wr : World} (h : OneS w B (.slice (some ⟨g, 0, none⟩) n cp) L wr) : B ≤ g ∧ g < wr.heap.size := row_lt h.1 g rfl
theorem OneS.at {w : World} {B g cp : Nat} {L : List ByteArray} {wr : World} (h : OneS w B (.slice (some ⟨g, 0, none⟩) L.length cp) L wr) {j : Nat} (hj : j < L.length) : wr.cell? ⟨g, j, none⟩ = some (.string (L.getD j ByteArray.empty)) := by
  rw [h.1.cellAt j (by omega)]; simp [List.getD_eq_getElem?_getD, hj]
theorem strInfS : (Try.prog.info? 9).map (fun i => (i.zero, i.size, i.bytes)) = some (some (.string ⟨#[]⟩), 1, 16) := by kernel_rfl
set_option maxHeartbeats 16000000 in
set_option maxRecDepth 4000 in
theorem sortL_any (a : Option Addr) (cap : Nat) (L : List ByteArray) (hl : L.length ≤ 100000) (w : World) (hr : ReadsS w.heap.size w a L) :
    Calls Try.prog 59 #[.slice a L.length cap] w fun e w' => ∃ g cp, e = .returned (.slice (some ⟨g, 0, none⟩) (artL L).length cp) ∧ OneS w w.heap.size (.slice (some ⟨g, 0, none⟩) (artL L).length cp) (artL L) w' := by
  obtain ⟨i0, hi0, hzz⟩ := Option.map_eq_some_iff.1 strInfS
  simp only [Prod.mk.injEq] at hzz
  obtain ⟨hi0', hi1, hi2⟩ := hzz
  have HR : Hid (ReadsS w.heap.size w a L) := hr
  have H0 : Hid (OneS w w.heap.size (.slice (some ⟨w.heap.size, 0, none⟩) 0 0) [] (w.alloc (Obj.cells #[] 9))) := ⟨row_emptyS w _ (Nat.le_refl _), by simp, below_alloc _ _⟩
  have HHs : Hid (∀ (v : Option Addr) cp (out : List ByteArray) t W, out.length ≤ 100000 → ReadsS W.heap.size W v out → Calls Try.prog 102 #[.slice v out.length cp, .string t] W fun e w' => e = .returned (.bool (hasB out t)) ∧ W = w') := fun v cp out t W h1 h2 => (has_any v cp out (by omega) t W h2).mono (fun e w' h => ⟨h.1, h.2.symm⟩)
  clear hr
  go_enter Try.func59, Try.ntmps59
  go_wp2
  go_loopw [3, 4, 5, 6] (fun v c _ _ wr => ∃ (i g cp : Nat) (out : List ByteArray), i ≤ L.length ∧ c = .int .i64 (i : Int) ∧ v = .slice (some ⟨g, 0, none⟩) out.length cp ∧ SoI L i out ∧ OneS w w.heap.size (.slice (some ⟨g, 0, none⟩) out.length cp) out wr) (fun _ c _ _ _ => L.length - (intOf c).toNat)
  case atStart => exact ⟨0, w.heap.size, 0, [], by omega, rfl, rfl, ⟨List.Pairwise.nil, fun t => by simp, by simp⟩, H0.out⟩
  case round =>
    clear H0
    obtain ⟨i, g, cp, out, hiL, rfl, rfl, hso, hone⟩ := hrel
    have HSo : Hid (SoI L i out) := hso
    have HO : Hid (OneS w w.heap.size (.slice (some ⟨g, 0, none⟩) out.length cp) out wr) := hone
    have hol : out.length ≤ i := hso.len
    clear hso hone
    by_cases hi : i < L.length
    · have hi' : (i : Int) < (L.length : Int) := by omega
      rcases HR.out with h | ⟨b0, o0, ha, hB0, ia⟩
      · rw [h] at hi; simp at hi
      subst ha
      obtain ⟨x, hLx⟩ : ∃ x, L.getD i ByteArray.empty = x := ⟨_, rfl⟩
      have HX : Hid (∀ W, Below w.heap.size w W → W.cell? ⟨b0, o0 + i, none⟩ = some (.string x)) := fun W hW => by rw [← hLx]; exact (ia.below hW hB0) i hi
      have HGl : Hid (w.heap.size ≤ g) := HO.out.glt.1
      have HH := HHs.out (some ⟨g, 0, none⟩) cp out x wr (by omega) (HO.out.reads rfl)
      have c0 := HX.out wr HO.out.2.2
      cases hhas : hasB out x
      · rw [hhas] at HH
        have HHas : Hid (hasB out x = false) := hhas
        have HLx : Hid (L.getD i ByteArray.empty = x) := hLx
        clear hhas ia
        go_wp2_with fail
        (first | go_at_call 102 | skip)
        refine HH.mono ?_
        rintro e w2 ⟨rfl, rfl⟩
        clear c0 HH
        go_wp2
        obtain ⟨wo, rfl⟩ : ∃ wo, wo = wr := ⟨_, rfl⟩
        go_loopw [5] (fun c wq => ∃ p : Nat, p ≤ out.length ∧ c = .int .i64 (p : Int) ∧ (∀ j, j < p → tlB (out.getD j ByteArray.empty) < tlB x) ∧ OneS w w.heap.size (.slice (some ⟨g, 0, none⟩) out.length cp) out wq) (fun c _ => out.length - (intOf c).toNat)
        case atStart => exact ⟨0, by omega, rfl, fun j hj => by omega, HO.out⟩
        case round =>
          clear HO
          obtain ⟨p, hpl, rfl, hlo, hone⟩ := hrel
          have HLo : Hid (∀ j, j < p → tlB (out.getD j ByteArray.empty) < tlB x) := hlo
          have HS : Hid (OneS w w.heap.size (.slice (some ⟨g, 0, none⟩) out.length cp) out wr) := hone
          clear hlo hone
          go_wp2_with fail
          by_cases hpo : p < out.length
          · have hpo' : (p : Int) < (out.length : Int) := by omega
            obtain ⟨y, hy⟩ : ∃ y, out.getD p ByteArray.empty = y := ⟨_, rfl⟩
            have HC : Hid (∀ W, Below wr.heap.size wr W → W.cell? ⟨g, p, none⟩ = some (.string y) ∧ W.cell? ⟨b0, o0 + i, none⟩ = some (.string x)) := fun W hW => ⟨by rw [← hy]; exact (HS.out.laterS hW).at hpo, HX.out W (HS.out.laterS hW).2.2⟩
            obtain ⟨lb, hlb⟩ : ∃ lb, Op.bytesLess y.toList x.toList = lb := ⟨_, rfl⟩
            have HLb : Hid (decide (tlB y < tlB x) = lb) := by show _ = _; rw [← less_iff]; exact hlb
            have HY : Hid (out.getD p ByteArray.empty = y) := hy
            clear hy
            refine wp_region_held_drew (S := fun W' => Below wr.heap.size wr W') (by kernel_rfl) (below_drew _) (fun hH => ?_)
            refine wpAnyH_take (i := 0) (v := .int .i64 (p : Int)) rfl (by kernel_rfl) (by kernel_rfl) (by kernel_rfl) (fun _ _ _ h => h) (Or.inl ⟨by rfl, fun w hSw => by clear hSw; go_simp⟩) hH ?_
            refine wpAnyH_take (i := 1) (v := .slice (some ⟨g, 0, none⟩) out.length cp) rfl (by kernel_rfl) (by kernel_rfl) (by kernel_rfl) (fun _ _ _ h => h) (Or.inl ⟨by rfl, fun w hSw => by clear hSw; go_simp⟩) hH ?_
            try simp only [Act.put, List.setIfInBounds_toArray, List.set_cons_zero, List.set_cons_succ, List.getElem_toArray, List.getElem_cons_succ, List.getElem_cons_zero]
            refine wpAnyH_take (i := 2) (v := .int .i64 (out.length : Int)) rfl (by kernel_rfl) (by kernel_rfl) (by kernel_rfl) (fun _ _ _ h => h) (Or.inl ⟨by rfl, fun w hSw => by clear hSw; go_simp⟩) hH ?_
            try simp only [Act.put, List.setIfInBounds_toArray, List.set_cons_zero, List.set_cons_succ, List.getElem_toArray, List.getElem_cons_succ, List.getElem_cons_zero]
            refine wpAnyH_take (i := 3) (v := .bool true) rfl (by kernel_rfl) (by kernel_rfl) (by kernel_rfl) (fun _ _ _ h => h) (Or.inl ⟨by rfl, fun w hSw => by clear hSw; go_simp⟩) hH ?_
            try simp only [Act.put, List.setIfInBounds_toArray, List.set_cons_zero, List.set_cons_succ, List.getElem_toArray, List.getElem_cons_succ, List.getElem_cons_zero]
            refine wpAnyH_take (i := 4) (v := .bool true) rfl (by kernel_rfl) (by kernel_rfl) (by kernel_rfl) (fun _ _ _ h => h) (Or.inl ⟨by rfl, fun w hSw => by clear hSw; go_simp⟩) hH ?_
            try simp only [Act.put, List.setIfInBounds_toArray, List.set_cons_zero, List.set_cons_succ, List.getElem_toArray, List.getElem_cons_succ, List.getElem_cons_zero]
            refine wpAnyH_take (i := 5) (v := .slice (some ⟨g, 0, none⟩) out.length cp) rfl (by kernel_rfl) (by kernel_rfl) (by kernel_rfl) (fun _ _ _ h => h) (Or.inl ⟨by rfl, fun w hSw => by clear hSw; go_simp⟩) hH ?_
            try simp only [Act.put, List.setIfInBounds_toArray, List.set_cons_zero, List.set_cons_succ, List.getElem_toArray, List.getElem_cons_succ, List.getElem_cons_zero]
            refine wpAnyH_take (i := 6) (v := .int .i64 (p : Int)) rfl (by kernel_rfl) (by kernel_rfl) (by kernel_rfl) (fun _ _ _ h => h) (Or.inl ⟨by rfl, fun w hSw => by clear hSw; go_simp⟩) hH ?_
            try simp only [Act.put, List.setIfInBounds_toArray, List.set_cons_zero, List.set_cons_succ, List.getElem_toArray, List.getElem_cons_succ, List.getElem_cons_zero]
            refine wpAnyH_take (i := 7) (v := .pointer (some ⟨g, p, none⟩)) rfl (by kernel_rfl) (by kernel_rfl) (by kernel_rfl) (fun _ _ _ h => h) (Or.inl ⟨by rfl, fun w hSw => by clear hSw; go_simp⟩) hH ?_
            try simp only [Act.put, List.setIfInBounds_toArray, List.set_cons_zero, List.set_cons_succ, List.getElem_toArray, List.getElem_cons_succ, List.getElem_cons_zero]
            refine wpAnyH_take (i := 8) (v := .string y) rfl (by kernel_rfl) (by kernel_rfl) (by kernel_rfl) (fun _ _ _ h => h) (Or.inl ⟨by rfl, fun w hSw => by have f0 := (HC.out w hSw).1; clear hSw; go_simp⟩) hH ?_
            try simp only [Act.put, List.setIfInBounds_toArray, List.set_cons_zero, List.set_cons_succ, List.getElem_toArray, List.getElem_cons_succ, List.getElem_cons_zero]
            refine wpAnyH_take (i := 9) (v := .slice (some ⟨b0, o0, none⟩) L.length cap) rfl (by kernel_rfl) (by kernel_rfl) (by kernel_rfl) (fun _ _ _ h => h) (Or.inl ⟨by rfl, fun w hSw => by clear hSw; go_simp⟩) hH ?_
            try simp only [Act.put, List.setIfInBounds_toArray, List.set_cons_zero, List.set_cons_succ, List.getElem_toArray, List.getElem_cons_succ, List.getElem_cons_zero]
            refine wpAnyH_take (i := 10) (v := .int .i64 (i : Int)) rfl (by kernel_rfl) (by kernel_rfl) (by kernel_rfl) (fun _ _ _ h => h) (Or.inl ⟨by rfl, fun w hSw => by clear hSw; go_simp⟩) hH ?_
            try simp only [Act.put, List.setIfInBounds_toArray, List.set_cons_zero, List.set_cons_succ, List.getElem_toArray, List.getElem_cons_succ, List.getElem_cons_zero]
            refine wpAnyH_take (i := 11) (v := .pointer (some ⟨b0, o0 + i, none⟩)) rfl (by kernel_rfl) (by kernel_rfl) (by kernel_rfl) (fun _ _ _ h => h) (Or.inl ⟨by rfl, fun w hSw => by clear hSw; go_simp⟩) hH ?_
            try simp only [Act.put, List.setIfInBounds_toArray, List.set_cons_zero, List.set_cons_succ, List.getElem_toArray, List.getElem_cons_succ, List.getElem_cons_zero]
            refine wpAnyH_take (i := 12) (v := .string x) rfl (by kernel_rfl) (by kernel_rfl) (by kernel_rfl) (fun _ _ _ h => h) (Or.inl ⟨by rfl, fun w hSw => by have f0 := (HC.out w hSw).2; clear hSw; go_simp⟩) hH ?_
            try simp only [Act.put, List.setIfInBounds_toArray, List.set_cons_zero, List.set_cons_succ, List.getElem_toArray, List.getElem_cons_succ, List.getElem_cons_zero]
            refine wpAnyH_take (i := 13) (v := .bool lb) rfl (by kernel_rfl) (by kernel_rfl) (by kernel_rfl) (fun _ _ _ h => h) (Or.inl ⟨by rfl, fun w hSw => by clear hSw; go_simp⟩) hH ?_
            try simp only [Act.put, List.setIfInBounds_toArray, List.set_cons_zero, List.set_cons_succ, List.getElem_toArray, List.getElem_cons_succ, List.getElem_cons_zero]
            refine wpAnyH_take (i := 14) (v := .bool lb) rfl (by kernel_rfl) (by kernel_rfl) (by kernel_rfl) (fun _ _ _ h => h) (Or.inl ⟨by rfl, fun w hSw => by clear hSw; go_simp⟩) hH ?_
            try simp only [Act.put, List.setIfInBounds_toArray, List.set_cons_zero, List.set_cons_succ, List.getElem_toArray, List.getElem_cons_succ, List.getElem_cons_zero]
            refine wpAnyH_done (by kernel_rfl) ?_ _
            have HS2 : Hid (OneS w w.heap.size (.slice (some ⟨g, 0, none⟩) out.length cp) out wr.drew) := HS.out.laterS (below_drew _)
            clear HS HC hH hlb
            generalize wr.drew = wd at *
            cases lb
            · have HHi : p < out.length → ¬ tlB (out.getD p ByteArray.empty) < tlB x := fun _ => by rw [HY.out]; exact of_decide_eq_false HLb.out
              clear HLb HY hpo hpo'
              have HPut : Hid (SoI L (i + 1) (putS out p x)) := HSo.out.put hi hLx HHas.out hpl HLo.out HHi
              have hput := putS_len (L := out) (p := p) x hpl
              have HPl : Hid ((putS out p x).length = out.length + 1) := hput
              have hcp : out.length ≤ cp := HS2.out.cap
              obtain ⟨o8, ho8⟩ : ∃ o8 : Nat, o8 = if cp = p then 0 else p := ⟨_, rfl⟩
              have hof : (if cp = p then (some (⟨g, 0, none⟩ : Addr)) else some ⟨g, p, none⟩) = some ⟨g, o8, none⟩ := by rw [ho8]; split <;> rfl
              have hp1 : (p : Int) ≤ (out.length : Int) := by omega
              have hp2 : (p : Int) ≤ (cp : Int) := by omega
              obtain ⟨We, hWe⟩ : ∃ We, We = wd.alloc (Obj.cells #[] 9) := ⟨_, rfl⟩
              have HWe : Hid (We = wd.alloc (Obj.cells #[] 9)) := hWe
              have HRe : Hid (We.ownsRow wd.heap.size 9 1 (.slice (some ⟨wd.heap.size, 0, none⟩) 0 0) 0 []) := by rw [hWe]; exact row_emptyS wd _ (Nat.le_refl _)
              have HSe : Hid (OneS w w.heap.size (.slice (some ⟨g, 0, none⟩) out.length cp) out We) := by rw [hWe]; exact HS2.out.alloc _
              have HNw : Hid (0 < out.length - p → ∃ ad, (some (⟨g, o8, none⟩ : Addr)) = some ad ∧ ∀ j u, ((out.drop p).map Value.string)[j]? = some u → We.cell? (ad.add j) = some u) := fun h0 => ⟨_, rfl, by
                have ho : o8 = p := by rw [ho8, if_neg (by omega)]
                rw [ho]
                refine row_part HSe.out.1 p _ (fun j u hj => ?_)
                rw [List.map_drop, List.getElem?_drop] at hj
                exact hj⟩
              have hgd := HS2.out.glt
              have hzW : wd.heap.size ≤ We.heap.size := by rw [hWe]; simp
              have HWd : Hid (w.heap.size ≤ wd.heap.size) := HS2.out.2.1
              clear hWe ho8 HS2
              go_wp2_with (at_builtin; rw [← HWe.out]; refine wpList_append_any rfl _ _ 67 rfl wd.heap.size 9 i0 (.string ⟨#[]⟩) 1 16 Try.underlying67 hi0 hi0' hi1 hi2 rfl (by decide) _ _ _ rfl HRe.out (some ⟨g, o8, none⟩) (out.length - p) (cp - p) ((out.drop p).map Value.string) (by simp [Act.eval]) (by rw [List.length_map, List.length_drop, Nat.mul_one]) HNw.out (strs_one _) (by unfold maxLen; omega) (by omega) hzW ?_; intro va vc w5 hown hgr hat; have HR5 : Hid (w5.ownsRow wd.heap.size 9 1 (.slice va (0 + (out.length - p)) vc) (0 + (out.length - p)) ([] ++ (out.drop p).map Value.string)) := hown; have HG5 : Hid (We.grownBy w5 (some wd.heap.size)) := hgr; clear hown hgr hat)
              have hz5 : wd.heap.size < w5.heap.size := by
                have h1 := HG5.out.size
                have h2 : wd.heap.size < We.heap.size := by rw [HWe.out]; simp
                omega
              have HS5 : Hid (OneS w w.heap.size (.slice (some ⟨g, 0, none⟩) out.length cp) out w5) := by
                have f := fr_grown HG5.out
                refine ⟨row_of HSe.out.1 (fun k hk => f.block k (row_lt HSe.out.1 k hk).2 (fun e => ?_)), Nat.le_trans HSe.out.2.1 f.size, HSe.out.2.2.grown HG5.out HSe.out.2.1 (fun q hq => ?_)⟩
                · have h1 : g = k := by simpa [Value.ownBlock] using hk
                  have h2 : wd.heap.size = k := by simpa using e
                  omega
                · have h2 : wd.heap.size = q := by simpa using hq
                  have := HWd.out
                  omega
              have HRs : Hid (w5.ownsRow wd.heap.size 9 1 (.slice va (out.length - p) vc) (out.length - p) ((out.drop p).map Value.string)) := by have h := HR5.out; rw [Nat.zero_add, List.nil_append] at h; exact h
              have HB5 : Hid (Below w.heap.size w w5) := HS5.out.2.2
              clear HRe HSe HNw HR5 HG5 HWe hzW
              have HVl : Hid (∀ q, Value.ownBlock (.slice va (out.length - p) vc) = some q → wd.heap.size ≤ q ∧ q < w5.heap.size) := fun q hq => row_lt HRs.out q hq
              have HQ : Hid (∀ W, Fr (fun q => q = g) w5 W → W.cell? ⟨b0, o0 + i, none⟩ = some (.string x)) := fun W hW => by
                have h1 := HX.out w5 HB5.out
                exact (World.cell?_of_block (a := ⟨b0, o0 + i, none⟩) (hW.block b0 (Nat.lt_of_lt_of_le hB0 HB5.out.size) (fun e => by have := HGl.out; omega))).trans h1
              refine wp_region_held_drew (S := fun W' => Fr (fun q => q = g) w5 W') (by kernel_rfl) (Fr.of (below_drew _)) (fun hH => ?_)
              refine wpAnyH_take (i := 0) (v := .slice (some ⟨g, 0, none⟩) out.length cp) rfl (by kernel_rfl) (by kernel_rfl) (by kernel_rfl) (fun _ _ _ h => h) (Or.inl ⟨by rfl, fun w hSw => by clear hSw; go_simp⟩) hH ?_
              refine wpAnyH_take (i := 1) (v := .int .i64 (p : Int)) rfl (by kernel_rfl) (by kernel_rfl) (by kernel_rfl) (fun _ _ _ h => h) (Or.inl ⟨by rfl, fun w hSw => by clear hSw; go_simp⟩) hH ?_
              try simp only [Act.put, List.setIfInBounds_toArray, List.set_cons_zero, List.set_cons_succ, List.getElem_toArray, List.getElem_cons_succ, List.getElem_cons_zero]
              refine wpAnyH_take (i := 2) (v := .slice (some ⟨g, 0, none⟩) p cp) rfl (by kernel_rfl) (by kernel_rfl) (by kernel_rfl) (fun _ _ _ h => h) (Or.inl ⟨by rfl, fun w hSw => by clear hSw; go_simp⟩) hH ?_
              try simp only [Act.put, List.setIfInBounds_toArray, List.set_cons_zero, List.set_cons_succ, List.getElem_toArray, List.getElem_cons_succ, List.getElem_cons_zero]
              refine wpAnyH_take (i := 3) (v := .slice (some ⟨b0, o0, none⟩) L.length cap) rfl (by kernel_rfl) (by kernel_rfl) (by kernel_rfl) (fun _ _ _ h => h) (Or.inl ⟨by rfl, fun w hSw => by clear hSw; go_simp⟩) hH ?_
              try simp only [Act.put, List.setIfInBounds_toArray, List.set_cons_zero, List.set_cons_succ, List.getElem_toArray, List.getElem_cons_succ, List.getElem_cons_zero]
              refine wpAnyH_take (i := 4) (v := .int .i64 (i : Int)) rfl (by kernel_rfl) (by kernel_rfl) (by kernel_rfl) (fun _ _ _ h => h) (Or.inl ⟨by rfl, fun w hSw => by clear hSw; go_simp⟩) hH ?_
              try simp only [Act.put, List.setIfInBounds_toArray, List.set_cons_zero, List.set_cons_succ, List.getElem_toArray, List.getElem_cons_succ, List.getElem_cons_zero]
              refine wpAnyH_take (i := 5) (v := .pointer (some ⟨b0, o0 + i, none⟩)) rfl (by kernel_rfl) (by kernel_rfl) (by kernel_rfl) (fun _ _ _ h => h) (Or.inl ⟨by rfl, fun w hSw => by clear hSw; go_simp⟩) hH ?_
              try simp only [Act.put, List.setIfInBounds_toArray, List.set_cons_zero, List.set_cons_succ, List.getElem_toArray, List.getElem_cons_succ, List.getElem_cons_zero]
              refine wpAnyH_take (i := 6) (v := .string x) rfl (by kernel_rfl) (by kernel_rfl) (by kernel_rfl) (fun _ _ _ h => h) (Or.inl ⟨by rfl, fun w hSw => by have f0 := HQ.out w hSw; clear hSw; go_simp⟩) hH ?_
              try simp only [Act.put, List.setIfInBounds_toArray, List.set_cons_zero, List.set_cons_succ, List.getElem_toArray, List.getElem_cons_succ, List.getElem_cons_zero]
              refine wpAnyH_take (i := 9) (v := .slice va (out.length - p) vc) rfl (by kernel_rfl) (by kernel_rfl) (by kernel_rfl) (fun _ _ _ h => h) (Or.inl ⟨by rfl, fun w hSw => by clear hSw; go_simp⟩) hH ?_
              try simp only [Act.put, List.setIfInBounds_toArray, List.set_cons_zero, List.set_cons_succ, List.getElem_toArray, List.getElem_cons_succ, List.getElem_cons_zero]
              refine wpAnyH_ready (rs := [7]) (by kernel_rfl) (by simp) ?_
              refine AllReadyH.cons rfl (fun K hK => ?_) AllReadyH.nil
              go_simp
              have h6 : Below w5.heap.size w5 (w5.alloc (Obj.cells #[.string x] 9)).drew := chain (below_alloc _ _) (below_drew _)
              have hb6 : (w5.alloc (Obj.cells #[.string x] 9)).drew.heap[w5.heap.size]? = some (.cells #[.string x] 9 (0, 0)) := heapNew w5 _
              have hF6 : Fr (fun q => q = g) w5 (w5.alloc (Obj.cells #[.string x] 9)).drew := Fr.of h6
              refine hK.out _ _ hF6 (fun _ => ?_)
              clear hK K
              try simp only [Act.put, List.setIfInBounds_toArray, List.set_cons_zero, List.set_cons_succ, List.getElem_toArray, List.getElem_cons_succ, List.getElem_cons_zero]
              generalize (w5.alloc (Obj.cells #[.string x] 9)).drew = W6 at *
              have HS6 : Hid (OneS w w.heap.size (.slice (some ⟨g, 0, none⟩) out.length cp) out W6) := HS5.out.laterS h6
              have HR6 : Hid (W6.ownsRow w.heap.size 9 1 (.slice (some ⟨g, 0, none⟩) p cp) p ((out.take p).map Value.string)) := by have h := row_takeS HS6.out.1 p hpl; rw [Nat.mul_one] at h; rw [List.map_take]; exact h
              have hB6 : w.heap.size ≤ W6.heap.size := HS6.out.2.1
              refine wpAnyH_ready (rs := [8]) (by kernel_rfl) (by simp) ?_
              refine AllReadyH.cons rfl (fun K hK => ?_) AllReadyH.nil
              refine step_append_lies _ rfl (.tmp 44) (.tmp 49) 67 rfl w.heap.size 9 i0 (.string ⟨#[]⟩) 1 16 Try.underlying67 hi0 hi0' hi1 hi2 rfl (by decide) (.slice (some ⟨g, 0, none⟩) p cp) _ _ (by simp [Act.eval]) HR6.out ⟨w5.heap.size, 0, none⟩ 1 1 [.string x] (by simp [Act.eval]) rfl (World.news_of_block hb6) (by simp [Value.oneCell']) (by omega) (by unfold maxLen; omega) (by omega) hB6 _ rfl (fun g1 cp1 w9 hown hgrow hat hglt => ?_)
              have hS9 : Fr (fun q => q = g) w5 w9 := hF6.trans ((fr_grown hgrow).mono (fun q hq => own_gS hq))
              have HR9 : Hid (w9.ownsRow w.heap.size 9 1 (.slice (some ⟨g1, 0, none⟩) (p + 1) cp1) (p + 1) ((out.take p).map Value.string ++ [.string x])) := hown
              have HG1 : Hid (g1 = g ∨ w5.heap.size ≤ g1) := by
                rcases hat with r | r
                · exact .inl (own_gS r)
                · exact .inr (by have := h6.size; omega)
              have HRs9 : Hid (w9.ownsRow wd.heap.size 9 1 (.slice va (out.length - p) vc) (out.length - p) ((out.drop p).map Value.string)) := row_of HRs.out (fun q hq => hS9.block q (HVl.out q hq).2 (fun e => by have := (HVl.out q hq).1; omega))
              have hB9 : w.heap.size ≤ w9.heap.size := Nat.le_trans hB6 hgrow.size
              clear hown hgrow hat hglt hb6 h6 HR6 HS6 hB6
              refine hK.out _ _ hS9 (fun _ => ?_)
              clear hK K
              try simp only [Act.put, List.setIfInBounds_toArray, List.set_cons_zero, List.set_cons_succ, List.getElem_toArray, List.getElem_cons_succ, List.getElem_cons_zero]
              refine wpAnyH_ready (rs := [10]) (by kernel_rfl) (by simp) ?_
              refine AllReadyH.cons rfl (fun K hK => ?_) AllReadyH.nil
              refine step_append_any rfl (.tmp 50) (.tmp 51) 67 rfl w.heap.size 9 i0 (.string ⟨#[]⟩) 1 16 Try.underlying67 hi0 hi0' hi1 hi2 rfl (by decide) (.slice (some ⟨g1, 0, none⟩) (p + 1) cp1) _ _ (by simp [Act.eval]) HR9.out va (out.length - p) vc ((out.drop p).map Value.string) (by simp [Act.eval]) (by rw [List.length_map, List.length_drop, Nat.mul_one]) (row_news HRs9.out) (strs_one _) (by unfold maxLen; omega) (by omega) hB9 (fun va2 vc2 w10 hown hgrow hat => ?_)
              have hS10 : Fr (fun q => q = g) w5 w10 := by
                refine Fr.drop (b := 0) (w := w5) (v := w5) (Below.refl _ _) ((hS9.mono (fun q hq => .inl hq)).trans ((fr_grown hgrow).mono (fun q hq => ?_)))
                have h : g1 = q := by simpa [Value.ownBlock] using hq
                rcases HG1.out with r | r
                · exact .inl (by omega)
                · exact .inr (by omega)
              have HFin : Hid (∃ g2, (.slice va2 (p + 1 + (out.length - p)) vc2 : Value) = .slice (some ⟨g2, 0, none⟩) (putS out p x).length vc2 ∧ OneS w w.heap.size (.slice (some ⟨g2, 0, none⟩) (putS out p x).length vc2) (putS out p x) w10) := by
                obtain ⟨g2, c2, hq2⟩ := row_some hown (by omega)
                have hn : p + 1 + (out.length - p) = (putS out p x).length := by rw [hput]; omega
                have hc2 : c2 = vc2 := by simp only [Value.slice.injEq, true_and] at hq2; exact hq2.2.symm
                subst hc2
                have hcells : (out.take p).map Value.string ++ [.string x] ++ (out.drop p).map Value.string = (putS out p x).map Value.string := by
                  unfold putS
                  rw [List.map_append, List.map_cons, List.append_assoc]; rfl
                refine ⟨g2, by rw [hq2, hn], ?_, Nat.le_trans HB5.out.size hS10.size, Fr.below HB5.out hS10 HB5.out.size (fun k hk => by have := HGl.out; omega)⟩
                rw [hcells, hq2, hn] at hown
                exact hown
              clear hown hgrow hat
              refine hK.out _ _ hS10 (fun _ => ?_)
              clear hK K
              try simp only [Act.put, List.setIfInBounds_toArray, List.set_cons_zero, List.set_cons_succ, List.getElem_toArray, List.getElem_cons_succ, List.getElem_cons_zero]
              refine wpAnyH_take (i := 11) (v := .slice va2 (p + 1 + (out.length - p)) vc2) rfl (by kernel_rfl) (by kernel_rfl) (by kernel_rfl) (fun _ _ _ h => h) (Or.inl ⟨by rfl, fun w hSw => by clear hSw; go_simp⟩) hS10 ?_
              try simp only [Act.put, List.setIfInBounds_toArray, List.set_cons_zero, List.set_cons_succ, List.getElem_toArray, List.getElem_cons_succ, List.getElem_cons_zero]
              refine wpAnyH_done (by kernel_rfl) ?_ _
              clear hS10 hS9 hF6 hH HR9 HRs9 HRs HQ HVl HS5 hput
              have hwi : IntKind.i64.wrap ((i : Int) + 1) = (i : Int) + 1 := wrap_id _ (by omega) (by omega)
              go_wp2
              go_roundw
              case rel =>
                obtain ⟨g2, hv2, hst2⟩ := HFin.out
                exact ⟨i + 1, g2, vc2, putS out p x, by omega, by go_num, hv2, HPut.out, hst2⟩
              case measure => simp [intOf]; omega
            · have hlt : tlB y < tlB x := of_decide_eq_true HLb.out
              have HLo2 : Hid (∀ j, j < p + 1 → tlB (out.getD j ByteArray.empty) < tlB x) := fun j hj => by
                by_cases e : j = p
                · rw [e, HY.out]; exact hlt
                · exact HLo.out j (by omega)
              clear hlt HLb HLo HY
              go_wp2
              go_roundw
              case rel => exact ⟨p + 1, by omega, by go_num, HLo2.out, HS2.out⟩
              case measure => simp [intOf]; omega
          · have hpo' : ¬ (p : Int) < (out.length : Int) := by omega
            refine wp_region_held_drew (S := fun W' => Below wr.heap.size wr W') (by kernel_rfl) (below_drew _) (fun hH => ?_)
            refine wpAnyH_take (i := 0) (v := .int .i64 (p : Int)) rfl (by kernel_rfl) (by kernel_rfl) (by kernel_rfl) (fun _ _ _ h => h) (Or.inl ⟨by rfl, fun w hSw => by clear hSw; go_simp⟩) hH ?_
            refine wpAnyH_take (i := 1) (v := .slice (some ⟨g, 0, none⟩) out.length cp) rfl (by kernel_rfl) (by kernel_rfl) (by kernel_rfl) (fun _ _ _ h => h) (Or.inl ⟨by rfl, fun w hSw => by clear hSw; go_simp⟩) hH ?_
            try simp only [Act.put, List.setIfInBounds_toArray, List.set_cons_zero, List.set_cons_succ, List.getElem_toArray, List.getElem_cons_succ, List.getElem_cons_zero]
            refine wpAnyH_take (i := 2) (v := .int .i64 (out.length : Int)) rfl (by kernel_rfl) (by kernel_rfl) (by kernel_rfl) (fun _ _ _ h => h) (Or.inl ⟨by rfl, fun w hSw => by clear hSw; go_simp⟩) hH ?_
            try simp only [Act.put, List.setIfInBounds_toArray, List.set_cons_zero, List.set_cons_succ, List.getElem_toArray, List.getElem_cons_succ, List.getElem_cons_zero]
            refine wpAnyH_take (i := 3) (v := .bool false) rfl (by kernel_rfl) (by kernel_rfl) (by kernel_rfl) (fun _ _ _ h => h) (Or.inl ⟨by rfl, fun w hSw => by clear hSw; go_simp⟩) hH ?_
            try simp only [Act.put, List.setIfInBounds_toArray, List.set_cons_zero, List.set_cons_succ, List.getElem_toArray, List.getElem_cons_succ, List.getElem_cons_zero]
            refine wpAnyH_take (i := 4) (v := .bool false) rfl (by kernel_rfl) (by kernel_rfl) (by kernel_rfl) (fun _ _ _ h => h) (Or.inl ⟨by rfl, fun w hSw => by clear hSw; go_simp⟩) hH ?_
            try simp only [Act.put, List.setIfInBounds_toArray, List.set_cons_zero, List.set_cons_succ, List.getElem_toArray, List.getElem_cons_succ, List.getElem_cons_zero]
            refine wpAnyH_take (i := 5) (v := undef) rfl (by kernel_rfl) (by kernel_rfl) (by kernel_rfl) (fun _ _ _ h => h) (Or.inr ⟨by rfl, rfl⟩) hH ?_
            try simp only [Act.put, List.setIfInBounds_toArray, List.set_cons_zero, List.set_cons_succ, List.getElem_toArray, List.getElem_cons_succ, List.getElem_cons_zero]
            refine wpAnyH_take (i := 6) (v := undef) rfl (by kernel_rfl) (by kernel_rfl) (by kernel_rfl) (fun _ _ _ h => h) (Or.inr ⟨by rfl, rfl⟩) hH ?_
            try simp only [Act.put, List.setIfInBounds_toArray, List.set_cons_zero, List.set_cons_succ, List.getElem_toArray, List.getElem_cons_succ, List.getElem_cons_zero]
            refine wpAnyH_take (i := 7) (v := undef) rfl (by kernel_rfl) (by kernel_rfl) (by kernel_rfl) (fun _ _ _ h => h) (Or.inr ⟨by rfl, rfl⟩) hH ?_
            try simp only [Act.put, List.setIfInBounds_toArray, List.set_cons_zero, List.set_cons_succ, List.getElem_toArray, List.getElem_cons_succ, List.getElem_cons_zero]
            refine wpAnyH_take (i := 8) (v := undef) rfl (by kernel_rfl) (by kernel_rfl) (by kernel_rfl) (fun _ _ _ h => h) (Or.inr ⟨by rfl, rfl⟩) hH ?_
            try simp only [Act.put, List.setIfInBounds_toArray, List.set_cons_zero, List.set_cons_succ, List.getElem_toArray, List.getElem_cons_succ, List.getElem_cons_zero]
            refine wpAnyH_take (i := 9) (v := undef) rfl (by kernel_rfl) (by kernel_rfl) (by kernel_rfl) (fun _ _ _ h => h) (Or.inr ⟨by rfl, rfl⟩) hH ?_
            try simp only [Act.put, List.setIfInBounds_toArray, List.set_cons_zero, List.set_cons_succ, List.getElem_toArray, List.getElem_cons_succ, List.getElem_cons_zero]
            refine wpAnyH_take (i := 10) (v := undef) rfl (by kernel_rfl) (by kernel_rfl) (by kernel_rfl) (fun _ _ _ h => h) (Or.inr ⟨by rfl, rfl⟩) hH ?_
            try simp only [Act.put, List.setIfInBounds_toArray, List.set_cons_zero, List.set_cons_succ, List.getElem_toArray, List.getElem_cons_succ, List.getElem_cons_zero]
            refine wpAnyH_take (i := 11) (v := undef) rfl (by kernel_rfl) (by kernel_rfl) (by kernel_rfl) (fun _ _ _ h => h) (Or.inr ⟨by rfl, rfl⟩) hH ?_
            try simp only [Act.put, List.setIfInBounds_toArray, List.set_cons_zero, List.set_cons_succ, List.getElem_toArray, List.getElem_cons_succ, List.getElem_cons_zero]
            refine wpAnyH_take (i := 12) (v := undef) rfl (by kernel_rfl) (by kernel_rfl) (by kernel_rfl) (fun _ _ _ h => h) (Or.inr ⟨by rfl, rfl⟩) hH ?_
            try simp only [Act.put, List.setIfInBounds_toArray, List.set_cons_zero, List.set_cons_succ, List.getElem_toArray, List.getElem_cons_succ, List.getElem_cons_zero]
            refine wpAnyH_take (i := 13) (v := undef) rfl (by kernel_rfl) (by kernel_rfl) (by kernel_rfl) (fun _ _ _ h => h) (Or.inr ⟨by rfl, rfl⟩) hH ?_
            try simp only [Act.put, List.setIfInBounds_toArray, List.set_cons_zero, List.set_cons_succ, List.getElem_toArray, List.getElem_cons_succ, List.getElem_cons_zero]
            refine wpAnyH_take (i := 14) (v := .bool false) rfl (by kernel_rfl) (by kernel_rfl) (by kernel_rfl) (fun _ _ _ h => h) (Or.inl ⟨by rfl, fun w hSw => by clear hSw; go_simp⟩) hH ?_
            try simp only [Act.put, List.setIfInBounds_toArray, List.set_cons_zero, List.set_cons_succ, List.getElem_toArray, List.getElem_cons_succ, List.getElem_cons_zero]
            refine wpAnyH_done (by kernel_rfl) ?_ _
            have HS2 : Hid (OneS w w.heap.size (.slice (some ⟨g, 0, none⟩) out.length cp) out wr.drew) := HS.out.laterS (below_drew _)
            have HHi : p < out.length → ¬ tlB (out.getD p ByteArray.empty) < tlB x := fun h => by omega
            clear HS hH hpo hpo'
            generalize wr.drew = wd at *
            have HPut : Hid (SoI L (i + 1) (putS out p x)) := HSo.out.put hi hLx HHas.out hpl HLo.out HHi
            have hput := putS_len (L := out) (p := p) x hpl
            have HPl : Hid ((putS out p x).length = out.length + 1) := hput
            have hcp : out.length ≤ cp := HS2.out.cap
            obtain ⟨o8, ho8⟩ : ∃ o8 : Nat, o8 = if cp = p then 0 else p := ⟨_, rfl⟩
            have hof : (if cp = p then (some (⟨g, 0, none⟩ : Addr)) else some ⟨g, p, none⟩) = some ⟨g, o8, none⟩ := by rw [ho8]; split <;> rfl
            have hp1 : (p : Int) ≤ (out.length : Int) := by omega
            have hp2 : (p : Int) ≤ (cp : Int) := by omega
            obtain ⟨We, hWe⟩ : ∃ We, We = wd.alloc (Obj.cells #[] 9) := ⟨_, rfl⟩
            have HWe : Hid (We = wd.alloc (Obj.cells #[] 9)) := hWe
            have HRe : Hid (We.ownsRow wd.heap.size 9 1 (.slice (some ⟨wd.heap.size, 0, none⟩) 0 0) 0 []) := by rw [hWe]; exact row_emptyS wd _ (Nat.le_refl _)
            have HSe : Hid (OneS w w.heap.size (.slice (some ⟨g, 0, none⟩) out.length cp) out We) := by rw [hWe]; exact HS2.out.alloc _
            have HNw : Hid (0 < out.length - p → ∃ ad, (some (⟨g, o8, none⟩ : Addr)) = some ad ∧ ∀ j u, ((out.drop p).map Value.string)[j]? = some u → We.cell? (ad.add j) = some u) := fun h0 => ⟨_, rfl, by
              have ho : o8 = p := by rw [ho8, if_neg (by omega)]
              rw [ho]
              refine row_part HSe.out.1 p _ (fun j u hj => ?_)
              rw [List.map_drop, List.getElem?_drop] at hj
              exact hj⟩
            have hgd := HS2.out.glt
            have hzW : wd.heap.size ≤ We.heap.size := by rw [hWe]; simp
            have HWd : Hid (w.heap.size ≤ wd.heap.size) := HS2.out.2.1
            clear hWe ho8 HS2
            go_wp2_with (at_builtin; rw [← HWe.out]; refine wpList_append_any rfl _ _ 67 rfl wd.heap.size 9 i0 (.string ⟨#[]⟩) 1 16 Try.underlying67 hi0 hi0' hi1 hi2 rfl (by decide) _ _ _ rfl HRe.out (some ⟨g, o8, none⟩) (out.length - p) (cp - p) ((out.drop p).map Value.string) (by simp [Act.eval]) (by rw [List.length_map, List.length_drop, Nat.mul_one]) HNw.out (strs_one _) (by unfold maxLen; omega) (by omega) hzW ?_; intro va vc w5 hown hgr hat; have HR5 : Hid (w5.ownsRow wd.heap.size 9 1 (.slice va (0 + (out.length - p)) vc) (0 + (out.length - p)) ([] ++ (out.drop p).map Value.string)) := hown; have HG5 : Hid (We.grownBy w5 (some wd.heap.size)) := hgr; clear hown hgr hat)
            have hz5 : wd.heap.size < w5.heap.size := by
              have h1 := HG5.out.size
              have h2 : wd.heap.size < We.heap.size := by rw [HWe.out]; simp
              omega
            have HS5 : Hid (OneS w w.heap.size (.slice (some ⟨g, 0, none⟩) out.length cp) out w5) := by
              have f := fr_grown HG5.out
              refine ⟨row_of HSe.out.1 (fun k hk => f.block k (row_lt HSe.out.1 k hk).2 (fun e => ?_)), Nat.le_trans HSe.out.2.1 f.size, HSe.out.2.2.grown HG5.out HSe.out.2.1 (fun q hq => ?_)⟩
              · have h1 : g = k := by simpa [Value.ownBlock] using hk
                have h2 : wd.heap.size = k := by simpa using e
                omega
              · have h2 : wd.heap.size = q := by simpa using hq
                have := HWd.out
                omega
            have HRs : Hid (w5.ownsRow wd.heap.size 9 1 (.slice va (out.length - p) vc) (out.length - p) ((out.drop p).map Value.string)) := by have h := HR5.out; rw [Nat.zero_add, List.nil_append] at h; exact h
            have HB5 : Hid (Below w.heap.size w w5) := HS5.out.2.2
            clear HRe HSe HNw HR5 HG5 HWe hzW
            have HVl : Hid (∀ q, Value.ownBlock (.slice va (out.length - p) vc) = some q → wd.heap.size ≤ q ∧ q < w5.heap.size) := fun q hq => row_lt HRs.out q hq
            have HQ : Hid (∀ W, Fr (fun q => q = g) w5 W → W.cell? ⟨b0, o0 + i, none⟩ = some (.string x)) := fun W hW => by
              have h1 := HX.out w5 HB5.out
              exact (World.cell?_of_block (a := ⟨b0, o0 + i, none⟩) (hW.block b0 (Nat.lt_of_lt_of_le hB0 HB5.out.size) (fun e => by have := HGl.out; omega))).trans h1
            refine wp_region_held_drew (S := fun W' => Fr (fun q => q = g) w5 W') (by kernel_rfl) (Fr.of (below_drew _)) (fun hH => ?_)
            refine wpAnyH_take (i := 0) (v := .slice (some ⟨g, 0, none⟩) out.length cp) rfl (by kernel_rfl) (by kernel_rfl) (by kernel_rfl) (fun _ _ _ h => h) (Or.inl ⟨by rfl, fun w hSw => by clear hSw; go_simp⟩) hH ?_
            refine wpAnyH_take (i := 1) (v := .int .i64 (p : Int)) rfl (by kernel_rfl) (by kernel_rfl) (by kernel_rfl) (fun _ _ _ h => h) (Or.inl ⟨by rfl, fun w hSw => by clear hSw; go_simp⟩) hH ?_
            try simp only [Act.put, List.setIfInBounds_toArray, List.set_cons_zero, List.set_cons_succ, List.getElem_toArray, List.getElem_cons_succ, List.getElem_cons_zero]
            refine wpAnyH_take (i := 2) (v := .slice (some ⟨g, 0, none⟩) p cp) rfl (by kernel_rfl) (by kernel_rfl) (by kernel_rfl) (fun _ _ _ h => h) (Or.inl ⟨by rfl, fun w hSw => by clear hSw; go_simp⟩) hH ?_
            try simp only [Act.put, List.setIfInBounds_toArray, List.set_cons_zero, List.set_cons_succ, List.getElem_toArray, List.getElem_cons_succ, List.getElem_cons_zero]
            refine wpAnyH_take (i := 3) (v := .slice (some ⟨b0, o0, none⟩) L.length cap) rfl (by kernel_rfl) (by kernel_rfl) (by kernel_rfl) (fun _ _ _ h => h) (Or.inl ⟨by rfl, fun w hSw => by clear hSw; go_simp⟩) hH ?_
            try simp only [Act.put, List.setIfInBounds_toArray, List.set_cons_zero, List.set_cons_succ, List.getElem_toArray, List.getElem_cons_succ, List.getElem_cons_zero]
            refine wpAnyH_take (i := 4) (v := .int .i64 (i : Int)) rfl (by kernel_rfl) (by kernel_rfl) (by kernel_rfl) (fun _ _ _ h => h) (Or.inl ⟨by rfl, fun w hSw => by clear hSw; go_simp⟩) hH ?_
            try simp only [Act.put, List.setIfInBounds_toArray, List.set_cons_zero, List.set_cons_succ, List.getElem_toArray, List.getElem_cons_succ, List.getElem_cons_zero]
            refine wpAnyH_take (i := 5) (v := .pointer (some ⟨b0, o0 + i, none⟩)) rfl (by kernel_rfl) (by kernel_rfl) (by kernel_rfl) (fun _ _ _ h => h) (Or.inl ⟨by rfl, fun w hSw => by clear hSw; go_simp⟩) hH ?_
            try simp only [Act.put, List.setIfInBounds_toArray, List.set_cons_zero, List.set_cons_succ, List.getElem_toArray, List.getElem_cons_succ, List.getElem_cons_zero]
            refine wpAnyH_take (i := 6) (v := .string x) rfl (by kernel_rfl) (by kernel_rfl) (by kernel_rfl) (fun _ _ _ h => h) (Or.inl ⟨by rfl, fun w hSw => by have f0 := HQ.out w hSw; clear hSw; go_simp⟩) hH ?_
            try simp only [Act.put, List.setIfInBounds_toArray, List.set_cons_zero, List.set_cons_succ, List.getElem_toArray, List.getElem_cons_succ, List.getElem_cons_zero]
            refine wpAnyH_take (i := 9) (v := .slice va (out.length - p) vc) rfl (by kernel_rfl) (by kernel_rfl) (by kernel_rfl) (fun _ _ _ h => h) (Or.inl ⟨by rfl, fun w hSw => by clear hSw; go_simp⟩) hH ?_
            try simp only [Act.put, List.setIfInBounds_toArray, List.set_cons_zero, List.set_cons_succ, List.getElem_toArray, List.getElem_cons_succ, List.getElem_cons_zero]
            refine wpAnyH_ready (rs := [7]) (by kernel_rfl) (by simp) ?_
            refine AllReadyH.cons rfl (fun K hK => ?_) AllReadyH.nil
            go_simp
            have h6 : Below w5.heap.size w5 (w5.alloc (Obj.cells #[.string x] 9)).drew := chain (below_alloc _ _) (below_drew _)
            have hb6 : (w5.alloc (Obj.cells #[.string x] 9)).drew.heap[w5.heap.size]? = some (.cells #[.string x] 9 (0, 0)) := heapNew w5 _
            have hF6 : Fr (fun q => q = g) w5 (w5.alloc (Obj.cells #[.string x] 9)).drew := Fr.of h6
            refine hK.out _ _ hF6 (fun _ => ?_)
            clear hK K
            try simp only [Act.put, List.setIfInBounds_toArray, List.set_cons_zero, List.set_cons_succ, List.getElem_toArray, List.getElem_cons_succ, List.getElem_cons_zero]
            generalize (w5.alloc (Obj.cells #[.string x] 9)).drew = W6 at *
            have HS6 : Hid (OneS w w.heap.size (.slice (some ⟨g, 0, none⟩) out.length cp) out W6) := HS5.out.laterS h6
            have HR6 : Hid (W6.ownsRow w.heap.size 9 1 (.slice (some ⟨g, 0, none⟩) p cp) p ((out.take p).map Value.string)) := by have h := row_takeS HS6.out.1 p hpl; rw [Nat.mul_one] at h; rw [List.map_take]; exact h
            have hB6 : w.heap.size ≤ W6.heap.size := HS6.out.2.1
            refine wpAnyH_ready (rs := [8]) (by kernel_rfl) (by simp) ?_
            refine AllReadyH.cons rfl (fun K hK => ?_) AllReadyH.nil
            refine step_append_lies _ rfl (.tmp 44) (.tmp 49) 67 rfl w.heap.size 9 i0 (.string ⟨#[]⟩) 1 16 Try.underlying67 hi0 hi0' hi1 hi2 rfl (by decide) (.slice (some ⟨g, 0, none⟩) p cp) _ _ (by simp [Act.eval]) HR6.out ⟨w5.heap.size, 0, none⟩ 1 1 [.string x] (by simp [Act.eval]) rfl (World.news_of_block hb6) (by simp [Value.oneCell']) (by omega) (by unfold maxLen; omega) (by omega) hB6 _ rfl (fun g1 cp1 w9 hown hgrow hat hglt => ?_)
            have hS9 : Fr (fun q => q = g) w5 w9 := hF6.trans ((fr_grown hgrow).mono (fun q hq => own_gS hq))
            have HR9 : Hid (w9.ownsRow w.heap.size 9 1 (.slice (some ⟨g1, 0, none⟩) (p + 1) cp1) (p + 1) ((out.take p).map Value.string ++ [.string x])) := hown
            have HG1 : Hid (g1 = g ∨ w5.heap.size ≤ g1) := by
              rcases hat with r | r
              · exact .inl (own_gS r)
              · exact .inr (by have := h6.size; omega)
            have HRs9 : Hid (w9.ownsRow wd.heap.size 9 1 (.slice va (out.length - p) vc) (out.length - p) ((out.drop p).map Value.string)) := row_of HRs.out (fun q hq => hS9.block q (HVl.out q hq).2 (fun e => by have := (HVl.out q hq).1; omega))
            have hB9 : w.heap.size ≤ w9.heap.size := Nat.le_trans hB6 hgrow.size
            clear hown hgrow hat hglt hb6 h6 HR6 HS6 hB6
            refine hK.out _ _ hS9 (fun _ => ?_)
            clear hK K
            try simp only [Act.put, List.setIfInBounds_toArray, List.set_cons_zero, List.set_cons_succ, List.getElem_toArray, List.getElem_cons_succ, List.getElem_cons_zero]
            refine wpAnyH_ready (rs := [10]) (by kernel_rfl) (by simp) ?_
            refine AllReadyH.cons rfl (fun K hK => ?_) AllReadyH.nil
            refine step_append_any rfl (.tmp 50) (.tmp 51) 67 rfl w.heap.size 9 i0 (.string ⟨#[]⟩) 1 16 Try.underlying67 hi0 hi0' hi1 hi2 rfl (by decide) (.slice (some ⟨g1, 0, none⟩) (p + 1) cp1) _ _ (by simp [Act.eval]) HR9.out va (out.length - p) vc ((out.drop p).map Value.string) (by simp [Act.eval]) (by rw [List.length_map, List.length_drop, Nat.mul_one]) (row_news HRs9.out) (strs_one _) (by unfold maxLen; omega) (by omega) hB9 (fun va2 vc2 w10 hown hgrow hat => ?_)
            have hS10 : Fr (fun q => q = g) w5 w10 := by
              refine Fr.drop (b := 0) (w := w5) (v := w5) (Below.refl _ _) ((hS9.mono (fun q hq => .inl hq)).trans ((fr_grown hgrow).mono (fun q hq => ?_)))
              have h : g1 = q := by simpa [Value.ownBlock] using hq
              rcases HG1.out with r | r
              · exact .inl (by omega)
              · exact .inr (by omega)
            have HFin : Hid (∃ g2, (.slice va2 (p + 1 + (out.length - p)) vc2 : Value) = .slice (some ⟨g2, 0, none⟩) (putS out p x).length vc2 ∧ OneS w w.heap.size (.slice (some ⟨g2, 0, none⟩) (putS out p x).length vc2) (putS out p x) w10) := by
              obtain ⟨g2, c2, hq2⟩ := row_some hown (by omega)
              have hn : p + 1 + (out.length - p) = (putS out p x).length := by rw [hput]; omega
              have hc2 : c2 = vc2 := by simp only [Value.slice.injEq, true_and] at hq2; exact hq2.2.symm
              subst hc2
              have hcells : (out.take p).map Value.string ++ [.string x] ++ (out.drop p).map Value.string = (putS out p x).map Value.string := by
                unfold putS
                rw [List.map_append, List.map_cons, List.append_assoc]; rfl
              refine ⟨g2, by rw [hq2, hn], ?_, Nat.le_trans HB5.out.size hS10.size, Fr.below HB5.out hS10 HB5.out.size (fun k hk => by have := HGl.out; omega)⟩
              rw [hcells, hq2, hn] at hown
              exact hown
            clear hown hgrow hat
            refine hK.out _ _ hS10 (fun _ => ?_)
            clear hK K
            try simp only [Act.put, List.setIfInBounds_toArray, List.set_cons_zero, List.set_cons_succ, List.getElem_toArray, List.getElem_cons_succ, List.getElem_cons_zero]
            refine wpAnyH_take (i := 11) (v := .slice va2 (p + 1 + (out.length - p)) vc2) rfl (by kernel_rfl) (by kernel_rfl) (by kernel_rfl) (fun _ _ _ h => h) (Or.inl ⟨by rfl, fun w hSw => by clear hSw; go_simp⟩) hS10 ?_
            try simp only [Act.put, List.setIfInBounds_toArray, List.set_cons_zero, List.set_cons_succ, List.getElem_toArray, List.getElem_cons_succ, List.getElem_cons_zero]
            refine wpAnyH_done (by kernel_rfl) ?_ _
            clear hS10 hS9 hF6 hH HR9 HRs9 HRs HQ HVl HS5 hput
            have hwi : IntKind.i64.wrap ((i : Int) + 1) = (i : Int) + 1 := wrap_id _ (by omega) (by omega)
            go_wp2
            go_roundw
            case rel =>
              obtain ⟨g2, hv2, hst2⟩ := HFin.out
              exact ⟨i + 1, g2, vc2, putS out p x, by omega, by go_num, hv2, HPut.out, hst2⟩
            case measure => simp [intOf]; omega
      · rw [hhas] at HH
        have HSk : Hid (SoI L (i + 1) out) := HSo.out.skip hi (by rw [hLx]; exact hhas)
        clear hhas ia
        go_wp2_with fail
        (first | go_at_call 102 | skip)
        refine HH.mono ?_
        rintro e w2 ⟨rfl, rfl⟩
        clear c0 HH hLx
        have hwi : IntKind.i64.wrap ((i : Int) + 1) = (i : Int) + 1 := wrap_id _ (by omega) (by omega)
        go_wp2
        go_roundw
        case rel => exact ⟨i + 1, g, cp, out, by omega, by go_num, rfl, HSk.out, HO.out⟩
        case measure => simp [intOf]; omega
    · have hle : (L.length : Int) ≤ (i : Int) := by omega
      have HE : Hid (out = artL L) := (show SoI L L.length out by have := HSo.out; rwa [show i = L.length by omega] at this).end
      go_wp2
      go_ret
      obtain rfl : out = artL L := HE.out
      exact ⟨g, cp, rfl, HO.out⟩
end Go.Proofs.Ytfiajiodehhmhaa

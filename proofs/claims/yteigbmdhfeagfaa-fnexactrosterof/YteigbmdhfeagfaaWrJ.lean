/-
  Contracts of the specification's l21Code and l21Cost.
-/
import Derived.Test.YteigbmdhfeagfaaWrM
import Derived.Test.YteigbmdhfeagfaaRate
namespace Go.Proofs.Yteigbmdhfeagfaa
open Go.ChangeShapes Go.WideShapes Go.ChangeAt Go.RowKit Go.Deep
set_option linter.unusedVariables false

set_option maxHeartbeats 16000000 in
set_option maxRecDepth 8000 in
theorem specCode_any (ad : Option Addr) (cap : Nat) (rs : List RSf) (aw : Option Addr) (cw : Nat) (ws : List CWk) (ao : Option Addr) (co : Nat) (L : List Int) (i m : Nat) (hs : sfsB rs = true) (hws : ws.all wkOne = true) (hok : ∀ c ∈ ws, WkOK c) (hi : i < rs.length) (h8 : rs.length ≤ 8) (hiL : i < L.length) (hlL : L.length ≤ 100000) (hm : m < ws.length) (h5 : ws.length ≤ 100) (hL : L.getD i 0 = (m : Int)) (w : World) (hr : ReadsSf w.heap.size w ad rs) (hw : ReadsWk w.heap.size w aw ws) (ho : Reads w.heap.size w ao L) :
    Calls Try.prog 41 #[.slice ad rs.length cap, .slice aw ws.length cw, .slice ao L.length co, .int .i64 (i : Int)] w fun e w' => e = .returned (.int .i64 (coB rs ws L i)) ∧ Below w.heap.size w w' := by
  rcases hr with h0 | ⟨b0, o0, ha0, hB0, ia⟩
  · rw [h0] at hi; simp at hi
  rcases hw with h0 | ⟨b1, o1, ha1, hB1, ib⟩
  · rw [h0] at hm; simp at hm
  rcases ho with h0 | ⟨b2, o2, ha2, hB2, ic⟩
  · rw [h0] at hiL; simp at hiL
  subst ha0 ha1 ha2
  have hsb := sf_bd hs i
  have hwb := wk_bd hws m
  have hwok : WkOK (ws.getD m zWk) := getWk hok hm
  obtain ⟨h, cp, hxw, _, hS⟩ := ib m hm
  have HA : Hid (∀ W, Below w.heap.size w W → ∀ k, k < rs.length → SfAt W b0 (o0 + k * 3) (rs.getD k zSf)) := fun W hW k hk => (ia k hk).below hW hB0
  have HLk : Hid (∀ W, Below w.heap.size w W → ∀ k, k < L.length → W.cell? ⟨b2, o2 + k, none⟩ = some (.int .i64 (L.getD k 0))) := fun W hW k hk => (ic.below hW hB2) k hk
  have HHas : Hid (∀ W, Below w.heap.size w W → Calls Try.prog 65 #[.slice h (ws.getD m zWk).sk.length cp, .string (rs.getD i zSf).sk] W fun e w' => e = .returned (.bool (hasB (ws.getD m zWk).sk (rs.getD i zSf).sk)) ∧ w' = W) := fun W hW => has_any h cp _ (by have := hwok.2; unfold maxLen at this; omega) _ W ((hS.below hW).mono hW.size)
  have HCo : Hid (coB rs ws L i = agC (ws.getD m zWk) (rs.getD i zSf) (rqS rs L (m : Int) i) (rqT rs L (m : Int) (rs.getD i zSf).fr (ws.getD m zWk).rt i)) := by show _ = _; unfold coB; rw [hL, Int.toNat_natCast]
  have HSb : Hid (∀ k, 0 ≤ rqS rs L (m : Int) k ∧ rqS rs L (m : Int) k ≤ 10080 * (k : Int)) := fun k => rqS_bd hs L _ k
  have HFb : Hid (∀ k, 0 ≤ duB (rs.getD k zSf) ∧ duB (rs.getD k zSf) ≤ 10080 ∧ 0 ≤ (rs.getD k zSf).fr ∧ (rs.getD k zSf).to ≤ 10080 ∧ 0 ≤ (rs.getD k zSf).to ∧ (rs.getD k zSf).fr ≤ 10080) := fun k => sf_bd hs k
  have HIH : Hid (∀ k, rqS rs L (m : Int) (k + 1) = rqS rs L (m : Int) k + if L.getD k 0 = (m : Int) then duB (rs.getD k zSf) else 0) := fun k => rfl
  have HIT : Hid (∀ k, rqT rs L (m : Int) (rs.getD i zSf).fr (ws.getD m zWk).rt (k + 1) = (rqT rs L (m : Int) (rs.getD i zSf).fr (ws.getD m zWk).rt k || (decide (L.getD k 0 = (m : Int)) && decide ((rs.getD i zSf).fr < (rs.getD k zSf).to + (ws.getD m zWk).rt)))) := fun k => rfl
  have HS0 : Hid (rqS rs L (m : Int) 0 = 0 ∧ rqT rs L (m : Int) (rs.getD i zSf).fr (ws.getD m zWk).rt 0 = false) := ⟨rfl, rfl⟩
  have x0 := (HA.out w (Below.refl _ _)) i hi
  have x2 := (HLk.out w (Below.refl _ _)) i hiL
  rw [hL] at x2
  have HLi : Hid (L.getD i 0 = (m : Int)) := hL
  clear ia ib ic hS hwok hok hs hws hL x0
  have H13 : Hid (hasB (ws.getD m zWk).sk (rs.getD i zSf).sk = false → coB rs ws L i = 13) := fun h => by rw [HCo.out]; unfold agC; rw [h]; rfl
  have H12 : Hid (hasB (ws.getD m zWk).sk (rs.getD i zSf).sk = true → rqT rs L (m : Int) (rs.getD i zSf).fr (ws.getD m zWk).rt i = true → coB rs ws L i = 12) := fun h h2 => by rw [HCo.out]; unfold agC; rw [h, h2]; rfl
  have H11 : Hid (hasB (ws.getD m zWk).sk (rs.getD i zSf).sk = true → rqT rs L (m : Int) (rs.getD i zSf).fr (ws.getD m zWk).rt i = false → (ws.getD m zWk).ms < rqS rs L (m : Int) i + duB (rs.getD i zSf) → coB rs ws L i = 11) := fun h h2 h3 => by rw [HCo.out]; unfold agC; rw [h, h2, if_pos h3]; rfl
  have H10 : Hid (hasB (ws.getD m zWk).sk (rs.getD i zSf).sk = true → rqT rs L (m : Int) (rs.getD i zSf).fr (ws.getD m zWk).rt i = false → ¬ (ws.getD m zWk).ms < rqS rs L (m : Int) i + duB (rs.getD i zSf) → coB rs ws L i = 0) := fun h h2 h3 => by rw [HCo.out]; unfold agC; rw [h, h2, if_neg h3]; rfl
  clear HCo
  generalize coB rs ws L i = code at *
  obtain ⟨du, hdu⟩ : ∃ du, duB (rs.getD i zSf) = du := ⟨_, rfl⟩
  rw [hdu] at hsb H11 H10
  have HDu : Hid ((rs.getD i zSf).to - (rs.getD i zSf).fr = du) := hdu
  have HAi : Hid (∀ W, Below w.heap.size w W → SfAt W b0 (o0 + i * 3) (rs.getD i zSf)) := fun W hW => HA.out W hW i hi
  clear hdu
  generalize hri : rs.getD i zSf = s at *
  generalize ws.getD m zWk = c at *
  obtain ⟨f, t, sn⟩ := s
  obtain ⟨nm, ms, rt, cc, sk⟩ := c
  obtain ⟨e0, e1, e2, e3, e4⟩ := hxw
  dsimp only at *
  clear hri
  generalize hasB sk sn = hb at *
  obtain ⟨n, hn⟩ : ∃ n, sk.length = n := ⟨_, rfl⟩
  rw [hn] at HHas e4
  clear hn
  have hlr : (i : Int) < (rs.length : Int) := by omega
  have hlw : (m : Int) < (ws.length : Int) := by omega
  have hlL2 : (i : Int) < (L.length : Int) := by omega
  have hwd : IntKind.i64.wrap (t - f) = du := by have := HDu.out; rw [wrap_id _ (by omega) (by omega)]; exact this
  obtain ⟨W0, hW0⟩ : ∃ W0, W0 = w.alloc (Obj.cells #[.string nm, .int .i64 ms, .int .i64 rt, .int .i64 cc, .slice h n cp] 56) := ⟨_, rfl⟩
  obtain ⟨xb, hxb⟩ : ∃ xb, xb = w.heap.size := ⟨_, rfl⟩
  have HE : Hid (W0 = w.alloc (Obj.cells #[.string nm, .int .i64 ms, .int .i64 rt, .int .i64 cc, .slice h n cp] 56) ∧ xb = w.heap.size) := ⟨hW0, hxb⟩
  have HX : Hid (∀ W, Below W0.heap.size W0 W → Below w.heap.size w W ∧ W.cell? ⟨xb, 1, none⟩ = some (.int .i64 ms) ∧ W.cell? ⟨xb, 2, none⟩ = some (.int .i64 rt) ∧ W.cell? ⟨xb, 4, none⟩ = some (.slice h n cp)) := fun W hW => by
    have h9 : W.heap[xb]? = some (.cells #[.string nm, .int .i64 ms, .int .i64 rt, .int .i64 cc, .slice h n cp] 56 (0, 0)) := (hW.block xb (by rw [hW0, hxb]; simp)).trans (by rw [hW0, hxb]; exact heapNew _ _)
    exact ⟨chain (by rw [hW0]; exact below_alloc _ _) hW, blkCell h9 1 _ rfl, blkCell h9 2 _ rfl, blkCell h9 4 _ rfl⟩
  clear hW0 hxb
  go_enter Try.func41, Try.ntmps41
  go_upto_region 2 with fail
  rw [← HE.out.2, ← HE.out.1]
  clear HE e0 e1 e2 e3 e4 x2
  refine wp_region_held_drew (S := fun W => Below W0.heap.size W0 W) (by kernel_rfl) (below_drew _) (fun hH => ?_)
  generalize W0.drew = V0 at *
  refine wpAnyH_take (i := 0) (v := .pointer (some ⟨xb, 4, none⟩)) rfl (by kernel_rfl) (by kernel_rfl) (by kernel_rfl) (fun _ _ _ h => h) (Or.inl ⟨by rfl, fun w hSw => by clear hSw; go_simp⟩) hH ?_
  refine wpAnyH_take (i := 1) (v := .slice h n cp) rfl (by kernel_rfl) (by kernel_rfl) (by kernel_rfl) (fun _ _ _ h => h) (Or.inl ⟨by rfl, fun w hSw => by obtain ⟨_, f0, f1, f2⟩ := HX.out w hSw; clear hSw; go_simp⟩) hH ?_
  try simp only [Act.put, List.setIfInBounds_toArray, List.set_cons_zero, List.set_cons_succ, List.getElem_toArray, List.getElem_cons_succ, List.getElem_cons_zero]
  refine wpAnyH_take (i := 2) (v := .slice (some ⟨b0, o0, none⟩) rs.length cap) rfl (by kernel_rfl) (by kernel_rfl) (by kernel_rfl) (fun _ _ _ h => h) (Or.inl ⟨by rfl, fun w hSw => by clear hSw; go_simp⟩) hH ?_
  try simp only [Act.put, List.setIfInBounds_toArray, List.set_cons_zero, List.set_cons_succ, List.getElem_toArray, List.getElem_cons_succ, List.getElem_cons_zero]
  refine wpAnyH_take (i := 3) (v := .int .i64 (i : Int)) rfl (by kernel_rfl) (by kernel_rfl) (by kernel_rfl) (fun _ _ _ h => h) (Or.inl ⟨by rfl, fun w hSw => by clear hSw; go_simp⟩) hH ?_
  try simp only [Act.put, List.setIfInBounds_toArray, List.set_cons_zero, List.set_cons_succ, List.getElem_toArray, List.getElem_cons_succ, List.getElem_cons_zero]
  refine wpAnyH_take (i := 4) (v := .pointer (some ⟨b0, o0 + i * 3, none⟩)) rfl (by kernel_rfl) (by kernel_rfl) (by kernel_rfl) (fun _ _ _ h => h) (Or.inl ⟨by rfl, fun w hSw => by clear hSw; go_simp⟩) hH ?_
  try simp only [Act.put, List.setIfInBounds_toArray, List.set_cons_zero, List.set_cons_succ, List.getElem_toArray, List.getElem_cons_succ, List.getElem_cons_zero]
  refine wpAnyH_take (i := 5) (v := .pointer (some ⟨b0, o0 + i * 3 + 2, none⟩)) rfl (by kernel_rfl) (by kernel_rfl) (by kernel_rfl) (fun _ _ _ h => h) (Or.inl ⟨by rfl, fun w hSw => by clear hSw; go_simp⟩) hH ?_
  try simp only [Act.put, List.setIfInBounds_toArray, List.set_cons_zero, List.set_cons_succ, List.getElem_toArray, List.getElem_cons_succ, List.getElem_cons_zero]
  refine wpAnyH_take (i := 6) (v := .string sn) rfl (by kernel_rfl) (by kernel_rfl) (by kernel_rfl) (fun _ _ _ h => h) (Or.inl ⟨by rfl, fun w hSw => by obtain ⟨e0, e1, e2⟩ := HAi.out w (HX.out w hSw).1; clear hSw; go_simp⟩) hH ?_
  try simp only [Act.put, List.setIfInBounds_toArray, List.set_cons_zero, List.set_cons_succ, List.getElem_toArray, List.getElem_cons_succ, List.getElem_cons_zero]
  have H0 : Hid (Below W0.heap.size W0 V0) := hH
  refine wpAnyH_ready (rs := [7]) (by kernel_rfl) (by simp) ?_
  refine AllReadyH.cons rfl (fun K hK => ?_) AllReadyH.nil
  go_simp
  go_at_call 65
  refine (HHas.out V0 (HX.out V0 H0.out).1).mono ?_
  rintro e w2 ⟨rfl, h2⟩
  rw [h2]
  clear h2 w2
  refine hK.out _ _ H0.out (fun _ => ?_)
  clear hK K
  try simp only [Act.put, List.setIfInBounds_toArray, List.set_cons_zero, List.set_cons_succ, List.getElem_toArray, List.getElem_cons_succ, List.getElem_cons_zero]
  refine wpAnyH_take (i := 8) (v := .bool (!hb)) rfl (by kernel_rfl) (by kernel_rfl) (by kernel_rfl) (fun _ _ _ h => h) (Or.inl ⟨by rfl, fun w hSw => by clear hSw; go_simp⟩) H0.out ?_
  try simp only [Act.put, List.setIfInBounds_toArray, List.set_cons_zero, List.set_cons_succ, List.getElem_toArray, List.getElem_cons_succ, List.getElem_cons_zero]
  refine wpAnyH_done (by kernel_rfl) ?_ _
  clear hH HHas
  cases hb
  · have HC : Hid (code = 13) := H13.out rfl
    have HL := (HX.out V0 H0.out).1
    clear H13 H12 H11 H10
    go_wp2
    go_ret
    exact ⟨congrArg (fun c => Ending.returned (.int .i64 c)) HC.out.symm, HL⟩
  have K12 : Hid (rqT rs L (m : Int) f rt i = true → code = 12) := fun h => H12.out (by first | rfl | trivial) h
  have K11 : Hid (rqT rs L (m : Int) f rt i = false → ms < rqS rs L (m : Int) i + du → code = 11) := fun h h2 => H11.out (by first | rfl | trivial) h h2
  have K10 : Hid (rqT rs L (m : Int) f rt i = false → ¬ ms < rqS rs L (m : Int) i + du → code = 0) := fun h h2 => H10.out (by first | rfl | trivial) h h2
  clear H13 H12 H11 H10
  go_upto_region 4 with fail
  refine wp_region_held_drew (S := fun W => Below W0.heap.size W0 W) (by kernel_rfl) (chain H0.out (below_drew _)) (fun hH => ?_)
  generalize V0.drew = V1 at *
  refine wpAnyH_take (i := 0) (v := .slice (some ⟨b0, o0, none⟩) rs.length cap) rfl (by kernel_rfl) (by kernel_rfl) (by kernel_rfl) (fun _ _ _ h => h) (Or.inl ⟨by rfl, fun w hSw => by clear hSw; go_simp⟩) hH ?_
  refine wpAnyH_take (i := 1) (v := .int .i64 (i : Int)) rfl (by kernel_rfl) (by kernel_rfl) (by kernel_rfl) (fun _ _ _ h => h) (Or.inl ⟨by rfl, fun w hSw => by clear hSw; go_simp⟩) hH ?_
  try simp only [Act.put, List.setIfInBounds_toArray, List.set_cons_zero, List.set_cons_succ, List.getElem_toArray, List.getElem_cons_succ, List.getElem_cons_zero]
  refine wpAnyH_take (i := 2) (v := .pointer (some ⟨b0, o0 + i * 3, none⟩)) rfl (by kernel_rfl) (by kernel_rfl) (by kernel_rfl) (fun _ _ _ h => h) (Or.inl ⟨by rfl, fun w hSw => by clear hSw; go_simp⟩) hH ?_
  try simp only [Act.put, List.setIfInBounds_toArray, List.set_cons_zero, List.set_cons_succ, List.getElem_toArray, List.getElem_cons_succ, List.getElem_cons_zero]
  refine wpAnyH_take (i := 3) (v := .pointer (some ⟨b0, o0 + i * 3 + 1, none⟩)) rfl (by kernel_rfl) (by kernel_rfl) (by kernel_rfl) (fun _ _ _ h => h) (Or.inl ⟨by rfl, fun w hSw => by clear hSw; go_simp⟩) hH ?_
  try simp only [Act.put, List.setIfInBounds_toArray, List.set_cons_zero, List.set_cons_succ, List.getElem_toArray, List.getElem_cons_succ, List.getElem_cons_zero]
  refine wpAnyH_take (i := 4) (v := .int .i64 t) rfl (by kernel_rfl) (by kernel_rfl) (by kernel_rfl) (fun _ _ _ h => h) (Or.inl ⟨by rfl, fun w hSw => by obtain ⟨e0, e1, e2⟩ := HAi.out w (HX.out w hSw).1; clear hSw; go_simp⟩) hH ?_
  try simp only [Act.put, List.setIfInBounds_toArray, List.set_cons_zero, List.set_cons_succ, List.getElem_toArray, List.getElem_cons_succ, List.getElem_cons_zero]
  refine wpAnyH_take (i := 5) (v := .slice (some ⟨b0, o0, none⟩) rs.length cap) rfl (by kernel_rfl) (by kernel_rfl) (by kernel_rfl) (fun _ _ _ h => h) (Or.inl ⟨by rfl, fun w hSw => by clear hSw; go_simp⟩) hH ?_
  try simp only [Act.put, List.setIfInBounds_toArray, List.set_cons_zero, List.set_cons_succ, List.getElem_toArray, List.getElem_cons_succ, List.getElem_cons_zero]
  refine wpAnyH_take (i := 6) (v := .int .i64 (i : Int)) rfl (by kernel_rfl) (by kernel_rfl) (by kernel_rfl) (fun _ _ _ h => h) (Or.inl ⟨by rfl, fun w hSw => by clear hSw; go_simp⟩) hH ?_
  try simp only [Act.put, List.setIfInBounds_toArray, List.set_cons_zero, List.set_cons_succ, List.getElem_toArray, List.getElem_cons_succ, List.getElem_cons_zero]
  refine wpAnyH_take (i := 7) (v := .pointer (some ⟨b0, o0 + i * 3, none⟩)) rfl (by kernel_rfl) (by kernel_rfl) (by kernel_rfl) (fun _ _ _ h => h) (Or.inl ⟨by rfl, fun w hSw => by clear hSw; go_simp⟩) hH ?_
  try simp only [Act.put, List.setIfInBounds_toArray, List.set_cons_zero, List.set_cons_succ, List.getElem_toArray, List.getElem_cons_succ, List.getElem_cons_zero]
  refine wpAnyH_take (i := 8) (v := .pointer (some ⟨b0, o0 + i * 3, none⟩)) rfl (by kernel_rfl) (by kernel_rfl) (by kernel_rfl) (fun _ _ _ h => h) (Or.inl ⟨by rfl, fun w hSw => by clear hSw; go_simp⟩) hH ?_
  try simp only [Act.put, List.setIfInBounds_toArray, List.set_cons_zero, List.set_cons_succ, List.getElem_toArray, List.getElem_cons_succ, List.getElem_cons_zero]
  refine wpAnyH_take (i := 9) (v := .int .i64 f) rfl (by kernel_rfl) (by kernel_rfl) (by kernel_rfl) (fun _ _ _ h => h) (Or.inl ⟨by rfl, fun w hSw => by obtain ⟨e0, e1, e2⟩ := HAi.out w (HX.out w hSw).1; clear hSw; go_simp⟩) hH ?_
  try simp only [Act.put, List.setIfInBounds_toArray, List.set_cons_zero, List.set_cons_succ, List.getElem_toArray, List.getElem_cons_succ, List.getElem_cons_zero]
  refine wpAnyH_take (i := 10) (v := .int .i64 du) rfl (by kernel_rfl) (by kernel_rfl) (by kernel_rfl) (fun _ _ _ h => h) (Or.inl ⟨by rfl, fun w hSw => by clear hSw; go_simp⟩) hH ?_
  try simp only [Act.put, List.setIfInBounds_toArray, List.set_cons_zero, List.set_cons_succ, List.getElem_toArray, List.getElem_cons_succ, List.getElem_cons_zero]
  refine wpAnyH_take (i := 11) (v := .int .i64 du) rfl (by kernel_rfl) (by kernel_rfl) (by kernel_rfl) (fun _ _ _ h => h) (Or.inl ⟨by rfl, fun w hSw => by clear hSw; go_simp⟩) hH ?_
  try simp only [Act.put, List.setIfInBounds_toArray, List.set_cons_zero, List.set_cons_succ, List.getElem_toArray, List.getElem_cons_succ, List.getElem_cons_zero]
  refine wpAnyH_done (by kernel_rfl) ?_ _
  have H1 : Hid (Below W0.heap.size W0 V1) := hH
  clear hH H0 hwd
  go_wp2_with fail
  go_loopw [10, 11, 12] (fun a b c wr => ∃ (k : Nat) (S : Int) (T : Bool), k ≤ i ∧ a = .int .i64 (du + S) ∧ b = .bool T ∧ c = .int .i64 (k : Int) ∧ S = rqS rs L (m : Int) k ∧ T = rqT rs L (m : Int) f rt k ∧ Below W0.heap.size W0 wr) (fun _ _ c _ => i - (intOf c).toNat)
  case atStart => exact ⟨0, 0, false, Nat.zero_le _, by rw [Int.add_zero], rfl, rfl, HS0.out.1.symm, HS0.out.2.symm, H1.out⟩
  case round =>
    clear H1
    obtain ⟨k, S, T, hk, rfl, rfl, rfl, hS, hT, hW⟩ := hrel
    have HS : Hid (S = rqS rs L (m : Int) k ∧ T = rqT rs L (m : Int) f rt k) := ⟨hS, hT⟩
    have HW : Hid (Below W0.heap.size W0 wr) := hW
    have hSb := HSb.out k
    rw [← hS] at hSb
    clear hS hT hW
    by_cases hlt : k < i
    · have hlt' : (k : Int) < (i : Int) := by omega
      have hkr : (k : Int) < (rs.length : Int) := by omega
      have hkL : (k : Int) < (L.length : Int) := by omega
      have HSn : Hid (rqS rs L (m : Int) (k + 1) = S + if L.getD k 0 = (m : Int) then duB (rs.getD k zSf) else 0) := by have := HIH.out k; rw [← HS.out.1] at this; exact this
      have HTn : Hid (rqT rs L (m : Int) f rt (k + 1) = (T || (decide (L.getD k 0 = (m : Int)) && decide (f < (rs.getD k zSf).to + rt)))) := by have := HIT.out k; rw [← HS.out.2] at this; exact this
      have HAk : Hid (∀ W, Below W0.heap.size W0 W → SfAt W b0 (o0 + k * 3) (rs.getD k zSf)) := fun W hW => HA.out W (HX.out W hW).1 k (by omega)
      have HLk2 : Hid (∀ W, Below W0.heap.size W0 W → W.cell? ⟨b2, o2 + k, none⟩ = some (.int .i64 (L.getD k 0)) ∧ W.cell? ⟨b2, o2 + i, none⟩ = some (.int .i64 (m : Int))) := fun W hW => ⟨HLk.out W (HX.out W hW).1 k (by omega), by have := HLk.out W (HX.out W hW).1 i hiL; rw [HLi.out] at this; exact this⟩
      have hfk := HFb.out k
      have HDk : Hid (duB (rs.getD k zSf) = (rs.getD k zSf).to - (rs.getD k zSf).fr) := rfl
      generalize rs.getD k zSf = q at *
      obtain ⟨fk, tk, snk⟩ := q
      dsimp only at *
      generalize L.getD k 0 = d at *
      generalize duB ⟨fk, tk, snk⟩ = dk at *
      clear HS
      go_upto_region 9 with fail
      refine wp_region_held_drew (S := fun W => Below W0.heap.size W0 W) (by kernel_rfl) (chain HW.out (below_drew _)) (fun hH => ?_)
      generalize wr.drew = V2 at *
      refine wpAnyH_take (i := 0) (v := .slice (some ⟨b2, o2, none⟩) L.length co) rfl (by kernel_rfl) (by kernel_rfl) (by kernel_rfl) (fun _ _ _ h => h) (Or.inl ⟨by rfl, fun w hSw => by clear hSw; go_simp⟩) hH ?_
      refine wpAnyH_take (i := 1) (v := .int .i64 (k : Int)) rfl (by kernel_rfl) (by kernel_rfl) (by kernel_rfl) (fun _ _ _ h => h) (Or.inl ⟨by rfl, fun w hSw => by clear hSw; go_simp⟩) hH ?_
      try simp only [Act.put, List.setIfInBounds_toArray, List.set_cons_zero, List.set_cons_succ, List.getElem_toArray, List.getElem_cons_succ, List.getElem_cons_zero]
      refine wpAnyH_take (i := 2) (v := .pointer (some ⟨b2, o2 + k, none⟩)) rfl (by kernel_rfl) (by kernel_rfl) (by kernel_rfl) (fun _ _ _ h => h) (Or.inl ⟨by rfl, fun w hSw => by clear hSw; go_simp⟩) hH ?_
      try simp only [Act.put, List.setIfInBounds_toArray, List.set_cons_zero, List.set_cons_succ, List.getElem_toArray, List.getElem_cons_succ, List.getElem_cons_zero]
      refine wpAnyH_take (i := 3) (v := .int .i64 d) rfl (by kernel_rfl) (by kernel_rfl) (by kernel_rfl) (fun _ _ _ h => h) (Or.inl ⟨by rfl, fun w hSw => by obtain ⟨e0, e1⟩ := HLk2.out w hSw; clear hSw; go_simp⟩) hH ?_
      try simp only [Act.put, List.setIfInBounds_toArray, List.set_cons_zero, List.set_cons_succ, List.getElem_toArray, List.getElem_cons_succ, List.getElem_cons_zero]
      refine wpAnyH_take (i := 4) (v := .slice (some ⟨b2, o2, none⟩) L.length co) rfl (by kernel_rfl) (by kernel_rfl) (by kernel_rfl) (fun _ _ _ h => h) (Or.inl ⟨by rfl, fun w hSw => by clear hSw; go_simp⟩) hH ?_
      try simp only [Act.put, List.setIfInBounds_toArray, List.set_cons_zero, List.set_cons_succ, List.getElem_toArray, List.getElem_cons_succ, List.getElem_cons_zero]
      refine wpAnyH_take (i := 5) (v := .int .i64 (i : Int)) rfl (by kernel_rfl) (by kernel_rfl) (by kernel_rfl) (fun _ _ _ h => h) (Or.inl ⟨by rfl, fun w hSw => by clear hSw; go_simp⟩) hH ?_
      try simp only [Act.put, List.setIfInBounds_toArray, List.set_cons_zero, List.set_cons_succ, List.getElem_toArray, List.getElem_cons_succ, List.getElem_cons_zero]
      refine wpAnyH_take (i := 6) (v := .pointer (some ⟨b2, o2 + i, none⟩)) rfl (by kernel_rfl) (by kernel_rfl) (by kernel_rfl) (fun _ _ _ h => h) (Or.inl ⟨by rfl, fun w hSw => by clear hSw; go_simp⟩) hH ?_
      try simp only [Act.put, List.setIfInBounds_toArray, List.set_cons_zero, List.set_cons_succ, List.getElem_toArray, List.getElem_cons_succ, List.getElem_cons_zero]
      refine wpAnyH_take (i := 7) (v := .int .i64 (m : Int)) rfl (by kernel_rfl) (by kernel_rfl) (by kernel_rfl) (fun _ _ _ h => h) (Or.inl ⟨by rfl, fun w hSw => by obtain ⟨e0, e1⟩ := HLk2.out w hSw; clear hSw; go_simp⟩) hH ?_
      try simp only [Act.put, List.setIfInBounds_toArray, List.set_cons_zero, List.set_cons_succ, List.getElem_toArray, List.getElem_cons_succ, List.getElem_cons_zero]
      refine wpAnyH_take (i := 8) (v := .bool (d == (m : Int))) rfl (by kernel_rfl) (by kernel_rfl) (by kernel_rfl) (fun _ _ _ h => h) (Or.inl ⟨by rfl, fun w hSw => by clear hSw; go_simp⟩) hH ?_
      try simp only [Act.put, List.setIfInBounds_toArray, List.set_cons_zero, List.set_cons_succ, List.getElem_toArray, List.getElem_cons_succ, List.getElem_cons_zero]
      refine wpAnyH_done (by kernel_rfl) ?_ _
      have H2 : Hid (Below W0.heap.size W0 V2) := hH
      clear hH HW
      by_cases hdm : d = (m : Int)
      · have hdb : (d == (m : Int)) = true := by simpa using hdm
        have HS2 : Hid (rqS rs L (m : Int) (k + 1) = S + dk) := by show _ = _; rw [HSn.out, if_pos hdm]
        have HT2 : Hid (rqT rs L (m : Int) f rt (k + 1) = (T || decide (f < tk + rt))) := by show _ = _; rw [HTn.out, decide_eq_true hdm, Bool.true_and]
        have hw1 : IntKind.i64.wrap (tk - fk) = dk := by have := HDk.out; rw [wrap_id _ (by omega) (by omega)]; exact this.symm
        have hw2 : IntKind.i64.wrap (du + S + dk) = du + (S + dk) := by rw [wrap_id _ (by omega) (by omega)]; omega
        have hw3 : IntKind.i64.wrap (tk + rt) = tk + rt := wrap_id _ (by omega) (by omega)
        rw [hdb]
        clear hdb hdm HSn HTn
        go_upto_region 10 with fail
        refine wp_region_held_drew (S := fun W => Below W0.heap.size W0 W) (by kernel_rfl) (chain H2.out (below_drew _)) (fun hH => ?_)
        generalize V2.drew = V3 at *
        refine wpAnyH_take (i := 0) (v := .int .i64 (du + S)) rfl (by kernel_rfl) (by kernel_rfl) (by kernel_rfl) (fun _ _ _ h => h) (Or.inl ⟨by rfl, fun w hSw => by clear hSw; go_simp⟩) hH ?_
        refine wpAnyH_take (i := 1) (v := .slice (some ⟨b0, o0, none⟩) rs.length cap) rfl (by kernel_rfl) (by kernel_rfl) (by kernel_rfl) (fun _ _ _ h => h) (Or.inl ⟨by rfl, fun w hSw => by clear hSw; go_simp⟩) hH ?_
        try simp only [Act.put, List.setIfInBounds_toArray, List.set_cons_zero, List.set_cons_succ, List.getElem_toArray, List.getElem_cons_succ, List.getElem_cons_zero]
        refine wpAnyH_take (i := 2) (v := .int .i64 (k : Int)) rfl (by kernel_rfl) (by kernel_rfl) (by kernel_rfl) (fun _ _ _ h => h) (Or.inl ⟨by rfl, fun w hSw => by clear hSw; go_simp⟩) hH ?_
        try simp only [Act.put, List.setIfInBounds_toArray, List.set_cons_zero, List.set_cons_succ, List.getElem_toArray, List.getElem_cons_succ, List.getElem_cons_zero]
        refine wpAnyH_take (i := 3) (v := .pointer (some ⟨b0, o0 + k * 3, none⟩)) rfl (by kernel_rfl) (by kernel_rfl) (by kernel_rfl) (fun _ _ _ h => h) (Or.inl ⟨by rfl, fun w hSw => by clear hSw; go_simp⟩) hH ?_
        try simp only [Act.put, List.setIfInBounds_toArray, List.set_cons_zero, List.set_cons_succ, List.getElem_toArray, List.getElem_cons_succ, List.getElem_cons_zero]
        refine wpAnyH_take (i := 4) (v := .pointer (some ⟨b0, o0 + k * 3 + 1, none⟩)) rfl (by kernel_rfl) (by kernel_rfl) (by kernel_rfl) (fun _ _ _ h => h) (Or.inl ⟨by rfl, fun w hSw => by clear hSw; go_simp⟩) hH ?_
        try simp only [Act.put, List.setIfInBounds_toArray, List.set_cons_zero, List.set_cons_succ, List.getElem_toArray, List.getElem_cons_succ, List.getElem_cons_zero]
        refine wpAnyH_take (i := 5) (v := .int .i64 tk) rfl (by kernel_rfl) (by kernel_rfl) (by kernel_rfl) (fun _ _ _ h => h) (Or.inl ⟨by rfl, fun w hSw => by obtain ⟨e0, e1, e2⟩ := HAk.out w hSw; clear hSw; go_simp⟩) hH ?_
        try simp only [Act.put, List.setIfInBounds_toArray, List.set_cons_zero, List.set_cons_succ, List.getElem_toArray, List.getElem_cons_succ, List.getElem_cons_zero]
        refine wpAnyH_take (i := 6) (v := .slice (some ⟨b0, o0, none⟩) rs.length cap) rfl (by kernel_rfl) (by kernel_rfl) (by kernel_rfl) (fun _ _ _ h => h) (Or.inl ⟨by rfl, fun w hSw => by clear hSw; go_simp⟩) hH ?_
        try simp only [Act.put, List.setIfInBounds_toArray, List.set_cons_zero, List.set_cons_succ, List.getElem_toArray, List.getElem_cons_succ, List.getElem_cons_zero]
        refine wpAnyH_take (i := 7) (v := .int .i64 (k : Int)) rfl (by kernel_rfl) (by kernel_rfl) (by kernel_rfl) (fun _ _ _ h => h) (Or.inl ⟨by rfl, fun w hSw => by clear hSw; go_simp⟩) hH ?_
        try simp only [Act.put, List.setIfInBounds_toArray, List.set_cons_zero, List.set_cons_succ, List.getElem_toArray, List.getElem_cons_succ, List.getElem_cons_zero]
        refine wpAnyH_take (i := 8) (v := .pointer (some ⟨b0, o0 + k * 3, none⟩)) rfl (by kernel_rfl) (by kernel_rfl) (by kernel_rfl) (fun _ _ _ h => h) (Or.inl ⟨by rfl, fun w hSw => by clear hSw; go_simp⟩) hH ?_
        try simp only [Act.put, List.setIfInBounds_toArray, List.set_cons_zero, List.set_cons_succ, List.getElem_toArray, List.getElem_cons_succ, List.getElem_cons_zero]
        refine wpAnyH_take (i := 9) (v := .pointer (some ⟨b0, o0 + k * 3, none⟩)) rfl (by kernel_rfl) (by kernel_rfl) (by kernel_rfl) (fun _ _ _ h => h) (Or.inl ⟨by rfl, fun w hSw => by clear hSw; go_simp⟩) hH ?_
        try simp only [Act.put, List.setIfInBounds_toArray, List.set_cons_zero, List.set_cons_succ, List.getElem_toArray, List.getElem_cons_succ, List.getElem_cons_zero]
        refine wpAnyH_take (i := 10) (v := .int .i64 fk) rfl (by kernel_rfl) (by kernel_rfl) (by kernel_rfl) (fun _ _ _ h => h) (Or.inl ⟨by rfl, fun w hSw => by obtain ⟨e0, e1, e2⟩ := HAk.out w hSw; clear hSw; go_simp⟩) hH ?_
        try simp only [Act.put, List.setIfInBounds_toArray, List.set_cons_zero, List.set_cons_succ, List.getElem_toArray, List.getElem_cons_succ, List.getElem_cons_zero]
        refine wpAnyH_take (i := 11) (v := .int .i64 dk) rfl (by kernel_rfl) (by kernel_rfl) (by kernel_rfl) (fun _ _ _ h => h) (Or.inl ⟨by rfl, fun w hSw => by clear hSw; go_simp⟩) hH ?_
        try simp only [Act.put, List.setIfInBounds_toArray, List.set_cons_zero, List.set_cons_succ, List.getElem_toArray, List.getElem_cons_succ, List.getElem_cons_zero]
        refine wpAnyH_take (i := 12) (v := .int .i64 (du + (S + dk))) rfl (by kernel_rfl) (by kernel_rfl) (by kernel_rfl) (fun _ _ _ h => h) (Or.inl ⟨by rfl, fun w hSw => by clear hSw; go_simp⟩) hH ?_
        try simp only [Act.put, List.setIfInBounds_toArray, List.set_cons_zero, List.set_cons_succ, List.getElem_toArray, List.getElem_cons_succ, List.getElem_cons_zero]
        refine wpAnyH_take (i := 13) (v := .int .i64 (du + (S + dk))) rfl (by kernel_rfl) (by kernel_rfl) (by kernel_rfl) (fun _ _ _ h => h) (Or.inl ⟨by rfl, fun w hSw => by clear hSw; go_simp⟩) hH ?_
        try simp only [Act.put, List.setIfInBounds_toArray, List.set_cons_zero, List.set_cons_succ, List.getElem_toArray, List.getElem_cons_succ, List.getElem_cons_zero]
        refine wpAnyH_done (by kernel_rfl) ?_ _
        have H3 : Hid (Below W0.heap.size W0 V3) := hH
        clear hH H2 hw1 hw2
        go_upto_region 11 with fail
        refine wp_region_held_drew (S := fun W => Below W0.heap.size W0 W) (by kernel_rfl) (chain H3.out (below_drew _)) (fun hH => ?_)
        generalize V3.drew = V4 at *
        refine wpAnyH_take (i := 0) (v := .bool T) rfl (by kernel_rfl) (by kernel_rfl) (by kernel_rfl) (fun _ _ _ h => h) (Or.inl ⟨by rfl, fun w hSw => by clear hSw; go_simp⟩) hH ?_
        refine wpAnyH_take (i := 1) (v := .bool T) rfl (by kernel_rfl) (by kernel_rfl) (by kernel_rfl) (fun _ _ _ h => h) (Or.inl ⟨by rfl, fun w hSw => by clear hSw; go_simp⟩) hH ?_
        try simp only [Act.put, List.setIfInBounds_toArray, List.set_cons_zero, List.set_cons_succ, List.getElem_toArray, List.getElem_cons_succ, List.getElem_cons_zero]
        cases T
        · skip
          refine wpAnyH_take (i := 2) (v := .slice (some ⟨b0, o0, none⟩) rs.length cap) rfl (by kernel_rfl) (by kernel_rfl) (by kernel_rfl) (fun _ _ _ h => h) (Or.inl ⟨by rfl, fun w hSw => by clear hSw; go_simp⟩) hH ?_
          try simp only [Act.put, List.setIfInBounds_toArray, List.set_cons_zero, List.set_cons_succ, List.getElem_toArray, List.getElem_cons_succ, List.getElem_cons_zero]
          refine wpAnyH_take (i := 3) (v := .int .i64 (i : Int)) rfl (by kernel_rfl) (by kernel_rfl) (by kernel_rfl) (fun _ _ _ h => h) (Or.inl ⟨by rfl, fun w hSw => by clear hSw; go_simp⟩) hH ?_
          try simp only [Act.put, List.setIfInBounds_toArray, List.set_cons_zero, List.set_cons_succ, List.getElem_toArray, List.getElem_cons_succ, List.getElem_cons_zero]
          refine wpAnyH_take (i := 4) (v := .pointer (some ⟨b0, o0 + i * 3, none⟩)) rfl (by kernel_rfl) (by kernel_rfl) (by kernel_rfl) (fun _ _ _ h => h) (Or.inl ⟨by rfl, fun w hSw => by clear hSw; go_simp⟩) hH ?_
          try simp only [Act.put, List.setIfInBounds_toArray, List.set_cons_zero, List.set_cons_succ, List.getElem_toArray, List.getElem_cons_succ, List.getElem_cons_zero]
          refine wpAnyH_take (i := 5) (v := .pointer (some ⟨b0, o0 + i * 3, none⟩)) rfl (by kernel_rfl) (by kernel_rfl) (by kernel_rfl) (fun _ _ _ h => h) (Or.inl ⟨by rfl, fun w hSw => by clear hSw; go_simp⟩) hH ?_
          try simp only [Act.put, List.setIfInBounds_toArray, List.set_cons_zero, List.set_cons_succ, List.getElem_toArray, List.getElem_cons_succ, List.getElem_cons_zero]
          refine wpAnyH_take (i := 6) (v := .int .i64 f) rfl (by kernel_rfl) (by kernel_rfl) (by kernel_rfl) (fun _ _ _ h => h) (Or.inl ⟨by rfl, fun w hSw => by obtain ⟨e0, e1, e2⟩ := HAi.out w (HX.out w hSw).1; clear hSw; go_simp⟩) hH ?_
          try simp only [Act.put, List.setIfInBounds_toArray, List.set_cons_zero, List.set_cons_succ, List.getElem_toArray, List.getElem_cons_succ, List.getElem_cons_zero]
          refine wpAnyH_take (i := 7) (v := .slice (some ⟨b0, o0, none⟩) rs.length cap) rfl (by kernel_rfl) (by kernel_rfl) (by kernel_rfl) (fun _ _ _ h => h) (Or.inl ⟨by rfl, fun w hSw => by clear hSw; go_simp⟩) hH ?_
          try simp only [Act.put, List.setIfInBounds_toArray, List.set_cons_zero, List.set_cons_succ, List.getElem_toArray, List.getElem_cons_succ, List.getElem_cons_zero]
          refine wpAnyH_take (i := 8) (v := .int .i64 (k : Int)) rfl (by kernel_rfl) (by kernel_rfl) (by kernel_rfl) (fun _ _ _ h => h) (Or.inl ⟨by rfl, fun w hSw => by clear hSw; go_simp⟩) hH ?_
          try simp only [Act.put, List.setIfInBounds_toArray, List.set_cons_zero, List.set_cons_succ, List.getElem_toArray, List.getElem_cons_succ, List.getElem_cons_zero]
          refine wpAnyH_take (i := 9) (v := .pointer (some ⟨b0, o0 + k * 3, none⟩)) rfl (by kernel_rfl) (by kernel_rfl) (by kernel_rfl) (fun _ _ _ h => h) (Or.inl ⟨by rfl, fun w hSw => by clear hSw; go_simp⟩) hH ?_
          try simp only [Act.put, List.setIfInBounds_toArray, List.set_cons_zero, List.set_cons_succ, List.getElem_toArray, List.getElem_cons_succ, List.getElem_cons_zero]
          refine wpAnyH_take (i := 10) (v := .pointer (some ⟨b0, o0 + k * 3 + 1, none⟩)) rfl (by kernel_rfl) (by kernel_rfl) (by kernel_rfl) (fun _ _ _ h => h) (Or.inl ⟨by rfl, fun w hSw => by clear hSw; go_simp⟩) hH ?_
          try simp only [Act.put, List.setIfInBounds_toArray, List.set_cons_zero, List.set_cons_succ, List.getElem_toArray, List.getElem_cons_succ, List.getElem_cons_zero]
          refine wpAnyH_take (i := 11) (v := .int .i64 tk) rfl (by kernel_rfl) (by kernel_rfl) (by kernel_rfl) (fun _ _ _ h => h) (Or.inl ⟨by rfl, fun w hSw => by obtain ⟨e0, e1, e2⟩ := HAk.out w hSw; clear hSw; go_simp⟩) hH ?_
          try simp only [Act.put, List.setIfInBounds_toArray, List.set_cons_zero, List.set_cons_succ, List.getElem_toArray, List.getElem_cons_succ, List.getElem_cons_zero]
          refine wpAnyH_take (i := 12) (v := .pointer (some ⟨xb, 2, none⟩)) rfl (by kernel_rfl) (by kernel_rfl) (by kernel_rfl) (fun _ _ _ h => h) (Or.inl ⟨by rfl, fun w hSw => by clear hSw; go_simp⟩) hH ?_
          try simp only [Act.put, List.setIfInBounds_toArray, List.set_cons_zero, List.set_cons_succ, List.getElem_toArray, List.getElem_cons_succ, List.getElem_cons_zero]
          refine wpAnyH_take (i := 13) (v := .int .i64 rt) rfl (by kernel_rfl) (by kernel_rfl) (by kernel_rfl) (fun _ _ _ h => h) (Or.inl ⟨by rfl, fun w hSw => by obtain ⟨_, e0, e1, e2⟩ := HX.out w hSw; clear hSw; go_simp⟩) hH ?_
          try simp only [Act.put, List.setIfInBounds_toArray, List.set_cons_zero, List.set_cons_succ, List.getElem_toArray, List.getElem_cons_succ, List.getElem_cons_zero]
          refine wpAnyH_take (i := 14) (v := .int .i64 (tk + rt)) rfl (by kernel_rfl) (by kernel_rfl) (by kernel_rfl) (fun _ _ _ h => h) (Or.inl ⟨by rfl, fun w hSw => by clear hSw; go_simp⟩) hH ?_
          try simp only [Act.put, List.setIfInBounds_toArray, List.set_cons_zero, List.set_cons_succ, List.getElem_toArray, List.getElem_cons_succ, List.getElem_cons_zero]
          refine wpAnyH_take (i := 15) (v := .bool (decide (f < tk + rt))) rfl (by kernel_rfl) (by kernel_rfl) (by kernel_rfl) (fun _ _ _ h => h) (Or.inl ⟨by rfl, fun w hSw => by clear hSw; go_simp⟩) hH ?_
          try simp only [Act.put, List.setIfInBounds_toArray, List.set_cons_zero, List.set_cons_succ, List.getElem_toArray, List.getElem_cons_succ, List.getElem_cons_zero]
          refine wpAnyH_take (i := 16) (v := .bool (decide (f < tk + rt))) rfl (by kernel_rfl) (by kernel_rfl) (by kernel_rfl) (fun _ _ _ h => h) (Or.inl ⟨by rfl, fun w hSw => by clear hSw; go_simp⟩) hH ?_
          try simp only [Act.put, List.setIfInBounds_toArray, List.set_cons_zero, List.set_cons_succ, List.getElem_toArray, List.getElem_cons_succ, List.getElem_cons_zero]
          refine wpAnyH_take (i := 17) (v := .bool (decide (f < tk + rt))) rfl (by kernel_rfl) (by kernel_rfl) (by kernel_rfl) (fun _ _ _ h => h) (Or.inl ⟨by rfl, fun w hSw => by clear hSw; go_simp⟩) hH ?_
          try simp only [Act.put, List.setIfInBounds_toArray, List.set_cons_zero, List.set_cons_succ, List.getElem_toArray, List.getElem_cons_succ, List.getElem_cons_zero]
          refine wpAnyH_done (by kernel_rfl) ?_ _
          have H4 : Hid (Below W0.heap.size W0 V4) := hH
          clear hH H3 hw3
          have HT3 : Hid (decide (f < tk + rt) = rqT rs L (m : Int) f rt (k + 1)) := by show _ = _; rw [HT2.out, Bool.false_or]
          clear HT2
          generalize decide (f < tk + rt) = bt at *
          go_wp2
          exact ⟨⟨k + 1, S + dk, bt, by omega, rfl, rfl, by go_num, HS2.out.symm, HT3.out, H4.out⟩, by simp [intOf]; omega⟩
        · skip
          refine wpAnyH_take (i := 2) (v := undef) rfl (by kernel_rfl) (by kernel_rfl) (by kernel_rfl) (fun _ _ _ h => h) (Or.inr ⟨by rfl, rfl⟩) hH ?_
          try simp only [Act.put, List.setIfInBounds_toArray, List.set_cons_zero, List.set_cons_succ, List.getElem_toArray, List.getElem_cons_succ, List.getElem_cons_zero]
          refine wpAnyH_take (i := 3) (v := undef) rfl (by kernel_rfl) (by kernel_rfl) (by kernel_rfl) (fun _ _ _ h => h) (Or.inr ⟨by rfl, rfl⟩) hH ?_
          try simp only [Act.put, List.setIfInBounds_toArray, List.set_cons_zero, List.set_cons_succ, List.getElem_toArray, List.getElem_cons_succ, List.getElem_cons_zero]
          refine wpAnyH_take (i := 4) (v := undef) rfl (by kernel_rfl) (by kernel_rfl) (by kernel_rfl) (fun _ _ _ h => h) (Or.inr ⟨by rfl, rfl⟩) hH ?_
          try simp only [Act.put, List.setIfInBounds_toArray, List.set_cons_zero, List.set_cons_succ, List.getElem_toArray, List.getElem_cons_succ, List.getElem_cons_zero]
          refine wpAnyH_take (i := 5) (v := undef) rfl (by kernel_rfl) (by kernel_rfl) (by kernel_rfl) (fun _ _ _ h => h) (Or.inr ⟨by rfl, rfl⟩) hH ?_
          try simp only [Act.put, List.setIfInBounds_toArray, List.set_cons_zero, List.set_cons_succ, List.getElem_toArray, List.getElem_cons_succ, List.getElem_cons_zero]
          refine wpAnyH_take (i := 6) (v := undef) rfl (by kernel_rfl) (by kernel_rfl) (by kernel_rfl) (fun _ _ _ h => h) (Or.inr ⟨by rfl, rfl⟩) hH ?_
          try simp only [Act.put, List.setIfInBounds_toArray, List.set_cons_zero, List.set_cons_succ, List.getElem_toArray, List.getElem_cons_succ, List.getElem_cons_zero]
          refine wpAnyH_take (i := 7) (v := undef) rfl (by kernel_rfl) (by kernel_rfl) (by kernel_rfl) (fun _ _ _ h => h) (Or.inr ⟨by rfl, rfl⟩) hH ?_
          try simp only [Act.put, List.setIfInBounds_toArray, List.set_cons_zero, List.set_cons_succ, List.getElem_toArray, List.getElem_cons_succ, List.getElem_cons_zero]
          refine wpAnyH_take (i := 8) (v := undef) rfl (by kernel_rfl) (by kernel_rfl) (by kernel_rfl) (fun _ _ _ h => h) (Or.inr ⟨by rfl, rfl⟩) hH ?_
          try simp only [Act.put, List.setIfInBounds_toArray, List.set_cons_zero, List.set_cons_succ, List.getElem_toArray, List.getElem_cons_succ, List.getElem_cons_zero]
          refine wpAnyH_take (i := 9) (v := undef) rfl (by kernel_rfl) (by kernel_rfl) (by kernel_rfl) (fun _ _ _ h => h) (Or.inr ⟨by rfl, rfl⟩) hH ?_
          try simp only [Act.put, List.setIfInBounds_toArray, List.set_cons_zero, List.set_cons_succ, List.getElem_toArray, List.getElem_cons_succ, List.getElem_cons_zero]
          refine wpAnyH_take (i := 10) (v := undef) rfl (by kernel_rfl) (by kernel_rfl) (by kernel_rfl) (fun _ _ _ h => h) (Or.inr ⟨by rfl, rfl⟩) hH ?_
          try simp only [Act.put, List.setIfInBounds_toArray, List.set_cons_zero, List.set_cons_succ, List.getElem_toArray, List.getElem_cons_succ, List.getElem_cons_zero]
          refine wpAnyH_take (i := 11) (v := undef) rfl (by kernel_rfl) (by kernel_rfl) (by kernel_rfl) (fun _ _ _ h => h) (Or.inr ⟨by rfl, rfl⟩) hH ?_
          try simp only [Act.put, List.setIfInBounds_toArray, List.set_cons_zero, List.set_cons_succ, List.getElem_toArray, List.getElem_cons_succ, List.getElem_cons_zero]
          refine wpAnyH_take (i := 12) (v := undef) rfl (by kernel_rfl) (by kernel_rfl) (by kernel_rfl) (fun _ _ _ h => h) (Or.inr ⟨by rfl, rfl⟩) hH ?_
          try simp only [Act.put, List.setIfInBounds_toArray, List.set_cons_zero, List.set_cons_succ, List.getElem_toArray, List.getElem_cons_succ, List.getElem_cons_zero]
          refine wpAnyH_take (i := 13) (v := undef) rfl (by kernel_rfl) (by kernel_rfl) (by kernel_rfl) (fun _ _ _ h => h) (Or.inr ⟨by rfl, rfl⟩) hH ?_
          try simp only [Act.put, List.setIfInBounds_toArray, List.set_cons_zero, List.set_cons_succ, List.getElem_toArray, List.getElem_cons_succ, List.getElem_cons_zero]
          refine wpAnyH_take (i := 14) (v := undef) rfl (by kernel_rfl) (by kernel_rfl) (by kernel_rfl) (fun _ _ _ h => h) (Or.inr ⟨by rfl, rfl⟩) hH ?_
          try simp only [Act.put, List.setIfInBounds_toArray, List.set_cons_zero, List.set_cons_succ, List.getElem_toArray, List.getElem_cons_succ, List.getElem_cons_zero]
          refine wpAnyH_take (i := 15) (v := undef) rfl (by kernel_rfl) (by kernel_rfl) (by kernel_rfl) (fun _ _ _ h => h) (Or.inr ⟨by rfl, rfl⟩) hH ?_
          try simp only [Act.put, List.setIfInBounds_toArray, List.set_cons_zero, List.set_cons_succ, List.getElem_toArray, List.getElem_cons_succ, List.getElem_cons_zero]
          refine wpAnyH_take (i := 16) (v := .bool true) rfl (by kernel_rfl) (by kernel_rfl) (by kernel_rfl) (fun _ _ _ h => h) (Or.inl ⟨by rfl, fun w hSw => by clear hSw; go_simp⟩) hH ?_
          try simp only [Act.put, List.setIfInBounds_toArray, List.set_cons_zero, List.set_cons_succ, List.getElem_toArray, List.getElem_cons_succ, List.getElem_cons_zero]
          refine wpAnyH_take (i := 17) (v := .bool true) rfl (by kernel_rfl) (by kernel_rfl) (by kernel_rfl) (fun _ _ _ h => h) (Or.inl ⟨by rfl, fun w hSw => by clear hSw; go_simp⟩) hH ?_
          try simp only [Act.put, List.setIfInBounds_toArray, List.set_cons_zero, List.set_cons_succ, List.getElem_toArray, List.getElem_cons_succ, List.getElem_cons_zero]
          refine wpAnyH_done (by kernel_rfl) ?_ _
          have H4 : Hid (Below W0.heap.size W0 V4) := hH
          clear hH H3 hw3
          have HT3 : Hid (true = rqT rs L (m : Int) f rt (k + 1)) := by show _ = _; rw [HT2.out, Bool.true_or]
          clear HT2
          go_wp2
          exact ⟨⟨k + 1, S + dk, true, by omega, rfl, rfl, by go_num, HS2.out.symm, HT3.out, H4.out⟩, by simp [intOf]; omega⟩
      · have hdb : (d == (m : Int)) = false := by simpa using hdm
        have HS2 : Hid (S = rqS rs L (m : Int) (k + 1)) := by show _ = _; rw [HSn.out, if_neg hdm]; omega
        have HT2 : Hid (T = rqT rs L (m : Int) f rt (k + 1)) := by show _ = _; rw [HTn.out, decide_eq_false hdm, Bool.false_and, Bool.or_false]
        rw [hdb]
        clear hdb hdm HSn HTn
        go_wp2
        exact ⟨⟨k + 1, S, T, by omega, rfl, rfl, by go_num, HS2.out, HT2.out, H2.out⟩, by simp [intOf]; omega⟩
    · have hle : (i : Int) ≤ (k : Int) := by omega
      obtain rfl : k = i := by omega
      have J12 : Hid (T = true → code = 12) := by have := K12.out; rwa [← HS.out.2] at this
      have J11 : Hid (T = false → ms < S + du → code = 11) := by have := K11.out; rwa [← HS.out.2, ← HS.out.1] at this
      have J10 : Hid (T = false → ¬ ms < S + du → code = 0) := fun q1 q2 => K10.out (by rw [← HS.out.2]; exact q1) (by rw [← HS.out.1]; omega)
      clear K12 K11 K10 HS HIH HIT HSb
      obtain ⟨HLw, x1, x2, x4⟩ := HX.out wr HW.out
      cases T
      · by_cases ho : ms < S + du
        · have HC : Hid (code = 11) := J11.out rfl ho
          have ho' : ms < du + S := by omega
          clear J12 J11 J10 x2 x4 ho
          go_wp2
          go_ret
          exact ⟨congrArg (fun c => Ending.returned (.int .i64 c)) HC.out.symm, HLw⟩
        · have HC : Hid (code = 0) := J10.out rfl ho
          have ho' : ¬ ms < du + S := by omega
          clear J12 J11 J10 x2 x4 ho
          go_wp2
          go_ret
          exact ⟨congrArg (fun c => Ending.returned (.int .i64 c)) HC.out.symm, HLw⟩
      · have HC : Hid (code = 12) := J12.out rfl
        clear J12 J11 J10 x2 x4 x1
        go_wp2
        go_ret
        exact ⟨congrArg (fun c => Ending.returned (.int .i64 c)) HC.out.symm, HLw⟩
end Go.Proofs.Yteigbmdhfeagfaa

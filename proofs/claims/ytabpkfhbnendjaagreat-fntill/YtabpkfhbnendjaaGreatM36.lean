/-
  Texts of this claim laid together: TlV.
-/
import Derived.Test.YtabpkfhbnendjaaGreatM26
/-
  The program's TillRun.
-/
namespace Go.Proofs.YtabpkfhbnendjaaGreat
open Go.ChangeShapes Go.WideShapes Go.ChangeAt Go.RowKit Go.Deep
set_option linter.unusedVariables false

def tillC (Bf : RIt → Bool) (its : List RIt) (acts : List RTa) : Int := if 4096 < its.length ∨ 4096 < acts.length then 2 else if itAll Bf its = false then 1 else if 200 < acts.length then 9 else 0
def tillO (R : ByteArray → Int × ByteArray × Int × Int) (Bf : RIt → Bool) (its : List RIt) (acts : List RTa) : List (Int × Int) := if tillC Bf its acts = 0 then runO R its acts acts.length else []
def tillT (R : ByteArray → Int × ByteArray × Int × Int) (Bf : RIt → Bool) (its : List RIt) (acts : List RTa) : Tl := if tillC Bf its acts = 0 then runT R its acts acts.length else tlN
theorem till_ways (R : ByteArray → Int × ByteArray × Int × Int) (Bf : RIt → Bool) (its : List RIt) (acts : List RTa) : ((4096 < its.length ∨ (its.length ≤ 4096 ∧ 4096 < acts.length)) ∧ tillC Bf its acts = 2 ∧ tillO R Bf its acts = [] ∧ tillT R Bf its acts = tlN) ∨ (its.length ≤ 4096 ∧ acts.length ≤ 4096 ∧ itAll Bf its = false ∧ tillC Bf its acts = 1 ∧ tillO R Bf its acts = [] ∧ tillT R Bf its acts = tlN) ∨ (its.length ≤ 4096 ∧ acts.length ≤ 4096 ∧ itAll Bf its = true ∧ 200 < acts.length ∧ tillC Bf its acts = 9 ∧ tillO R Bf its acts = [] ∧ tillT R Bf its acts = tlN) ∨ (its.length ≤ 4096 ∧ acts.length ≤ 4096 ∧ itAll Bf its = true ∧ acts.length ≤ 200 ∧ tillC Bf its acts = 0 ∧ tillO R Bf its acts = runO R its acts acts.length ∧ tillT R Bf its acts = runT R its acts acts.length) := by
  unfold tillO tillT
  by_cases h1 : 4096 < its.length ∨ 4096 < acts.length
  · have e : tillC Bf its acts = 2 := by unfold tillC; rw [if_pos h1]
    rw [e]
    exact .inl ⟨by omega, rfl, rfl, rfl⟩
  · cases h2 : itAll Bf its with
    | false =>
      have e : tillC Bf its acts = 1 := by unfold tillC; rw [if_neg h1, if_pos h2]
      rw [e]
      exact .inr (.inl ⟨by omega, by omega, rfl, rfl, rfl, rfl⟩)
    | true =>
      by_cases h3 : 200 < acts.length
      · have e : tillC Bf its acts = 9 := by unfold tillC; rw [if_neg h1, if_neg (by rw [h2]; simp), if_pos h3]
        rw [e]
        exact .inr (.inr (.inl ⟨by omega, by omega, rfl, h3, rfl, rfl, rfl⟩))
      · have e : tillC Bf its acts = 0 := by unfold tillC; rw [if_neg h1, if_neg (by rw [h2]; simp), if_neg h3]
        rw [e]
        exact .inr (.inr (.inr ⟨by omega, by omega, rfl, by omega, rfl, rfl, rfl⟩))
theorem not_TX {B : Nat} {w : World} {k : Nat} {cur : Array Value} {T : TypeId} (h : w.heap[k]? = some (.cells cur T (0, 0))) (h1 : T ≠ 51) (h2 : T ≠ 82) (h3 : T ≠ 30) : ¬ TX B w k := by
  rintro ⟨_, cur', T', e, q⟩
  rw [h] at e
  simp at e
  obtain ⟨_, rfl⟩ := e
  rcases q with q | q | q
  · exact h1 q
  · exact h2 q
  · exact h3 q
theorem RgT.start (w1 : World) (B : Nat) (hB : B ≤ w1.heap.size) (iv : Value) : RgT B w1.heap.size iv tl0 (w1.alloc (Obj.cells #[.slice none 0 0, .int .i64 0, iv, .slice none 0 0, .int .i64 0, .int .i64 0, .int .i64 0, .int .i64 0, .int .i64 0, .int .i64 0, .int .i64 0, .int .i64 0, .int .i64 0, .int .i64 0, .int .i64 0, .int .i64 0] 51)) :=
  ⟨.slice none 0 0, .slice none 0 0, [], rfl, heapNew _ _, World.ownsRow_nil _ _ _ _, World.ownsRow_nil _ _ _ _, fun _ h => by simp at h, dist_mk (by simp [Value.ownBlock]) (by simp [Value.ownBlock]) (fun _ h => by simp at h) (far_none _) (fun _ h => by simp at h) (fun _ h => by simp at h) (by simp), hB⟩
theorem readsTa_at {B : Nat} {w W : World} {a : Option Addr} {acts : List RTa} (h : ReadsTa B w a acts) (hb : Below B w W) (k : Nat) (hk : k < acts.length) : ∃ b off, a = some ⟨b, off, none⟩ ∧ W.cell? ⟨b, off + k * 3, none⟩ = some (.int .i64 (acts.getD k zTa).kd) ∧ W.cell? ⟨b, off + k * 3 + 1, none⟩ = some (.string (acts.getD k zTa).tx) ∧ W.cell? ⟨b, off + k * 3 + 2, none⟩ = some (.int .i64 (acts.getD k zTa).nm) := by
  rcases h with h | ⟨b, off, ha, hB, hi⟩
  · rw [h] at hk; simp at hk
  · obtain ⟨c0, c1, c2⟩ := (hi.below hb hB) k hk
    exact ⟨b, off, ha, c0, c1, c2⟩
set_option maxHeartbeats 16000000 in
set_option maxRecDepth 8000 in
theorem implTill_any (Bf : RIt → Bool) (hBi : ImplIt Bf) (hBn : ∀ r, Bf r = true → ItN r) (R : ByteArray → Int × ByteArray × Int × Int) (hR : RsI R) (hv : ∀ s, 0 ≤ (R s).2.2.1 ∧ (R s).2.2.1 ≤ 99999) (ia : Option Addr) (ic : Nat) (its : List RIt) (hic : its.length ≤ ic) (aa : Option Addr) (ac : Nat) (acts : List RTa) (hil : its.length ≤ 100000000) (hal : acts.length ≤ 100000000) (w : World) (hI : ReadsIt w.heap.size w ia its) (hA : ReadsTa w.heap.size w aa acts) :
    Calls Tryz.prog 5 #[(.slice ia its.length ic), .slice aa acts.length ac] w fun e w' => ∃ tv lv kv cv ks, e = .returned (.tuple #[tv, .agg #[lv, .int .i64 (tillT R Bf its acts).sh, kv, .int .i64 (tillT R Bf its acts).sl, .int .i64 (tillT R Bf its acts).tk, .int .i64 (tillT R Bf its acts).dp, cv], .int .i64 (tillC Bf its acts)]) ∧ AnsT w.heap.size (tillO R Bf its acts) (tillT R Bf its acts) tv lv kv cv ks w' ∧ Below w.heap.size w w' := by
  have HOK : Hid (∀ W, Below w.heap.size w W → Calls Tryz.prog 7 #[(.slice ia its.length ic)] W fun e w' => e = .returned (.bool (itAll Bf its)) ∧ Below W.heap.size W w') := fun W hW => implItems_any Bf hBi ia ic its hic W (readsIt_later hI hW)
  have HI : Hid (ReadsIt w.heap.size w ia its) := hI
  have HA : Hid (ReadsTa w.heap.size w aa acts) := hA
  have hwy := till_ways R Bf its acts
  have hnn : itAll Bf its = true → its.length ≤ 40 ∧ ∀ r ∈ its, ItN r := itAll_N hBn
  have HRu : Hid (∀ k, k < acts.length → (∀ r ∈ its, ItN r) → its.length ≤ 40 → k ≤ 200 → ∀ (B rb : Nat) (W : World), RgT B rb (.slice ia its.length ic) (runT R its acts k) W → ReadsIt B W ia its → B ≤ W.heap.size → Calls Tryz.prog 13 #[.pointer (some ⟨rb, 0, none⟩), .agg #[.int .i64 (acts.getD k zTa).kd, .string (acts.getD k zTa).tx, .int .i64 (acts.getD k zTa).nm]] W fun e w' => e = .returned (.agg #[.int .i64 (stepO R its (acts.getD k zTa) (runT R its acts k)).1, .int .i64 (stepO R its (acts.getD k zTa) (runT R its acts k)).2]) ∧ Fr (TX B W) W w' ∧ RgT B rb (.slice ia its.length ic) (runT R its acts (k + 1)) w') := fun k hk hok hl hk2 B rb W hg hi hb => implDo_any R hR hv ia ic its hok hl B rb k hk2 (runT R its acts k) (runT_OK hv hok acts k) (acts.getD k zTa) W hg hi hb
  have HTk : Hid ((∀ r ∈ its, ItN r) → TlOK its acts.length (runT R its acts acts.length)) := fun h => runT_OK hv h acts acts.length
  generalize hpost : (fun (e : Ending) (w' : World) => ∃ tv lv kv cv ks, e = .returned (.tuple #[tv, .agg #[lv, .int .i64 (tillT R Bf its acts).sh, kv, .int .i64 (tillT R Bf its acts).sl, .int .i64 (tillT R Bf its acts).tk, .int .i64 (tillT R Bf its acts).dp, cv], .int .i64 (tillC Bf its acts)]) ∧ AnsT w.heap.size (tillO R Bf its acts) (tillT R Bf its acts) tv lv kv cv ks w' ∧ Below w.heap.size w w') = post
  clear hI hA hBi hBn hR hv
  have HZ0 : Hid (∀ W, Below (w.alloc (Obj.cells #[.slice none 0 0, .int .i64 0, .slice none 0 0, .int .i64 0, .int .i64 0, .int .i64 0, .slice none 0 0] 34)).heap.size (w.alloc (Obj.cells #[.slice none 0 0, .int .i64 0, .slice none 0 0, .int .i64 0, .int .i64 0, .int .i64 0, .slice none 0 0] 34)) W → W.heap[w.heap.size]? = some (.cells #[.slice none 0 0, .int .i64 0, .slice none 0 0, .int .i64 0, .int .i64 0, .int .i64 0, .slice none 0 0] 34 (0, 0)) ∧ Below w.heap.size w W) := fun W hW => ⟨(hW.block _ (by simp)).trans (heapNew _ _), chain (below_alloc _ _) hW⟩
  rcases hwy with ⟨h1, e1, e2, e3⟩ | ⟨h1, h2, h3, e1, e2, e3⟩ | ⟨h1, h2, h3, h4, e1, e2, e3⟩ | ⟨h1, h2, h3, h4, e1, e2, e3⟩
  · skip
    rw [e1, e2, e3] at hpost
    have HP : Hid (∀ w' tv lv kv cv ks, AnsT w.heap.size [] tlN tv lv kv cv ks w' → Below w.heap.size w w' → post (.returned (.tuple #[tv, .agg #[lv, .int .i64 0, kv, .int .i64 0, .int .i64 0, .int .i64 0, cv], .int .i64 2])) w') := fun w' tv lv kv cv ks h1 h2 => by subst hpost; exact ⟨tv, lv, kv, cv, ks, rfl, h1, h2⟩
    clear hpost e1 e2 e3
    have HZ : Hid ((w.alloc (Obj.cells #[.slice none 0 0, .int .i64 0, .slice none 0 0, .int .i64 0, .int .i64 0, .int .i64 0, .slice none 0 0] 34)).heap[w.heap.size]? = some (.cells #[.slice none 0 0, .int .i64 0, .slice none 0 0, .int .i64 0, .int .i64 0, .int .i64 0, .slice none 0 0] 34 (0, 0))) := heapNew _ _
    have HB : Hid (Below w.heap.size w (w.alloc (Obj.cells #[.slice none 0 0, .int .i64 0, .slice none 0 0, .int .i64 0, .int .i64 0, .int .i64 0, .slice none 0 0] 34))) := below_alloc _ _
    have HPe : Hid (∀ W, W = w.alloc (Obj.cells #[.slice none 0 0, .int .i64 0, .slice none 0 0, .int .i64 0, .int .i64 0, .int .i64 0, .slice none 0 0] 34) → Below w.heap.size w W → post (.returned (.tuple #[.slice none 0 0, .agg #[.slice none 0 0, .int .i64 0, .slice none 0 0, .int .i64 0, .int .i64 0, .int .i64 0, .slice none 0 0], .int .i64 2])) W) := fun W _ hB => HP.out W _ _ _ _ [] (AnsT.none _ _) hB
    rcases h1 with h | ⟨h, h'⟩
    · have hh : (4096 : Int) < (its.length : Int) := by omega
      go_enter Tryz.func5, Tryz.ntmps5
      go_wp2
      exact bodyPost_ret (v := .tuple #[.slice none 0 0, .agg #[.slice none 0 0, .int .i64 0, .slice none 0 0, .int .i64 0, .int .i64 0, .int .i64 0, .slice none 0 0], .int .i64 2]) (by simp [results, Tryz.results5, go_sem]) rfl (HPe.out _ rfl HB.out)
    · have hh : ¬ (4096 : Int) < (its.length : Int) := by omega
      have hh' : (4096 : Int) < (acts.length : Int) := by omega
      go_enter Tryz.func5, Tryz.ntmps5
      go_wp2
      exact bodyPost_ret (v := .tuple #[.slice none 0 0, .agg #[.slice none 0 0, .int .i64 0, .slice none 0 0, .int .i64 0, .int .i64 0, .int .i64 0, .slice none 0 0], .int .i64 2]) (by simp [results, Tryz.results5, go_sem]) rfl (HPe.out _ rfl HB.out)
  · skip
    rw [e1, e2, e3] at hpost
    have HP : Hid (∀ w' tv lv kv cv ks, AnsT w.heap.size [] tlN tv lv kv cv ks w' → Below w.heap.size w w' → post (.returned (.tuple #[tv, .agg #[lv, .int .i64 0, kv, .int .i64 0, .int .i64 0, .int .i64 0, cv], .int .i64 1])) w') := fun w' tv lv kv cv ks h1 h2 => by subst hpost; exact ⟨tv, lv, kv, cv, ks, rfl, h1, h2⟩
    clear hpost e1 e2 e3
    have hh : ¬ (4096 : Int) < (its.length : Int) := by omega
    have hh' : ¬ (4096 : Int) < (acts.length : Int) := by omega
    go_enter Tryz.func5, Tryz.ntmps5
    go_wp2_with fail
    (first | go_at_call 7 | skip)
    refine (HOK.out _ (below_alloc _ _)).mono ?_
    rw [h3]
    rintro e w1 ⟨rfl, hb1⟩
    have HZ : Hid (w1.heap[w.heap.size]? = some (.cells #[.slice none 0 0, .int .i64 0, .slice none 0 0, .int .i64 0, .int .i64 0, .int .i64 0, .slice none 0 0] 34 (0, 0))) := (HZ0.out w1 hb1).1
    have HB : Hid (Below w.heap.size w w1) := (HZ0.out w1 hb1).2
    clear hb1
    have y0 := blkCell HZ.out 0 _ rfl
    have z0 := blkFree HZ.out 0
    have y1 := blkCell HZ.out 1 _ rfl
    have z1 := blkFree HZ.out 1
    have y2 := blkCell HZ.out 2 _ rfl
    have z2 := blkFree HZ.out 2
    have y3 := blkCell HZ.out 3 _ rfl
    have z3 := blkFree HZ.out 3
    have y4 := blkCell HZ.out 4 _ rfl
    have z4 := blkFree HZ.out 4
    have y5 := blkCell HZ.out 5 _ rfl
    have z5 := blkFree HZ.out 5
    have y6 := blkCell HZ.out 6 _ rfl
    have z6 := blkFree HZ.out 6
    have hlo := blkLt HZ.out
    go_wp2
    have hq := fin7 HZ.out (.slice none 0 0) (.int .i64 0) (.slice none 0 0) (.int .i64 0) (.int .i64 0) (.int .i64 0) (.slice none 0 0)
    have hB := below7 HB.out (Nat.le_refl _) (.slice none 0 0) (.int .i64 0) (.slice none 0 0) (.int .i64 0) (.int .i64 0) (.int .i64 0) (.slice none 0 0)
    generalize (((((((w1.setCell ⟨w.heap.size, 0, none⟩ (.slice none 0 0)).setCell ⟨w.heap.size, 1, none⟩ (.int .i64 0)).setCell ⟨w.heap.size, 2, none⟩ (.slice none 0 0)).setCell ⟨w.heap.size, 3, none⟩ (.int .i64 0)).setCell ⟨w.heap.size, 4, none⟩ (.int .i64 0)).setCell ⟨w.heap.size, 5, none⟩ (.int .i64 0)).setCell ⟨w.heap.size, 6, none⟩ (.slice none 0 0)) = W9 at *
    have p0 := blkCell hq 0 _ rfl
    have p1 := blkCell hq 1 _ rfl
    have p2 := blkCell hq 2 _ rfl
    have p3 := blkCell hq 3 _ rfl
    have p4 := blkCell hq 4 _ rfl
    have p5 := blkCell hq 5 _ rfl
    have p6 := blkCell hq 6 _ rfl
    exact bodyPost_ret (v := .tuple #[.slice none 0 0, .agg #[.slice none 0 0, .int .i64 0, .slice none 0 0, .int .i64 0, .int .i64 0, .int .i64 0, .slice none 0 0], .int .i64 1]) (by simp [results, Tryz.results5, go_sem, p0, p1, p2, p3, p4, p5, p6]) rfl (HP.out _ (.slice none 0 0) (.slice none 0 0) (.slice none 0 0) (.slice none 0 0) [] (AnsT.none _ _) hB)
  · skip
    rw [e1, e2, e3] at hpost
    have HP : Hid (∀ w' tv lv kv cv ks, AnsT w.heap.size [] tlN tv lv kv cv ks w' → Below w.heap.size w w' → post (.returned (.tuple #[tv, .agg #[lv, .int .i64 0, kv, .int .i64 0, .int .i64 0, .int .i64 0, cv], .int .i64 9])) w') := fun w' tv lv kv cv ks h1 h2 => by subst hpost; exact ⟨tv, lv, kv, cv, ks, rfl, h1, h2⟩
    clear hpost e1 e2 e3
    have h4i : (200 : Int) < (acts.length : Int) := by omega
    have hh : ¬ (4096 : Int) < (its.length : Int) := by omega
    have hh' : ¬ (4096 : Int) < (acts.length : Int) := by omega
    go_enter Tryz.func5, Tryz.ntmps5
    go_wp2_with fail
    (first | go_at_call 7 | skip)
    refine (HOK.out _ (below_alloc _ _)).mono ?_
    rw [h3]
    rintro e w1 ⟨rfl, hb1⟩
    have HZ : Hid (w1.heap[w.heap.size]? = some (.cells #[.slice none 0 0, .int .i64 0, .slice none 0 0, .int .i64 0, .int .i64 0, .int .i64 0, .slice none 0 0] 34 (0, 0))) := (HZ0.out w1 hb1).1
    have HB : Hid (Below w.heap.size w w1) := (HZ0.out w1 hb1).2
    clear hb1
    have y0 := blkCell HZ.out 0 _ rfl
    have z0 := blkFree HZ.out 0
    have y1 := blkCell HZ.out 1 _ rfl
    have z1 := blkFree HZ.out 1
    have y2 := blkCell HZ.out 2 _ rfl
    have z2 := blkFree HZ.out 2
    have y3 := blkCell HZ.out 3 _ rfl
    have z3 := blkFree HZ.out 3
    have y4 := blkCell HZ.out 4 _ rfl
    have z4 := blkFree HZ.out 4
    have y5 := blkCell HZ.out 5 _ rfl
    have z5 := blkFree HZ.out 5
    have y6 := blkCell HZ.out 6 _ rfl
    have z6 := blkFree HZ.out 6
    have hlo := blkLt HZ.out
    go_wp2
    have hq := fin7 HZ.out (.slice none 0 0) (.int .i64 0) (.slice none 0 0) (.int .i64 0) (.int .i64 0) (.int .i64 0) (.slice none 0 0)
    have hB := below7 HB.out (Nat.le_refl _) (.slice none 0 0) (.int .i64 0) (.slice none 0 0) (.int .i64 0) (.int .i64 0) (.int .i64 0) (.slice none 0 0)
    generalize (((((((w1.setCell ⟨w.heap.size, 0, none⟩ (.slice none 0 0)).setCell ⟨w.heap.size, 1, none⟩ (.int .i64 0)).setCell ⟨w.heap.size, 2, none⟩ (.slice none 0 0)).setCell ⟨w.heap.size, 3, none⟩ (.int .i64 0)).setCell ⟨w.heap.size, 4, none⟩ (.int .i64 0)).setCell ⟨w.heap.size, 5, none⟩ (.int .i64 0)).setCell ⟨w.heap.size, 6, none⟩ (.slice none 0 0)) = W9 at *
    have p0 := blkCell hq 0 _ rfl
    have p1 := blkCell hq 1 _ rfl
    have p2 := blkCell hq 2 _ rfl
    have p3 := blkCell hq 3 _ rfl
    have p4 := blkCell hq 4 _ rfl
    have p5 := blkCell hq 5 _ rfl
    have p6 := blkCell hq 6 _ rfl
    exact bodyPost_ret (v := .tuple #[.slice none 0 0, .agg #[.slice none 0 0, .int .i64 0, .slice none 0 0, .int .i64 0, .int .i64 0, .int .i64 0, .slice none 0 0], .int .i64 9]) (by simp [results, Tryz.results5, go_sem, p0, p1, p2, p3, p4, p5, p6]) rfl (HP.out _ (.slice none 0 0) (.slice none 0 0) (.slice none 0 0) (.slice none 0 0) [] (AnsT.none _ _) hB)
  · skip
    rw [e1, e2, e3] at hpost
    obtain ⟨hl40, hokN⟩ := hnn h3
    have HOn : Hid (∀ r ∈ its, ItN r) := hokN
    have HP : Hid (∀ w' tv lv kv cv ks, AnsT w.heap.size (runO R its acts acts.length) (runT R its acts acts.length) tv lv kv cv ks w' → Below w.heap.size w w' → post (.returned (.tuple #[tv, .agg #[lv, .int .i64 (runT R its acts acts.length).sh, kv, .int .i64 (runT R its acts acts.length).sl, .int .i64 (runT R its acts acts.length).tk, .int .i64 (runT R its acts acts.length).dp, cv], .int .i64 0])) w') := fun w' tv lv kv cv ks h1 h2 => by subst hpost; exact ⟨tv, lv, kv, cv, ks, rfl, h1, h2⟩
    have h4i : ¬ (200 : Int) < (acts.length : Int) := by omega
    clear hpost e1 e2 e3 hnn hokN
    have hmk := fun w => run_makeOb acts.length (by omega) w
    have HC9 : Hid ((runT R its acts acts.length).cs.length = 9) := (HTk.out HOn.out).cs.1
    have hh : ¬ (4096 : Int) < (its.length : Int) := by omega
    have hh' : ¬ (4096 : Int) < (acts.length : Int) := by omega
    go_enter Tryz.func5, Tryz.ntmps5
    go_wp2_with fail
    (first | go_at_call 7 | skip)
    refine (HOK.out _ (below_alloc _ _)).mono ?_
    rw [h3]
    rintro e w1 ⟨rfl, hb1⟩
    have HZ : Hid (w1.heap[w.heap.size]? = some (.cells #[.slice none 0 0, .int .i64 0, .slice none 0 0, .int .i64 0, .int .i64 0, .int .i64 0, .slice none 0 0] 34 (0, 0))) := (HZ0.out w1 hb1).1
    have HB : Hid (Below w.heap.size w w1) := (HZ0.out w1 hb1).2
    clear hb1
    have HG0 : Hid (RgT w.heap.size w1.heap.size (.slice ia its.length ic) tl0 (w1.alloc (Obj.cells #[.slice none 0 0, .int .i64 0, (.slice ia its.length ic), .slice none 0 0, .int .i64 0, .int .i64 0, .int .i64 0, .int .i64 0, .int .i64 0, .int .i64 0, .int .i64 0, .int .i64 0, .int .i64 0, .int .i64 0, .int .i64 0, .int .i64 0] 51))) := RgT.start w1 _ HB.out.size _
    have hsz1 : (w1.alloc (Obj.cells #[.slice none 0 0, .int .i64 0, (.slice ia its.length ic), .slice none 0 0, .int .i64 0, .int .i64 0, .int .i64 0, .int .i64 0, .int .i64 0, .int .i64 0, .int .i64 0, .int .i64 0, .int .i64 0, .int .i64 0, .int .i64 0, .int .i64 0] 51)).heap.size = w1.heap.size + 1 := by simp
    have HT0 : Hid (((w1.alloc (Obj.cells #[.slice none 0 0, .int .i64 0, (.slice ia its.length ic), .slice none 0 0, .int .i64 0, .int .i64 0, .int .i64 0, .int .i64 0, .int .i64 0, .int .i64 0, .int .i64 0, .int .i64 0, .int .i64 0, .int .i64 0, .int .i64 0, .int .i64 0] 51)).alloc (Obj.cells (madeCells #[.int .i64 0, .int .i64 0] (acts.length * 2)) 40)).ownsRow w.heap.size 40 2 (.slice (some ⟨w1.heap.size + 1, 0, none⟩) 0 acts.length) 0 (obCells [])) := by
      have : ((w1.alloc (Obj.cells #[.slice none 0 0, .int .i64 0, (.slice ia its.length ic), .slice none 0 0, .int .i64 0, .int .i64 0, .int .i64 0, .int .i64 0, .int .i64 0, .int .i64 0, .int .i64 0, .int .i64 0, .int .i64 0, .int .i64 0, .int .i64 0, .int .i64 0] 51)).alloc (Obj.cells (madeCells #[.int .i64 0, .int .i64 0] (acts.length * 2)) 40)).ownsRow w.heap.size 40 2 (.slice (some ⟨(w1.alloc (Obj.cells #[.slice none 0 0, .int .i64 0, (.slice ia its.length ic), .slice none 0 0, .int .i64 0, .int .i64 0, .int .i64 0, .int .i64 0, .int .i64 0, .int .i64 0, .int .i64 0, .int .i64 0, .int .i64 0, .int .i64 0, .int .i64 0, .int .i64 0] 51)).heap.size, 0, none⟩) 0 acts.length) 0 (obCells []) := World.ownsRow_made (w1.alloc (Obj.cells #[.slice none 0 0, .int .i64 0, (.slice ia its.length ic), .slice none 0 0, .int .i64 0, .int .i64 0, .int .i64 0, .int .i64 0, .int .i64 0, .int .i64 0, .int .i64 0, .int .i64 0, .int .i64 0, .int .i64 0, .int .i64 0, .int .i64 0] 51)) _ acts.length (by have := HB.out.size; omega) (by unfold maxLen; omega) (by rw [size_madeCells])
      rwa [hsz1] at this
    have HZ3 : Hid (((w1.alloc (Obj.cells #[.slice none 0 0, .int .i64 0, (.slice ia its.length ic), .slice none 0 0, .int .i64 0, .int .i64 0, .int .i64 0, .int .i64 0, .int .i64 0, .int .i64 0, .int .i64 0, .int .i64 0, .int .i64 0, .int .i64 0, .int .i64 0, .int .i64 0] 51)).alloc (Obj.cells (madeCells #[.int .i64 0, .int .i64 0] (acts.length * 2)) 40)).heap[w.heap.size]? = some (.cells #[.slice none 0 0, .int .i64 0, .slice none 0 0, .int .i64 0, .int .i64 0, .int .i64 0, .slice none 0 0] 34 (0, 0))) := (Below.heap_alloc _ _ _ (by have := blkLt HZ.out; omega)).trans ((Below.heap_alloc _ _ _ (blkLt HZ.out)).trans HZ.out)
    have HB3 : Hid (Below w.heap.size w ((w1.alloc (Obj.cells #[.slice none 0 0, .int .i64 0, (.slice ia its.length ic), .slice none 0 0, .int .i64 0, .int .i64 0, .int .i64 0, .int .i64 0, .int .i64 0, .int .i64 0, .int .i64 0, .int .i64 0, .int .i64 0, .int .i64 0, .int .i64 0, .int .i64 0] 51)).alloc (Obj.cells (madeCells #[.int .i64 0, .int .i64 0] (acts.length * 2)) 40))) := chain HB.out (chain (below_alloc _ _) (below_alloc _ _))
    have HG3 : Hid (RgT w.heap.size w1.heap.size (.slice ia its.length ic) tl0 ((w1.alloc (Obj.cells #[.slice none 0 0, .int .i64 0, (.slice ia its.length ic), .slice none 0 0, .int .i64 0, .int .i64 0, .int .i64 0, .int .i64 0, .int .i64 0, .int .i64 0, .int .i64 0, .int .i64 0, .int .i64 0, .int .i64 0, .int .i64 0, .int .i64 0] 51)).alloc (Obj.cells (madeCells #[.int .i64 0, .int .i64 0] (acts.length * 2)) 40))) := HG0.out.later (below_alloc _ _)
    go_wp2
    clear hmk HG0 HZ HB hsz1
    generalize ((w1.alloc (Obj.cells #[.slice none 0 0, .int .i64 0, (.slice ia its.length ic), .slice none 0 0, .int .i64 0, .int .i64 0, .int .i64 0, .int .i64 0, .int .i64 0, .int .i64 0, .int .i64 0, .int .i64 0, .int .i64 0, .int .i64 0, .int .i64 0, .int .i64 0] 51)).alloc (Obj.cells (madeCells #[.int .i64 0, .int .i64 0] (acts.length * 2)) 40)) = W3 at *
    generalize w1.heap.size = rb at *
    obtain ⟨j0, hj, hzy⟩ := Option.map_eq_some_iff.1 obInfo0
    simp only [Prod.mk.injEq] at hzy
    obtain ⟨hj0, hj1, hj2⟩ := hzy
    go_loopw [8, 10, 35] (fun tv _ iv wr => ∃ (k g cp : Nat), k ≤ acts.length ∧ iv = .int .i64 (k : Int) ∧ tv = .slice (some ⟨g, 0, none⟩) k cp ∧ wr.ownsRow w.heap.size 40 2 (.slice (some ⟨g, 0, none⟩) k cp) k (obCells (runO R its acts k)) ∧ RgT w.heap.size rb (.slice ia its.length ic) (runT R its acts k) wr ∧ wr.heap[w.heap.size]? = some (.cells #[.slice none 0 0, .int .i64 0, .slice none 0 0, .int .i64 0, .int .i64 0, .int .i64 0, .slice none 0 0] 34 (0, 0)) ∧ Below w.heap.size w wr) (fun _ _ iv _ => acts.length - (intOf iv).toNat)
    case atStart => exact ⟨0, _, _, Nat.zero_le _, rfl, rfl, HT0.out, HG3.out, HZ3.out, HB3.out⟩
    case round =>
      clear HT0 HG3 HZ3 HB3
      obtain ⟨k, g, cp, hk, rfl, rfl, hT, hG, hZ, hB⟩ := hrel
      have HT : Hid (wr.ownsRow w.heap.size 40 2 (.slice (some ⟨g, 0, none⟩) k cp) k (obCells (runO R its acts k))) := hT
      have HG : Hid (RgT w.heap.size rb (.slice ia its.length ic) (runT R its acts k) wr) := hG
      have HZ : Hid (wr.heap[w.heap.size]? = some (.cells #[.slice none 0 0, .int .i64 0, .slice none 0 0, .int .i64 0, .int .i64 0, .int .i64 0, .slice none 0 0] 34 (0, 0))) := hZ
      have HB : Hid (Below w.heap.size w wr) := hB
      clear hT hG hZ hB
      by_cases hlt : k < acts.length
      · have hlt' : (k : Int) < (acts.length : Int) := by omega
        obtain ⟨b0, o0, ha, c0, c1, c2⟩ := readsTa_at HA.out HB.out k hlt
        subst ha
        have HDo := HRu.out k hlt HOn.out hl40 (by omega) w.heap.size rb
        have HNo : Hid (runO R its acts k ++ [stepO R its (acts.getD k zTa) (runT R its acts k)] = runO R its acts (k + 1)) := rfl
        have HIw : Hid (∀ W, Below w.heap.size w W → ReadsIt w.heap.size W ia its) := fun W hW => HI.out.below hW
        generalize stepO R its (acts.getD k zTa) (runT R its acts k) = so at *
        generalize acts.getD k zTa = a at *
        obtain ⟨kd, tx, nm⟩ := a
        obtain ⟨so1, so2⟩ := so
        dsimp only at c0 c1 c2 HDo
        generalize runT R its acts k = tk at *
        generalize htk1 : runT R its acts (k + 1) = tk1 at *
        have HTk1 : Hid (runT R its acts (k + 1) = tk1) := htk1
        clear htk1
        have HDo' : Hid (Calls Tryz.prog 13 #[.pointer (some ⟨rb, 0, none⟩), .agg #[.int .i64 kd, .string tx, .int .i64 nm]] (wr.alloc (Obj.cells #[.int .i64 kd, .string tx, .int .i64 nm] 42)) fun e w' => e = .returned (.agg #[.int .i64 so1, .int .i64 so2]) ∧ Fr (TX w.heap.size (wr.alloc (Obj.cells #[.int .i64 kd, .string tx, .int .i64 nm] 42))) (wr.alloc (Obj.cells #[.int .i64 kd, .string tx, .int .i64 nm] 42)) w' ∧ RgT w.heap.size rb (.slice ia its.length ic) tk1 w') := HDo _ (HG.out.later (below_alloc _ _)) (HIw.out _ (HB.out.trans ((below_alloc _ _).mono HB.out.size))) (by have := HB.out.size; simp; omega)
        have HWb : Hid (∀ w5, Fr (TX w.heap.size (wr.alloc (Obj.cells #[.int .i64 kd, .string tx, .int .i64 nm] 42))) (wr.alloc (Obj.cells #[.int .i64 kd, .string tx, .int .i64 nm] 42)) w5 → w5.ownsRow w.heap.size 40 2 (.slice (some ⟨g, 0, none⟩) k cp) k (obCells (runO R its acts k)) ∧ w5.heap[w.heap.size]? = some (.cells #[.slice none 0 0, .int .i64 0, .slice none 0 0, .int .i64 0, .int .i64 0, .int .i64 0, .slice none 0 0] 34 (0, 0)) ∧ Below w.heap.size w w5) := fun w5 hf => by
          obtain ⟨cur, hcur⟩ := row_type HT.out (q := g) rfl
          have hcur' := (Below.heap_alloc wr (Obj.cells #[.int .i64 kd, .string tx, .int .i64 nm] 42) g (blkLt hcur)).trans hcur
          have hz' := (Below.heap_alloc wr (Obj.cells #[.int .i64 kd, .string tx, .int .i64 nm] 42) w.heap.size (blkLt HZ.out)).trans HZ.out
          refine ⟨row_of HT.out (fun q hq => ?_), (hf.block _ (blkLt hz') (not_TX hz' (by decide) (by decide) (by decide))).trans hz', Fr.below (HB.out.trans ((below_alloc _ _).mono HB.out.size)) hf (by have := HB.out.size; simp; omega) (fun q hq => hq.1)⟩
          cases hq
          exact (hf.block g (blkLt hcur') (not_TX hcur' (by decide) (by decide) (by decide))).trans (hcur'.trans hcur.symm)
        clear HDo
        have hB0 := HB.out.size
        go_wp2_with fail
        (first | go_at_call 13 | skip)
        refine HDo'.out.mono ?_
        rintro e w5 ⟨rfl, hf5, hg5⟩
        obtain ⟨ht5, hz5, hbw5⟩ := HWb.out w5 hf5
        have HG5 : Hid (RgT w.heap.size rb (.slice ia its.length ic) tk1 (w5.alloc (Obj.cells #[.int .i64 so1, .int .i64 so2] 40))) := hg5.later (below_alloc _ _)
        have HT5 : Hid ((w5.alloc (Obj.cells #[.int .i64 so1, .int .i64 so2] 40)).ownsRow w.heap.size 40 2 (.slice (some ⟨g, 0, none⟩) k cp) k (obCells (runO R its acts k))) := row_of ht5 (fun q hq => Below.heap_alloc _ _ _ (row_lt ht5 q hq).2)
        have HZ5 : Hid ((w5.alloc (Obj.cells #[.int .i64 so1, .int .i64 so2] 40)).heap[w.heap.size]? = some (.cells #[.slice none 0 0, .int .i64 0, .slice none 0 0, .int .i64 0, .int .i64 0, .int .i64 0, .slice none 0 0] 34 (0, 0))) := (Below.heap_alloc _ _ _ (blkLt hz5)).trans hz5
        have HB5 : Hid (Below w.heap.size w (w5.alloc (Obj.cells #[.int .i64 so1, .int .i64 so2] 40))) := hbw5.trans ((below_alloc _ _).mono hbw5.size)
        clear hf5 hg5 ht5 hz5 hbw5 HDo' HWb HG HT HZ HB c0 c1 c2
        go_wp2_with (at_builtin; refine wpList_append_lies _ rfl _ _ 27 rfl w.heap.size 40 j0 (.agg #[.int .i64 0, .int .i64 0]) 2 16 Tryz.underlying27 hj hj0 hj1 hj2 rfl (by decide) _ _ _ rfl HT5.out ⟨w5.heap.size, 0, none⟩ 1 1 [.int .i64 so1, .int .i64 so2] rfl rfl (World.news_of_block (heapNew w5 _)) (by simp [Value.oneCell']) (by omega) (by unfold maxLen; omega) (by omega) HB5.out.size _ rfl ?_; intro g1 cp1 w7 hown1 hgrow1 hat1 hglt1; have HX7 : Hid (w7.ownsRow w.heap.size 40 2 (.slice (some ⟨g1, 0, none⟩) (k + 1) cp1) (k + 1) (obCells (runO R its acts k) ++ [.int .i64 so1, .int .i64 so2]) ∧ (w5.alloc (Obj.cells #[.int .i64 so1, .int .i64 so2] 40)).grownBy w7 (some g)) := ⟨hown1, hgrow1⟩; clear hown1 hgrow1 hat1 hglt1)
        have hf7 := fr_grown HX7.out.2
        have hfg : Fr (fun q => q = g) (w5.alloc (Obj.cells #[.int .i64 so1, .int .i64 so2] 40)) w7 := hf7.mono (fun q hq => by simp at hq; exact hq.symm)
        obtain ⟨cur, hcur⟩ := row_type HT5.out (q := g) rfl
        refine ⟨⟨k + 1, g1, cp1, by omega, by go_num, rfl, ?_, by rw [HTk1.out]; exact RgT.aside _ _ _ _ HG5.out hcur hfg, ?_, ?_⟩, by simp [intOf]; omega⟩
        · rw [← HNo.out, obCells_append]
          exact HX7.out.1
        · refine (hfg.block _ (blkLt HZ5.out) (fun e => ?_)).trans HZ5.out
          have := HZ5.out
          rw [e, hcur] at this
          simp at this
        · exact Fr.below HB5.out hfg (by have := HB5.out.size; exact this) (fun q hq => by rw [hq]; exact (row_lt HT5.out g rfl).1)
      · have hle : (acts.length : Int) ≤ (k : Int) := by omega
        obtain rfl : k = acts.length := by omega
        obtain ⟨lv, kv, ks, hks, hrg⟩ := HG.out
        have hcs9 : (runT R its acts acts.length).cs.length = 9 := HC9.out
        obtain ⟨la, lc, rfl⟩ := row_slice hrg.lrow
        obtain ⟨ka, kc, rfl⟩ := row_slice hrg.krow
        have hti := till_any rb la _ lc _ (.slice ia its.length ic) ka _ kc _ _ _ _ hcs9 wr hrg.reg
        have HRg : Hid (Rg w.heap.size rb (.slice ia its.length ic) (.slice la (runT R its acts acts.length).ls.length lc) (runT R its acts acts.length).ls (runT R its acts acts.length).sh (.slice ka ks.length kc) ks (runT R its acts acts.length).sl (runT R its acts acts.length).tk (runT R its acts acts.length).dp (runT R its acts acts.length).cs wr) := hrg
        have hol := runO_len R its acts acts.length
        clear hrg HG
        generalize runT R its acts acts.length = tt at *
        generalize runO R its acts acts.length = oo at *
        go_wp2_with fail
        (first | go_at_call 14 | skip)
        refine hti.mono ?_
        rintro e w7 ⟨cg, ccp, rfl, hc7, hb7⟩
        have HZ7 : Hid (w7.heap[w.heap.size]? = some (.cells #[.slice none 0 0, .int .i64 0, .slice none 0 0, .int .i64 0, .int .i64 0, .int .i64 0, .slice none 0 0] 34 (0, 0))) := (hb7.block _ (blkLt HZ.out)).trans HZ.out
        have HB7 : Hid (Below w.heap.size w w7) := HB.out.trans (hb7.mono HB.out.size)
        have HRg7 := HRg.out.later hb7
        have hT7 : w7.ownsRow w.heap.size 40 2 (.slice (some ⟨g, 0, none⟩) acts.length cp) acts.length (obCells oo) := row_of HT.out (fun q hq => hb7.block q (row_lt HT.out q hq).2)
        have hC7 : w7.ownsRow w.heap.size 3 1 (.slice cg 9 ccp) 9 (tt.cs.map (Value.int .i64)) := ⟨hc7.1, by
          rcases hc7.2 with q | ⟨g', cap', cur', q1, q2, q3⟩
          · exact .inl q
          · exact .inr ⟨g', cap', cur', q1, by have := HB.out.size; omega, q3⟩⟩
        have HAll : Hid (Rg w.heap.size rb (.slice ia its.length ic) (.slice la tt.ls.length lc) tt.ls tt.sh (.slice ka ks.length kc) ks tt.sl tt.tk tt.dp tt.cs w7 ∧ w7.ownsRow w.heap.size 40 2 (.slice (some ⟨g, 0, none⟩) acts.length cp) acts.length (obCells oo) ∧ w7.ownsRow w.heap.size 3 1 (.slice cg 9 ccp) 9 (tt.cs.map (Value.int .i64))) := ⟨HRg7, hT7, hC7⟩
        clear HRg7 hT7 hC7 hc7 hb7 hti HRg HT HZ HB
        have y0 := blkCell HZ7.out 0 _ rfl
        have z0 := blkFree HZ7.out 0
        have y1 := blkCell HZ7.out 1 _ rfl
        have z1 := blkFree HZ7.out 1
        have y2 := blkCell HZ7.out 2 _ rfl
        have z2 := blkFree HZ7.out 2
        have y3 := blkCell HZ7.out 3 _ rfl
        have z3 := blkFree HZ7.out 3
        have y4 := blkCell HZ7.out 4 _ rfl
        have z4 := blkFree HZ7.out 4
        have y5 := blkCell HZ7.out 5 _ rfl
        have z5 := blkFree HZ7.out 5
        have y6 := blkCell HZ7.out 6 _ rfl
        have z6 := blkFree HZ7.out 6
        have hlo := blkLt HZ7.out
        go_wp2
        have hq := fin7 HZ7.out (.slice la tt.ls.length lc) (.int .i64 tt.sh) (.slice ka ks.length kc) (.int .i64 tt.sl) (.int .i64 tt.tk) (.int .i64 tt.dp) (.slice cg 9 ccp)
        have hB := below7 HB7.out (Nat.le_refl _) (.slice la tt.ls.length lc) (.int .i64 tt.sh) (.slice ka ks.length kc) (.int .i64 tt.sl) (.int .i64 tt.tk) (.int .i64 tt.dp) (.slice cg 9 ccp)
        have keep : ∀ {e : TypeId} {k : Nat} {v : Value} {n : Nat} {xs : List Value}, e ≠ 34 → w7.ownsRow w.heap.size e k v n xs → (((((((w7.setCell ⟨w.heap.size, 0, none⟩ (.slice la tt.ls.length lc)).setCell ⟨w.heap.size, 1, none⟩ (.int .i64 tt.sh)).setCell ⟨w.heap.size, 2, none⟩ (.slice ka ks.length kc)).setCell ⟨w.heap.size, 3, none⟩ (.int .i64 tt.sl)).setCell ⟨w.heap.size, 4, none⟩ (.int .i64 tt.tk)).setCell ⟨w.heap.size, 5, none⟩ (.int .i64 tt.dp)).setCell ⟨w.heap.size, 6, none⟩ (.slice cg 9 ccp)).ownsRow w.heap.size e k v n xs := fun he hr => row_of hr (fun q hq => by
          have hne : ¬ q = w.heap.size := fun e => by
            obtain ⟨cur, hc⟩ := row_type hr hq
            rw [e, HZ7.out] at hc
            simp at hc
            exact he hc.2.symm
          rw [Below.heap_setCell _ _ _ _ hne, Below.heap_setCell _ _ _ _ hne, Below.heap_setCell _ _ _ _ hne, Below.heap_setCell _ _ _ _ hne, Below.heap_setCell _ _ _ _ hne, Below.heap_setCell _ _ _ _ hne, Below.heap_setCell _ _ _ _ hne])
        have hAns : AnsT w.heap.size oo tt (.slice (some ⟨g, 0, none⟩) acts.length cp) (.slice la tt.ls.length lc) (.slice ka ks.length kc) (.slice cg 9 ccp) ks (((((((w7.setCell ⟨w.heap.size, 0, none⟩ (.slice la tt.ls.length lc)).setCell ⟨w.heap.size, 1, none⟩ (.int .i64 tt.sh)).setCell ⟨w.heap.size, 2, none⟩ (.slice ka ks.length kc)).setCell ⟨w.heap.size, 3, none⟩ (.int .i64 tt.sl)).setCell ⟨w.heap.size, 4, none⟩ (.int .i64 tt.tk)).setCell ⟨w.heap.size, 5, none⟩ (.int .i64 tt.dp)).setCell ⟨w.heap.size, 6, none⟩ (.slice cg 9 ccp)) := by
          obtain ⟨a1, a2, a3⟩ := HAll.out
          obtain ⟨_, _, _, _, _, f6, f7⟩ := a1.far
          refine ⟨by rw [hol]; exact keep (by decide) a2, hks, keep (by decide) a1.lrow, keep (by decide) a1.krow, fun k hk => keep (by decide) (a1.rows k hk), by rw [hcs9]; exact keep (by decide) a3, List.pairwise_cons.2 ⟨fun b hb => ?_, f7⟩⟩
          obtain ⟨x, hx, rfl⟩ := List.mem_map.1 hb
          exact f6 x hx
        generalize (((((((w7.setCell ⟨w.heap.size, 0, none⟩ (.slice la tt.ls.length lc)).setCell ⟨w.heap.size, 1, none⟩ (.int .i64 tt.sh)).setCell ⟨w.heap.size, 2, none⟩ (.slice ka ks.length kc)).setCell ⟨w.heap.size, 3, none⟩ (.int .i64 tt.sl)).setCell ⟨w.heap.size, 4, none⟩ (.int .i64 tt.tk)).setCell ⟨w.heap.size, 5, none⟩ (.int .i64 tt.dp)).setCell ⟨w.heap.size, 6, none⟩ (.slice cg 9 ccp)) = W9 at *
        have p0 := blkCell hq 0 _ rfl
        have p1 := blkCell hq 1 _ rfl
        have p2 := blkCell hq 2 _ rfl
        have p3 := blkCell hq 3 _ rfl
        have p4 := blkCell hq 4 _ rfl
        have p5 := blkCell hq 5 _ rfl
        have p6 := blkCell hq 6 _ rfl
        exact bodyPost_ret (v := .tuple #[.slice (some ⟨g, 0, none⟩) acts.length cp, .agg #[.slice la tt.ls.length lc, .int .i64 tt.sh, .slice ka ks.length kc, .int .i64 tt.sl, .int .i64 tt.tk, .int .i64 tt.dp, .slice cg 9 ccp], .int .i64 0]) (by simp [results, Tryz.results5, go_sem, p0, p1, p2, p3, p4, p5, p6]) rfl (HP.out _ _ _ _ _ ks hAns hB)
end Go.Proofs.YtabpkfhbnendjaaGreat

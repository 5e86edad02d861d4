/-
  Texts of this claim laid together: SpC.
-/
import Derived.Test.YtabpkfhbnendjaaGreatM38
/-
  The specification's scan of a right code.
-/
namespace Go.Proofs.YtabpkfhbnendjaaGreat
open Go.ChangeShapes Go.WideShapes Go.ChangeAt Go.RowKit Go.Deep
set_option linter.unusedVariables false

set_option maxHeartbeats 16000000 in
set_option maxRecDepth 8000 in
theorem scanS_unit (tx : ByteArray) (ct k v : Int) (a : ByteArray) (ia : Option Addr) (ic : Nat) (its : List RIt) (hil : its.length ≤ 40) (B rb : Nat) (la : Option Addr) (lc : Nat) (ls : List RLi) (hN : ∀ l ∈ ls, LiN l) (hl50 : ls.length ≤ 50) (sh : Int) (kv : Value) (ks : List Kb) (sl tk dp : Int) (cv : Value) (cs : List Int) (w : World) (hg : Sg B rb (.slice ia its.length ic) (.slice la ls.length lc) ls sh kv ks sl tk dp cv cs w) (hI : ReadsIt B w ia its) (hB : B ≤ w.heap.size) (hS : ∀ W, Calls Tryz.prog 51 #[.string tx] W fun e w' => e = .returned (.tuple #[.agg #[.int .i64 k, .string a, .int .i64 v], .int .i64 0]) ∧ Below W.heap.size W w') (m : Nat) (hix : itIx a its = (m : Int)) (hm : m < its.length) (x : ByteArray) (p d cl g : Int) (hsi : its.getD m zIt = ⟨x, p, d, cl, g⟩) (n1 : 0 ≤ p) (n2 : p ≤ 1000000) (n3 : 0 ≤ d) (n4 : d ≤ 1000000) (g1 : 1 ≤ ct) (g2 : ct ≤ 99) (hv0 : 0 ≤ v) (hv1 : v ≤ 99999) (am : Int) (ham0 : 0 ≤ am) (ham1 : am ≤ 1000000000) (hd0 : 0 ≤ d * ct) (hd1 : d * ct ≤ 100000000) (hp0 : 0 ≤ p * ct) (hp1 : p * ct ≤ 100000000) (htt : totL ls ≤ 1000000000) (post : Ending → World → Prop) (HP1 : Hid (∀ c : Int, c ≠ 0 → scanC ls sh am (d * ct) g = c → ∀ W, Below w.heap.size w W → post (.returned (.tuple #[.int .i64 0, .int .i64 c])) W)) (HP2 : Hid (scanC ls sh am (d * ct) g = 0 → ∀ lv' W, Fr (RgX rb (.slice la ls.length lc) kv) w W → Sg B rb (.slice ia its.length ic) lv' (ls ++ [⟨(m : Int), ct, am, d * ct⟩]) sh kv ks sl tk dp cv cs W → post (.returned (.tuple #[.int .i64 (am + d * ct), .int .i64 0])) W)) (hk : k = 1) (ham : am = p * ct) :
    Calls Tryz.prog 32 #[.pointer (some ⟨rb, 0, none⟩), .agg #[.int .i64 1, .string tx, .int .i64 ct]] w post := by
  have HI : Hid (∀ W, Below w.heap.size w W → ReadsIt W.heap.size W ia its) := fun W hW => (hI.below (hW.mono hB)).mono (Nat.le_trans hB hW.size)
  have HX : Hid (∀ W, Below w.heap.size w W → Calls Tryz.prog 23 #[(.slice ia its.length ic), .string a] W fun e w' => e = .returned (.int .i64 (m : Int)) ∧ w' = W) := fun W hW => hix ▸ find8_any ia ic its (by omega) a W (HI.out W hW)
  have HG0 : Hid (Sg B rb (.slice ia its.length ic) (.slice la ls.length lc) ls sh kv ks sl tk dp cv cs w) := hg
  have hin := fun w => in_any ct 1 99 w
  have e99 : inB ct 1 99 = true := decide_eq_true ⟨g1, g2⟩
  rw [e99] at hin
  have HTo : Hid (∀ W, Sg B rb (.slice ia its.length ic) (.slice la ls.length lc) ls sh kv ks sl tk dp cv cs W → Calls Tryz.prog 34 #[.agg #[.slice la ls.length lc, .int .i64 sh]] W fun e w' => e = .returned (.int .i64 (totL ls)) ∧ Below W.heap.size W w') := fun W h => specTotal_any la lc ls hN (by omega) sh W (rowLn_reads h.lrow).2
  obtain ⟨j0, hj, hzy⟩ := Option.map_eq_some_iff.1 lnInfo
  simp only [Prod.mk.injEq] at hzy
  obtain ⟨hj0, hj1, hj2⟩ := hzy
  have htn := totL_nn hN
  have HLw : Hid (w.ownsRow B 82 4 (.slice la ls.length lc) ls.length (lnCells ls)) := hg.lrow
  have hlow := hg.low
  have hrlt := hg.reg.lt
  generalize hTT : totL ls = tot at htn htt HTo
  have HTt : Hid (totL ls = tot) := hTT
  clear hTT hN hix HI
  rcases hI with h | ⟨b0, o0, hia0, hB0', hia⟩
  · rw [h] at hm; simp at hm
  have hB0 : b0 < w.heap.size := by omega
  subst hia0
  clear hg
  have hx0 : ¬ (m : Int) < 0 := by omega
  have hwa : IntKind.i64.wrap (tot + am) = tot + am := wrap_id _ (by omega) (by omega)
  have hwb : IntKind.i64.wrap (tot + am + d * ct) = tot + am + d * ct := wrap_id _ (by omega) (by omega)
  have hk1 : (k != 1) = false := by simp; omega
  have hk2 : (k == 2) = false := by simp; omega
  have hk3 : (k == 3) = false := by simp; omega
  clear hk
  have HAM : Hid (am = p * ct) := ham
  clear ham
  go_enter Tryz.func32, Tryz.ntmps32
  go_wp2_with fail
  (first | go_at_call 51 | skip)
  refine (hS _).mono ?_
  rintro e w1 ⟨rfl, hb1⟩
  have HZ : Hid (∀ W, Below (w1.alloc (Obj.cells #[.int .i64 k, .string a, .int .i64 v] 108)).heap.size (w1.alloc (Obj.cells #[.int .i64 k, .string a, .int .i64 v] 108)) W → W.heap[w.heap.size]? = some (.cells #[.int .i64 1, .string tx, .int .i64 ct] 42 (0, 0)) ∧ W.heap[w1.heap.size]? = some (.cells #[.int .i64 k, .string a, .int .i64 v] 108 (0, 0)) ∧ Below w.heap.size w W ∧ Sg B rb (.slice (some ⟨b0, o0, none⟩) its.length ic) (.slice la ls.length lc) ls sh kv ks sl tk dp cv cs W) := fun W hW => by
    have hbw : Below w.heap.size w W := chain (below_alloc _ _) (chain hb1 (chain (below_alloc _ _) hW))
    exact ⟨(hW.block _ (by have := hb1.size; simp at *; omega)).trans ((Below.heap_alloc _ _ _ (by have := hb1.size; simp at *; omega)).trans ((hb1.block _ (by simp)).trans (heapNew _ _))), (hW.block _ (by simp)).trans (heapNew _ _), hbw, HG0.out.later hbw⟩
  clear hb1
  go_wp2_with fail
  generalize (w1.alloc (Obj.cells #[.int .i64 k, .string a, .int .i64 v] 108)) = W1 at *
  generalize w1.heap.size = bs at *
  refine wp_region_held_drew (S := fun W => Below W1.heap.size W1 W) (by kernel_rfl) (below_drew _) (fun hH => ?_)
  refine wpAnyH_take (i := 0) (v := .pointer (some ⟨rb, 0, none⟩)) rfl (by kernel_rfl) (by kernel_rfl) (by kernel_rfl) (fun _ _ _ h => h) (Or.inl ⟨by rfl, fun w hSw => by go_simp⟩) hH ?_
  refine wpAnyH_take (i := 1) (v := .pointer (some ⟨rb, 0, none⟩)) rfl (by kernel_rfl) (by kernel_rfl) (by kernel_rfl) (fun _ _ _ h => h) (Or.inl ⟨by rfl, fun w hSw => by go_simp⟩) hH ?_
  try simp only [Act.put, List.setIfInBounds_toArray, List.set_cons_zero, List.set_cons_succ, List.getElem_toArray, List.getElem_cons_succ, List.getElem_cons_zero]
  refine wpAnyH_take (i := 2) (v := .pointer (some ⟨rb, 0, none⟩)) rfl (by kernel_rfl) (by kernel_rfl) (by kernel_rfl) (fun _ _ _ h => h) (Or.inl ⟨by rfl, fun w hSw => by go_simp⟩) hH ?_
  try simp only [Act.put, List.setIfInBounds_toArray, List.set_cons_zero, List.set_cons_succ, List.getElem_toArray, List.getElem_cons_succ, List.getElem_cons_zero]
  refine wpAnyH_take (i := 3) (v := (.slice (some ⟨b0, o0, none⟩) its.length ic)) rfl (by kernel_rfl) (by kernel_rfl) (by kernel_rfl) (fun _ _ _ h => h) (Or.inl ⟨by rfl, fun w hSw => by have f0 := (HZ.out w hSw).2.2.2.reg.cells.1; go_simp⟩) hH ?_
  try simp only [Act.put, List.setIfInBounds_toArray, List.set_cons_zero, List.set_cons_succ, List.getElem_toArray, List.getElem_cons_succ, List.getElem_cons_zero]
  refine wpAnyH_take (i := 4) (v := .pointer (some ⟨bs, 1, none⟩)) rfl (by kernel_rfl) (by kernel_rfl) (by kernel_rfl) (fun _ _ _ h => h) (Or.inl ⟨by rfl, fun w hSw => by go_simp⟩) hH ?_
  try simp only [Act.put, List.setIfInBounds_toArray, List.set_cons_zero, List.set_cons_succ, List.getElem_toArray, List.getElem_cons_succ, List.getElem_cons_zero]
  refine wpAnyH_take (i := 5) (v := .string a) rfl (by kernel_rfl) (by kernel_rfl) (by kernel_rfl) (fun _ _ _ h => h) (Or.inl ⟨by rfl, fun w hSw => by have f0 := blkCell (HZ.out w hSw).2.1 1 _ rfl; go_simp⟩) hH ?_
  try simp only [Act.put, List.setIfInBounds_toArray, List.set_cons_zero, List.set_cons_succ, List.getElem_toArray, List.getElem_cons_succ, List.getElem_cons_zero]
  refine wpAnyH_ready (rs := [6]) (by kernel_rfl) (by simp) ?_
  refine AllReadyH.cons rfl (fun K hK => ?_) AllReadyH.nil
  go_simp
  go_at_call 23
  refine (HX.out _ (HZ.out _ hH).2.2.1).mono ?_
  rintro e w2 ⟨rfl, h2e⟩
  rw [h2e]
  clear h2e w2
  refine hK.out _ _ hH (fun _ => ?_)
  clear hK K
  try simp only [Act.put, List.setIfInBounds_toArray, List.set_cons_zero, List.set_cons_succ, List.getElem_toArray, List.getElem_cons_succ, List.getElem_cons_zero]
  refine wpAnyH_take (i := 7) (v := .int .i64 (m : Int)) rfl (by kernel_rfl) (by kernel_rfl) (by kernel_rfl) (fun _ _ _ h => h) (Or.inl ⟨by rfl, fun w hSw => by go_simp⟩) hH ?_
  try simp only [Act.put, List.setIfInBounds_toArray, List.set_cons_zero, List.set_cons_succ, List.getElem_toArray, List.getElem_cons_succ, List.getElem_cons_zero]
  refine wpAnyH_done (by kernel_rfl) ?_ _
  try simp
  have HW2 : Hid (Below W1.heap.size W1 W1.drew) := hH
  clear hH
  generalize W1.drew = W2 at *
  have a0 := blkCell (HZ.out W2 HW2.out).1 0 _ rfl
  have a2 := blkCell (HZ.out W2 HW2.out).1 2 _ rfl
  have s0 := blkCell (HZ.out W2 HW2.out).2.1 0 _ rfl
  have s2 := blkCell (HZ.out W2 HW2.out).2.1 2 _ rfl
  obtain ⟨c0, c1, c2, c3, c4⟩ := (hia.below (HZ.out W2 HW2.out).2.2.1 hB0) m hm
  rw [hsi] at c0 c1 c2 c3 c4
  dsimp only at c0 c1 c2 c3 c4
  have r0 := (HZ.out W2 HW2.out).2.2.2.reg.cells.1
  go_wp2_with (go_at_call 33; refine (hin _).mono ?_; rintro e w3 ⟨rfl, h3e⟩; rw [h3e]; clear h3e w3)
  have hbi := heapNew W2 (Obj.cells #[.string x, .int .i64 p, .int .i64 d, .int .i64 cl, .int .i64 g] 60)
  have hW3 : Below W2.heap.size W2 (W2.alloc (Obj.cells #[.string x, .int .i64 p, .int .i64 d, .int .i64 cl, .int .i64 g] 60)) := below_alloc _ _
  clear c0 c1 c2 c3 c4 r0 a0 a2 s0 s2
  generalize (W2.alloc (Obj.cells #[.string x, .int .i64 p, .int .i64 d, .int .i64 cl, .int .i64 g] 60)) = W3 at *
  have hlb : w.heap.size ≤ W2.heap.size := (HZ.out W2 HW2.out).2.2.1.size
  have H3 : Hid (∀ W, Below W3.heap.size W3 W → Below W1.heap.size W1 W ∧ W.heap[W2.heap.size]? = some (.cells #[.string x, .int .i64 p, .int .i64 d, .int .i64 cl, .int .i64 g] 60 (0, 0))) := fun W hW => ⟨chain HW2.out (chain hW3 hW), (hW.block _ (blkLt hbi)).trans hbi⟩
  have hs3 : W2.heap.size < W3.heap.size := blkLt hbi
  clear hbi hW3 HW2
  generalize W2.heap.size = bi at *
  refine wp_region_held_drew (S := fun W => Below W3.heap.size W3 W) (by kernel_rfl) (below_drew _) (fun hH => ?_)
  refine wpAnyH_take (i := 0) (v := .pointer (some ⟨bi, 4, none⟩)) rfl (by kernel_rfl) (by kernel_rfl) (by kernel_rfl) (fun _ _ _ h => h) (Or.inl ⟨by rfl, fun w hSw => by go_simp⟩) hH ?_
  refine wpAnyH_take (i := 1) (v := .int .i64 g) rfl (by kernel_rfl) (by kernel_rfl) (by kernel_rfl) (fun _ _ _ h => h) (Or.inl ⟨by rfl, fun w hSw => by have f0 := blkCell (H3.out w hSw).2 4 _ rfl; go_simp⟩) hH ?_
  try simp only [Act.put, List.setIfInBounds_toArray, List.set_cons_zero, List.set_cons_succ, List.getElem_toArray, List.getElem_cons_succ, List.getElem_cons_zero]
  refine wpAnyH_take (i := 2) (v := .pointer (some ⟨rb, 0, none⟩)) rfl (by kernel_rfl) (by kernel_rfl) (by kernel_rfl) (fun _ _ _ h => h) (Or.inl ⟨by rfl, fun w hSw => by go_simp⟩) hH ?_
  try simp only [Act.put, List.setIfInBounds_toArray, List.set_cons_zero, List.set_cons_succ, List.getElem_toArray, List.getElem_cons_succ, List.getElem_cons_zero]
  refine wpAnyH_take (i := 3) (v := .pointer (some ⟨rb, 0, none⟩)) rfl (by kernel_rfl) (by kernel_rfl) (by kernel_rfl) (fun _ _ _ h => h) (Or.inl ⟨by rfl, fun w hSw => by go_simp⟩) hH ?_
  try simp only [Act.put, List.setIfInBounds_toArray, List.set_cons_zero, List.set_cons_succ, List.getElem_toArray, List.getElem_cons_succ, List.getElem_cons_zero]
  refine wpAnyH_take (i := 4) (v := .pointer (some ⟨rb, 1, none⟩)) rfl (by kernel_rfl) (by kernel_rfl) (by kernel_rfl) (fun _ _ _ h => h) (Or.inl ⟨by rfl, fun w hSw => by go_simp⟩) hH ?_
  try simp only [Act.put, List.setIfInBounds_toArray, List.set_cons_zero, List.set_cons_succ, List.getElem_toArray, List.getElem_cons_succ, List.getElem_cons_zero]
  refine wpAnyH_take (i := 5) (v := .pointer (some ⟨rb, 1, none⟩)) rfl (by kernel_rfl) (by kernel_rfl) (by kernel_rfl) (fun _ _ _ h => h) (Or.inl ⟨by rfl, fun w hSw => by go_simp⟩) hH ?_
  try simp only [Act.put, List.setIfInBounds_toArray, List.set_cons_zero, List.set_cons_succ, List.getElem_toArray, List.getElem_cons_succ, List.getElem_cons_zero]
  refine wpAnyH_take (i := 6) (v := .pointer (some ⟨rb, 2, none⟩)) rfl (by kernel_rfl) (by kernel_rfl) (by kernel_rfl) (fun _ _ _ h => h) (Or.inl ⟨by rfl, fun w hSw => by go_simp⟩) hH ?_
  try simp only [Act.put, List.setIfInBounds_toArray, List.set_cons_zero, List.set_cons_succ, List.getElem_toArray, List.getElem_cons_succ, List.getElem_cons_zero]
  refine wpAnyH_take (i := 7) (v := .int .i64 sh) rfl (by kernel_rfl) (by kernel_rfl) (by kernel_rfl) (fun _ _ _ h => h) (Or.inl ⟨by rfl, fun w hSw => by have f0 := (HZ.out w (H3.out w hSw).1).2.2.2.reg.cells.2.2.1; go_simp⟩) hH ?_
  try simp only [Act.put, List.setIfInBounds_toArray, List.set_cons_zero, List.set_cons_succ, List.getElem_toArray, List.getElem_cons_succ, List.getElem_cons_zero]
  by_cases hsh : sh < g
  · have hx : decide (sh < g) = true := decide_eq_true hsh
    refine wpAnyH_take (i := 8) (v := .bool true) rfl (by kernel_rfl) (by kernel_rfl) (by kernel_rfl) (fun _ _ _ h => h) (Or.inl ⟨by rfl, fun w hSw => by go_simp⟩) hH ?_
    try simp only [Act.put, List.setIfInBounds_toArray, List.set_cons_zero, List.set_cons_succ, List.getElem_toArray, List.getElem_cons_succ, List.getElem_cons_zero]
    refine wpAnyH_done (by kernel_rfl) ?_ _
    try simp
    have HPx := HP1.out 16 (by omega) (by unfold scanC; rw [if_pos hsh]) _ (HZ.out _ (H3.out _ hH).1).2.2.1
    go_wp2
    exact HPx
  have hx : decide (sh < g) = false := decide_eq_false hsh
  refine wpAnyH_take (i := 8) (v := .bool false) rfl (by kernel_rfl) (by kernel_rfl) (by kernel_rfl) (fun _ _ _ h => h) (Or.inl ⟨by rfl, fun w hSw => by go_simp⟩) hH ?_
  try simp only [Act.put, List.setIfInBounds_toArray, List.set_cons_zero, List.set_cons_succ, List.getElem_toArray, List.getElem_cons_succ, List.getElem_cons_zero]
  refine wpAnyH_done (by kernel_rfl) ?_ _
  try simp
  have HD3 : Hid (Below W3.heap.size W3 W3.drew) := hH
  clear hH hx
  generalize W3.drew = Wq at *
  have r1 := (HZ.out Wq (H3.out Wq HD3.out).1).2.2.2.reg.cells.2.1
  by_cases hl5 : (ls.length : Int) = 50
  · have HPx := HP1.out 14 (by omega) (by unfold scanC; rw [if_neg (show ¬ sh < g by omega), if_pos hl5]) _ (HZ.out Wq (H3.out Wq HD3.out).1).2.2.1
    go_wp2
    exact HPx
  have hl5' : ((ls.length : Int) == 50) = false := by simpa using hl5
  have a2 := blkCell (HZ.out Wq (H3.out Wq HD3.out).1).1 2 _ rfl
  have i1 := blkCell (H3.out Wq HD3.out).2 1 _ rfl
  have i2 := blkCell (H3.out Wq HD3.out).2 2 _ rfl
  have s0 := blkCell (HZ.out Wq (H3.out Wq HD3.out).1).2.1 0 _ rfl
  have s2 := blkCell (HZ.out Wq (H3.out Wq HD3.out).1).2.1 2 _ rfl
  have hls := blkLt (HZ.out Wq (H3.out Wq HD3.out).1).2.1
  have hla := blkLt (HZ.out Wq (H3.out Wq HD3.out).1).1
  have hli := blkLt (H3.out Wq HD3.out).2
  go_wp2_with fail
  have hbl0 := heapNew Wq (Obj.cells #[.int .i64 (m : Int), .int .i64 ct, .int .i64 (p * ct), .int .i64 (d * ct)] 82)
  have hbl := hbl0
  have HB5 : Hid (Below w.heap.size w (Wq.alloc (Obj.cells #[.int .i64 (m : Int), .int .i64 ct, .int .i64 (p * ct), .int .i64 (d * ct)] 82))) := chain (HZ.out Wq (H3.out Wq HD3.out).1).2.2.1 (below_alloc _ _)
  have hbq : w.heap.size ≤ Wq.heap.size := (HZ.out Wq (H3.out Wq HD3.out).1).2.2.1.size
  have H5 : Hid (∀ W, Below ((Wq.alloc (Obj.cells #[.int .i64 (m : Int), .int .i64 ct, .int .i64 (p * ct), .int .i64 (d * ct)] 82))).heap.size ((Wq.alloc (Obj.cells #[.int .i64 (m : Int), .int .i64 ct, .int .i64 (p * ct), .int .i64 (d * ct)] 82))) W → W.heap[Wq.heap.size]? = some (.cells #[.int .i64 (m : Int), .int .i64 ct, .int .i64 am, .int .i64 (d * ct)] 82 (0, 0)) ∧ Sg B rb (.slice (some ⟨b0, o0, none⟩) its.length ic) (.slice la ls.length lc) ls sh kv ks sl tk dp cv cs W) := fun W hW => ⟨by rw [HAM.out]; exact (hW.block _ (blkLt hbl)).trans hbl, (HZ.out Wq (H3.out Wq HD3.out).1).2.2.2.later (chain (below_alloc _ _) hW)⟩
  clear hbl hbl0 a2 i1 i2 s0 s2 hls hla hli r1 hin hS HX HZ H3 HD3 hia
  generalize ((Wq.alloc (Obj.cells #[.int .i64 (m : Int), .int .i64 ct, .int .i64 (p * ct), .int .i64 (d * ct)] 82))) = W5 at *
  generalize Wq.heap.size = bl at *
  refine wp_region_held_drew (S := fun W => Below W5.heap.size W5 W) (by kernel_rfl) (below_drew _) (fun hH => ?_)
  refine wpAnyH_take (i := 0) (v := .pointer (some ⟨rb, 0, none⟩)) rfl (by kernel_rfl) (by kernel_rfl) (by kernel_rfl) (fun _ _ _ h => h) (Or.inl ⟨by rfl, fun w hSw => by go_simp⟩) hH ?_
  refine wpAnyH_take (i := 1) (v := .pointer (some ⟨rb, 0, none⟩)) rfl (by kernel_rfl) (by kernel_rfl) (by kernel_rfl) (fun _ _ _ h => h) (Or.inl ⟨by rfl, fun w hSw => by go_simp⟩) hH ?_
  try simp only [Act.put, List.setIfInBounds_toArray, List.set_cons_zero, List.set_cons_succ, List.getElem_toArray, List.getElem_cons_succ, List.getElem_cons_zero]
  refine wpAnyH_take (i := 2) (v := .pointer (some ⟨rb, 1, none⟩)) rfl (by kernel_rfl) (by kernel_rfl) (by kernel_rfl) (fun _ _ _ h => h) (Or.inl ⟨by rfl, fun w hSw => by go_simp⟩) hH ?_
  try simp only [Act.put, List.setIfInBounds_toArray, List.set_cons_zero, List.set_cons_succ, List.getElem_toArray, List.getElem_cons_succ, List.getElem_cons_zero]
  refine wpAnyH_take (i := 3) (v := .pointer (some ⟨rb, 1, none⟩)) rfl (by kernel_rfl) (by kernel_rfl) (by kernel_rfl) (fun _ _ _ h => h) (Or.inl ⟨by rfl, fun w hSw => by go_simp⟩) hH ?_
  try simp only [Act.put, List.setIfInBounds_toArray, List.set_cons_zero, List.set_cons_succ, List.getElem_toArray, List.getElem_cons_succ, List.getElem_cons_zero]
  refine wpAnyH_take (i := 4) (v := .agg #[.slice la ls.length lc, .int .i64 sh]) rfl (by kernel_rfl) (by kernel_rfl) (by kernel_rfl) (fun _ _ _ h => h) (Or.inl ⟨by rfl, fun w hSw => by have f0 := (H5.out w hSw).2.reg.cells.2.1; have f1 := (H5.out w hSw).2.reg.cells.2.2.1; go_simp⟩) hH ?_
  try simp only [Act.put, List.setIfInBounds_toArray, List.set_cons_zero, List.set_cons_succ, List.getElem_toArray, List.getElem_cons_succ, List.getElem_cons_zero]
  refine wpAnyH_take (i := 6) (v := .pointer (some ⟨bl, 2, none⟩)) rfl (by kernel_rfl) (by kernel_rfl) (by kernel_rfl) (fun _ _ _ h => h) (Or.inl ⟨by rfl, fun w hSw => by go_simp⟩) hH ?_
  try simp only [Act.put, List.setIfInBounds_toArray, List.set_cons_zero, List.set_cons_succ, List.getElem_toArray, List.getElem_cons_succ, List.getElem_cons_zero]
  refine wpAnyH_take (i := 7) (v := .int .i64 am) rfl (by kernel_rfl) (by kernel_rfl) (by kernel_rfl) (fun _ _ _ h => h) (Or.inl ⟨by rfl, fun w hSw => by have f0 := blkCell (H5.out w hSw).1 2 _ rfl; go_simp⟩) hH ?_
  try simp only [Act.put, List.setIfInBounds_toArray, List.set_cons_zero, List.set_cons_succ, List.getElem_toArray, List.getElem_cons_succ, List.getElem_cons_zero]
  refine wpAnyH_take (i := 9) (v := .pointer (some ⟨bl, 3, none⟩)) rfl (by kernel_rfl) (by kernel_rfl) (by kernel_rfl) (fun _ _ _ h => h) (Or.inl ⟨by rfl, fun w hSw => by go_simp⟩) hH ?_
  try simp only [Act.put, List.setIfInBounds_toArray, List.set_cons_zero, List.set_cons_succ, List.getElem_toArray, List.getElem_cons_succ, List.getElem_cons_zero]
  refine wpAnyH_take (i := 10) (v := .int .i64 (d * ct)) rfl (by kernel_rfl) (by kernel_rfl) (by kernel_rfl) (fun _ _ _ h => h) (Or.inl ⟨by rfl, fun w hSw => by have f0 := blkCell (H5.out w hSw).1 3 _ rfl; go_simp⟩) hH ?_
  try simp only [Act.put, List.setIfInBounds_toArray, List.set_cons_zero, List.set_cons_succ, List.getElem_toArray, List.getElem_cons_succ, List.getElem_cons_zero]
  refine wpAnyH_ready (rs := [5]) (by kernel_rfl) (by simp) ?_
  refine AllReadyH.cons rfl (fun K hK => ?_) AllReadyH.nil
  go_simp
  go_at_call 34
  refine (HTo.out _ (H5.out _ hH).2).mono ?_
  rintro e w6 ⟨rfl, hb6⟩
  have hw6 := chain hH hb6
  refine hK.out _ _ hw6 (fun _ => ?_)
  clear hK K
  try simp only [Act.put, List.setIfInBounds_toArray, List.set_cons_zero, List.set_cons_succ, List.getElem_toArray, List.getElem_cons_succ, List.getElem_cons_zero]
  refine wpAnyH_take (i := 8) (v := .int .i64 (tot + am)) rfl (by kernel_rfl) (by kernel_rfl) (by kernel_rfl) (fun _ _ _ h => h) (Or.inl ⟨by rfl, fun w hSw => by go_simp⟩) hw6 ?_
  try simp only [Act.put, List.setIfInBounds_toArray, List.set_cons_zero, List.set_cons_succ, List.getElem_toArray, List.getElem_cons_succ, List.getElem_cons_zero]
  refine wpAnyH_take (i := 11) (v := .int .i64 (tot + am + d * ct)) rfl (by kernel_rfl) (by kernel_rfl) (by kernel_rfl) (fun _ _ _ h => h) (Or.inl ⟨by rfl, fun w hSw => by go_simp⟩) hw6 ?_
  try simp only [Act.put, List.setIfInBounds_toArray, List.set_cons_zero, List.set_cons_succ, List.getElem_toArray, List.getElem_cons_succ, List.getElem_cons_zero]
  by_cases hov : 1000000000 < tot + am + d * ct
  · have hx : decide (1000000000 < tot + am + d * ct) = true := decide_eq_true hov
    refine wpAnyH_take (i := 12) (v := .bool true) rfl (by kernel_rfl) (by kernel_rfl) (by kernel_rfl) (fun _ _ _ h => h) (Or.inl ⟨by rfl, fun w hSw => by go_simp⟩) hw6 ?_
    try simp only [Act.put, List.setIfInBounds_toArray, List.set_cons_zero, List.set_cons_succ, List.getElem_toArray, List.getElem_cons_succ, List.getElem_cons_zero]
    refine wpAnyH_done (by kernel_rfl) ?_ _
    try simp
    have HPx := HP1.out 11 (by omega) (by unfold scanC; rw [if_neg (show ¬ sh < g by omega), if_neg (show ¬ (ls.length : Int) = 50 by omega), HTt.out, if_pos (by omega)]) w6 (chain HB5.out hw6)
    go_wp2
    exact HPx
  · have hx : decide (1000000000 < tot + am + d * ct) = false := decide_eq_false hov
    refine wpAnyH_take (i := 12) (v := .bool false) rfl (by kernel_rfl) (by kernel_rfl) (by kernel_rfl) (fun _ _ _ h => h) (Or.inl ⟨by rfl, fun w hSw => by go_simp⟩) hw6 ?_
    try simp only [Act.put, List.setIfInBounds_toArray, List.set_cons_zero, List.set_cons_succ, List.getElem_toArray, List.getElem_cons_succ, List.getElem_cons_zero]
    refine wpAnyH_done (by kernel_rfl) ?_ _
    try simp
    have HP := HP2.out (by unfold scanC; rw [if_neg (show ¬ sh < g by omega), if_neg (show ¬ (ls.length : Int) = 50 by omega), HTt.out, if_neg (by omega)])
    have HG6 : Hid (Sg B rb (.slice (some ⟨b0, o0, none⟩) its.length ic) (.slice la ls.length lc) ls sh kv ks sl tk dp cv cs w6) := (H5.out w6 hw6).2
    have HL6 : Hid (w6.heap[bl]? = some (.cells #[.int .i64 (m : Int), .int .i64 ct, .int .i64 am, .int .i64 (d * ct)] 82 (0, 0))) := (H5.out w6 hw6).1
    have HF6 : Hid (Below w.heap.size w w6) := chain HB5.out hw6
    clear hw6 hb6 hH hx
    go_wp2_with fail
    refine wp_region_held_drew (S := fun W => W.heap[bl]? = some (.cells #[.int .i64 (m : Int), .int .i64 ct, .int .i64 am, .int .i64 (d * ct)] 82 (0, 0))) (by kernel_rfl) HL6.out (fun hH => ?_)
    have HG : Hid (Sg B rb (.slice (some ⟨b0, o0, none⟩) its.length ic) (.slice la ls.length lc) ls sh kv ks sl tk dp cv cs w6.drew) := HG6.out.later (below_drew _)
    have HF : Hid (Below w.heap.size w w6.drew) := chain HF6.out (below_drew _)
    clear HG6 HL6 HF6
    generalize w6.drew = Wd at *
    refine wpAnyH_take (i := 0) (v := .pointer (some ⟨rb, 0, none⟩)) rfl (by kernel_rfl) (by kernel_rfl) (by kernel_rfl) (fun _ _ _ h => h) (Or.inl ⟨by rfl, fun w hSw => by go_simp⟩) hH ?_
    refine wpAnyH_take (i := 1) (v := .pointer (some ⟨rb, 0, none⟩)) rfl (by kernel_rfl) (by kernel_rfl) (by kernel_rfl) (fun _ _ _ h => h) (Or.inl ⟨by rfl, fun w hSw => by go_simp⟩) hH ?_
    try simp only [Act.put, List.setIfInBounds_toArray, List.set_cons_zero, List.set_cons_succ, List.getElem_toArray, List.getElem_cons_succ, List.getElem_cons_zero]
    refine wpAnyH_take (i := 2) (v := .pointer (some ⟨rb, 0, none⟩)) rfl (by kernel_rfl) (by kernel_rfl) (by kernel_rfl) (fun _ _ _ h => h) (Or.inl ⟨by rfl, fun w hSw => by go_simp⟩) hH ?_
    try simp only [Act.put, List.setIfInBounds_toArray, List.set_cons_zero, List.set_cons_succ, List.getElem_toArray, List.getElem_cons_succ, List.getElem_cons_zero]
    refine wpAnyH_take (i := 3) (v := .pointer (some ⟨rb, 1, none⟩)) rfl (by kernel_rfl) (by kernel_rfl) (by kernel_rfl) (fun _ _ _ h => h) (Or.inl ⟨by rfl, fun w hSw => by go_simp⟩) hH ?_
    try simp only [Act.put, List.setIfInBounds_toArray, List.set_cons_zero, List.set_cons_succ, List.getElem_toArray, List.getElem_cons_succ, List.getElem_cons_zero]
    refine wpAnyH_take (i := 4) (v := .pointer (some ⟨rb, 1, none⟩)) rfl (by kernel_rfl) (by kernel_rfl) (by kernel_rfl) (fun _ _ _ h => h) (Or.inl ⟨by rfl, fun w hSw => by go_simp⟩) hH ?_
    try simp only [Act.put, List.setIfInBounds_toArray, List.set_cons_zero, List.set_cons_succ, List.getElem_toArray, List.getElem_cons_succ, List.getElem_cons_zero]
    refine wpAnyH_take (i := 5) (v := .pointer (some ⟨rb, 1, none⟩)) rfl (by kernel_rfl) (by kernel_rfl) (by kernel_rfl) (fun _ _ _ h => h) (Or.inl ⟨by rfl, fun w hSw => by go_simp⟩) hH ?_
    try simp only [Act.put, List.setIfInBounds_toArray, List.set_cons_zero, List.set_cons_succ, List.getElem_toArray, List.getElem_cons_succ, List.getElem_cons_zero]
    refine wpAnyH_take (i := 7) (v := .agg #[.int .i64 (m : Int), .int .i64 ct, .int .i64 am, .int .i64 (d * ct)]) rfl (by kernel_rfl) (by kernel_rfl) (by kernel_rfl) (fun _ _ _ h => h) (Or.inl ⟨by rfl, fun w hSw => by have f0 := blkCell hSw 0 _ rfl; have f1 := blkCell hSw 1 _ rfl; have f2 := blkCell hSw 2 _ rfl; have f3 := blkCell hSw 3 _ rfl; go_simp⟩) hH ?_
    try simp only [Act.put, List.setIfInBounds_toArray, List.set_cons_zero, List.set_cons_succ, List.getElem_toArray, List.getElem_cons_succ, List.getElem_cons_zero]
    refine wpAnyH_ready (rs := [6, 8]) (by kernel_rfl) (by simp) ?_
    refine AllReadyH.cons rfl (fun K hK => ?_) (AllReadyH.cons rfl (fun K hK => ?_) AllReadyH.nil)
    · skip
      have q5 := HG.out.reg.cells.2.1
      go_simp
      clear q5
      refine hK.out _ _ hH (fun _ => ?_)
      clear hK K
      try simp only [Act.put, List.setIfInBounds_toArray, List.set_cons_zero, List.set_cons_succ, List.getElem_toArray, List.getElem_cons_succ, List.getElem_cons_zero]
      refine wpAnyH_ready (rs := [8]) (by kernel_rfl) (by simp) ?_
      refine AllReadyH.cons rfl (fun K hK => ?_) AllReadyH.nil
      go_simp
      have HG5 : Hid (Sg B rb (.slice (some ⟨b0, o0, none⟩) its.length ic) (.slice la ls.length lc) ls sh kv ks sl tk dp cv cs (Wd.alloc (Obj.cells #[.int .i64 (m : Int), .int .i64 ct, .int .i64 am, .int .i64 (d * ct)] 82))) := HG.out.later (below_alloc _ _)
      have hH5 : (Wd.alloc (Obj.cells #[.int .i64 (m : Int), .int .i64 ct, .int .i64 am, .int .i64 (d * ct)] 82)).heap[bl]? = some (.cells #[.int .i64 (m : Int), .int .i64 ct, .int .i64 am, .int .i64 (d * ct)] 82 (0, 0)) := (Below.heap_alloc _ _ _ (blkLt hH)).trans hH
      refine hK.out _ _ hH5 (fun _ => ?_)
      clear hK K
      try simp only [Act.put, List.setIfInBounds_toArray, List.set_cons_zero, List.set_cons_succ, List.getElem_toArray, List.getElem_cons_succ, List.getElem_cons_zero]
      refine wpAnyH_ready (rs := [9]) (by kernel_rfl) (by simp) ?_
      refine AllReadyH.cons rfl (fun K hK => ?_) AllReadyH.nil
      refine step_append_lies _ rfl _ _ 28 rfl B 82 j0 (.agg #[.int .i64 0, .int .i64 0, .int .i64 0, .int .i64 0]) 4 32 Tryz.underlying28 hj hj0 hj1 hj2 rfl (by decide) _ _ _ rfl HG5.out.lrow ⟨Wd.heap.size, 0, none⟩ 1 1 [.int .i64 (m : Int), .int .i64 ct, .int .i64 am, .int .i64 (d * ct)] rfl rfl (World.news_of_block (heapNew Wd _)) (by simp [Value.oneCell']) (by omega) (by unfold maxLen; omega) (by omega) (by have := HG5.out.reg.lt; have := HG5.out.low; omega) _ rfl ?_
      intro g1 cp1 w7 hown1 hgrow1 hat1 hglt1
      have hf7 := fr_grown hgrow1
      have hxl : ∀ q, (Value.slice la ls.length lc).ownBlock = some q → q ≠ rb := fun q hq e => HG5.out.far.1 (by rw [hq, e])
      have hb7 : SpIs w7 rb (.slice (some ⟨b0, o0, none⟩) its.length ic) (.slice la ls.length lc) sh kv sl tk dp cv := (hf7.block rb HG5.out.reg.lt (fun e => HG5.out.far.1 e)).trans HG5.out.reg
      have z1 := hb7.cells.2.1
      have zf := hb7.free 1
      have hblne : ¬ (Value.slice la ls.length lc).ownBlock = some bl := fun e => by have := (row_lt HLw.out _ e).2; omega
      have hH7 : w7.heap[bl]? = some (.cells #[.int .i64 (m : Int), .int .i64 ct, .int .i64 am, .int .i64 (d * ct)] 82 (0, 0)) := (hf7.block _ (blkLt hH5) hblne).trans hH5
      have HFi : Hid (Fr (RgX rb (.slice la ls.length lc) kv) w (w7.setCell ⟨rb, 1, none⟩ (.slice (some ⟨g1, 0, none⟩) (ls.length + 1) cp1)) ∧ Sg B rb (.slice (some ⟨b0, o0, none⟩) its.length ic) (.slice (some ⟨g1, 0, none⟩) (ls.length + 1) cp1) (ls ++ [⟨(m : Int), ct, am, d * ct⟩]) sh kv ks sl tk dp cv cs (w7.setCell ⟨rb, 1, none⟩ (.slice (some ⟨g1, 0, none⟩) (ls.length + 1) cp1))) := by
        refine ⟨(((Fr.of HF.out).alloc _).trans (hf7.mono (fun k hk => .inr (.inl hk)))).set (b := rb) (.inl rfl) _ _, ?_⟩
        have hg1 : g1 ≠ rb := by
          rcases hat1 with q | q
          · exact hxl g1 q
          · have := HG5.out.reg.lt; omega
        refine HG5.out.now ((hf7.mono (fun k hk => .inr hk)).set (b := rb) (.inl rfl) _ _) (hb7.set1 _) ?_ ?_
        · rw [List.length_append, lnCells_append]
          exact row_of hown1 (fun q hq => Below.heap_setCell _ _ _ _ (by cases hq; exact hg1))
        · rcases hat1 with q | q
          · exact .inl q.symm
          · exact .inr ⟨g1, rfl, by omega⟩
      have hH8 : (w7.setCell ⟨rb, 1, none⟩ (.slice (some ⟨g1, 0, none⟩) (ls.length + 1) cp1)).heap[bl]? = some (.cells #[.int .i64 (m : Int), .int .i64 ct, .int .i64 am, .int .i64 (d * ct)] 82 (0, 0)) := (Below.heap_setCell _ _ _ _ (by show bl ≠ rb; omega)).trans hH7
      clear hown1 hgrow1 hat1 hglt1 hf7 hb7 hxl hblne
      refine hK.out _ _ hH7 (fun _ => ?_)
      clear hK K
      try simp only [Act.put, List.setIfInBounds_toArray, List.set_cons_zero, List.set_cons_succ, List.getElem_toArray, List.getElem_cons_succ, List.getElem_cons_zero]
      refine wpAnyH_take (i := 10) (v := .pointer (some ⟨rb, 0, none⟩)) rfl (by kernel_rfl) (by kernel_rfl) (by kernel_rfl) (fun _ _ _ h => h) (Or.inl ⟨by rfl, fun w hSw => by go_simp⟩) hH7 ?_
      try simp only [Act.put, List.setIfInBounds_toArray, List.set_cons_zero, List.set_cons_succ, List.getElem_toArray, List.getElem_cons_succ, List.getElem_cons_zero]
      refine wpAnyH_take (i := 11) (v := .pointer (some ⟨rb, 1, none⟩)) rfl (by kernel_rfl) (by kernel_rfl) (by kernel_rfl) (fun _ _ _ h => h) (Or.inl ⟨by rfl, fun w hSw => by go_simp⟩) hH7 ?_
      try simp only [Act.put, List.setIfInBounds_toArray, List.set_cons_zero, List.set_cons_succ, List.getElem_toArray, List.getElem_cons_succ, List.getElem_cons_zero]
      refine wpAnyH_take (i := 12) (v := .pointer (some ⟨rb, 1, none⟩)) rfl (by kernel_rfl) (by kernel_rfl) (by kernel_rfl) (fun _ _ _ h => h) (Or.inl ⟨by rfl, fun w hSw => by go_simp⟩) hH7 ?_
      try simp only [Act.put, List.setIfInBounds_toArray, List.set_cons_zero, List.set_cons_succ, List.getElem_toArray, List.getElem_cons_succ, List.getElem_cons_zero]
      refine wpAnyH_take (i := 13) (v := .pointer (some ⟨rb, 1, none⟩)) rfl (by kernel_rfl) (by kernel_rfl) (by kernel_rfl) (fun _ _ _ h => h) (Or.inl ⟨by rfl, fun w hSw => by go_simp⟩) hH7 ?_
      try simp only [Act.put, List.setIfInBounds_toArray, List.set_cons_zero, List.set_cons_succ, List.getElem_toArray, List.getElem_cons_succ, List.getElem_cons_zero]
      refine wpAnyH_ready (rs := [14]) (by kernel_rfl) (by simp) ?_
      refine AllReadyH.cons rfl (fun K hK => ?_) AllReadyH.nil
      go_simp
      refine hK.out _ _ hH8 (fun _ => ?_)
      clear hK K
      try simp only [Act.put, List.setIfInBounds_toArray, List.set_cons_zero, List.set_cons_succ, List.getElem_toArray, List.getElem_cons_succ, List.getElem_cons_zero]
      refine wpAnyH_done (by kernel_rfl) ?_ _
      try simp
      clear z1 zf
      generalize (w7.setCell ⟨rb, 1, none⟩ (.slice (some ⟨g1, 0, none⟩) (ls.length + 1) cp1)) = W8 at *
      have f2 := blkCell hH8 2 _ rfl
      have f3 := blkCell hH8 3 _ rfl
      have HPx := HP _ _ HFi.out.1 HFi.out.2
      clear hH8 hH7 hH5 hH
      go_wp2
      exact HPx
    · skip
      go_simp
      have HG5 : Hid (Sg B rb (.slice (some ⟨b0, o0, none⟩) its.length ic) (.slice la ls.length lc) ls sh kv ks sl tk dp cv cs (Wd.alloc (Obj.cells #[.int .i64 (m : Int), .int .i64 ct, .int .i64 am, .int .i64 (d * ct)] 82))) := HG.out.later (below_alloc _ _)
      have hH5 : (Wd.alloc (Obj.cells #[.int .i64 (m : Int), .int .i64 ct, .int .i64 am, .int .i64 (d * ct)] 82)).heap[bl]? = some (.cells #[.int .i64 (m : Int), .int .i64 ct, .int .i64 am, .int .i64 (d * ct)] 82 (0, 0)) := (Below.heap_alloc _ _ _ (blkLt hH)).trans hH
      refine hK.out _ _ hH5 (fun _ => ?_)
      clear hK K
      try simp only [Act.put, List.setIfInBounds_toArray, List.set_cons_zero, List.set_cons_succ, List.getElem_toArray, List.getElem_cons_succ, List.getElem_cons_zero]
      refine wpAnyH_ready (rs := [6]) (by kernel_rfl) (by simp) ?_
      refine AllReadyH.cons rfl (fun K hK => ?_) AllReadyH.nil
      have q5 := HG5.out.reg.cells.2.1
      go_simp
      clear q5
      refine hK.out _ _ hH5 (fun _ => ?_)
      clear hK K
      try simp only [Act.put, List.setIfInBounds_toArray, List.set_cons_zero, List.set_cons_succ, List.getElem_toArray, List.getElem_cons_succ, List.getElem_cons_zero]
      refine wpAnyH_ready (rs := [9]) (by kernel_rfl) (by simp) ?_
      refine AllReadyH.cons rfl (fun K hK => ?_) AllReadyH.nil
      refine step_append_lies _ rfl _ _ 28 rfl B 82 j0 (.agg #[.int .i64 0, .int .i64 0, .int .i64 0, .int .i64 0]) 4 32 Tryz.underlying28 hj hj0 hj1 hj2 rfl (by decide) _ _ _ rfl HG5.out.lrow ⟨Wd.heap.size, 0, none⟩ 1 1 [.int .i64 (m : Int), .int .i64 ct, .int .i64 am, .int .i64 (d * ct)] rfl rfl (World.news_of_block (heapNew Wd _)) (by simp [Value.oneCell']) (by omega) (by unfold maxLen; omega) (by omega) (by have := HG5.out.reg.lt; have := HG5.out.low; omega) _ rfl ?_
      intro g1 cp1 w7 hown1 hgrow1 hat1 hglt1
      have hf7 := fr_grown hgrow1
      have hxl : ∀ q, (Value.slice la ls.length lc).ownBlock = some q → q ≠ rb := fun q hq e => HG5.out.far.1 (by rw [hq, e])
      have hb7 : SpIs w7 rb (.slice (some ⟨b0, o0, none⟩) its.length ic) (.slice la ls.length lc) sh kv sl tk dp cv := (hf7.block rb HG5.out.reg.lt (fun e => HG5.out.far.1 e)).trans HG5.out.reg
      have z1 := hb7.cells.2.1
      have zf := hb7.free 1
      have hblne : ¬ (Value.slice la ls.length lc).ownBlock = some bl := fun e => by have := (row_lt HLw.out _ e).2; omega
      have hH7 : w7.heap[bl]? = some (.cells #[.int .i64 (m : Int), .int .i64 ct, .int .i64 am, .int .i64 (d * ct)] 82 (0, 0)) := (hf7.block _ (blkLt hH5) hblne).trans hH5
      have HFi : Hid (Fr (RgX rb (.slice la ls.length lc) kv) w (w7.setCell ⟨rb, 1, none⟩ (.slice (some ⟨g1, 0, none⟩) (ls.length + 1) cp1)) ∧ Sg B rb (.slice (some ⟨b0, o0, none⟩) its.length ic) (.slice (some ⟨g1, 0, none⟩) (ls.length + 1) cp1) (ls ++ [⟨(m : Int), ct, am, d * ct⟩]) sh kv ks sl tk dp cv cs (w7.setCell ⟨rb, 1, none⟩ (.slice (some ⟨g1, 0, none⟩) (ls.length + 1) cp1))) := by
        refine ⟨(((Fr.of HF.out).alloc _).trans (hf7.mono (fun k hk => .inr (.inl hk)))).set (b := rb) (.inl rfl) _ _, ?_⟩
        have hg1 : g1 ≠ rb := by
          rcases hat1 with q | q
          · exact hxl g1 q
          · have := HG5.out.reg.lt; omega
        refine HG5.out.now ((hf7.mono (fun k hk => .inr hk)).set (b := rb) (.inl rfl) _ _) (hb7.set1 _) ?_ ?_
        · rw [List.length_append, lnCells_append]
          exact row_of hown1 (fun q hq => Below.heap_setCell _ _ _ _ (by cases hq; exact hg1))
        · rcases hat1 with q | q
          · exact .inl q.symm
          · exact .inr ⟨g1, rfl, by omega⟩
      have hH8 : (w7.setCell ⟨rb, 1, none⟩ (.slice (some ⟨g1, 0, none⟩) (ls.length + 1) cp1)).heap[bl]? = some (.cells #[.int .i64 (m : Int), .int .i64 ct, .int .i64 am, .int .i64 (d * ct)] 82 (0, 0)) := (Below.heap_setCell _ _ _ _ (by show bl ≠ rb; omega)).trans hH7
      clear hown1 hgrow1 hat1 hglt1 hf7 hb7 hxl hblne
      refine hK.out _ _ hH7 (fun _ => ?_)
      clear hK K
      try simp only [Act.put, List.setIfInBounds_toArray, List.set_cons_zero, List.set_cons_succ, List.getElem_toArray, List.getElem_cons_succ, List.getElem_cons_zero]
      refine wpAnyH_take (i := 10) (v := .pointer (some ⟨rb, 0, none⟩)) rfl (by kernel_rfl) (by kernel_rfl) (by kernel_rfl) (fun _ _ _ h => h) (Or.inl ⟨by rfl, fun w hSw => by go_simp⟩) hH7 ?_
      try simp only [Act.put, List.setIfInBounds_toArray, List.set_cons_zero, List.set_cons_succ, List.getElem_toArray, List.getElem_cons_succ, List.getElem_cons_zero]
      refine wpAnyH_take (i := 11) (v := .pointer (some ⟨rb, 1, none⟩)) rfl (by kernel_rfl) (by kernel_rfl) (by kernel_rfl) (fun _ _ _ h => h) (Or.inl ⟨by rfl, fun w hSw => by go_simp⟩) hH7 ?_
      try simp only [Act.put, List.setIfInBounds_toArray, List.set_cons_zero, List.set_cons_succ, List.getElem_toArray, List.getElem_cons_succ, List.getElem_cons_zero]
      refine wpAnyH_take (i := 12) (v := .pointer (some ⟨rb, 1, none⟩)) rfl (by kernel_rfl) (by kernel_rfl) (by kernel_rfl) (fun _ _ _ h => h) (Or.inl ⟨by rfl, fun w hSw => by go_simp⟩) hH7 ?_
      try simp only [Act.put, List.setIfInBounds_toArray, List.set_cons_zero, List.set_cons_succ, List.getElem_toArray, List.getElem_cons_succ, List.getElem_cons_zero]
      refine wpAnyH_take (i := 13) (v := .pointer (some ⟨rb, 1, none⟩)) rfl (by kernel_rfl) (by kernel_rfl) (by kernel_rfl) (fun _ _ _ h => h) (Or.inl ⟨by rfl, fun w hSw => by go_simp⟩) hH7 ?_
      try simp only [Act.put, List.setIfInBounds_toArray, List.set_cons_zero, List.set_cons_succ, List.getElem_toArray, List.getElem_cons_succ, List.getElem_cons_zero]
      refine wpAnyH_ready (rs := [14]) (by kernel_rfl) (by simp) ?_
      refine AllReadyH.cons rfl (fun K hK => ?_) AllReadyH.nil
      go_simp
      refine hK.out _ _ hH8 (fun _ => ?_)
      clear hK K
      try simp only [Act.put, List.setIfInBounds_toArray, List.set_cons_zero, List.set_cons_succ, List.getElem_toArray, List.getElem_cons_succ, List.getElem_cons_zero]
      refine wpAnyH_done (by kernel_rfl) ?_ _
      try simp
      clear z1 zf
      generalize (w7.setCell ⟨rb, 1, none⟩ (.slice (some ⟨g1, 0, none⟩) (ls.length + 1) cp1)) = W8 at *
      have f2 := blkCell hH8 2 _ rfl
      have f3 := blkCell hH8 3 _ rfl
      have HPx := HP _ _ HFi.out.1 HFi.out.2
      clear hH8 hH7 hH5 hH
      go_wp2
      exact HPx
set_option maxHeartbeats 16000000 in
set_option maxRecDepth 8000 in
theorem scanS_else (tx : ByteArray) (ct k v : Int) (a : ByteArray) (ia : Option Addr) (ic : Nat) (its : List RIt) (hil : its.length ≤ 40) (B rb : Nat) (la : Option Addr) (lc : Nat) (ls : List RLi) (hN : ∀ l ∈ ls, LiN l) (hl50 : ls.length ≤ 50) (sh : Int) (kv : Value) (ks : List Kb) (sl tk dp : Int) (cv : Value) (cs : List Int) (w : World) (hg : Sg B rb (.slice ia its.length ic) (.slice la ls.length lc) ls sh kv ks sl tk dp cv cs w) (hI : ReadsIt B w ia its) (hB : B ≤ w.heap.size) (hS : ∀ W, Calls Tryz.prog 51 #[.string tx] W fun e w' => e = .returned (.tuple #[.agg #[.int .i64 k, .string a, .int .i64 v], .int .i64 0]) ∧ Below W.heap.size W w') (m : Nat) (hix : itIx a its = (m : Int)) (hm : m < its.length) (x : ByteArray) (p d cl g : Int) (hsi : its.getD m zIt = ⟨x, p, d, cl, g⟩) (n1 : 0 ≤ p) (n2 : p ≤ 1000000) (n3 : 0 ≤ d) (n4 : d ≤ 1000000) (g1 : 1 ≤ ct) (g2 : ct ≤ 99) (hv0 : 0 ≤ v) (hv1 : v ≤ 99999) (am : Int) (ham0 : 0 ≤ am) (ham1 : am ≤ 1000000000) (hd0 : 0 ≤ d * ct) (hd1 : d * ct ≤ 100000000) (hp0 : 0 ≤ p * ct) (hp1 : p * ct ≤ 100000000) (htt : totL ls ≤ 1000000000) (post : Ending → World → Prop) (HP1 : Hid (∀ c : Int, c ≠ 0 → scanC ls sh am (d * ct) g = c → ∀ W, Below w.heap.size w W → post (.returned (.tuple #[.int .i64 0, .int .i64 c])) W)) (HP2 : Hid (scanC ls sh am (d * ct) g = 0 → ∀ lv' W, Fr (RgX rb (.slice la ls.length lc) kv) w W → Sg B rb (.slice ia its.length ic) lv' (ls ++ [⟨(m : Int), ct, am, d * ct⟩]) sh kv ks sl tk dp cv cs W → post (.returned (.tuple #[.int .i64 (am + d * ct), .int .i64 0])) W)) (hk : k ≠ 1 ∧ k ≠ 2 ∧ k ≠ 3) (hc : ct = 1) (ham : am = p * ct) :
    Calls Tryz.prog 32 #[.pointer (some ⟨rb, 0, none⟩), .agg #[.int .i64 1, .string tx, .int .i64 ct]] w post := by
  have HI : Hid (∀ W, Below w.heap.size w W → ReadsIt W.heap.size W ia its) := fun W hW => (hI.below (hW.mono hB)).mono (Nat.le_trans hB hW.size)
  have HX : Hid (∀ W, Below w.heap.size w W → Calls Tryz.prog 23 #[(.slice ia its.length ic), .string a] W fun e w' => e = .returned (.int .i64 (m : Int)) ∧ w' = W) := fun W hW => hix ▸ find8_any ia ic its (by omega) a W (HI.out W hW)
  have HG0 : Hid (Sg B rb (.slice ia its.length ic) (.slice la ls.length lc) ls sh kv ks sl tk dp cv cs w) := hg
  have hin := fun w => in_any ct 1 99 w
  have e99 : inB ct 1 99 = true := decide_eq_true ⟨g1, g2⟩
  rw [e99] at hin
  have HTo : Hid (∀ W, Sg B rb (.slice ia its.length ic) (.slice la ls.length lc) ls sh kv ks sl tk dp cv cs W → Calls Tryz.prog 34 #[.agg #[.slice la ls.length lc, .int .i64 sh]] W fun e w' => e = .returned (.int .i64 (totL ls)) ∧ Below W.heap.size W w') := fun W h => specTotal_any la lc ls hN (by omega) sh W (rowLn_reads h.lrow).2
  obtain ⟨j0, hj, hzy⟩ := Option.map_eq_some_iff.1 lnInfo
  simp only [Prod.mk.injEq] at hzy
  obtain ⟨hj0, hj1, hj2⟩ := hzy
  have htn := totL_nn hN
  have HLw : Hid (w.ownsRow B 82 4 (.slice la ls.length lc) ls.length (lnCells ls)) := hg.lrow
  have hlow := hg.low
  have hrlt := hg.reg.lt
  generalize hTT : totL ls = tot at htn htt HTo
  have HTt : Hid (totL ls = tot) := hTT
  clear hTT hN hix HI
  rcases hI with h | ⟨b0, o0, hia0, hB0', hia⟩
  · rw [h] at hm; simp at hm
  have hB0 : b0 < w.heap.size := by omega
  subst hia0
  clear hg
  have hx0 : ¬ (m : Int) < 0 := by omega
  have hwa : IntKind.i64.wrap (tot + am) = tot + am := wrap_id _ (by omega) (by omega)
  have hwb : IntKind.i64.wrap (tot + am + d * ct) = tot + am + d * ct := wrap_id _ (by omega) (by omega)
  have hk1 : (k != 1) = true := by simp; omega
  have hk2 : (k == 2) = false := by simp; omega
  have hk3 : (k == 3) = false := by simp; omega
  have hc1 : (ct != 1) = false := by simp; omega
  clear hc
  clear hk
  have HAM : Hid (am = p * ct) := ham
  clear ham
  go_enter Tryz.func32, Tryz.ntmps32
  go_wp2_with fail
  (first | go_at_call 51 | skip)
  refine (hS _).mono ?_
  rintro e w1 ⟨rfl, hb1⟩
  have HZ : Hid (∀ W, Below (w1.alloc (Obj.cells #[.int .i64 k, .string a, .int .i64 v] 108)).heap.size (w1.alloc (Obj.cells #[.int .i64 k, .string a, .int .i64 v] 108)) W → W.heap[w.heap.size]? = some (.cells #[.int .i64 1, .string tx, .int .i64 ct] 42 (0, 0)) ∧ W.heap[w1.heap.size]? = some (.cells #[.int .i64 k, .string a, .int .i64 v] 108 (0, 0)) ∧ Below w.heap.size w W ∧ Sg B rb (.slice (some ⟨b0, o0, none⟩) its.length ic) (.slice la ls.length lc) ls sh kv ks sl tk dp cv cs W) := fun W hW => by
    have hbw : Below w.heap.size w W := chain (below_alloc _ _) (chain hb1 (chain (below_alloc _ _) hW))
    exact ⟨(hW.block _ (by have := hb1.size; simp at *; omega)).trans ((Below.heap_alloc _ _ _ (by have := hb1.size; simp at *; omega)).trans ((hb1.block _ (by simp)).trans (heapNew _ _))), (hW.block _ (by simp)).trans (heapNew _ _), hbw, HG0.out.later hbw⟩
  clear hb1
  go_wp2_with fail
  generalize (w1.alloc (Obj.cells #[.int .i64 k, .string a, .int .i64 v] 108)) = W1 at *
  generalize w1.heap.size = bs at *
  refine wp_region_held_drew (S := fun W => Below W1.heap.size W1 W) (by kernel_rfl) (below_drew _) (fun hH => ?_)
  refine wpAnyH_take (i := 0) (v := .pointer (some ⟨rb, 0, none⟩)) rfl (by kernel_rfl) (by kernel_rfl) (by kernel_rfl) (fun _ _ _ h => h) (Or.inl ⟨by rfl, fun w hSw => by go_simp⟩) hH ?_
  refine wpAnyH_take (i := 1) (v := .pointer (some ⟨rb, 0, none⟩)) rfl (by kernel_rfl) (by kernel_rfl) (by kernel_rfl) (fun _ _ _ h => h) (Or.inl ⟨by rfl, fun w hSw => by go_simp⟩) hH ?_
  try simp only [Act.put, List.setIfInBounds_toArray, List.set_cons_zero, List.set_cons_succ, List.getElem_toArray, List.getElem_cons_succ, List.getElem_cons_zero]
  refine wpAnyH_take (i := 2) (v := .pointer (some ⟨rb, 0, none⟩)) rfl (by kernel_rfl) (by kernel_rfl) (by kernel_rfl) (fun _ _ _ h => h) (Or.inl ⟨by rfl, fun w hSw => by go_simp⟩) hH ?_
  try simp only [Act.put, List.setIfInBounds_toArray, List.set_cons_zero, List.set_cons_succ, List.getElem_toArray, List.getElem_cons_succ, List.getElem_cons_zero]
  refine wpAnyH_take (i := 3) (v := (.slice (some ⟨b0, o0, none⟩) its.length ic)) rfl (by kernel_rfl) (by kernel_rfl) (by kernel_rfl) (fun _ _ _ h => h) (Or.inl ⟨by rfl, fun w hSw => by have f0 := (HZ.out w hSw).2.2.2.reg.cells.1; go_simp⟩) hH ?_
  try simp only [Act.put, List.setIfInBounds_toArray, List.set_cons_zero, List.set_cons_succ, List.getElem_toArray, List.getElem_cons_succ, List.getElem_cons_zero]
  refine wpAnyH_take (i := 4) (v := .pointer (some ⟨bs, 1, none⟩)) rfl (by kernel_rfl) (by kernel_rfl) (by kernel_rfl) (fun _ _ _ h => h) (Or.inl ⟨by rfl, fun w hSw => by go_simp⟩) hH ?_
  try simp only [Act.put, List.setIfInBounds_toArray, List.set_cons_zero, List.set_cons_succ, List.getElem_toArray, List.getElem_cons_succ, List.getElem_cons_zero]
  refine wpAnyH_take (i := 5) (v := .string a) rfl (by kernel_rfl) (by kernel_rfl) (by kernel_rfl) (fun _ _ _ h => h) (Or.inl ⟨by rfl, fun w hSw => by have f0 := blkCell (HZ.out w hSw).2.1 1 _ rfl; go_simp⟩) hH ?_
  try simp only [Act.put, List.setIfInBounds_toArray, List.set_cons_zero, List.set_cons_succ, List.getElem_toArray, List.getElem_cons_succ, List.getElem_cons_zero]
  refine wpAnyH_ready (rs := [6]) (by kernel_rfl) (by simp) ?_
  refine AllReadyH.cons rfl (fun K hK => ?_) AllReadyH.nil
  go_simp
  go_at_call 23
  refine (HX.out _ (HZ.out _ hH).2.2.1).mono ?_
  rintro e w2 ⟨rfl, h2e⟩
  rw [h2e]
  clear h2e w2
  refine hK.out _ _ hH (fun _ => ?_)
  clear hK K
  try simp only [Act.put, List.setIfInBounds_toArray, List.set_cons_zero, List.set_cons_succ, List.getElem_toArray, List.getElem_cons_succ, List.getElem_cons_zero]
  refine wpAnyH_take (i := 7) (v := .int .i64 (m : Int)) rfl (by kernel_rfl) (by kernel_rfl) (by kernel_rfl) (fun _ _ _ h => h) (Or.inl ⟨by rfl, fun w hSw => by go_simp⟩) hH ?_
  try simp only [Act.put, List.setIfInBounds_toArray, List.set_cons_zero, List.set_cons_succ, List.getElem_toArray, List.getElem_cons_succ, List.getElem_cons_zero]
  refine wpAnyH_done (by kernel_rfl) ?_ _
  try simp
  have HW2 : Hid (Below W1.heap.size W1 W1.drew) := hH
  clear hH
  generalize W1.drew = W2 at *
  have a0 := blkCell (HZ.out W2 HW2.out).1 0 _ rfl
  have a2 := blkCell (HZ.out W2 HW2.out).1 2 _ rfl
  have s0 := blkCell (HZ.out W2 HW2.out).2.1 0 _ rfl
  have s2 := blkCell (HZ.out W2 HW2.out).2.1 2 _ rfl
  obtain ⟨c0, c1, c2, c3, c4⟩ := (hia.below (HZ.out W2 HW2.out).2.2.1 hB0) m hm
  rw [hsi] at c0 c1 c2 c3 c4
  dsimp only at c0 c1 c2 c3 c4
  have r0 := (HZ.out W2 HW2.out).2.2.2.reg.cells.1
  go_wp2_with (go_at_call 33; refine (hin _).mono ?_; rintro e w3 ⟨rfl, h3e⟩; rw [h3e]; clear h3e w3)
  have hbi := heapNew W2 (Obj.cells #[.string x, .int .i64 p, .int .i64 d, .int .i64 cl, .int .i64 g] 60)
  have hW3 : Below W2.heap.size W2 (W2.alloc (Obj.cells #[.string x, .int .i64 p, .int .i64 d, .int .i64 cl, .int .i64 g] 60)) := below_alloc _ _
  clear c0 c1 c2 c3 c4 r0 a0 a2 s0 s2
  generalize (W2.alloc (Obj.cells #[.string x, .int .i64 p, .int .i64 d, .int .i64 cl, .int .i64 g] 60)) = W3 at *
  have hlb : w.heap.size ≤ W2.heap.size := (HZ.out W2 HW2.out).2.2.1.size
  have H3 : Hid (∀ W, Below W3.heap.size W3 W → Below W1.heap.size W1 W ∧ W.heap[W2.heap.size]? = some (.cells #[.string x, .int .i64 p, .int .i64 d, .int .i64 cl, .int .i64 g] 60 (0, 0))) := fun W hW => ⟨chain HW2.out (chain hW3 hW), (hW.block _ (blkLt hbi)).trans hbi⟩
  have hs3 : W2.heap.size < W3.heap.size := blkLt hbi
  clear hbi hW3 HW2
  generalize W2.heap.size = bi at *
  refine wp_region_held_drew (S := fun W => Below W3.heap.size W3 W) (by kernel_rfl) (below_drew _) (fun hH => ?_)
  refine wpAnyH_take (i := 0) (v := .pointer (some ⟨bi, 4, none⟩)) rfl (by kernel_rfl) (by kernel_rfl) (by kernel_rfl) (fun _ _ _ h => h) (Or.inl ⟨by rfl, fun w hSw => by go_simp⟩) hH ?_
  refine wpAnyH_take (i := 1) (v := .int .i64 g) rfl (by kernel_rfl) (by kernel_rfl) (by kernel_rfl) (fun _ _ _ h => h) (Or.inl ⟨by rfl, fun w hSw => by have f0 := blkCell (H3.out w hSw).2 4 _ rfl; go_simp⟩) hH ?_
  try simp only [Act.put, List.setIfInBounds_toArray, List.set_cons_zero, List.set_cons_succ, List.getElem_toArray, List.getElem_cons_succ, List.getElem_cons_zero]
  refine wpAnyH_take (i := 2) (v := .pointer (some ⟨rb, 0, none⟩)) rfl (by kernel_rfl) (by kernel_rfl) (by kernel_rfl) (fun _ _ _ h => h) (Or.inl ⟨by rfl, fun w hSw => by go_simp⟩) hH ?_
  try simp only [Act.put, List.setIfInBounds_toArray, List.set_cons_zero, List.set_cons_succ, List.getElem_toArray, List.getElem_cons_succ, List.getElem_cons_zero]
  refine wpAnyH_take (i := 3) (v := .pointer (some ⟨rb, 0, none⟩)) rfl (by kernel_rfl) (by kernel_rfl) (by kernel_rfl) (fun _ _ _ h => h) (Or.inl ⟨by rfl, fun w hSw => by go_simp⟩) hH ?_
  try simp only [Act.put, List.setIfInBounds_toArray, List.set_cons_zero, List.set_cons_succ, List.getElem_toArray, List.getElem_cons_succ, List.getElem_cons_zero]
  refine wpAnyH_take (i := 4) (v := .pointer (some ⟨rb, 1, none⟩)) rfl (by kernel_rfl) (by kernel_rfl) (by kernel_rfl) (fun _ _ _ h => h) (Or.inl ⟨by rfl, fun w hSw => by go_simp⟩) hH ?_
  try simp only [Act.put, List.setIfInBounds_toArray, List.set_cons_zero, List.set_cons_succ, List.getElem_toArray, List.getElem_cons_succ, List.getElem_cons_zero]
  refine wpAnyH_take (i := 5) (v := .pointer (some ⟨rb, 1, none⟩)) rfl (by kernel_rfl) (by kernel_rfl) (by kernel_rfl) (fun _ _ _ h => h) (Or.inl ⟨by rfl, fun w hSw => by go_simp⟩) hH ?_
  try simp only [Act.put, List.setIfInBounds_toArray, List.set_cons_zero, List.set_cons_succ, List.getElem_toArray, List.getElem_cons_succ, List.getElem_cons_zero]
  refine wpAnyH_take (i := 6) (v := .pointer (some ⟨rb, 2, none⟩)) rfl (by kernel_rfl) (by kernel_rfl) (by kernel_rfl) (fun _ _ _ h => h) (Or.inl ⟨by rfl, fun w hSw => by go_simp⟩) hH ?_
  try simp only [Act.put, List.setIfInBounds_toArray, List.set_cons_zero, List.set_cons_succ, List.getElem_toArray, List.getElem_cons_succ, List.getElem_cons_zero]
  refine wpAnyH_take (i := 7) (v := .int .i64 sh) rfl (by kernel_rfl) (by kernel_rfl) (by kernel_rfl) (fun _ _ _ h => h) (Or.inl ⟨by rfl, fun w hSw => by have f0 := (HZ.out w (H3.out w hSw).1).2.2.2.reg.cells.2.2.1; go_simp⟩) hH ?_
  try simp only [Act.put, List.setIfInBounds_toArray, List.set_cons_zero, List.set_cons_succ, List.getElem_toArray, List.getElem_cons_succ, List.getElem_cons_zero]
  by_cases hsh : sh < g
  · have hx : decide (sh < g) = true := decide_eq_true hsh
    refine wpAnyH_take (i := 8) (v := .bool true) rfl (by kernel_rfl) (by kernel_rfl) (by kernel_rfl) (fun _ _ _ h => h) (Or.inl ⟨by rfl, fun w hSw => by go_simp⟩) hH ?_
    try simp only [Act.put, List.setIfInBounds_toArray, List.set_cons_zero, List.set_cons_succ, List.getElem_toArray, List.getElem_cons_succ, List.getElem_cons_zero]
    refine wpAnyH_done (by kernel_rfl) ?_ _
    try simp
    have HPx := HP1.out 16 (by omega) (by unfold scanC; rw [if_pos hsh]) _ (HZ.out _ (H3.out _ hH).1).2.2.1
    go_wp2
    exact HPx
  have hx : decide (sh < g) = false := decide_eq_false hsh
  refine wpAnyH_take (i := 8) (v := .bool false) rfl (by kernel_rfl) (by kernel_rfl) (by kernel_rfl) (fun _ _ _ h => h) (Or.inl ⟨by rfl, fun w hSw => by go_simp⟩) hH ?_
  try simp only [Act.put, List.setIfInBounds_toArray, List.set_cons_zero, List.set_cons_succ, List.getElem_toArray, List.getElem_cons_succ, List.getElem_cons_zero]
  refine wpAnyH_done (by kernel_rfl) ?_ _
  try simp
  have HD3 : Hid (Below W3.heap.size W3 W3.drew) := hH
  clear hH hx
  generalize W3.drew = Wq at *
  have r1 := (HZ.out Wq (H3.out Wq HD3.out).1).2.2.2.reg.cells.2.1
  by_cases hl5 : (ls.length : Int) = 50
  · have HPx := HP1.out 14 (by omega) (by unfold scanC; rw [if_neg (show ¬ sh < g by omega), if_pos hl5]) _ (HZ.out Wq (H3.out Wq HD3.out).1).2.2.1
    go_wp2
    exact HPx
  have hl5' : ((ls.length : Int) == 50) = false := by simpa using hl5
  have a2 := blkCell (HZ.out Wq (H3.out Wq HD3.out).1).1 2 _ rfl
  have i1 := blkCell (H3.out Wq HD3.out).2 1 _ rfl
  have i2 := blkCell (H3.out Wq HD3.out).2 2 _ rfl
  have s0 := blkCell (HZ.out Wq (H3.out Wq HD3.out).1).2.1 0 _ rfl
  have s2 := blkCell (HZ.out Wq (H3.out Wq HD3.out).1).2.1 2 _ rfl
  have hls := blkLt (HZ.out Wq (H3.out Wq HD3.out).1).2.1
  have hla := blkLt (HZ.out Wq (H3.out Wq HD3.out).1).1
  have hli := blkLt (H3.out Wq HD3.out).2
  go_wp2_with fail
  have hbl0 := heapNew Wq (Obj.cells #[.int .i64 (m : Int), .int .i64 ct, .int .i64 (p * ct), .int .i64 (d * ct)] 82)
  have hbl := hbl0
  have HB5 : Hid (Below w.heap.size w (Wq.alloc (Obj.cells #[.int .i64 (m : Int), .int .i64 ct, .int .i64 (p * ct), .int .i64 (d * ct)] 82))) := chain (HZ.out Wq (H3.out Wq HD3.out).1).2.2.1 (below_alloc _ _)
  have hbq : w.heap.size ≤ Wq.heap.size := (HZ.out Wq (H3.out Wq HD3.out).1).2.2.1.size
  have H5 : Hid (∀ W, Below ((Wq.alloc (Obj.cells #[.int .i64 (m : Int), .int .i64 ct, .int .i64 (p * ct), .int .i64 (d * ct)] 82))).heap.size ((Wq.alloc (Obj.cells #[.int .i64 (m : Int), .int .i64 ct, .int .i64 (p * ct), .int .i64 (d * ct)] 82))) W → W.heap[Wq.heap.size]? = some (.cells #[.int .i64 (m : Int), .int .i64 ct, .int .i64 am, .int .i64 (d * ct)] 82 (0, 0)) ∧ Sg B rb (.slice (some ⟨b0, o0, none⟩) its.length ic) (.slice la ls.length lc) ls sh kv ks sl tk dp cv cs W) := fun W hW => ⟨by rw [HAM.out]; exact (hW.block _ (blkLt hbl)).trans hbl, (HZ.out Wq (H3.out Wq HD3.out).1).2.2.2.later (chain (below_alloc _ _) hW)⟩
  clear hbl hbl0 a2 i1 i2 s0 s2 hls hla hli r1 hin hS HX HZ H3 HD3 hia
  generalize ((Wq.alloc (Obj.cells #[.int .i64 (m : Int), .int .i64 ct, .int .i64 (p * ct), .int .i64 (d * ct)] 82))) = W5 at *
  generalize Wq.heap.size = bl at *
  refine wp_region_held_drew (S := fun W => Below W5.heap.size W5 W) (by kernel_rfl) (below_drew _) (fun hH => ?_)
  refine wpAnyH_take (i := 0) (v := .pointer (some ⟨rb, 0, none⟩)) rfl (by kernel_rfl) (by kernel_rfl) (by kernel_rfl) (fun _ _ _ h => h) (Or.inl ⟨by rfl, fun w hSw => by go_simp⟩) hH ?_
  refine wpAnyH_take (i := 1) (v := .pointer (some ⟨rb, 0, none⟩)) rfl (by kernel_rfl) (by kernel_rfl) (by kernel_rfl) (fun _ _ _ h => h) (Or.inl ⟨by rfl, fun w hSw => by go_simp⟩) hH ?_
  try simp only [Act.put, List.setIfInBounds_toArray, List.set_cons_zero, List.set_cons_succ, List.getElem_toArray, List.getElem_cons_succ, List.getElem_cons_zero]
  refine wpAnyH_take (i := 2) (v := .pointer (some ⟨rb, 1, none⟩)) rfl (by kernel_rfl) (by kernel_rfl) (by kernel_rfl) (fun _ _ _ h => h) (Or.inl ⟨by rfl, fun w hSw => by go_simp⟩) hH ?_
  try simp only [Act.put, List.setIfInBounds_toArray, List.set_cons_zero, List.set_cons_succ, List.getElem_toArray, List.getElem_cons_succ, List.getElem_cons_zero]
  refine wpAnyH_take (i := 3) (v := .pointer (some ⟨rb, 1, none⟩)) rfl (by kernel_rfl) (by kernel_rfl) (by kernel_rfl) (fun _ _ _ h => h) (Or.inl ⟨by rfl, fun w hSw => by go_simp⟩) hH ?_
  try simp only [Act.put, List.setIfInBounds_toArray, List.set_cons_zero, List.set_cons_succ, List.getElem_toArray, List.getElem_cons_succ, List.getElem_cons_zero]
  refine wpAnyH_take (i := 4) (v := .agg #[.slice la ls.length lc, .int .i64 sh]) rfl (by kernel_rfl) (by kernel_rfl) (by kernel_rfl) (fun _ _ _ h => h) (Or.inl ⟨by rfl, fun w hSw => by have f0 := (H5.out w hSw).2.reg.cells.2.1; have f1 := (H5.out w hSw).2.reg.cells.2.2.1; go_simp⟩) hH ?_
  try simp only [Act.put, List.setIfInBounds_toArray, List.set_cons_zero, List.set_cons_succ, List.getElem_toArray, List.getElem_cons_succ, List.getElem_cons_zero]
  refine wpAnyH_take (i := 6) (v := .pointer (some ⟨bl, 2, none⟩)) rfl (by kernel_rfl) (by kernel_rfl) (by kernel_rfl) (fun _ _ _ h => h) (Or.inl ⟨by rfl, fun w hSw => by go_simp⟩) hH ?_
  try simp only [Act.put, List.setIfInBounds_toArray, List.set_cons_zero, List.set_cons_succ, List.getElem_toArray, List.getElem_cons_succ, List.getElem_cons_zero]
  refine wpAnyH_take (i := 7) (v := .int .i64 am) rfl (by kernel_rfl) (by kernel_rfl) (by kernel_rfl) (fun _ _ _ h => h) (Or.inl ⟨by rfl, fun w hSw => by have f0 := blkCell (H5.out w hSw).1 2 _ rfl; go_simp⟩) hH ?_
  try simp only [Act.put, List.setIfInBounds_toArray, List.set_cons_zero, List.set_cons_succ, List.getElem_toArray, List.getElem_cons_succ, List.getElem_cons_zero]
  refine wpAnyH_take (i := 9) (v := .pointer (some ⟨bl, 3, none⟩)) rfl (by kernel_rfl) (by kernel_rfl) (by kernel_rfl) (fun _ _ _ h => h) (Or.inl ⟨by rfl, fun w hSw => by go_simp⟩) hH ?_
  try simp only [Act.put, List.setIfInBounds_toArray, List.set_cons_zero, List.set_cons_succ, List.getElem_toArray, List.getElem_cons_succ, List.getElem_cons_zero]
  refine wpAnyH_take (i := 10) (v := .int .i64 (d * ct)) rfl (by kernel_rfl) (by kernel_rfl) (by kernel_rfl) (fun _ _ _ h => h) (Or.inl ⟨by rfl, fun w hSw => by have f0 := blkCell (H5.out w hSw).1 3 _ rfl; go_simp⟩) hH ?_
  try simp only [Act.put, List.setIfInBounds_toArray, List.set_cons_zero, List.set_cons_succ, List.getElem_toArray, List.getElem_cons_succ, List.getElem_cons_zero]
  refine wpAnyH_ready (rs := [5]) (by kernel_rfl) (by simp) ?_
  refine AllReadyH.cons rfl (fun K hK => ?_) AllReadyH.nil
  go_simp
  go_at_call 34
  refine (HTo.out _ (H5.out _ hH).2).mono ?_
  rintro e w6 ⟨rfl, hb6⟩
  have hw6 := chain hH hb6
  refine hK.out _ _ hw6 (fun _ => ?_)
  clear hK K
  try simp only [Act.put, List.setIfInBounds_toArray, List.set_cons_zero, List.set_cons_succ, List.getElem_toArray, List.getElem_cons_succ, List.getElem_cons_zero]
  refine wpAnyH_take (i := 8) (v := .int .i64 (tot + am)) rfl (by kernel_rfl) (by kernel_rfl) (by kernel_rfl) (fun _ _ _ h => h) (Or.inl ⟨by rfl, fun w hSw => by go_simp⟩) hw6 ?_
  try simp only [Act.put, List.setIfInBounds_toArray, List.set_cons_zero, List.set_cons_succ, List.getElem_toArray, List.getElem_cons_succ, List.getElem_cons_zero]
  refine wpAnyH_take (i := 11) (v := .int .i64 (tot + am + d * ct)) rfl (by kernel_rfl) (by kernel_rfl) (by kernel_rfl) (fun _ _ _ h => h) (Or.inl ⟨by rfl, fun w hSw => by go_simp⟩) hw6 ?_
  try simp only [Act.put, List.setIfInBounds_toArray, List.set_cons_zero, List.set_cons_succ, List.getElem_toArray, List.getElem_cons_succ, List.getElem_cons_zero]
  by_cases hov : 1000000000 < tot + am + d * ct
  · have hx : decide (1000000000 < tot + am + d * ct) = true := decide_eq_true hov
    refine wpAnyH_take (i := 12) (v := .bool true) rfl (by kernel_rfl) (by kernel_rfl) (by kernel_rfl) (fun _ _ _ h => h) (Or.inl ⟨by rfl, fun w hSw => by go_simp⟩) hw6 ?_
    try simp only [Act.put, List.setIfInBounds_toArray, List.set_cons_zero, List.set_cons_succ, List.getElem_toArray, List.getElem_cons_succ, List.getElem_cons_zero]
    refine wpAnyH_done (by kernel_rfl) ?_ _
    try simp
    have HPx := HP1.out 11 (by omega) (by unfold scanC; rw [if_neg (show ¬ sh < g by omega), if_neg (show ¬ (ls.length : Int) = 50 by omega), HTt.out, if_pos (by omega)]) w6 (chain HB5.out hw6)
    go_wp2
    exact HPx
  · have hx : decide (1000000000 < tot + am + d * ct) = false := decide_eq_false hov
    refine wpAnyH_take (i := 12) (v := .bool false) rfl (by kernel_rfl) (by kernel_rfl) (by kernel_rfl) (fun _ _ _ h => h) (Or.inl ⟨by rfl, fun w hSw => by go_simp⟩) hw6 ?_
    try simp only [Act.put, List.setIfInBounds_toArray, List.set_cons_zero, List.set_cons_succ, List.getElem_toArray, List.getElem_cons_succ, List.getElem_cons_zero]
    refine wpAnyH_done (by kernel_rfl) ?_ _
    try simp
    have HP := HP2.out (by unfold scanC; rw [if_neg (show ¬ sh < g by omega), if_neg (show ¬ (ls.length : Int) = 50 by omega), HTt.out, if_neg (by omega)])
    have HG6 : Hid (Sg B rb (.slice (some ⟨b0, o0, none⟩) its.length ic) (.slice la ls.length lc) ls sh kv ks sl tk dp cv cs w6) := (H5.out w6 hw6).2
    have HL6 : Hid (w6.heap[bl]? = some (.cells #[.int .i64 (m : Int), .int .i64 ct, .int .i64 am, .int .i64 (d * ct)] 82 (0, 0))) := (H5.out w6 hw6).1
    have HF6 : Hid (Below w.heap.size w w6) := chain HB5.out hw6
    clear hw6 hb6 hH hx
    go_wp2_with fail
    refine wp_region_held_drew (S := fun W => W.heap[bl]? = some (.cells #[.int .i64 (m : Int), .int .i64 ct, .int .i64 am, .int .i64 (d * ct)] 82 (0, 0))) (by kernel_rfl) HL6.out (fun hH => ?_)
    have HG : Hid (Sg B rb (.slice (some ⟨b0, o0, none⟩) its.length ic) (.slice la ls.length lc) ls sh kv ks sl tk dp cv cs w6.drew) := HG6.out.later (below_drew _)
    have HF : Hid (Below w.heap.size w w6.drew) := chain HF6.out (below_drew _)
    clear HG6 HL6 HF6
    generalize w6.drew = Wd at *
    refine wpAnyH_take (i := 0) (v := .pointer (some ⟨rb, 0, none⟩)) rfl (by kernel_rfl) (by kernel_rfl) (by kernel_rfl) (fun _ _ _ h => h) (Or.inl ⟨by rfl, fun w hSw => by go_simp⟩) hH ?_
    refine wpAnyH_take (i := 1) (v := .pointer (some ⟨rb, 0, none⟩)) rfl (by kernel_rfl) (by kernel_rfl) (by kernel_rfl) (fun _ _ _ h => h) (Or.inl ⟨by rfl, fun w hSw => by go_simp⟩) hH ?_
    try simp only [Act.put, List.setIfInBounds_toArray, List.set_cons_zero, List.set_cons_succ, List.getElem_toArray, List.getElem_cons_succ, List.getElem_cons_zero]
    refine wpAnyH_take (i := 2) (v := .pointer (some ⟨rb, 0, none⟩)) rfl (by kernel_rfl) (by kernel_rfl) (by kernel_rfl) (fun _ _ _ h => h) (Or.inl ⟨by rfl, fun w hSw => by go_simp⟩) hH ?_
    try simp only [Act.put, List.setIfInBounds_toArray, List.set_cons_zero, List.set_cons_succ, List.getElem_toArray, List.getElem_cons_succ, List.getElem_cons_zero]
    refine wpAnyH_take (i := 3) (v := .pointer (some ⟨rb, 1, none⟩)) rfl (by kernel_rfl) (by kernel_rfl) (by kernel_rfl) (fun _ _ _ h => h) (Or.inl ⟨by rfl, fun w hSw => by go_simp⟩) hH ?_
    try simp only [Act.put, List.setIfInBounds_toArray, List.set_cons_zero, List.set_cons_succ, List.getElem_toArray, List.getElem_cons_succ, List.getElem_cons_zero]
    refine wpAnyH_take (i := 4) (v := .pointer (some ⟨rb, 1, none⟩)) rfl (by kernel_rfl) (by kernel_rfl) (by kernel_rfl) (fun _ _ _ h => h) (Or.inl ⟨by rfl, fun w hSw => by go_simp⟩) hH ?_
    try simp only [Act.put, List.setIfInBounds_toArray, List.set_cons_zero, List.set_cons_succ, List.getElem_toArray, List.getElem_cons_succ, List.getElem_cons_zero]
    refine wpAnyH_take (i := 5) (v := .pointer (some ⟨rb, 1, none⟩)) rfl (by kernel_rfl) (by kernel_rfl) (by kernel_rfl) (fun _ _ _ h => h) (Or.inl ⟨by rfl, fun w hSw => by go_simp⟩) hH ?_
    try simp only [Act.put, List.setIfInBounds_toArray, List.set_cons_zero, List.set_cons_succ, List.getElem_toArray, List.getElem_cons_succ, List.getElem_cons_zero]
    refine wpAnyH_take (i := 7) (v := .agg #[.int .i64 (m : Int), .int .i64 ct, .int .i64 am, .int .i64 (d * ct)]) rfl (by kernel_rfl) (by kernel_rfl) (by kernel_rfl) (fun _ _ _ h => h) (Or.inl ⟨by rfl, fun w hSw => by have f0 := blkCell hSw 0 _ rfl; have f1 := blkCell hSw 1 _ rfl; have f2 := blkCell hSw 2 _ rfl; have f3 := blkCell hSw 3 _ rfl; go_simp⟩) hH ?_
    try simp only [Act.put, List.setIfInBounds_toArray, List.set_cons_zero, List.set_cons_succ, List.getElem_toArray, List.getElem_cons_succ, List.getElem_cons_zero]
    refine wpAnyH_ready (rs := [6, 8]) (by kernel_rfl) (by simp) ?_
    refine AllReadyH.cons rfl (fun K hK => ?_) (AllReadyH.cons rfl (fun K hK => ?_) AllReadyH.nil)
    · skip
      have q5 := HG.out.reg.cells.2.1
      go_simp
      clear q5
      refine hK.out _ _ hH (fun _ => ?_)
      clear hK K
      try simp only [Act.put, List.setIfInBounds_toArray, List.set_cons_zero, List.set_cons_succ, List.getElem_toArray, List.getElem_cons_succ, List.getElem_cons_zero]
      refine wpAnyH_ready (rs := [8]) (by kernel_rfl) (by simp) ?_
      refine AllReadyH.cons rfl (fun K hK => ?_) AllReadyH.nil
      go_simp
      have HG5 : Hid (Sg B rb (.slice (some ⟨b0, o0, none⟩) its.length ic) (.slice la ls.length lc) ls sh kv ks sl tk dp cv cs (Wd.alloc (Obj.cells #[.int .i64 (m : Int), .int .i64 ct, .int .i64 am, .int .i64 (d * ct)] 82))) := HG.out.later (below_alloc _ _)
      have hH5 : (Wd.alloc (Obj.cells #[.int .i64 (m : Int), .int .i64 ct, .int .i64 am, .int .i64 (d * ct)] 82)).heap[bl]? = some (.cells #[.int .i64 (m : Int), .int .i64 ct, .int .i64 am, .int .i64 (d * ct)] 82 (0, 0)) := (Below.heap_alloc _ _ _ (blkLt hH)).trans hH
      refine hK.out _ _ hH5 (fun _ => ?_)
      clear hK K
      try simp only [Act.put, List.setIfInBounds_toArray, List.set_cons_zero, List.set_cons_succ, List.getElem_toArray, List.getElem_cons_succ, List.getElem_cons_zero]
      refine wpAnyH_ready (rs := [9]) (by kernel_rfl) (by simp) ?_
      refine AllReadyH.cons rfl (fun K hK => ?_) AllReadyH.nil
      refine step_append_lies _ rfl _ _ 28 rfl B 82 j0 (.agg #[.int .i64 0, .int .i64 0, .int .i64 0, .int .i64 0]) 4 32 Tryz.underlying28 hj hj0 hj1 hj2 rfl (by decide) _ _ _ rfl HG5.out.lrow ⟨Wd.heap.size, 0, none⟩ 1 1 [.int .i64 (m : Int), .int .i64 ct, .int .i64 am, .int .i64 (d * ct)] rfl rfl (World.news_of_block (heapNew Wd _)) (by simp [Value.oneCell']) (by omega) (by unfold maxLen; omega) (by omega) (by have := HG5.out.reg.lt; have := HG5.out.low; omega) _ rfl ?_
      intro g1 cp1 w7 hown1 hgrow1 hat1 hglt1
      have hf7 := fr_grown hgrow1
      have hxl : ∀ q, (Value.slice la ls.length lc).ownBlock = some q → q ≠ rb := fun q hq e => HG5.out.far.1 (by rw [hq, e])
      have hb7 : SpIs w7 rb (.slice (some ⟨b0, o0, none⟩) its.length ic) (.slice la ls.length lc) sh kv sl tk dp cv := (hf7.block rb HG5.out.reg.lt (fun e => HG5.out.far.1 e)).trans HG5.out.reg
      have z1 := hb7.cells.2.1
      have zf := hb7.free 1
      have hblne : ¬ (Value.slice la ls.length lc).ownBlock = some bl := fun e => by have := (row_lt HLw.out _ e).2; omega
      have hH7 : w7.heap[bl]? = some (.cells #[.int .i64 (m : Int), .int .i64 ct, .int .i64 am, .int .i64 (d * ct)] 82 (0, 0)) := (hf7.block _ (blkLt hH5) hblne).trans hH5
      have HFi : Hid (Fr (RgX rb (.slice la ls.length lc) kv) w (w7.setCell ⟨rb, 1, none⟩ (.slice (some ⟨g1, 0, none⟩) (ls.length + 1) cp1)) ∧ Sg B rb (.slice (some ⟨b0, o0, none⟩) its.length ic) (.slice (some ⟨g1, 0, none⟩) (ls.length + 1) cp1) (ls ++ [⟨(m : Int), ct, am, d * ct⟩]) sh kv ks sl tk dp cv cs (w7.setCell ⟨rb, 1, none⟩ (.slice (some ⟨g1, 0, none⟩) (ls.length + 1) cp1))) := by
        refine ⟨(((Fr.of HF.out).alloc _).trans (hf7.mono (fun k hk => .inr (.inl hk)))).set (b := rb) (.inl rfl) _ _, ?_⟩
        have hg1 : g1 ≠ rb := by
          rcases hat1 with q | q
          · exact hxl g1 q
          · have := HG5.out.reg.lt; omega
        refine HG5.out.now ((hf7.mono (fun k hk => .inr hk)).set (b := rb) (.inl rfl) _ _) (hb7.set1 _) ?_ ?_
        · rw [List.length_append, lnCells_append]
          exact row_of hown1 (fun q hq => Below.heap_setCell _ _ _ _ (by cases hq; exact hg1))
        · rcases hat1 with q | q
          · exact .inl q.symm
          · exact .inr ⟨g1, rfl, by omega⟩
      have hH8 : (w7.setCell ⟨rb, 1, none⟩ (.slice (some ⟨g1, 0, none⟩) (ls.length + 1) cp1)).heap[bl]? = some (.cells #[.int .i64 (m : Int), .int .i64 ct, .int .i64 am, .int .i64 (d * ct)] 82 (0, 0)) := (Below.heap_setCell _ _ _ _ (by show bl ≠ rb; omega)).trans hH7
      clear hown1 hgrow1 hat1 hglt1 hf7 hb7 hxl hblne
      refine hK.out _ _ hH7 (fun _ => ?_)
      clear hK K
      try simp only [Act.put, List.setIfInBounds_toArray, List.set_cons_zero, List.set_cons_succ, List.getElem_toArray, List.getElem_cons_succ, List.getElem_cons_zero]
      refine wpAnyH_take (i := 10) (v := .pointer (some ⟨rb, 0, none⟩)) rfl (by kernel_rfl) (by kernel_rfl) (by kernel_rfl) (fun _ _ _ h => h) (Or.inl ⟨by rfl, fun w hSw => by go_simp⟩) hH7 ?_
      try simp only [Act.put, List.setIfInBounds_toArray, List.set_cons_zero, List.set_cons_succ, List.getElem_toArray, List.getElem_cons_succ, List.getElem_cons_zero]
      refine wpAnyH_take (i := 11) (v := .pointer (some ⟨rb, 1, none⟩)) rfl (by kernel_rfl) (by kernel_rfl) (by kernel_rfl) (fun _ _ _ h => h) (Or.inl ⟨by rfl, fun w hSw => by go_simp⟩) hH7 ?_
      try simp only [Act.put, List.setIfInBounds_toArray, List.set_cons_zero, List.set_cons_succ, List.getElem_toArray, List.getElem_cons_succ, List.getElem_cons_zero]
      refine wpAnyH_take (i := 12) (v := .pointer (some ⟨rb, 1, none⟩)) rfl (by kernel_rfl) (by kernel_rfl) (by kernel_rfl) (fun _ _ _ h => h) (Or.inl ⟨by rfl, fun w hSw => by go_simp⟩) hH7 ?_
      try simp only [Act.put, List.setIfInBounds_toArray, List.set_cons_zero, List.set_cons_succ, List.getElem_toArray, List.getElem_cons_succ, List.getElem_cons_zero]
      refine wpAnyH_take (i := 13) (v := .pointer (some ⟨rb, 1, none⟩)) rfl (by kernel_rfl) (by kernel_rfl) (by kernel_rfl) (fun _ _ _ h => h) (Or.inl ⟨by rfl, fun w hSw => by go_simp⟩) hH7 ?_
      try simp only [Act.put, List.setIfInBounds_toArray, List.set_cons_zero, List.set_cons_succ, List.getElem_toArray, List.getElem_cons_succ, List.getElem_cons_zero]
      refine wpAnyH_ready (rs := [14]) (by kernel_rfl) (by simp) ?_
      refine AllReadyH.cons rfl (fun K hK => ?_) AllReadyH.nil
      go_simp
      refine hK.out _ _ hH8 (fun _ => ?_)
      clear hK K
      try simp only [Act.put, List.setIfInBounds_toArray, List.set_cons_zero, List.set_cons_succ, List.getElem_toArray, List.getElem_cons_succ, List.getElem_cons_zero]
      refine wpAnyH_done (by kernel_rfl) ?_ _
      try simp
      clear z1 zf
      generalize (w7.setCell ⟨rb, 1, none⟩ (.slice (some ⟨g1, 0, none⟩) (ls.length + 1) cp1)) = W8 at *
      have f2 := blkCell hH8 2 _ rfl
      have f3 := blkCell hH8 3 _ rfl
      have HPx := HP _ _ HFi.out.1 HFi.out.2
      clear hH8 hH7 hH5 hH
      go_wp2
      exact HPx
    · skip
      go_simp
      have HG5 : Hid (Sg B rb (.slice (some ⟨b0, o0, none⟩) its.length ic) (.slice la ls.length lc) ls sh kv ks sl tk dp cv cs (Wd.alloc (Obj.cells #[.int .i64 (m : Int), .int .i64 ct, .int .i64 am, .int .i64 (d * ct)] 82))) := HG.out.later (below_alloc _ _)
      have hH5 : (Wd.alloc (Obj.cells #[.int .i64 (m : Int), .int .i64 ct, .int .i64 am, .int .i64 (d * ct)] 82)).heap[bl]? = some (.cells #[.int .i64 (m : Int), .int .i64 ct, .int .i64 am, .int .i64 (d * ct)] 82 (0, 0)) := (Below.heap_alloc _ _ _ (blkLt hH)).trans hH
      refine hK.out _ _ hH5 (fun _ => ?_)
      clear hK K
      try simp only [Act.put, List.setIfInBounds_toArray, List.set_cons_zero, List.set_cons_succ, List.getElem_toArray, List.getElem_cons_succ, List.getElem_cons_zero]
      refine wpAnyH_ready (rs := [6]) (by kernel_rfl) (by simp) ?_
      refine AllReadyH.cons rfl (fun K hK => ?_) AllReadyH.nil
      have q5 := HG5.out.reg.cells.2.1
      go_simp
      clear q5
      refine hK.out _ _ hH5 (fun _ => ?_)
      clear hK K
      try simp only [Act.put, List.setIfInBounds_toArray, List.set_cons_zero, List.set_cons_succ, List.getElem_toArray, List.getElem_cons_succ, List.getElem_cons_zero]
      refine wpAnyH_ready (rs := [9]) (by kernel_rfl) (by simp) ?_
      refine AllReadyH.cons rfl (fun K hK => ?_) AllReadyH.nil
      refine step_append_lies _ rfl _ _ 28 rfl B 82 j0 (.agg #[.int .i64 0, .int .i64 0, .int .i64 0, .int .i64 0]) 4 32 Tryz.underlying28 hj hj0 hj1 hj2 rfl (by decide) _ _ _ rfl HG5.out.lrow ⟨Wd.heap.size, 0, none⟩ 1 1 [.int .i64 (m : Int), .int .i64 ct, .int .i64 am, .int .i64 (d * ct)] rfl rfl (World.news_of_block (heapNew Wd _)) (by simp [Value.oneCell']) (by omega) (by unfold maxLen; omega) (by omega) (by have := HG5.out.reg.lt; have := HG5.out.low; omega) _ rfl ?_
      intro g1 cp1 w7 hown1 hgrow1 hat1 hglt1
      have hf7 := fr_grown hgrow1
      have hxl : ∀ q, (Value.slice la ls.length lc).ownBlock = some q → q ≠ rb := fun q hq e => HG5.out.far.1 (by rw [hq, e])
      have hb7 : SpIs w7 rb (.slice (some ⟨b0, o0, none⟩) its.length ic) (.slice la ls.length lc) sh kv sl tk dp cv := (hf7.block rb HG5.out.reg.lt (fun e => HG5.out.far.1 e)).trans HG5.out.reg
      have z1 := hb7.cells.2.1
      have zf := hb7.free 1
      have hblne : ¬ (Value.slice la ls.length lc).ownBlock = some bl := fun e => by have := (row_lt HLw.out _ e).2; omega
      have hH7 : w7.heap[bl]? = some (.cells #[.int .i64 (m : Int), .int .i64 ct, .int .i64 am, .int .i64 (d * ct)] 82 (0, 0)) := (hf7.block _ (blkLt hH5) hblne).trans hH5
      have HFi : Hid (Fr (RgX rb (.slice la ls.length lc) kv) w (w7.setCell ⟨rb, 1, none⟩ (.slice (some ⟨g1, 0, none⟩) (ls.length + 1) cp1)) ∧ Sg B rb (.slice (some ⟨b0, o0, none⟩) its.length ic) (.slice (some ⟨g1, 0, none⟩) (ls.length + 1) cp1) (ls ++ [⟨(m : Int), ct, am, d * ct⟩]) sh kv ks sl tk dp cv cs (w7.setCell ⟨rb, 1, none⟩ (.slice (some ⟨g1, 0, none⟩) (ls.length + 1) cp1))) := by
        refine ⟨(((Fr.of HF.out).alloc _).trans (hf7.mono (fun k hk => .inr (.inl hk)))).set (b := rb) (.inl rfl) _ _, ?_⟩
        have hg1 : g1 ≠ rb := by
          rcases hat1 with q | q
          · exact hxl g1 q
          · have := HG5.out.reg.lt; omega
        refine HG5.out.now ((hf7.mono (fun k hk => .inr hk)).set (b := rb) (.inl rfl) _ _) (hb7.set1 _) ?_ ?_
        · rw [List.length_append, lnCells_append]
          exact row_of hown1 (fun q hq => Below.heap_setCell _ _ _ _ (by cases hq; exact hg1))
        · rcases hat1 with q | q
          · exact .inl q.symm
          · exact .inr ⟨g1, rfl, by omega⟩
      have hH8 : (w7.setCell ⟨rb, 1, none⟩ (.slice (some ⟨g1, 0, none⟩) (ls.length + 1) cp1)).heap[bl]? = some (.cells #[.int .i64 (m : Int), .int .i64 ct, .int .i64 am, .int .i64 (d * ct)] 82 (0, 0)) := (Below.heap_setCell _ _ _ _ (by show bl ≠ rb; omega)).trans hH7
      clear hown1 hgrow1 hat1 hglt1 hf7 hb7 hxl hblne
      refine hK.out _ _ hH7 (fun _ => ?_)
      clear hK K
      try simp only [Act.put, List.setIfInBounds_toArray, List.set_cons_zero, List.set_cons_succ, List.getElem_toArray, List.getElem_cons_succ, List.getElem_cons_zero]
      refine wpAnyH_take (i := 10) (v := .pointer (some ⟨rb, 0, none⟩)) rfl (by kernel_rfl) (by kernel_rfl) (by kernel_rfl) (fun _ _ _ h => h) (Or.inl ⟨by rfl, fun w hSw => by go_simp⟩) hH7 ?_
      try simp only [Act.put, List.setIfInBounds_toArray, List.set_cons_zero, List.set_cons_succ, List.getElem_toArray, List.getElem_cons_succ, List.getElem_cons_zero]
      refine wpAnyH_take (i := 11) (v := .pointer (some ⟨rb, 1, none⟩)) rfl (by kernel_rfl) (by kernel_rfl) (by kernel_rfl) (fun _ _ _ h => h) (Or.inl ⟨by rfl, fun w hSw => by go_simp⟩) hH7 ?_
      try simp only [Act.put, List.setIfInBounds_toArray, List.set_cons_zero, List.set_cons_succ, List.getElem_toArray, List.getElem_cons_succ, List.getElem_cons_zero]
      refine wpAnyH_take (i := 12) (v := .pointer (some ⟨rb, 1, none⟩)) rfl (by kernel_rfl) (by kernel_rfl) (by kernel_rfl) (fun _ _ _ h => h) (Or.inl ⟨by rfl, fun w hSw => by go_simp⟩) hH7 ?_
      try simp only [Act.put, List.setIfInBounds_toArray, List.set_cons_zero, List.set_cons_succ, List.getElem_toArray, List.getElem_cons_succ, List.getElem_cons_zero]
      refine wpAnyH_take (i := 13) (v := .pointer (some ⟨rb, 1, none⟩)) rfl (by kernel_rfl) (by kernel_rfl) (by kernel_rfl) (fun _ _ _ h => h) (Or.inl ⟨by rfl, fun w hSw => by go_simp⟩) hH7 ?_
      try simp only [Act.put, List.setIfInBounds_toArray, List.set_cons_zero, List.set_cons_succ, List.getElem_toArray, List.getElem_cons_succ, List.getElem_cons_zero]
      refine wpAnyH_ready (rs := [14]) (by kernel_rfl) (by simp) ?_
      refine AllReadyH.cons rfl (fun K hK => ?_) AllReadyH.nil
      go_simp
      refine hK.out _ _ hH8 (fun _ => ?_)
      clear hK K
      try simp only [Act.put, List.setIfInBounds_toArray, List.set_cons_zero, List.set_cons_succ, List.getElem_toArray, List.getElem_cons_succ, List.getElem_cons_zero]
      refine wpAnyH_done (by kernel_rfl) ?_ _
      try simp
      clear z1 zf
      generalize (w7.setCell ⟨rb, 1, none⟩ (.slice (some ⟨g1, 0, none⟩) (ls.length + 1) cp1)) = W8 at *
      have f2 := blkCell hH8 2 _ rfl
      have f3 := blkCell hH8 3 _ rfl
      have HPx := HP _ _ HFi.out.1 HFi.out.2
      clear hH8 hH7 hH5 hH
      go_wp2
      exact HPx
set_option maxHeartbeats 16000000 in
set_option maxRecDepth 8000 in
theorem scanS_grams (tx : ByteArray) (ct k v : Int) (a : ByteArray) (ia : Option Addr) (ic : Nat) (its : List RIt) (hil : its.length ≤ 40) (B rb : Nat) (la : Option Addr) (lc : Nat) (ls : List RLi) (hN : ∀ l ∈ ls, LiN l) (hl50 : ls.length ≤ 50) (sh : Int) (kv : Value) (ks : List Kb) (sl tk dp : Int) (cv : Value) (cs : List Int) (w : World) (hg : Sg B rb (.slice ia its.length ic) (.slice la ls.length lc) ls sh kv ks sl tk dp cv cs w) (hI : ReadsIt B w ia its) (hB : B ≤ w.heap.size) (hS : ∀ W, Calls Tryz.prog 51 #[.string tx] W fun e w' => e = .returned (.tuple #[.agg #[.int .i64 k, .string a, .int .i64 v], .int .i64 0]) ∧ Below W.heap.size W w') (m : Nat) (hix : itIx a its = (m : Int)) (hm : m < its.length) (x : ByteArray) (p d cl g : Int) (hsi : its.getD m zIt = ⟨x, p, d, cl, g⟩) (n1 : 0 ≤ p) (n2 : p ≤ 1000000) (n3 : 0 ≤ d) (n4 : d ≤ 1000000) (g1 : 1 ≤ ct) (g2 : ct ≤ 99) (hv0 : 0 ≤ v) (hv1 : v ≤ 99999) (am : Int) (ham0 : 0 ≤ am) (ham1 : am ≤ 1000000000) (hd0 : 0 ≤ d * ct) (hd1 : d * ct ≤ 100000000) (hp0 : 0 ≤ p * ct) (hp1 : p * ct ≤ 100000000) (htt : totL ls ≤ 1000000000) (post : Ending → World → Prop) (HP1 : Hid (∀ c : Int, c ≠ 0 → scanC ls sh am (d * ct) g = c → ∀ W, Below w.heap.size w W → post (.returned (.tuple #[.int .i64 0, .int .i64 c])) W)) (HP2 : Hid (scanC ls sh am (d * ct) g = 0 → ∀ lv' W, Fr (RgX rb (.slice la ls.length lc) kv) w W → Sg B rb (.slice ia its.length ic) lv' (ls ++ [⟨(m : Int), ct, am, d * ct⟩]) sh kv ks sl tk dp cv cs W → post (.returned (.tuple #[.int .i64 (am + d * ct), .int .i64 0])) W)) (hk : k = 2) (hc : ct = 1) (ham : am = bw1 p v) :
    Calls Tryz.prog 32 #[.pointer (some ⟨rb, 0, none⟩), .agg #[.int .i64 1, .string tx, .int .i64 ct]] w post := by
  have HI : Hid (∀ W, Below w.heap.size w W → ReadsIt W.heap.size W ia its) := fun W hW => (hI.below (hW.mono hB)).mono (Nat.le_trans hB hW.size)
  have HX : Hid (∀ W, Below w.heap.size w W → Calls Tryz.prog 23 #[(.slice ia its.length ic), .string a] W fun e w' => e = .returned (.int .i64 (m : Int)) ∧ w' = W) := fun W hW => hix ▸ find8_any ia ic its (by omega) a W (HI.out W hW)
  have HG0 : Hid (Sg B rb (.slice ia its.length ic) (.slice la ls.length lc) ls sh kv ks sl tk dp cv cs w) := hg
  have hin := fun w => in_any ct 1 99 w
  have e99 : inB ct 1 99 = true := decide_eq_true ⟨g1, g2⟩
  rw [e99] at hin
  have HTo : Hid (∀ W, Sg B rb (.slice ia its.length ic) (.slice la ls.length lc) ls sh kv ks sl tk dp cv cs W → Calls Tryz.prog 34 #[.agg #[.slice la ls.length lc, .int .i64 sh]] W fun e w' => e = .returned (.int .i64 (totL ls)) ∧ Below W.heap.size W w') := fun W h => specTotal_any la lc ls hN (by omega) sh W (rowLn_reads h.lrow).2
  obtain ⟨j0, hj, hzy⟩ := Option.map_eq_some_iff.1 lnInfo
  simp only [Prod.mk.injEq] at hzy
  obtain ⟨hj0, hj1, hj2⟩ := hzy
  have htn := totL_nn hN
  have HLw : Hid (w.ownsRow B 82 4 (.slice la ls.length lc) ls.length (lnCells ls)) := hg.lrow
  have hlow := hg.low
  have hrlt := hg.reg.lt
  generalize hTT : totL ls = tot at htn htt HTo
  have HTt : Hid (totL ls = tot) := hTT
  clear hTT hN hix HI
  rcases hI with h | ⟨b0, o0, hia0, hB0', hia⟩
  · rw [h] at hm; simp at hm
  have hB0 : b0 < w.heap.size := by omega
  subst hia0
  clear hg
  have hx0 : ¬ (m : Int) < 0 := by omega
  have hwa : IntKind.i64.wrap (tot + am) = tot + am := wrap_id _ (by omega) (by omega)
  have hwb : IntKind.i64.wrap (tot + am + d * ct) = tot + am + d * ct := wrap_id _ (by omega) (by omega)
  have hk1 : (k != 1) = true := by simp; omega
  have hk2 : (k == 2) = true := by simp; omega
  have hk3 : (k == 3) = false := by simp; omega
  have hc1 : (ct != 1) = false := by simp; omega
  clear hc
  clear hk
  have HAM : Hid (am = bw1 p v) := ham
  clear ham
  go_enter Tryz.func32, Tryz.ntmps32
  go_wp2_with fail
  (first | go_at_call 51 | skip)
  refine (hS _).mono ?_
  rintro e w1 ⟨rfl, hb1⟩
  have HZ : Hid (∀ W, Below (w1.alloc (Obj.cells #[.int .i64 k, .string a, .int .i64 v] 108)).heap.size (w1.alloc (Obj.cells #[.int .i64 k, .string a, .int .i64 v] 108)) W → W.heap[w.heap.size]? = some (.cells #[.int .i64 1, .string tx, .int .i64 ct] 42 (0, 0)) ∧ W.heap[w1.heap.size]? = some (.cells #[.int .i64 k, .string a, .int .i64 v] 108 (0, 0)) ∧ Below w.heap.size w W ∧ Sg B rb (.slice (some ⟨b0, o0, none⟩) its.length ic) (.slice la ls.length lc) ls sh kv ks sl tk dp cv cs W) := fun W hW => by
    have hbw : Below w.heap.size w W := chain (below_alloc _ _) (chain hb1 (chain (below_alloc _ _) hW))
    exact ⟨(hW.block _ (by have := hb1.size; simp at *; omega)).trans ((Below.heap_alloc _ _ _ (by have := hb1.size; simp at *; omega)).trans ((hb1.block _ (by simp)).trans (heapNew _ _))), (hW.block _ (by simp)).trans (heapNew _ _), hbw, HG0.out.later hbw⟩
  clear hb1
  go_wp2_with fail
  generalize (w1.alloc (Obj.cells #[.int .i64 k, .string a, .int .i64 v] 108)) = W1 at *
  generalize w1.heap.size = bs at *
  refine wp_region_held_drew (S := fun W => Below W1.heap.size W1 W) (by kernel_rfl) (below_drew _) (fun hH => ?_)
  refine wpAnyH_take (i := 0) (v := .pointer (some ⟨rb, 0, none⟩)) rfl (by kernel_rfl) (by kernel_rfl) (by kernel_rfl) (fun _ _ _ h => h) (Or.inl ⟨by rfl, fun w hSw => by go_simp⟩) hH ?_
  refine wpAnyH_take (i := 1) (v := .pointer (some ⟨rb, 0, none⟩)) rfl (by kernel_rfl) (by kernel_rfl) (by kernel_rfl) (fun _ _ _ h => h) (Or.inl ⟨by rfl, fun w hSw => by go_simp⟩) hH ?_
  try simp only [Act.put, List.setIfInBounds_toArray, List.set_cons_zero, List.set_cons_succ, List.getElem_toArray, List.getElem_cons_succ, List.getElem_cons_zero]
  refine wpAnyH_take (i := 2) (v := .pointer (some ⟨rb, 0, none⟩)) rfl (by kernel_rfl) (by kernel_rfl) (by kernel_rfl) (fun _ _ _ h => h) (Or.inl ⟨by rfl, fun w hSw => by go_simp⟩) hH ?_
  try simp only [Act.put, List.setIfInBounds_toArray, List.set_cons_zero, List.set_cons_succ, List.getElem_toArray, List.getElem_cons_succ, List.getElem_cons_zero]
  refine wpAnyH_take (i := 3) (v := (.slice (some ⟨b0, o0, none⟩) its.length ic)) rfl (by kernel_rfl) (by kernel_rfl) (by kernel_rfl) (fun _ _ _ h => h) (Or.inl ⟨by rfl, fun w hSw => by have f0 := (HZ.out w hSw).2.2.2.reg.cells.1; go_simp⟩) hH ?_
  try simp only [Act.put, List.setIfInBounds_toArray, List.set_cons_zero, List.set_cons_succ, List.getElem_toArray, List.getElem_cons_succ, List.getElem_cons_zero]
  refine wpAnyH_take (i := 4) (v := .pointer (some ⟨bs, 1, none⟩)) rfl (by kernel_rfl) (by kernel_rfl) (by kernel_rfl) (fun _ _ _ h => h) (Or.inl ⟨by rfl, fun w hSw => by go_simp⟩) hH ?_
  try simp only [Act.put, List.setIfInBounds_toArray, List.set_cons_zero, List.set_cons_succ, List.getElem_toArray, List.getElem_cons_succ, List.getElem_cons_zero]
  refine wpAnyH_take (i := 5) (v := .string a) rfl (by kernel_rfl) (by kernel_rfl) (by kernel_rfl) (fun _ _ _ h => h) (Or.inl ⟨by rfl, fun w hSw => by have f0 := blkCell (HZ.out w hSw).2.1 1 _ rfl; go_simp⟩) hH ?_
  try simp only [Act.put, List.setIfInBounds_toArray, List.set_cons_zero, List.set_cons_succ, List.getElem_toArray, List.getElem_cons_succ, List.getElem_cons_zero]
  refine wpAnyH_ready (rs := [6]) (by kernel_rfl) (by simp) ?_
  refine AllReadyH.cons rfl (fun K hK => ?_) AllReadyH.nil
  go_simp
  go_at_call 23
  refine (HX.out _ (HZ.out _ hH).2.2.1).mono ?_
  rintro e w2 ⟨rfl, h2e⟩
  rw [h2e]
  clear h2e w2
  refine hK.out _ _ hH (fun _ => ?_)
  clear hK K
  try simp only [Act.put, List.setIfInBounds_toArray, List.set_cons_zero, List.set_cons_succ, List.getElem_toArray, List.getElem_cons_succ, List.getElem_cons_zero]
  refine wpAnyH_take (i := 7) (v := .int .i64 (m : Int)) rfl (by kernel_rfl) (by kernel_rfl) (by kernel_rfl) (fun _ _ _ h => h) (Or.inl ⟨by rfl, fun w hSw => by go_simp⟩) hH ?_
  try simp only [Act.put, List.setIfInBounds_toArray, List.set_cons_zero, List.set_cons_succ, List.getElem_toArray, List.getElem_cons_succ, List.getElem_cons_zero]
  refine wpAnyH_done (by kernel_rfl) ?_ _
  try simp
  have HW2 : Hid (Below W1.heap.size W1 W1.drew) := hH
  clear hH
  generalize W1.drew = W2 at *
  have a0 := blkCell (HZ.out W2 HW2.out).1 0 _ rfl
  have a2 := blkCell (HZ.out W2 HW2.out).1 2 _ rfl
  have s0 := blkCell (HZ.out W2 HW2.out).2.1 0 _ rfl
  have s2 := blkCell (HZ.out W2 HW2.out).2.1 2 _ rfl
  obtain ⟨c0, c1, c2, c3, c4⟩ := (hia.below (HZ.out W2 HW2.out).2.2.1 hB0) m hm
  rw [hsi] at c0 c1 c2 c3 c4
  dsimp only at c0 c1 c2 c3 c4
  have r0 := (HZ.out W2 HW2.out).2.2.2.reg.cells.1
  go_wp2_with (go_at_call 33; refine (hin _).mono ?_; rintro e w3 ⟨rfl, h3e⟩; rw [h3e]; clear h3e w3)
  have hbi := heapNew W2 (Obj.cells #[.string x, .int .i64 p, .int .i64 d, .int .i64 cl, .int .i64 g] 60)
  have hW3 : Below W2.heap.size W2 (W2.alloc (Obj.cells #[.string x, .int .i64 p, .int .i64 d, .int .i64 cl, .int .i64 g] 60)) := below_alloc _ _
  clear c0 c1 c2 c3 c4 r0 a0 a2 s0 s2
  generalize (W2.alloc (Obj.cells #[.string x, .int .i64 p, .int .i64 d, .int .i64 cl, .int .i64 g] 60)) = W3 at *
  have hlb : w.heap.size ≤ W2.heap.size := (HZ.out W2 HW2.out).2.2.1.size
  have H3 : Hid (∀ W, Below W3.heap.size W3 W → Below W1.heap.size W1 W ∧ W.heap[W2.heap.size]? = some (.cells #[.string x, .int .i64 p, .int .i64 d, .int .i64 cl, .int .i64 g] 60 (0, 0))) := fun W hW => ⟨chain HW2.out (chain hW3 hW), (hW.block _ (blkLt hbi)).trans hbi⟩
  have hs3 : W2.heap.size < W3.heap.size := blkLt hbi
  clear hbi hW3 HW2
  generalize W2.heap.size = bi at *
  refine wp_region_held_drew (S := fun W => Below W3.heap.size W3 W) (by kernel_rfl) (below_drew _) (fun hH => ?_)
  refine wpAnyH_take (i := 0) (v := .pointer (some ⟨bi, 4, none⟩)) rfl (by kernel_rfl) (by kernel_rfl) (by kernel_rfl) (fun _ _ _ h => h) (Or.inl ⟨by rfl, fun w hSw => by go_simp⟩) hH ?_
  refine wpAnyH_take (i := 1) (v := .int .i64 g) rfl (by kernel_rfl) (by kernel_rfl) (by kernel_rfl) (fun _ _ _ h => h) (Or.inl ⟨by rfl, fun w hSw => by have f0 := blkCell (H3.out w hSw).2 4 _ rfl; go_simp⟩) hH ?_
  try simp only [Act.put, List.setIfInBounds_toArray, List.set_cons_zero, List.set_cons_succ, List.getElem_toArray, List.getElem_cons_succ, List.getElem_cons_zero]
  refine wpAnyH_take (i := 2) (v := .pointer (some ⟨rb, 0, none⟩)) rfl (by kernel_rfl) (by kernel_rfl) (by kernel_rfl) (fun _ _ _ h => h) (Or.inl ⟨by rfl, fun w hSw => by go_simp⟩) hH ?_
  try simp only [Act.put, List.setIfInBounds_toArray, List.set_cons_zero, List.set_cons_succ, List.getElem_toArray, List.getElem_cons_succ, List.getElem_cons_zero]
  refine wpAnyH_take (i := 3) (v := .pointer (some ⟨rb, 0, none⟩)) rfl (by kernel_rfl) (by kernel_rfl) (by kernel_rfl) (fun _ _ _ h => h) (Or.inl ⟨by rfl, fun w hSw => by go_simp⟩) hH ?_
  try simp only [Act.put, List.setIfInBounds_toArray, List.set_cons_zero, List.set_cons_succ, List.getElem_toArray, List.getElem_cons_succ, List.getElem_cons_zero]
  refine wpAnyH_take (i := 4) (v := .pointer (some ⟨rb, 1, none⟩)) rfl (by kernel_rfl) (by kernel_rfl) (by kernel_rfl) (fun _ _ _ h => h) (Or.inl ⟨by rfl, fun w hSw => by go_simp⟩) hH ?_
  try simp only [Act.put, List.setIfInBounds_toArray, List.set_cons_zero, List.set_cons_succ, List.getElem_toArray, List.getElem_cons_succ, List.getElem_cons_zero]
  refine wpAnyH_take (i := 5) (v := .pointer (some ⟨rb, 1, none⟩)) rfl (by kernel_rfl) (by kernel_rfl) (by kernel_rfl) (fun _ _ _ h => h) (Or.inl ⟨by rfl, fun w hSw => by go_simp⟩) hH ?_
  try simp only [Act.put, List.setIfInBounds_toArray, List.set_cons_zero, List.set_cons_succ, List.getElem_toArray, List.getElem_cons_succ, List.getElem_cons_zero]
  refine wpAnyH_take (i := 6) (v := .pointer (some ⟨rb, 2, none⟩)) rfl (by kernel_rfl) (by kernel_rfl) (by kernel_rfl) (fun _ _ _ h => h) (Or.inl ⟨by rfl, fun w hSw => by go_simp⟩) hH ?_
  try simp only [Act.put, List.setIfInBounds_toArray, List.set_cons_zero, List.set_cons_succ, List.getElem_toArray, List.getElem_cons_succ, List.getElem_cons_zero]
  refine wpAnyH_take (i := 7) (v := .int .i64 sh) rfl (by kernel_rfl) (by kernel_rfl) (by kernel_rfl) (fun _ _ _ h => h) (Or.inl ⟨by rfl, fun w hSw => by have f0 := (HZ.out w (H3.out w hSw).1).2.2.2.reg.cells.2.2.1; go_simp⟩) hH ?_
  try simp only [Act.put, List.setIfInBounds_toArray, List.set_cons_zero, List.set_cons_succ, List.getElem_toArray, List.getElem_cons_succ, List.getElem_cons_zero]
  by_cases hsh : sh < g
  · have hx : decide (sh < g) = true := decide_eq_true hsh
    refine wpAnyH_take (i := 8) (v := .bool true) rfl (by kernel_rfl) (by kernel_rfl) (by kernel_rfl) (fun _ _ _ h => h) (Or.inl ⟨by rfl, fun w hSw => by go_simp⟩) hH ?_
    try simp only [Act.put, List.setIfInBounds_toArray, List.set_cons_zero, List.set_cons_succ, List.getElem_toArray, List.getElem_cons_succ, List.getElem_cons_zero]
    refine wpAnyH_done (by kernel_rfl) ?_ _
    try simp
    have HPx := HP1.out 16 (by omega) (by unfold scanC; rw [if_pos hsh]) _ (HZ.out _ (H3.out _ hH).1).2.2.1
    go_wp2
    exact HPx
  have hx : decide (sh < g) = false := decide_eq_false hsh
  refine wpAnyH_take (i := 8) (v := .bool false) rfl (by kernel_rfl) (by kernel_rfl) (by kernel_rfl) (fun _ _ _ h => h) (Or.inl ⟨by rfl, fun w hSw => by go_simp⟩) hH ?_
  try simp only [Act.put, List.setIfInBounds_toArray, List.set_cons_zero, List.set_cons_succ, List.getElem_toArray, List.getElem_cons_succ, List.getElem_cons_zero]
  refine wpAnyH_done (by kernel_rfl) ?_ _
  try simp
  have HD3 : Hid (Below W3.heap.size W3 W3.drew) := hH
  clear hH hx
  generalize W3.drew = Wq at *
  have r1 := (HZ.out Wq (H3.out Wq HD3.out).1).2.2.2.reg.cells.2.1
  by_cases hl5 : (ls.length : Int) = 50
  · have HPx := HP1.out 14 (by omega) (by unfold scanC; rw [if_neg (show ¬ sh < g by omega), if_pos hl5]) _ (HZ.out Wq (H3.out Wq HD3.out).1).2.2.1
    go_wp2
    exact HPx
  have hl5' : ((ls.length : Int) == 50) = false := by simpa using hl5
  have a2 := blkCell (HZ.out Wq (H3.out Wq HD3.out).1).1 2 _ rfl
  have i1 := blkCell (H3.out Wq HD3.out).2 1 _ rfl
  have i2 := blkCell (H3.out Wq HD3.out).2 2 _ rfl
  have s0 := blkCell (HZ.out Wq (H3.out Wq HD3.out).1).2.1 0 _ rfl
  have s2 := blkCell (HZ.out Wq (H3.out Wq HD3.out).1).2.1 2 _ rfl
  have hls := blkLt (HZ.out Wq (H3.out Wq HD3.out).1).2.1
  have hla := blkLt (HZ.out Wq (H3.out Wq HD3.out).1).1
  have hli := blkLt (H3.out Wq HD3.out).2
  go_wp2_with (first | (go_at_call 52; refine (specWeigh_any _ _ _).mono ?_; rintro e w4 ⟨rfl, h4e⟩; rw [h4e]; clear h4e w4) | fail)
  have hbl0 := heapNew Wq (Obj.cells #[.int .i64 (m : Int), .int .i64 ct, .int .i64 (bw1 p v), .int .i64 (d * ct)] 82)
  have hbl := hbl0
  have HB5 : Hid (Below w.heap.size w (Wq.alloc (Obj.cells #[.int .i64 (m : Int), .int .i64 ct, .int .i64 (bw1 p v), .int .i64 (d * ct)] 82))) := chain (HZ.out Wq (H3.out Wq HD3.out).1).2.2.1 (below_alloc _ _)
  have hbq : w.heap.size ≤ Wq.heap.size := (HZ.out Wq (H3.out Wq HD3.out).1).2.2.1.size
  have H5 : Hid (∀ W, Below ((Wq.alloc (Obj.cells #[.int .i64 (m : Int), .int .i64 ct, .int .i64 (bw1 p v), .int .i64 (d * ct)] 82))).heap.size ((Wq.alloc (Obj.cells #[.int .i64 (m : Int), .int .i64 ct, .int .i64 (bw1 p v), .int .i64 (d * ct)] 82))) W → W.heap[Wq.heap.size]? = some (.cells #[.int .i64 (m : Int), .int .i64 ct, .int .i64 am, .int .i64 (d * ct)] 82 (0, 0)) ∧ Sg B rb (.slice (some ⟨b0, o0, none⟩) its.length ic) (.slice la ls.length lc) ls sh kv ks sl tk dp cv cs W) := fun W hW => ⟨by rw [HAM.out]; exact (hW.block _ (blkLt hbl)).trans hbl, (HZ.out Wq (H3.out Wq HD3.out).1).2.2.2.later (chain (below_alloc _ _) hW)⟩
  clear hbl hbl0 a2 i1 i2 s0 s2 hls hla hli r1 hin hS HX HZ H3 HD3 hia
  generalize ((Wq.alloc (Obj.cells #[.int .i64 (m : Int), .int .i64 ct, .int .i64 (bw1 p v), .int .i64 (d * ct)] 82))) = W5 at *
  generalize Wq.heap.size = bl at *
  refine wp_region_held_drew (S := fun W => Below W5.heap.size W5 W) (by kernel_rfl) (below_drew _) (fun hH => ?_)
  refine wpAnyH_take (i := 0) (v := .pointer (some ⟨rb, 0, none⟩)) rfl (by kernel_rfl) (by kernel_rfl) (by kernel_rfl) (fun _ _ _ h => h) (Or.inl ⟨by rfl, fun w hSw => by go_simp⟩) hH ?_
  refine wpAnyH_take (i := 1) (v := .pointer (some ⟨rb, 0, none⟩)) rfl (by kernel_rfl) (by kernel_rfl) (by kernel_rfl) (fun _ _ _ h => h) (Or.inl ⟨by rfl, fun w hSw => by go_simp⟩) hH ?_
  try simp only [Act.put, List.setIfInBounds_toArray, List.set_cons_zero, List.set_cons_succ, List.getElem_toArray, List.getElem_cons_succ, List.getElem_cons_zero]
  refine wpAnyH_take (i := 2) (v := .pointer (some ⟨rb, 1, none⟩)) rfl (by kernel_rfl) (by kernel_rfl) (by kernel_rfl) (fun _ _ _ h => h) (Or.inl ⟨by rfl, fun w hSw => by go_simp⟩) hH ?_
  try simp only [Act.put, List.setIfInBounds_toArray, List.set_cons_zero, List.set_cons_succ, List.getElem_toArray, List.getElem_cons_succ, List.getElem_cons_zero]
  refine wpAnyH_take (i := 3) (v := .pointer (some ⟨rb, 1, none⟩)) rfl (by kernel_rfl) (by kernel_rfl) (by kernel_rfl) (fun _ _ _ h => h) (Or.inl ⟨by rfl, fun w hSw => by go_simp⟩) hH ?_
  try simp only [Act.put, List.setIfInBounds_toArray, List.set_cons_zero, List.set_cons_succ, List.getElem_toArray, List.getElem_cons_succ, List.getElem_cons_zero]
  refine wpAnyH_take (i := 4) (v := .agg #[.slice la ls.length lc, .int .i64 sh]) rfl (by kernel_rfl) (by kernel_rfl) (by kernel_rfl) (fun _ _ _ h => h) (Or.inl ⟨by rfl, fun w hSw => by have f0 := (H5.out w hSw).2.reg.cells.2.1; have f1 := (H5.out w hSw).2.reg.cells.2.2.1; go_simp⟩) hH ?_
  try simp only [Act.put, List.setIfInBounds_toArray, List.set_cons_zero, List.set_cons_succ, List.getElem_toArray, List.getElem_cons_succ, List.getElem_cons_zero]
  refine wpAnyH_take (i := 6) (v := .pointer (some ⟨bl, 2, none⟩)) rfl (by kernel_rfl) (by kernel_rfl) (by kernel_rfl) (fun _ _ _ h => h) (Or.inl ⟨by rfl, fun w hSw => by go_simp⟩) hH ?_
  try simp only [Act.put, List.setIfInBounds_toArray, List.set_cons_zero, List.set_cons_succ, List.getElem_toArray, List.getElem_cons_succ, List.getElem_cons_zero]
  refine wpAnyH_take (i := 7) (v := .int .i64 am) rfl (by kernel_rfl) (by kernel_rfl) (by kernel_rfl) (fun _ _ _ h => h) (Or.inl ⟨by rfl, fun w hSw => by have f0 := blkCell (H5.out w hSw).1 2 _ rfl; go_simp⟩) hH ?_
  try simp only [Act.put, List.setIfInBounds_toArray, List.set_cons_zero, List.set_cons_succ, List.getElem_toArray, List.getElem_cons_succ, List.getElem_cons_zero]
  refine wpAnyH_take (i := 9) (v := .pointer (some ⟨bl, 3, none⟩)) rfl (by kernel_rfl) (by kernel_rfl) (by kernel_rfl) (fun _ _ _ h => h) (Or.inl ⟨by rfl, fun w hSw => by go_simp⟩) hH ?_
  try simp only [Act.put, List.setIfInBounds_toArray, List.set_cons_zero, List.set_cons_succ, List.getElem_toArray, List.getElem_cons_succ, List.getElem_cons_zero]
  refine wpAnyH_take (i := 10) (v := .int .i64 (d * ct)) rfl (by kernel_rfl) (by kernel_rfl) (by kernel_rfl) (fun _ _ _ h => h) (Or.inl ⟨by rfl, fun w hSw => by have f0 := blkCell (H5.out w hSw).1 3 _ rfl; go_simp⟩) hH ?_
  try simp only [Act.put, List.setIfInBounds_toArray, List.set_cons_zero, List.set_cons_succ, List.getElem_toArray, List.getElem_cons_succ, List.getElem_cons_zero]
  refine wpAnyH_ready (rs := [5]) (by kernel_rfl) (by simp) ?_
  refine AllReadyH.cons rfl (fun K hK => ?_) AllReadyH.nil
  go_simp
  go_at_call 34
  refine (HTo.out _ (H5.out _ hH).2).mono ?_
  rintro e w6 ⟨rfl, hb6⟩
  have hw6 := chain hH hb6
  refine hK.out _ _ hw6 (fun _ => ?_)
  clear hK K
  try simp only [Act.put, List.setIfInBounds_toArray, List.set_cons_zero, List.set_cons_succ, List.getElem_toArray, List.getElem_cons_succ, List.getElem_cons_zero]
  refine wpAnyH_take (i := 8) (v := .int .i64 (tot + am)) rfl (by kernel_rfl) (by kernel_rfl) (by kernel_rfl) (fun _ _ _ h => h) (Or.inl ⟨by rfl, fun w hSw => by go_simp⟩) hw6 ?_
  try simp only [Act.put, List.setIfInBounds_toArray, List.set_cons_zero, List.set_cons_succ, List.getElem_toArray, List.getElem_cons_succ, List.getElem_cons_zero]
  refine wpAnyH_take (i := 11) (v := .int .i64 (tot + am + d * ct)) rfl (by kernel_rfl) (by kernel_rfl) (by kernel_rfl) (fun _ _ _ h => h) (Or.inl ⟨by rfl, fun w hSw => by go_simp⟩) hw6 ?_
  try simp only [Act.put, List.setIfInBounds_toArray, List.set_cons_zero, List.set_cons_succ, List.getElem_toArray, List.getElem_cons_succ, List.getElem_cons_zero]
  by_cases hov : 1000000000 < tot + am + d * ct
  · have hx : decide (1000000000 < tot + am + d * ct) = true := decide_eq_true hov
    refine wpAnyH_take (i := 12) (v := .bool true) rfl (by kernel_rfl) (by kernel_rfl) (by kernel_rfl) (fun _ _ _ h => h) (Or.inl ⟨by rfl, fun w hSw => by go_simp⟩) hw6 ?_
    try simp only [Act.put, List.setIfInBounds_toArray, List.set_cons_zero, List.set_cons_succ, List.getElem_toArray, List.getElem_cons_succ, List.getElem_cons_zero]
    refine wpAnyH_done (by kernel_rfl) ?_ _
    try simp
    have HPx := HP1.out 11 (by omega) (by unfold scanC; rw [if_neg (show ¬ sh < g by omega), if_neg (show ¬ (ls.length : Int) = 50 by omega), HTt.out, if_pos (by omega)]) w6 (chain HB5.out hw6)
    go_wp2
    exact HPx
  · have hx : decide (1000000000 < tot + am + d * ct) = false := decide_eq_false hov
    refine wpAnyH_take (i := 12) (v := .bool false) rfl (by kernel_rfl) (by kernel_rfl) (by kernel_rfl) (fun _ _ _ h => h) (Or.inl ⟨by rfl, fun w hSw => by go_simp⟩) hw6 ?_
    try simp only [Act.put, List.setIfInBounds_toArray, List.set_cons_zero, List.set_cons_succ, List.getElem_toArray, List.getElem_cons_succ, List.getElem_cons_zero]
    refine wpAnyH_done (by kernel_rfl) ?_ _
    try simp
    have HP := HP2.out (by unfold scanC; rw [if_neg (show ¬ sh < g by omega), if_neg (show ¬ (ls.length : Int) = 50 by omega), HTt.out, if_neg (by omega)])
    have HG6 : Hid (Sg B rb (.slice (some ⟨b0, o0, none⟩) its.length ic) (.slice la ls.length lc) ls sh kv ks sl tk dp cv cs w6) := (H5.out w6 hw6).2
    have HL6 : Hid (w6.heap[bl]? = some (.cells #[.int .i64 (m : Int), .int .i64 ct, .int .i64 am, .int .i64 (d * ct)] 82 (0, 0))) := (H5.out w6 hw6).1
    have HF6 : Hid (Below w.heap.size w w6) := chain HB5.out hw6
    clear hw6 hb6 hH hx
    go_wp2_with fail
    refine wp_region_held_drew (S := fun W => W.heap[bl]? = some (.cells #[.int .i64 (m : Int), .int .i64 ct, .int .i64 am, .int .i64 (d * ct)] 82 (0, 0))) (by kernel_rfl) HL6.out (fun hH => ?_)
    have HG : Hid (Sg B rb (.slice (some ⟨b0, o0, none⟩) its.length ic) (.slice la ls.length lc) ls sh kv ks sl tk dp cv cs w6.drew) := HG6.out.later (below_drew _)
    have HF : Hid (Below w.heap.size w w6.drew) := chain HF6.out (below_drew _)
    clear HG6 HL6 HF6
    generalize w6.drew = Wd at *
    refine wpAnyH_take (i := 0) (v := .pointer (some ⟨rb, 0, none⟩)) rfl (by kernel_rfl) (by kernel_rfl) (by kernel_rfl) (fun _ _ _ h => h) (Or.inl ⟨by rfl, fun w hSw => by go_simp⟩) hH ?_
    refine wpAnyH_take (i := 1) (v := .pointer (some ⟨rb, 0, none⟩)) rfl (by kernel_rfl) (by kernel_rfl) (by kernel_rfl) (fun _ _ _ h => h) (Or.inl ⟨by rfl, fun w hSw => by go_simp⟩) hH ?_
    try simp only [Act.put, List.setIfInBounds_toArray, List.set_cons_zero, List.set_cons_succ, List.getElem_toArray, List.getElem_cons_succ, List.getElem_cons_zero]
    refine wpAnyH_take (i := 2) (v := .pointer (some ⟨rb, 0, none⟩)) rfl (by kernel_rfl) (by kernel_rfl) (by kernel_rfl) (fun _ _ _ h => h) (Or.inl ⟨by rfl, fun w hSw => by go_simp⟩) hH ?_
    try simp only [Act.put, List.setIfInBounds_toArray, List.set_cons_zero, List.set_cons_succ, List.getElem_toArray, List.getElem_cons_succ, List.getElem_cons_zero]
    refine wpAnyH_take (i := 3) (v := .pointer (some ⟨rb, 1, none⟩)) rfl (by kernel_rfl) (by kernel_rfl) (by kernel_rfl) (fun _ _ _ h => h) (Or.inl ⟨by rfl, fun w hSw => by go_simp⟩) hH ?_
    try simp only [Act.put, List.setIfInBounds_toArray, List.set_cons_zero, List.set_cons_succ, List.getElem_toArray, List.getElem_cons_succ, List.getElem_cons_zero]
    refine wpAnyH_take (i := 4) (v := .pointer (some ⟨rb, 1, none⟩)) rfl (by kernel_rfl) (by kernel_rfl) (by kernel_rfl) (fun _ _ _ h => h) (Or.inl ⟨by rfl, fun w hSw => by go_simp⟩) hH ?_
    try simp only [Act.put, List.setIfInBounds_toArray, List.set_cons_zero, List.set_cons_succ, List.getElem_toArray, List.getElem_cons_succ, List.getElem_cons_zero]
    refine wpAnyH_take (i := 5) (v := .pointer (some ⟨rb, 1, none⟩)) rfl (by kernel_rfl) (by kernel_rfl) (by kernel_rfl) (fun _ _ _ h => h) (Or.inl ⟨by rfl, fun w hSw => by go_simp⟩) hH ?_
    try simp only [Act.put, List.setIfInBounds_toArray, List.set_cons_zero, List.set_cons_succ, List.getElem_toArray, List.getElem_cons_succ, List.getElem_cons_zero]
    refine wpAnyH_take (i := 7) (v := .agg #[.int .i64 (m : Int), .int .i64 ct, .int .i64 am, .int .i64 (d * ct)]) rfl (by kernel_rfl) (by kernel_rfl) (by kernel_rfl) (fun _ _ _ h => h) (Or.inl ⟨by rfl, fun w hSw => by have f0 := blkCell hSw 0 _ rfl; have f1 := blkCell hSw 1 _ rfl; have f2 := blkCell hSw 2 _ rfl; have f3 := blkCell hSw 3 _ rfl; go_simp⟩) hH ?_
    try simp only [Act.put, List.setIfInBounds_toArray, List.set_cons_zero, List.set_cons_succ, List.getElem_toArray, List.getElem_cons_succ, List.getElem_cons_zero]
    refine wpAnyH_ready (rs := [6, 8]) (by kernel_rfl) (by simp) ?_
    refine AllReadyH.cons rfl (fun K hK => ?_) (AllReadyH.cons rfl (fun K hK => ?_) AllReadyH.nil)
    · skip
      have q5 := HG.out.reg.cells.2.1
      go_simp
      clear q5
      refine hK.out _ _ hH (fun _ => ?_)
      clear hK K
      try simp only [Act.put, List.setIfInBounds_toArray, List.set_cons_zero, List.set_cons_succ, List.getElem_toArray, List.getElem_cons_succ, List.getElem_cons_zero]
      refine wpAnyH_ready (rs := [8]) (by kernel_rfl) (by simp) ?_
      refine AllReadyH.cons rfl (fun K hK => ?_) AllReadyH.nil
      go_simp
      have HG5 : Hid (Sg B rb (.slice (some ⟨b0, o0, none⟩) its.length ic) (.slice la ls.length lc) ls sh kv ks sl tk dp cv cs (Wd.alloc (Obj.cells #[.int .i64 (m : Int), .int .i64 ct, .int .i64 am, .int .i64 (d * ct)] 82))) := HG.out.later (below_alloc _ _)
      have hH5 : (Wd.alloc (Obj.cells #[.int .i64 (m : Int), .int .i64 ct, .int .i64 am, .int .i64 (d * ct)] 82)).heap[bl]? = some (.cells #[.int .i64 (m : Int), .int .i64 ct, .int .i64 am, .int .i64 (d * ct)] 82 (0, 0)) := (Below.heap_alloc _ _ _ (blkLt hH)).trans hH
      refine hK.out _ _ hH5 (fun _ => ?_)
      clear hK K
      try simp only [Act.put, List.setIfInBounds_toArray, List.set_cons_zero, List.set_cons_succ, List.getElem_toArray, List.getElem_cons_succ, List.getElem_cons_zero]
      refine wpAnyH_ready (rs := [9]) (by kernel_rfl) (by simp) ?_
      refine AllReadyH.cons rfl (fun K hK => ?_) AllReadyH.nil
      refine step_append_lies _ rfl _ _ 28 rfl B 82 j0 (.agg #[.int .i64 0, .int .i64 0, .int .i64 0, .int .i64 0]) 4 32 Tryz.underlying28 hj hj0 hj1 hj2 rfl (by decide) _ _ _ rfl HG5.out.lrow ⟨Wd.heap.size, 0, none⟩ 1 1 [.int .i64 (m : Int), .int .i64 ct, .int .i64 am, .int .i64 (d * ct)] rfl rfl (World.news_of_block (heapNew Wd _)) (by simp [Value.oneCell']) (by omega) (by unfold maxLen; omega) (by omega) (by have := HG5.out.reg.lt; have := HG5.out.low; omega) _ rfl ?_
      intro g1 cp1 w7 hown1 hgrow1 hat1 hglt1
      have hf7 := fr_grown hgrow1
      have hxl : ∀ q, (Value.slice la ls.length lc).ownBlock = some q → q ≠ rb := fun q hq e => HG5.out.far.1 (by rw [hq, e])
      have hb7 : SpIs w7 rb (.slice (some ⟨b0, o0, none⟩) its.length ic) (.slice la ls.length lc) sh kv sl tk dp cv := (hf7.block rb HG5.out.reg.lt (fun e => HG5.out.far.1 e)).trans HG5.out.reg
      have z1 := hb7.cells.2.1
      have zf := hb7.free 1
      have hblne : ¬ (Value.slice la ls.length lc).ownBlock = some bl := fun e => by have := (row_lt HLw.out _ e).2; omega
      have hH7 : w7.heap[bl]? = some (.cells #[.int .i64 (m : Int), .int .i64 ct, .int .i64 am, .int .i64 (d * ct)] 82 (0, 0)) := (hf7.block _ (blkLt hH5) hblne).trans hH5
      have HFi : Hid (Fr (RgX rb (.slice la ls.length lc) kv) w (w7.setCell ⟨rb, 1, none⟩ (.slice (some ⟨g1, 0, none⟩) (ls.length + 1) cp1)) ∧ Sg B rb (.slice (some ⟨b0, o0, none⟩) its.length ic) (.slice (some ⟨g1, 0, none⟩) (ls.length + 1) cp1) (ls ++ [⟨(m : Int), ct, am, d * ct⟩]) sh kv ks sl tk dp cv cs (w7.setCell ⟨rb, 1, none⟩ (.slice (some ⟨g1, 0, none⟩) (ls.length + 1) cp1))) := by
        refine ⟨(((Fr.of HF.out).alloc _).trans (hf7.mono (fun k hk => .inr (.inl hk)))).set (b := rb) (.inl rfl) _ _, ?_⟩
        have hg1 : g1 ≠ rb := by
          rcases hat1 with q | q
          · exact hxl g1 q
          · have := HG5.out.reg.lt; omega
        refine HG5.out.now ((hf7.mono (fun k hk => .inr hk)).set (b := rb) (.inl rfl) _ _) (hb7.set1 _) ?_ ?_
        · rw [List.length_append, lnCells_append]
          exact row_of hown1 (fun q hq => Below.heap_setCell _ _ _ _ (by cases hq; exact hg1))
        · rcases hat1 with q | q
          · exact .inl q.symm
          · exact .inr ⟨g1, rfl, by omega⟩
      have hH8 : (w7.setCell ⟨rb, 1, none⟩ (.slice (some ⟨g1, 0, none⟩) (ls.length + 1) cp1)).heap[bl]? = some (.cells #[.int .i64 (m : Int), .int .i64 ct, .int .i64 am, .int .i64 (d * ct)] 82 (0, 0)) := (Below.heap_setCell _ _ _ _ (by show bl ≠ rb; omega)).trans hH7
      clear hown1 hgrow1 hat1 hglt1 hf7 hb7 hxl hblne
      refine hK.out _ _ hH7 (fun _ => ?_)
      clear hK K
      try simp only [Act.put, List.setIfInBounds_toArray, List.set_cons_zero, List.set_cons_succ, List.getElem_toArray, List.getElem_cons_succ, List.getElem_cons_zero]
      refine wpAnyH_take (i := 10) (v := .pointer (some ⟨rb, 0, none⟩)) rfl (by kernel_rfl) (by kernel_rfl) (by kernel_rfl) (fun _ _ _ h => h) (Or.inl ⟨by rfl, fun w hSw => by go_simp⟩) hH7 ?_
      try simp only [Act.put, List.setIfInBounds_toArray, List.set_cons_zero, List.set_cons_succ, List.getElem_toArray, List.getElem_cons_succ, List.getElem_cons_zero]
      refine wpAnyH_take (i := 11) (v := .pointer (some ⟨rb, 1, none⟩)) rfl (by kernel_rfl) (by kernel_rfl) (by kernel_rfl) (fun _ _ _ h => h) (Or.inl ⟨by rfl, fun w hSw => by go_simp⟩) hH7 ?_
      try simp only [Act.put, List.setIfInBounds_toArray, List.set_cons_zero, List.set_cons_succ, List.getElem_toArray, List.getElem_cons_succ, List.getElem_cons_zero]
      refine wpAnyH_take (i := 12) (v := .pointer (some ⟨rb, 1, none⟩)) rfl (by kernel_rfl) (by kernel_rfl) (by kernel_rfl) (fun _ _ _ h => h) (Or.inl ⟨by rfl, fun w hSw => by go_simp⟩) hH7 ?_
      try simp only [Act.put, List.setIfInBounds_toArray, List.set_cons_zero, List.set_cons_succ, List.getElem_toArray, List.getElem_cons_succ, List.getElem_cons_zero]
      refine wpAnyH_take (i := 13) (v := .pointer (some ⟨rb, 1, none⟩)) rfl (by kernel_rfl) (by kernel_rfl) (by kernel_rfl) (fun _ _ _ h => h) (Or.inl ⟨by rfl, fun w hSw => by go_simp⟩) hH7 ?_
      try simp only [Act.put, List.setIfInBounds_toArray, List.set_cons_zero, List.set_cons_succ, List.getElem_toArray, List.getElem_cons_succ, List.getElem_cons_zero]
      refine wpAnyH_ready (rs := [14]) (by kernel_rfl) (by simp) ?_
      refine AllReadyH.cons rfl (fun K hK => ?_) AllReadyH.nil
      go_simp
      refine hK.out _ _ hH8 (fun _ => ?_)
      clear hK K
      try simp only [Act.put, List.setIfInBounds_toArray, List.set_cons_zero, List.set_cons_succ, List.getElem_toArray, List.getElem_cons_succ, List.getElem_cons_zero]
      refine wpAnyH_done (by kernel_rfl) ?_ _
      try simp
      clear z1 zf
      generalize (w7.setCell ⟨rb, 1, none⟩ (.slice (some ⟨g1, 0, none⟩) (ls.length + 1) cp1)) = W8 at *
      have f2 := blkCell hH8 2 _ rfl
      have f3 := blkCell hH8 3 _ rfl
      have HPx := HP _ _ HFi.out.1 HFi.out.2
      clear hH8 hH7 hH5 hH
      go_wp2
      exact HPx
    · skip
      go_simp
      have HG5 : Hid (Sg B rb (.slice (some ⟨b0, o0, none⟩) its.length ic) (.slice la ls.length lc) ls sh kv ks sl tk dp cv cs (Wd.alloc (Obj.cells #[.int .i64 (m : Int), .int .i64 ct, .int .i64 am, .int .i64 (d * ct)] 82))) := HG.out.later (below_alloc _ _)
      have hH5 : (Wd.alloc (Obj.cells #[.int .i64 (m : Int), .int .i64 ct, .int .i64 am, .int .i64 (d * ct)] 82)).heap[bl]? = some (.cells #[.int .i64 (m : Int), .int .i64 ct, .int .i64 am, .int .i64 (d * ct)] 82 (0, 0)) := (Below.heap_alloc _ _ _ (blkLt hH)).trans hH
      refine hK.out _ _ hH5 (fun _ => ?_)
      clear hK K
      try simp only [Act.put, List.setIfInBounds_toArray, List.set_cons_zero, List.set_cons_succ, List.getElem_toArray, List.getElem_cons_succ, List.getElem_cons_zero]
      refine wpAnyH_ready (rs := [6]) (by kernel_rfl) (by simp) ?_
      refine AllReadyH.cons rfl (fun K hK => ?_) AllReadyH.nil
      have q5 := HG5.out.reg.cells.2.1
      go_simp
      clear q5
      refine hK.out _ _ hH5 (fun _ => ?_)
      clear hK K
      try simp only [Act.put, List.setIfInBounds_toArray, List.set_cons_zero, List.set_cons_succ, List.getElem_toArray, List.getElem_cons_succ, List.getElem_cons_zero]
      refine wpAnyH_ready (rs := [9]) (by kernel_rfl) (by simp) ?_
      refine AllReadyH.cons rfl (fun K hK => ?_) AllReadyH.nil
      refine step_append_lies _ rfl _ _ 28 rfl B 82 j0 (.agg #[.int .i64 0, .int .i64 0, .int .i64 0, .int .i64 0]) 4 32 Tryz.underlying28 hj hj0 hj1 hj2 rfl (by decide) _ _ _ rfl HG5.out.lrow ⟨Wd.heap.size, 0, none⟩ 1 1 [.int .i64 (m : Int), .int .i64 ct, .int .i64 am, .int .i64 (d * ct)] rfl rfl (World.news_of_block (heapNew Wd _)) (by simp [Value.oneCell']) (by omega) (by unfold maxLen; omega) (by omega) (by have := HG5.out.reg.lt; have := HG5.out.low; omega) _ rfl ?_
      intro g1 cp1 w7 hown1 hgrow1 hat1 hglt1
      have hf7 := fr_grown hgrow1
      have hxl : ∀ q, (Value.slice la ls.length lc).ownBlock = some q → q ≠ rb := fun q hq e => HG5.out.far.1 (by rw [hq, e])
      have hb7 : SpIs w7 rb (.slice (some ⟨b0, o0, none⟩) its.length ic) (.slice la ls.length lc) sh kv sl tk dp cv := (hf7.block rb HG5.out.reg.lt (fun e => HG5.out.far.1 e)).trans HG5.out.reg
      have z1 := hb7.cells.2.1
      have zf := hb7.free 1
      have hblne : ¬ (Value.slice la ls.length lc).ownBlock = some bl := fun e => by have := (row_lt HLw.out _ e).2; omega
      have hH7 : w7.heap[bl]? = some (.cells #[.int .i64 (m : Int), .int .i64 ct, .int .i64 am, .int .i64 (d * ct)] 82 (0, 0)) := (hf7.block _ (blkLt hH5) hblne).trans hH5
      have HFi : Hid (Fr (RgX rb (.slice la ls.length lc) kv) w (w7.setCell ⟨rb, 1, none⟩ (.slice (some ⟨g1, 0, none⟩) (ls.length + 1) cp1)) ∧ Sg B rb (.slice (some ⟨b0, o0, none⟩) its.length ic) (.slice (some ⟨g1, 0, none⟩) (ls.length + 1) cp1) (ls ++ [⟨(m : Int), ct, am, d * ct⟩]) sh kv ks sl tk dp cv cs (w7.setCell ⟨rb, 1, none⟩ (.slice (some ⟨g1, 0, none⟩) (ls.length + 1) cp1))) := by
        refine ⟨(((Fr.of HF.out).alloc _).trans (hf7.mono (fun k hk => .inr (.inl hk)))).set (b := rb) (.inl rfl) _ _, ?_⟩
        have hg1 : g1 ≠ rb := by
          rcases hat1 with q | q
          · exact hxl g1 q
          · have := HG5.out.reg.lt; omega
        refine HG5.out.now ((hf7.mono (fun k hk => .inr hk)).set (b := rb) (.inl rfl) _ _) (hb7.set1 _) ?_ ?_
        · rw [List.length_append, lnCells_append]
          exact row_of hown1 (fun q hq => Below.heap_setCell _ _ _ _ (by cases hq; exact hg1))
        · rcases hat1 with q | q
          · exact .inl q.symm
          · exact .inr ⟨g1, rfl, by omega⟩
      have hH8 : (w7.setCell ⟨rb, 1, none⟩ (.slice (some ⟨g1, 0, none⟩) (ls.length + 1) cp1)).heap[bl]? = some (.cells #[.int .i64 (m : Int), .int .i64 ct, .int .i64 am, .int .i64 (d * ct)] 82 (0, 0)) := (Below.heap_setCell _ _ _ _ (by show bl ≠ rb; omega)).trans hH7
      clear hown1 hgrow1 hat1 hglt1 hf7 hb7 hxl hblne
      refine hK.out _ _ hH7 (fun _ => ?_)
      clear hK K
      try simp only [Act.put, List.setIfInBounds_toArray, List.set_cons_zero, List.set_cons_succ, List.getElem_toArray, List.getElem_cons_succ, List.getElem_cons_zero]
      refine wpAnyH_take (i := 10) (v := .pointer (some ⟨rb, 0, none⟩)) rfl (by kernel_rfl) (by kernel_rfl) (by kernel_rfl) (fun _ _ _ h => h) (Or.inl ⟨by rfl, fun w hSw => by go_simp⟩) hH7 ?_
      try simp only [Act.put, List.setIfInBounds_toArray, List.set_cons_zero, List.set_cons_succ, List.getElem_toArray, List.getElem_cons_succ, List.getElem_cons_zero]
      refine wpAnyH_take (i := 11) (v := .pointer (some ⟨rb, 1, none⟩)) rfl (by kernel_rfl) (by kernel_rfl) (by kernel_rfl) (fun _ _ _ h => h) (Or.inl ⟨by rfl, fun w hSw => by go_simp⟩) hH7 ?_
      try simp only [Act.put, List.setIfInBounds_toArray, List.set_cons_zero, List.set_cons_succ, List.getElem_toArray, List.getElem_cons_succ, List.getElem_cons_zero]
      refine wpAnyH_take (i := 12) (v := .pointer (some ⟨rb, 1, none⟩)) rfl (by kernel_rfl) (by kernel_rfl) (by kernel_rfl) (fun _ _ _ h => h) (Or.inl ⟨by rfl, fun w hSw => by go_simp⟩) hH7 ?_
      try simp only [Act.put, List.setIfInBounds_toArray, List.set_cons_zero, List.set_cons_succ, List.getElem_toArray, List.getElem_cons_succ, List.getElem_cons_zero]
      refine wpAnyH_take (i := 13) (v := .pointer (some ⟨rb, 1, none⟩)) rfl (by kernel_rfl) (by kernel_rfl) (by kernel_rfl) (fun _ _ _ h => h) (Or.inl ⟨by rfl, fun w hSw => by go_simp⟩) hH7 ?_
      try simp only [Act.put, List.setIfInBounds_toArray, List.set_cons_zero, List.set_cons_succ, List.getElem_toArray, List.getElem_cons_succ, List.getElem_cons_zero]
      refine wpAnyH_ready (rs := [14]) (by kernel_rfl) (by simp) ?_
      refine AllReadyH.cons rfl (fun K hK => ?_) AllReadyH.nil
      go_simp
      refine hK.out _ _ hH8 (fun _ => ?_)
      clear hK K
      try simp only [Act.put, List.setIfInBounds_toArray, List.set_cons_zero, List.set_cons_succ, List.getElem_toArray, List.getElem_cons_succ, List.getElem_cons_zero]
      refine wpAnyH_done (by kernel_rfl) ?_ _
      try simp
      clear z1 zf
      generalize (w7.setCell ⟨rb, 1, none⟩ (.slice (some ⟨g1, 0, none⟩) (ls.length + 1) cp1)) = W8 at *
      have f2 := blkCell hH8 2 _ rfl
      have f3 := blkCell hH8 3 _ rfl
      have HPx := HP _ _ HFi.out.1 HFi.out.2
      clear hH8 hH7 hH5 hH
      go_wp2
      exact HPx
set_option maxHeartbeats 16000000 in
set_option maxRecDepth 8000 in
theorem scanS_price (tx : ByteArray) (ct k v : Int) (a : ByteArray) (ia : Option Addr) (ic : Nat) (its : List RIt) (hil : its.length ≤ 40) (B rb : Nat) (la : Option Addr) (lc : Nat) (ls : List RLi) (hN : ∀ l ∈ ls, LiN l) (hl50 : ls.length ≤ 50) (sh : Int) (kv : Value) (ks : List Kb) (sl tk dp : Int) (cv : Value) (cs : List Int) (w : World) (hg : Sg B rb (.slice ia its.length ic) (.slice la ls.length lc) ls sh kv ks sl tk dp cv cs w) (hI : ReadsIt B w ia its) (hB : B ≤ w.heap.size) (hS : ∀ W, Calls Tryz.prog 51 #[.string tx] W fun e w' => e = .returned (.tuple #[.agg #[.int .i64 k, .string a, .int .i64 v], .int .i64 0]) ∧ Below W.heap.size W w') (m : Nat) (hix : itIx a its = (m : Int)) (hm : m < its.length) (x : ByteArray) (p d cl g : Int) (hsi : its.getD m zIt = ⟨x, p, d, cl, g⟩) (n1 : 0 ≤ p) (n2 : p ≤ 1000000) (n3 : 0 ≤ d) (n4 : d ≤ 1000000) (g1 : 1 ≤ ct) (g2 : ct ≤ 99) (hv0 : 0 ≤ v) (hv1 : v ≤ 99999) (am : Int) (ham0 : 0 ≤ am) (ham1 : am ≤ 1000000000) (hd0 : 0 ≤ d * ct) (hd1 : d * ct ≤ 100000000) (hp0 : 0 ≤ p * ct) (hp1 : p * ct ≤ 100000000) (htt : totL ls ≤ 1000000000) (post : Ending → World → Prop) (HP1 : Hid (∀ c : Int, c ≠ 0 → scanC ls sh am (d * ct) g = c → ∀ W, Below w.heap.size w W → post (.returned (.tuple #[.int .i64 0, .int .i64 c])) W)) (HP2 : Hid (scanC ls sh am (d * ct) g = 0 → ∀ lv' W, Fr (RgX rb (.slice la ls.length lc) kv) w W → Sg B rb (.slice ia its.length ic) lv' (ls ++ [⟨(m : Int), ct, am, d * ct⟩]) sh kv ks sl tk dp cv cs W → post (.returned (.tuple #[.int .i64 (am + d * ct), .int .i64 0])) W)) (hk : k = 3) (hc : ct = 1) (ham : am = v) :
    Calls Tryz.prog 32 #[.pointer (some ⟨rb, 0, none⟩), .agg #[.int .i64 1, .string tx, .int .i64 ct]] w post := by
  have HI : Hid (∀ W, Below w.heap.size w W → ReadsIt W.heap.size W ia its) := fun W hW => (hI.below (hW.mono hB)).mono (Nat.le_trans hB hW.size)
  have HX : Hid (∀ W, Below w.heap.size w W → Calls Tryz.prog 23 #[(.slice ia its.length ic), .string a] W fun e w' => e = .returned (.int .i64 (m : Int)) ∧ w' = W) := fun W hW => hix ▸ find8_any ia ic its (by omega) a W (HI.out W hW)
  have HG0 : Hid (Sg B rb (.slice ia its.length ic) (.slice la ls.length lc) ls sh kv ks sl tk dp cv cs w) := hg
  have hin := fun w => in_any ct 1 99 w
  have e99 : inB ct 1 99 = true := decide_eq_true ⟨g1, g2⟩
  rw [e99] at hin
  have HTo : Hid (∀ W, Sg B rb (.slice ia its.length ic) (.slice la ls.length lc) ls sh kv ks sl tk dp cv cs W → Calls Tryz.prog 34 #[.agg #[.slice la ls.length lc, .int .i64 sh]] W fun e w' => e = .returned (.int .i64 (totL ls)) ∧ Below W.heap.size W w') := fun W h => specTotal_any la lc ls hN (by omega) sh W (rowLn_reads h.lrow).2
  obtain ⟨j0, hj, hzy⟩ := Option.map_eq_some_iff.1 lnInfo
  simp only [Prod.mk.injEq] at hzy
  obtain ⟨hj0, hj1, hj2⟩ := hzy
  have htn := totL_nn hN
  have HLw : Hid (w.ownsRow B 82 4 (.slice la ls.length lc) ls.length (lnCells ls)) := hg.lrow
  have hlow := hg.low
  have hrlt := hg.reg.lt
  generalize hTT : totL ls = tot at htn htt HTo
  have HTt : Hid (totL ls = tot) := hTT
  clear hTT hN hix HI
  rcases hI with h | ⟨b0, o0, hia0, hB0', hia⟩
  · rw [h] at hm; simp at hm
  have hB0 : b0 < w.heap.size := by omega
  subst hia0
  clear hg
  have hx0 : ¬ (m : Int) < 0 := by omega
  have hwa : IntKind.i64.wrap (tot + am) = tot + am := wrap_id _ (by omega) (by omega)
  have hwb : IntKind.i64.wrap (tot + am + d * ct) = tot + am + d * ct := wrap_id _ (by omega) (by omega)
  have hk1 : (k != 1) = true := by simp; omega
  have hk2 : (k == 2) = false := by simp; omega
  have hk3 : (k == 3) = true := by simp; omega
  have hc1 : (ct != 1) = false := by simp; omega
  clear hc
  clear hk
  have HAM : Hid (am = v) := ham
  clear ham
  go_enter Tryz.func32, Tryz.ntmps32
  go_wp2_with fail
  (first | go_at_call 51 | skip)
  refine (hS _).mono ?_
  rintro e w1 ⟨rfl, hb1⟩
  have HZ : Hid (∀ W, Below (w1.alloc (Obj.cells #[.int .i64 k, .string a, .int .i64 v] 108)).heap.size (w1.alloc (Obj.cells #[.int .i64 k, .string a, .int .i64 v] 108)) W → W.heap[w.heap.size]? = some (.cells #[.int .i64 1, .string tx, .int .i64 ct] 42 (0, 0)) ∧ W.heap[w1.heap.size]? = some (.cells #[.int .i64 k, .string a, .int .i64 v] 108 (0, 0)) ∧ Below w.heap.size w W ∧ Sg B rb (.slice (some ⟨b0, o0, none⟩) its.length ic) (.slice la ls.length lc) ls sh kv ks sl tk dp cv cs W) := fun W hW => by
    have hbw : Below w.heap.size w W := chain (below_alloc _ _) (chain hb1 (chain (below_alloc _ _) hW))
    exact ⟨(hW.block _ (by have := hb1.size; simp at *; omega)).trans ((Below.heap_alloc _ _ _ (by have := hb1.size; simp at *; omega)).trans ((hb1.block _ (by simp)).trans (heapNew _ _))), (hW.block _ (by simp)).trans (heapNew _ _), hbw, HG0.out.later hbw⟩
  clear hb1
  go_wp2_with fail
  generalize (w1.alloc (Obj.cells #[.int .i64 k, .string a, .int .i64 v] 108)) = W1 at *
  generalize w1.heap.size = bs at *
  refine wp_region_held_drew (S := fun W => Below W1.heap.size W1 W) (by kernel_rfl) (below_drew _) (fun hH => ?_)
  refine wpAnyH_take (i := 0) (v := .pointer (some ⟨rb, 0, none⟩)) rfl (by kernel_rfl) (by kernel_rfl) (by kernel_rfl) (fun _ _ _ h => h) (Or.inl ⟨by rfl, fun w hSw => by go_simp⟩) hH ?_
  refine wpAnyH_take (i := 1) (v := .pointer (some ⟨rb, 0, none⟩)) rfl (by kernel_rfl) (by kernel_rfl) (by kernel_rfl) (fun _ _ _ h => h) (Or.inl ⟨by rfl, fun w hSw => by go_simp⟩) hH ?_
  try simp only [Act.put, List.setIfInBounds_toArray, List.set_cons_zero, List.set_cons_succ, List.getElem_toArray, List.getElem_cons_succ, List.getElem_cons_zero]
  refine wpAnyH_take (i := 2) (v := .pointer (some ⟨rb, 0, none⟩)) rfl (by kernel_rfl) (by kernel_rfl) (by kernel_rfl) (fun _ _ _ h => h) (Or.inl ⟨by rfl, fun w hSw => by go_simp⟩) hH ?_
  try simp only [Act.put, List.setIfInBounds_toArray, List.set_cons_zero, List.set_cons_succ, List.getElem_toArray, List.getElem_cons_succ, List.getElem_cons_zero]
  refine wpAnyH_take (i := 3) (v := (.slice (some ⟨b0, o0, none⟩) its.length ic)) rfl (by kernel_rfl) (by kernel_rfl) (by kernel_rfl) (fun _ _ _ h => h) (Or.inl ⟨by rfl, fun w hSw => by have f0 := (HZ.out w hSw).2.2.2.reg.cells.1; go_simp⟩) hH ?_
  try simp only [Act.put, List.setIfInBounds_toArray, List.set_cons_zero, List.set_cons_succ, List.getElem_toArray, List.getElem_cons_succ, List.getElem_cons_zero]
  refine wpAnyH_take (i := 4) (v := .pointer (some ⟨bs, 1, none⟩)) rfl (by kernel_rfl) (by kernel_rfl) (by kernel_rfl) (fun _ _ _ h => h) (Or.inl ⟨by rfl, fun w hSw => by go_simp⟩) hH ?_
  try simp only [Act.put, List.setIfInBounds_toArray, List.set_cons_zero, List.set_cons_succ, List.getElem_toArray, List.getElem_cons_succ, List.getElem_cons_zero]
  refine wpAnyH_take (i := 5) (v := .string a) rfl (by kernel_rfl) (by kernel_rfl) (by kernel_rfl) (fun _ _ _ h => h) (Or.inl ⟨by rfl, fun w hSw => by have f0 := blkCell (HZ.out w hSw).2.1 1 _ rfl; go_simp⟩) hH ?_
  try simp only [Act.put, List.setIfInBounds_toArray, List.set_cons_zero, List.set_cons_succ, List.getElem_toArray, List.getElem_cons_succ, List.getElem_cons_zero]
  refine wpAnyH_ready (rs := [6]) (by kernel_rfl) (by simp) ?_
  refine AllReadyH.cons rfl (fun K hK => ?_) AllReadyH.nil
  go_simp
  go_at_call 23
  refine (HX.out _ (HZ.out _ hH).2.2.1).mono ?_
  rintro e w2 ⟨rfl, h2e⟩
  rw [h2e]
  clear h2e w2
  refine hK.out _ _ hH (fun _ => ?_)
  clear hK K
  try simp only [Act.put, List.setIfInBounds_toArray, List.set_cons_zero, List.set_cons_succ, List.getElem_toArray, List.getElem_cons_succ, List.getElem_cons_zero]
  refine wpAnyH_take (i := 7) (v := .int .i64 (m : Int)) rfl (by kernel_rfl) (by kernel_rfl) (by kernel_rfl) (fun _ _ _ h => h) (Or.inl ⟨by rfl, fun w hSw => by go_simp⟩) hH ?_
  try simp only [Act.put, List.setIfInBounds_toArray, List.set_cons_zero, List.set_cons_succ, List.getElem_toArray, List.getElem_cons_succ, List.getElem_cons_zero]
  refine wpAnyH_done (by kernel_rfl) ?_ _
  try simp
  have HW2 : Hid (Below W1.heap.size W1 W1.drew) := hH
  clear hH
  generalize W1.drew = W2 at *
  have a0 := blkCell (HZ.out W2 HW2.out).1 0 _ rfl
  have a2 := blkCell (HZ.out W2 HW2.out).1 2 _ rfl
  have s0 := blkCell (HZ.out W2 HW2.out).2.1 0 _ rfl
  have s2 := blkCell (HZ.out W2 HW2.out).2.1 2 _ rfl
  obtain ⟨c0, c1, c2, c3, c4⟩ := (hia.below (HZ.out W2 HW2.out).2.2.1 hB0) m hm
  rw [hsi] at c0 c1 c2 c3 c4
  dsimp only at c0 c1 c2 c3 c4
  have r0 := (HZ.out W2 HW2.out).2.2.2.reg.cells.1
  go_wp2_with (go_at_call 33; refine (hin _).mono ?_; rintro e w3 ⟨rfl, h3e⟩; rw [h3e]; clear h3e w3)
  have hbi := heapNew W2 (Obj.cells #[.string x, .int .i64 p, .int .i64 d, .int .i64 cl, .int .i64 g] 60)
  have hW3 : Below W2.heap.size W2 (W2.alloc (Obj.cells #[.string x, .int .i64 p, .int .i64 d, .int .i64 cl, .int .i64 g] 60)) := below_alloc _ _
  clear c0 c1 c2 c3 c4 r0 a0 a2 s0 s2
  generalize (W2.alloc (Obj.cells #[.string x, .int .i64 p, .int .i64 d, .int .i64 cl, .int .i64 g] 60)) = W3 at *
  have hlb : w.heap.size ≤ W2.heap.size := (HZ.out W2 HW2.out).2.2.1.size
  have H3 : Hid (∀ W, Below W3.heap.size W3 W → Below W1.heap.size W1 W ∧ W.heap[W2.heap.size]? = some (.cells #[.string x, .int .i64 p, .int .i64 d, .int .i64 cl, .int .i64 g] 60 (0, 0))) := fun W hW => ⟨chain HW2.out (chain hW3 hW), (hW.block _ (blkLt hbi)).trans hbi⟩
  have hs3 : W2.heap.size < W3.heap.size := blkLt hbi
  clear hbi hW3 HW2
  generalize W2.heap.size = bi at *
  refine wp_region_held_drew (S := fun W => Below W3.heap.size W3 W) (by kernel_rfl) (below_drew _) (fun hH => ?_)
  refine wpAnyH_take (i := 0) (v := .pointer (some ⟨bi, 4, none⟩)) rfl (by kernel_rfl) (by kernel_rfl) (by kernel_rfl) (fun _ _ _ h => h) (Or.inl ⟨by rfl, fun w hSw => by go_simp⟩) hH ?_
  refine wpAnyH_take (i := 1) (v := .int .i64 g) rfl (by kernel_rfl) (by kernel_rfl) (by kernel_rfl) (fun _ _ _ h => h) (Or.inl ⟨by rfl, fun w hSw => by have f0 := blkCell (H3.out w hSw).2 4 _ rfl; go_simp⟩) hH ?_
  try simp only [Act.put, List.setIfInBounds_toArray, List.set_cons_zero, List.set_cons_succ, List.getElem_toArray, List.getElem_cons_succ, List.getElem_cons_zero]
  refine wpAnyH_take (i := 2) (v := .pointer (some ⟨rb, 0, none⟩)) rfl (by kernel_rfl) (by kernel_rfl) (by kernel_rfl) (fun _ _ _ h => h) (Or.inl ⟨by rfl, fun w hSw => by go_simp⟩) hH ?_
  try simp only [Act.put, List.setIfInBounds_toArray, List.set_cons_zero, List.set_cons_succ, List.getElem_toArray, List.getElem_cons_succ, List.getElem_cons_zero]
  refine wpAnyH_take (i := 3) (v := .pointer (some ⟨rb, 0, none⟩)) rfl (by kernel_rfl) (by kernel_rfl) (by kernel_rfl) (fun _ _ _ h => h) (Or.inl ⟨by rfl, fun w hSw => by go_simp⟩) hH ?_
  try simp only [Act.put, List.setIfInBounds_toArray, List.set_cons_zero, List.set_cons_succ, List.getElem_toArray, List.getElem_cons_succ, List.getElem_cons_zero]
  refine wpAnyH_take (i := 4) (v := .pointer (some ⟨rb, 1, none⟩)) rfl (by kernel_rfl) (by kernel_rfl) (by kernel_rfl) (fun _ _ _ h => h) (Or.inl ⟨by rfl, fun w hSw => by go_simp⟩) hH ?_
  try simp only [Act.put, List.setIfInBounds_toArray, List.set_cons_zero, List.set_cons_succ, List.getElem_toArray, List.getElem_cons_succ, List.getElem_cons_zero]
  refine wpAnyH_take (i := 5) (v := .pointer (some ⟨rb, 1, none⟩)) rfl (by kernel_rfl) (by kernel_rfl) (by kernel_rfl) (fun _ _ _ h => h) (Or.inl ⟨by rfl, fun w hSw => by go_simp⟩) hH ?_
  try simp only [Act.put, List.setIfInBounds_toArray, List.set_cons_zero, List.set_cons_succ, List.getElem_toArray, List.getElem_cons_succ, List.getElem_cons_zero]
  refine wpAnyH_take (i := 6) (v := .pointer (some ⟨rb, 2, none⟩)) rfl (by kernel_rfl) (by kernel_rfl) (by kernel_rfl) (fun _ _ _ h => h) (Or.inl ⟨by rfl, fun w hSw => by go_simp⟩) hH ?_
  try simp only [Act.put, List.setIfInBounds_toArray, List.set_cons_zero, List.set_cons_succ, List.getElem_toArray, List.getElem_cons_succ, List.getElem_cons_zero]
  refine wpAnyH_take (i := 7) (v := .int .i64 sh) rfl (by kernel_rfl) (by kernel_rfl) (by kernel_rfl) (fun _ _ _ h => h) (Or.inl ⟨by rfl, fun w hSw => by have f0 := (HZ.out w (H3.out w hSw).1).2.2.2.reg.cells.2.2.1; go_simp⟩) hH ?_
  try simp only [Act.put, List.setIfInBounds_toArray, List.set_cons_zero, List.set_cons_succ, List.getElem_toArray, List.getElem_cons_succ, List.getElem_cons_zero]
  by_cases hsh : sh < g
  · have hx : decide (sh < g) = true := decide_eq_true hsh
    refine wpAnyH_take (i := 8) (v := .bool true) rfl (by kernel_rfl) (by kernel_rfl) (by kernel_rfl) (fun _ _ _ h => h) (Or.inl ⟨by rfl, fun w hSw => by go_simp⟩) hH ?_
    try simp only [Act.put, List.setIfInBounds_toArray, List.set_cons_zero, List.set_cons_succ, List.getElem_toArray, List.getElem_cons_succ, List.getElem_cons_zero]
    refine wpAnyH_done (by kernel_rfl) ?_ _
    try simp
    have HPx := HP1.out 16 (by omega) (by unfold scanC; rw [if_pos hsh]) _ (HZ.out _ (H3.out _ hH).1).2.2.1
    go_wp2
    exact HPx
  have hx : decide (sh < g) = false := decide_eq_false hsh
  refine wpAnyH_take (i := 8) (v := .bool false) rfl (by kernel_rfl) (by kernel_rfl) (by kernel_rfl) (fun _ _ _ h => h) (Or.inl ⟨by rfl, fun w hSw => by go_simp⟩) hH ?_
  try simp only [Act.put, List.setIfInBounds_toArray, List.set_cons_zero, List.set_cons_succ, List.getElem_toArray, List.getElem_cons_succ, List.getElem_cons_zero]
  refine wpAnyH_done (by kernel_rfl) ?_ _
  try simp
  have HD3 : Hid (Below W3.heap.size W3 W3.drew) := hH
  clear hH hx
  generalize W3.drew = Wq at *
  have r1 := (HZ.out Wq (H3.out Wq HD3.out).1).2.2.2.reg.cells.2.1
  by_cases hl5 : (ls.length : Int) = 50
  · have HPx := HP1.out 14 (by omega) (by unfold scanC; rw [if_neg (show ¬ sh < g by omega), if_pos hl5]) _ (HZ.out Wq (H3.out Wq HD3.out).1).2.2.1
    go_wp2
    exact HPx
  have hl5' : ((ls.length : Int) == 50) = false := by simpa using hl5
  have a2 := blkCell (HZ.out Wq (H3.out Wq HD3.out).1).1 2 _ rfl
  have i1 := blkCell (H3.out Wq HD3.out).2 1 _ rfl
  have i2 := blkCell (H3.out Wq HD3.out).2 2 _ rfl
  have s0 := blkCell (HZ.out Wq (H3.out Wq HD3.out).1).2.1 0 _ rfl
  have s2 := blkCell (HZ.out Wq (H3.out Wq HD3.out).1).2.1 2 _ rfl
  have hls := blkLt (HZ.out Wq (H3.out Wq HD3.out).1).2.1
  have hla := blkLt (HZ.out Wq (H3.out Wq HD3.out).1).1
  have hli := blkLt (H3.out Wq HD3.out).2
  go_wp2_with fail
  have hbl0 := heapNew Wq (Obj.cells #[.int .i64 (m : Int), .int .i64 ct, .int .i64 v, .int .i64 (d * ct)] 82)
  have hbl := hbl0
  have HB5 : Hid (Below w.heap.size w (Wq.alloc (Obj.cells #[.int .i64 (m : Int), .int .i64 ct, .int .i64 v, .int .i64 (d * ct)] 82))) := chain (HZ.out Wq (H3.out Wq HD3.out).1).2.2.1 (below_alloc _ _)
  have hbq : w.heap.size ≤ Wq.heap.size := (HZ.out Wq (H3.out Wq HD3.out).1).2.2.1.size
  have H5 : Hid (∀ W, Below ((Wq.alloc (Obj.cells #[.int .i64 (m : Int), .int .i64 ct, .int .i64 v, .int .i64 (d * ct)] 82))).heap.size ((Wq.alloc (Obj.cells #[.int .i64 (m : Int), .int .i64 ct, .int .i64 v, .int .i64 (d * ct)] 82))) W → W.heap[Wq.heap.size]? = some (.cells #[.int .i64 (m : Int), .int .i64 ct, .int .i64 am, .int .i64 (d * ct)] 82 (0, 0)) ∧ Sg B rb (.slice (some ⟨b0, o0, none⟩) its.length ic) (.slice la ls.length lc) ls sh kv ks sl tk dp cv cs W) := fun W hW => ⟨by rw [HAM.out]; exact (hW.block _ (blkLt hbl)).trans hbl, (HZ.out Wq (H3.out Wq HD3.out).1).2.2.2.later (chain (below_alloc _ _) hW)⟩
  clear hbl hbl0 a2 i1 i2 s0 s2 hls hla hli r1 hin hS HX HZ H3 HD3 hia
  generalize ((Wq.alloc (Obj.cells #[.int .i64 (m : Int), .int .i64 ct, .int .i64 v, .int .i64 (d * ct)] 82))) = W5 at *
  generalize Wq.heap.size = bl at *
  refine wp_region_held_drew (S := fun W => Below W5.heap.size W5 W) (by kernel_rfl) (below_drew _) (fun hH => ?_)
  refine wpAnyH_take (i := 0) (v := .pointer (some ⟨rb, 0, none⟩)) rfl (by kernel_rfl) (by kernel_rfl) (by kernel_rfl) (fun _ _ _ h => h) (Or.inl ⟨by rfl, fun w hSw => by go_simp⟩) hH ?_
  refine wpAnyH_take (i := 1) (v := .pointer (some ⟨rb, 0, none⟩)) rfl (by kernel_rfl) (by kernel_rfl) (by kernel_rfl) (fun _ _ _ h => h) (Or.inl ⟨by rfl, fun w hSw => by go_simp⟩) hH ?_
  try simp only [Act.put, List.setIfInBounds_toArray, List.set_cons_zero, List.set_cons_succ, List.getElem_toArray, List.getElem_cons_succ, List.getElem_cons_zero]
  refine wpAnyH_take (i := 2) (v := .pointer (some ⟨rb, 1, none⟩)) rfl (by kernel_rfl) (by kernel_rfl) (by kernel_rfl) (fun _ _ _ h => h) (Or.inl ⟨by rfl, fun w hSw => by go_simp⟩) hH ?_
  try simp only [Act.put, List.setIfInBounds_toArray, List.set_cons_zero, List.set_cons_succ, List.getElem_toArray, List.getElem_cons_succ, List.getElem_cons_zero]
  refine wpAnyH_take (i := 3) (v := .pointer (some ⟨rb, 1, none⟩)) rfl (by kernel_rfl) (by kernel_rfl) (by kernel_rfl) (fun _ _ _ h => h) (Or.inl ⟨by rfl, fun w hSw => by go_simp⟩) hH ?_
  try simp only [Act.put, List.setIfInBounds_toArray, List.set_cons_zero, List.set_cons_succ, List.getElem_toArray, List.getElem_cons_succ, List.getElem_cons_zero]
  refine wpAnyH_take (i := 4) (v := .agg #[.slice la ls.length lc, .int .i64 sh]) rfl (by kernel_rfl) (by kernel_rfl) (by kernel_rfl) (fun _ _ _ h => h) (Or.inl ⟨by rfl, fun w hSw => by have f0 := (H5.out w hSw).2.reg.cells.2.1; have f1 := (H5.out w hSw).2.reg.cells.2.2.1; go_simp⟩) hH ?_
  try simp only [Act.put, List.setIfInBounds_toArray, List.set_cons_zero, List.set_cons_succ, List.getElem_toArray, List.getElem_cons_succ, List.getElem_cons_zero]
  refine wpAnyH_take (i := 6) (v := .pointer (some ⟨bl, 2, none⟩)) rfl (by kernel_rfl) (by kernel_rfl) (by kernel_rfl) (fun _ _ _ h => h) (Or.inl ⟨by rfl, fun w hSw => by go_simp⟩) hH ?_
  try simp only [Act.put, List.setIfInBounds_toArray, List.set_cons_zero, List.set_cons_succ, List.getElem_toArray, List.getElem_cons_succ, List.getElem_cons_zero]
  refine wpAnyH_take (i := 7) (v := .int .i64 am) rfl (by kernel_rfl) (by kernel_rfl) (by kernel_rfl) (fun _ _ _ h => h) (Or.inl ⟨by rfl, fun w hSw => by have f0 := blkCell (H5.out w hSw).1 2 _ rfl; go_simp⟩) hH ?_
  try simp only [Act.put, List.setIfInBounds_toArray, List.set_cons_zero, List.set_cons_succ, List.getElem_toArray, List.getElem_cons_succ, List.getElem_cons_zero]
  refine wpAnyH_take (i := 9) (v := .pointer (some ⟨bl, 3, none⟩)) rfl (by kernel_rfl) (by kernel_rfl) (by kernel_rfl) (fun _ _ _ h => h) (Or.inl ⟨by rfl, fun w hSw => by go_simp⟩) hH ?_
  try simp only [Act.put, List.setIfInBounds_toArray, List.set_cons_zero, List.set_cons_succ, List.getElem_toArray, List.getElem_cons_succ, List.getElem_cons_zero]
  refine wpAnyH_take (i := 10) (v := .int .i64 (d * ct)) rfl (by kernel_rfl) (by kernel_rfl) (by kernel_rfl) (fun _ _ _ h => h) (Or.inl ⟨by rfl, fun w hSw => by have f0 := blkCell (H5.out w hSw).1 3 _ rfl; go_simp⟩) hH ?_
  try simp only [Act.put, List.setIfInBounds_toArray, List.set_cons_zero, List.set_cons_succ, List.getElem_toArray, List.getElem_cons_succ, List.getElem_cons_zero]
  refine wpAnyH_ready (rs := [5]) (by kernel_rfl) (by simp) ?_
  refine AllReadyH.cons rfl (fun K hK => ?_) AllReadyH.nil
  go_simp
  go_at_call 34
  refine (HTo.out _ (H5.out _ hH).2).mono ?_
  rintro e w6 ⟨rfl, hb6⟩
  have hw6 := chain hH hb6
  refine hK.out _ _ hw6 (fun _ => ?_)
  clear hK K
  try simp only [Act.put, List.setIfInBounds_toArray, List.set_cons_zero, List.set_cons_succ, List.getElem_toArray, List.getElem_cons_succ, List.getElem_cons_zero]
  refine wpAnyH_take (i := 8) (v := .int .i64 (tot + am)) rfl (by kernel_rfl) (by kernel_rfl) (by kernel_rfl) (fun _ _ _ h => h) (Or.inl ⟨by rfl, fun w hSw => by go_simp⟩) hw6 ?_
  try simp only [Act.put, List.setIfInBounds_toArray, List.set_cons_zero, List.set_cons_succ, List.getElem_toArray, List.getElem_cons_succ, List.getElem_cons_zero]
  refine wpAnyH_take (i := 11) (v := .int .i64 (tot + am + d * ct)) rfl (by kernel_rfl) (by kernel_rfl) (by kernel_rfl) (fun _ _ _ h => h) (Or.inl ⟨by rfl, fun w hSw => by go_simp⟩) hw6 ?_
  try simp only [Act.put, List.setIfInBounds_toArray, List.set_cons_zero, List.set_cons_succ, List.getElem_toArray, List.getElem_cons_succ, List.getElem_cons_zero]
  by_cases hov : 1000000000 < tot + am + d * ct
  · have hx : decide (1000000000 < tot + am + d * ct) = true := decide_eq_true hov
    refine wpAnyH_take (i := 12) (v := .bool true) rfl (by kernel_rfl) (by kernel_rfl) (by kernel_rfl) (fun _ _ _ h => h) (Or.inl ⟨by rfl, fun w hSw => by go_simp⟩) hw6 ?_
    try simp only [Act.put, List.setIfInBounds_toArray, List.set_cons_zero, List.set_cons_succ, List.getElem_toArray, List.getElem_cons_succ, List.getElem_cons_zero]
    refine wpAnyH_done (by kernel_rfl) ?_ _
    try simp
    have HPx := HP1.out 11 (by omega) (by unfold scanC; rw [if_neg (show ¬ sh < g by omega), if_neg (show ¬ (ls.length : Int) = 50 by omega), HTt.out, if_pos (by omega)]) w6 (chain HB5.out hw6)
    go_wp2
    exact HPx
  · have hx : decide (1000000000 < tot + am + d * ct) = false := decide_eq_false hov
    refine wpAnyH_take (i := 12) (v := .bool false) rfl (by kernel_rfl) (by kernel_rfl) (by kernel_rfl) (fun _ _ _ h => h) (Or.inl ⟨by rfl, fun w hSw => by go_simp⟩) hw6 ?_
    try simp only [Act.put, List.setIfInBounds_toArray, List.set_cons_zero, List.set_cons_succ, List.getElem_toArray, List.getElem_cons_succ, List.getElem_cons_zero]
    refine wpAnyH_done (by kernel_rfl) ?_ _
    try simp
    have HP := HP2.out (by unfold scanC; rw [if_neg (show ¬ sh < g by omega), if_neg (show ¬ (ls.length : Int) = 50 by omega), HTt.out, if_neg (by omega)])
    have HG6 : Hid (Sg B rb (.slice (some ⟨b0, o0, none⟩) its.length ic) (.slice la ls.length lc) ls sh kv ks sl tk dp cv cs w6) := (H5.out w6 hw6).2
    have HL6 : Hid (w6.heap[bl]? = some (.cells #[.int .i64 (m : Int), .int .i64 ct, .int .i64 am, .int .i64 (d * ct)] 82 (0, 0))) := (H5.out w6 hw6).1
    have HF6 : Hid (Below w.heap.size w w6) := chain HB5.out hw6
    clear hw6 hb6 hH hx
    go_wp2_with fail
    refine wp_region_held_drew (S := fun W => W.heap[bl]? = some (.cells #[.int .i64 (m : Int), .int .i64 ct, .int .i64 am, .int .i64 (d * ct)] 82 (0, 0))) (by kernel_rfl) HL6.out (fun hH => ?_)
    have HG : Hid (Sg B rb (.slice (some ⟨b0, o0, none⟩) its.length ic) (.slice la ls.length lc) ls sh kv ks sl tk dp cv cs w6.drew) := HG6.out.later (below_drew _)
    have HF : Hid (Below w.heap.size w w6.drew) := chain HF6.out (below_drew _)
    clear HG6 HL6 HF6
    generalize w6.drew = Wd at *
    refine wpAnyH_take (i := 0) (v := .pointer (some ⟨rb, 0, none⟩)) rfl (by kernel_rfl) (by kernel_rfl) (by kernel_rfl) (fun _ _ _ h => h) (Or.inl ⟨by rfl, fun w hSw => by go_simp⟩) hH ?_
    refine wpAnyH_take (i := 1) (v := .pointer (some ⟨rb, 0, none⟩)) rfl (by kernel_rfl) (by kernel_rfl) (by kernel_rfl) (fun _ _ _ h => h) (Or.inl ⟨by rfl, fun w hSw => by go_simp⟩) hH ?_
    try simp only [Act.put, List.setIfInBounds_toArray, List.set_cons_zero, List.set_cons_succ, List.getElem_toArray, List.getElem_cons_succ, List.getElem_cons_zero]
    refine wpAnyH_take (i := 2) (v := .pointer (some ⟨rb, 0, none⟩)) rfl (by kernel_rfl) (by kernel_rfl) (by kernel_rfl) (fun _ _ _ h => h) (Or.inl ⟨by rfl, fun w hSw => by go_simp⟩) hH ?_
    try simp only [Act.put, List.setIfInBounds_toArray, List.set_cons_zero, List.set_cons_succ, List.getElem_toArray, List.getElem_cons_succ, List.getElem_cons_zero]
    refine wpAnyH_take (i := 3) (v := .pointer (some ⟨rb, 1, none⟩)) rfl (by kernel_rfl) (by kernel_rfl) (by kernel_rfl) (fun _ _ _ h => h) (Or.inl ⟨by rfl, fun w hSw => by go_simp⟩) hH ?_
    try simp only [Act.put, List.setIfInBounds_toArray, List.set_cons_zero, List.set_cons_succ, List.getElem_toArray, List.getElem_cons_succ, List.getElem_cons_zero]
    refine wpAnyH_take (i := 4) (v := .pointer (some ⟨rb, 1, none⟩)) rfl (by kernel_rfl) (by kernel_rfl) (by kernel_rfl) (fun _ _ _ h => h) (Or.inl ⟨by rfl, fun w hSw => by go_simp⟩) hH ?_
    try simp only [Act.put, List.setIfInBounds_toArray, List.set_cons_zero, List.set_cons_succ, List.getElem_toArray, List.getElem_cons_succ, List.getElem_cons_zero]
    refine wpAnyH_take (i := 5) (v := .pointer (some ⟨rb, 1, none⟩)) rfl (by kernel_rfl) (by kernel_rfl) (by kernel_rfl) (fun _ _ _ h => h) (Or.inl ⟨by rfl, fun w hSw => by go_simp⟩) hH ?_
    try simp only [Act.put, List.setIfInBounds_toArray, List.set_cons_zero, List.set_cons_succ, List.getElem_toArray, List.getElem_cons_succ, List.getElem_cons_zero]
    refine wpAnyH_take (i := 7) (v := .agg #[.int .i64 (m : Int), .int .i64 ct, .int .i64 am, .int .i64 (d * ct)]) rfl (by kernel_rfl) (by kernel_rfl) (by kernel_rfl) (fun _ _ _ h => h) (Or.inl ⟨by rfl, fun w hSw => by have f0 := blkCell hSw 0 _ rfl; have f1 := blkCell hSw 1 _ rfl; have f2 := blkCell hSw 2 _ rfl; have f3 := blkCell hSw 3 _ rfl; go_simp⟩) hH ?_
    try simp only [Act.put, List.setIfInBounds_toArray, List.set_cons_zero, List.set_cons_succ, List.getElem_toArray, List.getElem_cons_succ, List.getElem_cons_zero]
    refine wpAnyH_ready (rs := [6, 8]) (by kernel_rfl) (by simp) ?_
    refine AllReadyH.cons rfl (fun K hK => ?_) (AllReadyH.cons rfl (fun K hK => ?_) AllReadyH.nil)
    · skip
      have q5 := HG.out.reg.cells.2.1
      go_simp
      clear q5
      refine hK.out _ _ hH (fun _ => ?_)
      clear hK K
      try simp only [Act.put, List.setIfInBounds_toArray, List.set_cons_zero, List.set_cons_succ, List.getElem_toArray, List.getElem_cons_succ, List.getElem_cons_zero]
      refine wpAnyH_ready (rs := [8]) (by kernel_rfl) (by simp) ?_
      refine AllReadyH.cons rfl (fun K hK => ?_) AllReadyH.nil
      go_simp
      have HG5 : Hid (Sg B rb (.slice (some ⟨b0, o0, none⟩) its.length ic) (.slice la ls.length lc) ls sh kv ks sl tk dp cv cs (Wd.alloc (Obj.cells #[.int .i64 (m : Int), .int .i64 ct, .int .i64 am, .int .i64 (d * ct)] 82))) := HG.out.later (below_alloc _ _)
      have hH5 : (Wd.alloc (Obj.cells #[.int .i64 (m : Int), .int .i64 ct, .int .i64 am, .int .i64 (d * ct)] 82)).heap[bl]? = some (.cells #[.int .i64 (m : Int), .int .i64 ct, .int .i64 am, .int .i64 (d * ct)] 82 (0, 0)) := (Below.heap_alloc _ _ _ (blkLt hH)).trans hH
      refine hK.out _ _ hH5 (fun _ => ?_)
      clear hK K
      try simp only [Act.put, List.setIfInBounds_toArray, List.set_cons_zero, List.set_cons_succ, List.getElem_toArray, List.getElem_cons_succ, List.getElem_cons_zero]
      refine wpAnyH_ready (rs := [9]) (by kernel_rfl) (by simp) ?_
      refine AllReadyH.cons rfl (fun K hK => ?_) AllReadyH.nil
      refine step_append_lies _ rfl _ _ 28 rfl B 82 j0 (.agg #[.int .i64 0, .int .i64 0, .int .i64 0, .int .i64 0]) 4 32 Tryz.underlying28 hj hj0 hj1 hj2 rfl (by decide) _ _ _ rfl HG5.out.lrow ⟨Wd.heap.size, 0, none⟩ 1 1 [.int .i64 (m : Int), .int .i64 ct, .int .i64 am, .int .i64 (d * ct)] rfl rfl (World.news_of_block (heapNew Wd _)) (by simp [Value.oneCell']) (by omega) (by unfold maxLen; omega) (by omega) (by have := HG5.out.reg.lt; have := HG5.out.low; omega) _ rfl ?_
      intro g1 cp1 w7 hown1 hgrow1 hat1 hglt1
      have hf7 := fr_grown hgrow1
      have hxl : ∀ q, (Value.slice la ls.length lc).ownBlock = some q → q ≠ rb := fun q hq e => HG5.out.far.1 (by rw [hq, e])
      have hb7 : SpIs w7 rb (.slice (some ⟨b0, o0, none⟩) its.length ic) (.slice la ls.length lc) sh kv sl tk dp cv := (hf7.block rb HG5.out.reg.lt (fun e => HG5.out.far.1 e)).trans HG5.out.reg
      have z1 := hb7.cells.2.1
      have zf := hb7.free 1
      have hblne : ¬ (Value.slice la ls.length lc).ownBlock = some bl := fun e => by have := (row_lt HLw.out _ e).2; omega
      have hH7 : w7.heap[bl]? = some (.cells #[.int .i64 (m : Int), .int .i64 ct, .int .i64 am, .int .i64 (d * ct)] 82 (0, 0)) := (hf7.block _ (blkLt hH5) hblne).trans hH5
      have HFi : Hid (Fr (RgX rb (.slice la ls.length lc) kv) w (w7.setCell ⟨rb, 1, none⟩ (.slice (some ⟨g1, 0, none⟩) (ls.length + 1) cp1)) ∧ Sg B rb (.slice (some ⟨b0, o0, none⟩) its.length ic) (.slice (some ⟨g1, 0, none⟩) (ls.length + 1) cp1) (ls ++ [⟨(m : Int), ct, am, d * ct⟩]) sh kv ks sl tk dp cv cs (w7.setCell ⟨rb, 1, none⟩ (.slice (some ⟨g1, 0, none⟩) (ls.length + 1) cp1))) := by
        refine ⟨(((Fr.of HF.out).alloc _).trans (hf7.mono (fun k hk => .inr (.inl hk)))).set (b := rb) (.inl rfl) _ _, ?_⟩
        have hg1 : g1 ≠ rb := by
          rcases hat1 with q | q
          · exact hxl g1 q
          · have := HG5.out.reg.lt; omega
        refine HG5.out.now ((hf7.mono (fun k hk => .inr hk)).set (b := rb) (.inl rfl) _ _) (hb7.set1 _) ?_ ?_
        · rw [List.length_append, lnCells_append]
          exact row_of hown1 (fun q hq => Below.heap_setCell _ _ _ _ (by cases hq; exact hg1))
        · rcases hat1 with q | q
          · exact .inl q.symm
          · exact .inr ⟨g1, rfl, by omega⟩
      have hH8 : (w7.setCell ⟨rb, 1, none⟩ (.slice (some ⟨g1, 0, none⟩) (ls.length + 1) cp1)).heap[bl]? = some (.cells #[.int .i64 (m : Int), .int .i64 ct, .int .i64 am, .int .i64 (d * ct)] 82 (0, 0)) := (Below.heap_setCell _ _ _ _ (by show bl ≠ rb; omega)).trans hH7
      clear hown1 hgrow1 hat1 hglt1 hf7 hb7 hxl hblne
      refine hK.out _ _ hH7 (fun _ => ?_)
      clear hK K
      try simp only [Act.put, List.setIfInBounds_toArray, List.set_cons_zero, List.set_cons_succ, List.getElem_toArray, List.getElem_cons_succ, List.getElem_cons_zero]
      refine wpAnyH_take (i := 10) (v := .pointer (some ⟨rb, 0, none⟩)) rfl (by kernel_rfl) (by kernel_rfl) (by kernel_rfl) (fun _ _ _ h => h) (Or.inl ⟨by rfl, fun w hSw => by go_simp⟩) hH7 ?_
      try simp only [Act.put, List.setIfInBounds_toArray, List.set_cons_zero, List.set_cons_succ, List.getElem_toArray, List.getElem_cons_succ, List.getElem_cons_zero]
      refine wpAnyH_take (i := 11) (v := .pointer (some ⟨rb, 1, none⟩)) rfl (by kernel_rfl) (by kernel_rfl) (by kernel_rfl) (fun _ _ _ h => h) (Or.inl ⟨by rfl, fun w hSw => by go_simp⟩) hH7 ?_
      try simp only [Act.put, List.setIfInBounds_toArray, List.set_cons_zero, List.set_cons_succ, List.getElem_toArray, List.getElem_cons_succ, List.getElem_cons_zero]
      refine wpAnyH_take (i := 12) (v := .pointer (some ⟨rb, 1, none⟩)) rfl (by kernel_rfl) (by kernel_rfl) (by kernel_rfl) (fun _ _ _ h => h) (Or.inl ⟨by rfl, fun w hSw => by go_simp⟩) hH7 ?_
      try simp only [Act.put, List.setIfInBounds_toArray, List.set_cons_zero, List.set_cons_succ, List.getElem_toArray, List.getElem_cons_succ, List.getElem_cons_zero]
      refine wpAnyH_take (i := 13) (v := .pointer (some ⟨rb, 1, none⟩)) rfl (by kernel_rfl) (by kernel_rfl) (by kernel_rfl) (fun _ _ _ h => h) (Or.inl ⟨by rfl, fun w hSw => by go_simp⟩) hH7 ?_
      try simp only [Act.put, List.setIfInBounds_toArray, List.set_cons_zero, List.set_cons_succ, List.getElem_toArray, List.getElem_cons_succ, List.getElem_cons_zero]
      refine wpAnyH_ready (rs := [14]) (by kernel_rfl) (by simp) ?_
      refine AllReadyH.cons rfl (fun K hK => ?_) AllReadyH.nil
      go_simp
      refine hK.out _ _ hH8 (fun _ => ?_)
      clear hK K
      try simp only [Act.put, List.setIfInBounds_toArray, List.set_cons_zero, List.set_cons_succ, List.getElem_toArray, List.getElem_cons_succ, List.getElem_cons_zero]
      refine wpAnyH_done (by kernel_rfl) ?_ _
      try simp
      clear z1 zf
      generalize (w7.setCell ⟨rb, 1, none⟩ (.slice (some ⟨g1, 0, none⟩) (ls.length + 1) cp1)) = W8 at *
      have f2 := blkCell hH8 2 _ rfl
      have f3 := blkCell hH8 3 _ rfl
      have HPx := HP _ _ HFi.out.1 HFi.out.2
      clear hH8 hH7 hH5 hH
      go_wp2
      exact HPx
    · skip
      go_simp
      have HG5 : Hid (Sg B rb (.slice (some ⟨b0, o0, none⟩) its.length ic) (.slice la ls.length lc) ls sh kv ks sl tk dp cv cs (Wd.alloc (Obj.cells #[.int .i64 (m : Int), .int .i64 ct, .int .i64 am, .int .i64 (d * ct)] 82))) := HG.out.later (below_alloc _ _)
      have hH5 : (Wd.alloc (Obj.cells #[.int .i64 (m : Int), .int .i64 ct, .int .i64 am, .int .i64 (d * ct)] 82)).heap[bl]? = some (.cells #[.int .i64 (m : Int), .int .i64 ct, .int .i64 am, .int .i64 (d * ct)] 82 (0, 0)) := (Below.heap_alloc _ _ _ (blkLt hH)).trans hH
      refine hK.out _ _ hH5 (fun _ => ?_)
      clear hK K
      try simp only [Act.put, List.setIfInBounds_toArray, List.set_cons_zero, List.set_cons_succ, List.getElem_toArray, List.getElem_cons_succ, List.getElem_cons_zero]
      refine wpAnyH_ready (rs := [6]) (by kernel_rfl) (by simp) ?_
      refine AllReadyH.cons rfl (fun K hK => ?_) AllReadyH.nil
      have q5 := HG5.out.reg.cells.2.1
      go_simp
      clear q5
      refine hK.out _ _ hH5 (fun _ => ?_)
      clear hK K
      try simp only [Act.put, List.setIfInBounds_toArray, List.set_cons_zero, List.set_cons_succ, List.getElem_toArray, List.getElem_cons_succ, List.getElem_cons_zero]
      refine wpAnyH_ready (rs := [9]) (by kernel_rfl) (by simp) ?_
      refine AllReadyH.cons rfl (fun K hK => ?_) AllReadyH.nil
      refine step_append_lies _ rfl _ _ 28 rfl B 82 j0 (.agg #[.int .i64 0, .int .i64 0, .int .i64 0, .int .i64 0]) 4 32 Tryz.underlying28 hj hj0 hj1 hj2 rfl (by decide) _ _ _ rfl HG5.out.lrow ⟨Wd.heap.size, 0, none⟩ 1 1 [.int .i64 (m : Int), .int .i64 ct, .int .i64 am, .int .i64 (d * ct)] rfl rfl (World.news_of_block (heapNew Wd _)) (by simp [Value.oneCell']) (by omega) (by unfold maxLen; omega) (by omega) (by have := HG5.out.reg.lt; have := HG5.out.low; omega) _ rfl ?_
      intro g1 cp1 w7 hown1 hgrow1 hat1 hglt1
      have hf7 := fr_grown hgrow1
      have hxl : ∀ q, (Value.slice la ls.length lc).ownBlock = some q → q ≠ rb := fun q hq e => HG5.out.far.1 (by rw [hq, e])
      have hb7 : SpIs w7 rb (.slice (some ⟨b0, o0, none⟩) its.length ic) (.slice la ls.length lc) sh kv sl tk dp cv := (hf7.block rb HG5.out.reg.lt (fun e => HG5.out.far.1 e)).trans HG5.out.reg
      have z1 := hb7.cells.2.1
      have zf := hb7.free 1
      have hblne : ¬ (Value.slice la ls.length lc).ownBlock = some bl := fun e => by have := (row_lt HLw.out _ e).2; omega
      have hH7 : w7.heap[bl]? = some (.cells #[.int .i64 (m : Int), .int .i64 ct, .int .i64 am, .int .i64 (d * ct)] 82 (0, 0)) := (hf7.block _ (blkLt hH5) hblne).trans hH5
      have HFi : Hid (Fr (RgX rb (.slice la ls.length lc) kv) w (w7.setCell ⟨rb, 1, none⟩ (.slice (some ⟨g1, 0, none⟩) (ls.length + 1) cp1)) ∧ Sg B rb (.slice (some ⟨b0, o0, none⟩) its.length ic) (.slice (some ⟨g1, 0, none⟩) (ls.length + 1) cp1) (ls ++ [⟨(m : Int), ct, am, d * ct⟩]) sh kv ks sl tk dp cv cs (w7.setCell ⟨rb, 1, none⟩ (.slice (some ⟨g1, 0, none⟩) (ls.length + 1) cp1))) := by
        refine ⟨(((Fr.of HF.out).alloc _).trans (hf7.mono (fun k hk => .inr (.inl hk)))).set (b := rb) (.inl rfl) _ _, ?_⟩
        have hg1 : g1 ≠ rb := by
          rcases hat1 with q | q
          · exact hxl g1 q
          · have := HG5.out.reg.lt; omega
        refine HG5.out.now ((hf7.mono (fun k hk => .inr hk)).set (b := rb) (.inl rfl) _ _) (hb7.set1 _) ?_ ?_
        · rw [List.length_append, lnCells_append]
          exact row_of hown1 (fun q hq => Below.heap_setCell _ _ _ _ (by cases hq; exact hg1))
        · rcases hat1 with q | q
          · exact .inl q.symm
          · exact .inr ⟨g1, rfl, by omega⟩
      have hH8 : (w7.setCell ⟨rb, 1, none⟩ (.slice (some ⟨g1, 0, none⟩) (ls.length + 1) cp1)).heap[bl]? = some (.cells #[.int .i64 (m : Int), .int .i64 ct, .int .i64 am, .int .i64 (d * ct)] 82 (0, 0)) := (Below.heap_setCell _ _ _ _ (by show bl ≠ rb; omega)).trans hH7
      clear hown1 hgrow1 hat1 hglt1 hf7 hb7 hxl hblne
      refine hK.out _ _ hH7 (fun _ => ?_)
      clear hK K
      try simp only [Act.put, List.setIfInBounds_toArray, List.set_cons_zero, List.set_cons_succ, List.getElem_toArray, List.getElem_cons_succ, List.getElem_cons_zero]
      refine wpAnyH_take (i := 10) (v := .pointer (some ⟨rb, 0, none⟩)) rfl (by kernel_rfl) (by kernel_rfl) (by kernel_rfl) (fun _ _ _ h => h) (Or.inl ⟨by rfl, fun w hSw => by go_simp⟩) hH7 ?_
      try simp only [Act.put, List.setIfInBounds_toArray, List.set_cons_zero, List.set_cons_succ, List.getElem_toArray, List.getElem_cons_succ, List.getElem_cons_zero]
      refine wpAnyH_take (i := 11) (v := .pointer (some ⟨rb, 1, none⟩)) rfl (by kernel_rfl) (by kernel_rfl) (by kernel_rfl) (fun _ _ _ h => h) (Or.inl ⟨by rfl, fun w hSw => by go_simp⟩) hH7 ?_
      try simp only [Act.put, List.setIfInBounds_toArray, List.set_cons_zero, List.set_cons_succ, List.getElem_toArray, List.getElem_cons_succ, List.getElem_cons_zero]
      refine wpAnyH_take (i := 12) (v := .pointer (some ⟨rb, 1, none⟩)) rfl (by kernel_rfl) (by kernel_rfl) (by kernel_rfl) (fun _ _ _ h => h) (Or.inl ⟨by rfl, fun w hSw => by go_simp⟩) hH7 ?_
      try simp only [Act.put, List.setIfInBounds_toArray, List.set_cons_zero, List.set_cons_succ, List.getElem_toArray, List.getElem_cons_succ, List.getElem_cons_zero]
      refine wpAnyH_take (i := 13) (v := .pointer (some ⟨rb, 1, none⟩)) rfl (by kernel_rfl) (by kernel_rfl) (by kernel_rfl) (fun _ _ _ h => h) (Or.inl ⟨by rfl, fun w hSw => by go_simp⟩) hH7 ?_
      try simp only [Act.put, List.setIfInBounds_toArray, List.set_cons_zero, List.set_cons_succ, List.getElem_toArray, List.getElem_cons_succ, List.getElem_cons_zero]
      refine wpAnyH_ready (rs := [14]) (by kernel_rfl) (by simp) ?_
      refine AllReadyH.cons rfl (fun K hK => ?_) AllReadyH.nil
      go_simp
      refine hK.out _ _ hH8 (fun _ => ?_)
      clear hK K
      try simp only [Act.put, List.setIfInBounds_toArray, List.set_cons_zero, List.set_cons_succ, List.getElem_toArray, List.getElem_cons_succ, List.getElem_cons_zero]
      refine wpAnyH_done (by kernel_rfl) ?_ _
      try simp
      clear z1 zf
      generalize (w7.setCell ⟨rb, 1, none⟩ (.slice (some ⟨g1, 0, none⟩) (ls.length + 1) cp1)) = W8 at *
      have f2 := blkCell hH8 2 _ rfl
      have f3 := blkCell hH8 3 _ rfl
      have HPx := HP _ _ HFi.out.1 HFi.out.2
      clear hH8 hH7 hH5 hH
      go_wp2
      exact HPx
theorem scanS_ok (R : ByteArray → Int × ByteArray × Int × Int) (hR : RsS R) (hv : ∀ s, 0 ≤ (R s).2.2.1 ∧ (R s).2.2.1 ≤ 99999) (ia : Option Addr) (ic : Nat) (its : List RIt) (hok : ∀ r ∈ its, ItN r) (hil : its.length ≤ 40) (B rb : Nat) (la : Option Addr) (lc : Nat) (ls : List RLi) (hN : ∀ l ∈ ls, LiN l) (hl50 : ls.length ≤ 50) (sh : Int) (kv : Value) (ks : List Kb) (sl tk dp : Int) (cv : Value) (cs : List Int) (tx : ByteArray) (ct : Int) (w : World) (hg : Sg B rb (.slice ia its.length ic) (.slice la ls.length lc) ls sh kv ks sl tk dp cv cs w) (hI : ReadsIt B w ia its) (hB : B ≤ w.heap.size) (hE : scanE R its tx ct = 0) (htt : totL ls ≤ 1000000000) :
    Calls Tryz.prog 32 #[.pointer (some ⟨rb, 0, none⟩), .agg #[.int .i64 1, .string tx, .int .i64 ct]] w fun e w' => (∃ c : Int, c ≠ 0 ∧ scanC ls sh (scanL R its tx ct).am (scanL R its tx ct).dp (scanG R its tx ct) = c ∧ e = .returned (.tuple #[.int .i64 0, .int .i64 c]) ∧ Below w.heap.size w w') ∨ (scanC ls sh (scanL R its tx ct).am (scanL R its tx ct).dp (scanG R its tx ct) = 0 ∧ e = .returned (.tuple #[.int .i64 ((scanL R its tx ct).am + (scanL R its tx ct).dp), .int .i64 0]) ∧ Fr (RgX rb (.slice la ls.length lc) kv) w w' ∧ ∃ lv', Sg B rb (.slice ia its.length ic) lv' (ls ++ [scanL R its tx ct]) sh kv ks sl tk dp cv cs w') := by
  rcases scan_ways R its tx ct with ⟨h1, h2, _⟩ | ⟨_, _, h2, _⟩ | ⟨_, _, _, h2, _⟩ | ⟨h1, h2, ⟨g1, g2, g3⟩, _, h3, h4⟩
  · rw [hE] at h2; exact absurd h2.symm h1
  · rw [hE] at h2; cases h2
  · rw [hE] at h2; cases h2
  have hrg := itIx_range (R tx).2.1 its
  obtain ⟨m, hmx⟩ : ∃ m : Nat, itIx (R tx).2.1 its = (m : Int) := ⟨(itIx (R tx).2.1 its).toNat, by omega⟩
  have hm : m < its.length := by omega
  have hsi : its.getD m zIt = scanIt R its tx := by
    unfold scanIt
    rw [hmx, Int.toNat_natCast]
  have hIN : ItN (scanIt R its tx) := by rw [← hsi]; exact getIt hok hm
  have hS : ∀ W, Calls Tryz.prog 51 #[.string tx] W fun e w' => e = .returned (.tuple #[.agg #[.int .i64 (R tx).1, .string (R tx).2.1, .int .i64 (R tx).2.2.1], .int .i64 0]) ∧ Below W.heap.size W w' := fun W => by
    have := hR tx W
    unfold scanV at this
    rw [h1] at this
    exact this
  rw [h3, h4, hmx]
  dsimp only
  have hvv := hv tx
  generalize scanIt R its tx = si at *
  obtain ⟨x, p, d, cl, g⟩ := si
  obtain ⟨⟨n1, n2⟩, ⟨n3, n4⟩, _, _⟩ := hIN
  dsimp only at *
  have ha := amtM_nn (R tx).1 (R tx).2.2.1 p ct hvv ⟨n1, n2⟩ ⟨g1, g2⟩
  have hd0 : 0 ≤ d * ct := Int.mul_nonneg n3 (by omega)
  have hd1 : d * ct ≤ 100000000 := Int.le_trans (Int.mul_le_mul n4 g2 (by omega) (by omega)) (by decide)
  have hp0 : 0 ≤ p * ct := Int.mul_nonneg n1 (by omega)
  have hp1 : p * ct ≤ 100000000 := Int.le_trans (Int.mul_le_mul n2 g2 (by omega) (by omega)) (by decide)
  by_cases k1 : (R tx).1 = 1
  · exact scanS_unit tx ct _ _ _ ia ic its hil B rb la lc ls hN hl50 sh kv ks sl tk dp cv cs w hg hI hB hS m hmx hm x p d cl g hsi n1 n2 n3 n4 g1 g2 hvv.1 hvv.2 _ ha.1 ha.2 hd0 hd1 hp0 hp1 htt _ (fun c hc he W hW => .inl ⟨c, hc, he, rfl, hW⟩) (fun he lv' W hF hG => .inr ⟨he, rfl, hF, lv', hG⟩) k1 (by unfold amtM; rw [if_neg (by omega), if_neg (by omega)])
  have hc : ct = 1 := by omega
  by_cases k2 : (R tx).1 = 2
  · exact scanS_grams tx ct _ _ _ ia ic its hil B rb la lc ls hN hl50 sh kv ks sl tk dp cv cs w hg hI hB hS m hmx hm x p d cl g hsi n1 n2 n3 n4 g1 g2 hvv.1 hvv.2 _ ha.1 ha.2 hd0 hd1 hp0 hp1 htt _ (fun c hc he W hW => .inl ⟨c, hc, he, rfl, hW⟩) (fun he lv' W hF hG => .inr ⟨he, rfl, hF, lv', hG⟩) k2 hc (by unfold amtM; rw [if_pos k2])
  by_cases k3 : (R tx).1 = 3
  · exact scanS_price tx ct _ _ _ ia ic its hil B rb la lc ls hN hl50 sh kv ks sl tk dp cv cs w hg hI hB hS m hmx hm x p d cl g hsi n1 n2 n3 n4 g1 g2 hvv.1 hvv.2 _ ha.1 ha.2 hd0 hd1 hp0 hp1 htt _ (fun c hc he W hW => .inl ⟨c, hc, he, rfl, hW⟩) (fun he lv' W hF hG => .inr ⟨he, rfl, hF, lv', hG⟩) k3 hc (by unfold amtM; rw [if_neg k2, if_pos k3])
  · exact scanS_else tx ct _ _ _ ia ic its hil B rb la lc ls hN hl50 sh kv ks sl tk dp cv cs w hg hI hB hS m hmx hm x p d cl g hsi n1 n2 n3 n4 g1 g2 hvv.1 hvv.2 _ ha.1 ha.2 hd0 hd1 hp0 hp1 htt _ (fun c hc he W hW => .inl ⟨c, hc, he, rfl, hW⟩) (fun he lv' W hF hG => .inr ⟨he, rfl, hF, lv', hG⟩) ⟨k1, k2, k3⟩ hc (by unfold amtM; rw [if_neg k2, if_neg k3])
end Go.Proofs.YtabpkfhbnendjaaGreat

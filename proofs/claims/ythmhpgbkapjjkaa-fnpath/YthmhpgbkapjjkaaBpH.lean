/-
  Contract of the specification's BestPath, for all arguments.
-/
import Derived.Test.YthmhpgbkapjjkaaBpG
import Derived.Test.YthmhpgbkapjjkaaPlD
namespace Go.Proofs.Ythmhpgbkapjjkaa
open Go.ChangeShapes Go.WideShapes Go.ChangeAt Go.RowKit Go.Joins Go.Deep
set_option linter.unusedVariables false

/-- In the midst of BestPath: the hall in block hb, the search in sb, its memo in mb, where one stands in ab, the order so far. -/
structure BhI (w : World) (hb sb mb ab : Nat) (a p g : Int) (ad : Option Addr) (cap : Nat) (rs : List RPt) (q : RPt) (go : Option Addr) (co : Nat) (O : List Int) (wr : World) : Prop where
  ls : ∃ ms, LsI sb mb a p g ad cap rs ms w wr
  hl : wr.heap[hb]? = some (.cells #[.int .i64 a, .int .i64 p, .int .i64 g] 24 (0, 0))
  at' : w.heap.size ≤ ab ∧ wr.heap[ab]? = some (.cells #[.int .i64 q.ai, .int .i64 q.pl] 35 (0, 0))
  row : wr.ownsRow w.heap.size 3 1 (.slice go O.length co) O.length (inV O)
  ne : ∀ x, Value.ownBlock (.slice go O.length co) = some x → x ≠ mb
theorem typ_ne {w : World} {b c : Nat} {V U : Array Value} {t u : TypeId} (hb : w.heap[b]? = some (.cells V t (0, 0))) (hc : w.heap[c]? = some (.cells U u (0, 0))) (hn : t ≠ u) : b ≠ c := fun e => by
  subst e
  rw [hb] at hc
  simp at hc
  exact hn hc.2
section
variable {w : World} {hb sb mb ab : Nat} {a p g : Int} {ad : Option Addr} {cap : Nat} {rs : List RPt} {q : RPt} {go : Option Addr} {co : Nat} {O : List Int} {wr w' : World}
theorem BhI.low (h : BhI w hb sb mb ab a p g ad cap rs q go co O wr) : Below w.heap.size w wr := by
  obtain ⟨ms, k⟩ := h.ls
  exact k.low
theorem BhI.later (h : BhI w hb sb mb ab a p g ad cap rs q go co O wr) (hw : Below wr.heap.size wr w') : BhI w hb sb mb ab a p g ad cap rs q go co O w' := by
  obtain ⟨ms, k⟩ := h.ls
  exact ⟨⟨ms, k.later hw⟩, (hw.block _ (blkLt h.hl)).trans h.hl, ⟨h.at'.1, (hw.block _ (blkLt h.at'.2)).trans h.at'.2⟩, row_of h.row (fun x hx => hw.block x (row_lt h.row x hx).2), h.ne⟩
theorem BhI.deep {e : Ending} {v : Int} (h : BhI w hb sb mb ab a p g ad cap rs q go co O wr) (hq : LeQ sb mb a p g ad cap rs w wr v e w') : e = .returned (.int .i64 v) ∧ BhI w hb sb mb ab a p g ad cap rs q go co O w' := by
  obtain ⟨h1, h2, h3⟩ := hq
  obtain ⟨ms, k⟩ := h.ls
  refine ⟨h1, h2, (h3.block hb (blkLt h.hl) (fun e => typ_ne h.hl k.me (by decide) e)).trans h.hl, ⟨h.at'.1, (h3.block ab (blkLt h.at'.2) (fun e => typ_ne h.at'.2 k.me (by decide) e)).trans h.at'.2⟩, row_of h.row (fun x hx => h3.block x (row_lt h.row x hx).2 (h.ne x hx)), h.ne⟩
theorem BhI.hc (h : BhI w hb sb mb ab a p g ad cap rs q go co O wr) : wr.cell? ⟨hb, 0, none⟩ = some (.int .i64 a) ∧ wr.cell? ⟨hb, 1, none⟩ = some (.int .i64 p) ∧ wr.cell? ⟨hb, 2, none⟩ = some (.int .i64 g) := ⟨blkCell h.hl 0 _ rfl, blkCell h.hl 1 _ rfl, blkCell h.hl 2 _ rfl⟩
theorem BhI.ac (h : BhI w hb sb mb ab a p g ad cap rs q go co O wr) : (wr.cell? ⟨ab, 0, none⟩ = some (.int .i64 q.ai) ∧ wr.cell? ⟨ab, 1, none⟩ = some (.int .i64 q.pl)) ∧ wr.frozen? ⟨ab, 0, none⟩ = false ∧ wr.frozen? ⟨ab, 1, none⟩ = false := ⟨⟨blkCell h.at'.2 0 _ rfl, blkCell h.at'.2 1 _ rfl⟩, blkFree h.at'.2 0, blkFree h.at'.2 1⟩
theorem BhI.push {g1 c1 : Nat} {j : Int} (h : BhI w hb sb mb ab a p g ad cap rs q go co O wr) (hr : w'.ownsRow w.heap.size 3 1 (.slice (some ⟨g1, 0, none⟩) (O.length + 1) c1) (O.length + 1) (inV (O ++ [j]))) (hg : (wr.alloc (Obj.cells #[.int .i64 j] 3)).grownBy w' (Value.ownBlock (.slice go O.length co))) (hw : (go = some ⟨g1, 0, none⟩ ∧ c1 = co) ∨ (wr.alloc (Obj.cells #[.int .i64 j] 3)).heap.size ≤ g1) : BhI w hb sb mb ab a p g ad cap rs q (some ⟨g1, 0, none⟩) c1 (O ++ [j]) w' := by
  have hb0 := below_alloc wr (Obj.cells #[.int .i64 j] 3)
  have h2 := h.later hb0
  have hlt : mb < (wr.alloc (Obj.cells #[.int .i64 j] 3)).heap.size := by
    obtain ⟨ms, k⟩ := h2.ls
    exact blkLt k.me
  have e1 : (O ++ [j]).length = O.length + 1 := by simp
  have hkt : ∀ {k : Nat} {V : Array Value} {t : TypeId}, (wr.alloc (Obj.cells #[.int .i64 j] 3)).heap[k]? = some (.cells V t (0, 0)) → t ≠ 3 → w'.heap[k]? = some (.cells V t (0, 0)) := fun {k V t} h3 h4 => (hg.block k (blkLt h3) (fun e => by
    obtain ⟨cur, hc⟩ := row_type h2.row e.symm
    exact typ_ne h3 hc h4 rfl)).trans h3
  obtain ⟨ms, k⟩ := h2.ls
  have hlow : Below w.heap.size w w' := Fr.below k.low (fr_grown hg) k.low.size (fun x hx => (row_lt h2.row x hx).1)
  refine ⟨⟨ms, ⟨hkt k.se (by decide), (hg.block mb (blkLt k.me) (fun e => h2.ne mb e.symm rfl)).trans k.me, k.ok, hlow⟩⟩, hkt h2.hl (by decide), ⟨h2.at'.1, hkt h2.at'.2 (by decide)⟩, by rw [e1]; exact hr, fun x hx => ?_⟩
  simp only [Value.ownBlock, Option.some.injEq] at hx
  subst hx
  rcases hw with ⟨e, _⟩ | e
  · exact h2.ne g1 (by rw [e]; rfl)
  · omega
theorem BhI.set (h : BhI w hb sb mb ab a p g ad cap rs q go co O wr) (r : RPt) : BhI w hb sb mb ab a p g ad cap rs r go co O ((wr.setCell ⟨ab, 0, none⟩ (.int .i64 r.ai)).setCell ⟨ab, 1, none⟩ (.int .i64 r.pl)) := by
  obtain ⟨ms, k⟩ := h.ls
  obtain ⟨e1, e2⟩ := set_two h.at'.2 (.int .i64 r.ai) (.int .i64 r.pl)
  refine ⟨⟨ms, ⟨(e2 _ (fun e => typ_ne k.se h.at'.2 (by decide) e)).trans k.se, (e2 _ (fun e => typ_ne k.me h.at'.2 (by decide) e)).trans k.me, k.ok, (k.low.setCell h.at'.1 _).setCell h.at'.1 _⟩⟩, (e2 _ (fun e => typ_ne h.hl h.at'.2 (by decide) e)).trans h.hl, ⟨h.at'.1, e1⟩, row_of h.row (fun x hx => e2 x (fun e => ?_)), h.ne⟩
  obtain ⟨cur, hc⟩ := row_type h.row hx
  rw [e] at hc
  exact typ_ne h.at'.2 hc (by decide) rfl
end
/-- The memo as it is filled with -1. -/
def mfL (T j : Nat) : List Int := (List.range T).map fun i => if i < j then -1 else 0
theorem mf_len (T j : Nat) : (mfL T j).length = T := by simp [mfL]
theorem mf_full (T : Nat) : mfL T T = List.replicate T (-1) := by
  refine List.ext_getElem (by simp [mfL]) (fun i h1 h2 => ?_)
  have : i < T := by simpa [mfL] using h1
  simp [mfL, this]
theorem mf_row {W : World} {b T j : Nat} (h : W.rowIs b 3 T (fun i => .int .i64 (if i < j then -1 else 0))) : W.heap[b]? = some (.cells (inV (mfL T j)).toArray 3 (0, 0)) := by
  obtain ⟨c, h1, h2, h3⟩ := h
  rw [h1]
  congr 2
  refine Array.ext (by rw [h2]; simp [inV, mfL]) (fun i hi _ => ?_)
  have h4 := h3 i (by omega)
  rw [Array.getElem?_eq_getElem hi] at h4
  rw [Option.some.inj h4]
  simp [inV, mfL]
theorem memo_size {n : Nat} (h : n ≤ 9) : (n + 1) * 2 ^ n ≤ 5120 := Nat.le_trans (Nat.mul_le_mul (show n + 1 ≤ 10 by omega) (pow_le h)) (by decide)
theorem memo_shl {n : Nat} (h : n ≤ 9) : IntKind.i64.wrap (((n : Int) + 1) * 2 ^ n) = (((n + 1) * 2 ^ n : Nat) : Int) := by
  have e : ((n : Int) + 1) * 2 ^ n = (((n + 1) * 2 ^ n : Nat) : Int) := by simp
  have := memo_size h
  rw [e]
  exact wrap_id _ (by omega) (by omega)
theorem nil_row (w W : World) (h : w.heap.size ≤ W.heap.size) : (W.alloc (Obj.cells #[] 3)).ownsRow w.heap.size 3 1 (.slice (some ⟨W.heap.size, 0, none⟩) 0 0) 0 (inV []) := by
  obtain ⟨⟨k1, k2⟩, _⟩ := One.start W W.heap.size rfl
  refine ⟨k1, ?_⟩
  rcases k2 with k2 | ⟨g, cap, cur, e, hb, r⟩
  · exact .inl k2
  · exact .inr ⟨g, cap, cur, e, Nat.le_trans h hb, r⟩
/-- How far the order has come. -/
structure BhM (p g : Int) (rs : List RPt) (O : List Int) (mask last : Nat) (q : RPt) : Prop where
  len : O.length + (msL mask rs.length).length = rs.length
  mlt : mask < 2 ^ rs.length
  la : last ≤ rs.length
  at' : q = rs.getD last zPt
  all : O ++ bsO p g rs (msL mask rs.length).length (msL mask rs.length) q = bpO p g rs
theorem BhM.take {p g : Int} {rs : List RPt} {O : List Int} {mask last : Nat} {q : RPt} (h : BhM p g rs O mask last q) {i : Nat} (hi : i ∈ msL mask rs.length) (he : bsO p g rs (msL mask rs.length).length (msL mask rs.length) q = (i : Int) :: bsO p g rs (msL (mask ||| 2 ^ i) rs.length).length (msL (mask ||| 2 ^ i) rs.length) (rs.getD i zPt)) : BhM p g rs (O ++ [(i : Int)]) (mask ||| 2 ^ i) i (rs.getD i zPt) := by
  have hin := ((ms_mem _ _ _).1 hi).1
  have hp : 0 < (msL mask rs.length).length := List.length_pos_of_mem hi
  have hle : (msL (mask ||| 2 ^ i) rs.length).length = (msL mask rs.length).length - 1 := by rw [ms_or, List.length_erase_of_mem hi]
  refine ⟨?_, or_lt h.mlt hin, Nat.le_of_lt hin, rfl, ?_⟩
  · rw [hle, List.length_append]
    have := h.len
    simp only [List.length_cons, List.length_nil]
    omega
  · rw [List.append_assoc]
    have := h.all
    rw [he] at this
    exact this
set_option maxHeartbeats 16000000 in
set_option maxRecDepth 8000 in
theorem specBest_ok (a p g : Int) (ad : Option Addr) (cap : Nat) (rs : List RPt) (h9 : rs.length ≤ 9) (hh : hlB a p g = true) (hs : spsB a p rs = true) (w : World) (hrd : ReadsPt w.heap.size w ad rs) :
    Calls Try.prog 10 #[.agg #[.int .i64 a, .int .i64 p, .int .i64 g], .slice ad rs.length cap] w (AnsBp w (bpO p g rs) (bpV p g rs) 0) := by
  have HRd : Hid (ReadsPt w.heap.size w ad rs) := hrd
  have HPf : Hid (∀ W, Below w.heap.size w W → Calls Try.prog 41 #[.agg #[.int .i64 a, .int .i64 p, .int .i64 g], .slice ad rs.length cap] W fun e w' => e = .returned (.int .i64 0) ∧ Below W.heap.size W w') := fun W hb => by
    have := specPicks_any a p g ad cap rs (by omega) W ((hrd.below hb).mono hb.size)
    have e0 : skC a p g rs = 0 := by unfold skC pkC; rw [if_neg (by omega), if_neg (by omega), hh, hs]; rfl
    rwa [e0] at this
  have hLe0 : ∀ (sb mb : Nat), w.heap.size ≤ mb → ∀ (mask last : Nat) (ms : List Int) (W : World), mask < 2 ^ rs.length → last ≤ rs.length → LsI sb mb a p g ad cap rs ms w W → Calls Try.prog 43 #[.pointer (some ⟨sb, 0, none⟩), .int .i64 (mask : Int), .int .i64 (last : Int)] W (LeQ sb mb a p g ad cap rs w W (lvN p g rs mask (rs.getD last zPt))) := fun sb mb hm mask last ms W h1 h2 h3 => least_any sb mb a p g ad cap rs hh hs h9 w hrd hm _ mask last ms W rfl h1 h2 h3
  have HLe0 : Hid (∀ (sb mb : Nat), w.heap.size ≤ mb → ∀ (mask last : Nat) (ms : List Int) (W : World), mask < 2 ^ rs.length → last ≤ rs.length → LsI sb mb a p g ad cap rs ms w W → Calls Try.prog 43 #[.pointer (some ⟨sb, 0, none⟩), .int .i64 (mask : Int), .int .i64 (last : Int)] W (LeQ sb mb a p g ad cap rs w W (lvN p g rs mask (rs.getD last zPt)))) := hLe0
  have HM0 : Hid (BhM p g rs [] 0 rs.length zPt) := ⟨by
    have := lf_len (L := []) (n := rs.length) List.nodup_nil (by simp)
    rw [ms_zero]; simp at this ⊢; exact this, Nat.two_pow_pos _, Nat.le_refl _, by rw [List.getD_eq_getElem?_getD, List.getElem?_eq_none (Nat.le_refl _)]; rfl, by
    have := lf_len (L := []) (n := rs.length) List.nodup_nil (by simp)
    rw [ms_zero, List.nil_append]
    simp at this
    rw [this]; rfl⟩
  have HEnd : Hid (lvN p g rs 0 (rs.getD rs.length zPt) = bpV p g rs) := by
    have := lf_len (L := []) (n := rs.length) List.nodup_nil (by simp)
    show _ = _
    unfold lvN bpV
    rw [ms_zero]
    simp at this
    rw [this, List.getD_eq_getElem?_getD, List.getElem?_eq_none (Nat.le_refl _)]
    rfl
  have HN5 : Hid (2 ^ rs.length ≤ 512) := pow_le h9
  obtain ⟨T, hT⟩ : ∃ T, (rs.length + 1) * 2 ^ rs.length = T := ⟨_, rfl⟩
  have HT : Hid ((rs.length + 1) * 2 ^ rs.length = T) := hT
  have hshl := memo_shl h9
  have hTb := memo_size h9
  rw [hT] at hshl hTb
  have HShl : Hid (IntKind.i64.wrap (((rs.length : Int) + 1) * 2 ^ rs.length) = (T : Int)) := hshl
  have HJn : Hid (IntKind.u64.wrap (rs.length : Int) = (rs.length : Int) ∧ IntKind.i64.wrap ((rs.length : Int) + 1) = (rs.length : Int) + 1) := ⟨wrapU9 _ h9, wrap_id _ (by omega) (by omega)⟩
  have HMk0 : Hid (∀ W : World, (Instr.makeSlice 26 (.int .i64 (T : Int)) (.int .i64 (T : Int))).run Try.prog W = .ok (.slice (some ⟨W.heap.size, 0, none⟩) T T) (W.alloc (.cells (madeCells #[.int .i64 0] T) 3))) := fun W => run_make_row' 26 3 (.int .i64 0) 8 Try.underlying26 intInf rfl .i64 .i64 T (by omega) (by omega) W
  obtain ⟨hb, hhb⟩ : ∃ hb, hb = w.heap.size := ⟨_, rfl⟩
  obtain ⟨W1, hW1⟩ : ∃ W1, W1 = w.alloc (Obj.cells #[.int .i64 a, .int .i64 p, .int .i64 g] 24) := ⟨_, rfl⟩
  have HW1 : Hid (W1 = w.alloc (Obj.cells #[.int .i64 a, .int .i64 p, .int .i64 g] 24) ∧ hb = w.heap.size) := ⟨hW1, hhb⟩
  have HB1 : Hid (Below w.heap.size w W1 ∧ W1.heap[hb]? = some (.cells #[.int .i64 a, .int .i64 p, .int .i64 g] 24 (0, 0))) := by
    rw [hW1, hhb]; exact ⟨below_alloc _ _, heapNew _ _⟩
  clear hW1 hhb hT hshl hrd hLe0
  go_enter Try.func10, Try.ntmps10
  go_upto_region 1 with fail
  rw [← HW1.out.1, ← HW1.out.2]
  clear HW1
  have x0 := blkCell HB1.out.2 0 _ rfl
  have x1 := blkCell HB1.out.2 1 _ rfl
  have x2 := blkCell HB1.out.2 2 _ rfl
  simp only [List.getElem_toArray, List.getElem_cons_zero, List.getElem_cons_succ] at x0 x1 x2
  go_wp2_with fail
  (first | go_at_call 41 | skip)
  refine (HPf.out W1 HB1.out.1).mono ?_
  rintro e w2 ⟨rfl, hb2⟩
  have HB2 : Hid (Below w.heap.size w w2 ∧ w2.heap[hb]? = some (.cells #[.int .i64 a, .int .i64 p, .int .i64 g] 24 (0, 0))) := ⟨chain HB1.out.1 hb2, (hb2.block hb (blkLt HB1.out.2)).trans HB1.out.2⟩
  clear hb2 HB1 HPf x0 x1 x2
  go_upto_region 5 with fail
  have HS0 : Hid (∀ W : World, Below w2.heap.size w2 W → W.cell? ⟨hb, 0, none⟩ = some (.int .i64 a) ∧ W.cell? ⟨hb, 1, none⟩ = some (.int .i64 p) ∧ W.cell? ⟨hb, 2, none⟩ = some (.int .i64 g)) := fun W hW => by
    have k := (hW.block hb (blkLt HB2.out.2)).trans HB2.out.2
    exact ⟨blkCell k 0 _ rfl, blkCell k 1 _ rfl, blkCell k 2 _ rfl⟩
  refine wp_region_held_drew (S := fun W' => Below w2.heap.size w2 W') (by kernel_rfl) (below_drew _) (fun hH => ?_)
  have K0 : Hid (Below w2.heap.size w2 w2.drew) := below_drew _
  generalize w2.drew = V0 at *
  refine wpAnyH_take (i := 0) (v := .agg #[.int .i64 a, .int .i64 p, .int .i64 g]) rfl (by kernel_rfl) (by kernel_rfl) (by kernel_rfl) (fun _ _ _ h => h) (Or.inl ⟨by rfl, fun w hSw => by obtain ⟨f0, f1, f2⟩ := HS0.out w hSw; clear hSw; go_simp⟩) hH ?_
  refine wpAnyH_take (i := 1) (v := .slice ad rs.length cap) rfl (by kernel_rfl) (by kernel_rfl) (by kernel_rfl) (fun _ _ _ h => h) (Or.inl ⟨by rfl, fun w hSw => by clear hSw; go_simp⟩) hH ?_
  try simp only [Act.put, List.setIfInBounds_toArray, List.set_cons_zero, List.set_cons_succ, List.getElem_toArray, List.getElem_cons_succ, List.getElem_cons_zero]
  refine wpAnyH_take (i := 2) (v := .int .i64 (rs.length : Int)) rfl (by kernel_rfl) (by kernel_rfl) (by kernel_rfl) (fun _ _ _ h => h) (Or.inl ⟨by rfl, fun w hSw => by clear hSw; go_simp⟩) hH ?_
  try simp only [Act.put, List.setIfInBounds_toArray, List.set_cons_zero, List.set_cons_succ, List.getElem_toArray, List.getElem_cons_succ, List.getElem_cons_zero]
  refine wpAnyH_take (i := 3) (v := .int .i64 ((rs.length : Int) + 1)) rfl (by kernel_rfl) (by kernel_rfl) (by kernel_rfl) (fun _ _ _ h => h) (Or.inl ⟨by rfl, fun w hSw => by have f0 := HJn.out.2; clear hSw; go_simp⟩) hH ?_
  try simp only [Act.put, List.setIfInBounds_toArray, List.set_cons_zero, List.set_cons_succ, List.getElem_toArray, List.getElem_cons_succ, List.getElem_cons_zero]
  refine wpAnyH_take (i := 4) (v := .int .i64 (rs.length : Int)) rfl (by kernel_rfl) (by kernel_rfl) (by kernel_rfl) (fun _ _ _ h => h) (Or.inl ⟨by rfl, fun w hSw => by clear hSw; go_simp⟩) hH ?_
  try simp only [Act.put, List.setIfInBounds_toArray, List.set_cons_zero, List.set_cons_succ, List.getElem_toArray, List.getElem_cons_succ, List.getElem_cons_zero]
  refine wpAnyH_take (i := 5) (v := .int .u64 (rs.length : Int)) rfl (by kernel_rfl) (by kernel_rfl) (by kernel_rfl) (fun _ _ _ h => h) (Or.inl ⟨by rfl, fun w hSw => by have f0 := HJn.out.1; clear hSw; go_simp⟩) hH ?_
  try simp only [Act.put, List.setIfInBounds_toArray, List.set_cons_zero, List.set_cons_succ, List.getElem_toArray, List.getElem_cons_succ, List.getElem_cons_zero]
  refine wpAnyH_take (i := 6) (v := .int .i64 (T : Int)) rfl (by kernel_rfl) (by kernel_rfl) (by kernel_rfl) (fun _ _ _ h => h) (Or.inl ⟨by rfl, fun w hSw => by have f0 := HShl.out; clear hSw; go_simp⟩) hH ?_
  try simp only [Act.put, List.setIfInBounds_toArray, List.set_cons_zero, List.set_cons_succ, List.getElem_toArray, List.getElem_cons_succ, List.getElem_cons_zero]
  refine wpAnyH_ready (rs := [7]) (by kernel_rfl) (by simp) ?_
  refine AllReadyH.cons rfl (fun K hK => ?_) AllReadyH.nil
  have f0 := HMk0.out V0
  go_simp
  clear f0
  obtain ⟨V1, hV1⟩ : ∃ V, V = V0.alloc (.cells (madeCells #[.int .i64 0] T) 3) := ⟨_, rfl⟩
  obtain ⟨mb, hmb⟩ : ∃ n, n = V0.heap.size := ⟨_, rfl⟩
  rw [← hV1, ← hmb]
  have K1 : Hid (Below w2.heap.size w2 V1 ∧ V1.rowIs mb 3 T (fun _ => .int .i64 0) ∧ w2.heap.size ≤ mb) := by
    rw [hV1, hmb]
    exact ⟨chain K0.out (below_alloc _ _), World.rowIs_made _ _ _ _, K0.out.size⟩
  clear hV1 hmb K0
  refine hK.out _ _ K1.out.1 (fun _ => ?_)
  clear hK K
  try simp only [Act.put, List.setIfInBounds_toArray, List.set_cons_zero, List.set_cons_succ, List.getElem_toArray, List.getElem_cons_succ, List.getElem_cons_zero]
  refine wpAnyH_take (i := 8) (v := .agg #[.int .i64 a, .int .i64 p, .int .i64 g, .slice ad rs.length cap, .slice (some ⟨mb, 0, none⟩) T T]) rfl (by kernel_rfl) (by kernel_rfl) (by kernel_rfl) (fun _ _ _ h => h) (Or.inl ⟨by rfl, fun w hSw => by clear hSw; go_simp⟩) K1.out.1 ?_
  try simp only [Act.put, List.setIfInBounds_toArray, List.set_cons_zero, List.set_cons_succ, List.getElem_toArray, List.getElem_cons_succ, List.getElem_cons_zero]
  refine wpAnyH_ready (rs := [9]) (by kernel_rfl) (by simp) ?_
  refine AllReadyH.cons rfl (fun K hK => ?_) AllReadyH.nil
  go_simp
  obtain ⟨V2, hV2⟩ : ∃ V, V = V1.alloc (Obj.cells #[.int .i64 a, .int .i64 p, .int .i64 g, .slice ad rs.length cap, .slice (some ⟨mb, 0, none⟩) T T] 83) := ⟨_, rfl⟩
  obtain ⟨sb, hsb⟩ : ∃ n, n = V1.heap.size := ⟨_, rfl⟩
  rw [← hV2, ← hsb]
  have K2 : Hid ((Below w.heap.size w V2 ∧ V2.heap[hb]? = some (.cells #[.int .i64 a, .int .i64 p, .int .i64 g] 24 (0, 0))) ∧ V2.rowIs mb 3 T (fun _ => .int .i64 0) ∧ w.heap.size ≤ mb ∧ V2.heap[sb]? = some (.cells #[.int .i64 a, .int .i64 p, .int .i64 g, .slice ad rs.length cap, .slice (some ⟨mb, 0, none⟩) T T] 83 (0, 0)) ∧ w.heap.size ≤ sb) := by
    have hbv : Below w2.heap.size w2 V2 := by rw [hV2]; exact chain K1.out.1 (below_alloc _ _)
    refine ⟨⟨chain HB2.out.1 hbv, (hbv.block hb (blkLt HB2.out.2)).trans HB2.out.2⟩, by rw [hV2]; exact K1.out.2.1.alloc _, Nat.le_trans HB2.out.1.size K1.out.2.2, by rw [hV2, hsb]; exact heapNew _ _, ?_⟩
    rw [hsb]; exact Nat.le_trans HB2.out.1.size K1.out.1.size
  have K3 : Hid (Below w2.heap.size w2 V2) := by show Below _ _ _; rw [hV2]; exact chain K1.out.1 (below_alloc _ _)
  clear hV2 hsb K1
  refine hK.out _ _ K3.out (fun _ => ?_)
  clear hK K
  try simp only [Act.put, List.setIfInBounds_toArray, List.set_cons_zero, List.set_cons_succ, List.getElem_toArray, List.getElem_cons_succ, List.getElem_cons_zero]
  refine wpAnyH_take (i := 10) (v := .pointer (some ⟨sb, 0, none⟩)) rfl (by kernel_rfl) (by kernel_rfl) (by kernel_rfl) (fun _ _ _ h => h) (Or.inl ⟨by rfl, fun w hSw => by clear hSw; go_simp⟩) K3.out ?_
  try simp only [Act.put, List.setIfInBounds_toArray, List.set_cons_zero, List.set_cons_succ, List.getElem_toArray, List.getElem_cons_succ, List.getElem_cons_zero]
  refine wpAnyH_done (by kernel_rfl) ?_ _
  clear hH K3 HS0 HB2 HMk0 HShl HJn
  have hTi : (T : Int) ≤ 5120 := by omega
  go_wp2
  go_loopw [10] (fun c wr => ∃ j : Nat, j ≤ T ∧ c = .int .i64 (j : Int) ∧ (Below w.heap.size w wr ∧ wr.heap[hb]? = some (.cells #[.int .i64 a, .int .i64 p, .int .i64 g] 24 (0, 0))) ∧ wr.rowIs mb 3 T (fun i => .int .i64 (if i < j then -1 else 0)) ∧ wr.heap[sb]? = some (.cells #[.int .i64 a, .int .i64 p, .int .i64 g, .slice ad rs.length cap, .slice (some ⟨mb, 0, none⟩) T T] 83 (0, 0))) (fun c _ => T - (intOf c).toNat)
  case atStart => exact ⟨0, Nat.zero_le _, rfl, K2.out.1, K2.out.2.1.congr (fun i hi => by rw [if_neg (by omega)]), K2.out.2.2.2.1⟩
  case round =>
    obtain ⟨j, hj, rfl, hlo, hrow, hse⟩ := hrel
    have HLo : Hid (Below w.heap.size w wr ∧ wr.heap[hb]? = some (.cells #[.int .i64 a, .int .i64 p, .int .i64 g] 24 (0, 0))) := hlo
    have HRow : Hid (wr.rowIs mb 3 T (fun i => .int .i64 (if i < j then -1 else 0))) := hrow
    have HSe : Hid (wr.heap[sb]? = some (.cells #[.int .i64 a, .int .i64 p, .int .i64 g, .slice ad rs.length cap, .slice (some ⟨mb, 0, none⟩) T T] 83 (0, 0))) := hse
    have hmw : w.heap.size ≤ mb := K2.out.2.2.1
    have s4 := blkCell hse 4 _ rfl
    simp only [List.getElem_toArray, List.getElem_cons_zero, List.getElem_cons_succ] at s4
    clear hlo hrow hse
    by_cases hlt : j < T
    · have hlt' : (j : Int) < (T : Int) := by omega
      have d1 := HRow.out.cell hlt
      have d2 := HRow.out.frozen j
      have HN : Hid ((Below w.heap.size w (wr.setCell ⟨mb, j, none⟩ (.int .i64 (-1))) ∧ (wr.setCell ⟨mb, j, none⟩ (.int .i64 (-1))).heap[hb]? = some (.cells #[.int .i64 a, .int .i64 p, .int .i64 g] 24 (0, 0))) ∧ (wr.setCell ⟨mb, j, none⟩ (.int .i64 (-1))).rowIs mb 3 T (fun i => .int .i64 (if i < j + 1 then -1 else 0)) ∧ (wr.setCell ⟨mb, j, none⟩ (.int .i64 (-1))).heap[sb]? = some (.cells #[.int .i64 a, .int .i64 p, .int .i64 g, .slice ad rs.length cap, .slice (some ⟨mb, 0, none⟩) T T] 83 (0, 0))) := by
        obtain ⟨cur, hc, _⟩ := HRow.out
        refine ⟨⟨HLo.out.1.setCell hmw _, (heap_setCell_other _ _ _ _ (fun e => typ_ne HLo.out.2 hc (by decide) e)).trans HLo.out.2⟩, (HRow.out.set j _).congr (fun i hi => ?_), (heap_setCell_other _ _ _ _ (fun e => typ_ne HSe.out hc (by decide) e)).trans HSe.out⟩
        by_cases e : i = j
        · subst e; rw [if_pos rfl, if_pos (by omega)]
        · rw [if_neg e]
          by_cases e2 : i < j
          · rw [if_pos e2, if_pos (by omega)]
          · rw [if_neg e2, if_neg (by omega)]
      clear HRow HLo HSe
      go_wp2
      exact ⟨⟨j + 1, by omega, by go_num, HN.out⟩, by simp [intOf]; omega⟩
    · have hle : (T : Int) ≤ (j : Int) := by omega
      obtain rfl : j = T := by omega
      have HLs : Hid (LsI sb mb a p g ad cap rs (mfL j j) w wr) := by
        refine ⟨by rw [mf_len]; exact HSe.out, mf_row HRow.out, ?_, HLo.out.1⟩
        rw [mf_full, ← HT.out]
        exact MeOK.start p g rs
      have HHl : Hid (wr.heap[hb]? = some (.cells #[.int .i64 a, .int .i64 p, .int .i64 g] 24 (0, 0))) := HLo.out.2
      have HMb : Hid (w.heap.size ≤ mb) := hmw
      have HLe := HLe0.out sb mb hmw
      have HLe1 : Hid (∀ (mask last : Nat) (ms : List Int) (W : World), mask < 2 ^ rs.length → last ≤ rs.length → LsI sb mb a p g ad cap rs ms w W → Calls Try.prog 43 #[.pointer (some ⟨sb, 0, none⟩), .int .i64 (mask : Int), .int .i64 (last : Int)] W (LeQ sb mb a p g ad cap rs w W (lvN p g rs mask (rs.getD last zPt)))) := HLe
      clear HSe HRow HLo K2 HLe0 HLe hmw
      obtain ⟨ab, hab⟩ : ∃ ab, ab = wr.heap.size + 1 := ⟨_, rfl⟩
      obtain ⟨W5, hW5⟩ : ∃ W5, W5 = (wr.alloc (Obj.cells #[] 3)).alloc (Obj.cells #[.int .i64 0, .int .i64 0] 35) := ⟨_, rfl⟩
      have HI0 : Hid (BhI w hb sb mb ab a p g ad cap rs zPt (some ⟨wr.heap.size, 0, none⟩) 0 [] W5) := by
        have hbw : Below wr.heap.size wr W5 := by rw [hW5]; exact chain (below_alloc _ _) (below_alloc _ _)
        have hz := HLs.out.low.size
        have hx := heapNew (wr.alloc (Obj.cells #[] 3)) (Obj.cells #[.int .i64 0, .int .i64 0] 35)
        simp only [World.size_alloc] at hx
        refine (show BhI w hb sb mb ab a p g ad cap rs zPt (some ⟨wr.heap.size, 0, none⟩) 0 [] W5 from ⟨⟨_, HLs.out.later hbw⟩, (hbw.block _ (blkLt HHl.out)).trans HHl.out, ⟨by omega, by rw [hW5, hab]; exact hx⟩, ?_, fun x hx => ?_⟩)
        · have k := nil_row w wr hz
          rw [hW5]
          exact row_of k (fun x hx => (below_alloc _ _).block x (row_lt k x hx).2)
        · simp only [Value.ownBlock, Option.some.injEq] at hx
          have := blkLt HLs.out.me
          omega
      have HW5 : Hid (W5 = (wr.alloc (Obj.cells #[] 3)).alloc (Obj.cells #[.int .i64 0, .int .i64 0] 35) ∧ ab = wr.heap.size + 1) := ⟨hW5, hab⟩
      obtain ⟨gb, hgb⟩ : ∃ gb, gb = wr.heap.size := ⟨_, rfl⟩
      have HGb : Hid (gb = wr.heap.size) := hgb
      rw [← hgb] at HI0
      clear hW5 hab hgb HLs HHl
      go_upto_region 14 with fail
      rw [← HW5.out.1, ← HW5.out.2, ← HGb.out]
      clear HW5 HGb s4 hle
      go_loopw [11, 12, 13, 15] (fun os mk la _ wr => ∃ (O : List Int) (mask last : Nat) (q : RPt) (go : Option Addr) (co : Nat), BhM p g rs O mask last q ∧ os = .slice go O.length co ∧ mk = .int .i64 (mask : Int) ∧ la = .int .i64 (last : Int) ∧ BhI w hb sb mb ab a p g ad cap rs q go co O wr) (fun os _ _ _ _ => rs.length - (match os with | .slice _ n _ => n | _ => 0))
      case atStart => exact ⟨[], 0, rs.length, zPt, _, _, HM0.out, rfl, rfl, rfl, HI0.out⟩
      case round =>
        clear HI0 HM0
        obtain ⟨O, mask, last, q, go, co, hM, rfl, rfl, rfl, hI⟩ := hrel
        have HM : Hid (BhM p g rs O mask last q) := hM
        have HI : Hid (BhI w hb sb mb ab a p g ad cap rs q go co O wr) := hI
        clear hM hI
        by_cases hlt : O.length < rs.length
        · have hlt' : (O.length : Int) < (rs.length : Int) := by omega
          have hne : msL mask rs.length ≠ [] := fun e => by have := HM.out.len; rw [e] at this; simp at this; omega
          obtain ⟨i0, hi0, hv0, hsk, hall⟩ := bs_more (p := p) (g := g) (rs := rs) (q := q) hne
          have hi0' := (ms_mem _ _ _).1 hi0
          have HNext0 : Hid (BhM p g rs (O ++ [(i0 : Int)]) (mask ||| 2 ^ i0) i0 (rs.getD i0 zPt)) := HM.out.take hi0 hall
          have HTake : Hid (vuN p g rs mask q i0 = lvN p g rs mask q ∧ mask.testBit i0 = false ∧ i0 < rs.length) := ⟨hv0, hi0'.2, hi0'.1⟩
          have HSkip : Hid (∀ j, j < i0 → mask.testBit j = false → vuN p g rs mask q j ≠ lvN p g rs mask q) := fun j hj hb => hsk j hj ((ms_mem _ _ _).2 ⟨by omega, hb⟩)
          have HMk : Hid (mask < 2 ^ rs.length) := HM.out.mlt
          have HNx : Hid (∀ i, i < rs.length → mask.testBit i = false → (mask ||| 2 ^ i) < 2 ^ rs.length ∧ True) := fun i hi hb => ⟨or_lt HM.out.mlt hi, trivial⟩
          have HSpq : Hid (spB a p q = true) := by rw [HM.out.at']; exact sp_get hh hs last
          have HQq : Hid (q = rs.getD last zPt) := HM.out.at'
          have hlast := HM.out.la
          clear hne hi0 hi0' hv0 hsk hall HM
          go_wp2
          go_loopw [11, 12, 13, 15] (fun os mk la c wr => ∃ i : Nat, i ≤ i0 ∧ c = .int .i64 (i : Int) ∧ os = .slice go O.length co ∧ mk = .int .i64 (mask : Int) ∧ la = .int .i64 (last : Int) ∧ BhI w hb sb mb ab a p g ad cap rs q go co O wr) (fun _ _ _ c _ => rs.length - (intOf c).toNat)
          case atStart => exact ⟨0, Nat.zero_le _, rfl, rfl, rfl, rfl, HI.out⟩
          case round =>
            clear HI
            obtain ⟨i, hii0, rfl, rfl, rfl, rfl, hI⟩ := hrel
            have HI5 : Hid (BhI w hb sb mb ab a p g ad cap rs q go co O wr) := hI
            clear hI
            have hlt2 : i < rs.length := by have := HTake.out.2.2; omega
            rcases HRd.out with hnil | ⟨b0, o0, hae, hB0, hr⟩
            · rw [hnil] at hlt2; simp at hlt2
            have HRp : Hid (b0 < w.heap.size ∧ PtsAt w b0 o0 rs) := ⟨hB0, hr⟩
            subst hae
            clear hB0 hr HRd
            have HLe : Hid (∀ (mask last : Nat) (ms : List Int) (W : World), mask < 2 ^ rs.length → last ≤ rs.length → LsI sb mb a p g (some ⟨b0, o0, none⟩) cap rs ms w W → Calls Try.prog 43 #[.pointer (some ⟨sb, 0, none⟩), .int .i64 (mask : Int), .int .i64 (last : Int)] W (LeQ sb mb a p g (some ⟨b0, o0, none⟩) cap rs w W (lvN p g rs mask (rs.getD last zPt)))) := HLe1.out
            have HPt2 : Hid (∀ wq, Below w.heap.size w wq → wq.cell? ⟨b0, o0 + i * 2, none⟩ = some (.int .i64 (rs.getD i zPt).ai) ∧ wq.cell? ⟨b0, o0 + i * 2 + 1, none⟩ = some (.int .i64 (rs.getD i zPt).pl)) := fun wq hq => (HRp.out.2 i hlt2).below hq HRp.out.1
            have HNext : Hid (i = i0 → BhM p g rs (O ++ [(i : Int)]) (mask ||| 2 ^ i) i (rs.getD i zPt)) := fun h => by subst h; exact HNext0.out
            have hlti : (i : Int) < (rs.length : Int) := by omega
            have HJu : Hid (IntKind.u64.wrap (i : Int) = (i : Int)) := wrapU9 i (by omega)
            obtain ⟨qm, hqm⟩ : ∃ qm, (mask : Int) / 2 ^ i = qm := ⟨_, rfl⟩
            have hsh := shr_bit mask i (Nat.lt_of_lt_of_le HMk.out (Nat.le_trans HN5.out (by decide)))
            rw [hqm] at hsh
            have HQm : Hid ((mask : Int) / 2 ^ i = qm) := hqm
            clear hqm
            have HPt : Hid (∀ wq, BhI w hb sb mb ab a p g (some ⟨b0, o0, none⟩) cap rs q go co O wq → wq.cell? ⟨b0, o0 + i * 2, none⟩ = some (.int .i64 (rs.getD i zPt).ai) ∧ wq.cell? ⟨b0, o0 + i * 2 + 1, none⟩ = some (.int .i64 (rs.getD i zPt).pl)) := fun wq hq => (HRp.out.2 i hlt2).below hq.low HRp.out.1
            by_cases hbit : mask.testBit i = true
            · rw [if_pos hbit] at hsh
              have HSh : Hid (bits .and .i64 qm 1 = (1 : Int)) := by show _ = _; rw [hsh]; rfl
              have hii : i < i0 := by
                rcases Nat.lt_or_ge i i0 with k | k
                · exact k
                · have e : i = i0 := by omega
                  rw [e, HTake.out.2.1] at hbit
                  cases hbit
              clear hsh hbit
              go_upto_region 18 with fail
              refine wp_region_held_drew (S := fun W' => BhI w hb sb mb ab a p g (some ⟨b0, o0, none⟩) cap rs q go co O W') (by kernel_rfl) (HI5.out.later (below_drew _)) (fun hH => ?_)
              refine wpAnyH_take (i := 0) (v := .int .i64 (mask : Int)) rfl (by kernel_rfl) (by kernel_rfl) (by kernel_rfl) (fun _ _ _ h => h) (Or.inl ⟨by rfl, fun w hSw => by clear hSw; go_simp⟩) hH ?_
              refine wpAnyH_take (i := 1) (v := .int .i64 (i : Int)) rfl (by kernel_rfl) (by kernel_rfl) (by kernel_rfl) (fun _ _ _ h => h) (Or.inl ⟨by rfl, fun w hSw => by clear hSw; go_simp⟩) hH ?_
              try simp only [Act.put, List.setIfInBounds_toArray, List.set_cons_zero, List.set_cons_succ, List.getElem_toArray, List.getElem_cons_succ, List.getElem_cons_zero]
              refine wpAnyH_take (i := 2) (v := .int .u64 (i : Int)) rfl (by kernel_rfl) (by kernel_rfl) (by kernel_rfl) (fun _ _ _ h => h) (Or.inl ⟨by rfl, fun w hSw => by have f0 := HJu.out; clear hSw; go_simp⟩) hH ?_
              try simp only [Act.put, List.setIfInBounds_toArray, List.set_cons_zero, List.set_cons_succ, List.getElem_toArray, List.getElem_cons_succ, List.getElem_cons_zero]
              refine wpAnyH_take (i := 3) (v := .int .i64 qm) rfl (by kernel_rfl) (by kernel_rfl) (by kernel_rfl) (fun _ _ _ h => h) (Or.inl ⟨by rfl, fun w hSw => by have f0 := HQm.out; clear hSw; go_simp⟩) hH ?_
              try simp only [Act.put, List.setIfInBounds_toArray, List.set_cons_zero, List.set_cons_succ, List.getElem_toArray, List.getElem_cons_succ, List.getElem_cons_zero]
              refine wpAnyH_take (i := 4) (v := .int .i64 1) rfl (by kernel_rfl) (by kernel_rfl) (by kernel_rfl) (fun _ _ _ h => h) (Or.inl ⟨by rfl, fun w hSw => by have f0 := HSh.out; clear hSw; go_simp⟩) hH ?_
              try simp only [Act.put, List.setIfInBounds_toArray, List.set_cons_zero, List.set_cons_succ, List.getElem_toArray, List.getElem_cons_succ, List.getElem_cons_zero]
              refine wpAnyH_take (i := 5) (v := .bool true) rfl (by kernel_rfl) (by kernel_rfl) (by kernel_rfl) (fun _ _ _ h => h) (Or.inl ⟨by rfl, fun w hSw => by clear hSw; go_simp⟩) hH ?_
              try simp only [Act.put, List.setIfInBounds_toArray, List.set_cons_zero, List.set_cons_succ, List.getElem_toArray, List.getElem_cons_succ, List.getElem_cons_zero]
              refine wpAnyH_take (i := 6) (v := .bool true) rfl (by kernel_rfl) (by kernel_rfl) (by kernel_rfl) (fun _ _ _ h => h) (Or.inl ⟨by rfl, fun w hSw => by clear hSw; go_simp⟩) hH ?_
              try simp only [Act.put, List.setIfInBounds_toArray, List.set_cons_zero, List.set_cons_succ, List.getElem_toArray, List.getElem_cons_succ, List.getElem_cons_zero]
              refine wpAnyH_take (i := 7) (v := undef) rfl (by kernel_rfl) (by kernel_rfl) (by kernel_rfl) (fun _ _ _ h => h) (Or.inr ⟨by rfl, rfl⟩) hH ?_
              try simp only [Act.put, List.setIfInBounds_toArray, List.set_cons_zero, List.set_cons_succ, List.getElem_toArray, List.getElem_cons_succ, List.getElem_cons_zero]
              refine wpAnyH_take (i := 8) (v := undef) rfl (by kernel_rfl) (by kernel_rfl) (by kernel_rfl) (fun _ _ _ h => h) (Or.inr ⟨by rfl, rfl⟩) hH ?_
              try simp only [Act.put, List.setIfInBounds_toArray, List.set_cons_zero, List.set_cons_succ, List.getElem_toArray, List.getElem_cons_succ, List.getElem_cons_zero]
              refine wpAnyH_take (i := 9) (v := undef) rfl (by kernel_rfl) (by kernel_rfl) (by kernel_rfl) (fun _ _ _ h => h) (Or.inr ⟨by rfl, rfl⟩) hH ?_
              try simp only [Act.put, List.setIfInBounds_toArray, List.set_cons_zero, List.set_cons_succ, List.getElem_toArray, List.getElem_cons_succ, List.getElem_cons_zero]
              refine wpAnyH_take (i := 10) (v := undef) rfl (by kernel_rfl) (by kernel_rfl) (by kernel_rfl) (fun _ _ _ h => h) (Or.inr ⟨by rfl, rfl⟩) hH ?_
              try simp only [Act.put, List.setIfInBounds_toArray, List.set_cons_zero, List.set_cons_succ, List.getElem_toArray, List.getElem_cons_succ, List.getElem_cons_zero]
              refine wpAnyH_take (i := 11) (v := undef) rfl (by kernel_rfl) (by kernel_rfl) (by kernel_rfl) (fun _ _ _ h => h) (Or.inr ⟨by rfl, rfl⟩) hH ?_
              try simp only [Act.put, List.setIfInBounds_toArray, List.set_cons_zero, List.set_cons_succ, List.getElem_toArray, List.getElem_cons_succ, List.getElem_cons_zero]
              refine wpAnyH_take (i := 12) (v := undef) rfl (by kernel_rfl) (by kernel_rfl) (by kernel_rfl) (fun _ _ _ h => h) (Or.inr ⟨by rfl, rfl⟩) hH ?_
              try simp only [Act.put, List.setIfInBounds_toArray, List.set_cons_zero, List.set_cons_succ, List.getElem_toArray, List.getElem_cons_succ, List.getElem_cons_zero]
              refine wpAnyH_take (i := 13) (v := undef) rfl (by kernel_rfl) (by kernel_rfl) (by kernel_rfl) (fun _ _ _ h => h) (Or.inr ⟨by rfl, rfl⟩) hH ?_
              try simp only [Act.put, List.setIfInBounds_toArray, List.set_cons_zero, List.set_cons_succ, List.getElem_toArray, List.getElem_cons_succ, List.getElem_cons_zero]
              refine wpAnyH_take (i := 14) (v := undef) rfl (by kernel_rfl) (by kernel_rfl) (by kernel_rfl) (fun _ _ _ h => h) (Or.inr ⟨by rfl, rfl⟩) hH ?_
              try simp only [Act.put, List.setIfInBounds_toArray, List.set_cons_zero, List.set_cons_succ, List.getElem_toArray, List.getElem_cons_succ, List.getElem_cons_zero]
              refine wpAnyH_take (i := 15) (v := undef) rfl (by kernel_rfl) (by kernel_rfl) (by kernel_rfl) (fun _ _ _ h => h) (Or.inr ⟨by rfl, rfl⟩) hH ?_
              try simp only [Act.put, List.setIfInBounds_toArray, List.set_cons_zero, List.set_cons_succ, List.getElem_toArray, List.getElem_cons_succ, List.getElem_cons_zero]
              refine wpAnyH_take (i := 16) (v := undef) rfl (by kernel_rfl) (by kernel_rfl) (by kernel_rfl) (fun _ _ _ h => h) (Or.inr ⟨by rfl, rfl⟩) hH ?_
              try simp only [Act.put, List.setIfInBounds_toArray, List.set_cons_zero, List.set_cons_succ, List.getElem_toArray, List.getElem_cons_succ, List.getElem_cons_zero]
              refine wpAnyH_take (i := 17) (v := undef) rfl (by kernel_rfl) (by kernel_rfl) (by kernel_rfl) (fun _ _ _ h => h) (Or.inr ⟨by rfl, rfl⟩) hH ?_
              try simp only [Act.put, List.setIfInBounds_toArray, List.set_cons_zero, List.set_cons_succ, List.getElem_toArray, List.getElem_cons_succ, List.getElem_cons_zero]
              refine wpAnyH_take (i := 18) (v := undef) rfl (by kernel_rfl) (by kernel_rfl) (by kernel_rfl) (fun _ _ _ h => h) (Or.inr ⟨by rfl, rfl⟩) hH ?_
              try simp only [Act.put, List.setIfInBounds_toArray, List.set_cons_zero, List.set_cons_succ, List.getElem_toArray, List.getElem_cons_succ, List.getElem_cons_zero]
              refine wpAnyH_take (i := 19) (v := undef) rfl (by kernel_rfl) (by kernel_rfl) (by kernel_rfl) (fun _ _ _ h => h) (Or.inr ⟨by rfl, rfl⟩) hH ?_
              try simp only [Act.put, List.setIfInBounds_toArray, List.set_cons_zero, List.set_cons_succ, List.getElem_toArray, List.getElem_cons_succ, List.getElem_cons_zero]
              refine wpAnyH_take (i := 20) (v := undef) rfl (by kernel_rfl) (by kernel_rfl) (by kernel_rfl) (fun _ _ _ h => h) (Or.inr ⟨by rfl, rfl⟩) hH ?_
              try simp only [Act.put, List.setIfInBounds_toArray, List.set_cons_zero, List.set_cons_succ, List.getElem_toArray, List.getElem_cons_succ, List.getElem_cons_zero]
              refine wpAnyH_take (i := 21) (v := undef) rfl (by kernel_rfl) (by kernel_rfl) (by kernel_rfl) (fun _ _ _ h => h) (Or.inr ⟨by rfl, rfl⟩) hH ?_
              try simp only [Act.put, List.setIfInBounds_toArray, List.set_cons_zero, List.set_cons_succ, List.getElem_toArray, List.getElem_cons_succ, List.getElem_cons_zero]
              refine wpAnyH_take (i := 22) (v := undef) rfl (by kernel_rfl) (by kernel_rfl) (by kernel_rfl) (fun _ _ _ h => h) (Or.inr ⟨by rfl, rfl⟩) hH ?_
              try simp only [Act.put, List.setIfInBounds_toArray, List.set_cons_zero, List.set_cons_succ, List.getElem_toArray, List.getElem_cons_succ, List.getElem_cons_zero]
              refine wpAnyH_take (i := 23) (v := undef) rfl (by kernel_rfl) (by kernel_rfl) (by kernel_rfl) (fun _ _ _ h => h) (Or.inr ⟨by rfl, rfl⟩) hH ?_
              try simp only [Act.put, List.setIfInBounds_toArray, List.set_cons_zero, List.set_cons_succ, List.getElem_toArray, List.getElem_cons_succ, List.getElem_cons_zero]
              refine wpAnyH_take (i := 24) (v := undef) rfl (by kernel_rfl) (by kernel_rfl) (by kernel_rfl) (fun _ _ _ h => h) (Or.inr ⟨by rfl, rfl⟩) hH ?_
              try simp only [Act.put, List.setIfInBounds_toArray, List.set_cons_zero, List.set_cons_succ, List.getElem_toArray, List.getElem_cons_succ, List.getElem_cons_zero]
              refine wpAnyH_take (i := 25) (v := undef) rfl (by kernel_rfl) (by kernel_rfl) (by kernel_rfl) (fun _ _ _ h => h) (Or.inr ⟨by rfl, rfl⟩) hH ?_
              try simp only [Act.put, List.setIfInBounds_toArray, List.set_cons_zero, List.set_cons_succ, List.getElem_toArray, List.getElem_cons_succ, List.getElem_cons_zero]
              refine wpAnyH_take (i := 26) (v := undef) rfl (by kernel_rfl) (by kernel_rfl) (by kernel_rfl) (fun _ _ _ h => h) (Or.inr ⟨by rfl, rfl⟩) hH ?_
              try simp only [Act.put, List.setIfInBounds_toArray, List.set_cons_zero, List.set_cons_succ, List.getElem_toArray, List.getElem_cons_succ, List.getElem_cons_zero]
              refine wpAnyH_take (i := 27) (v := undef) rfl (by kernel_rfl) (by kernel_rfl) (by kernel_rfl) (fun _ _ _ h => h) (Or.inr ⟨by rfl, rfl⟩) hH ?_
              try simp only [Act.put, List.setIfInBounds_toArray, List.set_cons_zero, List.set_cons_succ, List.getElem_toArray, List.getElem_cons_succ, List.getElem_cons_zero]
              refine wpAnyH_take (i := 28) (v := .bool true) rfl (by kernel_rfl) (by kernel_rfl) (by kernel_rfl) (fun _ _ _ h => h) (Or.inl ⟨by rfl, fun w hSw => by clear hSw; go_simp⟩) hH ?_
              try simp only [Act.put, List.setIfInBounds_toArray, List.set_cons_zero, List.set_cons_succ, List.getElem_toArray, List.getElem_cons_succ, List.getElem_cons_zero]
              refine wpAnyH_done (by kernel_rfl) ?_ _
              clear hH
              have HI9 : Hid (BhI w hb sb mb ab a p g (some ⟨b0, o0, none⟩) cap rs q go co O wr.drew) := HI5.out.later (below_drew _)
              clear HI5
              go_wp2
              exact ⟨⟨i + 1, by omega, by go_num, rfl, rfl, rfl, HI9.out⟩, by simp [intOf]; omega⟩
            · have hbit' : mask.testBit i = false := by simpa using hbit
              rw [if_neg hbit] at hsh
              have HSh : Hid (bits .and .i64 qm 1 = (0 : Int)) := by show _ = _; rw [hsh]; rfl
              have hsk := HSkip.out i
              obtain ⟨hmo, hko⟩ := HNx.out i hlt2 hbit'
              have hvb := vu_bd hh hs h9 mask HSpq.out i
              have HIH : Hid (∀ wq, BhI w hb sb mb ab a p g (some ⟨b0, o0, none⟩) cap rs q go co O wq → Calls Try.prog 43 #[.pointer (some ⟨sb, 0, none⟩), .int .i64 ((mask ||| 2 ^ i : Nat) : Int), .int .i64 (i : Int)] wq fun e w' => e = .returned (.int .i64 (lvN p g rs (mask ||| 2 ^ i) (rs.getD i zPt))) ∧ BhI w hb sb mb ab a p g (some ⟨b0, o0, none⟩) cap rs q go co O w') := fun wq hq => by
                obtain ⟨ms', hls'⟩ := hq.ls
                exact (HLe.out (mask ||| 2 ^ i) i ms' wq hmo (by omega) hls').mono (fun e w' h => hq.deep h)
              have HIM : Hid (∀ wq, BhI w hb sb mb ab a p g (some ⟨b0, o0, none⟩) cap rs q go co O wq → Calls Try.prog 43 #[.pointer (some ⟨sb, 0, none⟩), .int .i64 (mask : Int), .int .i64 (last : Int)] wq fun e w' => e = .returned (.int .i64 (lvN p g rs mask q)) ∧ BhI w hb sb mb ab a p g (some ⟨b0, o0, none⟩) cap rs q go co O w') := fun wq hq => by
                obtain ⟨ms', hls'⟩ := hq.ls
                have := HLe.out mask last ms' wq HMk.out hlast hls'
                rw [← HQq.out] at this
                exact this.mono (fun e w' h => hq.deep h)
              have HFi : Hid (∀ W, Calls Try.prog 42 #[.agg #[.int .i64 a, .int .i64 p, .int .i64 g], .agg #[.int .i64 q.ai, .int .i64 q.pl], .agg #[.int .i64 (rs.getD i zPt).ai, .int .i64 (rs.getD i zPt).pl]] W fun e w' => e = .returned (.int .i64 (farN p g q (rs.getD i zPt))) ∧ Below W.heap.size W w') := fun W => specFar_any a p g q.ai q.pl _ _ hh HSpq.out (sp_get hh hs i) W
              have HOr : Hid (bits .or .i64 (mask : Int) ((2 ^ i : Nat) : Int) = ((mask ||| 2 ^ i : Nat) : Int)) := orI mask (2 ^ i) (Nat.lt_of_lt_of_le HMk.out (Nat.le_trans HN5.out (by decide))) (Nat.lt_of_le_of_lt (pow_le (x := i) (by omega)) (by decide))
              have HPi : Hid (IntKind.i64.wrap ((2 : Int) ^ i) = ((2 ^ i : Nat) : Int)) := (Go.IntWalk.i64_left _).trans (powI i (by omega))
              have HSk : Hid (i < i0 → vuN p g rs mask q i ≠ lvN p g rs mask q) := fun h => hsk h hbit'
              have HEq : Hid (i = i0 → vuN p g rs mask q i = lvN p g rs mask q) := fun h => by rw [h]; exact HTake.out.1
              have HVu : Hid (vuN p g rs mask q i = farN p g q (rs.getD i zPt) + lvN p g rs (mask ||| 2 ^ i) (rs.getD i zPt)) := rfl
              obtain ⟨mo, hmoe⟩ : ∃ mo, mo = mask ||| 2 ^ i := ⟨_, rfl⟩
              obtain ⟨pi, hpie⟩ : ∃ pi, pi = 2 ^ i := ⟨_, rfl⟩
              obtain ⟨r, hre⟩ : ∃ r, r = rs.getD i zPt := ⟨_, rfl⟩
              rw [← hmoe, ← hre] at HVu hvb HIH
              rw [← hre] at HFi HPt
              rw [← hmoe, ← hpie] at HOr
              rw [← hpie] at HPi
              have HMo : Hid (mo = mask ||| 2 ^ i ∧ r = rs.getD i zPt) := ⟨hmoe, hre⟩
              clear hsh hbit hsk hmo hko hmoe hpie hre
              generalize lvN p g rs mo r = lv at *
              generalize farN p g q r = fa at *
              obtain ⟨vu, hvu⟩ : ∃ vu, vuN p g rs mask q i = vu := ⟨_, rfl⟩
              rw [hvu] at HVu HSk HEq
              obtain ⟨lm, hlm⟩ : ∃ lm, lvN p g rs mask q = lm := ⟨_, rfl⟩
              rw [hlm] at HIM HSk HEq
              obtain ⟨ne, hne⟩ : ∃ ne, (vu != lm) = ne := ⟨_, rfl⟩
              have HNe : Hid ((vu != lm) = ne) := hne
              have hwv : IntKind.i64.wrap (fa + lv) = vu := by rw [wrap_id _ (by omega) (by omega)]; exact HVu.out.symm
              have HWv : Hid (IntKind.i64.wrap (fa + lv) = vu) := hwv
              clear hwv hvb hne hvu hlm
              have HS : Hid (∀ wq : World, BhI w hb sb mb ab a p g (some ⟨b0, o0, none⟩) cap rs q go co O wq → (wq.cell? ⟨hb, 0, none⟩ = some (.int .i64 a) ∧ wq.cell? ⟨hb, 1, none⟩ = some (.int .i64 p) ∧ wq.cell? ⟨hb, 2, none⟩ = some (.int .i64 g)) ∧ (wq.cell? ⟨ab, 0, none⟩ = some (.int .i64 q.ai) ∧ wq.cell? ⟨ab, 1, none⟩ = some (.int .i64 q.pl)) ∧ wq.cell? ⟨b0, o0 + i * 2, none⟩ = some (.int .i64 r.ai) ∧ wq.cell? ⟨b0, o0 + i * 2 + 1, none⟩ = some (.int .i64 r.pl)) := fun wq hq => ⟨hq.hc, hq.ac.1, HPt.out wq hq⟩
              go_upto_region 18 with fail
              refine wp_region_held_drew (S := fun W' => BhI w hb sb mb ab a p g (some ⟨b0, o0, none⟩) cap rs q go co O W') (by kernel_rfl) (HI5.out.later (below_drew _)) (fun hH => ?_)
              refine wpAnyH_take (i := 0) (v := .int .i64 (mask : Int)) rfl (by kernel_rfl) (by kernel_rfl) (by kernel_rfl) (fun _ _ _ h => h) (Or.inl ⟨by rfl, fun w hSw => by clear hSw; go_simp⟩) hH ?_
              refine wpAnyH_take (i := 1) (v := .int .i64 (i : Int)) rfl (by kernel_rfl) (by kernel_rfl) (by kernel_rfl) (fun _ _ _ h => h) (Or.inl ⟨by rfl, fun w hSw => by clear hSw; go_simp⟩) hH ?_
              try simp only [Act.put, List.setIfInBounds_toArray, List.set_cons_zero, List.set_cons_succ, List.getElem_toArray, List.getElem_cons_succ, List.getElem_cons_zero]
              refine wpAnyH_take (i := 2) (v := .int .u64 (i : Int)) rfl (by kernel_rfl) (by kernel_rfl) (by kernel_rfl) (fun _ _ _ h => h) (Or.inl ⟨by rfl, fun w hSw => by have f0 := HJu.out; clear hSw; go_simp⟩) hH ?_
              try simp only [Act.put, List.setIfInBounds_toArray, List.set_cons_zero, List.set_cons_succ, List.getElem_toArray, List.getElem_cons_succ, List.getElem_cons_zero]
              refine wpAnyH_take (i := 3) (v := .int .i64 qm) rfl (by kernel_rfl) (by kernel_rfl) (by kernel_rfl) (fun _ _ _ h => h) (Or.inl ⟨by rfl, fun w hSw => by have f0 := HQm.out; clear hSw; go_simp⟩) hH ?_
              try simp only [Act.put, List.setIfInBounds_toArray, List.set_cons_zero, List.set_cons_succ, List.getElem_toArray, List.getElem_cons_succ, List.getElem_cons_zero]
              refine wpAnyH_take (i := 4) (v := .int .i64 0) rfl (by kernel_rfl) (by kernel_rfl) (by kernel_rfl) (fun _ _ _ h => h) (Or.inl ⟨by rfl, fun w hSw => by have f0 := HSh.out; clear hSw; go_simp⟩) hH ?_
              try simp only [Act.put, List.setIfInBounds_toArray, List.set_cons_zero, List.set_cons_succ, List.getElem_toArray, List.getElem_cons_succ, List.getElem_cons_zero]
              refine wpAnyH_take (i := 5) (v := .bool false) rfl (by kernel_rfl) (by kernel_rfl) (by kernel_rfl) (fun _ _ _ h => h) (Or.inl ⟨by rfl, fun w hSw => by clear hSw; go_simp⟩) hH ?_
              try simp only [Act.put, List.setIfInBounds_toArray, List.set_cons_zero, List.set_cons_succ, List.getElem_toArray, List.getElem_cons_succ, List.getElem_cons_zero]
              refine wpAnyH_take (i := 6) (v := .bool false) rfl (by kernel_rfl) (by kernel_rfl) (by kernel_rfl) (fun _ _ _ h => h) (Or.inl ⟨by rfl, fun w hSw => by clear hSw; go_simp⟩) hH ?_
              try simp only [Act.put, List.setIfInBounds_toArray, List.set_cons_zero, List.set_cons_succ, List.getElem_toArray, List.getElem_cons_succ, List.getElem_cons_zero]
              refine wpAnyH_take (i := 7) (v := .agg #[.int .i64 a, .int .i64 p, .int .i64 g]) rfl (by kernel_rfl) (by kernel_rfl) (by kernel_rfl) (fun _ _ _ h => h) (Or.inl ⟨by rfl, fun w hSw => by obtain ⟨⟨f0, f1, f2⟩, _, _⟩ := HS.out w hSw; clear hSw; go_simp⟩) hH ?_
              try simp only [Act.put, List.setIfInBounds_toArray, List.set_cons_zero, List.set_cons_succ, List.getElem_toArray, List.getElem_cons_succ, List.getElem_cons_zero]
              refine wpAnyH_take (i := 8) (v := .agg #[.int .i64 q.ai, .int .i64 q.pl]) rfl (by kernel_rfl) (by kernel_rfl) (by kernel_rfl) (fun _ _ _ h => h) (Or.inl ⟨by rfl, fun w hSw => by obtain ⟨_, ⟨f0, f1⟩, _⟩ := HS.out w hSw; clear hSw; go_simp⟩) hH ?_
              try simp only [Act.put, List.setIfInBounds_toArray, List.set_cons_zero, List.set_cons_succ, List.getElem_toArray, List.getElem_cons_succ, List.getElem_cons_zero]
              refine wpAnyH_take (i := 9) (v := .slice (some ⟨b0, o0, none⟩) rs.length cap) rfl (by kernel_rfl) (by kernel_rfl) (by kernel_rfl) (fun _ _ _ h => h) (Or.inl ⟨by rfl, fun w hSw => by clear hSw; go_simp⟩) hH ?_
              try simp only [Act.put, List.setIfInBounds_toArray, List.set_cons_zero, List.set_cons_succ, List.getElem_toArray, List.getElem_cons_succ, List.getElem_cons_zero]
              refine wpAnyH_take (i := 10) (v := .int .i64 (i : Int)) rfl (by kernel_rfl) (by kernel_rfl) (by kernel_rfl) (fun _ _ _ h => h) (Or.inl ⟨by rfl, fun w hSw => by clear hSw; go_simp⟩) hH ?_
              try simp only [Act.put, List.setIfInBounds_toArray, List.set_cons_zero, List.set_cons_succ, List.getElem_toArray, List.getElem_cons_succ, List.getElem_cons_zero]
              refine wpAnyH_take (i := 11) (v := .pointer (some ⟨b0, o0 + i * 2, none⟩)) rfl (by kernel_rfl) (by kernel_rfl) (by kernel_rfl) (fun _ _ _ h => h) (Or.inl ⟨by rfl, fun w hSw => by clear hSw; go_simp⟩) hH ?_
              try simp only [Act.put, List.setIfInBounds_toArray, List.set_cons_zero, List.set_cons_succ, List.getElem_toArray, List.getElem_cons_succ, List.getElem_cons_zero]
              refine wpAnyH_take (i := 12) (v := .agg #[.int .i64 r.ai, .int .i64 r.pl]) rfl (by kernel_rfl) (by kernel_rfl) (by kernel_rfl) (fun _ _ _ h => h) (Or.inl ⟨by rfl, fun w hSw => by obtain ⟨_, _, f0, f1⟩ := HS.out w hSw; clear hSw; go_simp⟩) hH ?_
              try simp only [Act.put, List.setIfInBounds_toArray, List.set_cons_zero, List.set_cons_succ, List.getElem_toArray, List.getElem_cons_succ, List.getElem_cons_zero]
              refine wpAnyH_take (i := 14) (v := .pointer (some ⟨sb, 0, none⟩)) rfl (by kernel_rfl) (by kernel_rfl) (by kernel_rfl) (fun _ _ _ h => h) (Or.inl ⟨by rfl, fun w hSw => by clear hSw; go_simp⟩) hH ?_
              try simp only [Act.put, List.setIfInBounds_toArray, List.set_cons_zero, List.set_cons_succ, List.getElem_toArray, List.getElem_cons_succ, List.getElem_cons_zero]
              refine wpAnyH_take (i := 15) (v := .int .i64 (mask : Int)) rfl (by kernel_rfl) (by kernel_rfl) (by kernel_rfl) (fun _ _ _ h => h) (Or.inl ⟨by rfl, fun w hSw => by clear hSw; go_simp⟩) hH ?_
              try simp only [Act.put, List.setIfInBounds_toArray, List.set_cons_zero, List.set_cons_succ, List.getElem_toArray, List.getElem_cons_succ, List.getElem_cons_zero]
              refine wpAnyH_take (i := 16) (v := .int .i64 (i : Int)) rfl (by kernel_rfl) (by kernel_rfl) (by kernel_rfl) (fun _ _ _ h => h) (Or.inl ⟨by rfl, fun w hSw => by clear hSw; go_simp⟩) hH ?_
              try simp only [Act.put, List.setIfInBounds_toArray, List.set_cons_zero, List.set_cons_succ, List.getElem_toArray, List.getElem_cons_succ, List.getElem_cons_zero]
              refine wpAnyH_take (i := 17) (v := .int .u64 (i : Int)) rfl (by kernel_rfl) (by kernel_rfl) (by kernel_rfl) (fun _ _ _ h => h) (Or.inl ⟨by rfl, fun w hSw => by have f0 := HJu.out; clear hSw; go_simp⟩) hH ?_
              try simp only [Act.put, List.setIfInBounds_toArray, List.set_cons_zero, List.set_cons_succ, List.getElem_toArray, List.getElem_cons_succ, List.getElem_cons_zero]
              refine wpAnyH_take (i := 18) (v := .int .i64 (pi : Int)) rfl (by kernel_rfl) (by kernel_rfl) (by kernel_rfl) (fun _ _ _ h => h) (Or.inl ⟨by rfl, fun w hSw => by have f0 := HPi.out; clear hSw; go_simp⟩) hH ?_
              try simp only [Act.put, List.setIfInBounds_toArray, List.set_cons_zero, List.set_cons_succ, List.getElem_toArray, List.getElem_cons_succ, List.getElem_cons_zero]
              refine wpAnyH_take (i := 19) (v := .int .i64 (mo : Int)) rfl (by kernel_rfl) (by kernel_rfl) (by kernel_rfl) (fun _ _ _ h => h) (Or.inl ⟨by rfl, fun w hSw => by have f0 := HOr.out; clear hSw; go_simp⟩) hH ?_
              try simp only [Act.put, List.setIfInBounds_toArray, List.set_cons_zero, List.set_cons_succ, List.getElem_toArray, List.getElem_cons_succ, List.getElem_cons_zero]
              refine wpAnyH_take (i := 20) (v := .int .i64 (i : Int)) rfl (by kernel_rfl) (by kernel_rfl) (by kernel_rfl) (fun _ _ _ h => h) (Or.inl ⟨by rfl, fun w hSw => by clear hSw; go_simp⟩) hH ?_
              try simp only [Act.put, List.setIfInBounds_toArray, List.set_cons_zero, List.set_cons_succ, List.getElem_toArray, List.getElem_cons_succ, List.getElem_cons_zero]
              refine wpAnyH_take (i := 23) (v := .pointer (some ⟨sb, 0, none⟩)) rfl (by kernel_rfl) (by kernel_rfl) (by kernel_rfl) (fun _ _ _ h => h) (Or.inl ⟨by rfl, fun w hSw => by clear hSw; go_simp⟩) hH ?_
              try simp only [Act.put, List.setIfInBounds_toArray, List.set_cons_zero, List.set_cons_succ, List.getElem_toArray, List.getElem_cons_succ, List.getElem_cons_zero]
              refine wpAnyH_take (i := 24) (v := .int .i64 (mask : Int)) rfl (by kernel_rfl) (by kernel_rfl) (by kernel_rfl) (fun _ _ _ h => h) (Or.inl ⟨by rfl, fun w hSw => by clear hSw; go_simp⟩) hH ?_
              try simp only [Act.put, List.setIfInBounds_toArray, List.set_cons_zero, List.set_cons_succ, List.getElem_toArray, List.getElem_cons_succ, List.getElem_cons_zero]
              refine wpAnyH_take (i := 25) (v := .int .i64 (last : Int)) rfl (by kernel_rfl) (by kernel_rfl) (by kernel_rfl) (fun _ _ _ h => h) (Or.inl ⟨by rfl, fun w hSw => by clear hSw; go_simp⟩) hH ?_
              try simp only [Act.put, List.setIfInBounds_toArray, List.set_cons_zero, List.set_cons_succ, List.getElem_toArray, List.getElem_cons_succ, List.getElem_cons_zero]
              refine wpAnyH_ready (rs := [13]) (by kernel_rfl) (by simp) ?_
              refine AllReadyH.cons rfl (fun K hK => ?_) AllReadyH.nil
              go_simp
              go_at_call 42
              refine (HFi.out _).mono ?_
              rintro e w6 ⟨rfl, hb6⟩
              have HI6 : Hid (BhI w hb sb mb ab a p g (some ⟨b0, o0, none⟩) cap rs q go co O w6) := (HI5.out.later (below_drew _)).later hb6
              clear hb6
              refine hK.out _ _ HI6.out (fun _ => ?_)
              clear hK K
              try simp only [Act.put, List.setIfInBounds_toArray, List.set_cons_zero, List.set_cons_succ, List.getElem_toArray, List.getElem_cons_succ, List.getElem_cons_zero]
              refine wpAnyH_ready (rs := [21]) (by kernel_rfl) (by simp) ?_
              refine AllReadyH.cons rfl (fun K hK => ?_) AllReadyH.nil
              go_simp
              go_at_call 43
              refine (HIH.out _ HI6.out).mono ?_
              rintro e w7 ⟨rfl, hI7⟩
              have HI7 : Hid (BhI w hb sb mb ab a p g (some ⟨b0, o0, none⟩) cap rs q go co O w7) := hI7
              clear hI7
              refine hK.out _ _ HI7.out (fun _ => ?_)
              clear hK K
              try simp only [Act.put, List.setIfInBounds_toArray, List.set_cons_zero, List.set_cons_succ, List.getElem_toArray, List.getElem_cons_succ, List.getElem_cons_zero]
              refine wpAnyH_take (i := 22) (v := .int .i64 vu) rfl (by kernel_rfl) (by kernel_rfl) (by kernel_rfl) (fun _ _ _ h => h) (Or.inl ⟨by rfl, fun w hSw => by have f0 := HWv.out; clear hSw; go_simp⟩) HI7.out ?_
              try simp only [Act.put, List.setIfInBounds_toArray, List.set_cons_zero, List.set_cons_succ, List.getElem_toArray, List.getElem_cons_succ, List.getElem_cons_zero]
              refine wpAnyH_ready (rs := [26]) (by kernel_rfl) (by simp) ?_
              refine AllReadyH.cons rfl (fun K hK => ?_) AllReadyH.nil
              go_simp
              go_at_call 43
              refine (HIM.out _ HI7.out).mono ?_
              rintro e w8 ⟨rfl, hI8⟩
              have HI8 : Hid (BhI w hb sb mb ab a p g (some ⟨b0, o0, none⟩) cap rs q go co O w8) := hI8
              clear hI8
              refine hK.out _ _ HI8.out (fun _ => ?_)
              clear hK K
              try simp only [Act.put, List.setIfInBounds_toArray, List.set_cons_zero, List.set_cons_succ, List.getElem_toArray, List.getElem_cons_succ, List.getElem_cons_zero]
              refine wpAnyH_take (i := 27) (v := .bool ne) rfl (by kernel_rfl) (by kernel_rfl) (by kernel_rfl) (fun _ _ _ h => h) (Or.inl ⟨by rfl, fun w hSw => by have f0 := HNe.out; clear hSw; go_simp⟩) HI8.out ?_
              try simp only [Act.put, List.setIfInBounds_toArray, List.set_cons_zero, List.set_cons_succ, List.getElem_toArray, List.getElem_cons_succ, List.getElem_cons_zero]
              refine wpAnyH_take (i := 28) (v := .bool ne) rfl (by kernel_rfl) (by kernel_rfl) (by kernel_rfl) (fun _ _ _ h => h) (Or.inl ⟨by rfl, fun w hSw => by clear hSw; go_simp⟩) HI8.out ?_
              try simp only [Act.put, List.setIfInBounds_toArray, List.set_cons_zero, List.set_cons_succ, List.getElem_toArray, List.getElem_cons_succ, List.getElem_cons_zero]
              refine wpAnyH_done (by kernel_rfl) ?_ _
              clear hH HI5 HI6 HI7 HS HPt HIH HIM HFi
              cases ne
              · -- it is taken
                have hvl : vu = lm := by simpa using HNe.out
                have hii : i = i0 := by
                  rcases Nat.lt_or_ge i i0 with k | k
                  · exact absurd hvl (HSk.out k)
                  · omega
                subst hii
                clear hvl HSk HEq HNe HVu HWv
                go_upto_region 19 with fail
                have HBa : Hid (∀ x : Int, BhI w hb sb mb ab a p g (some ⟨b0, o0, none⟩) cap rs q go co O (w8.alloc (Obj.cells #[.int .i64 x] 3))) := fun x => HI8.out.later (below_alloc w8 (Obj.cells #[.int .i64 x] 3))
                go_upto_region 20 with (at_builtin; refine wpList_int1 rfl _ _ rfl w.heap.size go co O (i : Int) (w8.alloc (Obj.cells #[.int .i64 (i : Int)] 3)) rfl (HBa.out i).row w8.heap.size rfl (cellNew _ _ _ _ rfl rfl) (by omega) (HBa.out i).low.size ?_; intro g1 c1 V4 hr1 hr2 hg hg1; have H9 : Hid (BhI w hb sb mb ab a p g (some ⟨b0, o0, none⟩) cap rs q (some ⟨g1, 0, none⟩) c1 (O ++ [(i : Int)]) V4) := HI8.out.push hr1 hg hg1; clear hr1 hr2 hg hg1)
                have f1 := HJu.out
                have f2 := HPi.out
                have f3 := HOr.out
                clear HBa HI8
                go_upto_region 22 with fail
                clear f1 f2 f3
                have hp2 := HPt2.out V4 H9.out.low
                rw [← HMo.out.2] at hp2
                obtain ⟨x0, x1⟩ := hp2
                obtain ⟨⟨y0, y1⟩, y2, y3⟩ := H9.out.ac
                have H10 := H9.out.set r
                have H11 : Hid (BhI w hb sb mb ab a p g (some ⟨b0, o0, none⟩) cap rs r (some ⟨g1, 0, none⟩) c1 (O ++ [(i : Int)]) ((V4.setCell ⟨ab, 0, none⟩ (.int .i64 r.ai)).setCell ⟨ab, 1, none⟩ (.int .i64 r.pl))) := H10
                clear H9 H10
                go_wp2
                exact ⟨⟨O ++ [(i : Int)], mo, i, r, some ⟨g1, 0, none⟩, c1, by rw [HMo.out.1, HMo.out.2]; exact HNext.out rfl, by rw [List.length_append]; rfl, rfl, rfl, H11.out⟩, by simp; omega⟩
              · have hvl : vu ≠ lm := by simpa using HNe.out
                have hii : i < i0 := by
                  rcases Nat.lt_or_ge i i0 with k | k
                  · exact k
                  · exact absurd (HEq.out (by omega)) hvl
                clear hvl
                have HI9 := HI8
                go_wp2
                exact ⟨⟨i + 1, by omega, by go_num, rfl, rfl, rfl, HI9.out⟩, by simp [intOf]; omega⟩
        · have hle : (rs.length : Int) ≤ (O.length : Int) := by have := HM.out.len; omega
          have hz : (msL mask rs.length) = [] := List.length_eq_zero_iff.1 (by have := HM.out.len; omega)
          have hO : O = bpO p g rs := by
            have := HM.out.all
            rw [hz] at this
            rw [← this]
            simp [bsO]
          have HOo : Hid (O = bpO p g rs) := hO
          obtain ⟨ms, hls⟩ := HI.out.ls
          have HLz := HLe1.out 0 rs.length ms wr (Nat.two_pow_pos _) (Nat.le_refl _) hls
          rw [HEnd.out] at HLz
          have HLy : Hid (Calls Try.prog 43 #[.pointer (some ⟨sb, 0, none⟩), .int .i64 0, .int .i64 (rs.length : Int)] wr fun e w' => e = .returned (.int .i64 (bpV p g rs)) ∧ BhI w hb sb mb ab a p g ad cap rs q go co O w') := HLz.mono (fun e w' h => HI.out.deep h)
          clear hz hO hls HLz HM HI HEnd HLe1
          generalize bpV p g rs = bv at *
          go_wp2_with fail
          (first | go_at_call 43 | skip)
          refine HLy.out.mono ?_
          rintro e w9 ⟨rfl, hI9⟩
          have HI9 : Hid (BhI w hb sb mb ab a p g ad cap rs q go co O w9) := hI9
          clear hI9 HLy
          go_wp2
          go_ret3
          rw [← HOo.out]
          exact ⟨go, co, rfl, HI9.out.row, HI9.out.low⟩
set_option maxHeartbeats 4000000 in
theorem specBest_any (a p g : Int) (ad : Option Addr) (cap : Nat) (rs : List RPt) (hl : rs.length ≤ 100000000) (w : World) (hr : ReadsPt w.heap.size w ad rs) :
    Calls Try.prog 10 #[.agg #[.int .i64 a, .int .i64 p, .int .i64 g], .slice ad rs.length cap] w (AnsBp w (bpL a p g rs) (bpN a p g rs) (bpC a p g rs)) := by
  have HPf : Hid (∀ W, Below w.heap.size w W → Calls Try.prog 41 #[.agg #[.int .i64 a, .int .i64 p, .int .i64 g], .slice ad rs.length cap] W fun e w' => e = .returned (.int .i64 (bpC a p g rs)) ∧ Below W.heap.size W w') := fun W hb => specPicks_any a p g ad cap rs hl W ((hr.below hb).mono hb.size)
  by_cases h0 : bpC a p g rs = 0
  · rcases bp_ways a p g rs with ⟨_, e1, _⟩ | ⟨_, _, e1, _⟩ | ⟨_, _, e1, _⟩ | ⟨t1, t2, t3, e1, e2, e3⟩
    · omega
    · omega
    · omega
    · rw [e1, e2, e3]
      exact specBest_ok a p g ad cap rs t1 t2 t3 w hr
  · have e12 : bpL a p g rs = [] ∧ bpN a p g rs = 0 := by
      rcases bp_ways a p g rs with ⟨_, _, e2, e3⟩ | ⟨_, _, _, e2, e3, _⟩ | ⟨_, _, _, e2, e3, _⟩ | ⟨_, _, _, e1, _⟩
      · exact ⟨e2, e3⟩
      · exact ⟨e2, e3⟩
      · exact ⟨e2, e3⟩
      · exact absurd e1 h0
    rw [e12.1, e12.2]
    have hnb : (bpC a p g rs != 0) = true := by simpa using h0
    have HN := hlNew w a p g
    have HN0 : Hid (HlAt (w.alloc (Obj.cells #[.int .i64 a, .int .i64 p, .int .i64 g] 24)) w.heap.size a p g) := HN
    clear HN hr e12 h0
    generalize bpC a p g rs = c at *
    have hnc : ¬ c = 0 := by simpa using hnb
    go_enter Try.func10, Try.ntmps10
    go_wp2_with fail
    (first | go_at_call 41 | skip)
    refine (HPf.out _ (below_alloc _ _)).mono ?_
    rintro e w2 ⟨rfl, hb2⟩
    have HB2 : Hid (Below w.heap.size w w2) := chain (below_alloc _ _) hb2
    clear hb2
    go_wp2
    go_ret3
    exact ⟨some ⟨w2.heap.size, 0, none⟩, 0, rfl, nil_row w w2 HB2.out.size, chain HB2.out (below_alloc _ _)⟩
end Go.Proofs.Ythmhpgbkapjjkaa

/-
  PointsRun of the program.
-/
import Derived.Test.YtodncihjenlnjaaPpK
import Derived.Test.YtodncihjenlnjaaPaA
import Derived.Test.YtodncihjenlnjaaPoA
namespace Go.Proofs.Ytodncihjenlnjaa
open Go.ChangeShapes Go.WideShapes Go.ChangeAt Go.RowKit Go.Deep
set_option linter.unusedVariables false

/-- One act, and all of them. -/
def ptAct (nm : Int) (r : RPa) (σ : PSt) : Int × PSt :=
  if r.kd = 4 then stBack r.nu σ else if r.kd = 3 then stDay r.nu σ else if r.kd = 2 then stSpend r.nu nm σ else if r.kd = 1 then stEarn r.nu r.un σ else (13, σ)
def pt0 : PSt := ⟨0, 0, 0, [], fun _ => none⟩
def ptS (rs : List RPa) : Nat → PSt
  | 0 => pt0
  | k + 1 => (ptAct (k : Int) (rs.getD k zPa) (ptS rs k)).2
def ptO (rs : List RPa) : Nat → List (Int × Int)
  | 0 => []
  | k + 1 => ptO rs k ++ [((ptAct (k : Int) (rs.getD k zPa) (ptS rs k)).1, sumP (ptS rs (k + 1)).L)]
theorem ptO_len (rs : List RPa) : ∀ k, (ptO rs k).length = k
  | 0 => rfl
  | k + 1 => by rw [ptO, List.length_append, ptO_len rs k]; rfl
theorem ptAct_ok {nm : Int} {r : RPa} {j : Nat} {σ : PSt} (h : PsOk j σ) : PsOk (j + 1) (ptAct nm r σ).2 := by
  unfold ptAct
  split
  · exact stBack_ok h
  · split
    · exact stDay_ok h
    · split
      · exact stSpend_ok h
      · split
        · exact stEarn_ok h
        · exact h.up
theorem pt0_ok : PsOk 0 pt0 := ⟨by simp [pt0], fun r hr => by simp [pt0] at hr, by simp [pt0], by simp [pt0], by simp [pt0], by simp [pt0], by simp [pt0], by simp [pt0], fun c K h => by simp [pt0] at h⟩
theorem ptS_ok (rs : List RPa) : ∀ k, PsOk k (ptS rs k)
  | 0 => pt0_ok
  | k + 1 => ptAct_ok (ptS_ok rs k)
def obC (o : Int × Int) : List Value := [.int .i64 o.1, .int .i64 o.2]
def obCells (os : List (Int × Int)) : List Value := os.flatMap obC
theorem obCells_append (a b : List (Int × Int)) : obCells (a ++ b) = obCells a ++ obCells b := by simp [obCells]
theorem obInfo0 : (Try.prog.info? 49).map (fun i => (i.zero, i.size, i.bytes)) = some (some (.agg #[.int .i64 0, .int .i64 0]), 2, 16) := by kernel_rfl
theorem run_makeOb (n : Nat) (hn : n ≤ 100000000) (w : World) :
    (Instr.makeSlice 24 (.int .i64 0) (.int .i64 (n : Int))).run Try.prog w = .ok (.slice (some ⟨w.heap.size, 0, none⟩) 0 n) (w.alloc (.cells (madeCells #[.int .i64 0, .int .i64 0] (n * 2)) 49)) := by
  obtain ⟨i, hi, hzz⟩ := Option.map_eq_some_iff.1 obInfo0
  simp only [Prod.mk.injEq] at hzz
  obtain ⟨hz, hs, hb⟩ := hzz
  have hr := run_make (P := Try.prog) w 24 49 i _ Try.underlying24 hi hz .i64 .i64 0 (n : Int) (Int.le_refl _) (by omega) (by rw [hb]; omega) (by omega)
  simp only [Int.toNat_natCast, hs, Int.toNat_zero] at hr
  exact hr
theorem readsPa_at {B : Nat} {w W : World} {a : Option Addr} {rs : List RPa} (h : ReadsPa B w a rs) (hb : Below B w W) (k : Nat) (hk : k < rs.length) : ∃ b o, a = some ⟨b, o, none⟩ ∧ PaAt W b (o + k * 3) (rs.getD k zPa) := by
  rcases h with h | ⟨b, o, ha, hB, hi⟩
  · rw [h] at hk; simp at hk
  · exact ⟨b, o, ha, (hi k hk).below hb hB⟩
theorem PgM.keep {B rb mb n : Nat} {nm : Int} {σ : PSt} {W W' : World} (h : PgM B rb mb n nm σ W) (hk : ∀ q o, W.heap[q]? = some o → (q = rb ∨ q = mb ∨ ∃ cur, o = .cells cur 67 (0, 0)) → W'.heap[q]? = W.heap[q]?) : PgM B rb mb n nm σ W' := by
  obtain ⟨lv, fv, h1, h2, h3, h4⟩ := h
  have hrow : ∀ (v : Value) (k : Nat) (xs : List Value), W.ownsRow B 67 2 v k xs → ∀ q, v.ownBlock = some q → W'.heap[q]? = W.heap[q]? := fun v k xs hv q hq => by
    obtain ⟨cur, hc⟩ := row_type hv hq
    exact hk q _ hc (.inr (.inr ⟨cur, rfl⟩))
  obtain ⟨es, ck, hme⟩ := h3.is
  exact ⟨lv, fv, h1.of (hk rb _ h1 (.inl rfl)), row_of h2 (hrow _ _ _ h2), h3.block (hk mb _ hme (.inr (.inl rfl))), h4.of (fun c K v hK b q hq hne => ⟨hrow _ _ _ b q hq, hne⟩)⟩
theorem PgM.set4 {B rb mb n : Nat} {nm : Int} {σ : PSt} {W : World} (h : PgM B rb mb n nm σ W) (x : Int) : PgM B rb mb n x σ (W.setCell ⟨rb, 4, none⟩ (.int .i64 x)) := by
  obtain ⟨lv, fv, h1, h2, h3, h4⟩ := h
  exact ⟨lv, fv, h1.set4 x, row_of h2 (fun q hq => Below.heap_setCell _ _ _ _ (tk_ne h1 h3 h2 hq).1), h3.block (Below.heap_setCell _ _ _ _ (rb_ne h1 h3)), h4.of (fun c K v hK b q hq hne => ⟨Below.heap_setCell _ _ _ _ (tk_ne h1 h3 b hq).1, hne⟩)⟩
/-- What the run has beside the account: what was told, the kinds, the answer's place. -/
structure PtB (rb mb kb : Nat) (w : World) (g k cp : Nat) (os : List (Int × Int)) (W : World) : Prop where
  told : W.ownsRow w.heap.size 49 2 (.slice (some ⟨g, 0, none⟩) k cp) k (obCells os)
  kinds : MapV .nilFunc W kb 4 kindF
  res : W.heap[w.heap.size]? = some (.cells #[.int .i64 0, .int .i64 0, .int .i64 0, .slice none 0 0] 27 (0, 0))
  low : Below w.heap.size w W
theorem PtB.keep {rb mb kb : Nat} {w : World} {g k cp : Nat} {os : List (Int × Int)} {W W' : World} (h : PtB rb mb kb w g k cp os W) (hk : ∀ q o, W.heap[q]? = some o → (q = g ∨ q = kb ∨ q = w.heap.size) → W'.heap[q]? = W.heap[q]?) (hb : Below w.heap.size w W') : PtB rb mb kb w g k cp os W' := by
  obtain ⟨es, ck, hme⟩ := h.kinds.is
  refine ⟨row_of h.told (fun q hq => ?_), h.kinds.block (hk kb _ hme (.inr (.inl rfl))), (hk _ _ h.res (.inr (.inr rfl))).trans h.res, hb⟩
  obtain ⟨cur, hc⟩ := row_type h.told hq
  cases hq
  exact hk g _ hc (.inl rfl)
theorem PtB.later {rb mb kb : Nat} {w : World} {g k cp : Nat} {os : List (Int × Int)} {W W' : World} (h : PtB rb mb kb w g k cp os W) (hb : Below W.heap.size W W') : PtB rb mb kb w g k cp os W' :=
  h.keep (fun q o hq _ => hb.block q (blkLt hq)) (h.low.trans (hb.mono h.low.size))
/-- An act touches none of it. -/
theorem PtB.acted {rb mb kb n : Nat} {nm : Int} {σ : PSt} {w : World} {g k cp : Nat} {os : List (Int × Int)} {W W' : World} (h : PtB rb mb kb w g k cp os W) (hM : PgM w.heap.size rb mb n nm σ W) (hkm : kb ≠ mb) (hrb : w.heap.size ≤ rb) (hmb : w.heap.size ≤ mb) (hf : PgF w.heap.size rb mb W W') : PtB rb mb kb w g k cp os W' := by
  obtain ⟨lv, fv, h1, h2, h3, h4⟩ := hM
  obtain ⟨es, ck, hme⟩ := h3.is
  obtain ⟨es2, ck2, hke⟩ := h.kinds.is
  obtain ⟨cur, hc⟩ := row_type h.told (q := g) rfl
  have hpg : W.heap[rb]? = _ := h1
  have hres := h.res
  refine h.keep (fun q o hq hx => hf.block q (blkLt hq) ?_) (Fr.below h.low hf h.low.size (fun q hq => by rcases hq with r | r | r; omega; omega; exact r.1))
  rcases hx with rfl | rfl | rfl
  · rintro (r | r | ⟨_, c2, r⟩)
    · rw [r, hpg] at hc; simp at hc
    · rw [r, hme] at hc; simp at hc
    · rw [hc] at r; simp at r
  · rintro (r | r | ⟨_, c2, r⟩)
    · rw [r, hpg] at hke; simp at hke
    · exact hkm r
    · rw [hke] at r; simp at r
  · rintro (r | r | ⟨_, c2, r⟩)
    · rw [r, hpg] at hres; simp at hres
    · rw [r, hme] at hres; simp at hres
    · rw [hres] at r; simp at r
theorem ptTold {rb mb kb n : Nat} {nm : Int} {σ : PSt} {w : World} {g k cp : Nat} {os : List (Int × Int)} {W w9 : World} {g1 cp1 : Nat} {c s : Int} (h : PtB rb mb kb w g k cp os W) (hM : PgM w.heap.size rb mb n nm σ W) (hrb : w.heap.size ≤ rb) (ho : w9.ownsRow w.heap.size 49 2 (.slice (some ⟨g1, 0, none⟩) (k + 1) cp1) (k + 1) (obCells os ++ [.int .i64 c, .int .i64 s])) (hg : W.grownBy w9 (Value.ownBlock (.slice (some ⟨g, 0, none⟩) k cp))) :
    PtB rb mb kb w g1 (k + 1) cp1 (os ++ [(c, s)]) w9 ∧ PgM w.heap.size rb mb n nm σ w9 := by
  have hgf := fr_grown hg
  obtain ⟨cur, hc⟩ := row_type h.told (q := g) rfl
  have hgl := row_lt h.told g rfl
  have hne : ∀ (q : Nat) (o : Obj), W.heap[q]? = some o → (∀ c2, o ≠ .cells c2 49 (0, 0)) → w9.heap[q]? = W.heap[q]? := fun q o hq ho2 => hgf.block q (blkLt hq) (fun e => by
    have e2 : g = q := by simpa [Value.ownBlock] using e
    subst e2
    rw [hc] at hq
    injection hq with hq
    exact ho2 cur hq.symm)
  obtain ⟨es2, ck2, hke⟩ := h.kinds.is
  obtain ⟨lv, fv, h1, h2, h3, h4⟩ := hM
  obtain ⟨es, ck, hme⟩ := h3.is
  have hpg : W.heap[rb]? = _ := h1
  have hlow : Below w.heap.size w w9 := h.low.grown hg h.low.size (fun q hq => by
    have e2 : g = q := by simpa [Value.ownBlock] using hq
    omega)
  refine ⟨⟨by rw [obCells_append]; exact ho, h.kinds.block (hne kb _ hke (by simp)), (hne _ _ h.res (by simp)).trans h.res, hlow⟩, PgM.keep ⟨lv, fv, h1, h2, h3, h4⟩ (fun q o hq hx => ?_)⟩
  rcases hx with rfl | rfl | ⟨c2, rfl⟩
  · rw [hpg] at hq; injection hq with hq; exact hne q _ hpg (by simp)
  · exact hne q _ hme (by simp)
  · exact hne q _ hq (by simp)
theorem zero57 (w : World) : (zeroValue 57).run Try.prog w = .ok .nilFunc w := by kernel_rfl
theorem fin4 {W : World} {b : Nat} {v0 v1 v2 v3 : Value} {t : TypeId} (h : W.heap[b]? = some (.cells #[v0, v1, v2, v3] t (0, 0))) (x0 x1 x2 x3 : Value) : ((((W.setCell ⟨b, 0, none⟩ x0).setCell ⟨b, 1, none⟩ x1).setCell ⟨b, 2, none⟩ x2).setCell ⟨b, 3, none⟩ x3).heap[b]? = some (.cells #[x0, x1, x2, x3] t (0, 0)) := by
  have e := heap_setCell_same _ _ 3 _ _ x3 (heap_setCell_same _ _ 2 _ _ x2 (heap_setCell_same _ _ 1 _ _ x1 (heap_setCell_same _ _ 0 _ _ x0 h)))
  simp only [List.setIfInBounds_toArray, List.set_cons_zero, List.set_cons_succ] at e
  exact e
theorem far4 (W : World) (b q : Nat) (hq : q ≠ b) (x0 x1 x2 x3 : Value) : ((((W.setCell ⟨b, 0, none⟩ x0).setCell ⟨b, 1, none⟩ x1).setCell ⟨b, 2, none⟩ x2).setCell ⟨b, 3, none⟩ x3).heap[q]? = W.heap[q]? :=
  (Below.heap_setCell _ _ _ _ hq).trans ((Below.heap_setCell _ _ _ _ hq).trans ((Below.heap_setCell _ _ _ _ hq).trans (Below.heap_setCell _ _ _ _ hq)))
/-- What PointsRun leaves: what was told, the lots, each in memory of its own. -/
def AnsP (B : Nat) (os : List (Int × Int)) (L : List RLo) (tv lv : Value) (W : World) : Prop := W.ownsRow B 49 2 tv os.length (obCells os) ∧ W.ownsRow B 67 2 lv L.length (loCells L)
set_option maxHeartbeats 8000000 in
theorem pointsRun_ok (a : Option Addr) (cap : Nat) (rs : List RPa) (hl : rs.length ≤ 200) (hwide : ∀ r ∈ rs, PaWide r) (w : World) (hr : ReadsPa w.heap.size w a rs) :
    Calls Try.prog 7 #[.slice a rs.length cap] w fun e w' => ∃ tv lv, e = .returned (.tuple #[tv, .agg #[.int .i64 (ptS rs rs.length).day, .int .i64 (ptS rs rs.length).sp, .int .i64 (ptS rs rs.length).ex, lv], .int .i64 0]) ∧ AnsP w.heap.size (ptO rs rs.length) (ptS rs rs.length).L tv lv w' ∧ Below w.heap.size w w' := by
  have HR : Hid (ReadsPa w.heap.size w a rs) := hr
  have HWd : Hid (∀ r ∈ rs, PaWide r) := hwide
  have h1i : ¬ (4096 : Int) < (rs.length : Int) := by omega
  have h2i : ¬ (200 : Int) < (rs.length : Int) := by omega
  obtain ⟨W1, hW1⟩ : ∃ W1, W1 = w.alloc (Obj.cells #[.int .i64 0, .int .i64 0, .int .i64 0, .slice none 0 0] 27) := ⟨_, rfl⟩
  have hmk := run_made 52 W1
  have hmo := fun w => run_makeOb rs.length (by omega) w
  have hz1 : W1.heap.size = w.heap.size + 1 := by rw [hW1]; simp
  have HW1 : Hid (Below w.heap.size w W1 ∧ W1.heap[w.heap.size]? = some (.cells #[.int .i64 0, .int .i64 0, .int .i64 0, .slice none 0 0] 27 (0, 0))) := by
    subst hW1
    exact ⟨below_alloc _ _, heapNew _ _⟩
  rw [hW1] at hmk
  clear hr hwide
  go_enter Try.func7, Try.ntmps7
  go_wp2_with fail
  (first | go_at_call 19 | skip)
  rw [← hW1]
  refine (pointActs_any (W1.alloc (Obj.map #[] 0))).mono ?_
  rintro e w2 ⟨rfl, hk2, hb2⟩
  have hz1b : (W1.alloc (Obj.map #[] 0)).heap.size = w.heap.size + 2 := by simp; omega
  rw [hz1b] at hk2 hb2 ⊢
  obtain ⟨W3, hW3⟩ : ∃ W3, W3 = (w2.alloc (Obj.cells #[.int .i64 0, .int .i64 0, .int .i64 0, .slice none 0 0, .int .i64 0, .map (some (w.heap.size + 1))] 54)).alloc (Obj.cells (madeCells #[.int .i64 0, .int .i64 0] (rs.length * 2)) 49) := ⟨_, rfl⟩
  have hB0 : Below w.heap.size w W3 := by
    rw [hW3]
    have hb2' : Below (W1.alloc (Obj.map #[] 0)).heap.size (W1.alloc (Obj.map #[] 0)) w2 := by rw [hz1b]; exact hb2
    exact chain (chain (chain (chain HW1.out.1 (below_alloc _ _)) hb2') (below_alloc _ _)) (below_alloc _ _)
  have hz2 : w.heap.size + 3 ≤ w2.heap.size := by have := hk2.lt; omega
  have HI3 : Hid (PtB w2.heap.size (w.heap.size + 1) (w.heap.size + 2) w (w2.heap.size + 1) 0 rs.length [] W3 ∧ PgM w.heap.size w2.heap.size (w.heap.size + 1) 0 0 pt0 W3) := by
    have hb3 : Below w2.heap.size w2 W3 := by rw [hW3]; exact chain (below_alloc _ _) (below_alloc _ _)
    have h27 : W3.heap[w2.heap.size]? = some (.cells #[.int .i64 0, .int .i64 0, .int .i64 0, .slice none 0 0, .int .i64 0, .map (some (w.heap.size + 1))] 54 (0, 0)) := by rw [hW3]; exact (Below.heap_alloc _ _ _ (by simp)).trans (heapNew _ _)
    have hmb : W3.heap[w.heap.size + 1]? = (W1.alloc (Obj.map #[] 0)).heap[w.heap.size + 1]? := (hb3.block _ (by omega)).trans (hb2.block _ (by omega))
    have hmap := MapV.made zSl W1
    rw [hz1] at hmap
    refine ⟨⟨?_, hk2.block (hb3.block _ (by omega)), ((hb3.block _ (by omega)).trans ((hb2.block _ (by omega)).trans (Below.heap_alloc _ _ _ (by omega)))).trans HW1.out.2, hB0⟩, .slice none 0 0, fun _ => none, h27, World.ownsRow_nil _ _ _ _, hmap.block hmb, fun c => ⟨fun _ => rfl, fun K hK => by simp [pt0] at hK⟩⟩
    have : ((w2.alloc (Obj.cells #[.int .i64 0, .int .i64 0, .int .i64 0, .slice none 0 0, .int .i64 0, .map (some (w.heap.size + 1))] 54)).alloc (Obj.cells (madeCells #[.int .i64 0, .int .i64 0] (rs.length * 2)) 49)).ownsRow w.heap.size 49 2 (.slice (some ⟨(w2.alloc (Obj.cells #[.int .i64 0, .int .i64 0, .int .i64 0, .slice none 0 0, .int .i64 0, .map (some (w.heap.size + 1))] 54)).heap.size, 0, none⟩) 0 rs.length) 0 (obCells []) := World.ownsRow_made (w2.alloc (Obj.cells #[.int .i64 0, .int .i64 0, .int .i64 0, .slice none 0 0, .int .i64 0, .map (some (w.heap.size + 1))] 54)) _ rs.length (by simp; omega) (by unfold maxLen; omega) (by rw [size_madeCells])
    rw [show (w2.alloc (Obj.cells #[.int .i64 0, .int .i64 0, .int .i64 0, .slice none 0 0, .int .i64 0, .map (some (w.heap.size + 1))] 54)).heap.size = w2.heap.size + 1 by simp] at this
    rw [hW3]; exact this
  clear hk2 hb2 hmk
  go_wp2_with fail
  rw [← hW3]
  clear hW3 hB0 hmo hz1b hW1 HW1 hz1
  have hrb : w.heap.size + 3 ≤ w2.heap.size := hz2
  generalize w2.heap.size = rb at *
  clear hz2
  obtain ⟨j0, hj, hzy⟩ := Option.map_eq_some_iff.1 obInfo0
  simp only [Prod.mk.injEq] at hzy
  obtain ⟨hj0, hj1, hj2⟩ := hzy
  go_loopw [7, 8, 9, 10, 11, 12, 29] (fun tv _ _ _ _ _ iv wr => ∃ (k g cp n : Nat) (nm : Int), k ≤ rs.length ∧ n ≤ k ∧ iv = .int .i64 (k : Int) ∧ tv = .slice (some ⟨g, 0, none⟩) k cp ∧ PtB rb (w.heap.size + 1) (w.heap.size + 2) w g k cp (ptO rs k) wr ∧ PgM w.heap.size rb (w.heap.size + 1) n nm (ptS rs k) wr) (fun _ _ _ _ _ _ iv _ => rs.length - (intOf iv).toNat)
  case atStart => exact ⟨0, _, _, 0, 0, Nat.zero_le _, Nat.le_refl _, rfl, rfl, HI3.out.1, HI3.out.2⟩
  case round =>
    clear HI3
    obtain ⟨k, g, cp, n, nm, hk, hnk, rfl, rfl, hT, hG⟩ := hrel
    have HT : Hid (PtB rb (w.heap.size + 1) (w.heap.size + 2) w g k cp (ptO rs k) wr) := hT
    have HG : Hid (PgM w.heap.size rb (w.heap.size + 1) n nm (ptS rs k) wr) := hG
    clear hT hG
    by_cases hlt : k < rs.length
    · have hlt' : (k : Int) < (rs.length : Int) := by omega
      obtain ⟨b0, o0, ha, c0, c1, c2⟩ := readsPa_at HR.out HT.out.low k hlt
      subst ha
      have hok := ptS_ok rs k
      have HNo : Hid (ptO rs k ++ [((ptAct (k : Int) (rs.getD k zPa) (ptS rs k)).1, sumP (ptAct (k : Int) (rs.getD k zPa) (ptS rs k)).2.L)] = ptO rs (k + 1)) := rfl
      have HNs : Hid ((ptAct (k : Int) (rs.getD k zPa) (ptS rs k)).2 = ptS rs (k + 1)) := rfl
      have HOk1 : Hid (PsOk (k + 1) (ptAct (k : Int) (rs.getD k zPa) (ptS rs k)).2) := ptAct_ok hok
      have hwd := getPa HWd.out hlt
      generalize rs.getD k zPa = r at *
      obtain ⟨kd, nu, un⟩ := r
      dsimp only [PaWide] at c0 c1 c2 hwd
      have HWf : Hid (WfI kd ∧ WfI nu ∧ WfI un) := hwd
      generalize ptS rs k = σ at *
      generalize ptO rs k = os at *
      have HOk : Hid (PsOk k σ) := hok
      clear hok hwd
      have hM1 := HG.out.later (below_alloc wr (Obj.cells #[.int .i64 kd, .int .i64 nu, .int .i64 un] 46))
      have hT1 := HT.out.later (below_alloc wr (Obj.cells #[.int .i64 kd, .int .i64 nu, .int .i64 un] 46))
      have hnb := heapNew wr (Obj.cells #[.int .i64 kd, .int .i64 nu, .int .i64 un] 46)
      have hM1' := hM1
      obtain ⟨lv1, fv1, p1, -, -, -⟩ := hM1'
      have e4 := p1.cells.2.2.2.2.1
      have ef4 := p1.free 4
      have hrw : rb ≠ wr.heap.size := fun e => by
        have hh : (wr.alloc (Obj.cells #[.int .i64 kd, .int .i64 nu, .int .i64 un] 46)).heap[rb]? = _ := p1
        rw [e, hnb] at hh
        simp at hh
      obtain ⟨W2, hW2⟩ : ∃ W2, W2 = (wr.alloc (Obj.cells #[.int .i64 kd, .int .i64 nu, .int .i64 un] 46)).setCell ⟨rb, 4, none⟩ (.int .i64 (k : Int)) := ⟨_, rfl⟩
      have HT2 : Hid (PtB rb (w.heap.size + 1) (w.heap.size + 2) w g k cp os W2) := by
        rw [hW2]
        exact hT1.acted hM1 (by omega) (by omega) (by omega) ((Fr.refl _ _).set (b := rb) (.inl rfl) _ _)
      have HG2 : Hid (PgM w.heap.size rb (w.heap.size + 1) n (k : Int) σ W2) := by rw [hW2]; exact hM1.set4 _
      have hnb2 : W2.heap[wr.heap.size]? = some (.cells #[.int .i64 kd, .int .i64 nu, .int .i64 un] 46 (0, 0)) := by rw [hW2]; exact (Below.heap_setCell _ _ _ _ (Ne.symm hrw)).trans hnb
      have hlook := MapV.look (t := 55) (e := 57) HT2.out.kinds Try.underlying55 (zero57 W2) HWf.out.1
      have a0 : W2.cell? ⟨wr.heap.size, 0, none⟩ = some (.int .i64 kd) := blkCell hnb2 0 _ rfl
      have a1 : W2.cell? ⟨wr.heap.size, 1, none⟩ = some (.int .i64 nu) := blkCell hnb2 1 _ rfl
      have a2 : W2.cell? ⟨wr.heap.size, 2, none⟩ = some (.int .i64 un) := blkCell hnb2 2 _ rfl
      have hBw2 := HT2.out.low.size
      have hwk : WfI (k : Int) := wfI_of _ (by omega) (by omega)
      clear hM1 hT1 hnb hnb2 p1 hrw HT
      rw [hW2] at hlook
      by_cases hk4 : kd = 4
      · have HA : Hid (ptAct (k : Int) ⟨kd, nu, un⟩ σ = stBack nu σ) := by show _ = _; unfold ptAct; dsimp only; rw [if_pos hk4]
        have hkf : kindF kd = some (fnV 33) := by rw [hk4]; rfl
        rw [hkf] at hlook
        simp only [Option.getD_some, Option.isSome_some, fnV] at hlook
        have HC : Hid (Calls Try.prog 33 #[.pointer (some ⟨rb, 0, none⟩), .agg #[.int .i64 kd, .int .i64 nu, .int .i64 un]] W2 fun e w' => e = .returned (.int .i64 (stBack nu σ).1) ∧ PgF w.heap.size rb (w.heap.size + 1) W2 w' ∧ ∃ n', n' ≤ n + 1 ∧ PgM w.heap.size rb (w.heap.size + 1) n' (k : Int) (stBack nu σ).2 w') := back_any w.heap.size rb (w.heap.size + 1) n (k : Int) σ k (by omega) HOk.out kd nu un HWf.out.2.1 W2 hBw2 HG2.out
        rw [HA.out] at HNo HNs HOk1
        clear HA hkf HOk HG hk4
        generalize stBack nu σ = aq at *
        obtain ⟨cd, τ⟩ := aq
        dsimp only at HC HNo HNs HOk1
        go_wp2_with fail
        (first | go_at_call 33 | skip)
        rw [← hW2]
        clear hW2 e4 ef4 c0 c1 c2
        refine HC.out.mono ?_
        rintro e w3 ⟨rfl, hf3, n3, hn3, hG3⟩
        have hT3 := HT2.out.acted HG2.out (by omega) (by omega) (by omega) hf3
        clear hf3 HC HT2 HG2 a0 a1 a2 hlook
        have H3 : Hid (PtB rb (w.heap.size + 1) (w.heap.size + 2) w g k cp os w3 ∧ PgM w.heap.size rb (w.heap.size + 1) n3 (k : Int) τ w3) := ⟨hT3, hG3⟩
        obtain ⟨lv3, fv3, p3, r3, -, -⟩ := hG3
        obtain ⟨la, lc, rfl⟩ := row_slice r3
        have x3 := p3.cells.2.2.2.1
        have HPt : Hid (Calls Try.prog 20 #[.slice la τ.L.length lc] w3 fun e w' => e = .returned (.int .i64 (sumP τ.L)) ∧ Below w3.heap.size w3 w') := pointsIn_any la lc τ.L (by have := HOk1.out.len; omega) HOk1.out.lot w3 (lo_reads r3)
        clear p3 r3 hT3
        go_wp2_with fail
        (first | go_at_call 20 | skip)
        refine HPt.out.mono ?_
        rintro e w4 ⟨rfl, hb4⟩
        have hb5 : Below w3.heap.size w3 (w4.alloc (Obj.cells #[.int .i64 cd, .int .i64 (sumP τ.L)] 49)) := chain hb4 (below_alloc _ _)
        have HT5 : Hid (PtB rb (w.heap.size + 1) (w.heap.size + 2) w g k cp os (w4.alloc (Obj.cells #[.int .i64 cd, .int .i64 (sumP τ.L)] 49))) := H3.out.1.later hb5
        have HG5 : Hid (PgM w.heap.size rb (w.heap.size + 1) n3 (k : Int) τ (w4.alloc (Obj.cells #[.int .i64 cd, .int .i64 (sumP τ.L)] 49))) := H3.out.2.later hb5
        have hlo := HT5.out.low.size
        clear hb4 hb5 HPt x3 H3
        go_wp2_with (at_builtin; refine wpList_append_lies _ rfl _ _ 24 rfl w.heap.size 49 j0 (.agg #[.int .i64 0, .int .i64 0]) 2 16 Try.underlying24 hj hj0 hj1 hj2 rfl (by decide) _ _ _ rfl HT5.out.told ⟨w4.heap.size, 0, none⟩ 1 1 [.int .i64 cd, .int .i64 (sumP τ.L)] rfl rfl (World.news_of_block (heapNew w4 _)) (by simp [Value.oneCell']) (by omega) (by unfold maxLen; omega) (by omega) hlo _ rfl ?_; intro g1 cp1 w9 hown1 hgrow1 hat1 hglt1; have HX := ptTold HT5.out HG5.out (by omega) hown1 hgrow1; have HX' : Hid (PtB rb (w.heap.size + 1) (w.heap.size + 2) w g1 (k + 1) cp1 (os ++ [(cd, sumP τ.L)]) w9 ∧ PgM w.heap.size rb (w.heap.size + 1) n3 (k : Int) τ w9) := HX; clear HX hown1 hgrow1 hat1 hglt1)
        refine ⟨⟨k + 1, g1, cp1, n3, k, by omega, by omega, by go_num, rfl, ?_, ?_⟩, by simp [intOf]; omega⟩
        · rw [← HNo.out]; exact HX'.out.1
        · rw [← HNs.out]; exact HX'.out.2
      by_cases hk3 : kd = 3
      · have HA : Hid (ptAct (k : Int) ⟨kd, nu, un⟩ σ = stDay nu σ) := by show _ = _; unfold ptAct; dsimp only; rw [if_neg hk4, if_pos hk3]
        have hkf : kindF kd = some (fnV 32) := by rw [hk3]; rfl
        rw [hkf] at hlook
        simp only [Option.getD_some, Option.isSome_some, fnV] at hlook
        have HC : Hid (Calls Try.prog 32 #[.pointer (some ⟨rb, 0, none⟩), .agg #[.int .i64 kd, .int .i64 nu, .int .i64 un]] W2 fun e w' => e = .returned (.int .i64 (stDay nu σ).1) ∧ PgF w.heap.size rb (w.heap.size + 1) W2 w' ∧ ∃ n', n' ≤ n + 1 ∧ PgM w.heap.size rb (w.heap.size + 1) n' (k : Int) (stDay nu σ).2 w') := goOn_any w.heap.size rb (w.heap.size + 1) n (k : Int) σ k (by omega) HOk.out kd nu un W2 hBw2 HG2.out
        rw [HA.out] at HNo HNs HOk1
        clear HA hkf HOk HG hk3
        generalize stDay nu σ = aq at *
        obtain ⟨cd, τ⟩ := aq
        dsimp only at HC HNo HNs HOk1
        go_wp2_with fail
        (first | go_at_call 32 | skip)
        rw [← hW2]
        clear hW2 e4 ef4 c0 c1 c2
        refine HC.out.mono ?_
        rintro e w3 ⟨rfl, hf3, n3, hn3, hG3⟩
        have hT3 := HT2.out.acted HG2.out (by omega) (by omega) (by omega) hf3
        clear hf3 HC HT2 HG2 a0 a1 a2 hlook
        have H3 : Hid (PtB rb (w.heap.size + 1) (w.heap.size + 2) w g k cp os w3 ∧ PgM w.heap.size rb (w.heap.size + 1) n3 (k : Int) τ w3) := ⟨hT3, hG3⟩
        obtain ⟨lv3, fv3, p3, r3, -, -⟩ := hG3
        obtain ⟨la, lc, rfl⟩ := row_slice r3
        have x3 := p3.cells.2.2.2.1
        have HPt : Hid (Calls Try.prog 20 #[.slice la τ.L.length lc] w3 fun e w' => e = .returned (.int .i64 (sumP τ.L)) ∧ Below w3.heap.size w3 w') := pointsIn_any la lc τ.L (by have := HOk1.out.len; omega) HOk1.out.lot w3 (lo_reads r3)
        clear p3 r3 hT3
        go_wp2_with fail
        (first | go_at_call 20 | skip)
        refine HPt.out.mono ?_
        rintro e w4 ⟨rfl, hb4⟩
        have hb5 : Below w3.heap.size w3 (w4.alloc (Obj.cells #[.int .i64 cd, .int .i64 (sumP τ.L)] 49)) := chain hb4 (below_alloc _ _)
        have HT5 : Hid (PtB rb (w.heap.size + 1) (w.heap.size + 2) w g k cp os (w4.alloc (Obj.cells #[.int .i64 cd, .int .i64 (sumP τ.L)] 49))) := H3.out.1.later hb5
        have HG5 : Hid (PgM w.heap.size rb (w.heap.size + 1) n3 (k : Int) τ (w4.alloc (Obj.cells #[.int .i64 cd, .int .i64 (sumP τ.L)] 49))) := H3.out.2.later hb5
        have hlo := HT5.out.low.size
        clear hb4 hb5 HPt x3 H3
        go_wp2_with (at_builtin; refine wpList_append_lies _ rfl _ _ 24 rfl w.heap.size 49 j0 (.agg #[.int .i64 0, .int .i64 0]) 2 16 Try.underlying24 hj hj0 hj1 hj2 rfl (by decide) _ _ _ rfl HT5.out.told ⟨w4.heap.size, 0, none⟩ 1 1 [.int .i64 cd, .int .i64 (sumP τ.L)] rfl rfl (World.news_of_block (heapNew w4 _)) (by simp [Value.oneCell']) (by omega) (by unfold maxLen; omega) (by omega) hlo _ rfl ?_; intro g1 cp1 w9 hown1 hgrow1 hat1 hglt1; have HX := ptTold HT5.out HG5.out (by omega) hown1 hgrow1; have HX' : Hid (PtB rb (w.heap.size + 1) (w.heap.size + 2) w g1 (k + 1) cp1 (os ++ [(cd, sumP τ.L)]) w9 ∧ PgM w.heap.size rb (w.heap.size + 1) n3 (k : Int) τ w9) := HX; clear HX hown1 hgrow1 hat1 hglt1)
        refine ⟨⟨k + 1, g1, cp1, n3, k, by omega, by omega, by go_num, rfl, ?_, ?_⟩, by simp [intOf]; omega⟩
        · rw [← HNo.out]; exact HX'.out.1
        · rw [← HNs.out]; exact HX'.out.2
      by_cases hk2 : kd = 2
      · have HA : Hid (ptAct (k : Int) ⟨kd, nu, un⟩ σ = stSpend nu (k : Int) σ) := by show _ = _; unfold ptAct; dsimp only; rw [if_neg hk4, if_neg hk3, if_pos hk2]
        have hkf : kindF kd = some (fnV 31) := by rw [hk2]; rfl
        rw [hkf] at hlook
        simp only [Option.getD_some, Option.isSome_some, fnV] at hlook
        have HC : Hid (Calls Try.prog 31 #[.pointer (some ⟨rb, 0, none⟩), .agg #[.int .i64 kd, .int .i64 nu, .int .i64 un]] W2 fun e w' => e = .returned (.int .i64 (stSpend nu (k : Int) σ).1) ∧ PgF w.heap.size rb (w.heap.size + 1) W2 w' ∧ ∃ n', n' ≤ n + 1 ∧ PgM w.heap.size rb (w.heap.size + 1) n' (k : Int) (stSpend nu (k : Int) σ).2 w') := spend_any w.heap.size rb (w.heap.size + 1) n (k : Int) σ k (by omega) HOk.out (by unfold maxLen; omega) hwk kd nu un W2 hBw2 HG2.out
        rw [HA.out] at HNo HNs HOk1
        clear HA hkf HOk HG hk2
        generalize stSpend nu (k : Int) σ = aq at *
        obtain ⟨cd, τ⟩ := aq
        dsimp only at HC HNo HNs HOk1
        go_wp2_with fail
        (first | go_at_call 31 | skip)
        rw [← hW2]
        clear hW2 e4 ef4 c0 c1 c2
        refine HC.out.mono ?_
        rintro e w3 ⟨rfl, hf3, n3, hn3, hG3⟩
        have hT3 := HT2.out.acted HG2.out (by omega) (by omega) (by omega) hf3
        clear hf3 HC HT2 HG2 a0 a1 a2 hlook
        have H3 : Hid (PtB rb (w.heap.size + 1) (w.heap.size + 2) w g k cp os w3 ∧ PgM w.heap.size rb (w.heap.size + 1) n3 (k : Int) τ w3) := ⟨hT3, hG3⟩
        obtain ⟨lv3, fv3, p3, r3, -, -⟩ := hG3
        obtain ⟨la, lc, rfl⟩ := row_slice r3
        have x3 := p3.cells.2.2.2.1
        have HPt : Hid (Calls Try.prog 20 #[.slice la τ.L.length lc] w3 fun e w' => e = .returned (.int .i64 (sumP τ.L)) ∧ Below w3.heap.size w3 w') := pointsIn_any la lc τ.L (by have := HOk1.out.len; omega) HOk1.out.lot w3 (lo_reads r3)
        clear p3 r3 hT3
        go_wp2_with fail
        (first | go_at_call 20 | skip)
        refine HPt.out.mono ?_
        rintro e w4 ⟨rfl, hb4⟩
        have hb5 : Below w3.heap.size w3 (w4.alloc (Obj.cells #[.int .i64 cd, .int .i64 (sumP τ.L)] 49)) := chain hb4 (below_alloc _ _)
        have HT5 : Hid (PtB rb (w.heap.size + 1) (w.heap.size + 2) w g k cp os (w4.alloc (Obj.cells #[.int .i64 cd, .int .i64 (sumP τ.L)] 49))) := H3.out.1.later hb5
        have HG5 : Hid (PgM w.heap.size rb (w.heap.size + 1) n3 (k : Int) τ (w4.alloc (Obj.cells #[.int .i64 cd, .int .i64 (sumP τ.L)] 49))) := H3.out.2.later hb5
        have hlo := HT5.out.low.size
        clear hb4 hb5 HPt x3 H3
        go_wp2_with (at_builtin; refine wpList_append_lies _ rfl _ _ 24 rfl w.heap.size 49 j0 (.agg #[.int .i64 0, .int .i64 0]) 2 16 Try.underlying24 hj hj0 hj1 hj2 rfl (by decide) _ _ _ rfl HT5.out.told ⟨w4.heap.size, 0, none⟩ 1 1 [.int .i64 cd, .int .i64 (sumP τ.L)] rfl rfl (World.news_of_block (heapNew w4 _)) (by simp [Value.oneCell']) (by omega) (by unfold maxLen; omega) (by omega) hlo _ rfl ?_; intro g1 cp1 w9 hown1 hgrow1 hat1 hglt1; have HX := ptTold HT5.out HG5.out (by omega) hown1 hgrow1; have HX' : Hid (PtB rb (w.heap.size + 1) (w.heap.size + 2) w g1 (k + 1) cp1 (os ++ [(cd, sumP τ.L)]) w9 ∧ PgM w.heap.size rb (w.heap.size + 1) n3 (k : Int) τ w9) := HX; clear HX hown1 hgrow1 hat1 hglt1)
        refine ⟨⟨k + 1, g1, cp1, n3, k, by omega, by omega, by go_num, rfl, ?_, ?_⟩, by simp [intOf]; omega⟩
        · rw [← HNo.out]; exact HX'.out.1
        · rw [← HNs.out]; exact HX'.out.2
      by_cases hk1 : kd = 1
      · have HA : Hid (ptAct (k : Int) ⟨kd, nu, un⟩ σ = stEarn nu un σ) := by show _ = _; unfold ptAct; dsimp only; rw [if_neg hk4, if_neg hk3, if_neg hk2, if_pos hk1]
        have hkf : kindF kd = some (fnV 30) := by rw [hk1]; rfl
        rw [hkf] at hlook
        simp only [Option.getD_some, Option.isSome_some, fnV] at hlook
        have HC : Hid (Calls Try.prog 30 #[.pointer (some ⟨rb, 0, none⟩), .agg #[.int .i64 kd, .int .i64 nu, .int .i64 un]] W2 fun e w' => e = .returned (.int .i64 (stEarn nu un σ).1) ∧ PgF w.heap.size rb (w.heap.size + 1) W2 w' ∧ ∃ n', n' ≤ n + 1 ∧ PgM w.heap.size rb (w.heap.size + 1) n' (k : Int) (stEarn nu un σ).2 w') := earn_any w.heap.size rb (w.heap.size + 1) n (k : Int) σ k (by omega) HOk.out kd nu un W2 hBw2 HG2.out
        rw [HA.out] at HNo HNs HOk1
        clear HA hkf HOk HG hk1
        generalize stEarn nu un σ = aq at *
        obtain ⟨cd, τ⟩ := aq
        dsimp only at HC HNo HNs HOk1
        go_wp2_with fail
        (first | go_at_call 30 | skip)
        rw [← hW2]
        clear hW2 e4 ef4 c0 c1 c2
        refine HC.out.mono ?_
        rintro e w3 ⟨rfl, hf3, n3, hn3, hG3⟩
        have hT3 := HT2.out.acted HG2.out (by omega) (by omega) (by omega) hf3
        clear hf3 HC HT2 HG2 a0 a1 a2 hlook
        have H3 : Hid (PtB rb (w.heap.size + 1) (w.heap.size + 2) w g k cp os w3 ∧ PgM w.heap.size rb (w.heap.size + 1) n3 (k : Int) τ w3) := ⟨hT3, hG3⟩
        obtain ⟨lv3, fv3, p3, r3, -, -⟩ := hG3
        obtain ⟨la, lc, rfl⟩ := row_slice r3
        have x3 := p3.cells.2.2.2.1
        have HPt : Hid (Calls Try.prog 20 #[.slice la τ.L.length lc] w3 fun e w' => e = .returned (.int .i64 (sumP τ.L)) ∧ Below w3.heap.size w3 w') := pointsIn_any la lc τ.L (by have := HOk1.out.len; omega) HOk1.out.lot w3 (lo_reads r3)
        clear p3 r3 hT3
        go_wp2_with fail
        (first | go_at_call 20 | skip)
        refine HPt.out.mono ?_
        rintro e w4 ⟨rfl, hb4⟩
        have hb5 : Below w3.heap.size w3 (w4.alloc (Obj.cells #[.int .i64 cd, .int .i64 (sumP τ.L)] 49)) := chain hb4 (below_alloc _ _)
        have HT5 : Hid (PtB rb (w.heap.size + 1) (w.heap.size + 2) w g k cp os (w4.alloc (Obj.cells #[.int .i64 cd, .int .i64 (sumP τ.L)] 49))) := H3.out.1.later hb5
        have HG5 : Hid (PgM w.heap.size rb (w.heap.size + 1) n3 (k : Int) τ (w4.alloc (Obj.cells #[.int .i64 cd, .int .i64 (sumP τ.L)] 49))) := H3.out.2.later hb5
        have hlo := HT5.out.low.size
        clear hb4 hb5 HPt x3 H3
        go_wp2_with (at_builtin; refine wpList_append_lies _ rfl _ _ 24 rfl w.heap.size 49 j0 (.agg #[.int .i64 0, .int .i64 0]) 2 16 Try.underlying24 hj hj0 hj1 hj2 rfl (by decide) _ _ _ rfl HT5.out.told ⟨w4.heap.size, 0, none⟩ 1 1 [.int .i64 cd, .int .i64 (sumP τ.L)] rfl rfl (World.news_of_block (heapNew w4 _)) (by simp [Value.oneCell']) (by omega) (by unfold maxLen; omega) (by omega) hlo _ rfl ?_; intro g1 cp1 w9 hown1 hgrow1 hat1 hglt1; have HX := ptTold HT5.out HG5.out (by omega) hown1 hgrow1; have HX' : Hid (PtB rb (w.heap.size + 1) (w.heap.size + 2) w g1 (k + 1) cp1 (os ++ [(cd, sumP τ.L)]) w9 ∧ PgM w.heap.size rb (w.heap.size + 1) n3 (k : Int) τ w9) := HX; clear HX hown1 hgrow1 hat1 hglt1)
        refine ⟨⟨k + 1, g1, cp1, n3, k, by omega, by omega, by go_num, rfl, ?_, ?_⟩, by simp [intOf]; omega⟩
        · rw [← HNo.out]; exact HX'.out.1
        · rw [← HNs.out]; exact HX'.out.2
      have HA : Hid (ptAct (k : Int) ⟨kd, nu, un⟩ σ = (13, σ)) := by show _ = _; unfold ptAct; dsimp only; rw [if_neg hk4, if_neg hk3, if_neg hk2, if_neg hk1]
      have hkf : kindF kd = none := by unfold kindF; rw [if_neg hk4, if_neg hk3, if_neg hk2, if_neg hk1]
      rw [hkf] at hlook
      simp only [Option.getD_none, Option.isSome_none] at hlook
      rw [HA.out] at HNo HNs HOk1
      dsimp only at HNo HNs HOk1
      clear HA hkf HOk HG
      obtain ⟨n3, hn3⟩ : ∃ n3, n3 = n := ⟨_, rfl⟩
      have hT3 := HT2.out
      have hG3 := HG2.out
      clear HT2 HG2
      obtain ⟨τ, hτ⟩ : ∃ τ, τ = σ := ⟨_, rfl⟩
      subst hτ
      subst hn3
      have H3 : Hid (PtB rb (w.heap.size + 1) (w.heap.size + 2) w g k cp os W2 ∧ PgM w.heap.size rb (w.heap.size + 1) n3 (k : Int) τ W2) := ⟨hT3, hG3⟩
      obtain ⟨lv3, fv3, p3, r3, -, -⟩ := hG3
      obtain ⟨la, lc, rfl⟩ := row_slice r3
      have x3 := p3.cells.2.2.2.1
      have HPt : Hid (Calls Try.prog 20 #[.slice la τ.L.length lc] W2 fun e w' => e = .returned (.int .i64 (sumP τ.L)) ∧ Below W2.heap.size W2 w') := pointsIn_any la lc τ.L (by have := HOk1.out.len; omega) HOk1.out.lot W2 (lo_reads r3)
      have x3' := x3
      rw [hW2] at x3'
      clear p3 r3 hT3
      go_wp2_with fail
      (first | go_at_call 20 | skip)
      rw [← hW2]
      refine HPt.out.mono ?_
      rintro e w4 ⟨rfl, hb4⟩
      have hb5 : Below W2.heap.size W2 (w4.alloc (Obj.cells #[.int .i64 13, .int .i64 (sumP τ.L)] 49)) := chain hb4 (below_alloc _ _)
      have HT5 : Hid (PtB rb (w.heap.size + 1) (w.heap.size + 2) w g k cp os (w4.alloc (Obj.cells #[.int .i64 13, .int .i64 (sumP τ.L)] 49))) := H3.out.1.later hb5
      have HG5 : Hid (PgM w.heap.size rb (w.heap.size + 1) n3 (k : Int) τ (w4.alloc (Obj.cells #[.int .i64 13, .int .i64 (sumP τ.L)] 49))) := H3.out.2.later hb5
      have hlo := HT5.out.low.size
      clear hb4 hb5 HPt x3 x3' H3 hW2 e4 ef4 c0 c1 c2
      go_wp2_with (at_builtin; refine wpList_append_lies _ rfl _ _ 24 rfl w.heap.size 49 j0 (.agg #[.int .i64 0, .int .i64 0]) 2 16 Try.underlying24 hj hj0 hj1 hj2 rfl (by decide) _ _ _ rfl HT5.out.told ⟨w4.heap.size, 0, none⟩ 1 1 [.int .i64 13, .int .i64 (sumP τ.L)] rfl rfl (World.news_of_block (heapNew w4 _)) (by simp [Value.oneCell']) (by omega) (by unfold maxLen; omega) (by omega) hlo _ rfl ?_; intro g1 cp1 w9 hown1 hgrow1 hat1 hglt1; have HX := ptTold HT5.out HG5.out (by omega) hown1 hgrow1; have HX' : Hid (PtB rb (w.heap.size + 1) (w.heap.size + 2) w g1 (k + 1) cp1 (os ++ [(13, sumP τ.L)]) w9 ∧ PgM w.heap.size rb (w.heap.size + 1) n3 (k : Int) τ w9) := HX; clear HX hown1 hgrow1 hat1 hglt1)
      refine ⟨⟨k + 1, g1, cp1, n3, k, by omega, by omega, by go_num, rfl, ?_, ?_⟩, by simp [intOf]; omega⟩
      · rw [← HNo.out]; exact HX'.out.1
      · rw [← HNs.out]; exact HX'.out.2
    · have hle : (rs.length : Int) ≤ (k : Int) := by omega
      obtain rfl : k = rs.length := by omega
      obtain ⟨lv, fv, p, r, -, -⟩ := HG.out
      obtain ⟨la, lc, rfl⟩ := row_slice r
      have hol := ptO_len rs rs.length
      clear HG
      generalize hd : (ptS rs rs.length).day = d at *
      generalize hs : (ptS rs rs.length).sp = s at *
      generalize hx : (ptS rs rs.length).ex = x at *
      generalize hL : (ptS rs rs.length).L = L at *
      generalize ho : ptO rs rs.length = os at *
      have HEq : Hid ((ptS rs rs.length).day = d ∧ (ptS rs rs.length).sp = s ∧ (ptS rs rs.length).ex = x ∧ (ptS rs rs.length).L = L ∧ ptO rs rs.length = os) := ⟨hd, hs, hx, hL, ho⟩
      clear hd hs hx hL ho
      have HP : Hid (PgIs wr rb d s x (.slice la L.length lc) nm (.map (some (w.heap.size + 1))) ∧ wr.ownsRow w.heap.size 67 2 (.slice la L.length lc) L.length (loCells L)) := ⟨p, r⟩
      clear p r
      go_wp2_with fail
      have hS0 : PgIs wr.drew rb d s x (.slice la L.length lc) nm (.map (some (w.heap.size + 1))) := HP.out.1
      refine wp_region_held_drew (S := fun W => PgIs W rb d s x (.slice la L.length lc) nm (.map (some (w.heap.size + 1)))) (by kernel_rfl) hS0 (fun hH => ?_)
      refine wpAnyH_take (i := 0) (v := .slice (some ⟨g, 0, none⟩) rs.length cp) rfl (by kernel_rfl) (by kernel_rfl) (by kernel_rfl) (fun _ _ _ h => h) (Or.inl ⟨by rfl, fun w hSw => by go_simp⟩) hH ?_
      refine wpAnyH_take (i := 1) (v := .pointer (some ⟨rb, 0, none⟩)) rfl (by kernel_rfl) (by kernel_rfl) (by kernel_rfl) (fun _ _ _ h => h) (Or.inl ⟨by rfl, fun w hSw => by go_simp⟩) hH ?_
      try simp only [Act.put, List.setIfInBounds_toArray, List.set_cons_zero, List.set_cons_succ, List.getElem_toArray, List.getElem_cons_succ, List.getElem_cons_zero]
      refine wpAnyH_take (i := 2) (v := .agg #[.int .i64 d, .int .i64 s, .int .i64 x, .slice la L.length lc]) rfl (by kernel_rfl) (by kernel_rfl) (by kernel_rfl) (fun _ _ _ h => h) (Or.inl ⟨by rfl, fun w hSw => by have f0 := hSw.cells.1; have f1 := hSw.cells.2.1; have f2 := hSw.cells.2.2.1; have f3 := hSw.cells.2.2.2.1; clear hSw; go_simp⟩) hH ?_
      try simp only [Act.put, List.setIfInBounds_toArray, List.set_cons_zero, List.set_cons_succ, List.getElem_toArray, List.getElem_cons_succ, List.getElem_cons_zero]
      refine wpAnyH_take (i := 3) (v := .slice (some ⟨g, 0, none⟩) rs.length cp) rfl (by kernel_rfl) (by kernel_rfl) (by kernel_rfl) (fun _ _ _ h => h) (Or.inl ⟨by rfl, fun w hSw => by go_simp⟩) hH ?_
      try simp only [Act.put, List.setIfInBounds_toArray, List.set_cons_zero, List.set_cons_succ, List.getElem_toArray, List.getElem_cons_succ, List.getElem_cons_zero]
      have y0 : wr.cell? ⟨w.heap.size, 0, none⟩ = some (.int .i64 0) := blkCell HT.out.res 0 _ rfl
      have y1 : wr.cell? ⟨w.heap.size, 1, none⟩ = some (.int .i64 0) := blkCell HT.out.res 1 _ rfl
      have y2 : wr.cell? ⟨w.heap.size, 2, none⟩ = some (.int .i64 0) := blkCell HT.out.res 2 _ rfl
      have y3 : wr.cell? ⟨w.heap.size, 3, none⟩ = some (.slice none 0 0) := blkCell HT.out.res 3 _ rfl
      have z0 := blkFree HT.out.res 0
      have z1 := blkFree HT.out.res 1
      have z2 := blkFree HT.out.res 2
      have z3 := blkFree HT.out.res 3
      have hlo := blkLt HT.out.res
      refine wpAnyH_ready (rs := [4]) (by kernel_rfl) (by simp) ?_
      refine AllReadyH.cons rfl (fun K hK => ?_) AllReadyH.nil
      go_simp
      have hfar := far4 wr w.heap.size rb (by omega) (.int .i64 d) (.int .i64 s) (.int .i64 x) (.slice la L.length lc)
      have hS4 : PgIs ((((wr.setCell ⟨w.heap.size, 0, none⟩ (.int .i64 d)).setCell ⟨w.heap.size, 1, none⟩ (.int .i64 s)).setCell ⟨w.heap.size, 2, none⟩ (.int .i64 x)).setCell ⟨w.heap.size, 3, none⟩ (.slice la L.length lc)).drew rb d s x (.slice la L.length lc) nm (.map (some (w.heap.size + 1))) := HP.out.1.of hfar
      have hfin := fin4 HT.out.res (.int .i64 d) (.int .i64 s) (.int .i64 x) (.slice la L.length lc)
      have HEnd : Hid (AnsP w.heap.size os L (.slice (some ⟨g, 0, none⟩) rs.length cp) (.slice la L.length lc) ((((wr.setCell ⟨w.heap.size, 0, none⟩ (.int .i64 d)).setCell ⟨w.heap.size, 1, none⟩ (.int .i64 s)).setCell ⟨w.heap.size, 2, none⟩ (.int .i64 x)).setCell ⟨w.heap.size, 3, none⟩ (.slice la L.length lc)).drew ∧ Below w.heap.size w ((((wr.setCell ⟨w.heap.size, 0, none⟩ (.int .i64 d)).setCell ⟨w.heap.size, 1, none⟩ (.int .i64 s)).setCell ⟨w.heap.size, 2, none⟩ (.int .i64 x)).setCell ⟨w.heap.size, 3, none⟩ (.slice la L.length lc)).drew) := by
        have hT := HT.out
        have hres := hT.res
        refine ⟨⟨?_, row_of HP.out.2 (fun q hq => far4 wr w.heap.size q (fun e => ?_) _ _ _ _)⟩, ((((hT.low.setCell (p := ⟨w.heap.size, 0, none⟩) (Nat.le_refl _) _).setCell (p := ⟨w.heap.size, 1, none⟩) (Nat.le_refl _) _).setCell (p := ⟨w.heap.size, 2, none⟩) (Nat.le_refl _) _).setCell (p := ⟨w.heap.size, 3, none⟩) (Nat.le_refl _) _).drew⟩
        · rw [hol]
          refine row_of hT.told (fun q hq => far4 wr w.heap.size q (fun e => ?_) _ _ _ _)
          obtain ⟨cur, hc⟩ := row_type hT.told hq
          rw [e, hres] at hc
          simp at hc
        · obtain ⟨cur, hc⟩ := row_type HP.out.2 hq
          rw [e, hres] at hc
          simp at hc
      refine hK.out _ _ hS4 (fun _ => ?_)
      clear hK K
      try simp only [Act.put, List.setIfInBounds_toArray, List.set_cons_zero, List.set_cons_succ, List.getElem_toArray, List.getElem_cons_succ, List.getElem_cons_zero]
      refine wpAnyH_take (i := 5) (v := .int .i64 0) rfl (by kernel_rfl) (by kernel_rfl) (by kernel_rfl) (fun _ _ _ h => h) (Or.inl ⟨by rfl, fun w hSw => by go_simp⟩) hS4 ?_
      try simp only [Act.put, List.setIfInBounds_toArray, List.set_cons_zero, List.set_cons_succ, List.getElem_toArray, List.getElem_cons_succ, List.getElem_cons_zero]
      refine wpAnyH_done (by kernel_rfl) ?_ _
      clear hS4 hfar hS0 hH y0 y1 y2 y3 z0 z1 z2 z3 hlo
      have q0 : ((((wr.setCell ⟨w.heap.size, 0, none⟩ (.int .i64 d)).setCell ⟨w.heap.size, 1, none⟩ (.int .i64 s)).setCell ⟨w.heap.size, 2, none⟩ (.int .i64 x)).setCell ⟨w.heap.size, 3, none⟩ (.slice la L.length lc)).drew.cell? ⟨w.heap.size, 0, none⟩ = some (.int .i64 d) := blkCell (W := ((((wr.setCell ⟨w.heap.size, 0, none⟩ (.int .i64 d)).setCell ⟨w.heap.size, 1, none⟩ (.int .i64 s)).setCell ⟨w.heap.size, 2, none⟩ (.int .i64 x)).setCell ⟨w.heap.size, 3, none⟩ (.slice la L.length lc)).drew) hfin 0 _ rfl
      have q1 : ((((wr.setCell ⟨w.heap.size, 0, none⟩ (.int .i64 d)).setCell ⟨w.heap.size, 1, none⟩ (.int .i64 s)).setCell ⟨w.heap.size, 2, none⟩ (.int .i64 x)).setCell ⟨w.heap.size, 3, none⟩ (.slice la L.length lc)).drew.cell? ⟨w.heap.size, 1, none⟩ = some (.int .i64 s) := blkCell (W := ((((wr.setCell ⟨w.heap.size, 0, none⟩ (.int .i64 d)).setCell ⟨w.heap.size, 1, none⟩ (.int .i64 s)).setCell ⟨w.heap.size, 2, none⟩ (.int .i64 x)).setCell ⟨w.heap.size, 3, none⟩ (.slice la L.length lc)).drew) hfin 1 _ rfl
      have q2 : ((((wr.setCell ⟨w.heap.size, 0, none⟩ (.int .i64 d)).setCell ⟨w.heap.size, 1, none⟩ (.int .i64 s)).setCell ⟨w.heap.size, 2, none⟩ (.int .i64 x)).setCell ⟨w.heap.size, 3, none⟩ (.slice la L.length lc)).drew.cell? ⟨w.heap.size, 2, none⟩ = some (.int .i64 x) := blkCell (W := ((((wr.setCell ⟨w.heap.size, 0, none⟩ (.int .i64 d)).setCell ⟨w.heap.size, 1, none⟩ (.int .i64 s)).setCell ⟨w.heap.size, 2, none⟩ (.int .i64 x)).setCell ⟨w.heap.size, 3, none⟩ (.slice la L.length lc)).drew) hfin 2 _ rfl
      have q3 : ((((wr.setCell ⟨w.heap.size, 0, none⟩ (.int .i64 d)).setCell ⟨w.heap.size, 1, none⟩ (.int .i64 s)).setCell ⟨w.heap.size, 2, none⟩ (.int .i64 x)).setCell ⟨w.heap.size, 3, none⟩ (.slice la L.length lc)).drew.cell? ⟨w.heap.size, 3, none⟩ = some (.slice la L.length lc) := blkCell (W := ((((wr.setCell ⟨w.heap.size, 0, none⟩ (.int .i64 d)).setCell ⟨w.heap.size, 1, none⟩ (.int .i64 s)).setCell ⟨w.heap.size, 2, none⟩ (.int .i64 x)).setCell ⟨w.heap.size, 3, none⟩ (.slice la L.length lc)).drew) hfin 3 _ rfl
      clear hfin
      generalize ((((wr.setCell ⟨w.heap.size, 0, none⟩ (.int .i64 d)).setCell ⟨w.heap.size, 1, none⟩ (.int .i64 s)).setCell ⟨w.heap.size, 2, none⟩ (.int .i64 x)).setCell ⟨w.heap.size, 3, none⟩ (.slice la L.length lc)).drew = W9 at *
      go_wp2
      refine bodyPost_ret (v := .tuple #[.slice (some ⟨g, 0, none⟩) rs.length cp, .agg #[.int .i64 d, .int .i64 s, .int .i64 x, .slice la L.length lc], .int .i64 0]) (by simp [results, Try.results7, go_sem, q0, q1, q2, q3]) rfl ?_
      obtain ⟨rfl, rfl, rfl, rfl, rfl⟩ := HEq.out
      exact ⟨_, _, rfl, HEnd.out.1, HEnd.out.2⟩
end Go.Proofs.Ytodncihjenlnjaa

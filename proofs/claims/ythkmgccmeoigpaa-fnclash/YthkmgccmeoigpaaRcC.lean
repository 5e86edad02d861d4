/-
  Contract of the program's Clash.
-/
import Derived.Test.YthkmgccmeoigpaaRcB
import Derived.Test.YthkmgccmeoigpaaRuE
namespace Go.Proofs.Ythkmgccmeoigpaa
open Go.ChangeShapes Go.WideShapes Go.ChangeAt Go.RowKit Go.Deep
set_option linter.unusedVariables false

def CkAt (w : World) (an : ByteArray) (ha : Option Addr) (na ca : Nat) (aa au : Int) (bn : ByteArray) (hb : Option Addr) (nb cb : Nat) (ba bu : Int) (W : World) : Prop :=
  (W.cell? ⟨w.heap.size, 0, none⟩ = some (.string an) ∧ W.cell? ⟨w.heap.size, 1, none⟩ = some (.slice ha na ca) ∧ W.cell? ⟨w.heap.size, 2, none⟩ = some (.int .i64 aa) ∧ W.cell? ⟨w.heap.size, 3, none⟩ = some (.int .i64 au)) ∧
  (W.cell? ⟨w.heap.size + 1, 0, none⟩ = some (.string bn) ∧ W.cell? ⟨w.heap.size + 1, 1, none⟩ = some (.slice hb nb cb) ∧ W.cell? ⟨w.heap.size + 1, 2, none⟩ = some (.int .i64 ba) ∧ W.cell? ⟨w.heap.size + 1, 3, none⟩ = some (.int .i64 bu)) ∧
  (W.cell? ⟨w.heap.size + 1 + 1, 0, none⟩ = some (.int .i64 0) ∧ W.cell? ⟨w.heap.size + 1 + 1, 1, none⟩ = some (.int .i64 0) ∧ W.cell? ⟨w.heap.size + 1 + 1, 2, none⟩ = some (.int .i64 0) ∧ W.cell? ⟨w.heap.size + 1 + 1, 3, none⟩ = some (.int .i64 0) ∧ W.cell? ⟨w.heap.size + 1 + 1, 4, none⟩ = some (.int .i64 0)) ∧
  ∀ j, W.frozen? ⟨w.heap.size + 1 + 1, j, none⟩ = false
theorem ckAt {w : World} {an : ByteArray} {ha : Option Addr} {na ca : Nat} {aa au : Int} {bn : ByteArray} {hb : Option Addr} {nb cb : Nat} {ba bu : Int} {W : World} (h : Below (((w.alloc (Obj.cells #[.string an, .slice ha na ca, .int .i64 aa, .int .i64 au] 25)).alloc (Obj.cells #[.string bn, .slice hb nb cb, .int .i64 ba, .int .i64 bu] 25)).alloc (Obj.cells #[.int .i64 0, .int .i64 0, .int .i64 0, .int .i64 0, .int .i64 0] 28)).heap.size (((w.alloc (Obj.cells #[.string an, .slice ha na ca, .int .i64 aa, .int .i64 au] 25)).alloc (Obj.cells #[.string bn, .slice hb nb cb, .int .i64 ba, .int .i64 bu] 25)).alloc (Obj.cells #[.int .i64 0, .int .i64 0, .int .i64 0, .int .i64 0, .int .i64 0] 28)) W) : CkAt w an ha na ca aa au bn hb nb cb ba bu W := by
  have c0 : ∀ j v, #[.string an, .slice ha na ca, .int .i64 aa, .int .i64 au][j]? = some v → W.cell? ⟨w.heap.size, j, none⟩ = some v := fun j v hv => (h.cell (p := ⟨w.heap.size, j, none⟩) (by simp; omega)).trans ((cellOld _ _ (by simp; omega)).trans ((cellOld _ _ (by simp)).trans (cellNew _ _ _ _ rfl hv)))
  have c1 : ∀ j v, #[.string bn, .slice hb nb cb, .int .i64 ba, .int .i64 bu][j]? = some v → W.cell? ⟨w.heap.size + 1, j, none⟩ = some v := fun j v hv => (h.cell (p := ⟨w.heap.size + 1, j, none⟩) (by simp)).trans ((cellOld _ _ (by simp)).trans (cellNew _ _ _ _ (by simp) hv))
  have c2 : ∀ j v, #[.int .i64 0, .int .i64 0, .int .i64 0, .int .i64 0, .int .i64 0][j]? = some v → W.cell? ⟨w.heap.size + 1 + 1, j, none⟩ = some v := fun j v hv => (h.cell (p := ⟨w.heap.size + 1 + 1, j, none⟩) (by simp)).trans (cellNew _ _ _ _ (by simp) hv)
  exact ⟨⟨c0 _ _ rfl, c0 _ _ rfl, c0 _ _ rfl, c0 _ _ rfl⟩, ⟨c1 _ _ rfl, c1 _ _ rfl, c1 _ _ rfl, c1 _ _ rfl⟩, ⟨c2 _ _ rfl, c2 _ _ rfl, c2 _ _ rfl, c2 _ _ rfl, c2 _ _ rfl⟩, fun j => (h.frozen (p := ⟨w.heap.size + 1 + 1, j, none⟩) (by simp)).trans (frozenNew _ _ _ (by simp))⟩
/-- Do both fire, and say something else? -/
def ckB (a b : CCl) : Bool := canT (a.ts ++ b.ts) && !(decide (a.ac = b.ac) && decide (a.nu = b.nu))
def ckT (a b : CCl) : Bool := clOne a && clOne b && ckB a b
def ckC (a b : CCl) : Int := if (clOne a && clOne b) = true then 0 else 1
def ckV (a b : CCl) : Array Value := if ckT a b = true then leastV (a.ts ++ b.ts) else #[.int .i64 0, .int .i64 0, .int .i64 0, .int .i64 0, .int .i64 0]
theorem ck_ways (a b : CCl) : (clOne a = false ∧ ckT a b = false ∧ ckC a b = 1 ∧ ckV a b = #[.int .i64 0, .int .i64 0, .int .i64 0, .int .i64 0, .int .i64 0]) ∨ (clOne a = true ∧ clOne b = false ∧ ckT a b = false ∧ ckC a b = 1 ∧ ckV a b = #[.int .i64 0, .int .i64 0, .int .i64 0, .int .i64 0, .int .i64 0]) ∨
    (clOne a = true ∧ clOne b = true ∧ ((canT (a.ts ++ b.ts) = false ∧ ckT a b = false ∧ ckC a b = 0 ∧ ckV a b = #[.int .i64 0, .int .i64 0, .int .i64 0, .int .i64 0, .int .i64 0]) ∨ (canT (a.ts ++ b.ts) = true ∧ a.ac = b.ac ∧ a.nu = b.nu ∧ ckT a b = false ∧ ckC a b = 0 ∧ ckV a b = #[.int .i64 0, .int .i64 0, .int .i64 0, .int .i64 0, .int .i64 0]) ∨
      (canT (a.ts ++ b.ts) = true ∧ a.ac = b.ac ∧ (a.nu == b.nu) = false ∧ ckT a b = true ∧ ckC a b = 0 ∧ ckV a b = leastV (a.ts ++ b.ts)) ∨ (canT (a.ts ++ b.ts) = true ∧ (a.ac == b.ac) = false ∧ ckT a b = true ∧ ckC a b = 0 ∧ ckV a b = leastV (a.ts ++ b.ts)))) := by
  unfold ckC ckV ckT ckB
  cases clOne a
  · simp
  cases clOne b
  · simp
  cases canT (a.ts ++ b.ts)
  · simp
  by_cases h : a.ac = b.ac
  · by_cases h' : a.nu = b.nu
    · simp [h, h']
    · simp [h, h']
  · simp [h]
theorem clTermsOK {c : CCl} (h : clOne c = true) : c.ts.all tmB = true := by
  unfold clOne sayB at h
  simp only [Bool.and_eq_true] at h
  exact h.2.2
theorem RoomLt {w : World} {b : Nat} {V : Array Value} {t : TypeId} (h : w.heap[b]? = some (.cells V t (0, 0))) : b < w.heap.size := by
  rcases Nat.lt_or_ge b w.heap.size with h1 | h1
  · exact h1
  · rw [Array.getElem?_eq_none h1] at h; cases h
set_option maxHeartbeats 16000000 in
set_option maxRecDepth 8000 in
theorem implClash_any (a b : CCl) (ha hb : Option Addr) (ca cb : Nat) (oka : ClOK a) (okb : ClOK b) (w : World) (ra : ReadsTm w.heap.size w ha a.ts) (rb : ReadsTm w.heap.size w hb b.ts) :
    Calls Try.prog 15 #[.agg #[.string a.nm, .slice ha a.ts.length ca, .int .i64 a.ac, .int .i64 a.nu], .agg #[.string b.nm, .slice hb b.ts.length cb, .int .i64 b.ac, .int .i64 b.nu]] w fun e w' => e = .returned (.tuple #[.agg (ckV a b), .bool (ckT a b), .int .i64 (ckC a b)]) ∧ Below w.heap.size w w' := by
  have HOa : Hid (∀ W, Below w.heap.size w W → Calls Try.prog 28 #[.agg #[.string a.nm, .slice ha a.ts.length ca, .int .i64 a.ac, .int .i64 a.nu]] W fun e w' => e = .returned (.bool (clOne a)) ∧ Below W.heap.size W w') := fun W h => clauseOK_any a ha ca oka W (ra.later h)
  have HOb : Hid (∀ W, Below w.heap.size w W → Calls Try.prog 28 #[.agg #[.string b.nm, .slice hb b.ts.length cb, .int .i64 b.ac, .int .i64 b.nu]] W fun e w' => e = .returned (.bool (clOne b)) ∧ Below W.heap.size W w') := fun W h => clauseOK_any b hb cb okb W (rb.later h)
  have HRa : Hid (clOne a = true → ∀ W, Below w.heap.size w W → Calls Try.prog 29 #[.slice ha a.ts.length ca] W fun e w' => e = .returned (.agg (rowI (rm a.ts))) ∧ Below W.heap.size W w') := fun q W h => roomOf_any ha ca a.ts (clTermsOK q) (by have := oka.2; omega) W (ra.later h)
  have HRb : Hid (clOne b = true → ∀ W, Below w.heap.size w W → Calls Try.prog 29 #[.slice hb b.ts.length cb] W fun e w' => e = .returned (.agg (rowI (rm b.ts))) ∧ Below W.heap.size W w') := fun q W h => roomOf_any hb cb b.ts (clTermsOK q) (by have := okb.2; omega) W (rb.later h)
  have HBo : Hid (∀ W, Calls Try.prog 46 #[.agg (rowI (rm a.ts)), .agg (rowI (rm b.ts))] W fun e w' => e = .returned (.agg (rowI (rm (a.ts ++ b.ts)))) ∧ Below W.heap.size W w') := fun W => by
    have := roomBoth_any (rm a.ts) (rm b.ts) rfl rfl W
    rwa [rm_append] at this
  have HE : Hid (∀ W, Calls Try.prog 30 #[.agg (rowI (rm (a.ts ++ b.ts)))] W fun e w' => e = .returned (.bool (!canT (a.ts ++ b.ts))) ∧ Below W.heap.size W w') := fun W => by
    have := roomEmpty_any (rm (a.ts ++ b.ts)) rfl W
    rwa [show emptyL (rm (a.ts ++ b.ts)) = !canT (a.ts ++ b.ts) by simp [canT]] at this
  have HL0 := fun W => leastFacts_any (rm (a.ts ++ b.ts)) rfl W
  have hall := rowI_one (rm (a.ts ++ b.ts))
  have hsz : (Try.prog.info? 64).map (·.size) = some (rowI (rm (a.ts ++ b.ts))).size := infoRm
  have hs12 : Hid ((rowI zr).size = (rowI (rm (a.ts ++ b.ts))).size) := rfl
  have HLV0 : canT (a.ts ++ b.ts) = true → leastV (a.ts ++ b.ts) = factsV (rm (a.ts ++ b.ts)) := fun h => by unfold leastV; rw [if_pos h]
  have hw := ck_ways a b
  clear ra rb oka okb
  unfold factsV at HL0 HLV0
  generalize (rm (a.ts ++ b.ts)).getD 2 0 = y1 at HL0 HLV0
  generalize (rm (a.ts ++ b.ts)).getD 4 0 = y2 at HL0 HLV0
  generalize (rm (a.ts ++ b.ts)).getD 6 0 = y3 at HL0 HLV0
  generalize (rm (a.ts ++ b.ts)).getD 8 0 = y4 at HL0 HLV0
  generalize (rm (a.ts ++ b.ts)).getD 10 0 = y5 at HL0 HLV0
  generalize ckV a b = kv at *
  generalize ckT a b = kt at *
  generalize ckC a b = kc at *
  generalize clOne a = oa at *
  generalize clOne b = ob at *
  generalize leastV (a.ts ++ b.ts) = lv at *
  generalize canT (a.ts ++ b.ts) = cbn at *
  generalize rowI (rm (a.ts ++ b.ts)) = V at *
  generalize rowI (rm a.ts) = Va at *
  generalize rowI (rm b.ts) = Vb at *
  have HL : Hid _ := HL0
  have HLV : Hid _ := HLV0
  clear HL0 HLV0
  obtain ⟨an, at', aa, au⟩ := a
  obtain ⟨bn, bt', ba, bu⟩ := b
  dsimp only at *
  generalize at'.length = na at *
  generalize bt'.length = nb at *
  rcases hw with ⟨rfl, rfl, rfl, rfl⟩ | ⟨rfl, rfl, rfl, rfl, rfl⟩ | ⟨rfl, rfl, hw⟩
  · go_enter Try.func15, Try.ntmps15
    go_wp2_with (go_at_call 28; refine (HOa.out _ (chain (chain (below_alloc _ _) (below_alloc _ _)) (below_alloc _ _))).mono ?_; rintro e v1 ⟨rfl, hv1⟩; obtain ⟨⟨a0, a1, a2, a3⟩, ⟨b0, b1, b2, b3⟩, ⟨p0, p1, p2, p3, p4⟩, pf⟩ := ckAt (an := an) (ha := ha) (na := na) (ca := ca) (aa := aa) (au := au) (bn := bn) (hb := hb) (nb := nb) (cb := cb) (ba := ba) (bu := bu) hv1; have f0 := pf 0; have f1 := pf 1; have f2 := pf 2; have f3 := pf 3; have f4 := pf 4; clear pf)
    refine bodyPost_ret (v := .tuple #[.agg #[.int .i64 0, .int .i64 0, .int .i64 0, .int .i64 0, .int .i64 0], .bool false, .int .i64 1]) (by simp [results, Try.results15, go_sem, p0, p1, p2, p3, p4]) rfl ⟨rfl, ?_⟩
    repeat refine Below.setCell ?_ (by dsimp only; omega) _
    exact chain (chain (chain (below_alloc _ _) (below_alloc _ _)) (below_alloc _ _)) hv1
  · go_enter Try.func15, Try.ntmps15
    go_wp2_with fail
    (first | go_at_call 28 | skip)
    refine (HOa.out _ (chain (chain (below_alloc _ _) (below_alloc _ _)) (below_alloc _ _))).mono ?_
    rintro e v1 ⟨rfl, hv1⟩
    obtain ⟨⟨a0, a1, a2, a3⟩, ⟨b0, b1, b2, b3⟩, ⟨p0, p1, p2, p3, p4⟩, pf⟩ := ckAt (an := an) (ha := ha) (na := na) (ca := ca) (aa := aa) (au := au) (bn := bn) (hb := hb) (nb := nb) (cb := cb) (ba := ba) (bu := bu) hv1
    obtain ⟨vv0, p0⟩ : ∃ v, v1.cell? ⟨w.heap.size + 1 + 1, 0, none⟩ = some v := ⟨_, p0⟩
    obtain ⟨vv1, p1⟩ : ∃ v, v1.cell? ⟨w.heap.size + 1 + 1, 1, none⟩ = some v := ⟨_, p1⟩
    obtain ⟨vv2, p2⟩ : ∃ v, v1.cell? ⟨w.heap.size + 1 + 1, 2, none⟩ = some v := ⟨_, p2⟩
    obtain ⟨vv3, p3⟩ : ∃ v, v1.cell? ⟨w.heap.size + 1 + 1, 3, none⟩ = some v := ⟨_, p3⟩
    obtain ⟨vv4, p4⟩ : ∃ v, v1.cell? ⟨w.heap.size + 1 + 1, 4, none⟩ = some v := ⟨_, p4⟩
    have f0 := pf 0
    have f1 := pf 1
    have f2 := pf 2
    have f3 := pf 3
    have f4 := pf 4
    clear pf
    go_wp2_with fail
    (first | go_at_call 28 | skip)
    refine (HOb.out _ (chain (chain (chain (below_alloc _ _) (below_alloc _ _)) (below_alloc _ _)) hv1)).mono ?_
    rintro e v2 ⟨rfl, hv2⟩
    have hv2 := chain hv1 hv2
    clear a0 a1 a2 a3 b0 b1 b2 b3 p0 p1 p2 p3 p4 f0 f1 f2 f3 f4 hv1
    obtain ⟨⟨a0, a1, a2, a3⟩, ⟨b0, b1, b2, b3⟩, ⟨p0, p1, p2, p3, p4⟩, pf⟩ := ckAt (an := an) (ha := ha) (na := na) (ca := ca) (aa := aa) (au := au) (bn := bn) (hb := hb) (nb := nb) (cb := cb) (ba := ba) (bu := bu) hv2
    obtain ⟨vv0, p0⟩ : ∃ v, v2.cell? ⟨w.heap.size + 1 + 1, 0, none⟩ = some v := ⟨_, p0⟩
    obtain ⟨vv1, p1⟩ : ∃ v, v2.cell? ⟨w.heap.size + 1 + 1, 1, none⟩ = some v := ⟨_, p1⟩
    obtain ⟨vv2, p2⟩ : ∃ v, v2.cell? ⟨w.heap.size + 1 + 1, 2, none⟩ = some v := ⟨_, p2⟩
    obtain ⟨vv3, p3⟩ : ∃ v, v2.cell? ⟨w.heap.size + 1 + 1, 3, none⟩ = some v := ⟨_, p3⟩
    obtain ⟨vv4, p4⟩ : ∃ v, v2.cell? ⟨w.heap.size + 1 + 1, 4, none⟩ = some v := ⟨_, p4⟩
    have f0 := pf 0
    have f1 := pf 1
    have f2 := pf 2
    have f3 := pf 3
    have f4 := pf 4
    clear pf
    go_wp2
    refine bodyPost_ret (v := .tuple #[.agg #[.int .i64 0, .int .i64 0, .int .i64 0, .int .i64 0, .int .i64 0], .bool false, .int .i64 1]) (by simp [results, Try.results15, go_sem, p0, p1, p2, p3, p4]) rfl ⟨rfl, ?_⟩
    repeat refine Below.setCell ?_ (by dsimp only; omega) _
    exact chain (chain (chain (below_alloc _ _) (below_alloc _ _)) (below_alloc _ _)) hv2
  · have HA : Hid _ := fun W (h : Below (((w.alloc (Obj.cells #[.string an, .slice ha na ca, .int .i64 aa, .int .i64 au] 25)).alloc (Obj.cells #[.string bn, .slice hb nb cb, .int .i64 ba, .int .i64 bu] 25)).alloc (Obj.cells #[.int .i64 0, .int .i64 0, .int .i64 0, .int .i64 0, .int .i64 0] 28)).heap.size (((w.alloc (Obj.cells #[.string an, .slice ha na ca, .int .i64 aa, .int .i64 au] 25)).alloc (Obj.cells #[.string bn, .slice hb nb cb, .int .i64 ba, .int .i64 bu] 25)).alloc (Obj.cells #[.int .i64 0, .int .i64 0, .int .i64 0, .int .i64 0, .int .i64 0] 28)) W) => HRa.out rfl W (chain (chain (chain (below_alloc _ _) (below_alloc _ _)) (below_alloc _ _)) h)
    have HB : Hid _ := fun W (h : Below (((w.alloc (Obj.cells #[.string an, .slice ha na ca, .int .i64 aa, .int .i64 au] 25)).alloc (Obj.cells #[.string bn, .slice hb nb cb, .int .i64 ba, .int .i64 bu] 25)).alloc (Obj.cells #[.int .i64 0, .int .i64 0, .int .i64 0, .int .i64 0, .int .i64 0] 28)).heap.size (((w.alloc (Obj.cells #[.string an, .slice ha na ca, .int .i64 aa, .int .i64 au] 25)).alloc (Obj.cells #[.string bn, .slice hb nb cb, .int .i64 ba, .int .i64 bu] 25)).alloc (Obj.cells #[.int .i64 0, .int .i64 0, .int .i64 0, .int .i64 0, .int .i64 0] 28)) W) => HRb.out rfl W (chain (chain (chain (below_alloc _ _) (below_alloc _ _)) (below_alloc _ _)) h)
    go_enter Try.func15, Try.ntmps15
    go_wp2_with fail
    (first | go_at_call 28 | skip)
    refine (HOa.out _ (chain (chain (below_alloc _ _) (below_alloc _ _)) (below_alloc _ _))).mono ?_
    rintro e v1 ⟨rfl, hv1⟩
    obtain ⟨⟨a0, a1, a2, a3⟩, ⟨b0, b1, b2, b3⟩, ⟨p0, p1, p2, p3, p4⟩, pf⟩ := ckAt (an := an) (ha := ha) (na := na) (ca := ca) (aa := aa) (au := au) (bn := bn) (hb := hb) (nb := nb) (cb := cb) (ba := ba) (bu := bu) hv1
    obtain ⟨vv0, p0⟩ : ∃ v, v1.cell? ⟨w.heap.size + 1 + 1, 0, none⟩ = some v := ⟨_, p0⟩
    obtain ⟨vv1, p1⟩ : ∃ v, v1.cell? ⟨w.heap.size + 1 + 1, 1, none⟩ = some v := ⟨_, p1⟩
    obtain ⟨vv2, p2⟩ : ∃ v, v1.cell? ⟨w.heap.size + 1 + 1, 2, none⟩ = some v := ⟨_, p2⟩
    obtain ⟨vv3, p3⟩ : ∃ v, v1.cell? ⟨w.heap.size + 1 + 1, 3, none⟩ = some v := ⟨_, p3⟩
    obtain ⟨vv4, p4⟩ : ∃ v, v1.cell? ⟨w.heap.size + 1 + 1, 4, none⟩ = some v := ⟨_, p4⟩
    have f0 := pf 0
    have f1 := pf 1
    have f2 := pf 2
    have f3 := pf 3
    have f4 := pf 4
    clear pf
    go_wp2_with fail
    (first | go_at_call 28 | skip)
    refine (HOb.out _ (chain (chain (chain (below_alloc _ _) (below_alloc _ _)) (below_alloc _ _)) hv1)).mono ?_
    rintro e v2 ⟨rfl, hv2⟩
    have hv0 := chain hv1 hv2
    clear a0 a1 a2 a3 b0 b1 b2 b3 p0 p1 p2 p3 p4 f0 f1 f2 f3 f4 hv1 hv2 HOa HOb HRa HRb
    go_wp2
    refine wp_region_held_drew (S := fun W => Below (((w.alloc (Obj.cells #[.string an, .slice ha na ca, .int .i64 aa, .int .i64 au] 25)).alloc (Obj.cells #[.string bn, .slice hb nb cb, .int .i64 ba, .int .i64 bu] 25)).alloc (Obj.cells #[.int .i64 0, .int .i64 0, .int .i64 0, .int .i64 0, .int .i64 0] 28)).heap.size (((w.alloc (Obj.cells #[.string an, .slice ha na ca, .int .i64 aa, .int .i64 au] 25)).alloc (Obj.cells #[.string bn, .slice hb nb cb, .int .i64 ba, .int .i64 bu] 25)).alloc (Obj.cells #[.int .i64 0, .int .i64 0, .int .i64 0, .int .i64 0, .int .i64 0] 28)) W) (by kernel_rfl) (chain hv0 (below_drew _)) (fun hH => ?_)
    clear hv0
    generalize v2.drew = v0 at *
    refine wpAnyH_take (i := 0) (v := .pointer (some ⟨w.heap.size, 1, none⟩)) rfl (by kernel_rfl) (by kernel_rfl) (by kernel_rfl) (fun _ _ _ h => h) (Or.inl ⟨by rfl, fun w hSw => by go_simp⟩) hH ?_
    refine wpAnyH_take (i := 1) (v := .slice ha na ca) rfl (by kernel_rfl) (by kernel_rfl) (by kernel_rfl) (fun _ _ _ h => h) (Or.inl ⟨by rfl, fun w hSw => by obtain ⟨⟨_, s1, _, _⟩, _, _, _⟩ := ckAt (an := an) (ha := ha) (na := na) (ca := ca) (aa := aa) (au := au) (bn := bn) (hb := hb) (nb := nb) (cb := cb) (ba := ba) (bu := bu) hSw; go_simp⟩) hH ?_
    try simp only [Act.put, List.setIfInBounds_toArray, List.set_cons_zero, List.set_cons_succ, List.getElem_toArray, List.getElem_cons_succ, List.getElem_cons_zero]
    refine wpAnyH_take (i := 3) (v := .pointer (some ⟨w.heap.size + 1, 1, none⟩)) rfl (by kernel_rfl) (by kernel_rfl) (by kernel_rfl) (fun _ _ _ h => h) (Or.inl ⟨by rfl, fun w hSw => by go_simp⟩) hH ?_
    try simp only [Act.put, List.setIfInBounds_toArray, List.set_cons_zero, List.set_cons_succ, List.getElem_toArray, List.getElem_cons_succ, List.getElem_cons_zero]
    refine wpAnyH_take (i := 4) (v := .slice hb nb cb) rfl (by kernel_rfl) (by kernel_rfl) (by kernel_rfl) (fun _ _ _ h => h) (Or.inl ⟨by rfl, fun w hSw => by obtain ⟨_, ⟨_, s1, _, _⟩, _, _⟩ := ckAt (an := an) (ha := ha) (na := na) (ca := ca) (aa := aa) (au := au) (bn := bn) (hb := hb) (nb := nb) (cb := cb) (ba := ba) (bu := bu) hSw; go_simp⟩) hH ?_
    try simp only [Act.put, List.setIfInBounds_toArray, List.set_cons_zero, List.set_cons_succ, List.getElem_toArray, List.getElem_cons_succ, List.getElem_cons_zero]
    refine wpAnyH_ready (rs := [2, 7]) (by kernel_rfl) (by simp) ?_
    refine AllReadyH.cons rfl (fun K hK => ?_) (AllReadyH.cons rfl (fun K hK => ?_) AllReadyH.nil)
    · skip
      go_simp
      go_at_call 29
      refine (HA.out _ hH).mono ?_
      rintro e z1 ⟨rfl, hv1⟩
      have hS1 := chain hH hv1
      refine hK.out _ _ hS1 (fun _ => ?_)
      clear hK K
      try simp only [Act.put, List.setIfInBounds_toArray, List.set_cons_zero, List.set_cons_succ, List.getElem_toArray, List.getElem_cons_succ, List.getElem_cons_zero]
      refine wpAnyH_ready (rs := [5, 7]) (by kernel_rfl) (by simp) ?_
      refine AllReadyH.cons rfl (fun K hK => ?_) (AllReadyH.cons rfl (fun K hK => ?_) AllReadyH.nil)
      · skip
        go_simp
        go_at_call 29
        refine (HB.out _ hS1).mono ?_
        rintro e z2 ⟨rfl, hv2⟩
        have hS2 := chain hS1 hv2
        refine hK.out _ _ hS2 (fun _ => ?_)
        clear hK K
        try simp only [Act.put, List.setIfInBounds_toArray, List.set_cons_zero, List.set_cons_succ, List.getElem_toArray, List.getElem_cons_succ, List.getElem_cons_zero]
        refine wpAnyH_ready (rs := [6, 7]) (by kernel_rfl) (by simp) ?_
        refine AllReadyH.cons rfl (fun K hK => ?_) (AllReadyH.cons rfl (fun K hK => ?_) AllReadyH.nil)
        · skip
          go_simp
          go_at_call 46
          refine (HBo.out _).mono ?_
          rintro e z3 ⟨rfl, hv3⟩
          have hS3 := chain hS2 hv3
          refine hK.out _ _ hS3 (fun _ => ?_)
          clear hK K
          try simp only [Act.put, List.setIfInBounds_toArray, List.set_cons_zero, List.set_cons_succ, List.getElem_toArray, List.getElem_cons_succ, List.getElem_cons_zero]
          refine wpAnyH_ready (rs := [7]) (by kernel_rfl) (by simp) ?_
          refine AllReadyH.cons rfl (fun K hK => ?_) AllReadyH.nil
          go_simp
          have hz3 := chain hS3 (below_alloc _ (Obj.cells (rowI zr) 64))
          refine hK.out _ _ hz3 (fun _ => ?_)
          clear hK K
          try simp only [Act.put, List.setIfInBounds_toArray, List.set_cons_zero, List.set_cons_succ, List.getElem_toArray, List.getElem_cons_succ, List.getElem_cons_zero]
          refine wpAnyH_ready (rs := [8]) (by kernel_rfl) (by simp) ?_
          refine AllReadyH.cons rfl (fun K hK => ?_) AllReadyH.nil
          rw [if_pos (by simp [Region.wanted])]
          refine wp_store_row 64 (.tmp 7) (.tmp 23) rfl z3.heap.size V rfl rfl 64 _ (heap_alloc_new _ _) hsz hs12.out hall ?_
          rw [World.setRow_alloc_new]
          obtain ⟨Wf, hWf⟩ : ∃ Wf, Wf = z3.alloc (Obj.cells V 64) := ⟨_, rfl⟩
          have hSf : Below (((w.alloc (Obj.cells #[.string an, .slice ha na ca, .int .i64 aa, .int .i64 au] 25)).alloc (Obj.cells #[.string bn, .slice hb nb cb, .int .i64 ba, .int .i64 bu] 25)).alloc (Obj.cells #[.int .i64 0, .int .i64 0, .int .i64 0, .int .i64 0, .int .i64 0] 28)).heap.size (((w.alloc (Obj.cells #[.string an, .slice ha na ca, .int .i64 aa, .int .i64 au] 25)).alloc (Obj.cells #[.string bn, .slice hb nb cb, .int .i64 ba, .int .i64 bu] 25)).alloc (Obj.cells #[.int .i64 0, .int .i64 0, .int .i64 0, .int .i64 0, .int .i64 0] 28)) Wf := by rw [hWf]; exact chain hS3 (below_alloc _ _)
          have RF : Wf.heap[z3.heap.size]? = some (.cells V 64 (0, 0)) := by rw [hWf]; exact heapNew _ _
          rw [← hWf]
          refine hK.out _ _ hSf (fun _ => ?_)
          clear hK K
          try simp only [Act.put]
          refine wpAnyH_done (by kernel_rfl) ?_ _
          try simp
          generalize hblk : z3.heap.size = nbk at *
          clear hWf hblk
          have HBf : Hid (Below w.heap.size w Wf) := chain (chain (chain (below_alloc _ _) (below_alloc _ _)) (below_alloc _ _)) hSf
          obtain ⟨⟨a0, a1, a2, a3⟩, ⟨b0, b1, b2, b3⟩, ⟨p0, p1, p2, p3, p4⟩, pf⟩ := ckAt (an := an) (ha := ha) (na := na) (ca := ca) (aa := aa) (au := au) (bn := bn) (hb := hb) (nb := nb) (cb := cb) (ba := ba) (bu := bu) hSf
          obtain ⟨vv0, p0⟩ : ∃ v, Wf.cell? ⟨w.heap.size + 1 + 1, 0, none⟩ = some v := ⟨_, p0⟩
          obtain ⟨vv1, p1⟩ : ∃ v, Wf.cell? ⟨w.heap.size + 1 + 1, 1, none⟩ = some v := ⟨_, p1⟩
          obtain ⟨vv2, p2⟩ : ∃ v, Wf.cell? ⟨w.heap.size + 1 + 1, 2, none⟩ = some v := ⟨_, p2⟩
          obtain ⟨vv3, p3⟩ : ∃ v, Wf.cell? ⟨w.heap.size + 1 + 1, 3, none⟩ = some v := ⟨_, p3⟩
          obtain ⟨vv4, p4⟩ : ∃ v, Wf.cell? ⟨w.heap.size + 1 + 1, 4, none⟩ = some v := ⟨_, p4⟩
          have f0 := pf 0
          have f1 := pf 1
          have f2 := pf 2
          have f3 := pf 3
          have f4 := pf 4
          clear pf
          have hRf : Wf.heap[nbk]? = some (.cells V 64 (0, 0)) := RF
          have HEm := fun W => HE.out W
          have hlt3 : w.heap.size + 1 + 1 < Wf.heap.size := by have := hSf.size; simp at this; omega
          clear hSf RF
          rcases hw with ⟨g1, rfl, rfl, rfl⟩ | ⟨g1, rfl, rfl, rfl, rfl, rfl⟩ | ⟨g1, rfl, g3, rfl, rfl, rfl⟩ | ⟨g1, g2, rfl, rfl, rfl⟩
          · rw [g1] at HEm
            go_wp2_with (first | (refine wpList_load_row rfl 64 (.tmp 7) rfl nbk rfl 64 _ (0, 0) _ (by assumption) Try.underlying64 rfl hsz ?_))
            (first | go_at_call 30 | skip)
            refine (HEm _).mono ?_
            rintro e wx ⟨rfl, hbx⟩
            have hlt4 : w.heap.size + 1 + 1 < wx.heap.size := Nat.lt_of_lt_of_le hlt3 hbx.size
            have HBx : Hid (Below w.heap.size w wx) := chain HBf.out hbx
            have hRx : wx.heap[nbk]? = some (.cells V 64 (0, 0)) := (hbx.block _ (RoomLt hRf)).trans hRf
            obtain ⟨qc, qf, _⟩ := bfacts hbx
            have p0 := (qc (w.heap.size + 1 + 1) 0 (by omega)).trans p0
            have p1 := (qc (w.heap.size + 1 + 1) 1 (by omega)).trans p1
            have p2 := (qc (w.heap.size + 1 + 1) 2 (by omega)).trans p2
            have p3 := (qc (w.heap.size + 1 + 1) 3 (by omega)).trans p3
            have p4 := (qc (w.heap.size + 1 + 1) 4 (by omega)).trans p4
            have f0 := (qf (w.heap.size + 1 + 1) 0 (by omega)).trans f0
            have f1 := (qf (w.heap.size + 1 + 1) 1 (by omega)).trans f1
            have f2 := (qf (w.heap.size + 1 + 1) 2 (by omega)).trans f2
            have f3 := (qf (w.heap.size + 1 + 1) 3 (by omega)).trans f3
            have f4 := (qf (w.heap.size + 1 + 1) 4 (by omega)).trans f4
            have a2 := (qc w.heap.size 2 (by omega)).trans a2
            have a3 := (qc w.heap.size 3 (by omega)).trans a3
            have b2 := (qc (w.heap.size + 1) 2 (by omega)).trans b2
            have b3 := (qc (w.heap.size + 1) 3 (by omega)).trans b3
            clear qc qf hbx hRf HEm
            go_wp2
            refine bodyPost_ret (v := .tuple #[.agg #[.int .i64 0, .int .i64 0, .int .i64 0, .int .i64 0, .int .i64 0], .bool false, .int .i64 0]) (by simp [results, Try.results15, go_sem, p0, p1, p2, p3, p4]) rfl ⟨rfl, ?_⟩
            repeat refine Below.setCell ?_ (by dsimp only; omega) _
            exact HBx.out
          · rw [g1] at HEm
            go_wp2_with (first | (refine wpList_load_row rfl 64 (.tmp 7) rfl nbk rfl 64 _ (0, 0) _ (by assumption) Try.underlying64 rfl hsz ?_))
            (first | go_at_call 30 | skip)
            refine (HEm _).mono ?_
            rintro e wx ⟨rfl, hbx⟩
            have hlt4 : w.heap.size + 1 + 1 < wx.heap.size := Nat.lt_of_lt_of_le hlt3 hbx.size
            have HBx : Hid (Below w.heap.size w wx) := chain HBf.out hbx
            have hRx : wx.heap[nbk]? = some (.cells V 64 (0, 0)) := (hbx.block _ (RoomLt hRf)).trans hRf
            obtain ⟨qc, qf, _⟩ := bfacts hbx
            have p0 := (qc (w.heap.size + 1 + 1) 0 (by omega)).trans p0
            have p1 := (qc (w.heap.size + 1 + 1) 1 (by omega)).trans p1
            have p2 := (qc (w.heap.size + 1 + 1) 2 (by omega)).trans p2
            have p3 := (qc (w.heap.size + 1 + 1) 3 (by omega)).trans p3
            have p4 := (qc (w.heap.size + 1 + 1) 4 (by omega)).trans p4
            have f0 := (qf (w.heap.size + 1 + 1) 0 (by omega)).trans f0
            have f1 := (qf (w.heap.size + 1 + 1) 1 (by omega)).trans f1
            have f2 := (qf (w.heap.size + 1 + 1) 2 (by omega)).trans f2
            have f3 := (qf (w.heap.size + 1 + 1) 3 (by omega)).trans f3
            have f4 := (qf (w.heap.size + 1 + 1) 4 (by omega)).trans f4
            have a2 := (qc w.heap.size 2 (by omega)).trans a2
            have a3 := (qc w.heap.size 3 (by omega)).trans a3
            have b2 := (qc (w.heap.size + 1) 2 (by omega)).trans b2
            have b3 := (qc (w.heap.size + 1) 3 (by omega)).trans b3
            clear qc qf hbx hRf HEm
            go_wp2
            refine bodyPost_ret (v := .tuple #[.agg #[.int .i64 0, .int .i64 0, .int .i64 0, .int .i64 0, .int .i64 0], .bool false, .int .i64 0]) (by simp [results, Try.results15, go_sem, p0, p1, p2, p3, p4]) rfl ⟨rfl, ?_⟩
            repeat refine Below.setCell ?_ (by dsimp only; omega) _
            exact HBx.out
          · rw [g1] at HEm
            go_wp2_with (first | (refine wpList_load_row rfl 64 (.tmp 7) rfl nbk rfl 64 _ (0, 0) _ (by assumption) Try.underlying64 rfl hsz ?_))
            (first | go_at_call 30 | skip)
            refine (HEm _).mono ?_
            rintro e wx ⟨rfl, hbx⟩
            have hlt4 : w.heap.size + 1 + 1 < wx.heap.size := Nat.lt_of_lt_of_le hlt3 hbx.size
            have HBx : Hid (Below w.heap.size w wx) := chain HBf.out hbx
            have hRx : wx.heap[nbk]? = some (.cells V 64 (0, 0)) := (hbx.block _ (RoomLt hRf)).trans hRf
            obtain ⟨qc, qf, _⟩ := bfacts hbx
            have p0 := (qc (w.heap.size + 1 + 1) 0 (by omega)).trans p0
            have p1 := (qc (w.heap.size + 1 + 1) 1 (by omega)).trans p1
            have p2 := (qc (w.heap.size + 1 + 1) 2 (by omega)).trans p2
            have p3 := (qc (w.heap.size + 1 + 1) 3 (by omega)).trans p3
            have p4 := (qc (w.heap.size + 1 + 1) 4 (by omega)).trans p4
            have f0 := (qf (w.heap.size + 1 + 1) 0 (by omega)).trans f0
            have f1 := (qf (w.heap.size + 1 + 1) 1 (by omega)).trans f1
            have f2 := (qf (w.heap.size + 1 + 1) 2 (by omega)).trans f2
            have f3 := (qf (w.heap.size + 1 + 1) 3 (by omega)).trans f3
            have f4 := (qf (w.heap.size + 1 + 1) 4 (by omega)).trans f4
            have a2 := (qc w.heap.size 2 (by omega)).trans a2
            have a3 := (qc w.heap.size 3 (by omega)).trans a3
            have b2 := (qc (w.heap.size + 1) 2 (by omega)).trans b2
            have b3 := (qc (w.heap.size + 1) 3 (by omega)).trans b3
            clear qc qf hbx hRf HEm
            go_wp2_with (first | (refine wpList_load_row rfl 64 (.tmp 7) rfl nbk rfl 64 _ (0, 0) _ (by assumption) Try.underlying64 rfl hsz ?_))
            (first | go_at_call 32 | skip)
            refine (HL.out _).mono ?_
            rintro e wy ⟨rfl, hby⟩
            have HBy : Hid (Below w.heap.size w wy) := chain HBx.out hby
            obtain ⟨qc, qf, _⟩ := bfacts hby
            have p0 := (qc (w.heap.size + 1 + 1) 0 (by omega)).trans p0
            have p1 := (qc (w.heap.size + 1 + 1) 1 (by omega)).trans p1
            have p2 := (qc (w.heap.size + 1 + 1) 2 (by omega)).trans p2
            have p3 := (qc (w.heap.size + 1 + 1) 3 (by omega)).trans p3
            have p4 := (qc (w.heap.size + 1 + 1) 4 (by omega)).trans p4
            have f0 := (qf (w.heap.size + 1 + 1) 0 (by omega)).trans f0
            have f1 := (qf (w.heap.size + 1 + 1) 1 (by omega)).trans f1
            have f2 := (qf (w.heap.size + 1 + 1) 2 (by omega)).trans f2
            have f3 := (qf (w.heap.size + 1 + 1) 3 (by omega)).trans f3
            have f4 := (qf (w.heap.size + 1 + 1) 4 (by omega)).trans f4
            clear qc qf hby
            go_wp2
            refine bodyPost_ret (v := .tuple #[.agg #[.int .i64 y1, .int .i64 y2, .int .i64 y3, .int .i64 y4, .int .i64 y5], .bool true, .int .i64 0]) (by simp [results, Try.results15, go_sem, p0, p1, p2, p3, p4]) rfl ⟨by rw [HLV.out g1], ?_⟩
            repeat refine Below.setCell ?_ (by dsimp only; omega) _
            exact HBy.out
          · rw [g1] at HEm
            go_wp2_with (first | (refine wpList_load_row rfl 64 (.tmp 7) rfl nbk rfl 64 _ (0, 0) _ (by assumption) Try.underlying64 rfl hsz ?_))
            (first | go_at_call 30 | skip)
            refine (HEm _).mono ?_
            rintro e wx ⟨rfl, hbx⟩
            have hlt4 : w.heap.size + 1 + 1 < wx.heap.size := Nat.lt_of_lt_of_le hlt3 hbx.size
            have HBx : Hid (Below w.heap.size w wx) := chain HBf.out hbx
            have hRx : wx.heap[nbk]? = some (.cells V 64 (0, 0)) := (hbx.block _ (RoomLt hRf)).trans hRf
            obtain ⟨qc, qf, _⟩ := bfacts hbx
            have p0 := (qc (w.heap.size + 1 + 1) 0 (by omega)).trans p0
            have p1 := (qc (w.heap.size + 1 + 1) 1 (by omega)).trans p1
            have p2 := (qc (w.heap.size + 1 + 1) 2 (by omega)).trans p2
            have p3 := (qc (w.heap.size + 1 + 1) 3 (by omega)).trans p3
            have p4 := (qc (w.heap.size + 1 + 1) 4 (by omega)).trans p4
            have f0 := (qf (w.heap.size + 1 + 1) 0 (by omega)).trans f0
            have f1 := (qf (w.heap.size + 1 + 1) 1 (by omega)).trans f1
            have f2 := (qf (w.heap.size + 1 + 1) 2 (by omega)).trans f2
            have f3 := (qf (w.heap.size + 1 + 1) 3 (by omega)).trans f3
            have f4 := (qf (w.heap.size + 1 + 1) 4 (by omega)).trans f4
            have a2 := (qc w.heap.size 2 (by omega)).trans a2
            have a3 := (qc w.heap.size 3 (by omega)).trans a3
            have b2 := (qc (w.heap.size + 1) 2 (by omega)).trans b2
            have b3 := (qc (w.heap.size + 1) 3 (by omega)).trans b3
            clear qc qf hbx hRf HEm
            go_wp2_with (first | (refine wpList_load_row rfl 64 (.tmp 7) rfl nbk rfl 64 _ (0, 0) _ (by assumption) Try.underlying64 rfl hsz ?_))
            (first | go_at_call 32 | skip)
            refine (HL.out _).mono ?_
            rintro e wy ⟨rfl, hby⟩
            have HBy : Hid (Below w.heap.size w wy) := chain HBx.out hby
            obtain ⟨qc, qf, _⟩ := bfacts hby
            have p0 := (qc (w.heap.size + 1 + 1) 0 (by omega)).trans p0
            have p1 := (qc (w.heap.size + 1 + 1) 1 (by omega)).trans p1
            have p2 := (qc (w.heap.size + 1 + 1) 2 (by omega)).trans p2
            have p3 := (qc (w.heap.size + 1 + 1) 3 (by omega)).trans p3
            have p4 := (qc (w.heap.size + 1 + 1) 4 (by omega)).trans p4
            have f0 := (qf (w.heap.size + 1 + 1) 0 (by omega)).trans f0
            have f1 := (qf (w.heap.size + 1 + 1) 1 (by omega)).trans f1
            have f2 := (qf (w.heap.size + 1 + 1) 2 (by omega)).trans f2
            have f3 := (qf (w.heap.size + 1 + 1) 3 (by omega)).trans f3
            have f4 := (qf (w.heap.size + 1 + 1) 4 (by omega)).trans f4
            clear qc qf hby
            go_wp2
            refine bodyPost_ret (v := .tuple #[.agg #[.int .i64 y1, .int .i64 y2, .int .i64 y3, .int .i64 y4, .int .i64 y5], .bool true, .int .i64 0]) (by simp [results, Try.results15, go_sem, p0, p1, p2, p3, p4]) rfl ⟨by rw [HLV.out g1], ?_⟩
            repeat refine Below.setCell ?_ (by dsimp only; omega) _
            exact HBy.out
        · skip
          go_simp
          have hz2 := chain hS2 (below_alloc _ (Obj.cells (rowI zr) 64))
          refine hK.out _ _ hz2 (fun _ => ?_)
          clear hK K
          try simp only [Act.put, List.setIfInBounds_toArray, List.set_cons_zero, List.set_cons_succ, List.getElem_toArray, List.getElem_cons_succ, List.getElem_cons_zero]
          have Rz : (z2.alloc (Obj.cells (rowI zr) 64)).heap[z2.heap.size]? = some (.cells (rowI zr) 64 (0, 0)) := heapNew _ _
          have hzl : (((w.alloc (Obj.cells #[.string an, .slice ha na ca, .int .i64 aa, .int .i64 au] 25)).alloc (Obj.cells #[.string bn, .slice hb nb cb, .int .i64 ba, .int .i64 bu] 25)).alloc (Obj.cells #[.int .i64 0, .int .i64 0, .int .i64 0, .int .i64 0, .int .i64 0] 28)).heap.size ≤ z2.heap.size := hS2.size
          refine wpAnyH_ready (rs := [6]) (by kernel_rfl) (by simp) ?_
          refine AllReadyH.cons rfl (fun K hK => ?_) AllReadyH.nil
          go_simp
          go_at_call 46
          refine (HBo.out _).mono ?_
          rintro e z3 ⟨rfl, hv3⟩
          have hS3 := chain hz2 hv3
          have Rz := (hv3.block _ (RoomLt Rz)).trans Rz
          refine hK.out _ _ hS3 (fun _ => ?_)
          clear hK K
          try simp only [Act.put, List.setIfInBounds_toArray, List.set_cons_zero, List.set_cons_succ, List.getElem_toArray, List.getElem_cons_succ, List.getElem_cons_zero]
          refine wpAnyH_ready (rs := [8]) (by kernel_rfl) (by simp) ?_
          refine AllReadyH.cons rfl (fun K hK => ?_) AllReadyH.nil
          rw [if_pos (by simp [Region.wanted])]
          refine wp_store_row 64 (.tmp 7) (.tmp 23) rfl z2.heap.size V rfl rfl 64 (rowI zr) Rz hsz hs12.out hall ?_
          obtain ⟨Wf, hWf⟩ : ∃ Wf, Wf = z3.setRow z2.heap.size V := ⟨_, rfl⟩
          have hSf : Below (((w.alloc (Obj.cells #[.string an, .slice ha na ca, .int .i64 aa, .int .i64 au] 25)).alloc (Obj.cells #[.string bn, .slice hb nb cb, .int .i64 ba, .int .i64 bu] 25)).alloc (Obj.cells #[.int .i64 0, .int .i64 0, .int .i64 0, .int .i64 0, .int .i64 0] 28)).heap.size (((w.alloc (Obj.cells #[.string an, .slice ha na ca, .int .i64 aa, .int .i64 au] 25)).alloc (Obj.cells #[.string bn, .slice hb nb cb, .int .i64 ba, .int .i64 bu] 25)).alloc (Obj.cells #[.int .i64 0, .int .i64 0, .int .i64 0, .int .i64 0, .int .i64 0] 28)) Wf := by rw [hWf]; exact belowRow hS3 (hzl) _
          have RF : Wf.heap[z2.heap.size]? = some (.cells V 64 (0, 0)) := by rw [hWf]; exact setRow_heap _ _ _ _ _ _ Rz
          rw [← hWf]
          refine hK.out _ _ hSf (fun _ => ?_)
          clear hK K
          try simp only [Act.put]
          refine wpAnyH_done (by kernel_rfl) ?_ _
          try simp
          generalize hblk : z2.heap.size = nbk at *
          clear hWf hblk
          have HBf : Hid (Below w.heap.size w Wf) := chain (chain (chain (below_alloc _ _) (below_alloc _ _)) (below_alloc _ _)) hSf
          obtain ⟨⟨a0, a1, a2, a3⟩, ⟨b0, b1, b2, b3⟩, ⟨p0, p1, p2, p3, p4⟩, pf⟩ := ckAt (an := an) (ha := ha) (na := na) (ca := ca) (aa := aa) (au := au) (bn := bn) (hb := hb) (nb := nb) (cb := cb) (ba := ba) (bu := bu) hSf
          obtain ⟨vv0, p0⟩ : ∃ v, Wf.cell? ⟨w.heap.size + 1 + 1, 0, none⟩ = some v := ⟨_, p0⟩
          obtain ⟨vv1, p1⟩ : ∃ v, Wf.cell? ⟨w.heap.size + 1 + 1, 1, none⟩ = some v := ⟨_, p1⟩
          obtain ⟨vv2, p2⟩ : ∃ v, Wf.cell? ⟨w.heap.size + 1 + 1, 2, none⟩ = some v := ⟨_, p2⟩
          obtain ⟨vv3, p3⟩ : ∃ v, Wf.cell? ⟨w.heap.size + 1 + 1, 3, none⟩ = some v := ⟨_, p3⟩
          obtain ⟨vv4, p4⟩ : ∃ v, Wf.cell? ⟨w.heap.size + 1 + 1, 4, none⟩ = some v := ⟨_, p4⟩
          have f0 := pf 0
          have f1 := pf 1
          have f2 := pf 2
          have f3 := pf 3
          have f4 := pf 4
          clear pf
          have hRf : Wf.heap[nbk]? = some (.cells V 64 (0, 0)) := RF
          have HEm := fun W => HE.out W
          have hlt3 : w.heap.size + 1 + 1 < Wf.heap.size := by have := hSf.size; simp at this; omega
          clear hSf RF
          rcases hw with ⟨g1, rfl, rfl, rfl⟩ | ⟨g1, rfl, rfl, rfl, rfl, rfl⟩ | ⟨g1, rfl, g3, rfl, rfl, rfl⟩ | ⟨g1, g2, rfl, rfl, rfl⟩
          · rw [g1] at HEm
            go_wp2_with (first | (refine wpList_load_row rfl 64 (.tmp 7) rfl nbk rfl 64 _ (0, 0) _ (by assumption) Try.underlying64 rfl hsz ?_))
            (first | go_at_call 30 | skip)
            refine (HEm _).mono ?_
            rintro e wx ⟨rfl, hbx⟩
            have hlt4 : w.heap.size + 1 + 1 < wx.heap.size := Nat.lt_of_lt_of_le hlt3 hbx.size
            have HBx : Hid (Below w.heap.size w wx) := chain HBf.out hbx
            have hRx : wx.heap[nbk]? = some (.cells V 64 (0, 0)) := (hbx.block _ (RoomLt hRf)).trans hRf
            obtain ⟨qc, qf, _⟩ := bfacts hbx
            have p0 := (qc (w.heap.size + 1 + 1) 0 (by omega)).trans p0
            have p1 := (qc (w.heap.size + 1 + 1) 1 (by omega)).trans p1
            have p2 := (qc (w.heap.size + 1 + 1) 2 (by omega)).trans p2
            have p3 := (qc (w.heap.size + 1 + 1) 3 (by omega)).trans p3
            have p4 := (qc (w.heap.size + 1 + 1) 4 (by omega)).trans p4
            have f0 := (qf (w.heap.size + 1 + 1) 0 (by omega)).trans f0
            have f1 := (qf (w.heap.size + 1 + 1) 1 (by omega)).trans f1
            have f2 := (qf (w.heap.size + 1 + 1) 2 (by omega)).trans f2
            have f3 := (qf (w.heap.size + 1 + 1) 3 (by omega)).trans f3
            have f4 := (qf (w.heap.size + 1 + 1) 4 (by omega)).trans f4
            have a2 := (qc w.heap.size 2 (by omega)).trans a2
            have a3 := (qc w.heap.size 3 (by omega)).trans a3
            have b2 := (qc (w.heap.size + 1) 2 (by omega)).trans b2
            have b3 := (qc (w.heap.size + 1) 3 (by omega)).trans b3
            clear qc qf hbx hRf HEm
            go_wp2
            refine bodyPost_ret (v := .tuple #[.agg #[.int .i64 0, .int .i64 0, .int .i64 0, .int .i64 0, .int .i64 0], .bool false, .int .i64 0]) (by simp [results, Try.results15, go_sem, p0, p1, p2, p3, p4]) rfl ⟨rfl, ?_⟩
            repeat refine Below.setCell ?_ (by dsimp only; omega) _
            exact HBx.out
          · rw [g1] at HEm
            go_wp2_with (first | (refine wpList_load_row rfl 64 (.tmp 7) rfl nbk rfl 64 _ (0, 0) _ (by assumption) Try.underlying64 rfl hsz ?_))
            (first | go_at_call 30 | skip)
            refine (HEm _).mono ?_
            rintro e wx ⟨rfl, hbx⟩
            have hlt4 : w.heap.size + 1 + 1 < wx.heap.size := Nat.lt_of_lt_of_le hlt3 hbx.size
            have HBx : Hid (Below w.heap.size w wx) := chain HBf.out hbx
            have hRx : wx.heap[nbk]? = some (.cells V 64 (0, 0)) := (hbx.block _ (RoomLt hRf)).trans hRf
            obtain ⟨qc, qf, _⟩ := bfacts hbx
            have p0 := (qc (w.heap.size + 1 + 1) 0 (by omega)).trans p0
            have p1 := (qc (w.heap.size + 1 + 1) 1 (by omega)).trans p1
            have p2 := (qc (w.heap.size + 1 + 1) 2 (by omega)).trans p2
            have p3 := (qc (w.heap.size + 1 + 1) 3 (by omega)).trans p3
            have p4 := (qc (w.heap.size + 1 + 1) 4 (by omega)).trans p4
            have f0 := (qf (w.heap.size + 1 + 1) 0 (by omega)).trans f0
            have f1 := (qf (w.heap.size + 1 + 1) 1 (by omega)).trans f1
            have f2 := (qf (w.heap.size + 1 + 1) 2 (by omega)).trans f2
            have f3 := (qf (w.heap.size + 1 + 1) 3 (by omega)).trans f3
            have f4 := (qf (w.heap.size + 1 + 1) 4 (by omega)).trans f4
            have a2 := (qc w.heap.size 2 (by omega)).trans a2
            have a3 := (qc w.heap.size 3 (by omega)).trans a3
            have b2 := (qc (w.heap.size + 1) 2 (by omega)).trans b2
            have b3 := (qc (w.heap.size + 1) 3 (by omega)).trans b3
            clear qc qf hbx hRf HEm
            go_wp2
            refine bodyPost_ret (v := .tuple #[.agg #[.int .i64 0, .int .i64 0, .int .i64 0, .int .i64 0, .int .i64 0], .bool false, .int .i64 0]) (by simp [results, Try.results15, go_sem, p0, p1, p2, p3, p4]) rfl ⟨rfl, ?_⟩
            repeat refine Below.setCell ?_ (by dsimp only; omega) _
            exact HBx.out
          · rw [g1] at HEm
            go_wp2_with (first | (refine wpList_load_row rfl 64 (.tmp 7) rfl nbk rfl 64 _ (0, 0) _ (by assumption) Try.underlying64 rfl hsz ?_))
            (first | go_at_call 30 | skip)
            refine (HEm _).mono ?_
            rintro e wx ⟨rfl, hbx⟩
            have hlt4 : w.heap.size + 1 + 1 < wx.heap.size := Nat.lt_of_lt_of_le hlt3 hbx.size
            have HBx : Hid (Below w.heap.size w wx) := chain HBf.out hbx
            have hRx : wx.heap[nbk]? = some (.cells V 64 (0, 0)) := (hbx.block _ (RoomLt hRf)).trans hRf
            obtain ⟨qc, qf, _⟩ := bfacts hbx
            have p0 := (qc (w.heap.size + 1 + 1) 0 (by omega)).trans p0
            have p1 := (qc (w.heap.size + 1 + 1) 1 (by omega)).trans p1
            have p2 := (qc (w.heap.size + 1 + 1) 2 (by omega)).trans p2
            have p3 := (qc (w.heap.size + 1 + 1) 3 (by omega)).trans p3
            have p4 := (qc (w.heap.size + 1 + 1) 4 (by omega)).trans p4
            have f0 := (qf (w.heap.size + 1 + 1) 0 (by omega)).trans f0
            have f1 := (qf (w.heap.size + 1 + 1) 1 (by omega)).trans f1
            have f2 := (qf (w.heap.size + 1 + 1) 2 (by omega)).trans f2
            have f3 := (qf (w.heap.size + 1 + 1) 3 (by omega)).trans f3
            have f4 := (qf (w.heap.size + 1 + 1) 4 (by omega)).trans f4
            have a2 := (qc w.heap.size 2 (by omega)).trans a2
            have a3 := (qc w.heap.size 3 (by omega)).trans a3
            have b2 := (qc (w.heap.size + 1) 2 (by omega)).trans b2
            have b3 := (qc (w.heap.size + 1) 3 (by omega)).trans b3
            clear qc qf hbx hRf HEm
            go_wp2_with (first | (refine wpList_load_row rfl 64 (.tmp 7) rfl nbk rfl 64 _ (0, 0) _ (by assumption) Try.underlying64 rfl hsz ?_))
            (first | go_at_call 32 | skip)
            refine (HL.out _).mono ?_
            rintro e wy ⟨rfl, hby⟩
            have HBy : Hid (Below w.heap.size w wy) := chain HBx.out hby
            obtain ⟨qc, qf, _⟩ := bfacts hby
            have p0 := (qc (w.heap.size + 1 + 1) 0 (by omega)).trans p0
            have p1 := (qc (w.heap.size + 1 + 1) 1 (by omega)).trans p1
            have p2 := (qc (w.heap.size + 1 + 1) 2 (by omega)).trans p2
            have p3 := (qc (w.heap.size + 1 + 1) 3 (by omega)).trans p3
            have p4 := (qc (w.heap.size + 1 + 1) 4 (by omega)).trans p4
            have f0 := (qf (w.heap.size + 1 + 1) 0 (by omega)).trans f0
            have f1 := (qf (w.heap.size + 1 + 1) 1 (by omega)).trans f1
            have f2 := (qf (w.heap.size + 1 + 1) 2 (by omega)).trans f2
            have f3 := (qf (w.heap.size + 1 + 1) 3 (by omega)).trans f3
            have f4 := (qf (w.heap.size + 1 + 1) 4 (by omega)).trans f4
            clear qc qf hby
            go_wp2
            refine bodyPost_ret (v := .tuple #[.agg #[.int .i64 y1, .int .i64 y2, .int .i64 y3, .int .i64 y4, .int .i64 y5], .bool true, .int .i64 0]) (by simp [results, Try.results15, go_sem, p0, p1, p2, p3, p4]) rfl ⟨by rw [HLV.out g1], ?_⟩
            repeat refine Below.setCell ?_ (by dsimp only; omega) _
            exact HBy.out
          · rw [g1] at HEm
            go_wp2_with (first | (refine wpList_load_row rfl 64 (.tmp 7) rfl nbk rfl 64 _ (0, 0) _ (by assumption) Try.underlying64 rfl hsz ?_))
            (first | go_at_call 30 | skip)
            refine (HEm _).mono ?_
            rintro e wx ⟨rfl, hbx⟩
            have hlt4 : w.heap.size + 1 + 1 < wx.heap.size := Nat.lt_of_lt_of_le hlt3 hbx.size
            have HBx : Hid (Below w.heap.size w wx) := chain HBf.out hbx
            have hRx : wx.heap[nbk]? = some (.cells V 64 (0, 0)) := (hbx.block _ (RoomLt hRf)).trans hRf
            obtain ⟨qc, qf, _⟩ := bfacts hbx
            have p0 := (qc (w.heap.size + 1 + 1) 0 (by omega)).trans p0
            have p1 := (qc (w.heap.size + 1 + 1) 1 (by omega)).trans p1
            have p2 := (qc (w.heap.size + 1 + 1) 2 (by omega)).trans p2
            have p3 := (qc (w.heap.size + 1 + 1) 3 (by omega)).trans p3
            have p4 := (qc (w.heap.size + 1 + 1) 4 (by omega)).trans p4
            have f0 := (qf (w.heap.size + 1 + 1) 0 (by omega)).trans f0
            have f1 := (qf (w.heap.size + 1 + 1) 1 (by omega)).trans f1
            have f2 := (qf (w.heap.size + 1 + 1) 2 (by omega)).trans f2
            have f3 := (qf (w.heap.size + 1 + 1) 3 (by omega)).trans f3
            have f4 := (qf (w.heap.size + 1 + 1) 4 (by omega)).trans f4
            have a2 := (qc w.heap.size 2 (by omega)).trans a2
            have a3 := (qc w.heap.size 3 (by omega)).trans a3
            have b2 := (qc (w.heap.size + 1) 2 (by omega)).trans b2
            have b3 := (qc (w.heap.size + 1) 3 (by omega)).trans b3
            clear qc qf hbx hRf HEm
            go_wp2_with (first | (refine wpList_load_row rfl 64 (.tmp 7) rfl nbk rfl 64 _ (0, 0) _ (by assumption) Try.underlying64 rfl hsz ?_))
            (first | go_at_call 32 | skip)
            refine (HL.out _).mono ?_
            rintro e wy ⟨rfl, hby⟩
            have HBy : Hid (Below w.heap.size w wy) := chain HBx.out hby
            obtain ⟨qc, qf, _⟩ := bfacts hby
            have p0 := (qc (w.heap.size + 1 + 1) 0 (by omega)).trans p0
            have p1 := (qc (w.heap.size + 1 + 1) 1 (by omega)).trans p1
            have p2 := (qc (w.heap.size + 1 + 1) 2 (by omega)).trans p2
            have p3 := (qc (w.heap.size + 1 + 1) 3 (by omega)).trans p3
            have p4 := (qc (w.heap.size + 1 + 1) 4 (by omega)).trans p4
            have f0 := (qf (w.heap.size + 1 + 1) 0 (by omega)).trans f0
            have f1 := (qf (w.heap.size + 1 + 1) 1 (by omega)).trans f1
            have f2 := (qf (w.heap.size + 1 + 1) 2 (by omega)).trans f2
            have f3 := (qf (w.heap.size + 1 + 1) 3 (by omega)).trans f3
            have f4 := (qf (w.heap.size + 1 + 1) 4 (by omega)).trans f4
            clear qc qf hby
            go_wp2
            refine bodyPost_ret (v := .tuple #[.agg #[.int .i64 y1, .int .i64 y2, .int .i64 y3, .int .i64 y4, .int .i64 y5], .bool true, .int .i64 0]) (by simp [results, Try.results15, go_sem, p0, p1, p2, p3, p4]) rfl ⟨by rw [HLV.out g1], ?_⟩
            repeat refine Below.setCell ?_ (by dsimp only; omega) _
            exact HBy.out
      · skip
        go_simp
        have hz1 := chain hS1 (below_alloc _ (Obj.cells (rowI zr) 64))
        refine hK.out _ _ hz1 (fun _ => ?_)
        clear hK K
        try simp only [Act.put, List.setIfInBounds_toArray, List.set_cons_zero, List.set_cons_succ, List.getElem_toArray, List.getElem_cons_succ, List.getElem_cons_zero]
        have Rz : (z1.alloc (Obj.cells (rowI zr) 64)).heap[z1.heap.size]? = some (.cells (rowI zr) 64 (0, 0)) := heapNew _ _
        have hzl : (((w.alloc (Obj.cells #[.string an, .slice ha na ca, .int .i64 aa, .int .i64 au] 25)).alloc (Obj.cells #[.string bn, .slice hb nb cb, .int .i64 ba, .int .i64 bu] 25)).alloc (Obj.cells #[.int .i64 0, .int .i64 0, .int .i64 0, .int .i64 0, .int .i64 0] 28)).heap.size ≤ z1.heap.size := hS1.size
        refine wpAnyH_ready (rs := [5]) (by kernel_rfl) (by simp) ?_
        refine AllReadyH.cons rfl (fun K hK => ?_) AllReadyH.nil
        go_simp
        go_at_call 29
        refine (HB.out _ hz1).mono ?_
        rintro e z2 ⟨rfl, hv2⟩
        have hS2 := chain hz1 hv2
        have Rz := (hv2.block _ (RoomLt Rz)).trans Rz
        refine hK.out _ _ hS2 (fun _ => ?_)
        clear hK K
        try simp only [Act.put, List.setIfInBounds_toArray, List.set_cons_zero, List.set_cons_succ, List.getElem_toArray, List.getElem_cons_succ, List.getElem_cons_zero]
        refine wpAnyH_ready (rs := [6]) (by kernel_rfl) (by simp) ?_
        refine AllReadyH.cons rfl (fun K hK => ?_) AllReadyH.nil
        go_simp
        go_at_call 46
        refine (HBo.out _).mono ?_
        rintro e z3 ⟨rfl, hv3⟩
        have hS3 := chain hS2 hv3
        have Rz := (hv3.block _ (RoomLt Rz)).trans Rz
        refine hK.out _ _ hS3 (fun _ => ?_)
        clear hK K
        try simp only [Act.put, List.setIfInBounds_toArray, List.set_cons_zero, List.set_cons_succ, List.getElem_toArray, List.getElem_cons_succ, List.getElem_cons_zero]
        refine wpAnyH_ready (rs := [8]) (by kernel_rfl) (by simp) ?_
        refine AllReadyH.cons rfl (fun K hK => ?_) AllReadyH.nil
        rw [if_pos (by simp [Region.wanted])]
        refine wp_store_row 64 (.tmp 7) (.tmp 23) rfl z1.heap.size V rfl rfl 64 (rowI zr) Rz hsz hs12.out hall ?_
        obtain ⟨Wf, hWf⟩ : ∃ Wf, Wf = z3.setRow z1.heap.size V := ⟨_, rfl⟩
        have hSf : Below (((w.alloc (Obj.cells #[.string an, .slice ha na ca, .int .i64 aa, .int .i64 au] 25)).alloc (Obj.cells #[.string bn, .slice hb nb cb, .int .i64 ba, .int .i64 bu] 25)).alloc (Obj.cells #[.int .i64 0, .int .i64 0, .int .i64 0, .int .i64 0, .int .i64 0] 28)).heap.size (((w.alloc (Obj.cells #[.string an, .slice ha na ca, .int .i64 aa, .int .i64 au] 25)).alloc (Obj.cells #[.string bn, .slice hb nb cb, .int .i64 ba, .int .i64 bu] 25)).alloc (Obj.cells #[.int .i64 0, .int .i64 0, .int .i64 0, .int .i64 0, .int .i64 0] 28)) Wf := by rw [hWf]; exact belowRow hS3 (hzl) _
        have RF : Wf.heap[z1.heap.size]? = some (.cells V 64 (0, 0)) := by rw [hWf]; exact setRow_heap _ _ _ _ _ _ Rz
        rw [← hWf]
        refine hK.out _ _ hSf (fun _ => ?_)
        clear hK K
        try simp only [Act.put]
        refine wpAnyH_done (by kernel_rfl) ?_ _
        try simp
        generalize hblk : z1.heap.size = nbk at *
        clear hWf hblk
        have HBf : Hid (Below w.heap.size w Wf) := chain (chain (chain (below_alloc _ _) (below_alloc _ _)) (below_alloc _ _)) hSf
        obtain ⟨⟨a0, a1, a2, a3⟩, ⟨b0, b1, b2, b3⟩, ⟨p0, p1, p2, p3, p4⟩, pf⟩ := ckAt (an := an) (ha := ha) (na := na) (ca := ca) (aa := aa) (au := au) (bn := bn) (hb := hb) (nb := nb) (cb := cb) (ba := ba) (bu := bu) hSf
        obtain ⟨vv0, p0⟩ : ∃ v, Wf.cell? ⟨w.heap.size + 1 + 1, 0, none⟩ = some v := ⟨_, p0⟩
        obtain ⟨vv1, p1⟩ : ∃ v, Wf.cell? ⟨w.heap.size + 1 + 1, 1, none⟩ = some v := ⟨_, p1⟩
        obtain ⟨vv2, p2⟩ : ∃ v, Wf.cell? ⟨w.heap.size + 1 + 1, 2, none⟩ = some v := ⟨_, p2⟩
        obtain ⟨vv3, p3⟩ : ∃ v, Wf.cell? ⟨w.heap.size + 1 + 1, 3, none⟩ = some v := ⟨_, p3⟩
        obtain ⟨vv4, p4⟩ : ∃ v, Wf.cell? ⟨w.heap.size + 1 + 1, 4, none⟩ = some v := ⟨_, p4⟩
        have f0 := pf 0
        have f1 := pf 1
        have f2 := pf 2
        have f3 := pf 3
        have f4 := pf 4
        clear pf
        have hRf : Wf.heap[nbk]? = some (.cells V 64 (0, 0)) := RF
        have HEm := fun W => HE.out W
        have hlt3 : w.heap.size + 1 + 1 < Wf.heap.size := by have := hSf.size; simp at this; omega
        clear hSf RF
        rcases hw with ⟨g1, rfl, rfl, rfl⟩ | ⟨g1, rfl, rfl, rfl, rfl, rfl⟩ | ⟨g1, rfl, g3, rfl, rfl, rfl⟩ | ⟨g1, g2, rfl, rfl, rfl⟩
        · rw [g1] at HEm
          go_wp2_with (first | (refine wpList_load_row rfl 64 (.tmp 7) rfl nbk rfl 64 _ (0, 0) _ (by assumption) Try.underlying64 rfl hsz ?_))
          (first | go_at_call 30 | skip)
          refine (HEm _).mono ?_
          rintro e wx ⟨rfl, hbx⟩
          have hlt4 : w.heap.size + 1 + 1 < wx.heap.size := Nat.lt_of_lt_of_le hlt3 hbx.size
          have HBx : Hid (Below w.heap.size w wx) := chain HBf.out hbx
          have hRx : wx.heap[nbk]? = some (.cells V 64 (0, 0)) := (hbx.block _ (RoomLt hRf)).trans hRf
          obtain ⟨qc, qf, _⟩ := bfacts hbx
          have p0 := (qc (w.heap.size + 1 + 1) 0 (by omega)).trans p0
          have p1 := (qc (w.heap.size + 1 + 1) 1 (by omega)).trans p1
          have p2 := (qc (w.heap.size + 1 + 1) 2 (by omega)).trans p2
          have p3 := (qc (w.heap.size + 1 + 1) 3 (by omega)).trans p3
          have p4 := (qc (w.heap.size + 1 + 1) 4 (by omega)).trans p4
          have f0 := (qf (w.heap.size + 1 + 1) 0 (by omega)).trans f0
          have f1 := (qf (w.heap.size + 1 + 1) 1 (by omega)).trans f1
          have f2 := (qf (w.heap.size + 1 + 1) 2 (by omega)).trans f2
          have f3 := (qf (w.heap.size + 1 + 1) 3 (by omega)).trans f3
          have f4 := (qf (w.heap.size + 1 + 1) 4 (by omega)).trans f4
          have a2 := (qc w.heap.size 2 (by omega)).trans a2
          have a3 := (qc w.heap.size 3 (by omega)).trans a3
          have b2 := (qc (w.heap.size + 1) 2 (by omega)).trans b2
          have b3 := (qc (w.heap.size + 1) 3 (by omega)).trans b3
          clear qc qf hbx hRf HEm
          go_wp2
          refine bodyPost_ret (v := .tuple #[.agg #[.int .i64 0, .int .i64 0, .int .i64 0, .int .i64 0, .int .i64 0], .bool false, .int .i64 0]) (by simp [results, Try.results15, go_sem, p0, p1, p2, p3, p4]) rfl ⟨rfl, ?_⟩
          repeat refine Below.setCell ?_ (by dsimp only; omega) _
          exact HBx.out
        · rw [g1] at HEm
          go_wp2_with (first | (refine wpList_load_row rfl 64 (.tmp 7) rfl nbk rfl 64 _ (0, 0) _ (by assumption) Try.underlying64 rfl hsz ?_))
          (first | go_at_call 30 | skip)
          refine (HEm _).mono ?_
          rintro e wx ⟨rfl, hbx⟩
          have hlt4 : w.heap.size + 1 + 1 < wx.heap.size := Nat.lt_of_lt_of_le hlt3 hbx.size
          have HBx : Hid (Below w.heap.size w wx) := chain HBf.out hbx
          have hRx : wx.heap[nbk]? = some (.cells V 64 (0, 0)) := (hbx.block _ (RoomLt hRf)).trans hRf
          obtain ⟨qc, qf, _⟩ := bfacts hbx
          have p0 := (qc (w.heap.size + 1 + 1) 0 (by omega)).trans p0
          have p1 := (qc (w.heap.size + 1 + 1) 1 (by omega)).trans p1
          have p2 := (qc (w.heap.size + 1 + 1) 2 (by omega)).trans p2
          have p3 := (qc (w.heap.size + 1 + 1) 3 (by omega)).trans p3
          have p4 := (qc (w.heap.size + 1 + 1) 4 (by omega)).trans p4
          have f0 := (qf (w.heap.size + 1 + 1) 0 (by omega)).trans f0
          have f1 := (qf (w.heap.size + 1 + 1) 1 (by omega)).trans f1
          have f2 := (qf (w.heap.size + 1 + 1) 2 (by omega)).trans f2
          have f3 := (qf (w.heap.size + 1 + 1) 3 (by omega)).trans f3
          have f4 := (qf (w.heap.size + 1 + 1) 4 (by omega)).trans f4
          have a2 := (qc w.heap.size 2 (by omega)).trans a2
          have a3 := (qc w.heap.size 3 (by omega)).trans a3
          have b2 := (qc (w.heap.size + 1) 2 (by omega)).trans b2
          have b3 := (qc (w.heap.size + 1) 3 (by omega)).trans b3
          clear qc qf hbx hRf HEm
          go_wp2
          refine bodyPost_ret (v := .tuple #[.agg #[.int .i64 0, .int .i64 0, .int .i64 0, .int .i64 0, .int .i64 0], .bool false, .int .i64 0]) (by simp [results, Try.results15, go_sem, p0, p1, p2, p3, p4]) rfl ⟨rfl, ?_⟩
          repeat refine Below.setCell ?_ (by dsimp only; omega) _
          exact HBx.out
        · rw [g1] at HEm
          go_wp2_with (first | (refine wpList_load_row rfl 64 (.tmp 7) rfl nbk rfl 64 _ (0, 0) _ (by assumption) Try.underlying64 rfl hsz ?_))
          (first | go_at_call 30 | skip)
          refine (HEm _).mono ?_
          rintro e wx ⟨rfl, hbx⟩
          have hlt4 : w.heap.size + 1 + 1 < wx.heap.size := Nat.lt_of_lt_of_le hlt3 hbx.size
          have HBx : Hid (Below w.heap.size w wx) := chain HBf.out hbx
          have hRx : wx.heap[nbk]? = some (.cells V 64 (0, 0)) := (hbx.block _ (RoomLt hRf)).trans hRf
          obtain ⟨qc, qf, _⟩ := bfacts hbx
          have p0 := (qc (w.heap.size + 1 + 1) 0 (by omega)).trans p0
          have p1 := (qc (w.heap.size + 1 + 1) 1 (by omega)).trans p1
          have p2 := (qc (w.heap.size + 1 + 1) 2 (by omega)).trans p2
          have p3 := (qc (w.heap.size + 1 + 1) 3 (by omega)).trans p3
          have p4 := (qc (w.heap.size + 1 + 1) 4 (by omega)).trans p4
          have f0 := (qf (w.heap.size + 1 + 1) 0 (by omega)).trans f0
          have f1 := (qf (w.heap.size + 1 + 1) 1 (by omega)).trans f1
          have f2 := (qf (w.heap.size + 1 + 1) 2 (by omega)).trans f2
          have f3 := (qf (w.heap.size + 1 + 1) 3 (by omega)).trans f3
          have f4 := (qf (w.heap.size + 1 + 1) 4 (by omega)).trans f4
          have a2 := (qc w.heap.size 2 (by omega)).trans a2
          have a3 := (qc w.heap.size 3 (by omega)).trans a3
          have b2 := (qc (w.heap.size + 1) 2 (by omega)).trans b2
          have b3 := (qc (w.heap.size + 1) 3 (by omega)).trans b3
          clear qc qf hbx hRf HEm
          go_wp2_with (first | (refine wpList_load_row rfl 64 (.tmp 7) rfl nbk rfl 64 _ (0, 0) _ (by assumption) Try.underlying64 rfl hsz ?_))
          (first | go_at_call 32 | skip)
          refine (HL.out _).mono ?_
          rintro e wy ⟨rfl, hby⟩
          have HBy : Hid (Below w.heap.size w wy) := chain HBx.out hby
          obtain ⟨qc, qf, _⟩ := bfacts hby
          have p0 := (qc (w.heap.size + 1 + 1) 0 (by omega)).trans p0
          have p1 := (qc (w.heap.size + 1 + 1) 1 (by omega)).trans p1
          have p2 := (qc (w.heap.size + 1 + 1) 2 (by omega)).trans p2
          have p3 := (qc (w.heap.size + 1 + 1) 3 (by omega)).trans p3
          have p4 := (qc (w.heap.size + 1 + 1) 4 (by omega)).trans p4
          have f0 := (qf (w.heap.size + 1 + 1) 0 (by omega)).trans f0
          have f1 := (qf (w.heap.size + 1 + 1) 1 (by omega)).trans f1
          have f2 := (qf (w.heap.size + 1 + 1) 2 (by omega)).trans f2
          have f3 := (qf (w.heap.size + 1 + 1) 3 (by omega)).trans f3
          have f4 := (qf (w.heap.size + 1 + 1) 4 (by omega)).trans f4
          clear qc qf hby
          go_wp2
          refine bodyPost_ret (v := .tuple #[.agg #[.int .i64 y1, .int .i64 y2, .int .i64 y3, .int .i64 y4, .int .i64 y5], .bool true, .int .i64 0]) (by simp [results, Try.results15, go_sem, p0, p1, p2, p3, p4]) rfl ⟨by rw [HLV.out g1], ?_⟩
          repeat refine Below.setCell ?_ (by dsimp only; omega) _
          exact HBy.out
        · rw [g1] at HEm
          go_wp2_with (first | (refine wpList_load_row rfl 64 (.tmp 7) rfl nbk rfl 64 _ (0, 0) _ (by assumption) Try.underlying64 rfl hsz ?_))
          (first | go_at_call 30 | skip)
          refine (HEm _).mono ?_
          rintro e wx ⟨rfl, hbx⟩
          have hlt4 : w.heap.size + 1 + 1 < wx.heap.size := Nat.lt_of_lt_of_le hlt3 hbx.size
          have HBx : Hid (Below w.heap.size w wx) := chain HBf.out hbx
          have hRx : wx.heap[nbk]? = some (.cells V 64 (0, 0)) := (hbx.block _ (RoomLt hRf)).trans hRf
          obtain ⟨qc, qf, _⟩ := bfacts hbx
          have p0 := (qc (w.heap.size + 1 + 1) 0 (by omega)).trans p0
          have p1 := (qc (w.heap.size + 1 + 1) 1 (by omega)).trans p1
          have p2 := (qc (w.heap.size + 1 + 1) 2 (by omega)).trans p2
          have p3 := (qc (w.heap.size + 1 + 1) 3 (by omega)).trans p3
          have p4 := (qc (w.heap.size + 1 + 1) 4 (by omega)).trans p4
          have f0 := (qf (w.heap.size + 1 + 1) 0 (by omega)).trans f0
          have f1 := (qf (w.heap.size + 1 + 1) 1 (by omega)).trans f1
          have f2 := (qf (w.heap.size + 1 + 1) 2 (by omega)).trans f2
          have f3 := (qf (w.heap.size + 1 + 1) 3 (by omega)).trans f3
          have f4 := (qf (w.heap.size + 1 + 1) 4 (by omega)).trans f4
          have a2 := (qc w.heap.size 2 (by omega)).trans a2
          have a3 := (qc w.heap.size 3 (by omega)).trans a3
          have b2 := (qc (w.heap.size + 1) 2 (by omega)).trans b2
          have b3 := (qc (w.heap.size + 1) 3 (by omega)).trans b3
          clear qc qf hbx hRf HEm
          go_wp2_with (first | (refine wpList_load_row rfl 64 (.tmp 7) rfl nbk rfl 64 _ (0, 0) _ (by assumption) Try.underlying64 rfl hsz ?_))
          (first | go_at_call 32 | skip)
          refine (HL.out _).mono ?_
          rintro e wy ⟨rfl, hby⟩
          have HBy : Hid (Below w.heap.size w wy) := chain HBx.out hby
          obtain ⟨qc, qf, _⟩ := bfacts hby
          have p0 := (qc (w.heap.size + 1 + 1) 0 (by omega)).trans p0
          have p1 := (qc (w.heap.size + 1 + 1) 1 (by omega)).trans p1
          have p2 := (qc (w.heap.size + 1 + 1) 2 (by omega)).trans p2
          have p3 := (qc (w.heap.size + 1 + 1) 3 (by omega)).trans p3
          have p4 := (qc (w.heap.size + 1 + 1) 4 (by omega)).trans p4
          have f0 := (qf (w.heap.size + 1 + 1) 0 (by omega)).trans f0
          have f1 := (qf (w.heap.size + 1 + 1) 1 (by omega)).trans f1
          have f2 := (qf (w.heap.size + 1 + 1) 2 (by omega)).trans f2
          have f3 := (qf (w.heap.size + 1 + 1) 3 (by omega)).trans f3
          have f4 := (qf (w.heap.size + 1 + 1) 4 (by omega)).trans f4
          clear qc qf hby
          go_wp2
          refine bodyPost_ret (v := .tuple #[.agg #[.int .i64 y1, .int .i64 y2, .int .i64 y3, .int .i64 y4, .int .i64 y5], .bool true, .int .i64 0]) (by simp [results, Try.results15, go_sem, p0, p1, p2, p3, p4]) rfl ⟨by rw [HLV.out g1], ?_⟩
          repeat refine Below.setCell ?_ (by dsimp only; omega) _
          exact HBy.out
    · skip
      go_simp
      have hz0 := chain hH (below_alloc _ (Obj.cells (rowI zr) 64))
      refine hK.out _ _ hz0 (fun _ => ?_)
      clear hK K
      try simp only [Act.put, List.setIfInBounds_toArray, List.set_cons_zero, List.set_cons_succ, List.getElem_toArray, List.getElem_cons_succ, List.getElem_cons_zero]
      have Rz : (v0.alloc (Obj.cells (rowI zr) 64)).heap[v0.heap.size]? = some (.cells (rowI zr) 64 (0, 0)) := heapNew _ _
      have hzl : (((w.alloc (Obj.cells #[.string an, .slice ha na ca, .int .i64 aa, .int .i64 au] 25)).alloc (Obj.cells #[.string bn, .slice hb nb cb, .int .i64 ba, .int .i64 bu] 25)).alloc (Obj.cells #[.int .i64 0, .int .i64 0, .int .i64 0, .int .i64 0, .int .i64 0] 28)).heap.size ≤ v0.heap.size := hH.size
      refine wpAnyH_ready (rs := [2]) (by kernel_rfl) (by simp) ?_
      refine AllReadyH.cons rfl (fun K hK => ?_) AllReadyH.nil
      go_simp
      go_at_call 29
      refine (HA.out _ hz0).mono ?_
      rintro e z1 ⟨rfl, hv1⟩
      have hS1 := chain hz0 hv1
      have Rz := (hv1.block _ (RoomLt Rz)).trans Rz
      refine hK.out _ _ hS1 (fun _ => ?_)
      clear hK K
      try simp only [Act.put, List.setIfInBounds_toArray, List.set_cons_zero, List.set_cons_succ, List.getElem_toArray, List.getElem_cons_succ, List.getElem_cons_zero]
      refine wpAnyH_ready (rs := [5]) (by kernel_rfl) (by simp) ?_
      refine AllReadyH.cons rfl (fun K hK => ?_) AllReadyH.nil
      go_simp
      go_at_call 29
      refine (HB.out _ hS1).mono ?_
      rintro e z2 ⟨rfl, hv2⟩
      have hS2 := chain hS1 hv2
      have Rz := (hv2.block _ (RoomLt Rz)).trans Rz
      refine hK.out _ _ hS2 (fun _ => ?_)
      clear hK K
      try simp only [Act.put, List.setIfInBounds_toArray, List.set_cons_zero, List.set_cons_succ, List.getElem_toArray, List.getElem_cons_succ, List.getElem_cons_zero]
      refine wpAnyH_ready (rs := [6]) (by kernel_rfl) (by simp) ?_
      refine AllReadyH.cons rfl (fun K hK => ?_) AllReadyH.nil
      go_simp
      go_at_call 46
      refine (HBo.out _).mono ?_
      rintro e z3 ⟨rfl, hv3⟩
      have hS3 := chain hS2 hv3
      have Rz := (hv3.block _ (RoomLt Rz)).trans Rz
      refine hK.out _ _ hS3 (fun _ => ?_)
      clear hK K
      try simp only [Act.put, List.setIfInBounds_toArray, List.set_cons_zero, List.set_cons_succ, List.getElem_toArray, List.getElem_cons_succ, List.getElem_cons_zero]
      refine wpAnyH_ready (rs := [8]) (by kernel_rfl) (by simp) ?_
      refine AllReadyH.cons rfl (fun K hK => ?_) AllReadyH.nil
      rw [if_pos (by simp [Region.wanted])]
      refine wp_store_row 64 (.tmp 7) (.tmp 23) rfl v0.heap.size V rfl rfl 64 (rowI zr) Rz hsz hs12.out hall ?_
      obtain ⟨Wf, hWf⟩ : ∃ Wf, Wf = z3.setRow v0.heap.size V := ⟨_, rfl⟩
      have hSf : Below (((w.alloc (Obj.cells #[.string an, .slice ha na ca, .int .i64 aa, .int .i64 au] 25)).alloc (Obj.cells #[.string bn, .slice hb nb cb, .int .i64 ba, .int .i64 bu] 25)).alloc (Obj.cells #[.int .i64 0, .int .i64 0, .int .i64 0, .int .i64 0, .int .i64 0] 28)).heap.size (((w.alloc (Obj.cells #[.string an, .slice ha na ca, .int .i64 aa, .int .i64 au] 25)).alloc (Obj.cells #[.string bn, .slice hb nb cb, .int .i64 ba, .int .i64 bu] 25)).alloc (Obj.cells #[.int .i64 0, .int .i64 0, .int .i64 0, .int .i64 0, .int .i64 0] 28)) Wf := by rw [hWf]; exact belowRow hS3 (hzl) _
      have RF : Wf.heap[v0.heap.size]? = some (.cells V 64 (0, 0)) := by rw [hWf]; exact setRow_heap _ _ _ _ _ _ Rz
      rw [← hWf]
      refine hK.out _ _ hSf (fun _ => ?_)
      clear hK K
      try simp only [Act.put]
      refine wpAnyH_done (by kernel_rfl) ?_ _
      try simp
      generalize hblk : v0.heap.size = nbk at *
      clear hWf hblk
      have HBf : Hid (Below w.heap.size w Wf) := chain (chain (chain (below_alloc _ _) (below_alloc _ _)) (below_alloc _ _)) hSf
      obtain ⟨⟨a0, a1, a2, a3⟩, ⟨b0, b1, b2, b3⟩, ⟨p0, p1, p2, p3, p4⟩, pf⟩ := ckAt (an := an) (ha := ha) (na := na) (ca := ca) (aa := aa) (au := au) (bn := bn) (hb := hb) (nb := nb) (cb := cb) (ba := ba) (bu := bu) hSf
      obtain ⟨vv0, p0⟩ : ∃ v, Wf.cell? ⟨w.heap.size + 1 + 1, 0, none⟩ = some v := ⟨_, p0⟩
      obtain ⟨vv1, p1⟩ : ∃ v, Wf.cell? ⟨w.heap.size + 1 + 1, 1, none⟩ = some v := ⟨_, p1⟩
      obtain ⟨vv2, p2⟩ : ∃ v, Wf.cell? ⟨w.heap.size + 1 + 1, 2, none⟩ = some v := ⟨_, p2⟩
      obtain ⟨vv3, p3⟩ : ∃ v, Wf.cell? ⟨w.heap.size + 1 + 1, 3, none⟩ = some v := ⟨_, p3⟩
      obtain ⟨vv4, p4⟩ : ∃ v, Wf.cell? ⟨w.heap.size + 1 + 1, 4, none⟩ = some v := ⟨_, p4⟩
      have f0 := pf 0
      have f1 := pf 1
      have f2 := pf 2
      have f3 := pf 3
      have f4 := pf 4
      clear pf
      have hRf : Wf.heap[nbk]? = some (.cells V 64 (0, 0)) := RF
      have HEm := fun W => HE.out W
      have hlt3 : w.heap.size + 1 + 1 < Wf.heap.size := by have := hSf.size; simp at this; omega
      clear hSf RF
      rcases hw with ⟨g1, rfl, rfl, rfl⟩ | ⟨g1, rfl, rfl, rfl, rfl, rfl⟩ | ⟨g1, rfl, g3, rfl, rfl, rfl⟩ | ⟨g1, g2, rfl, rfl, rfl⟩
      · rw [g1] at HEm
        go_wp2_with (first | (refine wpList_load_row rfl 64 (.tmp 7) rfl nbk rfl 64 _ (0, 0) _ (by assumption) Try.underlying64 rfl hsz ?_))
        (first | go_at_call 30 | skip)
        refine (HEm _).mono ?_
        rintro e wx ⟨rfl, hbx⟩
        have hlt4 : w.heap.size + 1 + 1 < wx.heap.size := Nat.lt_of_lt_of_le hlt3 hbx.size
        have HBx : Hid (Below w.heap.size w wx) := chain HBf.out hbx
        have hRx : wx.heap[nbk]? = some (.cells V 64 (0, 0)) := (hbx.block _ (RoomLt hRf)).trans hRf
        obtain ⟨qc, qf, _⟩ := bfacts hbx
        have p0 := (qc (w.heap.size + 1 + 1) 0 (by omega)).trans p0
        have p1 := (qc (w.heap.size + 1 + 1) 1 (by omega)).trans p1
        have p2 := (qc (w.heap.size + 1 + 1) 2 (by omega)).trans p2
        have p3 := (qc (w.heap.size + 1 + 1) 3 (by omega)).trans p3
        have p4 := (qc (w.heap.size + 1 + 1) 4 (by omega)).trans p4
        have f0 := (qf (w.heap.size + 1 + 1) 0 (by omega)).trans f0
        have f1 := (qf (w.heap.size + 1 + 1) 1 (by omega)).trans f1
        have f2 := (qf (w.heap.size + 1 + 1) 2 (by omega)).trans f2
        have f3 := (qf (w.heap.size + 1 + 1) 3 (by omega)).trans f3
        have f4 := (qf (w.heap.size + 1 + 1) 4 (by omega)).trans f4
        have a2 := (qc w.heap.size 2 (by omega)).trans a2
        have a3 := (qc w.heap.size 3 (by omega)).trans a3
        have b2 := (qc (w.heap.size + 1) 2 (by omega)).trans b2
        have b3 := (qc (w.heap.size + 1) 3 (by omega)).trans b3
        clear qc qf hbx hRf HEm
        go_wp2
        refine bodyPost_ret (v := .tuple #[.agg #[.int .i64 0, .int .i64 0, .int .i64 0, .int .i64 0, .int .i64 0], .bool false, .int .i64 0]) (by simp [results, Try.results15, go_sem, p0, p1, p2, p3, p4]) rfl ⟨rfl, ?_⟩
        repeat refine Below.setCell ?_ (by dsimp only; omega) _
        exact HBx.out
      · rw [g1] at HEm
        go_wp2_with (first | (refine wpList_load_row rfl 64 (.tmp 7) rfl nbk rfl 64 _ (0, 0) _ (by assumption) Try.underlying64 rfl hsz ?_))
        (first | go_at_call 30 | skip)
        refine (HEm _).mono ?_
        rintro e wx ⟨rfl, hbx⟩
        have hlt4 : w.heap.size + 1 + 1 < wx.heap.size := Nat.lt_of_lt_of_le hlt3 hbx.size
        have HBx : Hid (Below w.heap.size w wx) := chain HBf.out hbx
        have hRx : wx.heap[nbk]? = some (.cells V 64 (0, 0)) := (hbx.block _ (RoomLt hRf)).trans hRf
        obtain ⟨qc, qf, _⟩ := bfacts hbx
        have p0 := (qc (w.heap.size + 1 + 1) 0 (by omega)).trans p0
        have p1 := (qc (w.heap.size + 1 + 1) 1 (by omega)).trans p1
        have p2 := (qc (w.heap.size + 1 + 1) 2 (by omega)).trans p2
        have p3 := (qc (w.heap.size + 1 + 1) 3 (by omega)).trans p3
        have p4 := (qc (w.heap.size + 1 + 1) 4 (by omega)).trans p4
        have f0 := (qf (w.heap.size + 1 + 1) 0 (by omega)).trans f0
        have f1 := (qf (w.heap.size + 1 + 1) 1 (by omega)).trans f1
        have f2 := (qf (w.heap.size + 1 + 1) 2 (by omega)).trans f2
        have f3 := (qf (w.heap.size + 1 + 1) 3 (by omega)).trans f3
        have f4 := (qf (w.heap.size + 1 + 1) 4 (by omega)).trans f4
        have a2 := (qc w.heap.size 2 (by omega)).trans a2
        have a3 := (qc w.heap.size 3 (by omega)).trans a3
        have b2 := (qc (w.heap.size + 1) 2 (by omega)).trans b2
        have b3 := (qc (w.heap.size + 1) 3 (by omega)).trans b3
        clear qc qf hbx hRf HEm
        go_wp2
        refine bodyPost_ret (v := .tuple #[.agg #[.int .i64 0, .int .i64 0, .int .i64 0, .int .i64 0, .int .i64 0], .bool false, .int .i64 0]) (by simp [results, Try.results15, go_sem, p0, p1, p2, p3, p4]) rfl ⟨rfl, ?_⟩
        repeat refine Below.setCell ?_ (by dsimp only; omega) _
        exact HBx.out
      · rw [g1] at HEm
        go_wp2_with (first | (refine wpList_load_row rfl 64 (.tmp 7) rfl nbk rfl 64 _ (0, 0) _ (by assumption) Try.underlying64 rfl hsz ?_))
        (first | go_at_call 30 | skip)
        refine (HEm _).mono ?_
        rintro e wx ⟨rfl, hbx⟩
        have hlt4 : w.heap.size + 1 + 1 < wx.heap.size := Nat.lt_of_lt_of_le hlt3 hbx.size
        have HBx : Hid (Below w.heap.size w wx) := chain HBf.out hbx
        have hRx : wx.heap[nbk]? = some (.cells V 64 (0, 0)) := (hbx.block _ (RoomLt hRf)).trans hRf
        obtain ⟨qc, qf, _⟩ := bfacts hbx
        have p0 := (qc (w.heap.size + 1 + 1) 0 (by omega)).trans p0
        have p1 := (qc (w.heap.size + 1 + 1) 1 (by omega)).trans p1
        have p2 := (qc (w.heap.size + 1 + 1) 2 (by omega)).trans p2
        have p3 := (qc (w.heap.size + 1 + 1) 3 (by omega)).trans p3
        have p4 := (qc (w.heap.size + 1 + 1) 4 (by omega)).trans p4
        have f0 := (qf (w.heap.size + 1 + 1) 0 (by omega)).trans f0
        have f1 := (qf (w.heap.size + 1 + 1) 1 (by omega)).trans f1
        have f2 := (qf (w.heap.size + 1 + 1) 2 (by omega)).trans f2
        have f3 := (qf (w.heap.size + 1 + 1) 3 (by omega)).trans f3
        have f4 := (qf (w.heap.size + 1 + 1) 4 (by omega)).trans f4
        have a2 := (qc w.heap.size 2 (by omega)).trans a2
        have a3 := (qc w.heap.size 3 (by omega)).trans a3
        have b2 := (qc (w.heap.size + 1) 2 (by omega)).trans b2
        have b3 := (qc (w.heap.size + 1) 3 (by omega)).trans b3
        clear qc qf hbx hRf HEm
        go_wp2_with (first | (refine wpList_load_row rfl 64 (.tmp 7) rfl nbk rfl 64 _ (0, 0) _ (by assumption) Try.underlying64 rfl hsz ?_))
        (first | go_at_call 32 | skip)
        refine (HL.out _).mono ?_
        rintro e wy ⟨rfl, hby⟩
        have HBy : Hid (Below w.heap.size w wy) := chain HBx.out hby
        obtain ⟨qc, qf, _⟩ := bfacts hby
        have p0 := (qc (w.heap.size + 1 + 1) 0 (by omega)).trans p0
        have p1 := (qc (w.heap.size + 1 + 1) 1 (by omega)).trans p1
        have p2 := (qc (w.heap.size + 1 + 1) 2 (by omega)).trans p2
        have p3 := (qc (w.heap.size + 1 + 1) 3 (by omega)).trans p3
        have p4 := (qc (w.heap.size + 1 + 1) 4 (by omega)).trans p4
        have f0 := (qf (w.heap.size + 1 + 1) 0 (by omega)).trans f0
        have f1 := (qf (w.heap.size + 1 + 1) 1 (by omega)).trans f1
        have f2 := (qf (w.heap.size + 1 + 1) 2 (by omega)).trans f2
        have f3 := (qf (w.heap.size + 1 + 1) 3 (by omega)).trans f3
        have f4 := (qf (w.heap.size + 1 + 1) 4 (by omega)).trans f4
        clear qc qf hby
        go_wp2
        refine bodyPost_ret (v := .tuple #[.agg #[.int .i64 y1, .int .i64 y2, .int .i64 y3, .int .i64 y4, .int .i64 y5], .bool true, .int .i64 0]) (by simp [results, Try.results15, go_sem, p0, p1, p2, p3, p4]) rfl ⟨by rw [HLV.out g1], ?_⟩
        repeat refine Below.setCell ?_ (by dsimp only; omega) _
        exact HBy.out
      · rw [g1] at HEm
        go_wp2_with (first | (refine wpList_load_row rfl 64 (.tmp 7) rfl nbk rfl 64 _ (0, 0) _ (by assumption) Try.underlying64 rfl hsz ?_))
        (first | go_at_call 30 | skip)
        refine (HEm _).mono ?_
        rintro e wx ⟨rfl, hbx⟩
        have hlt4 : w.heap.size + 1 + 1 < wx.heap.size := Nat.lt_of_lt_of_le hlt3 hbx.size
        have HBx : Hid (Below w.heap.size w wx) := chain HBf.out hbx
        have hRx : wx.heap[nbk]? = some (.cells V 64 (0, 0)) := (hbx.block _ (RoomLt hRf)).trans hRf
        obtain ⟨qc, qf, _⟩ := bfacts hbx
        have p0 := (qc (w.heap.size + 1 + 1) 0 (by omega)).trans p0
        have p1 := (qc (w.heap.size + 1 + 1) 1 (by omega)).trans p1
        have p2 := (qc (w.heap.size + 1 + 1) 2 (by omega)).trans p2
        have p3 := (qc (w.heap.size + 1 + 1) 3 (by omega)).trans p3
        have p4 := (qc (w.heap.size + 1 + 1) 4 (by omega)).trans p4
        have f0 := (qf (w.heap.size + 1 + 1) 0 (by omega)).trans f0
        have f1 := (qf (w.heap.size + 1 + 1) 1 (by omega)).trans f1
        have f2 := (qf (w.heap.size + 1 + 1) 2 (by omega)).trans f2
        have f3 := (qf (w.heap.size + 1 + 1) 3 (by omega)).trans f3
        have f4 := (qf (w.heap.size + 1 + 1) 4 (by omega)).trans f4
        have a2 := (qc w.heap.size 2 (by omega)).trans a2
        have a3 := (qc w.heap.size 3 (by omega)).trans a3
        have b2 := (qc (w.heap.size + 1) 2 (by omega)).trans b2
        have b3 := (qc (w.heap.size + 1) 3 (by omega)).trans b3
        clear qc qf hbx hRf HEm
        go_wp2_with (first | (refine wpList_load_row rfl 64 (.tmp 7) rfl nbk rfl 64 _ (0, 0) _ (by assumption) Try.underlying64 rfl hsz ?_))
        (first | go_at_call 32 | skip)
        refine (HL.out _).mono ?_
        rintro e wy ⟨rfl, hby⟩
        have HBy : Hid (Below w.heap.size w wy) := chain HBx.out hby
        obtain ⟨qc, qf, _⟩ := bfacts hby
        have p0 := (qc (w.heap.size + 1 + 1) 0 (by omega)).trans p0
        have p1 := (qc (w.heap.size + 1 + 1) 1 (by omega)).trans p1
        have p2 := (qc (w.heap.size + 1 + 1) 2 (by omega)).trans p2
        have p3 := (qc (w.heap.size + 1 + 1) 3 (by omega)).trans p3
        have p4 := (qc (w.heap.size + 1 + 1) 4 (by omega)).trans p4
        have f0 := (qf (w.heap.size + 1 + 1) 0 (by omega)).trans f0
        have f1 := (qf (w.heap.size + 1 + 1) 1 (by omega)).trans f1
        have f2 := (qf (w.heap.size + 1 + 1) 2 (by omega)).trans f2
        have f3 := (qf (w.heap.size + 1 + 1) 3 (by omega)).trans f3
        have f4 := (qf (w.heap.size + 1 + 1) 4 (by omega)).trans f4
        clear qc qf hby
        go_wp2
        refine bodyPost_ret (v := .tuple #[.agg #[.int .i64 y1, .int .i64 y2, .int .i64 y3, .int .i64 y4, .int .i64 y5], .bool true, .int .i64 0]) (by simp [results, Try.results15, go_sem, p0, p1, p2, p3, p4]) rfl ⟨by rw [HLV.out g1], ?_⟩
        repeat refine Below.setCell ?_ (by dsimp only; omega) _
        exact HBy.out
end Go.Proofs.Ythkmgccmeoigpaa

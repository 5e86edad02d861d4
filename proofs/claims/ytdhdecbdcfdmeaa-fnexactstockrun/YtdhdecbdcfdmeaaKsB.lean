/-
  The specification's l14Sell.
-/
import Derived.Test.YtdhdecbdcfdmeaaKsA
import Derived.Test.YtdhdecbdcfdmeaaMkG
namespace Go.Proofs.Ytdhdecbdcfdmeaa
open Go.ChangeShapes Go.WideShapes Go.ChangeAt Go.RowKit Go.Deep
set_option linter.unusedVariables false

theorem slCells_setNu : ∀ (L : List RSl) (i : Nat), i < L.length → ∀ n : Int, slCells (L.set i { gl L i with nu := n }) = (slCells L).set (i * 5 + 2) (.int .i64 n)
  | r :: L, 0, h, n => rfl
  | r :: L, i + 1, h, n => by
    have ih := slCells_setNu L i (by simpa using h) n
    show slC r ++ slCells (L.set i { gl L i with nu := n }) = (slC r ++ slCells L).set ((i + 1) * 5 + 2) _
    rw [ih, List.set_append_right _ _ (by simp [slC]; omega)]
    congr 2
    simp [slC]; omega
theorem slCells_setHd : ∀ (L : List RSl) (i : Nat), i < L.length → ∀ b : Bool, slCells (L.set i { gl L i with hd := b }) = (slCells L).set (i * 5 + 4) (.bool b)
  | r :: L, 0, h, n => rfl
  | r :: L, i + 1, h, n => by
    have ih := slCells_setHd L i (by simpa using h) n
    show slC r ++ slCells (L.set i { gl L i with hd := n }) = (slC r ++ slCells L).set ((i + 1) * 5 + 4) _
    rw [ih, List.set_append_right _ _ (by simp [slC]; omega)]
    congr 2
    simp [slC]; omega
theorem row_low {w : World} {B B' : Nat} {e : TypeId} {k : Nat} {v : Value} {n : Nat} {xs : List Value} (h : w.ownsRow B e k v n xs) (hb : B' ≤ B) : w.ownsRow B' e k v n xs := by
  obtain ⟨h1, h2⟩ := h
  refine ⟨h1, ?_⟩
  rcases h2 with h | ⟨g', cap, cur, q, hB, r⟩
  · exact .inl h
  · exact .inr ⟨g', cap, cur, q, Nat.le_trans hb hB, r⟩
/-- What a function of the specification leaves of the stock: its lots. -/
structure StkP (B : Nat) (av : Value) (w : World) (σ : StS) (lv : Value) (w' : World) : Prop where
  row : w'.ownsRow B 38 5 lv σ.L.length (slCells σ.L)
  fr : Fr (fun q => av.ownBlock = some q) w w'
  new : ∀ q, lv.ownBlock = some q → av.ownBlock = some q ∨ w.heap.size ≤ q
theorem StkP.later {B : Nat} {av : Value} {w : World} {σ : StS} {lv : Value} {w' w'' : World} (h : StkP B av w σ lv w') (hb : Below w'.heap.size w' w'') : StkP B av w σ lv w'' :=
  ⟨row_of h.row (fun q hq => hb.block q (row_lt h.row q hq).2), h.fr.trans (Fr.of hb), h.new⟩
theorem StkP.aside {B : Nat} {av : Value} {w : World} {σ : StS} {lv : Value} {w' w'' : World} (h : StkP B av w σ lv w') {b : Nat} {V : Array Value} {t : TypeId} (hb : w'.heap[b]? = some (.cells V t (0, 0))) (ht : t ≠ 38) (hf : Fr (fun k => k = b) w' w'') (hw : w.heap.size ≤ b) : StkP B av w σ lv w'' := by
  refine ⟨row_of h.row (fun q hq => hf.block q (row_lt h.row q hq).2 (fun e => ?_)), h.fr.far2 hf hw, h.new⟩
  obtain ⟨cur, hc⟩ := row_type h.row hq
  rw [e, hb] at hc
  simp at hc
  exact ht hc.2
theorem StkP.ne {B : Nat} {av : Value} {w : World} {σ : StS} {lv : Value} {w' : World} (h : StkP B av w σ lv w') {b : Nat} {V : Array Value} {t : TypeId} (hb : w'.heap[b]? = some (.cells V t (0, 0))) (ht : t ≠ 38) : lv.ownBlock ≠ some b := fun e => by
  obtain ⟨cur, hc⟩ := row_type h.row e
  rw [hb] at hc
  simp at hc
  exact ht hc.2
structure SlW (B : Nat) (av : Value) (w : World) (σ : StS) (s : Int × List RSl × Nat) (sd : Int) (va : Option Addr) (vc : Nat) (wr : World) : Prop where
  st : StkP B av w { σ with L := s.2.1 } (.slice va s.2.1.length vc) wr
  box : wr.heap[w.heap.size]? = some (.cells #[.int .i64 σ.day, .int .i64 σ.rc, .int .i64 sd, .int .i64 σ.wa, .int .i64 σ.sh, .slice va s.2.1.length vc] 29 (0, 0))
  res : wr.heap[w.heap.size + 1]? = some (.cells #[.int .i64 0, .int .i64 0, .int .i64 0, .int .i64 0, .int .i64 0, .slice none 0 0] 29 (0, 0))
theorem SlW.later {B : Nat} {av : Value} {w : World} {σ : StS} {s : Int × List RSl × Nat} {sd : Int} {va : Option Addr} {vc : Nat} {wr w' : World} (h : SlW B av w σ s sd va vc wr) (hb : Below wr.heap.size wr w') : SlW B av w σ s sd va vc w' :=
  ⟨h.st.later hb, (hb.block _ (blkLt h.box)).trans h.box, (hb.block _ (blkLt h.res)).trans h.res⟩
theorem SlW.put {B : Nat} {av : Value} {w : World} {σ : StS} {ms : Int} {Lk : List RSl} {nk : Nat} {sd : Int} {g vc : Nat} {wr : World} (h : SlW B av w σ (ms, Lk, nk) sd (some ⟨g, 0, none⟩) vc wr) {b : Nat} (hb : b < Lk.length) (n ms' : Int) (nk' : Nat) :
    SlW B av w σ (ms', Lk.set b { gl Lk b with nu := n }, nk') sd (some ⟨g, 0, none⟩) vc (wr.setCell ⟨g, b * 5 + 2, none⟩ (.int .i64 n)) := by
  obtain ⟨⟨hr, hf, hn⟩, hx, hs⟩ := h
  dsimp only at hr hn hx
  have n1 : w.heap.size ≠ g := fun e => by
    obtain ⟨cur, hc⟩ := row_type hr (q := g) rfl
    rw [e, hc] at hx
    simp at hx
  have n2 : w.heap.size + 1 ≠ g := fun e => by
    obtain ⟨cur, hc⟩ := row_type hr (q := g) rfl
    rw [e, hc] at hs
    simp at hs
  refine ⟨⟨?_, ?_, fun q hq => hn q hq⟩, ?_, (Below.heap_setCell _ _ _ _ n2).trans hs⟩
  · dsimp only
    rw [List.length_set, slCells_setNu Lk b hb n]
    exact rowPutG hr (b * 5 + 2) (by omega) _
  · rcases hn g rfl with q | q
    · exact hf.set (b := g) q _ _
    · exact hf.setNew q _ _
  · dsimp only
    rw [List.length_set]
    exact (Below.heap_setCell _ _ _ _ n1).trans hx
theorem SlW.drop {B : Nat} {av : Value} {w : World} {σ : StS} {s : Int × List RSl × Nat} {sd : Int} {va : Option Addr} {vc : Nat} {Wc w5 : World} (h : SlW B av w σ s sd va vc Wc) {L2 : List RSl} (hl : L2.length = s.2.1.length - 1) {va' : Option Addr} {vc' : Nat} (hr : w5.ownsRow Wc.heap.size 38 5 (.slice va' (s.2.1.length - 1) vc') (s.2.1.length - 1) (slCells L2)) (hb : Below Wc.heap.size Wc w5) (hB : B ≤ w.heap.size) (ms' : Int) (nk' : Nat) :
    SlW B av w σ (ms', L2, nk') sd va' vc' (w5.setCell ⟨w.heap.size, 5, none⟩ (.slice va' (s.2.1.length - 1) vc')) ∧ w5.cell? ⟨w.heap.size, 5, none⟩ = some (.slice va s.2.1.length vc) ∧ w5.frozen? ⟨w.heap.size, 5, none⟩ = false := by
  have hx := (hb.block _ (blkLt h.box)).trans h.box
  have hs := (hb.block _ (blkLt h.res)).trans h.res
  have hlt := blkLt h.box
  have hsz := h.st.fr.size
  have e5 := heap_setCell_same _ _ 5 _ _ (.slice va' (s.2.1.length - 1) vc') hx
  simp only [List.setIfInBounds_toArray, List.set_cons_zero, List.set_cons_succ] at e5
  refine ⟨⟨⟨?_, ?_, fun q hq => .inr ?_⟩, ?_, (Below.heap_setCell _ _ _ _ (by show w.heap.size + 1 ≠ w.heap.size; omega)).trans hs⟩, blkCell hx 5 _ rfl, blkFree hx 5⟩
  · dsimp only
    rw [hl]
    refine row_low (row_of hr (fun q hq => Below.heap_setCell _ _ _ _ ?_)) (Nat.le_trans hB hsz)
    have := row_lt hr q hq
    show q ≠ w.heap.size
    omega
  · exact (h.st.fr.trans (Fr.of hb)).setNew (Nat.le_refl _) _ _
  · dsimp only at hq
    rw [hl] at hq
    have := row_lt hr q hq
    omega
  · dsimp only
    rw [hl]; exact e5
theorem bs_next (L : List RSl) (p : RSl → Bool) (k : Nat) : bs L p (k + 1) = match bs L p k with
    | none => if p (gl L k) = true then some k else none
    | some b => if p (gl L k) = true ∧ (gl L k).un < (gl L b).un then some k else some b := rfl
theorem six {W : World} {b : Nat} {t : TypeId} {u0 u1 u2 u3 u4 u5 : Value} (hb : W.heap[b]? = some (.cells #[u0, u1, u2, u3, u4, u5] t (0, 0))) (x0 x1 x2 x3 x4 x5 : Value) : ((((((W.setCell ⟨b, 0, none⟩ x0).setCell ⟨b, 1, none⟩ x1).setCell ⟨b, 2, none⟩ x2).setCell ⟨b, 3, none⟩ x3).setCell ⟨b, 4, none⟩ x4).setCell ⟨b, 5, none⟩ x5).heap[b]? = some (.cells #[x0, x1, x2, x3, x4, x5] t (0, 0)) ∧ Fr (fun k => k = b) W ((((((W.setCell ⟨b, 0, none⟩ x0).setCell ⟨b, 1, none⟩ x1).setCell ⟨b, 2, none⟩ x2).setCell ⟨b, 3, none⟩ x3).setCell ⟨b, 4, none⟩ x4).setCell ⟨b, 5, none⟩ x5) := by
  refine ⟨?_, ((((((Fr.refl (fun k => k = b) W).set (b := b) rfl _ _).set (b := b) rfl _ _).set (b := b) rfl _ _).set (b := b) rfl _ _).set (b := b) rfl _ _).set (b := b) rfl _ _⟩
  have e0 := heap_setCell_same _ _ 5 _ _ x5 (heap_setCell_same _ _ 4 _ _ x4 (heap_setCell_same _ _ 3 _ _ x3 (heap_setCell_same _ _ 2 _ _ x2 (heap_setCell_same _ _ 1 _ _ x1 (heap_setCell_same _ _ 0 _ _ x0 hb)))))
  simp only [List.setIfInBounds_toArray, List.set_cons_zero, List.set_cons_succ] at e0
  exact e0
/-- What a sale of the specification answers. -/
def SellP (B : Nat) (av : Value) (w : World) (σ' : StS) (n : Nat) (e : Ending) (w' : World) : Prop := ∃ va vc, e = .returned (.tuple #[.agg (stkV σ' (.slice va σ'.L.length vc)), .int .i64 (n : Int)]) ∧ StkP B av w σ' (.slice va σ'.L.length vc) w'
set_option maxHeartbeats 16000000 in
set_option maxRecDepth 8000 in
theorem sSell_any {B : Nat} (σ : StS) (a : Option Addr) (c : Nat) (ix : Nat) (hix : ix ≤ 1000) (hok : StOK ix σ) (ar : ByteArray) (m : Int) (hm1 : 1 ≤ m) (hs : m ≤ uN (pS ar σ.day) σ.L) (w : World) (hB : B ≤ w.heap.size) (hr : w.ownsRow B 38 5 (.slice a σ.L.length c) σ.L.length (slCells σ.L)) :
    Calls Try.prog 44 #[.agg (stkV σ (.slice a σ.L.length c)), .string ar, .int .i64 m] w (SellP B (.slice a σ.L.length c) w { σ with L := slL (pS ar σ.day) m σ.L, sd := σ.sd + m } (slK (pS ar σ.day) m σ.L)) := by
  have HIv : Hid (∀ k, SlI (pS ar σ.day) m σ.L (slT (pS ar σ.day) m σ.L k)) := fun k => slT_inv (pS_nu ar σ.day) hok.good hok.dst (by omega : 0 ≤ m) hs k
  have HEd : Hid (∀ k, (slT (pS ar σ.day) m σ.L k).1 ≤ 0 → (slT (pS ar σ.day) m σ.L k).2.1 = slL (pS ar σ.day) m σ.L ∧ (slT (pS ar σ.day) m σ.L k).2.2 = slK (pS ar σ.day) m σ.L) := fun k hk => slT_end (pS_nu ar σ.day) hok.good hok.dst (by omega) hs hk
  have hub := uN_bound (p := pS ar σ.day) hok.good
  have hLl := hok.len
  have hm2 : m ≤ 1000000000 := by omega
  have hb := hok.bal
  have hrc := hok.top
  have hs0 := hok.s0
  have hw0 := hok.w0
  have hh0 := hok.h0
  have hu0 := hok.rc0.1
  have hws : IntKind.i64.wrap (σ.sd + m) = σ.sd + m := wrap_id _ (by omega) (by omega)
  obtain ⟨av, hav⟩ : ∃ av, av = Value.slice a σ.L.length c := ⟨_, rfl⟩
  obtain ⟨W2, hW2⟩ : ∃ W2, W2 = (w.alloc (Obj.cells #[.int .i64 σ.day, .int .i64 σ.rc, .int .i64 (σ.sd + m), .int .i64 σ.wa, .int .i64 σ.sh, .slice a σ.L.length c] 29)).alloc (Obj.cells #[.int .i64 0, .int .i64 0, .int .i64 0, .int .i64 0, .int .i64 0, .slice none 0 0] 29) := ⟨_, rfl⟩
  have H0 : Hid (SlW B av w σ (slT (pS ar σ.day) m σ.L 0) (σ.sd + m) a c W2) := by
    obtain ⟨k1, k2⟩ := heapTwo w (Obj.cells #[.int .i64 σ.day, .int .i64 σ.rc, .int .i64 (σ.sd + m), .int .i64 σ.wa, .int .i64 σ.sh, .slice a σ.L.length c] 29) (Obj.cells #[.int .i64 0, .int .i64 0, .int .i64 0, .int .i64 0, .int .i64 0, .slice none 0 0] 29)
    rw [← hW2] at k1 k2
    have hb2 : Below w.heap.size w W2 := by rw [hW2]; exact chain (below_alloc _ _) (below_alloc _ _)
    exact ⟨⟨row_of hr (fun q hq => hb2.block q (row_lt hr q hq).2), Fr.of hb2, fun q hq => .inl (by rw [hav]; exact hq)⟩, k1, k2⟩
  have HAv : Hid (av = Value.slice a σ.L.length c) := hav
  rw [← hav]
  clear hok hr hav hub hs
  have hst : Value.agg (stkV σ av) = .agg #[.int .i64 σ.day, .int .i64 σ.rc, .int .i64 σ.sd, .int .i64 σ.wa, .int .i64 σ.sh, .slice a σ.L.length c] := by rw [HAv.out]; rfl
  rw [hst]
  clear hst
  go_enter Try.func44, Try.ntmps44
  go_wp2
  rw [← hW2]
  clear hW2
  go_loopw [2, 8, 9, 10, 11, 12] (fun x fm _ _ _ _ wr => ∃ (k : Nat) (va : Option Addr) (vc : Nat), x = .int .i64 (slT (pS ar σ.day) m σ.L k).1 ∧ fm = .int .i64 ((slT (pS ar σ.day) m σ.L k).2.2 : Int) ∧ SlW B av w σ (slT (pS ar σ.day) m σ.L k) (σ.sd + m) va vc wr) (fun x _ _ _ _ _ _ => (intOf x).toNat)
  case atStart => exact ⟨0, a, c, rfl, rfl, H0.out⟩
  case round =>
    clear H0
    obtain ⟨k, va, vc, rfl, rfl, hS⟩ := hrel
    have iv := HIv.out k
    have HNx : Hid (∀ b, ¬ (slT (pS ar σ.day) m σ.L k).1 ≤ 0 → bs (slT (pS ar σ.day) m σ.L k).2.1 (pS ar σ.day) (slT (pS ar σ.day) m σ.L k).2.1.length = some b → slT (pS ar σ.day) m σ.L (k + 1) = ((slT (pS ar σ.day) m σ.L k).1 - ptN (slT (pS ar σ.day) m σ.L k).1 (slT (pS ar σ.day) m σ.L k).2.1 b, ptL (slT (pS ar σ.day) m σ.L k).1 (slT (pS ar σ.day) m σ.L k).2.1 b, (slT (pS ar σ.day) m σ.L k).2.2 + 1)) := fun b h1 h2 => by
      rw [slT]
      unfold slS
      rw [if_neg h1, h2]
    have HEk : Hid ((slT (pS ar σ.day) m σ.L k).1 ≤ 0 → (slT (pS ar σ.day) m σ.L k).2.1 = slL (pS ar σ.day) m σ.L ∧ (slT (pS ar σ.day) m σ.L k).2.2 = slK (pS ar σ.day) m σ.L) := HEd.out k
    generalize slT (pS ar σ.day) m σ.L k = s at *
    obtain ⟨ms, Lk, nk⟩ := s
    obtain ⟨i1, i2, i3, i4, i5, i6, i7, i8⟩ := iv
    dsimp only at HNx HEk i1 i2 i3 i4 i5 i6 i7 i8 ⊢
    have HS : Hid (SlW B av w σ (ms, Lk, nk) (σ.sd + m) va vc wr) := hS
    clear hS
    by_cases hms : ms ≤ 0
    · obtain ⟨hE1, hE2⟩ := HEk.out hms
      have HE1 : Hid (Lk = slL (pS ar σ.day) m σ.L ∧ nk = slK (pS ar σ.day) m σ.L) := ⟨hE1, hE2⟩
      have hbx := HS.out.box
      have hrs := HS.out.res
      dsimp only at hbx
      have b0 := blkCell hbx 0 _ rfl
      have b1 := blkCell hbx 1 _ rfl
      have b2 := blkCell hbx 2 _ rfl
      have b3 := blkCell hbx 3 _ rfl
      have b4 := blkCell hbx 4 _ rfl
      have b5 := blkCell hbx 5 _ rfl
      have r0 := blkCell hrs 0 _ rfl
      have r1 := blkCell hrs 1 _ rfl
      have r2 := blkCell hrs 2 _ rfl
      have r3 := blkCell hrs 3 _ rfl
      have r4 := blkCell hrs 4 _ rfl
      have r5 := blkCell hrs 5 _ rfl
      have f0 := blkFree hrs 0
      have f1 := blkFree hrs 1
      have f2 := blkFree hrs 2
      have f3 := blkFree hrs 3
      have f4 := blkFree hrs 4
      have f5 := blkFree hrs 5
      obtain ⟨z1, z2⟩ := six hrs (.int .i64 σ.day) (.int .i64 σ.rc) (.int .i64 (σ.sd + m)) (.int .i64 σ.wa) (.int .i64 σ.sh) (.slice va Lk.length vc)
      have HEnd : Hid (StkP B av w { σ with L := Lk } (.slice va Lk.length vc) ((((((wr.setCell ⟨w.heap.size + 1, 0, none⟩ (.int .i64 σ.day)).setCell ⟨w.heap.size + 1, 1, none⟩ (.int .i64 σ.rc)).setCell ⟨w.heap.size + 1, 2, none⟩ (.int .i64 (σ.sd + m))).setCell ⟨w.heap.size + 1, 3, none⟩ (.int .i64 σ.wa)).setCell ⟨w.heap.size + 1, 4, none⟩ (.int .i64 σ.sh)).setCell ⟨w.heap.size + 1, 5, none⟩ (.slice va Lk.length vc)) ∧ ((((((wr.setCell ⟨w.heap.size + 1, 0, none⟩ (.int .i64 σ.day)).setCell ⟨w.heap.size + 1, 1, none⟩ (.int .i64 σ.rc)).setCell ⟨w.heap.size + 1, 2, none⟩ (.int .i64 (σ.sd + m))).setCell ⟨w.heap.size + 1, 3, none⟩ (.int .i64 σ.wa)).setCell ⟨w.heap.size + 1, 4, none⟩ (.int .i64 σ.sh)).setCell ⟨w.heap.size + 1, 5, none⟩ (.slice va Lk.length vc)).heap[w.heap.size + 1]? = some (.cells #[.int .i64 σ.day, .int .i64 σ.rc, .int .i64 (σ.sd + m), .int .i64 σ.wa, .int .i64 σ.sh, .slice va Lk.length vc] 29 (0, 0))) := ⟨HS.out.st.aside hrs (by decide) z2 (by omega), z1⟩
      clear z1 z2 hbx hrs HS HNx HEk hE1 hE2
      go_wp2
      obtain ⟨k1, k2⟩ := HEnd.out
      generalize (((((wr.setCell ⟨w.heap.size + 1, 0, none⟩ (.int .i64 σ.day)).setCell ⟨w.heap.size + 1, 1, none⟩ (.int .i64 σ.rc)).setCell ⟨w.heap.size + 1, 2, none⟩ (.int .i64 (σ.sd + m))).setCell ⟨w.heap.size + 1, 3, none⟩ (.int .i64 σ.wa)).setCell ⟨w.heap.size + 1, 4, none⟩ (.int .i64 σ.sh)).setCell ⟨w.heap.size + 1, 5, none⟩ (.slice va Lk.length vc) = W9 at *
      have p0 := blkCell k2 0 _ rfl
      have p1 := blkCell k2 1 _ rfl
      have p2 := blkCell k2 2 _ rfl
      have p3 := blkCell k2 3 _ rfl
      have p4 := blkCell k2 4 _ rfl
      have p5 := blkCell k2 5 _ rfl
      refine bodyPost_ret (v := .tuple #[.agg #[.int .i64 σ.day, .int .i64 σ.rc, .int .i64 (σ.sd + m), .int .i64 σ.wa, .int .i64 σ.sh, .slice va Lk.length vc], .int .i64 (nk : Int)]) (by simp [results, Try.results44, go_sem, p0, p1, p2, p3, p4, p5]) rfl ?_
      obtain ⟨hE1, hE2⟩ := HE1.out
      rw [← hE1, ← hE2]
      exact ⟨va, vc, rfl, k1.row, k1.fr, k1.new⟩
    · obtain ⟨b, hb', hbl, hpb⟩ := bs_there (p := pS ar σ.day) (L := Lk) (by omega)
      have hmp : 0 < ms := by omega
      have s5 := blkCell HS.out.box 5 _ rfl
      dsimp only at s5
      have hpos : 0 < Lk.length := by omega
      have hrow0 := HS.out.st.row
      dsimp only at hrow0
      obtain ⟨g, cp, hq⟩ := row_some hrow0 hpos
      simp only [Value.slice.injEq, true_and] at hq
      obtain ⟨rfl, rfl⟩ := hq
      have HRow : Hid (wr.ownsRow B 38 5 (.slice (some ⟨g, 0, none⟩) Lk.length vc) Lk.length (slCells Lk)) := hrow0
      have HB : Hid (bs Lk (pS ar σ.day) Lk.length = some b) := hb'
      have hLk : Lk.length ≤ 60 := by omega
      clear hrow0 hb'
      obtain ⟨wo, rfl⟩ : ∃ wo, wo = wr := ⟨_, rfl⟩
      go_wp2_with fail
      go_loopw [9, 10, 11] (fun bt x _ wr => ∃ (j : Nat), j ≤ Lk.length ∧ x = .int .i64 (j : Int) ∧ bt = .int .i64 (fdV (bs Lk (pS ar σ.day) j)) ∧ Below wo.heap.size wo wr) (fun _ x _ _ => Lk.length - (intOf x).toNat)
      case atStart => exact ⟨0, Nat.zero_le _, rfl, rfl, Below.refl _ _⟩
      case round =>
        obtain ⟨j, hj, rfl, rfl, hbx⟩ := hrel
        have HW : Hid (SlW B av w σ (ms, Lk, nk) (σ.sd + m) (some ⟨g, 0, none⟩) vc wr ∧ Below wo.heap.size wo wr) := ⟨HS.out.later hbx, hbx⟩
        clear hbx
        have s5x := blkCell HW.out.1.box 5 _ rfl
        dsimp only at s5x
        by_cases hlt : j < Lk.length
        · have hlt' : (j : Int) < (Lk.length : Int) := by omega
          have hrw := HW.out.1.st.row
          dsimp only at hrw
          obtain ⟨q0, q1, q2, q3, q4⟩ := row_sl hrw hlt
          have hbn := bs_next Lk (pS ar σ.day) j
          have hbl2 := fun b' => bs_lt Lk (pS ar σ.day) j b'
          have HBn : Hid (bs Lk (pS ar σ.day) (j + 1) = match bs Lk (pS ar σ.day) j with
            | none => if pS ar σ.day (gl Lk j) = true then some j else none
            | some b' => if pS ar σ.day (gl Lk j) = true ∧ (gl Lk j).un < (gl Lk b').un then some j else some b') := hbn
          have HBl : Hid (∀ b', bs Lk (pS ar σ.day) j = some b' → b' < j) := fun b' h => (hbl2 b' h).1
          clear hbn hbl2 hrw
          obtain ⟨⟨a0, a1, a2, a3, a4⟩, hgj⟩ : ∃ r, gl Lk j = r := ⟨_, rfl⟩
          rw [hgj] at q0 q1 q2 q3 q4 HBn
          dsimp only at q0 q1 q2 q3 q4
          obtain ⟨Wb, hWb⟩ : ∃ Wb, Wb = wr.alloc (Obj.cells #[.string a0, .int .i64 a1, .int .i64 a2, .int .i64 a3, .bool a4] 38) := ⟨_, rfl⟩
          obtain ⟨lb, hlb⟩ : ∃ lb, lb = wr.heap.size := ⟨_, rfl⟩
          have H2 : Hid (Below wr.heap.size wr Wb ∧ Wb.heap[lb]? = some (.cells #[.string a0, .int .i64 a1, .int .i64 a2, .int .i64 a3, .bool a4] 38 (0, 0))) := by rw [hWb, hlb]; exact ⟨below_alloc _ _, heapNew _ _⟩
          have HQ : Hid (∀ W, Below Wb.heap.size Wb W → Below wo.heap.size wo W ∧ W.heap[lb]? = some (.cells #[.string a0, .int .i64 a1, .int .i64 a2, .int .i64 a3, .bool a4] 38 (0, 0)) ∧ W.heap[w.heap.size]? = some (.cells #[.int .i64 σ.day, .int .i64 σ.rc, .int .i64 (σ.sd + m), .int .i64 σ.wa, .int .i64 σ.sh, .slice (some ⟨g, 0, none⟩) Lk.length vc] 29 (0, 0)) ∧ ∀ b', b' < Lk.length → W.cell? ⟨g, b' * 5 + 3, none⟩ = some (.int .i64 (gl Lk b').un)) := fun W hW => by
            have hb1 := chain H2.out.1 hW
            have hx := HW.out.1.later hb1
            have hrw := hx.st.row
            dsimp only at hrw
            exact ⟨chain HW.out.2 hb1, (hW.block _ (blkLt H2.out.2)).trans H2.out.2, hx.box, fun b' hb' => (row_sl hrw hb').2.2.2.1⟩
          go_wp2_with fail
          rw [← hWb, ← hlb]
          clear hWb hlb q0 q1 q2 q3 q4 s5x hgj
          cases ea : (a0.toList == ar.toList) with
          | false =>
            have HB2 : Hid (bs Lk (pS ar σ.day) (j + 1) = bs Lk (pS ar σ.day) j) := by
              show _ = _
              have hp : pS ar σ.day ⟨a0, a1, a2, a3, a4⟩ = false := by unfold pS; simp [ea]
              rw [HBn.out, hp]
              cases bs Lk (pS ar σ.day) j <;> simp
            clear HBn
            refine wp_region_held_drew (S := fun W => Below Wb.heap.size Wb W) (by kernel_rfl) (below_drew _) (fun hH => ?_)
            refine wpAnyH_take (i := 0) (v := .pointer (some ⟨lb, 0, none⟩)) rfl (by kernel_rfl) (by kernel_rfl) (by kernel_rfl) (fun _ _ _ h => h) (Or.inl ⟨by rfl, fun w hSw => by go_simp⟩) hH ?_
            refine wpAnyH_take (i := 1) (v := .string a0) rfl (by kernel_rfl) (by kernel_rfl) (by kernel_rfl) (fun _ _ _ h => h) (Or.inl ⟨by rfl, fun w hSw => by have f0 := blkCell (HQ.out w hSw).2.1 0 _ rfl; go_simp⟩) hH ?_
            try simp only [Act.put, List.setIfInBounds_toArray, List.set_cons_zero, List.set_cons_succ, List.getElem_toArray, List.getElem_cons_succ, List.getElem_cons_zero]
            refine wpAnyH_take (i := 2) (v := .string ar) rfl (by kernel_rfl) (by kernel_rfl) (by kernel_rfl) (fun _ _ _ h => h) (Or.inl ⟨by rfl, fun w hSw => by go_simp⟩) hH ?_
            try simp only [Act.put, List.setIfInBounds_toArray, List.set_cons_zero, List.set_cons_succ, List.getElem_toArray, List.getElem_cons_succ, List.getElem_cons_zero]
            refine wpAnyH_take (i := 3) (v := .bool false) rfl (by kernel_rfl) (by kernel_rfl) (by kernel_rfl) (fun _ _ _ h => h) (Or.inl ⟨by rfl, fun w hSw => by have f0 := ea; go_simp⟩) hH ?_
            try simp only [Act.put, List.setIfInBounds_toArray, List.set_cons_zero, List.set_cons_succ, List.getElem_toArray, List.getElem_cons_succ, List.getElem_cons_zero]
            refine wpAnyH_take (i := 4) (v := .bool false) rfl (by kernel_rfl) (by kernel_rfl) (by kernel_rfl) (fun _ _ _ h => h) (Or.inl ⟨by rfl, fun w hSw => by go_simp⟩) hH ?_
            try simp only [Act.put, List.setIfInBounds_toArray, List.set_cons_zero, List.set_cons_succ, List.getElem_toArray, List.getElem_cons_succ, List.getElem_cons_zero]
            refine wpAnyH_take (i := 5) (v := undef) rfl (by kernel_rfl) (by kernel_rfl) (by kernel_rfl) (fun _ _ _ h => h) (Or.inr ⟨by rfl, rfl⟩) hH ?_
            try simp only [Act.put, List.setIfInBounds_toArray, List.set_cons_zero, List.set_cons_succ, List.getElem_toArray, List.getElem_cons_succ, List.getElem_cons_zero]
            refine wpAnyH_take (i := 6) (v := undef) rfl (by kernel_rfl) (by kernel_rfl) (by kernel_rfl) (fun _ _ _ h => h) (Or.inr ⟨by rfl, rfl⟩) hH ?_
            try simp only [Act.put, List.setIfInBounds_toArray, List.set_cons_zero, List.set_cons_succ, List.getElem_toArray, List.getElem_cons_succ, List.getElem_cons_zero]
            refine wpAnyH_take (i := 7) (v := undef) rfl (by kernel_rfl) (by kernel_rfl) (by kernel_rfl) (fun _ _ _ h => h) (Or.inr ⟨by rfl, rfl⟩) hH ?_
            try simp only [Act.put, List.setIfInBounds_toArray, List.set_cons_zero, List.set_cons_succ, List.getElem_toArray, List.getElem_cons_succ, List.getElem_cons_zero]
            refine wpAnyH_take (i := 8) (v := .bool false) rfl (by kernel_rfl) (by kernel_rfl) (by kernel_rfl) (fun _ _ _ h => h) (Or.inl ⟨by rfl, fun w hSw => by go_simp⟩) hH ?_
            try simp only [Act.put, List.setIfInBounds_toArray, List.set_cons_zero, List.set_cons_succ, List.getElem_toArray, List.getElem_cons_succ, List.getElem_cons_zero]
            refine wpAnyH_take (i := 9) (v := .bool false) rfl (by kernel_rfl) (by kernel_rfl) (by kernel_rfl) (fun _ _ _ h => h) (Or.inl ⟨by rfl, fun w hSw => by go_simp⟩) hH ?_
            try simp only [Act.put, List.setIfInBounds_toArray, List.set_cons_zero, List.set_cons_succ, List.getElem_toArray, List.getElem_cons_succ, List.getElem_cons_zero]
            refine wpAnyH_take (i := 10) (v := undef) rfl (by kernel_rfl) (by kernel_rfl) (by kernel_rfl) (fun _ _ _ h => h) (Or.inr ⟨by rfl, rfl⟩) hH ?_
            try simp only [Act.put, List.setIfInBounds_toArray, List.set_cons_zero, List.set_cons_succ, List.getElem_toArray, List.getElem_cons_succ, List.getElem_cons_zero]
            refine wpAnyH_take (i := 11) (v := undef) rfl (by kernel_rfl) (by kernel_rfl) (by kernel_rfl) (fun _ _ _ h => h) (Or.inr ⟨by rfl, rfl⟩) hH ?_
            try simp only [Act.put, List.setIfInBounds_toArray, List.set_cons_zero, List.set_cons_succ, List.getElem_toArray, List.getElem_cons_succ, List.getElem_cons_zero]
            refine wpAnyH_take (i := 12) (v := undef) rfl (by kernel_rfl) (by kernel_rfl) (by kernel_rfl) (fun _ _ _ h => h) (Or.inr ⟨by rfl, rfl⟩) hH ?_
            try simp only [Act.put, List.setIfInBounds_toArray, List.set_cons_zero, List.set_cons_succ, List.getElem_toArray, List.getElem_cons_succ, List.getElem_cons_zero]
            refine wpAnyH_take (i := 13) (v := undef) rfl (by kernel_rfl) (by kernel_rfl) (by kernel_rfl) (fun _ _ _ h => h) (Or.inr ⟨by rfl, rfl⟩) hH ?_
            try simp only [Act.put, List.setIfInBounds_toArray, List.set_cons_zero, List.set_cons_succ, List.getElem_toArray, List.getElem_cons_succ, List.getElem_cons_zero]
            refine wpAnyH_take (i := 14) (v := undef) rfl (by kernel_rfl) (by kernel_rfl) (by kernel_rfl) (fun _ _ _ h => h) (Or.inr ⟨by rfl, rfl⟩) hH ?_
            try simp only [Act.put, List.setIfInBounds_toArray, List.set_cons_zero, List.set_cons_succ, List.getElem_toArray, List.getElem_cons_succ, List.getElem_cons_zero]
            refine wpAnyH_take (i := 15) (v := .bool false) rfl (by kernel_rfl) (by kernel_rfl) (by kernel_rfl) (fun _ _ _ h => h) (Or.inl ⟨by rfl, fun w hSw => by go_simp⟩) hH ?_
            try simp only [Act.put, List.setIfInBounds_toArray, List.set_cons_zero, List.set_cons_succ, List.getElem_toArray, List.getElem_cons_succ, List.getElem_cons_zero]
            refine wpAnyH_take (i := 16) (v := .bool false) rfl (by kernel_rfl) (by kernel_rfl) (by kernel_rfl) (fun _ _ _ h => h) (Or.inl ⟨by rfl, fun w hSw => by go_simp⟩) hH ?_
            try simp only [Act.put, List.setIfInBounds_toArray, List.set_cons_zero, List.set_cons_succ, List.getElem_toArray, List.getElem_cons_succ, List.getElem_cons_zero]
            refine wpAnyH_take (i := 17) (v := undef) rfl (by kernel_rfl) (by kernel_rfl) (by kernel_rfl) (fun _ _ _ h => h) (Or.inr ⟨by rfl, rfl⟩) hH ?_
            try simp only [Act.put, List.setIfInBounds_toArray, List.set_cons_zero, List.set_cons_succ, List.getElem_toArray, List.getElem_cons_succ, List.getElem_cons_zero]
            refine wpAnyH_take (i := 18) (v := undef) rfl (by kernel_rfl) (by kernel_rfl) (by kernel_rfl) (fun _ _ _ h => h) (Or.inr ⟨by rfl, rfl⟩) hH ?_
            try simp only [Act.put, List.setIfInBounds_toArray, List.set_cons_zero, List.set_cons_succ, List.getElem_toArray, List.getElem_cons_succ, List.getElem_cons_zero]
            refine wpAnyH_take (i := 19) (v := undef) rfl (by kernel_rfl) (by kernel_rfl) (by kernel_rfl) (fun _ _ _ h => h) (Or.inr ⟨by rfl, rfl⟩) hH ?_
            try simp only [Act.put, List.setIfInBounds_toArray, List.set_cons_zero, List.set_cons_succ, List.getElem_toArray, List.getElem_cons_succ, List.getElem_cons_zero]
            refine wpAnyH_take (i := 20) (v := undef) rfl (by kernel_rfl) (by kernel_rfl) (by kernel_rfl) (fun _ _ _ h => h) (Or.inr ⟨by rfl, rfl⟩) hH ?_
            try simp only [Act.put, List.setIfInBounds_toArray, List.set_cons_zero, List.set_cons_succ, List.getElem_toArray, List.getElem_cons_succ, List.getElem_cons_zero]
            refine wpAnyH_take (i := 21) (v := undef) rfl (by kernel_rfl) (by kernel_rfl) (by kernel_rfl) (fun _ _ _ h => h) (Or.inr ⟨by rfl, rfl⟩) hH ?_
            try simp only [Act.put, List.setIfInBounds_toArray, List.set_cons_zero, List.set_cons_succ, List.getElem_toArray, List.getElem_cons_succ, List.getElem_cons_zero]
            refine wpAnyH_take (i := 22) (v := undef) rfl (by kernel_rfl) (by kernel_rfl) (by kernel_rfl) (fun _ _ _ h => h) (Or.inr ⟨by rfl, rfl⟩) hH ?_
            try simp only [Act.put, List.setIfInBounds_toArray, List.set_cons_zero, List.set_cons_succ, List.getElem_toArray, List.getElem_cons_succ, List.getElem_cons_zero]
            refine wpAnyH_take (i := 23) (v := undef) rfl (by kernel_rfl) (by kernel_rfl) (by kernel_rfl) (fun _ _ _ h => h) (Or.inr ⟨by rfl, rfl⟩) hH ?_
            try simp only [Act.put, List.setIfInBounds_toArray, List.set_cons_zero, List.set_cons_succ, List.getElem_toArray, List.getElem_cons_succ, List.getElem_cons_zero]
            refine wpAnyH_take (i := 24) (v := undef) rfl (by kernel_rfl) (by kernel_rfl) (by kernel_rfl) (fun _ _ _ h => h) (Or.inr ⟨by rfl, rfl⟩) hH ?_
            try simp only [Act.put, List.setIfInBounds_toArray, List.set_cons_zero, List.set_cons_succ, List.getElem_toArray, List.getElem_cons_succ, List.getElem_cons_zero]
            refine wpAnyH_take (i := 25) (v := undef) rfl (by kernel_rfl) (by kernel_rfl) (by kernel_rfl) (fun _ _ _ h => h) (Or.inr ⟨by rfl, rfl⟩) hH ?_
            try simp only [Act.put, List.setIfInBounds_toArray, List.set_cons_zero, List.set_cons_succ, List.getElem_toArray, List.getElem_cons_succ, List.getElem_cons_zero]
            refine wpAnyH_take (i := 26) (v := undef) rfl (by kernel_rfl) (by kernel_rfl) (by kernel_rfl) (fun _ _ _ h => h) (Or.inr ⟨by rfl, rfl⟩) hH ?_
            try simp only [Act.put, List.setIfInBounds_toArray, List.set_cons_zero, List.set_cons_succ, List.getElem_toArray, List.getElem_cons_succ, List.getElem_cons_zero]
            refine wpAnyH_take (i := 27) (v := undef) rfl (by kernel_rfl) (by kernel_rfl) (by kernel_rfl) (fun _ _ _ h => h) (Or.inr ⟨by rfl, rfl⟩) hH ?_
            try simp only [Act.put, List.setIfInBounds_toArray, List.set_cons_zero, List.set_cons_succ, List.getElem_toArray, List.getElem_cons_succ, List.getElem_cons_zero]
            refine wpAnyH_take (i := 28) (v := undef) rfl (by kernel_rfl) (by kernel_rfl) (by kernel_rfl) (fun _ _ _ h => h) (Or.inr ⟨by rfl, rfl⟩) hH ?_
            try simp only [Act.put, List.setIfInBounds_toArray, List.set_cons_zero, List.set_cons_succ, List.getElem_toArray, List.getElem_cons_succ, List.getElem_cons_zero]
            refine wpAnyH_take (i := 29) (v := undef) rfl (by kernel_rfl) (by kernel_rfl) (by kernel_rfl) (fun _ _ _ h => h) (Or.inr ⟨by rfl, rfl⟩) hH ?_
            try simp only [Act.put, List.setIfInBounds_toArray, List.set_cons_zero, List.set_cons_succ, List.getElem_toArray, List.getElem_cons_succ, List.getElem_cons_zero]
            refine wpAnyH_take (i := 30) (v := .bool false) rfl (by kernel_rfl) (by kernel_rfl) (by kernel_rfl) (fun _ _ _ h => h) (Or.inl ⟨by rfl, fun w hSw => by go_simp⟩) hH ?_
            try simp only [Act.put, List.setIfInBounds_toArray, List.set_cons_zero, List.set_cons_succ, List.getElem_toArray, List.getElem_cons_succ, List.getElem_cons_zero]
            refine wpAnyH_done (by kernel_rfl) ?_ _
            have HF : Hid (Below wo.heap.size wo Wb.drew) := (HQ.out _ hH).1
            clear hH HQ H2 HW
            generalize Wb.drew = W3 at *
            go_wp2
            exact ⟨⟨j + 1, by omega, by go_num, by rw [HB2.out], HF.out⟩, by simp [intOf]; omega⟩
          | true =>
            cases a4 with
            | true =>
              have HB2 : Hid (bs Lk (pS ar σ.day) (j + 1) = bs Lk (pS ar σ.day) j) := by
                show _ = _
                have hp : pS ar σ.day ⟨a0, a1, a2, a3, true⟩ = false := by unfold pS; simp [ea]
                rw [HBn.out, hp]
                cases bs Lk (pS ar σ.day) j <;> simp
              clear HBn
              refine wp_region_held_drew (S := fun W => Below Wb.heap.size Wb W) (by kernel_rfl) (below_drew _) (fun hH => ?_)
              refine wpAnyH_take (i := 0) (v := .pointer (some ⟨lb, 0, none⟩)) rfl (by kernel_rfl) (by kernel_rfl) (by kernel_rfl) (fun _ _ _ h => h) (Or.inl ⟨by rfl, fun w hSw => by go_simp⟩) hH ?_
              refine wpAnyH_take (i := 1) (v := .string a0) rfl (by kernel_rfl) (by kernel_rfl) (by kernel_rfl) (fun _ _ _ h => h) (Or.inl ⟨by rfl, fun w hSw => by have f0 := blkCell (HQ.out w hSw).2.1 0 _ rfl; go_simp⟩) hH ?_
              try simp only [Act.put, List.setIfInBounds_toArray, List.set_cons_zero, List.set_cons_succ, List.getElem_toArray, List.getElem_cons_succ, List.getElem_cons_zero]
              refine wpAnyH_take (i := 2) (v := .string ar) rfl (by kernel_rfl) (by kernel_rfl) (by kernel_rfl) (fun _ _ _ h => h) (Or.inl ⟨by rfl, fun w hSw => by go_simp⟩) hH ?_
              try simp only [Act.put, List.setIfInBounds_toArray, List.set_cons_zero, List.set_cons_succ, List.getElem_toArray, List.getElem_cons_succ, List.getElem_cons_zero]
              refine wpAnyH_take (i := 3) (v := .bool true) rfl (by kernel_rfl) (by kernel_rfl) (by kernel_rfl) (fun _ _ _ h => h) (Or.inl ⟨by rfl, fun w hSw => by have f0 := ea; go_simp⟩) hH ?_
              try simp only [Act.put, List.setIfInBounds_toArray, List.set_cons_zero, List.set_cons_succ, List.getElem_toArray, List.getElem_cons_succ, List.getElem_cons_zero]
              refine wpAnyH_take (i := 4) (v := .bool true) rfl (by kernel_rfl) (by kernel_rfl) (by kernel_rfl) (fun _ _ _ h => h) (Or.inl ⟨by rfl, fun w hSw => by go_simp⟩) hH ?_
              try simp only [Act.put, List.setIfInBounds_toArray, List.set_cons_zero, List.set_cons_succ, List.getElem_toArray, List.getElem_cons_succ, List.getElem_cons_zero]
              refine wpAnyH_take (i := 5) (v := .pointer (some ⟨lb, 4, none⟩)) rfl (by kernel_rfl) (by kernel_rfl) (by kernel_rfl) (fun _ _ _ h => h) (Or.inl ⟨by rfl, fun w hSw => by go_simp⟩) hH ?_
              try simp only [Act.put, List.setIfInBounds_toArray, List.set_cons_zero, List.set_cons_succ, List.getElem_toArray, List.getElem_cons_succ, List.getElem_cons_zero]
              refine wpAnyH_take (i := 6) (v := .bool true) rfl (by kernel_rfl) (by kernel_rfl) (by kernel_rfl) (fun _ _ _ h => h) (Or.inl ⟨by rfl, fun w hSw => by have f0 := blkCell (HQ.out w hSw).2.1 4 _ rfl; go_simp⟩) hH ?_
              try simp only [Act.put, List.setIfInBounds_toArray, List.set_cons_zero, List.set_cons_succ, List.getElem_toArray, List.getElem_cons_succ, List.getElem_cons_zero]
              refine wpAnyH_take (i := 7) (v := .bool false) rfl (by kernel_rfl) (by kernel_rfl) (by kernel_rfl) (fun _ _ _ h => h) (Or.inl ⟨by rfl, fun w hSw => by go_simp⟩) hH ?_
              try simp only [Act.put, List.setIfInBounds_toArray, List.set_cons_zero, List.set_cons_succ, List.getElem_toArray, List.getElem_cons_succ, List.getElem_cons_zero]
              refine wpAnyH_take (i := 8) (v := .bool false) rfl (by kernel_rfl) (by kernel_rfl) (by kernel_rfl) (fun _ _ _ h => h) (Or.inl ⟨by rfl, fun w hSw => by go_simp⟩) hH ?_
              try simp only [Act.put, List.setIfInBounds_toArray, List.set_cons_zero, List.set_cons_succ, List.getElem_toArray, List.getElem_cons_succ, List.getElem_cons_zero]
              refine wpAnyH_take (i := 9) (v := .bool false) rfl (by kernel_rfl) (by kernel_rfl) (by kernel_rfl) (fun _ _ _ h => h) (Or.inl ⟨by rfl, fun w hSw => by go_simp⟩) hH ?_
              try simp only [Act.put, List.setIfInBounds_toArray, List.set_cons_zero, List.set_cons_succ, List.getElem_toArray, List.getElem_cons_succ, List.getElem_cons_zero]
              refine wpAnyH_take (i := 10) (v := undef) rfl (by kernel_rfl) (by kernel_rfl) (by kernel_rfl) (fun _ _ _ h => h) (Or.inr ⟨by rfl, rfl⟩) hH ?_
              try simp only [Act.put, List.setIfInBounds_toArray, List.set_cons_zero, List.set_cons_succ, List.getElem_toArray, List.getElem_cons_succ, List.getElem_cons_zero]
              refine wpAnyH_take (i := 11) (v := undef) rfl (by kernel_rfl) (by kernel_rfl) (by kernel_rfl) (fun _ _ _ h => h) (Or.inr ⟨by rfl, rfl⟩) hH ?_
              try simp only [Act.put, List.setIfInBounds_toArray, List.set_cons_zero, List.set_cons_succ, List.getElem_toArray, List.getElem_cons_succ, List.getElem_cons_zero]
              refine wpAnyH_take (i := 12) (v := undef) rfl (by kernel_rfl) (by kernel_rfl) (by kernel_rfl) (fun _ _ _ h => h) (Or.inr ⟨by rfl, rfl⟩) hH ?_
              try simp only [Act.put, List.setIfInBounds_toArray, List.set_cons_zero, List.set_cons_succ, List.getElem_toArray, List.getElem_cons_succ, List.getElem_cons_zero]
              refine wpAnyH_take (i := 13) (v := undef) rfl (by kernel_rfl) (by kernel_rfl) (by kernel_rfl) (fun _ _ _ h => h) (Or.inr ⟨by rfl, rfl⟩) hH ?_
              try simp only [Act.put, List.setIfInBounds_toArray, List.set_cons_zero, List.set_cons_succ, List.getElem_toArray, List.getElem_cons_succ, List.getElem_cons_zero]
              refine wpAnyH_take (i := 14) (v := undef) rfl (by kernel_rfl) (by kernel_rfl) (by kernel_rfl) (fun _ _ _ h => h) (Or.inr ⟨by rfl, rfl⟩) hH ?_
              try simp only [Act.put, List.setIfInBounds_toArray, List.set_cons_zero, List.set_cons_succ, List.getElem_toArray, List.getElem_cons_succ, List.getElem_cons_zero]
              refine wpAnyH_take (i := 15) (v := .bool false) rfl (by kernel_rfl) (by kernel_rfl) (by kernel_rfl) (fun _ _ _ h => h) (Or.inl ⟨by rfl, fun w hSw => by go_simp⟩) hH ?_
              try simp only [Act.put, List.setIfInBounds_toArray, List.set_cons_zero, List.set_cons_succ, List.getElem_toArray, List.getElem_cons_succ, List.getElem_cons_zero]
              refine wpAnyH_take (i := 16) (v := .bool false) rfl (by kernel_rfl) (by kernel_rfl) (by kernel_rfl) (fun _ _ _ h => h) (Or.inl ⟨by rfl, fun w hSw => by go_simp⟩) hH ?_
              try simp only [Act.put, List.setIfInBounds_toArray, List.set_cons_zero, List.set_cons_succ, List.getElem_toArray, List.getElem_cons_succ, List.getElem_cons_zero]
              refine wpAnyH_take (i := 17) (v := undef) rfl (by kernel_rfl) (by kernel_rfl) (by kernel_rfl) (fun _ _ _ h => h) (Or.inr ⟨by rfl, rfl⟩) hH ?_
              try simp only [Act.put, List.setIfInBounds_toArray, List.set_cons_zero, List.set_cons_succ, List.getElem_toArray, List.getElem_cons_succ, List.getElem_cons_zero]
              refine wpAnyH_take (i := 18) (v := undef) rfl (by kernel_rfl) (by kernel_rfl) (by kernel_rfl) (fun _ _ _ h => h) (Or.inr ⟨by rfl, rfl⟩) hH ?_
              try simp only [Act.put, List.setIfInBounds_toArray, List.set_cons_zero, List.set_cons_succ, List.getElem_toArray, List.getElem_cons_succ, List.getElem_cons_zero]
              refine wpAnyH_take (i := 19) (v := undef) rfl (by kernel_rfl) (by kernel_rfl) (by kernel_rfl) (fun _ _ _ h => h) (Or.inr ⟨by rfl, rfl⟩) hH ?_
              try simp only [Act.put, List.setIfInBounds_toArray, List.set_cons_zero, List.set_cons_succ, List.getElem_toArray, List.getElem_cons_succ, List.getElem_cons_zero]
              refine wpAnyH_take (i := 20) (v := undef) rfl (by kernel_rfl) (by kernel_rfl) (by kernel_rfl) (fun _ _ _ h => h) (Or.inr ⟨by rfl, rfl⟩) hH ?_
              try simp only [Act.put, List.setIfInBounds_toArray, List.set_cons_zero, List.set_cons_succ, List.getElem_toArray, List.getElem_cons_succ, List.getElem_cons_zero]
              refine wpAnyH_take (i := 21) (v := undef) rfl (by kernel_rfl) (by kernel_rfl) (by kernel_rfl) (fun _ _ _ h => h) (Or.inr ⟨by rfl, rfl⟩) hH ?_
              try simp only [Act.put, List.setIfInBounds_toArray, List.set_cons_zero, List.set_cons_succ, List.getElem_toArray, List.getElem_cons_succ, List.getElem_cons_zero]
              refine wpAnyH_take (i := 22) (v := undef) rfl (by kernel_rfl) (by kernel_rfl) (by kernel_rfl) (fun _ _ _ h => h) (Or.inr ⟨by rfl, rfl⟩) hH ?_
              try simp only [Act.put, List.setIfInBounds_toArray, List.set_cons_zero, List.set_cons_succ, List.getElem_toArray, List.getElem_cons_succ, List.getElem_cons_zero]
              refine wpAnyH_take (i := 23) (v := undef) rfl (by kernel_rfl) (by kernel_rfl) (by kernel_rfl) (fun _ _ _ h => h) (Or.inr ⟨by rfl, rfl⟩) hH ?_
              try simp only [Act.put, List.setIfInBounds_toArray, List.set_cons_zero, List.set_cons_succ, List.getElem_toArray, List.getElem_cons_succ, List.getElem_cons_zero]
              refine wpAnyH_take (i := 24) (v := undef) rfl (by kernel_rfl) (by kernel_rfl) (by kernel_rfl) (fun _ _ _ h => h) (Or.inr ⟨by rfl, rfl⟩) hH ?_
              try simp only [Act.put, List.setIfInBounds_toArray, List.set_cons_zero, List.set_cons_succ, List.getElem_toArray, List.getElem_cons_succ, List.getElem_cons_zero]
              refine wpAnyH_take (i := 25) (v := undef) rfl (by kernel_rfl) (by kernel_rfl) (by kernel_rfl) (fun _ _ _ h => h) (Or.inr ⟨by rfl, rfl⟩) hH ?_
              try simp only [Act.put, List.setIfInBounds_toArray, List.set_cons_zero, List.set_cons_succ, List.getElem_toArray, List.getElem_cons_succ, List.getElem_cons_zero]
              refine wpAnyH_take (i := 26) (v := undef) rfl (by kernel_rfl) (by kernel_rfl) (by kernel_rfl) (fun _ _ _ h => h) (Or.inr ⟨by rfl, rfl⟩) hH ?_
              try simp only [Act.put, List.setIfInBounds_toArray, List.set_cons_zero, List.set_cons_succ, List.getElem_toArray, List.getElem_cons_succ, List.getElem_cons_zero]
              refine wpAnyH_take (i := 27) (v := undef) rfl (by kernel_rfl) (by kernel_rfl) (by kernel_rfl) (fun _ _ _ h => h) (Or.inr ⟨by rfl, rfl⟩) hH ?_
              try simp only [Act.put, List.setIfInBounds_toArray, List.set_cons_zero, List.set_cons_succ, List.getElem_toArray, List.getElem_cons_succ, List.getElem_cons_zero]
              refine wpAnyH_take (i := 28) (v := undef) rfl (by kernel_rfl) (by kernel_rfl) (by kernel_rfl) (fun _ _ _ h => h) (Or.inr ⟨by rfl, rfl⟩) hH ?_
              try simp only [Act.put, List.setIfInBounds_toArray, List.set_cons_zero, List.set_cons_succ, List.getElem_toArray, List.getElem_cons_succ, List.getElem_cons_zero]
              refine wpAnyH_take (i := 29) (v := undef) rfl (by kernel_rfl) (by kernel_rfl) (by kernel_rfl) (fun _ _ _ h => h) (Or.inr ⟨by rfl, rfl⟩) hH ?_
              try simp only [Act.put, List.setIfInBounds_toArray, List.set_cons_zero, List.set_cons_succ, List.getElem_toArray, List.getElem_cons_succ, List.getElem_cons_zero]
              refine wpAnyH_take (i := 30) (v := .bool false) rfl (by kernel_rfl) (by kernel_rfl) (by kernel_rfl) (fun _ _ _ h => h) (Or.inl ⟨by rfl, fun w hSw => by go_simp⟩) hH ?_
              try simp only [Act.put, List.setIfInBounds_toArray, List.set_cons_zero, List.set_cons_succ, List.getElem_toArray, List.getElem_cons_succ, List.getElem_cons_zero]
              refine wpAnyH_done (by kernel_rfl) ?_ _
              have HF : Hid (Below wo.heap.size wo Wb.drew) := (HQ.out _ hH).1
              clear hH HQ H2 HW
              generalize Wb.drew = W3 at *
              go_wp2
              exact ⟨⟨j + 1, by omega, by go_num, by rw [HB2.out], HF.out⟩, by simp [intOf]; omega⟩
            | false =>
              by_cases hdy : σ.day ≤ a3
              · have ed : decide (σ.day ≤ a3) = true := decide_eq_true hdy
                cases hbj : bs Lk (pS ar σ.day) j with
                | none =>
                  have HB2 : Hid (bs Lk (pS ar σ.day) (j + 1) = some j) := by
                    show _ = _
                    have hp : pS ar σ.day ⟨a0, a1, a2, a3, false⟩ = true := by unfold pS; simp [ea, hdy]
                    rw [HBn.out, hp, hbj]; rfl
                  clear HBn
                  have hf1 : fdV (none : Option Nat) = -1 := rfl
                  rw [hf1]
                  clear hf1
                  refine wp_region_held_drew (S := fun W => Below Wb.heap.size Wb W) (by kernel_rfl) (below_drew _) (fun hH => ?_)
                  refine wpAnyH_take (i := 0) (v := .pointer (some ⟨lb, 0, none⟩)) rfl (by kernel_rfl) (by kernel_rfl) (by kernel_rfl) (fun _ _ _ h => h) (Or.inl ⟨by rfl, fun w hSw => by go_simp⟩) hH ?_
                  refine wpAnyH_take (i := 1) (v := .string a0) rfl (by kernel_rfl) (by kernel_rfl) (by kernel_rfl) (fun _ _ _ h => h) (Or.inl ⟨by rfl, fun w hSw => by have f0 := blkCell (HQ.out w hSw).2.1 0 _ rfl; go_simp⟩) hH ?_
                  try simp only [Act.put, List.setIfInBounds_toArray, List.set_cons_zero, List.set_cons_succ, List.getElem_toArray, List.getElem_cons_succ, List.getElem_cons_zero]
                  refine wpAnyH_take (i := 2) (v := .string ar) rfl (by kernel_rfl) (by kernel_rfl) (by kernel_rfl) (fun _ _ _ h => h) (Or.inl ⟨by rfl, fun w hSw => by go_simp⟩) hH ?_
                  try simp only [Act.put, List.setIfInBounds_toArray, List.set_cons_zero, List.set_cons_succ, List.getElem_toArray, List.getElem_cons_succ, List.getElem_cons_zero]
                  refine wpAnyH_take (i := 3) (v := .bool true) rfl (by kernel_rfl) (by kernel_rfl) (by kernel_rfl) (fun _ _ _ h => h) (Or.inl ⟨by rfl, fun w hSw => by have f0 := ea; go_simp⟩) hH ?_
                  try simp only [Act.put, List.setIfInBounds_toArray, List.set_cons_zero, List.set_cons_succ, List.getElem_toArray, List.getElem_cons_succ, List.getElem_cons_zero]
                  refine wpAnyH_take (i := 4) (v := .bool true) rfl (by kernel_rfl) (by kernel_rfl) (by kernel_rfl) (fun _ _ _ h => h) (Or.inl ⟨by rfl, fun w hSw => by go_simp⟩) hH ?_
                  try simp only [Act.put, List.setIfInBounds_toArray, List.set_cons_zero, List.set_cons_succ, List.getElem_toArray, List.getElem_cons_succ, List.getElem_cons_zero]
                  refine wpAnyH_take (i := 5) (v := .pointer (some ⟨lb, 4, none⟩)) rfl (by kernel_rfl) (by kernel_rfl) (by kernel_rfl) (fun _ _ _ h => h) (Or.inl ⟨by rfl, fun w hSw => by go_simp⟩) hH ?_
                  try simp only [Act.put, List.setIfInBounds_toArray, List.set_cons_zero, List.set_cons_succ, List.getElem_toArray, List.getElem_cons_succ, List.getElem_cons_zero]
                  refine wpAnyH_take (i := 6) (v := .bool false) rfl (by kernel_rfl) (by kernel_rfl) (by kernel_rfl) (fun _ _ _ h => h) (Or.inl ⟨by rfl, fun w hSw => by have f0 := blkCell (HQ.out w hSw).2.1 4 _ rfl; go_simp⟩) hH ?_
                  try simp only [Act.put, List.setIfInBounds_toArray, List.set_cons_zero, List.set_cons_succ, List.getElem_toArray, List.getElem_cons_succ, List.getElem_cons_zero]
                  refine wpAnyH_take (i := 7) (v := .bool true) rfl (by kernel_rfl) (by kernel_rfl) (by kernel_rfl) (fun _ _ _ h => h) (Or.inl ⟨by rfl, fun w hSw => by go_simp⟩) hH ?_
                  try simp only [Act.put, List.setIfInBounds_toArray, List.set_cons_zero, List.set_cons_succ, List.getElem_toArray, List.getElem_cons_succ, List.getElem_cons_zero]
                  refine wpAnyH_take (i := 8) (v := .bool true) rfl (by kernel_rfl) (by kernel_rfl) (by kernel_rfl) (fun _ _ _ h => h) (Or.inl ⟨by rfl, fun w hSw => by go_simp⟩) hH ?_
                  try simp only [Act.put, List.setIfInBounds_toArray, List.set_cons_zero, List.set_cons_succ, List.getElem_toArray, List.getElem_cons_succ, List.getElem_cons_zero]
                  refine wpAnyH_take (i := 9) (v := .bool true) rfl (by kernel_rfl) (by kernel_rfl) (by kernel_rfl) (fun _ _ _ h => h) (Or.inl ⟨by rfl, fun w hSw => by go_simp⟩) hH ?_
                  try simp only [Act.put, List.setIfInBounds_toArray, List.set_cons_zero, List.set_cons_succ, List.getElem_toArray, List.getElem_cons_succ, List.getElem_cons_zero]
                  refine wpAnyH_take (i := 10) (v := .pointer (some ⟨lb, 3, none⟩)) rfl (by kernel_rfl) (by kernel_rfl) (by kernel_rfl) (fun _ _ _ h => h) (Or.inl ⟨by rfl, fun w hSw => by go_simp⟩) hH ?_
                  try simp only [Act.put, List.setIfInBounds_toArray, List.set_cons_zero, List.set_cons_succ, List.getElem_toArray, List.getElem_cons_succ, List.getElem_cons_zero]
                  refine wpAnyH_take (i := 11) (v := .int .i64 a3) rfl (by kernel_rfl) (by kernel_rfl) (by kernel_rfl) (fun _ _ _ h => h) (Or.inl ⟨by rfl, fun w hSw => by have f0 := blkCell (HQ.out w hSw).2.1 3 _ rfl; go_simp⟩) hH ?_
                  try simp only [Act.put, List.setIfInBounds_toArray, List.set_cons_zero, List.set_cons_succ, List.getElem_toArray, List.getElem_cons_succ, List.getElem_cons_zero]
                  refine wpAnyH_take (i := 12) (v := .pointer (some ⟨w.heap.size, 0, none⟩)) rfl (by kernel_rfl) (by kernel_rfl) (by kernel_rfl) (fun _ _ _ h => h) (Or.inl ⟨by rfl, fun w hSw => by go_simp⟩) hH ?_
                  try simp only [Act.put, List.setIfInBounds_toArray, List.set_cons_zero, List.set_cons_succ, List.getElem_toArray, List.getElem_cons_succ, List.getElem_cons_zero]
                  refine wpAnyH_take (i := 13) (v := .int .i64 σ.day) rfl (by kernel_rfl) (by kernel_rfl) (by kernel_rfl) (fun _ _ _ h => h) (Or.inl ⟨by rfl, fun w hSw => by have f0 := blkCell (HQ.out w hSw).2.2.1 0 _ rfl; go_simp⟩) hH ?_
                  try simp only [Act.put, List.setIfInBounds_toArray, List.set_cons_zero, List.set_cons_succ, List.getElem_toArray, List.getElem_cons_succ, List.getElem_cons_zero]
                  refine wpAnyH_take (i := 14) (v := .bool true) rfl (by kernel_rfl) (by kernel_rfl) (by kernel_rfl) (fun _ _ _ h => h) (Or.inl ⟨by rfl, fun w hSw => by have f0 := ed; go_simp⟩) hH ?_
                  try simp only [Act.put, List.setIfInBounds_toArray, List.set_cons_zero, List.set_cons_succ, List.getElem_toArray, List.getElem_cons_succ, List.getElem_cons_zero]
                  refine wpAnyH_take (i := 15) (v := .bool true) rfl (by kernel_rfl) (by kernel_rfl) (by kernel_rfl) (fun _ _ _ h => h) (Or.inl ⟨by rfl, fun w hSw => by go_simp⟩) hH ?_
                  try simp only [Act.put, List.setIfInBounds_toArray, List.set_cons_zero, List.set_cons_succ, List.getElem_toArray, List.getElem_cons_succ, List.getElem_cons_zero]
                  refine wpAnyH_take (i := 16) (v := .bool true) rfl (by kernel_rfl) (by kernel_rfl) (by kernel_rfl) (fun _ _ _ h => h) (Or.inl ⟨by rfl, fun w hSw => by go_simp⟩) hH ?_
                  try simp only [Act.put, List.setIfInBounds_toArray, List.set_cons_zero, List.set_cons_succ, List.getElem_toArray, List.getElem_cons_succ, List.getElem_cons_zero]
                  refine wpAnyH_take (i := 17) (v := .int .i64 (-1)) rfl (by kernel_rfl) (by kernel_rfl) (by kernel_rfl) (fun _ _ _ h => h) (Or.inl ⟨by rfl, fun w hSw => by go_simp⟩) hH ?_
                  try simp only [Act.put, List.setIfInBounds_toArray, List.set_cons_zero, List.set_cons_succ, List.getElem_toArray, List.getElem_cons_succ, List.getElem_cons_zero]
                  refine wpAnyH_take (i := 18) (v := .bool true) rfl (by kernel_rfl) (by kernel_rfl) (by kernel_rfl) (fun _ _ _ h => h) (Or.inl ⟨by rfl, fun w hSw => by go_simp⟩) hH ?_
                  try simp only [Act.put, List.setIfInBounds_toArray, List.set_cons_zero, List.set_cons_succ, List.getElem_toArray, List.getElem_cons_succ, List.getElem_cons_zero]
                  refine wpAnyH_take (i := 19) (v := .bool true) rfl (by kernel_rfl) (by kernel_rfl) (by kernel_rfl) (fun _ _ _ h => h) (Or.inl ⟨by rfl, fun w hSw => by go_simp⟩) hH ?_
                  try simp only [Act.put, List.setIfInBounds_toArray, List.set_cons_zero, List.set_cons_succ, List.getElem_toArray, List.getElem_cons_succ, List.getElem_cons_zero]
                  refine wpAnyH_take (i := 20) (v := undef) rfl (by kernel_rfl) (by kernel_rfl) (by kernel_rfl) (fun _ _ _ h => h) (Or.inr ⟨by rfl, rfl⟩) hH ?_
                  try simp only [Act.put, List.setIfInBounds_toArray, List.set_cons_zero, List.set_cons_succ, List.getElem_toArray, List.getElem_cons_succ, List.getElem_cons_zero]
                  refine wpAnyH_take (i := 21) (v := undef) rfl (by kernel_rfl) (by kernel_rfl) (by kernel_rfl) (fun _ _ _ h => h) (Or.inr ⟨by rfl, rfl⟩) hH ?_
                  try simp only [Act.put, List.setIfInBounds_toArray, List.set_cons_zero, List.set_cons_succ, List.getElem_toArray, List.getElem_cons_succ, List.getElem_cons_zero]
                  refine wpAnyH_take (i := 22) (v := undef) rfl (by kernel_rfl) (by kernel_rfl) (by kernel_rfl) (fun _ _ _ h => h) (Or.inr ⟨by rfl, rfl⟩) hH ?_
                  try simp only [Act.put, List.setIfInBounds_toArray, List.set_cons_zero, List.set_cons_succ, List.getElem_toArray, List.getElem_cons_succ, List.getElem_cons_zero]
                  refine wpAnyH_take (i := 23) (v := undef) rfl (by kernel_rfl) (by kernel_rfl) (by kernel_rfl) (fun _ _ _ h => h) (Or.inr ⟨by rfl, rfl⟩) hH ?_
                  try simp only [Act.put, List.setIfInBounds_toArray, List.set_cons_zero, List.set_cons_succ, List.getElem_toArray, List.getElem_cons_succ, List.getElem_cons_zero]
                  refine wpAnyH_take (i := 24) (v := undef) rfl (by kernel_rfl) (by kernel_rfl) (by kernel_rfl) (fun _ _ _ h => h) (Or.inr ⟨by rfl, rfl⟩) hH ?_
                  try simp only [Act.put, List.setIfInBounds_toArray, List.set_cons_zero, List.set_cons_succ, List.getElem_toArray, List.getElem_cons_succ, List.getElem_cons_zero]
                  refine wpAnyH_take (i := 25) (v := undef) rfl (by kernel_rfl) (by kernel_rfl) (by kernel_rfl) (fun _ _ _ h => h) (Or.inr ⟨by rfl, rfl⟩) hH ?_
                  try simp only [Act.put, List.setIfInBounds_toArray, List.set_cons_zero, List.set_cons_succ, List.getElem_toArray, List.getElem_cons_succ, List.getElem_cons_zero]
                  refine wpAnyH_take (i := 26) (v := undef) rfl (by kernel_rfl) (by kernel_rfl) (by kernel_rfl) (fun _ _ _ h => h) (Or.inr ⟨by rfl, rfl⟩) hH ?_
                  try simp only [Act.put, List.setIfInBounds_toArray, List.set_cons_zero, List.set_cons_succ, List.getElem_toArray, List.getElem_cons_succ, List.getElem_cons_zero]
                  refine wpAnyH_take (i := 27) (v := undef) rfl (by kernel_rfl) (by kernel_rfl) (by kernel_rfl) (fun _ _ _ h => h) (Or.inr ⟨by rfl, rfl⟩) hH ?_
                  try simp only [Act.put, List.setIfInBounds_toArray, List.set_cons_zero, List.set_cons_succ, List.getElem_toArray, List.getElem_cons_succ, List.getElem_cons_zero]
                  refine wpAnyH_take (i := 28) (v := undef) rfl (by kernel_rfl) (by kernel_rfl) (by kernel_rfl) (fun _ _ _ h => h) (Or.inr ⟨by rfl, rfl⟩) hH ?_
                  try simp only [Act.put, List.setIfInBounds_toArray, List.set_cons_zero, List.set_cons_succ, List.getElem_toArray, List.getElem_cons_succ, List.getElem_cons_zero]
                  refine wpAnyH_take (i := 29) (v := .bool true) rfl (by kernel_rfl) (by kernel_rfl) (by kernel_rfl) (fun _ _ _ h => h) (Or.inl ⟨by rfl, fun w hSw => by go_simp⟩) hH ?_
                  try simp only [Act.put, List.setIfInBounds_toArray, List.set_cons_zero, List.set_cons_succ, List.getElem_toArray, List.getElem_cons_succ, List.getElem_cons_zero]
                  refine wpAnyH_take (i := 30) (v := .bool true) rfl (by kernel_rfl) (by kernel_rfl) (by kernel_rfl) (fun _ _ _ h => h) (Or.inl ⟨by rfl, fun w hSw => by go_simp⟩) hH ?_
                  try simp only [Act.put, List.setIfInBounds_toArray, List.set_cons_zero, List.set_cons_succ, List.getElem_toArray, List.getElem_cons_succ, List.getElem_cons_zero]
                  refine wpAnyH_done (by kernel_rfl) ?_ _
                  have HF : Hid (Below wo.heap.size wo Wb.drew) := (HQ.out _ hH).1
                  clear hH HQ H2 HW
                  generalize Wb.drew = W3 at *
                  go_wp2
                  exact ⟨⟨j + 1, by omega, by go_num, by rw [HB2.out]; rfl, HF.out⟩, by simp [intOf]; omega⟩
                | some b' =>
                  have hbj2 := HBl.out b' hbj
                  have hf1 : fdV (some b') = (b' : Int) := rfl
                  rw [hf1]
                  have hbi : (b' : Int) < (Lk.length : Int) := by omega
                  have hb0 : ¬ ((b' : Int) < 0) := by omega
                  obtain ⟨ub, hub⟩ : ∃ ub, ub = (gl Lk b').un := ⟨_, rfl⟩
                  have HUb : Hid (∀ W, Below Wb.heap.size Wb W → W.cell? ⟨g, b' * 5 + 3, none⟩ = some (.int .i64 ub)) := fun W hW => by rw [hub]; exact (HQ.out W hW).2.2.2 b' (by omega)
                  have HBn2 : Hid (bs Lk (pS ar σ.day) (j + 1) = if a3 < ub then some j else some b') := by
                    show _ = _
                    have hp : pS ar σ.day ⟨a0, a1, a2, a3, false⟩ = true := by unfold pS; simp [ea, hdy]
                    rw [HBn.out, hp, hbj, hub]
                    by_cases q : a3 < (gl Lk b').un
                    · simp [q]
                    · simp [q]
                  clear HBn hub hf1 hbj
                  by_cases hlu : a3 < ub
                  · have HB2 : Hid (bs Lk (pS ar σ.day) (j + 1) = some j) := by show _ = _; rw [HBn2.out, if_pos hlu]
                    clear HBn2
                    refine wp_region_held_drew (S := fun W => Below Wb.heap.size Wb W) (by kernel_rfl) (below_drew _) (fun hH => ?_)
                    refine wpAnyH_take (i := 0) (v := .pointer (some ⟨lb, 0, none⟩)) rfl (by kernel_rfl) (by kernel_rfl) (by kernel_rfl) (fun _ _ _ h => h) (Or.inl ⟨by rfl, fun w hSw => by go_simp⟩) hH ?_
                    refine wpAnyH_take (i := 1) (v := .string a0) rfl (by kernel_rfl) (by kernel_rfl) (by kernel_rfl) (fun _ _ _ h => h) (Or.inl ⟨by rfl, fun w hSw => by have f0 := blkCell (HQ.out w hSw).2.1 0 _ rfl; go_simp⟩) hH ?_
                    try simp only [Act.put, List.setIfInBounds_toArray, List.set_cons_zero, List.set_cons_succ, List.getElem_toArray, List.getElem_cons_succ, List.getElem_cons_zero]
                    refine wpAnyH_take (i := 2) (v := .string ar) rfl (by kernel_rfl) (by kernel_rfl) (by kernel_rfl) (fun _ _ _ h => h) (Or.inl ⟨by rfl, fun w hSw => by go_simp⟩) hH ?_
                    try simp only [Act.put, List.setIfInBounds_toArray, List.set_cons_zero, List.set_cons_succ, List.getElem_toArray, List.getElem_cons_succ, List.getElem_cons_zero]
                    refine wpAnyH_take (i := 3) (v := .bool true) rfl (by kernel_rfl) (by kernel_rfl) (by kernel_rfl) (fun _ _ _ h => h) (Or.inl ⟨by rfl, fun w hSw => by have f0 := ea; go_simp⟩) hH ?_
                    try simp only [Act.put, List.setIfInBounds_toArray, List.set_cons_zero, List.set_cons_succ, List.getElem_toArray, List.getElem_cons_succ, List.getElem_cons_zero]
                    refine wpAnyH_take (i := 4) (v := .bool true) rfl (by kernel_rfl) (by kernel_rfl) (by kernel_rfl) (fun _ _ _ h => h) (Or.inl ⟨by rfl, fun w hSw => by go_simp⟩) hH ?_
                    try simp only [Act.put, List.setIfInBounds_toArray, List.set_cons_zero, List.set_cons_succ, List.getElem_toArray, List.getElem_cons_succ, List.getElem_cons_zero]
                    refine wpAnyH_take (i := 5) (v := .pointer (some ⟨lb, 4, none⟩)) rfl (by kernel_rfl) (by kernel_rfl) (by kernel_rfl) (fun _ _ _ h => h) (Or.inl ⟨by rfl, fun w hSw => by go_simp⟩) hH ?_
                    try simp only [Act.put, List.setIfInBounds_toArray, List.set_cons_zero, List.set_cons_succ, List.getElem_toArray, List.getElem_cons_succ, List.getElem_cons_zero]
                    refine wpAnyH_take (i := 6) (v := .bool false) rfl (by kernel_rfl) (by kernel_rfl) (by kernel_rfl) (fun _ _ _ h => h) (Or.inl ⟨by rfl, fun w hSw => by have f0 := blkCell (HQ.out w hSw).2.1 4 _ rfl; go_simp⟩) hH ?_
                    try simp only [Act.put, List.setIfInBounds_toArray, List.set_cons_zero, List.set_cons_succ, List.getElem_toArray, List.getElem_cons_succ, List.getElem_cons_zero]
                    refine wpAnyH_take (i := 7) (v := .bool true) rfl (by kernel_rfl) (by kernel_rfl) (by kernel_rfl) (fun _ _ _ h => h) (Or.inl ⟨by rfl, fun w hSw => by go_simp⟩) hH ?_
                    try simp only [Act.put, List.setIfInBounds_toArray, List.set_cons_zero, List.set_cons_succ, List.getElem_toArray, List.getElem_cons_succ, List.getElem_cons_zero]
                    refine wpAnyH_take (i := 8) (v := .bool true) rfl (by kernel_rfl) (by kernel_rfl) (by kernel_rfl) (fun _ _ _ h => h) (Or.inl ⟨by rfl, fun w hSw => by go_simp⟩) hH ?_
                    try simp only [Act.put, List.setIfInBounds_toArray, List.set_cons_zero, List.set_cons_succ, List.getElem_toArray, List.getElem_cons_succ, List.getElem_cons_zero]
                    refine wpAnyH_take (i := 9) (v := .bool true) rfl (by kernel_rfl) (by kernel_rfl) (by kernel_rfl) (fun _ _ _ h => h) (Or.inl ⟨by rfl, fun w hSw => by go_simp⟩) hH ?_
                    try simp only [Act.put, List.setIfInBounds_toArray, List.set_cons_zero, List.set_cons_succ, List.getElem_toArray, List.getElem_cons_succ, List.getElem_cons_zero]
                    refine wpAnyH_take (i := 10) (v := .pointer (some ⟨lb, 3, none⟩)) rfl (by kernel_rfl) (by kernel_rfl) (by kernel_rfl) (fun _ _ _ h => h) (Or.inl ⟨by rfl, fun w hSw => by go_simp⟩) hH ?_
                    try simp only [Act.put, List.setIfInBounds_toArray, List.set_cons_zero, List.set_cons_succ, List.getElem_toArray, List.getElem_cons_succ, List.getElem_cons_zero]
                    refine wpAnyH_take (i := 11) (v := .int .i64 a3) rfl (by kernel_rfl) (by kernel_rfl) (by kernel_rfl) (fun _ _ _ h => h) (Or.inl ⟨by rfl, fun w hSw => by have f0 := blkCell (HQ.out w hSw).2.1 3 _ rfl; go_simp⟩) hH ?_
                    try simp only [Act.put, List.setIfInBounds_toArray, List.set_cons_zero, List.set_cons_succ, List.getElem_toArray, List.getElem_cons_succ, List.getElem_cons_zero]
                    refine wpAnyH_take (i := 12) (v := .pointer (some ⟨w.heap.size, 0, none⟩)) rfl (by kernel_rfl) (by kernel_rfl) (by kernel_rfl) (fun _ _ _ h => h) (Or.inl ⟨by rfl, fun w hSw => by go_simp⟩) hH ?_
                    try simp only [Act.put, List.setIfInBounds_toArray, List.set_cons_zero, List.set_cons_succ, List.getElem_toArray, List.getElem_cons_succ, List.getElem_cons_zero]
                    refine wpAnyH_take (i := 13) (v := .int .i64 σ.day) rfl (by kernel_rfl) (by kernel_rfl) (by kernel_rfl) (fun _ _ _ h => h) (Or.inl ⟨by rfl, fun w hSw => by have f0 := blkCell (HQ.out w hSw).2.2.1 0 _ rfl; go_simp⟩) hH ?_
                    try simp only [Act.put, List.setIfInBounds_toArray, List.set_cons_zero, List.set_cons_succ, List.getElem_toArray, List.getElem_cons_succ, List.getElem_cons_zero]
                    refine wpAnyH_take (i := 14) (v := .bool true) rfl (by kernel_rfl) (by kernel_rfl) (by kernel_rfl) (fun _ _ _ h => h) (Or.inl ⟨by rfl, fun w hSw => by have f0 := ed; go_simp⟩) hH ?_
                    try simp only [Act.put, List.setIfInBounds_toArray, List.set_cons_zero, List.set_cons_succ, List.getElem_toArray, List.getElem_cons_succ, List.getElem_cons_zero]
                    refine wpAnyH_take (i := 15) (v := .bool true) rfl (by kernel_rfl) (by kernel_rfl) (by kernel_rfl) (fun _ _ _ h => h) (Or.inl ⟨by rfl, fun w hSw => by go_simp⟩) hH ?_
                    try simp only [Act.put, List.setIfInBounds_toArray, List.set_cons_zero, List.set_cons_succ, List.getElem_toArray, List.getElem_cons_succ, List.getElem_cons_zero]
                    refine wpAnyH_take (i := 16) (v := .bool true) rfl (by kernel_rfl) (by kernel_rfl) (by kernel_rfl) (fun _ _ _ h => h) (Or.inl ⟨by rfl, fun w hSw => by go_simp⟩) hH ?_
                    try simp only [Act.put, List.setIfInBounds_toArray, List.set_cons_zero, List.set_cons_succ, List.getElem_toArray, List.getElem_cons_succ, List.getElem_cons_zero]
                    refine wpAnyH_take (i := 17) (v := .int .i64 (b' : Int)) rfl (by kernel_rfl) (by kernel_rfl) (by kernel_rfl) (fun _ _ _ h => h) (Or.inl ⟨by rfl, fun w hSw => by go_simp⟩) hH ?_
                    try simp only [Act.put, List.setIfInBounds_toArray, List.set_cons_zero, List.set_cons_succ, List.getElem_toArray, List.getElem_cons_succ, List.getElem_cons_zero]
                    refine wpAnyH_take (i := 18) (v := .bool false) rfl (by kernel_rfl) (by kernel_rfl) (by kernel_rfl) (fun _ _ _ h => h) (Or.inl ⟨by rfl, fun w hSw => by go_simp⟩) hH ?_
                    try simp only [Act.put, List.setIfInBounds_toArray, List.set_cons_zero, List.set_cons_succ, List.getElem_toArray, List.getElem_cons_succ, List.getElem_cons_zero]
                    refine wpAnyH_take (i := 19) (v := .bool false) rfl (by kernel_rfl) (by kernel_rfl) (by kernel_rfl) (fun _ _ _ h => h) (Or.inl ⟨by rfl, fun w hSw => by go_simp⟩) hH ?_
                    try simp only [Act.put, List.setIfInBounds_toArray, List.set_cons_zero, List.set_cons_succ, List.getElem_toArray, List.getElem_cons_succ, List.getElem_cons_zero]
                    refine wpAnyH_take (i := 20) (v := .pointer (some ⟨lb, 3, none⟩)) rfl (by kernel_rfl) (by kernel_rfl) (by kernel_rfl) (fun _ _ _ h => h) (Or.inl ⟨by rfl, fun w hSw => by go_simp⟩) hH ?_
                    try simp only [Act.put, List.setIfInBounds_toArray, List.set_cons_zero, List.set_cons_succ, List.getElem_toArray, List.getElem_cons_succ, List.getElem_cons_zero]
                    refine wpAnyH_take (i := 21) (v := .int .i64 a3) rfl (by kernel_rfl) (by kernel_rfl) (by kernel_rfl) (fun _ _ _ h => h) (Or.inl ⟨by rfl, fun w hSw => by have f0 := blkCell (HQ.out w hSw).2.1 3 _ rfl; go_simp⟩) hH ?_
                    try simp only [Act.put, List.setIfInBounds_toArray, List.set_cons_zero, List.set_cons_succ, List.getElem_toArray, List.getElem_cons_succ, List.getElem_cons_zero]
                    refine wpAnyH_take (i := 22) (v := .pointer (some ⟨w.heap.size, 5, none⟩)) rfl (by kernel_rfl) (by kernel_rfl) (by kernel_rfl) (fun _ _ _ h => h) (Or.inl ⟨by rfl, fun w hSw => by go_simp⟩) hH ?_
                    try simp only [Act.put, List.setIfInBounds_toArray, List.set_cons_zero, List.set_cons_succ, List.getElem_toArray, List.getElem_cons_succ, List.getElem_cons_zero]
                    refine wpAnyH_take (i := 23) (v := .slice (some ⟨g, 0, none⟩) Lk.length vc) rfl (by kernel_rfl) (by kernel_rfl) (by kernel_rfl) (fun _ _ _ h => h) (Or.inl ⟨by rfl, fun w hSw => by have f0 := blkCell (HQ.out w hSw).2.2.1 5 _ rfl; go_simp⟩) hH ?_
                    try simp only [Act.put, List.setIfInBounds_toArray, List.set_cons_zero, List.set_cons_succ, List.getElem_toArray, List.getElem_cons_succ, List.getElem_cons_zero]
                    refine wpAnyH_take (i := 24) (v := .int .i64 (b' : Int)) rfl (by kernel_rfl) (by kernel_rfl) (by kernel_rfl) (fun _ _ _ h => h) (Or.inl ⟨by rfl, fun w hSw => by go_simp⟩) hH ?_
                    try simp only [Act.put, List.setIfInBounds_toArray, List.set_cons_zero, List.set_cons_succ, List.getElem_toArray, List.getElem_cons_succ, List.getElem_cons_zero]
                    refine wpAnyH_take (i := 25) (v := .pointer (some ⟨g, b' * 5, none⟩)) rfl (by kernel_rfl) (by kernel_rfl) (by kernel_rfl) (fun _ _ _ h => h) (Or.inl ⟨by rfl, fun w hSw => by go_simp⟩) hH ?_
                    try simp only [Act.put, List.setIfInBounds_toArray, List.set_cons_zero, List.set_cons_succ, List.getElem_toArray, List.getElem_cons_succ, List.getElem_cons_zero]
                    refine wpAnyH_take (i := 26) (v := .pointer (some ⟨g, b' * 5 + 3, none⟩)) rfl (by kernel_rfl) (by kernel_rfl) (by kernel_rfl) (fun _ _ _ h => h) (Or.inl ⟨by rfl, fun w hSw => by go_simp⟩) hH ?_
                    try simp only [Act.put, List.setIfInBounds_toArray, List.set_cons_zero, List.set_cons_succ, List.getElem_toArray, List.getElem_cons_succ, List.getElem_cons_zero]
                    refine wpAnyH_take (i := 27) (v := .int .i64 ub) rfl (by kernel_rfl) (by kernel_rfl) (by kernel_rfl) (fun _ _ _ h => h) (Or.inl ⟨by rfl, fun w hSw => by have f0 := HUb.out w hSw; go_simp⟩) hH ?_
                    try simp only [Act.put, List.setIfInBounds_toArray, List.set_cons_zero, List.set_cons_succ, List.getElem_toArray, List.getElem_cons_succ, List.getElem_cons_zero]
                    refine wpAnyH_take (i := 28) (v := .bool true) rfl (by kernel_rfl) (by kernel_rfl) (by kernel_rfl) (fun _ _ _ h => h) (Or.inl ⟨by rfl, fun w hSw => by go_simp⟩) hH ?_
                    try simp only [Act.put, List.setIfInBounds_toArray, List.set_cons_zero, List.set_cons_succ, List.getElem_toArray, List.getElem_cons_succ, List.getElem_cons_zero]
                    refine wpAnyH_take (i := 29) (v := .bool true) rfl (by kernel_rfl) (by kernel_rfl) (by kernel_rfl) (fun _ _ _ h => h) (Or.inl ⟨by rfl, fun w hSw => by go_simp⟩) hH ?_
                    try simp only [Act.put, List.setIfInBounds_toArray, List.set_cons_zero, List.set_cons_succ, List.getElem_toArray, List.getElem_cons_succ, List.getElem_cons_zero]
                    refine wpAnyH_take (i := 30) (v := .bool true) rfl (by kernel_rfl) (by kernel_rfl) (by kernel_rfl) (fun _ _ _ h => h) (Or.inl ⟨by rfl, fun w hSw => by go_simp⟩) hH ?_
                    try simp only [Act.put, List.setIfInBounds_toArray, List.set_cons_zero, List.set_cons_succ, List.getElem_toArray, List.getElem_cons_succ, List.getElem_cons_zero]
                    refine wpAnyH_done (by kernel_rfl) ?_ _
                    have HF : Hid (Below wo.heap.size wo Wb.drew) := (HQ.out _ hH).1
                    clear hH HQ H2 HW HUb
                    generalize Wb.drew = W3 at *
                    go_wp2
                    exact ⟨⟨j + 1, by omega, by go_num, by rw [HB2.out]; rfl, HF.out⟩, by simp [intOf]; omega⟩
                  · have HB2 : Hid (bs Lk (pS ar σ.day) (j + 1) = some b') := by show _ = _; rw [HBn2.out, if_neg hlu]
                    clear HBn2
                    refine wp_region_held_drew (S := fun W => Below Wb.heap.size Wb W) (by kernel_rfl) (below_drew _) (fun hH => ?_)
                    refine wpAnyH_take (i := 0) (v := .pointer (some ⟨lb, 0, none⟩)) rfl (by kernel_rfl) (by kernel_rfl) (by kernel_rfl) (fun _ _ _ h => h) (Or.inl ⟨by rfl, fun w hSw => by go_simp⟩) hH ?_
                    refine wpAnyH_take (i := 1) (v := .string a0) rfl (by kernel_rfl) (by kernel_rfl) (by kernel_rfl) (fun _ _ _ h => h) (Or.inl ⟨by rfl, fun w hSw => by have f0 := blkCell (HQ.out w hSw).2.1 0 _ rfl; go_simp⟩) hH ?_
                    try simp only [Act.put, List.setIfInBounds_toArray, List.set_cons_zero, List.set_cons_succ, List.getElem_toArray, List.getElem_cons_succ, List.getElem_cons_zero]
                    refine wpAnyH_take (i := 2) (v := .string ar) rfl (by kernel_rfl) (by kernel_rfl) (by kernel_rfl) (fun _ _ _ h => h) (Or.inl ⟨by rfl, fun w hSw => by go_simp⟩) hH ?_
                    try simp only [Act.put, List.setIfInBounds_toArray, List.set_cons_zero, List.set_cons_succ, List.getElem_toArray, List.getElem_cons_succ, List.getElem_cons_zero]
                    refine wpAnyH_take (i := 3) (v := .bool true) rfl (by kernel_rfl) (by kernel_rfl) (by kernel_rfl) (fun _ _ _ h => h) (Or.inl ⟨by rfl, fun w hSw => by have f0 := ea; go_simp⟩) hH ?_
                    try simp only [Act.put, List.setIfInBounds_toArray, List.set_cons_zero, List.set_cons_succ, List.getElem_toArray, List.getElem_cons_succ, List.getElem_cons_zero]
                    refine wpAnyH_take (i := 4) (v := .bool true) rfl (by kernel_rfl) (by kernel_rfl) (by kernel_rfl) (fun _ _ _ h => h) (Or.inl ⟨by rfl, fun w hSw => by go_simp⟩) hH ?_
                    try simp only [Act.put, List.setIfInBounds_toArray, List.set_cons_zero, List.set_cons_succ, List.getElem_toArray, List.getElem_cons_succ, List.getElem_cons_zero]
                    refine wpAnyH_take (i := 5) (v := .pointer (some ⟨lb, 4, none⟩)) rfl (by kernel_rfl) (by kernel_rfl) (by kernel_rfl) (fun _ _ _ h => h) (Or.inl ⟨by rfl, fun w hSw => by go_simp⟩) hH ?_
                    try simp only [Act.put, List.setIfInBounds_toArray, List.set_cons_zero, List.set_cons_succ, List.getElem_toArray, List.getElem_cons_succ, List.getElem_cons_zero]
                    refine wpAnyH_take (i := 6) (v := .bool false) rfl (by kernel_rfl) (by kernel_rfl) (by kernel_rfl) (fun _ _ _ h => h) (Or.inl ⟨by rfl, fun w hSw => by have f0 := blkCell (HQ.out w hSw).2.1 4 _ rfl; go_simp⟩) hH ?_
                    try simp only [Act.put, List.setIfInBounds_toArray, List.set_cons_zero, List.set_cons_succ, List.getElem_toArray, List.getElem_cons_succ, List.getElem_cons_zero]
                    refine wpAnyH_take (i := 7) (v := .bool true) rfl (by kernel_rfl) (by kernel_rfl) (by kernel_rfl) (fun _ _ _ h => h) (Or.inl ⟨by rfl, fun w hSw => by go_simp⟩) hH ?_
                    try simp only [Act.put, List.setIfInBounds_toArray, List.set_cons_zero, List.set_cons_succ, List.getElem_toArray, List.getElem_cons_succ, List.getElem_cons_zero]
                    refine wpAnyH_take (i := 8) (v := .bool true) rfl (by kernel_rfl) (by kernel_rfl) (by kernel_rfl) (fun _ _ _ h => h) (Or.inl ⟨by rfl, fun w hSw => by go_simp⟩) hH ?_
                    try simp only [Act.put, List.setIfInBounds_toArray, List.set_cons_zero, List.set_cons_succ, List.getElem_toArray, List.getElem_cons_succ, List.getElem_cons_zero]
                    refine wpAnyH_take (i := 9) (v := .bool true) rfl (by kernel_rfl) (by kernel_rfl) (by kernel_rfl) (fun _ _ _ h => h) (Or.inl ⟨by rfl, fun w hSw => by go_simp⟩) hH ?_
                    try simp only [Act.put, List.setIfInBounds_toArray, List.set_cons_zero, List.set_cons_succ, List.getElem_toArray, List.getElem_cons_succ, List.getElem_cons_zero]
                    refine wpAnyH_take (i := 10) (v := .pointer (some ⟨lb, 3, none⟩)) rfl (by kernel_rfl) (by kernel_rfl) (by kernel_rfl) (fun _ _ _ h => h) (Or.inl ⟨by rfl, fun w hSw => by go_simp⟩) hH ?_
                    try simp only [Act.put, List.setIfInBounds_toArray, List.set_cons_zero, List.set_cons_succ, List.getElem_toArray, List.getElem_cons_succ, List.getElem_cons_zero]
                    refine wpAnyH_take (i := 11) (v := .int .i64 a3) rfl (by kernel_rfl) (by kernel_rfl) (by kernel_rfl) (fun _ _ _ h => h) (Or.inl ⟨by rfl, fun w hSw => by have f0 := blkCell (HQ.out w hSw).2.1 3 _ rfl; go_simp⟩) hH ?_
                    try simp only [Act.put, List.setIfInBounds_toArray, List.set_cons_zero, List.set_cons_succ, List.getElem_toArray, List.getElem_cons_succ, List.getElem_cons_zero]
                    refine wpAnyH_take (i := 12) (v := .pointer (some ⟨w.heap.size, 0, none⟩)) rfl (by kernel_rfl) (by kernel_rfl) (by kernel_rfl) (fun _ _ _ h => h) (Or.inl ⟨by rfl, fun w hSw => by go_simp⟩) hH ?_
                    try simp only [Act.put, List.setIfInBounds_toArray, List.set_cons_zero, List.set_cons_succ, List.getElem_toArray, List.getElem_cons_succ, List.getElem_cons_zero]
                    refine wpAnyH_take (i := 13) (v := .int .i64 σ.day) rfl (by kernel_rfl) (by kernel_rfl) (by kernel_rfl) (fun _ _ _ h => h) (Or.inl ⟨by rfl, fun w hSw => by have f0 := blkCell (HQ.out w hSw).2.2.1 0 _ rfl; go_simp⟩) hH ?_
                    try simp only [Act.put, List.setIfInBounds_toArray, List.set_cons_zero, List.set_cons_succ, List.getElem_toArray, List.getElem_cons_succ, List.getElem_cons_zero]
                    refine wpAnyH_take (i := 14) (v := .bool true) rfl (by kernel_rfl) (by kernel_rfl) (by kernel_rfl) (fun _ _ _ h => h) (Or.inl ⟨by rfl, fun w hSw => by have f0 := ed; go_simp⟩) hH ?_
                    try simp only [Act.put, List.setIfInBounds_toArray, List.set_cons_zero, List.set_cons_succ, List.getElem_toArray, List.getElem_cons_succ, List.getElem_cons_zero]
                    refine wpAnyH_take (i := 15) (v := .bool true) rfl (by kernel_rfl) (by kernel_rfl) (by kernel_rfl) (fun _ _ _ h => h) (Or.inl ⟨by rfl, fun w hSw => by go_simp⟩) hH ?_
                    try simp only [Act.put, List.setIfInBounds_toArray, List.set_cons_zero, List.set_cons_succ, List.getElem_toArray, List.getElem_cons_succ, List.getElem_cons_zero]
                    refine wpAnyH_take (i := 16) (v := .bool true) rfl (by kernel_rfl) (by kernel_rfl) (by kernel_rfl) (fun _ _ _ h => h) (Or.inl ⟨by rfl, fun w hSw => by go_simp⟩) hH ?_
                    try simp only [Act.put, List.setIfInBounds_toArray, List.set_cons_zero, List.set_cons_succ, List.getElem_toArray, List.getElem_cons_succ, List.getElem_cons_zero]
                    refine wpAnyH_take (i := 17) (v := .int .i64 (b' : Int)) rfl (by kernel_rfl) (by kernel_rfl) (by kernel_rfl) (fun _ _ _ h => h) (Or.inl ⟨by rfl, fun w hSw => by go_simp⟩) hH ?_
                    try simp only [Act.put, List.setIfInBounds_toArray, List.set_cons_zero, List.set_cons_succ, List.getElem_toArray, List.getElem_cons_succ, List.getElem_cons_zero]
                    refine wpAnyH_take (i := 18) (v := .bool false) rfl (by kernel_rfl) (by kernel_rfl) (by kernel_rfl) (fun _ _ _ h => h) (Or.inl ⟨by rfl, fun w hSw => by go_simp⟩) hH ?_
                    try simp only [Act.put, List.setIfInBounds_toArray, List.set_cons_zero, List.set_cons_succ, List.getElem_toArray, List.getElem_cons_succ, List.getElem_cons_zero]
                    refine wpAnyH_take (i := 19) (v := .bool false) rfl (by kernel_rfl) (by kernel_rfl) (by kernel_rfl) (fun _ _ _ h => h) (Or.inl ⟨by rfl, fun w hSw => by go_simp⟩) hH ?_
                    try simp only [Act.put, List.setIfInBounds_toArray, List.set_cons_zero, List.set_cons_succ, List.getElem_toArray, List.getElem_cons_succ, List.getElem_cons_zero]
                    refine wpAnyH_take (i := 20) (v := .pointer (some ⟨lb, 3, none⟩)) rfl (by kernel_rfl) (by kernel_rfl) (by kernel_rfl) (fun _ _ _ h => h) (Or.inl ⟨by rfl, fun w hSw => by go_simp⟩) hH ?_
                    try simp only [Act.put, List.setIfInBounds_toArray, List.set_cons_zero, List.set_cons_succ, List.getElem_toArray, List.getElem_cons_succ, List.getElem_cons_zero]
                    refine wpAnyH_take (i := 21) (v := .int .i64 a3) rfl (by kernel_rfl) (by kernel_rfl) (by kernel_rfl) (fun _ _ _ h => h) (Or.inl ⟨by rfl, fun w hSw => by have f0 := blkCell (HQ.out w hSw).2.1 3 _ rfl; go_simp⟩) hH ?_
                    try simp only [Act.put, List.setIfInBounds_toArray, List.set_cons_zero, List.set_cons_succ, List.getElem_toArray, List.getElem_cons_succ, List.getElem_cons_zero]
                    refine wpAnyH_take (i := 22) (v := .pointer (some ⟨w.heap.size, 5, none⟩)) rfl (by kernel_rfl) (by kernel_rfl) (by kernel_rfl) (fun _ _ _ h => h) (Or.inl ⟨by rfl, fun w hSw => by go_simp⟩) hH ?_
                    try simp only [Act.put, List.setIfInBounds_toArray, List.set_cons_zero, List.set_cons_succ, List.getElem_toArray, List.getElem_cons_succ, List.getElem_cons_zero]
                    refine wpAnyH_take (i := 23) (v := .slice (some ⟨g, 0, none⟩) Lk.length vc) rfl (by kernel_rfl) (by kernel_rfl) (by kernel_rfl) (fun _ _ _ h => h) (Or.inl ⟨by rfl, fun w hSw => by have f0 := blkCell (HQ.out w hSw).2.2.1 5 _ rfl; go_simp⟩) hH ?_
                    try simp only [Act.put, List.setIfInBounds_toArray, List.set_cons_zero, List.set_cons_succ, List.getElem_toArray, List.getElem_cons_succ, List.getElem_cons_zero]
                    refine wpAnyH_take (i := 24) (v := .int .i64 (b' : Int)) rfl (by kernel_rfl) (by kernel_rfl) (by kernel_rfl) (fun _ _ _ h => h) (Or.inl ⟨by rfl, fun w hSw => by go_simp⟩) hH ?_
                    try simp only [Act.put, List.setIfInBounds_toArray, List.set_cons_zero, List.set_cons_succ, List.getElem_toArray, List.getElem_cons_succ, List.getElem_cons_zero]
                    refine wpAnyH_take (i := 25) (v := .pointer (some ⟨g, b' * 5, none⟩)) rfl (by kernel_rfl) (by kernel_rfl) (by kernel_rfl) (fun _ _ _ h => h) (Or.inl ⟨by rfl, fun w hSw => by go_simp⟩) hH ?_
                    try simp only [Act.put, List.setIfInBounds_toArray, List.set_cons_zero, List.set_cons_succ, List.getElem_toArray, List.getElem_cons_succ, List.getElem_cons_zero]
                    refine wpAnyH_take (i := 26) (v := .pointer (some ⟨g, b' * 5 + 3, none⟩)) rfl (by kernel_rfl) (by kernel_rfl) (by kernel_rfl) (fun _ _ _ h => h) (Or.inl ⟨by rfl, fun w hSw => by go_simp⟩) hH ?_
                    try simp only [Act.put, List.setIfInBounds_toArray, List.set_cons_zero, List.set_cons_succ, List.getElem_toArray, List.getElem_cons_succ, List.getElem_cons_zero]
                    refine wpAnyH_take (i := 27) (v := .int .i64 ub) rfl (by kernel_rfl) (by kernel_rfl) (by kernel_rfl) (fun _ _ _ h => h) (Or.inl ⟨by rfl, fun w hSw => by have f0 := HUb.out w hSw; go_simp⟩) hH ?_
                    try simp only [Act.put, List.setIfInBounds_toArray, List.set_cons_zero, List.set_cons_succ, List.getElem_toArray, List.getElem_cons_succ, List.getElem_cons_zero]
                    refine wpAnyH_take (i := 28) (v := .bool false) rfl (by kernel_rfl) (by kernel_rfl) (by kernel_rfl) (fun _ _ _ h => h) (Or.inl ⟨by rfl, fun w hSw => by go_simp⟩) hH ?_
                    try simp only [Act.put, List.setIfInBounds_toArray, List.set_cons_zero, List.set_cons_succ, List.getElem_toArray, List.getElem_cons_succ, List.getElem_cons_zero]
                    refine wpAnyH_take (i := 29) (v := .bool false) rfl (by kernel_rfl) (by kernel_rfl) (by kernel_rfl) (fun _ _ _ h => h) (Or.inl ⟨by rfl, fun w hSw => by go_simp⟩) hH ?_
                    try simp only [Act.put, List.setIfInBounds_toArray, List.set_cons_zero, List.set_cons_succ, List.getElem_toArray, List.getElem_cons_succ, List.getElem_cons_zero]
                    refine wpAnyH_take (i := 30) (v := .bool false) rfl (by kernel_rfl) (by kernel_rfl) (by kernel_rfl) (fun _ _ _ h => h) (Or.inl ⟨by rfl, fun w hSw => by go_simp⟩) hH ?_
                    try simp only [Act.put, List.setIfInBounds_toArray, List.set_cons_zero, List.set_cons_succ, List.getElem_toArray, List.getElem_cons_succ, List.getElem_cons_zero]
                    refine wpAnyH_done (by kernel_rfl) ?_ _
                    have HF : Hid (Below wo.heap.size wo Wb.drew) := (HQ.out _ hH).1
                    clear hH HQ H2 HW HUb
                    generalize Wb.drew = W3 at *
                    go_wp2
                    exact ⟨⟨j + 1, by omega, by go_num, by rw [HB2.out]; rfl, HF.out⟩, by simp [intOf]; omega⟩
              · have ed : decide (σ.day ≤ a3) = false := decide_eq_false hdy
                have HB2 : Hid (bs Lk (pS ar σ.day) (j + 1) = bs Lk (pS ar σ.day) j) := by
                  show _ = _
                  have hp : pS ar σ.day ⟨a0, a1, a2, a3, false⟩ = false := by unfold pS; simp [ea, hdy]
                  rw [HBn.out, hp]
                  cases bs Lk (pS ar σ.day) j <;> simp
                clear HBn
                refine wp_region_held_drew (S := fun W => Below Wb.heap.size Wb W) (by kernel_rfl) (below_drew _) (fun hH => ?_)
                refine wpAnyH_take (i := 0) (v := .pointer (some ⟨lb, 0, none⟩)) rfl (by kernel_rfl) (by kernel_rfl) (by kernel_rfl) (fun _ _ _ h => h) (Or.inl ⟨by rfl, fun w hSw => by go_simp⟩) hH ?_
                refine wpAnyH_take (i := 1) (v := .string a0) rfl (by kernel_rfl) (by kernel_rfl) (by kernel_rfl) (fun _ _ _ h => h) (Or.inl ⟨by rfl, fun w hSw => by have f0 := blkCell (HQ.out w hSw).2.1 0 _ rfl; go_simp⟩) hH ?_
                try simp only [Act.put, List.setIfInBounds_toArray, List.set_cons_zero, List.set_cons_succ, List.getElem_toArray, List.getElem_cons_succ, List.getElem_cons_zero]
                refine wpAnyH_take (i := 2) (v := .string ar) rfl (by kernel_rfl) (by kernel_rfl) (by kernel_rfl) (fun _ _ _ h => h) (Or.inl ⟨by rfl, fun w hSw => by go_simp⟩) hH ?_
                try simp only [Act.put, List.setIfInBounds_toArray, List.set_cons_zero, List.set_cons_succ, List.getElem_toArray, List.getElem_cons_succ, List.getElem_cons_zero]
                refine wpAnyH_take (i := 3) (v := .bool true) rfl (by kernel_rfl) (by kernel_rfl) (by kernel_rfl) (fun _ _ _ h => h) (Or.inl ⟨by rfl, fun w hSw => by have f0 := ea; go_simp⟩) hH ?_
                try simp only [Act.put, List.setIfInBounds_toArray, List.set_cons_zero, List.set_cons_succ, List.getElem_toArray, List.getElem_cons_succ, List.getElem_cons_zero]
                refine wpAnyH_take (i := 4) (v := .bool true) rfl (by kernel_rfl) (by kernel_rfl) (by kernel_rfl) (fun _ _ _ h => h) (Or.inl ⟨by rfl, fun w hSw => by go_simp⟩) hH ?_
                try simp only [Act.put, List.setIfInBounds_toArray, List.set_cons_zero, List.set_cons_succ, List.getElem_toArray, List.getElem_cons_succ, List.getElem_cons_zero]
                refine wpAnyH_take (i := 5) (v := .pointer (some ⟨lb, 4, none⟩)) rfl (by kernel_rfl) (by kernel_rfl) (by kernel_rfl) (fun _ _ _ h => h) (Or.inl ⟨by rfl, fun w hSw => by go_simp⟩) hH ?_
                try simp only [Act.put, List.setIfInBounds_toArray, List.set_cons_zero, List.set_cons_succ, List.getElem_toArray, List.getElem_cons_succ, List.getElem_cons_zero]
                refine wpAnyH_take (i := 6) (v := .bool false) rfl (by kernel_rfl) (by kernel_rfl) (by kernel_rfl) (fun _ _ _ h => h) (Or.inl ⟨by rfl, fun w hSw => by have f0 := blkCell (HQ.out w hSw).2.1 4 _ rfl; go_simp⟩) hH ?_
                try simp only [Act.put, List.setIfInBounds_toArray, List.set_cons_zero, List.set_cons_succ, List.getElem_toArray, List.getElem_cons_succ, List.getElem_cons_zero]
                refine wpAnyH_take (i := 7) (v := .bool true) rfl (by kernel_rfl) (by kernel_rfl) (by kernel_rfl) (fun _ _ _ h => h) (Or.inl ⟨by rfl, fun w hSw => by go_simp⟩) hH ?_
                try simp only [Act.put, List.setIfInBounds_toArray, List.set_cons_zero, List.set_cons_succ, List.getElem_toArray, List.getElem_cons_succ, List.getElem_cons_zero]
                refine wpAnyH_take (i := 8) (v := .bool true) rfl (by kernel_rfl) (by kernel_rfl) (by kernel_rfl) (fun _ _ _ h => h) (Or.inl ⟨by rfl, fun w hSw => by go_simp⟩) hH ?_
                try simp only [Act.put, List.setIfInBounds_toArray, List.set_cons_zero, List.set_cons_succ, List.getElem_toArray, List.getElem_cons_succ, List.getElem_cons_zero]
                refine wpAnyH_take (i := 9) (v := .bool true) rfl (by kernel_rfl) (by kernel_rfl) (by kernel_rfl) (fun _ _ _ h => h) (Or.inl ⟨by rfl, fun w hSw => by go_simp⟩) hH ?_
                try simp only [Act.put, List.setIfInBounds_toArray, List.set_cons_zero, List.set_cons_succ, List.getElem_toArray, List.getElem_cons_succ, List.getElem_cons_zero]
                refine wpAnyH_take (i := 10) (v := .pointer (some ⟨lb, 3, none⟩)) rfl (by kernel_rfl) (by kernel_rfl) (by kernel_rfl) (fun _ _ _ h => h) (Or.inl ⟨by rfl, fun w hSw => by go_simp⟩) hH ?_
                try simp only [Act.put, List.setIfInBounds_toArray, List.set_cons_zero, List.set_cons_succ, List.getElem_toArray, List.getElem_cons_succ, List.getElem_cons_zero]
                refine wpAnyH_take (i := 11) (v := .int .i64 a3) rfl (by kernel_rfl) (by kernel_rfl) (by kernel_rfl) (fun _ _ _ h => h) (Or.inl ⟨by rfl, fun w hSw => by have f0 := blkCell (HQ.out w hSw).2.1 3 _ rfl; go_simp⟩) hH ?_
                try simp only [Act.put, List.setIfInBounds_toArray, List.set_cons_zero, List.set_cons_succ, List.getElem_toArray, List.getElem_cons_succ, List.getElem_cons_zero]
                refine wpAnyH_take (i := 12) (v := .pointer (some ⟨w.heap.size, 0, none⟩)) rfl (by kernel_rfl) (by kernel_rfl) (by kernel_rfl) (fun _ _ _ h => h) (Or.inl ⟨by rfl, fun w hSw => by go_simp⟩) hH ?_
                try simp only [Act.put, List.setIfInBounds_toArray, List.set_cons_zero, List.set_cons_succ, List.getElem_toArray, List.getElem_cons_succ, List.getElem_cons_zero]
                refine wpAnyH_take (i := 13) (v := .int .i64 σ.day) rfl (by kernel_rfl) (by kernel_rfl) (by kernel_rfl) (fun _ _ _ h => h) (Or.inl ⟨by rfl, fun w hSw => by have f0 := blkCell (HQ.out w hSw).2.2.1 0 _ rfl; go_simp⟩) hH ?_
                try simp only [Act.put, List.setIfInBounds_toArray, List.set_cons_zero, List.set_cons_succ, List.getElem_toArray, List.getElem_cons_succ, List.getElem_cons_zero]
                refine wpAnyH_take (i := 14) (v := .bool false) rfl (by kernel_rfl) (by kernel_rfl) (by kernel_rfl) (fun _ _ _ h => h) (Or.inl ⟨by rfl, fun w hSw => by have f0 := ed; go_simp⟩) hH ?_
                try simp only [Act.put, List.setIfInBounds_toArray, List.set_cons_zero, List.set_cons_succ, List.getElem_toArray, List.getElem_cons_succ, List.getElem_cons_zero]
                refine wpAnyH_take (i := 15) (v := .bool false) rfl (by kernel_rfl) (by kernel_rfl) (by kernel_rfl) (fun _ _ _ h => h) (Or.inl ⟨by rfl, fun w hSw => by go_simp⟩) hH ?_
                try simp only [Act.put, List.setIfInBounds_toArray, List.set_cons_zero, List.set_cons_succ, List.getElem_toArray, List.getElem_cons_succ, List.getElem_cons_zero]
                refine wpAnyH_take (i := 16) (v := .bool false) rfl (by kernel_rfl) (by kernel_rfl) (by kernel_rfl) (fun _ _ _ h => h) (Or.inl ⟨by rfl, fun w hSw => by go_simp⟩) hH ?_
                try simp only [Act.put, List.setIfInBounds_toArray, List.set_cons_zero, List.set_cons_succ, List.getElem_toArray, List.getElem_cons_succ, List.getElem_cons_zero]
                refine wpAnyH_take (i := 17) (v := undef) rfl (by kernel_rfl) (by kernel_rfl) (by kernel_rfl) (fun _ _ _ h => h) (Or.inr ⟨by rfl, rfl⟩) hH ?_
                try simp only [Act.put, List.setIfInBounds_toArray, List.set_cons_zero, List.set_cons_succ, List.getElem_toArray, List.getElem_cons_succ, List.getElem_cons_zero]
                refine wpAnyH_take (i := 18) (v := undef) rfl (by kernel_rfl) (by kernel_rfl) (by kernel_rfl) (fun _ _ _ h => h) (Or.inr ⟨by rfl, rfl⟩) hH ?_
                try simp only [Act.put, List.setIfInBounds_toArray, List.set_cons_zero, List.set_cons_succ, List.getElem_toArray, List.getElem_cons_succ, List.getElem_cons_zero]
                refine wpAnyH_take (i := 19) (v := undef) rfl (by kernel_rfl) (by kernel_rfl) (by kernel_rfl) (fun _ _ _ h => h) (Or.inr ⟨by rfl, rfl⟩) hH ?_
                try simp only [Act.put, List.setIfInBounds_toArray, List.set_cons_zero, List.set_cons_succ, List.getElem_toArray, List.getElem_cons_succ, List.getElem_cons_zero]
                refine wpAnyH_take (i := 20) (v := undef) rfl (by kernel_rfl) (by kernel_rfl) (by kernel_rfl) (fun _ _ _ h => h) (Or.inr ⟨by rfl, rfl⟩) hH ?_
                try simp only [Act.put, List.setIfInBounds_toArray, List.set_cons_zero, List.set_cons_succ, List.getElem_toArray, List.getElem_cons_succ, List.getElem_cons_zero]
                refine wpAnyH_take (i := 21) (v := undef) rfl (by kernel_rfl) (by kernel_rfl) (by kernel_rfl) (fun _ _ _ h => h) (Or.inr ⟨by rfl, rfl⟩) hH ?_
                try simp only [Act.put, List.setIfInBounds_toArray, List.set_cons_zero, List.set_cons_succ, List.getElem_toArray, List.getElem_cons_succ, List.getElem_cons_zero]
                refine wpAnyH_take (i := 22) (v := undef) rfl (by kernel_rfl) (by kernel_rfl) (by kernel_rfl) (fun _ _ _ h => h) (Or.inr ⟨by rfl, rfl⟩) hH ?_
                try simp only [Act.put, List.setIfInBounds_toArray, List.set_cons_zero, List.set_cons_succ, List.getElem_toArray, List.getElem_cons_succ, List.getElem_cons_zero]
                refine wpAnyH_take (i := 23) (v := undef) rfl (by kernel_rfl) (by kernel_rfl) (by kernel_rfl) (fun _ _ _ h => h) (Or.inr ⟨by rfl, rfl⟩) hH ?_
                try simp only [Act.put, List.setIfInBounds_toArray, List.set_cons_zero, List.set_cons_succ, List.getElem_toArray, List.getElem_cons_succ, List.getElem_cons_zero]
                refine wpAnyH_take (i := 24) (v := undef) rfl (by kernel_rfl) (by kernel_rfl) (by kernel_rfl) (fun _ _ _ h => h) (Or.inr ⟨by rfl, rfl⟩) hH ?_
                try simp only [Act.put, List.setIfInBounds_toArray, List.set_cons_zero, List.set_cons_succ, List.getElem_toArray, List.getElem_cons_succ, List.getElem_cons_zero]
                refine wpAnyH_take (i := 25) (v := undef) rfl (by kernel_rfl) (by kernel_rfl) (by kernel_rfl) (fun _ _ _ h => h) (Or.inr ⟨by rfl, rfl⟩) hH ?_
                try simp only [Act.put, List.setIfInBounds_toArray, List.set_cons_zero, List.set_cons_succ, List.getElem_toArray, List.getElem_cons_succ, List.getElem_cons_zero]
                refine wpAnyH_take (i := 26) (v := undef) rfl (by kernel_rfl) (by kernel_rfl) (by kernel_rfl) (fun _ _ _ h => h) (Or.inr ⟨by rfl, rfl⟩) hH ?_
                try simp only [Act.put, List.setIfInBounds_toArray, List.set_cons_zero, List.set_cons_succ, List.getElem_toArray, List.getElem_cons_succ, List.getElem_cons_zero]
                refine wpAnyH_take (i := 27) (v := undef) rfl (by kernel_rfl) (by kernel_rfl) (by kernel_rfl) (fun _ _ _ h => h) (Or.inr ⟨by rfl, rfl⟩) hH ?_
                try simp only [Act.put, List.setIfInBounds_toArray, List.set_cons_zero, List.set_cons_succ, List.getElem_toArray, List.getElem_cons_succ, List.getElem_cons_zero]
                refine wpAnyH_take (i := 28) (v := undef) rfl (by kernel_rfl) (by kernel_rfl) (by kernel_rfl) (fun _ _ _ h => h) (Or.inr ⟨by rfl, rfl⟩) hH ?_
                try simp only [Act.put, List.setIfInBounds_toArray, List.set_cons_zero, List.set_cons_succ, List.getElem_toArray, List.getElem_cons_succ, List.getElem_cons_zero]
                refine wpAnyH_take (i := 29) (v := undef) rfl (by kernel_rfl) (by kernel_rfl) (by kernel_rfl) (fun _ _ _ h => h) (Or.inr ⟨by rfl, rfl⟩) hH ?_
                try simp only [Act.put, List.setIfInBounds_toArray, List.set_cons_zero, List.set_cons_succ, List.getElem_toArray, List.getElem_cons_succ, List.getElem_cons_zero]
                refine wpAnyH_take (i := 30) (v := .bool false) rfl (by kernel_rfl) (by kernel_rfl) (by kernel_rfl) (fun _ _ _ h => h) (Or.inl ⟨by rfl, fun w hSw => by go_simp⟩) hH ?_
                try simp only [Act.put, List.setIfInBounds_toArray, List.set_cons_zero, List.set_cons_succ, List.getElem_toArray, List.getElem_cons_succ, List.getElem_cons_zero]
                refine wpAnyH_done (by kernel_rfl) ?_ _
                have HF : Hid (Below wo.heap.size wo Wb.drew) := (HQ.out _ hH).1
                clear hH HQ H2 HW
                generalize Wb.drew = W3 at *
                go_wp2
                exact ⟨⟨j + 1, by omega, by go_num, by rw [HB2.out], HF.out⟩, by simp [intOf]; omega⟩
        · obtain rfl : j = Lk.length := by omega
          rw [HB.out]
          have hfv : fdV (some b) = (b : Int) := rfl
          rw [hfv]
          clear hfv
          have hrw := HW.out.1.st.row
          dsimp only at hrw
          obtain ⟨q0, q1, q2, q3, q4⟩ := row_sl hrw hbl
          have hfz := (rowCellG hrw (b * 5 + 2) (by omega)).2
          have f := pt_facts (pS_nu ar σ.day) i4 i5 (by omega : 1 ≤ ms) hbl hpb
          have f1 := f.one
          have f2 := f.le
          have f3 := f.nu
          have HNx2 : Hid (slT (pS ar σ.day) m σ.L (k + 1) = (ms - ptN ms Lk b, ptL ms Lk b, nk + 1)) := HNx.out b hms HB.out
          have hpn : ptN ms Lk b = min ms (gl Lk b).nu := rfl
          have HLv : Hid (ptL ms Lk b = lv Lk b ((gl Lk b).nu - ptN ms Lk b)) := rfl
          have HPut : Hid (∀ n ms' nk', SlW B av w σ (ms', Lk.set b { gl Lk b with nu := n }, nk') (σ.sd + m) (some ⟨g, 0, none⟩) vc (wr.setCell ⟨g, b * 5 + 2, none⟩ (.int .i64 n))) := fun n ms' nk' => HW.out.1.put hbl n ms' nk'
          have hnu2 := (getN i4 hbl).nu'
          have hbi : (b : Int) < (Lk.length : Int) := by omega
          have hwg : w.heap.size ≠ g := fun e => by
            obtain ⟨cur, hc⟩ := row_type hrw (q := g) rfl
            have hbx := HW.out.1.box
            rw [e, hc] at hbx
            simp at hbx
          clear hrw q0 q1 q3 q4 f HNx HEk i3 i4 i5 i6 i7 hms hpb
          obtain ⟨nu, hnu⟩ : ∃ nu, nu = (gl Lk b).nu := ⟨_, rfl⟩
          rw [← hnu] at q2 f3 hpn HLv hnu2
          obtain ⟨pp, hpp⟩ : ∃ pp, pp = ptN ms Lk b := ⟨_, rfl⟩
          rw [← hpp] at f1 f2 f3 HNx2 hpn HLv
          have hmin : (if nu < ms then nu else ms) = pp := by rw [hpn, Int.min_def]; split <;> split <;> omega
          have hmn2 : min ms nu = pp := hpn.symm
          clear hpn hpp hnu
          have hwd : IntKind.i64.wrap (nu - pp) = nu - pp := wrap_id _ (by omega) (by omega)
          obtain ⟨Wc, hWc⟩ : ∃ Wc, Wc = wr.setCell ⟨g, b * 5 + 2, none⟩ (.int .i64 (nu - pp)) := ⟨_, rfl⟩
          have s5c : Wc.cell? ⟨w.heap.size, 5, none⟩ = some (.slice (some ⟨g, 0, none⟩) Lk.length vc) := by rw [hWc, World.cell?_setCell_far _ _ _ _ (by show g ≠ w.heap.size; exact fun e => hwg e.symm)]; exact s5x
          have qc : Wc.cell? ⟨g, b * 5 + 2, none⟩ = some (.int .i64 (nu - pp)) := by rw [hWc]; exact World.cell?_setCell_same _ _ _ q2
          rw [hWc] at s5c qc
          by_cases hz : nu - pp = 0
          · have HPu : Hid (SlW B av w σ (ms, Lk.set b { gl Lk b with nu := nu - pp }, nk) (σ.sd + m) (some ⟨g, 0, none⟩) vc Wc) := by have := HPut.out (nu - pp) ms nk; rw [← hWc] at this; exact this
            have HEq : Hid (ptL ms Lk b = Lk.take b ++ Lk.drop (b + 1) ∧ (Lk.set b { gl Lk b with nu := nu - pp }).take b ++ (Lk.set b { gl Lk b with nu := nu - pp }).drop (b + 1) = Lk.take b ++ Lk.drop (b + 1)) := by
              refine ⟨?_, ?_⟩
              · rw [HLv.out]; unfold lv; rw [if_neg (by omega)]
              · rw [List.take_set, List.set_eq_of_length_le (by simp; omega), List.drop_set, if_pos (by omega)]
            have HDr : Hid (Calls Try.prog 61 #[.slice (some ⟨g, 0, none⟩) Lk.length vc, .int .i64 (b : Int)] Wc fun e w' => ∃ va vc', e = .returned (.slice va (Lk.length - 1) vc') ∧ w'.ownsRow Wc.heap.size 38 5 (.slice va (Lk.length - 1) vc') (Lk.length - 1) (slCells (Lk.take b ++ Lk.drop (b + 1))) ∧ Below Wc.heap.size Wc w') := by
              have hrw := HPu.out.st.row
              dsimp only at hrw
              have := sDrop_any (B := B) (g := g) (c := vc) (Lk.set b { gl Lk b with nu := nu - pp }) (by rw [List.length_set]; omega) (k := b) (by rw [List.length_set]; exact hbl) Wc hrw
              rw [List.length_set, HEq.out.2] at this
              exact this
            clear HPut HLv HW
            have hzb : ((nu - pp) == 0) = true := by rw [beq_iff_eq]; exact hz
            have HZ : Hid (nu - pp = 0) := hz
            clear hz
            go_wp2_with fail
            (first | go_at_call 61 | skip)
            rw [← hWc]
            clear hWc s5c qc s5x q2 hfz
            refine HDr.out.mono ?_
            rintro e w5 ⟨va', vc', rfl, hrow5, hb5⟩
            have HE := HPu.out.drop (L2 := Lk.take b ++ Lk.drop (b + 1)) (by dsimp only; rw [List.length_set]; exact cut_len hbl) (by dsimp only; rw [List.length_set]; exact hrow5) hb5 hB (ms - pp) (nk + 1)
            dsimp only at HE
            rw [List.length_set] at HE
            have y5 := HE.2.1
            have y6 := HE.2.2
            have HE2 : Hid (SlW B av w σ (ms - pp, Lk.take b ++ Lk.drop (b + 1), nk + 1) (σ.sd + m) va' vc' (w5.setCell ⟨w.heap.size, 5, none⟩ (.slice va' (Lk.length - 1) vc'))) := HE.1
            clear HE hrow5 hb5 HDr HPu
            go_wp2
            rw [HEq.out.1] at HNx2
            refine ⟨⟨k + 1, va', vc', by rw [HNx2.out], by rw [HNx2.out]; go_num, ?_⟩, by simp [intOf]; omega⟩
            rw [HNx2.out]
            exact HE2.out
          · have HEq : Hid (ptL ms Lk b = Lk.set b { gl Lk b with nu := nu - pp }) := by
              show _ = _
              rw [HLv.out]; unfold lv; rw [if_pos (by omega)]
            have HE2 : Hid (SlW B av w σ (ms - pp, Lk.set b { gl Lk b with nu := nu - pp }, nk + 1) (σ.sd + m) (some ⟨g, 0, none⟩) vc Wc) := by have := HPut.out (nu - pp) (ms - pp) (nk + 1); rw [← hWc] at this; exact this
            clear HPut HLv HW
            have hzb : ((nu - pp) == 0) = false := by rw [beq_eq_false_iff_ne]; exact hz
            clear hz
            go_wp2
            rw [← hWc]
            rw [HEq.out] at HNx2
            refine ⟨⟨k + 1, some ⟨g, 0, none⟩, vc, by rw [HNx2.out], by rw [HNx2.out]; go_num, ?_⟩, by simp [intOf]; omega⟩
            rw [HNx2.out]
            exact HE2.out
end Go.Proofs.Ytdhdecbdcfdmeaa

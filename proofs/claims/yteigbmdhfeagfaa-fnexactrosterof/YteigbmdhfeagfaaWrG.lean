/-
  Contract of the program's RosterOf, for all arguments.
-/
import Derived.Test.YteigbmdhfeagfaaWrF
namespace Go.Proofs.Yteigbmdhfeagfaa
open Go.ChangeShapes Go.WideShapes Go.ChangeAt Go.RowKit Go.Joins Go.Deep
set_option linter.unusedVariables false

/-- In the midst of RosterOf: the answer's block qb, the crew's cb, the numbers' pb, the rota's tb. -/
structure RkI (w : World) (qb cb pb tb : Nat) (CB PB : Array Value) (R : Nat → Int) (W : World) : Prop where
  low : Below w.heap.size w W
  res : W.heap[qb]? = some (.cells #[.slice none 0 0, .int .i64 0] 36 (0, 0))
  cr : W.heap[cb]? = some (.cells CB 75 (0, 0))
  sp : W.heap[pb]? = some (.cells PB 77 (0, 0))
  rt : RtAt R tb W
  lo : w.heap.size ≤ qb ∧ w.heap.size ≤ tb
section
variable {w : World} {qb cb pb tb : Nat} {CB PB : Array Value} {R R' : Nat → Int} {W W' : World}
theorem RkI.later (h : RkI w qb cb pb tb CB PB R W) (hb : Below W.heap.size W W') : RkI w qb cb pb tb CB PB R W' :=
  ⟨chain h.low hb, (hb.block qb (blkLt h.res)).trans h.res, (hb.block cb (blkLt h.cr)).trans h.cr, (hb.block pb (blkLt h.sp)).trans h.sp, h.rt.later hb, h.lo⟩
theorem RkI.row (h : RkI w qb cb pb tb CB PB R W) : RkI w qb cb pb tb CB PB R' (W.setRow tb (rtA R')) := by
  have hne : ∀ {k : Nat} {V : Array Value} {t : TypeId}, W.heap[k]? = some (.cells V t (0, 0)) → t ≠ 83 → (W.setRow tb (rtA R')).heap[k]? = some (.cells V t (0, 0)) := fun {k V t} hk ht => by
    refine (setRow_other _ _ _ _ (fun e => ?_)).trans hk
    have h2 := h.rt
    unfold RtAt at h2
    rw [e, h2] at hk
    simp at hk
    exact ht hk.2.symm
  exact ⟨below_setRow h.low h.lo.2 _, hne h.res (by decide), hne h.cr (by decide), hne h.sp (by decide), setRow_heap _ _ _ _ _ _ h.rt, h.lo⟩
end
set_option maxHeartbeats 16000000 in
set_option maxRecDepth 8000 in
theorem implRoster_ok (ad : Option Addr) (cap : Nat) (rs : List RSf) (aw : Option Addr) (cw : Nat) (ws : List CWk) (ao : Option Addr) (co : Nat) (L : List Int) (hp : ∀ r ∈ rs, SfOK r) (hpw : ∀ c ∈ ws, WkOK c) (h4 : L.length ≤ 4096) (hf : rfB rs ws = 0) (hln : L.length = rs.length) (w : World) (hr : ReadsSf w.heap.size w ad rs) (hw : ReadsWk w.heap.size w aw ws) (ho : Reads w.heap.size w ao L) :
    Calls Try.prog 15 #[.slice ad rs.length cap, .slice aw ws.length cw, .slice ao L.length co] w (AnsR (rwC rs ws L).1 (rwC rs ws L).2 (rwL rs ws L) (rwT rs ws L) w) := by
  obtain ⟨h8, h5, hso, hs, hws⟩ := rf_rosters hf
  have hcd : rwC rs ws L = rwG rs ws L L.length 0 := by unfold rwC; rw [if_neg (by omega), if_pos hf, if_pos hln]
  have HNo : Hid (∀ (c : Int) (p : Nat) (w' : World), rwG rs ws L L.length 0 = (c, p) → c ≠ 0 → Below w.heap.size w w' → AnsR (rwC rs ws L).1 (rwC rs ws L).2 (rwL rs ws L) (rwT rs ws L) w (.returned (.tuple #[.agg #[.slice none 0 0, .int .i64 0], .int .i64 c, .int .i64 (p : Int)])) w') := fun c p w' h1 h2 h3 => by
    unfold rwL rwT
    rw [hcd, h1]
    simp only
    rw [if_neg h2, if_neg h2]
    exact ansR_none h3
  have HYes : Hid (rwG rs ws L L.length 0 = (0, 0) → (rwC rs ws L).1 = 0 ∧ (rwC rs ws L).2 = 0 ∧ rwL rs ws L = L ∧ rwT rs ws L = rqC rs ws L L.length) := fun h => by
    unfold rwL rwT
    rw [hcd, h]
    exact ⟨rfl, rfl, if_pos rfl, if_pos rfl⟩
  have HFa : Hid (∀ W, Below w.heap.size w W → Calls Try.prog 43 #[.slice ad rs.length cap, .slice aw ws.length cw] W fun e w' => e = .returned (.int .i64 0) ∧ Below W.heap.size W w') := fun W hb => by
    have := rosFault_any ad cap rs aw cw ws (by omega) (by omega) hp hpw W ((hr.below hb).mono hb.size) (hw.later hb)
    rwa [hf] at this
  have HGv : Hid (∀ (R : Nat → Int) (k m : Nat) W, k < rs.length → m < ws.length → RtI rs ws L k R → L.getD k 0 = (m : Int) → Below w.heap.size w W → Calls Try.prog 45 #[.agg #[.slice ad rs.length cap, .slice aw ws.length cw], .agg (rtA R), .int .i64 (m : Int)] W (GvQ (coB rs ws L k) (if coB rs ws L k = 0 then rtN R k m (rs.getD k zSf) (ws.getD m zWk) else rtZ) W)) := fun R k m W hk hm hI hL hb => by
    have hb1 := rqS_bd hs L (m : Int) k
    have hb2 := rqC_bd hs hws L k
    exact given_any ad cap rs aw cw ws R k m hs hws hpw hk h8 hm h5 hI.fil (by rw [hI.mins m (by omega)]; omega) (by rw [hI.cost]; omega) _ (hI.code hs (by omega) hL) W ((hr.below hb).mono hb.size) (hw.later hb)
  have HNx : Hid (∀ (R : Nat → Int) (k m : Nat), k < rs.length → m < ws.length → RtI rs ws L k R → L.getD k 0 = (m : Int) → coB rs ws L k = 0 → RtI rs ws L (k + 1) (rtN R k m (rs.getD k zSf) (ws.getD m zWk))) := fun R k m hk hm hI hL hc => hI.next hs hws (by omega) (by omega) hL hc
  have HSp : Hid (∀ (d : Int) W, Calls Try.prog 44 #[.agg #[.int .i64 0, .int .i64 ((ws.length : Int) - 1)], .int .i64 d] W fun e w' => e = .returned (.bool (inB d 0 ((ws.length : Int) - 1))) ∧ Below W.heap.size W w') := fun d W => qSpan_any 0 _ d W
  have HRo : Hid (∀ (R : Nat → Int) W, RtI rs ws L L.length R → Calls Try.prog 46 #[.agg (rtA R)] W (RsS L (rqC rs ws L L.length) W)) := fun R W hI => by
    have := roster_any R L hI.who (by omega) hI.fil W
    rwa [hI.cost] at this
  have HSt : Hid (∀ k, k < L.length → rwG rs ws L (L.length - k) k = if inB (L.getD k 0) 0 ((ws.length : Int) - 1) = true then (if coB rs ws L k = 0 then rwG rs ws L (L.length - (k + 1)) (k + 1) else (coB rs ws L k, k)) else (5, k)) := fun k hk => rwG_step rs ws L hk
  have HZr : Hid (RtI rs ws L 0 rtZ) := RtI.zero rs ws L
  have HO : Hid (Reads w.heap.size w ao L) := ho
  have hneg : ¬ (4096 : Int) < (L.length : Int) := by omega
  have hle : (L.length : Int) = (rs.length : Int) := by omega
  have hwn : IntKind.i64.wrap ((ws.length : Int) - 1) = (ws.length : Int) - 1 := wrap_id _ (by omega) (by omega)
  have HLn : Hid (L.length = rs.length) := hln
  have hneb : ((L.length : Int) != (rs.length : Int)) = false := by rw [hle]; simp
  clear hr hw ho hp hpw hcd hf h4 hso hs hws hln hle
  generalize (rwC rs ws L).1 = rc at *
  generalize (rwC rs ws L).2 = rp at *
  generalize rwL rs ws L = rl at *
  generalize rwT rs ws L = rt at *
  obtain ⟨qb, hqb⟩ : ∃ qb, qb = w.heap.size := ⟨_, rfl⟩
  obtain ⟨W0, hW0⟩ : ∃ W0, W0 = w.alloc (Obj.cells #[.slice none 0 0, .int .i64 0] 36) := ⟨_, rfl⟩
  have HE : Hid (W0 = w.alloc (Obj.cells #[.slice none 0 0, .int .i64 0] 36) ∧ qb = w.heap.size) := ⟨hW0, hqb⟩
  have HB0 : Hid (Below w.heap.size w W0 ∧ W0.heap[qb]? = some (.cells #[.slice none 0 0, .int .i64 0] 36 (0, 0))) := by rw [hW0, hqb]; exact ⟨below_alloc _ _, heapNew _ _⟩
  have hqw : w.heap.size ≤ qb := by omega
  clear hW0 hqb
  go_enter Try.func15, Try.ntmps15
  go_upto_region 3 with fail
  rw [← HE.out.1, ← HE.out.2]
  clear HE
  go_wp2_with fail
  (first | go_at_call 43 | skip)
  refine (HFa.out W0 HB0.out.1).mono ?_
  rintro e w1 ⟨rfl, hb1⟩
  have HB1 : Hid (Below w.heap.size w w1 ∧ w1.heap[qb]? = some (.cells #[.slice none 0 0, .int .i64 0] 36 (0, 0))) := ⟨chain HB0.out.1 hb1, (hb1.block qb (blkLt HB0.out.2)).trans HB0.out.2⟩
  clear hb1 HFa HB0
  obtain ⟨W2, hW2⟩ : ∃ W2, W2 = ((w1.alloc (Obj.cells #[.slice ad rs.length cap, .slice aw ws.length cw] 75)).alloc (Obj.cells #[.int .i64 0, .int .i64 ((ws.length : Int) - 1)] 77)).alloc (Obj.cells (rtA rtZ) 83) := ⟨_, rfl⟩
  obtain ⟨cb, hcb⟩ : ∃ cb, cb = w1.heap.size := ⟨_, rfl⟩
  obtain ⟨pb, hpb⟩ : ∃ pb, pb = w1.heap.size + 1 := ⟨_, rfl⟩
  obtain ⟨tb, htb⟩ : ∃ tb, tb = w1.heap.size + 1 + 1 := ⟨_, rfl⟩
  have HE2 : Hid (W2 = ((w1.alloc (Obj.cells #[.slice ad rs.length cap, .slice aw ws.length cw] 75)).alloc (Obj.cells #[.int .i64 0, .int .i64 ((ws.length : Int) - 1)] 77)).alloc (Obj.cells (rtA rtZ) 83) ∧ cb = w1.heap.size ∧ pb = w1.heap.size + 1 ∧ tb = w1.heap.size + 1 + 1) := ⟨hW2, hcb, hpb, htb⟩
  have HK : Hid (RkI w qb cb pb tb #[.slice ad rs.length cap, .slice aw ws.length cw] #[.int .i64 0, .int .i64 ((ws.length : Int) - 1)] rtZ W2) := by
    show RkI _ _ _ _ _ _ _ _ _
    have hlow : Below w1.heap.size w1 W2 := by rw [hW2]; exact chain (chain (below_alloc _ _) (below_alloc _ _)) (below_alloc _ _)
    have g1 : W2.heap[cb]? = some (.cells #[.slice ad rs.length cap, .slice aw ws.length cw] 75 (0, 0)) := by rw [hW2, hcb, Below.heap_alloc _ _ _ (by simp; omega), Below.heap_alloc _ _ _ (by simp)]; exact heapNew _ _
    have g2 : W2.heap[pb]? = some (.cells #[.int .i64 0, .int .i64 ((ws.length : Int) - 1)] 77 (0, 0)) := by
      rw [hW2, hpb, Below.heap_alloc _ _ _ (by simp)]
      have := heapNew (w1.alloc (Obj.cells #[.slice ad rs.length cap, .slice aw ws.length cw] 75)) (Obj.cells #[.int .i64 0, .int .i64 ((ws.length : Int) - 1)] 77)
      simpa using this
    have g3 : W2.heap[tb]? = some (.cells (rtA rtZ) 83 (0, 0)) := by
      rw [hW2, htb]
      have := heapNew ((w1.alloc (Obj.cells #[.slice ad rs.length cap, .slice aw ws.length cw] 75)).alloc (Obj.cells #[.int .i64 0, .int .i64 ((ws.length : Int) - 1)] 77)) (Obj.cells (rtA rtZ) 83)
      simpa using this
    have hz := HB1.out.1.size
    exact ⟨chain HB1.out.1 hlow, (hlow.block qb (blkLt HB1.out.2)).trans HB1.out.2, g1, g2, g3, hqw, by omega⟩
  clear hW2 hcb hpb htb HB1
  go_upto_region 10 with fail
  rw [← rtZ_lit, ← HE2.out.2.2.2, ← HE2.out.2.2.1, ← HE2.out.2.1, ← HE2.out.1]
  clear HE2
  go_wp2_with fail
  go_loopw [13, 14, 15, 16, 43] (fun _ _ _ _ c wr => ∃ (k : Nat) (R : Nat → Int), k ≤ L.length ∧ c = .int .i64 (k : Int) ∧ rwG rs ws L L.length 0 = rwG rs ws L (L.length - k) k ∧ RtI rs ws L k R ∧ RkI w qb cb pb tb #[.slice ad rs.length cap, .slice aw ws.length cw] #[.int .i64 0, .int .i64 ((ws.length : Int) - 1)] R wr) (fun _ _ _ _ c _ => L.length - (intOf c).toNat)
  case atStart => exact ⟨0, rtZ, Nat.zero_le _, rfl, rfl, HZr.out, HK.out⟩
  case round =>
    clear HK HZr
    obtain ⟨k, R, hk, rfl, hg, hI, hK⟩ := hrel
    have HG : Hid (rwG rs ws L L.length 0 = rwG rs ws L (L.length - k) k) := hg
    have HI : Hid (RtI rs ws L k R) := hI
    have HK : Hid (RkI w qb cb pb tb #[.slice ad rs.length cap, .slice aw ws.length cw] #[.int .i64 0, .int .i64 ((ws.length : Int) - 1)] R wr) := hK
    clear hg hI hK
    by_cases hlt : k < L.length
    · have hlt' : (k : Int) < (L.length : Int) := by omega
      rcases HO.out with h | ⟨b0, o0, ha, hB0, ia⟩
      · rw [h] at hlt; simp at hlt
      subst ha
      have d0 := (ia.below HK.out.low hB0) k hlt
      have hst := HSt.out k hlt
      obtain ⟨d, hd⟩ : ∃ d, L.getD k 0 = d := ⟨_, rfl⟩
      have HD : Hid (L.getD k 0 = d) := hd
      rw [hd] at d0 hst
      have HSk := HSp.out d
      have HSk2 : Hid (∀ W, Calls Try.prog 44 #[.agg #[.int .i64 0, .int .i64 ((ws.length : Int) - 1)], .int .i64 d] W fun e w' => e = .returned (.bool (inB d 0 ((ws.length : Int) - 1))) ∧ Below W.heap.size W w') := HSk
      obtain ⟨ib, hib⟩ : ∃ ib, inB d 0 ((ws.length : Int) - 1) = ib := ⟨_, rfl⟩
      have HIb : Hid (inB d 0 ((ws.length : Int) - 1) = ib) := hib
      rw [hib] at HSk2 hst
      have HStk : Hid (rwG rs ws L (L.length - k) k = if ib = true then (if coB rs ws L k = 0 then rwG rs ws L (L.length - (k + 1)) (k + 1) else (coB rs ws L k, k)) else (5, k)) := hst
      clear hst HSk hib hd ia
      obtain ⟨p0, p1⟩ := (show wr.cell? ⟨pb, 0, none⟩ = some (.int .i64 0) ∧ wr.cell? ⟨pb, 1, none⟩ = some (.int .i64 ((ws.length : Int) - 1)) from ⟨blkCell HK.out.sp 0 _ rfl, blkCell HK.out.sp 1 _ rfl⟩)
      go_wp2_with fail
      (first | go_at_call 44 | skip)
      refine (HSk2.out _).mono ?_
      rintro e w3 ⟨rfl, hb3⟩
      have HK3 : Hid (RkI w qb cb pb tb #[.slice ad rs.length cap, .slice aw ws.length cw] #[.int .i64 0, .int .i64 ((ws.length : Int) - 1)] R w3) := HK.out.later hb3
      clear hb3 HSk2 HK d0 p0 p1
      cases ib
      · have hq := HK3.out.res
        obtain ⟨r0, r1⟩ := (show w3.cell? ⟨qb, 0, none⟩ = some (.slice none 0 0) ∧ w3.cell? ⟨qb, 1, none⟩ = some (.int .i64 0) from ⟨blkCell hq 0 _ rfl, blkCell hq 1 _ rfl⟩)
        have s0 := blkFree hq 0
        have s1 := blkFree hq 1
        have HA : Hid (∀ w', Below w.heap.size w w' → AnsR rc rp rl rt w (.returned (.tuple #[.agg #[.slice none 0 0, .int .i64 0], .int .i64 5, .int .i64 (k : Int)])) w') := fun w' h => HNo.out 5 k w' (by rw [HG.out, HStk.out]; rfl) (by omega) h
        have HLw : Hid (Below w.heap.size w w3) := HK3.out.low
        clear hq HK3 HNo HYes HG HStk HI HNx HGv
        go_wp2
        refine bodyPost_ret (v := .tuple #[.agg #[.slice none 0 0, .int .i64 0], .int .i64 5, .int .i64 (k : Int)]) (by simp [results, Try.results15, go_sem, r0, r1]) rfl ?_
        refine HA.out _ ?_
        repeat (first | exact HLw.out | refine Below.setCell ?_ hqw _)
      · obtain ⟨m, hm⟩ : ∃ m : Nat, d = (m : Int) := ⟨d.toNat, by have := HIb.out; unfold inB at this; have := of_decide_eq_true this; omega⟩
        subst hm
        have hmw : m < ws.length := by have := HIb.out; unfold inB at this; have := of_decide_eq_true this; omega
        have HGk := HGv.out R k m w3 (by rw [← HLn.out]; exact hlt) hmw HI.out HD.out HK3.out.low
        have HRn : Hid (coB rs ws L k = 0 → RtI rs ws L (k + 1) (rtN R k m (rs.getD k zSf) (ws.getD m zWk))) := fun hc => HNx.out R k m (by rw [← HLn.out]; exact hlt) hmw HI.out HD.out hc
        have HStn : Hid (coB rs ws L k = 0 → rwG rs ws L (L.length - k) k = rwG rs ws L (L.length - (k + 1)) (k + 1)) := fun hc => by rw [HStk.out, if_pos (by first | rfl | trivial), if_pos hc]
        have HSto : Hid (coB rs ws L k ≠ 0 → rwG rs ws L (L.length - k) k = (coB rs ws L k, k)) := fun hc => by rw [HStk.out, if_pos (by first | rfl | trivial), if_neg hc]
        have HGq : Hid (Calls Try.prog 45 #[.agg #[.slice ad rs.length cap, .slice aw ws.length cw], .agg (rtA R), .int .i64 (m : Int)] w3 (GvQ (coB rs ws L k) (if coB rs ws L k = 0 then rtN R k m (rs.getD k zSf) (ws.getD m zWk) else rtZ) w3)) := HGk
        clear HGk HStk HI HNx HGv HIb HD
        generalize rtN R k m (rs.getD k zSf) (ws.getD m zWk) = RN at *
        obtain ⟨RX, hRX⟩ : ∃ RX, (if coB rs ws L k = 0 then RN else rtZ) = RX := ⟨_, rfl⟩
        have HRX : Hid ((if coB rs ws L k = 0 then RN else rtZ) = RX) := hRX
        rw [hRX] at HGq
        clear hRX
        generalize coB rs ws L k = code at *
        obtain ⟨c0, c1⟩ := (show w3.cell? ⟨cb, 0, none⟩ = some (.slice ad rs.length cap) ∧ w3.cell? ⟨cb, 1, none⟩ = some (.slice aw ws.length cw) from ⟨blkCell HK3.out.cr 0 _ rfl, blkCell HK3.out.cr 1 _ rfl⟩)
        go_wp2_with (refine wpList_load_row rfl 83 (.tmp 12) rfl tb rfl 83 (rtA R) (0, 0) _ HK3.out.rt Try.underlying83 rfl (by rw [rtA_size]; exact rota_size) ?_)
        (first | go_at_call 45 | skip)
        refine HGq.out.mono ?_
        rintro e w4 ⟨rfl, hb4⟩
        have HK4 : Hid (RkI w qb cb pb tb #[.slice ad rs.length cap, .slice aw ws.length cw] #[.int .i64 0, .int .i64 ((ws.length : Int) - 1)] R w4) := HK3.out.later hb4
        clear hb4 HGq HK3 c0 c1
        obtain ⟨W5, hW5⟩ : ∃ W5, W5 = w4.alloc (Obj.cells (rtA RX) 83) := ⟨_, rfl⟩
        obtain ⟨nb, hnb⟩ : ∃ nb, nb = w4.heap.size := ⟨_, rfl⟩
        have HE5 : Hid (W5 = w4.alloc (Obj.cells (rtA RX) 83) ∧ nb = w4.heap.size) := ⟨hW5, hnb⟩
        have HK5 : Hid (RkI w qb cb pb tb #[.slice ad rs.length cap, .slice aw ws.length cw] #[.int .i64 0, .int .i64 ((ws.length : Int) - 1)] R W5 ∧ RtAt RX nb W5) := by rw [hW5, hnb]; exact ⟨HK4.out.later (below_alloc _ _), heapNew _ _⟩
        have hall := rtA_one RX
        clear hW5 hnb HK4
        go_upto_region 16 with (refine wpList_store_row rfl 83 (.tmp 15) (.tmp 59) rfl w4.heap.size (rtA RX) rfl rfl 83 _ (heap_alloc_new _ _) (by rw [rtA_size]; exact rota_size) rfl hall ?_; rw [World.setRow_alloc_new])
        rw [← HE5.out.2, ← HE5.out.1]
        clear HE5
        by_cases h0 : code = 0
        · have e1 := HRX.out
          rw [if_pos h0] at e1
          have HRn2 : Hid (RtI rs ws L (k + 1) RX) := by have := HRn.out h0; rwa [e1] at this
          have HG2 : Hid (rwG rs ws L L.length 0 = rwG rs ws L (L.length - (k + 1)) (k + 1)) := by show _ = _; rw [HG.out, HStn.out h0]
          clear e1 HRn HStn HSto HRX HG
          subst h0
          go_wp2_with (first | (refine wpList_load_row rfl 83 (.tmp 15) rfl nb rfl 83 (rtA RX) (0, 0) _ HK5.out.2 Try.underlying83 rfl (by rw [rtA_size]; exact rota_size) ?_) | (refine wpList_store_row rfl 83 (.tmp 12) (.tmp 66) rfl tb (rtA RX) rfl rfl 83 _ HK5.out.1.rt (by rw [rtA_size]; exact rota_size) (by rw [rtA_size, rtA_size]) hall ?_))
          exact ⟨⟨k + 1, RX, by omega, by go_num, HG2.out, HRn2.out, HK5.out.1.row⟩, by simp [intOf]; omega⟩
        · have hcb : (code != 0) = true := by simpa using h0
          have HG2 : Hid (rwG rs ws L L.length 0 = (code, k)) := by show _ = _; rw [HG.out, HSto.out h0]
          have hq := HK5.out.1.res
          obtain ⟨r0, r1⟩ := (show W5.cell? ⟨qb, 0, none⟩ = some (.slice none 0 0) ∧ W5.cell? ⟨qb, 1, none⟩ = some (.int .i64 0) from ⟨blkCell hq 0 _ rfl, blkCell hq 1 _ rfl⟩)
          have s0 := blkFree hq 0
          have s1 := blkFree hq 1
          have HA : Hid (∀ w', Below w.heap.size w w' → AnsR rc rp rl rt w (.returned (.tuple #[.agg #[.slice none 0 0, .int .i64 0], .int .i64 code, .int .i64 (k : Int)])) w') := fun w' h => HNo.out code k w' HG2.out h0 h
          have HLw : Hid (Below w.heap.size w W5) := HK5.out.1.low
          clear hq HK5 HNo HYes HG HG2 HRn HStn HSto HRX
          go_wp2
          refine bodyPost_ret (v := .tuple #[.agg #[.slice none 0 0, .int .i64 0], .int .i64 code, .int .i64 (k : Int)]) (by simp [results, Try.results15, go_sem, r0, r1]) rfl ?_
          refine HA.out _ ?_
          repeat (first | exact HLw.out | refine Below.setCell ?_ hqw _)
    · have hle : (L.length : Int) ≤ (k : Int) := by omega
      obtain rfl : k = L.length := by omega
      have hy := HYes.out (by rw [HG.out]; exact rwG_end rs ws L _)
      obtain ⟨e1, e2, e3, e4⟩ := hy
      have HEq : Hid (rc = 0 ∧ rp = 0 ∧ rl = L ∧ rt = rqC rs ws L L.length) := ⟨e1, by omega, e3, e4⟩
      have HRk : Hid (Calls Try.prog 46 #[.agg (rtA R)] wr (RsS L (rqC rs ws L L.length) wr)) := HRo.out R wr HI.out
      clear e1 e2 e3 e4 HYes HNo HG HI HNx HGv HRo HSt HSp
      generalize rqC rs ws L L.length = cost at *
      go_wp2_with (refine wpList_load_row rfl 83 (.tmp 12) rfl tb rfl 83 (rtA R) (0, 0) _ HK.out.rt Try.underlying83 rfl (by rw [rtA_size]; exact rota_size) ?_)
      (first | go_at_call 46 | skip)
      refine HRk.out.mono ?_
      rintro e w6 ⟨q, cq, rfl, hrow, hb6⟩
      have HK6 : Hid (RkI w qb cb pb tb #[.slice ad rs.length cap, .slice aw ws.length cw] #[.int .i64 0, .int .i64 ((ws.length : Int) - 1)] R w6) := HK.out.later hb6
      have HRw : Hid (RowI wr.heap.size w6.heap.size w6 q L ∧ w.heap.size ≤ wr.heap.size ∧ qb < wr.heap.size) := ⟨hrow, HK.out.low.size, blkLt HK.out.res⟩
      clear hrow hb6 HRk HK
      have hq := HK6.out.res
      have r0 := blkCell hq 0 _ rfl
      have r1 := blkCell hq 1 _ rfl
      have s0 := blkFree hq 0
      have s1 := blkFree hq 1
      have h5 := heap_setCell_same _ _ 1 _ _ (.int .i64 cost) (heap_setCell_same _ _ 0 _ _ (.slice q L.length cq) hq)
      simp only [List.setIfInBounds_toArray, List.set_cons_zero, List.set_cons_succ, List.getElem_toArray, List.getElem_cons_zero, List.getElem_cons_succ] at h5 r0 r1
      have HLw : Hid (Below w.heap.size w w6) := HK6.out.low
      obtain ⟨W7, hW7⟩ : ∃ W7, W7 = (w6.setCell ⟨qb, 0, none⟩ (.slice q L.length cq)).setCell ⟨qb, 1, none⟩ (.int .i64 cost) := ⟨_, rfl⟩
      rw [← hW7] at h5
      have HW7 : Hid (W7 = (w6.setCell ⟨qb, 0, none⟩ (.slice q L.length cq)).setCell ⟨qb, 1, none⟩ (.int .i64 cost)) := hW7
      have t0 := blkCell h5 0 _ rfl
      have t1 := blkCell h5 1 _ rfl
      simp only [List.getElem_toArray, List.getElem_cons_zero, List.getElem_cons_succ] at t0 t1
      clear hq h5 hW7 HK6
      go_wp2
      rw [← HW7.out]
      refine bodyPost_ret (v := .tuple #[.agg #[.slice q L.length cq, .int .i64 cost], .int .i64 0, .int .i64 0]) (by simp [results, Try.results15, go_sem, t0, t1]) rfl ?_
      obtain ⟨e1, e2, e3, e4⟩ := HEq.out
      rw [e1, e2, e3, e4]
      have e5 : W7.heap.size = w6.heap.size := by rw [HW7.out]; simp only [World.size_setCell]
      refine ⟨q, cq, rfl, ?_, ?_⟩
      · rw [e5]
        refine RowI.wide (lo := wr.heap.size) (hi := w6.heap.size) ?_ HRw.out.2.1 (Nat.le_refl _) (by omega)
        rw [HW7.out]
        exact (HRw.out.1.set HRw.out.2.2 _ _).set HRw.out.2.2 _ _
      · rw [HW7.out]
        exact (HLw.out.setCell hqw _).setCell hqw _
end Go.Proofs.Yteigbmdhfeagfaa

/-
  The way back: a text that right segments were written into is read as those segments.
-/
import Derived.Test.YtjnlghngneonhaaScZ
namespace Go.Proofs.Ytjnlghngneonhaa
open Go.ChangeShapes Go.WideShapes Go.ChangeAt Go.RowKit Go.Joins Go.Deep
set_option linter.unusedVariables false

theorem byL_push (s : ByteArray) (b : UInt8) : byL (s.push b) = byL s ++ [(b.toNat : Int)] := by
  unfold byL
  have : (s.push b).data.toList = s.data.toList ++ [b] := by
    show (s.data.push b).toList = _
    simp
  rw [this]; simp
theorem byL_txL (L : List Int) (h : ∀ x ∈ L, 0 ≤ x ∧ x ≤ 255) : byL (txL L) = L := by
  unfold txL
  have key : ∀ (L : List Int) (r : ByteArray), (∀ x ∈ L, 0 ≤ x ∧ x ≤ 255) → byL (L.foldl (fun r n => r.push (UInt8.ofNat n.toNat)) r) = byL r ++ L := by
    intro L
    induction L with
    | nil => intro r _; simp
    | cons a L ih =>
      intro r h
      rw [List.foldl_cons, ih _ (fun x hx => h x (List.mem_cons_of_mem _ hx)), byL_push]
      have ha := h a List.mem_cons_self
      have : ((UInt8.ofNat a.toNat).toNat : Int) = a := by
        rw [UInt8.toNat_ofNat']; omega
      rw [this]; simp
  rw [key L _ h]
  rfl
theorem byL_inj {s s' : ByteArray} (h : byL s = byL s') : s = s' := by
  unfold byL at h
  have h1 : s.data.toList = s'.data.toList := by
    exact (List.map_inj_right (fun a b hab => by
      have : a.toNat = b.toNat := by omega
      exact UInt8.toNat_inj.1 this)).1 h
  obtain ⟨⟨l⟩⟩ := s
  obtain ⟨⟨l'⟩⟩ := s'
  dsimp only at h1
  rw [h1]
theorem byL_mem {s : ByteArray} {x : Int} (h : x ∈ byL s) : 0 ≤ x ∧ x ≤ 255 := by
  unfold byL at h
  obtain ⟨b, _, rfl⟩ := List.mem_map.1 h
  have := b.toNat_lt
  omega
theorem txL_byL (s : ByteArray) : txL (byL s) = s := byL_inj (byL_txL _ (fun x hx => byL_mem hx))
/-- From place pl on the text is L. -/
def AtL (t : ByteArray) (pl : Nat) (L : List Int) : Prop := pl ≤ t.size ∧ (byL t).drop pl = L
theorem AtL.cons {t : ByteArray} {pl : Nat} {c : Int} {L : List Int} (h : AtL t pl (c :: L)) : pl < t.size ∧ (byL t).getD pl 0 = c ∧ AtL t (pl + 1) L := by
  obtain ⟨h1, h2⟩ := h
  have hl := congrArg List.length h2
  rw [List.length_drop, byL_len, List.length_cons] at hl
  refine ⟨by omega, ?_, by omega, ?_⟩
  · have := congrArg (fun l => l.getD 0 0) h2
    simpa [List.getD_eq_getElem?_getD] using this
  · have := congrArg (List.drop 1) h2
    rw [List.drop_drop] at this
    simpa using this
theorem AtL.nil {t : ByteArray} {pl : Nat} (h : AtL t pl []) : pl = t.size := by
  obtain ⟨h1, h2⟩ := h
  have hl := congrArg List.length h2
  rw [List.length_drop, byL_len, List.length_nil] at hl
  omega
theorem back_part (t : ByteArray) (out : List CSg) (tag : ByteArray) (ps : List ByteArray) (d : Int) (hd : d = 39 ∨ d = 43) (R : List Int) : ∀ (P : List Int) (pl : Nat) (pt : List Int), AtL t pl (escL P ++ d :: R) → pt.length + P.length ≤ 80 →
    ∃ pl', AtL t pl' (d :: R) ∧ rdEnd t ⟨2, pl, out, tag, ps, pt⟩ = rdEnd t ⟨1, pl', out, tag, ps ++ [txL (pt ++ P)], []⟩
  | [], pl, pt, h, hp => by
    have h' : AtL t pl (d :: R) := h
    obtain ⟨h1, h2, _⟩ := h'.cons
    refine ⟨pl, h', ?_⟩
    rw [List.append_nil]
    exact rdEnd_inr (Nat.le_of_lt h1) (rd2b h1 (by rw [h2]; exact hd))
  | c :: P, pl, pt, h, hp => by
    rw [List.length_cons] at hp
    have e0 : escL (c :: P) = escC c ++ escL P := by unfold escL; rw [List.map_cons, List.flatten_cons]
    rw [e0, List.append_assoc] at h
    unfold escC at h
    cases hm : mkB c
    · rw [hm, if_neg (by simp)] at h
      obtain ⟨h1, h2, h3⟩ := AtL.cons (show AtL t pl (c :: (escL P ++ d :: R)) from h)
      obtain ⟨pl', k1, k2⟩ := back_part t out tag ps d hd R P (pl + 1) (pt ++ [c]) h3 (by rw [List.length_append]; simp; omega)
      refine ⟨pl', k1, ?_⟩
      unfold mkB at hm
      have hm' := of_decide_eq_false hm
      rw [rdEnd_inr (Nat.le_of_lt h1) (rd2g h1 (by rw [h2]; exact ⟨fun e => hm' (.inr (.inr e)), fun e => hm' (.inl e), fun e => hm' (.inr (.inl e))⟩) (by omega)), h2, k2, List.append_assoc]
      rfl
    · rw [hm, if_pos rfl] at h
      obtain ⟨h1, h2, h3⟩ := AtL.cons (show AtL t pl (63 :: c :: (escL P ++ d :: R)) from h)
      obtain ⟨h4, h5, h6⟩ := h3.cons
      obtain ⟨pl', k1, k2⟩ := back_part t out tag ps d hd R P (pl + 1 + 1) (pt ++ [c]) h6 (by rw [List.length_append]; simp; omega)
      refine ⟨pl', k1, ?_⟩
      rw [rdEnd_inr (Nat.le_of_lt h1) (rd2e h1 h2 (by
        rintro (e | e)
        · omega
        · rw [h5, hm] at e; cases e) (by omega)), h5, k2, List.append_assoc]
      rfl
theorem back_parts (t : ByteArray) (out : List CSg) (tag : ByteArray) (R : List Int) : ∀ (ss : List ByteArray) (pl : Nat) (ps : List ByteArray), AtL t pl (psL ss ++ 39 :: R) → ps.length + ss.length ≤ 20 → (∀ s ∈ ss, s.size ≤ 80) →
    ∃ pl', AtL t pl' (39 :: R) ∧ rdEnd t ⟨1, pl, out, tag, ps, []⟩ = rdEnd t ⟨1, pl', out, tag, ps ++ ss, []⟩
  | [], pl, ps, h, hp, hs => ⟨pl, h, by rw [List.append_nil]⟩
  | s :: ss, pl, ps, h, hp, hs => by
    rw [List.length_cons] at hp
    have e0 : psL (s :: ss) = 43 :: (escL (byL s) ++ psL ss) := by unfold psL; rw [List.map_cons, List.flatten_cons]; rfl
    rw [e0] at h
    obtain ⟨h1, h2, h3⟩ := AtL.cons (show AtL t pl (43 :: ((escL (byL s) ++ psL ss) ++ 39 :: R)) from h)
    rw [List.append_assoc] at h3
    have hsz := hs s List.mem_cons_self
    obtain ⟨d, R', hd, hR⟩ : ∃ d R', (d = 39 ∨ d = 43) ∧ psL ss ++ 39 :: R = d :: R' := by
      cases ss with
      | nil => exact ⟨39, R, .inl rfl, rfl⟩
      | cons s' ss' =>
        refine ⟨43, escL (byL s') ++ psL ss' ++ 39 :: R, .inr rfl, ?_⟩
        unfold psL
        rw [List.map_cons, List.flatten_cons]
        unfold partL
        simp
    rw [hR] at h3
    obtain ⟨p1, k1, k2⟩ := back_part t out tag ps d hd R' (byL s) (pl + 1) [] h3 (by rw [byL_len]; simp; omega)
    rw [← hR] at k1
    obtain ⟨p2, q1, q2⟩ := back_parts t out tag R ss p1 (ps ++ [s]) k1 (by rw [List.length_append]; simp; omega) (fun x hx => hs x (List.mem_cons_of_mem _ hx))
    refine ⟨p2, q1, ?_⟩
    rw [rdEnd_inr (Nat.le_of_lt h1) (rd1c h1 h2 (by omega)), k2, List.nil_append, txL_byL, q2, List.append_assoc]
    rfl
theorem back_seg (t : ByteArray) (out : List CSg) (tgx : ByteArray) (psx : List ByteArray) (R : List Int) (c : CSg) (hc : sgB c = true) (pl : Nat) (h : AtL t pl (sgL c ++ R)) (ho : out.length ≤ 199) :
    ∃ pl', AtL t pl' R ∧ rdEnd t ⟨0, pl, out, tgx, psx, []⟩ = rdEnd t ⟨0, pl', out ++ [c], c.nm, c.ps, []⟩ := by
  obtain ⟨c1, c2, c3⟩ := sg_facts hc
  have hs : ∀ s ∈ c.ps, s.size ≤ 80 := fun s hs => by
    unfold prsB at c3
    simpa using List.all_eq_true.1 c3 s hs
  have htg : letB ((byL c.nm).getD 0 0) = true ∧ letB ((byL c.nm).getD 1 0) = true ∧ letB ((byL c.nm).getD 2 0) = true := by
    unfold sgB at hc
    simp only [Bool.and_eq_true] at hc
    have := hc.2.1
    unfold tagB at this
    simp only [Bool.and_eq_true] at this
    exact ⟨this.2.1.1, this.2.1.2, this.2.2⟩
  obtain ⟨x, y, z, hxyz⟩ : ∃ x y z, byL c.nm = [x, y, z] := by
    have hl := byL_len c.nm
    rw [c2] at hl
    match byL c.nm, hl with
    | [x, y, z], _ => exact ⟨x, y, z, rfl⟩
  rw [hxyz] at htg
  unfold sgL at h
  rw [hxyz] at h
  obtain ⟨h1, h2, h3⟩ := AtL.cons (show AtL t pl (x :: y :: z :: (psL c.ps ++ 39 :: R)) by simpa using h)
  obtain ⟨h4, h5, h6⟩ := h3.cons
  obtain ⟨h7, h8, h9⟩ := h6.cons
  have l0 : letAt t pl = true := by unfold letAt; rw [decide_eq_true h1, h2, Bool.true_and]; exact htg.1
  have l1 : letAt t (pl + 1) = true := by unfold letAt; rw [decide_eq_true h4, h5, Bool.true_and]; exact htg.2.1
  have l2 : letAt t (pl + 2) = true := by unfold letAt; rw [decide_eq_true h7, h8, Bool.true_and]; exact htg.2.2
  have hT : tagF t pl = none := by unfold tagF; rw [l0, if_neg (by simp), l1, if_neg (by simp), l2, if_neg (by simp)]
  have hex : t.extract pl (pl + 3) = c.nm := by
    apply byL_inj
    rw [hxyz]
    unfold byL
    have e1 : (t.extract pl (pl + 3)).data.toList = (t.data.toList.drop pl).take 3 := by
      rw [ByteArray.data_extract, Array.toList_extract]
      simp
    rw [e1, List.map_take, List.map_drop]
    have e2 : t.data.toList.map (fun b => (b.toNat : Int)) = byL t := rfl
    rw [e2]
    obtain ⟨_, hd⟩ := (show AtL t pl (x :: y :: z :: (psL c.ps ++ 39 :: R)) by
      simpa using h)
    rw [hd]; rfl
  obtain ⟨p1, k1, k2⟩ := back_parts t out c.nm R c.ps (pl + 3) [] h9 (by simp; omega) hs
  obtain ⟨q1, q2, q3⟩ := k1.cons
  refine ⟨p1 + 1, q3, ?_⟩
  rw [rdEnd_inr (Nat.le_of_lt h1) (rd0d h1 (by omega) hT), hex, k2, List.nil_append, rdEnd_inr (Nat.le_of_lt q1) (rd1a q1 q2)]
theorem back_all (t : ByteArray) : ∀ (cs : List CSg) (out : List CSg) (tgx : ByteArray) (psx : List ByteArray) (pl : Nat), AtL t pl (sgsL cs) → (∀ c ∈ cs, sgB c = true) → out.length + cs.length ≤ 200 → rdEnd t ⟨0, pl, out, tgx, psx, []⟩ = (0, 0, out ++ cs)
  | [], out, tgx, psx, pl, h, _, _ => by
    rw [List.append_nil]
    exact rdEnd_inl (rd0a (AtL.nil h))
  | c :: cs, out, tgx, psx, pl, h, hs, hl => by
    rw [List.length_cons] at hl
    have e0 : sgsL (c :: cs) = sgL c ++ sgsL cs := by unfold sgsL; rw [List.map_cons, List.flatten_cons]
    rw [e0] at h
    obtain ⟨p1, k1, k2⟩ := back_seg t out tgx psx (sgsL cs) c (hs c List.mem_cons_self) pl h (by omega)
    rw [k2, back_all t cs (out ++ [c]) _ _ p1 k1 (fun x hx => hs x (List.mem_cons_of_mem _ hx)) (by rw [List.length_append]; simp; omega), List.append_assoc]
    rfl
theorem rsg_back (t : ByteArray) (cs : List CSg) (ht : t.size ≤ 65536) (hb : byL t = sgsL cs) (hs : ∀ c ∈ cs, sgB c = true) (hl : cs.length ≤ 200) : rsgR t = (0, 0, cs) := by
  unfold rsgR
  rw [if_neg (by omega)]
  have := back_all t cs [] ByteArray.empty [] 0 ⟨Nat.zero_le _, by rw [List.drop_zero]; exact hb⟩ hs (by simpa using hl)
  rw [this]; rfl
end Go.Proofs.Ytjnlghngneonhaa

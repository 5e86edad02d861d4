/-
  What ThreeWay tells does not hang on the order of lines; of one list three times all is right: the mathematics; nothing of the program is in it.
-/
import Derived.Test.YtfiajiodehhmhaaTwI
import Derived.Test.YtfiajiodehhmhaaTwE
namespace Go.Proofs.Ytfiajiodehhmhaa
open Go.ChangeShapes Go.WideShapes Go.ChangeAt Go.RowKit Go.Joins Go.Deep Go.Sort Go.Shelf
set_option linter.unusedVariables false

/-- A right list of lines. -/
structure DcR (rs : List RDc) : Prop where
  len : rs.length ≤ 60
  nod : (rs.map (·.ar)).Nodup
  nam : ∀ r ∈ rs, nameB r.ar = true
  one : ∀ r ∈ rs, dcB r = true
theorem diffN_of (ss : List ByteArray) (hn : ss.Nodup) (hm : ∀ s ∈ ss, nameB s = true) : ∀ k, k ≤ ss.length → diffN ss k = true
  | 0, _ => rfl
  | k + 1, hk => by
    have e : ss.getD k ByteArray.empty = ss[k] := by simp [List.getD_eq_getElem?_getD, (by omega : k < ss.length)]
    show (diffN ss k && (nameB (ss.getD k ByteArray.empty) && !hasB (ss.take k) (ss.getD k ByteArray.empty))) = true
    rw [diffN_of ss hn hm k (by omega), e, hm _ (List.getElem_mem _)]
    have hh : hasB (ss.take k) ss[k] = false := by
      cases h : hasB (ss.take k) ss[k]
      · rfl
      · have h1 := (hasB_mem _ _).1 h
        obtain ⟨j, hj, he⟩ := List.mem_take_iff_getElem.1 h1
        have := (List.pairwise_iff_getElem.1 hn) j k (by omega) (by omega) (by omega)
        exact absurd he this
    rw [hh]; rfl
theorem DcR.dcs {rs : List RDc} (h : DcR rs) : dcsB rs = true := by
  unfold dcsB
  rw [decide_eq_true h.len, List.all_eq_true.2 h.one]
  have : diffB (rs.map (·.ar)) = true := diffN_of _ h.nod (fun s hs => by obtain ⟨r, hr, rfl⟩ := List.mem_map.1 hs; exact h.nam r hr) _ (Nat.le_refl _)
  rw [this]; rfl
theorem nod_rev {α : Type} {L : List α} (h : L.Nodup) : L.reverse.Nodup := List.pairwise_reverse.2 (h.imp (fun q e => q e.symm))
theorem DcR.rev {rs : List RDc} (h : DcR rs) : DcR rs.reverse :=
  ⟨by rw [List.length_reverse]; exact h.len, by rw [List.map_reverse]; exact nod_rev h.nod, fun r hr => h.nam r (List.mem_reverse.1 hr), fun r hr => h.one r (List.mem_reverse.1 hr)⟩
theorem eqT (s t : ByteArray) : (s.toList == t.toList) = true ↔ s = t := by
  rw [beq_iff_eq]
  constructor
  · intro h; rw [Lib.toList_data, Lib.toList_data] at h; exact tlB_inj h
  · intro h; rw [h]
theorem ln_of {rs : List RDc} (hn : (rs.map (·.ar)).Nodup) {r : RDc} (hr : r ∈ rs) : lnO rs r.ar = r := by
  obtain ⟨k, hk, rfl⟩ := List.mem_iff_getElem.1 hr
  have e : rs.getD k zDc = rs[k] := by simp [List.getD_eq_getElem?_getD, hk]
  rw [← e]
  refine ln_take hk (fun q hq => ?_) (by rw [e]; simp)
  obtain ⟨j, hj, rfl⟩ := List.mem_take_iff_getElem.1 hq
  cases h : (rs[j].ar.toList == (rs.getD k zDc).ar.toList)
  · rfl
  · have h1 := (eqT _ _).1 h
    rw [e] at h1
    have := (List.pairwise_iff_getElem.1 hn) j k (by simp; omega) (by simp; omega) (by omega)
    simp at this
    exact absurd h1 this
theorem ln_no {rs : List RDc} {t : ByteArray} (h : ∀ r ∈ rs, r.ar ≠ t) : lnO rs t = zDc := ln_none (fun r hr => by
  cases e : (r.ar.toList == t.toList)
  · rfl
  · exact absurd ((eqT _ _).1 e) (h r hr))
theorem ln_rev {rs : List RDc} (hn : (rs.map (·.ar)).Nodup) (t : ByteArray) : lnO rs.reverse t = lnO rs t := by
  by_cases h : ∃ r ∈ rs, r.ar = t
  · obtain ⟨r, hr, rfl⟩ := h
    rw [ln_of hn hr, ln_of (by rw [List.map_reverse]; exact nod_rev hn) (List.mem_reverse.2 hr)]
  · have h' : ∀ r ∈ rs, r.ar ≠ t := fun r hr e => h ⟨r, hr, e⟩
    rw [ln_no h', ln_no (fun r hr => h' r (List.mem_reverse.1 hr))]
theorem art_same {L M : List ByteArray} (h : ∀ t, t ∈ L ↔ t ∈ M) : artL L = artL M := ri_eq (art_rise L) (art_rise M) (fun t => by rw [art_mem, art_mem, h])
theorem tw_right {o r v : List RDc} (h1 : DcR o) (h2 : DcR r) (h3 : DcR v) : twC o r v = 0 ∧ twA o r v = twL o r v := by
  have e : twC o r v = 0 := by
    unfold twC
    rw [if_neg (by have := h1.len; have := h2.len; have := h3.len; omega), h1.dcs, h2.dcs, h3.dcs]; rfl
  exact ⟨e, by unfold twA; rw [if_pos e]⟩
theorem tw_rev {o r v : List RDc} (h1 : DcR o) (h2 : DcR r) (h3 : DcR v) : twL o.reverse r.reverse v.reverse = twL o r v := by
  unfold twL
  have e : artL ((o.reverse ++ r.reverse ++ v.reverse).map (·.ar)) = artL ((o ++ r ++ v).map (·.ar)) := art_same (fun t => by simp)
  rw [e]
  refine List.map_congr_left (fun t _ => ?_)
  unfold twV
  rw [ln_rev h1.nod, ln_rev h2.nod, ln_rev h3.nod]
theorem tw_rise {o r v : List RDc} {i : Nat} (h0 : 0 < i) (hi : i < (twL o r v).length) : tlB ((twL o r v).getD (i - 1) zVd).ar < tlB ((twL o r v).getD i zVd).ar := by
  have hl : (twL o r v).length = (artL ((o ++ r ++ v).map (·.ar))).length := by unfold twL; rw [List.length_map]
  have h := art_rise ((o ++ r ++ v).map (·.ar))
  have h2 := (List.pairwise_iff_getElem.1 h) (i - 1) i (by omega) (by omega) (by omega)
  have g : ∀ j (hj : j < (twL o r v).length), ((twL o r v).getD j zVd).ar = (artL ((o ++ r ++ v).map (·.ar)))[j]'(by omega) := fun j hj => by
    show ((List.map (twV o r v) (artL ((o ++ r ++ v).map (·.ar)))).getD j zVd).ar = _
    rw [List.getD_eq_getElem?_getD, List.getElem?_map, List.getElem?_eq_getElem (by omega)]
    rfl
  rw [g (i - 1) (by omega), g i hi]
  exact h2
theorem cd_same {l : RDc} (h : dcB l = true) : cdV l l l = 0 := by
  obtain ⟨h1, h2⟩ := dc_facts h
  unfold cdV
  rw [if_neg (by omega), if_neg (by omega), if_neg (by omega), if_neg (by omega), if_neg (by omega)]
theorem tw_one {o : List RDc} (h : DcR o) : (twL o o o).length = o.length ∧ ∀ x ∈ twL o o o, x.cd = 0 := by
  have hm : ∀ t, t ∈ artL ((o ++ o ++ o).map (·.ar)) ↔ t ∈ o.map (·.ar) := fun t => by rw [art_mem]; simp
  have hnd : (artL ((o ++ o ++ o).map (·.ar))).Nodup := (art_rise _).imp (fun {a b} q e => by rw [e] at q; exact List.lt_irrefl _ q)
  constructor
  · unfold twL
    rw [List.length_map, ((List.perm_ext_iff_of_nodup hnd h.nod).2 hm).length_eq, List.length_map]
  · intro x hx
    obtain ⟨t, ht, rfl⟩ := List.mem_map.1 hx
    obtain ⟨r, hr, rfl⟩ := List.mem_map.1 ((hm t).1 ht)
    show cdV _ _ _ = 0
    rw [ln_of h.nod hr]
    exact cd_same (h.one r hr)
end Go.Proofs.Ytfiajiodehhmhaa

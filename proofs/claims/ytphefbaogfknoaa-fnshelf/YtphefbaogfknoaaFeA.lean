/-
  The most that facings gain in each width, and the plan that is read off it, as mathematics: the plan fits, gains that much, and no counts that fit gain more; nothing of the program is in it.
-/
import Derived.Test.YtphefbaogfknoaaFbB
namespace Go.Proofs.Ytphefbaogfknoaa
open Go.ChangeShapes Go.WideShapes Go.ChangeAt Go.RowKit Go.Deep
set_option linter.unusedVariables false

/-- How many of one are within a width. -/
def wiN (r : CFc) (w : Nat) : Nat := min r.gs.length (w / r.wd.toNat)
/-- What n of one gain, and those behind in what is left; -1 where these have no room. -/
def gA (r : CFc) (row : Nat → Int) (w n : Nat) : Int := if row (w - n * r.wd.toNat) < 0 then -1 else gnN r.gs n + row (w - n * r.wd.toNat)
/-- The best of the first j counts from the least on. -/
def bF (r : CFc) (row : Nat → Int) (w : Nat) : Nat → Int
  | 0 => -1
  | j + 1 => max (bF r row w j) (gA r row w (r.ls.toNat + j))
def nC (r : CFc) (w : Nat) : Nat := wiN r w + 1 - r.ls.toNat
def dpR (r : CFc) (row : Nat → Int) (w : Nat) : Int := bF r row w (nC r w)
def dp : List CFc → Nat → Int
  | [] => fun _ => 0
  | r :: rest => dpR r (dp rest)
/-- The greatest count, at most c, that gains this much. -/
def pkN (r : CFc) (row : Nat → Int) (w : Nat) (best : Int) : Nat → Nat
  | 0 => 0
  | c + 1 => if gA r row w (c + 1) = best then c + 1 else pkN r row w best c
def pk (r : CFc) (row : Nat → Int) (w : Nat) : Nat := pkN r row w (dpR r row w) (wiN r w)
def plL : List CFc → Nat → List Int
  | [], _ => []
  | r :: rest, w => (pk r (dp rest) w : Int) :: plL rest (w - pk r (dp rest) w * r.wd.toNat)

theorem wi_fits {r : CFc} (hr : FcR r) {w n : Nat} (h : n ≤ wiN r w) : n ≤ r.gs.length ∧ n * r.wd.toNat ≤ w := by
  unfold wiN at h
  have h1 := Nat.min_le_left r.gs.length (w / r.wd.toNat)
  have h2 := Nat.min_le_right r.gs.length (w / r.wd.toNat)
  have h3 := hr.2.1
  exact ⟨by omega, (Nat.le_div_iff_mul_le (by omega)).1 (by omega)⟩
theorem wi_max {r : CFc} (hr : FcR r) {w n : Nat} (h1 : n ≤ r.gs.length) (h2 : n * r.wd.toNat ≤ w) : n ≤ wiN r w := by
  unfold wiN
  have h3 := hr.2.1
  have := (Nat.le_div_iff_mul_le (show 0 < r.wd.toNat by omega)).2 h2
  omega
theorem wi_small {r : CFc} (hr : FcR r) (w : Nat) : wiN r w ≤ 6 := by
  have := hr.1.2
  unfold wiN
  omega
theorem gA_bound {r : CFc} (hr : FcR r) {row : Nat → Int} {M : Int} (h : ∀ i, -1 ≤ row i ∧ row i ≤ M) (hM : 0 ≤ M) (w n : Nat) : -1 ≤ gA r row w n ∧ gA r row w n ≤ M + 600000 := by
  have h1 := h (w - n * r.wd.toNat)
  have h2 := gnN_bound hr n
  unfold gA
  split <;> omega
theorem bF_bound {r : CFc} (hr : FcR r) {row : Nat → Int} {M : Int} (h : ∀ i, -1 ≤ row i ∧ row i ≤ M) (hM : 0 ≤ M) (w : Nat) : ∀ j, -1 ≤ bF r row w j ∧ bF r row w j ≤ M + 600000
  | 0 => by unfold bF; omega
  | j + 1 => by
    have h1 := bF_bound hr h hM w j
    have h2 := gA_bound hr h hM w (r.ls.toNat + j)
    unfold bF
    omega
theorem dp_bound : ∀ (rs : List CFc), (∀ r ∈ rs, FcR r) → ∀ i, -1 ≤ dp rs i ∧ dp rs i ≤ 600000 * (rs.length : Int)
  | [], _, i => by simp [dp]
  | r :: rest, h, i => by
    have h1 := dp_bound rest (fun q hq => h q (List.mem_cons_of_mem _ hq))
    have h2 := bF_bound (h r (List.mem_cons_self ..)) h1 (by omega) i (nC r i)
    show -1 ≤ dpR r (dp rest) i ∧ dpR r (dp rest) i ≤ _
    unfold dpR
    rw [List.length_cons]
    push_cast
    omega
theorem bF_some {r : CFc} {row : Nat → Int} {w : Nat} : ∀ j, 0 ≤ bF r row w j → ∃ d, d < j ∧ gA r row w (r.ls.toNat + d) = bF r row w j
  | 0, h => by unfold bF at h; omega
  | j + 1, h => by
    unfold bF at h ⊢
    by_cases hc : bF r row w j ≤ gA r row w (r.ls.toNat + j)
    · exact ⟨j, by omega, by omega⟩
    · obtain ⟨d, h1, h2⟩ := bF_some (r := r) (row := row) (w := w) j (by omega)
      exact ⟨d, by omega, by omega⟩
theorem bF_max {r : CFc} {row : Nat → Int} {w : Nat} : ∀ j d, d < j → gA r row w (r.ls.toNat + d) ≤ bF r row w j
  | j + 1, d, h => by
    unfold bF
    by_cases e : d = j
    · subst e; omega
    · have := bF_max (r := r) (row := row) (w := w) j d (by omega)
      omega
theorem pkN_ge {r : CFc} {row : Nat → Int} {w : Nat} {best : Int} : ∀ c d, d ≤ c → gA r row w d = best → d ≤ pkN r row w best c ∧ gA r row w (pkN r row w best c) = best ∧ pkN r row w best c ≤ c
  | 0, d, h, hd => by
    obtain rfl : d = 0 := by omega
    exact ⟨Nat.le_refl _, hd, Nat.le_refl _⟩
  | c + 1, d, h, hd => by
    unfold pkN
    by_cases e : gA r row w (c + 1) = best
    · rw [if_pos e]; exact ⟨h, e, Nat.le_refl _⟩
    · rw [if_neg e]
      have hne : d ≠ c + 1 := fun q => e (by rw [← q]; exact hd)
      obtain ⟨h1, h2, h3⟩ := pkN_ge c d (by omega) hd
      exact ⟨h1, h2, by omega⟩
theorem pk_ok {r : CFc} (hr : FcR r) {row : Nat → Int} {w : Nat} (h : 0 ≤ dpR r row w) : (r.ls.toNat ≤ pk r row w ∧ pk r row w ≤ wiN r w) ∧ gA r row w (pk r row w) = dpR r row w := by
  obtain ⟨d, h1, h2⟩ := bF_some _ h
  unfold nC at h1
  obtain ⟨h3, h4, h5⟩ := pkN_ge (wiN r w) (r.ls.toNat + d) (by omega) h2
  exact ⟨⟨by unfold pk; exact Nat.le_trans (by omega) h3, h5⟩, h4⟩
theorem gA_yes {r : CFc} {row : Nat → Int} {w n : Nat} (h : 0 ≤ gA r row w n) : 0 ≤ row (w - n * r.wd.toNat) ∧ gA r row w n = gnN r.gs n + row (w - n * r.wd.toNat) := by
  unfold gA at h ⊢
  by_cases e : row (w - n * r.wd.toNat) < 0
  · rw [if_pos e] at h; omega
  · rw [if_neg e]; exact ⟨by omega, rfl⟩
theorem usN_cons (r : CFc) (rs : List CFc) (c : Int) (cs : List Int) : ∀ k, usN (r :: rs) (c :: cs) (k + 1) = c * r.wd + usN rs cs k
  | 0 => by simp [usN]
  | k + 1 => by rw [usN, usN_cons r rs c cs k]; simp [usN]; omega
theorem gaN_cons (r : CFc) (rs : List CFc) (c : Int) (cs : List Int) : ∀ k, gaN (r :: rs) (c :: cs) (k + 1) = gnN r.gs c.toNat + gaN rs cs k
  | 0 => by simp [gaN]
  | k + 1 => by rw [gaN, gaN_cons r rs c cs k]; simp [gaN]; omega
theorem fitS_cons (r : CFc) (rs : List CFc) (c : Int) (cs : List Int) : ∀ k, fitS (r :: rs) (c :: cs) (k + 1) = (tkB r c && fitS rs cs k)
  | 0 => by simp [fitS]
  | k + 1 => by rw [fitS, fitS_cons r rs c cs k]; simp [fitS, Bool.and_assoc]
theorem cast_mul {n : Nat} {wd : Int} (h : 0 ≤ wd) : ((n * wd.toNat : Nat) : Int) = (n : Int) * wd := by rw [Int.natCast_mul, Int.toNat_of_nonneg h]
theorem pl_ok : ∀ (rs : List CFc), (∀ r ∈ rs, FcR r) → ∀ w, 0 ≤ dp rs w → (plL rs w).length = rs.length ∧ fitS rs (plL rs w) rs.length = true ∧ usN rs (plL rs w) rs.length ≤ (w : Int) ∧ gaN rs (plL rs w) rs.length = dp rs w
  | [], _, w, _ => ⟨rfl, rfl, by simp [usN], rfl⟩
  | r :: rest, h, w, hd => by
    have hr := h r (List.mem_cons_self ..)
    have hd' : 0 ≤ dpR r (dp rest) w := hd
    obtain ⟨⟨h1, h2⟩, h3⟩ := pk_ok hr hd'
    obtain ⟨h4, h5⟩ := wi_fits hr h2
    obtain ⟨h6, h7⟩ := gA_yes (by rw [h3]; exact hd')
    obtain ⟨i1, i2, i3, i4⟩ := pl_ok rest (fun q hq => h q (List.mem_cons_of_mem _ hq)) _ h6
    have hwd := hr.2.1
    have hls := hr.2.2.1
    have hcm := cast_mul (n := pk r (dp rest) w) (wd := r.wd) (by omega)
    have hdp : dp (r :: rest) w = dpR r (dp rest) w := rfl
    show (_ :: plL rest _).length = _ ∧ fitS (r :: rest) (_ :: plL rest _) (rest.length + 1) = true ∧ usN (r :: rest) (_ :: plL rest _) (rest.length + 1) ≤ _ ∧ gaN (r :: rest) (_ :: plL rest _) (rest.length + 1) = _
    rw [usN_cons, gaN_cons, fitS_cons, i2, i4, hdp, ← h3, h7, Int.toNat_natCast]
    generalize pk r (dp rest) w = n at *
    refine ⟨by simp [i1], ?_, ?_, rfl⟩
    · rw [Bool.and_true]
      exact decide_eq_true (by omega)
    · omega
theorem dp_opt : ∀ (rs : List CFc), (∀ r ∈ rs, FcR r) → ∀ (cs : List Int) (w : Nat), cs.length = rs.length → fitS rs cs rs.length = true → usN rs cs rs.length ≤ (w : Int) → gaN rs cs rs.length ≤ dp rs w ∧ 0 ≤ dp rs w
  | [], _, cs, w, _, _, _ => by simp [gaN, dp]
  | r :: rest, h, [], w, hl, _, _ => by simp at hl
  | r :: rest, h, c :: cs, w, hl, hf, hu => by
    have hr := h r (List.mem_cons_self ..)
    have hrest : ∀ q ∈ rest, FcR q := fun q hq => h q (List.mem_cons_of_mem _ hq)
    rw [List.length_cons, fitS_cons, Bool.and_eq_true] at hf
    rw [List.length_cons, usN_cons] at hu
    rw [List.length_cons, gaN_cons]
    have ht := tk_bound hr hf.1
    have hin := inB_yes hf.1
    have hwd := hr.2.1
    have hls := hr.2.2.1
    have hus := usN_bound hrest hf.2 rest.length (Nat.le_refl _)
    have hgs := gaN_bound (cs := cs) hrest rest.length (Nat.le_refl _)
    have hgn := gnN_bound hr c.toNat
    have hcm := cast_mul (n := c.toNat) (wd := r.wd) (by omega)
    rw [Int.toNat_of_nonneg ht.1] at hcm
    have hfit : c.toNat * r.wd.toNat ≤ w := by omega
    have hsub : ((w - c.toNat * r.wd.toNat : Nat) : Int) = (w : Int) - c * r.wd := by omega
    obtain ⟨i1, i2⟩ := dp_opt rest hrest cs (w - c.toNat * r.wd.toNat) (by simpa using hl) hf.2 (by omega)
    have hwi := wi_max hr (w := w) (n := c.toNat) (by omega) hfit
    have hm := bF_max (r := r) (row := dp rest) (w := w) (nC r w) (c.toNat - r.ls.toNat) (by unfold nC; omega)
    rw [show r.ls.toNat + (c.toNat - r.ls.toNat) = c.toNat by omega] at hm
    have hga : gA r (dp rest) w c.toNat = gnN r.gs c.toNat + dp rest (w - c.toNat * r.wd.toNat) := by unfold gA; rw [if_neg (by omega)]
    show _ ≤ dpR r (dp rest) w ∧ 0 ≤ dpR r (dp rest) w
    unfold dpR
    omega
theorem dp_mono {rs : List CFc} (h : ∀ r ∈ rs, FcR r) {w w' : Nat} (hw : w ≤ w') (hd : 0 ≤ dp rs w) : dp rs w ≤ dp rs w' ∧ 0 ≤ dp rs w' := by
  obtain ⟨h1, h2, h3, h4⟩ := pl_ok rs h w hd
  have := dp_opt rs h (plL rs w) w' h1 h2 (by omega)
  rw [h4] at this
  exact this
/-- What is left of the width ahead of place p, and how many of that place are taken. -/
def rmN (rs : List CFc) (w : Nat) : Nat → Nat
  | 0 => w
  | p + 1 => rmN rs w p - pk (rs.getD p zFc) (dp (rs.drop (p + 1))) (rmN rs w p) * (rs.getD p zFc).wd.toNat
def cnAt (rs : List CFc) (w p : Nat) : Nat := pk (rs.getD p zFc) (dp (rs.drop (p + 1))) (rmN rs w p)
theorem rmN_cons (r : CFc) (rest : List CFc) (w : Nat) : ∀ p, rmN (r :: rest) w (p + 1) = rmN rest (w - pk r (dp rest) w * r.wd.toNat) p
  | 0 => by simp [rmN]
  | p + 1 => by
    rw [rmN, rmN_cons r rest w p]
    simp [rmN]
theorem cnAt_cons (r : CFc) (rest : List CFc) (w p : Nat) : cnAt (r :: rest) w (p + 1) = cnAt rest (w - pk r (dp rest) w * r.wd.toNat) p := by
  unfold cnAt
  rw [rmN_cons]
  simp
theorem plL_eq : ∀ (rs : List CFc) (w : Nat), plL rs w = (List.range rs.length).map (fun p => (cnAt rs w p : Int))
  | [], _ => rfl
  | r :: rest, w => by
    rw [plL, plL_eq rest, List.length_cons, List.range_succ_eq_map, List.map_cons, List.map_map]
    congr 1
    refine List.map_congr_left (fun p _ => ?_)
    simp only [Function.comp]
    rw [cnAt_cons]
theorem drop_at {rs : List CFc} {p : Nat} (h : p < rs.length) : rs.drop p = rs.getD p zFc :: rs.drop (p + 1) := by
  have e : rs.getD p zFc = rs[p] := by simp [List.getD_eq_getElem?_getD, h]
  rw [e]
  exact List.drop_eq_getElem_cons h
theorem dp_at {rs : List CFc} {p : Nat} (h : p < rs.length) : dp (rs.drop p) = dpR (rs.getD p zFc) (dp (rs.drop (p + 1))) := by rw [drop_at h]; rfl
theorem rm_ok {rs : List CFc} (h : ∀ r ∈ rs, FcR r) {w : Nat} (hd : 0 ≤ dp rs w) : ∀ p, p ≤ rs.length → rmN rs w p ≤ w ∧ 0 ≤ dp (rs.drop p) (rmN rs w p)
  | 0, _ => ⟨Nat.le_refl _, hd⟩
  | p + 1, hp => by
    obtain ⟨h1, h2⟩ := rm_ok h hd p (by omega)
    have hr := getFc h (show p < rs.length by omega)
    rw [dp_at (show p < rs.length by omega)] at h2
    obtain ⟨⟨k1, k2⟩, k3⟩ := pk_ok hr h2
    obtain ⟨k6, k7⟩ := gA_yes (by rw [k3]; exact h2)
    exact ⟨Nat.le_trans (Nat.sub_le _ _) h1, k6⟩
theorem cn_ok {rs : List CFc} (h : ∀ r ∈ rs, FcR r) {w : Nat} (hd : 0 ≤ dp rs w) {p : Nat} (hp : p < rs.length) : cnAt rs w p ≤ wiN (rs.getD p zFc) (rmN rs w p) ∧ gA (rs.getD p zFc) (dp (rs.drop (p + 1))) (rmN rs w p) (cnAt rs w p) = dp (rs.drop p) (rmN rs w p) ∧ cnAt rs w p = pkN (rs.getD p zFc) (dp (rs.drop (p + 1))) (rmN rs w p) (dp (rs.drop p) (rmN rs w p)) (wiN (rs.getD p zFc) (rmN rs w p)) := by
  obtain ⟨h1, h2⟩ := rm_ok h hd p (by omega)
  have hr := getFc h hp
  rw [dp_at hp] at h2 ⊢
  obtain ⟨⟨k1, k2⟩, k3⟩ := pk_ok hr h2
  exact ⟨k2, k3, rfl⟩
def bsCode (rs : List CFc) (wd : Int) : Int := if 4096 < rs.length then 2 else if shFault rs wd = 0 then (if dp rs wd.toNat < 0 then 8 else 0) else shFault rs wd
def bsL (rs : List CFc) (wd : Int) : List Int := if bsCode rs wd = 0 then plL rs wd.toNat else []
def bsUs (rs : List CFc) (wd : Int) : Int := if bsCode rs wd = 0 then usN rs (plL rs wd.toNat) rs.length else 0
def bsGa (rs : List CFc) (wd : Int) : Int := if bsCode rs wd = 0 then gaN rs (plL rs wd.toNat) rs.length else 0
def AnsBs (rs : List CFc) (wd : Int) (w : World) (e : Ending) (w' : World) : Prop := AnsS (bsCode rs wd) (bsL rs wd) (bsUs rs wd) (bsGa rs wd) w e w'
theorem bsCode_all {rs : List CFc} {wd : Int} (h : shFault rs wd = 0) : fcAll rs = true ∧ 0 ≤ wd ∧ wd ≤ 2000 := by
  rcases shFault_ways rs wd with ⟨_, e⟩ | ⟨_, _, e⟩ | ⟨_, _, _, e⟩ | ⟨h1, h2, h3, _⟩
  · rw [e] at h; cases h
  · rw [e] at h; cases h
  · rw [e] at h; cases h
  · exact ⟨h1, by omega, by omega⟩
theorem bsCode_ok {rs : List CFc} {wd : Int} (h : bsCode rs wd = 0) : shFault rs wd = 0 ∧ 0 ≤ dp rs wd.toNat := by
  unfold bsCode at h
  by_cases h1 : 4096 < rs.length
  · rw [if_pos h1] at h; omega
  rw [if_neg h1] at h
  by_cases h2 : shFault rs wd = 0
  · rw [if_pos h2] at h
    by_cases h3 : dp rs wd.toNat < 0
    · rw [if_pos h3] at h; omega
    · exact ⟨h2, by omega⟩
  · rw [if_neg h2] at h; exact absurd h h2
theorem bsL_len (rs : List CFc) (wd : Int) : (bsL rs wd).length ≤ 1048576 := by
  unfold bsL
  by_cases h : bsCode rs wd = 0
  · rw [if_pos h]
    obtain ⟨h1, h2⟩ := bsCode_ok h
    have h3 := fcAll_r (bsCode_all h1).1
    rw [(pl_ok rs h3.2 _ h2).1]
    omega
  · rw [if_neg h]; exact Nat.zero_le _
theorem ansBs_none {rs : List CFc} {wd : Int} {w w' : World} {c : Int} (h : bsCode rs wd = c) (hc : c ≠ 0) (hb : Below w.heap.size w w') : AnsBs rs wd w (.returned (.tuple #[.agg #[.slice none 0 0, .int .i64 0, .int .i64 0], .int .i64 c])) w' := by
  have hn : bsCode rs wd ≠ 0 := by rw [h]; exact hc
  unfold AnsBs bsL bsUs bsGa
  rw [if_neg hn, if_neg hn, if_neg hn, h]
  exact ⟨none, 0, rfl, .inl rfl, hb⟩
theorem ansBs_some {rs : List CFc} {wd : Int} {w w' : World} {q : Option Addr} {cq : Nat} (h : bsCode rs wd = 0) (ho : Own2 w.heap.size w' q (plL rs wd.toNat)) (hb : Below w.heap.size w w') : AnsBs rs wd w (.returned (.tuple #[.agg #[.slice q (plL rs wd.toNat).length cq, .int .i64 (usN rs (plL rs wd.toNat) rs.length), .int .i64 (gaN rs (plL rs wd.toNat) rs.length)], .int .i64 0])) w' := by
  unfold AnsBs bsL bsUs bsGa
  rw [if_pos h, if_pos h, if_pos h, h]
  exact ⟨q, cq, rfl, ho, hb⟩
end Go.Proofs.Ytphefbaogfknoaa

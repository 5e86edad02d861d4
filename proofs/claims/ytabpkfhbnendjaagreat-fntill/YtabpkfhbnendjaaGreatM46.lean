/-
  Texts of this claim laid together: SpJ.
-/
import Derived.Test.YtabpkfhbnendjaaGreatM44
import Derived.Test.YtabpkfhbnendjaaGreatM45
/-
  The specification's act is the step of the till.
-/
namespace Go.Proofs.YtabpkfhbnendjaaGreat
open Go.ChangeShapes Go.WideShapes Go.ChangeAt Go.RowKit Go.Deep
set_option linter.unusedVariables false

/-- The till t in the specification's memory, its run in block rb. -/
def SgT (B rb : Nat) (iv : Value) (t : Tl) (W : World) : Prop := ∃ lv kv cv ks, ks.map (fun k : Kb => (k.ls, k.sh)) = t.kept ∧ Sg B rb iv lv t.ls t.sh kv ks t.sl t.tk t.dp cv t.cs W
theorem SgT.later {B rb : Nat} {iv : Value} {t : Tl} {W W' : World} (h : SgT B rb iv t W) (hb : Below W.heap.size W W') : SgT B rb iv t W' := by
  obtain ⟨lv, kv, cv, ks, h1, h2⟩ := h
  exact ⟨lv, kv, cv, ks, h1, h2.later hb⟩
/-- A block of a run, of lines, of baskets or of numbers, from B on. -/
def SX (B : Nat) (w : World) : Nat → Prop := fun k => B ≤ k ∧ ∃ cur T, w.heap[k]? = some (.cells cur T (0, 0)) ∧ (T = 56 ∨ T = 82 ∨ T = 30 ∨ T = 3)
theorem RgX_SX {B rb : Nat} {iv lv : Value} {ls : List RLi} {sh : Int} {kv : Value} {ks : List Kb} {sl tk dp : Int} {cv : Value} {cs : List Int} {W : World} (h : Sg B rb iv lv ls sh kv ks sl tk dp cv cs W) : ∀ k, RgX rb lv kv k → SX B W k := by
  rintro k (e | e | e)
  · rw [e]; exact ⟨h.low, _, _, h.reg, .inl rfl⟩
  · obtain ⟨cur, hc⟩ := row_type h.lrow e; exact ⟨(row_lt h.lrow k e).1, cur, _, hc, .inr (.inl rfl)⟩
  · obtain ⟨cur, hc⟩ := row_type h.krow e; exact ⟨(row_lt h.krow k e).1, cur, _, hc, .inr (.inr (.inl rfl))⟩
theorem CvX_SX {B rb : Nat} {iv lv : Value} {ls : List RLi} {sh : Int} {kv : Value} {ks : List Kb} {sl tk dp : Int} {cv : Value} {cs : List Int} {W : World} (h : Sg B rb iv lv ls sh kv ks sl tk dp cv cs W) : ∀ k, (k = rb ∨ cv.ownBlock = some k) → SX B W k := by
  rintro k (e | e)
  · rw [e]; exact ⟨h.low, _, _, h.reg, .inl rfl⟩
  · obtain ⟨cur, hc⟩ := row_type h.crow e; exact ⟨(row_lt h.crow k e).1, cur, _, hc, .inr (.inr (.inr rfl))⟩
theorem RbX_SX {B rb : Nat} {iv lv : Value} {ls : List RLi} {sh : Int} {kv : Value} {ks : List Kb} {sl tk dp : Int} {cv : Value} {cs : List Int} {W : World} (h : Sg B rb iv lv ls sh kv ks sl tk dp cv cs W) : ∀ k, k = rb → SX B W k := by
  rintro k e
  rw [e]; exact ⟨h.low, _, _, h.reg, .inl rfl⟩
set_option maxHeartbeats 4000000 in
theorem actS_any (R : ByteArray → Int × ByteArray × Int × Int) (hR : RsS R) (hv : ∀ s, 0 ≤ (R s).2.2.1 ∧ (R s).2.2.1 ≤ 99999) (ia : Option Addr) (ic : Nat) (its : List RIt) (hok : ∀ r ∈ its, ItN r) (hil : its.length ≤ 40) (B rb m : Nat) (hm : m ≤ 200) (t : Tl) (ht : TlOK its m t) (a : RTa) (w : World) (hg : SgT B rb (.slice ia its.length ic) t w) (hI : ReadsIt B w ia its) (hB : B ≤ w.heap.size) :
    Calls Tryz.prog 16 #[.pointer (some ⟨rb, 0, none⟩), .agg #[.int .i64 a.kd, .string a.tx, .int .i64 a.nm]] w fun e w' => e = .returned (.tuple #[.int .i64 (stepO R its a t).2, .int .i64 (stepO R its a t).1]) ∧ Fr (SX B w) w w' ∧ SgT B rb (.slice ia its.length ic) (stepT R its a t) w' := by
  obtain ⟨lv, kv, cv, ks, hks, hg⟩ := hg
  obtain ⟨kd, tx, n⟩ := a
  dsimp only
  have hcs := ht.cs.1
  have hkl : ks.length = t.kept.length := by rw [← hks, List.length_map]
  obtain ⟨la, lc, rfl⟩ := row_slice hg.lrow
  obtain ⟨ka, kc, hkv⟩ := row_slice hg.krow
  have hN := ht.now.nn
  have hl50 := ht.now.len
  have key : ∀ (ac num : Int) (t' : Tl), actE R its ⟨kd, tx, n⟩ t = ac → actN R its ⟨kd, tx, n⟩ t = num → actT R its ⟨kd, tx, n⟩ t = t' → ∀ (e : Ending) (w' : World), ((ac ≠ 0 ∧ e = .returned (.tuple #[.int .i64 0, .int .i64 ac]) ∧ Below w.heap.size w w') ∨ (ac = 0 ∧ e = .returned (.tuple #[.int .i64 num, .int .i64 0]) ∧ Fr (SX B w) w w' ∧ SgT B rb (.slice ia its.length ic) t' w')) → e = .returned (.tuple #[.int .i64 (stepO R its ⟨kd, tx, n⟩ t).2, .int .i64 (stepO R its ⟨kd, tx, n⟩ t).1]) ∧ Fr (SX B w) w w' ∧ SgT B rb (.slice ia its.length ic) (stepT R its ⟨kd, tx, n⟩ t) w' := fun ac num t' h1 h2 h3 e w' h => by
    unfold stepO stepT
    rw [h1, h2, h3]
    rcases h with ⟨hne, he, hb⟩ | ⟨h0, he, hf, hq⟩
    · rw [if_neg hne, if_neg hne]
      exact ⟨he, Fr.of hb, SgT.later ⟨_, _, _, ks, hks, hg⟩ hb⟩
    · rw [if_pos h0, if_pos h0]
      exact ⟨he, hf, hq⟩
  by_cases hE : deedE R its kd tx n = 0
  · have hae : ∀ c, (if kd = 1 then scanC t.ls t.sh (scanL R its tx n).am (scanL R its tx n).dp (scanG R its tx n) else if kd = 2 then voidC t.ls n else if kd = 3 then showC n else if kd = 4 then suspC t.ls t.kept.length else if kd = 5 then resC t.ls t.kept.length n else payC t.ls n) = c → actE R its ⟨kd, tx, n⟩ t = c := fun c h => by unfold actE; rw [if_neg (by simp [hE])]; exact h
    rcases deedE_kind hE with ⟨rfl, hs⟩ | rfl | rfl | rfl | rfl | rfl
    · refine (actS_scan B rb _ la lc t.ls hl50 t.sh kv ks t.sl t.tk t.dp cv t.cs 1 tx n w hg rfl (fun x c w' => (c ≠ 0 ∧ x = 0 ∧ scanC t.ls t.sh (scanL R its tx n).am (scanL R its tx n).dp (scanG R its tx n) = c ∧ Below w.heap.size w w') ∨ (c = 0 ∧ scanC t.ls t.sh (scanL R its tx n).am (scanL R its tx n).dp (scanG R its tx n) = 0 ∧ x = (scanL R its tx n).am + (scanL R its tx n).dp ∧ Fr (SX B w) w w' ∧ SgT B rb (.slice ia its.length ic) { t with ls := t.ls ++ [scanL R its tx n] } w')) (fun W hW => ?_)).mono ?_
      · refine (scanS_ok R hR hv ia ic its hok hil B rb la lc t.ls hN hl50 t.sh kv ks t.sl t.tk t.dp cv t.cs tx n W (hg.later hW) (hI.below (hW.mono hB)) (Nat.le_trans hB hW.size) hs ht.now.tot).mono ?_
        rintro e w' (⟨c, hc, h1, he, hb⟩ | ⟨h1, he, hf, lv', hq⟩)
        · exact ⟨0, c, he, .inl ⟨hc, rfl, h1, chain hW hb⟩⟩
        · exact ⟨_, 0, he, .inr ⟨rfl, h1, rfl, ((Fr.of hW).trans hf).mono (RgX_SX hg), lv', kv, cv, ks, hks, hq⟩⟩
      · rintro e w' ⟨x, c, he, h | h⟩
        · obtain ⟨hc, rfl, h1, hb⟩ := h
          exact key c _ _ (hae _ h1) rfl rfl e w' (.inl ⟨hc, he, hb⟩)
        · obtain ⟨rfl, h1, rfl, hf, hq⟩ := h
          exact key 0 _ _ (hae _ h1) rfl rfl e w' (.inr ⟨rfl, he, hf, hq⟩)
    · by_cases hin : 0 ≤ n ∧ n < (t.ls.length : Int)
      · obtain ⟨i, rfl⟩ : ∃ i : Nat, n = (i : Int) := ⟨n.toNat, by omega⟩
        refine (actS_void B rb _ la lc t.ls hl50 t.sh kv ks t.sl t.tk t.dp cv t.cs 2 tx (i : Int) w hg i rfl rfl (by omega) hN hB).mono ?_
        rintro e w' ⟨h1, h2, lv', h3⟩
        refine key 0 _ _ (hae _ (by simp only [show ((2 : Int) = 1) = False by simp, if_false, if_true]; unfold voidC; rw [if_pos hin])) rfl rfl e w' (.inr ⟨rfl, ?_, h2.mono (RgX_SX hg), lv', kv, cv, ks, hks, ?_⟩)
        · rw [h1]; simp [actN]
        · simpa [actT] using h3
      · refine (actS_void8 B rb _ la lc t.ls hl50 t.sh kv ks t.sl t.tk t.dp cv t.cs 2 tx n w hg rfl hin).mono ?_
        rintro e w' ⟨h1, h2⟩
        exact key 8 _ _ (hae _ (by simp only [show ((2 : Int) = 1) = False by simp, if_false, if_true]; unfold voidC; rw [if_neg hin])) rfl rfl e w' (.inl ⟨by omega, h1, h2⟩)
    · by_cases hin : 0 ≤ n ∧ n ≤ 120
      · refine (actS_show B rb _ la lc t.ls hl50 t.sh kv ks t.sl t.tk t.dp cv t.cs 3 tx n w hg rfl hin).mono ?_
        rintro e w' ⟨h1, h2, h3⟩
        exact key 0 _ _ (hae _ (by simp [showC, hin])) rfl rfl e w' (.inr ⟨rfl, by rw [h1]; simp [actN], h2.mono (RbX_SX hg), _, kv, cv, ks, by simpa [actT] using hks, by simpa [actT] using h3⟩)
      · refine (actS_show5 B rb _ la lc t.ls hl50 t.sh kv ks t.sl t.tk t.dp cv t.cs 3 tx n w hg rfl hin).mono ?_
        rintro e w' ⟨h1, h2⟩
        exact key 5 _ _ (hae _ (by simp only [show ((3 : Int) = 1) = False by simp, show ((3 : Int) = 2) = False by simp, if_false, if_true]; unfold showC; rw [if_neg hin])) rfl rfl e w' (.inl ⟨by omega, h1, h2⟩)
    · by_cases h0 : (t.ls.length : Int) = 0
      · refine (actS_susp12 B rb _ la lc t.ls hl50 t.sh kv ks t.sl t.tk t.dp cv t.cs 4 tx n w hg rfl h0).mono ?_
        rintro e w' ⟨h1, h2⟩
        exact key 12 _ _ (hae _ (by simp only [show ((4 : Int) = 1) = False by simp, show ((4 : Int) = 2) = False by simp, show ((4 : Int) = 3) = False by simp, if_false, if_true]; unfold suspC; rw [if_pos h0])) rfl rfl e w' (.inl ⟨by omega, h1, h2⟩)
      · by_cases h5 : (ks.length : Int) = 5
        · refine (actS_susp14 B rb _ la lc t.ls hl50 t.sh kv ks t.sl t.tk t.dp cv t.cs 4 tx n w hg ka kc hkv rfl h0 h5).mono ?_
          rintro e w' ⟨h1, h2⟩
          exact key 14 _ _ (hae _ (by simp only [show ((4 : Int) = 1) = False by simp, show ((4 : Int) = 2) = False by simp, show ((4 : Int) = 3) = False by simp, if_false, if_true]; unfold suspC; rw [if_neg h0, if_pos (by omega)])) rfl rfl e w' (.inl ⟨by omega, h1, h2⟩)
        · refine (actS_susp B rb _ la lc t.ls hl50 t.sh kv ks t.sl t.tk t.dp cv t.cs 4 tx n w hg ka kc hkv rfl h0 (by have := ht.many; omega) hB).mono ?_
          rintro e w' ⟨h1, h2, kv', h3⟩
          refine key 0 _ _ (hae _ (by simp only [show ((4 : Int) = 1) = False by simp, show ((4 : Int) = 2) = False by simp, show ((4 : Int) = 3) = False by simp, if_false, if_true]; unfold suspC; rw [if_neg h0, if_neg (by omega)])) rfl rfl e w' (.inr ⟨rfl, ?_, h2.mono (RgX_SX hg), .slice none 0 0, kv', cv, ks ++ [Kb.mk (.slice la t.ls.length lc) t.ls t.sh], ?_, ?_⟩)
          · rw [h1, hkl]; simp [actN]
          · rw [List.map_append, hks]; simp [actT]
          · simpa [actT] using h3
    · by_cases hin : 0 ≤ n ∧ n < (ks.length : Int)
      · by_cases h0 : (t.ls.length : Int) = 0
        · obtain ⟨i, rfl⟩ : ∃ i : Nat, n = (i : Int) := ⟨n.toNat, by omega⟩
          have hi : i < ks.length := by omega
          have hka := kb_at hks i hi
          refine (actS_resume B rb _ la lc t.ls hl50 t.sh kv ks t.sl t.tk t.dp cv t.cs 5 tx (i : Int) w hg i ka kc hkv rfl rfl hi (by have := ht.many; omega) (by omega) (fun k hk l hl => ?_) (fun k hk => ?_) hB).mono ?_
          · exact (ht.kept (k.ls, k.sh) (by rw [← hks]; exact List.mem_map.2 ⟨k, hk, rfl⟩)).nn l hl
          · exact (ht.kept (k.ls, k.sh) (by rw [← hks]; exact List.mem_map.2 ⟨k, hk, rfl⟩)).len
          rintro e w' ⟨h1, h2, kv', h3⟩
          refine key 0 _ _ (hae _ (by simp only [show ((5 : Int) = 1) = False by simp, show ((5 : Int) = 2) = False by simp, show ((5 : Int) = 3) = False by simp, show ((5 : Int) = 4) = False by simp, if_false, if_true]; unfold resC; rw [if_pos (by omega), if_pos h0])) rfl rfl e w' (.inr ⟨rfl, ?_, h2.mono (RgX_SX hg), (ks.getD i zKb).v, kv', cv, ks.take i ++ ks.drop (i + 1), ?_, ?_⟩)
          · rw [h1]
            simp only [actN, show ((5 : Int) = 1) = False by simp, show ((5 : Int) = 2) = False by simp, show ((5 : Int) = 3) = False by simp, show ((5 : Int) = 4) = False by simp, if_false, if_true, Int.toNat_natCast]
            rw [← hka]
          · rw [List.map_append, List.map_take, List.map_drop, hks]
            simp [actT]
          · simp only [actT, show ((5 : Int) = 1) = False by simp, show ((5 : Int) = 2) = False by simp, show ((5 : Int) = 3) = False by simp, show ((5 : Int) = 4) = False by simp, if_false, if_true, Int.toNat_natCast]
            rw [← hka]
            exact h3
        · refine (actS_res12 B rb _ la lc t.ls hl50 t.sh kv ks t.sl t.tk t.dp cv t.cs 5 tx n w hg ka kc hkv rfl hin h0).mono ?_
          rintro e w' ⟨h1, h2⟩
          exact key 12 _ _ (hae _ (by simp only [show ((5 : Int) = 1) = False by simp, show ((5 : Int) = 2) = False by simp, show ((5 : Int) = 3) = False by simp, show ((5 : Int) = 4) = False by simp, if_false, if_true]; unfold resC; rw [if_pos (by omega), if_neg h0])) rfl rfl e w' (.inl ⟨by omega, h1, h2⟩)
      · refine (actS_res8 B rb _ la lc t.ls hl50 t.sh kv ks t.sl t.tk t.dp cv t.cs 5 tx n w hg ka kc hkv rfl hin).mono ?_
        rintro e w' ⟨h1, h2⟩
        exact key 8 _ _ (hae _ (by simp only [show ((5 : Int) = 1) = False by simp, show ((5 : Int) = 2) = False by simp, show ((5 : Int) = 3) = False by simp, show ((5 : Int) = 4) = False by simp, if_false, if_true]; unfold resC; rw [if_neg (by omega)])) rfl rfl e w' (.inl ⟨by omega, h1, h2⟩)
    · have hsix : ∀ c, payC t.ls n = c → actE R its ⟨6, tx, n⟩ t = c := fun c h => hae _ (by simp only [show ((6 : Int) = 1) = False by simp, show ((6 : Int) = 2) = False by simp, show ((6 : Int) = 3) = False by simp, show ((6 : Int) = 4) = False by simp, show ((6 : Int) = 5) = False by simp, if_false]; exact h)
      by_cases h0 : t.ls.length = 0
      · refine (actS_pay B rb _ la lc t.ls hl50 t.sh kv ks t.sl t.tk t.dp cv t.cs 6 tx n w hg rfl (fun x c w' => x = 0 ∧ c = 12 ∧ Below w.heap.size w w') (fun W hW => (payS_none ia ic its B rb la lc t.ls hN hl50 t.sh kv ks t.sl t.tk t.dp cv t.cs n W (hg.later hW) h0).mono (fun e w' h => ⟨0, 12, h.1, rfl, rfl, chain hW h.2⟩))).mono ?_
        rintro e w' ⟨x, c, he, rfl, rfl, hb⟩
        exact key 12 _ _ (hsix _ (by unfold payC; rw [if_pos (by omega)])) rfl rfl e w' (.inl ⟨by omega, he, hb⟩)
      · by_cases h1 : n < totL t.ls
        · refine (actS_pay B rb _ la lc t.ls hl50 t.sh kv ks t.sl t.tk t.dp cv t.cs 6 tx n w hg rfl (fun x c w' => x = 0 ∧ c = 19 ∧ Below w.heap.size w w') (fun W hW => (payS_short ia ic its B rb la lc t.ls hN hl50 t.sh kv ks t.sl t.tk t.dp cv t.cs n W (hg.later hW) h0 h1).mono (fun e w' h => ⟨0, 19, h.1, rfl, rfl, chain hW h.2⟩))).mono ?_
          rintro e w' ⟨x, c, he, rfl, rfl, hb⟩
          exact key 19 _ _ (hsix _ (by unfold payC; rw [if_neg (by omega), if_pos h1])) rfl rfl e w' (.inl ⟨by omega, he, hb⟩)
        · by_cases h2 : 1000000000 < n
          · refine (actS_pay B rb _ la lc t.ls hl50 t.sh kv ks t.sl t.tk t.dp cv t.cs 6 tx n w hg rfl (fun x c w' => x = 0 ∧ c = 5 ∧ Below w.heap.size w w') (fun W hW => (payS_much ia ic its B rb la lc t.ls hN hl50 t.sh kv ks t.sl t.tk t.dp cv t.cs n W (hg.later hW) h0 (by omega) h2).mono (fun e w' h => ⟨0, 5, h.1, rfl, rfl, chain hW h.2⟩))).mono ?_
            rintro e w' ⟨x, c, he, rfl, rfl, hb⟩
            exact key 5 _ _ (hsix _ (by unfold payC; rw [if_neg (by omega), if_neg h1, if_pos h2])) rfl rfl e w' (.inl ⟨by omega, he, hb⟩)
          · have h4 := ht.sl
            have h5 := ht.tk
            have h6 := ht.dp
            refine (actS_pay B rb _ la lc t.ls hl50 t.sh kv ks t.sl t.tk t.dp cv t.cs 6 tx n w hg rfl (fun x c w' => x = n - totL t.ls ∧ c = 0 ∧ Fr (fun k => k = rb ∨ cv.ownBlock = some k) w w' ∧ Sg B rb (.slice ia its.length ic) (.slice none 0 0) [] 0 kv ks (t.sl + 1) (t.tk + totL t.ls) (depM t.dp t.ls) cv (clsM its t.cs t.ls) w') (fun W hW => (payS_ok ia ic its B rb la lc t.ls hN hl50 t.sh kv ks t.sl t.tk t.dp cv t.cs n W (hg.later hW) hok hil ht.now.each (hI.below (hW.mono hB)) (Nat.le_trans hB hW.size) ⟨by omega, by omega⟩ ⟨by omega, by omega⟩ ⟨by omega, by omega⟩ (ht.cs.mono (by omega)) h0 (by omega) (by omega)).mono (fun e w' h => ⟨_, 0, h.1, rfl, rfl, (Fr.of hW).trans h.2.1, h.2.2⟩))).mono ?_
            rintro e w' ⟨x, c, he, rfl, rfl, hf, hq⟩
            refine key 0 _ _ (hsix _ (by unfold payC; rw [if_neg (by omega), if_neg h1, if_neg h2])) rfl rfl e w' (.inr ⟨rfl, ?_, hf.mono (CvX_SX hg), .slice none 0 0, kv, cv, ks, ?_, ?_⟩)
            · rw [he]; simp [actN]
            · rw [hks]; simp [actT]
            · simpa [actT] using hq
  · have hA : actE R its ⟨kd, tx, n⟩ t = deedE R its kd tx n := by unfold actE; rw [if_pos hE]
    by_cases h1 : kd = 1
    · subst h1
      have hE' : scanE R its tx n ≠ 0 := by unfold deedE at hE; simpa using hE
      have hd : deedE R its 1 tx n = scanE R its tx n := by unfold deedE; simp
      refine (actS_scan B rb _ la lc t.ls hl50 t.sh kv ks t.sl t.tk t.dp cv t.cs 1 tx n w hg rfl (fun x c w' => x = 0 ∧ c = scanE R its tx n ∧ Below w.heap.size w w') (fun W hW => ?_)).mono ?_
      · exact (scanS_code R hR hv ia ic its hok hil B rb la lc t.ls hN hl50 t.sh kv ks t.sl t.tk t.dp cv t.cs tx n W (hg.later hW) (hI.below (hW.mono hB)) (Nat.le_trans hB hW.size) hE').mono (fun e w' h => ⟨0, _, h.1, rfl, rfl, chain hW h.2⟩)
      · rintro e w' ⟨x, c, he, rfl, rfl, hb⟩
        exact key (scanE R its tx n) _ _ (by rw [hA, hd]) rfl rfl e w' (.inl ⟨hE', he, hb⟩)
    · have hk : kd < 1 ∨ 6 < kd := by
        unfold deedE at hE
        rw [if_neg h1] at hE
        split at hE
        · exact absurd rfl hE
        · omega
      have hd : deedE R its kd tx n = 13 := by
        unfold deedE
        rw [if_neg h1, if_neg (by omega)]
      refine (actS_none B rb _ la lc t.ls hl50 t.sh kv ks t.sl t.tk t.dp cv t.cs kd tx n w hg hk).mono ?_
      rintro e w' ⟨h1, h2⟩
      exact key 13 _ _ (by rw [hA, hd]) rfl rfl e w' (.inl ⟨by omega, h1, h2⟩)
end Go.Proofs.YtabpkfhbnendjaaGreat

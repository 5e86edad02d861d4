/-
  The scanner's scan, for every text: at each label one step of the reader.
-/
import Derived.Test.YtjnlghngneonhaaScN
namespace Go.Proofs.Ytjnlghngneonhaa
open Go.ChangeShapes Go.WideShapes Go.ChangeAt Go.RowKit Go.Joins Go.Deep
set_option linter.unusedVariables false
set_option linter.unusedSimpArgs false

theorem tag_le {t : ByteArray} {pl k : Nat} (hp : pl ≤ t.size) (h : tagF t pl = some k) : pl + k ≤ t.size := by
  unfold tagF at h
  cases h0 : letAt t pl
  · rw [h0] at h; simp at h; omega
  · have := letAt_lt h0
    cases h1 : letAt t (pl + 1)
    · rw [h0, h1] at h; simp at h; omega
    · have := letAt_lt h1
      cases h2 : letAt t (pl + 2)
      · rw [h0, h1, h2] at h; simp at h; omega
      · rw [h0, h1, h2] at h; simp at h
theorem lt_of_nx {t : ByteArray} {pl : Nat} (hp : pl ≤ t.size) (h : nxB t pl ≠ -1) : pl < t.size := by
  rcases Nat.lt_or_ge pl t.size with h1 | h1
  · exact h1
  · exact absurd (nxB_end (by omega)) h
set_option maxHeartbeats 8000000 in
set_option maxRecDepth 8000 in
theorem scan_any {B sb : Nat} {t : ByteArray} {fin : Int × Nat × List CSg} (hz : t.size ≤ 65536) (w : World) (m0 : Nat) (h : RdJ B sb t fin w 0 m0 w) :
    Calls Try.prog 23 #[.pointer (some ⟨sb, 0, none⟩)] w (ScA B sb t fin w) := by
  have H : Hid (RdJ B sb t fin w 0 m0 w) := h
  clear h
  go_enter Try.func23, Try.ntmps23
  go_wp2
  refine wp_scope_all (fun l n a W => ∃ u1 u2 u3 u4 u5 u6 u7 u8 u9 u10 u11 u12 u13 u14 u15 u16 u17 u18 u19 u20 u21 u22 u23 u24 u25 u26 u27 u28 u29 u30 u31 u32 u33 u34 u35 u36 u37 u38 u39 u40 u41 u42 u43 u44 u45 u46 u47 u48 u49 u50 u51 u52 u53 u54 u55 u56 u57 u58 u59 u60 u61 u62 u63 u64 u65 u66 u67 : Value, a = ⟨#[.pointer (some ⟨sb, 0, none⟩), u1, u2, u3, u4, u5, u6, u7, u8, u9, u10, u11, u12, u13, u14, u15, u16, u17, u18, u19, u20, u21, u22, u23, u24, u25, u26, u27, u28, u29, u30, u31, u32, u33, u34, u35, u36, u37, u38, u39, u40, u41, u42, u43, u44, u45, u46, u47, u48, u49, u50, u51, u52, u53, u54, u55, u56, u57, u58, u59, u60, u61, u62, u63, u64, u65, u66, u67], []⟩ ∧ ∃ lb, (l = 0 ∧ lb = 0 ∨ l = 2 ∧ lb = 1 ∨ l = 1 ∧ lb = 2) ∧ RdJ B sb t fin w lb n W) ?_ ?_
  · have hJ : RdJ B sb t fin w 0 m0 w := H.out
    clear H
    obtain ⟨m, hm1⟩ : ∃ m, m = m0 := ⟨_, rfl⟩
    obtain ⟨n, hm2⟩ : ∃ n, n = m0 := ⟨_, rfl⟩
    rw [← hm1] at hJ
    have hm : m ≤ n := by omega
    clear hm1 hm2
    obtain ⟨pb, fr, pl, E, la, lk, tg, ps, pa, pk, pt, qa, qk, hv, hfr, hn, hf, hr, hb⟩ := hJ
    obtain rfl := hv.q2 (by decide)
    have hp : pl ≤ t.size := hv.pl
    have HV : Hid (RdV t 0 pl E.length ps []) := hv
    have HN : Hid (muR t ⟨0, pl, E.map (·.c), tg, ps, []⟩ = m) := hn
    have HF : Hid (rdEnd t ⟨0, pl, E.map (·.c), tg, ps, []⟩ = fin) := hf
    have HR : Hid (RdI B sb (pb) fr t (pl) (E) (la) (lk) (tg) (ps) (pa) (pk) ([]) (qa) (qk) w ∧ Below B w w) := ⟨hr, hb⟩
    clear hv hfr hn hf hr hb
    go_wp2_with fail
    refine wp_label ?_
    go_wp2_with fail
    (first | go_at_call 39 | skip)
    refine (scNext_any hz hp _ HR.out.1).mono ?_
    rintro e W1 ⟨rfl, h1, hb1⟩
    have HR1 : Hid (RdI B sb (pb) fr t (pl) (E) (la) (lk) (tg) (ps) (pa) (pk) ([]) (qa) (qk) W1 ∧ Below B w W1) := ⟨h1, HR.out.2.trans (hb1.mono (by have := HR.out.1.lt; have := HR.out.1.ge; omega))⟩
    clear h1 hb1 HR
    by_cases he : pl = t.size
    · rw [nxB_end he]
      go_wp2_with fail
      go_ret
      exact sc_good (rd0a he) HF.out hp HV.out.o1 HR1.out.1 HR1.out.2
    have hlt : pl < t.size := by omega
    have hrg := @nxB_rg t pl
    obtain ⟨c, hc⟩ : ∃ c, nxB t pl = c := ⟨_, rfl⟩
    rw [hc]
    have b1 : (c == -1) = false := by
      rw [nxB_in hlt] at hc
      have := byL_range t pl
      simp; omega
    clear hc hrg
    obtain ⟨⟨_, _, f2, _⟩, _, _⟩ := HR1.out.1.cells
    by_cases hE : E.length = 200
    · have e2 : ((E.length : Int) == 200) = true := by simp; omega
      go_wp2_with fail
      go_ret
      exact sc_bad (rd0b hlt (by rw [List.length_map]; exact hE)) HF.out (by decide) hp HV.out.o1 HR1.out.1 HR1.out.2
    have e2 : ((E.length : Int) == 200) = false := by simp; omega
    go_wp2_with fail
    (first | go_at_call 40 | skip)
    refine (takeTag_any hz hp _ HR1.out.1).mono ?_
    intro e W2 hA
    clear f2
    unfold TgA at hA
    cases hT : tagF t pl with
    | some k =>
      rw [hT] at hA
      obtain ⟨⟨rfl, h2⟩, hb2⟩ := hA
      have hk : pl + k ≤ t.size := tag_le hp hT
      have HX : Hid (RdI B sb (pb) fr t (pl + k) (E) (la) (lk) (tg) (ps) (pa) (pk) ([]) (qa) (qk) W2 ∧ Below B w W2) := ⟨h2, HR1.out.2.trans hb2⟩
      clear h2 hb2
      go_wp2_with fail
      go_ret
      exact sc_bad (rd0c hlt (by rw [List.length_map]; exact hE) hT) HF.out (by decide) hk HV.out.o1 HX.out.1 HX.out.2
    | none =>
      rw [hT] at hA
      obtain ⟨⟨rfl, pb2, h2⟩, hb2⟩ := hA
      have hk : pl + 3 ≤ t.size := letAt_lt (tagF_none hT).2.2
      have HJ : Hid (∃ n', n' < m ∧ RdJ B sb t fin w 1 n' W2) := sc_on (lb := 1) (rd0d hlt (by rw [List.length_map]; exact hE) hT) hp HN.out HF.out ⟨hk, HV.out.o1, fun _ => by have := HV.out.o1; omega, by simp, fun _ => by simp, by simp, fun _ => rfl⟩ (fun _ => rfl) h2 (HR1.out.2.trans hb2)
      clear h2 hb2 hk HV HN HF HR1 hT hlt he b1 e2 hE hp
      obtain ⟨m2, hm2, hJ⟩ := HJ.out
      clear HJ
      have hm3 : m2 ≤ n := by omega
      clear hm2 hm
      obtain ⟨m, rfl⟩ : ∃ m, m = m2 := ⟨_, rfl⟩
      have hm : m ≤ n := hm3
      clear hm3
      obtain ⟨pb, fr, pl, E, la, lk, tg, ps, pa, pk, pt, qa, qk, hv, hfr, hn, hf, hr, hb⟩ := hJ
      obtain rfl := hfr (by decide)
      obtain rfl := hv.q2 (by decide)
      have hp : pl ≤ t.size := hv.pl
      have HV : Hid (RdV t 1 pl E.length ps []) := hv
      have HN : Hid (muR t ⟨1, pl, E.map (·.c), tg, ps, []⟩ = m) := hn
      have HF : Hid (rdEnd t ⟨1, pl, E.map (·.c), tg, ps, []⟩ = fin) := hf
      have HR : Hid (RdI B sb (pb) true t (pl) (E) (la) (lk) (tg) (ps) (pa) (pk) ([]) (qa) (qk) W2 ∧ Below B w W2) := ⟨hr, hb⟩
      clear hv hfr hn hf hr hb
      go_wp2_with fail
      refine wp_label ?_
      go_wp2_with fail
      (first | go_at_call 39 | skip)
      refine (scNext_any hz hp _ HR.out.1).mono ?_
      rintro e W1 ⟨rfl, h1, hb1⟩
      have HR1 : Hid (RdI B sb (pb) true t (pl) (E) (la) (lk) (tg) (ps) (pa) (pk) ([]) (qa) (qk) W1 ∧ Below B w W1) := ⟨h1, HR.out.2.trans (hb1.mono (by have := HR.out.1.lt; have := HR.out.1.ge; omega))⟩
      clear h1 hb1 HR
      by_cases c39 : nxB t pl = 39
      · rw [c39]
        have hlt : pl < t.size := lt_of_nx hp (by rw [c39]; decide)
        have hc : (byL t).getD pl 0 = 39 := by rw [← nxB_in hlt]; exact c39
        go_wp2_with fail
        (first | go_at_call 41 | skip)
        refine (endSegment_any hz hp HV.out.o1 _ HR1.out.1).mono ?_
        rintro e W2 ⟨rfl, ⟨la2, lk2, h2⟩, hb2⟩
        have HJ : Hid (∃ n', n' < m ∧ RdJ B sb t fin w 0 n' W2) := sc_on (lb := 0) (E := E ++ [⟨⟨tg, ps⟩, pa, pk⟩]) (by rw [rd1a hlt hc, List.map_append]; rfl) hp HN.out HF.out ⟨hlt, by rw [List.length_append]; have := HV.out.o2 (by decide); simp; omega, fun e => absurd rfl e, HV.out.p1, fun e => (by cases e), by simp, fun _ => rfl⟩ (fun e => absurd rfl e) h2 (HR1.out.2.trans hb2)
        clear h2 hb2
        go_wp2_with fail
        try (refine wp_goto ?_)
        (try simp only [Exit.inBlock, Exit.then, jumps])
        obtain ⟨n', hn', hJ'⟩ := HJ.out
        exact ⟨n', _, _, _, _, _, _, _, _, _, _, _, _, _, _, _, _, _, _, _, _, _, _, _, _, _, _, _, _, _, _, _, _, _, _, _, _, _, _, _, _, _, _, _, _, _, _, _, _, _, _, _, _, _, _, _, _, _, _, _, _, _, _, _, _, _, _, _, rfl, 0, by simp, hJ'⟩
      have b39 : (nxB t pl == 39) = false := by simp [c39]
      by_cases c43 : nxB t pl = 43
      · have hlt : pl < t.size := lt_of_nx hp (by rw [c43]; decide)
        have hc : (byL t).getD pl 0 = 43 := by rw [← nxB_in hlt]; exact c43
        rw [c43]
        clear b39
        obtain ⟨⟨_, f1, _, _⟩, ⟨f4, _⟩, fz⟩ := HR1.out.1.cells
        have z1 := fz 1
        clear fz
        by_cases hP : ps.length = 20
        · have e2 : ((ps.length : Int) == 20) = true := by simp; omega
          go_wp2_with fail
          go_ret
          exact sc_bad (rd1b hlt hc hP) HF.out (by decide) hp HV.out.o1 HR1.out.1 HR1.out.2
        have e2 : ((ps.length : Int) == 20) = false := by simp; omega
        have HJ : Hid (∃ n', n' < m ∧ RdJ B sb t fin w 2 n' (W1.setCell ⟨sb, 1, none⟩ (.int .i64 ((pl : Int) + 1)))) := by
          have k := HR1.out.1.setPl (pl + 1)
          rw [show ((pl + 1 : Nat) : Int) = (pl : Int) + 1 by omega] at k
          exact sc_on (lb := 2) (rd1c hlt hc hP) hp HN.out HF.out ⟨hlt, HV.out.o1, fun _ => HV.out.o2 (by decide), HV.out.p1, fun _ => by have := HV.out.p1; omega, by simp, fun _ => rfl⟩ (fun _ => rfl) k.1 (HR1.out.2.trans k.2)
        go_wp2_with fail
        try (refine wp_goto ?_)
        (try simp only [Exit.inBlock, Exit.then, jumps])
        obtain ⟨n', hn', hJ'⟩ := HJ.out
        exact ⟨n', _, _, _, _, _, _, _, _, _, _, _, _, _, _, _, _, _, _, _, _, _, _, _, _, _, _, _, _, _, _, _, _, _, _, _, _, _, _, _, _, _, _, _, _, _, _, _, _, _, _, _, _, _, _, _, _, _, _, _, _, _, _, _, _, _, _, _, rfl, 2, by simp, hJ'⟩
      have b43 : (nxB t pl == 43) = false := by simp [c43]
      have HX : Hid (pl < t.size → (byL t).getD pl 0 ≠ 39 ∧ (byL t).getD pl 0 ≠ 43) := fun h => by rw [← nxB_in h]; exact ⟨c39, c43⟩
      clear c39 c43
      generalize nxB t pl = c at *
      go_wp2_with fail
      go_ret
      exact sc_bad (rd1d HX.out) HF.out (by decide) hp HV.out.o1 HR1.out.1 HR1.out.2
  · intro l n a W hJ
    obtain ⟨u1, u2, u3, u4, u5, u6, u7, u8, u9, u10, u11, u12, u13, u14, u15, u16, u17, u18, u19, u20, u21, u22, u23, u24, u25, u26, u27, u28, u29, u30, u31, u32, u33, u34, u35, u36, u37, u38, u39, u40, u41, u42, u43, u44, u45, u46, u47, u48, u49, u50, u51, u52, u53, u54, u55, u56, u57, u58, u59, u60, u61, u62, u63, u64, u65, u66, u67, rfl, lb, hl, hJ⟩ := hJ
    clear H
    obtain ⟨m, hmn⟩ : ∃ m, m = n := ⟨_, rfl⟩
    rw [← hmn] at hJ
    have hm : m ≤ n := Nat.le_of_eq hmn
    clear hmn
    rcases hl with ⟨rfl, rfl⟩ | ⟨rfl, rfl⟩ | ⟨rfl, rfl⟩
    · refine ⟨_, rfl, ?_⟩
      obtain ⟨pb, fr, pl, E, la, lk, tg, ps, pa, pk, pt, qa, qk, hv, hfr, hn, hf, hr, hb⟩ := hJ
      obtain rfl := hv.q2 (by decide)
      have hp : pl ≤ t.size := hv.pl
      have HV : Hid (RdV t 0 pl E.length ps []) := hv
      have HN : Hid (muR t ⟨0, pl, E.map (·.c), tg, ps, []⟩ = m) := hn
      have HF : Hid (rdEnd t ⟨0, pl, E.map (·.c), tg, ps, []⟩ = fin) := hf
      have HR : Hid (RdI B sb (pb) fr t (pl) (E) (la) (lk) (tg) (ps) (pa) (pk) ([]) (qa) (qk) W ∧ Below B w W) := ⟨hr, hb⟩
      clear hv hfr hn hf hr hb
      go_wp2_with fail
      (first | go_at_call 39 | skip)
      refine (scNext_any hz hp _ HR.out.1).mono ?_
      rintro e W1 ⟨rfl, h1, hb1⟩
      have HR1 : Hid (RdI B sb (pb) fr t (pl) (E) (la) (lk) (tg) (ps) (pa) (pk) ([]) (qa) (qk) W1 ∧ Below B w W1) := ⟨h1, HR.out.2.trans (hb1.mono (by have := HR.out.1.lt; have := HR.out.1.ge; omega))⟩
      clear h1 hb1 HR
      by_cases he : pl = t.size
      · rw [nxB_end he]
        go_wp2_with fail
        go_ret
        exact sc_good (rd0a he) HF.out hp HV.out.o1 HR1.out.1 HR1.out.2
      have hlt : pl < t.size := by omega
      have hrg := @nxB_rg t pl
      obtain ⟨c, hc⟩ : ∃ c, nxB t pl = c := ⟨_, rfl⟩
      rw [hc]
      have b1 : (c == -1) = false := by
        rw [nxB_in hlt] at hc
        have := byL_range t pl
        simp; omega
      clear hc hrg
      obtain ⟨⟨_, _, f2, _⟩, _, _⟩ := HR1.out.1.cells
      by_cases hE : E.length = 200
      · have e2 : ((E.length : Int) == 200) = true := by simp; omega
        go_wp2_with fail
        go_ret
        exact sc_bad (rd0b hlt (by rw [List.length_map]; exact hE)) HF.out (by decide) hp HV.out.o1 HR1.out.1 HR1.out.2
      have e2 : ((E.length : Int) == 200) = false := by simp; omega
      go_wp2_with fail
      (first | go_at_call 40 | skip)
      refine (takeTag_any hz hp _ HR1.out.1).mono ?_
      intro e W2 hA
      clear f2
      unfold TgA at hA
      cases hT : tagF t pl with
      | some k =>
        rw [hT] at hA
        obtain ⟨⟨rfl, h2⟩, hb2⟩ := hA
        have hk : pl + k ≤ t.size := tag_le hp hT
        have HX : Hid (RdI B sb (pb) fr t (pl + k) (E) (la) (lk) (tg) (ps) (pa) (pk) ([]) (qa) (qk) W2 ∧ Below B w W2) := ⟨h2, HR1.out.2.trans hb2⟩
        clear h2 hb2
        go_wp2_with fail
        go_ret
        exact sc_bad (rd0c hlt (by rw [List.length_map]; exact hE) hT) HF.out (by decide) hk HV.out.o1 HX.out.1 HX.out.2
      | none =>
        rw [hT] at hA
        obtain ⟨⟨rfl, pb2, h2⟩, hb2⟩ := hA
        have hk : pl + 3 ≤ t.size := letAt_lt (tagF_none hT).2.2
        have HJ : Hid (∃ n', n' < m ∧ RdJ B sb t fin w 1 n' W2) := sc_on (lb := 1) (rd0d hlt (by rw [List.length_map]; exact hE) hT) hp HN.out HF.out ⟨hk, HV.out.o1, fun _ => by have := HV.out.o1; omega, by simp, fun _ => by simp, by simp, fun _ => rfl⟩ (fun _ => rfl) h2 (HR1.out.2.trans hb2)
        clear h2 hb2 hk HV HN HF HR1 hT hlt he b1 e2 hE hp
        obtain ⟨m2, hm2, hJ⟩ := HJ.out
        clear HJ
        have hm3 : m2 ≤ n := by omega
        clear hm2 hm
        obtain ⟨m, rfl⟩ : ∃ m, m = m2 := ⟨_, rfl⟩
        have hm : m ≤ n := hm3
        clear hm3
        obtain ⟨pb, fr, pl, E, la, lk, tg, ps, pa, pk, pt, qa, qk, hv, hfr, hn, hf, hr, hb⟩ := hJ
        obtain rfl := hfr (by decide)
        obtain rfl := hv.q2 (by decide)
        have hp : pl ≤ t.size := hv.pl
        have HV : Hid (RdV t 1 pl E.length ps []) := hv
        have HN : Hid (muR t ⟨1, pl, E.map (·.c), tg, ps, []⟩ = m) := hn
        have HF : Hid (rdEnd t ⟨1, pl, E.map (·.c), tg, ps, []⟩ = fin) := hf
        have HR : Hid (RdI B sb (pb) true t (pl) (E) (la) (lk) (tg) (ps) (pa) (pk) ([]) (qa) (qk) W2 ∧ Below B w W2) := ⟨hr, hb⟩
        clear hv hfr hn hf hr hb
        go_wp2_with fail
        refine wp_label ?_
        go_wp2_with fail
        (first | go_at_call 39 | skip)
        refine (scNext_any hz hp _ HR.out.1).mono ?_
        rintro e W1 ⟨rfl, h1, hb1⟩
        have HR1 : Hid (RdI B sb (pb) true t (pl) (E) (la) (lk) (tg) (ps) (pa) (pk) ([]) (qa) (qk) W1 ∧ Below B w W1) := ⟨h1, HR.out.2.trans (hb1.mono (by have := HR.out.1.lt; have := HR.out.1.ge; omega))⟩
        clear h1 hb1 HR
        by_cases c39 : nxB t pl = 39
        · rw [c39]
          have hlt : pl < t.size := lt_of_nx hp (by rw [c39]; decide)
          have hc : (byL t).getD pl 0 = 39 := by rw [← nxB_in hlt]; exact c39
          go_wp2_with fail
          (first | go_at_call 41 | skip)
          refine (endSegment_any hz hp HV.out.o1 _ HR1.out.1).mono ?_
          rintro e W2 ⟨rfl, ⟨la2, lk2, h2⟩, hb2⟩
          have HJ : Hid (∃ n', n' < m ∧ RdJ B sb t fin w 0 n' W2) := sc_on (lb := 0) (E := E ++ [⟨⟨tg, ps⟩, pa, pk⟩]) (by rw [rd1a hlt hc, List.map_append]; rfl) hp HN.out HF.out ⟨hlt, by rw [List.length_append]; have := HV.out.o2 (by decide); simp; omega, fun e => absurd rfl e, HV.out.p1, fun e => (by cases e), by simp, fun _ => rfl⟩ (fun e => absurd rfl e) h2 (HR1.out.2.trans hb2)
          clear h2 hb2
          go_wp2_with fail
          try (refine wp_goto ?_)
          (try simp only [Exit.inBlock, Exit.then, jumps])
          obtain ⟨n', hn', hJ'⟩ := HJ.out
          exact ⟨n', by omega, _, _, _, _, _, _, _, _, _, _, _, _, _, _, _, _, _, _, _, _, _, _, _, _, _, _, _, _, _, _, _, _, _, _, _, _, _, _, _, _, _, _, _, _, _, _, _, _, _, _, _, _, _, _, _, _, _, _, _, _, _, _, _, _, _, _, _, rfl, 0, by simp, hJ'⟩
        have b39 : (nxB t pl == 39) = false := by simp [c39]
        by_cases c43 : nxB t pl = 43
        · have hlt : pl < t.size := lt_of_nx hp (by rw [c43]; decide)
          have hc : (byL t).getD pl 0 = 43 := by rw [← nxB_in hlt]; exact c43
          rw [c43]
          clear b39
          obtain ⟨⟨_, f1, _, _⟩, ⟨f4, _⟩, fz⟩ := HR1.out.1.cells
          have z1 := fz 1
          clear fz
          by_cases hP : ps.length = 20
          · have e2 : ((ps.length : Int) == 20) = true := by simp; omega
            go_wp2_with fail
            go_ret
            exact sc_bad (rd1b hlt hc hP) HF.out (by decide) hp HV.out.o1 HR1.out.1 HR1.out.2
          have e2 : ((ps.length : Int) == 20) = false := by simp; omega
          have HJ : Hid (∃ n', n' < m ∧ RdJ B sb t fin w 2 n' (W1.setCell ⟨sb, 1, none⟩ (.int .i64 ((pl : Int) + 1)))) := by
            have k := HR1.out.1.setPl (pl + 1)
            rw [show ((pl + 1 : Nat) : Int) = (pl : Int) + 1 by omega] at k
            exact sc_on (lb := 2) (rd1c hlt hc hP) hp HN.out HF.out ⟨hlt, HV.out.o1, fun _ => HV.out.o2 (by decide), HV.out.p1, fun _ => by have := HV.out.p1; omega, by simp, fun _ => rfl⟩ (fun _ => rfl) k.1 (HR1.out.2.trans k.2)
          go_wp2_with fail
          try (refine wp_goto ?_)
          (try simp only [Exit.inBlock, Exit.then, jumps])
          obtain ⟨n', hn', hJ'⟩ := HJ.out
          exact ⟨n', by omega, _, _, _, _, _, _, _, _, _, _, _, _, _, _, _, _, _, _, _, _, _, _, _, _, _, _, _, _, _, _, _, _, _, _, _, _, _, _, _, _, _, _, _, _, _, _, _, _, _, _, _, _, _, _, _, _, _, _, _, _, _, _, _, _, _, _, _, rfl, 2, by simp, hJ'⟩
        have b43 : (nxB t pl == 43) = false := by simp [c43]
        have HX : Hid (pl < t.size → (byL t).getD pl 0 ≠ 39 ∧ (byL t).getD pl 0 ≠ 43) := fun h => by rw [← nxB_in h]; exact ⟨c39, c43⟩
        clear c39 c43
        generalize nxB t pl = c at *
        go_wp2_with fail
        go_ret
        exact sc_bad (rd1d HX.out) HF.out (by decide) hp HV.out.o1 HR1.out.1 HR1.out.2
    · refine ⟨_, rfl, ?_⟩
      obtain ⟨pb, fr, pl, E, la, lk, tg, ps, pa, pk, pt, qa, qk, hv, hfr, hn, hf, hr, hb⟩ := hJ
      obtain rfl := hfr (by decide)
      obtain rfl := hv.q2 (by decide)
      have hp : pl ≤ t.size := hv.pl
      have HV : Hid (RdV t 1 pl E.length ps []) := hv
      have HN : Hid (muR t ⟨1, pl, E.map (·.c), tg, ps, []⟩ = m) := hn
      have HF : Hid (rdEnd t ⟨1, pl, E.map (·.c), tg, ps, []⟩ = fin) := hf
      have HR : Hid (RdI B sb (pb) true t (pl) (E) (la) (lk) (tg) (ps) (pa) (pk) ([]) (qa) (qk) W ∧ Below B w W) := ⟨hr, hb⟩
      clear hv hfr hn hf hr hb
      go_wp2_with fail
      (first | go_at_call 39 | skip)
      refine (scNext_any hz hp _ HR.out.1).mono ?_
      rintro e W1 ⟨rfl, h1, hb1⟩
      have HR1 : Hid (RdI B sb (pb) true t (pl) (E) (la) (lk) (tg) (ps) (pa) (pk) ([]) (qa) (qk) W1 ∧ Below B w W1) := ⟨h1, HR.out.2.trans (hb1.mono (by have := HR.out.1.lt; have := HR.out.1.ge; omega))⟩
      clear h1 hb1 HR
      by_cases c39 : nxB t pl = 39
      · rw [c39]
        have hlt : pl < t.size := lt_of_nx hp (by rw [c39]; decide)
        have hc : (byL t).getD pl 0 = 39 := by rw [← nxB_in hlt]; exact c39
        go_wp2_with fail
        (first | go_at_call 41 | skip)
        refine (endSegment_any hz hp HV.out.o1 _ HR1.out.1).mono ?_
        rintro e W2 ⟨rfl, ⟨la2, lk2, h2⟩, hb2⟩
        have HJ : Hid (∃ n', n' < m ∧ RdJ B sb t fin w 0 n' W2) := sc_on (lb := 0) (E := E ++ [⟨⟨tg, ps⟩, pa, pk⟩]) (by rw [rd1a hlt hc, List.map_append]; rfl) hp HN.out HF.out ⟨hlt, by rw [List.length_append]; have := HV.out.o2 (by decide); simp; omega, fun e => absurd rfl e, HV.out.p1, fun e => (by cases e), by simp, fun _ => rfl⟩ (fun e => absurd rfl e) h2 (HR1.out.2.trans hb2)
        clear h2 hb2
        go_wp2_with fail
        try (refine wp_goto ?_)
        (try simp only [Exit.inBlock, Exit.then, jumps])
        obtain ⟨n', hn', hJ'⟩ := HJ.out
        exact ⟨n', by omega, _, _, _, _, _, _, _, _, _, _, _, _, _, _, _, _, _, _, _, _, _, _, _, _, _, _, _, _, _, _, _, _, _, _, _, _, _, _, _, _, _, _, _, _, _, _, _, _, _, _, _, _, _, _, _, _, _, _, _, _, _, _, _, _, _, _, _, rfl, 0, by simp, hJ'⟩
      have b39 : (nxB t pl == 39) = false := by simp [c39]
      by_cases c43 : nxB t pl = 43
      · have hlt : pl < t.size := lt_of_nx hp (by rw [c43]; decide)
        have hc : (byL t).getD pl 0 = 43 := by rw [← nxB_in hlt]; exact c43
        rw [c43]
        clear b39
        obtain ⟨⟨_, f1, _, _⟩, ⟨f4, _⟩, fz⟩ := HR1.out.1.cells
        have z1 := fz 1
        clear fz
        by_cases hP : ps.length = 20
        · have e2 : ((ps.length : Int) == 20) = true := by simp; omega
          go_wp2_with fail
          go_ret
          exact sc_bad (rd1b hlt hc hP) HF.out (by decide) hp HV.out.o1 HR1.out.1 HR1.out.2
        have e2 : ((ps.length : Int) == 20) = false := by simp; omega
        have HJ : Hid (∃ n', n' < m ∧ RdJ B sb t fin w 2 n' (W1.setCell ⟨sb, 1, none⟩ (.int .i64 ((pl : Int) + 1)))) := by
          have k := HR1.out.1.setPl (pl + 1)
          rw [show ((pl + 1 : Nat) : Int) = (pl : Int) + 1 by omega] at k
          exact sc_on (lb := 2) (rd1c hlt hc hP) hp HN.out HF.out ⟨hlt, HV.out.o1, fun _ => HV.out.o2 (by decide), HV.out.p1, fun _ => by have := HV.out.p1; omega, by simp, fun _ => rfl⟩ (fun _ => rfl) k.1 (HR1.out.2.trans k.2)
        go_wp2_with fail
        try (refine wp_goto ?_)
        (try simp only [Exit.inBlock, Exit.then, jumps])
        obtain ⟨n', hn', hJ'⟩ := HJ.out
        exact ⟨n', by omega, _, _, _, _, _, _, _, _, _, _, _, _, _, _, _, _, _, _, _, _, _, _, _, _, _, _, _, _, _, _, _, _, _, _, _, _, _, _, _, _, _, _, _, _, _, _, _, _, _, _, _, _, _, _, _, _, _, _, _, _, _, _, _, _, _, _, _, rfl, 2, by simp, hJ'⟩
      have b43 : (nxB t pl == 43) = false := by simp [c43]
      have HX : Hid (pl < t.size → (byL t).getD pl 0 ≠ 39 ∧ (byL t).getD pl 0 ≠ 43) := fun h => by rw [← nxB_in h]; exact ⟨c39, c43⟩
      clear c39 c43
      generalize nxB t pl = c at *
      go_wp2_with fail
      go_ret
      exact sc_bad (rd1d HX.out) HF.out (by decide) hp HV.out.o1 HR1.out.1 HR1.out.2
    · refine ⟨_, rfl, ?_⟩
      obtain ⟨pb, fr, pl, E, la, lk, tg, ps, pa, pk, pt, qa, qk, hv, hfr, hn, hf, hr, hb⟩ := hJ
      obtain rfl := hfr (by decide)
      have hp : pl ≤ t.size := hv.pl
      have HV : Hid (RdV t 2 pl E.length ps pt) := hv
      have HN : Hid (muR t ⟨2, pl, E.map (·.c), tg, ps, pt⟩ = m) := hn
      have HF : Hid (rdEnd t ⟨2, pl, E.map (·.c), tg, ps, pt⟩ = fin) := hf
      have HR : Hid (RdI B sb (pb) true t (pl) (E) (la) (lk) (tg) (ps) (pa) (pk) (pt) (qa) (qk) W ∧ Below B w W) := ⟨hr, hb⟩
      clear hv hfr hn hf hr hb
      go_wp2_with fail
      (first | go_at_call 39 | skip)
      refine (scNext_any hz hp _ HR.out.1).mono ?_
      rintro e W1 ⟨rfl, h1, hb1⟩
      have HR1 : Hid (RdI B sb (pb) true t (pl) (E) (la) (lk) (tg) (ps) (pa) (pk) (pt) (qa) (qk) W1 ∧ Below B w W1) := ⟨h1, HR.out.2.trans (hb1.mono (by have := HR.out.1.lt; have := HR.out.1.ge; omega))⟩
      clear h1 hb1 HR
      by_cases he : pl = t.size
      · rw [nxB_end he]
        go_wp2_with fail
        go_ret
        exact sc_bad (rd2a he) HF.out (by decide) hp HV.out.o1 HR1.out.1 HR1.out.2
      by_cases c39 : nxB t pl = 39
      · have hlt : pl < t.size := lt_of_nx hp (by rw [c39]; decide)
        have hc : (byL t).getD pl 0 = 39 ∨ (byL t).getD pl 0 = 43 := by rw [← nxB_in hlt, c39]; decide
        rw [c39]
        go_wp2_with fail
        (first | go_at_call 42 | skip)
        refine (endPart_any HV.out.p1 _ HR1.out.1).mono ?_
        rintro e W2 ⟨rfl, ⟨pa2, pk2, h2⟩, hb2⟩
        have HJ : Hid (∃ n', n' < m ∧ RdJ B sb t fin w 1 n' W2) := sc_on (lb := 1) (rd2b hlt hc) hp HN.out HF.out ⟨hp, HV.out.o1, fun _ => HV.out.o2 (by decide), by rw [List.length_append]; have := HV.out.p2 rfl; simp; omega, fun e => (by cases e), by simp, fun _ => rfl⟩ (fun _ => rfl) h2 (HR1.out.2.trans hb2)
        clear h2 hb2
        go_wp2_with fail
        try (refine wp_goto ?_)
        (try simp only [Exit.inBlock, Exit.then, jumps])
        obtain ⟨n', hn', hJ'⟩ := HJ.out
        exact ⟨n', by omega, _, _, _, _, _, _, _, _, _, _, _, _, _, _, _, _, _, _, _, _, _, _, _, _, _, _, _, _, _, _, _, _, _, _, _, _, _, _, _, _, _, _, _, _, _, _, _, _, _, _, _, _, _, _, _, _, _, _, _, _, _, _, _, _, _, _, _, rfl, 1, by simp, hJ'⟩
      by_cases c43 : nxB t pl = 43
      · have hlt : pl < t.size := lt_of_nx hp (by rw [c43]; decide)
        have hc : (byL t).getD pl 0 = 39 ∨ (byL t).getD pl 0 = 43 := by rw [← nxB_in hlt, c43]; decide
        rw [c43]
        go_wp2_with fail
        (first | go_at_call 42 | skip)
        refine (endPart_any HV.out.p1 _ HR1.out.1).mono ?_
        rintro e W2 ⟨rfl, ⟨pa2, pk2, h2⟩, hb2⟩
        have HJ : Hid (∃ n', n' < m ∧ RdJ B sb t fin w 1 n' W2) := sc_on (lb := 1) (rd2b hlt hc) hp HN.out HF.out ⟨hp, HV.out.o1, fun _ => HV.out.o2 (by decide), by rw [List.length_append]; have := HV.out.p2 rfl; simp; omega, fun e => (by cases e), by simp, fun _ => rfl⟩ (fun _ => rfl) h2 (HR1.out.2.trans hb2)
        clear h2 hb2
        go_wp2_with fail
        try (refine wp_goto ?_)
        (try simp only [Exit.inBlock, Exit.then, jumps])
        obtain ⟨n', hn', hJ'⟩ := HJ.out
        exact ⟨n', by omega, _, _, _, _, _, _, _, _, _, _, _, _, _, _, _, _, _, _, _, _, _, _, _, _, _, _, _, _, _, _, _, _, _, _, _, _, _, _, _, _, _, _, _, _, _, _, _, _, _, _, _, _, _, _, _, _, _, _, _, _, _, _, _, _, _, _, _, rfl, 1, by simp, hJ'⟩
      have hlt : pl < t.size := by omega
      have hcc := nxB_in hlt
      by_cases c63 : nxB t pl = 63
      · have hc : (byL t).getD pl 0 = 63 := by rw [← hcc]; exact c63
        rw [c63]
        obtain ⟨⟨_, f1, _, _⟩, _, fz⟩ := HR1.out.1.cells
        have z1 := fz 1
        clear fz
        have HR2 : Hid (RdI B sb (pb) true t (pl + 1) (E) (la) (lk) (tg) (ps) (pa) (pk) (pt) (qa) (qk) (W1.setCell ⟨sb, 1, none⟩ (.int .i64 ((pl : Int) + 1))) ∧ Below B w (W1.setCell ⟨sb, 1, none⟩ (.int .i64 ((pl : Int) + 1)))) := by
          have k := HR1.out.1.setPl (pl + 1)
          rw [show ((pl + 1 : Nat) : Int) = (pl : Int) + 1 by omega] at k
          exact ⟨k.1, HR1.out.2.trans k.2⟩
        clear HR1
        go_wp2_with fail
        (first | go_at_call 39 | skip)
        clear f1 z1
        refine (scNext_any hz hlt _ HR2.out.1).mono ?_
        rintro e W3 ⟨rfl, h1, hb1⟩
        have HR3 : Hid (RdI B sb (pb) true t (pl + 1) (E) (la) (lk) (tg) (ps) (pa) (pk) (pt) (qa) (qk) W3 ∧ Below B w W3) := ⟨h1, HR2.out.2.trans (hb1.mono (by have := HR2.out.1.lt; have := HR2.out.1.ge; omega))⟩
        clear h1 hb1 HR2
        go_wp2_with fail
        (first | go_at_call 43 | skip)
        refine (isMark_all _ nxB_rg.1 nxB_rg.2 _).mono ?_
        rintro e w2 ⟨rfl, rfl⟩
        have HM : Hid (mkB (nxB t (pl + 1)) = true ↔ ¬ (pl + 1 = t.size ∨ mkB ((byL t).getD (pl + 1) 0) = false)) := mk_nx hlt
        generalize nxB t (pl + 1) = c2 at *
        cases hM : mkB c2
        · have HB : Hid (pl + 1 = t.size ∨ mkB ((byL t).getD (pl + 1) 0) = false) := by
            show _ ∨ _
            rcases Classical.em (pl + 1 = t.size ∨ mkB ((byL t).getD (pl + 1) 0) = false) with h | h
            · exact h
            · have := HM.out.2 h
              rw [hM] at this; cases this
          go_wp2_with fail
          go_ret
          exact sc_bad (rd2c hlt hc HB.out) HF.out (by decide) hlt HV.out.o1 HR3.out.1 HR3.out.2
        have HB : Hid (¬ (pl + 1 = t.size ∨ mkB ((byL t).getD (pl + 1) 0) = false)) := HM.out.1 hM
        have HL2 : Hid (pl + 1 < t.size) := by have h : ¬ pl + 1 = t.size := fun e => HB.out (.inl e); show _ < _; omega
        clear HM hM
        obtain ⟨_, ⟨_, f5⟩, _⟩ := HR3.out.1.cells
        by_cases hP : pt.length = 80
        · have e2 : ((pt.length : Int) == 80) = true := by simp; omega
          go_wp2_with fail
          go_ret
          exact sc_bad (rd2d hlt hc HB.out hP) HF.out (by decide) hlt HV.out.o1 HR3.out.1 HR3.out.2
        have e2 : ((pt.length : Int) == 80) = false := by simp; omega
        go_wp2_with fail
        (first | go_at_call 44 | skip)
        refine (takeByte_any hz HL2.out (by have := HV.out.q1; omega) _ HR3.out.1).mono ?_
        rintro e W4 ⟨rfl, ⟨qa2, qk2, h2⟩, hb2⟩
        have HJ : Hid (∃ n', n' < m ∧ RdJ B sb t fin w 2 n' W4) := sc_on (lb := 2) (rd2e hlt hc HB.out hP) hp HN.out HF.out ⟨HL2.out, HV.out.o1, fun _ => HV.out.o2 (by decide), HV.out.p1, fun _ => HV.out.p2 rfl, by rw [List.length_append]; have := HV.out.q1; simp; omega, fun e => absurd rfl e⟩ (fun _ => rfl) h2 (HR3.out.2.trans hb2)
        clear h2 hb2
        go_wp2_with fail
        try (refine wp_goto ?_)
        (try simp only [Exit.inBlock, Exit.then, jumps])
        obtain ⟨n', hn', hJ'⟩ := HJ.out
        exact ⟨n', by omega, _, _, _, _, _, _, _, _, _, _, _, _, _, _, _, _, _, _, _, _, _, _, _, _, _, _, _, _, _, _, _, _, _, _, _, _, _, _, _, _, _, _, _, _, _, _, _, _, _, _, _, _, _, _, _, _, _, _, _, _, _, _, _, _, _, _, _, rfl, 2, by simp, hJ'⟩
      have b39 : (nxB t pl == 39) = false := by simp [c39]
      have b43 : (nxB t pl == 43) = false := by simp [c43]
      have b63 : (nxB t pl == 63) = false := by simp [c63]
      have b1 : (nxB t pl == -1) = false := by
        rw [hcc]
        have := byL_range t pl
        exact beq_eq_false_iff_ne.2 (fun e => by omega)
      have HX : Hid ((byL t).getD pl 0 ≠ 39 ∧ (byL t).getD pl 0 ≠ 43 ∧ (byL t).getD pl 0 ≠ 63) := by
        show _ ∧ _ ∧ _
        rw [← hcc]; exact ⟨c39, c43, c63⟩
      clear c39 c43 c63 hcc
      generalize nxB t pl = c at *
      obtain ⟨_, ⟨_, f5⟩, _⟩ := HR1.out.1.cells
      by_cases hP : pt.length = 80
      · have e2 : ((pt.length : Int) == 80) = true := by simp; omega
        go_wp2_with fail
        go_ret
        exact sc_bad (rd2f hlt HX.out hP) HF.out (by decide) hp HV.out.o1 HR1.out.1 HR1.out.2
      have e2 : ((pt.length : Int) == 80) = false := by simp; omega
      go_wp2_with fail
      (first | go_at_call 44 | skip)
      refine (takeByte_any hz hlt (by have := HV.out.q1; omega) _ HR1.out.1).mono ?_
      rintro e W4 ⟨rfl, ⟨qa2, qk2, h2⟩, hb2⟩
      have HJ : Hid (∃ n', n' < m ∧ RdJ B sb t fin w 2 n' W4) := sc_on (lb := 2) (rd2g hlt HX.out hP) hp HN.out HF.out ⟨hlt, HV.out.o1, fun _ => HV.out.o2 (by decide), HV.out.p1, fun _ => HV.out.p2 rfl, by rw [List.length_append]; have := HV.out.q1; simp; omega, fun e => absurd rfl e⟩ (fun _ => rfl) h2 (HR1.out.2.trans hb2)
      clear h2 hb2
      go_wp2_with fail
      try (refine wp_goto ?_)
      (try simp only [Exit.inBlock, Exit.then, jumps])
      obtain ⟨n', hn', hJ'⟩ := HJ.out
      exact ⟨n', by omega, _, _, _, _, _, _, _, _, _, _, _, _, _, _, _, _, _, _, _, _, _, _, _, _, _, _, _, _, _, _, _, _, _, _, _, _, _, _, _, _, _, _, _, _, _, _, _, _, _, _, _, _, _, _, _, _, _, _, _, _, _, _, _, _, _, _, _, rfl, 2, by simp, hJ'⟩
end Go.Proofs.Ytjnlghngneonhaa

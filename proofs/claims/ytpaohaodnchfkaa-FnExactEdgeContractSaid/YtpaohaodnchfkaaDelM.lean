/-
  EdgeDelete, EdgeContract: the model's.
-/
import Derived.Test.YtpaohaodnchfkaaDelS
import Derived.Test.YtpaohaodnchfkaaDual
namespace Go.Proofs.Ytpaohaodnchfkaa
open Go.RowKit

/-- Turn with the ways past both darts, for the first k darts. -/
def pstP (src : List Int) (a b k : Nat) : List Int := tab src.length fun d => if d < k ∧ stayB a b d = true then (pastG src a b d : Int) else gi src d
theorem pstP_len (src : List Int) (a b k : Nat) : (pstP src a b k).length = src.length := tab_len _ _
theorem pstP_zero (src : List Int) (a b : Nat) : src = pstP src a b 0 := tab_ext rfl fun j hj => by rw [if_neg (fun h => by omega)]
theorem pstP_no {src : List Int} {a b k : Nat} (h : stayB a b k = false) : pstP src a b (k + 1) = pstP src a b k := by
  unfold pstP
  congr 1
  funext d
  by_cases hd : d = k
  · rw [if_neg (fun h' => by rw [hd, h] at h'; exact absurd h'.2 (by decide)), if_neg (fun h' => by omega)]
  · have : (d < k + 1 ∧ stayB a b d = true) ↔ (d < k ∧ stayB a b d = true) := ⟨fun h' => ⟨by omega, h'.2⟩, fun h' => ⟨by omega, h'.2⟩⟩
    simp only [this]
theorem pstP_yes {src : List Int} {a b k : Nat} (h : stayB a b k = true) (hk : k < src.length) : (pstP src a b k).set k (pastG src a b k : Int) = pstP src a b (k + 1) := by
  refine tab_ext (by simp [pstP_len]) fun j hj => ?_
  rw [gi_set _ _ _ _ (by rw [pstP_len]; exact hk)]
  by_cases h1 : j = k
  · rw [if_pos h1, h1, if_pos ⟨by omega, h⟩]
  · rw [if_neg h1, pstP, gi_tab hj]
    have : (j < k + 1 ∧ stayB a b j = true) ↔ (j < k ∧ stayB a b j = true) := ⟨fun h' => ⟨by omega, h'.2⟩, fun h' => ⟨by omega, h'.2⟩⟩
    simp only [this]
theorem pstP_into {src : List Int} (hs : Vld src) (a b k : Nat) : Into (pstP src a b k) src.length := fun j hj => by
  rw [pstP_len] at hj
  rw [pstP, gi_tab hj]
  split
  · rename_i h
    have := (past_stay hs hj h.2).2
    omega
  · exact hs.2.2.1 j hj
theorem pstP_out {src : List Int} {a b n : Nat} (hn : src.length = n) : outI a b n (gn (pstP src a b n)) (kpN a b n) = outI a b n (pastG src a b) (kpN a b n) := by
  refine outI_congr fun d hd hs => ?_
  exact gn_of (by rw [pstP, gi_tab (by rw [hn]; exact hd), if_pos ⟨hd, hs⟩])

theorem kd_pos {t f : List Int} {x : Int} (h : 0 ≤ kdR t f x) : mapV t f = true ∧ hasEB (f.length / 2) x = true := by
  unfold kdR at h
  split at h
  · rename_i hh; exact hh
  · omega
noncomputable def aE (f : List Int) (x : Int) : Nat := dE f x.toNat
noncomputable def dlR (t f : List Int) (x : Int) : Bool × List Int × List Int :=
  if 0 ≤ kdR t f x ∧ kdR t f x ≠ 1 ∧ t.length ≠ 2 then (true, delT t (aE f x) (gn f (aE f x)), delF f (aE f x) (gn f (aE f x))) else (false, [], [])
noncomputable def cnR (t f : List Int) (x : Int) : Bool × List Int × List Int :=
  if 0 ≤ kdR t f x ∧ kdR t f x ≠ 2 ∧ t.length ≠ 2 then (true, conT t (aE f x) (gn f (aE f x)), delF f (aE f x) (gn f (aE f x))) else (false, [], [])
theorem dlR_len {t f yt yf : List Int} {x : Int} {ok : Bool} (h : dlR t f x = (ok, yt, yf)) : yt.length ≤ 12 ∧ yf.length ≤ 12 := by
  unfold dlR at h
  split at h
  · rename_i hb
    have hm := mapV_iff.1 (kd_pos hb.1).1
    injection h with _ h; injection h with h1 h2
    rw [← h1, ← h2, delT, delF, outI_len, outI_len]
    have := kpN_le (a := aE f x) (b := gn f (aE f x)) t.length
    have := kpN_le (a := aE f x) (b := gn f (aE f x)) f.length
    have := hm.turn.2.1; have := hm.flip.2.1
    omega
  · injection h with _ h; injection h with h1 h2; rw [← h1, ← h2]; simp
theorem cnR_len {t f yt yf : List Int} {x : Int} {ok : Bool} (h : cnR t f x = (ok, yt, yf)) : yt.length ≤ 12 ∧ yf.length ≤ 12 := by
  unfold cnR at h
  split at h
  · rename_i hb
    have hm := mapV_iff.1 (kd_pos hb.1).1
    injection h with _ h; injection h with h1 h2
    rw [← h1, ← h2, conT, delF, outI_len, outI_len]
    have := kpN_le (a := aE f x) (b := gn f (aE f x)) t.length
    have := kpN_le (a := aE f x) (b := gn f (aE f x)) f.length
    have := hm.turn.2.1; have := hm.flip.2.1
    omega
  · injection h with _ h; injection h with h1 h2; rw [← h1, ← h2]; simp

set_option maxRecDepth 20000 in
set_option maxHeartbeats 3200000 in
theorem spec_dlR (w : World) (A A' : Option Addr) (n n' c c' : Nat) (t f : List Int) (h : Rd w A n t) (h' : Rd w A' n' f) (hn : n ≤ 1048576) (hn' : n' ≤ 1048576) (x : Int) (hw : (Lit.int .i64 x).wf = true) {ok : Bool} {yt yf : List Int} (hR : dlR t f x = (ok, yt, yf)) :
    Calls Try.prog 34 #[.agg #[.slice A n c, .slice A' n' c'], .int .i64 x] w fun e w' => ∃ u u', e = .returned (.tuple #[.agg #[u, u'], .bool ok]) ∧ OwnM w' w.heap.size u u' yt yf ∧ Below w.heap.size w w' := by
  obtain ⟨W0, hW0, hx, hy, hb, hz⟩ := two_boxes w 28 28 (.slice A n c) (.slice A' n' c') (.slice none 0 0) (.slice none 0 0)
  have c0 := hx.cell0
  have c1 := hx.cell1
  obtain ⟨r, hr⟩ : ∃ r, kdR t f x = r := ⟨_, rfl⟩
  have HX := Lib.hid hx; have HY := Lib.hid hy; have HB := Lib.hid hb; have HZ := Lib.hid hz; have H := Lib.hid h; have H' := Lib.hid h'; have HKD := Lib.hid hr; clear hx hy hb hz h h'
  have HNO : Hid (∀ w1 : World, Below W0.heap.size W0 w1 → OwnM ((w1.setCell ⟨w.heap.size + 1, 0, none⟩ (.slice none 0 0)).setCell ⟨w.heap.size + 1, 1, none⟩ (.slice none 0 0)) w.heap.size (.slice none 0 0) (.slice none 0 0) [] [] ∧ Below w.heap.size w ((w1.setCell ⟨w.heap.size + 1, 0, none⟩ (.slice none 0 0)).setCell ⟨w.heap.size + 1, 1, none⟩ (.slice none 0 0)) ∧ Box ((w1.setCell ⟨w.heap.size + 1, 0, none⟩ (.slice none 0 0)).setCell ⟨w.heap.size + 1, 1, none⟩ (.slice none 0 0)) (w.heap.size + 1) 28 (.slice none 0 0) (.slice none 0 0)) := by
    intro w1 b
    obtain ⟨hq1, hq2⟩ := (HY.out.below b).store2 (.slice none 0 0) (.slice none 0 0)
    exact ⟨OwnM.nil_ _ _, (HB.out.trans (b.mono HB.out.size)).grown hq2 (by have := HB.out.size; have := b.size; omega) (fun k hk => by cases hk; omega), hq1⟩
  by_cases hk : 0 ≤ r ∧ r ≠ 1 ∧ n ≠ 2
  · obtain ⟨hk0, hk1, hk2⟩ := hk
    obtain ⟨hv, hbe⟩ := kd_pos (t := t) (f := f) (x := x) (by rw [hr]; exact hk0)
    have hm := mapV_iff.1 hv
    obtain rfl : n = n' := hm.same H.out.1 H'.out.1
    have hn12 : n ≤ 12 := by rw [← H'.out.1]; exact hm.flip.2.1
    have hn1 : 1 ≤ n := by rw [← H'.out.1]; exact hm.flip.1
    have hbe' : 0 ≤ x ∧ x ≤ ((f.length / 2 : Nat) : Int) - 1 := by simpa [hasEB, inB] using hbe
    obtain ⟨e, rfl⟩ := Int.eq_ofNat_of_zero_le hbe'.1
    have he : e < f.length / 2 := by omega
    obtain ⟨d1, d2, d3, -⟩ := dE_of hm.flip hm.paired he
    obtain ⟨a, ha⟩ : ∃ a, dE f e = a := ⟨_, rfl⟩
    obtain ⟨b, hb⟩ : ∃ b, gn f a = b := ⟨_, rfl⟩
    rw [ha] at d1 d2 d3
    have hbl : b < n := by rw [← hb, ← H'.out.1]; exact hm.flip.gn_lt d1
    rw [H'.out.1] at d1
    have HYS : Hid (ok = true ∧ yt = delT t a b ∧ yf = delF f a b) := by
      rw [Hid]
      have := hR
      rw [dlR, if_pos ⟨by rw [hr]; exact hk0, by rw [hr]; exact hk1, by rw [H.out.1]; exact hk2⟩, aE, Int.toNat_natCast, ha, hb] at this
      simpa [eq_comm] using this
    have hd0 : decide (r < 0) = false := by simp; omega
    have hd1 : (r == 1) = false := by simp [hk1]
    have hd2 : ((n : Int) == 2) = false := by simp; omega
    have HM := Lib.hid hm; have HD2 := Lib.hid d2; have HD3 := Lib.hid d3; have HAB := Lib.hid hb
    clear hv hm hbe hbe' hr hR d2 d3 ha hb hk0 hk1 hk2 he
    go_enter Try.func34, Try.ntmps34
    go_wp2_with fail
    refine (spec_kdR W0 A A' n n c c' t f (H.out.below HB.out) (H'.out.below HB.out) hn hn' (e : Int) hw HKD.out).mono ?_
    rintro e' w1 ⟨rfl, bl⟩
    have hx1 := HX.out.below bl
    have e0 := hx1.cell0
    have e1 := hx1.cell1
    have HB1 := Lib.hid (HB.out.trans (bl.mono HB.out.size)); have HX1 := Lib.hid hx1; have HY1 := Lib.hid (HY.out.below bl); have HZ1 := Lib.hid bl.size
    clear bl c0 c1 hx1
    go_wp2_with fail
    refine (l7Dart_any A A' n n c c' e a f w1 (H'.out.below HB1.out) HM.out.flip HM.out.paired d1 HD2.out HD3.out).mono ?_
    rintro e' w2 ⟨rfl, bl⟩
    have hx2 := HX1.out.below bl
    have c0 := hx2.cell0
    have c1 := hx2.cell1
    have HB2 := Lib.hid (HB1.out.trans (bl.mono HB1.out.size)); have HX2 := Lib.hid hx2; have HY2 := Lib.hid (HY1.out.below bl); have HZ2 := Lib.hid bl.size
    obtain ⟨adf, hAf, hcf⟩ := (H'.out.below HB2.out).at_ d1
    rw [HM.out.flip.gi_gn (by rw [H'.out.1]; exact d1), HAB.out] at hcf
    subst hAf
    clear bl e0 e1 hx2
    go_wp2_with fail
    refine (l2Copy_any A n c t w2 (H.out.below HB2.out) hn1 hn).mono ?_
    rintro e' w3 ⟨v, rfl, o, bl⟩
    obtain ⟨A5, c5, rfl, -, -⟩ := o.form' H.out.1
    obtain ⟨g, rfl, hg, -, -⟩ := o.cellAt H.out.1 (k := 0) (by omega)
    have hgl := (o.lt g rfl).2
    have hx3 := HX2.out.below bl
    have e0 := hx3.cell0
    have e1 := hx3.cell1
    have HB3 := Lib.hid (HB2.out.trans (bl.mono HB2.out.size)); have HX3 := Lib.hid hx3; have HY3 := Lib.hid (HY2.out.below bl); have HZ3 := Lib.hid bl.size
    have hzz : w.heap.size + 1 < g := by have := HZ.out; have := HZ1.out; have := HZ2.out; omega
    have HO3 := Lib.hid (o.mono (lo' := w.heap.size + 2) (by have := HZ.out; have := HZ1.out; have := HZ2.out; omega))
    clear bl hx3 c0 c1 hcf
    go_wp2_with fail
    go_loopw [10] (fun dv wr => ∃ k : Nat, k ≤ n ∧ dv = .int .i64 k ∧ Hid (Own wr (w.heap.size + 2) (.slice (some ⟨g, 0, none⟩) n c5) (pstP t a b k)) ∧ Hid (Below g w3 wr)) (fun dv _ => n - (intOf dv).toNat)
    case atStart => exact ⟨0, Nat.zero_le _, rfl, by rw [← pstP_zero]; exact HO3, Below.refl _ _⟩
    case round =>
      obtain ⟨k, hk, rfl, ho, hbr⟩ := hrel
      have HBR : Hid (Below w.heap.size w wr) := HB3.out.trans (hbr.out.mono (by omega))
      have hx4 := HX3.out.over hbr.out (by omega)
      have hpl : (pstP t a b k).length = n := (pstP_len _ _ _ _).trans H.out.1
      have k0 := hx4.cell0
      have k1 := hx4.cell1
      clear e0 e1
      by_cases hlt : k < n
      · obtain ⟨g1, q1, -, hc1, hf1⟩ := ho.out.cellAt hpl hlt
        simp only [Option.some.injEq, Addr.mk.injEq, and_true] at q1
        subst q1
        by_cases h1 : k = a
        · have b1 : ((k : Int) != (a : Int)) = false := by simp [h1]
          have HS : Hid (stayB a b k = false) := by rw [h1]; simp [stayB, Hid]
          clear h1 hpl
          go_wp2_with fail
          go_roundw
          case rel => exact ⟨k + 1, by omega, by go_num, by rw [pstP_no HS.out]; exact ho.out, hbr⟩
          case measure => simp [intOf]; omega
        · by_cases h2 : k = b
          · have b1 : ((k : Int) != (a : Int)) = true := by simp; omega
            have b2 : ((k : Int) != (b : Int)) = false := by simp [h2]
            have HS : Hid (stayB a b k = false) := by rw [h2]; simp [stayB, Hid]
            clear h1 h2 hpl
            go_wp2_with fail
            go_roundw
            case rel => exact ⟨k + 1, by omega, by go_num, by rw [pstP_no HS.out]; exact ho.out, hbr⟩
            case measure => simp [intOf]; omega
          · have b1 : ((k : Int) != (a : Int)) = true := by simp; omega
            have b2 : ((k : Int) != (b : Int)) = true := by simp; omega
            have HS : Hid (stayB a b k = true) := stayB_true h1 h2
            obtain ⟨p0, hp0⟩ : ∃ p0, pastG t a b k = p0 := ⟨_, rfl⟩
            have hst := ho.out.stored hpl k (p0 : Int)
            rw [← hp0, pstP_yes HS.out (by rw [H.out.1]; exact hlt), hp0] at hst
            have HST := Lib.hid hst
            have HP0 := Lib.hid hp0
            clear h1 h2 hpl hst hp0
            go_wp2_with (go_at_call 63; refine (l7Past_any _ n _ k a b p0 t _ (H.out.below HBR.out) HM.out.turn hlt HS.out HP0.out).mono ?_; rintro e' w9 ⟨rfl, rfl⟩)
            go_roundw
            case rel => exact ⟨k + 1, by omega, by go_num, HST.out.1, hbr.out.setCell (Nat.le_refl _) _⟩
            case measure => simp [intOf]; omega
      · have hkn : k = n := by omega
        have HRP : Hid (Rd wr (some ⟨g, 0, none⟩) n (pstP t a b n)) := by have := ho.out.rd hpl; rwa [hkn] at this
        have HY4 := Lib.hid (HY3.out.over hbr.out (by omega))
        have hsw := hbr.out.size
        clear hkn hpl
        go_wp2_with fail
        refine (l7Leave_any _ _ n _ c' a b (pstP t a b n) f wr HRP.out (H'.out.below HBR.out) (by have := pstP_into HM.out.turn a b n; rwa [H.out.1] at this) (HM.out.flip.into H'.out.1) hn12).mono ?_
        rintro e' w9 ⟨u, u', rfl, o, bl⟩
        obtain ⟨A6, c6, A7, c7, rfl, rfl, -, -⟩ := o.form (n := kpN a b n) (n' := kpN a b n) (outI_len _ _ _ _ _) (outI_len _ _ _ _ _)
        obtain ⟨ht, hf, hap⟩ := o
        have HT := Lib.hid ht; have HF := Lib.hid hf; have HAP := Lib.hid hap
        have HB9 := Lib.hid (HBR.out.trans (bl.mono HBR.out.size))
        have hy9 := HY4.out.below bl
        have e0 := hy9.cell0
        have e1 := hy9.cell1
        have e2 := hy9.frozen 0
        have e3 := hy9.frozen 1
        obtain ⟨K, hK⟩ : ∃ K, kpN a b n = K := ⟨_, rfl⟩
        have HYT : Hid (outI a b n (gn (pstP t a b n)) (kpN a b n) = yt ∧ outI a b n (gn f) (kpN a b n) = yf) := by
          rw [HYS.out.2.1, HYS.out.2.2, pstP_out H.out.1, delT, delF, H.out.1, H'.out.1]
          exact ⟨rfl, rfl⟩
        rw [hK]
        rw [HYT.out.1] at HT
        rw [HYT.out.2] at HF
        rw [hK] at HT HF HAP
        obtain ⟨hq1, hq2⟩ := hy9.store2 (.slice A6 K c6) (.slice A7 K c7)
        have j0 := hq1.cell0
        have j1 := hq1.cell1
        have HD := Lib.hid (pair_done HT.out HF.out HAP.out HB9.out hq2 (by omega) (by omega))
        clear hq1 hq2 bl hK hy9 ht hf hap
        go_wp2_with fail
        exact bodyPost_ret (v := .tuple #[.agg #[.slice A6 K c6, .slice A7 K c7], .bool true]) (by simp [results, Try.results34, go_sem, j0, j1]) rfl ⟨_, _, by rw [HYS.out.1], HD.out.1, HD.out.2⟩
  · obtain ⟨rfl, rfl, rfl⟩ : ok = false ∧ yt = [] ∧ yf = [] := by
      have := hR
      rw [dlR, if_neg (fun hh => hk ⟨by rw [← hr]; exact hh.1, by rw [← hr]; exact hh.2.1, by rw [← H.out.1]; exact hh.2.2⟩)] at this
      simpa [eq_comm] using this
    have key : r < 0 ∨ (0 ≤ r ∧ r = 1) ∨ (0 ≤ r ∧ r ≠ 1 ∧ n = 2) := by omega
    clear hk hR hr
    rcases key with h1 | ⟨h1, h2⟩ | ⟨h1, h2, h3⟩
    · have hd0 : decide (r < 0) = true := by simp [h1]
      clear h1
      go_enter Try.func34, Try.ntmps34
      go_wp2_with fail
      refine (spec_kdR W0 A A' n n' c c' t f (H.out.below HB.out) (H'.out.below HB.out) hn hn' x hw HKD.out).mono ?_
      rintro e' w1 ⟨rfl, bl⟩
      obtain ⟨ho, hbw, hbx⟩ := HNO.out w1 bl
      have hx1 := HX.out.below bl
      have d0 := hx1.cell0
      have d1 := hx1.cell1
      have hy1 := HY.out.below bl
      have e0 := hy1.cell0
      have e1 := hy1.cell1
      have e2 := hy1.frozen 0
      have e3 := hy1.frozen 1
      have k0 := hbx.cell0
      have k1 := hbx.cell1
      have HO := Lib.hid ho; have HBW := Lib.hid hbw
      clear ho hbw hbx bl hy1 hx1 c0 c1
      go_wp2_with fail
      exact bodyPost_ret (v := .tuple #[.agg #[.slice none 0 0, .slice none 0 0], .bool false]) (by simp [results, Try.results34, go_sem, k0, k1]) rfl ⟨_, _, rfl, HO.out, HBW.out⟩
    · have hd0 : decide (r < 0) = false := by simp; omega
      have hd1 : (r == 1) = true := by simp [h2]
      clear h1 h2
      go_enter Try.func34, Try.ntmps34
      go_wp2_with fail
      refine (spec_kdR W0 A A' n n' c c' t f (H.out.below HB.out) (H'.out.below HB.out) hn hn' x hw HKD.out).mono ?_
      rintro e' w1 ⟨rfl, bl⟩
      obtain ⟨ho, hbw, hbx⟩ := HNO.out w1 bl
      have hx1 := HX.out.below bl
      have d0 := hx1.cell0
      have d1 := hx1.cell1
      have hy1 := HY.out.below bl
      have e0 := hy1.cell0
      have e1 := hy1.cell1
      have e2 := hy1.frozen 0
      have e3 := hy1.frozen 1
      have k0 := hbx.cell0
      have k1 := hbx.cell1
      have HO := Lib.hid ho; have HBW := Lib.hid hbw
      clear ho hbw hbx bl hy1 hx1 c0 c1
      go_wp2_with fail
      exact bodyPost_ret (v := .tuple #[.agg #[.slice none 0 0, .slice none 0 0], .bool false]) (by simp [results, Try.results34, go_sem, k0, k1]) rfl ⟨_, _, rfl, HO.out, HBW.out⟩
    · have hd0 : decide (r < 0) = false := by simp; omega
      have hd1 : (r == 1) = false := by simp [h2]
      have hd2 : ((n : Int) == 2) = true := by simp; omega
      clear h1 h2 h3
      go_enter Try.func34, Try.ntmps34
      go_wp2_with fail
      refine (spec_kdR W0 A A' n n' c c' t f (H.out.below HB.out) (H'.out.below HB.out) hn hn' x hw HKD.out).mono ?_
      rintro e' w1 ⟨rfl, bl⟩
      obtain ⟨ho, hbw, hbx⟩ := HNO.out w1 bl
      have hx1 := HX.out.below bl
      have d0 := hx1.cell0
      have d1 := hx1.cell1
      have hy1 := HY.out.below bl
      have e0 := hy1.cell0
      have e1 := hy1.cell1
      have e2 := hy1.frozen 0
      have e3 := hy1.frozen 1
      have k0 := hbx.cell0
      have k1 := hbx.cell1
      have HO := Lib.hid ho; have HBW := Lib.hid hbw
      clear ho hbw hbx bl hy1 hx1 c0 c1
      go_wp2_with fail
      exact bodyPost_ret (v := .tuple #[.agg #[.slice none 0 0, .slice none 0 0], .bool false]) (by simp [results, Try.results34, go_sem, k0, k1]) rfl ⟨_, _, rfl, HO.out, HBW.out⟩

set_option maxRecDepth 20000 in
set_option maxHeartbeats 3200000 in
theorem spec_cnR (w : World) (A A' : Option Addr) (n n' c c' : Nat) (t f : List Int) (h : Rd w A n t) (h' : Rd w A' n' f) (hn : n ≤ 1048576) (hn' : n' ≤ 1048576) (x : Int) (hw : (Lit.int .i64 x).wf = true) {ok : Bool} {yt yf : List Int} (hR : cnR t f x = (ok, yt, yf)) :
    Calls Try.prog 37 #[.agg #[.slice A n c, .slice A' n' c'], .int .i64 x] w fun e w' => ∃ u u', e = .returned (.tuple #[.agg #[u, u'], .bool ok]) ∧ OwnM w' w.heap.size u u' yt yf ∧ Below w.heap.size w w' := by
  obtain ⟨W0, hW0, hx, hy, hb, hz⟩ := two_boxes w 28 28 (.slice A n c) (.slice A' n' c') (.slice none 0 0) (.slice none 0 0)
  have c0 := hx.cell0
  have c1 := hx.cell1
  obtain ⟨r, hr⟩ : ∃ r, kdR t f x = r := ⟨_, rfl⟩
  have HX := Lib.hid hx; have HY := Lib.hid hy; have HB := Lib.hid hb; have HZ := Lib.hid hz; have H := Lib.hid h; have H' := Lib.hid h'; have HKD := Lib.hid hr; clear hx hy hb hz h h'
  have HNO : Hid (∀ w1 : World, Below W0.heap.size W0 w1 → OwnM ((w1.setCell ⟨w.heap.size + 1, 0, none⟩ (.slice none 0 0)).setCell ⟨w.heap.size + 1, 1, none⟩ (.slice none 0 0)) w.heap.size (.slice none 0 0) (.slice none 0 0) [] [] ∧ Below w.heap.size w ((w1.setCell ⟨w.heap.size + 1, 0, none⟩ (.slice none 0 0)).setCell ⟨w.heap.size + 1, 1, none⟩ (.slice none 0 0)) ∧ Box ((w1.setCell ⟨w.heap.size + 1, 0, none⟩ (.slice none 0 0)).setCell ⟨w.heap.size + 1, 1, none⟩ (.slice none 0 0)) (w.heap.size + 1) 28 (.slice none 0 0) (.slice none 0 0)) := by
    intro w1 b
    obtain ⟨hq1, hq2⟩ := (HY.out.below b).store2 (.slice none 0 0) (.slice none 0 0)
    exact ⟨OwnM.nil_ _ _, (HB.out.trans (b.mono HB.out.size)).grown hq2 (by have := HB.out.size; have := b.size; omega) (fun k hk => by cases hk; omega), hq1⟩
  by_cases hk : 0 ≤ r ∧ r ≠ 2 ∧ n ≠ 2
  · obtain ⟨hk0, hk1, hk2⟩ := hk
    obtain ⟨hv, hbe⟩ := kd_pos (t := t) (f := f) (x := x) (by rw [hr]; exact hk0)
    have hm := mapV_iff.1 hv
    obtain rfl : n = n' := hm.same H.out.1 H'.out.1
    have hn12 : n ≤ 12 := by rw [← H'.out.1]; exact hm.flip.2.1
    have hn1 : 1 ≤ n := by rw [← H'.out.1]; exact hm.flip.1
    have hbe' : 0 ≤ x ∧ x ≤ ((f.length / 2 : Nat) : Int) - 1 := by simpa [hasEB, inB] using hbe
    obtain ⟨e, rfl⟩ := Int.eq_ofNat_of_zero_le hbe'.1
    have he : e < f.length / 2 := by omega
    obtain ⟨d1, d2, d3, -⟩ := dE_of hm.flip hm.paired he
    obtain ⟨a, ha⟩ : ∃ a, dE f e = a := ⟨_, rfl⟩
    obtain ⟨b, hb⟩ : ∃ b, gn f a = b := ⟨_, rfl⟩
    rw [ha] at d1 d2 d3
    have hbl : b < n := by rw [← hb, ← H'.out.1]; exact hm.flip.gn_lt d1
    rw [H'.out.1] at d1
    have HYS : Hid (ok = true ∧ yt = conT t a b ∧ yf = delF f a b) := by
      rw [Hid]
      have := hR
      rw [cnR, if_pos ⟨by rw [hr]; exact hk0, by rw [hr]; exact hk1, by rw [H.out.1]; exact hk2⟩, aE, Int.toNat_natCast, ha, hb] at this
      simpa [eq_comm] using this
    have hd0 : decide (r < 0) = false := by simp; omega
    have hd1 : (r == 2) = false := by simp [hk1]
    have hd2 : ((n : Int) == 2) = false := by simp; omega
    have HM := Lib.hid hm; have HD2 := Lib.hid d2; have HD3 := Lib.hid d3; have HAB := Lib.hid hb
    clear hv hm hbe hbe' hr hR d2 d3 ha hb hk0 hk1 hk2 he
    go_enter Try.func37, Try.ntmps37
    go_wp2_with fail
    refine (spec_kdR W0 A A' n n c c' t f (H.out.below HB.out) (H'.out.below HB.out) hn hn' (e : Int) hw HKD.out).mono ?_
    rintro e' w1 ⟨rfl, bl⟩
    have hx1 := HX.out.below bl
    have e0 := hx1.cell0
    have e1 := hx1.cell1
    have HB1 := Lib.hid (HB.out.trans (bl.mono HB.out.size)); have HX1 := Lib.hid hx1; have HY1 := Lib.hid (HY.out.below bl); have HZ1 := Lib.hid bl.size
    clear bl c0 c1 hx1
    go_wp2_with fail
    refine (l7Dart_any A A' n n c c' e a f w1 (H'.out.below HB1.out) HM.out.flip HM.out.paired d1 HD2.out HD3.out).mono ?_
    rintro e' w2 ⟨rfl, bl⟩
    have hx2 := HX1.out.below bl
    have c0 := hx2.cell0
    have c1 := hx2.cell1
    have HB2 := Lib.hid (HB1.out.trans (bl.mono HB1.out.size)); have HX2 := Lib.hid hx2; have HY2 := Lib.hid (HY1.out.below bl); have HZ2 := Lib.hid bl.size
    obtain ⟨adf, hAf, hcf⟩ := (H'.out.below HB2.out).at_ d1
    rw [HM.out.flip.gi_gn (by rw [H'.out.1]; exact d1), HAB.out] at hcf
    subst hAf
    clear bl e0 e1 hx2
    go_wp2_with fail
    refine (l2Copy_any A n c t w2 (H.out.below HB2.out) hn1 hn).mono ?_
    rintro e' w3 ⟨v, rfl, o, bl⟩
    obtain ⟨A5, c5, rfl, -, -⟩ := o.form' H.out.1
    obtain ⟨g, rfl, hg, -, -⟩ := o.cellAt H.out.1 (k := 0) (by omega)
    have hgl := (o.lt g rfl).2
    have hx3 := HX2.out.below bl
    have e0 := hx3.cell0
    have e1 := hx3.cell1
    have HB3 := Lib.hid (HB2.out.trans (bl.mono HB2.out.size)); have HX3 := Lib.hid hx3; have HY3 := Lib.hid (HY2.out.below bl); have HZ3 := Lib.hid bl.size
    have hzz : w.heap.size + 1 < g := by have := HZ.out; have := HZ1.out; have := HZ2.out; omega
    have HO3 := Lib.hid (o.mono (lo' := w.heap.size + 2) (by have := HZ.out; have := HZ1.out; have := HZ2.out; omega))
    clear bl hx3 c0 c1 hcf
    have hab : a ≠ b := by have := HD2.out; rw [HAB.out] at this; omega
    obtain ⟨xb, hxb⟩ : ∃ xb, gi t b = xb := ⟨_, rfl⟩
    obtain ⟨xa, hxa⟩ : ∃ xa, gi t a = xa := ⟨_, rfl⟩
    obtain ⟨adt, hAt, hctb⟩ := (H.out.below HB3.out).at_ hbl
    rw [hxb] at hctb
    subst hAt
    obtain ⟨g1, q1, -, hg1, hf1⟩ := HO3.out.cellAt H.out.1 d1
    simp only [Option.some.injEq, Addr.mk.injEq, and_true] at q1
    subst q1
    have s1 := HO3.out.stored H.out.1 a xb
    have hl1 : (t.set a xb).length = n := by rw [List.length_set]; exact H.out.1
    have hb31 : Below g w3 (w3.setCell ⟨g, a, none⟩ (.int .i64 xb)) := (Below.refl g w3).setCell (show g ≤ (⟨g, a, none⟩ : Addr).block from Nat.le_refl _) _
    have HBS : Hid (Below w.heap.size w (w3.setCell ⟨g, a, none⟩ (.int .i64 xb))) := HB3.out.trans (hb31.mono (by omega))
    obtain ⟨adt', hAt', hcta⟩ := (H.out.below HBS.out).at_ d1
    simp only [Option.some.injEq] at hAt'
    subst hAt'
    rw [hxa] at hcta
    have hxs := HX3.out.over hb31 (by omega)
    have x0 := hxs.cell0
    obtain ⟨g1, q1, -, hg2, hf2⟩ := s1.1.cellAt hl1 hbl
    simp only [Option.some.injEq, Addr.mk.injEq, and_true] at q1
    subst q1
    have s2 := s1.1.stored hl1 b xa
    have hb32 : Below g w3 ((w3.setCell ⟨g, a, none⟩ (.int .i64 xb)).setCell ⟨g, b, none⟩ (.int .i64 xa)) := hb31.setCell (show g ≤ (⟨g, b, none⟩ : Addr).block from Nat.le_refl _) _
    have hsl : (t.set a xb).set b xa = swapL t a b := by rw [swapL, hxa, hxb]
    rw [hsl] at s2
    obtain ⟨W4, hW4⟩ : ∃ W4, (w3.setCell ⟨g, a, none⟩ (.int .i64 xb)).setCell ⟨g, b, none⟩ (.int .i64 xa) = W4 := ⟨_, rfl⟩
    rw [hW4] at s2 hb32
    have HOS := Lib.hid s2.1
    have HSL : Hid ((swapL t a b).length = n) := by rw [Hid, swapL_len]; exact H.out.1
    have HVS : Hid (Vld (swapL t a b)) := swapL_vld HM.out.turn (by rw [H.out.1]; exact d1) (by rw [H.out.1]; exact hbl)
    have HB4 := Lib.hid (HB3.out.trans (hb32.mono (by omega))); have HX4 := Lib.hid (HX3.out.over hb32 (by omega)); have HY4' := Lib.hid (HY3.out.over hb32 (by omega))
    have hgl4 := (s2.1.lt g rfl).2
    clear s1 s2 hl1 hb31 hxs hsl hxa hxb hb32
    go_wp2_with fail
    clear hW4 hctb hcta hg1 hf1 hg2 hf2 x0 e0 e1
    refine (l2Copy_any _ n c5 (swapL t a b) W4 (HOS.out.rd HSL.out) hn1 hn).mono ?_
    rintro e' w5 ⟨v, rfl, o, bl⟩
    obtain ⟨A8, c85, rfl, -, -⟩ := o.form' HSL.out
    obtain ⟨g8, rfl, hg8, -, -⟩ := o.cellAt HSL.out (k := 0) (by omega)
    have hgl8 := (o.lt g8 rfl).2
    have hx5 := HX4.out.below bl
    have e0 := hx5.cell0
    have e1 := hx5.cell1
    have HB5 := Lib.hid (HB4.out.trans (bl.mono HB4.out.size)); have HX5 := Lib.hid hx5; have HY5 := Lib.hid (HY4'.out.below bl)
    have HO5 := Lib.hid (o.mono (lo' := w.heap.size + 2) (by omega))
    have HRS := Lib.hid ((HOS.out.below bl).rd HSL.out)
    have hgg8 : g < g8 := by omega
    have hzz8 : w.heap.size + 1 < g8 := by omega
    clear bl hx5 o
    go_wp2_with fail
    go_loopw [11] (fun dv wr => ∃ k : Nat, k ≤ n ∧ dv = .int .i64 k ∧ Hid (Own wr (w.heap.size + 2) (.slice (some ⟨g8, 0, none⟩) n c85) (pstP (swapL t a b) a b k)) ∧ Hid (Below g8 w5 wr)) (fun dv _ => n - (intOf dv).toNat)
    case atStart => exact ⟨0, Nat.zero_le _, rfl, by rw [← pstP_zero]; exact HO5, Below.refl _ _⟩
    case round =>
      obtain ⟨k, hk, rfl, ho, hbr⟩ := hrel
      have HBR : Hid (Below w.heap.size w wr) := HB5.out.trans (hbr.out.mono (by omega))
      have hx4 := HX5.out.over hbr.out (by omega)
      have hpl : (pstP (swapL t a b) a b k).length = n := (pstP_len _ _ _ _).trans HSL.out
      have k0 := hx4.cell0
      have k1 := hx4.cell1
      clear e0 e1
      by_cases hlt : k < n
      · obtain ⟨g1, q1, -, hc1, hf1⟩ := ho.out.cellAt hpl hlt
        simp only [Option.some.injEq, Addr.mk.injEq, and_true] at q1
        subst q1
        by_cases h1 : k = a
        · have b1 : ((k : Int) != (a : Int)) = false := by simp [h1]
          have HS : Hid (stayB a b k = false) := by rw [h1]; simp [stayB, Hid]
          clear h1 hpl
          go_wp2_with fail
          go_roundw
          case rel => exact ⟨k + 1, by omega, by go_num, by rw [pstP_no HS.out]; exact ho.out, hbr⟩
          case measure => simp [intOf]; omega
        · by_cases h2 : k = b
          · have b1 : ((k : Int) != (a : Int)) = true := by simp; omega
            have b2 : ((k : Int) != (b : Int)) = false := by simp [h2]
            have HS : Hid (stayB a b k = false) := by rw [h2]; simp [stayB, Hid]
            clear h1 h2 hpl
            go_wp2_with fail
            go_roundw
            case rel => exact ⟨k + 1, by omega, by go_num, by rw [pstP_no HS.out]; exact ho.out, hbr⟩
            case measure => simp [intOf]; omega
          · have b1 : ((k : Int) != (a : Int)) = true := by simp; omega
            have b2 : ((k : Int) != (b : Int)) = true := by simp; omega
            have HS : Hid (stayB a b k = true) := stayB_true h1 h2
            obtain ⟨p0, hp0⟩ : ∃ p0, pastG (swapL t a b) a b k = p0 := ⟨_, rfl⟩
            have hst := ho.out.stored hpl k (p0 : Int)
            rw [← hp0, pstP_yes HS.out (by rw [HSL.out]; exact hlt), hp0] at hst
            have HST := Lib.hid hst
            have HP0 := Lib.hid hp0
            clear h1 h2 hpl hst hp0
            go_wp2_with (go_at_call 63; refine (l7Past_any _ n _ k a b p0 (swapL t a b) _ (HRS.out.over hbr.out (fun ad e _ => by injection e with e; rw [← e]; exact hgg8)) HVS.out hlt HS.out HP0.out).mono ?_; rintro e' w9 ⟨rfl, rfl⟩)
            go_roundw
            case rel => exact ⟨k + 1, by omega, by go_num, HST.out.1, hbr.out.setCell (Nat.le_refl _) _⟩
            case measure => simp [intOf]; omega
      · have hkn : k = n := by omega
        have HRP : Hid (Rd wr (some ⟨g8, 0, none⟩) n (pstP (swapL t a b) a b n)) := by have := ho.out.rd hpl; rwa [hkn] at this
        have HY4 := Lib.hid (HY5.out.over hbr.out (by omega))
        have hsw := hbr.out.size
        clear hkn hpl
        go_wp2_with fail
        refine (l7Leave_any _ _ n _ c' a b (pstP (swapL t a b) a b n) f wr HRP.out (H'.out.below HBR.out) (by have := pstP_into HVS.out a b n; rwa [HSL.out] at this) (HM.out.flip.into H'.out.1) hn12).mono ?_
        rintro e' w9 ⟨u, u', rfl, o, bl⟩
        obtain ⟨A6, c6, A7, c7, rfl, rfl, -, -⟩ := o.form (n := kpN a b n) (n' := kpN a b n) (outI_len _ _ _ _ _) (outI_len _ _ _ _ _)
        obtain ⟨ht, hf, hap⟩ := o
        have HT := Lib.hid ht; have HF := Lib.hid hf; have HAP := Lib.hid hap
        have HB9 := Lib.hid (HBR.out.trans (bl.mono HBR.out.size))
        have hy9 := HY4.out.below bl
        have e0 := hy9.cell0
        have e1 := hy9.cell1
        have e2 := hy9.frozen 0
        have e3 := hy9.frozen 1
        obtain ⟨K, hK⟩ : ∃ K, kpN a b n = K := ⟨_, rfl⟩
        have HYT : Hid (outI a b n (gn (pstP (swapL t a b) a b n)) (kpN a b n) = yt ∧ outI a b n (gn f) (kpN a b n) = yf) := by
          rw [HYS.out.2.1, HYS.out.2.2, pstP_out HSL.out, conT, delF, H.out.1, H'.out.1]
          exact ⟨rfl, rfl⟩
        rw [hK]
        rw [HYT.out.1] at HT
        rw [HYT.out.2] at HF
        rw [hK] at HT HF HAP
        obtain ⟨hq1, hq2⟩ := hy9.store2 (.slice A6 K c6) (.slice A7 K c7)
        have j0 := hq1.cell0
        have j1 := hq1.cell1
        have HD := Lib.hid (pair_done HT.out HF.out HAP.out HB9.out hq2 (by omega) (by omega))
        clear hq1 hq2 bl hK hy9 ht hf hap
        go_wp2_with fail
        exact bodyPost_ret (v := .tuple #[.agg #[.slice A6 K c6, .slice A7 K c7], .bool true]) (by simp [results, Try.results37, go_sem, j0, j1]) rfl ⟨_, _, by rw [HYS.out.1], HD.out.1, HD.out.2⟩
  · obtain ⟨rfl, rfl, rfl⟩ : ok = false ∧ yt = [] ∧ yf = [] := by
      have := hR
      rw [cnR, if_neg (fun hh => hk ⟨by rw [← hr]; exact hh.1, by rw [← hr]; exact hh.2.1, by rw [← H.out.1]; exact hh.2.2⟩)] at this
      simpa [eq_comm] using this
    have key : r < 0 ∨ (0 ≤ r ∧ r = 2) ∨ (0 ≤ r ∧ r ≠ 2 ∧ n = 2) := by omega
    clear hk hR hr
    rcases key with h1 | ⟨h1, h2⟩ | ⟨h1, h2, h3⟩
    · have hd0 : decide (r < 0) = true := by simp [h1]
      clear h1
      go_enter Try.func37, Try.ntmps37
      go_wp2_with fail
      refine (spec_kdR W0 A A' n n' c c' t f (H.out.below HB.out) (H'.out.below HB.out) hn hn' x hw HKD.out).mono ?_
      rintro e' w1 ⟨rfl, bl⟩
      obtain ⟨ho, hbw, hbx⟩ := HNO.out w1 bl
      have hx1 := HX.out.below bl
      have d0 := hx1.cell0
      have d1 := hx1.cell1
      have hy1 := HY.out.below bl
      have e0 := hy1.cell0
      have e1 := hy1.cell1
      have e2 := hy1.frozen 0
      have e3 := hy1.frozen 1
      have k0 := hbx.cell0
      have k1 := hbx.cell1
      have HO := Lib.hid ho; have HBW := Lib.hid hbw
      clear ho hbw hbx bl hy1 hx1 c0 c1
      go_wp2_with fail
      exact bodyPost_ret (v := .tuple #[.agg #[.slice none 0 0, .slice none 0 0], .bool false]) (by simp [results, Try.results37, go_sem, k0, k1]) rfl ⟨_, _, rfl, HO.out, HBW.out⟩
    · have hd0 : decide (r < 0) = false := by simp; omega
      have hd1 : (r == 2) = true := by simp [h2]
      clear h1 h2
      go_enter Try.func37, Try.ntmps37
      go_wp2_with fail
      refine (spec_kdR W0 A A' n n' c c' t f (H.out.below HB.out) (H'.out.below HB.out) hn hn' x hw HKD.out).mono ?_
      rintro e' w1 ⟨rfl, bl⟩
      obtain ⟨ho, hbw, hbx⟩ := HNO.out w1 bl
      have hx1 := HX.out.below bl
      have d0 := hx1.cell0
      have d1 := hx1.cell1
      have hy1 := HY.out.below bl
      have e0 := hy1.cell0
      have e1 := hy1.cell1
      have e2 := hy1.frozen 0
      have e3 := hy1.frozen 1
      have k0 := hbx.cell0
      have k1 := hbx.cell1
      have HO := Lib.hid ho; have HBW := Lib.hid hbw
      clear ho hbw hbx bl hy1 hx1 c0 c1
      go_wp2_with fail
      exact bodyPost_ret (v := .tuple #[.agg #[.slice none 0 0, .slice none 0 0], .bool false]) (by simp [results, Try.results37, go_sem, k0, k1]) rfl ⟨_, _, rfl, HO.out, HBW.out⟩
    · have hd0 : decide (r < 0) = false := by simp; omega
      have hd1 : (r == 2) = false := by simp [h2]
      have hd2 : ((n : Int) == 2) = true := by simp; omega
      clear h1 h2 h3
      go_enter Try.func37, Try.ntmps37
      go_wp2_with fail
      refine (spec_kdR W0 A A' n n' c c' t f (H.out.below HB.out) (H'.out.below HB.out) hn hn' x hw HKD.out).mono ?_
      rintro e' w1 ⟨rfl, bl⟩
      obtain ⟨ho, hbw, hbx⟩ := HNO.out w1 bl
      have hx1 := HX.out.below bl
      have d0 := hx1.cell0
      have d1 := hx1.cell1
      have hy1 := HY.out.below bl
      have e0 := hy1.cell0
      have e1 := hy1.cell1
      have e2 := hy1.frozen 0
      have e3 := hy1.frozen 1
      have k0 := hbx.cell0
      have k1 := hbx.cell1
      have HO := Lib.hid ho; have HBW := Lib.hid hbw
      clear ho hbw hbx bl hy1 hx1 c0 c1
      go_wp2_with fail
      exact bodyPost_ret (v := .tuple #[.agg #[.slice none 0 0, .slice none 0 0], .bool false]) (by simp [results, Try.results37, go_sem, k0, k1]) rfl ⟨_, _, rfl, HO.out, HBW.out⟩

end Go.Proofs.Ytpaohaodnchfkaa

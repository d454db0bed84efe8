/-
  Voltages, as the model sees them: whether a list is one, the permutation of a dart.
-/
import Derived.Test.YthcdhkelpepeeaaCov
import Derived.Test.YthcdhkelpepeeaaL7D
import Derived.Test.YthcdhkelpepeeaaAppR
namespace Go.Proofs.Ythcdhkelpepeeaa
open Go.RowKit

theorem vv_no {t f : List Int} {k : Int} {vss : List (List Int)} (h : ∀ kn : Nat, k = kn → IsMap t f → 1 ≤ kn → kn ≤ 6 → kn * t.length ≤ 12 → vss.length = f.length / 2 → ¬ ∀ e, e < vss.length → Vld (vss.getD e []) ∧ (vss.getD e []).length = kn) : vvB t f k vss = false :=
  vvB_false fun kn e hv => h kn e hv.map hv.one hv.six hv.few hv.len hv.row

set_option maxRecDepth 20000 in
set_option maxHeartbeats 3200000 in
theorem spec_vvB (w : World) (A A' : Option Addr) (n n' c c' : Nat) (t f : List Int) (h : Rd w A n t) (h' : Rd w A' n' f) (hn : n ≤ 1048576) (hn' : n' ≤ 1048576) (k : Int) (B : Option Addr) (m d : Nat) (vss : List (List Int)) (hs : RdSS w B m vss) (hm : m ≤ 1048576) (htot : total vss ≤ 1048576) {r : Bool} (hR : vvB t f k vss = r) :
    Calls Try.prog 16 #[.agg #[.slice A n c, .slice A' n' c'], .int .i64 k, .slice B m d] w fun e w' => e = .returned (.bool r) ∧ Below w.heap.size w w' := by
  obtain ⟨W0, hW0, hx, hb, -⟩ := Box.local_ w 29 (.slice A n c) (.slice A' n' c')
  have c0 := hx.cell0
  have c1 := hx.cell1
  have HX := Lib.hid hx; have HB := Lib.hid hb; have H := Lib.hid h; have H' := Lib.hid h'; have HR := Lib.hid hR; have HS := Lib.hid hs; have Hm := Lib.hid hs.1; clear hx hb h h' hR hs
  cases hv : mapV t f with
  | false =>
    have HF : Hid (vvB t f k vss = false) := vv_no fun _ _ hm => absurd (mapV_iff.2 hm) (by rw [hv]; decide)
    have HV := Lib.hid hv; clear hv
    go_enter Try.func16, Try.ntmps16
    go_wp2_with (go_at_call 51; refine (spec_mapV W0 A A' n n' c c' t f (H.out.below HB.out) (H'.out.below HB.out) hn hn' HV.out).mono ?_; rintro e w1 ⟨rfl, b⟩; have HB1 := Lib.hid (HB.out.trans (b.mono HB.out.size)); clear b c0 c1)
    go_ret
    exact ⟨ret_bool (by rw [← HR.out, HF.out]), HB1.out⟩
  | true =>
    have hmap := mapV_iff.1 hv
    have hn12 : n ≤ 12 := by rw [← H.out.1]; exact hmap.turn.2.1
    have hn2 : n' = n := by rw [← H.out.1, ← H'.out.1]; exact hmap.len.symm
    subst hn2
    obtain ⟨h2, hh2⟩ : ∃ h2, n' / 2 = h2 := ⟨_, rfl⟩
    have HV := Lib.hid hv; have HM := Lib.hid hmap; have HHH := Lib.hid hh2
    have hh6 : h2 ≤ 6 := by omega
    have g2 : IntKind.i64.wrap ((n' : Int) / 2) = (h2 : Int) := by rw [IntWalk.i64_in _ (by omega)]; omega
    have g2' : (n' : Int) / 2 = (h2 : Int) := by omega
    clear hv hmap hh2
    cases hk : inB k 1 6 with
    | false =>
      have HF : Hid (vvB t f k vss = false) := vv_no fun kn e _ h1 h6 => absurd (inB_true (x := k) (lo := 1) (hi := 6) (by omega) (by omega)) (by rw [hk]; decide)
      have HK := Lib.hid hk; clear hk
      go_enter Try.func16, Try.ntmps16
      go_wp2_with (first
        | (go_at_call 51; refine (spec_mapV W0 A A' n' n' c c' t f (H.out.below HB.out) (H'.out.below HB.out) hn hn' HV.out).mono ?_; rintro e w1 ⟨rfl, b⟩; have HB1 := Lib.hid (HB.out.trans (b.mono HB.out.size)); clear b c0 c1)
        | (go_at_call 52; refine (l6In_any k 1 6 _).mono ?_; rintro e w2 ⟨rfl, rfl⟩; rw [HK.out]))
      go_ret
      exact ⟨ret_bool (by rw [← HR.out, HF.out]), HB1.out⟩
    | true =>
      obtain ⟨hk1, hk6⟩ : 1 ≤ k ∧ k ≤ 6 := by simpa [inB] using hk
      obtain ⟨kn, rfl⟩ : ∃ kn : Nat, k = kn := ⟨k.toNat, by omega⟩
      have hk1' : 1 ≤ kn := by omega
      have hk6' : kn ≤ 6 := by omega
      obtain ⟨P, hP⟩ : ∃ P, kn * n' = P := ⟨_, rfl⟩
      have hP72 : P ≤ 72 := by rw [← hP]; exact Nat.mul_le_mul hk6' hn12
      have gP : IntKind.i64.wrap ((kn : Int) * (n' : Int)) = (P : Int) := by rw [← Int.natCast_mul, hP]; exact IntWalk.i64_in _ (by omega)
      have gP' : (kn : Int) * (n' : Int) = (P : Int) := by rw [← Int.natCast_mul, hP]
      have HK := Lib.hid hk; have HP := Lib.hid hP; clear hk hP hk1 hk6
      by_cases hp : 12 < P
      · have hd : decide ((12 : Int) < (P : Int)) = true := by simp; omega
        have HF : Hid (vvB t f (kn : Int) vss = false) := vv_no fun kn' e _ _ _ h4 => by
          have : kn = kn' := by omega
          subst this
          rw [H.out.1, HP.out] at h4
          omega
        clear hp
        go_enter Try.func16, Try.ntmps16
        go_wp2_with (first
          | (go_at_call 51; refine (spec_mapV W0 A A' n' n' c c' t f (H.out.below HB.out) (H'.out.below HB.out) hn hn' HV.out).mono ?_; rintro e w1 ⟨rfl, b⟩; have hx1 := HX.out.below b; have c0 := hx1.cell0; have c1 := hx1.cell1; have HB1 := Lib.hid (HB.out.trans (b.mono HB.out.size)); clear b hx1)
          | (go_at_call 52; refine (l6In_any (kn : Int) 1 6 _).mono ?_; rintro e w2 ⟨rfl, rfl⟩; rw [HK.out]))
        go_ret
        exact ⟨ret_bool (by rw [← HR.out, HF.out]), HB1.out⟩
      · have hd : decide ((12 : Int) < (P : Int)) = false := by simp; omega
        have HP12 : Hid (P ≤ 12) := by rw [Hid]; omega
        clear hp
        by_cases hmh : m = h2
        · have hne : ((m : Int) != (h2 : Int)) = false := by simp [hmh]
          have hm6 : m ≤ 6 := by omega
          have HMH := Lib.hid hmh; clear hmh
          go_enter Try.func16, Try.ntmps16
          go_wp2_with (first
            | (go_at_call 51; refine (spec_mapV W0 A A' n' n' c c' t f (H.out.below HB.out) (H'.out.below HB.out) hn hn' HV.out).mono ?_; rintro e w1 ⟨rfl, b⟩; have hx1 := HX.out.below b; have c0 := hx1.cell0; have c1 := hx1.cell1; have HB1 := Lib.hid (HB.out.trans (b.mono HB.out.size)); clear b hx1)
            | (go_at_call 52; refine (l6In_any (kn : Int) 1 6 _).mono ?_; rintro e w2 ⟨rfl, rfl⟩; rw [HK.out]))
          clear c0 c1 g2 g2' gP gP' hd hne
          go_loopw [7] (fun iv wr => ∃ j q : Nat, j ≤ m ∧ iv = .int .i64 j ∧ wr = w1.drewN q ∧ Hid (∀ e, e < j → Vld (vss.getD e []) ∧ (vss.getD e []).length = kn)) (fun iv _ => m - (intOf iv).toNat)
          case atStart => exact ⟨0, 0, Nat.zero_le _, rfl, rfl, fun e he => absurd he (by omega)⟩
          case round =>
            obtain ⟨j, q, hj, rfl, rfl, hall⟩ := hrel
            generalize hWe : w1.drewN q = W
            have HW := Lib.hid hWe.symm; clear hWe
            have HBW : Hid (Below w.heap.size w W) := by rw [Hid, HW.out]; exact below_drewN HB1.out q
            by_cases hlt : j < m
            · obtain ⟨ad, Aj, cj, nj, rfl, hc, hr, hmj⟩ := (HS.out.below HBW.out).at_ hlt
              have hge := total_ge (xss := vss) (k := j) (by rw [Hm.out]; exact hlt)
              rw [hr.1] at hge
              have HMJ : Hid (nj ≤ 17592186044416) := by rw [Hid]; omega
              have hnj : nj ≤ 1048576 := by omega
              have HRJ := Lib.hid hr; have HNJ := Lib.hid hr.1; clear hr hmj hge
              cases hvj : vld (vss.getD j []) with
              | false =>
                have HF : Hid (vvB t f (kn : Int) vss = false) := vv_no fun kn' e _ _ _ _ _ h7 => by
                  have := (h7 j (by rw [Hm.out]; exact hlt)).1
                  rw [vld_true this] at hvj
                  exact absurd hvj (by decide)
                have HVJ := Lib.hid hvj; clear hvj
                go_wp2_with (go_at_call 53; refine (specValid_any Aj nj cj _ _ HRJ.out HMJ.out).mono ?_; rintro e w2 ⟨rfl, q2, rfl⟩; rw [HVJ.out])
                go_ret
                exact ⟨ret_bool (by rw [← HR.out, HF.out]), below_drewN HBW.out _⟩
              | true =>
                have HVJ := Lib.hid hvj; clear hvj
                by_cases hjk : nj = kn
                · have hne : ((nj : Int) != (kn : Int)) = false := by simp [hjk]
                  have HJK := Lib.hid hjk; clear hjk
                  go_wp2_with (go_at_call 53; refine (specValid_any Aj nj cj _ _ HRJ.out HMJ.out).mono ?_; rintro e w2 ⟨rfl, q2, rfl⟩; rw [HVJ.out])
                  go_roundw
                  case rel => exact ⟨j + 1, q + q2, by omega, by go_num, by rw [HW.out, World.drewN_drewN], fun e he => by
                    by_cases h : e = j
                    · subst h; exact ⟨Vld_of HVJ.out, by rw [HNJ.out, HJK.out]⟩
                    · exact hall.out e (by omega)⟩
                  case measure => simp [intOf]; omega
                · have hne : ((nj : Int) != (kn : Int)) = true := by simp; omega
                  have HF : Hid (vvB t f (kn : Int) vss = false) := vv_no fun kn' e _ _ _ _ _ h7 => by
                    have := (h7 j (by rw [Hm.out]; exact hlt)).2
                    rw [HNJ.out] at this
                    omega
                  clear hjk
                  go_wp2_with (go_at_call 53; refine (specValid_any Aj nj cj _ _ HRJ.out HMJ.out).mono ?_; rintro e w2 ⟨rfl, q2, rfl⟩; rw [HVJ.out])
                  go_ret
                  exact ⟨ret_bool (by rw [← HR.out, HF.out]), below_drewN HBW.out _⟩
            · have HT : Hid (vvB t f (kn : Int) vss = true) := vvB_true ⟨HM.out, hk1', hk6', by rw [H.out.1, HP.out]; exact HP12.out, by rw [Hm.out, H'.out.1, HHH.out, HMH.out], fun e he => hall.out e (by rw [Hm.out] at he; omega)⟩
              go_wp2_with fail
              go_ret
              exact ⟨ret_bool (by rw [← HR.out, HT.out]), HBW.out⟩
        · have hne : ((m : Int) != (h2 : Int)) = true := by simp; omega
          have HF : Hid (vvB t f (kn : Int) vss = false) := vv_no fun kn' e _ _ _ _ h5 => by
            rw [Hm.out, H'.out.1, HHH.out] at h5
            omega
          clear hmh
          go_enter Try.func16, Try.ntmps16
          go_wp2_with (first
            | (go_at_call 51; refine (spec_mapV W0 A A' n' n' c c' t f (H.out.below HB.out) (H'.out.below HB.out) hn hn' HV.out).mono ?_; rintro e w1 ⟨rfl, b⟩; have hx1 := HX.out.below b; have c0 := hx1.cell0; have c1 := hx1.cell1; have HB1 := Lib.hid (HB.out.trans (b.mono HB.out.size)); clear b hx1)
            | (go_at_call 52; refine (l6In_any (kn : Int) 1 6 _).mono ?_; rintro e w2 ⟨rfl, rfl⟩; rw [HK.out]))
          go_ret
          exact ⟨ret_bool (by rw [← HR.out, HF.out]), HB1.out⟩

end Go.Proofs.Ythcdhkelpepeeaa

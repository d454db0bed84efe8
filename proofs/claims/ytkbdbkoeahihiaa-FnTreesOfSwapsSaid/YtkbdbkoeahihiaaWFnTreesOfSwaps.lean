/-
  FnTreesOfSwaps: the walk of the law.
-/
import Derived.Test.YtkbdbkoeahihiaaLists
import Derived.Test.YtkbdbkoeahihiaaPAll
import Derived.Test.YtkbdbkoeahihiaaDrawTy
import Derived.Test.YtkbdbkoeahihiaaFacO
import Derived.Test.YtkbdbkoeahihiaaLawN
namespace Go.Proofs.Ytkbdbkoeahihiaa
open Go.RowKit

def swaps (x k : Nat) : List (List Int) := [(x : Int)] :: List.replicate k (swapL x)
theorem swaps_len (x k : Nat) : (swaps x k).length = k + 1 := by simp [swaps]
theorem swaps_succ (x k : Nat) : swaps x (k + 1) = swaps x k ++ [swapL x] := by simp [swaps, List.replicate_succ']
def tosB (x : Nat) : Bool := decide (x < 2) || decide (IntKind.i64.wrap (fct (x - 1) * ((x ^ (x - 2) : Nat) : Int)) = fcR (swaps x (x - 1)))
theorem tosB_all : ∀ x : Nat, x < 7 → tosB x = true := by decide +kernel
theorem tos_law {x : Nat} (h : x < 7) (h2 : 2 ≤ x) : IntKind.i64.wrap (fct (x - 1) * ((x ^ (x - 2) : Nat) : Int)) = fcR (swaps x (x - 1)) := by
  have := tosB_all x h
  simp only [tosB, Bool.or_eq_true, decide_eq_true_eq] at this
  exact this.resolve_left (by omega)
theorem pow_in {x k : Nat} (hx : x < 7) (hk : k ≤ 5) : x ^ k ≤ 7776 := Nat.le_trans (Nat.pow_le_pow_left (show x ≤ 6 by omega) k) (Nat.le_trans (Nat.pow_le_pow_right (by omega) hk) (by decide))
theorem fct_small : ∀ x : Nat, x < 7 → 1 ≤ fct x ∧ fct x ≤ 720 := by decide +kernel
theorem total_swaps (x : Nat) (h : x < 7) : total (swaps x (x - 1)) ≤ 1000 := by
  have : ∀ y : Nat, y < 7 → total (swaps y (y - 1)) ≤ 1000 := by decide +kernel
  exact this x h

set_option maxRecDepth 100000 in
set_option maxHeartbeats 3200000 in
theorem walk_FnTreesOfSwaps (A0 : Option Addr) (n0 c0 : Nat) (bs0 : List Int) (w : World) (h0 : RdB w A0 n0 bs0) (hm0 : n0 ≤ maxLen ∧ n0 ≤ c0) :
    Calls Try.prog 8 #[.slice A0 n0 c0] w fun e w' => e = .returned (.bool true) ∧ Below w.heap.size w w' := by
  have HB0_0 := Lib.hid h0; have hc0 := hm0.2; have hml0 := hm0.1; clear h0 hm0; unfold maxLen at hml0
  by_cases hbig0 : 1048576 < n0
  · have hd : decide ((1048576 : Int) < n0) = true := by simp; omega
    go_enter Try.func8, Try.ntmps8
    go_wp2
    go_ret
    exact ⟨rfl, Below.refl _ _⟩
  have hd0 : decide ((1048576 : Int) < n0) = false := by simp; omega
  have hnb0 : n0 ≤ 1048576 := by omega
  clear hbig0
  go_enter Try.func8, Try.ntmps8
  go_wp2_with fail
  refine (drawPartsAll_any w A0 n0 c0 bs0 HB0_0.out hnb0 hc0).mono ?_
  rintro e w1 ⟨x, rfl, hx, b⟩
  have HB := Lib.hid b; have hs := b.size; clear b
  obtain ⟨ok, ys, hR⟩ : ∃ ok ys, paR (x : Int) = (ok, ys) := ⟨_, _, rfl⟩
  have hlm := paR_len hR
  obtain ⟨m, hm⟩ : ∃ m, ys.length = m := ⟨_, rfl⟩
  rw [hm] at hlm
  have hwf : (Lit.int .i64 (x : Int)).wf = true := WalkArith.wf_i64 (by omega)
  have HR := Lib.hid hR; have HM := Lib.hid hm; have HLM := Lib.hid hlm.2; have hm100 := hlm.1; clear hR hm hlm
  go_wp2_with fail
  refine (impl_paR w1 x hwf HR.out).mono ?_
  rintro e w2 ⟨v, rfl, o, b⟩
  obtain ⟨A1, c1, rfl, -⟩ := o.form HM.out
  have H1 := Lib.hid (o.rd HM.out)
  have HB2 := Lib.hid (HB.out.trans (b.mono hs)); have hs2 := HB2.out.size; clear o b HB
  go_wp2_with fail
  refine (spec_paR w2 x hwf HR.out).mono ?_
  rintro e w3 ⟨v, rfl, o, b⟩
  obtain ⟨A2, c2, rfl, -⟩ := o.form HM.out
  have H2 := Lib.hid (o.rd HM.out)
  have H13 := Lib.hid (H1.out.below b)
  have HB3 := Lib.hid (HB2.out.trans (b.mono hs2)); have hs3 := HB3.out.size; clear o b HB2 H1
  have hok : (ok != ok) = false := by cases ok <;> rfl
  have hok2 : (ok == ok) = true := by cases ok <;> rfl
  by_cases hv : 1 ≤ (x : Int) ∧ (x : Int) ≤ 6
  · obtain ⟨hok1, hys⟩ : ok = true ∧ ys = ptsOf 7 x x := by have := HR.out; rw [paR, if_pos hv] at this; simpa [eq_comm] using this
    subst hok1
    have HYS := Lib.hid hys; clear hys
    have hx1 : 1 ≤ x ∧ x ≤ 6 := by omega
    clear hv
    by_cases h1 : x < 2
    · have hd : decide ((x : Int) < 2) = true := by simp; omega
      have hmx : m = 1 := by rw [← HM.out, HYS.out, show x = 1 by omega]; decide +kernel
      have hml : ((m : Int) == 1) = true := by simp; omega
      have HMX := Lib.hid hmx; clear hmx
      go_wp2_with (go_at_call 20; refine (sameLists_same A1 A2 m c1 c2 ys w3 H13.out H2.out (by omega)).mono ?_; rintro e w4 ⟨rfl, b⟩; have HB4 := Lib.hid (HB3.out.trans (b.mono hs3)); clear b)
      go_ret
      exact ⟨rfl, HB4.out⟩
    have hd : decide ((x : Int) < 2) = false := by simp; omega
    have hx2 : 2 ≤ x := by omega
    clear h1
    go_wp2_with (go_at_call 20; refine (sameLists_same A1 A2 m c1 c2 ys w3 H13.out H2.out (by omega)).mono ?_; rintro e w4 ⟨rfl, b⟩; have HB4 := Lib.hid (HB3.out.trans (b.mono hs3)); clear b)
    have hs4 := HB4.out.size
    obtain ⟨i1, hinf1, hy0, hy1, hy2⟩ := info_parts info_sliceT
    obtain ⟨B, hB⟩ : ∃ B, w4.heap.size = B := ⟨_, rfl⟩
    obtain ⟨W5, hW5⟩ : ∃ W5, w4.alloc (.cells #[.int .i64 x] 3) = W5 := ⟨_, rfl⟩
    have hs5 : W5.heap.size = B + 1 := by rw [← hW5, World.size_alloc, hB]
    obtain ⟨W6, hW6⟩ : ∃ W6, W5.alloc (.cells #[.slice (some ⟨B, 0, none⟩) 1 1] 23) = W6 := ⟨_, rfl⟩
    have hb5 : Below B w4 W5 := by rw [← hW5, ← hB]; exact (Below.refl _ _).alloc (Nat.le_refl _) _
    have ho5 : Own W5 0 (.slice (some ⟨B, 0, none⟩) 1 1) [(x : Int)] := by rw [← hW5, ← hB]; exact World.ownsRow_lit w4 #[.int .i64 x] 1 (Nat.zero_le _) (by unfold maxLen; omega) rfl
    have hb6' : Below W5.heap.size W5 W6 := by rw [← hW6]; exact (Below.refl _ _).alloc (Nat.le_refl _) _
    have ho6 : RowO W6 B (.slice (some ⟨B + 1, 0, none⟩) 1 1) (swaps x 0) := by
      refine ⟨[.slice (some ⟨B, 0, none⟩) 1 1], ?_, .one (ho5.below hb6')⟩
      rw [← hW6, ← hs5]
      exact World.ownsRow_lit W5 #[.slice (some ⟨B, 0, none⟩) 1 1] 1 (by omega) (by unfold maxLen; omega) rfl
    have hb6 : Below B w4 W6 := hb5.trans (hb6'.mono (by omega))
    have HO6 := Lib.hid ho6; have HB6 := Lib.hid hb6; have HBB := Lib.hid hB; have HS5 := Lib.hid hs5
    clear ho5 ho6 hb6 hb6' hb5
    simp only [hB, hW5, hW6]
    clear hW5 hW6 hB hs5
    have hsB : B ≤ W6.heap.size := by have := HB6.out.size; rw [HBB.out] at this; exact this
    go_loopw [8, 9, 10] (fun tv pv iv wr => ∃ (k P : Nat) (A : Option Addr) (c : Nat), 1 ≤ k ∧ k ≤ x ∧ tv = .slice A k c ∧ pv = .int .i64 P ∧ iv = .int .i64 k ∧ Hid (P = x ^ (k - 2)) ∧ Hid (RowO wr B (.slice A k c) (swaps x (k - 1))) ∧ Hid (Below B w4 wr)) (fun _ _ iv _ => x - (intOf iv).toNat)
    case atStart => exact ⟨1, 1, _, _, Nat.le_refl _, by omega, rfl, rfl, rfl, rfl, HO6.out, HB6.out⟩
    case round =>
      obtain ⟨k, P, A, c, hk1, hk, rfl, rfl, rfl, hP, ho, hb⟩ := hrel
      have hbs : B ≤ wr.heap.size := by have := hb.out.size; rw [HBB.out] at this; exact this
      have hPb : P ≤ 7776 := by rw [hP.out]; exact pow_in (by omega) (by omega)
      by_cases hlt : k < x
      · obtain ⟨k1, hk1'⟩ : ∃ k1, k - 1 = k1 := ⟨_, rfl⟩
        rw [hk1'] at ho
        have hkk : k1 + 1 = k := by omega
        have HKK := Lib.hid hkk; clear hkk hk1'
        obtain ⟨P2, hP2⟩ : ∃ P2, P * x = P2 := ⟨_, rfl⟩
        have hP2b : P2 ≤ 46656 := by rw [← hP2]; exact Nat.le_trans (Nat.mul_le_mul hPb (show x ≤ 6 by omega)) (by decide)
        have hmul : IntKind.i64.wrap ((P : Int) * (x : Int)) = (P2 : Int) := by
          rw [show (P : Int) * (x : Int) = (P2 : Int) from by rw [← hP2]; simp]
          exact IntWalk.i64_in _ (by omega)
        have HP2 := Lib.hid hP2; clear hP2
        by_cases hkg : 1 < k
        all_goals
          go_wp2_with (first
            | (have hchk := HV.out; clear hchk; at_builtin; refine wpList_append_own _ rfl _ _ 28 rfl B 23 i1 (.slice none 0 0) 1 24 Try.underlying28 hinf1 hy0 hy1 hy2 rfl (by decide) _ _ _ rfl (HOW.out.alloc _) ⟨w7.heap.size, 0, none⟩ 1 1 [.slice Av nv cv] rfl rfl (cell_one_new _ _ _) (by intro u hu; simp at hu; subst hu; rfl) (by unfold maxLen; omega) (by omega) (by rw [World.size_alloc]; have := HB7.out.size; omega) ?_; intro v8 w8 hown1 hgrow1 _; have HN8 := Lib.hid hown1; have HG8 := Lib.hid hgrow1; clear hown1 hgrow1)
            | (go_at_call 27; refine (swapType_any x _ (by omega)).mono ?_; rintro e w7 ⟨v, rfl, o, b7⟩; obtain ⟨nv, hnv⟩ : ∃ nv, (swapL x).length = nv := ⟨_, rfl⟩; obtain ⟨Av, cv, rfl, -, -⟩ := o.form' hnv; have HNV := Lib.hid hnv; have HV : Hid (Own w7 0 (.slice Av nv cv) (swapL x)) := o.mono (Nat.zero_le _); have HB7 := Lib.hid b7; have HO7 := Lib.hid (ho.out.below b7); obtain ⟨vs, hown, hrows⟩ := HO7.out; rw [swaps_len, HKK.out] at hown; have HOW := Lib.hid hown; have HRW := Lib.hid hrows; clear o b7 hown hrows hnv))
          have hal : Below w7.heap.size w7 (w7.alloc (.cells #[.slice Av nv cv] 23)) := (Below.refl _ _).alloc (Nat.le_refl _) _
          have HO8 : Hid (RowO w8 B v8 (swaps x k)) := by
            have := RowO.added (by rw [swaps_len, HKK.out]) (World.ownsRow.alloc HOW.out _) (HRW.out.below hal) (.one (HV.out.below hal)) HN8.out rfl HG8.out
            rw [← swaps_succ, HKK.out] at this
            exact this
          have HB8 : Hid (Below B w4 w8) := (((hb.out.trans (HB7.out.mono hbs)).trans (hal.mono (by have := HB7.out.size; omega)))).grown HG8.out (by rw [World.size_alloc]; have := HB7.out.size; omega) (fun j hj => (HO7.out.lt j hj).1)
          obtain ⟨A8, c8, rfl, -⟩ := HO8.out.form (n := k + 1) (swaps_len x k)
          clear hal
          go_roundw
        case rel => exact ⟨k + 1, P2, A8, c8, by omega, by omega, rfl, by first | rfl | exact congrArg _ hmul, by go_num, by rw [Hid, ← HP2.out, hP.out, ← Nat.pow_succ]; congr 1; omega, HO8.out, HB8.out⟩
        case measure => simp [intOf]; omega
        case rel => exact ⟨k + 1, P, A8, c8, by omega, by omega, rfl, rfl, by go_num, by rw [Hid, hP.out]; congr 1; omega, HO8.out, HB8.out⟩
        case measure => simp [intOf]; omega
      · have hkx : k = x := by omega
        have HKX := Lib.hid hkx
        obtain ⟨T, hT⟩ : ∃ T, fcR (swaps x (x - 1)) = T := ⟨_, rfl⟩
        obtain ⟨F, hF⟩ : ∃ F, fct (x - 1) = F := ⟨_, rfl⟩
        have hFb := fct_small (x - 1) (by omega)
        have hlaw := tos_law (x := x) (by omega) hx2
        rw [hT, hF] at hlaw
        rw [hF] at hFb
        have hPP : P = x ^ (x - 2) := by rw [hP.out, hkx]
        rw [← hPP] at hlaw
        obtain ⟨A9, c9, e9, hrd⟩ := ho.out.form (n := k) (by rw [swaps_len]; omega)
        simp only [Value.slice.injEq, true_and] at e9
        obtain ⟨rfl, rfl⟩ := e9
        rw [show k - 1 = x - 1 by omega] at hrd
        obtain ⟨x1, hx1'⟩ : ∃ x1, x - 1 = x1 := ⟨_, rfl⟩
        have hsub : IntKind.i64.wrap ((x : Int) - 1) = (x1 : Int) := by rw [IntWalk.i64_in _ (by omega)]; omega
        have hsub' : (x : Int) - 1 = (x1 : Int) := by omega
        rw [hx1'] at hF
        have hx16 : x1 ≤ 7 := by omega
        have htt : (T == T) = true := by simp
        have HRD := Lib.hid hrd; have HT := Lib.hid hT; have HF := Lib.hid hF; have HX1 := Lib.hid hx1'; have HS1 := Lib.hid hsub'
        clear hrd hT hF hx1' hPP hkx hsub'
        go_wp2_with fail
        refine (impl_fcQ _ A c k (swaps x (x - 1)) HRD.out (by omega) (by have := total_swaps x (by omega); omega) HT.out).mono ?_
        rintro e w9 ⟨rfl, b9⟩
        have HB9 := Lib.hid b9; clear b9
        go_wp2_with fail
        refine (timesN_any x1 _ (by omega)).mono ?_
        rintro e wt ⟨rfl, rfl⟩
        rw [HF.out]
        clear hsub
        go_wp2_with fail
        go_ret
        exact ⟨rfl, HB4.out.trans ((hb.out.trans (HB9.out.mono hbs)).mono (by rw [← HBB.out]; exact hs4))⟩
  
  · obtain ⟨hok1, hys⟩ : ok = false ∧ ys = [] := by have := HR.out; rw [paR, if_neg hv] at this; simpa [eq_comm] using this
    subst hok1
    have HYS := Lib.hid hys; clear hys hv
    go_wp2_with (go_at_call 20; first | (refine (sameLists_same A1 A2 m c1 c2 ys w3 H13.out H2.out (by omega)).mono ?_; rintro e w4 ⟨rfl, b⟩; have HB4 := Lib.hid (HB3.out.trans (b.mono hs3)); have H14 := Lib.hid (H13.out.below b); have H24 := Lib.hid (H2.out.below b); clear b H13) | (refine (sameLists_same A1 A2 m c1 c2 ys w4 H14.out H24.out (by omega)).mono ?_; rintro e w5 ⟨rfl, b⟩; have HB5 := Lib.hid (HB4.out.trans (b.mono HB4.out.size)); clear b))
    go_ret
    exact ⟨rfl, HB5.out⟩

end Go.Proofs.Ytkbdbkoeahihiaa

/-
  Sizes of classes: the model's and the program's.
-/
import Derived.Test.YtlgfedkoefhjjaaPtS
namespace Go.Proofs.Ytlgfedkoefhjjaa
open Go.RowKit

/-- The program's steps. -/
def csI (xs : List Int) : Nat → Int × Int
  | 0 => (fct (sumI xs).toNat, 0)
  | k + 1 => let e := (if 0 < k ∧ gi xs k ≠ gi xs (k - 1) then 0 else (csI xs k).2) + 1; ((csI xs k).1.tdiv (gi xs k * e), e)
/-- The model's steps. -/
def csS (xs : List Int) : Nat → Int × Int
  | 0 => (fct (sumI xs).toNat, 0)
  | k + 1 => let e := if 0 < k ∧ gi xs k ≠ gi xs (k - 1) then 1 else (csS xs k).2 + 1; (((csS xs k).1.tdiv (gi xs k)).tdiv e, e)
theorem csI_in : ∀ xs ∈ allPts, ∀ k, k < xs.length → 0 ≤ (csI xs k).2 ∧ (csI xs k).2 ≤ 6 ∧ 1 ≤ (csI xs (k + 1)).1 ∧ (csI xs (k + 1)).1 ≤ 720 ∧ 1 ≤ (csI xs (k + 1)).2 ∧ (csI xs (k + 1)).2 ≤ 6 := by decide +kernel
theorem csS_in : ∀ xs ∈ allPts, ∀ k, k < xs.length → 0 ≤ (csS xs k).2 ∧ (csS xs k).2 ≤ 6 ∧ 1 ≤ ((csS xs k).1.tdiv (gi xs k)) ∧ ((csS xs k).1.tdiv (gi xs k)) ≤ 720 ∧ 1 ≤ (csS xs (k + 1)).1 ∧ (csS xs (k + 1)).1 ≤ 720 ∧ 1 ≤ (csS xs (k + 1)).2 ∧ (csS xs (k + 1)).2 ≤ 6 := by decide +kernel
theorem cs_same : ∀ xs ∈ allPts, (csI xs xs.length).1 = (csS xs xs.length).1 := by decide +kernel
def cs (xs : List Int) : Int := (csI xs xs.length).1
def csR (xs : List Int) : Int := if pt xs = true then cs xs else -1

set_option maxHeartbeats 1600000 in
theorem classSize_any (A : Option Addr) (n c : Nat) (xs : List Int) (w : World) (h : Rd w A n xs) (hp : Pt xs) :
    Calls Try.prog 22 #[.slice A n c] w fun e w' => e = .returned (.int .i64 (cs xs)) ∧ w' = w := by
  have hn6 : n ≤ 6 := by have := hp.len; rw [h.1] at this; exact this
  have hsm := hp.sum
  obtain ⟨s, hs⟩ := Int.eq_ofNat_of_zero_le (show 0 ≤ sumI xs by omega)
  have hs7 : s ≤ 7 := by omega
  have HA := Lib.hid (csI_in xs hp.all)
  have H := Lib.hid h; have HP := Lib.hid hp; have Hx := Lib.hid h.1; have HS := Lib.hid hs; clear h hp hsm hs
  go_enter Try.func22, Try.ntmps22
  go_wp2_with fail
  refine (sum_any A n c xs w H.out HP.out).mono ?_
  rintro e w1 ⟨rfl, rfl⟩
  rw [HS.out]
  go_wp2_with fail
  refine (factorial_any s w1 hs7).mono ?_
  rintro e w2 ⟨rfl, rfl⟩
  go_wp2_with fail
  go_loop [3, 4, 12] (fun s e i => ∃ (k : Nat) (t u : Int), k ≤ n ∧ s = .int .i64 t ∧ e = .int .i64 u ∧ i = .int .i64 k ∧ Hid (csI xs k = (t, u))) (fun _ _ i => n - (intOf i).toNat)
  case atStart => exact ⟨0, _, _, Nat.zero_le _, rfl, rfl, rfl, by rw [Hid, csI, HS.out]; rfl⟩
  case round =>
    obtain ⟨k, t, u, hk, rfl, rfl, rfl, hT⟩ := hrel
    by_cases hlt : k < n
    · obtain ⟨ad, rfl, hc⟩ := H.out.at_ hlt
      obtain ⟨j, hj⟩ : ∃ j, j = k - 1 := ⟨_, rfl⟩
      have hjn : j < n := by omega
      obtain ⟨ad', hA, hc'⟩ := H.out.at_ hjn
      simp only [Option.some.injEq] at hA
      subst hA
      obtain ⟨t', u', hN⟩ : ∃ t' u', csI xs (k + 1) = (t', u') := ⟨_, _, rfl⟩
      have hb := HA.out k (by rw [Hx.out]; exact hlt)
      rw [hT.out, hN] at hb
      obtain ⟨b1, b2, b3, b4, b5, b6⟩ := hb
      dsimp only at b1 b2 b3 b4 b5 b6
      have h1 := HP.out.le (j := k) (by rw [Hx.out]; exact hlt)
      have hN' := hN
      rw [csI, hT.out] at hN'
      dsimp only at hN'
      obtain ⟨d, hd⟩ : ∃ d, gi xs k * u' = d := ⟨_, rfl⟩
      have hd1 : 1 ≤ d := by rw [← hd]; exact Int.mul_pos (by omega) (by omega)
      have hd36 : d ≤ 36 := by rw [← hd]; exact Int.mul_le_mul (c := 6) (d := 6) (by omega) (by omega) (by omega) (by omega)
      have hwd : IntKind.i64.wrap (gi xs k * u') = d := by rw [hd]; exact IntWalk.i64_in _ (by omega)
      have hd0 : ¬ (d = 0) := by omega
      have ht' : t.tdiv d = t' := by have e1 := congrArg Prod.fst hN'; have e2 := congrArg Prod.snd hN'; dsimp only at e1 e2; rw [e2, hd] at e1; exact e1
      have hq : IntKind.i64.wrap (t.tdiv d) = t' := by rw [ht']; exact IntWalk.i64_in _ (by omega)
      have hN2 := Lib.hid (congrArg Prod.snd hN')
      have HN := Lib.hid hN; have HJ := Lib.hid hj; have HT' := Lib.hid ht'; have HD := Lib.hid hd
      clear hN hN' hj ht' hd
      by_cases h0 : 0 < k
      · have hg0 : decide ((0 : Int) < (k : Int)) = true := by simp; omega
        have hs1 := wsub1 (a := k) (b := j) (by have := HJ.out; omega) (by omega)
        by_cases he : gi xs k = gi xs j
        · have hne : (gi xs k != gi xs j) = false := by simp [he]
          have hu : u' = u + 1 := by have := hN2.out; dsimp only at this; rw [← HJ.out, if_neg (fun x => x.2 he)] at this; exact this.symm
          have hw : IntKind.i64.wrap (u + 1) = u' := by rw [hu]; exact IntWalk.i64_in _ (by omega)
          have HE := Lib.hid he; have HU := Lib.hid hu; clear he hu
          go_wp2_with fail
          go_round
          case rel => exact ⟨k + 1, t', u', by omega, rfl, rfl, by go_num, HN.out⟩
          case measure => simp [intOf]; omega
        · have hne : (gi xs k != gi xs j) = true := by simpa using he
          have hu : u' = 0 + 1 := by have := hN2.out; dsimp only at this; rw [← HJ.out, if_pos ⟨h0, he⟩] at this; exact this.symm
          have hdx : gi xs k = d := by rw [← HD.out, hu]; omega
          have hq2 : IntKind.i64.wrap (t.tdiv (gi xs k)) = t' := by rw [hdx]; exact hq
          have hx0 : ¬ (gi xs k = 0) := by omega
          have HE := Lib.hid he; have HDX := Lib.hid hdx; subst hu; clear he hdx
          go_wp2_with fail
          go_round
          case rel => exact ⟨k + 1, t', _, by omega, by rw [← hq2], rfl, by go_num, HN.out⟩
          case measure => simp [intOf]; omega
      · have hg0 : decide ((0 : Int) < (k : Int)) = false := by simp; omega
        have hu : u' = u + 1 := by have := hN2.out; dsimp only at this; rw [if_neg (fun x => h0 x.1)] at this; exact this.symm
        have hw : IntKind.i64.wrap (u + 1) = u' := by rw [hu]; exact IntWalk.i64_in _ (by omega)
        have HU := Lib.hid hu; clear hu
        go_wp2_with fail
        go_round
        case rel => exact ⟨k + 1, t', u', by omega, rfl, rfl, by go_num, HN.out⟩
        case measure => simp [intOf]; omega
    · obtain rfl : k = n := by omega
      go_wp2_with fail
      go_ret
      exact ⟨ret_int (by rw [cs, Hx.out, hT.out]), rfl⟩

set_option maxHeartbeats 800000 in
theorem impl_csR (w : World) (A : Option Addr) (c n : Nat) (xs : List Int) (h : Rd w A n xs) (hn : n ≤ 1048576) {r : Int} (hR : csR xs = r) :
    Calls Try.prog 10 #[.slice A n c] w fun e w' => e = .returned (.int .i64 r) ∧ Below w.heap.size w w' := by
  have H0 := Lib.hid h; have HR := Lib.hid hR; clear h hR
  by_cases hb : pt xs = true
  · have HP := Lib.hid (Pt_of hb)
    obtain rfl : cs xs = r := by have := HR.out; rw [csR, if_pos hb] at this; exact this
    go_enter Try.func10, Try.ntmps10
    go_wp2_with fail
    refine (impl_pts w A c n xs H0.out hn hb).mono ?_
    rintro e w1 ⟨rfl, rfl⟩
    go_wp2_with fail
    refine (classSize_any A n c xs w1 H0.out HP.out).mono ?_
    rintro e w2 ⟨rfl, rfl⟩
    go_wp2_with fail
    go_ret
    exact ⟨rfl, Below.refl _ _⟩
  · have hb' : pt xs = false := by simpa using hb
    obtain rfl : -1 = r := by have := HR.out; rw [csR, if_neg hb] at this; exact this
    clear HR hb
    go_enter Try.func10, Try.ntmps10
    go_wp2_with fail
    refine (impl_pts w A c n xs H0.out hn hb').mono ?_
    rintro e w1 ⟨rfl, rfl⟩
    go_wp2_with fail
    go_ret
    exact ⟨rfl, Below.refl _ _⟩

end Go.Proofs.Ytlgfedkoefhjjaa

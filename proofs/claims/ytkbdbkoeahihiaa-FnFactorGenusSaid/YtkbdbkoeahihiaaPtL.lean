/-
  Characters, the program's: the recursion and the call.
-/
import Derived.Test.YtkbdbkoeahihiaaPtK
namespace Go.Proofs.Ytkbdbkoeahihiaa
open Go.RowKit Go.Maps
set_option linter.unusedVariables false

def CharAt (F : Nat → Int) (C : Nat) (ys : List Int) : Prop :=
  ∀ b : Nat, b < 128 → wsum b = C + nsum ys → ∀ (w : World) (A : Option Addr) (n c mb : Nat), Rd w A n ys → n ≤ c → (0 < n → ∃ g o, A = some ⟨g, o, none⟩ ∧ g ≠ mb) → KeptB F w mb →
    Calls Try.prog 78 #[.int .u64 b, .slice A n c, .map (some mb)] w fun e w' => e = .returned (.int .i64 (chIP ys b)) ∧ KeptB F w' mb ∧ w.grownBy w' (some mb)

theorem add_go (g o j : Nat) : (⟨g, o, none⟩ : Addr).add j = ⟨g, o + j, none⟩ := by unfold Addr.add; split <;> simp_all
theorem Rd.tail {w : World} {g o n c : Nat} {x : Int} {r : List Int} (h : Rd w (some ⟨g, o, none⟩) n (x :: r)) (hc : n ≤ c) : Rd w (if c = 1 then some ⟨g, o, none⟩ else some ⟨g, o + 1, none⟩) (n - 1) r := by
  refine ⟨by rw [← h.1]; rfl, fun hp => ?_⟩
  rw [if_neg (by omega)]
  refine ⟨_, rfl, fun j hj => ?_⟩
  obtain ⟨ad, e, hcell⟩ := h.2 (by omega)
  injection e with e
  subst e
  have := hcell (j + 1) (by omega)
  rw [add_go] at this ⊢
  rw [show o + 1 + j = o + (j + 1) by omega, this]
  rfl
theorem Rd.other {w w' : World} {A : Option Addr} {n mb : Nat} {xs : List Int} (h : Rd w A n xs) (hA : 0 < n → ∃ g o, A = some ⟨g, o, none⟩ ∧ g ≠ mb) (hg : w.grownBy w' (some mb)) : Rd w' A n xs :=
  ⟨h.1, fun hp => by
    obtain ⟨g, o, e, hne⟩ := hA hp
    obtain ⟨ad, e', hc⟩ := h.2 hp
    refine ⟨ad, e', fun j hj => hg.cell (hc j hj) ?_⟩
    rw [e] at e'
    injection e' with e'
    subst e'
    rw [add_go]
    simpa using hne⟩

theorem char_nil (F : Nat → Int) (C : Nat) : CharAt F C [] := by
  intro b hb hw w A n c mb h hc hA hk
  obtain rfl : 0 = n := h.1
  have HK := Lib.hid hk; clear hk h hA
  go_enter Try.func78, Try.ntmps78
  go_wp2_with fail
  go_ret
  exact ⟨rfl, HK.out, World.grownBy.refl _ _⟩

/-- The sum behind the first m ways. -/
def chSP (r : List Int) (x b m : Nat) : Int := sumN m fun m => if hasBP b (x + m) && !hasBP b m then sgB b m (x + m) * chIP r (mvB b m (x + m)) else 0
theorem chS_bd (r : List Int) (x b m : Nat) (hr : r.length ≤ 5) (hm : m ≤ 7) : -1000000 ≤ chSP r x b m ∧ chSP r x b m ≤ 1000000 := by
  have h5 : 7 ^ r.length ≤ 7 ^ 5 := Nat.pow_le_pow_right (by omega) hr
  obtain ⟨q, hq⟩ : ∃ q : Nat, 7 ^ r.length = q := ⟨_, rfl⟩
  have ih := chI_bd r
  rw [hq] at ih h5
  have := sumN_bd (B := (q : Int)) (by omega) (fun m => term_bd (q := hasBP b (x + m) && !hasBP b m) (by omega) (sgB_or b m (x + m)) (ih (mvB b m (x + m)))) m
  have h7 : (m : Int) * (q : Int) ≤ 7 * (q : Int) := Int.mul_le_mul_of_nonneg_right (by omega) (by omega)
  unfold chSP
  omega
theorem chS_no {r : List Int} {x b m : Nat} (h : (hasBP b (x + m) && !hasBP b m) = false) : chSP r x b (m + 1) = chSP r x b m := by simp only [chSP, sumN, h]; simp
theorem chS_yes {r : List Int} {x b m : Nat} (h : (hasBP b (x + m) && !hasBP b m) = true) : chSP r x b (m + 1) = chSP r x b m + sgB b m (x + m) * chIP r (mvB b m (x + m)) := by simp only [chSP, sumN, h, if_true]

set_option maxHeartbeats 3200000 in
theorem char_cons (F : Nat → Int) (C : Nat) (y : Int) (r : List Int) (hy : 1 ≤ y ∧ y ≤ 6) (hr : r.length ≤ 5) (hF : ∀ b : Nat, b < 128 → wsum b = C + nsum (y :: r) → F b = chIP (y :: r) b) (ih : CharAt F C r) : CharAt F C (y :: r) := by
  intro b hb hw w A n c mb h hc hA hk
  obtain ⟨x, rfl⟩ := Int.eq_ofNat_of_zero_le (show 0 ≤ y by omega)
  have hn : n = r.length + 1 := by rw [← h.1]; rfl
  obtain ⟨g, o, rfl, hgm⟩ := hA (by omega)
  obtain ⟨ad, e1, hc0⟩ := h.at_ (k := 0) (by omega)
  injection e1 with e1
  subst e1
  rw [addz] at hc0
  have hc0' : w.cell? ⟨g, o, none⟩ = some (.int .i64 (x : Int)) := hc0
  obtain ⟨hx1, hx6⟩ : 1 ≤ x ∧ x ≤ 6 := by omega
  have HA := Lib.hid hgm
  have HFB := Lib.hid (hF b hb hw)
  have HK := Lib.hid hk; have H := Lib.hid h; have HW := Lib.hid hw; have HIH := Lib.hid ih; have HN := Lib.hid hn
  have hn1 : ((n : Int) == 0) = false := by simp; omega
  have hn0 : 1 ≤ n := by omega
  have hn0' : (1 : Int) ≤ (n : Int) := by omega
  have hnc' : (n : Int) ≤ (c : Int) := by omega
  have HT : Hid (chIP ((x : Int) :: r) b = chSP r x b (7 - x)) := rfl
  have HWF : Hid ((Lit.int .i64 (chIP ((x : Int) :: r) b)).wf = true) := wf_ch (by simp; omega)
  clear hk h hA hw hc0 hF ih hy hn hgm
  go_enter Try.func78, Try.ntmps78
  go_wp2_with (at_lookup; refine wpList_lookB rfl _ _ rfl mb HK.out b hb rfl rfl ?_ ?_)
  · go_ret
    exact ⟨ret_int HFB.out, HK.out, World.grownBy.refl _ _⟩
  · go_wp2_with fail
    go_loopw [9, 10] (fun s i wr => ∃ (m : Nat) (t : Int), m ≤ 7 - x ∧ s = .int .i64 t ∧ i = .int .i64 (x + m : Nat) ∧ Hid (t = chSP r x b m) ∧ Hid (KeptB F wr mb) ∧ Hid (w.grownBy wr (some mb))) (fun _ i _ => 7 - (intOf i).toNat)
    case atStart => exact ⟨0, 0, Nat.zero_le _, rfl, rfl, rfl, HK, World.grownBy.refl _ _⟩
    case round =>
      obtain ⟨m, t, hm, rfl, rfl, hT, hK, hG⟩ := hrel
      have tb := chS_bd r x b m hr (by omega)
      rw [← hT.out] at tb
      obtain ⟨hh, hhh⟩ : ∃ hh, hh = x + m := ⟨_, rfl⟩
      rw [← hhh]
      by_cases hlt : hh ≤ 6
      · have hd : decide (hh ≤ 6) = true := by simpa using hlt
        have hd' : decide ((hh : Int) ≤ 6) = true := by simp; omega
        have hcx : wr.cell? ⟨g, o, none⟩ = some (.int .i64 (x : Int)) := hG.out.cell hc0' (by simpa using HA.out)
        have g1 : IntKind.i64.wrap ((hh : Int) - (x : Int)) = (m : Int) := by rw [IntWalk.i64_in _ (by omega)]; omega
        have g2 : IntKind.i64.wrap ((hh : Int) + 1) = ((hh + 1 : Nat) : Int) := by rw [IntWalk.i64_in _ (by omega)]; omega
        have HHH := Lib.hid hhh; clear hhh
        by_cases h1 : hasBP b hh = true
        · by_cases h2 : hasBP b m = true
          · have HST := Lib.hid (chS_no (r := r) (x := x) (b := b) (m := m) (by rw [← HHH.out, h1, h2]; rfl))
            go_wp2_with fail
            refine (has_any b hh wr hb (by omega)).mono ?_
            rintro e w1 ⟨rfl, rfl⟩
            rw [h1]
            go_wp2_with fail
            refine (has_any b m w1 hb (by omega)).mono ?_
            rintro e w2 ⟨rfl, rfl⟩
            rw [h2]
            go_wp2_with fail
            go_roundw
            case rel => exact ⟨m + 1, t, by have := HHH.out; omega, rfl, by rw [HHH.out]; go_num, by rw [Hid, HST.out]; exact hT.out, hK, hG⟩
            case measure => simp [intOf]; omega
          · have h2 : hasBP b m = false := by simpa using h2
            obtain ⟨e1, e2, e3⟩ := mvB_in (h := x) (m := m) hb hx1 (by rw [← HHH.out]; omega) (by rw [← HHH.out]; exact h1) h2
            have HST := Lib.hid (chS_yes (r := r) (x := x) (b := b) (m := m) (by rw [← HHH.out, h1, h2]; rfl))
            rw [← HHH.out] at e1 e2 e3 HST
            obtain ⟨b', hb'⟩ : ∃ b', mvB b m hh = b' := ⟨_, rfl⟩
            rw [hb'] at e1 e2 e3 HST
            have HB' := Lib.hid hb'; clear hb'
            have HE2 := Lib.hid e2; clear e2
            obtain ⟨ss, hss⟩ : ∃ ss, sgB b m hh = ss := ⟨_, rfl⟩
            have hs1 := sgB_or b m hh
            rw [hss] at hs1
            obtain ⟨cc, hcc⟩ : ∃ cc, chIP r b' = cc := ⟨_, rfl⟩
            have tb' := chS_bd r x b (m + 1) hr (by omega)
            have hcb := chI_bd r b'
            rw [hcc] at hcb
            have h5 : 7 ^ r.length ≤ 7 ^ 5 := Nat.pow_le_pow_right (by omega) hr
            obtain ⟨q7, hq7⟩ : ∃ q : Nat, 7 ^ r.length = q := ⟨_, rfl⟩
            rw [hq7] at hcb h5
            rw [HST.out, hss, hcc, ← hT.out] at tb'
            obtain ⟨pp, hpp⟩ : ∃ pp, ss * cc = pp := ⟨_, rfl⟩
            rw [hpp] at tb'
            have hpb : -1000000 ≤ pp ∧ pp ≤ 1000000 := by rcases hs1 with rfl | rfl <;> omega
            have g3 : IntKind.i64.wrap (ss * cc) = pp := by rw [hpp]; exact IntWalk.i64_in _ (by omega)
            obtain ⟨tt, htt⟩ : ∃ tt, t + pp = tt := ⟨_, rfl⟩
            have g4 : IntKind.i64.wrap (t + pp) = tt := by rw [htt]; exact IntWalk.i64_in _ (by omega)
            have HTT : Hid (tt = chSP r x b (m + 1)) := by rw [Hid, HST.out, hss, hcc, hpp, ← hT.out, htt]
            have HSG : Hid (∀ wx : World, Calls Try.prog 94 #[.int .u64 b, .int .i64 m, .int .i64 hh] wx fun e w' => e = .returned (.int .i64 ss) ∧ w' = wx) := fun wx => by rw [← hss]; exact sign_any b m hh _ hb (by omega) (by omega)
            have HCG : Hid (∀ (wx : World) (A : Option Addr) (n c mb : Nat), Rd wx A n r → n ≤ c → (0 < n → ∃ g o, A = some ⟨g, o, none⟩ ∧ g ≠ mb) → KeptB F wx mb →
                Calls Try.prog 78 #[.int .u64 b', .slice A n c, .map (some mb)] wx fun e w' => e = .returned (.int .i64 cc) ∧ KeptB F w' mb ∧ wx.grownBy w' (some mb)) := by
              have := HIH.out b' e1 (by have := HE2.out; have := HW.out; simp only [nsum] at this; omega)
              rw [hcc] at this
              exact this
            have HCC := Lib.hid hcc
            clear hss hcc hpp htt hs1 hcb h5 hq7 tb' hpb
            go_wp2_with fail
            refine (has_any b hh wr hb (by omega)).mono ?_
            rintro e w1 ⟨rfl, rfl⟩
            rw [h1]
            go_wp2_with fail
            refine (has_any b m w1 hb (by omega)).mono ?_
            rintro e w2 ⟨rfl, rfl⟩
            rw [h2]
            go_wp2_with fail
            go_quiet (fail)
            go_wp2_with fail
            refine wp_region_quiet_kept (F := F) (mb := mb) (hK.out.drewN _) (by kernel_rfl) (by kernel_rfl) ?_
            (repeat (quiet_step (first
              | (go_at_call 94; exact KW.same (HSG.out _))
              | (go_at_call 78; exact KW.more (HCG.out _ _ _ _ mb ((((H.out.other (fun _ => ⟨_, _, rfl, HA.out⟩) hG.out).drewN _).other (fun _ => ⟨_, _, rfl, HA.out⟩) (KW.g _)).tail hc) (by omega) (fun hp => by rw [if_neg (by omega)]; exact ⟨_, _, rfl, HA.out⟩) (KW.kept _))))))
            refine wpQuiet_nil ?_
            intro _ hw'
            obtain ⟨pq, hw''⟩ := hw'
            subst hw''
            go_wp2_with fail
            go_roundw
            case rel => exact ⟨m + 1, tt, by have := HHH.out; omega, rfl, by rw [HHH.out]; go_num, HTT.out, pq.kept, (grown_drewB hG.out _).trans pq.g⟩
            case measure => simp [intOf]; omega
        · have h1 : hasBP b hh = false := by simpa using h1
          have HST := Lib.hid (chS_no (r := r) (x := x) (b := b) (m := m) (by rw [← HHH.out, h1]; rfl))
          go_wp2_with fail
          refine (has_any b hh wr hb (by omega)).mono ?_
          rintro e w1 ⟨rfl, rfl⟩
          rw [h1]
          go_wp2_with fail
          go_roundw
          case rel => exact ⟨m + 1, t, by have := HHH.out; omega, rfl, by rw [HHH.out]; go_num, by rw [Hid, HST.out]; exact hT.out, hK, hG⟩
          case measure => simp [intOf]; omega
      · have hd : decide (hh ≤ 6) = false := by simpa using hlt
        have hd' : decide ((hh : Int) ≤ 6) = false := by simp; omega
        have hmx : m = 7 - x := by omega
        have HTE : Hid (t = chIP ((x : Int) :: r) b) := by rw [Hid, hT.out, HT.out, hmx]
        clear hmx hhh
        go_wp2_with (at_mapUpdate; refine wpList_keepB rfl _ _ _ rfl mb hK.out b hb rfl rfl t rfl (by rw [HFB.out, HTE.out]) (by rw [HTE.out]; exact HWF.out) ?_; intro w3 hk3 hg3)
        go_ret
        exact ⟨ret_int HTE.out, hk3, hG.out.trans hg3⟩

theorem char_all (xs : List Int) (C : Nat) (h6 : xs.length ≤ 6) (hx : ∀ x ∈ xs, 1 ≤ x ∧ x ≤ 6) : ∀ ys : List Int, ys <:+ xs → CharAt (keyF xs C) C ys := by
  intro ys
  induction ys with
  | nil => intro _; exact char_nil _ _
  | cons y r ih =>
    intro hs
    have hs' := hs
    obtain ⟨t, rfl⟩ := hs
    have hl := h6
    rw [List.length_append, List.length_cons] at hl
    refine char_cons _ C y r (hx y (by simp)) (by omega) (fun b _ hw => ?_) (ih ⟨t ++ [y], by simp⟩)
    rw [keyF, hw, Nat.add_sub_cancel_left, suf_at t (y :: r) (fun x h => (hx x (by simp [h])).1)]
theorem pts_in : ∀ xs ∈ allPts, bd xs < 128 ∧ nsum xs ≤ wsum (bd xs) ∧ (nsum xs : Int) = sumI xs ∧ (∀ x ∈ xs, 1 ≤ x ∧ x ≤ 6) := by decide +kernel

/-- Two partitions of one number. -/
def PairOk (a b : List Int) : Prop := Pt a ∧ Pt b ∧ sumI a = sumI b
instance (a b : List Int) : Decidable (PairOk a b) := by unfold PairOk; infer_instance
def chr (a b : List Int) : Int := chIP b (bd a)

theorem Own.capP {w : World} {lo n c : Nat} {A : Option Addr} {xs : List Int} (h : Own w lo (.slice A n c) xs) : n ≤ c := by
  rcases h.2 with ⟨e, _⟩ | ⟨g, cap, cur, e, _, _, hh, _⟩
  · injection e with _ e1 e2; omega
  · injection e with _ e1 e2; omega
theorem Own.row {w : World} {lo n c : Nat} {A : Option Addr} {xs : List Int} (h : Own w lo (.slice A n c) xs) (hn : xs.length = n) (hp : 0 < n) : ∃ g, A = some ⟨g, 0, none⟩ ∧ g < w.heap.size := by
  obtain ⟨g, e, _, hc, _⟩ := h.cellAt hn hp
  exact ⟨g, e, World.block_lt_of_cell? w _ hc⟩

set_option maxHeartbeats 800000 in
theorem partChar_any (A B : Option Addr) (n m c d : Nat) (a b : List Int) (w : World) (h : Rd w A n a) (h' : Rd w B m b) (hd : m ≤ d) (hB : 0 < m → ∃ g o, B = some ⟨g, o, none⟩ ∧ g < w.heap.size) (hp : PairOk a b) :
    Calls Try.prog 62 #[.slice A n c, .slice B m d] w fun e w' => e = .returned (.int .i64 (chr a b)) ∧ Below w.heap.size w w' := by
  obtain ⟨pa, pb, he⟩ := hp
  obtain ⟨a1, a2, a3, -⟩ := pts_in a pa.all
  obtain ⟨-, -, b3, b4⟩ := pts_in b pb.all
  obtain ⟨C, hC⟩ : ∃ C, wsum (bd a) = C + nsum b := ⟨wsum (bd a) - nsum b, by omega⟩
  have HALL := Lib.hid (char_all b C pb.len b4 b ⟨[], rfl⟩)
  have H := Lib.hid h; have H' := Lib.hid h'; have HBB := Lib.hid hB; have HPA := Lib.hid pa; have HC := Lib.hid hC
  have hmm := @run_makeMap Try.prog
  clear h h' hB pa pb he a2 a3 b3 b4 hC
  go_enter Try.func62, Try.ntmps62
  go_wp2_with fail
  refine (beads_any A n c a w H.out HPA.out).mono ?_
  rintro e w1 ⟨rfl, rfl⟩
  go_wp2_with fail
  have b1 : Below w1.heap.size w1 (w1.alloc (.map #[] 0)) := (Below.refl _ _).alloc (Nat.le_refl _) _
  have HB1 := Lib.hid b1
  refine (HALL.out (bd a) a1 HC.out _ B m d w1.heap.size (H'.out.below b1) hd (fun hp => by obtain ⟨g, o, e, hg⟩ := HBB.out hp; exact ⟨g, o, e, by omega⟩) (KeptB.made _ _)).mono ?_
  clear b1
  rintro e w3 ⟨rfl, hk, hg⟩
  have HG := Lib.hid (HB1.out.grown hg (by simp) (fun k e => by cases e; exact Nat.le_refl _)); clear hk hg
  go_wp2_with fail
  go_ret
  exact ⟨rfl, HG.out⟩

def prB (a b : List Int) : Bool := pt a && pt b && decide (sumI a = sumI b)
theorem prB_iff {a b : List Int} : prB a b = true ↔ PairOk a b := by simp [prB, pt, PairOk, and_assoc]

set_option maxHeartbeats 800000 in
theorem partsPair_any (A B : Option Addr) (n m c d : Nat) (a b : List Int) (w : World) (h : Rd w A n a) (h' : Rd w B m b) (hn : n ≤ 1048576) (hm : m ≤ 1048576) {r : Bool} (hr : prB a b = r) :
    Calls Try.prog 54 #[.slice A n c, .slice B m d] w fun e w' => e = .returned (.bool r) ∧ w' = w := by
  have H := Lib.hid h; have H' := Lib.hid h'; have HR := Lib.hid hr; clear h h' hr
  by_cases p1 : pt a = true
  · by_cases p2 : pt b = true
    · have P1 := Lib.hid (Pt_of p1); have P2 := Lib.hid (Pt_of p2)
      by_cases he : sumI a = sumI b
      · have hq : (sumI a == sumI b) = true := by simpa using he
        have HE : Hid (true = r) := by rw [Hid, ← HR.out]; simp [prB, p1, p2, he]
        clear he
        go_enter Try.func54, Try.ntmps54
        go_wp2_with fail
        refine (impl_pts w A c n a H.out hn p1).mono ?_
        rintro e w1 ⟨rfl, rfl⟩
        go_wp2_with fail
        refine (impl_pts w1 B d m b H'.out hm p2).mono ?_
        rintro e w2 ⟨rfl, rfl⟩
        go_wp2_with fail
        refine (sum_any A n c a w2 H.out P1.out).mono ?_
        rintro e w3 ⟨rfl, rfl⟩
        go_wp2_with fail
        refine (sum_any B m d b w3 H'.out P2.out).mono ?_
        rintro e w4 ⟨rfl, rfl⟩
        go_wp2_with fail
        go_ret
        exact ⟨ret_bool HE.out, rfl⟩
      · have hq : (sumI a == sumI b) = false := by simpa using he
        have HE : Hid (false = r) := by rw [Hid, ← HR.out]; simp [prB, p1, p2, he]
        clear he
        go_enter Try.func54, Try.ntmps54
        go_wp2_with fail
        refine (impl_pts w A c n a H.out hn p1).mono ?_
        rintro e w1 ⟨rfl, rfl⟩
        go_wp2_with fail
        refine (impl_pts w1 B d m b H'.out hm p2).mono ?_
        rintro e w2 ⟨rfl, rfl⟩
        go_wp2_with fail
        refine (sum_any A n c a w2 H.out P1.out).mono ?_
        rintro e w3 ⟨rfl, rfl⟩
        go_wp2_with fail
        refine (sum_any B m d b w3 H'.out P2.out).mono ?_
        rintro e w4 ⟨rfl, rfl⟩
        go_wp2_with fail
        go_ret
        exact ⟨ret_bool HE.out, rfl⟩
    · have p2 : pt b = false := by simpa using p2
      have HE : Hid (false = r) := by rw [Hid, ← HR.out]; simp [prB, p1, p2]
      go_enter Try.func54, Try.ntmps54
      go_wp2_with fail
      refine (impl_pts w A c n a H.out hn p1).mono ?_
      rintro e w1 ⟨rfl, rfl⟩
      go_wp2_with fail
      refine (impl_pts w1 B d m b H'.out hm p2).mono ?_
      rintro e w2 ⟨rfl, rfl⟩
      go_wp2_with fail
      go_ret
      exact ⟨ret_bool HE.out, rfl⟩
  · have p1 : pt a = false := by simpa using p1
    have HE : Hid (false = r) := by rw [Hid, ← HR.out]; simp [prB, p1]
    go_enter Try.func54, Try.ntmps54
    go_wp2_with fail
    refine (impl_pts w A c n a H.out hn p1).mono ?_
    rintro e w1 ⟨rfl, rfl⟩
    go_wp2_with fail
    go_ret
    exact ⟨ret_bool HE.out, rfl⟩

def chR (a b : List Int) : Bool × Int := if prB a b = true then (true, chr a b) else (false, 0)

end Go.Proofs.Ytkbdbkoeahihiaa

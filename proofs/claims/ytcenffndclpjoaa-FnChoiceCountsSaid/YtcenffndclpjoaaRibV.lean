/-
  ChoiceValid: the model's and the program's; what the program keeps of a choice are its bits.
-/
import Derived.Test.YtcenffndclpjoaaRibP
import Derived.Test.YtcenffndclpjoaaCounts
namespace Go.Proofs.Ytcenffndclpjoaa
open Go.RowKit

noncomputable def chV (t f xs : List Int) : Bool := ascB (f.length / 2) xs && mapV t f
theorem in_any (x lo hi : Int) (w : World) : Calls Try.prog 51 #[.int .i64 x, .int .i64 lo, .int .i64 hi] w fun e w' => e = .returned (.bool (inB x lo hi)) ∧ w = w' := l6In_any x lo hi w

set_option maxHeartbeats 1600000 in
theorem spec_chV (w : World) (A A' : Option Addr) (n n' c c' : Nat) (t f : List Int) (h : Rd w A n t) (h' : Rd w A' n' f) (hn : n ≤ 1048576) (hn' : n' ≤ 1048576) (B : Option Addr) (d m : Nat) (xs : List Int) (k : Rd w B m xs) (hm : m ≤ 1048576) {r : Bool} (hR : chV t f xs = r) :
    Calls Try.prog 32 #[.agg #[.slice A n c, .slice A' n' c'], .slice B m d] w fun e w' => e = .returned (.bool r) ∧ Below w.heap.size w w' := by
  obtain ⟨W0, hW0, hx, hb, -⟩ := Box.local_ w 25 (.slice A n c) (.slice A' n' c')
  obtain ⟨h2, hh2⟩ : ∃ h2, n' / 2 = h2 := ⟨_, rfl⟩
  have g2 : IntKind.i64.wrap ((n' : Int) / 2) = (h2 : Int) := by rw [IntWalk.i64_in _ (by omega)]; omega
  have g3 : IntKind.i64.wrap ((h2 : Int) - 1) = (h2 : Int) - 1 := IntWalk.i64_in _ (by omega)
  have HAS : Hid (f.length / 2 = h2) := by rw [Hid, h'.1, hh2]
  have c0 := hx.cell0
  have c1 := hx.cell1
  have hb2 : h2 ≤ 524288 := by omega
  have HX := Lib.hid hx; have HB := Lib.hid hb; have H := Lib.hid h; have H' := Lib.hid h'; have HR := Lib.hid hR; have K := Lib.hid k; have KL := Lib.hid k.1; clear hx hb h h' hR k hh2
  go_enter Try.func32, Try.ntmps32
  go_wp2_with fail
  go_loopw [5, 6] (fun lv iv wr => ∃ (j q : Nat) (la : Int), j ≤ m ∧ iv = .int .i64 j ∧ lv = .int .i64 la ∧ -1 ≤ la ∧ la ≤ 524288 ∧ wr = W0.drewN q ∧ Hid (la = lastI xs j) ∧ Hid (∀ i, i < j → ascAt h2 xs i = true)) (fun _ iv _ => m - (intOf iv).toNat)
  case atStart => exact ⟨0, 0, -1, Nat.zero_le _, rfl, rfl, by omega, by omega, rfl, rfl, fun i hi => absurd hi (by omega)⟩
  case round =>
    obtain ⟨j, q, la, hj, rfl, rfl, hl0, hl1, rfl, hla, hall⟩ := hrel
    by_cases hlt : j < m
    · obtain ⟨ad, rfl, hc⟩ := (K.out.below HB.out).at_ hlt
      have g1 : IntKind.i64.wrap (la + 1) = la + 1 := IntWalk.i64_in _ (by omega)
      have hk0 : (0 : Int) ≤ (j : Int) := by omega
      have hkn : (j : Int) < (m : Int) := by omega
      by_cases hin : gi xs j ≥ la + 1 ∧ gi xs j ≤ (h2 : Int) - 1
      · have hb := inB_true hin.1 hin.2
        obtain ⟨x, hx⟩ : ∃ x, gi xs j = x := ⟨_, rfl⟩
        rw [hx] at hc hb hin
        have hx0 : -1 ≤ x := by omega
        have hx1 : x ≤ 524288 := by omega
        have HXX := Lib.hid hx; have HB' := Lib.hid hb; clear hx hin
        go_wp2_with fail
        go_quiet ((go_at_call 51; exact (in_any _ _ _ _).mono fun e w' h => ⟨h.1, _, h.2.symm⟩))
        clear g1 g2 g3 hk0 hkn
        go_wp2_with fail
        go_roundw
        case rel => exact ⟨j + 1, _, x, by omega, by go_num, rfl, hx0, hx1, rfl, by rw [Hid, lastI, if_neg (by omega), Nat.add_sub_cancel, HXX.out], fun i hi => by
            by_cases e : i = j
            · subst e; rw [ascAt, HXX.out, ← hla.out]; exact HB'.out
            · exact hall.out i (by omega)⟩
        case measure => simp [intOf]; omega
      · have hb := inB_false hin
        have HF : Hid (chV t f xs = false) := by
          rw [Hid, chV, HAS.out, ascB_false (i := j) (by rw [KL.out]; exact hlt) (by rw [ascAt, ← hla.out]; exact hb), Bool.false_and]
        clear hin
        go_wp2_with fail
        go_quiet ((go_at_call 51; exact (in_any _ _ _ _).mono fun e w' h => ⟨h.1, _, h.2.symm⟩))
        go_wp2_with fail
        go_ret
        exact ⟨ret_bool (by rw [← HR.out, HF.out]), below_drewN (below_drewN HB.out _) _⟩
    · have hjm : j = m := by omega
      have HA : Hid (ascB h2 xs = true) := ascB_true fun i hi => hall.out i (by rw [KL.out] at hi; omega)
      have hmv : mapV t f = r := by have := HR.out; rwa [chV, HAS.out, HA.out, Bool.true_and] at this
      have HMV := Lib.hid hmv
      clear hjm hmv
      go_wp2_with fail
      refine (spec_mapV _ A A' n n' c c' t f (H.out.below (below_drewN HB.out q)) (H'.out.below (below_drewN HB.out q)) hn hn' HMV.out).mono ?_
      rintro e w1 ⟨rfl, b⟩
      have HB1 : Hid (Below w.heap.size w w1) := (below_drewN HB.out q).trans (b.mono (below_drewN HB.out q).size)
      clear b
      go_wp2_with fail
      go_ret
      exact ⟨rfl, HB1.out⟩

set_option maxHeartbeats 1600000 in
theorem l7Has_any (B : Option Addr) (d m : Nat) (xs : List Int) (x : Int) (w : World) (k : Rd w B m xs) (hm : m ≤ 1048576) :
    Calls Try.prog 78 #[.slice B m d, .int .i64 x] w fun e w' => e = .returned (.bool (hasL xs x)) ∧ w = w' := by
  have K := Lib.hid k; have KL := Lib.hid k.1; clear k
  go_enter Try.func78, Try.ntmps78
  go_wp2_with fail
  go_loop [5] (fun iv => ∃ j : Nat, j ≤ m ∧ iv = .int .i64 j ∧ Hid (∀ i, i < j → gi xs i ≠ x)) (fun iv => m - (intOf iv).toNat)
  case atStart => exact ⟨0, Nat.zero_le _, rfl, fun i hi => absurd hi (by omega)⟩
  case round =>
    obtain ⟨j, hj, rfl, hall⟩ := hrel
    by_cases hlt : j < m
    · obtain ⟨ad, rfl, hc⟩ := K.out.at_ hlt
      by_cases he : gi xs j = x
      · have hb : (gi xs j == x) = true := by simp [he]
        have HE := Lib.hid he; clear he
        go_wp2_with fail
        go_ret
        exact ⟨ret_bool (by
          symm
          rw [hasL, decide_eq_true_eq, ← HE.out, gi_eq (by rw [KL.out]; exact hlt)]
          exact List.getElem_mem _), rfl⟩
      · have hb : (gi xs j == x) = false := by simp [he]
        have HE := Lib.hid he; clear he
        go_wp2_with fail
        go_round
        case rel => exact ⟨j + 1, by omega, by go_num, fun i hi => by
            by_cases e : i = j
            · subst e; exact HE.out
            · exact hall.out i (by omega)⟩
        case measure => simp [intOf]; omega
    · go_wp2_with fail
      go_ret
      refine ⟨ret_bool ?_, rfl⟩
      symm
      rw [hasL, decide_eq_false_iff_not]
      intro hmem
      obtain ⟨i, hi, e⟩ := List.getElem_of_mem hmem
      exact hall.out i (by rw [KL.out] at hi; omega) (by rw [gi_eq hi, e])

/-! ### The program's -/
theorem edgeCount_any (b : Nat) (A A' : Option Addr) (n n' c c' h2 : Nat) (w : World) (hb : Box2 w b A n c A' n' c') (hn' : n' ≤ 1048576) (hh : n' / 2 = h2) :
    Calls Try.prog 75 #[.pointer (some ⟨b, 0, none⟩)] w fun e w' => e = .returned (.int .i64 h2) ∧ w = w' := by
  have c1 := hb.cell1
  have g2 : (n' : Int) / 2 = (h2 : Int) := by omega
  have HB := Lib.hid hb; clear hb hh
  go_enter Try.func75, Try.ntmps75
  go_wp2_with fail
  go_ret
  exact ⟨rfl, rfl⟩
/-- Whether there is an edge of this number. -/
def hasEB (h2 : Nat) (e : Int) : Bool := inB e 0 ((h2 : Int) - 1)
theorem hasEdge_any (b : Nat) (A A' : Option Addr) (n n' c c' h2 : Nat) (x : Int) (w : World) (hb : Box2 w b A n c A' n' c') (hn' : n' ≤ 1048576) (hh : n' / 2 = h2) {r : Bool} (hr : hasEB h2 x = r) :
    Calls Try.prog 47 #[.pointer (some ⟨b, 0, none⟩), .int .i64 x] w fun e w' => e = .returned (.bool r) ∧ w = w' := by
  have HB := Lib.hid hb; have HH := Lib.hid hh; have HR := Lib.hid hr; clear hb hh hr
  by_cases h0 : 0 ≤ x
  · by_cases h1 : x < (h2 : Int)
    · obtain rfl : r = true := by rw [← HR.out]; exact inB_true h0 (by omega)
      go_enter Try.func47, Try.ntmps47
      go_wp2_with (go_at_call 75; refine (edgeCount_any b A A' n n' c c' h2 _ HB.out hn' HH.out).mono ?_; rintro e w1 ⟨rfl, rfl⟩)
      go_ret
      exact ⟨rfl, rfl⟩
    · obtain rfl : r = false := by rw [← HR.out]; exact inB_false (by omega)
      have hd : decide (x < (h2 : Int)) = false := by simpa using h1
      go_enter Try.func47, Try.ntmps47
      go_wp2_with (go_at_call 75; refine (edgeCount_any b A A' n n' c c' h2 _ HB.out hn' HH.out).mono ?_; rintro e w1 ⟨rfl, rfl⟩)
      go_ret
      exact ⟨rfl, rfl⟩
  · obtain rfl : r = false := by rw [← HR.out]; exact inB_false (by omega)
    have hd : decide (0 ≤ x) = false := by simpa using h0
    go_enter Try.func47, Try.ntmps47
    go_wp2_with fail
    go_ret
    exact ⟨rfl, rfl⟩

theorem shr_in : ∀ e : Nat, e < 6 → ∀ s : Nat, s < 64 → ((((s : Int) / 2 ^ e != 0) = !decide (s < 2 ^ e)) ∧ (s < 2 ^ e → bits BinOp.or IntKind.u64 (s : Int) (IntKind.u64.wrap (2 ^ e)) = ((s + 2 ^ e : Nat) : Int))) := by decide +kernel

set_option maxHeartbeats 1600000 in
theorem chosen_any (b : Nat) (A A' : Option Addr) (n n' c c' : Nat) (t f : List Int) (w : World) (hb : Box2 w b A n c A' n' c') (h : Rd w A n t) (h' : Rd w A' n' f) (hn : n ≤ 1048576) (hn' : n' ≤ 1048576) (B : Option Addr) (d m : Nat) (xs : List Int) (k : Rd w B m xs) (hm : m ≤ 1048576) {r : Bool} (hR : chV t f xs = r) :
    Calls Try.prog 30 #[.pointer (some ⟨b, 0, none⟩), .slice B m d] w fun e w' => ∃ s : Nat, e = .returned (.tuple #[.int .u64 s, .bool r]) ∧ Hid (r = true → s < 2 ^ (f.length / 2) ∧ bL s = xs) ∧ Below w.heap.size w w' := by
  have HX := Lib.hid hb; have H := Lib.hid h; have H' := Lib.hid h'; have HR := Lib.hid hR; have K := Lib.hid k; have KL := Lib.hid k.1; clear hb h h' hR k
  by_cases hv : mapV t f = true
  · have hmap := mapV_iff.1 hv
    obtain ⟨h2, hh2⟩ : ∃ h2, n' / 2 = h2 := ⟨_, rfl⟩
    have h26 : h2 ≤ 6 := by have := hmap.flip.2.1; rw [H'.out.1] at this; omega
    have HH := Lib.hid hh2
    have HAS : Hid (f.length / 2 = h2) := by rw [Hid, H'.out.1, hh2]
    have HV := Lib.hid hv; have HM := Lib.hid hmap; clear hv hmap hh2
    go_enter Try.func30, Try.ntmps30
    go_wp2_with fail
    refine (valid_lit b A A' n n' c c' t f w HX.out H.out H'.out hn hn' HV.out).mono ?_
    rintro e w1 ⟨rfl, bl⟩
    have HX1 := Lib.hid (HX.out.below bl)
    have HB := Lib.hid bl; clear bl
    go_wp2_with fail
    go_loop [6, 14] (fun sv iv => ∃ (j s L : Nat), j ≤ m ∧ iv = .int .i64 j ∧ sv = .int .u64 s ∧ Hid (Bits xs j s L) ∧ Hid (L ≤ h2) ∧ Hid (∀ i, i < j → ascAt h2 xs i = true)) (fun _ iv => m - (intOf iv).toNat)
    case atStart => exact ⟨0, 0, 0, Nat.zero_le _, rfl, rfl, Bits.start xs, Nat.zero_le _, fun i hi => absurd hi (by omega)⟩
    case round =>
      obtain ⟨j, s, L, hj, rfl, rfl, hbt, hL, hall⟩ := hrel
      by_cases hlt : j < m
      · obtain ⟨ad, rfl, hc⟩ := (K.out.below HB.out).at_ hlt
        by_cases hin : 0 ≤ gi xs j ∧ gi xs j ≤ (h2 : Int) - 1
        · obtain ⟨x, hx⟩ := Int.eq_ofNat_of_zero_le hin.1
          have hxm : x < h2 := by rw [hx] at hin; omega
          have hx6 : x < 6 := by omega
          obtain ⟨s1, s2⟩ := shr_in x hx6 s hbt.out.lt
          have HE : Hid (hasEB h2 (x : Int) = true) := inB_true (by omega) (by omega)
          rw [hx] at hc
          have HXX := Lib.hid hx; clear hx hin
          by_cases hl : s < 2 ^ x
          · have hst := hbt.out.step (m := h2) (by rw [KL.out]; exact hlt) HXX.out hxm h26 hl
            have s3 := s2 hl
            have s4 : ((s : Int) / 2 ^ x != 0) = false := by rw [s1]; simp [hl]
            obtain ⟨s', hs'⟩ : ∃ s', s + 2 ^ x = s' := ⟨_, rfl⟩
            rw [hs'] at hst s3
            have HST := Lib.hid hst
            clear s1 s2 hst hl hs'
            go_wp2_with (go_at_call 47; refine (hasEdge_any b A A' n n' c c' h2 _ _ HX1.out hn' HH.out HE.out).mono ?_; rintro e w2 ⟨rfl, rfl⟩)
            go_round
            case rel => exact ⟨j + 1, s', x + 1, by omega, by go_num, rfl, HST.out.1, (show x + 1 ≤ h2 by omega), fun i hi => by
                by_cases e : i = j
                · subst e; exact HST.out.2
                · exact hall.out i (by omega)⟩
            case measure => simp [intOf]; omega
          · have s4 : ((s : Int) / 2 ^ x != 0) = true := by rw [s1]; simpa using hl
            have HF : Hid (r = false) := by
              rw [Hid, ← HR.out, chV, HAS.out, ascB_false (i := j) (by rw [KL.out]; exact hlt) (hbt.out.stop (by rw [HXX.out]; rintro ⟨_, _, h3⟩; exact hl (by simpa using h3))), Bool.false_and]
            clear s1 s2 hl
            go_wp2_with (go_at_call 47; refine (hasEdge_any b A A' n n' c c' h2 _ _ HX1.out hn' HH.out HE.out).mono ?_; rintro e w2 ⟨rfl, rfl⟩)
            go_ret2
            exact ⟨0, ret2_eq HF.out.symm, fun hr => by rw [HF.out] at hr; exact absurd hr (by decide), HB.out⟩
        · have HE : Hid (hasEB h2 (gi xs j) = false) := inB_false hin
          have HF : Hid (r = false) := by
            rw [Hid, ← HR.out, chV, HAS.out, ascB_false (i := j) (by rw [KL.out]; exact hlt) (hbt.out.stop (by rintro ⟨h1, h3, _⟩; exact hin ⟨h1, by omega⟩)), Bool.false_and]
          clear hin
          go_wp2_with (go_at_call 47; refine (hasEdge_any b A A' n n' c c' h2 _ _ HX1.out hn' HH.out HE.out).mono ?_; rintro e w2 ⟨rfl, rfl⟩)
          go_ret2
          exact ⟨0, ret2_eq HF.out.symm, fun hr => by rw [HF.out] at hr; exact absurd hr (by decide), HB.out⟩
      · have hjm : j = m := by omega
        have HJ := Lib.hid hjm
        have HT : Hid (r = true) := by
          rw [Hid, ← HR.out, chV, HAS.out, HV.out, ascB_true (fun i hi => hall.out i (by rw [KL.out] at hi; omega)), Bool.true_and]
        clear hjm
        go_wp2_with fail
        go_ret2
        refine ⟨s, ret2_eq HT.out.symm, fun _ => ⟨?_, ?_⟩, HB.out⟩
        · rw [HAS.out]; exact hbt.out.iff.2 hL.out
        · have := hbt.out; rw [HJ.out, ← KL.out] at this; exact this.done
  · have hv' : mapV t f = false := by simpa using hv
    have HF : Hid (r = false) := by rw [Hid, ← HR.out, chV, hv', Bool.and_false]
    have HV := Lib.hid hv'; clear hv hv'
    go_enter Try.func30, Try.ntmps30
    go_wp2_with fail
    refine (valid_lit b A A' n n' c c' t f w HX.out H.out H'.out hn hn' HV.out).mono ?_
    rintro e w1 ⟨rfl, bl⟩
    have HB := Lib.hid bl; clear bl
    go_wp2_with fail
    go_ret2
    exact ⟨0, ret2_eq HF.out.symm, fun hr => by rw [HF.out] at hr; exact absurd hr (by decide), HB.out⟩

end Go.Proofs.Ytcenffndclpjoaa

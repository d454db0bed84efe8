/-
  MapValid of the model.
-/
import Derived.Test.YtcenffndclpjoaaMaps
namespace Go.Proofs.Ytcenffndclpjoaa
open Go.RowKit

theorem l1Both_lit {v : Bool} (A A' : Option Addr) (n m c c' : Nat) (xs ys : List Int) (w : World) (h : Rd w A n xs) (h' : Rd w A' m ys) (hn : n ≤ 17592186044416) (hm : m ≤ 17592186044416) (hv : both xs ys = v) :
    Calls Try.prog 72 #[.slice A n c, .slice A' m c'] w fun e w' => e = .returned (.bool v) ∧ Below w.heap.size w w' := by
  subst hv
  exact l1Both_any A A' n m c c' xs ys w h h' hn hm

set_option maxHeartbeats 1600000 in
theorem specMap_any (A A' : Option Addr) (n n' c c' : Nat) (t f : List Int) (w : World) (h : Rd w A n t) (h' : Rd w A' n' f) (hn : n ≤ 17592186044416) (hn' : n' ≤ 17592186044416) :
    Calls Try.prog 40 #[.agg #[.slice A n c, .slice A' n' c']] w fun e w' => e = .returned (.bool (mapV t f)) ∧ Below w.heap.size w w' := by
  have H := Lib.hid h; have H' := Lib.hid h'; have Hx := Lib.hid h.1; have Hy := Lib.hid h'.1; clear h h'
  have hb0 : Below w.heap.size w (w.alloc (.cells #[.slice A n c, .slice A' n' c'] 25)) := (Below.refl _ _).alloc (Nat.le_refl _) _
  have hbx := Box2.new w A n c A' n' c'
  have c0 := hbx.cell0
  have c1 := hbx.cell1
  have HB0 := Lib.hid hb0; have HBX := Lib.hid hbx; clear hb0 hbx
  by_cases hp : both t f = true
  · obtain ⟨ht, hf, hl⟩ := both_iff.1 hp
    have HT := Lib.hid ht; have HF := Lib.hid hf; have HP := Lib.hid hp
    obtain rfl : n = n' := by rw [← Hx.out, ← Hy.out]; exact hl
    have hn12 : n ≤ 12 := by rw [← Hx.out]; exact ht.2.1
    clear ht hf hl hp
    go_enter Try.func40, Try.ntmps40
    go_wp2_with fail
    refine (l1Both_lit A A' n n c c' t f _ (H.out.below HB0.out) (H'.out.below HB0.out) hn hn' HP.out).mono ?_
    rintro e w1 ⟨rfl, b⟩
    have hbx := HBX.out.below b
    have d0 := hbx.cell0
    have d1 := hbx.cell1
    have HB1 := Lib.hid (HB0.out.trans (b.mono HB0.out.size))
    clear c0 c1 b hbx
    go_wp2_with fail
    go_loopw [3] (fun i wr => ∃ k q : Nat, k ≤ n ∧ i = .int .i64 k ∧ wr = w1.drewN q ∧ Hid (∀ j, j < k → gn f j ≠ j ∧ gn f (gn f j) = j)) (fun i _ => n - (intOf i).toNat)
    case atStart => exact ⟨0, 0, Nat.zero_le _, rfl, rfl, fun j hj => absurd hj (by omega)⟩
    case round =>
      obtain ⟨k, q, hk, rfl, rfl, hall⟩ := hrel
      by_cases hlt : k < n
      · obtain ⟨ad, rfl, hc⟩ := (H'.out.below HB1.out).at_ hlt
        obtain ⟨x, hx, hxn, hgx⟩ := (HF.out.into Hy.out).nat (j := k) (by rw [Hy.out]; exact hlt)
        obtain ⟨ad', e, hc'⟩ := (H'.out.below HB1.out).at_ hxn
        simp only [Option.some.injEq] at e
        subst e
        obtain ⟨y, hy, hyn, hgy⟩ := (HF.out.into Hy.out).nat (j := x) (by rw [Hy.out]; exact hxn)
        rw [hx] at hc
        rw [hy] at hc'
        have HGX := Lib.hid hgx; have HGY := Lib.hid hgy; clear hgx hgy hx hy
        by_cases h1' : x = k
        · have hd : ((x : Int) == k) = true := by simp [h1']
          have HE := Lib.hid h1'; clear h1'
          go_wp2
          go_quiet (fail)
          go_wp2
          go_ret
          exact ⟨ret_bool (by
            have : pairedB f = false := pairedB_false (fun v => (v k (by rw [Hy.out]; exact hlt)).1 (HGX.out.trans HE.out))
            simp [mapV, this]), below_drewN (below_drewN HB1.out _) _⟩
        · have hd : ((x : Int) == k) = false := by simp; omega
          by_cases h2' : y = k
          · have hd2 : ((y : Int) != k) = false := by simp [h2']
            have HE := Lib.hid h1'; have HE2 := Lib.hid h2'; clear h1' h2'
            go_wp2
            go_quiet (fail)
            go_wp2
            go_roundw
            case rel => exact ⟨k + 1, q + _, by omega, by go_num, rfl, fun j hj => by
              by_cases e : j = k
              · subst e; exact ⟨by rw [HGX.out]; exact HE.out, by rw [HGX.out, HGY.out]; exact HE2.out⟩
              · exact hall.out j (by omega)⟩
            case measure => simp [intOf]; omega
          · have hd2 : ((y : Int) != k) = true := by simp; omega
            have HE := Lib.hid h1'; have HE2 := Lib.hid h2'; clear h1' h2'
            go_wp2
            go_quiet (fail)
            go_wp2
            go_ret
            exact ⟨ret_bool (by
              have : pairedB f = false := pairedB_false (fun v => HE2.out (by have := (v k (by rw [Hy.out]; exact hlt)).2; rw [HGX.out, HGY.out] at this; exact this))
              simp [mapV, this]), below_drewN (below_drewN HB1.out _) _⟩
      · have hkn : k = n := by omega
        have HK := Lib.hid hkn; clear hkn
        have HQ : Hid (pairedB f = true) := pairedB_true (fun j hj => hall.out j (by rw [HK.out, ← Hy.out]; exact hj))
        go_wp2_with fail
        refine (l1Orbits_any A A' n c c' t f _ ((H.out.below HB1.out).drewN q) ((H'.out.below HB1.out).drewN q) HT.out HF.out).mono ?_
        rintro e w2 ⟨v, rfl, o, b⟩
        obtain ⟨A1, c3, rfl, r, -⟩ := o.form' (n := n) ((orbL_len t f).trans Hx.out)
        have R := Lib.hid r
        have HB2 : Hid (Below w.heap.size w w2) := (below_drewN HB1.out q).trans (b.mono HB1.out.size)
        clear o r b d0 d1
        go_wp2_with fail
        go_loop [5] (fun i => ∃ k : Nat, k ≤ n ∧ i = .int .i64 k ∧ Hid (∀ j, j < k → orb t f j = 0)) (fun i => n - (intOf i).toNat)
        case atStart => exact ⟨0, Nat.zero_le _, rfl, fun j hj => absurd hj (by omega)⟩
        case round =>
          obtain ⟨m, hm, rfl, hall2⟩ := hrel
          by_cases hlt2 : m < n
          · obtain ⟨ad, rfl, hc⟩ := R.out.at_ hlt2
            rw [gi_orbL (by rw [Hx.out]; exact hlt2)] at hc
            obtain ⟨z, hz⟩ : ∃ z, orb t f m = z := ⟨_, rfl⟩
            rw [hz] at hc
            by_cases h0 : z = 0
            · have hd : ((z : Int) != 0) = false := by simp [h0]
              have HE : Hid (orb t f m = 0) := by rw [Hid, hz, h0]
              clear hz h0
              go_wp2
              go_round
              case rel => exact ⟨m + 1, by omega, by go_num, fun j hj => by
                by_cases e : j = m
                · subst e; exact HE.out
                · exact hall2.out j (by omega)⟩
              case measure => simp [intOf]; omega
            · have hd : ((z : Int) != 0) = true := by simp; omega
              have HE : Hid (orb t f m ≠ 0) := by rw [Hid, hz]; exact h0
              clear hz h0
              go_wp2
              go_ret
              exact ⟨ret_bool (by
                have : wholeB t f = false := wholeB_false (fun v => HE.out (v m (by rw [Hx.out]; exact hlt2)))
                simp [mapV, this]), HB2.out⟩
          · have hmn : m = n := by omega
            have HM := Lib.hid hmn; clear hmn
            go_wp2
            go_ret
            exact ⟨ret_bool (by
              have : wholeB t f = true := wholeB_true (fun j hj => hall2.out j (by rw [HM.out, ← Hx.out]; exact hj))
              simp [mapV, this, HQ.out, HP.out]), HB2.out⟩
  · have hp' : both t f = false := by simpa using hp
    have E : Hid (false = mapV t f) := by simp [Hid, mapV, hp']
    have HP := Lib.hid hp'
    clear hp hp'
    go_enter Try.func40, Try.ntmps40
    go_wp2_with fail
    refine (l1Both_lit A A' n n' c c' t f _ (H.out.below HB0.out) (H'.out.below HB0.out) hn hn' HP.out).mono ?_
    rintro e w1 ⟨rfl, b⟩
    have HB1 := Lib.hid (HB0.out.trans (b.mono HB0.out.size))
    clear b
    go_wp2_with fail
    go_ret
    exact ⟨ret_bool E.out, HB1.out⟩

end Go.Proofs.Ytcenffndclpjoaa

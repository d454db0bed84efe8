/-
  MapValid: the model's and the program's.
-/
import Derived.Test.YtcenffndclpjoaaOrb
import Derived.Test.YtcenffndclpjoaaSpecOrb
import Derived.Test.YtcenffndclpjoaaImplOrb
import Derived.Test.YtcenffndclpjoaaKitM
import Derived.Deep.RegionWith
import Derived.Deep.RegionHeld3
namespace Go.Proofs.Ytcenffndclpjoaa
open Go.RowKit

/-- Block b holds a map: its Turn and its Flip. -/
def Box2 (w : World) (b : Nat) (A : Option Addr) (n c : Nat) (A' : Option Addr) (n' c' : Nat) : Prop :=
  w.heap[b]? = some (.cells #[.slice A n c, .slice A' n' c'] 25 (0, 0))
section
variable {w w' : World} {b n c n' c' : Nat} {A A' : Option Addr}
theorem Box2.cell0 (h : Box2 w b A n c A' n' c') : w.cell? ⟨b, 0, none⟩ = some (.slice A n c) := by rw [cell_of_row w b 0 _ _ (0, 0) h]; rfl
theorem Box2.cell1 (h : Box2 w b A n c A' n' c') : w.cell? ⟨b, 1, none⟩ = some (.slice A' n' c') := by rw [cell_of_row w b 1 _ _ (0, 0) h]; rfl
theorem Box2.lt (h : Box2 w b A n c A' n' c') : b < w.heap.size := (Array.getElem?_eq_some_iff.1 h).1
theorem Box2.below (h : Box2 w b A n c A' n' c') (hb : Below w.heap.size w w') : Box2 w' b A n c A' n' c' := (hb.block b h.lt).trans h
theorem Box2.new (w : World) (A : Option Addr) (n c : Nat) (A' : Option Addr) (n' c' : Nat) : Box2 (w.alloc (.cells #[.slice A n c, .slice A' n' c'] 25)) w.heap.size A n c A' n' c' := heap_alloc_new w _
end

/-- A map lies at the head of block b: its Turn and its Flip, whatever comes behind. -/
def MapAt (w : World) (b : Nat) (A : Option Addr) (n c : Nat) (A' : Option Addr) (n' c' : Nat) : Prop :=
  ∃ (cs : Array Value) (ty : TypeId), w.heap[b]? = some (.cells cs ty (0, 0)) ∧ cs[0]? = some (.slice A n c) ∧ cs[1]? = some (.slice A' n' c')
section
variable {w w' : World} {b n c n' c' : Nat} {A A' : Option Addr}
theorem Box2.at_ (h : Box2 w b A n c A' n' c') : MapAt w b A n c A' n' c' := ⟨_, _, h, rfl, rfl⟩
theorem MapAt.cell0 (h : MapAt w b A n c A' n' c') : w.cell? ⟨b, 0, none⟩ = some (.slice A n c) := by
  obtain ⟨cs, ty, h, h0, h1⟩ := h
  rw [cell_of_row w b 0 _ _ (0, 0) h]; exact h0
theorem MapAt.cell1 (h : MapAt w b A n c A' n' c') : w.cell? ⟨b, 1, none⟩ = some (.slice A' n' c') := by
  obtain ⟨cs, ty, h, h0, h1⟩ := h
  rw [cell_of_row w b 1 _ _ (0, 0) h]; exact h1
theorem MapAt.lt (h : MapAt w b A n c A' n' c') : b < w.heap.size := by
  obtain ⟨cs, ty, h, -⟩ := h
  exact (Array.getElem?_eq_some_iff.1 h).1
theorem MapAt.same (h : MapAt w b A n c A' n' c') (e : w'.heap[b]? = w.heap[b]?) : MapAt w' b A n c A' n' c' := by
  obtain ⟨cs, ty, h, r⟩ := h
  exact ⟨cs, ty, e.trans h, r⟩
theorem MapAt.below (h : MapAt w b A n c A' n' c') (hb : Below w.heap.size w w') : MapAt w' b A n c A' n' c' := h.same (hb.block b h.lt)
theorem MapAt.drewN (h : MapAt w b A n c A' n' c') (k : Nat) : MapAt (w.drewN k) b A n c A' n' c' := h
end

set_option maxHeartbeats 800000 in
theorem max_any (A : Option Addr) (n c : Nat) (xs : List Int) (w : World) (h : Rd w A n xs) (h1 : 1 ≤ n) (hm : n ≤ 1048576) :
    Calls Try.prog 87 #[.slice A n c] w fun e w' => e = .returned (.int .i64 (maxTo xs (n - 1))) ∧ w = w' := by
  obtain ⟨ad, rfl, hc⟩ := h.at_ (k := 0) (by omega)
  rw [Addr.add_zero'] at hc
  have H := Lib.hid h; clear h
  have hd : decide ((n : Int) < 1) = false := by simp; omega
  go_enter Try.func87, Try.ntmps87
  go_wp2
  go_loop [3, 4] (fun mv i => ∃ k : Nat, 1 ≤ k ∧ k ≤ n ∧ i = .int .i64 k ∧ mv = .int .i64 (maxTo xs (k - 1))) (fun _ i => n - (intOf i).toNat)
  case atStart => exact ⟨1, Nat.le_refl _, h1, rfl, rfl⟩
  case round =>
    obtain ⟨k, hk1, hk, rfl, rfl⟩ := hrel
    by_cases hlt : k < n
    · obtain ⟨ad', e, hc'⟩ := H.out.at_ hlt
      simp only [Option.some.injEq] at e
      subst e
      go_wp2
      go_round
      case rel =>
        refine ⟨k + 1, by omega, by omega, by go_num, ?_⟩
        rw [show k + 1 - 1 = (k - 1) + 1 by omega, maxTo, show k - 1 + 1 = k by omega]
      case measure => simp [intOf]; omega
    · have hkn : k = n := by omega
      subst hkn
      go_wp2
      go_ret
      exact ⟨rfl, rfl⟩

set_option maxHeartbeats 800000 in
theorem paired_any (b : Nat) (A A' : Option Addr) (n n' c c' : Nat) (f : List Int) (w : World) (hb : Box2 w b A n c A' n' c') (h : Rd w A' n' f) (hf : Vld f) :
    Calls Try.prog 66 #[.pointer (some ⟨b, 0, none⟩)] w fun e w' => e = .returned (.bool (pairedB f)) ∧ w = w' := by
  have h0 := hb.cell0
  have h1 := hb.cell1
  have hl : n' ≤ 12 := by rw [← h.1]; exact hf.2.1
  have HB := Lib.hid hb; have H := Lib.hid h; have HF := Lib.hid hf; have Hx := Lib.hid h.1; clear hb h hf
  go_enter Try.func66, Try.ntmps66
  go_wp2
  go_loop [10] (fun i => ∃ k : Nat, k ≤ n' ∧ i = .int .i64 k ∧ Hid (∀ j, j < k → gn f j ≠ j ∧ gn f (gn f j) = j)) (fun i => n' - (intOf i).toNat)
  case atStart => exact ⟨0, Nat.zero_le _, rfl, fun j hj => absurd hj (by omega)⟩
  case round =>
    obtain ⟨k, hk, rfl, hall⟩ := hrel
    by_cases hlt : k < n'
    · obtain ⟨ad, rfl, hc⟩ := H.out.at_ hlt
      obtain ⟨x, hx, hxn, hgx⟩ := (HF.out.into Hx.out).nat (j := k) (by rw [Hx.out]; exact hlt)
      obtain ⟨ad', e, hc'⟩ := H.out.at_ hxn
      simp only [Option.some.injEq] at e
      subst e
      obtain ⟨y, hy, hyn, hgy⟩ := (HF.out.into Hx.out).nat (j := x) (by rw [Hx.out]; exact hxn)
      rw [hx] at hc
      rw [hy] at hc'
      have HGX := Lib.hid hgx; have HGY := Lib.hid hgy; clear hgx hgy hx hy
      by_cases h1' : x = k
      · have hd : ((x : Int) == k) = true := by simp [h1']
        have HE := Lib.hid h1'; clear h1'
        go_wp2
        go_ret
        exact ⟨ret_bool (pairedB_false (fun v => (v k (by rw [Hx.out]; exact hlt)).1 (HGX.out.trans HE.out))).symm, rfl⟩
      · have hd : ((x : Int) == k) = false := by simp; omega
        by_cases h2' : y = k
        · have hd2 : ((y : Int) != k) = false := by simp [h2']
          have HE := Lib.hid h1'; have HE2 := Lib.hid h2'; clear h1' h2'
          go_wp2
          go_round
          case rel => exact ⟨k + 1, by omega, by go_num, fun j hj => by
            by_cases e : j = k
            · subst e; exact ⟨by rw [HGX.out]; exact HE.out, by rw [HGX.out, HGY.out]; exact HE2.out⟩
            · exact hall.out j (by omega)⟩
          case measure => simp [intOf]; omega
        · have hd2 : ((y : Int) != k) = true := by simp; omega
          have HE := Lib.hid h1'; have HE2 := Lib.hid h2'; clear h1' h2'
          go_wp2
          go_ret
          exact ⟨ret_bool (pairedB_false (fun v => HE2.out (by have := (v k (by rw [Hx.out]; exact hlt)).2; rw [HGX.out, HGY.out] at this; exact this))).symm, rfl⟩
    · have hkn : k = n' := by omega
      have HK := Lib.hid hkn; clear hkn
      go_wp2
      go_ret
      exact ⟨ret_bool (pairedB_true (fun j hj => hall.out j (by rw [HK.out, ← Hx.out]; exact hj))).symm, rfl⟩

set_option maxHeartbeats 1600000 in
theorem whole_any (b : Nat) (A A' : Option Addr) (n c c' : Nat) (t f : List Int) (w : World) (hb : Box2 w b A n c A' n c') (h : Rd w A n t) (h' : Rd w A' n f) (ht : Vld t) (hf : Vld f) :
    Calls Try.prog 67 #[.pointer (some ⟨b, 0, none⟩)] w fun e w' => e = .returned (.bool (wholeB t f)) ∧ Below w.heap.size w w' := by
  have h0 := hb.cell0
  have h1 := hb.cell1
  have hn1 : 1 ≤ n := by rw [← h.1]; exact ht.1
  have hn12 : n ≤ 12 := by rw [← h.1]; exact ht.2.1
  have HW : Hid ((maxTo (orbL t f) (n - 1) == 0) = wholeB t f) := by have := max_whole (t := t) (f := f) ht.1; rw [h.1] at this; exact this
  have HB := Lib.hid hb; have H := Lib.hid h; have H' := Lib.hid h'; have HT := Lib.hid ht; have HF := Lib.hid hf; have Hx := Lib.hid h.1; clear hb h h' ht hf
  obtain ⟨W2, hW2⟩ : ∃ W2, w.alloc (.cells #[.slice A' n c'] 64) = W2 := ⟨_, rfl⟩
  have hal : Below w.heap.size w W2 := by rw [← hW2]; exact (Below.refl _ _).alloc (Nat.le_refl _) _
  have hc2 : ∀ k, (W2.drewN k).cell? ⟨w.heap.size, 0, none⟩ = some (.slice A' n c') := fun k => by
    show W2.cell? _ = _
    rw [← hW2]
    exact cell_one_new w _ _ 0 _ rfl
  have h02 : W2.cell? ⟨b, 0, none⟩ = some (.slice A n c) := (HB.out.below hal).cell0
  have h12 : W2.cell? ⟨b, 1, none⟩ = some (.slice A' n c') := (HB.out.below hal).cell1
  have HC2 := Lib.hid hc2; have HAL := Lib.hid hal; clear hc2 hal
  go_enter Try.func67, Try.ntmps67
  go_wp2_with fail
  go_region_with (first
    | (go_at_call 84; refine (orbits_any w.heap.size A A' n c c' t f _ (HC2.out _) ((H.out.below HAL.out).drewN _) ((H'.out.below HAL.out).drewN _) HT.out HF.out).mono ?_; rintro e w1 ⟨v, rfl, o, bl⟩; obtain ⟨A1, c1, rfl, r, -⟩ := o.form' (n := n) ((orbL_len t f).trans Hx.out); have R := Lib.hid r; have BL : Hid (Below w.heap.size w w1) := HAL.out.trans ((Below.of_drewN bl).mono HAL.out.size); clear o r bl)
    | (go_at_call 87; refine (max_any _ n _ _ _ R.out hn1 (by omega)).mono ?_; rintro e w2 ⟨rfl, rfl⟩))
  all_goals
    simp only [List.getElem_toArray, List.getElem_cons_succ, List.getElem_cons_zero]
    go_simp
    go_wp2
    go_ret
    exact ⟨ret_bool HW.out, ⟨BL.out.os, BL.out.tape, BL.out.output, BL.out.size, BL.out.block⟩⟩

theorem permPair_lit {v : Bool} (A A' : Option Addr) (n m c c' : Nat) (xs ys : List Int) (w : World) (h : Rd w A n xs) (h' : Rd w A' m ys) (hn : n ≤ 17592186044416) (hm : m ≤ 17592186044416) (hv : both xs ys = v) :
    Calls Try.prog 65 #[.slice A n c, .slice A' m c'] w fun e w' => e = .returned (.bool v) ∧ Below w.heap.size w w' := by
  subst hv
  exact permPair_any A A' n m c c' xs ys w h h' hn hm
theorem paired_lit {v : Bool} (b : Nat) (A A' : Option Addr) (n n' c c' : Nat) (f : List Int) (w : World) (hb : Box2 w b A n c A' n' c') (h : Rd w A' n' f) (hf : Vld f) (hv : pairedB f = v) :
    Calls Try.prog 66 #[.pointer (some ⟨b, 0, none⟩)] w fun e w' => e = .returned (.bool v) ∧ w = w' := by
  subst hv
  exact paired_any b A A' n n' c c' f w hb h hf

set_option maxHeartbeats 1600000 in
theorem valid_any (b : Nat) (A A' : Option Addr) (n n' c c' : Nat) (t f : List Int) (w : World) (hb : Box2 w b A n c A' n' c') (h : Rd w A n t) (h' : Rd w A' n' f) (hn : n ≤ 17592186044416) (hn' : n' ≤ 17592186044416) :
    Calls Try.prog 34 #[.pointer (some ⟨b, 0, none⟩)] w fun e w' => e = .returned (.bool (mapV t f)) ∧ Below w.heap.size w w' := by
  have h0 := hb.cell0
  have h1 := hb.cell1
  have HB := Lib.hid hb; have H := Lib.hid h; have H' := Lib.hid h'; have Hx := Lib.hid h.1; have Hy := Lib.hid h'.1; clear hb h h'
  by_cases hp : both t f = true
  · obtain ⟨ht, hf, hl⟩ := both_iff.1 hp
    have HT := Lib.hid ht; have HF := Lib.hid hf
    obtain rfl : n = n' := by rw [← Hx.out, ← Hy.out]; exact hl
    clear ht hf hl
    by_cases hq : pairedB f = true
    · have E : Hid (wholeB t f = mapV t f) := by simp [Hid, mapV, hp, hq]
      go_enter Try.func34, Try.ntmps34
      go_wp2_with fail
      first | (go_region_held3 (fun w' => w'.cell? ⟨b, 0, none⟩ = some (.slice A n c) ∧ w'.cell? ⟨b, 1, none⟩ = some (.slice A' n c')) (first | go_keep | exact ⟨(HB.out.below BL.out).cell0, (HB.out.below BL.out).cell1⟩ | exact ⟨(HB.out.below BL3.out).cell0, (HB.out.below BL3.out).cell1⟩) (first
        | (go_at_call 65; refine (permPair_lit A A' n n c c' t f _ (H.out.drewN _) (H'.out.drewN _) hn hn' hp).mono ?_; rintro e w1 ⟨rfl, bl⟩; have BL := Lib.hid (Below.of_drewN bl); clear bl)
        | (go_at_call 66; refine (paired_lit b A A' n n c c' f _ (HB.out.below BL.out) (H'.out.below BL.out) HF.out hq).mono ?_; rintro e w2 ⟨rfl, rfl⟩)
        | (go_at_call 67; refine (whole_any b A A' n c c' t f _ (HB.out.below BL.out) (H.out.below BL.out) (H'.out.below BL.out) HT.out HF.out).mono ?_; rintro e w3 ⟨rfl, bl⟩; have BL3 := Lib.hid (BL.out.trans (bl.mono BL.out.size)); clear bl))) | fail
      all_goals
        go_wp2
        go_ret
        exact ⟨ret_bool E.out, BL3.out⟩
    · have hq' : pairedB f = false := by simpa using hq
      have E : Hid (false = mapV t f) := by simp [Hid, mapV, hp, hq']
      clear hq
      go_enter Try.func34, Try.ntmps34
      go_wp2_with fail
      first | (go_region_with (first
        | (go_at_call 65; refine (permPair_lit A A' n n c c' t f _ (H.out.drewN _) (H'.out.drewN _) hn hn' hp).mono ?_; rintro e w1 ⟨rfl, bl⟩; have BL := Lib.hid (Below.of_drewN bl); clear bl)
        | (go_at_call 66; refine (paired_lit b A A' n n c c' f _ (HB.out.below BL.out) (H'.out.below BL.out) HF.out hq').mono ?_; rintro e w2 ⟨rfl, rfl⟩))) | fail
      all_goals
        go_wp2
        go_ret
        exact ⟨ret_bool E.out, BL.out⟩
  · have hp' : both t f = false := by simpa using hp
    have E : Hid (false = mapV t f) := by simp [Hid, mapV, hp']
    clear hp
    go_enter Try.func34, Try.ntmps34
    go_wp2_with fail
    first | (go_region_with (first | (go_at_call 65; refine (permPair_lit A A' n n' c c' t f _ (H.out.drewN _) (H'.out.drewN _) hn hn' hp').mono ?_; rintro e w1 ⟨rfl, bl⟩; have BL := Lib.hid (Below.of_drewN bl); clear bl))) | fail
    all_goals
      go_wp2
      go_ret
      exact ⟨ret_bool E.out, BL.out⟩

end Go.Proofs.Ytcenffndclpjoaa

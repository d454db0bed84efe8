/-
  ChoiceRest: the model's and the program's; a set of edges as bits: has, list, size, all.
-/
import Derived.Test.YtcenffndclpjoaaRibV
import Derived.Test.YtcenffndclpjoaaAppI
import Derived.Test.YtcenffndclpjoaaShelf
import Derived.Lib.BitFns
namespace Go.Proofs.Ytcenffndclpjoaa
open Go.RowKit

theorem ret_u64' {a b : Nat} (h : a = b) : Ending.returned (.int .u64 (a : Int)) = .returned (.int .u64 (b : Int)) := by rw [h]
def restP (xs : List Int) : Nat → List Int
  | 0 => []
  | k + 1 => restP xs k ++ if hasL xs (k : Int) = true then [] else [(k : Int)]
def bitP (s : Nat) : Nat → List Int
  | 0 => []
  | k + 1 => bitP s k ++ if s.testBit k = true then [(k : Int)] else []
theorem restP_len (xs : List Int) : ∀ k, (restP xs k).length ≤ k
  | 0 => Nat.le_refl _
  | k + 1 => by have := restP_len xs k; rw [restP, List.length_append]; split <;> simp <;> omega
theorem bitP_len (s : Nat) : ∀ k, (bitP s k).length ≤ k
  | 0 => Nat.le_refl _
  | k + 1 => by have := bitP_len s k; rw [bitP, List.length_append]; split <;> simp <;> omega
theorem bit_in : ∀ s : Nat, s < 64 → bitP s (Lib.bitLen s) = bL s ∧ Lib.bitLen s ≤ 6 := by decide +kernel
theorem hasS_in : ∀ s : Nat, s < 64 → ∀ i : Nat, i < 6 → (bits BinOp.and IntKind.u64 ((s : Int) / 2 ^ i) 1 == 1) = s.testBit i := by decide +kernel
theorem rest_in : ∀ h : Nat, h < 7 → ∀ s : Nat, s < 64 → s < 2 ^ h → bits BinOp.andNot IntKind.u64 ((2 ^ h - 1 : Nat) : Int) (s : Int) = ((2 ^ h - 1 - s : Nat) : Int) ∧ bL (2 ^ h - 1 - s) = bitP (63 - s) h ∧ 2 ^ h - 1 - s < 64 := by decide +kernel
theorem not_in : ∀ s : Nat, s < 64 → ∀ e : Nat, e < 6 → (63 - s).testBit e = !s.testBit e := by decide +kernel
theorem rest_bits {s : Nat} (hs : s < 64) : ∀ k, k ≤ 6 → restP (bL s) k = bitP (63 - s) k
  | 0, _ => rfl
  | k + 1, hk => by
    rw [restP, bitP, rest_bits hs k (by omega), hasL_bL hs, not_in s hs k (by omega)]
    cases s.testBit k <;> rfl
theorem all_in : ∀ h : Nat, h < 7 → IntKind.u64.wrap (IntKind.u64.wrap (2 ^ min h 64) - 1) = ((2 ^ h - 1 : Nat) : Int) := by decide +kernel
theorem lt_of_pow {s h : Nat} (hs : s < 2 ^ h) (hh : h ≤ 6) : s < 64 := Nat.lt_of_lt_of_le hs (pow6 hh)

def chRestR' (xs : List Int) (h : Nat) (r : Bool) : Bool × List Int := if r = true then (true, restP xs h) else (false, [])
noncomputable def chRestR (t f xs : List Int) : Bool × List Int := chRestR' xs (f.length / 2) (chV t f xs)
theorem chV_few {t f xs : List Int} (h : chV t f xs = true) : f.length / 2 ≤ 6 ∧ IsMap t f := by
  unfold chV at h
  rw [Bool.and_eq_true] at h
  have := mapV_iff.1 h.2
  exact ⟨by have := this.flip.2.1; omega, this⟩
theorem chRestR_len {t f xs ys : List Int} {ok : Bool} (h : chRestR t f xs = (ok, ys)) : ys.length ≤ 12 := by
  unfold chRestR chRestR' at h
  split at h
  · rename_i hb
    injection h with _ h; rw [← h]
    have := restP_len xs (f.length / 2); have := (chV_few hb).1; omega
  · injection h with _ h; rw [← h]; simp

theorem hasS_any (s i : Nat) (w : World) (hs : s < 64) (hi : i < 6) {r : Bool} (hr : s.testBit i = r) :
    Calls Try.prog 81 #[.int .u64 s, .int .i64 i] w fun e w' => e = .returned (.bool r) ∧ w = w' := by
  have h := hasS_in s hs i hi
  rw [hr] at h
  clear hr
  go_enter Try.func81, Try.ntmps81
  go_wp2_with fail
  go_ret
  exact ⟨rfl, rfl⟩

theorem allEdges_any (b : Nat) (A A' : Option Addr) (n n' c c' h2 : Nat) (w : World) (hb : Box2 w b A n c A' n' c') (hn' : n' ≤ 12) (hh : n' / 2 = h2) :
    Calls Try.prog 50 #[.pointer (some ⟨b, 0, none⟩)] w fun e w' => e = .returned (.int .u64 (2 ^ h2 - 1 : Nat)) ∧ w = w' := by
  have ha := all_in h2 (by omega)
  obtain ⟨al, hal⟩ : ∃ al : Nat, 2 ^ h2 - 1 = al := ⟨_, rfl⟩
  rw [hal] at ha ⊢
  have HB := Lib.hid hb; have HH := Lib.hid hh; clear hb hal hh
  go_enter Try.func50, Try.ntmps50
  go_wp2_with fail
  refine (edgeCount_any b A A' n n' c c' h2 _ HB.out (by omega) HH.out).mono ?_
  rintro e w1 ⟨rfl, rfl⟩
  go_wp2_with fail
  go_ret
  exact ⟨rfl, rfl⟩

set_option maxHeartbeats 1600000 in
theorem list_any (s : Nat) (w : World) (hs : s < 64) :
    Calls Try.prog 56 #[.int .u64 s] w fun e w' => ∃ v, e = .returned v ∧ Own w' w.heap.size v (bL s) ∧ Below w.heap.size w w' := by
  obtain ⟨i0, hinf, hz0, hz1, hz2⟩ := info_parts info_int
  obtain ⟨b1, b2⟩ := bit_in s hs
  obtain ⟨N, hN⟩ : ∃ N, Lib.bitLen s = N := ⟨_, rfl⟩
  rw [hN] at b1 b2
  have HN : Hid (Lib.bitLen (s : Int).toNat = N) := by rw [Hid, Int.toNat_natCast, hN]
  have HB1 := Lib.hid b1; clear b1 hN
  go_enter Try.func56, Try.ntmps56
  go_wp2_with fail
  refine (Try.bits_Len (s : Int) w (by omega) (by omega)).mono ?_
  rintro e w1 ⟨rfl, rfl⟩
  rw [HN.out]
  go_wp2_with fail
  go_loopw [3, 4, 7] (fun v _ iv wr => ∃ k : Nat, k ≤ N ∧ iv = .int .i64 k ∧ Hid (Own wr w1.heap.size v (bitP s k)) ∧ Hid (Below w1.heap.size w1 wr)) (fun _ _ iv _ => N - (intOf iv).toNat)
  case atStart => exact ⟨0, Nat.zero_le _, rfl, Own.nil_ _ _, Below.refl _ _⟩
  case round =>
    obtain ⟨k, hk, rfl, ho, hb⟩ := hrel
    have hbs := hb.out.size
    by_cases hlt : k < N
    · cases hbt : s.testBit k with
      | false =>
        have HBT := Lib.hid hbt; clear hbt
        go_wp2_with (go_at_call 81; refine (hasS_any s k _ hs (by omega) HBT.out).mono ?_; rintro e w2 ⟨rfl, rfl⟩)
        go_roundw
        case rel => exact ⟨k + 1, by omega, by go_num, by rw [bitP, HBT.out]; simpa [Hid] using ho.out, hb⟩
        case measure => simp [intOf]; omega
      | true =>
        obtain ⟨L, hL⟩ : ∃ L, (bitP s k).length = L := ⟨_, rfl⟩
        have hLk : L ≤ 6 := by have := bitP_len s k; omega
        have HOA := ho.out.asRow hL
        have HBT := Lib.hid hbt; have HL := Lib.hid hL; clear hbt hL
        go_wp2_with (first
          | (go_at_call 81; refine (hasS_any s k _ hs (by omega) HBT.out).mono ?_; rintro e w2 ⟨rfl, rfl⟩)
          | (at_builtin; refine wpList_append_own _ rfl _ _ 23 rfl w1.heap.size 3 i0 (.int .i64 0) 1 8 Try.underlying23 hinf hz0 hz1 hz2 rfl (by decide) _ _ _ rfl (HOA.out.alloc _) ⟨wr.heap.size, 0, none⟩ 1 1 [.int .i64 (k : Int)] rfl rfl (cell_one_new _ _ _) (by intro u hu; simp at hu; subst hu; rfl) (by unfold maxLen; omega) (by omega) (by simp; omega) ?_; intro v1 w2 hown1 hgrow1 _; have HO := Lib.hid hown1; have HGR := Lib.hid hgrow1; clear hown1 hgrow1))
        go_roundw
        case rel =>
          have ha := app_int hbs ho.out HL.out HO.out HGR.out
          exact ⟨k + 1, by omega, by go_num, by rw [bitP, if_pos HBT.out]; exact ha.1, hb.out.trans ha.2⟩
        case measure => simp [intOf]; omega
    · have hkn : k = N := by omega
      have HK := Lib.hid hkn; clear hkn
      go_wp2_with fail
      go_ret
      exact ⟨_, rfl, by rw [← HB1.out, ← HK.out]; exact ho.out, hb.out⟩

set_option maxRecDepth 20000 in
set_option maxHeartbeats 1600000 in
theorem spec_chRestR (w : World) (A A' : Option Addr) (n n' c c' : Nat) (t f : List Int) (h : Rd w A n t) (h' : Rd w A' n' f) (hn : n ≤ 1048576) (hn' : n' ≤ 1048576) (B : Option Addr) (d m : Nat) (xs : List Int) (k : Rd w B m xs) (hm : m ≤ 1048576) {ok : Bool} {ys : List Int} (hR : chRestR t f xs = (ok, ys)) :
    Calls Try.prog 54 #[.agg #[.slice A n c, .slice A' n' c'], .slice B m d] w fun e w' => ∃ v, e = .returned (.tuple #[v, .bool ok]) ∧ Own w' w.heap.size v ys ∧ Below w.heap.size w w' := by
  obtain ⟨i0, hinf, hz0, hz1, hz2⟩ := info_parts info_int
  obtain ⟨W0, hW0, hx, hb, hz⟩ := Box.local_ w 25 (.slice A n c) (.slice A' n' c')
  have HZ := Lib.hid hz; clear hz
  obtain ⟨h2, hh2⟩ : ∃ h2, n' / 2 = h2 := ⟨_, rfl⟩
  have g2 : IntKind.i64.wrap ((n' : Int) / 2) = (h2 : Int) := by rw [IntWalk.i64_in _ (by omega)]; omega
  have g2' : (n' : Int) / 2 = (h2 : Int) := by omega
  have hb2 : h2 ≤ 524288 := by omega
  obtain ⟨r, hr⟩ : ∃ r, chV t f xs = r := ⟨_, rfl⟩
  have HRE : Hid (chRestR' xs h2 r = (ok, ys)) := by have := hR; rwa [chRestR, h'.1, hh2, hr] at this
  have HX := Lib.hid hx; have HB := Lib.hid hb; have H := Lib.hid h; have H' := Lib.hid h'; have K := Lib.hid k; have HR := Lib.hid hr; clear hx hb h h' hR k hh2 hr
  obtain ⟨lo, hlo⟩ : ∃ lo, w.heap.size + 1 = lo := ⟨_, rfl⟩
  have hlw : w.heap.size < lo := by omega
  have HE : Hid (Own (W0.alloc (.cells #[] 3)) lo (.slice (some ⟨W0.heap.size, 0, none⟩) 0 0) []) := Own.empty (by rw [HZ.out]; omega)
  have HBE : Hid (Below w.heap.size w (W0.alloc (.cells #[] 3))) := HB.out.alloc HB.out.size _
  have HXE : Hid (Box (W0.alloc (.cells #[] 3)) w.heap.size 25 (.slice A n c) (.slice A' n' c')) := HX.out.below ((Below.refl _ _).alloc (Nat.le_refl _) _)
  have HLO := Lib.hid hlo; clear hlo
  go_enter Try.func54, Try.ntmps54
  go_wp2_with fail
  go_loopw [6, 7] (fun v iv wr => ∃ j : Nat, j ≤ h2 ∧ iv = .int .i64 j ∧ Hid (r = false → j = 0) ∧ Hid (Own wr lo v (restP xs j)) ∧ Hid (Below w.heap.size w wr) ∧ Hid (Box wr w.heap.size 25 (.slice A n c) (.slice A' n' c'))) (fun _ iv _ => h2 - (intOf iv).toNat)
  case atStart => exact ⟨0, Nat.zero_le _, rfl, fun _ => rfl, HE.out, HBE.out, HXE.out⟩
  case round =>
    obtain ⟨j, hj, rfl, hr0, ho, hb, hx⟩ := hrel
    have hlr : lo ≤ wr.heap.size := by have := hx.out.lt; have := HLO.out; omega
    have c0 := hx.out.cell0
    have c1 := hx.out.cell1
    have CH := spec_chV wr A A' n n' c c' t f (H.out.below hb.out) (H'.out.below hb.out) hn hn' B d m xs (K.out.below hb.out) hm HR.out
    by_cases hlt : j < h2 ∧ r = true
    · obtain ⟨hlt, rfl⟩ := hlt
      go_wp2_with fail
      refine CH.mono ?_
      rintro e w1 ⟨rfl, b⟩
      have HB1 := Lib.hid (hb.out.trans (b.mono hb.out.size)); have HO1 := Lib.hid (ho.out.below b); have HX1 := Lib.hid (hx.out.below b)
      have hlr1 : lo ≤ w1.heap.size := by have := b.size; omega
      clear b CH c0 c1
      cases hh : hasL xs (j : Int) with
      | true =>
        have HH := Lib.hid hh; clear hh
        go_wp2_with fail
        refine (l7Has_any B d m xs (j : Int) w1 (K.out.below HB1.out) hm).mono ?_
        rintro e w2 ⟨rfl, rfl⟩
        rw [HH.out]
        go_wp2_with fail
        go_roundw
        case rel => exact ⟨j + 1, by omega, by go_num, fun h => absurd h (by decide), by rw [restP, if_pos HH.out, List.append_nil]; exact HO1, HB1, HX1⟩
        case measure => simp [intOf]; omega
      | false =>
        have HH := Lib.hid hh; clear hh
        obtain ⟨L, hL⟩ : ∃ L, (restP xs j).length = L := ⟨_, rfl⟩
        have hLk : L ≤ 524288 := by have := restP_len xs j; omega
        have HOA := HO1.out.asRow hL
        have HL := Lib.hid hL; clear hL
        go_wp2_with fail
        refine (l7Has_any B d m xs (j : Int) w1 (K.out.below HB1.out) hm).mono ?_
        rintro e w2 ⟨rfl, rfl⟩
        rw [HH.out]
        go_wp2_with (at_builtin; refine wpList_append_own _ rfl _ _ 23 rfl lo 3 i0 (.int .i64 0) 1 8 Try.underlying23 hinf hz0 hz1 hz2 rfl (by decide) _ _ _ rfl (HOA.out.alloc _) ⟨w1.heap.size, 0, none⟩ 1 1 [.int .i64 (j : Int)] rfl rfl (cell_one_new _ _ _) (by intro u hu; simp at hu; subst hu; rfl) (by unfold maxLen; omega) (by omega) (by simp; omega) ?_; intro v1 w2 hown1 hgrow1 _; have HO := Lib.hid hown1; have HGR := Lib.hid hgrow1; clear hown1 hgrow1)
        go_roundw
        case rel =>
          have ha := app_int hlr1 HO1.out HL.out HO.out HGR.out
          exact ⟨j + 1, by omega, by go_num, fun h => absurd h (by decide), by rw [restP, if_neg (by rw [HH.out]; decide)]; exact ha.1, HB1.out.trans (ha.2.mono (by omega)), HX1.out.over ha.2 hlw⟩
        case measure => simp [intOf]; omega
    · have HN : Hid (¬ (j < h2 ∧ r = true)) := hlt
      clear hlt
      by_cases hlt : j < h2
      · have hrf : r = false := by cases r with
          | false => rfl
          | true => exact absurd ⟨hlt, rfl⟩ HN.out
        subst hrf
        go_wp2_with fail
        refine CH.mono ?_
        rintro e w1 ⟨rfl, b⟩
        have HB1 := Lib.hid (hb.out.trans (b.mono hb.out.size)); have HO1 := Lib.hid (ho.out.below b); have hx1 := hx.out.below b
        have d0 := hx1.cell0
        have d1 := hx1.cell1
        clear b CH c0 c1 hx1
        go_wp2_with fail
        refine (spec_chV w1 A A' n n' c c' t f (H.out.below HB1.out) (H'.out.below HB1.out) hn hn' B d m xs (K.out.below HB1.out) hm HR.out).mono ?_
        rintro e w2 ⟨rfl, b⟩
        have HB2 := Lib.hid (HB1.out.trans (b.mono HB1.out.size)); have HO2 := Lib.hid (HO1.out.below b); clear b
        go_wp2_with fail
        go_ret2
        have e : ok = false ∧ ys = restP xs j := by have := HRE.out; rw [hr0.out (by trivial)]; simpa [chRestR', restP, eq_comm] using this
        obtain ⟨rfl, rfl⟩ := e
        exact ⟨_, rfl, HO2.out.mono (by omega), HB2.out⟩
      · have hje : j = h2 := by omega
        have HJ := Lib.hid hje; clear hje
        go_wp2_with fail
        refine CH.mono ?_
        rintro e w1 ⟨rfl, b⟩
        have HB1 := Lib.hid (hb.out.trans (b.mono hb.out.size)); have HO1 := Lib.hid (ho.out.below b)
        clear b CH c0 c1
        go_wp2_with fail
        go_ret2
        have e : ok = r ∧ ys = restP xs j := by
          have := HRE.out
          cases r with
          | true => rw [HJ.out]; simpa [chRestR', eq_comm] using this
          | false => rw [hr0.out (by trivial)]; simpa [chRestR', restP, eq_comm] using this
        obtain ⟨rfl, rfl⟩ := e
        exact ⟨_, rfl, HO1.out.mono (by omega), HB1.out⟩

theorem impl_chRestR (w : World) (A A' : Option Addr) (n n' c c' : Nat) (t f : List Int) (h : Rd w A n t) (h' : Rd w A' n' f) (hn : n ≤ 1048576) (hn' : n' ≤ 1048576) (B : Option Addr) (d m : Nat) (xs : List Int) (k : Rd w B m xs) (hm : m ≤ 1048576) {ok : Bool} {ys : List Int} (hR : chRestR t f xs = (ok, ys)) :
    Calls Try.prog 27 #[.agg #[.slice A n c, .slice A' n' c'], .slice B m d] w fun e w' => ∃ v, e = .returned (.tuple #[v, .bool ok]) ∧ Own w' w.heap.size v ys ∧ Below w.heap.size w w' := by
  obtain ⟨W0, hW0, hx, hb, -⟩ := Box.local_ w 25 (.slice A n c) (.slice A' n' c')
  obtain ⟨r, hr⟩ : ∃ r, chV t f xs = r := ⟨_, rfl⟩
  have HRE : Hid (chRestR' xs (f.length / 2) r = (ok, ys)) := by have := hR; rwa [chRestR, hr] at this
  have HX := Lib.hid hx; have HB := Lib.hid hb; have H := Lib.hid h; have H' := Lib.hid h'; have K := Lib.hid k; have HR := Lib.hid hr; clear hx hb h h' hR k hr
  cases r with
  | true =>
    obtain ⟨h6, hmap⟩ := chV_few HR.out
    have hn12 : n' ≤ 12 := by rw [← H'.out.1]; exact hmap.flip.2.1
    obtain ⟨h2, hh2⟩ : ∃ h2, n' / 2 = h2 := ⟨_, rfl⟩
    have HH := Lib.hid hh2
    rw [H'.out.1, hh2] at h6
    have HLE : Hid (f.length / 2 = h2) := by rw [Hid, H'.out.1, hh2]
    clear hmap hh2
    go_enter Try.func27, Try.ntmps27
    go_wp2_with fail
    refine (chosen_any w.heap.size A A' n n' c c' t f W0 HX.out (H.out.below HB.out) (H'.out.below HB.out) hn hn' B d m xs (K.out.below HB.out) hm HR.out).mono ?_
    rintro e w1 ⟨s, rfl, hs, bl⟩
    have HX1 := Lib.hid (HX.out.below bl); have HB1 := Lib.hid (HB.out.trans (bl.mono HB.out.size)); clear bl
    obtain ⟨s1, s2⟩ := hs.out rfl
    rw [HLE.out] at s1
    have hs64 := lt_of_pow s1 h6
    obtain ⟨r1, r2, r3⟩ := rest_in h2 (by omega) s hs64 s1
    obtain ⟨al, hal⟩ : ∃ al : Nat, 2 ^ h2 - 1 = al := ⟨_, rfl⟩
    rw [hal] at r1 r2 r3
    obtain ⟨s', hs'⟩ : ∃ s' : Nat, al - s = s' := ⟨_, rfl⟩
    rw [hs'] at r1 r2 r3
    have HS2 := Lib.hid s2; have HR2 := Lib.hid r2; have HAL := Lib.hid hal
    clear hs s1 s2 r2 hal hs'
    go_wp2_with fail
    refine (allEdges_any w.heap.size A A' n n' c c' h2 w1 HX1.out hn12 HH.out).mono ?_
    rintro e w2 ⟨rfl, rfl⟩
    rw [HAL.out]
    go_wp2_with fail
    refine (list_any s' w1 r3).mono ?_
    rintro e w2 ⟨v, rfl, o, b⟩
    have HO := Lib.hid (o.mono HB1.out.size); have HB2 := Lib.hid (HB1.out.trans (b.mono HB1.out.size)); clear o b
    go_wp2_with fail
    go_ret2
    have e : ok = true ∧ ys = bL s' := by
      have := HRE.out
      rw [HLE.out, ← HS2.out] at this
      rw [HR2.out, ← rest_bits hs64 h2 h6]
      simpa [chRestR', eq_comm] using this
    obtain ⟨rfl, rfl⟩ := e
    exact ⟨v, rfl, HO.out, HB2.out⟩
  | false =>
    obtain ⟨rfl, rfl⟩ : ok = false ∧ ys = [] := by have := HRE.out; simpa [chRestR', eq_comm] using this
    go_enter Try.func27, Try.ntmps27
    go_wp2_with fail
    refine (chosen_any w.heap.size A A' n n' c c' t f W0 HX.out (H.out.below HB.out) (H'.out.below HB.out) hn hn' B d m xs (K.out.below HB.out) hm HR.out).mono ?_
    rintro e w1 ⟨s, rfl, -, bl⟩
    have HB1 := Lib.hid (HB.out.trans (bl.mono HB.out.size)); clear bl
    go_wp2_with fail
    go_ret2
    exact ⟨_, rfl, Own.nil_ _ _, HB1.out⟩

end Go.Proofs.Ytcenffndclpjoaa

/-
  Lists and maps of different lengths are never equal: slices.Compare, compare, times.
-/
import Derived.Test.YtfcgfeopmnjfjaaTimes
import Derived.Deep.RegionHeld3
namespace Go.Proofs.Ytfcgfeopmnjfjaa
open Go.RowKit

set_option maxHeartbeats 1600000 in
theorem sCompare_ne (A B : Option Addr) (n m c d : Nat) (a b : List Int) (w : World) (h : Rd w A n a) (k : Rd w B m b) (hn : n ≤ 12) (hm : m ≤ 12) (hne : n ≠ m) :
    Calls Try.prog 124 #[.slice A n c, .slice B m d] w fun e w' => ∃ r, e = .returned (.int .i64 r) ∧ r ≠ 0 ∧ w = w' := by
  have H := Lib.hid h; have K := Lib.hid k; have Hx := Lib.hid h.1; have Hy := Lib.hid k.1; clear h k
  go_enter Try.func124, Try.ntmps124
  go_wp2
  go_loop [11] (fun i => ∃ k : Nat, k ≤ n ∧ k ≤ m ∧ i = .int .i64 k) (fun i => n - (intOf i).toNat)
  case atStart => exact ⟨0, Nat.zero_le _, Nat.zero_le _, rfl⟩
  case round =>
    obtain ⟨k, hk, hkm, rfl⟩ := hrel
    by_cases hlt : k < n
    · by_cases hlm : k < m
      · obtain ⟨ad, rfl, hc⟩ := H.out.at_ hlt
        obtain ⟨bd, rfl, hc'⟩ := K.out.at_ hlm
        by_cases h1 : gi a k < gi b k
        · have HR : Hid ((if gi a k < gi b k then (-1 : Int) else if gi b k < gi a k then 1 else 0) = -1) := if_pos h1
          clear h1
          go_wp2_with (go_at_call 128; refine (cCompare_lit _ _ _ HR.out).mono ?_; rintro e w' ⟨rfl, rfl⟩)
          go_ret
          exact ⟨-1, rfl, by omega, rfl⟩
        · by_cases h2 : gi b k < gi a k
          · have HR : Hid ((if gi a k < gi b k then (-1 : Int) else if gi b k < gi a k then 1 else 0) = 1) := by rw [Hid, if_neg h1, if_pos h2]
            clear h1 h2
            go_wp2_with (go_at_call 128; refine (cCompare_lit _ _ _ HR.out).mono ?_; rintro e w' ⟨rfl, rfl⟩)
            go_ret
            exact ⟨1, rfl, by omega, rfl⟩
          · have HR : Hid ((if gi a k < gi b k then (-1 : Int) else if gi b k < gi a k then 1 else 0) = 0) := by rw [Hid, if_neg h1, if_neg h2]
            clear h1 h2
            go_wp2_with (go_at_call 128; refine (cCompare_lit _ _ _ HR.out).mono ?_; rintro e w' ⟨rfl, rfl⟩)
            go_round
            case rel => exact ⟨k + 1, by omega, by omega, by go_num⟩
            case measure => simp [intOf]; omega
      · obtain ⟨ad, rfl, hc⟩ := H.out.at_ hlt
        have hkm' : k = m := by omega
        subst hkm'
        go_wp2
        go_ret
        exact ⟨1, rfl, by omega, rfl⟩
    · have hnm : n < m := by omega
      have hkn : k = n := by omega
      subst hkn
      go_wp2
      go_ret
      exact ⟨-1, rfl, by omega, rfl⟩

set_option maxHeartbeats 400000 in
theorem compare_ne (w : World) (x y : Nat) (A A' B B' : Option Addr) (n m c c' d d' : Nat) (t f t' f' : List Int) (hx : Box2 w x A n c A' n c') (hy : Box2 w y B m d B' m d') (h : Rd w A n t) (h' : Rd w A' n f) (k : Rd w B m t') (k' : Rd w B' m f') (hn : n ≤ 12) (hm : m ≤ 12) (hne : n ≠ m) :
    Calls Try.prog 115 #[.pointer (some ⟨x, 0, none⟩), .pointer (some ⟨y, 0, none⟩)] w fun e w' => ∃ r, e = .returned (.int .i64 r) ∧ r ≠ 0 ∧ Below w.heap.size w w' := by
  have c0 := hx.cell0
  have c1 := hx.cell1
  have d0 := hy.cell0
  have d1 := hy.cell1
  have HX := Lib.hid hx; have HY := Lib.hid hy
  have H := Lib.hid h; have H' := Lib.hid h'; have K := Lib.hid k; have K' := Lib.hid k'; clear hx hy h h' k k'
  go_enter Try.func115, Try.ntmps115
  go_wp2_with fail
  go_region_held3 (fun w' => w'.cell? ⟨x, 0, none⟩ = some (.slice A n c) ∧ w'.cell? ⟨x, 1, none⟩ = some (.slice A' n c') ∧ w'.cell? ⟨y, 0, none⟩ = some (.slice B m d) ∧ w'.cell? ⟨y, 1, none⟩ = some (.slice B' m d')) (first | go_keep | exact ⟨(HX.out.below ((below_drewN (Below.refl _ w) _).alloc (Nat.le_refl _) _)).cell0, (HX.out.below ((below_drewN (Below.refl _ w) _).alloc (Nat.le_refl _) _)).cell1, (HY.out.below ((below_drewN (Below.refl _ w) _).alloc (Nat.le_refl _) _)).cell0, (HY.out.below ((below_drewN (Below.refl _ w) _).alloc (Nat.le_refl _) _)).cell1⟩) (first
    | (have hchk := HC1.out; clear hchk; go_at_call 124; refine (sCompare_ne A' B' n m c' d' f f' _ (H'.out.drewN _) (K'.out.drewN _) hn hm hne).mono ?_; rintro e w' ⟨r2, rfl, -, rfl⟩)
    | (go_at_call 124; refine (sCompare_ne A B n m c d t t' _ (H.out.drewN _) (K.out.drewN _) hn hm hne).mono ?_; rintro e w' ⟨r1, rfl, hr1, rfl⟩; have HR1 := Lib.hid hr1; clear hr1; have HC1 : Hid True := trivial)
    | (go_at_call 123; refine (cOr_any _ 2 r1 r2 _ (rd_lit2d w _ _ _) (if_neg HR1.out)).mono ?_; rintro e w' ⟨rfl, rfl⟩))
  all_goals
    go_wp2
    go_ret
    exact ⟨r1, rfl, HR1.out, (below_drewN (Below.refl _ w) _).alloc (Nat.le_refl _) _⟩

set_option maxHeartbeats 1600000 in
theorem times_ne (w : World) (x y : Nat) (A A' B B' : Option Addr) (n m c c' d d' : Nat) (t f bt bf : List Int) (hx : Box2 w x A n c A' n c') (hy : Box2 w y B m d B' m d') (h : Rd w A n t) (h' : Rd w A' n f) (k : Rd w B m bt) (k' : Rd w B' m bf) (hm : IsMap t f) (hm12 : m ≤ 12) (hne : m ≠ n) :
    Calls Try.prog 96 #[.pointer (some ⟨x, 0, none⟩), .pointer (some ⟨y, 0, none⟩)] w fun e w' => e = .returned (.int .i64 0) ∧ Below w.heap.size w w' := by
  have hn12 : n ≤ 12 := by rw [← h.1]; exact hm.turn.2.1
  have HX := Lib.hid hx; have HY := Lib.hid hy; have H := Lib.hid h; have H' := Lib.hid h'; have K := Lib.hid k; have K' := Lib.hid k'; have HM := Lib.hid hm; clear hx hy h h' k k' hm
  go_enter Try.func96, Try.ntmps96
  go_wp2_with fail
  refine (forms_any w x A A' n c c' t f HX.out H.out H'.out HM.out).mono ?_
  rintro e w1 ⟨g, rfl, -, hf, bl⟩
  have HF1 := Lib.hid hf; have HB1 := Lib.hid bl; clear hf bl
  go_wp2_with fail
  go_loopw [5, 11] (fun s i wr => ∃ k : Nat, k ≤ n ∧ s = .int .i64 0 ∧ i = .int .i64 k ∧ Below w.heap.size w wr ∧ FormsAt wr g n n t f) (fun _ i _ => n - (intOf i).toNat)
  case atStart => exact ⟨0, Nat.zero_le _, rfl, rfl, HB1.out, HF1.out⟩
  case round =>
    obtain ⟨k, hk, rfl, rfl, hb, hf⟩ := hrel
    have HB := Lib.hid hb; have HF := Lib.hid hf; clear hb hf
    by_cases hlt : k < n
    · obtain ⟨u, u', e0, e1, o⟩ := HF.out.read hlt
      have hl1 : (formT t f k).length = n := (formT_len HM.out (by rw [H.out.1]; exact hlt)).trans H.out.1
      have hl2 : (formF t f k).length = n := (formF_len HM.out (by rw [H.out.1]; exact hlt)).trans H.out.1
      obtain ⟨A3, c3, A4, c4, rfl, rfl, r3, r4⟩ := o.form hl1 hl2
      obtain ⟨W0, hW0, hz, hb0, -⟩ := Box.local_ wr 36 (.slice none 0 0) (.slice none 0 0)
      have z0 := hz.cell0; have z1 := hz.cell1; have z2 := hz.frozen 0; have z3 := hz.frozen 1
      obtain ⟨q1, q2⟩ := hz.store2 (.slice A3 n c3) (.slice A4 n c4)
      have HQ1 : Hid (Box2 ((W0.setCell ⟨wr.heap.size, 0, none⟩ (.slice A3 n c3)).setCell ⟨wr.heap.size, 1, none⟩ (.slice A4 n c4)) wr.heap.size A3 n c3 A4 n c4) := q1
      have hbq : Below wr.heap.size wr ((W0.setCell ⟨wr.heap.size, 0, none⟩ (.slice A3 n c3)).setCell ⟨wr.heap.size, 1, none⟩ (.slice A4 n c4)) := hb0.grown q2 hb0.size (fun k hk => by cases hk; omega)
      have HBQ := Lib.hid hbq
      have HR3 := Lib.hid (r3.below hbq); have HR4 := Lib.hid (r4.below hbq)
      have HBW := Lib.hid (HB.out.trans (hbq.mono HB.out.size))
      have hFe := (HF.out.below hb0).read hlt
      obtain ⟨p, p', e2, e3, -⟩ := hFe
      have s0 : W0.cell? ⟨g, k * 2, none⟩ = some (.slice A3 n c3) := (hb0.cell (p := ⟨g, k * 2, none⟩) HF.out.lt).trans e0
      have s1 : W0.cell? ⟨g, k * 2 + 1, none⟩ = some (.slice A4 n c4) := (hb0.cell (p := ⟨g, k * 2 + 1, none⟩) HF.out.lt).trans e1
      clear r3 r4 o hz q1 q2 hb0 hbq e2 e3 hl1 hl2
      go_wp2_with fail
      refine (compare_ne _ y wr.heap.size B B' A3 A4 m n d d' c3 c4 bt bf _ _ (HY.out.below HBW.out) HQ1.out (K.out.below HBW.out) (K'.out.below HBW.out) HR3.out HR4.out hm12 hn12 hne).mono ?_
      rintro e w2 ⟨r, rfl, hr, bl⟩
      have hd : (r == 0) = false := by simpa using hr
      have HB2 := Lib.hid (HBW.out.trans (bl.mono HBW.out.size))
      have HF2 := Lib.hid (HF.out.below (HBQ.out.trans (bl.mono HBQ.out.size)))
      clear bl z0 z1 z2 z3 hr
      go_wp2
      go_roundw
      case rel => exact ⟨k + 1, by omega, rfl, by go_num, HB2.out, HF2.out⟩
      case measure => simp [intOf]; omega
    · have hkn : k = n := by omega
      clear hkn
      go_wp2
      go_ret
      exact ⟨rfl, HB.out⟩

end Go.Proofs.Ytfcgfeopmnjfjaa

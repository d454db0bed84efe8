/-
  Gluings of words with two sides: the model's and the program's.
-/
import Derived.Test.YtfdliekhlcbkcaaDoorWrdZ
namespace Go.Proofs.YtfdliekhlcbkcaaDoor
open Go.RowKit

theorem gluR_yes {l : List UInt8} (h : sidedB l = true) : gluR l = (true, parL l) := by rw [gluR, if_pos h]
theorem gluR_no {l : List UInt8} (h : sidedB l = false) : gluR l = (false, []) := by rw [gluR, if_neg (by simp [h])]

set_option maxHeartbeats 800000 in
theorem impl_gluR (w : World) (s : ByteArray) (hs : s.size ≤ 1048576) {ok : Bool} {ys : List Int} (hR : gluR s.data.toList = (ok, ys)) :
    Calls Tryd.prog 18 #[.string s] w fun e w' => ∃ v, e = .returned (.tuple #[v, .bool ok]) ∧ Own w' w.heap.size v ys ∧ Below w.heap.size w w' := by
  obtain ⟨b, hb⟩ : ∃ b, sidedB s.data.toList = b := ⟨_, rfl⟩
  have HBB : Hid (sidR s.data.toList = b) := hb
  cases b with
  | false =>
    have h := (gluR_no hb).symm.trans hR
    simp only [Prod.mk.injEq] at h
    obtain ⟨rfl, rfl⟩ := h
    clear hR hb
    go_enter Tryd.func18, Tryd.ntmps18
    go_wp2_with (go_at_call 19; refine (impl_sidR _ s hs HBB.out).mono ?_; rintro e w1 ⟨rfl, b⟩; have HB1 := Lib.hid b; clear b)
    go_ret2
    exact ⟨_, rfl, Own.nil_ _ _, HB1.out⟩
  | true =>
    have h := (gluR_yes hb).symm.trans hR
    simp only [Prod.mk.injEq] at h
    obtain ⟨rfl, e⟩ := h
    have HE := Lib.hid e
    have HW := Lib.hid (wordB_iff.1 (sidedB_all hb).1); clear hR hb e
    go_enter Tryd.func18, Tryd.ntmps18
    go_wp2_with (first
      | (go_at_call 19; refine (impl_sidR _ s hs HBB.out).mono ?_; rintro e w1 ⟨rfl, b⟩; have HB1 := Lib.hid b; clear b)
      | (go_at_call 58; refine (partners_any s _ HW.out).mono ?_; rintro e w2 ⟨v, rfl, o, b⟩; have HO := Lib.hid (o.mono HB1.out.size); have HB2 := Lib.hid (HB1.out.trans (b.mono HB1.out.size)); clear b o))
    go_ret2
    exact ⟨_, rfl, HE.out ▸ HO.out, HB2.out⟩

set_option maxHeartbeats 1600000 in
theorem spec_gluR (w : World) (s : ByteArray) (hs : s.size ≤ 1048576) {ok : Bool} {ys : List Int} (hR : gluR s.data.toList = (ok, ys)) :
    Calls Tryd.prog 43 #[.string s] w fun e w' => ∃ v, e = .returned (.tuple #[v, .bool ok]) ∧ Own w' w.heap.size v ys ∧ Below w.heap.size w w' := by
  obtain ⟨i0, hinf, hz0, hz1, hz2⟩ := info_parts info_int
  obtain ⟨b, hb⟩ : ∃ b, sidedB s.data.toList = b := ⟨_, rfl⟩
  have HBB : Hid (sidR s.data.toList = b) := hb
  cases b with
  | false =>
    have h := (gluR_no hb).symm.trans hR
    simp only [Prod.mk.injEq] at h
    obtain ⟨rfl, rfl⟩ := h
    clear hR hb
    go_enter Tryd.func43, Tryd.ntmps43
    go_wp2_with fail
    go_loopw [4, 5] (fun v iv wr => iv = .int .i64 0 ∧ Hid (Own wr w.heap.size v []) ∧ Hid (Below w.heap.size w wr)) (fun _ _ _ => 0)
    case atStart => exact ⟨rfl, Own.empty (Nat.le_refl _), (Below.refl _ _).alloc (Nat.le_refl _) _⟩
    case round =>
      obtain ⟨rfl, ho, hbl⟩ := hrel
      by_cases h0 : 0 < s.size
      · go_wp2_with (go_at_call 67; refine (specSided_any _ s hs HBB.out).mono ?_; rintro e w' ⟨rfl, q1, rfl⟩)
        go_ret2
        exact ⟨_, rfl, ho.out, below_drewN hbl.out _⟩
      · go_wp2_with (go_at_call 67; refine (specSided_any _ s hs HBB.out).mono ?_; rintro e w' ⟨rfl, q1, rfl⟩)
        go_ret2
        exact ⟨_, rfl, ho.out, below_drewN hbl.out _⟩
  | true =>
    have h := (gluR_yes hb).symm.trans hR
    simp only [Prod.mk.injEq] at h
    obtain ⟨rfl, e⟩ := h
    have HE := Lib.hid e
    have hw := wordB_iff.1 (sidedB_all hb).1
    have hlen := hw.len
    rw [len_str] at hlen
    obtain ⟨hn2, hn10, -⟩ := hlen
    have HW := Lib.hid hw; clear hR hb e hw
    go_enter Tryd.func43, Tryd.ntmps43
    go_wp2_with fail
    go_loopw [4, 5] (fun v iv wr => ∃ k : Nat, k ≤ s.size ∧ iv = .int .i64 k ∧ Hid (wr.ownsRow w.heap.size 3 1 v k (ints ((parL s.data.toList).take k))) ∧ Hid (Below w.heap.size w wr)) (fun _ iv _ => s.size - (intOf iv).toNat)
    case atStart => exact ⟨0, Nat.zero_le _, rfl, Own.empty (Nat.le_refl _), (Below.refl _ _).alloc (Nat.le_refl _) _⟩
    case round =>
      obtain ⟨k, hk, rfl, ho, hbl⟩ := hrel
      have hbs := hbl.out.size
      by_cases hlt : k < s.size
      · have hkl : k < s.data.toList.length := by rw [len_str]; exact hlt
        obtain ⟨p, hpp⟩ : ∃ p, par s.data.toList k = p := ⟨_, rfl⟩
        have HPP := Lib.hid hpp; clear hpp
        go_wp2_with (first
          | (go_at_call 67; refine (specSided_any _ s hs HBB.out).mono ?_; rintro e w' ⟨rfl, q1, rfl⟩)
          | (go_at_call 76; refine (l8Partner_any s k _ hs hlt).mono ?_; rintro e w' ⟨rfl, q2, rfl⟩; rw [HPP.out]; have HOW : Hid (((wr.drewN q1).drewN q2).ownsRow w.heap.size 3 1 _ k (ints ((parL s.data.toList).take k))) := ho.out; have HBW := Lib.hid (below_drewN (below_drewN hbl.out q1) q2); generalize (wr.drewN q1).drewN q2 = W at *)
          | (at_builtin; refine wpList_append_own _ rfl _ _ 27 rfl w.heap.size 3 i0 (.int .i64 0) 1 8 Tryd.underlying27 hinf hz0 hz1 hz2 rfl (by decide) _ _ _ rfl (HOW.out.alloc _) ⟨W.heap.size, 0, none⟩ 1 1 [.int .i64 (p : Int)] rfl rfl (cell_one_new _ _ _) (by intro u hu; simp at hu; subst hu; rfl) (by unfold maxLen; omega) (by omega) (by have := HBW.out.size; simp; omega) ?_; intro v1 w1 hown1 hgrow1 _; have HO := Lib.hid hown1; have HGR := Lib.hid hgrow1; clear hown1 hgrow1))
        go_roundw
        case rel =>
          refine ⟨k + 1, by omega, by go_num, ?_, ?_⟩
          · have h1 := HO.out
            have e : (parL s.data.toList).take (k + 1) = (parL s.data.toList).take k ++ [(p : Int)] := by
              rw [List.take_succ_eq_append_getElem (by rw [parL_len]; exact hkl), ← gi_eq, parL, gi_tab hkl, HPP.out]
            rw [e]
            unfold ints
            rw [List.map_append]
            exact h1
          · exact (HBW.out.alloc HBW.out.size _).grown HGR.out (by have := HBW.out.size; rw [World.size_alloc]; omega) (fun j hj => (HOW.out.lt j hj).1)
        case measure => simp [intOf]; omega
      · have hks : k = s.size := by omega
        have HK := Lib.hid hks; clear hks
        go_wp2_with (go_at_call 67; refine (specSided_any _ s hs HBB.out).mono ?_; rintro e w' ⟨rfl, q1, rfl⟩)
        go_ret2
        refine ⟨_, rfl, ?_, below_drewN hbl.out _⟩
        have h1 := ho.out
        rw [HK.out, List.take_of_length_le (by rw [parL_len, len_str]; exact Nat.le_refl _)] at h1
        have hl : (parL s.data.toList).length = s.size := (parL_len _).trans (len_str s)
        rw [← HE.out]
        unfold Own
        rw [hl]
        exact h1

end Go.Proofs.YtfdliekhlcbkcaaDoor

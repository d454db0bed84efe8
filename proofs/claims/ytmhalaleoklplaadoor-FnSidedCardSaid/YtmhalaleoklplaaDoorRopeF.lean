/-
  Ropes: made of a text, cut, turned back.
-/
import Derived.Test.YtmhalaleoklplaaDoorRope
import Derived.Deep.RegionHeld3
import Derived.Deep.RegionWith
namespace Go.Proofs.YtmhalaleoklplaaDoor
open Go.RowKit

theorem below_undrewR {B k : Nat} {w w' : World} (h : Below B (w.drewN k) w') : Below B w w' := ⟨h.os, h.tape, h.output, h.size, h.block⟩
theorem below_undrewN0 {B : Nat} {w w' : World} (h : Below B w.drew w') : Below B w w' := ⟨h.os, h.tape, h.output, h.size, h.block⟩
theorem take_data (s : ByteArray) (k : Nat) (h : k ≤ s.size) : (s.extract 0 k).data.toList = s.data.toList.take k ∧ (s.extract 0 k).size = k := by
  have e : (s.extract 0 k).data.toList = s.data.toList.take k := by simp [ByteArray.data_extract]
  refine ⟨e, ?_⟩
  have := congrArg List.length e
  simp at this
  simp; omega
theorem drop_data (s : ByteArray) (k : Nat) : (s.extract k s.size).data.toList = s.data.toList.drop k ∧ (s.extract k s.size).size = s.size - k := by
  have e : (s.extract k s.size).data.toList = s.data.toList.drop k := by
    have : s.data.size = s.size := rfl
    simp [ByteArray.data_extract, List.extract_eq_take_drop]
    exact List.take_of_length_le (by simp)
  exact ⟨e, by simp⟩

/-- Two ropes in a row of two. -/
theorem joined_two (v1 v2 : Value) (xs ys : List UInt8) (w : World) (hl : xs.length + ys.length ≤ 1048576) (h1 : PRope w w.heap.size v1 xs) (h2 : PRope w w.heap.size v2 ys) :
    Calls Tryd.prog 20 #[.slice (some ⟨w.heap.size, 0, none⟩) 2 2] (w.alloc (.cells #[v1, v2] 35)) fun e w' => ∃ v, e = .returned v ∧ PRope w' w'.heap.size v (xs ++ ys) ∧ Below w.heap.size w w' := by
  have hb : Below w.heap.size w (w.alloc (.cells #[v1, v2] 35)) := (Below.refl _ _).alloc (Nat.le_refl _) _
  refine (joined_any w.heap.size 2 2 [xs, ys] _ rfl (by omega) (by omega) (by simp; omega) (fun i hi => ?_)).mono ?_
  · match i, hi with
    | 0, _ => exact ⟨v1, by rw [cell_of_row _ _ 0 _ _ (0, 0) (heap_alloc_new w _)]; rfl, (h1.below hb).mono hb.size⟩
    | 1, _ => exact ⟨v2, by rw [cell_of_row _ _ 1 _ _ (0, 0) (heap_alloc_new w _)]; rfl, (h2.below hb).mono hb.size⟩
    | _ + 2, h => exact absurd h (by omega)
  · rintro e w' ⟨v, he, hp, hb'⟩
    refine ⟨v, he, by simpa using hp, hb.trans (hb'.mono hb.size)⟩

set_option maxRecDepth 100000 in
set_option maxHeartbeats 1600000 in
theorem ropeOf_any : ∀ (n : Nat) (s : ByteArray) (w : World), s.size = n → 1 ≤ n → n ≤ 1048576 →
    Calls Tryd.prog 18 #[.string s] w fun e w' => ∃ b, e = .returned (.pointer (some ⟨b, 0, none⟩)) ∧ Rope w' w'.heap.size b s.data.toList ∧ Below w.heap.size w w' := by
  intro n
  induction n using Nat.strongRecOn with
  | ind n ih =>
  intro s w hs h1 hn
  by_cases h : s.size = 1
  · have hd : ((s.size : Int) == 1) = true := by rw [h]; rfl
    have h0 : 0 < s.size := by omega
    have hl : s.data.toList = [s[0]] := by
      obtain ⟨a, ha⟩ := List.length_eq_one_iff.1 (show s.data.toList.length = 1 by rw [len_str]; exact h)
      have hg := gb_at s h0
      rw [ha] at hg ⊢
      rw [← hg]; rfl
    have HL := Lib.hid hl; clear hl ih hs
    go_enter Tryd.func18, Tryd.ntmps18
    go_wp2_with (go_at_call 32; refine (leaf_any _ _).mono ?_; rintro e w1 ⟨b, rfl, hr, hb⟩; have HR := Lib.hid hr; have HB := Lib.hid hb; clear hr hb)
    go_ret
    exact ⟨b, rfl, by rw [HL.out]; exact HR.out, HB.out⟩
  · have hd : ((s.size : Int) == 1) = false := by simp; omega
    obtain ⟨k, hk⟩ : ∃ k, s.size / 2 = k := ⟨_, rfl⟩
    have hk1 : 1 ≤ k ∧ k < s.size := by omega
    have hdv : (s.size : Int) / 2 = (k : Int) := by omega
    have hdv2 : (s.size : Int).tdiv 2 = (k : Int) := by rw [Int.tdiv_eq_ediv_of_nonneg (by omega)]; omega
    have t1 := take_data s k (by omega)
    have t2 := drop_data s k
    have R1 : Hid (∀ W, Calls Tryd.prog 18 #[.string (s.extract 0 k)] W fun e w' => ∃ b, e = .returned (.pointer (some ⟨b, 0, none⟩)) ∧ Rope w' w'.heap.size b (s.data.toList.take k) ∧ Below W.heap.size W w') := fun W => by
      have := ih k (by omega) (s.extract 0 k) W t1.2 hk1.1 (by omega)
      rwa [t1.1] at this
    have R2 : Hid (∀ W, Calls Tryd.prog 18 #[.string (s.extract k s.size)] W fun e w' => ∃ b, e = .returned (.pointer (some ⟨b, 0, none⟩)) ∧ Rope w' w'.heap.size b (s.data.toList.drop k) ∧ Below W.heap.size W w') := fun W => by
      have := ih (s.size - k) (by omega) (s.extract k s.size) W t2.2 (by omega) (by omega)
      rwa [t2.1] at this
    have HN := Lib.hid hs; have HK := Lib.hid hk
    have hs2 : s.size ≤ 1048576 := by omega
    clear t1 t2 ih hs hk
    obtain ⟨hk1, hk2⟩ := hk1
    go_enter Tryd.func18, Tryd.ntmps18
    go_wp2_with fail
    have HLEN : Hid ((s.data.toList.take k).length + (s.data.toList.drop k).length ≤ 1048576) := by
      rw [Hid, ← List.length_append, List.take_append_drop, len_str]; exact hs2
    go_region_with (first
      | (go_at_call 18; (with_reducible refine (R1.out _).mono ?_); rintro e wa ⟨b1, rfl, hr1, hb1⟩; have HR1 := Lib.hid hr1; have HB1 := Lib.hid hb1; clear hr1 hb1)
      | (go_at_call 18; (with_reducible refine (R2.out _).mono ?_); rintro e wb ⟨b2, rfl, hr2, hb2⟩; have HR2 := Lib.hid hr2; have HB2 := Lib.hid hb2; clear hr2 hb2)
      | (go_at_call 20; (first
          | refine (joined_two (.pointer (some ⟨b1, 0, none⟩)) (.pointer (some ⟨b2, 0, none⟩)) _ _ wb HLEN.out ((HR1.out.under HB2.out).mono HB2.out.size).p HR2.out.p).mono ?_
          | refine (joined_two (.pointer (some ⟨b1, 0, none⟩)) (.pointer (some ⟨b2, 0, none⟩)) _ _ wa HLEN.out HR1.out.p ((HR2.out.under HB1.out).mono HB1.out.size).p).mono ?_); rintro e wc ⟨v, rfl, hp, hb⟩; have HP := Lib.hid hp; have HBC := Lib.hid hb; clear hp hb))
    all_goals
      go_wp2_with fail
      go_ret
      have hp := HP.out
      rw [List.take_append_drop] at hp
      obtain ⟨b, rfl, hr⟩ := hp.get (fun e => by have h0 := len_str s; rw [e] at h0; simp at h0; omega)
      refine ⟨b, rfl, hr, ?_⟩
      first
        | exact (below_undrewN0 HB1.out).trans ((HB2.out.mono HB1.out.size).trans (HBC.out.mono (Nat.le_trans HB1.out.size HB2.out.size)))
        | exact (below_undrewN0 HB2.out).trans ((HB1.out.mono HB2.out.size).trans (HBC.out.mono (Nat.le_trans HB2.out.size HB1.out.size)))

end Go.Proofs.YtmhalaleoklplaaDoor

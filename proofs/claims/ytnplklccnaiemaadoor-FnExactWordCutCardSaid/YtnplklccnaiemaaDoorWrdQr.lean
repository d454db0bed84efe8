/-
  Words cut and glued anew: the program's walk.
-/
import Derived.Test.YtnplklccnaiemaaDoorWrdQ
import Derived.BigQuiet
namespace Go.Proofs.YtnplklccnaiemaaDoor
open Go.RowKit

set_option maxRecDepth 100000 in
set_option maxHeartbeats 3200000 in
theorem recut_any (s : ByteArray) (w : World) (i k m d : Nat) (sm : Bool) (hP : Parts s.data.toList i k m d) (hk : k < s.size) (hm : m < s.size) (h0 : 0 ≤ ltr (gb s.data.toList k))
    (hs : (sml (gb s.data.toList k) == sml (gb s.data.toList m)) = sm) (hb : (((s[k]).toNat : Int) == ((s[m]).toNat : Int)) = sm) (hp : par s.data.toList k = m) :
    Calls Tryd.prog 27 #[.string s, .int .i64 (i : Int), .int .i64 (k : Int), .int .i64 (m : Int)] w fun e w' => e = .returned (.string ⟨(cutW s.data.toList i k).toArray⟩) ∧ Below w.heap.size w w' := by
  have H := Lib.hid hP
  have HALL := Lib.hid (hP.all hs hp)
  have h10 := hP.l10
  rw [len_str] at h10
  have hmd : (m : Int) - (i : Int) = (d : Int) := by have := hP.d; omega
  have hdw : IntKind.i64.wrap (d : Int) = (d : Int) := IntWalk.i64_in _ (by have := hP.d; omega)
  have HL := Lib.hid hP.len
  have HG := Lib.hid (gb_at s hk)
  have HC1 := Lib.hid (fun W => large_any (gb s.data.toList k) W h0)
  have HC2 := Lib.hid (low_nmb _ h0)
  have hki := hP.ki
  have him := hP.im
  clear hP hs hp h0
  go_enter Tryd.func27, Tryd.ntmps27
  go_wp2_with fail
  refine (ropeOf_any s.size s _ rfl (by omega) (by omega)).mono ?_
  rintro e w1 ⟨b0, rfl, hr, hb1⟩
  have HR1 := Lib.hid hr; have HB1 := Lib.hid hb1; clear hr hb1
  go_wp2_with fail
  refine (cut_any HR1.out w1 ⟨fun _ _ => rfl, Nat.le_refl _⟩ HL.out.1 i HL.out.2.2.2.2.2.1).mono ?_
  rintro e w2 ⟨v1, v2, rfl, p1, p2, hb2⟩
  obtain ⟨f, rfl, hf⟩ := p1.get H.out.t1
  obtain ⟨g, rfl, hg⟩ := p2.get H.out.t2
  have HF := Lib.hid hf; have HG2 := Lib.hid hg; have HB2 := Lib.hid (HB1.out.trans (hb2.mono HB1.out.size)); clear hf hg p1 p2 hb2
  go_wp2_with fail
  refine (cut_any HF.out w2 ⟨fun _ _ => rfl, Nat.le_refl _⟩ HL.out.2.1 k HL.out.2.2.2.2.2.2.1).mono ?_
  rintro e w3 ⟨v1, v2, rfl, p1, p2, hb3⟩
  obtain ⟨a, rfl, pa⟩ := p1.ptr
  obtain ⟨bb, rfl, hbb⟩ := p2.get H.out.t3
  have HA3 := Lib.hid pa; have HBB3 := Lib.hid hbb; have HG3 := Lib.hid ((HG2.out.under hb3).mono hb3.size); have HB3 := Lib.hid (HB2.out.trans (hb3.mono HB2.out.size)); clear p1 p2 pa hbb hb3
  go_wp2_with fail
  refine (cut_any HBB3.out w3 ⟨fun _ _ => rfl, Nat.le_refl _⟩ HL.out.2.2.2.1 1 HL.out.2.2.2.2.2.2.2.1).mono ?_
  rintro e w4 ⟨v1, v2, rfl, p1, p2, hb4⟩
  obtain ⟨x1, rfl, -⟩ := p1.ptr
  obtain ⟨b, rfl, pb⟩ := p2.ptr
  have HBb4 := Lib.hid pb; have HA4 := Lib.hid ((HA3.out.below hb4).mono hb4.size); have HG4 := Lib.hid ((HG3.out.under hb4).mono hb4.size); have HB4 := Lib.hid (HB3.out.trans (hb4.mono HB3.out.size)); clear p1 p2 pb hb4
  go_wp2_with fail
  refine (cut_any HG4.out w4 ⟨fun _ _ => rfl, Nat.le_refl _⟩ HL.out.2.2.1 d HL.out.2.2.2.2.2.2.2.2.1).mono ?_
  rintro e w5 ⟨v1, v2, rfl, p1, p2, hb5⟩
  obtain ⟨c, rfl, pc⟩ := p1.ptr
  obtain ⟨dd, rfl, hdd⟩ := p2.get H.out.t4
  have HC5 := Lib.hid pc; have HD5 := Lib.hid hdd; have HBb5 := Lib.hid ((HBb4.out.below hb5).mono hb5.size); have HA5 := Lib.hid ((HA4.out.below hb5).mono hb5.size); have HB5 := Lib.hid (HB4.out.trans (hb5.mono HB4.out.size)); clear p1 p2 pc hdd hb5
  go_wp2_with fail
  refine (cut_any HD5.out w5 ⟨fun _ _ => rfl, Nat.le_refl _⟩ HL.out.2.2.2.2.1 1 HL.out.2.2.2.2.2.2.2.2.2).mono ?_
  rintro e w6 ⟨v1, v2, rfl, p1, p2, hb6⟩
  obtain ⟨x2, rfl, -⟩ := p1.ptr
  obtain ⟨d2, rfl, pd⟩ := p2.ptr
  have HD6 := Lib.hid pd; have HC6 := Lib.hid ((HC5.out.below hb6).mono hb6.size); have HBb6 := Lib.hid ((HBb5.out.below hb6).mono hb6.size); have HA6 := Lib.hid ((HA5.out.below hb6).mono hb6.size); have HB6 := Lib.hid (HB5.out.trans (hb6.mono HB5.out.size)); clear p1 p2 pd hb6
  go_wp2_with fail
  rw [← HG.out]
  refine (HC1.out _).mono ?_
  rintro e w7 ⟨rfl, rfl⟩
  go_wp2_with fail
  refine (leaf_any _ _).mono ?_
  rintro e w7 ⟨lf, rfl, hlf, hb7⟩
  have HLF := Lib.hid hlf; have HD7 := Lib.hid ((HD6.out.below hb7).mono hb7.size); have HC7 := Lib.hid ((HC6.out.below hb7).mono hb7.size); have HBb7 := Lib.hid ((HBb6.out.below hb7).mono hb7.size); have HA7 := Lib.hid ((HA6.out.below hb7).mono hb7.size); have HB7 := Lib.hid (HB6.out.trans (hb7.mono HB6.out.size)); clear hlf hb7
  go_wp2_with fail
  refine (joined_three (.pointer d2) (.pointer (some ⟨lf, 0, none⟩)) (.pointer c) _ _ _ w7 H.out.tailLen HD7.out HLF.out.p HC7.out).mono ?_
  rintro e w8 ⟨v, rfl, p, hb8⟩
  obtain ⟨q, rfl, hq⟩ := p.get (tailR_ne s.data.toList i k d)
  have HQ : Hid (Rope w8 w8.heap.size q (tailR s.data.toList i k d)) := hq
  have HBb8 := Lib.hid ((HBb7.out.below hb8).mono hb8.size); have HA8 := Lib.hid ((HA7.out.below hb8).mono hb8.size); have HB8 := Lib.hid (HB7.out.trans (hb8.mono HB7.out.size)); clear p hq hb8
  have HTL := Lib.hid (H.out.tail_len)
  cases sm with
  | true =>
    go_wp2_with fail
    go_quiet (fail)
    go_wp2_with fail
    refine (back_any HQ.out (w8.drewN nq) ⟨fun _ _ => rfl, Nat.le_refl _⟩ (Nat.le_trans HTL.out (by omega))).mono ?_
    rintro e w9 ⟨q2, rfl, hq, hb9⟩
    have HQ2 : Hid (Rope w9 w9.heap.size q2 (tailS s.data.toList i k d true)) := hq
    have hb9' := below_undrewR hb9
    have HBb9 := Lib.hid ((HBb8.out.below hb9').mono hb9'.size); have HA9 := Lib.hid ((HA8.out.below hb9').mono hb9'.size); have HB9 := Lib.hid (HB8.out.trans (hb9'.mono HB8.out.size)); clear hq hb9 hb9'
    go_wp2_with fail
    rw [← HG.out]
    refine (small_any _ _).mono ?_
    rintro e w10 ⟨rfl, rfl⟩
    rw [HC2.out]
    go_wp2_with fail
    refine (leaf_any _ _).mono ?_
    rintro e w10 ⟨lf2, rfl, hlf, hb7⟩
    have HLF2 := Lib.hid hlf; have HQ3 := Lib.hid ((HQ2.out.under hb7).mono hb7.size); have HBb10 := Lib.hid ((HBb9.out.below hb7).mono hb7.size); have HA10 := Lib.hid ((HA9.out.below hb7).mono hb7.size); have HB10 := Lib.hid (HB9.out.trans (hb7.mono HB9.out.size)); clear hlf hb7
    go_wp2_with fail
    refine (joined_four (.pointer b) (.pointer (some ⟨lf2, 0, none⟩)) (.pointer a) (.pointer (some ⟨q2, 0, none⟩)) _ _ _ _ w10 (H.out.whole true) HBb10.out HLF2.out.p HA10.out HQ3.out.p).mono ?_
    rintro e w11 ⟨v, rfl, p, hb8⟩
    rw [HALL.out] at p
    obtain ⟨q3, rfl, hq⟩ := p.get (by rw [← HALL.out]; simp)
    have HQ4 := Lib.hid hq; have HB11 := Lib.hid (HB10.out.trans (hb8.mono HB10.out.size)); clear p hq hb8
    go_wp2_with fail
    refine (text_any _ q3 _ HQ4.out (by rw [← HALL.out]; have := H.out.whole true; simp only [List.length_append] at this ⊢; omega)).mono ?_
    rintro e w12 ⟨rfl, hb⟩
    have HB12 := Lib.hid (HB11.out.trans (hb.mono HB11.out.size)); clear hb
    go_wp2_with fail
    go_ret
    exact ⟨rfl, HB12.out⟩
  | false =>
    go_wp2_with fail
    go_quiet (fail)
    go_wp2_with fail
    rw [← HG.out]
    refine (small_any _ _).mono ?_
    rintro e w10 ⟨rfl, rfl⟩
    rw [HC2.out]
    go_wp2_with fail
    refine (leaf_any _ _).mono ?_
    rintro e w10 ⟨lf2, rfl, hlf, hb7'⟩
    have hb7 := below_undrewR hb7'
    have HLF2 := Lib.hid hlf; have HQ3 : Hid (Rope w10 w10.heap.size q (tailS s.data.toList i k d false)) := (HQ.out.under hb7).mono hb7.size; have HBb10 := Lib.hid ((HBb8.out.below hb7).mono hb7.size); have HA10 := Lib.hid ((HA8.out.below hb7).mono hb7.size); have HB10 := Lib.hid (HB8.out.trans (hb7.mono HB8.out.size)); clear hlf hb7 hb7'
    go_wp2_with fail
    refine (joined_four (.pointer b) (.pointer (some ⟨lf2, 0, none⟩)) (.pointer a) (.pointer (some ⟨q, 0, none⟩)) _ _ _ _ w10 (H.out.whole false) HBb10.out HLF2.out.p HA10.out HQ3.out.p).mono ?_
    rintro e w11 ⟨v, rfl, p, hb8⟩
    rw [HALL.out] at p
    obtain ⟨q3, rfl, hq⟩ := p.get (by rw [← HALL.out]; simp)
    have HQ4 := Lib.hid hq; have HB11 := Lib.hid (HB10.out.trans (hb8.mono HB10.out.size)); clear p hq hb8
    go_wp2_with fail
    refine (text_any _ q3 _ HQ4.out (by rw [← HALL.out]; have := H.out.whole false; simp only [List.length_append] at this ⊢; omega)).mono ?_
    rintro e w12 ⟨rfl, hb⟩
    have HB12 := Lib.hid (HB11.out.trans (hb.mono HB11.out.size)); clear hb
    go_wp2_with fail
    go_ret
    exact ⟨rfl, HB12.out⟩

end Go.Proofs.YtnplklccnaiemaaDoor

/-
  Words cut and glued anew: the program's.
  Words cut and glued anew: the program's walk.
  Words cut and glued anew: the program's answer.
  Words cut and glued anew: the model's answer.
-/
import Derived.Test.YtfdliekhlcbkcaaDoorWrdR
import Derived.Test.YtfdliekhlcbkcaaDoorWrdP
import Derived.BigQuiet
import Derived.Test.YtfdliekhlcbkcaaDoorValid
namespace Go.Proofs.YtfdliekhlcbkcaaDoor
open Go.RowKit

theorem large_all : ∀ n, n < 256 → 0 ≤ ltr (UInt8.ofNat n) → bits .andNot .u8 ((UInt8.ofNat n).toNat : Int) 32 = ((nmb (ltr (UInt8.ofNat n)).toNat false).toNat : Int) := by decide +kernel
theorem large_eq (c : UInt8) (h : 0 ≤ ltr c) : bits .andNot .u8 (c.toNat : Int) 32 = ((nmb (ltr c).toNat false).toNat : Int) := by
  have := large_all c.toNat (by have := c.toNat_lt; omega)
  rw [show UInt8.ofNat c.toNat = c from by simp] at this
  exact this h
theorem low_nmb_all : ∀ n, n < 256 → 0 ≤ ltr (UInt8.ofNat n) → low (UInt8.ofNat n) = nmb (ltr (UInt8.ofNat n)).toNat true := by decide +kernel
theorem low_nmb (c : UInt8) (h : 0 ≤ ltr c) : low c = nmb (ltr c).toNat true := by
  have := low_nmb_all c.toNat (by have := c.toNat_lt; omega)
  rw [show UInt8.ofNat c.toNat = c from by simp] at this
  exact this h
theorem large_any (c : UInt8) (w : World) (h : 0 ≤ ltr c) :
    Calls Tryd.prog 104 #[.int .u8 (c.toNat : Int)] w fun e w' => e = .returned (.int .u8 ((nmb (ltr c).toNat false).toNat : Int)) ∧ w = w' := by
  have E := Lib.hid (large_eq c h)
  clear h
  go_enter Tryd.func104, Tryd.ntmps104
  go_wp2
  go_ret
  exact ⟨ret_intE E.out, rfl⟩

theorem PRope.ptr {w : World} {B : Nat} {v : Value} {l : List UInt8} (h : PRope w B v l) : ∃ p, v = .pointer p ∧ PRope w B (.pointer p) l := by
  rcases h with h | ⟨h, b, e, hr⟩
  · exact ⟨none, h.2, .inl ⟨h.1, rfl⟩⟩
  · exact ⟨_, e, .inr ⟨h, b, rfl, hr⟩⟩

/-- Three ropes in a row, four ropes in a row. -/
theorem joined_three (v1 v2 v3 : Value) (xs ys zs : List UInt8) (w : World) (hl : xs.length + ys.length + zs.length ≤ 1048576) (h1 : PRope w w.heap.size v1 xs) (h2 : PRope w w.heap.size v2 ys) (h3 : PRope w w.heap.size v3 zs) :
    Calls Tryd.prog 54 #[.slice (some ⟨w.heap.size, 0, none⟩) 3 3] (w.alloc (.cells #[v1, v2, v3] 55)) fun e w' => ∃ v, e = .returned v ∧ PRope w' w'.heap.size v (xs ++ (ys ++ zs)) ∧ Below w.heap.size w w' := by
  have hb : Below w.heap.size w (w.alloc (.cells #[v1, v2, v3] 55)) := (Below.refl _ _).alloc (Nat.le_refl _) _
  refine (joined_any w.heap.size 3 3 [xs, ys, zs] _ rfl (by omega) (by omega) (by simp; omega) (fun i hi => ?_)).mono ?_
  · match i, hi with
    | 0, _ => exact ⟨v1, by rw [cell_of_row _ _ 0 _ _ (0, 0) (heap_alloc_new w _)]; rfl, (h1.below hb).mono hb.size⟩
    | 1, _ => exact ⟨v2, by rw [cell_of_row _ _ 1 _ _ (0, 0) (heap_alloc_new w _)]; rfl, (h2.below hb).mono hb.size⟩
    | 2, _ => exact ⟨v3, by rw [cell_of_row _ _ 2 _ _ (0, 0) (heap_alloc_new w _)]; rfl, (h3.below hb).mono hb.size⟩
    | _ + 3, h => exact absurd h (by omega)
  · rintro e w' ⟨v, he, hp, hb'⟩
    refine ⟨v, he, by simpa using hp, hb.trans (hb'.mono hb.size)⟩
theorem joined_four (v1 v2 v3 v4 : Value) (xs ys zs us : List UInt8) (w : World) (hl : xs.length + ys.length + zs.length + us.length ≤ 1048576) (h1 : PRope w w.heap.size v1 xs) (h2 : PRope w w.heap.size v2 ys) (h3 : PRope w w.heap.size v3 zs) (h4 : PRope w w.heap.size v4 us) :
    Calls Tryd.prog 54 #[.slice (some ⟨w.heap.size, 0, none⟩) 4 4] (w.alloc (.cells #[v1, v2, v3, v4] 55)) fun e w' => ∃ v, e = .returned v ∧ PRope w' w'.heap.size v (xs ++ (ys ++ (zs ++ us))) ∧ Below w.heap.size w w' := by
  have hb : Below w.heap.size w (w.alloc (.cells #[v1, v2, v3, v4] 55)) := (Below.refl _ _).alloc (Nat.le_refl _) _
  refine (joined_any w.heap.size 4 4 [xs, ys, zs, us] _ rfl (by omega) (by omega) (by simp; omega) (fun i hi => ?_)).mono ?_
  · match i, hi with
    | 0, _ => exact ⟨v1, by rw [cell_of_row _ _ 0 _ _ (0, 0) (heap_alloc_new w _)]; rfl, (h1.below hb).mono hb.size⟩
    | 1, _ => exact ⟨v2, by rw [cell_of_row _ _ 1 _ _ (0, 0) (heap_alloc_new w _)]; rfl, (h2.below hb).mono hb.size⟩
    | 2, _ => exact ⟨v3, by rw [cell_of_row _ _ 2 _ _ (0, 0) (heap_alloc_new w _)]; rfl, (h3.below hb).mono hb.size⟩
    | 3, _ => exact ⟨v4, by rw [cell_of_row _ _ 3 _ _ (0, 0) (heap_alloc_new w _)]; rfl, (h4.below hb).mono hb.size⟩
    | _ + 4, h => exact absurd h (by omega)
  · rintro e w' ⟨v, he, hp, hb'⟩
    refine ⟨v, he, by simpa using hp, hb.trans (hb'.mono hb.size)⟩

/-- The parts of a word that is cut. -/
structure Parts (l : List UInt8) (i k m d : Nat) : Prop where
  ki : k < i
  im : i ≤ m
  ml : m < l.length
  l10 : l.length ≤ 10
  d : m = i + d
theorem ne_nil_of {l : List UInt8} (h : 0 < l.length) : l ≠ [] := List.length_pos_iff.1 h
theorem Parts.t1 {l : List UInt8} {i k m d : Nat} (h : Parts l i k m d) : l.take i ≠ [] := ne_nil_of (by have := h.ki; have := h.im; have := h.ml; rw [List.length_take]; omega)
theorem Parts.t2 {l : List UInt8} {i k m d : Nat} (h : Parts l i k m d) : l.drop i ≠ [] := ne_nil_of (by have := h.im; have := h.ml; rw [List.length_drop]; omega)
theorem Parts.t3 {l : List UInt8} {i k m d : Nat} (h : Parts l i k m d) : (l.take i).drop k ≠ [] := ne_nil_of (by have := h.ki; have := h.im; have := h.ml; rw [List.length_drop, List.length_take]; omega)
theorem Parts.t4 {l : List UInt8} {i k m d : Nat} (h : Parts l i k m d) : (l.drop i).drop d ≠ [] := ne_nil_of (by have := h.d; have := h.ml; rw [List.length_drop, List.length_drop]; omega)
theorem Parts.len {l : List UInt8} {i k m d : Nat} (h : Parts l i k m d) : l.length ≤ 1048576 ∧ (l.take i).length ≤ 1048576 ∧ (l.drop i).length ≤ 1048576 ∧ ((l.take i).drop k).length ≤ 1048576 ∧ ((l.drop i).drop d).length ≤ 1048576 ∧ i ≤ l.length ∧ k ≤ (l.take i).length ∧ 1 ≤ ((l.take i).drop k).length ∧ d ≤ (l.drop i).length ∧ 1 ≤ ((l.drop i).drop d).length := by
  have := h.ki; have := h.im; have := h.ml; have := h.l10; have := h.d
  simp only [List.length_drop, List.length_take]
  omega
/-- What is glued to the first part. -/
def tailR (l : List UInt8) (i k d : Nat) : List UInt8 := ((l.drop i).drop d).drop 1 ++ ([nmb (ltr (gb l k)).toNat false] ++ (l.drop i).take d)
theorem Parts.tailLen {l : List UInt8} {i k m d : Nat} (h : Parts l i k m d) : (((l.drop i).drop d).drop 1).length + ([nmb (ltr (gb l k)).toNat false] : List UInt8).length + ((l.drop i).take d).length ≤ 1048576 := by
  have := h.ki; have := h.im; have := h.ml; have := h.l10; have := h.d
  simp only [List.length_drop, List.length_take, List.length_cons, List.length_nil]
  omega
theorem Parts.tail_len {l : List UInt8} {i k m d : Nat} (h : Parts l i k m d) : (tailR l i k d).length ≤ 10 := by
  have := h.ki; have := h.im; have := h.ml; have := h.l10; have := h.d
  rw [tailR]
  simp only [List.length_append, List.length_drop, List.length_take, List.length_cons, List.length_nil]
  omega
theorem tailR_ne (l : List UInt8) (i k d : Nat) : tailR l i k d ≠ [] := by
  apply ne_nil_of
  rw [tailR]
  simp only [List.length_append, List.length_cons, List.length_nil]
  omega
def tailS (l : List UInt8) (i k d : Nat) (sm : Bool) : List UInt8 := if sm then backW (tailR l i k d) else tailR l i k d
theorem tailS_ne (l : List UInt8) (i k d : Nat) (sm : Bool) : tailS l i k d sm ≠ [] := by
  have := tailR_ne l i k d
  unfold tailS
  split
  · intro e
    have := congrArg List.length e
    rw [backW_len] at this
    simp at this
    contradiction
  · exact this
theorem Parts.tailS_len {l : List UInt8} {i k m d : Nat} (h : Parts l i k m d) (sm : Bool) : (tailS l i k d sm).length ≤ 10 := by
  have := h.tail_len
  unfold tailS
  split
  · rw [backW_len]; exact this
  · exact this
theorem Parts.whole {l : List UInt8} {i k m d : Nat} (h : Parts l i k m d) (sm : Bool) : (((l.take i).drop k).drop 1).length + ([nmb (ltr (gb l k)).toNat true] : List UInt8).length + ((l.take i).take k).length + (tailS l i k d sm).length ≤ 1048576 := by
  have := h.ki; have := h.im; have := h.ml; have := h.l10; have := h.tailS_len sm
  simp only [List.length_drop, List.length_take, List.length_cons, List.length_nil]
  omega
theorem Parts.all {l : List UInt8} {i k m d : Nat} (h : Parts l i k m d) {sm : Bool} (hs : (sml (gb l k) == sml (gb l m)) = sm) (hp : par l k = m) :
    ((l.take i).drop k).drop 1 ++ ([nmb (ltr (gb l k)).toNat true] ++ ((l.take i).take k ++ tailS l i k d sm)) = cutW l i k := by
  have hki := h.ki; have hd := h.d
  have e1 : (l.take i).take k = l.take k := by rw [List.take_take, Nat.min_eq_left (by omega)]
  have e2 : ((l.drop i).drop d).drop 1 = l.drop (m + 1) := by rw [List.drop_drop, List.drop_drop]; congr 1; omega
  have e3 : (l.take m).drop i = (l.drop i).take d := by rw [List.drop_take]; congr 1; omega
  rw [cutW, hp, restW, hs, e1, List.drop_drop, tailS, tailR, e2, e3]
  simp only [List.append_assoc]

end Go.Proofs.YtfdliekhlcbkcaaDoor

namespace Go.Proofs.YtfdliekhlcbkcaaDoor
open Go.RowKit

set_option maxRecDepth 100000 in
set_option maxHeartbeats 3200000 in
theorem recut_any (s : ByteArray) (w : World) (i k m d : Nat) (sm : Bool) (hP : Parts s.data.toList i k m d) (hk : k < s.size) (hm : m < s.size) (h0 : 0 ≤ ltr (gb s.data.toList k))
    (hs : (sml (gb s.data.toList k) == sml (gb s.data.toList m)) = sm) (hb : (((s[k]).toNat : Int) == ((s[m]).toNat : Int)) = sm) (hp : par s.data.toList k = m) :
    Calls Tryd.prog 74 #[.string s, .int .i64 (i : Int), .int .i64 (k : Int), .int .i64 (m : Int)] w fun e w' => e = .returned (.string ⟨(cutW s.data.toList i k).toArray⟩) ∧ Below w.heap.size w w' := by
  have H := Lib.hid hP
  have HALL := Lib.hid (hP.all hs hp)
  have h10 := hP.l10
  rw [len_str] at h10
  have hmd : (m : Int) - (i : Int) = (d : Int) := by have := hP.d; omega
  have hdw : IntKind.i64.wrap (d : Int) = (d : Int) := IntWalk.i64_in _ (by have := hP.d; omega)
  have HL := Lib.hid hP.len
  have HG := Lib.hid (gb_at s hk)
  have HC1 := Lib.hid (fun W => large_any (gb s.data.toList k) W h0)
  have HC2 := Lib.hid (low_nmb _ h0)
  have hki := hP.ki
  have him := hP.im
  clear hP hs hp h0
  go_enter Tryd.func74, Tryd.ntmps74
  go_wp2_with fail
  refine (ropeOf_any s.size s _ rfl (by omega) (by omega)).mono ?_
  rintro e w1 ⟨b0, rfl, hr, hb1⟩
  have HR1 := Lib.hid hr; have HB1 := Lib.hid hb1; clear hr hb1
  go_wp2_with fail
  refine (cut_any HR1.out w1 ⟨fun _ _ => rfl, Nat.le_refl _⟩ HL.out.1 i HL.out.2.2.2.2.2.1).mono ?_
  rintro e w2 ⟨v1, v2, rfl, p1, p2, hb2⟩
  obtain ⟨f, rfl, hf⟩ := p1.get H.out.t1
  obtain ⟨g, rfl, hg⟩ := p2.get H.out.t2
  have HF := Lib.hid hf; have HG2 := Lib.hid hg; have HB2 := Lib.hid (HB1.out.trans (hb2.mono HB1.out.size)); clear hf hg p1 p2 hb2
  go_wp2_with fail
  refine (cut_any HF.out w2 ⟨fun _ _ => rfl, Nat.le_refl _⟩ HL.out.2.1 k HL.out.2.2.2.2.2.2.1).mono ?_
  rintro e w3 ⟨v1, v2, rfl, p1, p2, hb3⟩
  obtain ⟨a, rfl, pa⟩ := p1.ptr
  obtain ⟨bb, rfl, hbb⟩ := p2.get H.out.t3
  have HA3 := Lib.hid pa; have HBB3 := Lib.hid hbb; have HG3 := Lib.hid ((HG2.out.under hb3).mono hb3.size); have HB3 := Lib.hid (HB2.out.trans (hb3.mono HB2.out.size)); clear p1 p2 pa hbb hb3
  go_wp2_with fail
  refine (cut_any HBB3.out w3 ⟨fun _ _ => rfl, Nat.le_refl _⟩ HL.out.2.2.2.1 1 HL.out.2.2.2.2.2.2.2.1).mono ?_
  rintro e w4 ⟨v1, v2, rfl, p1, p2, hb4⟩
  obtain ⟨x1, rfl, -⟩ := p1.ptr
  obtain ⟨b, rfl, pb⟩ := p2.ptr
  have HBb4 := Lib.hid pb; have HA4 := Lib.hid ((HA3.out.below hb4).mono hb4.size); have HG4 := Lib.hid ((HG3.out.under hb4).mono hb4.size); have HB4 := Lib.hid (HB3.out.trans (hb4.mono HB3.out.size)); clear p1 p2 pb hb4
  go_wp2_with fail
  refine (cut_any HG4.out w4 ⟨fun _ _ => rfl, Nat.le_refl _⟩ HL.out.2.2.1 d HL.out.2.2.2.2.2.2.2.2.1).mono ?_
  rintro e w5 ⟨v1, v2, rfl, p1, p2, hb5⟩
  obtain ⟨c, rfl, pc⟩ := p1.ptr
  obtain ⟨dd, rfl, hdd⟩ := p2.get H.out.t4
  have HC5 := Lib.hid pc; have HD5 := Lib.hid hdd; have HBb5 := Lib.hid ((HBb4.out.below hb5).mono hb5.size); have HA5 := Lib.hid ((HA4.out.below hb5).mono hb5.size); have HB5 := Lib.hid (HB4.out.trans (hb5.mono HB4.out.size)); clear p1 p2 pc hdd hb5
  go_wp2_with fail
  refine (cut_any HD5.out w5 ⟨fun _ _ => rfl, Nat.le_refl _⟩ HL.out.2.2.2.2.1 1 HL.out.2.2.2.2.2.2.2.2.2).mono ?_
  rintro e w6 ⟨v1, v2, rfl, p1, p2, hb6⟩
  obtain ⟨x2, rfl, -⟩ := p1.ptr
  obtain ⟨d2, rfl, pd⟩ := p2.ptr
  have HD6 := Lib.hid pd; have HC6 := Lib.hid ((HC5.out.below hb6).mono hb6.size); have HBb6 := Lib.hid ((HBb5.out.below hb6).mono hb6.size); have HA6 := Lib.hid ((HA5.out.below hb6).mono hb6.size); have HB6 := Lib.hid (HB5.out.trans (hb6.mono HB5.out.size)); clear p1 p2 pd hb6
  go_wp2_with fail
  rw [← HG.out]
  refine (HC1.out _).mono ?_
  rintro e w7 ⟨rfl, rfl⟩
  go_wp2_with fail
  refine (leaf_any _ _).mono ?_
  rintro e w7 ⟨lf, rfl, hlf, hb7⟩
  have HLF := Lib.hid hlf; have HD7 := Lib.hid ((HD6.out.below hb7).mono hb7.size); have HC7 := Lib.hid ((HC6.out.below hb7).mono hb7.size); have HBb7 := Lib.hid ((HBb6.out.below hb7).mono hb7.size); have HA7 := Lib.hid ((HA6.out.below hb7).mono hb7.size); have HB7 := Lib.hid (HB6.out.trans (hb7.mono HB6.out.size)); clear hlf hb7
  go_wp2_with fail
  refine (joined_three (.pointer d2) (.pointer (some ⟨lf, 0, none⟩)) (.pointer c) _ _ _ w7 H.out.tailLen HD7.out HLF.out.p HC7.out).mono ?_
  rintro e w8 ⟨v, rfl, p, hb8⟩
  obtain ⟨q, rfl, hq⟩ := p.get (tailR_ne s.data.toList i k d)
  have HQ : Hid (Rope w8 w8.heap.size q (tailR s.data.toList i k d)) := hq
  have HBb8 := Lib.hid ((HBb7.out.below hb8).mono hb8.size); have HA8 := Lib.hid ((HA7.out.below hb8).mono hb8.size); have HB8 := Lib.hid (HB7.out.trans (hb8.mono HB7.out.size)); clear p hq hb8
  have HTL := Lib.hid (H.out.tail_len)
  cases sm with
  | true =>
    go_wp2_with fail
    go_quiet (fail)
    go_wp2_with fail
    refine (ropeBack_any HQ.out (w8.drewN nq) ⟨fun _ _ => rfl, Nat.le_refl _⟩ (Nat.le_trans HTL.out (by omega))).mono ?_
    rintro e w9 ⟨q2, rfl, hq, hb9⟩
    have HQ2 : Hid (Rope w9 w9.heap.size q2 (tailS s.data.toList i k d true)) := hq
    have hb9' := below_undrewR hb9
    have HBb9 := Lib.hid ((HBb8.out.below hb9').mono hb9'.size); have HA9 := Lib.hid ((HA8.out.below hb9').mono hb9'.size); have HB9 := Lib.hid (HB8.out.trans (hb9'.mono HB8.out.size)); clear hq hb9 hb9'
    go_wp2_with fail
    rw [← HG.out]
    refine (small_any _ _).mono ?_
    rintro e w10 ⟨rfl, rfl⟩
    rw [HC2.out]
    go_wp2_with fail
    refine (leaf_any _ _).mono ?_
    rintro e w10 ⟨lf2, rfl, hlf, hb7⟩
    have HLF2 := Lib.hid hlf; have HQ3 := Lib.hid ((HQ2.out.under hb7).mono hb7.size); have HBb10 := Lib.hid ((HBb9.out.below hb7).mono hb7.size); have HA10 := Lib.hid ((HA9.out.below hb7).mono hb7.size); have HB10 := Lib.hid (HB9.out.trans (hb7.mono HB9.out.size)); clear hlf hb7
    go_wp2_with fail
    refine (joined_four (.pointer b) (.pointer (some ⟨lf2, 0, none⟩)) (.pointer a) (.pointer (some ⟨q2, 0, none⟩)) _ _ _ _ w10 (H.out.whole true) HBb10.out HLF2.out.p HA10.out HQ3.out.p).mono ?_
    rintro e w11 ⟨v, rfl, p, hb8⟩
    rw [HALL.out] at p
    obtain ⟨q3, rfl, hq⟩ := p.get (by rw [← HALL.out]; simp)
    have HQ4 := Lib.hid hq; have HB11 := Lib.hid (HB10.out.trans (hb8.mono HB10.out.size)); clear p hq hb8
    go_wp2_with fail
    refine (text_any _ q3 _ HQ4.out (by rw [← HALL.out]; have := H.out.whole true; simp only [List.length_append] at this ⊢; omega)).mono ?_
    rintro e w12 ⟨rfl, hb⟩
    have HB12 := Lib.hid (HB11.out.trans (hb.mono HB11.out.size)); clear hb
    go_wp2_with fail
    go_ret
    exact ⟨rfl, HB12.out⟩
  | false =>
    go_wp2_with fail
    go_quiet (fail)
    go_wp2_with fail
    rw [← HG.out]
    refine (small_any _ _).mono ?_
    rintro e w10 ⟨rfl, rfl⟩
    rw [HC2.out]
    go_wp2_with fail
    refine (leaf_any _ _).mono ?_
    rintro e w10 ⟨lf2, rfl, hlf, hb7'⟩
    have hb7 := below_undrewR hb7'
    have HLF2 := Lib.hid hlf; have HQ3 : Hid (Rope w10 w10.heap.size q (tailS s.data.toList i k d false)) := (HQ.out.under hb7).mono hb7.size; have HBb10 := Lib.hid ((HBb8.out.below hb7).mono hb7.size); have HA10 := Lib.hid ((HA8.out.below hb7).mono hb7.size); have HB10 := Lib.hid (HB8.out.trans (hb7.mono HB8.out.size)); clear hlf hb7 hb7'
    go_wp2_with fail
    refine (joined_four (.pointer b) (.pointer (some ⟨lf2, 0, none⟩)) (.pointer a) (.pointer (some ⟨q, 0, none⟩)) _ _ _ _ w10 (H.out.whole false) HBb10.out HLF2.out.p HA10.out HQ3.out.p).mono ?_
    rintro e w11 ⟨v, rfl, p, hb8⟩
    rw [HALL.out] at p
    obtain ⟨q3, rfl, hq⟩ := p.get (by rw [← HALL.out]; simp)
    have HQ4 := Lib.hid hq; have HB11 := Lib.hid (HB10.out.trans (hb8.mono HB10.out.size)); clear p hq hb8
    go_wp2_with fail
    refine (text_any _ q3 _ HQ4.out (by rw [← HALL.out]; have := H.out.whole false; simp only [List.length_append] at this ⊢; omega)).mono ?_
    rintro e w12 ⟨rfl, hb⟩
    have HB12 := Lib.hid (HB11.out.trans (hb.mono HB11.out.size)); clear hb
    go_wp2_with fail
    go_ret
    exact ⟨rfl, HB12.out⟩

end Go.Proofs.YtfdliekhlcbkcaaDoor

namespace Go.Proofs.YtfdliekhlcbkcaaDoor
open Go.RowKit

theorem byte_eqC {l : List UInt8} (h : Word l) {i : Nat} (hi : i < l.length) : (((gb l i).toNat : Int) == ((gb l (par l i)).toNat : Int)) = (sml (gb l i) == sml (gb l (par l i))) := by
  have hle := (h.isPar hi).eq
  have h0 := (h.ok i hi).1
  by_cases es : sml (gb l i) = sml (gb l (par l i))
  · rw [ltr_eq hle.symm es h0]; simp
  · have e1 : (sml (gb l i) == sml (gb l (par l i))) = false := by simpa using es
    rw [e1, beq_eq_false_iff_ne]
    intro e
    exact es (by rw [UInt8.toNat_inj.1 (show (gb l i).toNat = (gb l (par l i)).toNat by omega)])
theorem cutWR_yes {l : List UInt8} {i k : Int} (h : cutOk l i k = true) : cutWR l i k = (true, cutW l i.toNat k.toNat) := by rw [cutWR, h]; rfl
theorem cutWR_no {l : List UInt8} {i k : Int} (h : cutOk l i k = false) : cutWR l i k = (false, []) := by rw [cutWR, h]; rfl
theorem cutOk_word {l : List UInt8} {i k : Int} (h : wordB l = false) : cutOk l i k = false := by rw [cutOk, h]; rfl
theorem cutOk_at {l : List UInt8} {i k : Int} (h : ¬ (1 ≤ i ∧ i ≤ (l.length : Int) - 1 ∧ 0 ≤ k ∧ k ≤ i - 1)) : cutOk l i k = false := by
  rw [Bool.eq_false_iff]
  intro e
  simp only [cutOk, Bool.and_eq_true, decide_eq_true_eq] at e
  exact h ⟨e.1.1.2.1, e.1.1.2.2, e.1.2.1, e.1.2.2⟩
theorem cutOk_par {l : List UInt8} {i k : Nat} (h : ¬ i ≤ par l k) : cutOk l i k = false := by
  rw [Bool.eq_false_iff]
  intro e
  simp only [cutOk, Bool.and_eq_true, decide_eq_true_eq, Int.toNat_natCast] at e
  omega
theorem cutOk_yes {l : List UInt8} {i k : Nat} (hw : wordB l = true) (h1 : 1 ≤ i) (h2 : i < l.length) (h3 : k < i) (h : i ≤ par l k) : cutOk l i k = true := by
  simp only [cutOk, hw, Bool.and_eq_true, decide_eq_true_eq, Int.toNat_natCast, Bool.true_and]
  omega

set_option maxRecDepth 100000 in
set_option maxHeartbeats 1600000 in
theorem impl_cutWR (w : World) (s : ByteArray) (hs : s.size ≤ 1048576) (i : Int) (_hwi : (Lit.int .i64 i).wf = true) (k : Int) (_hwk : (Lit.int .i64 k).wf = true) {ok : Bool} {r : List UInt8} (hR : cutWR s.data.toList i k = (ok, r)) :
    Calls Tryd.prog 37 #[.string s, .int .i64 i, .int .i64 k] w fun e w' => e = .returned (.tuple #[.string ⟨r.toArray⟩, .bool ok]) ∧ Below w.heap.size w w' := by
  by_cases ha : wordB s.data.toList = true
  · have HA : Hid (wordB s.data.toList = true) := ha
    have hw := wordB_iff.1 ha
    have hlen := hw.len
    rw [len_str] at hlen
    by_cases hin : 1 ≤ i ∧ i ≤ (s.data.toList.length : Int) - 1 ∧ 0 ≤ k ∧ k ≤ i - 1
    · rw [len_str] at hin
      obtain ⟨h1, h2, h3, h4⟩ := hin
      obtain ⟨i, rfl⟩ := Int.eq_ofNat_of_zero_le (show 0 ≤ i by omega)
      obtain ⟨k, rfl⟩ := Int.eq_ofNat_of_zero_le h3
      have hks : k < s.size := by omega
      have hkl : k < s.data.toList.length := by rw [len_str]; exact hks
      obtain ⟨m, hm⟩ : ∃ m, par s.data.toList k = m := ⟨_, rfl⟩
      have hml := (hw.isPar hkl).lt
      rw [hm, len_str] at hml
      have HM := Lib.hid hm
      have HW := Lib.hid hw
      have HKL := Lib.hid hkl


      by_cases him : i ≤ m
      · have h := (cutWR_yes (cutOk_yes (i := i) (k := k) ha (by omega) (by rw [len_str]; omega) (by omega) (by rw [hm]; exact him))).symm.trans hR
        simp only [Prod.mk.injEq, Int.toNat_natCast] at h
        obtain ⟨rfl, e⟩ := h
        have HE := Lib.hid e
        have hP : Hid (Parts s.data.toList i k m (m - i)) := ⟨by omega, him, by rw [len_str]; exact hml, by rw [len_str]; omega, by omega⟩
        have h0 := Lib.hid (hw.ok k hkl).1
        have hb := byte_eqC hw hkl
        rw [hm] at hb
        have HC := Lib.hid (fun W => recut_any s W i k m (m - i) _ hP.out hks hml h0.out rfl (by rw [← gb_at s hks, ← gb_at s hml]; exact hb) hm)
        clear hR ha e hw hm hb hkl
        go_enter Tryd.func37, Tryd.ntmps37
        go_wp2_with fail
        refine (implWord_any s _ hs HA.out).mono ?_
        rintro e w1 ⟨rfl, b1⟩
        have HB1 := Lib.hid b1; clear b1
        go_wp2_with fail
        refine (partners_any s _ HW.out).mono ?_
        rintro e w2 ⟨v, rfl, o, b⟩
        have hpl : (parL s.data.toList).length = s.size := (parL_len _).trans (len_str s)
        obtain ⟨Ap, cp, rfl, -, -⟩ := o.form' hpl
        obtain ⟨gp, rfl, hgp, hc, -⟩ := o.cellAt hpl (k := k) (by omega)
        rw [parL, gi_tab HKL.out, HM.out] at hc
        have HB2 := Lib.hid (HB1.out.trans (b.mono HB1.out.size)); clear b hpl o
        go_wp2_with fail
        refine (HC.out _).mono ?_
        rintro e w3 ⟨rfl, b⟩
        have HB3 := Lib.hid (HB2.out.trans (b.mono HB2.out.size)); clear b
        go_wp2_with fail
        go_ret2
        obtain rfl : cutW s.data.toList i k = r := HE.out
        exact ⟨rfl, HB3.out⟩
      · have h := (cutWR_no (cutOk_par (i := i) (k := k) (by rw [hm]; exact him))).symm.trans hR
        simp only [Prod.mk.injEq] at h
        obtain ⟨rfl, rfl⟩ := h
        clear hR ha hw hm hkl
        go_enter Tryd.func37, Tryd.ntmps37
        go_wp2_with fail
        refine (implWord_any s _ hs HA.out).mono ?_
        rintro e w1 ⟨rfl, b1⟩
        have HB1 := Lib.hid b1; clear b1
        go_wp2_with fail
        refine (partners_any s _ HW.out).mono ?_
        rintro e w2 ⟨v, rfl, o, b⟩
        have hpl : (parL s.data.toList).length = s.size := (parL_len _).trans (len_str s)
        obtain ⟨Ap, cp, rfl, -, -⟩ := o.form' hpl
        obtain ⟨gp, rfl, hgp, hc, -⟩ := o.cellAt hpl (k := k) (by omega)
        rw [parL, gi_tab HKL.out, HM.out] at hc
        have HB2 := Lib.hid (HB1.out.trans (b.mono HB1.out.size)); clear b hpl o
        go_wp2_with fail
        go_ret2
        exact ⟨rfl, HB2.out⟩
    · have h := (cutWR_no (cutOk_at hin)).symm.trans hR
      rw [len_str] at hin
      simp only [Prod.mk.injEq] at h
      obtain ⟨rfl, rfl⟩ := h
      clear hR ha hw
      have hbad : i < 1 ∨ (1 ≤ i ∧ (s.size : Int) ≤ i) ∨ (1 ≤ i ∧ i < s.size ∧ k < 0) ∨ (1 ≤ i ∧ i < s.size ∧ 0 ≤ k ∧ i ≤ k) := by omega
      clear hin
      rcases hbad with h | ⟨h, h'⟩ | ⟨h, h', h''⟩ | ⟨h, h', h'', h3⟩
      all_goals
        go_enter Tryd.func37, Tryd.ntmps37
        go_wp2_with fail
        refine (implWord_any s _ hs HA.out).mono ?_
        rintro e w1 ⟨rfl, b1⟩
        have HB1 := Lib.hid b1; clear b1
        go_wp2_with fail
        go_ret2
        exact ⟨rfl, HB1.out⟩
  · have ha' : wordB s.data.toList = false := by simpa using ha
    have HA : Hid (wordB s.data.toList = false) := ha'
    have h := (cutWR_no (cutOk_word (i := i) (k := k) ha')).symm.trans hR
    simp only [Prod.mk.injEq] at h
    obtain ⟨rfl, rfl⟩ := h
    clear hR ha ha'
    go_enter Tryd.func37, Tryd.ntmps37
    go_wp2_with fail
    refine (implWord_any s _ hs HA.out).mono ?_
    rintro e w1 ⟨rfl, b1⟩
    have HB1 := Lib.hid b1; clear b1
    go_wp2_with fail
    go_ret2
    exact ⟨rfl, HB1.out⟩

end Go.Proofs.YtfdliekhlcbkcaaDoor

namespace Go.Proofs.YtfdliekhlcbkcaaDoor
open Go.RowKit

theorem below_undrewU {B k : Nat} {w w' : World} (h : Below B (w.drewN k) w') : Below B w w' := ⟨h.os, h.tape, h.output, h.size, h.block⟩
/-- The parts of the text of a word that is cut. -/
structure Texts (s : ByteArray) (i k m x k1 m1 : Nat) : Prop where
  a : (s.extract k1 i).size ≤ 10
  b : (s.extract 0 k).size ≤ 10
  c : (s.extract m1 s.size).size ≤ 10
  d : (s.extract i m).size ≤ 10
  f : (s.extract k1 i ++ ⟨#[nmb x true]⟩ ++ s.extract 0 k).data.toList = (s.data.toList.take i).drop (k + 1) ++ [nmb x true] ++ s.data.toList.take k
  r : (s.extract m1 s.size ++ ⟨#[nmb x false]⟩ ++ s.extract i m).data.toList = s.data.toList.drop (m + 1) ++ [nmb x false] ++ (s.data.toList.take m).drop i
  fs : (s.extract k1 i ++ ⟨#[nmb x true]⟩ ++ s.extract 0 k).size ≤ 100
  rs : (s.extract m1 s.size ++ ⟨#[nmb x false]⟩ ++ s.extract i m).size ≤ 100
theorem ext_data (s : ByteArray) (a b : Nat) : (s.extract a b).data.toList = (s.data.toList.take b).drop a := by
  simp [ByteArray.data_extract, List.extract_eq_take_drop, List.drop_take]
theorem size_of_len {s : ByteArray} {n : Nat} (h : s.data.toList.length ≤ n) : s.size ≤ n := by rwa [len_str] at h
theorem Texts.mk' {s : ByteArray} {i k m x k1 m1 : Nat} (h10 : s.size ≤ 10) (h1 : k1 = k + 1) (h2 : m1 = m + 1) : Texts s i k m x k1 m1 := by
  subst h1; subst h2
  have hl := len_str s
  have e3 : (s.extract (m + 1) s.size).data.toList = s.data.toList.drop (m + 1) := (drop_data s _).1
  have f1 : (s.extract (k + 1) i ++ ⟨#[nmb x true]⟩ ++ s.extract 0 k).data.toList = (s.data.toList.take i).drop (k + 1) ++ [nmb x true] ++ s.data.toList.take k := by
    rw [str_app, str_app, ext_data, ext_data, List.drop_zero]
  have r1 : (s.extract (m + 1) s.size ++ ⟨#[nmb x false]⟩ ++ s.extract i m).data.toList = s.data.toList.drop (m + 1) ++ [nmb x false] ++ (s.data.toList.take m).drop i := by
    rw [str_app, str_app, ext_data s i m, e3]
  refine ⟨?_, ?_, ?_, ?_, f1, r1, ?_, ?_⟩
  · apply size_of_len; rw [ext_data, List.length_drop, List.length_take]; omega
  · apply size_of_len; rw [ext_data, List.length_drop, List.length_take]; omega
  · apply size_of_len; rw [e3, List.length_drop]; omega
  · apply size_of_len; rw [ext_data, List.length_drop, List.length_take]; omega
  · apply size_of_len; rw [f1]; simp only [List.length_append, List.length_drop, List.length_take, List.length_cons, List.length_nil]; omega
  · apply size_of_len; rw [r1]; simp only [List.length_append, List.length_drop, List.length_take, List.length_cons, List.length_nil]; omega
theorem rest_letters {l : List UInt8} (h : Word l) {i m x : Nat} (hx : x < 5) : ∀ c, c ∈ l.drop (m + 1) ++ [nmb x false] ++ (l.take m).drop i → 0 ≤ ltr c := by
  intro c hc
  simp only [List.mem_append, List.mem_cons, List.not_mem_nil, or_false] at hc
  rcases hc with (hc | hc) | hc
  · exact (h.mem (List.mem_of_mem_drop hc)).1
  · rw [hc, (ltr_nmb x hx false).1]; omega
  · exact (h.mem (List.mem_of_mem_take (List.mem_of_mem_drop hc))).1

set_option maxRecDepth 100000 in
set_option maxHeartbeats 3200000 in
theorem spec_cutWR (w : World) (s : ByteArray) (hs : s.size ≤ 1048576) (i : Int) (_hwi : (Lit.int .i64 i).wf = true) (k : Int) (_hwk : (Lit.int .i64 k).wf = true) {ok : Bool} {r : List UInt8} (hR : cutWR s.data.toList i k = (ok, r)) :
    Calls Tryd.prog 38 #[.string s, .int .i64 i, .int .i64 k] w fun e w' => e = .returned (.tuple #[.string ⟨r.toArray⟩, .bool ok]) ∧ Below w.heap.size w w' := by
  by_cases ha : wordB s.data.toList = true
  · have HA : Hid (wordB s.data.toList = true) := ha
    have hw := wordB_iff.1 ha
    have hlen := hw.len
    rw [len_str] at hlen
    by_cases hin : 1 ≤ i ∧ i ≤ (s.data.toList.length : Int) - 1 ∧ 0 ≤ k ∧ k ≤ i - 1
    · rw [len_str] at hin
      obtain ⟨h1, h2, h3, h4⟩ := hin
      obtain ⟨i, rfl⟩ := Int.eq_ofNat_of_zero_le (show 0 ≤ i by omega)
      obtain ⟨k, rfl⟩ := Int.eq_ofNat_of_zero_le h3
      have hks : k < s.size := by omega
      have hkl : k < s.data.toList.length := by rw [len_str]; exact hks
      obtain ⟨m, hm⟩ : ∃ m, par s.data.toList k = m := ⟨_, rfl⟩
      have hml := (hw.isPar hkl).lt
      rw [hm, len_str] at hml
      have HM := Lib.hid hm
      have E1 : Hid (inB (i : Int) 1 ((s.size : Int) - 1) = true) := inB_true h1 h2
      have E2 : Hid (inB (k : Int) 0 ((i : Int) - 1) = true) := inB_true h3 h4
      have hks2 : (k : Int) < (s.size : Int) := by omega
      have hms2 : (m : Int) < (s.size : Int) := by omega
      have HP1 := Lib.hid (fun W => l8Partner_any s k W hs hks)
      by_cases him : i ≤ m
      · have h := (cutWR_yes (cutOk_yes (i := i) (k := k) ha (by omega) (by rw [len_str]; omega) (by omega) (by rw [hm]; exact him))).symm.trans hR
        simp only [Prod.mk.injEq, Int.toNat_natCast] at h
        obtain ⟨rfl, e⟩ := h
        obtain ⟨x, hx⟩ := Int.eq_ofNat_of_zero_le (hw.ok k hkl).1
        have hx5 : x < 5 := by have := (ltr_range (gb s.data.toList k)).2; omega
        have hx32 : x < 32 := by omega
        have HX : Hid (ltr (s[k]'hks) = (x : Int)) := by rw [Hid, ← gb_at s hks]; exact hx
        obtain ⟨k1, hk1⟩ : ∃ k1, k1 = k + 1 := ⟨_, rfl⟩
        obtain ⟨m1, hm1⟩ : ∃ m1, m1 = m + 1 := ⟨_, rfl⟩
        have T := Lib.hid (Texts.mk' (s := s) (i := i) (k := k) (m := m) (x := x) (by omega) hk1 hm1)
        have hk1i : (k : Int) + 1 = (k1 : Int) := by omega
        have hm1i : (m : Int) + 1 = (m1 : Int) := by omega
        have hk1w : IntKind.i64.wrap (k1 : Int) = (k1 : Int) := IntWalk.i64_in _ (by omega)
        have hm1w : IntKind.i64.wrap (m1 : Int) = (m1 : Int) := IntWalk.i64_in _ (by omega)
        have hk1b : k1 ≤ 1048576 := by omega
        have hm1b : m1 ≤ 1048576 := by omega
        have hki : k1 ≤ i := by omega
        have his : i ≤ s.size := by omega
        have hms : m1 ≤ s.size := by omega
        have c1 : ∀ W : World, (Op.stringOp .add (s.extract k1 i) ⟨#[nmb x true]⟩).run Tryd.prog W = .ok (.string (s.extract k1 i ++ ⟨#[nmb x true]⟩)) W := fun W => run_string_add_sum W _ _ (by have := T.out.a; show (s.extract k1 i).size + 1 ≤ 9223372036854775807; omega)
        have c2 : ∀ W : World, (Op.stringOp .add (s.extract k1 i ++ ⟨#[nmb x true]⟩) (s.extract 0 k)).run Tryd.prog W = .ok (.string (s.extract k1 i ++ ⟨#[nmb x true]⟩ ++ s.extract 0 k)) W := fun W => run_string_add_sum W _ _ (by have := T.out.fs; rw [ByteArray.size_append] at this; omega)
        have c3 : ∀ W : World, (Op.stringOp .add (s.extract m1 s.size) ⟨#[nmb x false]⟩).run Tryd.prog W = .ok (.string (s.extract m1 s.size ++ ⟨#[nmb x false]⟩)) W := fun W => run_string_add_sum W _ _ (by have := T.out.c; show (s.extract m1 s.size).size + 1 ≤ 9223372036854775807; omega)
        have c4 : ∀ W : World, (Op.stringOp .add (s.extract m1 s.size ++ ⟨#[nmb x false]⟩) (s.extract i m)).run Tryd.prog W = .ok (.string (s.extract m1 s.size ++ ⟨#[nmb x false]⟩ ++ s.extract i m)) W := fun W => run_string_add_sum W _ _ (by have := T.out.rs; rw [ByteArray.size_append] at this; omega)
        have HLET := Lib.hid (rest_letters hw (i := i) (m := m) hx5)
        rw [← T.out.r] at HLET
        obtain ⟨sm, hsm⟩ : ∃ sm, (sml (gb s.data.toList k) == sml (gb s.data.toList m)) = sm := ⟨_, rfl⟩
        have HSM : Hid ((sml (s[k]'hks) == sml (s[m]'hml)) = sm) := by rw [Hid, ← gb_at s hks, ← gb_at s hml]; exact hsm
        have HE : Hid (r = (s.extract k1 i ++ ⟨#[nmb x true]⟩ ++ s.extract 0 k).data.toList ++ (if sm then backW (s.extract m1 s.size ++ ⟨#[nmb x false]⟩ ++ s.extract i m).data.toList else (s.extract m1 s.size ++ ⟨#[nmb x false]⟩ ++ s.extract i m).data.toList)) := by
          rw [Hid, ← e, T.out.f, T.out.r, cutW, hm, restW, hx, hsm]; rfl
        clear hR ha e hw hm hkl hx h1 h2 h3 h4 hsm hk1 hm1
        go_enter Tryd.func38, Tryd.ntmps38
        go_wp2_with fail
        refine (specWord_any s _ hs HA.out).mono ?_
        rintro e w1 ⟨rfl, q1, rfl⟩
        go_wp2_with fail
        refine (l6In_any _ _ _ _).mono ?_
        rintro e w1 ⟨rfl, rfl⟩
        rw [E1.out]
        go_wp2_with fail
        refine (l6In_any _ _ _ _).mono ?_
        rintro e w1 ⟨rfl, rfl⟩
        rw [E2.out]
        go_wp2_with fail
        refine (HP1.out _).mono ?_
        rintro e w1 ⟨rfl, q2, rfl⟩
        rw [HM.out]
        go_wp2_with fail
        refine (HP1.out _).mono ?_
        rintro e w1 ⟨rfl, q3, rfl⟩
        rw [HM.out]
        go_wp2_with fail
        refine (l8Letter_any _ _).mono ?_
        rintro e w1 ⟨rfl, rfl⟩
        rw [HX.out]
        go_wp2_with fail
        refine (l8Name_any x true _ hx32).mono ?_
        rintro e w1 ⟨rfl, b⟩
        have HB1 := Lib.hid (below_undrewU b); clear b
        go_wp2_with fail
        go_region_with (go_at_call 70; (with_reducible refine (l8Name_any x false _ hx32).mono ?_); rintro e w2 ⟨rfl, b⟩; have HB2 := Lib.hid (below_undrewU b); clear b)
        all_goals
          have HB3 := Lib.hid (HB1.out.trans (HB2.out.mono HB1.out.size))
          go_wp2_with fail
          go_quiet ((go_at_call 78; exact (l8Small_any _ _).mono fun e w' h => ⟨h.1, _, h.2.symm⟩))
          rw [HSM.out]
          cases sm with
          | true =>
            go_wp2_with fail
            refine (l8Back_any _ _ (Nat.le_trans T.out.rs (by omega)) HLET.out).mono ?_
            rintro e w4 ⟨rfl, b⟩
            have HB4 := Lib.hid (HB3.out.trans ((below_undrewU b).mono HB3.out.size)); clear b
            obtain ⟨Q, hQ⟩ : ∃ Q : ByteArray, (⟨(backW (s.extract m1 s.size ++ ⟨#[nmb x false]⟩ ++ s.extract i m).data.toList).toArray⟩ : ByteArray) = Q := ⟨_, rfl⟩
            have hQ2 : Q.data.toList = backW (s.extract m1 s.size ++ ⟨#[nmb x false]⟩ ++ s.extract i m).data.toList := by rw [← hQ]
            have HQ2 := Lib.hid hQ2
            have c5 : ∀ W : World, (Op.stringOp .add (s.extract k1 i ++ ⟨#[nmb x true]⟩ ++ s.extract 0 k) Q).run Tryd.prog W = .ok (.string (s.extract k1 i ++ ⟨#[nmb x true]⟩ ++ s.extract 0 k ++ Q)) W := fun W => run_string_add_sum W _ _ (by
              have := T.out.fs
              have h2 := T.out.rs
              have h3 : Q.size = (s.extract m1 s.size ++ ⟨#[nmb x false]⟩ ++ s.extract i m).size := by
                rw [← len_str, ← len_str, hQ2]
                exact backW_len _
              rw [h3]; omega)
            rw [hQ]
            clear hQ hQ2
            go_wp2_with fail
            go_ret2
            refine ⟨?_, HB4.out⟩
            have e1 : (s.extract k1 i ++ ⟨#[nmb x true]⟩ ++ s.extract 0 k ++ Q) = ⟨r.toArray⟩ := str_mk (by rw [HE.out, if_pos trivial, str_app, HQ2.out])
            rw [← e1]
            rfl
          | false =>
            have c5 : ∀ W : World, (Op.stringOp .add (s.extract k1 i ++ ⟨#[nmb x true]⟩ ++ s.extract 0 k) (s.extract m1 s.size ++ ⟨#[nmb x false]⟩ ++ s.extract i m)).run Tryd.prog W = .ok (.string (s.extract k1 i ++ ⟨#[nmb x true]⟩ ++ s.extract 0 k ++ (s.extract m1 s.size ++ ⟨#[nmb x false]⟩ ++ s.extract i m))) W := fun W => run_string_add_sum W _ _ (by have := T.out.fs; have h2 := T.out.rs; omega)
            go_wp2_with fail
            go_ret2
            refine ⟨?_, below_drewN HB3.out _⟩
            have e1 : (s.extract k1 i ++ ⟨#[nmb x true]⟩ ++ s.extract 0 k ++ (s.extract m1 s.size ++ ⟨#[nmb x false]⟩ ++ s.extract i m)) = ⟨r.toArray⟩ := str_mk (by rw [HE.out, if_neg (by simp), str_app])
            rw [← e1]
            rfl
      · have h := (cutWR_no (cutOk_par (i := i) (k := k) (by rw [hm]; exact him))).symm.trans hR
        simp only [Prod.mk.injEq] at h
        obtain ⟨rfl, rfl⟩ := h
        have his : i ≤ s.size := by omega
        clear hR ha hw hm hkl h1 h2 h3 h4
        go_enter Tryd.func38, Tryd.ntmps38
        go_wp2_with fail
        refine (specWord_any s _ hs HA.out).mono ?_
        rintro e w1 ⟨rfl, q1, rfl⟩
        go_wp2_with fail
        refine (l6In_any _ _ _ _).mono ?_
        rintro e w1 ⟨rfl, rfl⟩
        rw [E1.out]
        go_wp2_with fail
        refine (l6In_any _ _ _ _).mono ?_
        rintro e w1 ⟨rfl, rfl⟩
        rw [E2.out]
        go_wp2_with fail
        refine (HP1.out _).mono ?_
        rintro e w1 ⟨rfl, q2, rfl⟩
        rw [HM.out]
        go_wp2_with fail
        go_ret2
        exact ⟨rfl, below_drewN (Below.refl _ _) _⟩
    · have h := (cutWR_no (cutOk_at hin)).symm.trans hR
      rw [len_str] at hin
      simp only [Prod.mk.injEq] at h
      obtain ⟨rfl, rfl⟩ := h
      clear hR ha hw
      by_cases h1 : 1 ≤ i ∧ i ≤ (s.size : Int) - 1
      · have E1 : Hid (inB i 1 ((s.size : Int) - 1) = true) := inB_true h1.1 h1.2
        have E2 : Hid (inB k 0 (i - 1) = false) := inB_false (by omega)
        obtain ⟨h1, h2⟩ := h1
        obtain ⟨i, rfl⟩ := Int.eq_ofNat_of_zero_le (show 0 ≤ i by omega)
        have his : i ≤ s.size := by omega
        clear hin
        go_enter Tryd.func38, Tryd.ntmps38
        go_wp2_with fail
        refine (specWord_any s _ hs HA.out).mono ?_
        rintro e w1 ⟨rfl, q1, rfl⟩
        go_wp2_with fail
        refine (l6In_any _ _ _ _).mono ?_
        rintro e w1 ⟨rfl, rfl⟩
        rw [E1.out]
        go_wp2_with fail
        refine (l6In_any _ _ _ _).mono ?_
        rintro e w1 ⟨rfl, rfl⟩
        rw [E2.out]
        go_wp2_with fail
        go_ret2
        exact ⟨rfl, below_drewN (Below.refl _ _) _⟩
      · have E1 : Hid (inB i 1 ((s.size : Int) - 1) = false) := inB_false h1
        clear hin h1
        go_enter Tryd.func38, Tryd.ntmps38
        go_wp2_with fail
        refine (specWord_any s _ hs HA.out).mono ?_
        rintro e w1 ⟨rfl, q1, rfl⟩
        go_wp2_with fail
        refine (l6In_any _ _ _ _).mono ?_
        rintro e w1 ⟨rfl, rfl⟩
        rw [E1.out]
        go_wp2_with fail
        go_ret2
        exact ⟨rfl, below_drewN (Below.refl _ _) _⟩
  · have ha' : wordB s.data.toList = false := by simpa using ha
    have HA : Hid (wordB s.data.toList = false) := ha'
    have h := (cutWR_no (cutOk_word (i := i) (k := k) ha')).symm.trans hR
    simp only [Prod.mk.injEq] at h
    obtain ⟨rfl, rfl⟩ := h
    clear hR ha ha'
    go_enter Tryd.func38, Tryd.ntmps38
    go_wp2_with fail
    refine (specWord_any s _ hs HA.out).mono ?_
    rintro e w1 ⟨rfl, q1, rfl⟩
    go_wp2_with fail
    go_ret2
    exact ⟨rfl, below_drewN (Below.refl _ _) _⟩

end Go.Proofs.YtfdliekhlcbkcaaDoor

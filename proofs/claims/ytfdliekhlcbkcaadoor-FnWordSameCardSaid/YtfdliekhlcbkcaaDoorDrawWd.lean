/-
  The draws of words: a text of at most twelve bytes.
-/
import Derived.Test.YtfdliekhlcbkcaaDoorDrawC
import Derived.Test.YtfdliekhlcbkcaaDoorWrdR
import Derived.BigQuiet
namespace Go.Proofs.YtfdliekhlcbkcaaDoor
open Go.RowKit

theorem pick5 (a b c d e : ByteArray) (B : Nat) (ha : a.size ≤ B) (hb : b.size ≤ B) (hc : c.size ≤ B) (hd : d.size ≤ B) (he : e.size ≤ B) (j : Nat) : (if j = 0 then a else if j = 1 then b else if j = 2 then c else if j = 3 then d else e).size ≤ B := by
  split
  · exact ha
  · split
    · exact hb
    · split
      · exact hc
      · split
        · exact hd
        · exact he
/-! One of some texts. -/
set_option maxHeartbeats 800000 in
theorem of_any (w : World) (rb q g n c : Nat) (ss : Nat → ByteArray) (hr : Reads w rb q) (hq : q ≤ 1000000) (hn : 1 ≤ n) (hn2 : n ≤ 1000) (hg : g ≠ rb) (hs : ∀ i, i < n → w.cell? ⟨g, i, none⟩ = some (.string (ss i))) :
    Calls Tryd.prog 85 #[.pointer (some ⟨rb, 0, none⟩), .slice (some ⟨g, 0, none⟩) n c] w fun e w' => ∃ x : Nat, x < n ∧ e = .returned (.string (ss x)) ∧ Reads w' rb (q + 1) ∧ Gr rb w w' := by
  have HR := Lib.hid hr; have HS := Lib.hid hs; clear hr hs
  have hn3 : (n : Int) ≤ 1000000 := by omega
  have hn4 : (1 : Int) ≤ (n : Int) := by omega
  go_enter Tryd.func85, Tryd.ntmps85
  go_wp2_with fail
  refine (pick_reads w rb q HR.out hq n hn4 hn3).mono ?_
  rintro e w1 ⟨x, rfl, hx, r1, g1⟩
  have hx2 : x < n := by omega
  have hc := HS.out x hx2
  have hc1 : w1.cell? ⟨g, x, none⟩ = some (.string (ss x)) := (World.cell?_of_block (g1.block _ (World.block_lt_of_cell? w _ hc) (fun e => hg (Option.some.inj e)))).trans hc
  have HR1 := Lib.hid r1; have HG1 : Hid (Gr rb w w1) := g1
  clear r1 g1 hc
  go_wp2_with fail
  go_ret
  exact ⟨x, hx2, rfl, HR1.out, HG1.out⟩

theorem below_undrewD {B k : Nat} {w w' : World} (h : Below B (w.drewN k) w') : Below B w w' := ⟨h.os, h.tape, h.output, h.size, h.block⟩
theorem Gr.drewN {rb : Nat} {a b : World} (h : Gr rb a b) (k : Nat) : Gr rb a (b.drewN k) := ⟨h.os, h.tape, h.output, h.size, h.block⟩
theorem Reads.drewN {w : World} {rb q : Nat} (h : Reads w rb q) (k : Nat) : Reads (w.drewN k) rb q := h
theorem one_at (c : UInt8) (h : 0 < ByteArray.size ⟨#[c]⟩) : (⟨#[c]⟩ : ByteArray)[0] = c := rfl
theorem ext_size (s : ByteArray) (a b : Nat) (h : b ≤ s.size) : (s.extract a b).size = b - a := by
  rw [ByteArray.size_extract, Nat.min_eq_left h]
theorem addD (a b : ByteArray) (ha : a.size ≤ 1000) (hb : b.size ≤ 1000) : ∀ W : World, (Op.stringOp .add a b).run Tryd.prog W = .ok (.string (a ++ b)) W := fun W => run_string_add_sum W _ _ (by omega)
theorem name_draw (n : Nat) (b : Bool) (w : World) (hn : n < 5) :
    Calls Tryd.prog 70 #[.int .i64 (n : Int), .bool b] w fun e w' => ∃ c : UInt8, e = .returned (.string ⟨#[c]⟩) ∧ 0 ≤ ltr c ∧ Below w.heap.size w w' :=
  (l8Name_any n b w (by omega)).mono fun _ _ ⟨he, hb⟩ => ⟨_, he, by rw [(ltr_nmb n hn b).1]; omega, hb⟩
theorem other_draw (c : UInt8) (w : World) (h : 0 ≤ ltr c) :
    Calls Tryd.prog 84 #[.int .u8 (c.toNat : Int)] w fun e w' => ∃ d : UInt8, e = .returned (.string ⟨#[d]⟩) ∧ Below w.heap.size w w' :=
  (l8Other_any c w h).mono fun _ _ ⟨he, hb⟩ => ⟨_, he, hb⟩
/-- A text put into another one. -/
def put (s a : ByteArray) (k : Nat) : ByteArray := s.extract 0 k ++ a ++ s.extract k s.size
theorem put_size {s a : ByteArray} {k : Nat} (h : k ≤ s.size) : (put s a k).size = s.size + a.size := by
  unfold put
  rw [ByteArray.size_append, ByteArray.size_append, ext_size _ _ _ h, ext_size _ _ _ (Nat.le_refl _)]
  omega

set_option maxRecDepth 100000 in
set_option maxHeartbeats 3200000 in
theorem word_draw (w : World) (rb q most : Nat) (hr : Reads w rb q) (hq : q ≤ 900000) (hm0 : 1 ≤ most) (hm : most ≤ 5) :
    Calls Tryd.prog 47 #[.pointer (some ⟨rb, 0, none⟩), .int .i64 most] w fun e w' => ∃ (t : ByteArray) (q' : Nat), e = .returned (.string t) ∧ t.size ≤ 12 ∧ Reads w' rb q' ∧ q' ≤ q + 100 ∧ Gr rb w w' := by
  have HR := Lib.hid hr; have hrb := hr.lt; clear hr
  have hm1 : (1 : Int) ≤ (most : Int) := by omega
  have hm2 : (most : Int) ≤ 1000000 := by omega
  go_enter Tryd.func47, Tryd.ntmps47
  go_wp2_with fail
  refine (pick_reads w rb q HR.out (by omega) most hm1 hm2).mono ?_
  rintro e w1 ⟨x, rfl, hx, r1, g1⟩
  have HR1 := Lib.hid r1; have HG1 : Hid (Gr rb w w1) := g1; clear r1 g1
  have hx5 : x < 5 := by omega
  obtain ⟨m, hm⟩ : ∃ m, m = x + 1 := ⟨_, rfl⟩
  have hxm : 1 + (x : Int) = (m : Int) := by omega
  have hm5 : m ≤ 5 := by omega
  clear hm hx
  go_wp2_with fail
  refine (pick_reads w1 rb _ HR1.out (by omega) 2 (by omega) (by omega)).mono ?_
  rintro e w2 ⟨y, rfl, -, r1, g1⟩
  have HR2 := Lib.hid r1; have HG2 : Hid (Gr rb w w2) := HG1.out.trans g1; clear r1 g1
  go_wp2_with fail
  obtain ⟨sd, hsd⟩ : ∃ sd, ((y : Int) == 0) = sd := ⟨_, rfl⟩
  rw [hsd]
  clear hsd
  go_loopw [5, 8, 9, 10, 11] (fun sv iv _ _ _ wr => ∃ (i q' : Nat) (s : ByteArray), i ≤ m ∧ iv = .int .i64 i ∧ sv = .string s ∧ s.size = 2 * i ∧ Hid (Reads wr rb q') ∧ q' ≤ q + 2 + 4 * i ∧ Hid (Gr rb w wr)) (fun _ iv _ _ _ _ => m - (intOf iv).toNat)
  case atStart => exact ⟨0, _, _, Nat.zero_le _, rfl, rfl, rfl, HR2.out, by omega, HG2.out⟩
  case round =>
    clear HR HR1 HG1 HR2 HG2
    obtain ⟨i, q', s, hi, rfl, rfl, hsz, hr, hq', hg⟩ := hrel
    have HSZ := Lib.hid hsz
    have hs10 : s.size ≤ 10 := by omega
    clear hsz
    by_cases hlt : i < m
    · have hi5 : i < 5 := by omega
      go_wp2_with fail
      refine (pick_reads wr rb _ hr.out (by omega) 2 (by omega) (by omega)).mono ?_
      rintro e w3 ⟨y1, rfl, -, r1, g1⟩
      have HR3 := Lib.hid r1; have HG3 : Hid (Gr rb w w3) := hg.out.trans g1; clear r1 g1
      go_wp2_with fail
      refine (name_draw i _ w3 hi5).mono ?_
      rintro e w4 ⟨ca, rfl, hca, b1⟩
      have HR4 := Lib.hid (HR3.out.below (b1.mono HR3.out.lt)); have HG4 := Lib.hid (HG3.out.of_below b1); have HCA := Lib.hid hca; clear b1 hca
      go_wp2_with fail
      refine (pick_reads w4 rb _ HR4.out (by omega) 2 (by omega) (by omega)).mono ?_
      rintro e w5 ⟨y2, rfl, -, r1, g1⟩
      have HR5 := Lib.hid r1; have HG5 : Hid (Gr rb w w5) := HG4.out.trans g1; clear r1 g1
      go_wp2_with fail
      refine (name_draw i _ w5 hi5).mono ?_
      rintro e w6 ⟨cb, rfl, -, b1⟩
      have HR6 := Lib.hid (HR5.out.below (b1.mono HR5.out.lt)); have HG6 := Lib.hid (HG5.out.of_below b1); clear b1
      cases sd with
      | true =>
          go_wp2_with fail
          refine (other_draw ca w6 HCA.out).mono ?_
          rintro e w7 ⟨cb, rfl, b1⟩
          have HR7 := Lib.hid (HR6.out.below (b1.mono HR6.out.lt)); have HG7 := Lib.hid (HG6.out.of_below b1); clear b1
          go_wp2_with fail
          refine (pick_reads w7 rb _ HR7.out (by omega) ((s.size : Int) + 1) (by omega) (by omega)).mono ?_
          rintro e w8 ⟨k, rfl, hk, r1, g1⟩
          have HR8 := Lib.hid r1; have HG8 : Hid (Gr rb w w8) := HG7.out.trans g1; clear r1 g1
          have hks : k ≤ s.size := by omega
          have hks2 : (k : Int) ≤ (s.size : Int) := by omega
          clear hk
          have c1 := addD (s.extract 0 k) ⟨#[ca]⟩ (by rw [ext_size _ _ _ hks]; omega) (by show 1 ≤ 1000; omega)
          have c2 := addD (s.extract 0 k ++ ⟨#[ca]⟩) (s.extract k s.size) (by rw [ByteArray.size_append, ext_size _ _ _ hks]; show k - 0 + 1 ≤ 1000; omega) (by rw [ext_size _ _ _ (Nat.le_refl _)]; omega)
          obtain ⟨s1, hs1⟩ : ∃ s1, s.extract 0 k ++ ⟨#[ca]⟩ ++ s.extract k s.size = s1 := ⟨_, rfl⟩
          have HS1 : Hid (s1.size = 2 * i + 1) := by
            rw [Hid, ← hs1]
            have := put_size (a := ⟨#[ca]⟩) hks
            rw [HSZ.out] at this
            exact this
          have h1b : s1.size ≤ 11 := by rw [HS1.out]; omega
          rw [hs1] at c2
          clear hs1
          go_wp2_with fail
          go_quiet (fail)
          go_wp2_with fail
          refine (pick_reads (w8.drewN nq) rb _ HR8.out (by omega) ((s1.size : Int) + 1) (by omega) (by omega)).mono ?_
          rintro e w9 ⟨k2, rfl, hk, r1, g1⟩
          have HR9 := Lib.hid r1; have HG9 : Hid (Gr rb w w9) := (HG8.out.drewN _).trans g1; clear r1 g1
          have hk1 : k2 ≤ s1.size := by omega
          have hk2 : (k2 : Int) ≤ (s1.size : Int) := by omega
          clear hk c1 c2
          have c1 := addD (s1.extract 0 k2) ⟨#[cb]⟩ (by rw [ext_size _ _ _ hk1]; omega) (by show 1 ≤ 1000; omega)
          have c2 := addD (s1.extract 0 k2 ++ ⟨#[cb]⟩) (s1.extract k2 s1.size) (by rw [ByteArray.size_append, ext_size _ _ _ hk1]; show k2 - 0 + 1 ≤ 1000; omega) (by rw [ext_size _ _ _ (Nat.le_refl _)]; omega)
          obtain ⟨s2, hs2⟩ : ∃ s2, s1.extract 0 k2 ++ ⟨#[cb]⟩ ++ s1.extract k2 s1.size = s2 := ⟨_, rfl⟩
          have HS2 : Hid (s2.size = 2 * (i + 1)) := by
            rw [Hid, ← hs2]
            have := put_size (a := ⟨#[cb]⟩) hk1
            rw [HS1.out] at this
            exact this
          rw [hs2] at c2
          clear hs2
          go_wp2_with fail
          go_quiet (fail)
          go_wp2_with fail
          go_roundw
          case rel => exact ⟨i + 1, _, _, by omega, by go_num, rfl, HS2.out, HR9.out, by omega, HG9.out.drewN _⟩
          case measure => simp [intOf]; omega
      | false =>
          go_wp2_with fail
          refine (pick_reads w6 rb _ HR6.out (by omega) ((s.size : Int) + 1) (by omega) (by omega)).mono ?_
          rintro e w8 ⟨k, rfl, hk, r1, g1⟩
          have HR8 := Lib.hid r1; have HG8 : Hid (Gr rb w w8) := HG6.out.trans g1; clear r1 g1
          have hks : k ≤ s.size := by omega
          have hks2 : (k : Int) ≤ (s.size : Int) := by omega
          clear hk
          have c1 := addD (s.extract 0 k) ⟨#[ca]⟩ (by rw [ext_size _ _ _ hks]; omega) (by show 1 ≤ 1000; omega)
          have c2 := addD (s.extract 0 k ++ ⟨#[ca]⟩) (s.extract k s.size) (by rw [ByteArray.size_append, ext_size _ _ _ hks]; show k - 0 + 1 ≤ 1000; omega) (by rw [ext_size _ _ _ (Nat.le_refl _)]; omega)
          obtain ⟨s1, hs1⟩ : ∃ s1, s.extract 0 k ++ ⟨#[ca]⟩ ++ s.extract k s.size = s1 := ⟨_, rfl⟩
          have HS1 : Hid (s1.size = 2 * i + 1) := by
            rw [Hid, ← hs1]
            have := put_size (a := ⟨#[ca]⟩) hks
            rw [HSZ.out] at this
            exact this
          have h1b : s1.size ≤ 11 := by rw [HS1.out]; omega
          rw [hs1] at c2
          clear hs1
          go_wp2_with fail
          go_quiet (fail)
          go_wp2_with fail
          refine (pick_reads (w8.drewN nq) rb _ HR8.out (by omega) ((s1.size : Int) + 1) (by omega) (by omega)).mono ?_
          rintro e w9 ⟨k2, rfl, hk, r1, g1⟩
          have HR9 := Lib.hid r1; have HG9 : Hid (Gr rb w w9) := (HG8.out.drewN _).trans g1; clear r1 g1
          have hk1 : k2 ≤ s1.size := by omega
          have hk2 : (k2 : Int) ≤ (s1.size : Int) := by omega
          clear hk c1 c2
          have c1 := addD (s1.extract 0 k2) ⟨#[cb]⟩ (by rw [ext_size _ _ _ hk1]; omega) (by show 1 ≤ 1000; omega)
          have c2 := addD (s1.extract 0 k2 ++ ⟨#[cb]⟩) (s1.extract k2 s1.size) (by rw [ByteArray.size_append, ext_size _ _ _ hk1]; show k2 - 0 + 1 ≤ 1000; omega) (by rw [ext_size _ _ _ (Nat.le_refl _)]; omega)
          obtain ⟨s2, hs2⟩ : ∃ s2, s1.extract 0 k2 ++ ⟨#[cb]⟩ ++ s1.extract k2 s1.size = s2 := ⟨_, rfl⟩
          have HS2 : Hid (s2.size = 2 * (i + 1)) := by
            rw [Hid, ← hs2]
            have := put_size (a := ⟨#[cb]⟩) hk1
            rw [HS1.out] at this
            exact this
          rw [hs2] at c2
          clear hs2
          go_wp2_with fail
          go_quiet (fail)
          go_wp2_with fail
          go_roundw
          case rel => exact ⟨i + 1, _, _, by omega, by go_num, rfl, HS2.out, HR9.out, by omega, HG9.out.drewN _⟩
          case measure => simp [intOf]; omega
    · have hkn : i = m := by omega
      have HK := Lib.hid hkn; clear hkn
      have hs12 : s.size ≤ 12 := by omega
      go_wp2_with fail
      refine (pick_reads wr rb _ hr.out (by omega) 24 (by omega) (by omega)).mono ?_
      rintro e w3 ⟨z, rfl, -, r1, g1⟩
      have HR3 := Lib.hid r1; have HG3 : Hid (Gr rb w w3) := hg.out.trans g1; clear r1 g1
      by_cases hz : z = 0
      · subst hz
        go_wp2_with fail
        refine (of_any _ rb _ w3.heap.size 5 5 (fun j => if j = 0 then ⟨#[97]⟩ else if j = 1 then ⟨#[102]⟩ else if j = 2 then ⟨#[101, 101]⟩ else if j = 3 then ⟨#[32]⟩ else ⟨#[65]⟩) (HR3.out.below ((Below.refl _ w3).alloc (Nat.le_refl _) _ |>.mono HR3.out.lt)) (by omega) (by omega) (by omega) (by have := HR3.out.lt; omega) (fun j hj => ?_)).mono ?_
        · rw [cell_of_row _ _ j _ _ (0, 0) (heap_alloc_new w3 _)]
          match j, hj with
          | 0, _ => rfl
          | 1, _ => rfl
          | 2, _ => rfl
          | 3, _ => rfl
          | 4, _ => rfl
        · rintro e w4 ⟨j, hj, rfl, r1, g1⟩
          obtain ⟨u, hu⟩ : ∃ u : ByteArray, (if j = 0 then (⟨#[97]⟩ : ByteArray) else if j = 1 then ⟨#[102]⟩ else if j = 2 then ⟨#[101, 101]⟩ else if j = 3 then ⟨#[32]⟩ else ⟨#[65]⟩) = u := ⟨_, rfl⟩
          have hus : u.size ≤ 2 := by rw [← hu]; exact pick5 _ _ _ _ _ 2 (by decide) (by decide) (by decide) (by decide) (by decide) j
          have HR4 := Lib.hid r1; have HG4 : Hid (Gr rb w w4) := (HG3.out.alloc _).trans g1; clear r1 g1
          rw [hu]
          clear hu
          have c1 := addD s u (by omega) (by omega)
          go_wp2_with fail
          go_ret
          exact ⟨_, _, rfl, by rw [ByteArray.size_append]; omega, HR4.out, by omega, HG4.out⟩
      · have hd : ((z : Int) == 0) = false := by simp; omega
        go_wp2_with fail
        go_ret
        exact ⟨_, _, rfl, hs12, HR3.out, by omega, HG3.out⟩

/-- A drawn text. -/
def DrewW (w : World) (e : Ending) (w' : World) : Prop := ∃ t : ByteArray, e = .returned (.string t) ∧ t.size ≤ 12 ∧ Below w.heap.size w w'
end Go.Proofs.YtfdliekhlcbkcaaDoor

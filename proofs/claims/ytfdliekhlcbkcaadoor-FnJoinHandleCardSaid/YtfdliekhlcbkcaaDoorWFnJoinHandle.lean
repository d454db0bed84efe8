/-
  FnJoinHandle: the walk of the law.
-/
import Derived.Test.YtfdliekhlcbkcaaDoorDrawWd
import Derived.Test.YtfdliekhlcbkcaaDoorNrm
import Derived.Test.YtfdliekhlcbkcaaDoorWrdJ
import Derived.Test.YtfdliekhlcbkcaaDoorWrdR
import Derived.Test.YtfdliekhlcbkcaaDoorWrdNm
import Derived.Test.YtfdliekhlcbkcaaDoorAbvW
import Derived.Test.YtfdliekhlcbkcaaDoorWrdX
import Derived.Test.YtfdliekhlcbkcaaDoorWrdS
import Derived.Test.YtfdliekhlcbkcaaDoorWrdJM
import Derived.BigQuiet
namespace Go.Proofs.YtfdliekhlcbkcaaDoor
open Go.RowKit
theorem text_beqX (a : ByteArray) : (a == a) = true := by
  cases a with
  | mk d =>
    show (d == d) = true
    simp
theorem text_bneX (a : ByteArray) : (a != a) = false := by rw [bne, text_beqX]; rfl
theorem loop_ne (bs : ByteArray) : ∀ (k i : Nat) (r : List UInt8), bs.size - i = k → r ≠ [] → ByteArray.toList.loop bs i r ≠ [] := by
  intro k
  induction k with
  | zero =>
    intro i r h hr
    unfold ByteArray.toList.loop
    rw [if_neg (by omega)]
    simpa using hr
  | succ k ih =>
    intro i r h hr
    unfold ByteArray.toList.loop
    rw [if_pos (by omega)]
    exact ih _ _ (by omega) (by simp)
theorem text_some (a : ByteArray) (h : 0 < a.size) : a.toList.isEmpty = false := by
  have : a.toList ≠ [] := by
    unfold ByteArray.toList ByteArray.toList.loop
    rw [if_pos h]
    exact loop_ne a _ _ _ rfl (by simp)
  simpa using this

set_option maxHeartbeats 800000 in
theorem drawWordJoin_any (w : World) (A : Option Addr) (n c : Nat) (bs : List Int) (h : RdB w A n bs) (hn : n ≤ 1048576) (hc : n ≤ c) :
    Calls Tryd.prog 33 #[.slice A n c] w fun e w' => ∃ t u : ByteArray, e = .returned (.tuple #[.string t, .string u]) ∧ t.size ≤ 12 ∧ u.size ≤ 12 ∧ Below w.heap.size w w' := by
  go_enter Tryd.func33, Tryd.ntmps33
  go_wp2_with fail
  refine (opened w A n c bs h hn hc).mono ?_
  rintro e w1 ⟨rfl, r1, b1, s1⟩
  have HR1 := Lib.hid r1; have HB1 := Lib.hid b1; clear r1 b1
  go_wp2_with fail
  refine (word_draw w1 w.heap.size 0 3 HR1.out (by omega) (by omega) (by omega)).mono ?_
  rintro e w2 ⟨t, q', rfl, ht, r2, hq2, g1⟩
  have HR2 := Lib.hid r2
  have HB2 := Lib.hid (below_grown HB1.out g1 (Nat.le_refl _) HB1.out.size); clear g1 r2
  go_wp2_with fail
  refine (word_draw w2 w.heap.size q' 3 HR2.out (by omega) (by omega) (by omega)).mono ?_
  rintro e w3 ⟨u, q2, rfl, hu, -, -, g1⟩
  have HB3 := Lib.hid (below_grown HB2.out g1 (Nat.le_refl _) HB2.out.size); clear g1
  go_wp2_with fail
  go_ret2
  exact ⟨_, _, rfl, ht, hu, HB3.out⟩

set_option maxRecDepth 20000 in
set_option maxHeartbeats 3200000 in
theorem walk_FnJoinHandle (A : Option Addr) (n c : Nat) (bs : List Int) (w : World) (h : RdB w A n bs) (hm : n ≤ maxLen ∧ n ≤ c) :
    Calls Tryd.prog 8 #[.slice A n c] w fun e w' => e = .returned (.bool true) ∧ Below w.heap.size w w' := by
  have HB0 := Lib.hid h
  have hc := hm.2
  clear h hm
  by_cases hbig : 1048576 < n
  · have hd : decide ((1048576 : Int) < n) = true := by simp; omega
    go_enter Tryd.func8, Tryd.ntmps8
    go_wp2
    go_ret
    exact ⟨rfl, Below.refl _ _⟩
  have hd : decide ((1048576 : Int) < n) = false := by simp; omega
  have hnb : n ≤ 1048576 := by omega
  go_enter Tryd.func8, Tryd.ntmps8
  go_wp2_with fail
  refine (drawWordJoin_any w A n c bs HB0.out hnb hc).mono ?_
  rintro x w1 ⟨s, s2, rfl, hs, hu, b1⟩
  have HB1 := Lib.hid b1; clear b1 hbig hc HB0
  have hs2 : s.size ≤ 1048576 := by omega
  have hs3 : s2.size ≤ 1048576 := by omega
  obtain ⟨v, hv⟩ : ∃ v, joinOk s.data.toList s2.data.toList = v := ⟨_, rfl⟩
  have HV := Lib.hid hv
  cases v with
  | false =>
    have HR0 : Hid (joinWR s.data.toList s2.data.toList = (false, [])) := joinWR_no hv
    clear hv
    go_wp2_with fail
    refine (impl_joinWR _ s hs2 s2 hs3 HR0.out).mono ?_
    rintro e w2 ⟨rfl, b1⟩
    have HB2 : Hid (Below w.heap.size w w2) := HB1.out.trans (b1.mono HB1.out.size); clear b1
    go_wp2_with fail
    refine (spec_joinWR _ s hs2 s2 hs3 HR0.out).mono ?_
    rintro e w3 ⟨rfl, b1⟩
    have HB3 : Hid (Below w.heap.size w w3) := HB2.out.trans (b1.mono HB2.out.size); clear b1
    go_wp2_with fail
    go_ret
    exact ⟨rfl, HB3.out⟩
  | true =>
    have hjo := hv
    unfold joinOk at hjo
    simp only [Bool.and_eq_true, decide_eq_true_eq] at hjo
    obtain ⟨⟨hva, hvb⟩, h10⟩ := hjo
    have hwa := wordB_iff.1 hva
    have hwb := wordB_iff.1 hvb
    have hla := hwa.len
    have hlb := hwb.len
    have hwj := (joined_of hwa hwb h10).1
    obtain ⟨tj, htj⟩ : ∃ t : ByteArray, (⟨(joinW s.data.toList s2.data.toList).toArray⟩ : ByteArray) = t := ⟨_, rfl⟩
    have ej : tj.data.toList = joinW s.data.toList s2.data.toList := by rw [← htj]
    have Wj : Word tj.data.toList := by rw [ej]; exact hwj
    have sj : tj.size ≤ 10 := by rw [← len_str, ej, joinW_len]; exact h10
    have Sj : Hid (tj.size ≤ 1048576) := by rw [Hid]; omega
    have Rj : joinWR s.data.toList s2.data.toList = (true, joinW s.data.toList s2.data.toList) := joinWR_yes hv
    have q0 : (tj != tj) = false := text_bneX tj
    have q1 : (tj == tj) = true := text_beqX tj
    have q4 : (!(tj == tj)) = false := by rw [q1]; rfl
    have hnj : numN tj.data.toList = numN s.data.toList + numN s2.data.toList - 2 := by rw [ej]; exact join_num hwa hwb h10
    have hsj : sidedB tj.data.toList = (sidedB s.data.toList && sidedB s2.data.toList) := by rw [ej]; exact join_sided hwa hwb h10
    have C0 : Hid (∀ W, Calls Tryd.prog 34 #[.string s, .string s2] W fun e w' => e = .returned (.tuple #[.string tj, .bool true]) ∧ Below W.heap.size W w') := fun W => htj ▸ impl_joinWR W s hs2 s2 hs3 Rj
    have C1 : Hid (∀ W, Calls Tryd.prog 35 #[.string s, .string s2] W fun e w' => e = .returned (.tuple #[.string tj, .bool true]) ∧ Below W.heap.size W w') := fun W => htj ▸ spec_joinWR W s hs2 s2 hs3 Rj
    obtain ⟨a1, a2, a3, a4, a5⟩ := hwa.normal
    obtain ⟨b1, b2, b3, b4, b5⟩ := hwb.normal
    obtain ⟨tx, htx⟩ : ∃ t : ByteArray, (⟨(nrmN s.data.toList).toArray⟩ : ByteArray) = t := ⟨_, rfl⟩
    obtain ⟨ty, hty⟩ : ∃ t : ByteArray, (⟨(nrmN s2.data.toList).toArray⟩ : ByteArray) = t := ⟨_, rfl⟩
    have ex : tx.data.toList = nrmN s.data.toList := by rw [← htx]
    have ey : ty.data.toList = nrmN s2.data.toList := by rw [← hty]
    have k10 : tx.data.toList.length + ty.data.toList.length ≤ 10 := by rw [ex, ey]; omega
    have Sx : Hid (tx.size ≤ 1048576) := by rw [Hid, ← len_str]; omega
    have Sy : Hid (ty.size ≤ 1048576) := by rw [Hid, ← len_str]; omega
    have Wx : Word tx.data.toList := by rw [ex]; exact a1
    have Wy : Word ty.data.toList := by rw [ey]; exact b1
    obtain ⟨tz, htz⟩ : ∃ t : ByteArray, (⟨(joinW tx.data.toList ty.data.toList).toArray⟩ : ByteArray) = t := ⟨_, rfl⟩
    have ez : tz.data.toList = joinW tx.data.toList ty.data.toList := by rw [← htz]
    have Wz : Word tz.data.toList := by rw [ez]; exact (joined_of Wx Wy k10).1
    have Sz : Hid (tz.size ≤ 1048576) := by rw [Hid, ← len_str, ez, joinW_len]; omega
    have joz : joinOk tx.data.toList ty.data.toList = true := by unfold joinOk; rw [wordB_iff.2 Wx, wordB_iff.2 Wy, decide_eq_true k10]; rfl
    have M1 : Hid (sameR tz.data.toList tj.data.toList = true) := same_of Wz Wj (by rw [ez, join_num Wx Wy k10, hnj, ex, ey, a2, b2]) (by rw [ez, join_sided Wx Wy k10, hsj, ex, ey, a3, b3])
    obtain ⟨sp, hsp⟩ : ∃ t : ByteArray, (⟨#[97, 65]⟩ : ByteArray) = t := ⟨_, rfl⟩
    have esp : sp.data.toList = [97, 65] := by rw [← hsp]
    have Wsp : Word sp.data.toList := by rw [esp]; exact sph_cor.1
    have l10 : s.data.toList.length + sp.data.toList.length ≤ 10 := by rw [esp]; show _ + 2 ≤ 10; omega
    obtain ⟨tu, htu⟩ : ∃ t : ByteArray, (⟨(joinW s.data.toList sp.data.toList).toArray⟩ : ByteArray) = t := ⟨_, rfl⟩
    have eu : tu.data.toList = joinW s.data.toList sp.data.toList := by rw [← htu]
    have Wu : Word tu.data.toList := by rw [eu]; exact (joined_of hwa Wsp l10).1
    have Su : Hid (tu.size ≤ 1048576) := by rw [Hid, ← len_str, eu, joinW_len]; omega
    have jou : joinOk s.data.toList sp.data.toList = true := by unfold joinOk; rw [hva, wordB_iff.2 Wsp, decide_eq_true l10]; rfl
    have nsp : numN sp.data.toList = 2 := by rw [esp]; unfold numN; rw [sph_cor.2.1]; rfl
    have M2 : Hid (sameR tu.data.toList s.data.toList = true) := same_of Wu hwa (by rw [eu, join_num hwa Wsp l10, nsp]; omega) (by rw [eu, join_sided hwa Wsp l10, esp, sph_cor.2.2, Bool.and_true])
    have C2 : Hid (∀ W, Calls Tryd.prog 29 #[.string s] W fun e w' => e = .returned (.tuple #[.string tx, .bool true]) ∧ Below W.heap.size W w') := fun W => htx ▸ impl_nrmR W s hs2 (nrmR_yes hva)
    have C3 : Hid (∀ W, Calls Tryd.prog 29 #[.string s2] W fun e w' => e = .returned (.tuple #[.string ty, .bool true]) ∧ Below W.heap.size W w') := fun W => hty ▸ impl_nrmR W s2 hs3 (nrmR_yes hvb)
    have C4 : Hid (∀ W, Calls Tryd.prog 34 #[.string tx, .string ty] W fun e w' => e = .returned (.tuple #[.string tz, .bool true]) ∧ Below W.heap.size W w') := fun W => htz ▸ impl_joinWR W tx Sx.out ty Sy.out (joinWR_yes joz)
    have C5 : Hid (∀ W, Calls Tryd.prog 34 #[.string s, .string ⟨#[97, 65]⟩] W fun e w' => e = .returned (.tuple #[.string tu, .bool true]) ∧ Below W.heap.size W w') := fun W => hsp ▸ htu ▸ impl_joinWR W s hs2 sp (by rw [← len_str, esp]; decide) (joinWR_yes jou)
    clear hv hva hvb hwa hwb hla hlb hwj htj ej Wj sj Rj hnj hsj h10 HV a1 a2 a3 a4 a5 b1 b2 b3 b4 b5 htx hty ex ey k10 Wx Wy htz ez Wz joz hsp esp Wsp l10 htu eu Wu jou nsp
    go_wp2_with fail
    refine (C0.out _).mono ?_
    rintro e w2 ⟨rfl, b1⟩
    have HB2 : Hid (Below w.heap.size w w2) := HB1.out.trans (b1.mono HB1.out.size); clear b1
    go_wp2_with fail
    refine (C1.out _).mono ?_
    rintro e w3 ⟨rfl, b1⟩
    have HB3 : Hid (Below w.heap.size w w3) := HB2.out.trans (b1.mono HB2.out.size); clear b1
    go_wp2_with fail
    refine (C2.out _).mono ?_
    rintro e w4 ⟨rfl, b1⟩
    have HB4 : Hid (Below w.heap.size w w4) := HB3.out.trans (b1.mono HB3.out.size); clear b1
    go_wp2_with fail
    refine (C3.out _).mono ?_
    rintro e w5 ⟨rfl, b1⟩
    have HB5 : Hid (Below w.heap.size w w5) := HB4.out.trans (b1.mono HB4.out.size); clear b1
    go_wp2_with fail
    refine (C4.out _).mono ?_
    rintro e w6 ⟨rfl, b1⟩
    have HB6 : Hid (Below w.heap.size w w6) := HB5.out.trans (b1.mono HB5.out.size); clear b1
    go_wp2_with fail
    refine (C5.out _).mono ?_
    rintro e w7 ⟨rfl, b1⟩
    have HB7 : Hid (Below w.heap.size w w7) := HB6.out.trans (b1.mono HB6.out.size); clear b1
    go_wp2_with fail
    refine (impl_sameR _ tz Sz.out tj Sj.out M1.out).mono ?_
    rintro e w8 ⟨rfl, b1⟩
    have HB8 : Hid (Below w.heap.size w w8) := HB7.out.trans (b1.mono HB7.out.size); clear b1
    go_wp2_with fail
    refine (impl_sameR _ tu Su.out s hs2 M2.out).mono ?_
    rintro e w9 ⟨rfl, b1⟩
    have HB9 : Hid (Below w.heap.size w w9) := HB8.out.trans (b1.mono HB8.out.size); clear b1
    go_wp2_with fail
    go_ret
    exact ⟨rfl, HB9.out⟩

end Go.Proofs.YtfdliekhlcbkcaaDoor

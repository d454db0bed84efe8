/-
  FnWordSame: the walk of the law.
-/
import Derived.Test.YtfdliekhlcbkcaaDoorDrawWd
import Derived.Test.YtfdliekhlcbkcaaDoorNrm
import Derived.Test.YtfdliekhlcbkcaaDoorWrdJ
import Derived.Test.YtfdliekhlcbkcaaDoorWrdR
import Derived.Test.YtfdliekhlcbkcaaDoorWrdNm
import Derived.Test.YtfdliekhlcbkcaaDoorAbvW
import Derived.Test.YtfdliekhlcbkcaaDoorWrdX
import Derived.Test.YtfdliekhlcbkcaaDoorWrdS
import Derived.Test.YtfdliekhlcbkcaaDoorWrdJM
import Derived.BigQuiet
namespace Go.Proofs.YtfdliekhlcbkcaaDoor
open Go.RowKit
theorem text_beqX (a : ByteArray) : (a == a) = true := by
  cases a with
  | mk d =>
    show (d == d) = true
    simp
theorem text_bneX (a : ByteArray) : (a != a) = false := by rw [bne, text_beqX]; rfl
theorem loop_ne (bs : ByteArray) : ∀ (k i : Nat) (r : List UInt8), bs.size - i = k → r ≠ [] → ByteArray.toList.loop bs i r ≠ [] := by
  intro k
  induction k with
  | zero =>
    intro i r h hr
    unfold ByteArray.toList.loop
    rw [if_neg (by omega)]
    simpa using hr
  | succ k ih =>
    intro i r h hr
    unfold ByteArray.toList.loop
    rw [if_pos (by omega)]
    exact ih _ _ (by omega) (by simp)
theorem text_some (a : ByteArray) (h : 0 < a.size) : a.toList.isEmpty = false := by
  have : a.toList ≠ [] := by
    unfold ByteArray.toList ByteArray.toList.loop
    rw [if_pos h]
    exact loop_ne a _ _ _ rfl (by simp)
  simpa using this

set_option maxHeartbeats 1600000 in
theorem drawWordSame_any (w : World) (A : Option Addr) (n c : Nat) (bs : List Int) (h : RdB w A n bs) (hn : n ≤ 1048576) (hc : n ≤ c) :
    Calls Tryd.prog 40 #[.slice A n c] w fun e w' => ∃ t u : ByteArray, e = .returned (.tuple #[.string t, .string u]) ∧ t.size ≤ 12 ∧ u.size ≤ 12 ∧ Below w.heap.size w w' := by
  go_enter Tryd.func40, Tryd.ntmps40
  go_wp2_with fail
  refine (opened w A n c bs h hn hc).mono ?_
  rintro e w1 ⟨rfl, r1, b1, s1⟩
  have HR1 := Lib.hid r1; have HB1 := Lib.hid b1; have hs1 := s1; clear r1 b1
  go_wp2_with fail
  refine (word_draw w1 w.heap.size 0 4 HR1.out (by omega) (by omega) (by omega)).mono ?_
  rintro e w2 ⟨t, q', rfl, ht, r2, hq2, g1⟩
  have HR2 := Lib.hid r2
  have HB2 := Lib.hid (below_grown HB1.out g1 (Nat.le_refl _) HB1.out.size); clear g1 r2
  obtain ⟨v, hv⟩ : ∃ v, wordB t.data.toList = v := ⟨_, rfl⟩
  obtain ⟨tx, htx⟩ : ∃ x : ByteArray, (⟨(turnWR t.data.toList).2.toArray⟩ : ByteArray) = x := ⟨_, rfl⟩
  have sx : tx.size ≤ 12 := by
    rw [← len_str, ← htx]
    show (turnWR t.data.toList).2.length ≤ 12
    rw [turnWR, hv]
    cases v with
    | false => exact Nat.zero_le _
    | true => show (turnW t.data.toList).length ≤ 12; rw [turnW_len, len_str]; exact ht
  have CT : Hid (∀ W, Calls Tryd.prog 81 #[.string t] W fun e w' => e = .returned (.tuple #[.string tx, .bool v]) ∧ Below W.heap.size W w') := fun W => by
    have h1 := spec_turnWR W t (by omega) (ok := (turnWR t.data.toList).1) (r := (turnWR t.data.toList).2) rfl
    rw [htx] at h1
    have h2 : (turnWR t.data.toList).1 = v := by rw [turnWR, hv]; cases v <;> rfl
    rwa [h2] at h1
  clear hv htx
  go_wp2_with fail
  refine (CT.out _).mono ?_
  rintro e w3 ⟨rfl, b1⟩
  have HR3 := Lib.hid (HR2.out.below (b1.mono HR2.out.lt)); have HB3 := Lib.hid (HB2.out.trans (b1.mono HB2.out.size)); clear b1
  cases v with
  | false =>
    go_wp2_with fail
    refine (word_draw w3 w.heap.size q' 4 HR3.out (by omega) (by omega) (by omega)).mono ?_
    rintro e w4 ⟨u, q2, rfl, hu, -, -, g1⟩
    have HB4 := Lib.hid (below_grown HB3.out g1 (Nat.le_refl _) HB3.out.size); clear g1
    go_wp2_with fail
    go_ret2
    exact ⟨_, _, rfl, ht, hu, HB4.out⟩
  | true =>
    go_wp2_with fail
    refine (pick_reads w3 w.heap.size q' HR3.out (by omega) 3 (by omega) (by omega)).mono ?_
    rintro e w4 ⟨x, rfl, hx, r1, g1⟩
    have HR4 := Lib.hid r1; have HB4 := Lib.hid (below_grown HB3.out g1 (Nat.le_refl _) HB3.out.size); clear r1 g1
    by_cases h0 : x = 0
    · subst h0
      go_wp2_with fail
      go_ret2
      exact ⟨_, _, rfl, ht, sx, HB4.out⟩
    · have hd : ((x : Int) == 0) = false := by simp; omega
      go_wp2_with fail
      refine (word_draw w4 w.heap.size (q' + 1) 4 HR4.out (by omega) (by omega) (by omega)).mono ?_
      rintro e w5 ⟨u, q2, rfl, hu, -, -, g1⟩
      have HB5 := Lib.hid (below_grown HB4.out g1 (Nat.le_refl _) HB4.out.size); clear g1
      go_wp2_with fail
      go_ret2
      exact ⟨_, _, rfl, ht, hu, HB5.out⟩

set_option maxRecDepth 20000 in
set_option maxHeartbeats 3200000 in
theorem walk_FnWordSame (A : Option Addr) (n c : Nat) (bs : List Int) (A1 : Option Addr) (n1 c1 : Nat) (bs1 : List Int) (w : World) (h : RdB w A n bs) (hm : n ≤ maxLen ∧ n ≤ c) (_h1 : RdB w A1 n1 bs1) (hm1 : n1 ≤ maxLen ∧ n1 ≤ c1) :
    Calls Tryd.prog 10 #[.slice A n c, .slice A1 n1 c1] w fun e w' => e = .returned (.bool true) ∧ Below w.heap.size w w' := by
  have HB0 := Lib.hid h
  have hc := hm.2
  clear h hm
  have hml1 := hm1.1; unfold maxLen at hml1; clear hm1
  by_cases hbig : 1048576 < n
  · have hd : decide ((1048576 : Int) < n) = true := by simp; omega
    go_enter Tryd.func10, Tryd.ntmps10
    go_wp2_with fail
    go_ret
    exact ⟨rfl, Below.refl _ _⟩
  have hd : decide ((1048576 : Int) < n) = false := by simp; omega
  have hnb : n ≤ 1048576 := by omega
  by_cases hbig1 : 1048576 < n1
  · have hd1 : decide ((1048576 : Int) < n1) = true := by simp; omega
    go_enter Tryd.func10, Tryd.ntmps10
    go_wp2_with fail
    go_ret
    exact ⟨rfl, Below.refl _ _⟩
  have hd1 : decide ((1048576 : Int) < n1) = false := by simp; omega
  have hnb1 : n1 ≤ 1048576 := by omega
  go_enter Tryd.func10, Tryd.ntmps10
  go_wp2_with fail
  refine (drawWordSame_any w A n c bs HB0.out hnb hc).mono ?_
  rintro x w1 ⟨s, s2, rfl, hs, hu, b1⟩
  have HB1 := Lib.hid b1; clear b1 hbig hbig1 hc HB0
  have hs2 : s.size ≤ 1048576 := by omega
  have hs3 : s2.size ≤ 1048576 := by omega
  obtain ⟨v, hv⟩ : ∃ v, sameR s.data.toList s2.data.toList = v := ⟨_, rfl⟩
  have HV := Lib.hid hv
  cases v with
  | false =>
    clear hv
    go_wp2_with fail
    refine (impl_sameR _ s hs2 s2 hs3 HV.out).mono ?_
    rintro e w2 ⟨rfl, b1⟩
    have HB2 : Hid (Below w.heap.size w w2) := HB1.out.trans (b1.mono HB1.out.size); clear b1
    go_wp2_with fail
    refine (spec_sameR _ s hs2 s2 hs3 HV.out).mono ?_
    rintro e w3 ⟨rfl, b1⟩
    have HB3 : Hid (Below w.heap.size w w3) := HB2.out.trans (b1.mono HB2.out.size); clear b1
    go_wp2_with fail
    go_ret
    exact ⟨rfl, HB3.out⟩
  | true =>
    obtain ⟨hwa, hwb, hnum, hsid⟩ := same_iff hv
    have hva := wordB_iff.2 hwa
    have hvb := wordB_iff.2 hwb
    have hla := hwa.len
    have hlb := hwb.len
    have HS : Hid (sameR s.data.toList s2.data.toList = true) := hv
    have M0 : Hid (sameR s2.data.toList s.data.toList = true) := same_of hwb hwa hnum.symm hsid.symm
    obtain ⟨tx, htx⟩ : ∃ t : ByteArray, (⟨(nrmN s.data.toList).toArray⟩ : ByteArray) = t := ⟨_, rfl⟩
    have q0 : (tx != tx) = false := text_bneX tx
    have q1 : (tx == tx) = true := text_beqX tx
    have q4 : (!(tx == tx)) = false := by rw [q1]; rfl
    have Ra := nrmR_yes hva
    have Rb := nrmR_yes hvb
    rw [← (cls_of hnum hsid).2] at Rb
    have C2 : Hid (∀ W, Calls Tryd.prog 29 #[.string s] W fun e w' => e = .returned (.tuple #[.string tx, .bool true]) ∧ Below W.heap.size W w') := fun W => htx ▸ impl_nrmR W s hs2 Ra
    have C3 : Hid (∀ W, Calls Tryd.prog 29 #[.string s2] W fun e w' => e = .returned (.tuple #[.string tx, .bool true]) ∧ Below W.heap.size W w') := fun W => htx ▸ impl_nrmR W s2 hs3 Rb
    obtain ⟨p, hp⟩ : ∃ p, n1 % 2 = p := ⟨_, rfl⟩
    rcases (by omega : p = 0 ∨ p = 1) with rfl | rfl
    · have p1 : ((n1 : Int)).tmod 2 = 0 := by rw [show ((n1 : Int)).tmod 2 = ((n1 % 2 : Nat) : Int) from rfl]; omega
      have p2 : (n1 : Int) % 2 = 0 := by omega
      obtain ⟨sp, hsp⟩ : ∃ t : ByteArray, (⟨#[97, 98, 65, 66]⟩ : ByteArray) = t := ⟨_, rfl⟩
      have esp : sp.data.toList = [97, 98, 65, 66] := by rw [← hsp]
      have Wsp : Word sp.data.toList := by rw [esp]; exact wordB_iff.1 (by decide +kernel)
      have ssp : sp.size ≤ 1048576 := by rw [← len_str, esp]; decide
      obtain ⟨ja, ra, hja⟩ : ∃ v r, joinWR s.data.toList sp.data.toList = (v, r) := ⟨_, _, rfl⟩
      obtain ⟨jb, rb, hjb⟩ : ∃ v r, joinWR s2.data.toList sp.data.toList = (v, r) := ⟨_, _, rfl⟩
      obtain ⟨ta, hta⟩ : ∃ t : ByteArray, (⟨ra.toArray⟩ : ByteArray) = t := ⟨_, rfl⟩
      obtain ⟨tb, htb⟩ : ∃ t : ByteArray, (⟨rb.toArray⟩ : ByteArray) = t := ⟨_, rfl⟩
      have C4 : Hid (∀ W, Calls Tryd.prog 34 #[.string s, .string ⟨#[97, 98, 65, 66]⟩] W fun e w' => e = .returned (.tuple #[.string ta, .bool ja]) ∧ Below W.heap.size W w') := fun W => hsp ▸ hta ▸ impl_joinWR W s hs2 sp ssp hja
      have C5 : Hid (∀ W, Calls Tryd.prog 34 #[.string s2, .string ⟨#[97, 98, 65, 66]⟩] W fun e w' => e = .returned (.tuple #[.string tb, .bool jb]) ∧ Below W.heap.size W w') := fun W => hsp ▸ htb ▸ impl_joinWR W s2 hs3 sp ssp hjb
      cases ja
      · skip
        clear hv HV hwa hwb hnum hsid hva hvb hla hlb htx Ra Rb hp hsp esp Wsp ssp hja hjb hta htb
        go_wp2_with fail
        refine (impl_sameR _ s hs2 s2 hs3 HS.out).mono ?_
        rintro e w2 ⟨rfl, b1⟩
        have HB2 : Hid (Below w.heap.size w w2) := HB1.out.trans (b1.mono HB1.out.size); clear b1
        go_wp2_with fail
        refine (spec_sameR _ s hs2 s2 hs3 HS.out).mono ?_
        rintro e w3 ⟨rfl, b1⟩
        have HB3 : Hid (Below w.heap.size w w3) := HB2.out.trans (b1.mono HB2.out.size); clear b1
        go_wp2_with fail
        refine (C2.out _).mono ?_
        rintro e w4 ⟨rfl, b1⟩
        have HB4 : Hid (Below w.heap.size w w4) := HB3.out.trans (b1.mono HB3.out.size); clear b1
        go_wp2_with fail
        refine (C3.out _).mono ?_
        rintro e w5 ⟨rfl, b1⟩
        have HB5 : Hid (Below w.heap.size w w5) := HB4.out.trans (b1.mono HB4.out.size); clear b1
        go_wp2_with fail
        refine (C4.out _).mono ?_
        rintro e w6 ⟨rfl, b1⟩
        have HB6 : Hid (Below w.heap.size w w6) := HB5.out.trans (b1.mono HB5.out.size); clear b1
        go_wp2_with fail
        refine (C5.out _).mono ?_
        rintro e w7 ⟨rfl, b1⟩
        have HB7 : Hid (Below w.heap.size w w7) := HB6.out.trans (b1.mono HB6.out.size); clear b1
        go_wp2_with fail
        refine (impl_sameR _ s2 hs3 s hs2 M0.out).mono ?_
        rintro e w8 ⟨rfl, b1⟩
        have HB8 : Hid (Below w.heap.size w w8) := HB7.out.trans (b1.mono HB7.out.size); clear b1
        go_wp2_with fail
        go_ret
        exact ⟨rfl, HB8.out⟩
      · skip
        cases jb
        · skip
          clear hv HV hwa hwb hnum hsid hva hvb hla hlb htx Ra Rb hp hsp esp Wsp ssp hja hjb hta htb
          go_wp2_with fail
          refine (impl_sameR _ s hs2 s2 hs3 HS.out).mono ?_
          rintro e w2 ⟨rfl, b1⟩
          have HB2 : Hid (Below w.heap.size w w2) := HB1.out.trans (b1.mono HB1.out.size); clear b1
          go_wp2_with fail
          refine (spec_sameR _ s hs2 s2 hs3 HS.out).mono ?_
          rintro e w3 ⟨rfl, b1⟩
          have HB3 : Hid (Below w.heap.size w w3) := HB2.out.trans (b1.mono HB2.out.size); clear b1
          go_wp2_with fail
          refine (C2.out _).mono ?_
          rintro e w4 ⟨rfl, b1⟩
          have HB4 : Hid (Below w.heap.size w w4) := HB3.out.trans (b1.mono HB3.out.size); clear b1
          go_wp2_with fail
          refine (C3.out _).mono ?_
          rintro e w5 ⟨rfl, b1⟩
          have HB5 : Hid (Below w.heap.size w w5) := HB4.out.trans (b1.mono HB4.out.size); clear b1
          go_wp2_with fail
          refine (C4.out _).mono ?_
          rintro e w6 ⟨rfl, b1⟩
          have HB6 : Hid (Below w.heap.size w w6) := HB5.out.trans (b1.mono HB5.out.size); clear b1
          go_wp2_with fail
          refine (C5.out _).mono ?_
          rintro e w7 ⟨rfl, b1⟩
          have HB7 : Hid (Below w.heap.size w w7) := HB6.out.trans (b1.mono HB6.out.size); clear b1
          go_wp2_with fail
          refine (impl_sameR _ s2 hs3 s hs2 M0.out).mono ?_
          rintro e w8 ⟨rfl, b1⟩
          have HB8 : Hid (Below w.heap.size w w8) := HB7.out.trans (b1.mono HB7.out.size); clear b1
          go_wp2_with fail
          go_ret
          exact ⟨rfl, HB8.out⟩
        · skip
          have oa : joinOk s.data.toList sp.data.toList = true := by
            cases ho : joinOk s.data.toList sp.data.toList with
            | true => rfl
            | false => rw [joinWR_no ho] at hja; cases hja
          have ob : joinOk s2.data.toList sp.data.toList = true := by
            cases ho : joinOk s2.data.toList sp.data.toList with
            | true => rfl
            | false => rw [joinWR_no ho] at hjb; cases hjb
          rw [joinWR_yes oa] at hja
          rw [joinWR_yes ob] at hjb
          simp only [Prod.mk.injEq, true_and] at hja hjb
          have la : s.data.toList.length + sp.data.toList.length ≤ 10 := by
            unfold joinOk at oa; simp only [Bool.and_eq_true, decide_eq_true_eq] at oa; exact oa.2
          have lb : s2.data.toList.length + sp.data.toList.length ≤ 10 := by
            unfold joinOk at ob; simp only [Bool.and_eq_true, decide_eq_true_eq] at ob; exact ob.2
          have ea : ta.data.toList = joinW s.data.toList sp.data.toList := by rw [← hta, ← hja]
          have eb : tb.data.toList = joinW s2.data.toList sp.data.toList := by rw [← htb, ← hjb]
          have Wa : Word ta.data.toList := by rw [ea]; exact (joined_of hwa Wsp la).1
          have Wb : Word tb.data.toList := by rw [eb]; exact (joined_of hwb Wsp lb).1
          have Sa : Hid (ta.size ≤ 1048576) := by rw [Hid, ← len_str, ea, joinW_len]; omega
          have Sb : Hid (tb.size ≤ 1048576) := by rw [Hid, ← len_str, eb, joinW_len]; omega
          have M1 : Hid (sameR ta.data.toList tb.data.toList = true) := same_of Wa Wb (by rw [ea, eb, join_num hwa Wsp la, join_num hwb Wsp lb, hnum]) (by rw [ea, eb, join_sided hwa Wsp la, join_sided hwb Wsp lb, hsid])
          clear oa ob la lb ea eb Wa Wb
          clear hv HV hwa hwb hnum hsid hva hvb hla hlb htx Ra Rb hp hsp esp Wsp ssp hja hjb hta htb
          go_wp2_with fail
          refine (impl_sameR _ s hs2 s2 hs3 HS.out).mono ?_
          rintro e w2 ⟨rfl, b1⟩
          have HB2 : Hid (Below w.heap.size w w2) := HB1.out.trans (b1.mono HB1.out.size); clear b1
          go_wp2_with fail
          refine (spec_sameR _ s hs2 s2 hs3 HS.out).mono ?_
          rintro e w3 ⟨rfl, b1⟩
          have HB3 : Hid (Below w.heap.size w w3) := HB2.out.trans (b1.mono HB2.out.size); clear b1
          go_wp2_with fail
          refine (C2.out _).mono ?_
          rintro e w4 ⟨rfl, b1⟩
          have HB4 : Hid (Below w.heap.size w w4) := HB3.out.trans (b1.mono HB3.out.size); clear b1
          go_wp2_with fail
          refine (C3.out _).mono ?_
          rintro e w5 ⟨rfl, b1⟩
          have HB5 : Hid (Below w.heap.size w w5) := HB4.out.trans (b1.mono HB4.out.size); clear b1
          go_wp2_with fail
          refine (C4.out _).mono ?_
          rintro e w6 ⟨rfl, b1⟩
          have HB6 : Hid (Below w.heap.size w w6) := HB5.out.trans (b1.mono HB5.out.size); clear b1
          go_wp2_with fail
          refine (C5.out _).mono ?_
          rintro e w7 ⟨rfl, b1⟩
          have HB7 : Hid (Below w.heap.size w w7) := HB6.out.trans (b1.mono HB6.out.size); clear b1
          go_wp2_with fail
          refine (impl_sameR _ s2 hs3 s hs2 M0.out).mono ?_
          rintro e w8 ⟨rfl, b1⟩
          have HB8 : Hid (Below w.heap.size w w8) := HB7.out.trans (b1.mono HB7.out.size); clear b1
          go_wp2_with fail
          refine (impl_sameR _ ta Sa.out tb Sb.out M1.out).mono ?_
          rintro e w9 ⟨rfl, b1⟩
          have HB9 : Hid (Below w.heap.size w w9) := HB8.out.trans (b1.mono HB8.out.size); clear b1
          go_wp2_with fail
          go_ret
          exact ⟨rfl, HB9.out⟩
    · have p1 : ((n1 : Int)).tmod 2 = 1 := by rw [show ((n1 : Int)).tmod 2 = ((n1 % 2 : Nat) : Int) from rfl]; omega
      have p2 : (n1 : Int) % 2 = 1 := by omega
      obtain ⟨sp, hsp⟩ : ∃ t : ByteArray, (⟨#[97, 97]⟩ : ByteArray) = t := ⟨_, rfl⟩
      have esp : sp.data.toList = [97, 97] := by rw [← hsp]
      have Wsp : Word sp.data.toList := by rw [esp]; exact wordB_iff.1 (by decide +kernel)
      have ssp : sp.size ≤ 1048576 := by rw [← len_str, esp]; decide
      obtain ⟨ja, ra, hja⟩ : ∃ v r, joinWR s.data.toList sp.data.toList = (v, r) := ⟨_, _, rfl⟩
      obtain ⟨jb, rb, hjb⟩ : ∃ v r, joinWR s2.data.toList sp.data.toList = (v, r) := ⟨_, _, rfl⟩
      obtain ⟨ta, hta⟩ : ∃ t : ByteArray, (⟨ra.toArray⟩ : ByteArray) = t := ⟨_, rfl⟩
      obtain ⟨tb, htb⟩ : ∃ t : ByteArray, (⟨rb.toArray⟩ : ByteArray) = t := ⟨_, rfl⟩
      have C4 : Hid (∀ W, Calls Tryd.prog 34 #[.string s, .string ⟨#[97, 97]⟩] W fun e w' => e = .returned (.tuple #[.string ta, .bool ja]) ∧ Below W.heap.size W w') := fun W => hsp ▸ hta ▸ impl_joinWR W s hs2 sp ssp hja
      have C5 : Hid (∀ W, Calls Tryd.prog 34 #[.string s2, .string ⟨#[97, 97]⟩] W fun e w' => e = .returned (.tuple #[.string tb, .bool jb]) ∧ Below W.heap.size W w') := fun W => hsp ▸ htb ▸ impl_joinWR W s2 hs3 sp ssp hjb
      cases ja
      · skip
        clear hv HV hwa hwb hnum hsid hva hvb hla hlb htx Ra Rb hp hsp esp Wsp ssp hja hjb hta htb
        go_wp2_with fail
        refine (impl_sameR _ s hs2 s2 hs3 HS.out).mono ?_
        rintro e w2 ⟨rfl, b1⟩
        have HB2 : Hid (Below w.heap.size w w2) := HB1.out.trans (b1.mono HB1.out.size); clear b1
        go_wp2_with fail
        refine (spec_sameR _ s hs2 s2 hs3 HS.out).mono ?_
        rintro e w3 ⟨rfl, b1⟩
        have HB3 : Hid (Below w.heap.size w w3) := HB2.out.trans (b1.mono HB2.out.size); clear b1
        go_wp2_with fail
        refine (C2.out _).mono ?_
        rintro e w4 ⟨rfl, b1⟩
        have HB4 : Hid (Below w.heap.size w w4) := HB3.out.trans (b1.mono HB3.out.size); clear b1
        go_wp2_with fail
        refine (C3.out _).mono ?_
        rintro e w5 ⟨rfl, b1⟩
        have HB5 : Hid (Below w.heap.size w w5) := HB4.out.trans (b1.mono HB4.out.size); clear b1
        go_wp2_with fail
        refine (C4.out _).mono ?_
        rintro e w6 ⟨rfl, b1⟩
        have HB6 : Hid (Below w.heap.size w w6) := HB5.out.trans (b1.mono HB5.out.size); clear b1
        go_wp2_with fail
        refine (C5.out _).mono ?_
        rintro e w7 ⟨rfl, b1⟩
        have HB7 : Hid (Below w.heap.size w w7) := HB6.out.trans (b1.mono HB6.out.size); clear b1
        go_wp2_with fail
        refine (impl_sameR _ s2 hs3 s hs2 M0.out).mono ?_
        rintro e w8 ⟨rfl, b1⟩
        have HB8 : Hid (Below w.heap.size w w8) := HB7.out.trans (b1.mono HB7.out.size); clear b1
        go_wp2_with fail
        go_ret
        exact ⟨rfl, HB8.out⟩
      · skip
        cases jb
        · skip
          clear hv HV hwa hwb hnum hsid hva hvb hla hlb htx Ra Rb hp hsp esp Wsp ssp hja hjb hta htb
          go_wp2_with fail
          refine (impl_sameR _ s hs2 s2 hs3 HS.out).mono ?_
          rintro e w2 ⟨rfl, b1⟩
          have HB2 : Hid (Below w.heap.size w w2) := HB1.out.trans (b1.mono HB1.out.size); clear b1
          go_wp2_with fail
          refine (spec_sameR _ s hs2 s2 hs3 HS.out).mono ?_
          rintro e w3 ⟨rfl, b1⟩
          have HB3 : Hid (Below w.heap.size w w3) := HB2.out.trans (b1.mono HB2.out.size); clear b1
          go_wp2_with fail
          refine (C2.out _).mono ?_
          rintro e w4 ⟨rfl, b1⟩
          have HB4 : Hid (Below w.heap.size w w4) := HB3.out.trans (b1.mono HB3.out.size); clear b1
          go_wp2_with fail
          refine (C3.out _).mono ?_
          rintro e w5 ⟨rfl, b1⟩
          have HB5 : Hid (Below w.heap.size w w5) := HB4.out.trans (b1.mono HB4.out.size); clear b1
          go_wp2_with fail
          refine (C4.out _).mono ?_
          rintro e w6 ⟨rfl, b1⟩
          have HB6 : Hid (Below w.heap.size w w6) := HB5.out.trans (b1.mono HB5.out.size); clear b1
          go_wp2_with fail
          refine (C5.out _).mono ?_
          rintro e w7 ⟨rfl, b1⟩
          have HB7 : Hid (Below w.heap.size w w7) := HB6.out.trans (b1.mono HB6.out.size); clear b1
          go_wp2_with fail
          refine (impl_sameR _ s2 hs3 s hs2 M0.out).mono ?_
          rintro e w8 ⟨rfl, b1⟩
          have HB8 : Hid (Below w.heap.size w w8) := HB7.out.trans (b1.mono HB7.out.size); clear b1
          go_wp2_with fail
          go_ret
          exact ⟨rfl, HB8.out⟩
        · skip
          have oa : joinOk s.data.toList sp.data.toList = true := by
            cases ho : joinOk s.data.toList sp.data.toList with
            | true => rfl
            | false => rw [joinWR_no ho] at hja; cases hja
          have ob : joinOk s2.data.toList sp.data.toList = true := by
            cases ho : joinOk s2.data.toList sp.data.toList with
            | true => rfl
            | false => rw [joinWR_no ho] at hjb; cases hjb
          rw [joinWR_yes oa] at hja
          rw [joinWR_yes ob] at hjb
          simp only [Prod.mk.injEq, true_and] at hja hjb
          have la : s.data.toList.length + sp.data.toList.length ≤ 10 := by
            unfold joinOk at oa; simp only [Bool.and_eq_true, decide_eq_true_eq] at oa; exact oa.2
          have lb : s2.data.toList.length + sp.data.toList.length ≤ 10 := by
            unfold joinOk at ob; simp only [Bool.and_eq_true, decide_eq_true_eq] at ob; exact ob.2
          have ea : ta.data.toList = joinW s.data.toList sp.data.toList := by rw [← hta, ← hja]
          have eb : tb.data.toList = joinW s2.data.toList sp.data.toList := by rw [← htb, ← hjb]
          have Wa : Word ta.data.toList := by rw [ea]; exact (joined_of hwa Wsp la).1
          have Wb : Word tb.data.toList := by rw [eb]; exact (joined_of hwb Wsp lb).1
          have Sa : Hid (ta.size ≤ 1048576) := by rw [Hid, ← len_str, ea, joinW_len]; omega
          have Sb : Hid (tb.size ≤ 1048576) := by rw [Hid, ← len_str, eb, joinW_len]; omega
          have M1 : Hid (sameR ta.data.toList tb.data.toList = true) := same_of Wa Wb (by rw [ea, eb, join_num hwa Wsp la, join_num hwb Wsp lb, hnum]) (by rw [ea, eb, join_sided hwa Wsp la, join_sided hwb Wsp lb, hsid])
          clear oa ob la lb ea eb Wa Wb
          clear hv HV hwa hwb hnum hsid hva hvb hla hlb htx Ra Rb hp hsp esp Wsp ssp hja hjb hta htb
          go_wp2_with fail
          refine (impl_sameR _ s hs2 s2 hs3 HS.out).mono ?_
          rintro e w2 ⟨rfl, b1⟩
          have HB2 : Hid (Below w.heap.size w w2) := HB1.out.trans (b1.mono HB1.out.size); clear b1
          go_wp2_with fail
          refine (spec_sameR _ s hs2 s2 hs3 HS.out).mono ?_
          rintro e w3 ⟨rfl, b1⟩
          have HB3 : Hid (Below w.heap.size w w3) := HB2.out.trans (b1.mono HB2.out.size); clear b1
          go_wp2_with fail
          refine (C2.out _).mono ?_
          rintro e w4 ⟨rfl, b1⟩
          have HB4 : Hid (Below w.heap.size w w4) := HB3.out.trans (b1.mono HB3.out.size); clear b1
          go_wp2_with fail
          refine (C3.out _).mono ?_
          rintro e w5 ⟨rfl, b1⟩
          have HB5 : Hid (Below w.heap.size w w5) := HB4.out.trans (b1.mono HB4.out.size); clear b1
          go_wp2_with fail
          refine (C4.out _).mono ?_
          rintro e w6 ⟨rfl, b1⟩
          have HB6 : Hid (Below w.heap.size w w6) := HB5.out.trans (b1.mono HB5.out.size); clear b1
          go_wp2_with fail
          refine (C5.out _).mono ?_
          rintro e w7 ⟨rfl, b1⟩
          have HB7 : Hid (Below w.heap.size w w7) := HB6.out.trans (b1.mono HB6.out.size); clear b1
          go_wp2_with fail
          refine (impl_sameR _ s2 hs3 s hs2 M0.out).mono ?_
          rintro e w8 ⟨rfl, b1⟩
          have HB8 : Hid (Below w.heap.size w w8) := HB7.out.trans (b1.mono HB7.out.size); clear b1
          go_wp2_with fail
          refine (impl_sameR _ ta Sa.out tb Sb.out M1.out).mono ?_
          rintro e w9 ⟨rfl, b1⟩
          have HB9 : Hid (Below w.heap.size w w9) := HB8.out.trans (b1.mono HB8.out.size); clear b1
          go_wp2_with fail
          go_ret
          exact ⟨rfl, HB9.out⟩

end Go.Proofs.YtfdliekhlcbkcaaDoor

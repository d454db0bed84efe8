/-
  FnWordCorners: the walk of the law.
-/
import Derived.Test.YtfdliekhlcbkcaaDoorDrawWd
import Derived.Test.YtfdliekhlcbkcaaDoorNrm
import Derived.Test.YtfdliekhlcbkcaaDoorWrdJ
import Derived.Test.YtfdliekhlcbkcaaDoorWrdR
import Derived.Test.YtfdliekhlcbkcaaDoorWrdNm
import Derived.Test.YtfdliekhlcbkcaaDoorAbvW
import Derived.Test.YtfdliekhlcbkcaaDoorWrdX
import Derived.Test.YtfdliekhlcbkcaaDoorWrdG
import Derived.Test.YtfdliekhlcbkcaaDoorWrdGf
import Derived.Test.YtfdliekhlcbkcaaDoorGluD
import Derived.BigQuiet
namespace Go.Proofs.YtfdliekhlcbkcaaDoor
open Go.RowKit

set_option maxHeartbeats 800000 in
theorem drawWordCorners_any (w : World) (A : Option Addr) (n c : Nat) (bs : List Int) (h : RdB w A n bs) (hn : n ≤ 1048576) (hc : n ≤ c) :
    Calls Tryd.prog 12 #[.slice A n c] w (DrewW w) := by
  go_enter Tryd.func12, Tryd.ntmps12
  go_wp2_with fail
  refine (opened w A n c bs h hn hc).mono ?_
  rintro e w1 ⟨rfl, r1, b1, s1⟩
  have HR1 := Lib.hid r1; have HB1 := Lib.hid b1; clear r1 b1
  go_wp2_with fail
  refine (word_draw w1 w.heap.size 0 5 HR1.out (by omega) (by omega) (by omega)).mono ?_
  rintro e w2 ⟨t, q', rfl, ht, -, -, g1⟩
  have HB2 := Lib.hid (below_grown HB1.out g1 (Nat.le_refl _) HB1.out.size); clear g1
  go_wp2_with fail
  go_ret
  exact ⟨_, rfl, ht, HB2.out⟩

set_option maxRecDepth 20000 in
set_option maxHeartbeats 3200000 in
theorem walk_FnWordCorners (A : Option Addr) (n c : Nat) (bs : List Int) (w : World) (h : RdB w A n bs) (hm : n ≤ maxLen ∧ n ≤ c) :
    Calls Tryd.prog 3 #[.slice A n c] w fun e w' => e = .returned (.bool true) ∧ Below w.heap.size w w' := by
  have HB0 := Lib.hid h
  have hc := hm.2
  clear h hm
  by_cases hbig : 1048576 < n
  · have hd : decide ((1048576 : Int) < n) = true := by simp; omega
    go_enter Tryd.func3, Tryd.ntmps3
    go_wp2
    go_ret
    exact ⟨rfl, Below.refl _ _⟩
  have hd : decide ((1048576 : Int) < n) = false := by simp; omega
  have hnb : n ≤ 1048576 := by omega
  go_enter Tryd.func3, Tryd.ntmps3
  go_wp2_with fail
  refine (drawWordCorners_any w A n c bs HB0.out hnb hc).mono ?_
  rintro x w1 ⟨s, rfl, hs, b1⟩
  have HB1 := Lib.hid b1; clear b1 hbig hc HB0
  have hs2 : s.size ≤ 1048576 := by omega
  obtain ⟨v, hv⟩ : ∃ v, wordB s.data.toList = v := ⟨_, rfl⟩
  have HV := Lib.hid hv
  cases v with
  | false =>
    have HR0 : Hid (corR s.data.toList = -1) := corR_no hv
    clear hv
    go_wp2_with fail
    refine (impl_corR _ s hs2 HR0.out).mono ?_
    rintro e w2 ⟨rfl, b1⟩
    have HB2 : Hid (Below w.heap.size w w2) := HB1.out.trans (b1.mono HB1.out.size); clear b1
    go_wp2_with fail
    refine (spec_corR _ s hs2 HR0.out).mono ?_
    rintro e w3 ⟨rfl, b1⟩
    have HB3 : Hid (Below w.heap.size w w3) := HB2.out.trans (b1.mono HB2.out.size); clear b1
    go_wp2_with fail
    go_ret
    exact ⟨rfl, HB3.out⟩
  | true =>
    have hw := wordB_iff.1 hv
    have hlen := hw.len
    have hcl := hw.cor_le
    have hnum := hw.numN
    have hpos := hw.pos
    have hlen2 := hlen
    rw [len_str] at hlen2
    obtain ⟨hl1, hl2, hl3⟩ := hlen2
    obtain ⟨ta, hta⟩ : ∃ t : ByteArray, (⟨(turnW s.data.toList).toArray⟩ : ByteArray) = t := ⟨_, rfl⟩
    have ea : ta.data.toList = turnW s.data.toList := by rw [← hta]
    have Ra : turnWR s.data.toList = (true, turnW s.data.toList) := by rw [turnWR, hv]; rfl
    have Ca : Hid (∀ W, Calls Tryd.prog 15 #[.string s] W fun e w' => e = .returned (.tuple #[.string ta, .bool true]) ∧ Below W.heap.size W w') := fun W => hta ▸ impl_turnWR W s hs2 Ra
    have Sa : Hid (ta.size ≤ 1048576) := by rw [Hid, ← len_str, ea, turnW_len, len_str]; omega
    have Wa : Word ta.data.toList := by rw [ea]; exact hw.turn
    obtain ⟨tb, htb⟩ : ∃ t : ByteArray, (⟨(backW s.data.toList).toArray⟩ : ByteArray) = t := ⟨_, rfl⟩
    have eb : tb.data.toList = backW s.data.toList := by rw [← htb]
    have Rb : backWR s.data.toList = (true, backW s.data.toList) := by rw [backWR, hv]; rfl
    have Cb : Hid (∀ W, Calls Tryd.prog 16 #[.string s] W fun e w' => e = .returned (.tuple #[.string tb, .bool true]) ∧ Below W.heap.size W w') := fun W => htb ▸ impl_backWR W s hs2 Rb
    have Sb : Hid (tb.size ≤ 1048576) := by rw [Hid, ← len_str, eb, backW_len, len_str]; omega
    have Wb : Word tb.data.toList := by rw [eb]; exact hw.back
    obtain ⟨tc, htc⟩ : ∃ t : ByteArray, (⟨(namesW s.data.toList 0).toArray⟩ : ByteArray) = t := ⟨_, rfl⟩
    have ec : tc.data.toList = namesW s.data.toList 0 := by rw [← htc]
    have Rc : namesWR s.data.toList = (true, namesW s.data.toList 0) := by rw [namesWR, hv]; rfl
    have Cc : Hid (∀ W, Calls Tryd.prog 17 #[.string s] W fun e w' => e = .returned (.tuple #[.string tc, .bool true]) ∧ Below W.heap.size W w') := fun W => htc ▸ impl_namesWR W s hs2 Rc
    have Sc : Hid (tc.size ≤ 1048576) := by rw [Hid, ← len_str, ec, namesW_len, len_str]; omega
    have Wc : Word tc.data.toList := by rw [ec]; exact hw.names (k := 0) (by omega)
    obtain ⟨k, hk⟩ : ∃ k, corN s.data.toList = k := ⟨_, rfl⟩
    rw [hk] at hcl
    obtain ⟨h2, hh⟩ : ∃ h2, s.size = 2 * h2 := ⟨s.size / 2, by omega⟩
    have R0 : Hid (corR s.data.toList = (k : Int)) := by rw [Hid, corR_yes hv, hk]
    have V1 : Hid (corR ta.data.toList = (k : Int)) := by rw [Hid, corR_yes (wordB_iff.2 Wa), ea, hw.cor_turn, hk]
    have V2 : Hid (corR tb.data.toList = (k : Int)) := by rw [Hid, corR_yes (wordB_iff.2 Wb), eb, hw.cor_back, hk]
    have V3 : Hid (corR tc.data.toList = (k : Int)) := by rw [Hid, corR_yes (wordB_iff.2 Wc), ec, hw.cor_name, hk]
    have q1 : decide ((1 : Int) ≤ (k : Int)) = true := by simp; omega
    have q2 : ((s.size : Int)).tdiv 2 = (h2 : Int) := by rw [hh, show ((2 * h2 : Nat) : Int).tdiv 2 = ((2 * h2 / 2 : Nat) : Int) from rfl]; omega
    have q3 : (s.size : Int) / 2 = (h2 : Int) := by rw [hh]; omega
    have q4 : decide ((k : Int) ≤ (h2 : Int) + 1) = true := decide_eq_true (by have := hcl.2; rw [len_str] at this; omega)
    have q5 : h2 ≤ 5 := by omega
    have q6 : decide ((k : Int) < 0) = false := by simp
    have q7 : ((k : Int) != (k : Int)) = false := by simp
    obtain ⟨sd, hsd⟩ : ∃ sd, sidedB s.data.toList = sd := ⟨_, rfl⟩
    have SD : Hid (sidR s.data.toList = sd) := hsd
    cases sd with
    | false =>
      have HG : Hid (gluR s.data.toList = (false, [])) := gluR_no hsd
      clear hv hw hlen hpos hnum hsd Ra Rb Rc hta htb htc ea eb ec Wa Wb Wc hk hcl hh
      go_wp2_with fail
      refine (impl_corR _ s hs2 R0.out).mono ?_
      rintro e w2 ⟨rfl, b1⟩
      have HB2 : Hid (Below w.heap.size w w2) := HB1.out.trans (b1.mono HB1.out.size); clear b1
      go_wp2_with fail
      refine (spec_corR _ s hs2 R0.out).mono ?_
      rintro e w3 ⟨rfl, b1⟩
      have HB3 : Hid (Below w.heap.size w w3) := HB2.out.trans (b1.mono HB2.out.size); clear b1
      go_wp2_with fail
      refine (Ca.out _).mono ?_
      rintro e w4 ⟨rfl, b1⟩
      have HB4 : Hid (Below w.heap.size w w4) := HB3.out.trans (b1.mono HB3.out.size); clear b1
      go_wp2_with fail
      refine (Cb.out _).mono ?_
      rintro e w5 ⟨rfl, b1⟩
      have HB5 : Hid (Below w.heap.size w w5) := HB4.out.trans (b1.mono HB4.out.size); clear b1
      go_wp2_with fail
      refine (Cc.out _).mono ?_
      rintro e w6 ⟨rfl, b1⟩
      have HB6 : Hid (Below w.heap.size w w6) := HB5.out.trans (b1.mono HB5.out.size); clear b1
      go_wp2_with fail
      refine (impl_gluR _ s hs2 HG.out).mono ?_
      rintro e w7 ⟨v, rfl, o, b1⟩
      have HB7 : Hid (Below w.heap.size w w7) := HB6.out.trans (b1.mono HB6.out.size); clear b1
      obtain ⟨Ag, cg, rfl, r1, -⟩ := o.form' (rfl)
      have HRg := Lib.hid r1; clear o r1
      go_wp2_with fail
      refine (impl_corR _ ta Sa.out V1.out).mono ?_
      rintro e w8 ⟨rfl, b1⟩
      replace HRg := Lib.hid (HRg.out.below b1)
      have HB8 : Hid (Below w.heap.size w w8) := HB7.out.trans (b1.mono HB7.out.size); clear b1
      go_wp2_with fail
      refine (impl_corR _ tb Sb.out V2.out).mono ?_
      rintro e w9 ⟨rfl, b1⟩
      replace HRg := Lib.hid (HRg.out.below b1)
      have HB9 : Hid (Below w.heap.size w w9) := HB8.out.trans (b1.mono HB8.out.size); clear b1
      go_wp2_with fail
      refine (impl_corR _ tc Sc.out V3.out).mono ?_
      rintro e w10 ⟨rfl, b1⟩
      replace HRg := Lib.hid (HRg.out.below b1)
      have HB10 : Hid (Below w.heap.size w w10) := HB9.out.trans (b1.mono HB9.out.size); clear b1
      go_wp2_with fail
      refine (impl_sidR _ s hs2 SD.out).mono ?_
      rintro e w11 ⟨rfl, b1⟩
      replace HRg := Lib.hid (HRg.out.below b1)
      have HB11 : Hid (Below w.heap.size w w11) := HB10.out.trans (b1.mono HB10.out.size); clear b1
      go_wp2_with fail
      go_ret
      exact ⟨rfl, HB11.out⟩
    | true =>
      have HG : Hid (gluR s.data.toList = (true, parL s.data.toList)) := gluR_yes hsd
      have HL : Hid ((parL s.data.toList).length = s.size) := by rw [Hid, parL_len, len_str]
      have HK : Hid (gcorR (parL s.data.toList) = (k : Int)) := by
        rw [Hid, gcorR, if_pos (glu_true (parL_isG hw)), sided_ncor (sided_of_B hsd), hk]
      clear hv hw hlen hpos hnum hsd Ra Rb Rc hta htb htc ea eb ec Wa Wb Wc hk hcl hh
      go_wp2_with fail
      refine (impl_corR _ s hs2 R0.out).mono ?_
      rintro e w2 ⟨rfl, b1⟩
      have HB2 : Hid (Below w.heap.size w w2) := HB1.out.trans (b1.mono HB1.out.size); clear b1
      go_wp2_with fail
      refine (spec_corR _ s hs2 R0.out).mono ?_
      rintro e w3 ⟨rfl, b1⟩
      have HB3 : Hid (Below w.heap.size w w3) := HB2.out.trans (b1.mono HB2.out.size); clear b1
      go_wp2_with fail
      refine (Ca.out _).mono ?_
      rintro e w4 ⟨rfl, b1⟩
      have HB4 : Hid (Below w.heap.size w w4) := HB3.out.trans (b1.mono HB3.out.size); clear b1
      go_wp2_with fail
      refine (Cb.out _).mono ?_
      rintro e w5 ⟨rfl, b1⟩
      have HB5 : Hid (Below w.heap.size w w5) := HB4.out.trans (b1.mono HB4.out.size); clear b1
      go_wp2_with fail
      refine (Cc.out _).mono ?_
      rintro e w6 ⟨rfl, b1⟩
      have HB6 : Hid (Below w.heap.size w w6) := HB5.out.trans (b1.mono HB5.out.size); clear b1
      go_wp2_with fail
      refine (impl_gluR _ s hs2 HG.out).mono ?_
      rintro e w7 ⟨v, rfl, o, b1⟩
      have HB7 : Hid (Below w.heap.size w w7) := HB6.out.trans (b1.mono HB6.out.size); clear b1
      obtain ⟨Ag, cg, rfl, r1, -⟩ := o.form' (HL.out)
      have HRg := Lib.hid r1; clear o r1
      go_wp2_with fail
      refine (impl_corR _ ta Sa.out V1.out).mono ?_
      rintro e w8 ⟨rfl, b1⟩
      replace HRg := Lib.hid (HRg.out.below b1)
      have HB8 : Hid (Below w.heap.size w w8) := HB7.out.trans (b1.mono HB7.out.size); clear b1
      go_wp2_with fail
      refine (impl_corR _ tb Sb.out V2.out).mono ?_
      rintro e w9 ⟨rfl, b1⟩
      replace HRg := Lib.hid (HRg.out.below b1)
      have HB9 : Hid (Below w.heap.size w w9) := HB8.out.trans (b1.mono HB8.out.size); clear b1
      go_wp2_with fail
      refine (impl_corR _ tc Sc.out V3.out).mono ?_
      rintro e w10 ⟨rfl, b1⟩
      replace HRg := Lib.hid (HRg.out.below b1)
      have HB10 : Hid (Below w.heap.size w w10) := HB9.out.trans (b1.mono HB9.out.size); clear b1
      go_wp2_with fail
      refine (impl_sidR _ s hs2 SD.out).mono ?_
      rintro e w11 ⟨rfl, b1⟩
      replace HRg := Lib.hid (HRg.out.below b1)
      have HB11 : Hid (Below w.heap.size w w11) := HB10.out.trans (b1.mono HB10.out.size); clear b1
      go_wp2_with fail
      refine (impl_gcorR _ Ag cg s.size _ HRg.out hs2 HK.out).mono ?_
      rintro e w12 ⟨rfl, b1⟩
      replace HRg := Lib.hid (HRg.out.below b1)
      have HB12 : Hid (Below w.heap.size w w12) := HB11.out.trans (b1.mono HB11.out.size); clear b1
      go_wp2_with fail
      go_ret
      exact ⟨rfl, HB12.out⟩

end Go.Proofs.YtfdliekhlcbkcaaDoor

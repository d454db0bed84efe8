/-
  FnNumber: the walk of the law.
-/
import Derived.Test.YtfdliekhlcbkcaaDoorDrawWd
import Derived.Test.YtfdliekhlcbkcaaDoorNrm
import Derived.Test.YtfdliekhlcbkcaaDoorWrdJ
import Derived.Test.YtfdliekhlcbkcaaDoorWrdR
import Derived.Test.YtfdliekhlcbkcaaDoorWrdNm
import Derived.Test.YtfdliekhlcbkcaaDoorAbvW
import Derived.Test.YtfdliekhlcbkcaaDoorWrdX
import Derived.Test.YtfdliekhlcbkcaaDoorWrdG
import Derived.Test.YtfdliekhlcbkcaaDoorWrdGf
import Derived.Test.YtfdliekhlcbkcaaDoorGluM
import Derived.Test.YtfdliekhlcbkcaaDoorGenus
import Derived.Test.YtfdliekhlcbkcaaDoorLawMap
import Derived.BigQuiet
namespace Go.Proofs.YtfdliekhlcbkcaaDoor
open Go.RowKit

set_option maxHeartbeats 800000 in
theorem drawWordNumber_any (w : World) (A : Option Addr) (n c : Nat) (bs : List Int) (h : RdB w A n bs) (hn : n ≤ 1048576) (hc : n ≤ c) :
    Calls Tryd.prog 21 #[.slice A n c] w (DrewW w) := by
  go_enter Tryd.func21, Tryd.ntmps21
  go_wp2_with fail
  refine (opened w A n c bs h hn hc).mono ?_
  rintro e w1 ⟨rfl, r1, b1, s1⟩
  have HR1 := Lib.hid r1; have HB1 := Lib.hid b1; clear r1 b1
  go_wp2_with fail
  refine (word_draw w1 w.heap.size 0 5 HR1.out (by omega) (by omega) (by omega)).mono ?_
  rintro e w2 ⟨t, q', rfl, ht, -, -, g1⟩
  have HB2 := Lib.hid (below_grown HB1.out g1 (Nat.le_refl _) HB1.out.size); clear g1
  go_wp2_with fail
  go_ret
  exact ⟨_, rfl, ht, HB2.out⟩

set_option maxRecDepth 20000 in
set_option maxHeartbeats 3200000 in
theorem walk_FnNumber (A : Option Addr) (n c : Nat) (bs : List Int) (w : World) (h : RdB w A n bs) (hm : n ≤ maxLen ∧ n ≤ c) :
    Calls Tryd.prog 4 #[.slice A n c] w fun e w' => e = .returned (.bool true) ∧ Below w.heap.size w w' := by
  have HB0 := Lib.hid h
  have hc := hm.2
  clear h hm
  by_cases hbig : 1048576 < n
  · have hd : decide ((1048576 : Int) < n) = true := by simp; omega
    go_enter Tryd.func4, Tryd.ntmps4
    go_wp2
    go_ret
    exact ⟨rfl, Below.refl _ _⟩
  have hd : decide ((1048576 : Int) < n) = false := by simp; omega
  have hnb : n ≤ 1048576 := by omega
  go_enter Tryd.func4, Tryd.ntmps4
  go_wp2_with fail
  refine (drawWordNumber_any w A n c bs HB0.out hnb hc).mono ?_
  rintro x w1 ⟨s, rfl, hs, b1⟩
  have HB1 := Lib.hid b1; clear b1 hbig hc HB0
  have hs2 : s.size ≤ 1048576 := by omega
  obtain ⟨v, hv⟩ : ∃ v, wordB s.data.toList = v := ⟨_, rfl⟩
  have HV := Lib.hid hv
  cases v with
  | false =>
    have HR0 : Hid (numR s.data.toList = -100) := numR_no hv
    clear hv
    go_wp2_with fail
    refine (impl_numR _ s hs2 HR0.out).mono ?_
    rintro e w2 ⟨rfl, b1⟩
    have HB2 : Hid (Below w.heap.size w w2) := HB1.out.trans (b1.mono HB1.out.size); clear b1
    go_wp2_with fail
    refine (spec_numR _ s hs2 HR0.out).mono ?_
    rintro e w3 ⟨rfl, b1⟩
    have HB3 : Hid (Below w.heap.size w w3) := HB2.out.trans (b1.mono HB2.out.size); clear b1
    go_wp2_with fail
    go_ret
    exact ⟨rfl, HB3.out⟩
  | true =>
    have hw := wordB_iff.1 hv
    have hlen := hw.len
    have hcl := hw.cor_le
    have hnum := hw.numN
    have hpos := hw.pos
    have hlen2 := hlen
    rw [len_str] at hlen2
    obtain ⟨hl1, hl2, hl3⟩ := hlen2
    obtain ⟨sd, hsd⟩ : ∃ sd, sidedB s.data.toList = sd := ⟨_, rfl⟩
    have SD : Hid (sidR s.data.toList = sd) := hsd
    cases sd with
    | false =>
      have h1 := hw.cor_one hsd
      obtain ⟨x, hx⟩ : ∃ x, numN s.data.toList = x := ⟨_, rfl⟩
      have R0 : Hid (numR s.data.toList = x) := by rw [Hid, numR_yes hv, hx]
      have hx1 : x ≤ 1 := by rw [← hx]; unfold numN; omega
      have q1 : decide (x ≤ 1) = true := decide_eq_true hx1
      have q2 : (x == -100) = false := by rw [hx] at hnum; simp; omega
      have q3 : (x != x) = false := by simp
      clear hv hw hlen hpos hcl hsd h1 hx
      go_wp2_with fail
      refine (impl_numR _ s hs2 R0.out).mono ?_
      rintro e w2 ⟨rfl, b1⟩
      have HB2 : Hid (Below w.heap.size w w2) := HB1.out.trans (b1.mono HB1.out.size); clear b1
      go_wp2_with fail
      refine (spec_numR _ s hs2 R0.out).mono ?_
      rintro e w3 ⟨rfl, b1⟩
      have HB3 : Hid (Below w.heap.size w w3) := HB2.out.trans (b1.mono HB2.out.size); clear b1
      go_wp2_with fail
      refine (impl_sidR _ s hs2 SD.out).mono ?_
      rintro e w4 ⟨rfl, b1⟩
      have HB4 : Hid (Below w.heap.size w w4) := HB3.out.trans (b1.mono HB3.out.size); clear b1
      go_wp2_with fail
      go_ret
      exact ⟨rfl, HB4.out⟩
    | true =>
      obtain ⟨g, hg1, -, hg3⟩ := word_genus hsd
      have HG : Hid (gluR s.data.toList = (true, parL s.data.toList)) := gluR_yes hsd
      have HL : Hid ((parL s.data.toList).length = s.size) := by rw [Hid, parL_len, len_str]
      have HM : Hid (genusR (corL (parL s.data.toList)) (parL s.data.toList) = (g : Int)) := hg3
      have HP : Hid (gmapR (parL s.data.toList) = (true, corL (parL s.data.toList), parL s.data.toList)) := by rw [Hid, gmapR, if_pos (glu_true (parL_isG hw))]
      obtain ⟨ps, hps⟩ : ∃ p, parL s.data.toList = p := ⟨_, rfl⟩
      rw [hps] at HG HL HM HP
      have HLc : Hid ((corL ps).length = s.size) := by rw [Hid, corL_len]; exact HL.out
      obtain ⟨x, hx⟩ : ∃ x, numN s.data.toList = x := ⟨_, rfl⟩
      have R0 : Hid (numR s.data.toList = x) := by rw [Hid, numR_yes hv, hx]
      rw [hx] at hg1 hnum
      have hg2 : g = 0 ∨ g = 1 ∨ g = 2 ∨ g = 3 := by omega
      clear hv hw hlen hpos hcl hsd hx hg3 hps
      rcases hg2 with rfl | rfl | rfl | rfl
      · obtain rfl : x = 2 := by omega
        clear hg1 hnum
        go_wp2_with fail
        refine (impl_numR _ s hs2 R0.out).mono ?_
        rintro e w2 ⟨rfl, b1⟩
        have HB2 : Hid (Below w.heap.size w w2) := HB1.out.trans (b1.mono HB1.out.size); clear b1
        go_wp2_with fail
        refine (spec_numR _ s hs2 R0.out).mono ?_
        rintro e w3 ⟨rfl, b1⟩
        have HB3 : Hid (Below w.heap.size w w3) := HB2.out.trans (b1.mono HB2.out.size); clear b1
        go_wp2_with fail
        refine (impl_sidR _ s hs2 SD.out).mono ?_
        rintro e w4 ⟨rfl, b1⟩
        have HB4 : Hid (Below w.heap.size w w4) := HB3.out.trans (b1.mono HB3.out.size); clear b1
        go_wp2_with fail
        refine (impl_gluR _ s hs2 HG.out).mono ?_
        rintro e w5 ⟨v, rfl, o, b1⟩
        have HB5 : Hid (Below w.heap.size w w5) := HB4.out.trans (b1.mono HB4.out.size); clear b1
        obtain ⟨Ag, cg, rfl, r1, -⟩ := o.form' (HL.out)
        have HRg := Lib.hid r1; clear o r1
        go_wp2_with fail
        refine (impl_gmapR _ Ag cg s.size ps HRg.out hs2 HP.out).mono ?_
        rintro e w6 ⟨u, u', rfl, o, b1⟩
        have HB6 : Hid (Below w.heap.size w w6) := HB5.out.trans (b1.mono HB5.out.size); clear b1
        obtain ⟨Am, cm, Am', cm', rfl, rfl, r1, r2⟩ := o.form HLc.out HL.out
        have HRm := Lib.hid r1; have HRn := Lib.hid r2; clear o r1 r2
        obtain ⟨w7, hWw, hx, b, hz⟩ := Box.local_ w6 34 (.slice Am s.size cm) (.slice Am' s.size cm')
        have BXm := Lib.hid hx; clear hx hz
        replace HRm := Lib.hid (HRm.out.below b)
        replace HRn := Lib.hid (HRn.out.below b)
        have HB7 := Lib.hid (HB6.out.trans (b.mono HB6.out.size)); clear b
        have cm_0 := BXm.out.cell0; have cm_1 := BXm.out.cell1
        go_wp2_with fail
        refine (impl_genusR _ Am Am' s.size s.size cm cm' (corL ps) ps HRm.out HRn.out hs2 hs2 HM.out).mono ?_
        rintro e w8 ⟨rfl, b1⟩
        have HB8 : Hid (Below w.heap.size w w8) := HB7.out.trans (b1.mono HB7.out.size); clear b1
        go_wp2_with fail
        go_ret
        exact ⟨rfl, HB8.out⟩
      · obtain rfl : x = 0 := by omega
        clear hg1 hnum
        go_wp2_with fail
        refine (impl_numR _ s hs2 R0.out).mono ?_
        rintro e w2 ⟨rfl, b1⟩
        have HB2 : Hid (Below w.heap.size w w2) := HB1.out.trans (b1.mono HB1.out.size); clear b1
        go_wp2_with fail
        refine (spec_numR _ s hs2 R0.out).mono ?_
        rintro e w3 ⟨rfl, b1⟩
        have HB3 : Hid (Below w.heap.size w w3) := HB2.out.trans (b1.mono HB2.out.size); clear b1
        go_wp2_with fail
        refine (impl_sidR _ s hs2 SD.out).mono ?_
        rintro e w4 ⟨rfl, b1⟩
        have HB4 : Hid (Below w.heap.size w w4) := HB3.out.trans (b1.mono HB3.out.size); clear b1
        go_wp2_with fail
        refine (impl_gluR _ s hs2 HG.out).mono ?_
        rintro e w5 ⟨v, rfl, o, b1⟩
        have HB5 : Hid (Below w.heap.size w w5) := HB4.out.trans (b1.mono HB4.out.size); clear b1
        obtain ⟨Ag, cg, rfl, r1, -⟩ := o.form' (HL.out)
        have HRg := Lib.hid r1; clear o r1
        go_wp2_with fail
        refine (impl_gmapR _ Ag cg s.size ps HRg.out hs2 HP.out).mono ?_
        rintro e w6 ⟨u, u', rfl, o, b1⟩
        have HB6 : Hid (Below w.heap.size w w6) := HB5.out.trans (b1.mono HB5.out.size); clear b1
        obtain ⟨Am, cm, Am', cm', rfl, rfl, r1, r2⟩ := o.form HLc.out HL.out
        have HRm := Lib.hid r1; have HRn := Lib.hid r2; clear o r1 r2
        obtain ⟨w7, hWw, hx, b, hz⟩ := Box.local_ w6 34 (.slice Am s.size cm) (.slice Am' s.size cm')
        have BXm := Lib.hid hx; clear hx hz
        replace HRm := Lib.hid (HRm.out.below b)
        replace HRn := Lib.hid (HRn.out.below b)
        have HB7 := Lib.hid (HB6.out.trans (b.mono HB6.out.size)); clear b
        have cm_0 := BXm.out.cell0; have cm_1 := BXm.out.cell1
        go_wp2_with fail
        refine (impl_genusR _ Am Am' s.size s.size cm cm' (corL ps) ps HRm.out HRn.out hs2 hs2 HM.out).mono ?_
        rintro e w8 ⟨rfl, b1⟩
        have HB8 : Hid (Below w.heap.size w w8) := HB7.out.trans (b1.mono HB7.out.size); clear b1
        go_wp2_with fail
        go_ret
        exact ⟨rfl, HB8.out⟩
      · obtain rfl : x = -2 := by omega
        clear hg1 hnum
        go_wp2_with fail
        refine (impl_numR _ s hs2 R0.out).mono ?_
        rintro e w2 ⟨rfl, b1⟩
        have HB2 : Hid (Below w.heap.size w w2) := HB1.out.trans (b1.mono HB1.out.size); clear b1
        go_wp2_with fail
        refine (spec_numR _ s hs2 R0.out).mono ?_
        rintro e w3 ⟨rfl, b1⟩
        have HB3 : Hid (Below w.heap.size w w3) := HB2.out.trans (b1.mono HB2.out.size); clear b1
        go_wp2_with fail
        refine (impl_sidR _ s hs2 SD.out).mono ?_
        rintro e w4 ⟨rfl, b1⟩
        have HB4 : Hid (Below w.heap.size w w4) := HB3.out.trans (b1.mono HB3.out.size); clear b1
        go_wp2_with fail
        refine (impl_gluR _ s hs2 HG.out).mono ?_
        rintro e w5 ⟨v, rfl, o, b1⟩
        have HB5 : Hid (Below w.heap.size w w5) := HB4.out.trans (b1.mono HB4.out.size); clear b1
        obtain ⟨Ag, cg, rfl, r1, -⟩ := o.form' (HL.out)
        have HRg := Lib.hid r1; clear o r1
        go_wp2_with fail
        refine (impl_gmapR _ Ag cg s.size ps HRg.out hs2 HP.out).mono ?_
        rintro e w6 ⟨u, u', rfl, o, b1⟩
        have HB6 : Hid (Below w.heap.size w w6) := HB5.out.trans (b1.mono HB5.out.size); clear b1
        obtain ⟨Am, cm, Am', cm', rfl, rfl, r1, r2⟩ := o.form HLc.out HL.out
        have HRm := Lib.hid r1; have HRn := Lib.hid r2; clear o r1 r2
        obtain ⟨w7, hWw, hx, b, hz⟩ := Box.local_ w6 34 (.slice Am s.size cm) (.slice Am' s.size cm')
        have BXm := Lib.hid hx; clear hx hz
        replace HRm := Lib.hid (HRm.out.below b)
        replace HRn := Lib.hid (HRn.out.below b)
        have HB7 := Lib.hid (HB6.out.trans (b.mono HB6.out.size)); clear b
        have cm_0 := BXm.out.cell0; have cm_1 := BXm.out.cell1
        go_wp2_with fail
        refine (impl_genusR _ Am Am' s.size s.size cm cm' (corL ps) ps HRm.out HRn.out hs2 hs2 HM.out).mono ?_
        rintro e w8 ⟨rfl, b1⟩
        have HB8 : Hid (Below w.heap.size w w8) := HB7.out.trans (b1.mono HB7.out.size); clear b1
        go_wp2_with fail
        go_ret
        exact ⟨rfl, HB8.out⟩
      · obtain rfl : x = -4 := by omega
        clear hg1 hnum
        go_wp2_with fail
        refine (impl_numR _ s hs2 R0.out).mono ?_
        rintro e w2 ⟨rfl, b1⟩
        have HB2 : Hid (Below w.heap.size w w2) := HB1.out.trans (b1.mono HB1.out.size); clear b1
        go_wp2_with fail
        refine (spec_numR _ s hs2 R0.out).mono ?_
        rintro e w3 ⟨rfl, b1⟩
        have HB3 : Hid (Below w.heap.size w w3) := HB2.out.trans (b1.mono HB2.out.size); clear b1
        go_wp2_with fail
        refine (impl_sidR _ s hs2 SD.out).mono ?_
        rintro e w4 ⟨rfl, b1⟩
        have HB4 : Hid (Below w.heap.size w w4) := HB3.out.trans (b1.mono HB3.out.size); clear b1
        go_wp2_with fail
        refine (impl_gluR _ s hs2 HG.out).mono ?_
        rintro e w5 ⟨v, rfl, o, b1⟩
        have HB5 : Hid (Below w.heap.size w w5) := HB4.out.trans (b1.mono HB4.out.size); clear b1
        obtain ⟨Ag, cg, rfl, r1, -⟩ := o.form' (HL.out)
        have HRg := Lib.hid r1; clear o r1
        go_wp2_with fail
        refine (impl_gmapR _ Ag cg s.size ps HRg.out hs2 HP.out).mono ?_
        rintro e w6 ⟨u, u', rfl, o, b1⟩
        have HB6 : Hid (Below w.heap.size w w6) := HB5.out.trans (b1.mono HB5.out.size); clear b1
        obtain ⟨Am, cm, Am', cm', rfl, rfl, r1, r2⟩ := o.form HLc.out HL.out
        have HRm := Lib.hid r1; have HRn := Lib.hid r2; clear o r1 r2
        obtain ⟨w7, hWw, hx, b, hz⟩ := Box.local_ w6 34 (.slice Am s.size cm) (.slice Am' s.size cm')
        have BXm := Lib.hid hx; clear hx hz
        replace HRm := Lib.hid (HRm.out.below b)
        replace HRn := Lib.hid (HRn.out.below b)
        have HB7 := Lib.hid (HB6.out.trans (b.mono HB6.out.size)); clear b
        have cm_0 := BXm.out.cell0; have cm_1 := BXm.out.cell1
        go_wp2_with fail
        refine (impl_genusR _ Am Am' s.size s.size cm cm' (corL ps) ps HRm.out HRn.out hs2 hs2 HM.out).mono ?_
        rintro e w8 ⟨rfl, b1⟩
        have HB8 : Hid (Below w.heap.size w w8) := HB7.out.trans (b1.mono HB7.out.size); clear b1
        go_wp2_with fail
        go_ret
        exact ⟨rfl, HB8.out⟩

end Go.Proofs.YtfdliekhlcbkcaaDoor

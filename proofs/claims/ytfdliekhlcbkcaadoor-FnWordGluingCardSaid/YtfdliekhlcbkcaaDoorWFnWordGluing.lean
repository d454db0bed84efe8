/-
  FnWordGluing: the walk of the law.
-/
import Derived.Test.YtfdliekhlcbkcaaDoorDrawWd
import Derived.Test.YtfdliekhlcbkcaaDoorNrm
import Derived.Test.YtfdliekhlcbkcaaDoorWrdJ
import Derived.Test.YtfdliekhlcbkcaaDoorWrdR
import Derived.Test.YtfdliekhlcbkcaaDoorWrdNm
import Derived.Test.YtfdliekhlcbkcaaDoorAbvW
import Derived.Test.YtfdliekhlcbkcaaDoorWrdX
import Derived.Test.YtfdliekhlcbkcaaDoorWrdG
import Derived.Test.YtfdliekhlcbkcaaDoorWrdGf
import Derived.Test.YtfdliekhlcbkcaaDoorGluD
import Derived.Test.YtfdliekhlcbkcaaDoorGluV
import Derived.Test.YtfdliekhlcbkcaaDoorLawMap
import Derived.BigQuiet
namespace Go.Proofs.YtfdliekhlcbkcaaDoor
open Go.RowKit

theorem sameInts_low (w : World) (A A' : Option Addr) (n m c c' : Nat) (xs ys : List Int) (h : Rd w A n xs) (h' : Rd w A' m ys) (hn : n ≤ 1048576) (hm : m ≤ 1048576) {r : Bool} (hR : eqB xs ys = r) :
    Calls Tryd.prog 44 #[.slice A n c, .slice A' m c'] w fun e w' => e = .returned (.bool r) ∧ Below w.heap.size w w' :=
  (sameInts_any A A' n m c c' xs ys w h h' (by unfold maxLen; omega) (by unfold maxLen; omega)).mono fun e w' ⟨h1, k, h2⟩ => ⟨by rw [h1, hR], by rw [h2]; exact below_drewN (Below.refl _ _) k⟩

set_option maxHeartbeats 800000 in
theorem drawWordGluing_any (w : World) (A : Option Addr) (n c : Nat) (bs : List Int) (h : RdB w A n bs) (hn : n ≤ 1048576) (hc : n ≤ c) :
    Calls Tryd.prog 42 #[.slice A n c] w (DrewW w) := by
  go_enter Tryd.func42, Tryd.ntmps42
  go_wp2_with fail
  refine (opened w A n c bs h hn hc).mono ?_
  rintro e w1 ⟨rfl, r1, b1, s1⟩
  have HR1 := Lib.hid r1; have HB1 := Lib.hid b1; clear r1 b1
  go_wp2_with fail
  refine (word_draw w1 w.heap.size 0 5 HR1.out (by omega) (by omega) (by omega)).mono ?_
  rintro e w2 ⟨t, q', rfl, ht, -, -, g1⟩
  have HB2 := Lib.hid (below_grown HB1.out g1 (Nat.le_refl _) HB1.out.size); clear g1
  go_wp2_with fail
  go_ret
  exact ⟨_, rfl, ht, HB2.out⟩

set_option maxRecDepth 20000 in
set_option maxHeartbeats 3200000 in
theorem walk_FnWordGluing (A : Option Addr) (n c : Nat) (bs : List Int) (w : World) (h : RdB w A n bs) (hm : n ≤ maxLen ∧ n ≤ c) :
    Calls Tryd.prog 11 #[.slice A n c] w fun e w' => e = .returned (.bool true) ∧ Below w.heap.size w w' := by
  have HB0 := Lib.hid h
  have hc := hm.2
  clear h hm
  by_cases hbig : 1048576 < n
  · have hd : decide ((1048576 : Int) < n) = true := by simp; omega
    go_enter Tryd.func11, Tryd.ntmps11
    go_wp2
    go_ret
    exact ⟨rfl, Below.refl _ _⟩
  have hd : decide ((1048576 : Int) < n) = false := by simp; omega
  have hnb : n ≤ 1048576 := by omega
  go_enter Tryd.func11, Tryd.ntmps11
  go_wp2_with fail
  refine (drawWordGluing_any w A n c bs HB0.out hnb hc).mono ?_
  rintro x w1 ⟨s, rfl, hs, b1⟩
  have HB1 := Lib.hid b1; clear b1 hbig hc HB0
  have hs2 : s.size ≤ 1048576 := by omega
  obtain ⟨v, hv⟩ : ∃ v, sidedB s.data.toList = v := ⟨_, rfl⟩
  have EQ : ∀ xs : List Int, eqB xs xs = true := fun xs => by unfold eqB; simp
  cases v with
  | false =>
    have HG : Hid (gluR s.data.toList = (false, [])) := gluR_no hv
    clear hv
    go_wp2_with fail
    refine (impl_gluR _ s hs2 HG.out).mono ?_
    rintro e w2 ⟨v, rfl, o, b1⟩
    have HB2 : Hid (Below w.heap.size w w2) := HB1.out.trans (b1.mono HB1.out.size); clear b1
    obtain ⟨Ag, cg, rfl, r1, -⟩ := o.form' (rfl)
    have HRg := Lib.hid r1; clear o r1
    go_wp2_with fail
    refine (spec_gluR _ s hs2 HG.out).mono ?_
    rintro e w3 ⟨v, rfl, o, b1⟩
    replace HRg := Lib.hid (HRg.out.below b1)
    have HB3 : Hid (Below w.heap.size w w3) := HB2.out.trans (b1.mono HB2.out.size); clear b1
    obtain ⟨Ah, ch, rfl, r1, -⟩ := o.form' (rfl)
    have HRh := Lib.hid r1; clear o r1
    go_wp2_with fail
    refine (sameInts_low _ Ag Ah 0 0 cg ch [] [] HRg.out HRh.out (by omega) (by omega) (EQ [])).mono ?_
    rintro e w4 ⟨rfl, b1⟩
    replace HRg := Lib.hid (HRg.out.below b1)
    replace HRh := Lib.hid (HRh.out.below b1)
    have HB4 : Hid (Below w.heap.size w w4) := HB3.out.trans (b1.mono HB3.out.size); clear b1
    go_wp2_with fail
    refine (sameInts_low _ Ag Ah 0 0 cg ch [] [] HRg.out HRh.out (by omega) (by omega) (EQ [])).mono ?_
    rintro e w5 ⟨rfl, b1⟩
    replace HRg := Lib.hid (HRg.out.below b1)
    replace HRh := Lib.hid (HRh.out.below b1)
    have HB5 : Hid (Below w.heap.size w w5) := HB4.out.trans (b1.mono HB4.out.size); clear b1
    go_wp2_with fail
    go_ret
    exact ⟨rfl, HB5.out⟩
  | true =>
    have hs1 := sided_of_B hv
    have hw := hs1.w
    have hv2 := wordB_iff.2 hw
    have hlen := hw.len
    rw [len_str] at hlen
    obtain ⟨hl1, hl2, hl3⟩ := hlen
    have HG : Hid (gluR s.data.toList = (true, parL s.data.toList)) := gluR_yes hv
    have HL : Hid ((parL s.data.toList).length = s.size) := by rw [Hid, parL_len, len_str]
    obtain ⟨ta, hta⟩ : ∃ t : ByteArray, (⟨(turnW s.data.toList).toArray⟩ : ByteArray) = t := ⟨_, rfl⟩
    have ea : ta.data.toList = turnW s.data.toList := by rw [← hta]
    have Ra : turnWR s.data.toList = (true, turnW s.data.toList) := by rw [turnWR, hv2]; rfl
    have sa : ta.size = s.size := by rw [← len_str, ea, turnW_len, len_str]
    have HGa : Hid (gluR ta.data.toList = (true, parL (turnW s.data.toList))) := by rw [Hid, ea]; exact gluR_yes (sided_turnB hv)
    have HLa : Hid ((parL (turnW s.data.toList)).length = s.size) := by rw [Hid, parL_len, turnW_len, len_str]
    have HT : Hid (gtuR (parL (turnW s.data.toList)) = (true, parL s.data.toList)) := by
      rw [Hid, gtuR, if_pos (glu_true (parL_isG hw.turn)), parL_turn hw]
    have HV2 : Hid (glu (parL s.data.toList) = true) := glu_true (parL_isG hw)
    have HK : Hid (gcorR (parL s.data.toList) = (corN s.data.toList : Int)) := by
      rw [Hid, gcorR, if_pos (glu_true (parL_isG hw)), sided_ncor hs1]
    have HC : Hid (corR s.data.toList = (corN s.data.toList : Int)) := corR_yes hv2
    obtain ⟨k, hk⟩ : ∃ k, corN s.data.toList = k := ⟨_, rfl⟩
    rw [hk] at HK HC
    have q7 : ((k : Int) == (k : Int)) = true := by simp
    have Ca : Hid (∀ W, Calls Tryd.prog 15 #[.string s] W fun e w' => e = .returned (.tuple #[.string ta, .bool true]) ∧ Below W.heap.size W w') := fun W => hta ▸ impl_turnWR W s hs2 Ra
    obtain ⟨ps, hps⟩ : ∃ p, parL s.data.toList = p := ⟨_, rfl⟩
    obtain ⟨pt, hpt⟩ : ∃ p, parL (turnW s.data.toList) = p := ⟨_, rfl⟩
    rw [hps] at HG HL HT HV2 HK
    rw [hpt] at HGa HLa HT
    clear hv hs1 hw hv2 hta ea Ra hk hps hpt
    go_wp2_with fail
    refine (impl_gluR _ s hs2 HG.out).mono ?_
    rintro e w2 ⟨v, rfl, o, b1⟩
    have HB2 : Hid (Below w.heap.size w w2) := HB1.out.trans (b1.mono HB1.out.size); clear b1
    obtain ⟨Ag, cg, rfl, r1, -⟩ := o.form' (HL.out)
    have HRg := Lib.hid r1; clear o r1
    go_wp2_with fail
    refine (spec_gluR _ s hs2 HG.out).mono ?_
    rintro e w3 ⟨v, rfl, o, b1⟩
    replace HRg := Lib.hid (HRg.out.below b1)
    have HB3 : Hid (Below w.heap.size w w3) := HB2.out.trans (b1.mono HB2.out.size); clear b1
    obtain ⟨Ah, ch, rfl, r1, -⟩ := o.form' (HL.out)
    have HRh := Lib.hid r1; clear o r1
    go_wp2_with fail
    refine (sameInts_low _ Ag Ah s.size s.size cg ch ps ps HRg.out HRh.out hs2 hs2 (EQ ps)).mono ?_
    rintro e w4 ⟨rfl, b1⟩
    replace HRg := Lib.hid (HRg.out.below b1)
    replace HRh := Lib.hid (HRh.out.below b1)
    have HB4 : Hid (Below w.heap.size w w4) := HB3.out.trans (b1.mono HB3.out.size); clear b1
    go_wp2_with fail
    refine (Ca.out _).mono ?_
    rintro e w5 ⟨rfl, b1⟩
    replace HRg := Lib.hid (HRg.out.below b1)
    replace HRh := Lib.hid (HRh.out.below b1)
    have HB5 : Hid (Below w.heap.size w w5) := HB4.out.trans (b1.mono HB4.out.size); clear b1
    go_wp2_with fail
    refine (impl_gluR _ ta (by omega) HGa.out).mono ?_
    rintro e w6 ⟨v, rfl, o, b1⟩
    replace HRg := Lib.hid (HRg.out.below b1)
    replace HRh := Lib.hid (HRh.out.below b1)
    have HB6 : Hid (Below w.heap.size w w6) := HB5.out.trans (b1.mono HB5.out.size); clear b1
    obtain ⟨Ax, cx, rfl, r1, -⟩ := o.form' (HLa.out)
    have HRx := Lib.hid r1; clear o r1
    go_wp2_with fail
    refine (impl_gtuR _ Ax cx s.size pt HRx.out hs2 HT.out).mono ?_
    rintro e w7 ⟨v, rfl, o, b1⟩
    replace HRg := Lib.hid (HRg.out.below b1)
    replace HRh := Lib.hid (HRh.out.below b1)
    replace HRx := Lib.hid (HRx.out.below b1)
    have HB7 : Hid (Below w.heap.size w w7) := HB6.out.trans (b1.mono HB6.out.size); clear b1
    obtain ⟨Ay, cy, rfl, r1, -⟩ := o.form' (HL.out)
    have HRy := Lib.hid r1; clear o r1
    go_wp2_with fail
    refine (sameInts_low _ Ay Ag s.size s.size cy cg ps ps HRy.out HRg.out hs2 hs2 (EQ ps)).mono ?_
    rintro e w8 ⟨rfl, b1⟩
    replace HRg := Lib.hid (HRg.out.below b1)
    replace HRh := Lib.hid (HRh.out.below b1)
    replace HRx := Lib.hid (HRx.out.below b1)
    replace HRy := Lib.hid (HRy.out.below b1)
    have HB8 : Hid (Below w.heap.size w w8) := HB7.out.trans (b1.mono HB7.out.size); clear b1
    go_wp2_with fail
    refine (impl_glu _ Ag cg s.size ps HRg.out hs2 HV2.out).mono ?_
    rintro e w9 ⟨rfl, b1⟩
    replace HRg := Lib.hid (HRg.out.below b1)
    replace HRh := Lib.hid (HRh.out.below b1)
    replace HRx := Lib.hid (HRx.out.below b1)
    replace HRy := Lib.hid (HRy.out.below b1)
    have HB9 : Hid (Below w.heap.size w w9) := HB8.out.trans (b1.mono HB8.out.size); clear b1
    go_wp2_with fail
    refine (impl_gcorR _ Ag cg s.size ps HRg.out hs2 HK.out).mono ?_
    rintro e w10 ⟨rfl, b1⟩
    replace HRg := Lib.hid (HRg.out.below b1)
    replace HRh := Lib.hid (HRh.out.below b1)
    replace HRx := Lib.hid (HRx.out.below b1)
    replace HRy := Lib.hid (HRy.out.below b1)
    have HB10 : Hid (Below w.heap.size w w10) := HB9.out.trans (b1.mono HB9.out.size); clear b1
    go_wp2_with fail
    refine (impl_corR _ s hs2 HC.out).mono ?_
    rintro e w11 ⟨rfl, b1⟩
    replace HRg := Lib.hid (HRg.out.below b1)
    replace HRh := Lib.hid (HRh.out.below b1)
    replace HRx := Lib.hid (HRx.out.below b1)
    replace HRy := Lib.hid (HRy.out.below b1)
    have HB11 : Hid (Below w.heap.size w w11) := HB10.out.trans (b1.mono HB10.out.size); clear b1
    go_wp2_with fail
    go_ret
    exact ⟨rfl, HB11.out⟩

end Go.Proofs.YtfdliekhlcbkcaaDoor

/-
  FnNormal: the walk of the law.
-/
import Derived.Test.YtfdliekhlcbkcaaDoorDrawWd
import Derived.Test.YtfdliekhlcbkcaaDoorNrm
import Derived.Test.YtfdliekhlcbkcaaDoorWrdJ
import Derived.Test.YtfdliekhlcbkcaaDoorWrdR
import Derived.Test.YtfdliekhlcbkcaaDoorWrdNm
import Derived.Test.YtfdliekhlcbkcaaDoorAbvW
import Derived.Test.YtfdliekhlcbkcaaDoorWrdX
import Derived.Test.YtfdliekhlcbkcaaDoorWrdS
import Derived.BigQuiet
namespace Go.Proofs.YtfdliekhlcbkcaaDoor
open Go.RowKit
theorem text_beqX (a : ByteArray) : (a == a) = true := by
  cases a with
  | mk d =>
    show (d == d) = true
    simp
theorem text_bneX (a : ByteArray) : (a != a) = false := by rw [bne, text_beqX]; rfl
theorem loop_ne (bs : ByteArray) : ∀ (k i : Nat) (r : List UInt8), bs.size - i = k → r ≠ [] → ByteArray.toList.loop bs i r ≠ [] := by
  intro k
  induction k with
  | zero =>
    intro i r h hr
    unfold ByteArray.toList.loop
    rw [if_neg (by omega)]
    simpa using hr
  | succ k ih =>
    intro i r h hr
    unfold ByteArray.toList.loop
    rw [if_pos (by omega)]
    exact ih _ _ (by omega) (by simp)
theorem text_some (a : ByteArray) (h : 0 < a.size) : a.toList.isEmpty = false := by
  have : a.toList ≠ [] := by
    unfold ByteArray.toList ByteArray.toList.loop
    rw [if_pos h]
    exact loop_ne a _ _ _ rfl (by simp)
  simpa using this

set_option maxHeartbeats 800000 in
theorem drawWordNormal_any (w : World) (A : Option Addr) (n c : Nat) (bs : List Int) (h : RdB w A n bs) (hn : n ≤ 1048576) (hc : n ≤ c) :
    Calls Tryd.prog 30 #[.slice A n c] w (DrewW w) := by
  go_enter Tryd.func30, Tryd.ntmps30
  go_wp2_with fail
  refine (opened w A n c bs h hn hc).mono ?_
  rintro e w1 ⟨rfl, r1, b1, s1⟩
  have HR1 := Lib.hid r1; have HB1 := Lib.hid b1; clear r1 b1
  go_wp2_with fail
  refine (word_draw w1 w.heap.size 0 5 HR1.out (by omega) (by omega) (by omega)).mono ?_
  rintro e w2 ⟨t, q', rfl, ht, -, -, g1⟩
  have HB2 := Lib.hid (below_grown HB1.out g1 (Nat.le_refl _) HB1.out.size); clear g1
  go_wp2_with fail
  go_ret
  exact ⟨_, rfl, ht, HB2.out⟩

set_option maxRecDepth 20000 in
set_option maxHeartbeats 3200000 in
theorem walk_FnNormal (A : Option Addr) (n c : Nat) (bs : List Int) (w : World) (h : RdB w A n bs) (hm : n ≤ maxLen ∧ n ≤ c) :
    Calls Tryd.prog 6 #[.slice A n c] w fun e w' => e = .returned (.bool true) ∧ Below w.heap.size w w' := by
  have HB0 := Lib.hid h
  have hc := hm.2
  clear h hm
  by_cases hbig : 1048576 < n
  · have hd : decide ((1048576 : Int) < n) = true := by simp; omega
    go_enter Tryd.func6, Tryd.ntmps6
    go_wp2
    go_ret
    exact ⟨rfl, Below.refl _ _⟩
  have hd : decide ((1048576 : Int) < n) = false := by simp; omega
  have hnb : n ≤ 1048576 := by omega
  go_enter Tryd.func6, Tryd.ntmps6
  go_wp2_with fail
  refine (drawWordNormal_any w A n c bs HB0.out hnb hc).mono ?_
  rintro x w1 ⟨s, rfl, hs, b1⟩
  have HB1 := Lib.hid b1; clear b1 hbig hc HB0
  have hs2 : s.size ≤ 1048576 := by omega
  obtain ⟨v, hv⟩ : ∃ v, wordB s.data.toList = v := ⟨_, rfl⟩
  have HV := Lib.hid hv
  cases v with
  | false =>
    have HR0 : Hid (nrmR s.data.toList = (false, [])) := nrmR_no hv
    clear hv
    go_wp2_with fail
    refine (impl_nrmR _ s hs2 HR0.out).mono ?_
    rintro e w2 ⟨rfl, b1⟩
    have HB2 : Hid (Below w.heap.size w w2) := HB1.out.trans (b1.mono HB1.out.size); clear b1
    go_wp2_with fail
    refine (spec_nrmR _ s hs2 HR0.out).mono ?_
    rintro e w3 ⟨rfl, b1⟩
    have HB3 : Hid (Below w.heap.size w w3) := HB2.out.trans (b1.mono HB2.out.size); clear b1
    go_wp2_with fail
    go_ret
    exact ⟨rfl, HB3.out⟩
  | true =>
    have hw := wordB_iff.1 hv
    have hlen := hw.len
    have hcl := hw.cor_le
    have hnum := hw.numN
    have hpos := hw.pos
    have hlen2 := hlen
    rw [len_str] at hlen2
    obtain ⟨hl1, hl2, hl3⟩ := hlen2
    obtain ⟨td, htd⟩ : ∃ t : ByteArray, (⟨(nrmN s.data.toList).toArray⟩ : ByteArray) = t := ⟨_, rfl⟩
    have ed : td.data.toList = nrmN s.data.toList := by rw [← htd]
    have Rd : nrmR s.data.toList = (true, nrmN s.data.toList) := by rw [nrmR, hv]; rfl
    have Cd : Hid (∀ W, Calls Tryd.prog 29 #[.string s] W fun e w' => e = .returned (.tuple #[.string td, .bool true]) ∧ Below W.heap.size W w') := fun W => htd ▸ impl_nrmR W s hs2 Rd
    have Sd : Hid (td.size ≤ 1048576) := by
      rw [Hid, ← len_str, ed]
      have := hw.normal.2.2.2.1
      rw [len_str] at this
      omega
    have Wd : Word td.data.toList := by rw [ed]; exact hw.normal.1
    obtain ⟨hn1, hn2, hn3, hn4, hn5⟩ := hw.normal
    have sd : td.size ≤ s.size := by rw [← len_str, ed, ← len_str]; exact hn4
    have q0 : (td != td) = false := text_bneX td
    have q1 : (td == td) = true := text_beqX td
    have q4 : (!(td == td)) = false := by rw [q1]; rfl
    have q5 : decide ((td.size : Int) ≤ (s.size : Int)) = true := decide_eq_true (by omega)
    have q55 : decide (td.size ≤ s.size) = true := decide_eq_true sd
    have Rx : nrmR td.data.toList = (true, nrmN s.data.toList) := by rw [nrmR_yes (wordB_iff.2 Wd), ed]; congr 1; exact (cls_of hn2 hn3).2
    have SM : Hid (sameR td.data.toList s.data.toList = true) := same_of Wd hw (by rw [ed]; exact hn2) (by rw [ed]; exact hn3)
    have KR : corR td.data.toList = (corN (nrmN s.data.toList) : Int) := by rw [corR_yes (wordB_iff.2 Wd), ed]
    have C1 : Hid (∀ W, Calls Tryd.prog 31 #[.string s] W fun e w' => e = .returned (.tuple #[.string td, .bool true]) ∧ Below W.heap.size W w') := fun W => htd ▸ spec_nrmR W s hs2 Rd
    have C2 : Hid (∀ W, Calls Tryd.prog 29 #[.string td] W fun e w' => e = .returned (.tuple #[.string td, .bool true]) ∧ Below W.heap.size W w') := fun W => htd ▸ impl_nrmR W td Sd.out Rx
    rcases hn5 with hn5 | ⟨hn5, hn6⟩
    · have KC : Hid (corR td.data.toList = 1) := by rw [Hid, KR, hn5]; rfl
      clear hv hw hlen hpos hnum Rd htd ed Wd hcl hn1 hn2 hn3 hn4 hn5 Rx KR sd
      go_wp2_with fail
      refine (Cd.out _).mono ?_
      rintro e w2 ⟨rfl, b1⟩
      have HB2 : Hid (Below w.heap.size w w2) := HB1.out.trans (b1.mono HB1.out.size); clear b1
      go_wp2_with fail
      refine (C1.out _).mono ?_
      rintro e w3 ⟨rfl, b1⟩
      have HB3 : Hid (Below w.heap.size w w3) := HB2.out.trans (b1.mono HB2.out.size); clear b1
      go_wp2_with fail
      refine (C2.out _).mono ?_
      rintro e w4 ⟨rfl, b1⟩
      have HB4 : Hid (Below w.heap.size w w4) := HB3.out.trans (b1.mono HB3.out.size); clear b1
      go_wp2_with fail
      refine (impl_corR _ td Sd.out KC.out).mono ?_
      rintro e w5 ⟨rfl, b1⟩
      have HB5 : Hid (Below w.heap.size w w5) := HB4.out.trans (b1.mono HB4.out.size); clear b1
      go_wp2_with fail
      refine (impl_sameR _ td Sd.out s hs2 SM.out).mono ?_
      rintro e w6 ⟨rfl, b1⟩
      have HB6 : Hid (Below w.heap.size w w6) := HB5.out.trans (b1.mono HB5.out.size); clear b1
      go_wp2_with fail
      go_ret
      exact ⟨rfl, HB6.out⟩
    · have KC : Hid (corR td.data.toList = 2) := by rw [Hid, KR, hn5]; rfl
      have q6 : (td.toList == [97, 65]) = true := by rw [← htd, hn6]; decide +kernel
      clear hv hw hlen hpos hnum Rd htd ed Wd hcl hn1 hn2 hn3 hn4 hn5 Rx KR sd
      go_wp2_with fail
      refine (Cd.out _).mono ?_
      rintro e w2 ⟨rfl, b1⟩
      have HB2 : Hid (Below w.heap.size w w2) := HB1.out.trans (b1.mono HB1.out.size); clear b1
      go_wp2_with fail
      refine (C1.out _).mono ?_
      rintro e w3 ⟨rfl, b1⟩
      have HB3 : Hid (Below w.heap.size w w3) := HB2.out.trans (b1.mono HB2.out.size); clear b1
      go_wp2_with fail
      refine (C2.out _).mono ?_
      rintro e w4 ⟨rfl, b1⟩
      have HB4 : Hid (Below w.heap.size w w4) := HB3.out.trans (b1.mono HB3.out.size); clear b1
      go_wp2_with fail
      refine (impl_corR _ td Sd.out KC.out).mono ?_
      rintro e w5 ⟨rfl, b1⟩
      have HB5 : Hid (Below w.heap.size w w5) := HB4.out.trans (b1.mono HB4.out.size); clear b1
      go_wp2_with fail
      refine (impl_sameR _ td Sd.out s hs2 SM.out).mono ?_
      rintro e w6 ⟨rfl, b1⟩
      have HB6 : Hid (Below w.heap.size w w6) := HB5.out.trans (b1.mono HB5.out.size); clear b1
      go_wp2_with fail
      go_ret
      exact ⟨rfl, HB6.out⟩

end Go.Proofs.YtfdliekhlcbkcaaDoor

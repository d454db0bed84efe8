/-
  FnClass: the walk of the law.
-/
import Derived.Test.YtfdliekhlcbkcaaDoorDrawWd
import Derived.Test.YtfdliekhlcbkcaaDoorNrm
import Derived.Test.YtfdliekhlcbkcaaDoorWrdJ
import Derived.Test.YtfdliekhlcbkcaaDoorWrdR
import Derived.Test.YtfdliekhlcbkcaaDoorWrdNm
import Derived.Test.YtfdliekhlcbkcaaDoorAbvW
import Derived.BigQuiet
namespace Go.Proofs.YtfdliekhlcbkcaaDoor
open Go.RowKit
theorem text_beqX (a : ByteArray) : (a == a) = true := by
  cases a with
  | mk d =>
    show (d == d) = true
    simp
theorem text_bneX (a : ByteArray) : (a != a) = false := by rw [bne, text_beqX]; rfl
theorem loop_ne (bs : ByteArray) : ∀ (k i : Nat) (r : List UInt8), bs.size - i = k → r ≠ [] → ByteArray.toList.loop bs i r ≠ [] := by
  intro k
  induction k with
  | zero =>
    intro i r h hr
    unfold ByteArray.toList.loop
    rw [if_neg (by omega)]
    simpa using hr
  | succ k ih =>
    intro i r h hr
    unfold ByteArray.toList.loop
    rw [if_pos (by omega)]
    exact ih _ _ (by omega) (by simp)
theorem text_some (a : ByteArray) (h : 0 < a.size) : a.toList.isEmpty = false := by
  have : a.toList ≠ [] := by
    unfold ByteArray.toList ByteArray.toList.loop
    rw [if_pos h]
    exact loop_ne a _ _ _ rfl (by simp)
  simpa using this

set_option maxHeartbeats 800000 in
theorem drawWordClass_any (w : World) (A : Option Addr) (n c : Nat) (bs : List Int) (h : RdB w A n bs) (hn : n ≤ 1048576) (hc : n ≤ c) :
    Calls Tryd.prog 26 #[.slice A n c] w (DrewW w) := by
  go_enter Tryd.func26, Tryd.ntmps26
  go_wp2_with fail
  refine (opened w A n c bs h hn hc).mono ?_
  rintro e w1 ⟨rfl, r1, b1, s1⟩
  have HR1 := Lib.hid r1; have HB1 := Lib.hid b1; clear r1 b1
  go_wp2_with fail
  refine (word_draw w1 w.heap.size 0 5 HR1.out (by omega) (by omega) (by omega)).mono ?_
  rintro e w2 ⟨t, q', rfl, ht, -, -, g1⟩
  have HB2 := Lib.hid (below_grown HB1.out g1 (Nat.le_refl _) HB1.out.size); clear g1
  go_wp2_with fail
  go_ret
  exact ⟨_, rfl, ht, HB2.out⟩

set_option maxRecDepth 20000 in
set_option maxHeartbeats 3200000 in
theorem walk_FnClass (A : Option Addr) (n c : Nat) (bs : List Int) (w : World) (h : RdB w A n bs) (hm : n ≤ maxLen ∧ n ≤ c) :
    Calls Tryd.prog 5 #[.slice A n c] w fun e w' => e = .returned (.bool true) ∧ Below w.heap.size w w' := by
  have HB0 := Lib.hid h
  have hc := hm.2
  clear h hm
  by_cases hbig : 1048576 < n
  · have hd : decide ((1048576 : Int) < n) = true := by simp; omega
    go_enter Tryd.func5, Tryd.ntmps5
    go_wp2
    go_ret
    exact ⟨rfl, Below.refl _ _⟩
  have hd : decide ((1048576 : Int) < n) = false := by simp; omega
  have hnb : n ≤ 1048576 := by omega
  go_enter Tryd.func5, Tryd.ntmps5
  go_wp2_with fail
  refine (drawWordClass_any w A n c bs HB0.out hnb hc).mono ?_
  rintro x w1 ⟨s, rfl, hs, b1⟩
  have HB1 := Lib.hid b1; clear b1 hbig hc HB0
  have hs2 : s.size ≤ 1048576 := by omega
  obtain ⟨v, hv⟩ : ∃ v, wordB s.data.toList = v := ⟨_, rfl⟩
  have HV := Lib.hid hv
  cases v with
  | false =>
    have HR0 : Hid (clsR s.data.toList = []) := clsR_no hv
    clear hv
    go_wp2_with fail
    refine (impl_clsR _ s hs2 HR0.out).mono ?_
    rintro e w2 ⟨rfl, b1⟩
    have HB2 : Hid (Below w.heap.size w w2) := HB1.out.trans (b1.mono HB1.out.size); clear b1
    go_wp2_with fail
    refine (spec_clsR _ s hs2 HR0.out).mono ?_
    rintro e w3 ⟨rfl, b1⟩
    have HB3 : Hid (Below w.heap.size w w3) := HB2.out.trans (b1.mono HB2.out.size); clear b1
    go_wp2_with fail
    go_ret
    exact ⟨rfl, HB3.out⟩
  | true =>
    have hw := wordB_iff.1 hv
    have hlen := hw.len
    have hcl := hw.cor_le
    have hnum := hw.numN
    have hpos := hw.pos
    have hlen2 := hlen
    rw [len_str] at hlen2
    obtain ⟨hl1, hl2, hl3⟩ := hlen2
    obtain ⟨ta, hta⟩ : ∃ t : ByteArray, (⟨(turnW s.data.toList).toArray⟩ : ByteArray) = t := ⟨_, rfl⟩
    have ea : ta.data.toList = turnW s.data.toList := by rw [← hta]
    have Ra : turnWR s.data.toList = (true, turnW s.data.toList) := by rw [turnWR, hv]; rfl
    have Ca : Hid (∀ W, Calls Tryd.prog 15 #[.string s] W fun e w' => e = .returned (.tuple #[.string ta, .bool true]) ∧ Below W.heap.size W w') := fun W => hta ▸ impl_turnWR W s hs2 Ra
    have Sa : Hid (ta.size ≤ 1048576) := by rw [Hid, ← len_str, ea, turnW_len, len_str]; omega
    have Wa : Word ta.data.toList := by rw [ea]; exact hw.turn
    obtain ⟨tb, htb⟩ : ∃ t : ByteArray, (⟨(backW s.data.toList).toArray⟩ : ByteArray) = t := ⟨_, rfl⟩
    have eb : tb.data.toList = backW s.data.toList := by rw [← htb]
    have Rb : backWR s.data.toList = (true, backW s.data.toList) := by rw [backWR, hv]; rfl
    have Cb : Hid (∀ W, Calls Tryd.prog 16 #[.string s] W fun e w' => e = .returned (.tuple #[.string tb, .bool true]) ∧ Below W.heap.size W w') := fun W => htb ▸ impl_backWR W s hs2 Rb
    have Sb : Hid (tb.size ≤ 1048576) := by rw [Hid, ← len_str, eb, backW_len, len_str]; omega
    have Wb : Word tb.data.toList := by rw [eb]; exact hw.back
    obtain ⟨td, htd⟩ : ∃ t : ByteArray, (⟨(nrmN s.data.toList).toArray⟩ : ByteArray) = t := ⟨_, rfl⟩
    have ed : td.data.toList = nrmN s.data.toList := by rw [← htd]
    have Rd : nrmR s.data.toList = (true, nrmN s.data.toList) := by rw [nrmR, hv]; rfl
    have Cd : Hid (∀ W, Calls Tryd.prog 29 #[.string s] W fun e w' => e = .returned (.tuple #[.string td, .bool true]) ∧ Below W.heap.size W w') := fun W => htd ▸ impl_nrmR W s hs2 Rd
    have Sd : Hid (td.size ≤ 1048576) := by
      rw [Hid, ← len_str, ed]
      have := hw.normal.2.2.2.1
      rw [len_str] at this
      omega
    have Wd : Word td.data.toList := by rw [ed]; exact hw.normal.1
    obtain ⟨tw0, hto⟩ : ∃ t : ByteArray, (⟨(clsN s.data.toList).toArray⟩ : ByteArray) = t := ⟨_, rfl⟩
    have eo : tw0.data.toList = clsN s.data.toList := by rw [← hto]
    have so : tw0.size = 2 := by rw [← len_str, eo]; unfold clsN; split <;> rfl
    have q0 : (tw0 != tw0) = false := text_bneX tw0
    have q1 : (tw0 == tw0) = true := text_beqX tw0
    have q2 : tw0.toList.isEmpty = false := text_some tw0 (by omega)
    have q4 : (!(tw0 == tw0)) = false := by rw [q1]; rfl
    have C0 : Hid (∀ W, Calls Tryd.prog 27 #[.string s] W fun e w' => e = .returned (.string tw0) ∧ Below W.heap.size W w') := fun W => hto ▸ impl_clsR W s hs2 (clsR_yes hv)
    have C9 : Hid (∀ W, Calls Tryd.prog 28 #[.string s] W fun e w' => e = .returned (.string tw0) ∧ Below W.heap.size W w') := fun W => hto ▸ spec_clsR W s hs2 (clsR_yes hv)
    have Ka : clsR ta.data.toList = clsN s.data.toList := by rw [clsR_yes (wordB_iff.2 Wa), ea]; exact (cls_of (turn_num hw) (hw.sided_turn)).1
    have Da : Hid (∀ W, Calls Tryd.prog 27 #[.string ta] W fun e w' => e = .returned (.string tw0) ∧ Below W.heap.size W w') := fun W => hto ▸ impl_clsR W ta Sa.out Ka
    have Kb : clsR tb.data.toList = clsN s.data.toList := by rw [clsR_yes (wordB_iff.2 Wb), eb]; exact (cls_of (back_num hw) (hw.sided_back)).1
    have Db : Hid (∀ W, Calls Tryd.prog 27 #[.string tb] W fun e w' => e = .returned (.string tw0) ∧ Below W.heap.size W w') := fun W => hto ▸ impl_clsR W tb Sb.out Kb
    have Kd : clsR td.data.toList = clsN s.data.toList := by rw [clsR_yes (wordB_iff.2 Wd), ed]; exact (cls_of (hw.normal.2.1) (hw.normal.2.2.1)).1
    have Dd : Hid (∀ W, Calls Tryd.prog 27 #[.string td] W fun e w' => e = .returned (.string tw0) ∧ Below W.heap.size W w') := fun W => hto ▸ impl_clsR W td Sd.out Kd
    obtain ⟨sd, hsd⟩ : ∃ sd, sidedB s.data.toList = sd := ⟨_, rfl⟩
    have SD : Hid (sidR s.data.toList = sd) := hsd
    have q3 : ((tw0.extract 0 1).toList == [83]) = sd := by
      have e1 : (tw0.extract 0 1).data.toList = [if sd then 83 else 80] := by
        rw [(take_data tw0 1 (by omega)).1, eo, clsN, hsd]; cases sd <;> rfl
      rw [str_mk e1]; cases sd <;> decide +kernel
    clear hv hw hlen hpos hnum hsd Ra Rb Rd hta htb htd ea eb ed Wa Wb Wd hcl hto eo Ka Kb Kd
    go_wp2_with fail
    refine (C0.out _).mono ?_
    rintro e w2 ⟨rfl, b1⟩
    have HB2 : Hid (Below w.heap.size w w2) := HB1.out.trans (b1.mono HB1.out.size); clear b1
    go_wp2_with fail
    refine (C9.out _).mono ?_
    rintro e w3 ⟨rfl, b1⟩
    have HB3 : Hid (Below w.heap.size w w3) := HB2.out.trans (b1.mono HB2.out.size); clear b1
    go_wp2_with fail
    refine (Ca.out _).mono ?_
    rintro e w4 ⟨rfl, b1⟩
    have HB4 : Hid (Below w.heap.size w w4) := HB3.out.trans (b1.mono HB3.out.size); clear b1
    go_wp2_with fail
    refine (Cb.out _).mono ?_
    rintro e w5 ⟨rfl, b1⟩
    have HB5 : Hid (Below w.heap.size w w5) := HB4.out.trans (b1.mono HB4.out.size); clear b1
    go_wp2_with fail
    refine (Cd.out _).mono ?_
    rintro e w6 ⟨rfl, b1⟩
    have HB6 : Hid (Below w.heap.size w w6) := HB5.out.trans (b1.mono HB5.out.size); clear b1
    go_wp2_with fail
    have HCB0 : Hid (∀ p : AboveW w6, Calls Tryd.prog 19 #[.string s] p.to fun e w'' => e = .returned (.bool sd) ∧ ∃ q : AboveW w6, w'' = q.to) := fun p => AboveW.calls (impl_sidR _ s hs2 SD.out)
    have HCB1 : Hid (∀ p : AboveW w6, Calls Tryd.prog 27 #[.string ta] p.to fun e w'' => e = .returned (.string tw0) ∧ ∃ q : AboveW w6, w'' = q.to) := fun p => AboveW.calls (Da.out _)
    have HCB2 : Hid (∀ p : AboveW w6, Calls Tryd.prog 27 #[.string tb] p.to fun e w'' => e = .returned (.string tw0) ∧ ∃ q : AboveW w6, w'' = q.to) := fun p => AboveW.calls (Db.out _)
    have HCB3 : Hid (∀ p : AboveW w6, Calls Tryd.prog 27 #[.string td] p.to fun e w'' => e = .returned (.string tw0) ∧ ∃ q : AboveW w6, w'' = q.to) := fun p => AboveW.calls (Dd.out _)
    refine wp_region_quiet_aboveW (by kernel_rfl) (by kernel_rfl) ?_
    repeat (quiet_step (first | (go_at_call 19; with_reducible exact HCB0.out _) | (go_at_call 27; with_reducible exact HCB1.out _) | (go_at_call 27; with_reducible exact HCB2.out _) | (go_at_call 27; with_reducible exact HCB3.out _)))
    refine wpQuiet_nil ?_
    rintro w7 ⟨pq, rfl⟩
    have b1 := pq.b
    have HB7 : Hid (Below w.heap.size w pq.to) := HB6.out.trans (b1.mono HB6.out.size); clear b1
    go_wp2_with fail
    go_ret
    exact ⟨rfl, HB7.out⟩

end Go.Proofs.YtfdliekhlcbkcaaDoor

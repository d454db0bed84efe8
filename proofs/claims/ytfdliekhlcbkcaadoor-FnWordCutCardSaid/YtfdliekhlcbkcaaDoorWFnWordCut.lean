/-
  FnWordCut: the walk of the law.
-/
import Derived.Test.YtfdliekhlcbkcaaDoorDrawWd
import Derived.Test.YtfdliekhlcbkcaaDoorNrm
import Derived.Test.YtfdliekhlcbkcaaDoorWrdJ
import Derived.Test.YtfdliekhlcbkcaaDoorWrdR
import Derived.Test.YtfdliekhlcbkcaaDoorWrdNm
import Derived.Test.YtfdliekhlcbkcaaDoorAbvW
import Derived.Test.YtfdliekhlcbkcaaDoorWrdX
import Derived.Test.YtfdliekhlcbkcaaDoorWrdU
import Derived.Test.YtfdliekhlcbkcaaDoorWrdS
import Derived.Test.YtfdliekhlcbkcaaDoorDrawWc
import Derived.BigQuiet
namespace Go.Proofs.YtfdliekhlcbkcaaDoor
open Go.RowKit
theorem text_beqX (a : ByteArray) : (a == a) = true := by
  cases a with
  | mk d =>
    show (d == d) = true
    simp
theorem text_bneX (a : ByteArray) : (a != a) = false := by rw [bne, text_beqX]; rfl
theorem loop_ne (bs : ByteArray) : ∀ (k i : Nat) (r : List UInt8), bs.size - i = k → r ≠ [] → ByteArray.toList.loop bs i r ≠ [] := by
  intro k
  induction k with
  | zero =>
    intro i r h hr
    unfold ByteArray.toList.loop
    rw [if_neg (by omega)]
    simpa using hr
  | succ k ih =>
    intro i r h hr
    unfold ByteArray.toList.loop
    rw [if_pos (by omega)]
    exact ih _ _ (by omega) (by simp)
theorem text_some (a : ByteArray) (h : 0 < a.size) : a.toList.isEmpty = false := by
  have : a.toList ≠ [] := by
    unfold ByteArray.toList ByteArray.toList.loop
    rw [if_pos h]
    exact loop_ne a _ _ _ rfl (by simp)
  simpa using this


set_option maxRecDepth 20000 in
set_option maxHeartbeats 3200000 in
theorem walk_FnWordCut (A : Option Addr) (n c : Nat) (bs : List Int) (w : World) (h : RdB w A n bs) (hm : n ≤ maxLen ∧ n ≤ c) :
    Calls Tryd.prog 9 #[.slice A n c] w fun e w' => e = .returned (.bool true) ∧ Below w.heap.size w w' := by
  have HB0 := Lib.hid h
  have hc := hm.2
  clear h hm
  by_cases hbig : 1048576 < n
  · have hd : decide ((1048576 : Int) < n) = true := by simp; omega
    go_enter Tryd.func9, Tryd.ntmps9
    go_wp2
    go_ret
    exact ⟨rfl, Below.refl _ _⟩
  have hd : decide ((1048576 : Int) < n) = false := by simp; omega
  have hnb : n ≤ 1048576 := by omega
  go_enter Tryd.func9, Tryd.ntmps9
  go_wp2_with fail
  refine (drawWordCut_any w A n c bs HB0.out hnb hc).mono ?_
  rintro x w1 ⟨s, i, k, rfl, hs, hi0, hi1, hk0, hk1, b1⟩
  have HB1 := Lib.hid b1; clear b1 hbig hc HB0
  have hs2 : s.size ≤ 1048576 := by omega
  have wi : Hid ((Lit.int .i64 i).wf = true) := wf_far (by omega)
  have wk : Hid ((Lit.int .i64 k).wf = true) := wf_far (by omega)
  obtain ⟨v, hv⟩ : ∃ v, cutOk s.data.toList i k = v := ⟨_, rfl⟩
  have HV := Lib.hid hv
  cases v with
  | false =>
    have HR0 : Hid (cutWR s.data.toList i k = (false, [])) := cutWR_no hv
    clear hv
    go_wp2_with fail
    refine (impl_cutWR _ s hs2 i wi.out k wk.out HR0.out).mono ?_
    rintro e w2 ⟨rfl, b1⟩
    have HB2 : Hid (Below w.heap.size w w2) := HB1.out.trans (b1.mono HB1.out.size); clear b1
    go_wp2_with fail
    refine (spec_cutWR _ s hs2 i wi.out k wk.out HR0.out).mono ?_
    rintro e w3 ⟨rfl, b1⟩
    have HB3 : Hid (Below w.heap.size w w3) := HB2.out.trans (b1.mono HB2.out.size); clear b1
    go_wp2_with fail
    go_ret
    exact ⟨rfl, HB3.out⟩
  | true =>
    have hco := hv
    unfold cutOk at hco
    simp only [Bool.and_eq_true, decide_eq_true_eq] at hco
    obtain ⟨⟨⟨hvw, ha1, ha2⟩, hb1, hb2⟩, hcc⟩ := hco
    have hw := wordB_iff.1 hvw
    have hlen := hw.len
    have CA : CutAt s.data.toList i.toNat k.toNat := ⟨by omega, by omega, by omega, by omega⟩
    obtain ⟨hcw, hcn, hcs⟩ := cut_all hw CA
    obtain ⟨tj, htj⟩ : ∃ t : ByteArray, (⟨(cutW s.data.toList i.toNat k.toNat).toArray⟩ : ByteArray) = t := ⟨_, rfl⟩
    have ej : tj.data.toList = cutW s.data.toList i.toNat k.toNat := by rw [← htj]
    have Wj : Word tj.data.toList := by rw [ej]; exact hcw
    have sj : tj.size = s.size := by rw [← len_str, ej, cut_len hw CA, len_str]
    have Sj : Hid (tj.size ≤ 1048576) := by rw [Hid]; omega
    have Rj : cutWR s.data.toList i k = (true, cutW s.data.toList i.toNat k.toNat) := cutWR_yes hv
    have q0 : (tj != tj) = false := text_bneX tj
    have q1 : (tj == tj) = true := text_beqX tj
    have q4 : (!(tj == tj)) = false := by rw [q1]; rfl
    have SM : Hid (sameR tj.data.toList s.data.toList = true) := same_of Wj hw (by rw [ej]; exact cut_num hw CA) (by rw [ej]; exact hcs)
    have VJ : Hid (wordB tj.data.toList = true) := wordB_iff.2 Wj
    obtain ⟨kc, hkc⟩ : ∃ k, corN s.data.toList = k := ⟨_, rfl⟩
    have R1 : Hid (corR s.data.toList = (kc : Int)) := by rw [Hid, corR_yes hvw, hkc]
    have R2 : Hid (corR tj.data.toList = (kc : Int)) := by rw [Hid, corR_yes (wordB_iff.2 Wj), ej, hcn, hkc]
    obtain ⟨ta, hta⟩ : ∃ t : ByteArray, (⟨(namesW tj.data.toList 0).toArray⟩ : ByteArray) = t := ⟨_, rfl⟩
    obtain ⟨tb, htb⟩ : ∃ t : ByteArray, (⟨(namesW s.data.toList 0).toArray⟩ : ByteArray) = t := ⟨_, rfl⟩
    have sa : ta.size = s.size := by rw [← len_str, ← hta]; show (namesW tj.data.toList 0).length = _; rw [namesW_len, len_str, sj]
    have sb : tb.size = s.size := by rw [← len_str, ← htb]; show (namesW s.data.toList 0).length = _; rw [namesW_len, len_str]
    have Ra : namesWR tj.data.toList = (true, namesW tj.data.toList 0) := by rw [namesWR, VJ.out]; rfl
    have Rb : namesWR s.data.toList = (true, namesW s.data.toList 0) := by rw [namesWR, hvw]; rfl
    have q5 : ((tj.size : Int) == (s.size : Int)) = true := by rw [sj]; simp
    have q6 : ((ta.size : Int) == (tb.size : Int)) = true := by rw [sa, sb]; simp
    have q7 : (tj.size == s.size) = true := by rw [sj]; simp
    have q8 : (ta.size == tb.size) = true := by rw [sa, sb]; simp
    have q9 : ((kc : Int) == (kc : Int)) = true := by simp
    have C0 : Hid (∀ W, Calls Tryd.prog 37 #[.string s, .int .i64 i, .int .i64 k] W fun e w' => e = .returned (.tuple #[.string tj, .bool true]) ∧ Below W.heap.size W w') := fun W => htj ▸ impl_cutWR W s hs2 i wi.out k wk.out Rj
    have C1 : Hid (∀ W, Calls Tryd.prog 38 #[.string s, .int .i64 i, .int .i64 k] W fun e w' => e = .returned (.tuple #[.string tj, .bool true]) ∧ Below W.heap.size W w') := fun W => htj ▸ spec_cutWR W s hs2 i wi.out k wk.out Rj
    have C2 : Hid (∀ W, Calls Tryd.prog 17 #[.string tj] W fun e w' => e = .returned (.tuple #[.string ta, .bool true]) ∧ Below W.heap.size W w') := fun W => hta ▸ impl_namesWR W tj Sj.out Ra
    have C3 : Hid (∀ W, Calls Tryd.prog 17 #[.string s] W fun e w' => e = .returned (.tuple #[.string tb, .bool true]) ∧ Below W.heap.size W w') := fun W => htb ▸ impl_namesWR W s hs2 Rb
    clear hv HV hvw ha1 ha2 hb1 hb2 hcc hw hlen CA hcw hcn hcs htj ej Wj sj Rj hkc hta htb sa sb Ra Rb
    go_wp2_with fail
    refine (C0.out _).mono ?_
    rintro e w2 ⟨rfl, b1⟩
    have HB2 : Hid (Below w.heap.size w w2) := HB1.out.trans (b1.mono HB1.out.size); clear b1
    go_wp2_with fail
    refine (C1.out _).mono ?_
    rintro e w3 ⟨rfl, b1⟩
    have HB3 : Hid (Below w.heap.size w w3) := HB2.out.trans (b1.mono HB2.out.size); clear b1
    go_wp2_with fail
    refine (C2.out _).mono ?_
    rintro e w4 ⟨rfl, b1⟩
    have HB4 : Hid (Below w.heap.size w w4) := HB3.out.trans (b1.mono HB3.out.size); clear b1
    go_wp2_with fail
    refine (C3.out _).mono ?_
    rintro e w5 ⟨rfl, b1⟩
    have HB5 : Hid (Below w.heap.size w w5) := HB4.out.trans (b1.mono HB4.out.size); clear b1
    go_wp2_with fail
    refine (implWord_any tj _ Sj.out VJ.out).mono ?_
    rintro e w6 ⟨rfl, b1⟩
    have HB6 : Hid (Below w.heap.size w w6) := HB5.out.trans (b1.mono HB5.out.size); clear b1
    go_wp2_with fail
    refine (impl_sameR _ tj Sj.out s hs2 SM.out).mono ?_
    rintro e w7 ⟨rfl, b1⟩
    have HB7 : Hid (Below w.heap.size w w7) := HB6.out.trans (b1.mono HB6.out.size); clear b1
    go_wp2_with fail
    refine (impl_corR _ tj Sj.out R2.out).mono ?_
    rintro e w8 ⟨rfl, b1⟩
    have HB8 : Hid (Below w.heap.size w w8) := HB7.out.trans (b1.mono HB7.out.size); clear b1
    go_wp2_with fail
    refine (impl_corR _ s hs2 R1.out).mono ?_
    rintro e w9 ⟨rfl, b1⟩
    have HB9 : Hid (Below w.heap.size w w9) := HB8.out.trans (b1.mono HB8.out.size); clear b1
    go_wp2_with fail
    go_ret
    exact ⟨rfl, HB9.out⟩

end Go.Proofs.YtfdliekhlcbkcaaDoor

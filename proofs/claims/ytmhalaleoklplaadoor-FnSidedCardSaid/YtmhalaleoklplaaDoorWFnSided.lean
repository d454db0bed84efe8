/-
  FnSided: the walk of the law.
-/
import Derived.Test.YtmhalaleoklplaaDoorDrawWd
import Derived.Test.YtmhalaleoklplaaDoorWrdH
import Derived.Test.YtmhalaleoklplaaDoorNrmM
import Derived.Test.YtmhalaleoklplaaDoorWrdJ
import Derived.Test.YtmhalaleoklplaaDoorWrdR
import Derived.Test.YtmhalaleoklplaaDoorAbvW
import Derived.BigQuiet
namespace Go.Proofs.YtmhalaleoklplaaDoor
open Go.RowKit

set_option maxHeartbeats 800000 in
theorem drawWordSided_any (w : World) (A : Option Addr) (n c : Nat) (bs : List Int) (h : RdB w A n bs) (hn : n ≤ 1048576) (hc : n ≤ c) :
    Calls Tryd.prog 4 #[.slice A n c] w (DrewW w) := by
  go_enter Tryd.func4, Tryd.ntmps4
  go_wp2_with fail
  refine (opened w A n c bs h hn hc).mono ?_
  rintro e w1 ⟨rfl, r1, b1, s1⟩
  have HR1 := Lib.hid r1; have HB1 := Lib.hid b1; clear r1 b1
  go_wp2_with fail
  refine (word_draw w1 w.heap.size 0 4 HR1.out (by omega) (by omega) (by omega)).mono ?_
  rintro e w2 ⟨t, q', rfl, ht, -, -, g1⟩
  have HB2 := Lib.hid (below_grown HB1.out g1 (Nat.le_refl _) HB1.out.size); clear g1
  go_wp2_with fail
  go_ret
  exact ⟨_, rfl, ht, HB2.out⟩

set_option maxRecDepth 20000 in
set_option maxHeartbeats 3200000 in
theorem walk_FnSided (A : Option Addr) (n c : Nat) (bs : List Int) (w : World) (h : RdB w A n bs) (hm : n ≤ maxLen ∧ n ≤ c) :
    Calls Tryd.prog 3 #[.slice A n c] w fun e w' => e = .returned (.bool true) ∧ Below w.heap.size w w' := by
  have HB0 := Lib.hid h
  have hc := hm.2
  clear h hm
  by_cases hbig : 1048576 < n
  · have hd : decide ((1048576 : Int) < n) = true := by simp; omega
    go_enter Tryd.func3, Tryd.ntmps3
    go_wp2
    go_ret
    exact ⟨rfl, Below.refl _ _⟩
  have hd : decide ((1048576 : Int) < n) = false := by simp; omega
  have hnb : n ≤ 1048576 := by omega
  go_enter Tryd.func3, Tryd.ntmps3
  go_wp2_with fail
  refine (drawWordSided_any w A n c bs HB0.out hnb hc).mono ?_
  rintro x w1 ⟨s, rfl, hs, b1⟩
  have HB1 := Lib.hid b1; clear b1 hbig hc HB0
  have hs2 : s.size ≤ 1048576 := by omega
  obtain ⟨v, hv⟩ : ∃ v, sidR s.data.toList = v := ⟨_, rfl⟩
  have HV := Lib.hid hv
  cases v with
  | false =>
    clear hv
    go_wp2_with fail
    refine (impl_sidR _ s hs2 HV.out).mono ?_
    rintro e w2 ⟨rfl, b1⟩
    have HB2 : Hid (Below w.heap.size w w2) := HB1.out.trans ((b1).mono HB1.out.size); clear b1
    go_wp2_with fail
    refine (spec_sidR _ s hs2 HV.out).mono ?_
    rintro e w3 ⟨rfl, b1⟩
    have HB3 : Hid (Below w.heap.size w w3) := HB2.out.trans ((b1).mono HB2.out.size); clear b1
    go_wp2_with fail
    go_ret
    exact ⟨rfl, HB3.out⟩
  | true =>
    have hv' : sidedB s.data.toList = true := hv
    have hwv := (sidedB_all hv').1
    have hw := wordB_iff.1 hwv
    have hlen := hw.len
    have hpos := hw.pos
    have hlen2 := hlen
    rw [len_str] at hlen2
    obtain ⟨hl1, hl2, -⟩ := hlen2
    obtain ⟨ta, hta⟩ : ∃ ta : ByteArray, (⟨(turnW s.data.toList).toArray⟩ : ByteArray) = ta := ⟨_, rfl⟩
    obtain ⟨tb, htb⟩ : ∃ tb : ByteArray, (⟨(backW s.data.toList).toArray⟩ : ByteArray) = tb := ⟨_, rfl⟩
    obtain ⟨tc, htc⟩ : ∃ tc : ByteArray, (⟨(namesW s.data.toList 0).toArray⟩ : ByteArray) = tc := ⟨_, rfl⟩
    obtain ⟨td, htd⟩ : ∃ td : ByteArray, (⟨(nrmN s.data.toList).toArray⟩ : ByteArray) = td := ⟨_, rfl⟩
    have ea : ta.data.toList = turnW s.data.toList := by rw [← hta]
    have eb : tb.data.toList = backW s.data.toList := by rw [← htb]
    have ec : tc.data.toList = namesW s.data.toList 0 := by rw [← htc]
    have ed : td.data.toList = nrmN s.data.toList := by rw [← htd]
    have R1 : turnWR s.data.toList = (true, turnW s.data.toList) := by rw [turnWR, hwv]; rfl
    have R2 : backWR s.data.toList = (true, backW s.data.toList) := by rw [backWR, hwv]; rfl
    have R3 : namesWR s.data.toList = (true, namesW s.data.toList 0) := by rw [namesWR, hwv]; rfl
    have R4 := nrmR_yes hwv
    have C1 : Hid (∀ W, Calls Tryd.prog 7 #[.string s] W fun e w' => e = .returned (.tuple #[.string ta, .bool true]) ∧ Below W.heap.size W w') := fun W => hta ▸ impl_turnWR W s hs2 R1
    have C2 : Hid (∀ W, Calls Tryd.prog 8 #[.string s] W fun e w' => e = .returned (.tuple #[.string tb, .bool true]) ∧ Below W.heap.size W w') := fun W => htb ▸ impl_backWR W s hs2 R2
    have C3 : Hid (∀ W, Calls Tryd.prog 9 #[.string s] W fun e w' => e = .returned (.tuple #[.string tc, .bool true]) ∧ Below W.heap.size W w') := fun W => htc ▸ impl_namesWR W s hs2 R3
    have C4 : Hid (∀ W, Calls Tryd.prog 10 #[.string s] W fun e w' => e = .returned (.tuple #[.string td, .bool true]) ∧ Below W.heap.size W w') := fun W => htd ▸ impl_nrmR W s hs2 R4
    have S1 : Hid (ta.size ≤ 1048576) := by rw [Hid, ← len_str, ea, turnW_len, len_str]; omega
    have S2 : Hid (tb.size ≤ 1048576) := by rw [Hid, ← len_str, eb, backW_len, len_str]; omega
    have S3 : Hid (tc.size ≤ 1048576) := by rw [Hid, ← len_str, ec, namesW_len, len_str]; omega
    have S4 : Hid (td.size ≤ 1048576) := by
      rw [Hid, ← len_str, ed]
      have := (wordB_iff.1 (sidedB_all (sided_normal hv')).1).len
      omega
    have V1 : Hid (sidR ta.data.toList = true) := by rw [Hid, ea]; exact hw.sided_turn.trans hv'
    have V2 : Hid (sidR tb.data.toList = true) := by rw [Hid, eb]; exact hw.sided_back.trans hv'
    have V3 : Hid (sidR tc.data.toList = true) := by rw [Hid, ec]; exact hw.sided_name.trans hv'
    have V4 : Hid (sidR td.data.toList = true) := by rw [Hid, ed]; exact sided_normal hv'
    obtain ⟨ch, hch⟩ : ∃ ch, gb s.data.toList 0 = ch := ⟨_, rfl⟩
    have h0 := (hw.ok 0 hpos).1
    rw [hch] at h0
    have e1 : (s.extract 0 1).data.toList = [ch] := by
      rw [(take_data s 1 (by omega)).1, cons_eq hpos, hch]; rfl
    have z1 : (s.extract 0 1).size = 1 := (take_data s 1 (by omega)).2
    have z2 : (s.extract 1 s.size).size = s.size - 1 := (drop_data s 1).2
    obtain ⟨uu, huu⟩ : ∃ uu : ByteArray, s.extract 0 1 ++ s.extract 0 1 = uu := ⟨_, rfl⟩
    have euu : uu.data.toList = [ch, ch] := by rw [← huu, str_app, e1]; rfl
    have suu : uu.size = 2 := by rw [← len_str, euu]; rfl
    have c1 : ∀ W : World, (Op.stringOp .add (s.extract 0 1) (s.extract 0 1)).run Tryd.prog W = .ok (.string uu) W := fun W => by
      rw [← huu]; exact run_string_add_sum W _ _ (by rw [z1]; omega)
    obtain ⟨tk, htk⟩ : ∃ tk : ByteArray, (⟨(backW uu.data.toList).toArray⟩ : ByteArray) = tk := ⟨_, rfl⟩
    have etk : tk.data.toList = [oth ch, oth ch] := by rw [← htk, euu]; rfl
    have stk : tk.size = 2 := by rw [← len_str, etk]; rfl
    have R5 : backWR uu.data.toList = (true, backW uu.data.toList) := by rw [backWR, euu, wordB_iff.2 (two_word h0)]; rfl
    have C5 : Hid (∀ W, Calls Tryd.prog 8 #[.string uu] W fun e w' => e = .returned (.tuple #[.string tk, .bool true]) ∧ Below W.heap.size W w') := fun W => htk ▸ impl_backWR W uu (by omega) R5
    have z3 : (tk.extract 0 1).size = 1 := (take_data tk 1 (by omega)).2
    obtain ⟨tz, hto⟩ : ∃ tz : ByteArray, tk.extract 0 1 ++ s.extract 1 s.size = tz := ⟨_, rfl⟩
    have eto : tz.data.toList = flipW s.data.toList := by
      rw [← hto, str_app, (take_data tk 1 (by omega)).1, (drop_data s 1).1, etk, flipW, hch]; rfl
    have c2 : ∀ W : World, (Op.stringOp .add (tk.extract 0 1) (s.extract 1 s.size)).run Tryd.prog W = .ok (.string tz) W := fun W => by
      rw [← hto]; exact run_string_add_sum W _ _ (by rw [z3, z2]; omega)
    have S5 : Hid (tz.size ≤ 1048576) := by rw [Hid, ← len_str, eto, flipW_len hpos, len_str]; omega
    have V5 : Hid (sidR tz.data.toList = false) := by rw [Hid, eto]; exact flip_not hv'
    have V6 : Hid (wordB tz.data.toList = true) := by rw [Hid, eto]; exact wordB_iff.2 hw.flip
    have q1 : 1 ≤ s.size := by omega
    have q2 : (1 : Int) ≤ (s.size : Int) := by omega
    have q3 : 1 ≤ tk.size := by omega
    have q4 : (1 : Int) ≤ (tk.size : Int) := by omega
    clear hv hv' hwv hw hlen hpos R1 R2 R3 R4 R5 hta htb htc htd ea eb ec ed hch h0 e1 z1 z2 huu euu suu htk etk stk z3 hto eto
    go_wp2_with fail
    refine (impl_sidR _ s hs2 HV.out).mono ?_
    rintro e w2 ⟨rfl, b1⟩
    have HB2 : Hid (Below w.heap.size w w2) := HB1.out.trans ((b1).mono HB1.out.size); clear b1
    go_wp2_with fail
    refine (spec_sidR _ s hs2 HV.out).mono ?_
    rintro e w3 ⟨rfl, b1⟩
    have HB3 : Hid (Below w.heap.size w w3) := HB2.out.trans ((b1).mono HB2.out.size); clear b1
    go_wp2_with fail
    refine (C1.out _).mono ?_
    rintro e w4 ⟨rfl, b1⟩
    have HB4 : Hid (Below w.heap.size w w4) := HB3.out.trans ((b1).mono HB3.out.size); clear b1
    go_wp2_with fail
    refine (C2.out _).mono ?_
    rintro e w5 ⟨rfl, b1⟩
    have HB5 : Hid (Below w.heap.size w w5) := HB4.out.trans ((b1).mono HB4.out.size); clear b1
    go_wp2_with fail
    refine (C3.out _).mono ?_
    rintro e w6 ⟨rfl, b1⟩
    have HB6 : Hid (Below w.heap.size w w6) := HB5.out.trans ((b1).mono HB5.out.size); clear b1
    go_wp2_with fail
    refine (C4.out _).mono ?_
    rintro e w7 ⟨rfl, b1⟩
    have HB7 : Hid (Below w.heap.size w w7) := HB6.out.trans ((b1).mono HB6.out.size); clear b1
    go_wp2_with fail
    have HCB : Hid (∀ p : AboveW w7, Calls Tryd.prog 8 #[.string uu] p.to fun e w'' => e = .returned (.tuple #[.string tk, .bool true]) ∧ ∃ q : AboveW w7, w'' = q.to) := fun p => AboveW.calls (C5.out _)
    refine wp_region_quiet_aboveW (by kernel_rfl) (by kernel_rfl) ?_
    repeat (quiet_step (first | (go_at_call 8; with_reducible exact HCB.out _)))
    refine wpQuiet_nil ?_
    rintro w8 ⟨pq, rfl⟩
    have HB8 : Hid (Below w.heap.size w pq.to) := HB7.out.trans (pq.b.mono HB7.out.size)
    go_wp2_with fail
    go_quiet (fail)
    go_wp2_with fail
    refine (impl_sidR _ ta S1.out V1.out).mono ?_
    rintro e w9 ⟨rfl, b1⟩
    have HB9 : Hid (Below w.heap.size w w9) := HB8.out.trans ((below_undrewR b1).mono HB8.out.size); clear b1
    go_wp2_with fail
    refine (impl_sidR _ tb S2.out V2.out).mono ?_
    rintro e w10 ⟨rfl, b1⟩
    have HB10 : Hid (Below w.heap.size w w10) := HB9.out.trans ((b1).mono HB9.out.size); clear b1
    go_wp2_with fail
    refine (impl_sidR _ tc S3.out V3.out).mono ?_
    rintro e w11 ⟨rfl, b1⟩
    have HB11 : Hid (Below w.heap.size w w11) := HB10.out.trans ((b1).mono HB10.out.size); clear b1
    go_wp2_with fail
    refine (impl_sidR _ td S4.out V4.out).mono ?_
    rintro e w12 ⟨rfl, b1⟩
    have HB12 : Hid (Below w.heap.size w w12) := HB11.out.trans ((b1).mono HB11.out.size); clear b1
    go_wp2_with fail
    refine (impl_sidR _ tz S5.out V5.out).mono ?_
    rintro e w13 ⟨rfl, b1⟩
    have HB13 : Hid (Below w.heap.size w w13) := HB12.out.trans ((b1).mono HB12.out.size); clear b1
    go_wp2_with fail
    refine (implWord_any tz _ S5.out V6.out).mono ?_
    rintro e w14 ⟨rfl, b1⟩
    have HB14 : Hid (Below w.heap.size w w14) := HB13.out.trans ((b1).mono HB13.out.size); clear b1
    go_wp2_with fail
    go_ret
    exact ⟨rfl, HB14.out⟩

end Go.Proofs.YtmhalaleoklplaaDoor

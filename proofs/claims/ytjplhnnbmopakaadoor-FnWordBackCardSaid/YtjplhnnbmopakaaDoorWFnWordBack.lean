/-
  FnWordBack: the walk of the law.
-/
import Derived.Test.YtjplhnnbmopakaaDoorDrawWt
import Derived.Test.YtjplhnnbmopakaaDoorWrdB
import Derived.Test.YtjplhnnbmopakaaDoorWrdS
import Derived.Test.YtjplhnnbmopakaaDoorWrdR
import Derived.Test.YtjplhnnbmopakaaDoorAbvW
namespace Go.Proofs.YtjplhnnbmopakaaDoor
open Go.RowKit

theorem same_back {l : List UInt8} (h : Word l) : sameR (backW l) l = true := by
  have e : clsR (backW l) = clsR l := by
    rw [clsR_yes (wordB_iff.2 h), clsR_yes (wordB_iff.2 h.back)]
    unfold clsN lackN numN
    rw [h.sided_back, h.cor_back, backW_len]
  rw [sameR, wordB_iff.2 h, wordB_iff.2 h.back, e]
  simp
theorem text_beqB (a : ByteArray) : (a == a) = true := by
  cases a with
  | mk d =>
    show (d == d) = true
    simp
theorem text_bneB (a : ByteArray) : (a != a) = false := by rw [bne, text_beqB]; rfl
theorem backWR_word {l : List UInt8} (h : Word l) : backWR l = (true, backW l) := by rw [backWR, wordB_iff.2 h]; rfl
theorem turnWR_wordB {l : List UInt8} (h : Word l) : turnWR l = (true, turnW l) := by rw [turnWR, wordB_iff.2 h]; rfl
/-- Read back when turned: the last letter of the word read back comes first. -/
theorem back_turn {l : List UInt8} {n1 : Nat} (h : l.length = n1 + 1) : backW (turnW l) = (backW l).drop n1 ++ (backW l).take n1 := by
  have e : backW l = backW (l.drop 1) ++ backW (l.take 1) := by rw [← backW_append, List.take_append_drop]
  have hl : (backW (l.drop 1)).length = n1 := by rw [backW_len, List.length_drop]; omega
  have d : (backW (l.drop 1) ++ backW (l.take 1)).drop n1 = backW (l.take 1) := by rw [← hl]; exact List.drop_left
  have t : (backW (l.drop 1) ++ backW (l.take 1)).take n1 = backW (l.drop 1) := by rw [← hl]; exact List.take_left
  rw [turnW, backW_append, e, d, t]

set_option maxRecDepth 20000 in
set_option maxHeartbeats 3200000 in
theorem walk_FnWordBack (A : Option Addr) (n c : Nat) (bs : List Int) (w : World) (h : RdB w A n bs) (hm : n ≤ maxLen ∧ n ≤ c) :
    Calls Tryd.prog 5 #[.slice A n c] w fun e w' => e = .returned (.bool true) ∧ Below w.heap.size w w' := by
  have HB0 := Lib.hid h
  have hc := hm.2
  clear h hm
  by_cases hbig : 1048576 < n
  · have hd : decide ((1048576 : Int) < n) = true := by simp; omega
    go_enter Tryd.func5, Tryd.ntmps5
    go_wp2
    go_ret
    exact ⟨rfl, Below.refl _ _⟩
  have hd : decide ((1048576 : Int) < n) = false := by simp; omega
  have hnb : n ≤ 1048576 := by omega
  go_enter Tryd.func5, Tryd.ntmps5
  go_wp2_with fail
  refine (drawWordBack_any w A n c bs HB0.out hnb hc).mono ?_
  rintro x w1 ⟨s, rfl, hs, b1⟩
  have HB1 := Lib.hid b1; clear b1 hbig hc HB0
  have hs2 : s.size ≤ 1048576 := by omega
  obtain ⟨v, r, hR⟩ : ∃ v r, backWR s.data.toList = (v, r) := ⟨_, _, rfl⟩
  obtain ⟨ta, hta⟩ : ∃ ta : ByteArray, (⟨r.toArray⟩ : ByteArray) = ta := ⟨_, rfl⟩
  have C1 : Hid (∀ W, Calls Tryd.prog 11 #[.string s] W fun e w' => e = .returned (.tuple #[.string ta, .bool v]) ∧ Below W.heap.size W w') := fun W => hta ▸ impl_backWR W s hs2 hR
  have C2 : Hid (∀ W, Calls Tryd.prog 17 #[.string s] W fun e w' => e = .returned (.tuple #[.string ta, .bool v]) ∧ Below W.heap.size W w') := fun W => hta ▸ spec_backWR W s hs2 hR
  have hok : (ta != ta) = false := text_bneB ta
  have hok3 : (!(ta == ta)) = false := by rw [text_beqB]; rfl
  have hok4 : (ta == ta) = true := text_beqB ta
  cases v with
  | false =>
    clear hR hta
    go_wp2_with fail
    refine (C1.out _).mono ?_
    rintro e w2 ⟨rfl, b1⟩
    have HB2 := Lib.hid (HB1.out.trans (b1.mono HB1.out.size)); clear b1
    go_wp2_with fail
    refine (C2.out _).mono ?_
    rintro e w3 ⟨rfl, b1⟩
    have HB3 := Lib.hid (HB2.out.trans (b1.mono HB2.out.size)); clear b1
    go_wp2_with fail
    go_ret
    exact ⟨rfl, HB3.out⟩
  | true =>
    have hv : wordB s.data.toList = true := by
      cases hb : wordB s.data.toList with
      | true => rfl
      | false => rw [backWR, hb] at hR; simp [strR] at hR
    have hw := wordB_iff.1 hv
    have hlen := hw.len
    rw [len_str] at hlen
    rw [backWR_word hw] at hR
    simp only [Prod.mk.injEq, true_and] at hR
    have hat : ta.data.toList = backW s.data.toList := by rw [← hta, ← hR]
    have hsz : ta.size = s.size := by rw [← len_str, ← len_str, hat, backW_len]
    have hta2 : ta.size ≤ 1048576 := by omega
    obtain ⟨tt, htt⟩ : ∃ tt : ByteArray, (⟨(turnW s.data.toList).toArray⟩ : ByteArray) = tt := ⟨_, rfl⟩
    have htl : tt.data.toList = turnW s.data.toList := by rw [← htt]
    have htz : tt.size ≤ 1048576 := by
      have := congrArg List.length htl
      rw [len_str] at this
      simp [turnW] at this
      omega
    obtain ⟨ty, hty⟩ : ∃ ty : ByteArray, (⟨(backW tt.data.toList).toArray⟩ : ByteArray) = ty := ⟨_, rfl⟩
    have C3 : Hid (∀ W, Calls Tryd.prog 11 #[.string ta] W fun e w' => e = .returned (.tuple #[.string s, .bool true]) ∧ Below W.heap.size W w') := fun W => by
      have h1 := impl_backWR W ta hta2 (backWR_word (l := ta.data.toList) (by rw [hat]; exact hw.back))
      rw [hat, back_backW] at h1
      rwa [← str_mk (a := s) rfl] at h1
    have C4 : Hid (∀ W, Calls Tryd.prog 10 #[.string s] W fun e w' => e = .returned (.tuple #[.string tt, .bool true]) ∧ Below W.heap.size W w') := fun W => htt ▸ impl_turnWR W s hs2 (turnWR_wordB hw)
    have C5 : Hid (∀ W, Calls Tryd.prog 11 #[.string tt] W fun e w' => e = .returned (.tuple #[.string ty, .bool true]) ∧ Below W.heap.size W w') := fun W => hty ▸ impl_backWR W tt htz (backWR_word (by rw [htl]; exact hw.turn))
    have C6 : Hid (∀ W, Calls Tryd.prog 15 #[.string ta, .string s] W fun e w' => e = .returned (.bool true) ∧ Below W.heap.size W w') := fun W => impl_sameR W ta hta2 s hs2 (by rw [hat]; exact same_back hw)
    obtain ⟨n1, hn1⟩ : ∃ n1, n1 = ta.size - 1 := ⟨_, rfl⟩
    have hn2 : (ta.size : Int) - 1 = (n1 : Int) := by omega
    have hn3 : n1 ≤ ta.size := by omega
    have hn4 : (n1 : Int) ≤ (ta.size : Int) := by omega
    have hn5 : n1 ≤ 1048576 := by omega
    have hn6 : IntKind.i64.wrap (n1 : Int) = (n1 : Int) := IntWalk.i64_in _ (by omega)
    have hn7 : (0 : Int) ≤ (n1 : Int) := by omega
    have hn8 : ¬ ((ta.size : Int) < (n1 : Int)) := by omega
    have hcat : ta.extract n1 ta.size ++ ta.extract 0 n1 = ty := by
      rw [← hty, htl, back_turn (n1 := n1) (by rw [len_str]; omega)]
      refine str_mk ?_
      rw [str_app, (drop_data ta n1).1, (take_data ta n1 hn3).1, hat]
    have c1 : ∀ W : World, (Op.stringOp .add (ta.extract n1 ta.size) (ta.extract 0 n1)).run Tryd.prog W = .ok (.string ty) W := fun W => by
      rw [← hcat]
      exact run_string_add_sum W _ _ (by rw [(drop_data ta n1).2, (take_data ta n1 hn3).2]; omega)
    have hyy : (ty == ty) = true := text_beqB ty
    have hss : (s == s) = true := text_beqB s
    clear hR hta hv hw hat hsz htt htl htz hty hcat hn1 hlen
    go_wp2_with fail
    refine (C1.out _).mono ?_
    rintro e w2 ⟨rfl, b1⟩
    have HB2 := Lib.hid (HB1.out.trans (b1.mono HB1.out.size)); clear b1
    go_wp2_with fail
    refine (C2.out _).mono ?_
    rintro e w3 ⟨rfl, b1⟩
    have HB3 := Lib.hid (HB2.out.trans (b1.mono HB2.out.size)); clear b1
    go_wp2_with fail
    refine (C3.out _).mono ?_
    rintro e w4 ⟨rfl, b1⟩
    have HB4 := Lib.hid (HB3.out.trans (b1.mono HB3.out.size)); clear b1
    go_wp2_with fail
    refine (C4.out _).mono ?_
    rintro e w5 ⟨rfl, b1⟩
    have HB5 := Lib.hid (HB4.out.trans (b1.mono HB4.out.size)); clear b1
    go_wp2_with fail
    refine (C5.out _).mono ?_
    rintro e w6 ⟨rfl, b1⟩
    have HB6 := Lib.hid (HB5.out.trans (b1.mono HB5.out.size)); clear b1
    go_wp2_with fail
    have HC1 : Hid (∀ p : AboveW w6, Calls Tryd.prog 15 #[.string ta, .string s] p.to fun e w'' => e = .returned (.bool true) ∧ ∃ q : AboveW w6, w'' = q.to) := fun p => AboveW.calls (C6.out _)
    have hs6 := HB6.out.size
    clear C1 C2 C3 C4 C5 C6 HB1 HB2 HB3 HB4 HB5
    refine wp_region_quiet_aboveW (by kernel_rfl) (by kernel_rfl) ?_
    repeat (quiet_step (first | (go_at_call 15; with_reducible exact HC1.out _)))
    refine wpQuiet_nil ?_
    intro _ hw'
    obtain ⟨pq, hw''⟩ := hw'
    subst hw''
    go_wp2
    go_ret
    exact ⟨rfl, HB6.out.trans (pq.b.mono hs6)⟩

end Go.Proofs.YtjplhnnbmopakaaDoor

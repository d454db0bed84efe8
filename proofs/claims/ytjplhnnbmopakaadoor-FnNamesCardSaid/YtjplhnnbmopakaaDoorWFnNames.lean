/-
  FnNames: the walk of the law.
-/
import Derived.Test.YtjplhnnbmopakaaDoorDrawWt
import Derived.Test.YtjplhnnbmopakaaDoorWrdE
import Derived.Test.YtjplhnnbmopakaaDoorWrdS
import Derived.Test.YtjplhnnbmopakaaDoorWrdJM
namespace Go.Proofs.YtjplhnnbmopakaaDoor
open Go.RowKit

theorem same_name {l : List UInt8} (h : Word l) : sameR (namesW l 0) l = true := by
  have hl := h.len
  have hn := h.names (k := 0) (by omega)
  have e : clsR (namesW l 0) = clsR l := by
    rw [clsR_yes (wordB_iff.2 h), clsR_yes (wordB_iff.2 hn)]
    unfold clsN lackN numN
    rw [h.sided_name, h.cor_name, namesW_len]
  rw [sameR, wordB_iff.2 h, wordB_iff.2 hn, e]
  simp
theorem text_beqN (a : ByteArray) : (a == a) = true := by
  cases a with
  | mk d =>
    show (d == d) = true
    simp
theorem text_bneN (a : ByteArray) : (a != a) = false := by rw [bne, text_beqN]; rfl
theorem namesWR_word {l : List UInt8} (h : Word l) : namesWR l = (true, namesW l 0) := by rw [namesWR, wordB_iff.2 h]; rfl

set_option maxRecDepth 20000 in
set_option maxHeartbeats 3200000 in
theorem walk_FnNames (A : Option Addr) (n c : Nat) (bs : List Int) (w : World) (h : RdB w A n bs) (hm : n ≤ maxLen ∧ n ≤ c) :
    Calls Tryd.prog 6 #[.slice A n c] w fun e w' => e = .returned (.bool true) ∧ Below w.heap.size w w' := by
  have HB0 := Lib.hid h
  have hc := hm.2
  clear h hm
  by_cases hbig : 1048576 < n
  · have hd : decide ((1048576 : Int) < n) = true := by simp; omega
    go_enter Tryd.func6, Tryd.ntmps6
    go_wp2
    go_ret
    exact ⟨rfl, Below.refl _ _⟩
  have hd : decide ((1048576 : Int) < n) = false := by simp; omega
  have hnb : n ≤ 1048576 := by omega
  go_enter Tryd.func6, Tryd.ntmps6
  go_wp2_with fail
  refine (drawWordNames_any w A n c bs HB0.out hnb hc).mono ?_
  rintro x w1 ⟨s, rfl, hs, b1⟩
  have HB1 := Lib.hid b1; clear b1 hbig hc HB0
  have hs2 : s.size ≤ 1048576 := by omega
  obtain ⟨v, r, hR⟩ : ∃ v r, namesWR s.data.toList = (v, r) := ⟨_, _, rfl⟩
  obtain ⟨ta, hta⟩ : ∃ ta : ByteArray, (⟨r.toArray⟩ : ByteArray) = ta := ⟨_, rfl⟩
  have C1 : Hid (∀ W, Calls Tryd.prog 12 #[.string s] W fun e w' => e = .returned (.tuple #[.string ta, .bool v]) ∧ Below W.heap.size W w') := fun W => hta ▸ impl_namesWR W s hs2 hR
  have C2 : Hid (∀ W, Calls Tryd.prog 19 #[.string s] W fun e w' => e = .returned (.tuple #[.string ta, .bool v]) ∧ Below W.heap.size W w') := fun W => hta ▸ spec_namesWR W s hs2 hR
  have hok : (ta != ta) = false := text_bneN ta
  have hok3 : (!(ta == ta)) = false := by rw [text_beqN]; rfl
  have hok4 : (ta == ta) = true := text_beqN ta
  cases v with
  | false =>
    clear hR hta
    go_wp2_with fail
    refine (C1.out _).mono ?_
    rintro e w2 ⟨rfl, b1⟩
    have HB2 := Lib.hid (HB1.out.trans (b1.mono HB1.out.size)); clear b1
    go_wp2_with fail
    refine (C2.out _).mono ?_
    rintro e w3 ⟨rfl, b1⟩
    have HB3 := Lib.hid (HB2.out.trans (b1.mono HB2.out.size)); clear b1
    go_wp2_with fail
    go_ret
    exact ⟨rfl, HB3.out⟩
  | true =>
    have hv : wordB s.data.toList = true := by
      cases hb : wordB s.data.toList with
      | true => rfl
      | false => rw [namesWR, hb] at hR; simp [strR] at hR
    have hw := wordB_iff.1 hv
    have hlen := hw.len
    rw [namesWR_word hw] at hR
    simp only [Prod.mk.injEq, true_and] at hR
    have hat : ta.data.toList = namesW s.data.toList 0 := by rw [← hta, ← hR]
    have hsz : ta.size = s.size := by rw [← len_str, ← len_str, hat, namesW_len]
    have hta2 : ta.size ≤ 1048576 := by omega
    have hta3 : ta.size ≤ 12 := by omega
    have hpos : 0 < ta.size := by rw [hsz, ← len_str]; exact hw.pos
    have HSZ := Lib.hid hsz
    have HW := Lib.hid hw
    have HAT := Lib.hid hat
    have C3 : Hid (∀ W, Calls Tryd.prog 12 #[.string ta] W fun e w' => e = .returned (.tuple #[.string ta, .bool true]) ∧ Below W.heap.size W w') := fun W => by
      have h1 := impl_namesWR W ta hta2 (namesWR_word (l := ta.data.toList) (by rw [hat]; exact hw.names (by omega)))
      rw [hat, hw.names_names, ← hat] at h1
      rwa [← str_mk (a := ta) rfl] at h1
    have C6 : Hid (∀ W, Calls Tryd.prog 15 #[.string ta, .string s] W fun e w' => e = .returned (.bool true) ∧ Below W.heap.size W w') := fun W => impl_sameR W ta hta2 s hs2 (by rw [hat]; exact same_name hw)
    have h97 : ((ta[0]'hpos).toNat : Int) = 97 := by
      have h1 := gb_at ta hpos
      rw [hat, hw.first_name] at h1
      rw [← h1]; rfl
    have H97 := Lib.hid h97
    clear hR hta hv hw hlen hat hsz h97
    go_wp2_with fail
    refine (C1.out _).mono ?_
    rintro e w2 ⟨rfl, b1⟩
    have HB2 := Lib.hid (HB1.out.trans (b1.mono HB1.out.size)); clear b1
    go_wp2_with fail
    refine (C2.out _).mono ?_
    rintro e w3 ⟨rfl, b1⟩
    have HB3 := Lib.hid (HB2.out.trans (b1.mono HB2.out.size)); clear b1
    go_wp2_with fail
    refine (C3.out _).mono ?_
    rintro e w4 ⟨rfl, b1⟩
    have HB4 := Lib.hid (HB3.out.trans (b1.mono HB3.out.size)); clear b1
    go_wp2_with fail
    go_loopw [10, 11, 12] (fun nv iv _ wr => ∃ (i k : Nat), i ≤ ta.size ∧ k ≤ i ∧ iv = .int .i64 i ∧ nv = .int .i64 k ∧ Hid (k = rk s.data.toList i) ∧ Hid (Below w.heap.size w wr)) (fun _ iv _ _ => ta.size - (intOf iv).toNat)
    case atStart => exact ⟨0, 0, Nat.zero_le _, Nat.le_refl _, rfl, rfl, rfl, HB4.out⟩
    case round =>
      obtain ⟨i, k, hi, hki, rfl, rfl, hk, hb⟩ := hrel
      by_cases hlt : i < ta.size
      · have hst := HW.out.name_step (i := i) (by rw [len_str, ← HSZ.out]; exact hlt)
        have hg := gb_at ta hlt
        rw [HAT.out] at hg
        rw [hg, ← hk.out] at hst
        obtain ⟨z, hz⟩ : ∃ z : Int, ((ta[i]'hlt).toNat : Int) - 97 = z := ⟨_, rfl⟩
        have hz1 : -200 ≤ z := by omega
        have hz2 : z ≤ 200 := by have := (ta[i]'hlt).toNat_lt; omega
        have hzw : IntKind.i64.wrap z = z := IntWalk.i64_in _ (by omega)
        rw [hz] at hst
        clear hg
        rcases hst with ⟨h1, h2⟩ | ⟨h1, h2⟩
        · have H2 := Lib.hid h2
          have hzk : (z == (k : Int)) = true := by simp [h1]
          have H1 := Lib.hid h1
          clear h2 h1
          go_wp2_with fail
          go_roundw
          case rel => exact ⟨i + 1, k + 1, by omega, by omega, by go_num, by go_num, H2.out.symm, hb.out⟩
          case measure => simp [intOf]; omega
        · have H2 := Lib.hid h2
          have hzk : (z == (k : Int)) = false := by simp; omega
          have hzk2 : decide ((k : Int) < z) = false := by simp; omega
          clear h2
          go_wp2_with fail
          go_roundw
          case rel => exact ⟨i + 1, k, by omega, by omega, by go_num, rfl, by rw [Hid, H2.out], hb.out⟩
          case measure => simp [intOf]; omega
      · have hin : i = ta.size := by omega
        have hall := HW.out.rk_all
        rw [len_str, ← HSZ.out, ← hin, ← hk.out] at hall
        have h2k : 2 * (k : Int) = (s.size : Int) := by have := HSZ.out; omega
        have h2e : ((s.size : Int) == (s.size : Int)) = true := by simp
        have hk12 : k ≤ 12 := by omega
        have H97' := H97.out
        have HIN := Lib.hid hin
        clear hin hall
        go_wp2_with fail
        refine (C6.out _).mono ?_
        rintro e w5 ⟨rfl, b1⟩
        have HB5 := Lib.hid (hb.out.trans (b1.mono hb.out.size)); clear b1
        go_wp2_with fail
        go_ret
        exact ⟨rfl, HB5.out⟩

end Go.Proofs.YtjplhnnbmopakaaDoor

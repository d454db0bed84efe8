/-
  Normal words: the program's.
-/
import Derived.Test.YtmhalaleoklplaaDoorRepW
import Derived.Test.YtmhalaleoklplaaDoorWrdV
import Derived.Test.YtmhalaleoklplaaDoorWrdZ
import Derived.Test.YtmhalaleoklplaaDoorWrdT
namespace Go.Proofs.YtmhalaleoklplaaDoor
open Go.RowKit

theorem repeat_wordG (g c n : Nat) (s : ByteArray) (w : World) (h : w.cell? ⟨g, 0, none⟩ = some (.string s)) (h1 : 1 ≤ n) (h12 : n ≤ 12) :
    Calls Tryd.prog 38 #[.slice (some ⟨g, 0, none⟩) 1 c, .int .i64 n] w fun e w' => ∃ G, e = .returned (.slice (some ⟨G, 0, none⟩) n n) ∧ (∀ j, j < n → w'.cell? ⟨G, j, none⟩ = some (.string s)) ∧ Below w.heap.size w w' :=
  (repeat_word g c n s w h h1 h12).mono fun _ _ h => ⟨_, h⟩

/-- Crosscaps; handles. -/
def capsW : Nat → List UInt8
  | 0 => []
  | j + 1 => capsW j ++ [nmb j true, nmb j true]
def hndW : Nat → List UInt8
  | 0 => []
  | j + 1 => hndW j ++ [nmb (2 * j) true, nmb (2 * j + 1) true, nmb (2 * j) false, nmb (2 * j + 1) false]
theorem capsW_len : ∀ j, (capsW j).length = 2 * j
  | 0 => rfl
  | j + 1 => by rw [capsW, List.length_append, capsW_len j]; rfl
theorem hndW_len : ∀ j, (hndW j).length = 4 * j
  | 0 => rfl
  | j + 1 => by rw [hndW, List.length_append, hndW_len j]; rfl
def capL : List UInt8 := [97, 97]
def hndL : List UInt8 := [97, 98, 65, 66]
theorem capL_word : Word capL := wordB_iff.1 (by decide)
theorem hndL_word : Word hndL := wordB_iff.1 (by decide)
theorem cap_names (k : Nat) : namesW capL k = [nmb k true, nmb k true] := by
  have h : ∀ i, i < 2 → rk capL (fst capL i) = 0 ∧ (sml (gb capL i) == sml (gb capL (fst capL i))) = true := by decide
  have e : ∀ i, i < 2 → nmAt capL k i = nmb k true := fun i hi => by rw [nmAt, (h i hi).1, (h i hi).2, Nat.add_zero]
  show [nmAt capL k 0, nmAt capL k 1] = _
  rw [e 0 (by omega), e 1 (by omega)]
theorem hnd_names (k : Nat) : namesW hndL k = [nmb k true, nmb (k + 1) true, nmb k false, nmb (k + 1) false] := by
  have h : ∀ i, i < 4 → rk hndL (fst hndL i) = i % 2 ∧ (sml (gb hndL i) == sml (gb hndL (fst hndL i))) = decide (i < 2) := by decide
  have e : ∀ i, i < 4 → nmAt hndL k i = nmb (k + i % 2) (decide (i < 2)) := fun i hi => by rw [nmAt, (h i hi).1, (h i hi).2]
  show [nmAt hndL k 0, nmAt hndL k 1, nmAt hndL k 2, nmAt hndL k 3] = _
  rw [e 0 (by omega), e 1 (by omega), e 2 (by omega), e 3 (by omega)]
  rfl
theorem getD_rep {w : List UInt8} {m j : Nat} (h : j < m) : (List.replicate m w).getD j [] = w := by simp [List.getD, h]
theorem caps_acc (m : Nat) : ∀ j, j ≤ m → kS (List.replicate m capL) j = j ∧ accS (List.replicate m capL) j = capsW j
  | 0, _ => ⟨rfl, rfl⟩
  | j + 1, h => by
    obtain ⟨h1, h2⟩ := caps_acc m j (by omega)
    rw [kS, accS, getD_rep (by omega), h1, h2, cap_names]
    exact ⟨rfl, rfl⟩
theorem hnd_acc (m : Nat) : ∀ j, j ≤ m → kS (List.replicate m hndL) j = 2 * j ∧ accS (List.replicate m hndL) j = hndW j
  | 0, _ => ⟨rfl, rfl⟩
  | j + 1, h => by
    obtain ⟨h1, h2⟩ := hnd_acc m j (by omega)
    rw [kS, accS, getD_rep (by omega), h1, h2, hnd_names]
    exact ⟨by show 2 * j + 2 = _; omega, rfl⟩
/-- What a word lacks of the sphere. -/
noncomputable def lackM (l : List UInt8) : Nat := (2 - numN l).toNat
theorem Word.lackM {l : List UInt8} (h : Word l) : 2 - Go.Proofs.YtmhalaleoklplaaDoor.numN l = (Go.Proofs.YtmhalaleoklplaaDoor.lackM l : Int) ∧ Go.Proofs.YtmhalaleoklplaaDoor.lackM l ≤ 5 := by
  have h1 := h.numN
  have h2 := h.cor_le
  have h3 := h.len
  unfold Go.Proofs.YtmhalaleoklplaaDoor.lackM Go.Proofs.YtmhalaleoklplaaDoor.numN at *
  omega
theorem lackM_even {l : List UInt8} (h : sidedB l = true) : lackM l % 2 = 0 := by
  obtain ⟨h1, h2⟩ := sidedB_all h
  have hw := wordB_iff.1 h1
  have he := Sided.even ⟨hw, h2⟩
  have hl := hw.lackM.1
  have hn := hw.len
  unfold numN at hl
  omega
noncomputable def nrmN (l : List UInt8) : List UInt8 := if lackM l = 0 then [97, 65] else if sidedB l then hndW (lackM l / 2) else capsW (lackM l)
noncomputable def nrmR (l : List UInt8) : Bool × List UInt8 := strR (wordB l) (nrmN l)

set_option maxRecDepth 100000 in
set_option maxHeartbeats 1600000 in
theorem normal_any (w : World) (s : ByteArray) (hw : Word s.data.toList) :
    Calls Tryd.prog 24 #[.string s] w fun e w' => e = .returned (.string ⟨(nrmN s.data.toList).toArray⟩) ∧ Below w.heap.size w w' := by
  obtain ⟨hlk, hl5⟩ := hw.lackM
  have hnb := hw.numN
  obtain ⟨m, hm⟩ : ∃ m, lackM s.data.toList = m := ⟨_, rfl⟩
  obtain ⟨x, hx⟩ : ∃ x, numN s.data.toList = x := ⟨_, rfl⟩
  obtain ⟨b, hb⟩ : ∃ b, sidedB s.data.toList = b := ⟨_, rfl⟩
  rw [hm] at hlk hl5
  rw [hx] at hlk hnb
  have HW := Lib.hid hw; have HX := Lib.hid hx; have HB := Lib.hid hb; have HM := Lib.hid hm
  by_cases h0 : m = 0
  · subst h0
    clear hw hx hm hb hnb
    go_enter Tryd.func24, Tryd.ntmps24
    go_wp2_with fail
    refine (number_any _ s HW.out).mono ?_
    rintro e w1 ⟨rfl, b1⟩
    rw [HX.out]
    have HB1 := Lib.hid b1; clear b1
    go_wp2_with fail
    go_ret
    exact ⟨ret_str (by rw [nrmN, if_pos HM.out]), HB1.out⟩
  have hd0 : ((m : Int) == 0) = false := by simp; omega
  cases b with
  | true =>
    have hev := lackM_even hb
    rw [hm] at hev
    obtain ⟨h, hh⟩ : ∃ h, m / 2 = h := ⟨_, rfl⟩
    have hd : (m : Int) / 2 = (h : Int) := by omega
    have hd2 : (m : Int).tdiv 2 = (h : Int) := by rw [Int.tdiv_eq_ediv_of_nonneg (by omega)]; omega
    have hh1 : 1 ≤ h := by omega
    have hh5 : 2 * h ≤ 5 := by omega
    have HE : Hid (nrmN s.data.toList = accS (List.replicate h hndL) h) := by rw [Hid, nrmN, if_neg (by rw [hm]; exact h0), if_pos hb, hm, hh, (hnd_acc h h (Nat.le_refl _)).2]
    clear hw hx hm hb hnb hev hh h0
    go_enter Tryd.func24, Tryd.ntmps24
    go_wp2_with fail
    refine (number_any _ s HW.out).mono ?_
    rintro e w1 ⟨rfl, b1⟩
    rw [HX.out]
    have HB1 := Lib.hid b1; clear b1
    go_wp2_with fail
    refine (sided_any _ s HW.out HB.out).mono ?_
    rintro e w2 ⟨rfl, b1⟩
    have HB2 := Lib.hid (HB1.out.trans (b1.mono HB1.out.size)); clear b1
    go_wp2_with fail
    refine (repeat_wordG w2.heap.size 1 h ⟨#[97, 98, 65, 66]⟩ _ (by rw [cell_of_row _ _ 0 _ _ (0, 0) (heap_alloc_new w2 _)]; rfl) hh1 (by omega)).mono ?_
    rintro e w3 ⟨G, rfl, hc, b1⟩
    have HC := Lib.hid hc
    have HB3 : Hid (Below w.heap.size w w3) := (HB2.out.alloc HB2.out.size _).trans (b1.mono (by rw [World.size_alloc]; have := HB2.out.size; omega)); clear b1 hc
    go_wp2_with fail
    refine (sumOf_any G h h (fun _ => ⟨#[97, 98, 65, 66]⟩) (List.replicate h hndL) _ (by simp) hh1 (by omega) (by rw [(hnd_acc h h (Nat.le_refl _)).1]; exact hh5) (fun i hi => by rw [getD_rep hi]; exact hndL_word) (fun i hi => ⟨HC.out i hi, by rw [getD_rep hi]; rfl⟩)).mono ?_
    rintro e w4 ⟨rfl, b1⟩
    have HB4 := Lib.hid (HB3.out.trans (b1.mono HB3.out.size)); clear b1
    go_wp2_with fail
    go_ret
    exact ⟨ret_str (by rw [HE.out]), HB4.out⟩
  | false =>
    have hh1 : 1 ≤ m := by omega
    have HE : Hid (nrmN s.data.toList = accS (List.replicate m capL) m) := by rw [Hid, nrmN, if_neg (by rw [hm]; exact h0), if_neg (by simp [hb]), hm, (caps_acc m m (Nat.le_refl _)).2]
    clear hw hx hm hb hnb h0
    go_enter Tryd.func24, Tryd.ntmps24
    go_wp2_with fail
    refine (number_any _ s HW.out).mono ?_
    rintro e w1 ⟨rfl, b1⟩
    rw [HX.out]
    have HB1 := Lib.hid b1; clear b1
    go_wp2_with fail
    refine (sided_any _ s HW.out HB.out).mono ?_
    rintro e w2 ⟨rfl, b1⟩
    have HB2 := Lib.hid (HB1.out.trans (b1.mono HB1.out.size)); clear b1
    go_wp2_with fail
    refine (repeat_wordG w2.heap.size 1 m ⟨#[97, 97]⟩ _ (by rw [cell_of_row _ _ 0 _ _ (0, 0) (heap_alloc_new w2 _)]; rfl) hh1 (by omega)).mono ?_
    rintro e w3 ⟨G, rfl, hc, b1⟩
    have HC := Lib.hid hc
    have HB3 : Hid (Below w.heap.size w w3) := (HB2.out.alloc HB2.out.size _).trans (b1.mono (by rw [World.size_alloc]; have := HB2.out.size; omega)); clear b1 hc
    go_wp2_with fail
    refine (sumOf_any G m m (fun _ => ⟨#[97, 97]⟩) (List.replicate m capL) _ (by simp) hh1 (by omega) (by rw [(caps_acc m m (Nat.le_refl _)).1]; exact hl5) (fun i hi => by rw [getD_rep hi]; exact capL_word) (fun i hi => ⟨HC.out i hi, by rw [getD_rep hi]; rfl⟩)).mono ?_
    rintro e w4 ⟨rfl, b1⟩
    have HB4 := Lib.hid (HB3.out.trans (b1.mono HB3.out.size)); clear b1
    go_wp2_with fail
    go_ret
    exact ⟨ret_str (by rw [HE.out]), HB4.out⟩

set_option maxHeartbeats 800000 in
theorem impl_nrmR (w : World) (s : ByteArray) (hs : s.size ≤ 1048576) {ok : Bool} {r : List UInt8} (hR : nrmR s.data.toList = (ok, r)) :
    Calls Tryd.prog 10 #[.string s] w fun e w' => e = .returned (.tuple #[.string ⟨r.toArray⟩, .bool ok]) ∧ Below w.heap.size w w' := by
  obtain ⟨b, hb⟩ : ∃ b, wordB s.data.toList = b := ⟨_, rfl⟩
  have HBB := Lib.hid hb
  rw [nrmR, hb] at hR
  cases b with
  | false =>
    simp only [strR, Bool.false_eq_true, if_false, Prod.mk.injEq] at hR
    obtain ⟨rfl, rfl⟩ := hR
    clear hb
    go_enter Tryd.func10, Tryd.ntmps10
    go_wp2_with (go_at_call 11; refine (implWord_any s _ hs HBB.out).mono ?_; rintro e w1 ⟨rfl, b⟩; have HB1 := Lib.hid b; clear b)
    go_ret2
    exact ⟨rfl, HB1.out⟩
  | true =>
    simp only [strR, if_true, Prod.mk.injEq] at hR
    obtain ⟨rfl, e⟩ := hR
    have HE := Lib.hid e
    have HW := Lib.hid (wordB_iff.1 hb)
    clear e hb
    go_enter Tryd.func10, Tryd.ntmps10
    go_wp2_with (first
      | (go_at_call 11; refine (implWord_any s _ hs HBB.out).mono ?_; rintro e w1 ⟨rfl, b⟩; have HB1 := Lib.hid b; clear b)
      | (go_at_call 24; refine (normal_any _ s HW.out).mono ?_; rintro e w2 ⟨rfl, b⟩; have HB2 := Lib.hid (HB1.out.trans (b.mono HB1.out.size)); clear b))
    go_ret2
    obtain rfl : nrmN s.data.toList = r := HE.out
    exact ⟨rfl, HB2.out⟩

end Go.Proofs.YtmhalaleoklplaaDoor

/-
  Normal words: the program's.
  Plain: two sides stay when a word is turned, read back, renamed, and in normal words; they don't where one letter is written the other way.
  Normal words: the model's.
-/
import Derived.Test.YtfdliekhlcbkcaaDoorRepW
import Derived.Test.YtfdliekhlcbkcaaDoorWrdN
import Derived.Test.YtfdliekhlcbkcaaDoorWrdZ
import Derived.Test.YtfdliekhlcbkcaaDoorWrdR
namespace Go.Proofs.YtfdliekhlcbkcaaDoor
open Go.RowKit

theorem repeat_wordG (g c n : Nat) (s : ByteArray) (w : World) (h : w.cell? ⟨g, 0, none⟩ = some (.string s)) (h1 : 1 ≤ n) (h12 : n ≤ 12) :
    Calls Tryd.prog 103 #[.slice (some ⟨g, 0, none⟩) 1 c, .int .i64 n] w fun e w' => ∃ G, e = .returned (.slice (some ⟨G, 0, none⟩) n n) ∧ (∀ j, j < n → w'.cell? ⟨G, j, none⟩ = some (.string s)) ∧ Below w.heap.size w w' :=
  (repeat_word g c n s w h h1 h12).mono fun _ _ h => ⟨_, h⟩

/-- Crosscaps; handles. -/
def capsW : Nat → List UInt8
  | 0 => []
  | j + 1 => capsW j ++ [nmb j true, nmb j true]
def hndW : Nat → List UInt8
  | 0 => []
  | j + 1 => hndW j ++ [nmb (2 * j) true, nmb (2 * j + 1) true, nmb (2 * j) false, nmb (2 * j + 1) false]
theorem capsW_len : ∀ j, (capsW j).length = 2 * j
  | 0 => rfl
  | j + 1 => by rw [capsW, List.length_append, capsW_len j]; rfl
theorem hndW_len : ∀ j, (hndW j).length = 4 * j
  | 0 => rfl
  | j + 1 => by rw [hndW, List.length_append, hndW_len j]; rfl
def capL : List UInt8 := [97, 97]
def hndL : List UInt8 := [97, 98, 65, 66]
theorem capL_word : Word capL := wordB_iff.1 (by decide)
theorem hndL_word : Word hndL := wordB_iff.1 (by decide)
theorem cap_names (k : Nat) : namesW capL k = [nmb k true, nmb k true] := by
  have h : ∀ i, i < 2 → rk capL (fst capL i) = 0 ∧ (sml (gb capL i) == sml (gb capL (fst capL i))) = true := by decide
  have e : ∀ i, i < 2 → nmAt capL k i = nmb k true := fun i hi => by rw [nmAt, (h i hi).1, (h i hi).2, Nat.add_zero]
  show [nmAt capL k 0, nmAt capL k 1] = _
  rw [e 0 (by omega), e 1 (by omega)]
theorem hnd_names (k : Nat) : namesW hndL k = [nmb k true, nmb (k + 1) true, nmb k false, nmb (k + 1) false] := by
  have h : ∀ i, i < 4 → rk hndL (fst hndL i) = i % 2 ∧ (sml (gb hndL i) == sml (gb hndL (fst hndL i))) = decide (i < 2) := by decide
  have e : ∀ i, i < 4 → nmAt hndL k i = nmb (k + i % 2) (decide (i < 2)) := fun i hi => by rw [nmAt, (h i hi).1, (h i hi).2]
  show [nmAt hndL k 0, nmAt hndL k 1, nmAt hndL k 2, nmAt hndL k 3] = _
  rw [e 0 (by omega), e 1 (by omega), e 2 (by omega), e 3 (by omega)]
  rfl
theorem getD_rep {w : List UInt8} {m j : Nat} (h : j < m) : (List.replicate m w).getD j [] = w := by simp [List.getD, h]
theorem caps_acc (m : Nat) : ∀ j, j ≤ m → kS (List.replicate m capL) j = j ∧ accS (List.replicate m capL) j = capsW j
  | 0, _ => ⟨rfl, rfl⟩
  | j + 1, h => by
    obtain ⟨h1, h2⟩ := caps_acc m j (by omega)
    rw [kS, accS, getD_rep (by omega), h1, h2, cap_names]
    exact ⟨rfl, rfl⟩
theorem hnd_acc (m : Nat) : ∀ j, j ≤ m → kS (List.replicate m hndL) j = 2 * j ∧ accS (List.replicate m hndL) j = hndW j
  | 0, _ => ⟨rfl, rfl⟩
  | j + 1, h => by
    obtain ⟨h1, h2⟩ := hnd_acc m j (by omega)
    rw [kS, accS, getD_rep (by omega), h1, h2, hnd_names]
    exact ⟨by show 2 * j + 2 = _; omega, rfl⟩
/-- What a word lacks of the sphere. -/
noncomputable def lackM (l : List UInt8) : Nat := (2 - numN l).toNat
theorem Word.lackM {l : List UInt8} (h : Word l) : 2 - Go.Proofs.YtfdliekhlcbkcaaDoor.numN l = (Go.Proofs.YtfdliekhlcbkcaaDoor.lackM l : Int) ∧ Go.Proofs.YtfdliekhlcbkcaaDoor.lackM l ≤ 5 := by
  have h1 := h.numN
  have h2 := h.cor_le
  have h3 := h.len
  unfold Go.Proofs.YtfdliekhlcbkcaaDoor.lackM Go.Proofs.YtfdliekhlcbkcaaDoor.numN at *
  omega
theorem lackM_even {l : List UInt8} (h : sidedB l = true) : lackM l % 2 = 0 := by
  obtain ⟨h1, h2⟩ := sidedB_all h
  have hw := wordB_iff.1 h1
  have he := Sided.even ⟨hw, h2⟩
  have hl := hw.lackM.1
  have hn := hw.len
  unfold numN at hl
  omega
noncomputable def nrmN (l : List UInt8) : List UInt8 := if lackM l = 0 then [97, 65] else if sidedB l then hndW (lackM l / 2) else capsW (lackM l)
noncomputable def nrmR (l : List UInt8) : Bool × List UInt8 := strR (wordB l) (nrmN l)

set_option maxRecDepth 100000 in
set_option maxHeartbeats 1600000 in
theorem normal_any (w : World) (s : ByteArray) (hw : Word s.data.toList) :
    Calls Tryd.prog 69 #[.string s] w fun e w' => e = .returned (.string ⟨(nrmN s.data.toList).toArray⟩) ∧ Below w.heap.size w w' := by
  obtain ⟨hlk, hl5⟩ := hw.lackM
  have hnb := hw.numN
  obtain ⟨m, hm⟩ : ∃ m, lackM s.data.toList = m := ⟨_, rfl⟩
  obtain ⟨x, hx⟩ : ∃ x, numN s.data.toList = x := ⟨_, rfl⟩
  obtain ⟨b, hb⟩ : ∃ b, sidedB s.data.toList = b := ⟨_, rfl⟩
  rw [hm] at hlk hl5
  rw [hx] at hlk hnb
  have HW := Lib.hid hw; have HX := Lib.hid hx; have HB := Lib.hid hb; have HM := Lib.hid hm
  by_cases h0 : m = 0
  · subst h0
    clear hw hx hm hb hnb
    go_enter Tryd.func69, Tryd.ntmps69
    go_wp2_with fail
    refine (number_any _ s HW.out).mono ?_
    rintro e w1 ⟨rfl, b1⟩
    rw [HX.out]
    have HB1 := Lib.hid b1; clear b1
    go_wp2_with fail
    go_ret
    exact ⟨ret_str (by rw [nrmN, if_pos HM.out]), HB1.out⟩
  have hd0 : ((m : Int) == 0) = false := by simp; omega
  cases b with
  | true =>
    have hev := lackM_even hb
    rw [hm] at hev
    obtain ⟨h, hh⟩ : ∃ h, m / 2 = h := ⟨_, rfl⟩
    have hd : (m : Int) / 2 = (h : Int) := by omega
    have hd2 : (m : Int).tdiv 2 = (h : Int) := by rw [Int.tdiv_eq_ediv_of_nonneg (by omega)]; omega
    have hh1 : 1 ≤ h := by omega
    have hh5 : 2 * h ≤ 5 := by omega
    have HE : Hid (nrmN s.data.toList = accS (List.replicate h hndL) h) := by rw [Hid, nrmN, if_neg (by rw [hm]; exact h0), if_pos hb, hm, hh, (hnd_acc h h (Nat.le_refl _)).2]
    clear hw hx hm hb hnb hev hh h0
    go_enter Tryd.func69, Tryd.ntmps69
    go_wp2_with fail
    refine (number_any _ s HW.out).mono ?_
    rintro e w1 ⟨rfl, b1⟩
    rw [HX.out]
    have HB1 := Lib.hid b1; clear b1
    go_wp2_with fail
    refine (sided_any _ s HW.out HB.out).mono ?_
    rintro e w2 ⟨rfl, b1⟩
    have HB2 := Lib.hid (HB1.out.trans (b1.mono HB1.out.size)); clear b1
    go_wp2_with fail
    refine (repeat_wordG w2.heap.size 1 h ⟨#[97, 98, 65, 66]⟩ _ (by rw [cell_of_row _ _ 0 _ _ (0, 0) (heap_alloc_new w2 _)]; rfl) hh1 (by omega)).mono ?_
    rintro e w3 ⟨G, rfl, hc, b1⟩
    have HC := Lib.hid hc
    have HB3 : Hid (Below w.heap.size w w3) := (HB2.out.alloc HB2.out.size _).trans (b1.mono (by rw [World.size_alloc]; have := HB2.out.size; omega)); clear b1 hc
    go_wp2_with fail
    refine (sumOf_any G h h (fun _ => ⟨#[97, 98, 65, 66]⟩) (List.replicate h hndL) _ (by simp) hh1 (by omega) (by rw [(hnd_acc h h (Nat.le_refl _)).1]; exact hh5) (fun i hi => by rw [getD_rep hi]; exact hndL_word) (fun i hi => ⟨HC.out i hi, by rw [getD_rep hi]; rfl⟩)).mono ?_
    rintro e w4 ⟨rfl, b1⟩
    have HB4 := Lib.hid (HB3.out.trans (b1.mono HB3.out.size)); clear b1
    go_wp2_with fail
    go_ret
    exact ⟨ret_str (by rw [HE.out]), HB4.out⟩
  | false =>
    have hh1 : 1 ≤ m := by omega
    have HE : Hid (nrmN s.data.toList = accS (List.replicate m capL) m) := by rw [Hid, nrmN, if_neg (by rw [hm]; exact h0), if_neg (by simp [hb]), hm, (caps_acc m m (Nat.le_refl _)).2]
    clear hw hx hm hb hnb h0
    go_enter Tryd.func69, Tryd.ntmps69
    go_wp2_with fail
    refine (number_any _ s HW.out).mono ?_
    rintro e w1 ⟨rfl, b1⟩
    rw [HX.out]
    have HB1 := Lib.hid b1; clear b1
    go_wp2_with fail
    refine (sided_any _ s HW.out HB.out).mono ?_
    rintro e w2 ⟨rfl, b1⟩
    have HB2 := Lib.hid (HB1.out.trans (b1.mono HB1.out.size)); clear b1
    go_wp2_with fail
    refine (repeat_wordG w2.heap.size 1 m ⟨#[97, 97]⟩ _ (by rw [cell_of_row _ _ 0 _ _ (0, 0) (heap_alloc_new w2 _)]; rfl) hh1 (by omega)).mono ?_
    rintro e w3 ⟨G, rfl, hc, b1⟩
    have HC := Lib.hid hc
    have HB3 : Hid (Below w.heap.size w w3) := (HB2.out.alloc HB2.out.size _).trans (b1.mono (by rw [World.size_alloc]; have := HB2.out.size; omega)); clear b1 hc
    go_wp2_with fail
    refine (sumOf_any G m m (fun _ => ⟨#[97, 97]⟩) (List.replicate m capL) _ (by simp) hh1 (by omega) (by rw [(caps_acc m m (Nat.le_refl _)).1]; exact hl5) (fun i hi => by rw [getD_rep hi]; exact capL_word) (fun i hi => ⟨HC.out i hi, by rw [getD_rep hi]; rfl⟩)).mono ?_
    rintro e w4 ⟨rfl, b1⟩
    have HB4 := Lib.hid (HB3.out.trans (b1.mono HB3.out.size)); clear b1
    go_wp2_with fail
    go_ret
    exact ⟨ret_str (by rw [HE.out]), HB4.out⟩

set_option maxHeartbeats 800000 in
theorem impl_nrmR (w : World) (s : ByteArray) (hs : s.size ≤ 1048576) {ok : Bool} {r : List UInt8} (hR : nrmR s.data.toList = (ok, r)) :
    Calls Tryd.prog 29 #[.string s] w fun e w' => e = .returned (.tuple #[.string ⟨r.toArray⟩, .bool ok]) ∧ Below w.heap.size w w' := by
  obtain ⟨b, hb⟩ : ∃ b, wordB s.data.toList = b := ⟨_, rfl⟩
  have HBB := Lib.hid hb
  rw [nrmR, hb] at hR
  cases b with
  | false =>
    simp only [strR, Bool.false_eq_true, if_false, Prod.mk.injEq] at hR
    obtain ⟨rfl, rfl⟩ := hR
    clear hb
    go_enter Tryd.func29, Tryd.ntmps29
    go_wp2_with (go_at_call 39; refine (implWord_any s _ hs HBB.out).mono ?_; rintro e w1 ⟨rfl, b⟩; have HB1 := Lib.hid b; clear b)
    go_ret2
    exact ⟨rfl, HB1.out⟩
  | true =>
    simp only [strR, if_true, Prod.mk.injEq] at hR
    obtain ⟨rfl, e⟩ := hR
    have HE := Lib.hid e
    have HW := Lib.hid (wordB_iff.1 hb)
    clear e hb
    go_enter Tryd.func29, Tryd.ntmps29
    go_wp2_with (first
      | (go_at_call 39; refine (implWord_any s _ hs HBB.out).mono ?_; rintro e w1 ⟨rfl, b⟩; have HB1 := Lib.hid b; clear b)
      | (go_at_call 69; refine (normal_any _ s HW.out).mono ?_; rintro e w2 ⟨rfl, b⟩; have HB2 := Lib.hid (HB1.out.trans (b.mono HB1.out.size)); clear b))
    go_ret2
    obtain rfl : nrmN s.data.toList = r := HE.out
    exact ⟨rfl, HB2.out⟩

end Go.Proofs.YtfdliekhlcbkcaaDoor

namespace Go.Proofs.YtfdliekhlcbkcaaDoor

theorem sided_normal {l : List UInt8} (h : sidedB l = true) : sidedB (nrmN l) = true := by
  have he := lackM_even h
  have hl := (wordB_iff.1 (sidedB_all h).1).lackM.2
  have d0 : sidedB [97, 65] = true := by decide +kernel
  have d1 : sidedB (hndW 1) = true := by decide +kernel
  have d2 : sidedB (hndW 2) = true := by decide +kernel
  unfold nrmN
  split
  · exact d0
  · rcases (by omega : lackM l / 2 = 1 ∨ lackM l / 2 = 2) with e | e <;> rw [e] <;> assumption
/-- The first letter written the other way. -/
def flipW (l : List UInt8) : List UInt8 := oth (gb l 0) :: l.drop 1
theorem flipW_len {l : List UInt8} (h : 0 < l.length) : (flipW l).length = l.length := by simp [flipW]; omega
theorem cons_eq {l : List UInt8} (h : 0 < l.length) : l = gb l 0 :: l.drop 1 := by
  cases l with
  | nil => simp at h
  | cons a r => rfl
theorem flip_at {l : List UInt8} (h : 0 < l.length) (i : Nat) : gb (flipW l) i = if i = 0 then oth (gb l 0) else gb l i := by
  cases l with
  | nil => simp at h
  | cons a r =>
    cases i with
    | zero => rfl
    | succ i => rfl
theorem Word.flip {l : List UInt8} (h : Word l) : Word (flipW l) := by
  have hpos := h.pos
  have h0 := h.ok 0 hpos
  have e0 := (ltr_oth _ h0.1).1
  have hc : ∀ k, ltc (flipW l) k = ltc l k := fun k => by
    rw [cons_eq hpos]
    show ltc (oth (gb l 0) :: (l.drop 1)) k = _
    rw [ltc_cons, ltc_cons, e0]
  refine ⟨by rw [flipW_len hpos]; exact hpos, fun i hi => ?_⟩
  rw [flipW_len hpos] at hi
  rw [flip_at hpos, hc]
  split
  · rw [e0]; exact h0
  · exact h.ok i hi
theorem Word.par_flip {l : List UInt8} (h : Word l) : par (flipW l) 0 = par l 0 := by
  have hpos := h.pos
  have hp := h.isPar hpos
  have e0 := (ltr_oth _ (h.ok 0 hpos).1).1
  refine (h.flip.isPar (by rw [flipW_len hpos]; exact hpos)).uniq (⟨by rw [flipW_len hpos]; exact hp.lt, hp.ne, ?_, fun j hj e => ?_⟩ : IsPar (flipW l) 0 (par l 0))
  · rw [flip_at hpos, flip_at hpos, if_neg hp.ne, if_pos rfl, e0]; exact hp.eq
  · rw [flipW_len hpos] at hj
    rw [flip_at hpos, flip_at hpos, if_pos rfl, e0] at e
    by_cases hj0 : j = 0
    · left; exact hj0
    · rw [if_neg hj0] at e; exact hp.all j hj e
theorem flip_not {l : List UInt8} (h : sidedB l = true) : sidedB (flipW l) = false := by
  obtain ⟨h1, h2⟩ := sidedB_all h
  have hw := wordB_iff.1 h1
  have hpos := hw.pos
  have hp := hw.isPar hpos
  have ht := h2 0 hpos
  refine sidedB_no (i := 0) (by rw [flipW_len hpos]; exact hpos) ?_
  unfold twoAt at ht ⊢
  rw [hw.par_flip, flip_at hpos, flip_at hpos, if_pos rfl, if_neg hp.ne, (ltr_oth _ (hw.ok 0 hpos).1).2]
  revert ht
  cases sml (gb l 0) <;> cases sml (gb l (par l 0)) <;> decide
/-- One letter twice. -/
theorem two_word {c : UInt8} (h : 0 ≤ ltr c) : Word [c, c] := by
  refine word_of (by simp) fun d hd => ?_
  obtain rfl : d = c := by simpa using hd
  refine ⟨h, ?_⟩
  simp [ltc]
theorem two_back (c : UInt8) : backW [c, c] = [oth c, oth c] := rfl

end Go.Proofs.YtfdliekhlcbkcaaDoor

namespace Go.Proofs.YtfdliekhlcbkcaaDoor
open Go.RowKit

/-- What stands there behind i rounds. -/
def rowW (b : Bool) (i : Nat) : List UInt8 := if b then hndW (i / 2) else capsW i
theorem rowW_len (b : Bool) (i : Nat) : (rowW b i).length ≤ 2 * i := by
  unfold rowW
  split
  · rw [hndW_len]; omega
  · rw [capsW_len]; omega
theorem specWordN (w : World) (s : ByteArray) (hs : s.size ≤ 1048576) {r : Bool} (hR : wordB s.data.toList = r) :
    Calls Tryd.prog 50 #[.string s] w fun e w' => e = .returned (.bool r) ∧ Below w.heap.size w w' :=
  (specWord_any s w hs hR).mono fun _ _ ⟨he, k, hw⟩ => ⟨he, hw ▸ below_drewN (Below.refl _ _) k⟩
theorem nrmR_yes {l : List UInt8} (h : wordB l = true) : nrmR l = (true, nrmN l) := by rw [nrmR, h]; rfl
theorem nrmR_no {l : List UInt8} (h : wordB l = false) : nrmR l = (false, []) := by rw [nrmR, h]; rfl
theorem add_any (a b : ByteArray) (ha : a.size ≤ 1000) (hb : b.size ≤ 1000) : ∀ W : World, (Op.stringOp .add a b).run Tryd.prog W = .ok (.string (a ++ b)) W := fun W => run_string_add_sum W _ _ (by omega)

set_option maxRecDepth 100000 in
set_option maxHeartbeats 3200000 in
theorem spec_nrmR (w : World) (s : ByteArray) (hs : s.size ≤ 1048576) {ok : Bool} {r : List UInt8} (hR : nrmR s.data.toList = (ok, r)) :
    Calls Tryd.prog 31 #[.string s] w fun e w' => e = .returned (.tuple #[.string ⟨r.toArray⟩, .bool ok]) ∧ Below w.heap.size w w' := by
  by_cases ha : wordB s.data.toList = true
  · have HA : Hid (wordB s.data.toList = true) := ha
    have hw := wordB_iff.1 ha
    have h := (nrmR_yes ha).symm.trans hR
    simp only [Prod.mk.injEq] at h
    obtain ⟨rfl, e⟩ := h
    have HE := Lib.hid e
    obtain ⟨hlk, hl5⟩ := hw.lackM
    have hnb := hw.numN
    obtain ⟨m, hm⟩ : ∃ m, lackM s.data.toList = m := ⟨_, rfl⟩
    obtain ⟨x, hx⟩ : ∃ x, numN s.data.toList = x := ⟨_, rfl⟩
    obtain ⟨b, hb⟩ : ∃ b, sidedB s.data.toList = b := ⟨_, rfl⟩
    rw [hm] at hlk hl5
    rw [hx] at hlk hnb
    have HX : Hid (numR s.data.toList = x) := (numR_yes ha).trans hx
    have HB : Hid (sidR s.data.toList = b) := hb
    have HM := Lib.hid hm
    have HBB := Lib.hid hb
    by_cases h0 : m = 0
    · subst h0
      clear hw hx hm hb hnb hR ha e
      go_enter Tryd.func31, Tryd.ntmps31
      go_wp2_with fail
      refine (spec_numR _ s hs HX.out).mono ?_
      rintro e w1 ⟨rfl, b1⟩
      have HB1 := Lib.hid b1; clear b1
      go_wp2_with fail
      refine (specWordN _ s hs HA.out).mono ?_
      rintro e w2 ⟨rfl, b1⟩
      have HB2 := Lib.hid (HB1.out.trans (b1.mono HB1.out.size)); clear b1
      go_wp2_with fail
      go_ret2
      obtain rfl : nrmN s.data.toList = r := HE.out
      refine ⟨?_, HB2.out⟩
      rw [nrmN, if_pos HM.out]
      rfl
    have hd0 : ((m : Int) == 0) = false := by simp; omega
    have H0 := Lib.hid h0
    clear hw hx hm hb hnb hR ha e h0
    go_enter Tryd.func31, Tryd.ntmps31
    go_wp2_with fail
    refine (spec_numR _ s hs HX.out).mono ?_
    rintro e w1 ⟨rfl, b1⟩
    have HB1 := Lib.hid b1; clear b1
    go_wp2_with fail
    refine (specWordN _ s hs HA.out).mono ?_
    rintro e w2 ⟨rfl, b1⟩
    have HB2 := Lib.hid (HB1.out.trans (b1.mono HB1.out.size)); clear b1
    go_wp2_with fail
    go_loopw [4, 6] (fun ov iv wr => ∃ (i : Nat) (t : ByteArray), i ≤ m ∧ iv = .int .i64 i ∧ ov = .string t ∧ Hid (t.data.toList = rowW b i) ∧ t.size ≤ 10 ∧ Hid (Below w.heap.size w wr)) (fun _ iv _ => m - (intOf iv).toNat)
    case atStart => exact ⟨0, _, Nat.zero_le _, rfl, rfl, by unfold rowW; cases b <;> rfl, by show 0 ≤ 10; omega, HB2.out⟩
    case round =>
      obtain ⟨i, t, hi, rfl, rfl, ht, hts, hb⟩ := hrel
      by_cases hlt : i < m
      · have hi5 : i < 32 := by omega
        have hT : Hid (∀ t' : ByteArray, t'.data.toList = rowW b (i + 1) → t'.size ≤ 10) := fun t' h => by
          have h1 := congrArg List.length h
          have h2 := rowW_len b (i + 1)
          rw [len_str] at h1
          omega
        cases b with
        | false =>
          have c1 := add_any t ⟨#[nmb i true]⟩ (by omega) (by show 1 ≤ 1000; omega)
          have c2 := add_any (t ++ ⟨#[nmb i true]⟩) ⟨#[nmb i true]⟩ (by rw [ByteArray.size_append]; show t.size + 1 ≤ 1000; omega) (by show 1 ≤ 1000; omega)
          go_wp2_with fail
          refine (spec_sidR _ s hs HB.out).mono ?_
          rintro e w3 ⟨rfl, b1⟩
          have HB3 := Lib.hid (hb.out.trans (b1.mono hb.out.size)); clear b1
          go_wp2_with fail
          refine (l8Name_any i true _ hi5).mono ?_
          rintro e w4 ⟨rfl, b1⟩
          have HB4 := Lib.hid (HB3.out.trans (b1.mono HB3.out.size)); clear b1
          go_wp2_with fail
          refine (l8Name_any i true _ hi5).mono ?_
          rintro e w5 ⟨rfl, b1⟩
          have HB5 := Lib.hid (HB4.out.trans (b1.mono HB4.out.size)); clear b1
          go_wp2_with fail
          go_roundw
          case rel =>
            have e : (t ++ ⟨#[nmb i true]⟩ ++ ⟨#[nmb i true]⟩ : ByteArray).data.toList = rowW false (i + 1) := by
              rw [str_app, str_app, ht.out]
              show capsW i ++ [nmb i true] ++ [nmb i true] = capsW i ++ [nmb i true, nmb i true]
              simp
            exact ⟨i + 1, _, by omega, by go_num, rfl, e, hT.out _ e, HB5.out⟩
          case measure => simp [intOf]; omega
        | true =>
          obtain ⟨j, hj | hj⟩ : ∃ j, i = 2 * j ∨ i = 2 * j + 1 := ⟨i / 2, by omega⟩
          · have hr1 : (i : Int).tmod 2 = 0 := by rw [Int.tmod_eq_emod_of_nonneg (by omega)]; omega
            have hr2 : (i : Int) % 2 = 0 := by omega
            have HJ := Lib.hid hj
            have e : Hid (rowW true (i + 1) = rowW true i) := by
              rw [Hid]
              show hndW ((i + 1) / 2) = hndW (i / 2)
              rw [show (i + 1) / 2 = i / 2 by omega]
            clear hj
            go_wp2_with fail
            refine (spec_sidR _ s hs HB.out).mono ?_
            rintro e w3 ⟨rfl, b1⟩
            have HB3 := Lib.hid (hb.out.trans (b1.mono hb.out.size)); clear b1
            go_wp2_with fail
            go_roundw
            case rel => exact ⟨i + 1, _, by omega, by go_num, rfl, by rw [Hid, e.out]; exact ht.out, hts, HB3.out⟩
            case measure => simp [intOf]; omega
          · have hr1 : (i : Int).tmod 2 = 1 := by rw [Int.tmod_eq_emod_of_nonneg (by omega)]; omega
            have hr2 : (i : Int) % 2 = 1 := by omega
            obtain ⟨a, hia⟩ : ∃ a, a = 2 * j := ⟨_, rfl⟩
            have hia2 : (i : Int) - 1 = (a : Int) := by omega
            have ha5 : a < 32 := by omega
            have e : Hid (rowW true (i + 1) = rowW true i ++ [nmb a true, nmb i true, nmb a false, nmb i false]) := by
              rw [Hid]
              show hndW ((i + 1) / 2) = hndW (i / 2) ++ _
              rw [show (i + 1) / 2 = j + 1 by omega, show i / 2 = j by omega, hndW, hia, hj]
            have c1 := add_any t ⟨#[nmb a true]⟩ (by omega) (by show 1 ≤ 1000; omega)
            have c2 := add_any (t ++ ⟨#[nmb a true]⟩) ⟨#[nmb i true]⟩ (by rw [ByteArray.size_append]; show t.size + 1 ≤ 1000; omega) (by show 1 ≤ 1000; omega)
            have c3 := add_any (t ++ ⟨#[nmb a true]⟩ ++ ⟨#[nmb i true]⟩) ⟨#[nmb a false]⟩ (by rw [ByteArray.size_append, ByteArray.size_append]; show t.size + 1 + 1 ≤ 1000; omega) (by show 1 ≤ 1000; omega)
            have c4 := add_any (t ++ ⟨#[nmb a true]⟩ ++ ⟨#[nmb i true]⟩ ++ ⟨#[nmb a false]⟩) ⟨#[nmb i false]⟩ (by rw [ByteArray.size_append, ByteArray.size_append, ByteArray.size_append]; show t.size + 1 + 1 + 1 ≤ 1000; omega) (by show 1 ≤ 1000; omega)
            clear hj hia
            go_wp2_with fail
            refine (spec_sidR _ s hs HB.out).mono ?_
            rintro e w3 ⟨rfl, b1⟩
            have HB3 := Lib.hid (hb.out.trans (b1.mono hb.out.size)); clear b1
            go_wp2_with fail
            refine (l8Name_any a true _ ha5).mono ?_
            rintro e w4 ⟨rfl, b1⟩
            have HB4 := Lib.hid (HB3.out.trans (b1.mono HB3.out.size)); clear b1
            go_wp2_with fail
            refine (l8Name_any i true _ hi5).mono ?_
            rintro e w5 ⟨rfl, b1⟩
            have HB5 := Lib.hid (HB4.out.trans (b1.mono HB4.out.size)); clear b1
            go_wp2_with fail
            refine (l8Name_any a false _ ha5).mono ?_
            rintro e w6 ⟨rfl, b1⟩
            have HB6 := Lib.hid (HB5.out.trans (b1.mono HB5.out.size)); clear b1
            go_wp2_with fail
            refine (l8Name_any i false _ hi5).mono ?_
            rintro e w7 ⟨rfl, b1⟩
            have HB7 := Lib.hid (HB6.out.trans (b1.mono HB6.out.size)); clear b1
            go_wp2_with fail
            go_roundw
            case rel =>
              have e2 : (t ++ ⟨#[nmb a true]⟩ ++ ⟨#[nmb i true]⟩ ++ ⟨#[nmb a false]⟩ ++ ⟨#[nmb i false]⟩ : ByteArray).data.toList = rowW true (i + 1) := by
                rw [str_app, str_app, str_app, str_app, ht.out, e.out]
                simp
              exact ⟨i + 1, _, by omega, by go_num, rfl, e2, hT.out _ e2, HB7.out⟩
            case measure => simp [intOf]; omega
      · have him : i = m := by omega
        have HIM := Lib.hid him; clear him
        go_wp2_with fail
        go_ret2
        refine ⟨?_, hb.out⟩
        have e1 : t = ⟨r.toArray⟩ := str_mk (by
          rw [ht.out, ← HE.out, nrmN, if_neg (by rw [HM.out]; exact H0.out), HBB.out, HIM.out, HM.out]
          rfl)
        rw [← e1]
        rfl
  · have ha' : wordB s.data.toList = false := by simpa using ha
    have HA : Hid (wordB s.data.toList = false) := ha'
    have HX : Hid (numR s.data.toList = -100) := numR_no ha'
    have h := (nrmR_no ha').symm.trans hR
    simp only [Prod.mk.injEq] at h
    obtain ⟨rfl, rfl⟩ := h
    clear hR ha ha'
    go_enter Tryd.func31, Tryd.ntmps31
    go_wp2_with fail
    refine (spec_numR _ s hs HX.out).mono ?_
    rintro e w1 ⟨rfl, b1⟩
    have HB1 := Lib.hid b1; clear b1
    go_wp2_with fail
    refine (specWordN _ s hs HA.out).mono ?_
    rintro e w2 ⟨rfl, b1⟩
    have HB2 := Lib.hid (HB1.out.trans (b1.mono HB1.out.size)); clear b1
    go_wp2_with fail
    go_ret2
    exact ⟨rfl, HB2.out⟩

end Go.Proofs.YtfdliekhlcbkcaaDoor

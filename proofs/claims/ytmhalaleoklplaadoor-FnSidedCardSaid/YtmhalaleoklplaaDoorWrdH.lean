/-
  Plain: two sides stay when a word is turned, read back, renamed, and in normal words; they don't where one letter is written the other way.
-/
import Derived.Test.YtmhalaleoklplaaDoorWrdA
import Derived.Test.YtmhalaleoklplaaDoorWrdE
import Derived.Test.YtmhalaleoklplaaDoorNrm
namespace Go.Proofs.YtmhalaleoklplaaDoor

theorem sided_normal {l : List UInt8} (h : sidedB l = true) : sidedB (nrmN l) = true := by
  have he := lackM_even h
  have hl := (wordB_iff.1 (sidedB_all h).1).lackM.2
  have d0 : sidedB [97, 65] = true := by decide +kernel
  have d1 : sidedB (hndW 1) = true := by decide +kernel
  have d2 : sidedB (hndW 2) = true := by decide +kernel
  unfold nrmN
  split
  · exact d0
  · rcases (by omega : lackM l / 2 = 1 ∨ lackM l / 2 = 2) with e | e <;> rw [e] <;> assumption
/-- The first letter written the other way. -/
def flipW (l : List UInt8) : List UInt8 := oth (gb l 0) :: l.drop 1
theorem flipW_len {l : List UInt8} (h : 0 < l.length) : (flipW l).length = l.length := by simp [flipW]; omega
theorem cons_eq {l : List UInt8} (h : 0 < l.length) : l = gb l 0 :: l.drop 1 := by
  cases l with
  | nil => simp at h
  | cons a r => rfl
theorem flip_at {l : List UInt8} (h : 0 < l.length) (i : Nat) : gb (flipW l) i = if i = 0 then oth (gb l 0) else gb l i := by
  cases l with
  | nil => simp at h
  | cons a r =>
    cases i with
    | zero => rfl
    | succ i => rfl
theorem Word.flip {l : List UInt8} (h : Word l) : Word (flipW l) := by
  have hpos := h.pos
  have h0 := h.ok 0 hpos
  have e0 := (ltr_oth _ h0.1).1
  have hc : ∀ k, ltc (flipW l) k = ltc l k := fun k => by
    rw [cons_eq hpos]
    show ltc (oth (gb l 0) :: (l.drop 1)) k = _
    rw [ltc_cons, ltc_cons, e0]
  refine ⟨by rw [flipW_len hpos]; exact hpos, fun i hi => ?_⟩
  rw [flipW_len hpos] at hi
  rw [flip_at hpos, hc]
  split
  · rw [e0]; exact h0
  · exact h.ok i hi
theorem Word.par_flip {l : List UInt8} (h : Word l) : par (flipW l) 0 = par l 0 := by
  have hpos := h.pos
  have hp := h.isPar hpos
  have e0 := (ltr_oth _ (h.ok 0 hpos).1).1
  refine (h.flip.isPar (by rw [flipW_len hpos]; exact hpos)).uniq (⟨by rw [flipW_len hpos]; exact hp.lt, hp.ne, ?_, fun j hj e => ?_⟩ : IsPar (flipW l) 0 (par l 0))
  · rw [flip_at hpos, flip_at hpos, if_neg hp.ne, if_pos rfl, e0]; exact hp.eq
  · rw [flipW_len hpos] at hj
    rw [flip_at hpos, flip_at hpos, if_pos rfl, e0] at e
    by_cases hj0 : j = 0
    · left; exact hj0
    · rw [if_neg hj0] at e; exact hp.all j hj e
theorem flip_not {l : List UInt8} (h : sidedB l = true) : sidedB (flipW l) = false := by
  obtain ⟨h1, h2⟩ := sidedB_all h
  have hw := wordB_iff.1 h1
  have hpos := hw.pos
  have hp := hw.isPar hpos
  have ht := h2 0 hpos
  refine sidedB_no (i := 0) (by rw [flipW_len hpos]; exact hpos) ?_
  unfold twoAt at ht ⊢
  rw [hw.par_flip, flip_at hpos, flip_at hpos, if_pos rfl, if_neg hp.ne, (ltr_oth _ (hw.ok 0 hpos).1).2]
  revert ht
  cases sml (gb l 0) <;> cases sml (gb l (par l 0)) <;> decide
/-- One letter twice. -/
theorem two_word {c : UInt8} (h : 0 ≤ ltr c) : Word [c, c] := by
  refine word_of (by simp) fun d hd => ?_
  obtain rfl : d = c := by simpa using hd
  refine ⟨h, ?_⟩
  simp [ltc]
theorem two_back (c : UInt8) : backW [c, c] = [oth c, oth c] := rfl

end Go.Proofs.YtmhalaleoklplaaDoor

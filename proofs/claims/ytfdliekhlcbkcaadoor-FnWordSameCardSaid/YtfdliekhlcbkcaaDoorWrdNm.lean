/-
  Plain: normal words have the class of their words; classes are two things.
-/
import Derived.Test.YtfdliekhlcbkcaaDoorWrdCt
import Derived.Test.YtfdliekhlcbkcaaDoorWrdS
import Derived.Test.YtfdliekhlcbkcaaDoorNrm
namespace Go.Proofs.YtfdliekhlcbkcaaDoor

theorem caps_cor : ∀ j, j < 5 → Word (capsW (j + 1)) ∧ corN (capsW (j + 1)) = 1 ∧ sidedB (capsW (j + 1)) = false
  | 0, _ => by
    have hw : Word (capsW 1) := wordB_iff.1 (by decide +kernel)
    have hs : sidedB (capsW 1) = false := by decide +kernel
    have h1 := hw.cor_one hs
    have h2 := hw.cor_le.1
    have h3 : (capsW 1).length = 2 := by rw [capsW_len]
    exact ⟨hw, by show corN (capsW 1) = 1; omega, hs⟩
  | j + 1, h => by
    obtain ⟨hw, hc, hs⟩ := caps_cor j (by omega)
    have hn : ∀ j, j < 4 → namesW (capsW (j + 1)) 0 = capsW (j + 1) := by decide +kernel
    have e : capsW (j + 1 + 1) = joinW (capsW (j + 1)) capL := by
      rw [capsW, joinW, hn j (by omega), capsW_len, show 2 * (j + 1) / 2 = j + 1 by omega, cap_names]
    have hl : (capsW (j + 1)).length + capL.length ≤ 10 := by rw [capsW_len]; show _ + 2 ≤ _; omega
    have hcap : corN capL = 1 := by
      have := (caps_cor 0 (by omega)).2.1
      exact this
    refine ⟨by rw [e]; exact (joined_of hw capL_word hl).1, ?_, ?_⟩
    · have := join_cor hw capL_word hl
      rw [e]; omega
    · rw [e, join_sided hw capL_word hl, hs, Bool.false_and]
theorem sided_of_B {l : List UInt8} (h : sidedB l = true) : Sided l := ⟨wordB_iff.1 (sidedB_all h).1, (sidedB_all h).2⟩
theorem hnd_cor : ∀ g, g < 2 → Word (hndW (g + 1)) ∧ corN (hndW (g + 1)) = 1 ∧ sidedB (hndW (g + 1)) = true := by
  have hs : ∀ g, g < 2 → sidedB (hndW (g + 1)) = true := by decide +kernel
  have hc : ∀ g, g < 2 → (cyclesL (piL (hndW (g + 1)))).length = 1 := by decide +kernel
  intro g hg
  exact ⟨(sided_of_B (hs g hg)).w, by rw [(sided_of_B (hs g hg)).cor_eq]; exact hc g hg, hs g hg⟩
theorem sph_cor : Word [97, 65] ∧ corN [97, 65] = 2 ∧ sidedB [97, 65] = true := by
  have hs : sidedB [97, 65] = true := by decide +kernel
  have hc : (cyclesL (piL [97, 65])).length = 2 := by decide +kernel
  exact ⟨(sided_of_B hs).w, by rw [(sided_of_B hs).cor_eq]; exact hc, hs⟩
theorem lackM_eq (l : List UInt8) : lackM l = lackN l := rfl
/-- The normal word of a word. -/
theorem Word.normal {l : List UInt8} (h : Word l) : Word (nrmN l) ∧ Go.Proofs.YtfdliekhlcbkcaaDoor.numN (nrmN l) = Go.Proofs.YtfdliekhlcbkcaaDoor.numN l ∧ sidedB (nrmN l) = sidedB l ∧ (nrmN l).length ≤ l.length ∧ (corN (nrmN l) = 1 ∨ corN (nrmN l) = 2 ∧ nrmN l = [97, 65]) := by
  obtain ⟨hl, h5⟩ := h.lack
  have hc := h.cor_le
  have hlen := h.len
  have hnum : Go.Proofs.YtfdliekhlcbkcaaDoor.numN l = (corN l : Int) - (l.length / 2 : Nat) + 1 := rfl
  unfold nrmN
  rw [lackM_eq]
  by_cases h0 : lackN l = 0
  · rw [if_pos h0]
    have hs : sidedB l = true := by
      cases hs : sidedB l with
      | true => rfl
      | false => have := h.cor_one hs; omega
    refine ⟨sph_cor.1, ?_, by rw [sph_cor.2.2, hs], hlen.1, .inr ⟨sph_cor.2.1, rfl⟩⟩
    have : Go.Proofs.YtfdliekhlcbkcaaDoor.numN [97, 65] = 2 := by unfold Go.Proofs.YtfdliekhlcbkcaaDoor.numN; rw [sph_cor.2.1]; rfl
    omega
  · rw [if_neg h0]
    cases hs : sidedB l with
    | true =>
      rw [if_pos rfl]
      have he := lackM_even hs
      rw [lackM_eq] at he
      obtain ⟨g, hg⟩ : ∃ g, lackN l / 2 = g + 1 := ⟨lackN l / 2 - 1, by omega⟩
      obtain ⟨hw, hcor, hsd⟩ := hnd_cor g (by omega)
      rw [hg]
      refine ⟨hw, ?_, hsd, by rw [hndW_len]; omega, .inl hcor⟩
      rw [hnum]
      unfold Go.Proofs.YtfdliekhlcbkcaaDoor.numN
      rw [hcor, hndW_len]
      omega
    | false =>
      rw [if_neg (by simp)]
      obtain ⟨g, hg⟩ : ∃ g, lackN l = g + 1 := ⟨lackN l - 1, by omega⟩
      obtain ⟨hw, hcor, hsd⟩ := caps_cor g (by omega)
      rw [hg]
      refine ⟨hw, ?_, hsd, by rw [capsW_len]; omega, .inl hcor⟩
      rw [hnum]
      unfold Go.Proofs.YtfdliekhlcbkcaaDoor.numN
      rw [hcor, capsW_len]
      omega
theorem cls_of {l m : List UInt8} (hn : numN l = numN m) (hs : sidedB l = sidedB m) : clsN l = clsN m ∧ nrmN l = nrmN m := by
  have e : lackN l = lackN m := by unfold lackN; rw [hn]
  unfold clsN nrmN
  rw [lackM_eq, lackM_eq, e, hs]
  exact ⟨rfl, rfl⟩
theorem dgt_inj : ∀ a, a < 6 → ∀ b, b < 6 → dgt a = dgt b → a = b := by decide +kernel
theorem cls_inj {l m : List UInt8} (h : Word l) (h' : Word m) (e : clsN l = clsN m) : numN l = numN m ∧ sidedB l = sidedB m := by
  obtain ⟨a1, a2⟩ := h.lack
  obtain ⟨b1, b2⟩ := h'.lack
  unfold clsN at e
  cases hs : sidedB l <;> cases hs' : sidedB m <;> rw [hs, hs'] at e <;> simp only [if_true, if_false, Bool.false_eq_true, List.cons.injEq, and_true] at e
  · exact ⟨by have := dgt_inj _ (by omega) _ (by omega) e.2; omega, rfl⟩
  · exact absurd e.1 (by decide)
  · exact absurd e.1 (by decide)
  · have p := lackM_even hs
    have q := lackM_even hs'
    rw [lackM_eq] at p q
    exact ⟨by have := dgt_inj _ (by omega) _ (by omega) e.2; omega, rfl⟩
theorem same_of {l m : List UInt8} (h : Word l) (h' : Word m) (hn : numN l = numN m) (hs : sidedB l = sidedB m) : sameR l m = true := by
  unfold sameR
  rw [wordB_iff.2 h, wordB_iff.2 h', clsR_yes (wordB_iff.2 h), clsR_yes (wordB_iff.2 h'), (cls_of hn hs).1]
  simp
theorem same_iff {l m : List UInt8} (e : sameR l m = true) : Word l ∧ Word m ∧ numN l = numN m ∧ sidedB l = sidedB m := by
  unfold sameR at e
  simp only [Bool.and_eq_true, decide_eq_true_eq] at e
  obtain ⟨⟨h1, h2⟩, h3⟩ := e
  rw [clsR_yes h1, clsR_yes h2] at h3
  exact ⟨wordB_iff.1 h1, wordB_iff.1 h2, cls_inj (wordB_iff.1 h1) (wordB_iff.1 h2) h3⟩
/-- The number of two words joined. -/
theorem join_num {a b : List UInt8} (ha : Word a) (hb : Word b) (h10 : a.length + b.length ≤ 10) : numN (joinW a b) = numN a + numN b - 2 := by
  have h1 := join_cor ha hb h10
  have h2 := ha.len
  have h3 := hb.len
  unfold numN
  rw [joinW_len]
  omega
theorem cut_num {l : List UInt8} {i k : Nat} (h : Word l) (C : CutAt l i k) : numN (cutW l i k) = numN l := by
  unfold numN
  rw [(cut_all h C).2.1, cut_len h C]
theorem turn_num {l : List UInt8} (h : Word l) : numN (turnW l) = numN l := by unfold numN; rw [h.cor_turn, turnW_len]
theorem back_num {l : List UInt8} (h : Word l) : numN (backW l) = numN l := by unfold numN; rw [h.cor_back, backW_len]

end Go.Proofs.YtfdliekhlcbkcaaDoor

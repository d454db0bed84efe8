/-
  Plain: a word renamed has the same partners and corners; renamed twice it is as renamed once; its names are given once.
-/
import Derived.Test.YtmhalaleoklplaaDoorWrdN
import Derived.Test.YtmhalaleoklplaaDoorWrdF
namespace Go.Proofs.YtmhalaleoklplaaDoor

section
variable {l : List UInt8} (h : Word l)
include h
theorem Word.gb_name {i : Nat} (hi : i < l.length) : ltr (gb (namesW l 0) i) = (rk l (fst l i) : Int) ∧ sml (gb (namesW l 0) i) = (sml (gb l i) == sml (gb l (fst l i))) := by
  have hl := h.len
  have := h.ltr_name (k := 0) (by omega) hi
  rw [gb_names hi, this.1, this.2, Nat.zero_add]
  exact ⟨rfl, rfl⟩
theorem Word.par_name {i : Nat} (hi : i < l.length) : par (namesW l 0) i = par l i := by
  have hl := h.len
  have hw := h.names (k := 0) (by omega)
  have hp := h.isPar hi
  refine (hw.isPar (by rw [namesW_len]; exact hi)).uniq (⟨by rw [namesW_len]; exact hp.lt, hp.ne, ?_, fun j hj e => ?_⟩ : IsPar (namesW l 0) i (par l i))
  · rw [(h.gb_name hp.lt).1, (h.gb_name hi).1, h.fst_par hi]
  · rw [namesW_len] at hj
    rw [(h.gb_name hj).1, (h.gb_name hi).1] at e
    have e1 := h.rk_inj hi hj (by omega)
    exact hp.all j hj ((h.fst_iff hi hj).1 e1)
theorem Word.fst_name {i : Nat} (hi : i < l.length) : fst (namesW l 0) i = fst l i := by unfold fst; rw [h.par_name hi]
theorem Word.rk_name : ∀ i, i ≤ l.length → rk (namesW l 0) i = rk l i
  | 0, _ => rfl
  | i + 1, hi => by rw [rk_succ, rk_succ, Word.rk_name i (by omega), h.par_name (by omega)]
theorem Word.two_name {i : Nat} (hi : i < l.length) : twoAt (namesW l 0) i = twoAt l i := by
  have hp := (h.isPar hi).lt
  unfold twoAt
  rw [h.par_name hi, (h.gb_name hi).2, (h.gb_name hp).2, h.fst_par hi]
  cases sml (gb l i) <;> cases sml (gb l (par l i)) <;> cases sml (gb l (fst l i)) <;> rfl
theorem Word.glu_name : gluW (namesW l 0) = gluW l := by
  unfold gluW
  rw [namesW_len]
  refine tab_ext (tab_len _ _) fun x hx => ?_
  rw [gi_tab hx]
  obtain ⟨i, rfl | rfl⟩ := half x
  · rw [glE_even, glE_even, h.par_name (by omega), tw, tw, h.two_name (by omega)]
  · rw [glE_odd, glE_odd, h.par_name (by omega), tw, tw, h.two_name (by omega)]
theorem Word.cor_name : corN (namesW l 0) = corN l := by
  unfold corN corL
  rw [h.glu_name, namesW_len]
theorem Word.sided_name : sidedB (namesW l 0) = sidedB l := by
  have hl := h.len
  have hw := wordB_iff.2 h
  have hb := wordB_iff.2 (h.names (k := 0) (by omega))
  rw [sidedB, sidedB, hw, hb, Bool.true_and, Bool.true_and, namesW_len, Bool.eq_iff_iff, List.all_eq_true, List.all_eq_true]
  constructor
  · intro ha i hi
    rw [← h.two_name (List.mem_range.1 hi)]
    exact ha i hi
  · intro ha i hi
    rw [h.two_name (List.mem_range.1 hi)]
    exact ha i hi
theorem Word.names_names : namesW (namesW l 0) 0 = namesW l 0 := by
  have e : ∀ i, i < l.length → nmAt (namesW l 0) 0 i = nmAt l 0 i := fun i hi => by
    have hf := (h.isFst hi).2.1
    have hff : fst l (fst l i) = fst l i := by
      rw [h.fst_iff hi hf]; exact (h.isFst hi).2.2
    unfold nmAt
    rw [h.fst_name hi, h.rk_name _ (by omega), (h.gb_name hi).2, (h.gb_name hf).2, hff]
    cases sml (gb l i) <;> cases sml (gb l (fst l i)) <;> rfl
  show (List.range (namesW l 0).length).map (nmAt (namesW l 0) 0) = (List.range l.length).map (nmAt l 0)
  rw [namesW_len]
  exact List.map_congr_left fun i hi => e i (List.mem_range.1 hi)
theorem Word.first_name : gb (namesW l 0) 0 = 97 := by
  rw [gb_names h.pos, nmAt, show fst l 0 = 0 from Nat.zero_min _]
  simp [rk, nmb]
/-- A name that is new has the next number; one that has been there has a lesser one. -/
theorem Word.name_step {i : Nat} (hi : i < l.length) : ((gb (namesW l 0) i).toNat : Int) - 97 = (rk l i : Int) ∧ rk l (i + 1) = rk l i + 1 ∨ ((gb (namesW l 0) i).toNat : Int) - 97 < (rk l i : Int) ∧ rk l (i + 1) = rk l i := by
  have hl := h.len
  have hb := h.rk_lt hi
  have hs := rk_succ l i
  rw [gb_names hi]
  have key : ∀ n, n < 5 → ∀ s, ((nmb n s).toNat : Int) - 97 ≤ (n : Int) ∧ ((nmb n true).toNat : Int) - 97 = (n : Int) := by decide +kernel
  by_cases hf : i < par l i
  · left
    rw [if_pos hf] at hs
    have e : fst l i = i := Nat.min_eq_left (by omega)
    rw [nmAt, e, Nat.zero_add, beq_self_eq_true]
    rw [e] at hb
    exact ⟨(key _ (by omega) true).2, hs⟩
  · right
    rw [if_neg hf] at hs
    obtain ⟨h1, h2, -⟩ := h.isFst hi
    have hp := (h.isPar hi).ne
    have hfi : fst l i < i := by unfold fst; omega
    have h3 := rk_succ l (fst l i)
    rw [if_pos h1] at h3
    have h4 := rk_mono l (show fst l i + 1 ≤ i by omega)
    have := (key (rk l (fst l i)) (by omega) (sml (gb l i) == sml (gb l (fst l i)))).1
    rw [nmAt, Nat.zero_add]
    omega
end

end Go.Proofs.YtmhalaleoklplaaDoor

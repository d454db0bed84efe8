/-
  Plain: a word turned has as many corners, and two sides if the word has; turned all around it is as it was.
-/
import Derived.Test.YtmhalaleoklplaaDoorWrdB
import Derived.Test.YtmhalaleoklplaaDoorWrdV
namespace Go.Proofs.YtmhalaleoklplaaDoor

def unR (n i : Nat) : Nat := if i = 0 then n - 1 else i - 1
theorem unR_lt {n i : Nat} (hi : i < n) : unR n i < n := by unfold unR; split <;> omega
theorem rot_unR {n i : Nat} (hi : i < n) : rotN n (unR n i) = i := by
  unfold rotN unR
  split
  · rw [show n - 1 + 1 = n by omega, Nat.mod_self]; omega
  · rw [show i - 1 + 1 = i by omega, Nat.mod_eq_of_lt hi]
theorem unR_rot {n i : Nat} (hi : i < n) : unR n (rotN n i) = i := by
  have h1 := (rotN_prm (show 0 < n by omega)).lt i hi
  exact (rotN_prm (show 0 < n by omega)).inj _ _ (unR_lt h1) hi (rot_unR h1)
theorem unR_inj {n i j : Nat} (hi : i < n) (hj : j < n) (e : unR n i = unR n j) : i = j := by rw [← rot_unR hi, ← rot_unR hj, e]
theorem turnW_len (l : List UInt8) : (turnW l).length = l.length := by simp [turnW]; omega
theorem gb_turn {l : List UInt8} {i : Nat} (hi : i < l.length) : gb (turnW l) i = gb l (rotN l.length i) := by
  have hr := (rotN_prm (show 0 < l.length by omega)).lt i hi
  rw [gb_eq (by rw [turnW_len]; exact hi), gb_eq hr]
  unfold turnW
  by_cases h : i + 1 < l.length
  · rw [List.getElem_append_left (by rw [List.length_drop]; omega), List.getElem_drop]
    congr 1
    unfold rotN
    rw [Nat.mod_eq_of_lt h]; omega
  · rw [List.getElem_append_right (by rw [List.length_drop]; omega), List.getElem_take]
    congr 1
    unfold rotN
    rw [List.length_drop, show i + 1 = l.length by omega, Nat.mod_self]; omega
theorem gb_unR {l : List UInt8} {i : Nat} (hi : i < l.length) : gb (turnW l) (unR l.length i) = gb l i := by
  rw [gb_turn (unR_lt hi), rot_unR hi]
theorem Word.par_turn {l : List UInt8} (h : Word l) {i : Nat} (hi : i < l.length) : par (turnW l) (unR l.length i) = unR l.length (par l i) := by
  have hp := h.isPar hi
  have hlt := hp.lt
  have hb : unR l.length i < (turnW l).length := by rw [turnW_len]; exact unR_lt hi
  refine (h.turn.isPar hb).uniq (⟨by rw [turnW_len]; exact unR_lt hlt, fun e => hp.ne (unR_inj hlt hi e), ?_, fun j hj e => ?_⟩ : IsPar (turnW l) (unR l.length i) (unR l.length (par l i)))
  · rw [gb_unR hlt, gb_unR hi]
    exact hp.eq
  · rw [turnW_len] at hj
    rw [gb_turn hj, gb_unR hi] at e
    rcases hp.all _ ((rotN_prm h.pos).lt j hj) e with e1 | e1
    · left; rw [← e1, unR_rot hj]
    · right; rw [← e1, unR_rot hj]
theorem Word.two_turn {l : List UInt8} (h : Word l) {i : Nat} (hi : i < l.length) : twoAt (turnW l) (unR l.length i) = twoAt l i := by
  unfold twoAt
  rw [h.par_turn hi, gb_unR hi, gb_unR (h.isPar hi).lt]
theorem nxE_unR {n i : Nat} (hi : i < n) : nxE (2 * n) (2 * i) = 2 * unR n i + 1 := by
  cases i with
  | zero => rw [Nat.mul_zero, nxE_zero (by omega)]; unfold unR; rw [if_pos rfl]
  | succ i => rw [nxE_even (by omega)]; unfold unR; rw [if_neg (by omega)]; omega
/-- Where an end comes to lie. -/
def movE (n x : Nat) : Nat := 2 * unR n (x / 2) + x % 2
theorem movE_even (n i : Nat) : movE n (2 * i) = 2 * unR n i := by unfold movE; rw [show 2 * i / 2 = i by omega]; omega
theorem movE_odd (n i : Nat) : movE n (2 * i + 1) = 2 * unR n i + 1 := by unfold movE; rw [show (2 * i + 1) / 2 = i by omega]; omega
theorem Word.conj_turn {l : List UInt8} (h : Word l) : ConjI (gluW l) (nxtW l.length) (gluW (turnW l)) (nxtW (turnW l).length) (movE l.length) (2 * l.length) := by
  have hpos := h.pos
  refine ⟨fun x hx => ?_, fun x y hx hy e => ?_, fun x hx => ?_, fun x hx => ?_⟩
  · have := unR_lt (show x / 2 < l.length by omega)
    unfold movE; omega
  · unfold movE at e
    have := unR_inj (n := l.length) (i := x / 2) (j := y / 2) (by omega) (by omega) (by omega)
    omega
  · have hg := h.glE hx
    refine ⟨by rw [gn_gluW hx]; exact hg.1, ?_⟩
    rw [gn_gluW hx]
    obtain ⟨i, rfl | rfl⟩ := half x
    · have hi : i < l.length := by omega
      have hu := unR_lt hi
      have ht : tw (turnW l) (unR l.length i) = tw l i := by unfold tw; rw [h.two_turn hi]
      rw [movE_even, gn_gluW (by rw [turnW_len]; omega), glE_even, glE_even, h.par_turn hi, ht]
      rcases (by have := tw_le l i; omega : tw l i = 0 ∨ tw l i = 1) with e | e
      · rw [e, Nat.add_zero, Nat.add_zero, movE_even]
      · rw [e, movE_odd]
    · have hi : i < l.length := by omega
      have hu := unR_lt hi
      have ht : tw (turnW l) (unR l.length i) = tw l i := by unfold tw; rw [h.two_turn hi]
      rw [movE_odd, gn_gluW (by rw [turnW_len]; omega), glE_odd, glE_odd, h.par_turn hi, ht]
      rcases (by have := tw_le l i; omega : tw l i = 0 ∨ tw l i = 1) with e | e
      · rw [e, Nat.sub_zero, Nat.sub_zero, movE_odd]
      · rw [e, Nat.add_sub_cancel, Nat.add_sub_cancel, movE_even]
  · have hn := nxE_inv hx
    refine ⟨by rw [gn_nxtW hx]; exact hn.1, ?_⟩
    rw [turnW_len, gn_nxtW hx]
    obtain ⟨i, rfl | rfl⟩ := half x
    · have hi : i < l.length := by omega
      have hu := unR_lt hi
      rw [movE_even, gn_nxtW (by omega), nxE_unR hi, nxE_unR hu, movE_odd]
    · have hi : i < l.length := by omega
      have hu := unR_lt hi
      rw [movE_odd, gn_nxtW (by omega), nxE_rot hi, nxE_rot hu, movE_even, rot_unR hi, unR_rot hi]
/-- Turned k times. -/
def itT (l : List UInt8) : Nat → List UInt8
  | 0 => l
  | k + 1 => turnW (itT l k)
theorem itT_shift (l : List UInt8) : ∀ k, itT (turnW l) k = itT l (k + 1)
  | 0 => rfl
  | k + 1 => by rw [itT, itT_shift l k]; rfl
theorem itT_len (l : List UInt8) : ∀ k, (itT l k).length = l.length
  | 0 => rfl
  | k + 1 => by rw [itT, turnW_len, itT_len l k]
theorem itT_eq (l : List UInt8) : ∀ k, k ≤ l.length → itT l k = l.drop k ++ l.take k
  | 0, _ => by simp [itT]
  | k + 1, h => by
    have hk : k < l.length := by omega
    have e1 : l.drop k = l[k] :: l.drop (k + 1) := List.drop_eq_getElem_cons hk
    have e2 : l.take (k + 1) = l.take k ++ [l[k]] := List.take_succ_eq_append_getElem hk
    rw [itT, itT_eq l k (by omega), e1, e2]
    show (l.drop (k + 1) ++ l.take k) ++ [l[k]] = l.drop (k + 1) ++ (l.take k ++ [l[k]])
    rw [List.append_assoc]
theorem itT_all (l : List UInt8) : itT l l.length = l := by rw [itT_eq l _ (Nat.le_refl _)]; simp
theorem Word.itT {l : List UInt8} (h : Word l) : ∀ k, Word (Go.Proofs.YtmhalaleoklplaaDoor.itT l k)
  | 0 => h
  | k + 1 => (h.itT k).turn
theorem Word.cor_itT {l : List UInt8} (h : Word l) : ∀ k, corN l ≤ corN (Go.Proofs.YtmhalaleoklplaaDoor.itT l k)
  | 0 => Nat.le_refl _
  | k + 1 => Nat.le_trans (h.cor_itT k) (cor_le_conj (h.itT k) (h.itT k).turn (turnW_len _) (h.itT k).conj_turn)
theorem Word.cor_turn {l : List UInt8} (h : Word l) : corN (turnW l) = corN l := by
  have a := cor_le_conj h h.turn (turnW_len l) h.conj_turn
  have b := h.turn.cor_itT (l.length - 1)
  rw [itT_shift, show l.length - 1 + 1 = l.length by have := h.pos; omega, itT_all] at b
  omega
theorem Word.sided_turn {l : List UInt8} (h : Word l) : sidedB (turnW l) = sidedB l := by
  have hw := wordB_iff.2 h
  have hb := wordB_iff.2 h.turn
  rw [sidedB, sidedB, hw, hb, Bool.true_and, Bool.true_and, turnW_len, Bool.eq_iff_iff, List.all_eq_true, List.all_eq_true]
  constructor
  · intro ha i hi
    have hi' := List.mem_range.1 hi
    rw [← h.two_turn hi']
    exact ha _ (List.mem_range.2 (unR_lt hi'))
  · intro ha i hi
    have hi' := List.mem_range.1 hi
    rw [← unR_rot hi', h.two_turn ((rotN_prm h.pos).lt _ hi')]
    exact ha _ (List.mem_range.2 ((rotN_prm h.pos).lt _ hi'))

end Go.Proofs.YtmhalaleoklplaaDoor

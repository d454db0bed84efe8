/-
  Plain: words turned, read back, renamed, joined are words; a word without its first letter is none.
-/
import Derived.Test.YtmhalaleoklplaaDoorWop
namespace Go.Proofs.YtmhalaleoklplaaDoor

theorem word_of {l : List UInt8} (h0 : 0 < l.length) (h : ∀ c, c ∈ l → 0 ≤ ltr c ∧ ltc l (ltr c) = 2) : Word l :=
  ⟨h0, fun i hi => by rw [gb_eq hi]; exact h _ (List.getElem_mem hi)⟩
theorem Word.perm {l m : List UInt8} (h : Word l) (hp : l.Perm m) : Word m :=
  word_of (by rw [← hp.length_eq]; exact h.pos) fun c hc => by
    have := h.mem (hp.mem_iff.2 hc)
    refine ⟨this.1, ?_⟩
    unfold ltc at this ⊢
    rw [← hp.countP_eq]; exact this.2
theorem Word.turn {l : List UInt8} (h : Word l) : Word (turnW l) := by
  refine h.perm ?_
  unfold turnW
  have := List.perm_append_comm (l₁ := l.take 1) (l₂ := l.drop 1)
  rwa [List.take_append_drop] at this
theorem Word.map_oth {l : List UInt8} (h : Word l) : Word (l.map oth) := by
  refine word_of (by rw [List.length_map]; exact h.pos) fun c hc => ?_
  obtain ⟨d, hd, rfl⟩ := List.mem_map.1 hc
  have hm := h.mem hd
  have e := (ltr_oth d hm.1).1
  rw [e]
  refine ⟨hm.1, ?_⟩
  rw [← hm.2]
  unfold ltc
  rw [List.countP_map]
  refine List.countP_congr fun x hx => ?_
  simp only [Function.comp, (ltr_oth x (h.mem hx).1).1]
theorem Word.back {l : List UInt8} (h : Word l) : Word (backW l) := h.map_oth.perm (List.reverse_perm _).symm
theorem Word.fst_par {l : List UInt8} (h : Word l) {i : Nat} (hi : i < l.length) : fst l (par l i) = fst l i := by
  unfold fst; rw [h.par2 hi, Nat.min_comm]
theorem Word.fst_iff {l : List UInt8} (h : Word l) {i j : Nat} (hi : i < l.length) (hj : j < l.length) : fst l j = fst l i ↔ ltr (gb l j) = ltr (gb l i) := by
  constructor
  · intro e
    rw [← (h.isFst hj).2.2, e, (h.isFst hi).2.2]
  · intro e
    rcases (h.isPar hi).all j hj e with rfl | rfl
    · rfl
    · exact h.fst_par hi
theorem Word.rk_inj {l : List UInt8} (h : Word l) {i j : Nat} (hi : i < l.length) (hj : j < l.length) (e : rk l (fst l j) = rk l (fst l i)) : fst l j = fst l i := by
  obtain ⟨a1, a2, -⟩ := h.isFst hi
  obtain ⟨b1, b2, -⟩ := h.isFst hj
  rcases Nat.lt_trichotomy (fst l j) (fst l i) with h' | h' | h'
  · have h1 := rk_succ l (fst l j)
    rw [if_pos b1] at h1
    have := rk_mono l (show fst l j + 1 ≤ fst l i by omega)
    omega
  · exact h'
  · have h1 := rk_succ l (fst l i)
    rw [if_pos a1] at h1
    have := rk_mono l (show fst l i + 1 ≤ fst l j by omega)
    omega
theorem map_gb (l : List UInt8) : (List.range l.length).map (gb l) = l := by
  apply List.ext_getElem
  · simp
  · intro i h1 h2
    rw [List.getElem_map, List.getElem_range, gb_eq h2]
theorem Word.ltr_name {l : List UInt8} (h : Word l) {k : Nat} (hk : 2 * k + l.length ≤ 10) {i : Nat} (hi : i < l.length) : ltr (nmAt l k i) = ((k + rk l (fst l i) : Nat) : Int) ∧ sml (nmAt l k i) = (sml (gb l i) == sml (gb l (fst l i))) := by
  have := h.rk_lt hi
  exact ltr_nmb _ (by omega) _
theorem Word.ltc_name {l : List UInt8} (h : Word l) {k : Nat} (hk : 2 * k + l.length ≤ 10) {i : Nat} (hi : i < l.length) : ltc (namesW l k) ((k + rk l (fst l i) : Nat) : Int) = 2 := by
  rw [← (h.ok i hi).2]
  have e : ltc l (ltr (gb l i)) = (List.range l.length).countP fun j => ltr (gb l j) == ltr (gb l i) := by
    have h1 := List.countP_map (p := fun c => ltr c == ltr (gb l i)) (f := gb l) (l := List.range l.length)
    rw [map_gb] at h1
    exact h1
  rw [e]
  unfold ltc namesW
  rw [List.countP_map]
  refine List.countP_congr fun j hj => ?_
  have hjl := List.mem_range.1 hj
  simp only [Function.comp, beq_iff_eq]
  rw [(h.ltr_name hk hjl).1, ← h.fst_iff hi hjl]
  constructor
  · intro e; exact h.rk_inj hi hjl (by omega)
  · intro e; rw [e]
theorem Word.names {l : List UInt8} (h : Word l) {k : Nat} (hk : 2 * k + l.length ≤ 10) : Word (namesW l k) := by
  refine word_of (by rw [namesW_len]; exact h.pos) fun c hc => ?_
  obtain ⟨i, hi, rfl⟩ := List.mem_map.1 hc
  have hil := List.mem_range.1 hi
  have e := (h.ltr_name hk hil).1
  have h2 := h.ltc_name hk hil
  rw [e]
  exact ⟨by omega, h2⟩
theorem Word.tail_not {l : List UInt8} (h : Word l) : ¬ Word (l.drop 1) := fun h' => by
  have h1 := h.len
  have h2 := h'.len
  rw [List.length_drop] at h2
  omega

end Go.Proofs.YtmhalaleoklplaaDoor

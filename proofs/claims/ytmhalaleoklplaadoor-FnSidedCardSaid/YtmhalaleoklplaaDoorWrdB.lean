/-
  Plain: a word read back has as many corners, and two sides if the word has.
-/
import Derived.Test.YtmhalaleoklplaaDoorWrdN
import Derived.Test.YtmhalaleoklplaaDoorWrdF
namespace Go.Proofs.YtmhalaleoklplaaDoor

structure ConjI (p q p' q' : List Int) (s : Nat → Nat) (N : Nat) : Prop where
  lt : ∀ x, x < N → s x < N
  inj : ∀ x y, x < N → y < N → s x = s y → x = y
  one : ∀ x, x < N → gn p x < N ∧ gn p' (s x) = s (gn p x)
  two : ∀ x, x < N → gn q x < N ∧ gn q' (s x) = s (gn q x)
theorem ConjI.lead {p q p' q' : List Int} {s : Nat → Nat} {N : Nat} (C : ConjI p q p' q' s N) {x : Nat} (hx : x < N) {u z : Nat} (hl : Lead p' q' u z) (e : s x = u) : ∃ y, y < N ∧ z = s y ∧ Lead p q x y := by
  subst e
  induction hl with
  | refl => exact ⟨x, hx, rfl, .refl _⟩
  | one _ ih =>
    obtain ⟨y, hy, rfl, h⟩ := ih
    exact ⟨gn p y, (C.one y hy).1, (C.one y hy).2, .one h⟩
  | two _ ih =>
    obtain ⟨y, hy, rfl, h⟩ := ih
    exact ⟨gn q y, (C.two y hy).1, (C.two y hy).2, .two h⟩
theorem cor_le_conj {l m : List UInt8} {s : Nat → Nat} (h : Word l) (h' : Word m) (hl : m.length = l.length) (C : ConjI (gluW l) (nxtW l.length) (gluW m) (nxtW m.length) s (2 * l.length)) : corN l ≤ corN m := by
  obtain ⟨hg, hn⟩ := h.ivl
  obtain ⟨hg', hn'⟩ := h'.ivl
  have hlen : (gluW l).length = (nxtW l.length).length := by rw [gluW_len, nxtW_len]
  have hlen' : (gluW m).length = (nxtW m.length).length := by rw [gluW_len, nxtW_len]
  have hval : ∀ x, x < 2 * l.length → gi (corL l) x = (orb (gluW l) (nxtW l.length) x : Int) := fun x hx => gi_orbL (by rw [gluW_len]; exact hx)
  have hval' : ∀ x, x < 2 * m.length → gi (corL m) x = (orb (gluW m) (nxtW m.length) x : Int) := fun x hx => gi_orbL (by rw [gluW_len]; exact hx)
  have hlt : ∀ x, x < 2 * l.length → orb (gluW m) (nxtW m.length) (s x) < 2 * m.length := fun x hx => Nat.lt_of_le_of_lt orb_le (by rw [hl]; exact C.lt x hx)
  unfold corN fixN
  refine count_le_of (f := fun x => orb (gluW m) (nxtW m.length) (s x)) _ (fun x hx _ => ?_) (fun x y hx hy hpx hpy e => ?_) _ (fun x hx _ => hlt x hx)
  · have hsx : s x < (gluW m).length := by rw [gluW_len, hl]; exact C.lt x hx
    show (gi (corL m) (orb (gluW m) (nxtW m.length) (s x)) == ((orb (gluW m) (nxtW m.length) (s x) : Nat) : Int)) = true
    rw [hval' _ (hlt x hx), orb_orbI hg' hn' hlen' hsx]
    simp
  · have e' : orb (gluW m) (nxtW m.length) (s x) = orb (gluW m) (nxtW m.length) (s y) := e
    simp only [beq_iff_eq] at hpx hpy
    rw [hval x hx] at hpx
    rw [hval y hy] at hpy
    have hxy : Lead (gluW m) (nxtW m.length) (s x) (s y) := by
      have h1 : Lead (gluW m) (nxtW m.length) (orb (gluW m) (nxtW m.length) (s x)) (s x) := orb_lead
      have h2 : Lead (gluW m) (nxtW m.length) (orb (gluW m) (nxtW m.length) (s x)) (s y) := by rw [e']; exact orb_lead
      exact (h1.symI hg' hn' hlen' (by rw [gluW_len]; exact hlt x hx)).trans h2
    obtain ⟨y', hy', ey, hlead⟩ := C.lead hx hxy rfl
    obtain rfl := C.inj y y' hy hy' ey
    have := orb_eqI hg hn hlen hlead (by rw [gluW_len]; exact hx)
    omega

theorem gb_back {l : List UInt8} {i : Nat} (hi : i < l.length) : gb (backW l) (l.length - 1 - i) = oth (gb l i) := by
  rw [gb_eq (by rw [backW_len]; omega), gb_eq hi]
  simp only [backW, List.getElem_reverse, List.getElem_map, List.length_map]
  congr 2
  omega
theorem Word.par_back {l : List UInt8} (h : Word l) {i : Nat} (hi : i < l.length) : par (backW l) (l.length - 1 - i) = l.length - 1 - par l i := by
  have hp := h.isPar hi
  have hlt := hp.lt
  have hne := hp.ne
  have hb : l.length - 1 - i < (backW l).length := by rw [backW_len]; omega
  refine (h.back.isPar hb).uniq (⟨by rw [backW_len]; omega, by omega, ?_, fun j hj e => ?_⟩ : IsPar (backW l) (l.length - 1 - i) (l.length - 1 - par l i))
  · rw [gb_back hlt, gb_back hi, (ltr_oth _ (h.ok _ hlt).1).1, (ltr_oth _ (h.ok _ hi).1).1]
    exact hp.eq
  · rw [backW_len] at hj
    have ej : j = l.length - 1 - (l.length - 1 - j) := by omega
    have hj' : l.length - 1 - j < l.length := by omega
    rw [ej, gb_back hj', gb_back hi, (ltr_oth _ (h.ok _ hj').1).1, (ltr_oth _ (h.ok _ hi).1).1] at e
    rcases hp.all _ hj' e with e1 | e1
    · left; omega
    · right; omega
theorem Word.two_back {l : List UInt8} (h : Word l) {i : Nat} (hi : i < l.length) : twoAt (backW l) (l.length - 1 - i) = twoAt l i := by
  have hlt := (h.isPar hi).lt
  unfold twoAt
  rw [h.par_back hi, gb_back hi, gb_back hlt, (ltr_oth _ (h.ok _ hi).1).2, (ltr_oth _ (h.ok _ hlt).1).2]
  cases sml (gb l i) <;> cases sml (gb l (par l i)) <;> rfl
theorem Word.conj_back {l : List UInt8} (h : Word l) : ConjI (gluW l) (nxtW l.length) (gluW (backW l)) (nxtW (backW l).length) (fun x => 2 * l.length - 1 - x) (2 * l.length) := by
  have hpos := h.pos
  refine ⟨fun x hx => by show 2 * l.length - 1 - x < _; omega, fun x y hx hy e => by have e' : 2 * l.length - 1 - x = 2 * l.length - 1 - y := e; omega, fun x hx => ?_, fun x hx => ?_⟩
  · have hg := h.glE hx
    refine ⟨by rw [gn_gluW hx]; exact hg.1, ?_⟩
    show gn (gluW (backW l)) (2 * l.length - 1 - x) = 2 * l.length - 1 - gn (gluW l) x
    rw [gn_gluW hx, gn_gluW (by rw [backW_len]; omega)]
    obtain ⟨i, rfl | rfl⟩ := half x
    · have hi : i < l.length := by omega
      have hp := (h.isPar hi).lt
      have ht : tw (backW l) (l.length - 1 - i) = tw l i := by unfold tw; rw [h.two_back hi]
      have := tw_le l i
      rw [show 2 * l.length - 1 - 2 * i = 2 * (l.length - 1 - i) + 1 by omega, glE_odd, glE_even, h.par_back hi, ht]
      omega
    · have hi : i < l.length := by omega
      have hp := (h.isPar hi).lt
      have ht : tw (backW l) (l.length - 1 - i) = tw l i := by unfold tw; rw [h.two_back hi]
      have := tw_le l i
      rw [show 2 * l.length - 1 - (2 * i + 1) = 2 * (l.length - 1 - i) by omega, glE_odd, glE_even, h.par_back hi, ht]
      omega
  · have hn := nxE_inv hx
    refine ⟨by rw [gn_nxtW hx]; exact hn.1, ?_⟩
    show gn (nxtW (backW l).length) (2 * l.length - 1 - x) = 2 * l.length - 1 - gn (nxtW l.length) x
    rw [backW_len, gn_nxtW hx, gn_nxtW (by omega)]
    obtain ⟨i, rfl | rfl⟩ := half x
    · cases i with
      | zero =>
        rw [Nat.mul_zero, nxE_zero hpos, show 2 * l.length - 1 - 0 = 2 * (l.length - 1) + 1 by omega, nxE_last hpos]
        omega
      | succ i =>
        rw [nxE_even (by omega), show 2 * l.length - 1 - 2 * (i + 1) = 2 * (l.length - 2 - i) + 1 by omega, nxE_odd (by omega)]
        omega
    · by_cases e : i + 1 < l.length
      · rw [nxE_odd e, show 2 * l.length - 1 - (2 * i + 1) = 2 * ((l.length - 2 - i) + 1) by omega, nxE_even (by omega)]
        omega
      · obtain rfl : i = l.length - 1 := by omega
        rw [nxE_last hpos, show 2 * l.length - 1 - (2 * (l.length - 1) + 1) = 0 by omega, nxE_zero hpos]
        omega
theorem back_backW (l : List UInt8) : backW (backW l) = l := by
  unfold backW
  rw [List.map_reverse, List.reverse_reverse, List.map_map]
  have : ∀ c, c ∈ l → (oth ∘ oth) c = c := fun c _ => by
    show oth (oth c) = c
    unfold oth
    rw [UInt8.xor_assoc, UInt8.xor_self, UInt8.xor_zero]
  calc l.map (oth ∘ oth) = l.map id := List.map_congr_left this
    _ = l := List.map_id _
theorem Word.cor_back {l : List UInt8} (h : Word l) : corN (backW l) = corN l := by
  have a := cor_le_conj h h.back (backW_len l) h.conj_back
  have b := cor_le_conj h.back h.back.back (backW_len _) h.back.conj_back
  rw [back_backW] at b
  omega
theorem Word.sided_back {l : List UInt8} (h : Word l) : sidedB (backW l) = sidedB l := by
  have hw := wordB_iff.2 h
  have hb := wordB_iff.2 h.back
  rw [sidedB, sidedB, hw, hb, Bool.true_and, Bool.true_and, backW_len, Bool.eq_iff_iff, List.all_eq_true, List.all_eq_true]
  constructor
  · intro ha i hi
    have hi' := List.mem_range.1 hi
    rw [← h.two_back hi']
    exact ha _ (List.mem_range.2 (by omega))
  · intro ha i hi
    have hi' := List.mem_range.1 hi
    have e : i = l.length - 1 - (l.length - 1 - i) := by omega
    rw [e, h.two_back (by omega)]
    exact ha _ (List.mem_range.2 (by omega))

end Go.Proofs.YtmhalaleoklplaaDoor

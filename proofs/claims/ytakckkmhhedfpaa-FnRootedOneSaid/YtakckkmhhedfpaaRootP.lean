/-
  Plain: a form has the genus of its map; both ways to the list of the forms of a genus meet.
  Plain: all forms with e edges, as the program makes them: sorted, repeats struck; those of a genus; the least ones.
  Plain: the forms of all maps with up to three edges, written out: the list that both sides make is decided by evaluation.
-/
import Derived.Test.YtakckkmhhedfpaaPar10
import Derived.Test.YtakckkmhhedfpaaAllW
import Derived.Test.YtakckkmhhedfpaaLeastM
namespace Go.Proofs.Ytakckkmhhedfpaa

theorem genus_form {t f : List Int} {r : Nat} (hm : IsMap t f) (hr : r < t.length) : genusOf (formT t f r) (formF t f r) = genusOf t f := by
  obtain ⟨h1, h2⟩ := namesL_vld hm hr
  exact genus_ren hm h1 h2

/-- The list that the program makes (sorted, repeats struck, those of a genus kept) is the model's. -/
theorem lists_meet {e : Nat} (h1 : 1 ≤ e) (h3 : e ≤ 3) {s : List (MV (2 * e))} {g : Int} (hp : ∀ x, x ∈ s ↔ x ∈ ((allT e).filter (fun t => mapV t (flipL e))).map (frm e))
    (hs : s.Pairwise (fun a b => ¬ b.cmp a < 0)) : (compM s).filter (fun x => genusOf x.t x.f == g) = accL e g (allT e).length := by
  obtain ⟨c1, -, -⟩ := turns_all h1 h3
  unfold accL
  rw [List.take_of_length_le (Nat.le_refl _)]
  refine sorted_put_of (allT e) (fun t => mapV t (flipL e)) (frm e) (fun t => genusOf t (flipL e)) (fun x => genusOf x.t x.f) g (fun t ht hv => ?_) hp hs
  obtain ⟨i, hi, rfl⟩ := List.getElem_of_mem ht
  have hl := (chain_at c1 i hi).2.1
  have e0 : (allT e).getD i [] = (allT e)[i] := by rw [List.getD, List.getElem?_eq_getElem hi]; rfl
  rw [e0] at hl
  have hm := mapV_iff.1 hv
  obtain ⟨p1, p2⟩ := frm_pr hm hl h1
  rw [p1, p2]
  exact genus_form hm (by omega)

end Go.Proofs.Ytakckkmhhedfpaa

namespace Go.Proofs.Ytakckkmhhedfpaa

/-- The forms of those of the first i permutations that are maps with the flip. -/
noncomputable def rawL (e i : Nat) : List (MV (2 * e)) := (((allT e).take i).filter (fun t => mapV t (flipL e))).map (frm e)
theorem rawL_zero (e : Nat) : rawL e 0 = [] := rfl
theorem rawL_yes {e i : Nat} (hi : i < (allT e).length) (h : mapV ((allT e).getD i []) (flipL e) = true) : rawL e (i + 1) = rawL e i ++ [frm e ((allT e).getD i [])] := by
  have e0 : (allT e).getD i [] = (allT e)[i] := by rw [List.getD, List.getElem?_eq_getElem hi]; rfl
  rw [e0] at h ⊢
  unfold rawL
  rw [List.take_succ_eq_append_getElem hi, List.filter_append, List.map_append]
  simp [List.filter, h]
theorem rawL_no {e i : Nat} (hi : i < (allT e).length) (h : mapV ((allT e).getD i []) (flipL e) = false) : rawL e (i + 1) = rawL e i := by
  have e0 : (allT e).getD i [] = (allT e)[i] := by rw [List.getD, List.getElem?_eq_getElem hi]; rfl
  rw [e0] at h
  unfold rawL
  rw [List.take_succ_eq_append_getElem hi, List.filter_append, List.map_append]
  simp [List.filter, h]
theorem rawL_len {e i : Nat} : (rawL e i).length ≤ i := by
  have h2 : (((allT e).take i).filter (fun t => mapV t (flipL e))).length ≤ ((allT e).take i).length := List.length_filter_le _ _
  rw [List.length_take] at h2
  unfold rawL
  rw [List.length_map]
  omega
noncomputable def allM (e : Nat) : List (MV (2 * e)) := (rawL e (allT e).length).foldl (fun a x => putM x a) []
theorem allM_asc (e : Nat) : Asc (allM e) := asc_fold _ (by simp [Asc])
theorem mem_allM {e : Nat} {x : MV (2 * e)} : x ∈ allM e ↔ x ∈ rawL e (allT e).length := by unfold allM; rw [mem_fold]; simp
theorem allM_of {e : Nat} {s : List (MV (2 * e))} (hp : ∀ x, x ∈ s ↔ x ∈ rawL e (allT e).length) (hs : s.Pairwise (fun a b => ¬ b.cmp a < 0)) : compM s = allM e := sorted_put hp hs
theorem allM_len {e : Nat} : (allM e).length ≤ (allT e).length := by
  have h := len_fold (rawL e (allT e).length) (acc := [])
  have h2 := rawL_len (e := e) (i := (allT e).length)
  unfold allM
  simp only [List.length_nil] at h
  omega
/-- Each permutation of the list, where it is a map. -/
theorem turn_of {e : Nat} (h1 : 1 ≤ e) (h3 : e ≤ 3) {t : List Int} (ht : t ∈ allT e) (hv : mapV t (flipL e) = true) : IsMap t (flipL e) ∧ t.length = 2 * e := by
  obtain ⟨c1, -, -⟩ := turns_all h1 h3
  obtain ⟨i, hi, rfl⟩ := List.getElem_of_mem ht
  have hl := (chain_at c1 i hi).2.1
  have e0 : (allT e).getD i [] = (allT e)[i] := by rw [List.getD, List.getElem?_eq_getElem hi]; rfl
  rw [e0] at hl
  exact ⟨mapV_iff.1 hv, hl⟩
theorem mem_raw {e : Nat} {x : MV (2 * e)} : x ∈ rawL e (allT e).length ↔ ∃ t, t ∈ allT e ∧ mapV t (flipL e) = true ∧ frm e t = x := by
  unfold rawL
  rw [List.take_of_length_le (Nat.le_refl _)]
  simp only [List.mem_map, List.mem_filter]
  exact ⟨fun ⟨t, ⟨a, b⟩, c⟩ => ⟨t, a, b, c⟩, fun ⟨t, a, b, c⟩ => ⟨t, ⟨a, b⟩, c⟩⟩
theorem raw_map {e : Nat} (h1 : 1 ≤ e) (h3 : e ≤ 3) {x : MV (2 * e)} (hx : x ∈ rawL e (allT e).length) : IsMap x.t x.f := by
  obtain ⟨t, ht, hv, rfl⟩ := mem_raw.1 hx
  obtain ⟨hm, hl⟩ := turn_of h1 h3 ht hv
  obtain ⟨p1, p2⟩ := frm_pr hm hl h1
  rw [p1, p2]
  exact form_map hm (by omega)
theorem all_genus {e : Nat} (h1 : 1 ≤ e) (h3 : e ≤ 3) (g : Int) : (allM e).filter (fun x => genusOf x.t x.f == g) = accL e g (allT e).length := by
  refine asc_ext (asc_filter (allM_asc e) _) (asc_fold _ (by simp [Asc])) fun x => ?_
  unfold accL
  rw [List.mem_filter, mem_allM, mem_raw, mem_fold, List.take_of_length_le (Nat.le_refl _)]
  simp only [List.mem_map, List.mem_filter, beq_iff_eq, List.not_mem_nil, or_false, okT, Bool.and_eq_true]
  constructor
  · rintro ⟨⟨t, ht, hv, rfl⟩, hg⟩
    obtain ⟨hm, hl⟩ := turn_of h1 h3 ht hv
    obtain ⟨p1, p2⟩ := frm_pr hm hl h1
    rw [p1, p2, genus_form hm (by omega)] at hg
    exact ⟨t, ⟨ht, hv, hg⟩, rfl⟩
  · rintro ⟨t, ⟨ht, hv, hg⟩, rfl⟩
    obtain ⟨hm, hl⟩ := turn_of h1 h3 ht hv
    obtain ⟨p1, p2⟩ := frm_pr hm hl h1
    refine ⟨⟨t, ht, hv, rfl⟩, ?_⟩
    rw [p1, p2, genus_form hm (by omega)]
    exact hg
/-- To strike repeats of a list with one more at its end. -/
theorem compM_snoc {n : Nat} {b : MV n} : ∀ {l : List (MV n)} {a : MV n}, l.getLast? = some a → compM (l ++ [b]) = if a.cmp b = 0 then compM l else compM l ++ [b]
  | [], a, h => by simp at h
  | [c], a, h => by
    simp only [List.getLast?_singleton, Option.some.injEq] at h
    subst h
    simp only [List.cons_append, List.nil_append, compM]
  | c :: d :: l, a, h => by
    have h' : (d :: l).getLast? = some a := by simpa using h
    have h2 := compM_snoc (b := b) h'
    rw [List.cons_append, List.cons_append, compM, compM]
    by_cases hc : c.cmp d = 0
    · rw [if_pos hc, if_pos hc]
      have hcd := MV.cmp_zero.1 hc
      subst hcd
      exact h2
    · rw [if_neg hc, if_neg hc]
      rw [List.cons_append] at h2
      rw [h2]
      split <;> simp
/-- No two neighbors are equal: nothing is struck. -/
theorem compM_id {n : Nat} : ∀ {l : List (MV n)}, (∀ i (h : i + 1 < l.length), ¬ (l[i]).cmp (l[i + 1]) = 0) → compM l = l
  | [], _ => by simp [compM]
  | [a], _ => by simp [compM]
  | a :: b :: l, h => by
    rw [compM, if_neg (show ¬ a.cmp b = 0 from h 0 (by simp)), compM_id fun i hi => h (i + 1) (by simpa using hi)]

end Go.Proofs.Ytakckkmhhedfpaa

namespace Go.Proofs.Ytakckkmhhedfpaa

/-- Named darts are led to. -/
def LedN (t f nm q : List Int) : Prop := (∀ x, x < t.length → gi nm x ≠ -1 → Lead t f 0 x) ∧ (∀ i, i < q.length → Lead t f 0 (gn q i) ∧ gn q i < t.length) ∧ nm.length = t.length
theorem LedN.one {t f nm q : List Int} (h : LedN t f nm q) {x : Nat} (hx : x < t.length) (hl : Lead t f 0 x) : LedN t f (nameOne (nm, q) x).1 (nameOne (nm, q) x).2 := by
  unfold nameOne
  split
  · refine ⟨fun y hy hne => ?_, fun i hi => ?_, by simpa using h.2.2⟩
    · rw [gi_set _ _ _ _ (by rw [h.2.2]; exact hx)] at hne
      by_cases e : y = x
      · rw [e]; exact hl
      · rw [if_neg e] at hne; exact h.1 y hy hne
    · simp only [List.length_append, List.length_cons, List.length_nil] at hi
      by_cases hi' : i < q.length
      · rw [gn_append_left hi']; exact h.2.1 i hi'
      · obtain rfl : i = q.length := by omega
        rw [gn_append_last]; exact ⟨hl, hx⟩
  · exact h
theorem LedN.go {t f : List Int} (ht : Vld t) (hf : Vld f) (hl : t.length = f.length) : ∀ (m k : Nat) (nm q : List Int), LedN t f nm q → ∀ x, x < t.length → gi (nameGo t f m k (nm, q)) x ≠ -1 → Lead t f 0 x
  | 0, _, _, _, h => fun x hx hne => h.1 x hx hne
  | m + 1, k, nm, q, h => by
    rw [nameGo]
    split
    · rename_i hk
      obtain ⟨l1, l2⟩ := h.2.1 k hk
      have h1 := h.one (ht.gn_lt l2) (.one l1)
      have h2 := h1.one (x := gn f (gn q k)) (by rw [hl]; exact hf.gn_lt (by omega)) (.two l1)
      exact LedN.go ht hf hl m (k + 1) _ _ h2
    · exact fun x hx hne => h.1 x hx hne
theorem nameOne_len (s : List Int × List Int) (x : Nat) : (nameOne s x).1.length = s.1.length := by
  unfold nameOne
  split <;> simp
theorem nameGo_len (t f : List Int) : ∀ (m k : Nat) (s : List Int × List Int) {n : Nat}, s.1.length = n → (nameGo t f m k s).length = n
  | 0, _, _, _, h => h
  | m + 1, k, s, n, h => by
    rw [nameGo]
    split
    · exact nameGo_len t f m (k + 1) _ (by rw [nameTwo, nameOne_len, nameOne_len]; exact h)
    · exact h
/-- Whether a permutation and a flip hang together, by names. -/
def allN0 (t f : List Int) : Bool := !(namesL t f 0).contains (-1)
theorem mapV_names {t f : List Int} (ht : Vld t) (hf : Vld f) (hl : t.length = f.length) (hp : Paired f) : mapV t f = allN0 t f := by
  rw [Bool.eq_iff_iff, mapV_iff]
  constructor
  · intro hm
    obtain ⟨h1, h2⟩ := namesL_vld hm (root := 0) hm.turn.1
    unfold allN0
    rw [Bool.not_eq_true', ← Bool.not_eq_true]
    intro hc
    have hc' : (-1 : Int) ∈ namesL t f 0 := by simpa using hc
    obtain ⟨j, hj, e⟩ := List.getElem_of_mem hc'
    have := (h1.2.2.1 j hj).1
    rw [gi_eq hj, e] at this
    omega
  · intro h
    refine ⟨ht, hf, hl, hp, whole_of_lead fun j hj => ?_⟩
    have hs : LedN t f ((List.replicate t.length (-1)).set 0 0) [((0 : Nat) : Int)] := by
      refine ⟨fun x hx hne => ?_, fun i hi => ?_, by simp⟩
      · rw [gi_set _ _ _ _ (by rw [List.length_replicate]; exact ht.1)] at hne
        by_cases e : x = 0
        · rw [e]; exact .refl _
        · rw [if_neg e, gi_eq (by simpa using hx)] at hne; simp at hne
      · obtain rfl : i = 0 := by simp at hi; omega
        exact ⟨.refl _, ht.1⟩
    refine LedN.go ht hf hl (t.length + 1) 0 _ _ hs j hj fun e => ?_
    have hlen : (nameGo t f (t.length + 1) 0 ((List.replicate t.length (-1)).set 0 0, [((0 : Nat) : Int)])).length = t.length := nameGo_len _ _ _ _ _ (by simp)
    have hm : (-1 : Int) ∈ namesL t f 0 := by
      rw [← e, gi_eq (by rw [hlen]; exact hj)]
      exact List.getElem_mem _
    unfold allN0 at h
    rw [Bool.not_eq_true'] at h
    have : (namesL t f 0).contains (-1) = true := by simpa using hm
    rw [this] at h
    cases h

/-- To put in a pair of lists. -/
def putP (x : List Int × List Int) : List (List Int × List Int) → List (List Int × List Int)
  | [] => [x]
  | a :: l => if cmpM a.1 a.2 x.1 x.2 < 0 then a :: putP x l else if cmpM a.1 a.2 x.1 x.2 = 0 then a :: l else x :: a :: l
theorem putM_pr {n : Nat} (x : MV n) : ∀ l : List (MV n), (putM x l).map MV.pr = putP x.pr (l.map MV.pr)
  | [] => rfl
  | a :: l => by
    rw [putM, List.map_cons, putP]
    show List.map MV.pr (if cmpM a.t a.f x.t x.f < 0 then _ else if cmpM a.t a.f x.t x.f = 0 then _ else _) = if cmpM a.t a.f x.t x.f < 0 then _ else if cmpM a.t a.f x.t x.f = 0 then _ else _
    split
    · rw [List.map_cons, putM_pr x l]
    · split <;> rfl
theorem fold_pr {n : Nat} : ∀ (xs l : List (MV n)), (xs.foldl (fun a x => putM x a) l).map MV.pr = (xs.map MV.pr).foldl (fun a x => putP x a) (l.map MV.pr)
  | [], _ => rfl
  | x :: xs, l => by rw [List.foldl_cons, fold_pr xs, putM_pr, List.map_cons, List.foldl_cons]
/-- What is evaluated. -/
def rawC (e : Nat) : List (List Int × List Int) := ((allT e).filter (fun t => allN0 t (flipL e))).map fun t => (formT t (flipL e) 0, formF t (flipL e) 0)
theorem flip_ok : ∀ e, e < 4 → 1 ≤ e → Vld (flipL e) ∧ Paired (flipL e) := by decide +kernel
theorem raw_C {e : Nat} (h1 : 1 ≤ e) (h3 : e ≤ 3) : (rawL e (allT e).length).map MV.pr = rawC e := by
  obtain ⟨c1, -, -⟩ := turns_all h1 h3
  obtain ⟨f1, f2⟩ := flip_ok e (by omega) h1
  unfold rawL rawC
  rw [List.take_of_length_le (Nat.le_refl _), List.map_map]
  have hf : (allT e).filter (fun t => mapV t (flipL e)) = (allT e).filter (fun t => allN0 t (flipL e)) := by
    refine List.filter_congr fun t ht => ?_
    obtain ⟨i, hi, rfl⟩ := List.getElem_of_mem ht
    obtain ⟨v, l, -, -⟩ := chain_at c1 i hi
    have e0 : (allT e).getD i [] = (allT e)[i] := by rw [List.getD, List.getElem?_eq_getElem hi]; rfl
    rw [e0] at v l
    exact mapV_names v f1 (by rw [l, flipL_len]) f2
  rw [← hf]
  refine List.map_congr_left fun t ht => ?_
  obtain ⟨ht1, ht2⟩ := List.mem_filter.1 ht
  obtain ⟨hm, hl⟩ := turn_of h1 h3 ht1 ht2
  obtain ⟨p1, p2⟩ := frm_pr hm hl h1
  show ((frm e t).t, (frm e t).f) = _
  rw [p1, p2]
theorem all_C {e : Nat} (h1 : 1 ≤ e) (h3 : e ≤ 3) : (allM e).map MV.pr = (rawC e).foldl (fun a x => putP x a) [] := by
  unfold allM
  rw [fold_pr, raw_C h1 h3]; rfl
def lits1 : List (List Int × List Int) := [([0, 1], [1, 0]), ([1, 0], [1, 0])]
def lits2 : List (List Int × List Int) := [([0, 2, 1, 3], [1, 0, 3, 2]), ([0, 2, 3, 1], [1, 0, 3, 2]), ([1, 0, 2, 3], [2, 3, 0, 1]), ([1, 0, 3, 2], [2, 3, 0, 1]), ([1, 2, 0, 3], [1, 0, 3, 2]), ([1, 2, 0, 3], [2, 3, 0, 1]), ([1, 2, 3, 0], [1, 0, 3, 2]), ([1, 2, 3, 0], [2, 3, 0, 1]), ([1, 3, 0, 2], [2, 3, 0, 1]), ([1, 3, 2, 0], [2, 3, 0, 1])]
def lits3 : List (List Int × List Int) := [([0, 2, 1, 4, 3, 5], [1, 0, 3, 2, 5, 4]), ([0, 2, 1, 4, 5, 3], [1, 0, 3, 2, 5, 4]), ([0, 2, 3, 1, 4, 5], [1, 0, 4, 5, 2, 3]), ([0, 2, 3, 1, 5, 4], [1, 0, 4, 5, 2, 3]), ([0, 2, 3, 4, 1, 5], [1, 0, 3, 2, 5, 4]), ([0, 2, 3, 4, 1, 5], [1, 0, 4, 5, 2, 3]), ([0, 2, 3, 4, 5, 1], [1, 0, 3, 2, 5, 4]), ([0, 2, 3, 4, 5, 1], [1, 0, 4, 5, 2, 3]), ([0, 2, 3, 5, 1, 4], [1, 0, 4, 5, 2, 3]), ([0, 2, 3, 5, 4, 1], [1, 0, 4, 5, 2, 3]), ([1, 0, 2, 4, 3, 5], [2, 3, 0, 1, 5, 4]), ([1, 0, 2, 4, 5, 3], [2, 3, 0, 1, 5, 4]), ([1, 0, 3, 4, 2, 5], [2, 3, 0, 1, 5, 4]), ([1, 0, 3, 4, 5, 2], [2, 3, 0, 1, 5, 4]), ([1, 0, 4, 2, 3, 5], [2, 3, 0, 1, 5, 4]), ([1, 0, 4, 2, 5, 3], [2, 3, 0, 1, 5, 4]), ([1, 0, 4, 3, 2, 5], [2, 3, 0, 1, 5, 4]), ([1, 0, 4, 3, 5, 2], [2, 3, 0, 1, 5, 4]), ([1, 0, 4, 5, 2, 3], [2, 3, 0, 1, 5, 4]), ([1, 0, 4, 5, 3, 2], [2, 3, 0, 1, 5, 4]), ([1, 2, 0, 4, 3, 5], [1, 0, 3, 2, 5, 4]), ([1, 2, 0, 4, 3, 5], [2, 3, 0, 1, 5, 4]), ([1, 2, 0, 4, 5, 3], [1, 0, 3, 2, 5, 4]), ([1, 2, 0, 4, 5, 3], [2, 3, 0, 1, 5, 4]), ([1, 2, 3, 0, 4, 5], [1, 0, 4, 5, 2, 3]), ([1, 2, 3, 0, 5, 4], [1, 0, 4, 5, 2, 3]), ([1, 2, 3, 4, 0, 5], [1, 0, 3, 2, 5, 4]), ([1, 2, 3, 4, 0, 5], [1, 0, 4, 5, 2, 3]), ([1, 2, 3, 4, 0, 5], [2, 3, 0, 1, 5, 4]), ([1, 2, 3, 4, 5, 0], [1, 0, 3, 2, 5, 4]), ([1, 2, 3, 4, 5, 0], [1, 0, 4, 5, 2, 3]), ([1, 2, 3, 4, 5, 0], [2, 3, 0, 1, 5, 4]), ([1, 2, 3, 5, 0, 4], [1, 0, 4, 5, 2, 3]), ([1, 2, 3, 5, 4, 0], [1, 0, 4, 5, 2, 3]), ([1, 2, 4, 0, 3, 5], [2, 3, 0, 1, 5, 4]), ([1, 2, 4, 0, 5, 3], [2, 3, 0, 1, 5, 4]), ([1, 2, 4, 3, 0, 5], [2, 3, 0, 1, 5, 4]), ([1, 2, 4, 3, 5, 0], [2, 3, 0, 1, 5, 4]), ([1, 2, 4, 5, 0, 3], [2, 3, 0, 1, 5, 4]), ([1, 2, 4, 5, 3, 0], [2, 3, 0, 1, 5, 4]), ([1, 3, 0, 2, 4, 5], [2, 4, 0, 5, 1, 3]), ([1, 3, 0, 2, 5, 4], [2, 4, 0, 5, 1, 3]), ([1, 3, 0, 4, 2, 5], [2, 3, 0, 1, 5, 4]), ([1, 3, 0, 4, 2, 5], [2, 4, 0, 5, 1, 3]), ([1, 3, 0, 4, 5, 2], [2, 3, 0, 1, 5, 4]), ([1, 3, 0, 4, 5, 2], [2, 4, 0, 5, 1, 3]), ([1, 3, 0, 5, 2, 4], [2, 4, 0, 5, 1, 3]), ([1, 3, 0, 5, 4, 2], [2, 4, 0, 5, 1, 3]), ([1, 3, 2, 0, 4, 5], [2, 4, 0, 5, 1, 3]), ([1, 3, 2, 0, 5, 4], [2, 4, 0, 5, 1, 3]), ([1, 3, 2, 4, 0, 5], [2, 3, 0, 1, 5, 4]), ([1, 3, 2, 4, 0, 5], [2, 4, 0, 5, 1, 3]), ([1, 3, 2, 4, 5, 0], [2, 3, 0, 1, 5, 4]), ([1, 3, 2, 4, 5, 0], [2, 4, 0, 5, 1, 3]), ([1, 3, 2, 5, 0, 4], [2, 4, 0, 5, 1, 3]), ([1, 3, 2, 5, 4, 0], [2, 4, 0, 5, 1, 3]), ([1, 3, 4, 0, 2, 5], [2, 3, 0, 1, 5, 4]), ([1, 3, 4, 0, 2, 5], [2, 4, 0, 5, 1, 3]), ([1, 3, 4, 0, 5, 2], [2, 3, 0, 1, 5, 4]), ([1, 3, 4, 0, 5, 2], [2, 4, 0, 5, 1, 3]), ([1, 3, 4, 2, 0, 5], [2, 3, 0, 1, 5, 4]), ([1, 3, 4, 2, 0, 5], [2, 4, 0, 5, 1, 3]), ([1, 3, 4, 2, 5, 0], [2, 3, 0, 1, 5, 4]), ([1, 3, 4, 2, 5, 0], [2, 4, 0, 5, 1, 3]), ([1, 3, 4, 5, 0, 2], [2, 3, 0, 1, 5, 4]), ([1, 3, 4, 5, 0, 2], [2, 4, 0, 5, 1, 3]), ([1, 3, 4, 5, 2, 0], [2, 3, 0, 1, 5, 4]), ([1, 3, 4, 5, 2, 0], [2, 4, 0, 5, 1, 3]), ([1, 3, 5, 0, 2, 4], [2, 4, 0, 5, 1, 3]), ([1, 3, 5, 0, 4, 2], [2, 4, 0, 5, 1, 3]), ([1, 3, 5, 2, 0, 4], [2, 4, 0, 5, 1, 3]), ([1, 3, 5, 2, 4, 0], [2, 4, 0, 5, 1, 3]), ([1, 3, 5, 4, 0, 2], [2, 4, 0, 5, 1, 3]), ([1, 3, 5, 4, 2, 0], [2, 4, 0, 5, 1, 3])]
def lits (e : Nat) : List (List Int × List Int) := if e = 1 then lits1 else if e = 2 then lits2 else lits3
set_option maxRecDepth 100000 in
theorem eval1 : (rawC 1).foldl (fun a x => putP x a) [] = lits1 := by decide +kernel
set_option maxRecDepth 100000 in
theorem eval2 : (rawC 2).foldl (fun a x => putP x a) [] = lits2 := by decide +kernel
set_option maxRecDepth 100000 in
theorem eval3 : (rawC 3).foldl (fun a x => putP x a) [] = lits3 := by decide +kernel
theorem all_lits {e : Nat} (h1 : 1 ≤ e) (h3 : e ≤ 3) : (allM e).map MV.pr = lits e := by
  rw [all_C h1 h3]
  rcases (show e = 1 ∨ e = 2 ∨ e = 3 by omega) with rfl | rfl | rfl
  · exact eval1
  · exact eval2
  · exact eval3

end Go.Proofs.Ytakckkmhhedfpaa

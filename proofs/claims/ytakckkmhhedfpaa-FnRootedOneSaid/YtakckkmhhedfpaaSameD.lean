/-
  Plain: the forms of a renamed map are those of the map; two maps that share one form share all.
  MapSame: plain.
-/
import Derived.Test.YtakckkmhhedfpaaTimes
import Derived.Deep.RegionHeld3
namespace Go.Proofs.Ytakckkmhhedfpaa
open Go.RowKit

/-- Two states of the naming, the second one renamed by b. -/
structure RelN (n : Nat) (b : List Int) (s s' : List Int × List Int) : Prop where
  len : s.1.length = n
  len' : s'.1.length = n
  q : s'.2.length = s.2.length
  nm : ∀ j, j < n → gi s'.1 (gn b j) = gi s.1 j
  at_ : ∀ i, i < s.2.length → gn s.2 i < n ∧ gn s'.2 i = gn b (gn s.2 i)
section
variable {n : Nat} {b : List Int} {s s' : List Int × List Int}
theorem RelN.one (hb : Vld b) (hl : b.length = n) (h : RelN n b s s') {x : Nat} (hx : x < n) : RelN n b (nameOne s x) (nameOne s' (gn b x)) := by
  have hbx : gn b x < n := by rw [← hl]; exact hb.gn_lt (by omega)
  unfold nameOne
  rw [h.nm x hx]
  by_cases e : gi s.1 x = -1
  · rw [if_pos e, if_pos e]
    refine ⟨by simpa using h.len, by simpa using h.len', by simp [h.q], fun j hj => ?_, fun i hi => ?_⟩
    · show gi (s'.1.set (gn b x) (s'.2.length : Int)) (gn b j) = gi (s.1.set x (s.2.length : Int)) j
      rw [gi_set _ _ _ _ (by rw [h.len']; exact hbx), gi_set _ _ _ _ (by rw [h.len]; exact hx), h.q]
      by_cases ej : j = x
      · rw [if_pos ej, if_pos (by rw [ej])]
      · rw [if_neg ej, if_neg (fun e' => ej (hb.inj (by omega) (by omega) e')), h.nm j hj]
    · simp only [List.length_append, List.length_cons, List.length_nil] at hi
      show gn (s.2 ++ [(x : Int)]) i < n ∧ gn (s'.2 ++ [((gn b x : Nat) : Int)]) i = gn b (gn (s.2 ++ [(x : Int)]) i)
      by_cases hi' : i < s.2.length
      · rw [gn_append_left hi', gn_append_left (by rw [h.q]; exact hi')]; exact h.at_ i hi'
      · obtain rfl : i = s.2.length := by omega
        rw [gn_append_last]
        have := gn_append_last (a := s'.2) (k := gn b x)
        rw [h.q] at this
        rw [this]
        exact ⟨hx, rfl⟩
  · rw [if_neg e, if_neg e]; exact h
theorem conj_gn {t : List Int} (hb : Vld b) {d : Nat} (hd : d < b.length) : gn (conjL t b) (gn b d) = gn b (gn t d) := by
  unfold gn; rw [show (gi b d).toNat = gn b d from rfl, conjL_at hb hd]; rfl
theorem RelN.two {t f : List Int} (hb : Vld b) (hl : b.length = n) (ht : Vld t) (hf : Vld f) (hlt : t.length = n) (hlf : f.length = n) (h : RelN n b s s') {d : Nat} (hd : d < n) :
    RelN n b (nameTwo t f s d) (nameTwo (conjL t b) (conjL f b) s' (gn b d)) := by
  unfold nameTwo
  rw [conj_gn hb (by omega), conj_gn hb (by omega)]
  exact (h.one hb hl (by rw [← hlt]; exact ht.gn_lt (by omega))).one hb hl (by rw [← hlf]; exact hf.gn_lt (by omega))
theorem RelN.go {t f : List Int} (hb : Vld b) (hl : b.length = n) (ht : Vld t) (hf : Vld f) (hlt : t.length = n) (hlf : f.length = n) : ∀ (m k : Nat) (s s' : List Int × List Int), RelN n b s s' →
    (∀ j, j < n → gi (nameGo (conjL t b) (conjL f b) m k s') (gn b j) = gi (nameGo t f m k s) j) ∧ (nameGo (conjL t b) (conjL f b) m k s').length = n
  | 0, _, s, s', h => ⟨h.nm, h.len'⟩
  | m + 1, k, s, s', h => by
    rw [nameGo, nameGo, h.q]
    by_cases hk : k < s.2.length
    · rw [if_pos hk, if_pos hk, (h.at_ k hk).2]
      exact RelN.go hb hl ht hf hlt hlf m (k + 1) _ _ (h.two hb hl ht hf hlt hlf (h.at_ k hk).1)
    · rw [if_neg hk, if_neg hk]; exact ⟨h.nm, h.len'⟩
theorem names_ren {t f : List Int} (hb : Vld b) (hl : b.length = t.length) (hm : IsMap t f) {r : Nat} (hr : r < t.length) :
    (∀ j, j < t.length → gi (namesL (conjL t b) (conjL f b) (gn b r)) (gn b j) = gi (namesL t f r) j) ∧ (namesL (conjL t b) (conjL f b) (gn b r)).length = t.length := by
  have hlf : f.length = t.length := hm.len.symm
  have hbr : gn b r < t.length := by rw [← hl]; exact hb.gn_lt (by omega)
  unfold namesL
  rw [conjL_len, hl]
  refine RelN.go hb hl hm.turn hm.flip rfl hlf _ 0 _ _ ⟨by simp, by simp, rfl, fun j hj => ?_, fun i hi => ?_⟩
  · show gi ((List.replicate t.length (-1)).set (gn b r) 0) (gn b j) = gi ((List.replicate t.length (-1)).set r 0) j
    rw [gi_set _ _ _ _ (by simpa using hbr), gi_set _ _ _ _ (by simpa using hr)]
    by_cases e : j = r
    · rw [if_pos e, if_pos (by rw [e])]
    · rw [if_neg e, if_neg (fun e' => e (hb.inj (by omega) (by omega) e'))]
      have hbj : gn b j < t.length := by rw [← hl]; exact hb.gn_lt (by omega)
      rw [gi_eq (by simpa using hbj), gi_eq (by simpa using hj)]; simp
  · obtain rfl : i = 0 := by simp at hi; omega
    have e1 : gn [(r : Int)] 0 = r := gn_of rfl
    have e2 : gn [((gn b r : Nat) : Int)] 0 = gn b r := gn_of rfl
    refine ⟨?_, ?_⟩
    · show gn [(r : Int)] 0 < t.length
      rw [e1]; exact hr
    · show gn [((gn b r : Nat) : Int)] 0 = gn b (gn [(r : Int)] 0)
      rw [e1, e2]
/-- The form of the renamed map from the renamed dart is the form of the map from the dart. -/
theorem form_ren {t f : List Int} (hb : Vld b) (hl : b.length = t.length) (hm : IsMap t f) {r : Nat} (hr : r < t.length) :
    formT (conjL t b) (conjL f b) (gn b r) = formT t f r ∧ formF (conjL t b) (conjL f b) (gn b r) = formF t f r := by
  have hlf : f.length = t.length := hm.len.symm
  obtain ⟨h1, h2⟩ := names_ren hb hl hm hr
  obtain ⟨hv, hvl⟩ := namesL_vld hm hr
  have e : namesL (conjL t b) (conjL f b) (gn b r) = mulL (backL b) (namesL t f r) := by
    refine hb.ext (h2.trans hl.symm) (by rw [mulL_len, backL_len]) (fun i hi => ?_)
    rw [h1 i (by omega), gi_mulL (by rw [backL_len]; exact hb.gn_lt hi), hb.gn_backL hi]
  have hbv : Vld (backL b) := backL_vld hb
  have hv' : Vld (namesL (conjL t b) (conjL f b) (gn b r)) := by rw [e]; exact hbv.mulL hv (by rw [backL_len, hvl, hl])
  have key : ∀ p : List Int, Vld p → p.length = t.length → conjL (conjL p b) (namesL (conjL t b) (conjL f b) (gn b r)) = conjL p (namesL t f r) := by
    intro p hp hpl
    refine (conjL_eq hv' (by rw [conjL_len, hvl, h2]) (fun i hi => ?_)).symm
    rw [h2] at hi
    obtain ⟨j, hj, rfl⟩ := hb.surj (v := i) (by omega)
    have g1 : gn (namesL (conjL t b) (conjL f b) (gn b r)) (gn b j) = gn (namesL t f r) j := congrArg Int.toNat (h1 j (by omega))
    rw [g1, conjL_at hv (by omega), conj_gn hb hj, h1 _ (by rw [← hpl]; exact hp.gn_lt (by omega))]
  exact ⟨key t hm.turn rfl, key f hm.flip hlf⟩

/-- Two maps that share one form share all of them. -/
theorem forms_share {t f t' f' : List Int} (hm : IsMap t f) (hm' : IsMap t' f') (hl : t.length = t'.length) {r s : Nat} (hr : r < t.length) (hs : s < t'.length)
    (h1 : formT t f r = formT t' f' s) (h2 : formF t f r = formF t' f' s) {x : Nat} (hx : x < t.length) : ∃ y, y < t'.length ∧ formT t f x = formT t' f' y ∧ formF t f x = formF t' f' y := by
  obtain ⟨hv, hvl⟩ := namesL_vld hm hr
  obtain ⟨hv', hvl'⟩ := namesL_vld hm' hs
  have a := form_ren hv hvl hm hx
  have hlt : gn (namesL t f r) x < t.length := by rw [← hvl]; exact hv.gn_lt (by omega)
  obtain ⟨y, hy, e⟩ := hv'.surj (v := gn (namesL t f r) x) (by omega)
  have b' := form_ren hv' hvl' hm' (r := y) (by omega)
  rw [e] at b'
  have e1 : conjL t (namesL t f r) = conjL t' (namesL t' f' s) := h1
  have e2 : conjL f (namesL t f r) = conjL f' (namesL t' f' s) := h2
  rw [← e1, ← e2] at b'
  exact ⟨y, by omega, a.1.symm.trans b'.1, a.2.symm.trans b'.2⟩
end

theorem cmpL_trans : ∀ {a b c : List Int}, a.length = b.length → b.length = c.length → cmpL a b < 0 → cmpL b c < 0 → cmpL a c < 0
  | [], [], _, _, _, h, _ => by rw [cmpL] at h; omega
  | [], _ :: _, _, hl, _, _, _ => by simp at hl
  | _ :: _, [], _, hl, _, _, _ => by simp at hl
  | _ :: _, _ :: _, [], _, hl, _, _ => by simp at hl
  | x :: a, y :: b, z :: c, hl, hl', h1, h2 => by
    rw [cmpL] at h1 h2 ⊢
    by_cases xy : x < y
    · by_cases zy : z < y
      · rw [if_neg (by omega), if_pos zy] at h2; omega
      · rw [if_pos (by omega)]; omega
    · rw [if_neg xy] at h1
      by_cases yx : y < x
      · rw [if_pos yx] at h1; omega
      · rw [if_neg yx] at h1
        by_cases yz : y < z
        · rw [if_pos (by omega)]; omega
        · rw [if_neg yz] at h2
          by_cases zy : z < y
          · rw [if_pos zy] at h2; omega
          · rw [if_neg zy] at h2
            rw [if_neg (by omega), if_neg (by omega)]
            exact cmpL_trans (by simpa using hl) (by simpa using hl') h1 h2
theorem cmpL_anti : ∀ {a b : List Int}, a.length = b.length → ¬ cmpL a b < 0 → ¬ cmpL b a < 0 → a = b
  | [], [], _, _, _ => rfl
  | [], _ :: _, hl, _, _ => by simp at hl
  | _ :: _, [], hl, _, _ => by simp at hl
  | x :: a, y :: b, hl, h1, h2 => by
    rw [cmpL] at h1 h2
    by_cases xy : x < y
    · rw [if_pos xy] at h1; omega
    · by_cases yx : y < x
      · rw [if_pos yx] at h2; omega
      · rw [if_neg xy, if_neg yx] at h1
        rw [if_neg yx, if_neg xy] at h2
        rw [show x = y by omega, cmpL_anti (by simpa using hl) h1 h2]
theorem cmpM_app : ∀ {t t' : List Int} (f f' : List Int), t.length = t'.length → cmpM t f t' f' = cmpL (t ++ f) (t' ++ f')
  | [], [], f, f', _ => by rw [cmpM, cmpL, if_pos rfl]; rfl
  | [], _ :: _, _, _, hl => by simp at hl
  | _ :: _, [], _, _, hl => by simp at hl
  | x :: a, y :: b, f, f', hl => by
    have ih := cmpM_app (t := a) (t' := b) f f' (by simpa using hl)
    rw [List.cons_append, List.cons_append, cmpM, cmpL, cmpL, ← ih, cmpM]
    by_cases xy : x < y
    · rw [if_pos xy, if_pos xy]; rfl
    · by_cases yx : y < x
      · rw [if_neg xy, if_pos yx, if_neg xy, if_pos yx]; rfl
      · rw [if_neg xy, if_neg yx, if_neg xy, if_neg yx]
def formC (t f : List Int) (r : Nat) : List Int := formT t f r ++ formF t f r
theorem formC_len {t f : List Int} {r : Nat} (hm : IsMap t f) (hr : r < t.length) : (formC t f r).length = t.length + t.length := by
  have := hm.len
  rw [formC, List.length_append, formT_len hm hr, formF_len hm hr]
theorem least_min {t f : List Int} (hm : IsMap t f) : ∀ k, k < t.length → ∀ j, j ≤ k → ¬ cmpL (formC t f j) (formC t f (leastTo t f k)) < 0
  | 0, _, j, hj => by
    obtain rfl : j = 0 := by omega
    rw [leastTo, cmpL_self]; omega
  | k + 1, hk, j, hj => by
    have ih := least_min hm k (by omega)
    have hle := leastTo_le t f k
    have hc : cmpM (formT t f (k + 1)) (formF t f (k + 1)) (formT t f (leastTo t f k)) (formF t f (leastTo t f k)) = cmpL (formC t f (k + 1)) (formC t f (leastTo t f k)) :=
      cmpM_app _ _ ((formT_len hm hk).trans (formT_len hm (by omega)).symm)
    rw [leastTo, hc]
    by_cases hs : cmpL (formC t f (k + 1)) (formC t f (leastTo t f k)) < 0
    · rw [if_pos hs]
      by_cases e : j = k + 1
      · rw [e, cmpL_self]; omega
      · intro hj'
        exact ih j (by omega) (cmpL_trans ((formC_len hm (by omega)).trans (formC_len hm hk).symm) ((formC_len hm hk).trans (formC_len hm (by omega)).symm) hj' hs)
    · rw [if_neg hs]
      by_cases e : j = k + 1
      · rw [e]; exact hs
      · exact ih j (by omega)

/-- Two maps share a form just where their first forms are the same. -/
theorem least_same {t f t' f' : List Int} (hm : IsMap t f) (hm' : IsMap t' f') (hl : t.length = t'.length) :
    cmpM (formT t f (leastTo t f (t.length - 1))) (formF t f (leastTo t f (t.length - 1))) (formT t' f' (leastTo t' f' (t'.length - 1))) (formF t' f' (leastTo t' f' (t'.length - 1))) = 0 ↔ ∃ y, y < t'.length ∧ formIs t' f' (formT t f 0) (formF t f 0) y := by
  have h1 := hm.turn.1
  have a1 := leastTo_le t f (t.length - 1)
  have a2 := leastTo_le t' f' (t'.length - 1)
  have b1 := formT_len hm (root := leastTo t f (t.length - 1)) (by omega)
  have b2 := formF_len hm (root := leastTo t f (t.length - 1)) (by omega)
  have b3 := formT_len hm' (root := leastTo t' f' (t'.length - 1)) (by omega)
  have b4 := formF_len hm' (root := leastTo t' f' (t'.length - 1)) (by omega)
  constructor
  · intro h
    obtain ⟨e1, e2⟩ := (cmpM_zero (b1.trans (hl.trans b3.symm)) (b2.trans (hl.trans b4.symm))).1 h
    obtain ⟨y, hy, e3, e4⟩ := forms_share hm hm' hl (by omega) (by omega) e1 e2 (x := 0) (by omega)
    exact ⟨y, hy, e3.symm, e4.symm⟩
  · rintro ⟨s, hs, e1, e2⟩
    obtain ⟨y, hy, e3, e4⟩ := forms_share hm hm' hl (r := 0) (by omega) hs e1.symm e2.symm (x := leastTo t f (t.length - 1)) (by omega)
    obtain ⟨x, hx, e5, e6⟩ := forms_share hm' hm hl.symm hs (s := 0) (by omega) e1 e2 (x := leastTo t' f' (t'.length - 1)) (by omega)
    have m1 := least_min hm (t.length - 1) (by omega) x (by omega)
    have m2 := least_min hm' (t'.length - 1) (by omega) y (by omega)
    have c1 : formC t f x = formC t' f' (leastTo t' f' (t'.length - 1)) := by rw [formC, formC, e5, e6]
    have c2 : formC t' f' y = formC t f (leastTo t f (t.length - 1)) := by rw [formC, formC, e3, e4]
    rw [c1] at m1
    rw [c2] at m2
    have hh := cmpL_anti ((formC_len hm (by omega)).trans (by rw [hl]; exact (formC_len hm' (by omega)).symm)) m2 m1
    obtain ⟨e7, e8⟩ := List.append_inj hh (b1.trans (hl.trans b3.symm))
    exact (cmpM_zero (b1.trans (hl.trans b3.symm)) (b2.trans (hl.trans b4.symm))).2 ⟨e7, e8⟩
theorem times_pos {t f bt bf : List Int} : ∀ k, 0 < timesTo t f bt bf k ↔ ∃ y, y < k ∧ formIs t f bt bf y
  | 0 => ⟨fun h => by rw [timesTo] at h; omega, fun ⟨y, hy, _⟩ => by omega⟩
  | k + 1 => by
    by_cases h : formIs t f bt bf k
    · rw [timesTo_yes h]; exact ⟨fun _ => ⟨k, by omega, h⟩, fun _ => by omega⟩
    · rw [timesTo_no h, times_pos k]
      constructor
      · rintro ⟨y, hy, h'⟩; exact ⟨y, by omega, h'⟩
      · rintro ⟨y, hy, h'⟩
        refine ⟨y, ?_, h'⟩
        by_cases e : y = k
        · subst e; exact absurd h' h
        · omega

end Go.Proofs.Ytakckkmhhedfpaa

namespace Go.Proofs.Ytakckkmhhedfpaa
open Go.RowKit

open Classical in
noncomputable def sameR (t f t' f' : List Int) : Bool := decide (mapV t f = true ∧ mapV t' f' = true ∧ t.length = t'.length ∧ ∃ y, y < t'.length ∧ formIs t' f' (formT t f 0) (formF t f 0) y)
open Classical in
theorem sameR_yes {t f t' f' : List Int} (h1 : mapV t f = true) (h2 : mapV t' f' = true) (h3 : t.length = t'.length) (h4 : ∃ y, y < t'.length ∧ formIs t' f' (formT t f 0) (formF t f 0) y) : sameR t f t' f' = true := decide_eq_true ⟨h1, h2, h3, h4⟩
open Classical in
theorem sameR_no {t f t' f' : List Int} (h : ¬ (mapV t f = true ∧ mapV t' f' = true ∧ t.length = t'.length ∧ ∃ y, y < t'.length ∧ formIs t' f' (formT t f 0) (formF t f 0) y)) : sameR t f t' f' = false := decide_eq_false h

end Go.Proofs.Ytakckkmhhedfpaa

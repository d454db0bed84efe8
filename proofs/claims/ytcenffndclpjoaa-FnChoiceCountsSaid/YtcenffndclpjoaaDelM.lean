/-
  Plain: a map without an edge, and one with an edge drawn together: what stays, its names, the ways past.
  The model's words for a map without an edge: past two darts; what stays, renamed.
  EdgeDelete, EdgeContract: the model's.
-/
import Derived.Test.YtcenffndclpjoaaKind
import Derived.Test.YtcenffndclpjoaaAppF
import Derived.Deep.RegionLaw
import Derived.Deep.AppendLies
import Derived.Test.YtcenffndclpjoaaDual
namespace Go.Proofs.Ytcenffndclpjoaa

def stayB (a b d : Nat) : Bool := !(d == a) && !(d == b)
theorem stayB_true {a b d : Nat} (h1 : d ≠ a) (h2 : d ≠ b) : stayB a b d = true := by simp [stayB, h1, h2]
theorem stayB_iff {a b d : Nat} : stayB a b d = true ↔ d ≠ a ∧ d ≠ b := by simp [stayB]
theorem stayB_no {a b d : Nat} (h : stayB a b d = false) : d = a ∨ d = b := by
  by_cases h1 : d = a
  · exact .inl h1
  · by_cases h2 : d = b
    · exact .inr h2
    · rw [stayB_true h1 h2] at h; exact absurd h (by decide)
/-- How many darts below k stay, and which. -/
def kpN (a b : Nat) : Nat → Nat
  | 0 => 0
  | k + 1 => kpN a b k + if stayB a b k = true then 1 else 0
def kpL (a b : Nat) : Nat → List Int
  | 0 => []
  | k + 1 => kpL a b k ++ if stayB a b k = true then [(k : Int)] else []
section
variable {a b : Nat}
theorem kpL_len : ∀ k, (kpL a b k).length = kpN a b k
  | 0 => rfl
  | k + 1 => by rw [kpL, kpN, List.length_append, kpL_len k]; split <;> rfl
theorem kpN_le : ∀ k, kpN a b k ≤ k
  | 0 => Nat.le_refl _
  | k + 1 => by have := kpN_le k; rw [kpN]; split <;> omega
theorem kpN_mono {i j : Nat} (h : i ≤ j) : kpN a b i ≤ kpN a b j := by
  induction h with
  | refl => exact Nat.le_refl _
  | step _ ih => rw [kpN]; omega
theorem kpN_lt {d k : Nat} (h : stayB a b d = true) (hk : d < k) : kpN a b d < kpN a b k := by
  have h1 : kpN a b (d + 1) = kpN a b d + 1 := by rw [kpN, if_pos h]
  have := kpN_mono (a := a) (b := b) (show d + 1 ≤ k by omega)
  omega
theorem kpN_inj {d e : Nat} (hd : stayB a b d = true) (he : stayB a b e = true) (h : kpN a b d = kpN a b e) : d = e := by
  rcases Nat.lt_trichotomy d e with h' | h' | h'
  · have := kpN_lt hd h'; omega
  · exact h'
  · have := kpN_lt he h'; omega
theorem kpL_at {d : Nat} (h : stayB a b d = true) : ∀ {k : Nat}, d < k → gi (kpL a b k) (kpN a b d) = (d : Int)
  | 0, hk => absurd hk (by omega)
  | k + 1, hk => by
    rw [kpL]
    by_cases e : d = k
    · subst e
      rw [if_pos h, ← kpL_len d, gi_append_last]
    · rw [gi_append_left (by rw [kpL_len]; exact kpN_lt h (by omega))]
      exact kpL_at h (by omega)
theorem kpL_find : ∀ {k i : Nat}, i < kpN a b k → ∃ d, d < k ∧ stayB a b d = true ∧ kpN a b d = i
  | 0, i, h => absurd h (by simp [kpN])
  | k + 1, i, h => by
    rw [kpN] at h
    by_cases hlt : i < kpN a b k
    · obtain ⟨d, h1, h2, h3⟩ := kpL_find hlt
      exact ⟨d, by omega, h2, h3⟩
    · by_cases hk : stayB a b k = true
      · rw [if_pos hk] at h
        exact ⟨k, by omega, hk, by omega⟩
      · rw [if_neg hk] at h
        omega
theorem kpN_sm : ∀ k, kpN a b k = sm k fun d => ch (stayB a b d = true)
  | 0 => rfl
  | k + 1 => by
    rw [kpN, sm, kpN_sm k]
    by_cases h : stayB a b k = true
    · rw [if_pos h, ch_true h]
    · rw [if_neg h, ch_false h]
theorem kpN_all {n : Nat} (ha : a < n) (hb : b < n) (hab : a ≠ b) : kpN a b n + 2 = n := by
  have h1 : sm n (fun d => ch (stayB a b d = true)) + (sm n (fun d => ch (d = a)) + sm n (fun d => ch (d = b))) = n := by
    rw [← sm_add, ← sm_add, sm_congr (G := fun _ => 1) n (fun d _ => ?_), sm_const, Nat.mul_one]
    by_cases h1 : d = a
    · rw [ch_true h1, ch_false (P := d = b) (by omega), ch_false (by rw [h1]; simp [stayB])]
    · by_cases h2 : d = b
      · rw [ch_false h1, ch_true h2, ch_false (by rw [h2]; simp [stayB])]
      · rw [ch_false h1, ch_false h2, ch_true (stayB_true h1 h2)]
  rw [sm_one n ha (fun k _ hne => ch_false hne), sm_one n hb (fun k _ hne => ch_false hne), ch_true rfl, ch_true rfl, ← kpN_sm] at h1
  exact h1
end
/-- What the first i darts that stay are led to, by the new names. -/
def outI (a b n : Nat) (g : Nat → Nat) (i : Nat) : List Int := (List.range i).map fun j => (kpN a b (g (gn (kpL a b n) j)) : Int)
theorem outI_len (a b n : Nat) (g : Nat → Nat) (i : Nat) : (outI a b n g i).length = i := by simp [outI]
theorem outI_succ {a b n d : Nat} (g : Nat → Nat) (h : stayB a b d = true) (hd : d < n) : outI a b n g (kpN a b d + 1) = outI a b n g (kpN a b d) ++ [(kpN a b (g d) : Int)] := by
  have e : gn (kpL a b n) (kpN a b d) = d := gn_of (kpL_at h hd)
  simp [outI, List.range_succ, e]
theorem outI_at {a b n d i : Nat} (g : Nat → Nat) (h : stayB a b d = true) (hd : d < n) (hi : kpN a b d < i) : gi (outI a b n g i) (kpN a b d) = (kpN a b (g d) : Int) := by
  have e : gn (kpL a b n) (kpN a b d) = d := gn_of (kpL_at h hd)
  rw [gi_eq (by rw [outI_len]; exact hi)]
  simp [outI, e]
theorem outI_congr {a b n : Nat} {g g' : Nat → Nat} (h : ∀ d, d < n → stayB a b d = true → g d = g' d) : outI a b n g (kpN a b n) = outI a b n g' (kpN a b n) := by
  unfold outI
  refine List.map_congr_left fun j hj => ?_
  obtain ⟨d, h1, h2, h3⟩ := kpL_find (List.mem_range.1 hj)
  have e : gn (kpL a b n) j = d := by rw [← h3]; exact gn_of (kpL_at h2 h1)
  rw [e, h d h1 h2]
/-- The ways past both darts. -/
def pastG (p : List Int) (a b : Nat) : Nat → Nat := gn (retL p (stayB a b))
def delT (t : List Int) (a b : Nat) : List Int := outI a b t.length (pastG t a b) (kpN a b t.length)
def delF (f : List Int) (a b : Nat) : List Int := outI a b f.length (gn f) (kpN a b f.length)
theorem past_first {p : List Int} (hp : Vld p) {a b d : Nat} (hd : d < p.length) (hs : stayB a b d = true) : ∃ k, k < p.length ∧ FirstAt p (stayB a b) (gn p d) k ∧ pastG p a b d = it p k (gn p d) := by
  obtain ⟨k, h1, h2, h3⟩ := gn_ret (c := stayB a b) hp hd hs
  exact ⟨k, h1, h2, by rw [pastG, h3, it_succ']⟩
theorem past_stay {p : List Int} (hp : Vld p) {a b d : Nat} (hd : d < p.length) (hs : stayB a b d = true) : stayB a b (pastG p a b d) = true ∧ pastG p a b d < p.length :=
  ⟨retL_marked hp hd hs, retL_lt hp hd⟩

section
variable {f : List Int} {a b : Nat}
theorem pair_stay (hp : Paired f) (ha : a < f.length) (hb : gn f a = b) {d : Nat} (hd : d < f.length) (hs : stayB a b d = true) : stayB a b (gn f d) = true := by
  obtain ⟨h1, h2⟩ := stayB_iff.1 hs
  refine stayB_true (fun e => ?_) (fun e => ?_)
  · apply h2; rw [← hb, ← e, (hp d hd).2]
  · apply h1
    have h3 := (hp d hd).2
    rw [e, ← hb, (hp a ha).2] at h3
    exact h3.symm
theorem delF_vld (hf : Vld f) (hp : Paired f) (ha : a < f.length) (hb : gn f a = b) (h4 : 3 ≤ f.length) : Vld (delF f a b) ∧ (delF f a b).length = f.length - 2 := by
  have hbl : b < f.length := by rw [← hb]; exact hf.gn_lt ha
  have hab : a ≠ b := by rw [← hb]; exact ((hp a ha).1).symm
  have hk := kpN_all ha hbl hab
  have hl : (delF f a b).length = f.length - 2 := by rw [delF, outI_len]; omega
  have hat : ∀ d, d < f.length → stayB a b d = true → gi (delF f a b) (kpN a b d) = (kpN a b (gn f d) : Int) := fun d hd hs => outI_at _ hs hd (kpN_lt hs hd)
  refine ⟨⟨by rw [hl]; omega, by rw [hl]; have := hf.2.1; omega, fun j hj => ?_, fun j hj i hi => ?_⟩, hl⟩
  · rw [hl] at hj ⊢
    obtain ⟨d, h1, h2, h3⟩ := kpL_find (a := a) (b := b) (k := f.length) (i := j) (by omega)
    rw [← h3, hat d h1 h2]
    have := kpN_lt (pair_stay hp ha hb h1 h2) (hf.gn_lt h1)
    omega
  · rw [hl] at hj
    obtain ⟨d, h1, h2, h3⟩ := kpL_find (a := a) (b := b) (k := f.length) (i := j) (by omega)
    obtain ⟨d', k1, k2, k3⟩ := kpL_find (a := a) (b := b) (k := f.length) (i := i) (by omega)
    rw [← h3, ← k3, hat d h1 h2, hat d' k1 k2]
    intro e
    have e2 := kpN_inj (pair_stay hp ha hb k1 k2) (pair_stay hp ha hb h1 h2) (by omega)
    have := hf.inj k1 h1 e2
    subst this
    omega
/-- Turn with what follows both darts exchanged. -/
def swapL (t : List Int) (a b : Nat) : List Int := (t.set a (gi t b)).set b (gi t a)
theorem swapL_len (t : List Int) (a b : Nat) : (swapL t a b).length = t.length := by simp [swapL]
theorem gi_swapL {t : List Int} {a b : Nat} (ha : a < t.length) (hb : b < t.length) (d : Nat) : gi (swapL t a b) d = if d = b then gi t a else if d = a then gi t b else gi t d := by
  rw [swapL, gi_set _ _ _ _ (by rw [List.length_set]; exact hb), gi_set _ _ _ _ ha]
def swp (a b d : Nat) : Nat := if d = b then a else if d = a then b else d
theorem gn_swapL {t : List Int} {a b : Nat} (ha : a < t.length) (hb : b < t.length) (d : Nat) : gn (swapL t a b) d = gn t (swp a b d) := by
  unfold gn
  rw [gi_swapL ha hb]
  unfold swp
  split
  · rfl
  · split <;> rfl
theorem swapL_vld {t : List Int} (ht : Vld t) {a b : Nat} (ha : a < t.length) (hb : b < t.length) : Vld (swapL t a b) := by
  have hl := swapL_len t a b
  have hsw : ∀ d, d < t.length → swp a b d < t.length := fun d hd => by unfold swp; split <;> (try split) <;> assumption
  have hgi : ∀ d, gi (swapL t a b) d = gi t (swp a b d) := fun d => by rw [gi_swapL ha hb]; unfold swp; split; rfl; split <;> rfl
  refine ⟨by rw [hl]; exact ht.1, by rw [hl]; exact ht.2.1, fun j hj => ?_, fun j hj i hi => ?_⟩
  · rw [hl] at hj ⊢; rw [hgi]; exact ht.2.2.1 _ (hsw j hj)
  · rw [hl] at hj
    rw [hgi, hgi, ht.gi_gn (hsw i (by omega)), ht.gi_gn (hsw j hj)]
    intro e
    have e2 := ht.inj (hsw i (by omega)) (hsw j hj) (by omega)
    unfold swp at e2
    by_cases h1 : i = b <;> by_cases h2 : j = b <;> by_cases h3 : i = a <;> by_cases h4 : j = a <;> simp_all <;> omega
theorem ret_congr {p q : List Int} {c : Nat → Bool} (h : ∀ x, c x = false → gn p x = gn q x) : ∀ (m x : Nat), ret p c m x = ret q c m x
  | 0, _ => rfl
  | m + 1, x => by
    rw [ret, ret]
    by_cases hc : c x = true
    · rw [if_pos hc, if_pos hc]
    · rw [if_neg hc, if_neg hc, h x (by simpa using hc), ret_congr h m]
/-- The map with the edge drawn together. -/
def conT (t : List Int) (a b : Nat) : List Int := outI a b t.length (pastG (swapL t a b) a b) (kpN a b t.length)
/-- The dual of the dual map without the edge is the map with the edge drawn together. -/
theorem con_dual {t f : List Int} (hf : Vld f) (hp : Paired f) (hl : t.length = f.length) {a b : Nat} (ha : a < f.length) (hb : gn f a = b) (h4 : 3 ≤ f.length) : mulL (delF f a b) (delT (mulL f t) a b) = conT t a b := by
  have hbl : b < f.length := by rw [← hb]; exact hf.gn_lt ha
  have hba : gn f b = a := by rw [← hb]; exact (hp a ha).2
  obtain ⟨hv, hvl⟩ := delF_vld hf hp ha hb h4
  have hab : a ≠ b := by rw [← hb]; exact ((hp a ha).1).symm
  have hk := kpN_all ha hbl hab
  have hml : (mulL f t).length = f.length := mulL_len f t
  symm
  refine tab_ext (by rw [conT, outI_len, hvl, hl]; omega) fun j hj => ?_
  rw [hvl] at hj
  obtain ⟨d, h1, h2, h3⟩ := kpL_find (a := a) (b := b) (k := f.length) (i := j) (by omega)
  have hfd := pair_stay hp ha hb h1 h2
  have e1 : gn (delF f a b) j = kpN a b (gn f d) := by rw [← h3]; exact gn_of (outI_at _ h2 h1 (kpN_lt h2 h1))
  rw [e1, delT, hml, outI_at _ hfd (hf.gn_lt h1) (kpN_lt hfd (hf.gn_lt h1)), ← h3, conT, hl, outI_at _ h2 h1 (kpN_lt h2 h1)]
  congr 1
  have hT : ∀ {x : Nat}, x < f.length → gn (mulL f t) x = gn t (gn f x) := fun {x} hx => by
    have : gi (mulL f t) x = gi t (gn f x) := gi_mulL hx
    unfold gn; unfold gn at this; rw [this]
  unfold pastG
  rw [gn_retL (by rw [swapL_len, hl]; exact h1), if_pos h2, gn_retL (by rw [hml]; exact hf.gn_lt h1), if_pos hfd, hT (hf.gn_lt h1), (hp d h1).2]
  have hsd : gn (swapL t a b) d = gn t d := by
    rw [gn_swapL (by rw [hl]; exact ha) (by rw [hl]; exact hbl)]
    obtain ⟨k1, k2⟩ := stayB_iff.1 h2
    rw [swp, if_neg k2, if_neg k1]
  rw [hsd]
  congr 1
  refine ret_congr (fun x hx => ?_) 12 _
  rw [gn_swapL (by rw [hl]; exact ha) (by rw [hl]; exact hbl)]
  rcases stayB_no hx with h | h
  · rw [h, hT ha, hb, swp]
    rw [if_neg hab, if_pos rfl]
  · rw [h, hT hbl, hba, swp, if_pos rfl]
end

end Go.Proofs.Ytcenffndclpjoaa

namespace Go.Proofs.Ytcenffndclpjoaa
open Go.RowKit

/-- The names of the darts. -/
def nmL (a b n : Nat) : List Int := tab n fun d => (kpN a b d : Int)
def nmP (a b n k : Nat) : List Int := tab n fun d => if d < k then (kpN a b d : Int) else 0
theorem nmP_len (a b n k : Nat) : (nmP a b n k).length = n := tab_len _ _
theorem nmP_zero (a b n : Nat) : List.replicate n 0 = nmP a b n 0 := tab_ext (by simp) fun j hj => by rw [if_neg (by omega), gi_eq (by simpa using hj)]; simp
theorem nmP_all (a b n : Nat) : nmP a b n n = nmL a b n := tab_ext (nmP_len _ _ _ _) fun j hj => by rw [nmP, gi_tab hj, if_pos hj]
theorem nmP_set {a b n k : Nat} (hk : k < n) : (nmP a b n k).set k (kpN a b k : Int) = nmP a b n (k + 1) := by
  refine tab_ext (by simp [nmP_len]) fun j hj => ?_
  rw [gi_set _ _ _ _ (by rw [nmP_len]; exact hk)]
  by_cases h : j = k
  · rw [if_pos h, h, if_pos (by omega)]
  · rw [if_neg h, nmP, gi_tab hj]
    by_cases h1 : j < k
    · rw [if_pos h1, if_pos (by omega)]
    · rw [if_neg h1, if_neg (by omega)]

end Go.Proofs.Ytcenffndclpjoaa

namespace Go.Proofs.Ytcenffndclpjoaa
open Go.RowKit

/-- Turn with the ways past both darts, for the first k darts. -/
def pstP (src : List Int) (a b k : Nat) : List Int := tab src.length fun d => if d < k ∧ stayB a b d = true then (pastG src a b d : Int) else gi src d
theorem pstP_len (src : List Int) (a b k : Nat) : (pstP src a b k).length = src.length := tab_len _ _
theorem pstP_zero (src : List Int) (a b : Nat) : src = pstP src a b 0 := tab_ext rfl fun j hj => by rw [if_neg (fun h => by omega)]
theorem pstP_no {src : List Int} {a b k : Nat} (h : stayB a b k = false) : pstP src a b (k + 1) = pstP src a b k := by
  unfold pstP
  congr 1
  funext d
  by_cases hd : d = k
  · rw [if_neg (fun h' => by rw [hd, h] at h'; exact absurd h'.2 (by decide)), if_neg (fun h' => by omega)]
  · have : (d < k + 1 ∧ stayB a b d = true) ↔ (d < k ∧ stayB a b d = true) := ⟨fun h' => ⟨by omega, h'.2⟩, fun h' => ⟨by omega, h'.2⟩⟩
    simp only [this]
theorem pstP_yes {src : List Int} {a b k : Nat} (h : stayB a b k = true) (hk : k < src.length) : (pstP src a b k).set k (pastG src a b k : Int) = pstP src a b (k + 1) := by
  refine tab_ext (by simp [pstP_len]) fun j hj => ?_
  rw [gi_set _ _ _ _ (by rw [pstP_len]; exact hk)]
  by_cases h1 : j = k
  · rw [if_pos h1, h1, if_pos ⟨by omega, h⟩]
  · rw [if_neg h1, pstP, gi_tab hj]
    have : (j < k + 1 ∧ stayB a b j = true) ↔ (j < k ∧ stayB a b j = true) := ⟨fun h' => ⟨by omega, h'.2⟩, fun h' => ⟨by omega, h'.2⟩⟩
    simp only [this]
theorem pstP_into {src : List Int} (hs : Vld src) (a b k : Nat) : Into (pstP src a b k) src.length := fun j hj => by
  rw [pstP_len] at hj
  rw [pstP, gi_tab hj]
  split
  · rename_i h
    have := (past_stay hs hj h.2).2
    omega
  · exact hs.2.2.1 j hj
theorem pstP_out {src : List Int} {a b n : Nat} (hn : src.length = n) : outI a b n (gn (pstP src a b n)) (kpN a b n) = outI a b n (pastG src a b) (kpN a b n) := by
  refine outI_congr fun d hd hs => ?_
  exact gn_of (by rw [pstP, gi_tab (by rw [hn]; exact hd), if_pos ⟨hd, hs⟩])

theorem kd_pos {t f : List Int} {x : Int} (h : 0 ≤ kdR t f x) : mapV t f = true ∧ hasEB (f.length / 2) x = true := by
  unfold kdR at h
  split at h
  · rename_i hh; exact hh
  · omega
noncomputable def aE (f : List Int) (x : Int) : Nat := dE f x.toNat
noncomputable def dlR (t f : List Int) (x : Int) : Bool × List Int × List Int :=
  if 0 ≤ kdR t f x ∧ kdR t f x ≠ 1 ∧ t.length ≠ 2 then (true, delT t (aE f x) (gn f (aE f x)), delF f (aE f x) (gn f (aE f x))) else (false, [], [])
noncomputable def cnR (t f : List Int) (x : Int) : Bool × List Int × List Int :=
  if 0 ≤ kdR t f x ∧ kdR t f x ≠ 2 ∧ t.length ≠ 2 then (true, conT t (aE f x) (gn f (aE f x)), delF f (aE f x) (gn f (aE f x))) else (false, [], [])
theorem dlR_len {t f yt yf : List Int} {x : Int} {ok : Bool} (h : dlR t f x = (ok, yt, yf)) : yt.length ≤ 12 ∧ yf.length ≤ 12 := by
  unfold dlR at h
  split at h
  · rename_i hb
    have hm := mapV_iff.1 (kd_pos hb.1).1
    injection h with _ h; injection h with h1 h2
    rw [← h1, ← h2, delT, delF, outI_len, outI_len]
    have := kpN_le (a := aE f x) (b := gn f (aE f x)) t.length
    have := kpN_le (a := aE f x) (b := gn f (aE f x)) f.length
    have := hm.turn.2.1; have := hm.flip.2.1
    omega
  · injection h with _ h; injection h with h1 h2; rw [← h1, ← h2]; simp
theorem cnR_len {t f yt yf : List Int} {x : Int} {ok : Bool} (h : cnR t f x = (ok, yt, yf)) : yt.length ≤ 12 ∧ yf.length ≤ 12 := by
  unfold cnR at h
  split at h
  · rename_i hb
    have hm := mapV_iff.1 (kd_pos hb.1).1
    injection h with _ h; injection h with h1 h2
    rw [← h1, ← h2, conT, delF, outI_len, outI_len]
    have := kpN_le (a := aE f x) (b := gn f (aE f x)) t.length
    have := kpN_le (a := aE f x) (b := gn f (aE f x)) f.length
    have := hm.turn.2.1; have := hm.flip.2.1
    omega
  · injection h with _ h; injection h with h1 h2; rw [← h1, ← h2]; simp

end Go.Proofs.Ytcenffndclpjoaa

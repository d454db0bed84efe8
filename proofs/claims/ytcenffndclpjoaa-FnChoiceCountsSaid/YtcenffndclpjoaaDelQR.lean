/-
  Plain: a map without an edge that is no bridge is a map, and its vertices stay as many.
  Plain: a map with an edge drawn together: a vertex less, the faces as many.
-/
import Derived.Test.YtcenffndclpjoaaDelM
import Derived.Test.YtcenffndclpjoaaCls
import Derived.Test.YtcenffndclpjoaaPar3
namespace Go.Proofs.Ytcenffndclpjoaa

/-- A permutation past both darts, by the new names. -/
def cutL (p : List Int) (a b : Nat) : List Int := outI a b p.length (pastG p a b) (kpN a b p.length)
section
variable {p : List Int} {a b : Nat}
theorem cutL_at (_hp : Vld p) {d : Nat} (hd : d < p.length) (hs : stayB a b d = true) : gn (cutL p a b) (kpN a b d) = kpN a b (pastG p a b d) := gn_of (outI_at _ hs hd (kpN_lt hs hd))
theorem cutL_len : (cutL p a b).length = kpN a b p.length := outI_len _ _ _ _ _
theorem cutL_vld (hp : Vld p) (ha : a < p.length) (hb : b < p.length) (hab : a ≠ b) (h3 : 3 ≤ p.length) : Vld (cutL p a b) := by
  have hk := kpN_all ha hb hab
  have hl := cutL_len (p := p) (a := a) (b := b)
  have hr := retL_vld (c := stayB a b) hp
  refine ⟨by rw [hl]; omega, by rw [hl]; have := hp.2.1; omega, fun j hj => ?_, fun j hj i hi => ?_⟩
  · rw [hl] at hj ⊢
    obtain ⟨d, h1, h2, h3⟩ := kpL_find hj
    rw [← h3, cutL, outI_at _ h2 h1 (kpN_lt h2 h1)]
    obtain ⟨k1, k2⟩ := past_stay hp h1 h2
    have := kpN_lt k1 k2
    omega
  · rw [hl] at hj
    obtain ⟨d, h1, h2, h3⟩ := kpL_find hj
    obtain ⟨d', k1, k2, k3⟩ := kpL_find (show i < kpN a b p.length by omega)
    rw [← h3, ← k3, cutL, outI_at _ h2 h1 (kpN_lt h2 h1), outI_at _ k2 k1 (kpN_lt k2 k1)]
    intro e
    have e2 := kpN_inj (past_stay hp k1 k2).1 (past_stay hp h1 h2).1 (by omega)
    have e3 := hr.inj (by rw [retL_len]; exact k1) (by rw [retL_len]; exact h1) e2
    subst e3; omega
theorem sm_keep (F : Nat → Nat) : ∀ n, sm n (fun d => if stayB a b d = true then F (kpN a b d) else 0) = sm (kpN a b n) F
  | 0 => rfl
  | n + 1 => by
    rw [sm, sm_keep F n, kpN]
    by_cases h : stayB a b n = true
    · rw [if_pos h, if_pos h, sm]
    · rw [if_neg h, if_neg h, Nat.add_zero, Nat.add_zero]
theorem cutL_it (hp : Vld p) {d : Nat} (hd : d < p.length) (hs : stayB a b d = true) : ∀ k, it (cutL p a b) k (kpN a b d) = kpN a b (it (retL p (stayB a b)) k d)
  | 0 => rfl
  | k + 1 => by
    obtain ⟨h1, h2, -⟩ := ret_reach hp hd hs k
    rw [it, cutL_it hp hd hs k, cutL_at hp h2 h1, it]; rfl
theorem kpN_le_iff {d e : Nat} (_hd : stayB a b d = true) (he : stayB a b e = true) : kpN a b d ≤ kpN a b e ↔ d ≤ e := by
  refine ⟨fun h => ?_, fun h => kpN_mono h⟩
  rcases Nat.lt_or_ge e d with h' | h'
  · have := kpN_lt he h'; omega
  · exact h'
theorem away_two (ha : a < p.length) (hb : b < p.length) (hab : a ≠ b) : sm p.length (fun d => ch (stayB a b d = false)) = 2 := by
  have hk := kpN_all ha hb hab
  have h1 : sm p.length (fun d => ch (stayB a b d = true)) + sm p.length (fun d => ch (stayB a b d = false)) = p.length := by
    rw [← sm_add, sm_congr (G := fun _ => 1) p.length (fun d _ => ?_), sm_const, Nat.mul_one]
    cases stayB a b d <;> simp [ch]
  rw [← kpN_sm] at h1
  omega
theorem cutL_cycles (hp : Vld p) (ha : a < p.length) (hb : b < p.length) (hab : a ≠ b) (h3 : 3 ≤ p.length) : (cyclesL (cutL p a b)).length + 2 = (cyclesL (retL p (stayB a b))).length := by
  have h2 := away_two ha hb hab
  rw [← lows_cycles (cutL_vld hp ha hb hab h3), ← lows_cycles (retL_vld (c := stayB a b) hp), retL_len, cutL_len]
  unfold lows
  rw [← sm_keep (a := a) (b := b), ← h2, ← sm_add]
  refine sm_congr _ fun i hi => ?_
  cases hs : stayB a b i with
  | true =>
    rw [if_pos rfl, ch_false (P := true = false) (by decide), Nat.add_zero]
    refine ch_congr ⟨fun h k => ?_, fun h k => ?_⟩
    · have := h k
      rw [← it_itf, cutL_it hp hi hs k] at this
      rw [← it_itf]
      exact (kpN_le_iff hs (ret_reach hp hi hs k).1).1 this
    · have := h k
      rw [← it_itf] at this
      rw [← it_itf, cutL_it hp hi hs k]
      exact (kpN_le_iff hs (ret_reach hp hi hs k).1).2 this
  | false =>
    rw [if_neg (by decide), ch_true rfl, ch_true, Nat.zero_add]
    intro k
    have : ∀ k, itf (gn (retL p (stayB a b))) k i = i := by
      intro k
      induction k with
      | zero => rfl
      | succ k ih => rw [itf, ih, gn_retL hi, if_neg (by rw [hs]; decide)]
    rw [this k]; exact Nat.le_refl _
theorem cut_cycles (hp : Vld p) (ha : a < p.length) (hb : b < p.length) (hab : a ≠ b) (h3 : 3 ≤ p.length) (hbare : ∀ i, i < p.length → ¬ BareAt p (stayB a b) i) : (cyclesL (cutL p a b)).length = (cyclesL p).length := by
  have h1 := cutL_cycles hp ha hb hab h3
  have h2 := away_two ha hb hab
  have h4 := ret_cycles (c := stayB a b) hp
  rw [h2, sm_congr (F := fun i => ch (BareAt p (stayB a b) i)) (G := fun _ => 0) p.length (fun i hi => ch_false (hbare i hi)), sm_zero] at h4
  omega
theorem first_unique {c : Nat → Bool} {x k q : Nat} (h : FirstAt p c x k) (h' : FirstAt p c x q) : k = q := by
  rcases Nat.lt_trichotomy k q with e | e | e
  · have := h'.2 k e; rw [h.1] at this; exact absurd this (by decide)
  · exact e
  · have := h.2 q e; rw [h'.1] at this; exact absurd this (by decide)
theorem some_stay (h3 : 3 ≤ p.length) : ∃ d, d < p.length ∧ stayB a b d = true := by
  by_cases h0 : stayB a b 0 = true
  · exact ⟨0, by omega, h0⟩
  by_cases h1 : stayB a b 1 = true
  · exact ⟨1, by omega, h1⟩
  have e0 := stayB_no (by simpa using h0 : stayB a b 0 = false)
  have e1 := stayB_no (by simpa using h1 : stayB a b 1 = false)
  exact ⟨2, by omega, stayB_true (by omega) (by omega)⟩
end
/-- What stays is whole if all is one with no step between both darts. -/
theorem cut_map {p f q : List Int} {a b x0 : Nat} (hp : Vld p) (hf : Vld f) (hpr : Paired f) (hl : p.length = f.length) (hq : Vld q) (hlq : p.length = q.length)
    (hqe : ∀ y, y < f.length → gn q y = if stayB a b y = true then gn f y else y) (ha : a < f.length) (hb : gn f a = b) (h3 : 3 ≤ f.length)
    (hx0 : x0 < p.length) (h : ∀ y, y < p.length → Lead p q x0 y) : IsMap (cutL p a b) (delF f a b) ∧ (cyclesL (cutL p a b)).length = (cyclesL p).length := by
  have hbl : b < f.length := by rw [← hb]; exact hf.gn_lt ha
  have hab : a ≠ b := by rw [← hb]; exact ((hpr a ha).1).symm
  have hk := kpN_all ha hbl hab
  have hap : a < p.length := by omega
  have hbp : b < p.length := by omega
  have hcv := cutL_vld hp hap hbp hab (by omega)
  have hcl := cutL_len (p := p) (a := a) (b := b)
  obtain ⟨hfv, hfl⟩ := delF_vld hf hpr ha hb h3
  obtain ⟨d0, hd0, hs0⟩ := some_stay (a := a) (b := b) (show 3 ≤ p.length by omega)
  have hall : ∀ x y, x < p.length → y < p.length → Lead p q x y := fun x y hx hy => ((h x hx).sym hp hq hlq hx0).trans (h y hy)
  have hfat : ∀ {d}, d < f.length → stayB a b d = true → gn (delF f a b) (kpN a b d) = kpN a b (gn f d) := fun {d} hd hs => gn_of (outI_at _ hs hd (kpN_lt hs hd))
  have hll : (cutL p a b).length = (delF f a b).length := by rw [hcl, hfl, hl]; omega
  have hzero : ∀ {y k}, stayB a b y = true → FirstAt p (stayB a b) y k → k = 0 := fun {y k} hy hF => by
    rcases Nat.eq_zero_or_pos k with e | e
    · exact e
    · have := hF.2 0 e; rw [it, hy] at this; exact absurd this (by decide)
  have key : ∀ y, Lead p q d0 y → y < p.length ∧ ∀ k, FirstAt p (stayB a b) y k → Lead (cutL p a b) (delF f a b) (kpN a b d0) (kpN a b (it p k y)) := by
    intro y hy
    induction hy with
    | refl => exact ⟨hd0, fun k hF => by rw [hzero hs0 hF, it]; exact .refl _⟩
    | @one y h' ih =>
      obtain ⟨hlt, ih⟩ := ih
      refine ⟨hp.gn_lt hlt, fun k hF => ?_⟩
      cases hy : stayB a b y with
      | true =>
        have h0 := ih 0 ⟨hy, fun j hj => absurd hj (by omega)⟩
        obtain ⟨k', -, hF', e⟩ := past_first hp hlt hy
        rw [first_unique hF hF', ← e, ← cutL_at hp hlt hy]
        exact .one h0
      | false =>
        have := ih (k + 1) ⟨by rw [it_succ']; exact hF.1, fun j hj => by
          cases j with
          | zero => exact hy
          | succ j => rw [it_succ']; exact hF.2 j (by omega)⟩
        rwa [it_succ'] at this
    | @two y h' ih =>
      obtain ⟨hlt, ih⟩ := ih
      have hlf : y < f.length := by omega
      have e := hqe y hlf
      refine ⟨by rw [hlq]; exact hq.gn_lt (by omega), fun k hF => ?_⟩
      cases hy : stayB a b y with
      | true =>
        rw [hy, if_pos rfl] at e
        rw [e] at hF ⊢
        have h0 := ih 0 ⟨hy, fun j hj => absurd hj (by omega)⟩
        rw [hzero (pair_stay hpr ha hb hlf hy) hF, it, ← hfat hlf hy]
        exact .two h0
      | false =>
        rw [hy, if_neg (by decide)] at e
        rw [e] at hF ⊢
        exact ih k hF
  have hlead : ∀ j, j < (cutL p a b).length → Lead (cutL p a b) (delF f a b) (kpN a b d0) j := fun j hj => by
    rw [hcl] at hj
    obtain ⟨d, h1, h2, h3⟩ := kpL_find hj
    have := (key d (hall d0 d hd0 h1)).2 0 ⟨h2, fun j hj => absurd hj (by omega)⟩
    rwa [it, h3] at this
  have hk0 : kpN a b d0 < (cutL p a b).length := by rw [hcl]; exact kpN_lt hs0 hd0
  refine ⟨⟨hcv, hfv, hll, fun j hj => ?_, whole_of_lead fun j hj => ?_⟩, ?_⟩
  · rw [hfl] at hj
    obtain ⟨d, h1, h2, h3⟩ := kpL_find (a := a) (b := b) (k := f.length) (i := j) (by omega)
    have hs := pair_stay hpr ha hb h1 h2
    rw [← h3, hfat h1 h2, hfat (hf.gn_lt h1) hs, (hpr d h1).2]
    exact ⟨fun e => (hpr d h1).1 (kpN_inj hs h2 e), rfl⟩
  · exact ((hlead 0 hcv.1).sym hcv hfv hll hk0).trans (hlead j hj)
  · refine cut_cycles hp hap hbp hab (by omega) fun i hi hbare => ?_
    have : ∀ y, Lead p q i y → ∃ k, y = it p k i := by
      intro y hy
      induction hy with
      | refl => exact ⟨0, rfl⟩
      | @one y h' ih =>
        obtain ⟨k, rfl⟩ := ih
        exact ⟨k + 1, rfl⟩
      | @two y h' ih =>
        obtain ⟨k, rfl⟩ := ih
        refine ⟨k, ?_⟩
        rw [hqe _ (by rw [← hl]; exact it_lt hp k hi), hbare.2 k, if_neg (by decide)]
    obtain ⟨k, e⟩ := this d0 (hall i d0 hi hd0)
    have := hbare.2 k
    rw [← e, hs0] at this
    exact absurd this (by decide)

/-- All is reached from a dart without its edge, if what Turn and Flip led to from both is. -/
theorem lead_over {t f p q : List Int} {a b : Nat} (hm : IsMap t f) (hqe : ∀ y, y < f.length → gn q y = if stayB a b y = true then gn f y else y) (ha : a < f.length) (hb : gn f a = b)
    (hpe : ∀ y, y < f.length → stayB a b y = true → gn p y = gn t y) (h1 : Lead p q a b) (h2 : Lead p q a (gn t a)) (h3 : Lead p q a (gn t b)) : ∀ y, y < t.length → Lead p q a y := by
  intro y hy
  have hat : a < t.length := by rw [hm.len]; exact ha
  have := hm.lead hat hy
  have hba : gn f b = a := by rw [← hb]; exact (hm.paired a ha).2
  clear hy
  induction this with
  | refl => exact .refl _
  | @one y h' ih =>
    have hlt : y < f.length := by rw [← hm.len]; exact h'.lt hm.turn hm.flip hm.len hat
    cases hs : stayB a b y with
    | true => rw [← hpe y hlt hs]; exact .one ih
    | false => rcases stayB_no hs with e | e <;> rw [e] <;> assumption
  | @two y h' ih =>
    have hlt : y < f.length := by rw [← hm.len]; exact h'.lt hm.turn hm.flip hm.len hat
    cases hs : stayB a b y with
    | true => have := Lead.two ih; rwa [hqe y hlt, hs, if_pos rfl] at this
    | false =>
      rcases stayB_no hs with e | e <;> rw [e]
      · rw [hb]; exact h1
      · rw [hba]; exact .refl _

/-! ### All edges but one -/
theorem but_gn {t f : List Int} (hm : IsMap t f) {e : Nat} (he : e < f.length / 2) : ∀ y, y < f.length → gn (flipS f (butE (f.length / 2) e)) y = if stayB (dE f e) (gn f (dE f e)) y = true then gn f y else y := by
  intro y hy
  obtain ⟨d1, d2, d3, -⟩ := dE_of hm.flip hm.paired he
  have h12 := hm.flip.2.1
  have hh : lesN f f.length = f.length / 2 := by have := lesN_half hm.flip hm.paired; omega
  have hlt := edgN_lt hm.flip hm.paired hy
  have e0 : edgN f (dE f e) = e := by rw [edgN_less d2, d3]
  rw [hh] at hlt
  rw [gn_flipS hy]
  have hc : chB f (butE (f.length / 2) e) y = stayB (dE f e) (gn f (dE f e)) y := by
    unfold chB
    rw [(but_in (f.length / 2) (by omega) e he).2.2.2.2.1 _ (by omega)]
    by_cases h : edgN f y = e
    · have hy' := edgN_inj hm.flip hm.paired d1 hy (by rw [e0, h])
      have : stayB (dE f e) (gn f (dE f e)) y = false := by
        cases hs : stayB (dE f e) (gn f (dE f e)) y with
        | false => rfl
        | true => obtain ⟨k1, k2⟩ := stayB_iff.1 hs; rcases hy' with h' | h' <;> omega
      rw [this]; simp [h]
    · have : stayB (dE f e) (gn f (dE f e)) y = true := by
        refine stayB_true (fun h' => h (by rw [h', e0])) (fun h' => h (by rw [h', edgN_flip hm.paired d1, e0]))
      rw [this]; simp [h, hlt]
  rw [hc]
theorem two_ones {n : Nat} {P : Nat → Prop} {i j : Nat} (h : sm n (fun k => ch (P k)) = 1) (hi : i < n) (hj : j < n) (hPi : P i) (hPj : P j) : i = j := by
  by_cases e : i = j
  · exact e
  · have h1 : sm n (fun k => ch (k = i) + ch (k = j)) ≤ sm n (fun k => ch (P k)) := by
      refine sm_le n fun k _ => ?_
      by_cases h1 : k = i
      · rw [ch_true h1, ch_false (by omega), h1, ch_true hPi]; exact Nat.le_refl _
      · by_cases h2 : k = j
        · rw [ch_false h1, ch_true h2, h2, ch_true hPj]; exact Nat.le_refl _
        · rw [ch_false h1, ch_false h2]; exact Nat.zero_le _
    rw [sm_add, sm_one n hi (fun k _ hne => ch_false hne), sm_one n hj (fun k _ hne => ch_false hne), ch_true rfl, ch_true rfl] at h1
    omega
theorem part_one {t q : List Int} (ht : Vld t) (hq : Vld q) (hl : t.length = q.length) (h : fixN (orbL t q) t.length = 1) : ∀ y, y < t.length → Lead t q 0 y := by
  intro y hy
  rw [fixN_sm] at h
  have h0 := orb_orb ht hq hl hy
  have hlt : orb t q y < t.length := Nat.lt_of_le_of_lt orb_le hy
  have hz : orb t q 0 = 0 := by have := orb_le (p := t) (q := q) (x := 0); omega
  have e := two_ones (i := orb t q y) (j := 0) h hlt ht.1 (by rw [gi_orbL hlt, h0]) (by rw [gi_orbL ht.1, hz])
  have := orb_lead (p := t) (q := q) (x := y)
  rwa [e] at this
theorem vert_lead {t q : List Int} (ht : Vld t) {d z : Nat} (hd : d < t.length) (hz : z < t.length) (h : vertN t d = vertN t z) : Lead t q d z := by
  obtain ⟨h1, h2, h3⟩ := cyclesL_spec ht
  have hv : ∀ d, d < t.length → vertN t d < (cyclesL t).length ∧ inC ((cyclesL t).getD (vertN t d) []) d := fun d hd => by
    obtain ⟨c, hc, hcd⟩ := h2 d hd
    obtain ⟨j, hj, rfl⟩ := List.getElem_of_mem hc
    have hgd : (cyclesL t).getD j [] = (cyclesL t)[j] := by simp [List.getD, hj]
    exact (leastOf_spec (p := fun j => j < (cyclesL t).length ∧ inC ((cyclesL t).getD j []) d) ⟨j, hj, by rw [hgd]; exact hcd⟩).1
  obtain ⟨k1, i, hi, ei⟩ := hv d hd
  obtain ⟨k2, j, hj, ej⟩ := hv z hz
  rw [← h] at hj ej
  have hc := h1 _ (getD_mem k1)
  obtain ⟨k, hk⟩ := hc.reach hi hj
  rw [ei, ej] at hk
  rw [← hk]
  clear hk
  induction k with
  | zero => exact .refl _
  | succ k ih => exact .one ih
/-- A map without an edge that is no bridge. -/
theorem del_map {t f : List Int} (hm : IsMap t f) {e : Nat} (he : e < f.length / 2) (h3 : 3 ≤ f.length) (hk : kindE t f e ≠ 1) : IsMap (delT t (dE f e) (gn f (dE f e))) (delF f (dE f e) (gn f (dE f e))) ∧ (cyclesL (delT t (dE f e) (gn f (dE f e)))).length = (cyclesL t).length := by
  obtain ⟨d1, d2, d3, -⟩ := dE_of hm.flip hm.paired he
  have hqv := flipS_vld hm.flip hm.paired (butE (f.length / 2) e)
  have hql : t.length = (flipS f (butE (f.length / 2) e)).length := by rw [flipS_len, hm.len]
  have hqe := but_gn hm he
  have hat : dE f e < t.length := by rw [hm.len]; exact d1
  have hbt : gn f (dE f e) < t.length := by rw [hm.len]; exact hm.flip.gn_lt d1
  unfold kindE at hk
  split at hk
  · rename_i hv
    have hl : Lead t (flipS f (butE (f.length / 2) e)) (dE f e) (gn f (dE f e)) := vert_lead hm.turn hat hbt hv
    exact cut_map hm.turn hm.flip hm.paired hm.len hqv hql hqe d1 rfl h3 hat (lead_over hm hqe d1 rfl (fun _ _ _ => rfl) hl (.one (.refl _)) (.one hl))
  · rcases but_parts hm he with h1 | h2
    · exact cut_map hm.turn hm.flip hm.paired hm.len hqv hql hqe d1 rfl h3 hm.turn.1 (part_one hm.turn hqv hql h1)
    · rw [h2] at hk; exact absurd rfl hk

end Go.Proofs.Ytcenffndclpjoaa

namespace Go.Proofs.Ytcenffndclpjoaa

theorem itf_gn (p : List Int) (k x : Nat) : itf (gn p) k x = it p k x := (it_itf p k x).symm
theorem vert_it {t : List Int} (ht : Vld t) {d m : Nat} (hd : d < t.length) : vertN t (it t m d) = vertN t d := by
  obtain ⟨h1, h2, h3⟩ := cyclesL_spec ht
  have key : ∀ {x k j : Nat}, j < (cyclesL t).length → inC ((cyclesL t).getD j []) x → inC ((cyclesL t).getD j []) (it t k x) := fun {x k j} hj hi => by
    obtain ⟨i, hi, rfl⟩ := hi
    have hc := h1 _ (getD_mem hj)
    exact ⟨_, Nat.mod_lt _ hc.pos, (hc.it k hi).symm⟩
  obtain ⟨q, hq⟩ : ∃ q, it t q (it t m d) = d := by
    obtain ⟨c, hc, i, hi, rfl⟩ := h2 d hd
    have hc := h1 _ hc
    rw [hc.it m hi]
    exact hc.reach (Nat.mod_lt _ hc.pos) hi
  have : (fun j => j < (cyclesL t).length ∧ inC ((cyclesL t).getD j []) (it t m d)) = fun j => j < (cyclesL t).length ∧ inC ((cyclesL t).getD j []) d := by
    funext j
    refine propext ⟨fun h => ⟨h.1, ?_⟩, fun h => ⟨h.1, key h.1 h.2⟩⟩
    have := key (k := q) h.1 h.2
    rwa [hq] at this
  unfold vertN
  rw [this]
theorem lead_it {p q : List Int} (x : Nat) : ∀ k, Lead p q x (it p k x)
  | 0 => .refl _
  | k + 1 => .one (lead_it x k)
theorem lead_into {p q r : List Int} {n : Nat} (hp : ∀ y, y < n → gn p y = gn r (gn q y)) {x : Nat} (hlt : ∀ y, Lead p q x y → y < n) {y : Nat} (h : Lead p q x y) : Lead r q x y := by
  induction h with
  | refl => exact .refl _
  | @one y h' ih => rw [hp y (hlt y h')]; exact .one (.two ih)
  | @two y h' ih => exact .two ih

section
variable {t : List Int} {a b : Nat}
/-- Both vertices are one, where what follows both darts is exchanged. -/
theorem swap_meet (ht : Vld t) (ha : a < t.length) (hb : b < t.length) (hv : vertN t a ≠ vertN t b) : ∃ k, it (swapL t a b) k a = b := by
  have hab : a ≠ b := fun e => hv (by rw [e])
  obtain ⟨k0, -, hk0⟩ := back_in ht hb
  obtain ⟨k, -, hf⟩ := first_of (p := t) (c := fun x => decide (x = b)) (x := gn t b) (k := k0) (by simp [hk0])
  have hkb : it t k (gn t b) = b := by simpa using hf.1
  have key : ∀ j, j ≤ k → it (swapL t a b) (j + 1) a = it t j (gn t b) := by
    intro j
    induction j with
    | zero =>
      intro _
      show gn (swapL t a b) a = gn t b
      rw [gn_swapL ha hb, swp, if_neg hab, if_pos rfl]
    | succ j ih =>
      intro hj
      have e := ih (by omega)
      have n1 : it t j (gn t b) ≠ b := by simpa using hf.2 j (by omega)
      have n2 : it t j (gn t b) ≠ a := fun h => by
        have := vert_it ht (d := b) (m := j + 1) hb
        rw [it_succ', h] at this
        exact hv this
      rw [it, e, gn_swapL ha hb, swp, if_neg n1, if_neg n2]
      rfl
  exact ⟨k + 1, (key k (Nat.le_refl _)).trans hkb⟩
theorem swap_cycles (ht : Vld t) (ha : a < t.length) (hb : b < t.length) (hv : vertN t a ≠ vertN t b) : (cyclesL (swapL t a b)).length + 1 = (cyclesL t).length := by
  have hab : a ≠ b := fun e => hv (by rw [e])
  have hs := swapL_vld ht ha hb
  have hn : ¬ Rch (gn t) a b := fun ⟨k, hk⟩ => by
    rw [itf_gn] at hk
    have := vert_it ht (d := a) (m := k) ha
    rw [hk] at this
    exact hv this.symm
  have e : gn (swapL t a b) = fun x => gn t (sw a b x) := by
    funext x
    rw [gn_swapL ha hb, swp, sw]
    by_cases h1 : x = a
    · rw [if_pos h1, if_neg (by omega), if_pos h1]
    · rw [if_neg h1, if_neg h1]
  have g1 := cls_sw_lt ht.prm ha hb hn
  have g2 := cls_sw_ge (a := a) (b := b) ht.prm ha hb
  rw [← lows_cycles hs, ← lows_cycles ht, lows_cls hs.prm, lows_cls ht.prm, swapL_len, e]
  omega
end

theorem one_part {t q : List Int} (ht : Vld t) (hq : Vld q) (hl : t.length = q.length) {x0 : Nat} (hx : x0 < t.length) (h : ∀ y, y < t.length → Lead t q x0 y) : fixN (orbL t q) t.length = 1 := by
  have h0 : ∀ y, y < t.length → orb t q y = 0 := fun y hy => by
    have := orb_least (((h 0 ht.1).sym ht hq hl hx).trans (h y hy)); omega
  rw [fixN_sm, sm_one (i0 := 0) t.length ht.1 (fun k hk hne => ch_false (by rw [gi_orbL hk, h0 k hk]; omega)), ch_true (by rw [gi_orbL ht.1, h0 0 ht.1])]
/-- A map with an edge drawn together that is no loop. -/
theorem con_map {t f : List Int} (hm : IsMap t f) {e : Nat} (he : e < f.length / 2) (h3 : 3 ≤ f.length) {a b : Nat} (ha : dE f e = a) (hb : gn f a = b) (hv : vertN t a ≠ vertN t b) :
    IsMap (conT t a b) (delF f a b) ∧ (cyclesL (conT t a b)).length + 1 = (cyclesL t).length ∧ mulL (delF f a b) (conT t a b) = delT (mulL f t) a b ∧ (cyclesL (delT (mulL f t) a b)).length = (cyclesL (mulL f t)).length ∧ kindE (mulL f t) f e ≠ 1 ∧ 0 ≤ kindE (mulL f t) f e := by
  subst ha
  obtain ⟨d1, d2, d3, -⟩ := dE_of hm.flip hm.paired he
  have hqv := flipS_vld hm.flip hm.paired (butE (f.length / 2) e)
  have hqe := but_gn hm he
  rw [hb] at hqe
  generalize hqq : flipS f (butE (f.length / 2) e) = q at hqv hqe
  have hql : t.length = q.length := by rw [← hqq, flipS_len, hm.len]
  generalize hda : dE f e = a at d1 d2 d3 hb hv hqe ⊢
  have hat : a < t.length := by rw [hm.len]; exact d1
  have hbl : b < f.length := by rw [← hb]; exact hm.flip.gn_lt d1
  have hbt : b < t.length := by rw [hm.len]; exact hbl
  have hba : gn f b = a := by rw [← hb]; exact (hm.paired a d1).2
  have hab : a ≠ b := fun e => hv (by rw [e])
  have hs := swapL_vld hm.turn hat hbt
  have hsl := swapL_len t a b
  have pa : gn (swapL t a b) a = gn t b := by rw [gn_swapL hat hbt, swp, if_neg hab, if_pos rfl]
  have pb : gn (swapL t a b) b = gn t a := by rw [gn_swapL hat hbt, swp, if_pos rfl]
  have ps : ∀ y, y < f.length → stayB a b y = true → gn (swapL t a b) y = gn t y := fun y _ h => by
    obtain ⟨k1, k2⟩ := stayB_iff.1 h
    rw [gn_swapL hat hbt, swp, if_neg k2, if_neg k1]
  obtain ⟨k, hk⟩ := swap_meet hm.turn hat hbt hv
  have hl : Lead (swapL t a b) q a b := by have := lead_it (p := swapL t a b) (q := q) a k; rwa [hk] at this
  have hall := lead_over hm hqe d1 hb ps hl (by rw [← pb]; exact .one hl) (by rw [← pa]; exact .one (.refl _))
  obtain ⟨-, c2⟩ := cut_map hs hm.flip hm.paired (by rw [hsl, hm.len]) hqv (by rw [hsl, hql]) hqe d1 hb h3 (by rw [hsl]; exact hat) (fun y hy => hall y (by rw [← hsl]; exact hy))
  have hD := hm.dual
  have hml : (mulL f t).length = f.length := mulL_len f t
  have hphi : ∀ {x : Nat}, x < f.length → gn (mulL f t) x = gn t (gn f x) := fun {x} hx => by
    have : gi (mulL f t) x = gi t (gn f x) := gi_mulL hx
    unfold gn; unfold gn at this; rw [this]
  have hstep : ∀ y, y < f.length → gn (swapL t a b) y = gn (mulL f t) (gn q y) := fun y hy => by
    rw [hqe y hy]
    cases h : stayB a b y with
    | true => rw [if_pos rfl, hphi (hm.flip.gn_lt hy), (hm.paired y hy).2, ps y hy h]
    | false =>
      rw [if_neg (by decide), hphi hy]
      rcases stayB_no h with h | h
      · rw [h, pa, hb]
      · rw [h, pb, hba]
  have hall2 : ∀ y, y < (mulL f t).length → Lead (mulL f t) q a y := fun y hy =>
    lead_into hstep (fun y h => by rw [← hm.len, ← hsl]; exact h.lt hs hqv (by rw [hsl, hql]) (by rw [hsl]; exact hat)) (hall y (by rw [hm.len, ← hml]; exact hy))
  obtain ⟨x1, x2⟩ := cut_map hD.turn hm.flip hm.paired hml hqv (by rw [hml, ← hm.len, hql]) hqe d1 hb h3 (by rw [hml]; exact d1) hall2
  have hcd := con_dual hm.flip hm.paired hm.len d1 hb h3
  have hc : conT t a b = cutL (swapL t a b) a b := by rw [conT, cutL, hsl]
  have hx : delT (mulL f t) a b = cutL (mulL f t) a b := rfl
  have hpt : ptsN (mulL f t) f (butE (f.length / 2) e) = 1 := by
    rw [ptsN, hqq]
    exact one_part hD.turn hqv (by rw [hml, ← hm.len, hql]) (by rw [hml]; exact d1) hall2
  have hkd : kindE (mulL f t) f e = 2 ∨ kindE (mulL f t) f e = 0 := by
    unfold kindE
    split
    · exact .inl rfl
    · rw [hpt]; exact .inr rfl
  refine ⟨?_, ?_, ?_, x2, ?_, ?_⟩
  · rw [← hcd]; exact IsMap.dual x1
  · rw [hc, c2]; exact swap_cycles hm.turn hat hbt hv
  · rw [← hcd]; exact dual_dual x1
  · rcases hkd with h | h <;> rw [h] <;> decide
  · rcases hkd with h | h <;> rw [h] <;> decide

end Go.Proofs.Ytcenffndclpjoaa

/-
  Plain: a permutation followed until it meets a point that is marked: its cycles are those with a marked point; the points that are not marked stay.
  Plain: the edges of a map by their least darts; choices of edges as bits; the flip that only chosen darts do; the sides of a choice.
-/
import Derived.Test.YtcenffndclpjoaaOrb
import Derived.Test.YtcenffndclpjoaaCopy
namespace Go.Proofs.Ytcenffndclpjoaa

/-- Goes on along p until a point is marked, m times at most. -/
def ret (p : List Int) (c : Nat → Bool) : Nat → Nat → Nat
  | 0, x => x
  | m + 1, x => if c x = true then x else ret p c m (gn p x)
def retL (p : List Int) (c : Nat → Bool) : List Int := tab p.length fun d => if c d = true then (ret p c 12 (gn p d) : Int) else (d : Int)
theorem retL_len (p : List Int) (c : Nat → Bool) : (retL p c).length = p.length := tab_len _ _
theorem gn_retL {p : List Int} {c : Nat → Bool} {d : Nat} (h : d < p.length) : gn (retL p c) d = if c d = true then ret p c 12 (gn p d) else d := by
  by_cases e : c d = true
  · rw [if_pos e]; exact gn_of (by rw [retL, gi_tab h, if_pos e])
  · rw [if_neg e]; exact gn_of (by rw [retL, gi_tab h, if_neg e])

theorem it_add (p : List Int) (x : Nat) : ∀ a b : Nat, it p (a + b) x = it p a (it p b x)
  | 0, b => by rw [Nat.zero_add]; rfl
  | a + 1, b => by rw [show a + 1 + b = (a + b) + 1 by omega, it, it_add p x a b, it]
theorem it_inj {p : List Int} (hp : Vld p) : ∀ (k : Nat) {x y : Nat}, x < p.length → y < p.length → it p k x = it p k y → x = y
  | 0, _, _, _, _, e => e
  | k + 1, _, _, hx, hy, e => it_inj hp k hx hy (hp.inj (it_lt hp k hx) (it_lt hp k hy) e)

/-- The first marked point on the way from x is k steps ahead. -/
def FirstAt (p : List Int) (c : Nat → Bool) (x k : Nat) : Prop := c (it p k x) = true ∧ ∀ j, j < k → c (it p j x) = false
theorem ret_first {p : List Int} {c : Nat → Bool} : ∀ (m : Nat) {x k : Nat}, FirstAt p c x k → k ≤ m → ret p c m x = it p k x
  | 0, x, k, _, hk => by obtain rfl : k = 0 := by omega
                         rfl
  | m + 1, x, 0, h, _ => by
    have h0 : c x = true := h.1
    rw [ret, if_pos h0]; rfl
  | m + 1, x, k + 1, h, hk => by
    have h0 : c x = false := h.2 0 (by omega)
    rw [ret, if_neg (by rw [h0]; exact Bool.false_ne_true), it_succ']
    refine ret_first m ⟨?_, fun j hj => ?_⟩ (by omega)
    · have := h.1; rwa [it_succ'] at this
    · have := h.2 (j + 1) (by omega); rwa [it_succ'] at this
theorem first_of {p : List Int} {c : Nat → Bool} {x : Nat} : ∀ {k : Nat}, c (it p k x) = true → ∃ j, j ≤ k ∧ FirstAt p c x j := by
  intro k
  induction k using Nat.strongRecOn with
  | _ k ih =>
    intro h
    by_cases e : ∃ j, j < k ∧ c (it p j x) = true
    · obtain ⟨j, hj, hc⟩ := e
      obtain ⟨i, hi, hf⟩ := ih j hj hc
      exact ⟨i, by omega, hf⟩
    · exact ⟨k, Nat.le_refl _, h, fun j hj => by
        cases hc : c (it p j x) with
        | false => rfl
        | true => exact absurd ⟨j, hj, hc⟩ e⟩
/-- A cycle is back within as many steps as there are points. -/
theorem back_in {p : List Int} (hp : Vld p) {x : Nat} (hx : x < p.length) : ∃ k, k < p.length ∧ it p k (gn p x) = x := by
  obtain ⟨h1, h2, _⟩ := cyclesL_spec hp
  obtain ⟨c, hc, j, hj, rfl⟩ := h2 x hx
  have h := h1 c hc
  have hs : c.length ≤ p.length := by
    refine Nat.le_trans (Nat.le_of_eq (by simp)) (nodup_len p.length ((List.range c.length).map (gn c)) ?_ ?_)
    · rw [List.nodup_iff_pairwise_ne, List.pairwise_map]
      refine List.Pairwise.imp_of_mem ?_ (List.pairwise_lt_range (n := c.length))
      intro a b ha hb hab
      rw [List.mem_range] at ha hb
      exact h.apart a b hab hb
    · intro y hy
      obtain ⟨i, hi, rfl⟩ := List.mem_map.1 hy
      exact h.lt i (by simpa using hi)
  refine ⟨c.length - 1, by have := h.pos; omega, ?_⟩
  rw [← it_succ', show c.length - 1 + 1 = c.length from by have := h.pos; omega, h.it _ hj, Nat.add_mod_right, Nat.mod_eq_of_lt hj]

section
variable {p : List Int} {c : Nat → Bool}
/-- From a marked point the way is back at a marked one. -/
theorem first_from (hp : Vld p) {d : Nat} (hd : d < p.length) (hc : c d = true) : ∃ k, k < p.length ∧ FirstAt p c (gn p d) k := by
  obtain ⟨k, hk, hb⟩ := back_in hp hd
  obtain ⟨j, hj, hf⟩ := first_of (p := p) (c := c) (x := gn p d) (k := k) (by rw [hb]; exact hc)
  exact ⟨j, by omega, hf⟩
theorem gn_ret (hp : Vld p) {d : Nat} (hd : d < p.length) (hc : c d = true) : ∃ k, k < p.length ∧ FirstAt p c (gn p d) k ∧ gn (retL p c) d = it p (k + 1) d := by
  obtain ⟨k, hk, hf⟩ := first_from hp hd hc
  refine ⟨k, hk, hf, ?_⟩
  have h12 := hp.2.1
  rw [gn_retL hd, if_pos hc, ret_first 12 hf (by omega), it_succ']
theorem retL_marked (hp : Vld p) {d : Nat} (hd : d < p.length) (hc : c d = true) : c (gn (retL p c) d) = true := by
  obtain ⟨k, _, hf, e⟩ := gn_ret hp hd hc
  rw [e, it_succ']; exact hf.1
theorem retL_lt (hp : Vld p) {d : Nat} (hd : d < p.length) : gn (retL p c) d < p.length := by
  by_cases hc : c d = true
  · obtain ⟨k, _, _, e⟩ := gn_ret hp hd hc
    rw [e]; exact it_lt hp _ hd
  · rw [gn_retL hd, if_neg hc]; exact hd
theorem retL_apart (hp : Vld p) {x y k q : Nat} (hx : x < p.length) (hy : y < p.length) (hcx : c x = true) (hf : FirstAt p c (gn p y) q) (hkq : k ≤ q) (e : it p (k + 1) x = it p (q + 1) y) : x = y := by
  rw [show q + 1 = (k + 1) + (q - k) by omega, it_add p y] at e
  have e2 := it_inj hp (k + 1) hx (it_lt hp _ hy) e
  by_cases h0 : q - k = 0
  · rw [h0] at e2; exact e2
  · have := hf.2 (q - k - 1) (by omega)
    rw [← it_succ', show q - k - 1 + 1 = q - k by omega, ← e2, hcx] at this
    exact absurd this (by decide)
theorem retL_vld (hp : Vld p) : Vld (retL p c) := by
  have hl := retL_len p c
  refine ⟨by rw [hl]; exact hp.1, by rw [hl]; exact hp.2.1, fun j hj => ?_, fun j hj i hi => ?_⟩
  · rw [hl] at hj ⊢
    have h := retL_lt (c := c) hp hj
    have h0 : 0 ≤ gi (retL p c) j := by
      rw [retL, gi_tab hj]; split <;> omega
    unfold gn at h
    omega
  · rw [hl] at hj
    have hi' : i < p.length := by omega
    intro e
    have e : gn (retL p c) i = gn (retL p c) j := by unfold gn; rw [e]
    by_cases hci : c i = true
    · have hm := retL_marked hp hi' hci
      by_cases hcj : c j = true
      · obtain ⟨k, _, hf, e1⟩ := gn_ret hp hi' hci
        obtain ⟨q, _, hg, e2⟩ := gn_ret hp hj hcj
        rw [e1, e2] at e
        have : i = j := by
          rcases Nat.le_total k q with hkq | hkq
          · exact retL_apart hp hi' hj hci hg hkq e
          · exact (retL_apart hp hj hi' hcj hf hkq e.symm).symm
        omega
      · rw [e, gn_retL hj, if_neg hcj] at hm; exact hcj hm
    · rw [gn_retL hi', if_neg hci] at e
      by_cases hcj : c j = true
      · have hm := retL_marked hp hj hcj
        rw [← e] at hm; exact hci hm
      · rw [gn_retL hj, if_neg hcj] at e; omega
/-- The way from a marked point along p meets the same marked points as that along retL. -/
theorem ret_reach (hp : Vld p) {x : Nat} (hx : x < p.length) (hcx : c x = true) : ∀ k, c (it (retL p c) k x) = true ∧ it (retL p c) k x < p.length ∧ ∃ q, it p q x = it (retL p c) k x
  | 0 => ⟨hcx, hx, 0, rfl⟩
  | k + 1 => by
    obtain ⟨h1, h2, q, h3⟩ := ret_reach hp hx hcx k
    obtain ⟨j, _, _, e⟩ := gn_ret hp h2 h1
    refine ⟨retL_marked hp h2 h1, retL_lt hp h2, j + 1 + q, ?_⟩
    rw [it_add, h3, ← e]; rfl
theorem reach_ret (hp : Vld p) : ∀ (k : Nat) {x : Nat}, x < p.length → c x = true → c (it p k x) = true → ∃ q, it (retL p c) q x = it p k x := by
  intro k
  induction k using Nat.strongRecOn with
  | _ k ih =>
    intro x hx hcx hck
    cases k with
    | zero => exact ⟨0, rfl⟩
    | succ k =>
      obtain ⟨j, _, hf, e⟩ := gn_ret hp hx hcx
      rw [it_succ'] at hck
      have hjk : j ≤ k := by
        rcases Nat.lt_or_ge k j with h | h
        · have := hf.2 k h; rw [hck] at this; exact absurd this (by decide)
        · exact h
      have e3 : it p (k + 1) x = it p (k - j) (gn (retL p c) x) := by
        rw [e, ← it_add]; congr 1; omega
      obtain ⟨q, hq⟩ := ih (k - j) (by omega) (x := gn (retL p c) x) (retL_lt hp hx) (retL_marked hp hx hcx) (by rw [← e3, it_succ']; exact hck)
      exact ⟨q + 1, by rw [it_succ', hq, e3]⟩

/-- A cycle without a marked point, told at its least point. -/
def BareAt (p : List Int) (c : Nat → Bool) (i : Nat) : Prop := (∀ k, i ≤ it p k i) ∧ ∀ k, c (it p k i) = false
theorem smC_one {p' d : List Int} (h : Cyc p' d) {P : Nat → Prop} (he : ∃ j, j < d.length ∧ P (gn d j)) (hu : ∀ i j, i < d.length → j < d.length → P (gn d i) → P (gn d j) → gn d i = gn d j) : smC (fun x => ch (P x)) d = 1 := by
  obtain ⟨j0, hj0, hP⟩ := he
  unfold smC
  rw [sm_one (i0 := j0) d.length hj0 (fun k hk hne => ch_false fun hPk => ?_), ch_true hP]
  have e := hu k j0 hk hj0 hPk hP
  rcases Nat.lt_or_gt_of_ne hne with hlt | hlt
  · exact h.apart k j0 hlt hj0 e
  · exact h.apart j0 k hlt hk e.symm
theorem smC_none {d : List Int} {P : Nat → Prop} (hu : ∀ i, i < d.length → ¬ P (gn d i)) : smC (fun x => ch (P x)) d = 0 := by
  unfold smC
  rw [sm_congr (G := fun _ => 0) d.length (fun i hi => ch_false (hu i hi)), sm_zero]
theorem ret_cycles (hp : Vld p) : (cyclesL (retL p c)).length + sm p.length (fun i => ch (BareAt p c i)) = (cyclesL p).length + sm p.length (fun i => ch (c i = false)) := by
  have hl := retL_len p c
  have hr := retL_vld (c := c) hp
  rw [← lows_cycles hr, ← lows_cycles hp, hl]
  unfold lows
  -- the marked points that are the least marked ones of their cycles
  have h1 : sm p.length (fun i => ch (∀ k, i ≤ itf (gn (retL p c)) k i)) = sm p.length (fun i => ch (c i = false)) + sm p.length (fun i => ch (c i = true ∧ ∀ k, c (it p k i) = true → i ≤ it p k i)) := by
    rw [← sm_add]
    refine sm_congr _ fun i hi => ?_
    cases hci : c i with
    | false =>
      rw [ch_true, ch_true rfl, ch_false (fun h => by exact absurd h.1 (by decide))]
      intro k
      have : ∀ k, itf (gn (retL p c)) k i = i := by
        intro k
        induction k with
        | zero => rfl
        | succ k ih => rw [itf, ih, gn_retL hi, if_neg (by rw [hci]; decide)]
      rw [this k]; exact Nat.le_refl _
    | true =>
      rw [ch_false (P := true = false) (by decide), Nat.zero_add]
      refine ch_congr ⟨fun h => ⟨rfl, fun k hk => ?_⟩, fun h k => ?_⟩
      · obtain ⟨q, hq⟩ := reach_ret hp k hi hci hk
        have := h q
        rwa [← it_itf, hq] at this
      · obtain ⟨h3, _, q, hq⟩ := ret_reach hp hi hci k
        rw [← it_itf, ← hq]
        exact h.2 q (by rw [hq]; exact h3)
  have h2 : sm p.length (fun i => ch (∀ k, i ≤ itf (gn p) k i)) = sm p.length (fun i => ch (BareAt p c i)) + sm p.length (fun i => ch (c i = true ∧ ∀ k, c (it p k i) = true → i ≤ it p k i)) := by
    rw [← sm_add, sum_cycles hp, sum_cycles hp]
    obtain ⟨hc1, -, -⟩ := cyclesL_spec hp
    refine smCs_congr fun d hd => ?_
    have h := hc1 d hd
    have e1 : smC (fun x => ch (∀ k, x ≤ itf (gn p) k x)) d = 1 := by
      refine smC_one h ?_ ?_
      · obtain ⟨j0, hj0, hmin⟩ := least_at (gn d) d.length h.pos
        exact ⟨j0, hj0, fun k => by rw [← it_itf, h.it k hj0]; exact hmin _ (Nat.mod_lt _ h.pos)⟩
      · intro i j hi hj hPi hPj
        obtain ⟨q, hq⟩ := h.reach hi hj
        obtain ⟨q', hq'⟩ := h.reach hj hi
        have a := hPi q
        have b := hPj q'
        rw [← it_itf, hq] at a
        rw [← it_itf, hq'] at b
        omega
    have e2 : smC (fun x => ch (BareAt p c x) + ch (c x = true ∧ ∀ k, c (it p k x) = true → x ≤ it p k x)) d = smC (fun x => ch (BareAt p c x)) d + smC (fun x => ch (c x = true ∧ ∀ k, c (it p k x) = true → x ≤ it p k x)) d := by
      unfold smC; rw [sm_add]
    rw [e1, e2]
    by_cases hm : ∃ j, j < d.length ∧ c (gn d j) = true
    · obtain ⟨j1, hj1, hcj⟩ := hm
      rw [smC_none (P := BareAt p c) (fun i hi hb => ?_), Nat.zero_add]
      · symm
        refine smC_one h ?_ ?_
        · obtain ⟨j0, hj0, hmin⟩ := least_at (fun j => if c (gn d j) = true then gn d j else p.length) d.length h.pos
          have hlt1 := h.lt j1 hj1
          have hc0 : c (gn d j0) = true := by
            cases hc0 : c (gn d j0) with
            | true => rfl
            | false =>
              have := hmin j1 hj1
              rw [if_neg (by rw [hc0]; decide), if_pos hcj] at this
              omega
          refine ⟨j0, hj0, hc0, fun k hk => ?_⟩
          rw [h.it k hj0] at hk ⊢
          have := hmin _ (Nat.mod_lt (j0 + k) h.pos)
          rwa [if_pos hc0, if_pos hk] at this
        · intro i j hi hj hPi hPj
          obtain ⟨q, hq⟩ := h.reach hi hj
          obtain ⟨q', hq'⟩ := h.reach hj hi
          have a := hPi.2 q (by rw [hq]; exact hPj.1)
          have b := hPj.2 q' (by rw [hq']; exact hPi.1)
          rw [hq] at a
          rw [hq'] at b
          omega
      · obtain ⟨q, hq⟩ := h.reach hi hj1
        have := hb.2 q
        rw [hq, hcj] at this
        exact absurd this (by decide)
    · have hall : ∀ j, j < d.length → c (gn d j) = false := fun j hj => by
        cases hc : c (gn d j) with
        | false => rfl
        | true => exact absurd ⟨j, hj, hc⟩ hm
      rw [smC_none (P := fun x => c x = true ∧ ∀ k, c (it p k x) = true → x ≤ it p k x) (fun i hi hb => by rw [hall i hi] at hb; exact absurd hb.1 (by decide)), Nat.add_zero]
      symm
      refine smC_one h ?_ ?_
      · obtain ⟨j0, hj0, hmin⟩ := least_at (gn d) d.length h.pos
        refine ⟨j0, hj0, fun k => ?_, fun k => ?_⟩
        · rw [h.it k hj0]; exact hmin _ (Nat.mod_lt _ h.pos)
        · rw [h.it k hj0]; exact hall _ (Nat.mod_lt _ h.pos)
      · intro i j hi hj hPi hPj
        obtain ⟨q, hq⟩ := h.reach hi hj
        obtain ⟨q', hq'⟩ := h.reach hj hi
        have a := hPi.1 q
        have b := hPj.1 q'
        rw [hq] at a
        rw [hq'] at b
        omega
  rw [h1, h2]
  omega
end

end Go.Proofs.Ytcenffndclpjoaa

namespace Go.Proofs.Ytcenffndclpjoaa

/-- How many lesser darts lie below k. -/
def lesN (f : List Int) : Nat → Nat
  | 0 => 0
  | k + 1 => lesN f k + if k < gn f k then 1 else 0
/-- The lesser darts below k. -/
def lesPre (f : List Int) : Nat → List Int
  | 0 => []
  | k + 1 => lesPre f k ++ if k < gn f k then [(k : Int)] else []
theorem lesPre_len (f : List Int) : ∀ k, (lesPre f k).length = lesN f k
  | 0 => rfl
  | k + 1 => by rw [lesPre, lesN, List.length_append, lesPre_len f k]; split <;> rfl
theorem lesN_step (f : List Int) (k : Nat) : lesN f k ≤ lesN f (k + 1) := by rw [lesN]; omega
theorem lesN_mono (f : List Int) {a b : Nat} (h : a ≤ b) : lesN f a ≤ lesN f b := by
  induction h with
  | refl => exact Nat.le_refl _
  | step _ ih => exact Nat.le_trans ih (lesN_step f _)
theorem lesN_lt {f : List Int} {d k : Nat} (h : d < gn f d) (hk : d < k) : lesN f d < lesN f k := by
  have h1 : lesN f (d + 1) = lesN f d + 1 := by rw [lesN, if_pos h]
  have := lesN_mono f (show d + 1 ≤ k by omega)
  omega
theorem lesN_le (f : List Int) : ∀ k, lesN f k ≤ k
  | 0 => Nat.le_refl _
  | k + 1 => by have := lesN_le f k; rw [lesN]; split <;> omega
theorem lesPre_at {f : List Int} {d : Nat} (h : d < gn f d) : ∀ {k : Nat}, d < k → gi (lesPre f k) (lesN f d) = (d : Int)
  | 0, hk => absurd hk (by omega)
  | k + 1, hk => by
    rw [lesPre]
    by_cases e : d = k
    · subst e
      rw [if_pos h, ← lesPre_len f d, gi_append_last]
    · rw [gi_append_left (by rw [lesPre_len]; exact lesN_lt h (by omega))]
      exact lesPre_at h (by omega)
theorem lesPre_find {f : List Int} : ∀ {k e : Nat}, e < lesN f k → ∃ d, d < k ∧ d < gn f d ∧ lesN f d = e
  | 0, e, h => absurd h (by simp [lesN])
  | k + 1, e, h => by
    rw [lesN] at h
    by_cases hlt : e < lesN f k
    · obtain ⟨d, h1, h2, h3⟩ := lesPre_find hlt
      exact ⟨d, by omega, h2, h3⟩
    · by_cases hk : k < gn f k
      · rw [if_pos hk] at h
        exact ⟨k, by omega, hk, by omega⟩
      · rw [if_neg hk] at h
        omega
/-- The number of the edge of a dart. -/
def edgN (f : List Int) (d : Nat) : Nat := lesN f (min d (gn f d))
def edgL (f : List Int) : List Int := tab f.length fun d => (edgN f d : Int)
theorem edgL_len (f : List Int) : (edgL f).length = f.length := tab_len _ _
theorem gi_edgL {f : List Int} {d : Nat} (h : d < f.length) : gi (edgL f) d = (edgN f d : Int) := gi_tab h

section
variable {f : List Int}
theorem edgN_flip (hp : Paired f) {d : Nat} (hd : d < f.length) : edgN f (gn f d) = edgN f d := by
  unfold edgN; rw [(hp d hd).2, Nat.min_comm]
theorem edgN_less {d : Nat} (h : d < gn f d) : edgN f d = lesN f d := by unfold edgN; rw [Nat.min_eq_left (by omega)]
theorem edgN_more {d : Nat} (h : gn f d < d) : edgN f d = lesN f (gn f d) := by unfold edgN; rw [Nat.min_eq_right (by omega)]
theorem less_or (hp : Paired f) {d : Nat} (hd : d < f.length) : d < gn f d ∨ (gn f d < d ∧ gn f d < gn f (gn f d)) := by
  obtain ⟨h1, h2⟩ := hp d hd
  rcases Nat.lt_or_gt_of_ne h1 with h | h
  · exact .inr ⟨h, by rw [h2]; exact h⟩
  · exact .inl h
theorem edgN_lt (hf : Vld f) (hp : Paired f) {d : Nat} (hd : d < f.length) : edgN f d < lesN f f.length := by
  rcases less_or hp hd with h | ⟨h1, h2⟩
  · rw [edgN_less h]; exact lesN_lt h hd
  · rw [edgN_more h1]; exact lesN_lt h2 (hf.gn_lt hd)
theorem edgN_inj (hf : Vld f) (hp : Paired f) {d e : Nat} (hd : d < f.length) (he : e < f.length) (h : edgN f d = edgN f e) : e = d ∨ e = gn f d := by
  have key : ∀ {a b : Nat}, a < gn f a → b < gn f b → lesN f a = lesN f b → a = b := fun {a b} ha hb e => by
    rcases Nat.lt_trichotomy a b with h | h | h
    · have := lesN_lt ha h; omega
    · exact h
    · have := lesN_lt hb h; omega
  rcases less_or hp hd with h1 | ⟨h1, h2⟩
  · rw [edgN_less h1] at h
    rcases less_or hp he with k1 | ⟨k1, k2⟩
    · rw [edgN_less k1] at h; exact .inl (key h1 k1 h).symm
    · rw [edgN_more k1] at h
      have := key h1 k2 h
      refine .inr ?_
      rw [this, (hp e he).2]
  · rw [edgN_more h1] at h
    rcases less_or hp he with k1 | ⟨k1, k2⟩
    · rw [edgN_less k1] at h; exact .inr (key h2 k1 h).symm
    · rw [edgN_more k1] at h
      have := key h2 k2 h
      exact .inl (hf.inj he hd this.symm)
theorem lesN_sm (f : List Int) : ∀ k, lesN f k = sm k fun d => ch (d < gn f d)
  | 0 => rfl
  | k + 1 => by
    rw [lesN, sm, lesN_sm f k]
    by_cases h : k < gn f k
    · rw [if_pos h, ch_true h]
    · rw [if_neg h, ch_false h]
theorem sm_flip (hf : Vld f) (hp : Paired f) (P : Nat → Prop) (hs : ∀ d, d < f.length → (P (gn f d) ↔ P d)) : sm f.length (fun d => ch (P d)) = 2 * sm f.length (fun d => ch (P d ∧ d < gn f d)) := by
  have h1 : sm f.length (fun d => ch (P d)) = sm f.length (fun d => ch (P d ∧ d < gn f d)) + sm f.length (fun d => ch (P d ∧ gn f d < d)) := by
    rw [← sm_add]
    refine sm_congr _ fun d hd => ?_
    by_cases hP : P d
    · have := (hp d hd).1
      by_cases h : d < gn f d
      · rw [ch_true hP, ch_true ⟨hP, h⟩, ch_false (fun k => by have := k.2; omega)]
      · rw [ch_true hP, ch_false (fun k => h k.2), ch_true ⟨hP, by omega⟩]
    · rw [ch_false hP, ch_false (fun k => hP k.1), ch_false (fun k => hP k.1)]
  have h2 : sm f.length (fun d => ch (P d ∧ gn f d < d)) = sm f.length (fun d => ch (P d ∧ d < gn f d)) := by
    rw [← sm_prm _ f.length _ hf.prm]
    refine sm_congr _ fun d hd => ch_congr ?_
    rw [(hp d hd).2, hs d hd]
  omega
theorem lesN_half (hf : Vld f) (hp : Paired f) : 2 * lesN f f.length = f.length := by
  have h := sm_flip hf hp (fun _ => True) (fun _ _ => Iff.rfl)
  rw [sm_congr (G := fun _ => 1) _ (fun i _ => ch_true trivial), sm_const, Nat.mul_one] at h
  have h2 : sm f.length (fun d => ch (True ∧ d < gn f d)) = lesN f f.length := by
    rw [lesN_sm]
    exact sm_congr _ fun d _ => ch_congr ⟨fun k => k.2, fun k => ⟨trivial, k⟩⟩
  omega

/-- Whether a dart is chosen. -/
def chB (f : List Int) (s d : Nat) : Bool := s.testBit (edgN f d)
theorem chB_flip (hp : Paired f) (s : Nat) {d : Nat} (hd : d < f.length) : chB f s (gn f d) = chB f s d := by unfold chB; rw [edgN_flip hp hd]
def flipS (f : List Int) (s : Nat) : List Int := tab f.length fun d => if chB f s d = true then gi f d else (d : Int)
theorem flipS_len (f : List Int) (s : Nat) : (flipS f s).length = f.length := tab_len _ _
theorem gi_flipS {s d : Nat} (h : d < f.length) : gi (flipS f s) d = if chB f s d = true then gi f d else (d : Int) := gi_tab h
theorem gn_flipS {s d : Nat} (h : d < f.length) : gn (flipS f s) d = if chB f s d = true then gn f d else d := by
  unfold gn; rw [gi_flipS h]; split
  · rfl
  · omega
theorem flipS_vld (hf : Vld f) (hp : Paired f) (s : Nat) : Vld (flipS f s) := by
  have hl := flipS_len f s
  refine ⟨by rw [hl]; exact hf.1, by rw [hl]; exact hf.2.1, fun j hj => ?_, fun j hj i hi => ?_⟩
  · rw [hl] at hj ⊢
    rw [gi_flipS hj]
    have := hf.2.2.1 j hj
    split <;> omega
  · rw [hl] at hj
    have hi' : i < f.length := by omega
    rw [gi_flipS hj, gi_flipS hi', hf.gi_gn hj, hf.gi_gn hi']
    intro e
    by_cases h1 : chB f s i = true
    · by_cases h2 : chB f s j = true
      · rw [if_pos h1, if_pos h2] at e
        have := hf.inj hi' hj (by omega)
        omega
      · rw [if_pos h1, if_neg h2] at e
        have e2 : gn f i = j := by omega
        rw [← e2, chB_flip hp s hi'] at h2
        exact h2 h1
    · by_cases h2 : chB f s j = true
      · rw [if_neg h1, if_pos h2] at e
        have e2 : gn f j = i := by omega
        rw [← e2, chB_flip hp s hj] at h1
        exact h1 h2
      · rw [if_neg h1, if_neg h2] at e
        omega
end

/-! ### Choices as bits -/
def bL (s : Nat) : List Int := ((List.range 6).filter fun e => s.testBit e).map fun (e : Nat) => (e : Int)
def hasL (xs : List Int) (x : Int) : Bool := decide (x ∈ xs)
theorem hasL_bL {s : Nat} (hs : s < 64) (e : Nat) : hasL (bL s) (e : Int) = s.testBit e := by
  unfold hasL
  by_cases h : s.testBit e = true
  · have he : e < 6 := by
      rcases Nat.lt_or_ge e 6 with h' | h'
      · exact h'
      · have := Nat.testBit_lt_two_pow (x := s) (i := e) (Nat.lt_of_lt_of_le hs (Nat.pow_le_pow_right (n := 2) (by decide) h'))
        rw [this] at h; exact absurd h (by decide)
    rw [h, decide_eq_true_eq]
    simp only [bL, List.mem_map, List.mem_filter, List.mem_range]
    exact ⟨e, ⟨he, h⟩, rfl⟩
  · rw [Bool.eq_false_iff.2 h, decide_eq_false_iff_not]
    simp only [bL, List.mem_map, List.mem_filter, List.mem_range]
    rintro ⟨e', ⟨_, h'⟩, he⟩
    obtain rfl : e' = e := by omega
    exact h h'
/-- What comes ahead of the i-th number. -/
def lastI (xs : List Int) (i : Nat) : Int := if i = 0 then -1 else gi xs (i - 1)
def ascAt (m : Nat) (xs : List Int) (i : Nat) : Bool := inB (gi xs i) (lastI xs i + 1) ((m : Int) - 1)
def Asc (m : Nat) (xs : List Int) : Prop := ∀ i, i < xs.length → ascAt m xs i = true
instance (m : Nat) (xs : List Int) : Decidable (Asc m xs) := by unfold Asc; infer_instance
def ascB (m : Nat) (xs : List Int) : Bool := decide (Asc m xs)
theorem ascB_true {m : Nat} {xs : List Int} (h : Asc m xs) : ascB m xs = true := by simp [ascB, h]
theorem ascB_false {m : Nat} {xs : List Int} {i : Nat} (hi : i < xs.length) (h : ascAt m xs i = false) : ascB m xs = false := by
  simp only [ascB, decide_eq_false_iff_not]
  intro ha
  rw [ha i hi] at h
  exact absurd h (by decide)
/-- The bits of the first k numbers, all below L. -/
structure Bits (xs : List Int) (k s L : Nat) : Prop where
  low : s < 2 ^ L
  top : L = 0 ∨ 2 ^ (L - 1) ≤ s
  last : lastI xs k = (L : Int) - 1
  list : bL s = xs.take k
  few : L ≤ 6
theorem Bits.start (xs : List Int) : Bits xs 0 0 0 := ⟨by decide, .inl rfl, rfl, rfl, by decide⟩
theorem bits_in : ∀ e : Nat, e < 6 → ∀ s : Nat, s < 64 → s < 2 ^ e → bL (s + 2 ^ e) = bL s ++ [(e : Int)] ∧ s + 2 ^ e < 2 ^ (e + 1) ∧ s + 2 ^ e < 64 := by decide +kernel
theorem pow6 {L : Nat} (h : L ≤ 6) : 2 ^ L ≤ 64 := by
  have := Nat.pow_le_pow_right (show 0 < 2 by decide) h
  exact this
theorem Bits.lt {xs : List Int} {k s L : Nat} (h : Bits xs k s L) : s < 64 := Nat.lt_of_lt_of_le h.low (pow6 h.few)
theorem Bits.iff {xs : List Int} {k s L e : Nat} (h : Bits xs k s L) : s < 2 ^ e ↔ L ≤ e := by
  constructor
  · intro hs
    rcases Nat.lt_or_ge e L with h' | h'
    · rcases h.top with h0 | h0
      · omega
      · have := Nat.pow_le_pow_right (show 0 < 2 by decide) (show e ≤ L - 1 by omega)
        omega
    · exact h'
  · intro hl
    exact Nat.lt_of_lt_of_le h.low (Nat.pow_le_pow_right (by decide) hl)
theorem Bits.step {xs : List Int} {k s L e m : Nat} (h : Bits xs k s L) (hk : k < xs.length) (he : gi xs k = (e : Int)) (hem : e < m) (hm : m ≤ 6) (hl : s < 2 ^ e) : Bits xs (k + 1) (s + 2 ^ e) (e + 1) ∧ ascAt m xs k = true := by
  have hL := h.iff.1 hl
  obtain ⟨b1, b2, b3⟩ := bits_in e (by omega) s h.lt hl
  refine ⟨⟨b2, .inr (by rw [Nat.add_sub_cancel]; omega), ?_, ?_, by omega⟩, ?_⟩
  · rw [lastI, if_neg (by omega), Nat.add_sub_cancel, he]; omega
  · rw [b1, h.list, List.take_add_one, List.getElem?_eq_getElem hk]
    simp only [Option.toList_some]
    rw [← he, gi_eq hk]
  · unfold ascAt
    refine inB_true ?_ ?_ <;> rw [he]
    · rw [h.last]; omega
    · omega
theorem Bits.stop {xs : List Int} {k s L m : Nat} (h : Bits xs k s L) (hk : ¬ (0 ≤ gi xs k ∧ gi xs k < (m : Int) ∧ s < 2 ^ (gi xs k).toNat)) : ascAt m xs k = false := by
  unfold ascAt
  refine inB_false fun ⟨h1, h2⟩ => hk ?_
  rw [h.last] at h1
  exact ⟨by omega, by omega, h.iff.2 (by omega)⟩
theorem Bits.done {xs : List Int} {s L : Nat} (h : Bits xs xs.length s L) : bL s = xs := by have := h.list; rwa [List.take_length] at this

/-! ### The sides of a choice -/
section
variable {t f : List Int}
/-- The sides of a choice: the darts go along chosen edges, and around. -/
def sidL (t f : List Int) (s : Nat) : List Int := mulL (flipS f s) t
theorem sidL_len (t f : List Int) (s : Nat) : (sidL t f s).length = f.length := by rw [sidL, mulL_len, flipS_len]
theorem gn_sidL (s : Nat) {d : Nat} (hd : d < f.length) : gn (sidL t f s) d = if chB f s d = true then gn t (gn f d) else gn t d := by
  have h : gi (sidL t f s) d = gi t (gn (flipS f s) d) := gi_mulL (by rw [flipS_len]; exact hd)
  unfold gn
  rw [h]
  have h2 := gn_flipS (f := f) (s := s) hd
  rw [h2]
  split <;> rfl
theorem cntS (hf : Vld f) (hp : Paired f) (s : Nat) : sm f.length (fun d => ch (chB f s d = true)) = 2 * sm (lesN f f.length) (fun e => ch (s.testBit e = true)) := by
  rw [sm_flip hf hp (fun d => chB f s d = true) (fun d hd => by rw [chB_flip hp s hd])]
  congr 1
  have key : ∀ k, sm k (fun d => ch (chB f s d = true ∧ d < gn f d)) = sm (lesN f k) (fun e => ch (s.testBit e = true)) := by
    intro k
    induction k with
    | zero => rfl
    | succ k ih =>
      rw [sm, ih, lesN]
      by_cases h : k < gn f k
      · rw [if_pos h, sm]
        congr 1
        refine ch_congr ⟨fun k' => ?_, fun k' => ⟨?_, h⟩⟩
        · have := k'.1; rwa [chB, edgN_less h] at this
        · rwa [chB, edgN_less h]
      · rw [if_neg h, Nat.add_zero, ch_false (fun k' => h k'.2), Nat.add_zero]
  exact key _
theorem bL_len {s : Nat} {m : Nat} (hm : m ≤ 6) (hs : s < 2 ^ m) : (bL s).length = sm m (fun e => ch (s.testBit e = true)) := by
  have h1 : ∀ k, sm k (fun e => ch (s.testBit e = true)) = ((List.range k).filter fun e => s.testBit e).length := by
    intro k
    induction k with
    | zero => rfl
    | succ k ih =>
      rw [sm, ih, List.range_succ, List.filter_append, List.length_append]
      congr 1
      cases h : s.testBit k with
      | false => rw [ch_false (by decide)]; simp [h]
      | true => rw [ch_true rfl]; simp [h]
  have h2 : ∀ d, m + d ≤ 6 → sm (m + d) (fun e => ch (s.testBit e = true)) = sm m (fun e => ch (s.testBit e = true)) := by
    intro d
    induction d with
    | zero => intro _; rfl
    | succ d ih =>
      intro h
      rw [show m + (d + 1) = m + d + 1 by omega, sm, ih (by omega)]
      have : s.testBit (m + d) = false := Nat.testBit_lt_two_pow (Nat.lt_of_lt_of_le hs (Nat.pow_le_pow_right (by decide) (by omega)))
      rw [this, ch_false (by decide), Nat.add_zero]
  unfold bL
  rw [List.length_map, ← h1 6]
  have := h2 (6 - m) (by omega)
  rwa [show m + (6 - m) = 6 by omega] at this
/-- The faces of the chosen darts, as the model has them; all others stay. -/
def facS (t f : List Int) (s : Nat) : List Int := retL (sidL t f s) (chB f s)
/-- How many cycles of Turn have no chosen dart. -/
noncomputable def bareN (t : List Int) (c : Nat → Bool) : Nat := sm t.length fun i => ch (BareAt t c i)
theorem bare_same (hm : IsMap t f) (s : Nat) : sm (sidL t f s).length (fun i => ch (BareAt (sidL t f s) (chB f s) i)) = bareN t (chB f s) := by
  rw [sidL_len, bareN, hm.len]
  refine sm_congr _ fun i hi => ch_congr ?_
  have key : ∀ {i : Nat}, i < f.length → ((∀ k, chB f s (it (sidL t f s) k i) = false) ∨ ∀ k, chB f s (it t k i) = false) → ∀ k, it (sidL t f s) k i = it t k i := by
    intro i hi h
    have hlt : ∀ k, it t k i < f.length := fun k => by rw [← hm.len]; exact it_lt hm.turn k (by rw [hm.len]; exact hi)
    intro k
    induction k with
    | zero => rfl
    | succ k ih =>
      rw [it, ih, gn_sidL s (hlt k)]
      rw [if_neg]
      · rfl
      · rcases h with h | h
        · have := h k; rw [ih] at this; rw [this]; decide
        · rw [h k]; decide
  constructor
  · rintro ⟨h1, h2⟩
    have e := key hi (.inl h2)
    exact ⟨fun k => by rw [← e]; exact h1 k, fun k => by rw [← e]; exact h2 k⟩
  · rintro ⟨h1, h2⟩
    have e := key hi (.inr h2)
    exact ⟨fun k => by rw [e]; exact h1 k, fun k => by rw [e]; exact h2 k⟩
theorem sidL_vld (hm : IsMap t f) (s : Nat) : Vld (sidL t f s) := (flipS_vld hm.flip hm.paired s).mulL hm.turn (by rw [flipS_len]; exact hm.len.symm)
theorem sides_eq (hm : IsMap t f) {s : Nat} (hs : s < 2 ^ lesN f f.length) (h6 : lesN f f.length ≤ 6) :
    ((cyclesL (facS t f s)).length : Int) - ((f.length : Int) - 2 * ((bL s).length : Int)) + (bareN t (chB f s) : Int) = ((cyclesL (sidL t f s)).length : Int) := by

  have h := ret_cycles (c := chB f s) (sidL_vld hm s)
  rw [bare_same hm s, sidL_len] at h
  have h1 := cntS hm.flip hm.paired s
  rw [← bL_len h6 hs] at h1
  have h2 : sm f.length (fun d => ch (chB f s d = true)) + sm f.length (fun d => ch (chB f s d = false)) = f.length := by
    rw [← sm_add, sm_congr (G := fun _ => 1) _ (fun i _ => ?_), sm_const, Nat.mul_one]
    cases hc : chB f s i with
    | false => rw [ch_false (by decide), ch_true rfl]
    | true => rw [ch_true rfl, ch_false (by decide)]
  unfold facS
  omega
end

end Go.Proofs.Ytcenffndclpjoaa

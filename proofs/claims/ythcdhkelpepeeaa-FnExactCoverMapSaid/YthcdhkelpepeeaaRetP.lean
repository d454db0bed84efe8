/-
  Plain: a permutation followed until it meets a point that is marked: its cycles are those with a marked point; the points that are not marked stay.
-/
import Derived.Test.YthcdhkelpepeeaaOrb
namespace Go.Proofs.Ythcdhkelpepeeaa

/-- Goes on along p until a point is marked, m times at most. -/
def ret (p : List Int) (c : Nat → Bool) : Nat → Nat → Nat
  | 0, x => x
  | m + 1, x => if c x = true then x else ret p c m (gn p x)
def retL (p : List Int) (c : Nat → Bool) : List Int := tab p.length fun d => if c d = true then (ret p c 12 (gn p d) : Int) else (d : Int)
theorem retL_len (p : List Int) (c : Nat → Bool) : (retL p c).length = p.length := tab_len _ _
theorem gn_retL {p : List Int} {c : Nat → Bool} {d : Nat} (h : d < p.length) : gn (retL p c) d = if c d = true then ret p c 12 (gn p d) else d := by
  by_cases e : c d = true
  · rw [if_pos e]; exact gn_of (by rw [retL, gi_tab h, if_pos e])
  · rw [if_neg e]; exact gn_of (by rw [retL, gi_tab h, if_neg e])

theorem it_add (p : List Int) (x : Nat) : ∀ a b : Nat, it p (a + b) x = it p a (it p b x)
  | 0, b => by rw [Nat.zero_add]; rfl
  | a + 1, b => by rw [show a + 1 + b = (a + b) + 1 by omega, it, it_add p x a b, it]
theorem it_inj {p : List Int} (hp : Vld p) : ∀ (k : Nat) {x y : Nat}, x < p.length → y < p.length → it p k x = it p k y → x = y
  | 0, _, _, _, _, e => e
  | k + 1, _, _, hx, hy, e => it_inj hp k hx hy (hp.inj (it_lt hp k hx) (it_lt hp k hy) e)

/-- The first marked point on the way from x is k steps ahead. -/
def FirstAt (p : List Int) (c : Nat → Bool) (x k : Nat) : Prop := c (it p k x) = true ∧ ∀ j, j < k → c (it p j x) = false
theorem ret_first {p : List Int} {c : Nat → Bool} : ∀ (m : Nat) {x k : Nat}, FirstAt p c x k → k ≤ m → ret p c m x = it p k x
  | 0, x, k, _, hk => by obtain rfl : k = 0 := by omega
                         rfl
  | m + 1, x, 0, h, _ => by
    have h0 : c x = true := h.1
    rw [ret, if_pos h0]; rfl
  | m + 1, x, k + 1, h, hk => by
    have h0 : c x = false := h.2 0 (by omega)
    rw [ret, if_neg (by rw [h0]; exact Bool.false_ne_true), it_succ']
    refine ret_first m ⟨?_, fun j hj => ?_⟩ (by omega)
    · have := h.1; rwa [it_succ'] at this
    · have := h.2 (j + 1) (by omega); rwa [it_succ'] at this
theorem first_of {p : List Int} {c : Nat → Bool} {x : Nat} : ∀ {k : Nat}, c (it p k x) = true → ∃ j, j ≤ k ∧ FirstAt p c x j := by
  intro k
  induction k using Nat.strongRecOn with
  | _ k ih =>
    intro h
    by_cases e : ∃ j, j < k ∧ c (it p j x) = true
    · obtain ⟨j, hj, hc⟩ := e
      obtain ⟨i, hi, hf⟩ := ih j hj hc
      exact ⟨i, by omega, hf⟩
    · exact ⟨k, Nat.le_refl _, h, fun j hj => by
        cases hc : c (it p j x) with
        | false => rfl
        | true => exact absurd ⟨j, hj, hc⟩ e⟩
/-- A cycle is back within as many steps as there are points. -/
theorem back_in {p : List Int} (hp : Vld p) {x : Nat} (hx : x < p.length) : ∃ k, k < p.length ∧ it p k (gn p x) = x := by
  obtain ⟨h1, h2, _⟩ := cyclesL_spec hp
  obtain ⟨c, hc, j, hj, rfl⟩ := h2 x hx
  have h := h1 c hc
  have hs : c.length ≤ p.length := by
    refine Nat.le_trans (Nat.le_of_eq (by simp)) (nodup_len p.length ((List.range c.length).map (gn c)) ?_ ?_)
    · rw [List.nodup_iff_pairwise_ne, List.pairwise_map]
      refine List.Pairwise.imp_of_mem ?_ (List.pairwise_lt_range (n := c.length))
      intro a b ha hb hab
      rw [List.mem_range] at ha hb
      exact h.apart a b hab hb
    · intro y hy
      obtain ⟨i, hi, rfl⟩ := List.mem_map.1 hy
      exact h.lt i (by simpa using hi)
  refine ⟨c.length - 1, by have := h.pos; omega, ?_⟩
  rw [← it_succ', show c.length - 1 + 1 = c.length from by have := h.pos; omega, h.it _ hj, Nat.add_mod_right, Nat.mod_eq_of_lt hj]

section
variable {p : List Int} {c : Nat → Bool}
/-- From a marked point the way is back at a marked one. -/
theorem first_from (hp : Vld p) {d : Nat} (hd : d < p.length) (hc : c d = true) : ∃ k, k < p.length ∧ FirstAt p c (gn p d) k := by
  obtain ⟨k, hk, hb⟩ := back_in hp hd
  obtain ⟨j, hj, hf⟩ := first_of (p := p) (c := c) (x := gn p d) (k := k) (by rw [hb]; exact hc)
  exact ⟨j, by omega, hf⟩
theorem gn_ret (hp : Vld p) {d : Nat} (hd : d < p.length) (hc : c d = true) : ∃ k, k < p.length ∧ FirstAt p c (gn p d) k ∧ gn (retL p c) d = it p (k + 1) d := by
  obtain ⟨k, hk, hf⟩ := first_from hp hd hc
  refine ⟨k, hk, hf, ?_⟩
  have h12 := hp.2.1
  rw [gn_retL hd, if_pos hc, ret_first 12 hf (by omega), it_succ']
theorem retL_marked (hp : Vld p) {d : Nat} (hd : d < p.length) (hc : c d = true) : c (gn (retL p c) d) = true := by
  obtain ⟨k, _, hf, e⟩ := gn_ret hp hd hc
  rw [e, it_succ']; exact hf.1
theorem retL_lt (hp : Vld p) {d : Nat} (hd : d < p.length) : gn (retL p c) d < p.length := by
  by_cases hc : c d = true
  · obtain ⟨k, _, _, e⟩ := gn_ret hp hd hc
    rw [e]; exact it_lt hp _ hd
  · rw [gn_retL hd, if_neg hc]; exact hd
theorem retL_apart (hp : Vld p) {x y k q : Nat} (hx : x < p.length) (hy : y < p.length) (hcx : c x = true) (hf : FirstAt p c (gn p y) q) (hkq : k ≤ q) (e : it p (k + 1) x = it p (q + 1) y) : x = y := by
  rw [show q + 1 = (k + 1) + (q - k) by omega, it_add p y] at e
  have e2 := it_inj hp (k + 1) hx (it_lt hp _ hy) e
  by_cases h0 : q - k = 0
  · rw [h0] at e2; exact e2
  · have := hf.2 (q - k - 1) (by omega)
    rw [← it_succ', show q - k - 1 + 1 = q - k by omega, ← e2, hcx] at this
    exact absurd this (by decide)
theorem retL_vld (hp : Vld p) : Vld (retL p c) := by
  have hl := retL_len p c
  refine ⟨by rw [hl]; exact hp.1, by rw [hl]; exact hp.2.1, fun j hj => ?_, fun j hj i hi => ?_⟩
  · rw [hl] at hj ⊢
    have h := retL_lt (c := c) hp hj
    have h0 : 0 ≤ gi (retL p c) j := by
      rw [retL, gi_tab hj]; split <;> omega
    unfold gn at h
    omega
  · rw [hl] at hj
    have hi' : i < p.length := by omega
    intro e
    have e : gn (retL p c) i = gn (retL p c) j := by unfold gn; rw [e]
    by_cases hci : c i = true
    · have hm := retL_marked hp hi' hci
      by_cases hcj : c j = true
      · obtain ⟨k, _, hf, e1⟩ := gn_ret hp hi' hci
        obtain ⟨q, _, hg, e2⟩ := gn_ret hp hj hcj
        rw [e1, e2] at e
        have : i = j := by
          rcases Nat.le_total k q with hkq | hkq
          · exact retL_apart hp hi' hj hci hg hkq e
          · exact (retL_apart hp hj hi' hcj hf hkq e.symm).symm
        omega
      · rw [e, gn_retL hj, if_neg hcj] at hm; exact hcj hm
    · rw [gn_retL hi', if_neg hci] at e
      by_cases hcj : c j = true
      · have hm := retL_marked hp hj hcj
        rw [← e] at hm; exact hci hm
      · rw [gn_retL hj, if_neg hcj] at e; omega
/-- The way from a marked point along p meets the same marked points as that along retL. -/
theorem ret_reach (hp : Vld p) {x : Nat} (hx : x < p.length) (hcx : c x = true) : ∀ k, c (it (retL p c) k x) = true ∧ it (retL p c) k x < p.length ∧ ∃ q, it p q x = it (retL p c) k x
  | 0 => ⟨hcx, hx, 0, rfl⟩
  | k + 1 => by
    obtain ⟨h1, h2, q, h3⟩ := ret_reach hp hx hcx k
    obtain ⟨j, _, _, e⟩ := gn_ret hp h2 h1
    refine ⟨retL_marked hp h2 h1, retL_lt hp h2, j + 1 + q, ?_⟩
    rw [it_add, h3, ← e]; rfl
theorem reach_ret (hp : Vld p) : ∀ (k : Nat) {x : Nat}, x < p.length → c x = true → c (it p k x) = true → ∃ q, it (retL p c) q x = it p k x := by
  intro k
  induction k using Nat.strongRecOn with
  | _ k ih =>
    intro x hx hcx hck
    cases k with
    | zero => exact ⟨0, rfl⟩
    | succ k =>
      obtain ⟨j, _, hf, e⟩ := gn_ret hp hx hcx
      rw [it_succ'] at hck
      have hjk : j ≤ k := by
        rcases Nat.lt_or_ge k j with h | h
        · have := hf.2 k h; rw [hck] at this; exact absurd this (by decide)
        · exact h
      have e3 : it p (k + 1) x = it p (k - j) (gn (retL p c) x) := by
        rw [e, ← it_add]; congr 1; omega
      obtain ⟨q, hq⟩ := ih (k - j) (by omega) (x := gn (retL p c) x) (retL_lt hp hx) (retL_marked hp hx hcx) (by rw [← e3, it_succ']; exact hck)
      exact ⟨q + 1, by rw [it_succ', hq, e3]⟩

/-- A cycle without a marked point, told at its least point. -/
def BareAt (p : List Int) (c : Nat → Bool) (i : Nat) : Prop := (∀ k, i ≤ it p k i) ∧ ∀ k, c (it p k i) = false
theorem smC_one {p' d : List Int} (h : Cyc p' d) {P : Nat → Prop} (he : ∃ j, j < d.length ∧ P (gn d j)) (hu : ∀ i j, i < d.length → j < d.length → P (gn d i) → P (gn d j) → gn d i = gn d j) : smC (fun x => ch (P x)) d = 1 := by
  obtain ⟨j0, hj0, hP⟩ := he
  unfold smC
  rw [sm_one (i0 := j0) d.length hj0 (fun k hk hne => ch_false fun hPk => ?_), ch_true hP]
  have e := hu k j0 hk hj0 hPk hP
  rcases Nat.lt_or_gt_of_ne hne with hlt | hlt
  · exact h.apart k j0 hlt hj0 e
  · exact h.apart j0 k hlt hk e.symm
theorem smC_none {d : List Int} {P : Nat → Prop} (hu : ∀ i, i < d.length → ¬ P (gn d i)) : smC (fun x => ch (P x)) d = 0 := by
  unfold smC
  rw [sm_congr (G := fun _ => 0) d.length (fun i hi => ch_false (hu i hi)), sm_zero]
theorem ret_cycles (hp : Vld p) : (cyclesL (retL p c)).length + sm p.length (fun i => ch (BareAt p c i)) = (cyclesL p).length + sm p.length (fun i => ch (c i = false)) := by
  have hl := retL_len p c
  have hr := retL_vld (c := c) hp
  rw [← lows_cycles hr, ← lows_cycles hp, hl]
  unfold lows
  -- the marked points that are the least marked ones of their cycles
  have h1 : sm p.length (fun i => ch (∀ k, i ≤ itf (gn (retL p c)) k i)) = sm p.length (fun i => ch (c i = false)) + sm p.length (fun i => ch (c i = true ∧ ∀ k, c (it p k i) = true → i ≤ it p k i)) := by
    rw [← sm_add]
    refine sm_congr _ fun i hi => ?_
    cases hci : c i with
    | false =>
      rw [ch_true, ch_true rfl, ch_false (fun h => by exact absurd h.1 (by decide))]
      intro k
      have : ∀ k, itf (gn (retL p c)) k i = i := by
        intro k
        induction k with
        | zero => rfl
        | succ k ih => rw [itf, ih, gn_retL hi, if_neg (by rw [hci]; decide)]
      rw [this k]; exact Nat.le_refl _
    | true =>
      rw [ch_false (P := true = false) (by decide), Nat.zero_add]
      refine ch_congr ⟨fun h => ⟨rfl, fun k hk => ?_⟩, fun h k => ?_⟩
      · obtain ⟨q, hq⟩ := reach_ret hp k hi hci hk
        have := h q
        rwa [← it_itf, hq] at this
      · obtain ⟨h3, _, q, hq⟩ := ret_reach hp hi hci k
        rw [← it_itf, ← hq]
        exact h.2 q (by rw [hq]; exact h3)
  have h2 : sm p.length (fun i => ch (∀ k, i ≤ itf (gn p) k i)) = sm p.length (fun i => ch (BareAt p c i)) + sm p.length (fun i => ch (c i = true ∧ ∀ k, c (it p k i) = true → i ≤ it p k i)) := by
    rw [← sm_add, sum_cycles hp, sum_cycles hp]
    obtain ⟨hc1, -, -⟩ := cyclesL_spec hp
    refine smCs_congr fun d hd => ?_
    have h := hc1 d hd
    have e1 : smC (fun x => ch (∀ k, x ≤ itf (gn p) k x)) d = 1 := by
      refine smC_one h ?_ ?_
      · obtain ⟨j0, hj0, hmin⟩ := least_at (gn d) d.length h.pos
        exact ⟨j0, hj0, fun k => by rw [← it_itf, h.it k hj0]; exact hmin _ (Nat.mod_lt _ h.pos)⟩
      · intro i j hi hj hPi hPj
        obtain ⟨q, hq⟩ := h.reach hi hj
        obtain ⟨q', hq'⟩ := h.reach hj hi
        have a := hPi q
        have b := hPj q'
        rw [← it_itf, hq] at a
        rw [← it_itf, hq'] at b
        omega
    have e2 : smC (fun x => ch (BareAt p c x) + ch (c x = true ∧ ∀ k, c (it p k x) = true → x ≤ it p k x)) d = smC (fun x => ch (BareAt p c x)) d + smC (fun x => ch (c x = true ∧ ∀ k, c (it p k x) = true → x ≤ it p k x)) d := by
      unfold smC; rw [sm_add]
    rw [e1, e2]
    by_cases hm : ∃ j, j < d.length ∧ c (gn d j) = true
    · obtain ⟨j1, hj1, hcj⟩ := hm
      rw [smC_none (P := BareAt p c) (fun i hi hb => ?_), Nat.zero_add]
      · symm
        refine smC_one h ?_ ?_
        · obtain ⟨j0, hj0, hmin⟩ := least_at (fun j => if c (gn d j) = true then gn d j else p.length) d.length h.pos
          have hlt1 := h.lt j1 hj1
          have hc0 : c (gn d j0) = true := by
            cases hc0 : c (gn d j0) with
            | true => rfl
            | false =>
              have := hmin j1 hj1
              rw [if_neg (by rw [hc0]; decide), if_pos hcj] at this
              omega
          refine ⟨j0, hj0, hc0, fun k hk => ?_⟩
          rw [h.it k hj0] at hk ⊢
          have := hmin _ (Nat.mod_lt (j0 + k) h.pos)
          rwa [if_pos hc0, if_pos hk] at this
        · intro i j hi hj hPi hPj
          obtain ⟨q, hq⟩ := h.reach hi hj
          obtain ⟨q', hq'⟩ := h.reach hj hi
          have a := hPi.2 q (by rw [hq]; exact hPj.1)
          have b := hPj.2 q' (by rw [hq']; exact hPi.1)
          rw [hq] at a
          rw [hq'] at b
          omega
      · obtain ⟨q, hq⟩ := h.reach hi hj1
        have := hb.2 q
        rw [hq, hcj] at this
        exact absurd this (by decide)
    · have hall : ∀ j, j < d.length → c (gn d j) = false := fun j hj => by
        cases hc : c (gn d j) with
        | false => rfl
        | true => exact absurd ⟨j, hj, hc⟩ hm
      rw [smC_none (P := fun x => c x = true ∧ ∀ k, c (it p k x) = true → x ≤ it p k x) (fun i hi hb => by rw [hall i hi] at hb; exact absurd hb.1 (by decide)), Nat.add_zero]
      symm
      refine smC_one h ?_ ?_
      · obtain ⟨j0, hj0, hmin⟩ := least_at (gn d) d.length h.pos
        refine ⟨j0, hj0, fun k => ?_, fun k => ?_⟩
        · rw [h.it k hj0]; exact hmin _ (Nat.mod_lt _ h.pos)
        · rw [h.it k hj0]; exact hall _ (Nat.mod_lt _ h.pos)
      · intro i j hi hj hPi hPj
        obtain ⟨q, hq⟩ := h.reach hi hj
        obtain ⟨q', hq'⟩ := h.reach hj hi
        have a := hPi.1 q
        have b := hPj.1 q'
        rw [hq] at a
        rw [hq'] at b
        omega
  rw [h1, h2]
  omega
end

end Go.Proofs.Ythcdhkelpepeeaa

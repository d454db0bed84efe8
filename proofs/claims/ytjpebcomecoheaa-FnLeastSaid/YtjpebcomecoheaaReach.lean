/-
  Plain: the least point from which two permutations lead to a point; found by relaxing, and by going on from each point in turn.
-/
import Derived.Test.YtjpebcomecoheaaOrb
import Derived.Deep.LoopGhost
namespace Go.Proofs.Ytjpebcomecoheaa
open Go.RowKit

/-- Both permutations, as often as needed, lead from x to y. -/
inductive Lead (p q : List Int) : Nat → Nat → Prop
  | refl (x : Nat) : Lead p q x x
  | one {x y : Nat} (h : Lead p q x y) : Lead p q x (gn p y)
  | two {x y : Nat} (h : Lead p q x y) : Lead p q x (gn q y)

theorem it_succ' (p : List Int) : ∀ (k x : Nat), it p (k + 1) x = it p k (gn p x) := by
  intro k
  induction k with
  | zero => intro x; rfl
  | succ k ih => intro x; rw [it, ih]; rfl
theorem it_round {p : List Int} (hp : Vld p) {x : Nat} (hx : x < p.length) : ∃ k, it p k (gn p x) = x := by
  obtain ⟨h1, h2, _⟩ := cyclesL_spec hp
  obtain ⟨c, hc, j, hj, rfl⟩ := h2 x hx
  have h := h1 c hc
  refine ⟨c.length - 1, ?_⟩
  rw [← it_succ', show c.length - 1 + 1 = c.length from by have := h.pos; omega, h.it _ hj, Nat.add_mod_right, Nat.mod_eq_of_lt hj]

section
variable {p q : List Int} {x y z : Nat}
theorem Lead.trans (h : Lead p q x y) (k : Lead p q y z) : Lead p q x z := by
  induction k with
  | refl => exact h
  | one _ ih => exact .one ih
  | two _ ih => exact .two ih
theorem Lead.along1 (p q : List Int) (x : Nat) : ∀ k : Nat, Lead p q x (it p k x) := by
  intro k
  induction k with
  | zero => exact .refl _
  | succ k ih => exact .one ih
theorem Lead.along2 (p q : List Int) (x : Nat) : ∀ k : Nat, Lead p q x (it q k x) := by
  intro k
  induction k with
  | zero => exact .refl _
  | succ k ih => exact .two ih
theorem Lead.lt (hp : Vld p) (hq : Vld q) (hl : p.length = q.length) (h : Lead p q x y) (hx : x < p.length) : y < p.length := by
  induction h with
  | refl => exact hx
  | one _ ih => exact hp.gn_lt ih
  | two _ ih => rw [hl]; exact hq.gn_lt (by omega)
theorem Lead.sym (hp : Vld p) (hq : Vld q) (hl : p.length = q.length) (h : Lead p q x y) (hx : x < p.length) : Lead p q y x := by
  induction h with
  | refl => exact .refl _
  | @one y h ih =>
    obtain ⟨k, hk⟩ := it_round hp (h.lt hp hq hl hx)
    have h2 := Lead.along1 p q (gn p y) k
    rw [hk] at h2
    exact h2.trans ih
  | @two y h ih =>
    obtain ⟨k, hk⟩ := it_round hq (show y < q.length by rw [← hl]; exact h.lt hp hq hl hx)
    have h2 := Lead.along2 p q (gn q y) k
    rw [hk] at h2
    exact h2.trans ih
/-- Somewhere on the way what holds at its begin ceases to hold. -/
theorem Lead.turn {R : Nat → Prop} (h : Lead p q x y) (hx : R x) (hy : ¬ R y) : ∃ u v, Lead p q x u ∧ R u ∧ ¬ R v ∧ (v = gn p u ∨ v = gn q u) := by
  induction h with
  | refl => exact absurd hx hy
  | @one y h ih =>
    by_cases hr : R y
    · exact ⟨_, _, h, hr, hy, .inl rfl⟩
    · exact ih hr
  | @two y h ih =>
    by_cases hr : R y
    · exact ⟨_, _, h, hr, hy, .inr rfl⟩
    · exact ih hr
end

/-- The least point that leads to x. -/
noncomputable def orb (p q : List Int) (x : Nat) : Nat := leastOf fun y => Lead p q y x
section
variable {p q : List Int} {x y : Nat}
theorem orb_lead : Lead p q (orb p q x) x := (leastOf_spec (p := fun y => Lead p q y x) ⟨x, .refl _⟩).1
theorem orb_least (h : Lead p q y x) : orb p q x ≤ y := (leastOf_spec (p := fun y => Lead p q y x) ⟨x, .refl _⟩).2 y h
theorem orb_le : orb p q x ≤ x := orb_least (.refl _)
theorem orb_eq (hp : Vld p) (hq : Vld q) (hl : p.length = q.length) (h : Lead p q x y) (hx : x < p.length) : orb p q y = orb p q x :=
  Nat.le_antisymm (orb_least (orb_lead.trans h)) (orb_least (orb_lead.trans (h.sym hp hq hl hx)))
theorem orb_one (hp : Vld p) (hq : Vld q) (hl : p.length = q.length) (hx : x < p.length) : orb p q (gn p x) = orb p q x := orb_eq hp hq hl (.one (.refl _)) hx
theorem orb_two (hp : Vld p) (hq : Vld q) (hl : p.length = q.length) (hx : x < p.length) : orb p q (gn q x) = orb p q x := orb_eq hp hq hl (.two (.refl _)) hx
theorem orb_orb (hp : Vld p) (hq : Vld q) (hl : p.length = q.length) (hx : x < p.length) : orb p q (orb p q x) = orb p q x :=
  (orb_eq hp hq hl orb_lead (Nat.lt_of_le_of_lt orb_le hx)).symm
end
noncomputable def orbL (p q : List Int) : List Int := tab p.length fun x => (orb p q x : Int)
theorem orbL_len (p q : List Int) : (orbL p q).length = p.length := tab_len _ _
theorem gi_orbL {p q : List Int} {j : Nat} (h : j < p.length) : gi (orbL p q) j = (orb p q j : Int) := gi_tab h

/-! ### Relaxing -/
theorem gi_set3 {out : List Int} {v : Int} {a b c j : Nat} (ha : a < out.length) (hb : b < out.length) (hc : c < out.length) :
    gi (((out.set a v).set b v).set c v) j = if j = a ∨ j = b ∨ j = c then v else gi out j := by
  rw [gi_set _ _ _ _ (by simpa using hc), gi_set _ _ _ _ (by simpa using hb), gi_set _ _ _ _ ha]
  by_cases h1 : j = c
  · simp [h1]
  · by_cases h2 : j = b
    · simp [h2]
    · by_cases h3 : j = a
      · simp [h3]
      · simp [h1, h2, h3]

structure Relax (p q : List Int) (out0 : List Int) (i : Nat) (out : List Int) : Prop where
  len : out.length = p.length
  ge : ∀ j, j < p.length → (orb p q j : Int) ≤ gi out j
  le : ∀ j, j < p.length → gi out j ≤ gi out0 j
  did : ∀ j, j < i → gi out0 j = orb p q j → gi out (gn p j) = orb p q j ∧ gi out (gn q j) = orb p q j
theorem Relax.start {p q out0 : List Int} (hl : out0.length = p.length) (hg : ∀ j, j < p.length → (orb p q j : Int) ≤ gi out0 j) : Relax p q out0 0 out0 :=
  ⟨hl, hg, fun _ _ => Int.le_refl _, fun j hj => absurd hj (by omega)⟩
theorem Relax.step {p q out0 out : List Int} {i : Nat} {v : Int} (hp : Vld p) (hq : Vld q) (hl : p.length = q.length) (h : Relax p q out0 i out) (hi : i < p.length)
    (h1 : v ≤ gi out i) (h2 : v ≤ gi out (gn p i)) (h3 : v ≤ gi out (gn q i)) (hv : v = gi out i ∨ v = gi out (gn p i) ∨ v = gi out (gn q i)) :
    Relax p q out0 (i + 1) (((out.set i v).set (gn p i) v).set (gn q i) v) := by
  have hpi := hp.gn_lt hi
  have hqi : gn q i < p.length := by rw [hl]; exact hq.gn_lt (by omega)
  have hnew : ∀ j, gi (((out.set i v).set (gn p i) v).set (gn q i) v) j = if j = i ∨ j = gn p i ∨ j = gn q i then v else gi out j := fun j =>
    gi_set3 (by rw [h.len]; exact hi) (by rw [h.len]; exact hpi) (by rw [h.len]; exact hqi)
  have o1 := orb_one hp hq hl hi
  have o2 := orb_two hp hq hl hi
  have hov : (orb p q i : Int) ≤ v := by
    have g1 := h.ge i hi
    have g2 := h.ge _ hpi
    have g3 := h.ge _ hqi
    rw [o1] at g2
    rw [o2] at g3
    rcases hv with e | e | e <;> rw [e] <;> assumption
  have hle : ∀ j, j < p.length → gi (((out.set i v).set (gn p i) v).set (gn q i) v) j ≤ gi out j := fun j hj => by
    rw [hnew]
    split
    · rename_i e
      rcases e with rfl | rfl | rfl <;> assumption
    · exact Int.le_refl _
  have hge : ∀ j, j < p.length → (orb p q j : Int) ≤ gi (((out.set i v).set (gn p i) v).set (gn q i) v) j := fun j hj => by
    rw [hnew]
    split
    · rename_i e
      rcases e with rfl | rfl | rfl
      · exact hov
      · rw [o1]; exact hov
      · rw [o2]; exact hov
    · exact h.ge j hj
  refine ⟨by simpa using h.len, hge, fun j hj => Int.le_trans (hle j hj) (h.le j hj), fun j hj e => ?_⟩
  by_cases hji : j < i
  · obtain ⟨d1, d2⟩ := h.did j hji e
    have hj' : j < p.length := by omega
    have l1 := hp.gn_lt hj'
    have l2 : gn q j < p.length := by rw [hl]; exact hq.gn_lt (by omega)
    have a1 := hle _ l1
    have a2 := hle _ l2
    have b1 := hge _ l1
    have b2 := hge _ l2
    rw [orb_one hp hq hl hj'] at b1
    rw [orb_two hp hq hl hj'] at b2
    exact ⟨by omega, by omega⟩
  · obtain rfl : j = i := by omega
    have hvv : v = orb p q j := by
      have := h.le j hi
      rw [e] at this
      omega
    rw [hnew, hnew, if_pos (.inr (.inl rfl)), if_pos (.inr (.inr rfl))]
    exact ⟨hvv, hvv⟩

theorem filter_le {P Q : Nat → Bool} : ∀ (l : List Nat), (∀ j, j ∈ l → P j = true → Q j = true) → (l.filter P).length ≤ (l.filter Q).length := by
  intro l
  induction l with
  | nil => intro _; simp
  | cons a l ih =>
    intro h
    have h1 := ih (fun j hj => h j (List.mem_cons_of_mem _ hj))
    have h2 := h a (by simp)
    simp only [List.filter_cons]
    by_cases hp : P a = true
    · rw [if_pos hp, if_pos (h2 hp)]; simp; exact h1
    · rw [if_neg hp]; split <;> simp <;> omega
theorem filter_lt {P Q : Nat → Bool} {y : Nat} : ∀ (l : List Nat), (∀ j, j ∈ l → P j = true → Q j = true) → y ∈ l → P y = false → Q y = true → (l.filter P).length < (l.filter Q).length := by
  intro l
  induction l with
  | nil => intro _ h; cases h
  | cons a l ih =>
    intro h hy hpy hqy
    have h0 := filter_le l (fun j hj => h j (List.mem_cons_of_mem _ hj))
    have h2 := h a (by simp)
    simp only [List.filter_cons]
    by_cases e : y = a
    · subst e
      rw [if_neg (by simp [hpy]), if_pos hqy]; simp; omega
    · have hyl : y ∈ l := by
        rcases List.mem_cons.1 hy with h | h
        · exact absurd h e
        · exact h
      have h1 := ih (fun j hj => h j (List.mem_cons_of_mem _ hj)) hyl hpy hqy
      by_cases hp : P a = true
      · rw [if_pos hp, if_pos (h2 hp)]; simp; exact h1
      · rw [if_neg hp]; split <;> simp <;> omega

noncomputable def bad (p q out : List Int) : Nat := ((List.range p.length).filter fun j => decide (gi out j ≠ (orb p q j : Int))).length
structure Rounds (p q : List Int) (r : Nat) (out : List Int) : Prop where
  len : out.length = p.length
  ge : ∀ j, j < p.length → (orb p q j : Int) ≤ gi out j
  le : ∀ j, j < p.length → gi out j ≤ j
  few : bad p q out + r ≤ p.length
theorem Rounds.start {p q out : List Int} (hl : out.length = p.length) (h : ∀ j, j < p.length → gi out j = j) : Rounds p q 0 out :=
  ⟨hl, fun j hj => by rw [h j hj]; exact Int.ofNat_le.2 orb_le, fun j hj => by rw [h j hj]; exact Int.le_refl _, by
    unfold bad
    exact Nat.le_trans (List.length_filter_le _ _) (by simp)⟩
theorem Rounds.next {p q out0 out : List Int} {r : Nat} (hp : Vld p) (hq : Vld q) (hl : p.length = q.length) (h : Rounds p q r out0) (hr : r < p.length) (hx : Relax p q out0 p.length out) : Rounds p q (r + 1) out := by
  have keep : ∀ j, j < p.length → gi out0 j = (orb p q j : Int) → gi out j = (orb p q j : Int) := fun j hj e => by
    have := hx.le j hj
    have := hx.ge j hj
    omega
  refine ⟨hx.len, hx.ge, fun j hj => Int.le_trans (hx.le j hj) (h.le j hj), ?_⟩
  have hf := h.few
  by_cases hb : ∃ j, j < p.length ∧ gi out0 j ≠ (orb p q j : Int)
  · obtain ⟨j, hj, hw⟩ := hb
    have hm : orb p q j < p.length := Nat.lt_of_le_of_lt orb_le hj
    have hmr : gi out0 (orb p q j) = (orb p q (orb p q j) : Int) := by
      have := h.le _ hm
      have := h.ge _ hm
      rw [orb_orb hp hq hl hj] at *
      omega
    obtain ⟨u, v, hu, hru, hrv, huv⟩ := Lead.turn (R := fun x => gi out0 x = (orb p q x : Int)) orb_lead hmr hw
    have hul := hu.lt hp hq hl hm
    have hd := hx.did u hul hru
    have hvr : v < p.length ∧ gi out v = (orb p q v : Int) := by
      rcases huv with rfl | rfl
      · exact ⟨hp.gn_lt hul, by rw [orb_one hp hq hl hul]; exact hd.1⟩
      · exact ⟨by rw [hl]; exact hq.gn_lt (by omega), by rw [orb_two hp hq hl hul]; exact hd.2⟩
    have hlt : bad p q out < bad p q out0 := by
      unfold bad
      refine filter_lt (y := v) _ (fun k hk hkb => ?_) (List.mem_range.2 hvr.1) (by simp [hvr.2]) (by simpa using hrv)
      simp only [decide_eq_true_eq] at hkb ⊢
      exact fun e => hkb (keep k (List.mem_range.1 hk) e)
    omega
  · have h0 : bad p q out = 0 := by
      unfold bad
      rw [List.length_eq_zero_iff, List.filter_eq_nil_iff]
      intro k hk
      simp only [List.mem_range] at hk
      simp only [decide_eq_true_eq, Decidable.not_not]
      apply keep k hk
      apply Decidable.byContradiction
      intro e
      exact hb ⟨k, hk, e⟩
    omega
theorem Rounds.done {p q out : List Int} (h : Rounds p q p.length out) : out = orbL p q := by
  have h0 : bad p q out = 0 := by have := h.few; omega
  unfold bad at h0
  rw [List.length_eq_zero_iff, List.filter_eq_nil_iff] at h0
  exact tab_ext h.len fun j hj => by simpa using h0 j (List.mem_range.2 hj)

/-! ### Going on from each point in turn -/
structure Firsts (p q : List Int) (first : Nat) (ls : List Int) : Prop where
  len : ls.length = p.length
  val : ∀ j, j < p.length → gi ls j = if orb p q j < first then (orb p q j : Int) else -1
structure Search (p q : List Int) (first : Nat) (ls st : List Int) : Prop where
  len : ls.length = p.length
  val : ∀ j, j < p.length → gi ls j = -1 ∨ (gi ls j = (orb p q j : Int) ∧ orb p q j ≤ first)
  old : ∀ j, j < p.length → orb p q j < first → gi ls j = (orb p q j : Int)
  stk : ∀ s, s ∈ st → ∃ x : Nat, s = (x : Int) ∧ x < p.length ∧ Lead p q first x
  shut : ∀ j, j < p.length → gi ls j = (first : Int) → (gi ls (gn p j) ≠ -1 ∨ (gn p j : Int) ∈ st) ∧ (gi ls (gn q j) ≠ -1 ∨ (gn q j : Int) ∈ st)
  root : gi ls first ≠ -1 ∨ (first : Int) ∈ st
theorem Firsts.start {p q ls : List Int} (hl : ls.length = p.length) (h : ∀ j, j < p.length → gi ls j = -1) : Firsts p q 0 ls :=
  ⟨hl, fun j hj => by rw [h j hj, if_neg (by omega)]⟩
theorem Firsts.search {p q ls : List Int} {first : Nat} (h : Firsts p q first ls) (hf : first < p.length) : Search p q first ls [(first : Int)] := by
  refine ⟨h.len, fun j hj => ?_, fun j hj ho => by rw [h.val j hj, if_pos ho], fun s hs => ?_, fun j hj e => ?_, .inr (by simp)⟩
  · rw [h.val j hj]
    split
    · exact .inr ⟨rfl, by omega⟩
    · exact .inl rfl
  · simp only [List.mem_cons, List.not_mem_nil, or_false] at hs
    exact ⟨first, hs, hf, .refl _⟩
  · rw [h.val j hj] at e
    split at e <;> omega
theorem Search.old_mark {p q ls st : List Int} {first x : Nat} (h : Search p q first ls (st ++ [(x : Int)])) (hm : gi ls x ≠ -1) : Search p q first ls st := by
  refine ⟨h.len, h.val, h.old, fun s hs => h.stk s (by simp [hs]), fun j hj e => ?_, ?_⟩
  · obtain ⟨h1, h2⟩ := h.shut j hj e
    constructor
    · rcases h1 with h1 | h1
      · exact .inl h1
      · rcases List.mem_append.1 h1 with h1 | h1
        · exact .inr h1
        · simp only [List.mem_cons, List.not_mem_nil, or_false] at h1
          refine .inl ?_
          rw [show gn p j = x by omega]; exact hm
    · rcases h2 with h2 | h2
      · exact .inl h2
      · rcases List.mem_append.1 h2 with h2 | h2
        · exact .inr h2
        · simp only [List.mem_cons, List.not_mem_nil, or_false] at h2
          refine .inl ?_
          rw [show gn q j = x by omega]; exact hm
  · rcases h.root with h1 | h1
    · exact .inl h1
    · rcases List.mem_append.1 h1 with h1 | h1
      · exact .inr h1
      · simp only [List.mem_cons, List.not_mem_nil, or_false] at h1
        refine .inl ?_
        rw [show first = x by omega]; exact hm
theorem Search.new_mark {p q ls st : List Int} {first x : Nat} (hp : Vld p) (hq : Vld q) (hl : p.length = q.length) (h : Search p q first ls (st ++ [(x : Int)])) (hm : gi ls x = -1) :
    Search p q first (ls.set x (first : Int)) (st ++ [(gn p x : Int), (gn q x : Int)]) := by
  obtain ⟨x', hx', hxl, hlead⟩ := h.stk (x : Int) (by simp)
  obtain rfl : x = x' := by omega
  have hxo : orb p q x = first := by
    have h1 : orb p q x ≤ first := orb_least hlead
    rcases Nat.lt_or_ge (orb p q x) first with h2 | h2
    · have := h.old x hxl h2
      rw [hm] at this; omega
    · omega
  have hset : ∀ j, gi (ls.set x (first : Int)) j = if j = x then (first : Int) else gi ls j := fun j => gi_set _ _ _ _ (by rw [h.len]; exact hxl)
  have hmono : ∀ j, gi ls j ≠ -1 → gi (ls.set x (first : Int)) j ≠ -1 := fun j hj => by
    rw [hset]; split
    · omega
    · exact hj
  have hmem : ∀ y : Nat, (gi ls y ≠ -1 ∨ (y : Int) ∈ st ++ [(x : Int)]) → gi (ls.set x (first : Int)) y ≠ -1 ∨ (y : Int) ∈ st ++ [(gn p x : Int), (gn q x : Int)] := by
    rintro y (h1 | h1)
    · exact .inl (hmono y h1)
    · rcases List.mem_append.1 h1 with h1 | h1
      · exact .inr (by simp [h1])
      · simp only [List.mem_cons, List.not_mem_nil, or_false] at h1
        refine .inl ?_
        rw [show y = x by omega, hset, if_pos rfl]; omega
  refine ⟨by simpa using h.len, fun j hj => ?_, fun j hj ho => ?_, fun s hs => ?_, fun j hj e => ?_, hmem _ h.root⟩
  · rw [hset]; split
    · rename_i e; subst e; exact .inr ⟨by rw [hxo], by omega⟩
    · exact h.val j hj
  · rw [hset]; split
    · rename_i e; subst e; rw [hxo]
    · exact h.old j hj ho
  · rcases List.mem_append.1 hs with hs | hs
    · exact h.stk s (by simp [hs])
    · simp only [List.mem_cons, List.not_mem_nil, or_false] at hs
      rcases hs with rfl | rfl
      · exact ⟨_, rfl, hp.gn_lt hxl, .one hlead⟩
      · exact ⟨_, rfl, by rw [hl]; exact hq.gn_lt (by omega), .two hlead⟩
  · by_cases ej : j = x
    · subst ej
      exact ⟨.inr (by simp), .inr (by simp)⟩
    · rw [hset, if_neg ej] at e
      obtain ⟨h1, h2⟩ := h.shut j hj e
      exact ⟨hmem _ h1, hmem _ h2⟩
theorem Search.done {p q ls : List Int} {first : Nat} (hp : Vld p) (hq : Vld q) (hl : p.length = q.length) (h : Search p q first ls []) : Firsts p q (first + 1) ls := by
  refine ⟨h.len, fun j hj => ?_⟩
  by_cases hlt : orb p q j < first
  · rw [if_pos (by omega)]; exact h.old j hj hlt
  · by_cases he : orb p q j = first
    · rw [if_pos (by omega)]
      rcases h.val j hj with h1 | h1
      · exfalso
        have hroot : gi ls (orb p q j) ≠ -1 := by
          rw [he]
          rcases h.root with h | h
          · exact h
          · cases h
        obtain ⟨u, v, hu, hru, hrv, huv⟩ := Lead.turn (R := fun x => gi ls x ≠ -1) (p := p) (q := q) orb_lead hroot (by simpa using h1)
        have hfl : orb p q j < p.length := Nat.lt_of_le_of_lt orb_le hj
        have hul := hu.lt hp hq hl hfl
        have huo : orb p q u = first := by rw [orb_eq hp hq hl hu hfl, orb_orb hp hq hl hj, he]
        have hum : gi ls u = (first : Int) := by
          rcases h.val u hul with h2 | h2
          · exact absurd h2 hru
          · rw [h2.1, huo]
        obtain ⟨s1, s2⟩ := h.shut u hul hum
        rcases huv with rfl | rfl
        · rcases s1 with s | s
          · exact hrv s
          · cases s
        · rcases s2 with s | s
          · exact hrv s
          · cases s
      · exact h1.1
    · rw [if_neg (by omega)]
      rcases h.val j hj with h1 | h1
      · exact h1
      · omega
theorem Firsts.done {p q ls : List Int} (h : Firsts p q p.length ls) : ls = orbL p q :=
  tab_ext h.len fun j hj => by rw [h.val j hj, if_pos (Nat.lt_of_le_of_lt orb_le hj)]

/-- How many points bear no mark. -/
def bare (ls : List Int) : Nat := ls.count (-1)
theorem bare_set {ls : List Int} {x : Nat} {v : Int} (hx : x < ls.length) (h : gi ls x = -1) (hv : 0 ≤ v) : bare (ls.set x v) + 1 = bare ls := by
  unfold bare
  rw [List.count_set hx]
  have e : ls[x] = -1 := by rw [← gi_eq hx]; exact h
  have : 0 < ls.count (-1) := List.count_pos_iff.2 (by rw [← e]; exact List.getElem_mem hx)
  rw [e]
  have hv' : (v == (-1 : Int)) = false := by simp; omega
  simp [hv']
  omega

noncomputable def orbR (a b : List Int) : Bool × List Int := if both a b = true then (true, orbL a b) else (false, [])
theorem orbR_len {a b ys : List Int} {ok : Bool} (h : orbR a b = (ok, ys)) : ys.length ≤ 12 := by
  unfold orbR at h
  split at h
  · rename_i hb
    injection h with _ h; rw [← h, orbL_len]; exact (both_iff.1 hb).1.2.1
  · injection h with _ h; rw [← h]; simp

end Go.Proofs.Ytjpebcomecoheaa

/-
  Plain: permutations as functions on the numbers below n; the parity of the pairs that are turned and of the points that are the least of their cycles. No program in sight.
-/
import Derived.Test.YtjpebcomecoheaaPlain
namespace Go.Proofs.Ytjpebcomecoheaa

/-! ### Sums and counts over the numbers below n -/
def sm : Nat → (Nat → Nat) → Nat
  | 0, _ => 0
  | n + 1, F => sm n F + F n
theorem sm_congr {F G : Nat → Nat} : ∀ n, (∀ i, i < n → F i = G i) → sm n F = sm n G
  | 0, _ => rfl
  | n + 1, h => by rw [sm, sm, sm_congr n (fun i hi => h i (by omega)), h n (by omega)]
theorem sm_add (F G : Nat → Nat) : ∀ n, sm n (fun i => F i + G i) = sm n F + sm n G
  | 0 => rfl
  | n + 1 => by rw [sm, sm, sm, sm_add F G n]; omega
theorem sm_zero : ∀ n, sm n (fun _ => 0) = 0
  | 0 => rfl
  | n + 1 => by rw [sm, sm_zero n]
theorem sm_const (c : Nat) : ∀ n, sm n (fun _ => c) = n * c
  | 0 => by simp [sm]
  | n + 1 => by rw [sm, sm_const c n, Nat.succ_mul]
/-- Sums that differ at one place. -/
theorem sm_but {F G : Nat → Nat} {i0 : Nat} : ∀ m, i0 < m → (∀ k, k < m → k ≠ i0 → F k = G k) → sm m F + G i0 = sm m G + F i0
  | 0, h, _ => absurd h (by omega)
  | m + 1, h, hk => by
    rw [sm, sm]
    by_cases e : i0 = m
    · subst e
      rw [sm_congr i0 (fun k hk' => hk k (by omega) (by omega))]; omega
    · have := sm_but m (by omega) (fun k hk' hne => hk k (by omega) hne)
      have := hk m (by omega) (fun e' => e e'.symm)
      omega
theorem sm_le {F G : Nat → Nat} : ∀ n, (∀ i, i < n → F i ≤ G i) → sm n F ≤ sm n G
  | 0, _ => Nat.le_refl _
  | n + 1, h => by have := sm_le n (fun i hi => h i (by omega)); have := h n (by omega); rw [sm, sm]; omega
theorem sm_one {F : Nat → Nat} {i0 : Nat} (n : Nat) (h : i0 < n) (hz : ∀ k, k < n → k ≠ i0 → F k = 0) : sm n F = F i0 := by
  have := sm_but (F := F) (G := fun _ => 0) n h hz
  rw [sm_zero] at this
  omega

/-- 1 where it holds. -/
noncomputable def ch (P : Prop) : Nat := open Classical in if P then 1 else 0
theorem ch_true {P : Prop} (h : P) : ch P = 1 := by simp [ch, h]
theorem ch_false {P : Prop} (h : ¬ P) : ch P = 0 := by simp [ch, h]
theorem ch_congr {P Q : Prop} (h : P ↔ Q) : ch P = ch Q := by rw [propext h]
theorem ch_le (P : Prop) : ch P ≤ 1 := by by_cases h : P <;> simp [ch, h]

/-! ### Permutations as functions -/
structure Prm (n : Nat) (f : Nat → Nat) : Prop where
  lt : ∀ i, i < n → f i < n
  inj : ∀ i j, i < n → j < n → f i = f j → i = j
theorem Prm.surj {n : Nat} {f : Nat → Nat} (h : Prm n f) {v : Nat} (hv : v < n) : ∃ i, i < n ∧ f i = v :=
  pigeon n f h.lt (fun j hj i hij e => by have := h.inj i j (by omega) hj e; omega) v hv
theorem Prm.fix {n : Nat} {f : Nat → Nat} (h : Prm (n + 1) f) (e : f n = n) : Prm n f :=
  ⟨fun i hi => by
    have := h.lt i (by omega)
    have : f i ≠ n := fun e' => by have := h.inj i n (by omega) (by omega) (e'.trans e.symm); omega
    omega, fun i j hi hj => h.inj i j (by omega) (by omega)⟩
/-- The last point taken out. -/
def less (f : Nat → Nat) (n i0 : Nat) : Nat → Nat := fun i => if i = i0 then f n else f i
theorem less_at (f : Nat → Nat) (n i0 : Nat) : less f n i0 i0 = f n := by simp [less]
theorem less_ne {f : Nat → Nat} {n i0 i : Nat} (h : i ≠ i0) : less f n i0 i = f i := by simp [less, h]
theorem Prm.less {n : Nat} {f : Nat → Nat} (h : Prm (n + 1) f) {i0 : Nat} (hi : i0 < n) (e : f i0 = n) (hn : f n ≠ n) : Prm n (less f n i0) := by
  have h0 := h.lt n (by omega)
  constructor
  · intro i hi'
    by_cases e' : i = i0
    · rw [e', less_at]; omega
    · rw [less_ne e']
      have := h.lt i (by omega)
      have : f i ≠ n := fun e'' => e' (h.inj i i0 (by omega) (by omega) (e''.trans e.symm))
      omega
  · intro i j hi' hj' he
    by_cases e1 : i = i0 <;> by_cases e2 : j = i0
    · omega
    · rw [e1, less_at, less_ne e2] at he
      have := h.inj n j (by omega) (by omega) he; omega
    · rw [e2, less_at, less_ne e1] at he
      have := h.inj i n (by omega) (by omega) he; omega
    · rw [less_ne e1, less_ne e2] at he
      exact h.inj i j (by omega) (by omega) he
/-- One goes down by one point: it stays where it is, or it lies between two others. -/
theorem Prm.down {C : Nat → (Nat → Nat) → Prop} (h0 : ∀ f, C 0 f) (hf : ∀ n f, Prm (n + 1) f → f n = n → C n f → C (n + 1) f)
    (hl : ∀ n f i0, Prm (n + 1) f → i0 < n → f i0 = n → f n < n → C n (Go.Proofs.Ytjpebcomecoheaa.less f n i0) → C (n + 1) f) : ∀ n f, Prm n f → C n f := by
  intro n
  induction n with
  | zero => intro f _; exact h0 f
  | succ n ih =>
    intro f h
    by_cases e : f n = n
    · exact hf n f h e (ih f (h.fix e))
    · obtain ⟨i0, hi, he⟩ := h.surj (v := n) (by omega)
      have hi0 : i0 ≠ n := fun e' => e (by rw [e'] at he; exact he)
      have := h.lt n (by omega)
      exact hl n f i0 h (by omega) he (by omega) (ih _ (h.less (by omega) he e))

/-- Sums may be taken in any order. -/
theorem sm_prm (F : Nat → Nat) : ∀ n f, Prm n f → sm n (fun i => F (f i)) = sm n F := by
  apply Prm.down (C := fun n f => sm n (fun i => F (f i)) = sm n F)
  · intro f; rfl
  · intro n f _ e ih
    rw [sm, sm, ih, e]
  · intro n f i0 h hi he hn ih
    rw [sm, sm, ← ih]
    have := sm_but (F := fun i => F (f i)) (G := fun i => F (Go.Proofs.Ytjpebcomecoheaa.less f n i0 i)) n hi (fun k hk hne => by rw [less_ne hne])
    simp only [less_at, he] at this
    omega

/-! ### Pairs that are turned -/
noncomputable def invs (f : Nat → Nat) (n : Nat) : Nat := sm n fun i => sm i fun k => ch (f i < f k)
theorem invs_succ (f : Nat → Nat) (n : Nat) : invs f (n + 1) = invs f n + sm n fun k => ch (f n < f k) := rfl

/-- As long as the place of n has not come, nothing differs; afterwards as much as twice something and one. -/
theorem invs_less {n : Nat} {f : Nat → Nat} {i0 : Nat} (h : Prm (n + 1) f) (hi : i0 < n) (he : f i0 = n) (hn : f n < n) :
    ∀ m, m ≤ n → (m ≤ i0 → invs f m = invs (Go.Proofs.Ytjpebcomecoheaa.less f n i0) m) ∧ (i0 < m → ∃ b, invs f m + sm m (fun k => ch (f n < f k)) = invs (Go.Proofs.Ytjpebcomecoheaa.less f n i0) m + 2 * b + 1) := by
  intro m
  induction m with
  | zero => intro _; exact ⟨fun _ => rfl, fun h => absurd h (by omega)⟩
  | succ m ih =>
    intro hm
    obtain ⟨ih1, ih2⟩ := ih (by omega)
    refine ⟨fun hmi => ?_, fun hmi => ?_⟩
    · rw [invs_succ, invs_succ, ih1 (by omega), less_ne (by omega : m ≠ i0)]
      congr 1
      exact sm_congr m (fun k hk => by rw [less_ne (by omega : k ≠ i0)])
    · by_cases e : i0 = m
      · subst e
        refine ⟨0, ?_⟩
        rw [invs_succ, invs_succ, ih1 (Nat.le_refl _), less_at, he, sm]
        have e1 : sm i0 (fun k => ch (n < f k)) = 0 := by
          rw [sm_congr i0 (G := fun _ => 0) (fun k hk => ch_false (by have := h.lt k (by omega); omega)), sm_zero]
        have e2 : sm i0 (fun k => ch (f n < Go.Proofs.Ytjpebcomecoheaa.less f n i0 k)) = sm i0 (fun k => ch (f n < f k)) := sm_congr i0 (fun k hk => by rw [less_ne (by omega : k ≠ i0)])
        have e3 : ch (f n < f i0) = 1 := ch_true (by omega)
        rw [he] at e3
        rw [e1, e2, he, e3]; omega
      · obtain ⟨b, hb⟩ := ih2 (by omega)
        have hne : f m ≠ f n := fun e' => by have := h.inj m n (by omega) (by omega) e'; omega
        have hmn : f m ≠ n := fun e' => by have := h.inj m i0 (by omega) (by omega) (e'.trans he.symm); omega
        have hlt := h.lt m (by omega)
        have hs := sm_but (F := fun k => ch (f m < f k)) (G := fun k => ch (f m < Go.Proofs.Ytjpebcomecoheaa.less f n i0 k)) m (i0 := i0) (by omega) (fun k hk hk' => by rw [less_ne hk'])
        simp only [less_at, he] at hs
        have e3 : ch (f m < n) = 1 := ch_true (by omega)
        rw [e3] at hs
        rw [invs_succ, invs_succ, sm, less_ne (fun e' => e e'.symm : m ≠ i0)]
        by_cases hlt' : f m < f n
        · have e4 : ch (f m < f n) = 1 := ch_true hlt'
          have e5 : ch (f n < f m) = 0 := ch_false (by omega)
          rw [e4] at hs; rw [e5]
          exact ⟨b, by omega⟩
        · have e4 : ch (f m < f n) = 0 := ch_false hlt'
          have e5 : ch (f n < f m) = 1 := ch_true (by omega)
          rw [e4] at hs; rw [e5]
          exact ⟨b + 1, by omega⟩

/-! ### Points that are the least of their cycles -/
def itf (f : Nat → Nat) : Nat → Nat → Nat
  | 0, x => x
  | k + 1, x => f (itf f k x)
noncomputable def lows (n : Nat) (f : Nat → Nat) : Nat := sm n fun i => ch (∀ k, i ≤ itf f k i)
theorem less_to {n : Nat} {f : Nat → Nat} {i0 x : Nat} (h : Prm (n + 1) f) (hi : i0 < n) (he : f i0 = n) (hn : f n < n) (hx : x < n) : ∀ k,
    (itf f k x < n ∧ ∃ q, itf (Go.Proofs.Ytjpebcomecoheaa.less f n i0) q x = itf f k x) ∨ (itf f k x = n ∧ ∃ q, itf (Go.Proofs.Ytjpebcomecoheaa.less f n i0) q x = i0) := by
  intro k
  induction k with
  | zero => exact .inl ⟨hx, 0, rfl⟩
  | succ k ih =>
    rcases ih with ⟨hl, q, hq⟩ | ⟨hl, q, hq⟩
    · by_cases e : itf f k x = i0
      · exact .inr ⟨by rw [itf, e, he], q, by rw [hq, e]⟩
      · have hlt := h.lt (itf f k x) (by omega)
        have hne : f (itf f k x) ≠ n := fun e' => e (h.inj _ i0 (by omega) (by omega) (e'.trans he.symm))
        exact .inl ⟨by rw [itf]; omega, q + 1, by rw [itf, itf, hq, less_ne e]⟩
    · exact .inl ⟨by rw [itf, hl]; exact hn, q + 1, by rw [itf, itf, hq, less_at, hl]⟩
theorem less_from {n : Nat} {f : Nat → Nat} {i0 x : Nat} (he : f i0 = n) : ∀ k, ∃ q, itf f q x = itf (Go.Proofs.Ytjpebcomecoheaa.less f n i0) k x := by
  intro k
  induction k with
  | zero => exact ⟨0, rfl⟩
  | succ k ih =>
    obtain ⟨q, hq⟩ := ih
    by_cases e : itf (Go.Proofs.Ytjpebcomecoheaa.less f n i0) k x = i0
    · exact ⟨q + 2, by rw [itf, itf, itf, hq, e, less_at, he]⟩
    · exact ⟨q + 1, by rw [itf, itf, hq, less_ne e]⟩
theorem lows_less {n : Nat} {f : Nat → Nat} {i0 : Nat} (h : Prm (n + 1) f) (hi : i0 < n) (he : f i0 = n) (hn : f n < n) : lows (n + 1) f = lows n (Go.Proofs.Ytjpebcomecoheaa.less f n i0) := by
  unfold lows
  rw [sm, ch_false (fun hall => by have := hall 1; simp only [itf] at this; omega), Nat.add_zero]
  refine sm_congr n fun i hi' => ch_congr ⟨fun hall k => ?_, fun hall k => ?_⟩
  · obtain ⟨q, hq⟩ := less_from (x := i) he k
    rw [← hq]; exact hall q
  · rcases less_to h hi he hn hi' k with ⟨_, q, hq⟩ | ⟨e, _⟩
    · rw [← hq]; exact hall q
    · omega
/-- As many points, less as many cycles, as pairs that are turned, but for an even number. -/
theorem parity_invs : ∀ n f, Prm n f → (n + lows n f + invs f n) % 2 = 0 := by
  apply Prm.down (C := fun n f => (n + lows n f + invs f n) % 2 = 0)
  · intro f; rfl
  · intro n f h e ih
    have hit : ∀ k, itf f k n = n := fun k => by
      induction k with
      | zero => rfl
      | succ k ih => rw [itf, ih, e]
    have e1 : lows (n + 1) f = lows n f + 1 := by
      unfold lows
      rw [sm, ch_true (fun k => by rw [hit k]; exact Nat.le_refl _)]
    have e2 : invs f (n + 1) = invs f n := by
      rw [invs_succ, sm_congr n (G := fun _ => 0) (fun k hk => ch_false (by have := h.lt k (by omega); omega)), sm_zero]; rfl
    rw [e1, e2]; omega
  · intro n f i0 h hi he hn ih
    rw [lows_less h hi he hn, invs_succ]
    obtain ⟨b, hb⟩ := (invs_less h hi he hn n (Nat.le_refl _)).2 hi
    omega

/-! ### Products -/
/-- Pairs, each once: half of all, where none is a pair with itself. -/
theorem sm_pairs {t : Nat → Nat → Nat} (hs : ∀ x y, t x y = t y x) (hd : ∀ x, t x x = 0) : ∀ n, sm n (fun i => sm n fun k => t i k) = 2 * sm n (fun i => sm i fun k => t i k)
  | 0 => rfl
  | n + 1 => by
    rw [sm, sm, sm, hd, sm_congr n (F := fun i => sm (n + 1) fun k => t i k) (G := fun i => (sm n fun k => t i k) + t i n) (fun i _ => rfl), sm_add, sm_pairs hs hd n, sm_congr n (F := fun i => t i n) (G := fun k => t n k) (fun i _ => hs i n)]
    omega
theorem sm_pairs_prm {t : Nat → Nat → Nat} (hs : ∀ x y, t x y = t y x) (hd : ∀ x, t x x = 0) {n : Nat} {f : Nat → Nat} (h : Prm n f) :
    sm n (fun i => sm i fun k => t (f i) (f k)) = sm n (fun i => sm i fun k => t i k) := by
  have h1 := sm_pairs (t := fun x y => t (f x) (f y)) (fun x y => hs _ _) (fun x => hd _) n
  have h2 := sm_pairs hs hd n
  have h3 : sm n (fun i => sm n fun k => t (f i) (f k)) = sm n (fun i => sm n fun k => t i k) := by
    rw [sm_congr n (G := fun i => (fun x => sm n fun k => t x k) (f i)) (fun i hi => sm_prm (fun y => t (f i) y) n f h)]
    exact sm_prm (fun x => sm n fun k => t x k) n f h
  omega
theorem sm_mod {F G : Nat → Nat} : ∀ n, (∀ i, i < n → F i % 2 = G i % 2) → sm n F % 2 = sm n G % 2
  | 0, _ => rfl
  | n + 1, h => by
    have := sm_mod n (fun i hi => h i (by omega))
    have := h n (by omega)
    rw [sm, sm]; omega
/-- 1 where a pair, in whatever order it is given, is turned by g. -/
noncomputable def trn (g : Nat → Nat) (x y : Nat) : Nat := ch (x < y ∧ g y < g x) + ch (y < x ∧ g x < g y)
theorem invs_mul {n : Nat} {f g : Nat → Nat} (h : Prm n f) (hg : Prm n g) : invs (fun i => g (f i)) n % 2 = (invs f n + invs g n) % 2 := by
  have hp := sm_pairs_prm (t := trn g) (fun x y => by unfold trn; omega) (fun x => by unfold trn; rw [ch_false (fun h => by omega)]) h
  have h1 : invs g n = sm n (fun i => sm i fun k => trn g i k) := by
    unfold invs
    refine sm_congr n fun i hi => sm_congr i fun k hk => ?_
    unfold trn
    rw [ch_false (P := i < k ∧ g k < g i) (fun h => by omega), Nat.zero_add]
    exact ch_congr ⟨fun h => ⟨hk, h⟩, fun h => h.2⟩
  rw [h1, ← hp]
  unfold invs
  rw [← sm_add]
  refine sm_mod n fun i hi => ?_
  rw [← sm_add]
  refine sm_mod i fun k hk => ?_
  have n1 : f i ≠ f k := fun e => by have := h.inj i k hi (by omega) e; omega
  have n2 : g (f i) ≠ g (f k) := fun e => n1 (hg.inj _ _ (h.lt i hi) (h.lt k (by omega)) e)
  unfold trn
  by_cases hlt : f i < f k
  · rw [ch_true hlt, ch_false (P := f k < f i ∧ g (f i) < g (f k)) (fun h => by omega)]
    by_cases hgl : g (f i) < g (f k)
    · rw [ch_true hgl, ch_false (fun h => by omega)]
    · rw [ch_false hgl, ch_true ⟨hlt, by omega⟩]
  · rw [ch_false hlt, ch_false (P := f i < f k ∧ g (f k) < g (f i)) (fun h => by omega)]
    by_cases hgl : g (f i) < g (f k)
    · rw [ch_true hgl, ch_true ⟨by omega, hgl⟩]
    · rw [ch_false hgl, ch_false (fun h => by omega)]

end Go.Proofs.Ytjpebcomecoheaa

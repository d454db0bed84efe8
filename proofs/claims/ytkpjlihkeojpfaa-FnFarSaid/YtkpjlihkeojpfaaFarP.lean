/-
  Distances, plain: breadth first with one vertex at a time, and rounds of relaxing.
-/
import Derived.Test.YtkpjlihkeojpfaaOrb
namespace Go.Proofs.Ytkpjlihkeojpfaa
open Go.RowKit

/-- All darts of one vertex are reached. -/
def reachS (t : List Int) (e : Int) : Nat → Nat → List Int → List Nat → List Int × List Nat
  | 0, _, F, Q => (F, Q)
  | k + 1, d, F, Q => if gi F d < 0 then reachS t e k (gn t d) (F.set d e) (Q ++ [d]) else (F, Q)
def bfsS (t f : List Int) (n : Nat) : Nat → Nat → List Int → List Nat → List Int × List Nat
  | 0, _, F, Q => (F, Q)
  | k + 1, a, F, Q => if a < Q.length then
      bfsS t f n k (a + 1) (reachS t (gi F (Q.getD a 0) + 1) (n - Q.length) (gn f (Q.getD a 0)) F Q).1 (reachS t (gi F (Q.getD a 0) + 1) (n - Q.length) (gn f (Q.getD a 0)) F Q).2
    else (F, Q)
def startS (t : List Int) (x : Nat) : List Int × List Nat := reachS t 0 t.length x (List.replicate t.length (-1)) []
def farL (t f : List Int) (x : Nat) : List Int := (bfsS t f t.length t.length 0 (startS t x).1 (startS t x).2).1

/-- A way of k edges, in s steps. -/
inductive Way (t f : List Int) (x : Nat) : Nat → Nat → Nat → Prop
  | here : Way t f x x 0 0
  | turn {d k s : Nat} (h : Way t f x d k s) : Way t f x (gn t d) k (s + 1)
  | flip {d k s : Nat} (h : Way t f x d k s) : Way t f x (gn f d) (k + 1) (s + 1)
theorem Way.le {t f : List Int} {x d k s : Nat} (h : Way t f x d k s) : k ≤ s := by induction h <;> omega

/-- What is reached is in the queue. -/
structure FQ (n : Nat) (F : List Int) (Q : List Nat) : Prop where
  len : F.length = n
  nd : Q.Nodup
  lt : ∀ d, d ∈ Q → d < n
  mrk : ∀ d, d < n → (0 ≤ gi F d ↔ d ∈ Q)
section
variable {n : Nat} {F : List Int} {Q : List Nat}
theorem FQ.short (h : FQ n F Q) : Q.length ≤ n := nodup_len n Q h.nd h.lt
theorem FQ.full (h : FQ n F Q) (he : Q.length = n) {d : Nat} (hd : d < n) : d ∈ Q := Classical.byContradiction fun hc => by
  have := nodup_len n (d :: Q) (List.nodup_cons.2 ⟨hc, h.nd⟩) (fun j hj => by rcases List.mem_cons.1 hj with rfl | hj; exact hd; exact h.lt j hj)
  simp at this; omega
theorem FQ.push (h : FQ n F Q) {d : Nat} (hd : d < n) (hm : d ∉ Q) {e : Int} (he : 0 ≤ e) : FQ n (F.set d e) (Q ++ [d]) := by
  refine ⟨by rw [List.length_set]; exact h.len, ?_, ?_, ?_⟩
  · refine List.nodup_append.2 ⟨h.nd, by simp, ?_⟩
    intro a ha b hb e
    have : b = d := by simpa using hb
    subst this; subst e; exact hm ha
  · intro j hj
    rcases List.mem_append.1 hj with hj | hj
    · exact h.lt j hj
    · have : j = d := by simpa using hj
      subst this; exact hd
  · intro j hj
    rw [gi_set _ _ _ _ (by rw [h.len]; exact hd)]
    by_cases e : j = d
    · rw [if_pos e]; exact ⟨fun _ => by simp [e], fun _ => he⟩
    · rw [if_neg e, h.mrk j hj]; simp [e]
theorem FQ.start (n : Nat) : FQ n (List.replicate n (-1)) [] :=
  ⟨by simp, by simp, fun d hd => by simp at hd, fun d hd => by
    have : gi (List.replicate n (-1 : Int)) d = -1 := by rw [gi_eq (by simpa using hd)]; simp
    rw [this]; simp⟩
end

/-- What reaching adds: d and what it turns to. -/
structure Added (t : List Int) (e : Int) (d : Nat) (F0 : List Int) (Q0 : List Nat) (x : Nat) (F : List Int) (Q : List Nat) : Prop where
  fq : FQ t.length F Q
  ex : ∃ N : List Nat, Q = Q0 ++ N ∧ x = it t N.length d ∧ (∀ i, i < N.length → N.getD i 0 = it t i d) ∧ (∀ y, y ∈ N → gi F y = e) ∧ ∀ y, y ∈ Q0 → gi F y = gi F0 y
theorem Added.start {t : List Int} {e : Int} {d : Nat} {F : List Int} {Q : List Nat} (h : FQ t.length F Q) : Added t e d F Q d F Q :=
  ⟨h, [], by simp, rfl, fun i hi => absurd hi (by simp), fun y hy => absurd hy (by simp), fun _ _ => rfl⟩
theorem itf_lt {t : List Int} (ht : Vld t) {d : Nat} (hd : d < t.length) : ∀ k, it t k d < t.length
  | 0 => hd
  | k + 1 => ht.gn_lt (itf_lt ht hd k)
theorem Added.more {t : List Int} {e : Int} {d x : Nat} {F0 F : List Int} {Q0 Q : List Nat} (h : Added t e d F0 Q0 x F Q) (ht : Vld t) (hd : d < t.length) (he : 0 ≤ e) (hx : gi F x < 0) :
    Added t e d F0 Q0 (gn t x) (F.set x e) (Q ++ [x]) := by
  obtain ⟨hf, N, hq, hxn, hN, hNe, hold⟩ := h
  have hxl : x < t.length := by rw [hxn]; exact itf_lt ht hd _
  have hxq : x ∉ Q := fun hc => by have := (hf.mrk x hxl).2 hc; omega
  refine ⟨hf.push hxl hxq he, N ++ [x], by rw [hq, List.append_assoc], by rw [List.length_append, hxn]; rfl, ?_, ?_, ?_⟩
  · intro i hi
    by_cases hl : i < N.length
    · rw [List.getD, List.getElem?_append_left hl]; exact hN i hl
    · have : i = N.length := by simp at hi; omega
      subst this
      rw [List.getD, List.getElem?_append_right (Nat.le_refl _), Nat.sub_self, hxn]; rfl
  · intro y hy
    rw [gi_set _ _ _ _ (by rw [hf.len]; exact hxl)]
    by_cases e' : y = x
    · rw [if_pos e']
    · rw [if_neg e']
      refine hNe y ?_
      rcases List.mem_append.1 hy with hy | hy
      · exact hy
      · exact absurd (by simpa using hy) e'
  · intro y hy
    have hne : y ≠ x := fun hc => hxq (by rw [hq, ← hc]; exact List.mem_append_left _ hy)
    rw [gi_set _ _ _ _ (by rw [hf.len]; exact hxl), if_neg hne]
    exact hold y hy

/-- Reaching ends at a dart that is marked. -/
theorem reachS_ok {t : List Int} {e : Int} {d : Nat} {F0 : List Int} {Q0 : List Nat} (ht : Vld t) (hd : d < t.length) (he : 0 ≤ e) :
    ∀ (k x : Nat) (F : List Int) (Q : List Nat), Added t e d F0 Q0 x F Q → k + Q.length = t.length → ∃ x', Added t e d F0 Q0 x' (reachS t e k x F Q).1 (reachS t e k x F Q).2 ∧ 0 ≤ gi (reachS t e k x F Q).1 x'
  | 0, x, F, Q, h, hk => by
    have hxl : x < t.length := by obtain ⟨_, N, _, hxn, _⟩ := h; rw [hxn]; exact itf_lt ht hd _
    exact ⟨x, h, (h.fq.mrk x hxl).2 (h.fq.full (by omega) hxl)⟩
  | k + 1, x, F, Q, h, hk => by
    by_cases hx : gi F x < 0
    · rw [reachS, if_pos hx]
      exact reachS_ok ht hd he k _ _ _ (h.more ht hd he hx) (by simp; omega)
    · rw [reachS, if_neg hx]
      exact ⟨x, h, by show 0 ≤ gi F x; omega⟩

/-- A set that is closed under a permutation is so backwards too. -/
theorem closed_back {t : List Int} (ht : Vld t) {Q : List Nat} (hc : ∀ y, y ∈ Q → gn t y ∈ Q) {y : Nat} (hy : y < t.length) (h : gn t y ∈ Q) : y ∈ Q := by
  obtain ⟨k, hk⟩ := it_round ht hy
  rw [← hk]
  have : ∀ k, it t k (gn t y) ∈ Q := fun k => by
    induction k with
    | zero => exact h
    | succ k ih => exact hc _ ih
  exact this k

/-- The search, a darts of the queue done. -/
structure Far (t f : List Int) (x0 : Nat) (F : List Int) (Q : List Nat) (a : Nat) : Prop where
  fq : FQ t.length F Q
  le : a ≤ Q.length
  zero : x0 ∈ Q ∧ gi F x0 = 0
  turn : ∀ y, y ∈ Q → gn t y ∈ Q ∧ gi F (gn t y) = gi F y
  mono : ∀ p q, p ≤ q → q < Q.length → gi F (Q.getD p 0) ≤ gi F (Q.getD q 0)
  near : ∀ q, q < Q.length → a < Q.length → gi F (Q.getD q 0) ≤ gi F (Q.getD a 0) + 1
  done : ∀ p, p < a → gn f (Q.getD p 0) ∈ Q ∧ gi F (gn f (Q.getD p 0)) ≤ gi F (Q.getD p 0) + 1
  way : ∀ p, p < Q.length → ∃ s, s ≤ p ∧ Way t f x0 (Q.getD p 0) (gi F (Q.getD p 0)).toNat s

/-- What all have in common that are reached at once. -/
theorem Added.closed {t : List Int} {e : Int} {d x : Nat} {F0 F : List Int} {Q0 Q : List Nat} (h : Added t e d F0 Q0 x F Q) (ht : Vld t) (hd : d < t.length) (hx : 0 ≤ gi F x)
    (h0 : ∀ y, y ∈ Q0 → gn t y ∈ Q0 ∧ gi F0 (gn t y) = gi F0 y) : (∀ y, y ∈ Q → gn t y ∈ Q ∧ gi F (gn t y) = gi F y) ∧ d ∈ Q := by
  obtain ⟨hf, N, hq, hxn, hN, hNe, hold⟩ := h
  have hxl : x < t.length := by rw [hxn]; exact itf_lt ht hd _
  have hxq := (hf.mrk x hxl).1 hx
  have hdis : ∀ y, y ∈ Q0 → y ∉ N := fun y hy hc => by
    have := hf.nd; rw [hq] at this
    exact (List.nodup_append.1 this).2.2 y hy y hc rfl
  constructor
  · intro y hy
    rw [hq] at hy
    rcases List.mem_append.1 hy with hy | hy
    · obtain ⟨h1, h2⟩ := h0 y hy
      exact ⟨by rw [hq]; exact List.mem_append_left _ h1, by rw [hold _ h1, hold _ hy]; exact h2⟩
    · obtain ⟨i, hi, rfl⟩ := List.getElem_of_mem hy
      have ei : N[i] = it t i d := by have := hN i hi; rwa [List.getD, List.getElem?_eq_getElem hi, Option.getD_some] at this
      have hyl : N[i] < t.length := by rw [ei]; exact itf_lt ht hd _
      have et : gn t N[i] = it t (i + 1) d := by rw [ei]; rfl
      have key : gn t N[i] ∈ N := by
        by_cases hl : i + 1 < N.length
        · have := hN (i + 1) hl
          rw [List.getD, List.getElem?_eq_getElem hl, Option.getD_some] at this
          rw [et, ← this]; exact List.getElem_mem hl
        · have e2 : x = gn t N[i] := by rw [hxn, et, show N.length = i + 1 by omega]
          rw [hq, e2] at hxq
          rcases List.mem_append.1 hxq with hc | hc
          · exact absurd hy (hdis _ (closed_back ht (fun y hy => (h0 y hy).1) hyl hc))
          · exact hc
      exact ⟨by rw [hq]; exact List.mem_append_right _ key, by rw [hNe _ key, hNe _ hy]⟩
  · by_cases hl : 0 < N.length
    · have := hN 0 hl
      rw [List.getD, List.getElem?_eq_getElem hl, Option.getD_some] at this
      rw [hq]; refine List.mem_append_right _ ?_
      rw [show d = N[0] from this.symm]; exact List.getElem_mem hl
    · rw [show N.length = 0 by omega] at hxn
      rw [show d = x from hxn.symm]; exact hxq
theorem getD_left {a b : List Nat} {p : Nat} (h : p < a.length) : (a ++ b).getD p 0 = a.getD p 0 := by simp [List.getD, List.getElem?_append_left h]
theorem getD_mem {a : List Nat} {p : Nat} (h : p < a.length) : a.getD p 0 ∈ a := by
  rw [List.getD, List.getElem?_eq_getElem h, Option.getD_some]; exact List.getElem_mem h
theorem getD_right {a b : List Nat} {p : Nat} (h : a.length ≤ p) : (a ++ b).getD p 0 = b.getD (p - a.length) 0 := by simp [List.getD, List.getElem?_append_right h]

/-- One dart of the queue more. -/
theorem Far.step {t f : List Int} {x0 a : Nat} {F : List Int} {Q : List Nat} (h : Far t f x0 F Q a) (ht : Vld t) (hf : Vld f) (hl : t.length = f.length) (ha : a < Q.length)
    {F' : List Int} {Q' : List Nat} {x : Nat} (hA : Added t (gi F (Q.getD a 0) + 1) (gn f (Q.getD a 0)) F Q x F' Q') (hx : 0 ≤ gi F' x) : Far t f x0 F' Q' (a + 1) := by
  have hda := h.fq.lt _ (getD_mem ha)
  have hd : gn f (Q.getD a 0) < t.length := by rw [hl]; exact hf.gn_lt (by rw [← hl]; exact hda)
  have h0a := (h.fq.mrk _ hda).2 (getD_mem ha)
  obtain ⟨hturn, hdq⟩ := hA.closed ht hd hx h.turn
  obtain ⟨hq', N, hq, hxn, hN, hNe, hold⟩ := hA
  have hlen : Q'.length = Q.length + N.length := by rw [hq, List.length_append]
  have oldg : ∀ p, p < Q.length → Q'.getD p 0 = Q.getD p 0 ∧ gi F' (Q'.getD p 0) = gi F (Q.getD p 0) := fun p hp => by
    have e : Q'.getD p 0 = Q.getD p 0 := by rw [hq, getD_left hp]
    exact ⟨e, by rw [e]; exact hold _ (getD_mem hp)⟩
  have newg : ∀ p, Q.length ≤ p → p < Q'.length → Q'.getD p 0 = it t (p - Q.length) (gn f (Q.getD a 0)) ∧ gi F' (Q'.getD p 0) = gi F (Q.getD a 0) + 1 := fun p hp hp' => by
    have hi : p - Q.length < N.length := by omega
    have e : Q'.getD p 0 = N.getD (p - Q.length) 0 := by rw [hq, getD_right hp]
    exact ⟨by rw [e]; exact hN _ hi, by rw [e]; exact hNe _ (getD_mem hi)⟩
  have hnear' : ∀ q, q < Q'.length → gi F' (Q'.getD q 0) ≤ gi F (Q.getD a 0) + 1 := fun q hq2 => by
    by_cases h1 : q < Q.length
    · rw [(oldg q h1).2]; exact h.near q h1 ha
    · rw [(newg q (by omega) hq2).2]; exact Int.le_refl _
  have hmono : ∀ p q, p ≤ q → q < Q'.length → gi F' (Q'.getD p 0) ≤ gi F' (Q'.getD q 0) := fun p q hpq hq2 => by
    by_cases h1 : q < Q.length
    · rw [(oldg q h1).2, (oldg p (by omega)).2]; exact h.mono p q hpq h1
    · rw [(newg q (by omega) hq2).2]; exact hnear' p (by omega)
  refine ⟨hq', by omega, ⟨by rw [hq]; exact List.mem_append_left _ h.zero.1, by rw [hold _ h.zero.1]; exact h.zero.2⟩, hturn, hmono, ?_, ?_, ?_⟩
  · intro q hq2 ha2
    have h1 := hnear' q hq2
    have h2 := hmono a (a + 1) (by omega) ha2
    rw [(oldg a ha).2] at h2
    omega
  · intro p hp
    by_cases e : p = a
    · rw [e, (oldg a ha).1]
      refine ⟨hdq, ?_⟩
      rw [hold _ (getD_mem ha)]
      obtain ⟨i, hi, e2⟩ := List.getElem_of_mem hdq
      have e3 : Q'.getD i 0 = gn f (Q.getD a 0) := by rw [List.getD, List.getElem?_eq_getElem hi, Option.getD_some]; exact e2
      have := hnear' i hi
      rw [e3] at this
      exact this
    · have hpq : p < Q.length := by omega
      obtain ⟨h1, h2⟩ := h.done p (by omega)
      rw [(oldg p hpq).1]
      exact ⟨by rw [hq]; exact List.mem_append_left _ h1, by rw [hold _ h1, hold _ (getD_mem hpq)]; exact h2⟩
  · intro p hp
    by_cases h1 : p < Q.length
    · obtain ⟨s, hs, hw⟩ := h.way p h1
      rw [(oldg p h1).1, hold _ (getD_mem h1)]
      exact ⟨s, hs, hw⟩
    · obtain ⟨s, hs, hw⟩ := h.way a ha
      obtain ⟨e1, e2⟩ := newg p (by omega) hp
      rw [e2, e1, show (gi F (Q.getD a 0) + 1).toNat = (gi F (Q.getD a 0)).toNat + 1 by omega]
      have : ∀ i, Way t f x0 (it t i (gn f (Q.getD a 0))) ((gi F (Q.getD a 0)).toNat + 1) (s + 1 + i) := fun i => by
        induction i with
        | zero => exact hw.flip
        | succ i ih => exact ih.turn
      exact ⟨_, by omega, this (p - Q.length)⟩

theorem Far.begin {t f : List Int} {x0 : Nat} (ht : Vld t) (hx0 : x0 < t.length) {F : List Int} {Q : List Nat} {x : Nat}
    (hA : Added t 0 x0 (List.replicate t.length (-1)) [] x F Q) (hx : 0 ≤ gi F x) : Far t f x0 F Q 0 := by
  obtain ⟨hturn, hdq⟩ := hA.closed ht hx0 hx (fun y hy => by simp at hy)
  obtain ⟨hq', N, hq, hxn, hN, hNe, hold⟩ := hA
  rw [List.nil_append] at hq
  subst hq
  have hz : ∀ p, p < Q.length → gi F (Q.getD p 0) = 0 := fun p hp => hNe _ (getD_mem hp)
  refine ⟨hq', Nat.zero_le _, ⟨hdq, hNe _ hdq⟩, hturn, fun p q hpq hq => by rw [hz q hq, hz p (by omega)]; exact Int.le_refl _, fun q hq h0 => by rw [hz q hq, hz 0 h0]; omega, fun p hp => absurd hp (by omega), ?_⟩
  intro p hp
  rw [hz p hp, hN p hp]
  have : ∀ i, Way t f x0 (it t i x0) 0 i := fun i => by
    induction i with
    | zero => exact .here
    | succ i ih => exact ih.turn
  exact ⟨p, Nat.le_refl _, this p⟩

theorem bfsS_ok {t f : List Int} {x0 : Nat} (ht : Vld t) (hf : Vld f) (hl : t.length = f.length) : ∀ (k a : Nat) (F : List Int) (Q : List Nat), Far t f x0 F Q a → k + a = t.length →
    Far t f x0 (bfsS t f t.length k a F Q).1 (bfsS t f t.length k a F Q).2 (bfsS t f t.length k a F Q).2.length
  | 0, a, F, Q, h, hk => by
    have := h.fq.short; have := h.le
    have e : a = Q.length := by omega
    rw [bfsS]; show Far t f x0 F Q Q.length
    rw [← e]; exact h
  | k + 1, a, F, Q, h, hk => by
    by_cases ha : a < Q.length
    · rw [bfsS, if_pos ha]
      have hda := h.fq.lt _ (getD_mem ha)
      have h0a := (h.fq.mrk _ hda).2 (getD_mem ha)
      obtain ⟨x, h1, h2⟩ := reachS_ok ht (show gn f (Q.getD a 0) < t.length by rw [hl]; exact hf.gn_lt (by rw [← hl]; exact hda)) (show 0 ≤ gi F (Q.getD a 0) + 1 by omega) (t.length - Q.length) _ _ _ (.start h.fq) (by have := h.fq.short; omega)
      exact bfsS_ok ht hf hl k (a + 1) _ _ (h.step ht hf hl ha h1 h2) (by omega)
    · rw [bfsS, if_neg ha]
      show Far t f x0 F Q Q.length
      have := h.le
      have e : a = Q.length := by omega
      rw [← e]; exact h

theorem far_start {t f : List Int} {x0 : Nat} (hm : IsMap t f) (hx0 : x0 < t.length) : Far t f x0 (startS t x0).1 (startS t x0).2 0 := by
  obtain ⟨x, h1, h2⟩ := reachS_ok hm.turn hx0 (Int.le_refl 0) t.length _ _ _ (.start (.start t.length)) (by simp)
  exact Far.begin (f := f) hm.turn hx0 h1 h2
theorem Far.next {t f : List Int} {x0 a : Nat} {F : List Int} {Q : List Nat} (h : Far t f x0 F Q a) (hm : IsMap t f) (ha : a < Q.length) :
    Far t f x0 (reachS t (gi F (Q.getD a 0) + 1) (t.length - Q.length) (gn f (Q.getD a 0)) F Q).1 (reachS t (gi F (Q.getD a 0) + 1) (t.length - Q.length) (gn f (Q.getD a 0)) F Q).2 (a + 1) := by
  have hda := h.fq.lt _ (getD_mem ha)
  have h0a := (h.fq.mrk _ hda).2 (getD_mem ha)
  obtain ⟨x, h1, h2⟩ := reachS_ok hm.turn (show gn f (Q.getD a 0) < t.length by rw [hm.len]; exact hm.flip.gn_lt (by rw [← hm.len]; exact hda)) (show 0 ≤ gi F (Q.getD a 0) + 1 by omega) (t.length - Q.length) _ _ _ (.start h.fq) (by have := h.fq.short; omega)
  exact h.step hm.turn hm.flip hm.len ha h1 h2
theorem Far.val {t f : List Int} {x0 a : Nat} {F : List Int} {Q : List Nat} (h : Far t f x0 F Q a) {d : Nat} (hd : d ∈ Q) : 0 ≤ gi F d ∧ gi F d ≤ t.length := by
  obtain ⟨i, hi, e⟩ := List.getElem_of_mem hd
  obtain ⟨s, hs, hw⟩ := h.way i hi
  rw [show Q.getD i 0 = d by rw [List.getD, List.getElem?_eq_getElem hi, Option.getD_some]; exact e] at hw
  have := hw.le; have := h.fq.short
  have := (h.fq.mrk d (h.fq.lt d hd)).2 hd
  omega

/-- What distances are. -/
structure IsFar (t f : List Int) (x0 : Nat) (F : List Int) : Prop where
  len : F.length = t.length
  ge : ∀ d, d < t.length → 0 ≤ gi F d
  way : ∀ d, d < t.length → ∃ s, s < t.length ∧ Way t f x0 d (gi F d).toNat s
  least : ∀ d k s, Way t f x0 d k s → gi F d ≤ k
theorem lead_way {t f : List Int} {x d : Nat} (h : Lead t f x d) : ∃ k s, Way t f x d k s := by
  induction h with
  | refl => exact ⟨0, 0, .here⟩
  | one _ ih => obtain ⟨k, s, h⟩ := ih; exact ⟨_, _, h.turn⟩
  | two _ ih => obtain ⟨k, s, h⟩ := ih; exact ⟨_, _, h.flip⟩
theorem far_is {t f : List Int} {x0 : Nat} (hm : IsMap t f) (hx0 : x0 < t.length) : IsFar t f x0 (farL t f x0) := by
  obtain ⟨x, h1, h2⟩ := reachS_ok hm.turn hx0 (Int.le_refl 0) t.length _ _ _ (.start (.start t.length)) (by simp)
  have hb : Far t f x0 (farL t f x0) (bfsS t f t.length t.length 0 (startS t x0).1 (startS t x0).2).2 (bfsS t f t.length t.length 0 (startS t x0).1 (startS t x0).2).2.length :=
    bfsS_ok hm.turn hm.flip hm.len t.length 0 _ _ (Far.begin (f := f) hm.turn hx0 h1 h2) (by omega)
  obtain ⟨QQ, hQQ⟩ : ∃ QQ, (bfsS t f t.length t.length 0 (startS t x0).1 (startS t x0).2).2 = QQ := ⟨_, rfl⟩
  rw [hQQ] at hb
  have hle : ∀ d k s, Way t f x0 d k s → d ∈ QQ ∧ gi (farL t f x0) d ≤ k := by
    intro d k s hw
    induction hw with
    | here => exact ⟨hb.zero.1, by have := hb.zero.2; omega⟩
    | turn _ ih => exact ⟨(hb.turn _ ih.1).1, by have := (hb.turn _ ih.1).2; omega⟩
    | @flip d k s _ ih =>
      obtain ⟨i, hi, e2⟩ := List.getElem_of_mem ih.1
      have := hb.done i hi
      rw [show List.getD _ i 0 = d by rw [List.getD, List.getElem?_eq_getElem hi, Option.getD_some]; exact e2] at this
      refine ⟨this.1, ?_⟩
      have h3 := this.2; have h4 := ih.2
      omega
  have hin : ∀ d, d < t.length → d ∈ QQ := fun d hd => by
    obtain ⟨k, s, h⟩ := lead_way (hm.lead hx0 hd)
    exact (hle d k s h).1
  refine ⟨hb.fq.len, fun d hd => (hb.fq.mrk d hd).2 (hin d hd), fun d hd => ?_, fun d k s h => (hle d k s h).2⟩
  obtain ⟨i, hi, e2⟩ := List.getElem_of_mem (hin d hd)
  obtain ⟨s, hs, hw⟩ := hb.way i hi
  rw [show List.getD _ i 0 = d by rw [List.getD, List.getElem?_eq_getElem hi, Option.getD_some]; exact e2] at hw
  have := hb.fq.short
  exact ⟨s, Nat.lt_of_le_of_lt hs (Nat.lt_of_lt_of_le hi this), hw⟩
theorem IsFar.small {t f F : List Int} {x0 : Nat} (h : IsFar t f x0 F) {d : Nat} (hd : d < t.length) : 0 ≤ gi F d ∧ gi F d < t.length := by
  obtain ⟨s, hs, hw⟩ := h.way d hd
  have := hw.le; have := h.ge d hd
  omega

/-- Distances from above: the rounds of the model. -/
structure Rel (t f : List Int) (x0 : Nat) (R : Nat) (G : List Int) : Prop where
  len : G.length = t.length
  in_ : ∀ d, d < t.length → 0 ≤ gi G d ∧ gi G d ≤ t.length
  sound : ∀ d, d < t.length → gi G d = t.length ∨ ∃ s, Way t f x0 d (gi G d).toNat s
  near : ∀ d k s, s ≤ R → Way t f x0 d k s → gi G d ≤ k
/-- In a round, i darts done. -/
structure RelI (t f : List Int) (x0 : Nat) (G0 : List Int) (i : Nat) (G : List Int) : Prop where
  len : G.length = t.length
  in_ : ∀ d, d < t.length → 0 ≤ gi G d ∧ gi G d ≤ t.length
  sound : ∀ d, d < t.length → gi G d = t.length ∨ ∃ s, Way t f x0 d (gi G d).toNat s
  le : ∀ d, d < t.length → gi G d ≤ gi G0 d
  done : ∀ j, j < i → gi G j ≤ gi G0 (gn f j) + 1 ∧ gi G (gn t j) ≤ gi G0 j
theorem Rel.inner {t f G : List Int} {x0 R : Nat} (h : Rel t f x0 R G) : RelI t f x0 G 0 G := ⟨h.len, h.in_, h.sound, fun _ _ => Int.le_refl _, fun j hj => absurd hj (by omega)⟩
theorem way_lt {t f : List Int} {x0 d k s : Nat} (hm : IsMap t f) (hx0 : x0 < t.length) (h : Way t f x0 d k s) : d < t.length := by
  induction h with
  | here => exact hx0
  | turn _ ih => exact hm.turn.gn_lt ih
  | flip _ ih => rw [hm.len]; exact hm.flip.gn_lt (by rw [← hm.len]; exact ih)
theorem RelI.outer {t f G0 G : List Int} {x0 R : Nat} (h0 : Rel t f x0 R G0) (h : RelI t f x0 G0 t.length G) (hm : IsMap t f) (hx0 : x0 < t.length) : Rel t f x0 (R + 1) G := by
  refine ⟨h.len, h.in_, h.sound, ?_⟩
  intro d k s hs hw
  cases hw with
  | here => exact Int.le_trans (h.le _ hx0) (h0.near _ _ _ (Nat.zero_le _) .here)
  | turn hw =>
    have h1 := h0.near _ _ _ (by omega) hw
    have h2 := (h.done _ (way_lt hm hx0 hw)).2
    omega
  | @flip d' k' s' hw =>
    have h1 := h0.near _ _ _ (by omega) hw
    have hd := way_lt hm hx0 hw
    have hfd : gn f d' < t.length := by rw [hm.len]; exact hm.flip.gn_lt (by rw [← hm.len]; exact hd)
    have h2 := (h.done _ hfd).1
    rw [(hm.paired d' (by rw [← hm.len]; exact hd)).2] at h2
    omega
theorem RelI.step {t f G0 G G1 G2 : List Int} {x0 i : Nat} (h : RelI t f x0 G0 i G) (hm : IsMap t f) (hi : i < t.length)
    (e1 : G1 = G.set i (min (gi G i) (gi G (gn f i) + 1))) (e2 : G2 = G1.set (gn t i) (min (gi G1 (gn t i)) (gi G1 i))) : RelI t f x0 G0 (i + 1) G2 := by
  have hfi : gn f i < t.length := by rw [hm.len]; exact hm.flip.gn_lt (by rw [← hm.len]; exact hi)
  have hti := hm.turn.gn_lt hi
  have l1 : G1.length = t.length := by rw [e1, List.length_set]; exact h.len
  have g1 : ∀ j, gi G1 j = if j = i then min (gi G i) (gi G (gn f i) + 1) else gi G j := fun j => by rw [e1, gi_set _ _ _ _ (by rw [h.len]; exact hi)]
  have g2 : ∀ j, gi G2 j = if j = gn t i then min (gi G1 (gn t i)) (gi G1 i) else gi G1 j := fun j => by rw [e2, gi_set _ _ _ _ (by rw [l1]; exact hti)]
  have hin1 : ∀ d, d < t.length → 0 ≤ gi G1 d ∧ gi G1 d ≤ t.length := fun d hd => by
    have := h.in_ d hd; have := h.in_ i hi; have := h.in_ _ hfi
    rw [g1]; split <;> omega
  have hs1 : ∀ d, d < t.length → gi G1 d = t.length ∨ ∃ s, Way t f x0 d (gi G1 d).toNat s := fun d hd => by
    rw [g1]
    by_cases e : d = i
    · rw [if_pos e]
      by_cases hlt : gi G i ≤ gi G (gn f i) + 1
      · rw [Int.min_eq_left hlt, e]; exact h.sound i hi
      · rw [Int.min_eq_right (by omega), e]
        have := h.in_ i hi; have h6 := h.in_ _ hfi
        rcases h.sound _ hfi with h5 | ⟨s, h5⟩
        · omega
        · have h7 := h5.flip
          rw [(hm.paired i (by rw [← hm.len]; exact hi)).2] at h7
          exact Or.inr ⟨_, by rw [show (gi G (gn f i) + 1).toNat = (gi G (gn f i)).toNat + 1 by omega]; exact h7⟩
    · rw [if_neg e]; exact h.sound d hd
  have le1 : ∀ d, gi G1 d ≤ gi G d := fun d => by
    rw [g1]; split
    · rename_i e; rw [e]; omega
    · exact Int.le_refl _
  have le2 : ∀ d, gi G2 d ≤ gi G1 d := fun d => by
    rw [g2]; split
    · rename_i e; rw [e]; omega
    · exact Int.le_refl _
  refine ⟨by rw [e2, List.length_set]; exact l1, ?_, ?_, ?_, ?_⟩
  · intro d hd
    have := hin1 d hd; have := hin1 i hi; have := hin1 _ hti
    rw [g2]; split <;> omega
  · intro d hd
    rw [g2]
    by_cases e : d = gn t i
    · rw [if_pos e]
      by_cases hlt : gi G1 (gn t i) ≤ gi G1 i
      · rw [Int.min_eq_left hlt, e]; exact hs1 _ hti
      · rw [Int.min_eq_right (by omega), e]
        rcases hs1 i hi with h5 | ⟨s, h5⟩
        · have := hin1 _ hti; omega
        · exact Or.inr ⟨_, h5.turn⟩
    · rw [if_neg e]; exact hs1 d hd
  · intro d hd
    have := le2 d; have := le1 d; have := h.le d hd
    omega
  · intro j hj
    by_cases e : j = i
    · subst e
      have a1 := le2 j; have a2 := g1 j; have a3 := h.le _ hfi; have a4 := g2 (gn t j); have a5 := h.le j hi; have a6 := le1 j
      rw [if_pos rfl] at a2 a4
      constructor <;> omega
    · have hj2 : j < i := by omega
      obtain ⟨b1, b2⟩ := h.done j hj2
      have a1 := le2 j; have a2 := le1 j; have a3 := le2 (gn t j); have a4 := le1 (gn t j)
      constructor <;> omega
theorem Rel.start {t f : List Int} {x0 : Nat} (hx0 : x0 < t.length) {G : List Int} (e : G = (List.replicate t.length (t.length : Int)).set x0 0) : Rel t f x0 0 G := by
  have g : ∀ j, j < t.length → gi G j = if j = x0 then 0 else (t.length : Int) := fun j hj => by
    rw [e, gi_set _ _ _ _ (by simpa using hx0)]
    by_cases e : j = x0
    · rw [if_pos e, if_pos e]
    · rw [if_neg e, if_neg e, gi_eq (by simpa using hj)]; simp
  refine ⟨by rw [e]; simp, fun d hd => by rw [g d hd]; split <;> omega, fun d hd => ?_, ?_⟩
  · rw [g d hd]
    by_cases e : d = x0
    · rw [if_pos e, e]; exact Or.inr ⟨0, .here⟩
    · rw [if_neg e]; exact Or.inl rfl
  · intro d k s hs hw
    cases hw with
    | here => rw [g x0 hx0, if_pos rfl]; simp
    | turn => omega
    | flip => omega
theorem Rel.done {t f G : List Int} {x0 : Nat} (h : Rel t f x0 (2 * t.length) G) (hm : IsMap t f) (hx0 : x0 < t.length) : G = farL t f x0 := by
  have hF := far_is hm hx0
  refine eq_of_gi (by rw [h.len, hF.len]) (fun d hd => ?_)
  rw [h.len] at hd
  obtain ⟨s, hs, hw⟩ := hF.way d hd
  have h1 := h.near d _ s (by omega) hw
  have h2 := hF.small hd
  have h3 := h.in_ d hd
  rcases h.sound d hd with h4 | ⟨s', h4⟩
  · omega
  · have := hF.least d _ s' h4; omega
end Go.Proofs.Ytkpjlihkeojpfaa

/-
  Plain: the new names of a form, given in the order in which darts are met.
-/
import Derived.Test.YtjpebcomecoheaaMapPlain
namespace Go.Proofs.Ytjpebcomecoheaa

/-- A dart that has no name takes the next one. -/
def nameOne (s : List Int × List Int) (x : Nat) : List Int × List Int := if gi s.1 x = -1 then (s.1.set x (s.2.length : Int), s.2 ++ [(x : Int)]) else s
def nameTwo (t f : List Int) (s : List Int × List Int) (d : Nat) : List Int × List Int := nameOne (nameOne s (gn t d)) (gn f d)
def nameGo (t f : List Int) : Nat → Nat → List Int × List Int → List Int
  | 0, _, s => s.1
  | m + 1, k, s => if k < s.2.length then nameGo t f m (k + 1) (nameTwo t f s (gn s.2 k)) else s.1
def namesL (t f : List Int) (root : Nat) : List Int := nameGo t f (t.length + 1) 0 ((List.replicate t.length (-1)).set root 0, [(root : Int)])

/-- What has been named, and the darts in the order of their names. -/
structure Named (n : Nat) (nm q : List Int) : Prop where
  len : nm.length = n
  nat : ∀ i, i < q.length → gi q i = (gn q i : Int) ∧ gn q i < n ∧ gi nm (gn q i) = (i : Int)
  all : ∀ x, x < n → gi nm x = -1 ∨ ∃ i, i < q.length ∧ gn q i = x
section
variable {n : Nat} {nm q : List Int}
theorem Named.few (h : Named n nm q) : q.length ≤ n := by
  have hnd : ((List.range q.length).map (gn q)).Nodup := by
    rw [List.nodup_iff_pairwise_ne, List.pairwise_map]
    refine List.Pairwise.imp_of_mem ?_ List.pairwise_lt_range
    intro a b ha hb hab e
    have h1 := (h.nat a (List.mem_range.1 ha)).2.2
    have h2 := (h.nat b (List.mem_range.1 hb)).2.2
    rw [e, h2] at h1
    omega
  have := nodup_len n _ hnd (fun j hj => by
    obtain ⟨i, hi, rfl⟩ := List.mem_map.1 hj
    exact (h.nat i (List.mem_range.1 hi)).2.1)
  simpa using this
theorem Named.or (h : Named n nm q) {x : Nat} (hx : x < n) : gi nm x = -1 ∨ ∃ i, i < q.length ∧ gn q i = x ∧ gi nm x = (i : Int) := by
  rcases h.all x hx with h1 | ⟨i, hi, rfl⟩
  · exact .inl h1
  · exact .inr ⟨i, hi, rfl, (h.nat i hi).2.2⟩
theorem Named.one (h : Named n nm q) {x : Nat} (hx : x < n) : Named n (nameOne (nm, q) x).1 (nameOne (nm, q) x).2 := by
  unfold nameOne
  by_cases e : gi nm x = -1
  · rw [if_pos e]
    have hset : ∀ j, gi (nm.set x (q.length : Int)) j = if j = x then (q.length : Int) else gi nm j := fun j => gi_set _ _ _ _ (by rw [h.len]; exact hx)
    refine ⟨by simpa using h.len, fun i hi => ?_, fun y hy => ?_⟩
    · simp only [List.length_append, List.length_cons, List.length_nil] at hi
      by_cases hi' : i < q.length
      · obtain ⟨h1, h2, h3⟩ := h.nat i hi'
        rw [gi_append_left hi', gn_append_left hi', hset]
        refine ⟨h1, h2, ?_⟩
        rw [if_neg (fun e' => by rw [e'] at h3; omega)]
        exact h3
      · obtain rfl : i = q.length := by omega
        rw [gi_append_last, gn_append_last, hset, if_pos rfl]
        exact ⟨rfl, hx, rfl⟩
    · simp only [hset]
      by_cases ey : y = x
      · subst ey
        exact .inr ⟨q.length, by simp, gn_append_last⟩
      · rw [if_neg ey]
        rcases h.all y hy with h1 | ⟨i, hi, h1⟩
        · exact .inl h1
        · exact .inr ⟨i, by simp; omega, by rw [gn_append_left hi]; exact h1⟩
  · rw [if_neg e]; exact h
theorem one_more (nm q : List Int) (x : Nat) : q.length ≤ (nameOne (nm, q) x).2.length ∧ ∀ i, i < q.length → gn (nameOne (nm, q) x).2 i = gn q i := by
  unfold nameOne
  split
  · exact ⟨by simp, fun i hi => gn_append_left hi⟩
  · exact ⟨Nat.le_refl _, fun _ _ => rfl⟩
theorem Named.one_keep (h : Named n nm q) {x y : Nat} (hx : x < n) (hy : gi nm y ≠ -1) : gi (nameOne (nm, q) x).1 y ≠ -1 := by
  unfold nameOne
  split
  · rw [gi_set _ _ _ _ (by rw [h.len]; exact hx)]
    split
    · omega
    · exact hy
  · exact hy
theorem Named.one_has (h : Named n nm q) {x : Nat} (hx : x < n) : gi (nameOne (nm, q) x).1 x ≠ -1 := by
  unfold nameOne
  split
  · rw [gi_set _ _ _ _ (by rw [h.len]; exact hx), if_pos rfl]; omega
  · assumption
end

/-- The outer loop at place k. -/
structure Naming (t f : List Int) (root : Nat) (k : Nat) (nm q : List Int) : Prop where
  named : Named t.length nm q
  le : k ≤ q.length
  eq : namesL t f root = nameGo t f (t.length + 1 - k) k (nm, q)
  seen : ∀ i, i < k → gi nm (gn t (gn q i)) ≠ -1 ∧ gi nm (gn f (gn q i)) ≠ -1
  root : gi nm root ≠ -1
section
variable {t f nm q : List Int} {root k : Nat}
theorem Naming.start (hr : root < t.length) : Naming t f root 0 ((List.replicate t.length (-1)).set root 0) [(root : Int)] := by
  have hset : ∀ j, gi ((List.replicate t.length (-1)).set root 0) j = if j = root then 0 else gi (List.replicate t.length (-1)) j := fun j => gi_set _ _ _ _ (by simpa using hr)
  refine ⟨⟨by simp, fun i hi => ?_, fun x hx => ?_⟩, Nat.zero_le _, rfl, fun i hi => absurd hi (by omega), by rw [hset, if_pos rfl]; omega⟩
  · obtain rfl : i = 0 := by simp at hi; omega
    have e : gn [(root : Int)] 0 = root := by simp [gn, gi]
    rw [e, hset, if_pos rfl]
    exact ⟨by simp [gi], hr, rfl⟩
  · rw [hset]
    by_cases e : x = root
    · exact .inr ⟨0, by simp, by rw [e]; simp [gn, gi]⟩
    · rw [if_neg e]
      left
      rw [gi_eq (by simpa using hx)]; simp
theorem Naming.at_ (h : Naming t f root k nm q) (hk : k < q.length) : gn q k < t.length := (h.named.nat k hk).2.1
theorem Naming.next (ht : Vld t) (hf : Vld f) (hl : t.length = f.length) (h : Naming t f root k nm q) (hk : k < q.length) :
    Naming t f root (k + 1) (nameTwo t f (nm, q) (gn q k)).1 (nameTwo t f (nm, q) (gn q k)).2 := by
  have hd := h.at_ hk
  have hx : gn t (gn q k) < t.length := ht.gn_lt hd
  have hy : gn f (gn q k) < t.length := by rw [hl]; exact hf.gn_lt (by omega)
  have n1 := h.named.one hx
  have n2 := n1.one hy
  have m1 := one_more nm q (gn t (gn q k))
  have m2 := one_more (nameOne (nm, q) (gn t (gn q k))).1 (nameOne (nm, q) (gn t (gn q k))).2 (gn f (gn q k))
  have keep : ∀ z, gi nm z ≠ -1 → gi (nameTwo t f (nm, q) (gn q k)).1 z ≠ -1 := fun z hz => n1.one_keep hy (h.named.one_keep hx hz)
  have hq : ∀ i, i < q.length → gn (nameTwo t f (nm, q) (gn q k)).2 i = gn q i := fun i hi => (m2.2 i (by omega)).trans (m1.2 i hi)
  have hle : q.length ≤ (nameTwo t f (nm, q) (gn q k)).2.length := Nat.le_trans m1.1 m2.1
  have hf1 := h.named.few
  refine ⟨n2, by omega, ?_, fun i hi => ?_, keep _ h.root⟩
  · rw [h.eq, show t.length + 1 - k = (t.length + 1 - (k + 1)) + 1 by omega, nameGo, if_pos hk]
  · rw [hq i (by omega)]
    by_cases e : i = k
    · subst e
      exact ⟨n1.one_keep hy (h.named.one_has hx), n1.one_has hy⟩
    · obtain ⟨s1, s2⟩ := h.seen i (by omega)
      exact ⟨keep _ s1, keep _ s2⟩
theorem Naming.done (hm : IsMap t f) (hr : root < t.length) (h : Naming t f root k nm q) (hk : ¬ k < q.length) : namesL t f root = nm ∧ Vld nm := by
  have hkl : k = q.length := by have := h.le; omega
  have hf1 := h.named.few
  constructor
  · rw [h.eq, show t.length + 1 - k = (t.length - k) + 1 by omega, nameGo, if_neg hk]
  · have hall : ∀ x, x < t.length → gi nm x ≠ -1 := by
      intro x hx
      have l1 : Lead t f 0 root := by have := orb_lead (p := t) (q := f) (x := root); rwa [hm.whole root hr] at this
      have l2 : Lead t f 0 x := by have := orb_lead (p := t) (q := f) (x := x); rwa [hm.whole x hx] at this
      have l3 := (l1.sym hm.turn hm.flip hm.len (by omega)).trans l2
      apply Decidable.byContradiction
      intro hc
      obtain ⟨u, v, hu, hru, hrv, huv⟩ := Lead.turn (R := fun z => gi nm z ≠ -1) l3 h.root hc
      have hul := hu.lt hm.turn hm.flip hm.len hr
      rcases h.named.or hul with h1 | ⟨i, hi, h1, _⟩
      · exact hru h1
      · obtain ⟨s1, s2⟩ := h.seen i (by omega)
        rw [h1] at s1 s2
        rcases huv with rfl | rfl
        · exact hrv s1
        · exact hrv s2
    have hlen := h.named.len
    refine ⟨by rw [hlen]; exact hm.turn.1, by rw [hlen]; exact hm.turn.2.1, fun j hj => ?_, fun j hj i hij e => ?_⟩
    · rw [hlen] at hj ⊢
      rcases h.named.or hj with h1 | ⟨i, hi, _, h1⟩
      · exact absurd h1 (hall j hj)
      · rw [h1]; exact ⟨by omega, by omega⟩
    · rw [hlen] at hj
      rcases h.named.or hj with h1 | ⟨a, ha, h2, h1⟩
      · exact absurd h1 (hall j hj)
      · rcases h.named.or (show i < t.length by omega) with h3 | ⟨b, hb, h4, h3⟩
        · exact absurd h3 (hall i (by omega))
        · rw [h1, h3] at e
          have : a = b := by omega
          subst this
          omega
end

end Go.Proofs.Ytjpebcomecoheaa

/-
  Plain: orbits of two involutions of at most 20 points (the ends of the sides of a word): what is said of permutations, said of them.
-/
import Derived.Test.YtmhalaleoklplaaDoorOrb
namespace Go.Proofs.YtmhalaleoklplaaDoor

def Ivl (xs : List Int) : Prop := 1 ≤ xs.length ∧ xs.length ≤ 20 ∧ (∀ j, j < xs.length → 0 ≤ gi xs j ∧ gi xs j < xs.length) ∧ ∀ j, j < xs.length → gn xs (gn xs j) = j
theorem Ivl.gn_lt {p : List Int} (h : Ivl p) {j : Nat} (hj : j < p.length) : gn p j < p.length := by have := h.2.2.1 j hj; unfold gn; omega
theorem it_roundI {p : List Int} (hp : Ivl p) {x : Nat} (hx : x < p.length) : ∃ k, it p k (gn p x) = x := ⟨1, hp.2.2.2 x hx⟩
section
variable {p q : List Int} {x y z : Nat}
theorem Lead.ltI (hp : Ivl p) (hq : Ivl q) (hl : p.length = q.length) (h : Lead p q x y) (hx : x < p.length) : y < p.length := by
  induction h with
  | refl => exact hx
  | one _ ih => exact hp.gn_lt ih
  | two _ ih => rw [hl]; exact hq.gn_lt (by omega)
theorem Lead.symI (hp : Ivl p) (hq : Ivl q) (hl : p.length = q.length) (h : Lead p q x y) (hx : x < p.length) : Lead p q y x := by
  induction h with
  | refl => exact .refl _
  | @one y h ih =>
    obtain ⟨k, hk⟩ := it_roundI hp (h.ltI hp hq hl hx)
    have h2 := Lead.along1 p q (gn p y) k
    rw [hk] at h2
    exact h2.trans ih
  | @two y h ih =>
    obtain ⟨k, hk⟩ := it_roundI hq (show y < q.length by rw [← hl]; exact h.ltI hp hq hl hx)
    have h2 := Lead.along2 p q (gn q y) k
    rw [hk] at h2
    exact h2.trans ih
theorem orb_eqI (hp : Ivl p) (hq : Ivl q) (hl : p.length = q.length) (h : Lead p q x y) (hx : x < p.length) : orb p q y = orb p q x :=
  Nat.le_antisymm (orb_least (orb_lead.trans h)) (orb_least (orb_lead.trans (h.symI hp hq hl hx)))
theorem orb_oneI (hp : Ivl p) (hq : Ivl q) (hl : p.length = q.length) (hx : x < p.length) : orb p q (gn p x) = orb p q x := orb_eqI hp hq hl (.one (.refl _)) hx
theorem orb_twoI (hp : Ivl p) (hq : Ivl q) (hl : p.length = q.length) (hx : x < p.length) : orb p q (gn q x) = orb p q x := orb_eqI hp hq hl (.two (.refl _)) hx
theorem orb_orbI (hp : Ivl p) (hq : Ivl q) (hl : p.length = q.length) (hx : x < p.length) : orb p q (orb p q x) = orb p q x :=
  (orb_eqI hp hq hl orb_lead (Nat.lt_of_le_of_lt orb_le hx)).symm
theorem Relax.stepI {p q out0 out : List Int} {i : Nat} {v : Int} (hp : Ivl p) (hq : Ivl q) (hl : p.length = q.length) (h : Relax p q out0 i out) (hi : i < p.length)
    (h1 : v ≤ gi out i) (h2 : v ≤ gi out (gn p i)) (h3 : v ≤ gi out (gn q i)) (hv : v = gi out i ∨ v = gi out (gn p i) ∨ v = gi out (gn q i)) :
    Relax p q out0 (i + 1) (((out.set i v).set (gn p i) v).set (gn q i) v) := by
  have hpi := hp.gn_lt hi
  have hqi : gn q i < p.length := by rw [hl]; exact hq.gn_lt (by omega)
  have hnew : ∀ j, gi (((out.set i v).set (gn p i) v).set (gn q i) v) j = if j = i ∨ j = gn p i ∨ j = gn q i then v else gi out j := fun j =>
    gi_set3 (by rw [h.len]; exact hi) (by rw [h.len]; exact hpi) (by rw [h.len]; exact hqi)
  have o1 := orb_oneI hp hq hl hi
  have o2 := orb_twoI hp hq hl hi
  have hov : (orb p q i : Int) ≤ v := by
    have g1 := h.ge i hi
    have g2 := h.ge _ hpi
    have g3 := h.ge _ hqi
    rw [o1] at g2
    rw [o2] at g3
    rcases hv with e | e | e <;> rw [e] <;> assumption
  have hle : ∀ j, j < p.length → gi (((out.set i v).set (gn p i) v).set (gn q i) v) j ≤ gi out j := fun j hj => by
    rw [hnew]
    split
    · rename_i e
      rcases e with rfl | rfl | rfl <;> assumption
    · exact Int.le_refl _
  have hge : ∀ j, j < p.length → (orb p q j : Int) ≤ gi (((out.set i v).set (gn p i) v).set (gn q i) v) j := fun j hj => by
    rw [hnew]
    split
    · rename_i e
      rcases e with rfl | rfl | rfl
      · exact hov
      · rw [o1]; exact hov
      · rw [o2]; exact hov
    · exact h.ge j hj
  refine ⟨by simpa using h.len, hge, fun j hj => Int.le_trans (hle j hj) (h.le j hj), fun j hj e => ?_⟩
  by_cases hji : j < i
  · obtain ⟨d1, d2⟩ := h.did j hji e
    have hj' : j < p.length := by omega
    have l1 := hp.gn_lt hj'
    have l2 : gn q j < p.length := by rw [hl]; exact hq.gn_lt (by omega)
    have a1 := hle _ l1
    have a2 := hle _ l2
    have b1 := hge _ l1
    have b2 := hge _ l2
    rw [orb_oneI hp hq hl hj'] at b1
    rw [orb_twoI hp hq hl hj'] at b2
    exact ⟨by omega, by omega⟩
  · obtain rfl : j = i := by omega
    have hvv : v = orb p q j := by
      have := h.le j hi
      rw [e] at this
      omega
    rw [hnew, hnew, if_pos (.inr (.inl rfl)), if_pos (.inr (.inr rfl))]
    exact ⟨hvv, hvv⟩

theorem Rounds.nextI {p q out0 out : List Int} {r : Nat} (hp : Ivl p) (hq : Ivl q) (hl : p.length = q.length) (h : Rounds p q r out0) (hr : r < p.length) (hx : Relax p q out0 p.length out) : Rounds p q (r + 1) out := by
  have keep : ∀ j, j < p.length → gi out0 j = (orb p q j : Int) → gi out j = (orb p q j : Int) := fun j hj e => by
    have := hx.le j hj
    have := hx.ge j hj
    omega
  refine ⟨hx.len, hx.ge, fun j hj => Int.le_trans (hx.le j hj) (h.le j hj), ?_⟩
  have hf := h.few
  by_cases hb : ∃ j, j < p.length ∧ gi out0 j ≠ (orb p q j : Int)
  · obtain ⟨j, hj, hw⟩ := hb
    have hm : orb p q j < p.length := Nat.lt_of_le_of_lt orb_le hj
    have hmr : gi out0 (orb p q j) = (orb p q (orb p q j) : Int) := by
      have := h.le _ hm
      have := h.ge _ hm
      rw [orb_orbI hp hq hl hj] at *
      omega
    obtain ⟨u, v, hu, hru, hrv, huv⟩ := Lead.turn (R := fun x => gi out0 x = (orb p q x : Int)) orb_lead hmr hw
    have hul := hu.ltI hp hq hl hm
    have hd := hx.did u hul hru
    have hvr : v < p.length ∧ gi out v = (orb p q v : Int) := by
      rcases huv with rfl | rfl
      · exact ⟨hp.gn_lt hul, by rw [orb_oneI hp hq hl hul]; exact hd.1⟩
      · exact ⟨by rw [hl]; exact hq.gn_lt (by omega), by rw [orb_twoI hp hq hl hul]; exact hd.2⟩
    have hlt : bad p q out < bad p q out0 := by
      unfold bad
      refine filter_lt (y := v) _ (fun k hk hkb => ?_) (List.mem_range.2 hvr.1) (by simp [hvr.2]) (by simpa using hrv)
      simp only [decide_eq_true_eq] at hkb ⊢
      exact fun e => hkb (keep k (List.mem_range.1 hk) e)
    omega
  · have h0 : bad p q out = 0 := by
      unfold bad
      rw [List.length_eq_zero_iff, List.filter_eq_nil_iff]
      intro k hk
      simp only [List.mem_range] at hk
      simp only [decide_eq_true_eq, Decidable.not_not]
      apply keep k hk
      apply Decidable.byContradiction
      intro e
      exact hb ⟨k, hk, e⟩
    omega
theorem Search.new_markI {p q ls st : List Int} {first x : Nat} (hp : Ivl p) (hq : Ivl q) (hl : p.length = q.length) (h : Search p q first ls (st ++ [(x : Int)])) (hm : gi ls x = -1) :
    Search p q first (ls.set x (first : Int)) (st ++ [(gn p x : Int), (gn q x : Int)]) := by
  obtain ⟨x', hx', hxl, hlead⟩ := h.stk (x : Int) (by simp)
  obtain rfl : x = x' := by omega
  have hxo : orb p q x = first := by
    have h1 : orb p q x ≤ first := orb_least hlead
    rcases Nat.lt_or_ge (orb p q x) first with h2 | h2
    · have := h.old x hxl h2
      rw [hm] at this; omega
    · omega
  have hset : ∀ j, gi (ls.set x (first : Int)) j = if j = x then (first : Int) else gi ls j := fun j => gi_set _ _ _ _ (by rw [h.len]; exact hxl)
  have hmono : ∀ j, gi ls j ≠ -1 → gi (ls.set x (first : Int)) j ≠ -1 := fun j hj => by
    rw [hset]; split
    · omega
    · exact hj
  have hmem : ∀ y : Nat, (gi ls y ≠ -1 ∨ (y : Int) ∈ st ++ [(x : Int)]) → gi (ls.set x (first : Int)) y ≠ -1 ∨ (y : Int) ∈ st ++ [(gn p x : Int), (gn q x : Int)] := by
    rintro y (h1 | h1)
    · exact .inl (hmono y h1)
    · rcases List.mem_append.1 h1 with h1 | h1
      · exact .inr (by simp [h1])
      · simp only [List.mem_cons, List.not_mem_nil, or_false] at h1
        refine .inl ?_
        rw [show y = x by omega, hset, if_pos rfl]; omega
  refine ⟨by simpa using h.len, fun j hj => ?_, fun j hj ho => ?_, fun s hs => ?_, fun j hj e => ?_, hmem _ h.root⟩
  · rw [hset]; split
    · rename_i e; subst e; exact .inr ⟨by rw [hxo], by omega⟩
    · exact h.val j hj
  · rw [hset]; split
    · rename_i e; subst e; rw [hxo]
    · exact h.old j hj ho
  · rcases List.mem_append.1 hs with hs | hs
    · exact h.stk s (by simp [hs])
    · simp only [List.mem_cons, List.not_mem_nil, or_false] at hs
      rcases hs with rfl | rfl
      · exact ⟨_, rfl, hp.gn_lt hxl, .one hlead⟩
      · exact ⟨_, rfl, by rw [hl]; exact hq.gn_lt (by omega), .two hlead⟩
  · by_cases ej : j = x
    · subst ej
      exact ⟨.inr (by simp), .inr (by simp)⟩
    · rw [hset, if_neg ej] at e
      obtain ⟨h1, h2⟩ := h.shut j hj e
      exact ⟨hmem _ h1, hmem _ h2⟩
theorem Search.doneI {p q ls : List Int} {first : Nat} (hp : Ivl p) (hq : Ivl q) (hl : p.length = q.length) (h : Search p q first ls []) : Firsts p q (first + 1) ls := by
  refine ⟨h.len, fun j hj => ?_⟩
  by_cases hlt : orb p q j < first
  · rw [if_pos (by omega)]; exact h.old j hj hlt
  · by_cases he : orb p q j = first
    · rw [if_pos (by omega)]
      rcases h.val j hj with h1 | h1
      · exfalso
        have hroot : gi ls (orb p q j) ≠ -1 := by
          rw [he]
          rcases h.root with h | h
          · exact h
          · cases h
        obtain ⟨u, v, hu, hru, hrv, huv⟩ := Lead.turn (R := fun x => gi ls x ≠ -1) (p := p) (q := q) orb_lead hroot (by simpa using h1)
        have hfl : orb p q j < p.length := Nat.lt_of_le_of_lt orb_le hj
        have hul := hu.ltI hp hq hl hfl
        have huo : orb p q u = first := by rw [orb_eqI hp hq hl hu hfl, orb_orbI hp hq hl hj, he]
        have hum : gi ls u = (first : Int) := by
          rcases h.val u hul with h2 | h2
          · exact absurd h2 hru
          · rw [h2.1, huo]
        obtain ⟨s1, s2⟩ := h.shut u hul hum
        rcases huv with rfl | rfl
        · rcases s1 with s | s
          · exact hrv s
          · cases s
        · rcases s2 with s | s
          · exact hrv s
          · cases s
      · exact h1.1
    · rw [if_neg (by omega)]
      rcases h.val j hj with h1 | h1
      · exact h1
      · omega
end

end Go.Proofs.YtmhalaleoklplaaDoor

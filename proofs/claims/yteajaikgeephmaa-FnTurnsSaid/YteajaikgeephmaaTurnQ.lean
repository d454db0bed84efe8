/-
  A row of the forms of a map, each once.
-/
import Derived.Test.YteajaikgeephmaaTurnP
import Derived.Test.YteajaikgeephmaaRowM
import Derived.Test.YteajaikgeephmaaLawMap
namespace Go.Proofs.Yteajaikgeephmaa
open Go.RowKit

/-- Whether the form from a dart is none of the first of the row. -/
noncomputable def freshTo (t f : List Int) (k j : Nat) : Bool := ((newL t f k).take j).all fun m => !(eqB m.1 (formT t f k) && eqB m.2 (formF t f k))
theorem fresh_zero (t f : List Int) (k : Nat) : freshTo t f k 0 = true := by simp [freshTo]
theorem fresh_succ {t f : List Int} {k j : Nat} (hj : j < (newL t f k).length) : freshTo t f k (j + 1) = (freshTo t f k j && !(eqB ((newL t f k)[j]).1 (formT t f k) && eqB ((newL t f k)[j]).2 (formF t f k))) := by
  unfold freshTo
  rw [List.take_succ_eq_append_getElem hj, List.all_append]
  simp
theorem fresh_iff {t f : List Int} {k : Nat} : freshTo t f k (newN t f k) = true ↔ newF t f k := by
  rw [new_iff, freshTo, ← newL_len, List.take_length, List.all_eq_true]
  refine ⟨fun h m hm e => ?_, fun h m hm => ?_⟩
  · have := h m hm
    rw [e] at this
    simp [eqB] at this
  · have := h m hm
    by_cases e1 : m.1 = formT t f k
    · by_cases e2 : m.2 = formF t f k
      · exact absurd (Prod.ext e1 e2) this
      · simp [eqB, e2]
    · simp [eqB, e1]
theorem newL_lens {t f : List Int} (hm : IsMap t f) {k : Nat} (hk : k ≤ t.length) {m : List Int × List Int} (h : m ∈ newL t f k) : m.1.length = t.length ∧ m.2.length = t.length := by
  obtain ⟨j, hj, -, rfl⟩ := newL_mem h
  exact ⟨formT_len hm (by omega), formF_len hm (by omega)⟩
theorem row_at {t f : List Int} {w : World} {lo g M c n k : Nat} (hm : IsMap t f) (hk : k ≤ n) (h : RowM w lo (.slice (some ⟨g, 0, none⟩) M c) (newL t f k)) (hM : newN t f k = M) (hn : t.length = n) {j : Nat} (hj : j < M) :
    ∃ (A A' : Option Addr) (cj cj' : Nat) (x x' : List Int), w.cell? ⟨g, j * 2, none⟩ = some (.slice A n cj) ∧ w.cell? ⟨g, j * 2 + 1, none⟩ = some (.slice A' n cj') ∧ Rd w A n x ∧ Rd w A' n x' ∧ freshTo t f k (j + 1) = (freshTo t f k j && !(eqB x (formT t f k) && eqB x' (formF t f k))) := by
  have hj' : j < (newL t f k).length := by rw [newL_len, hM]; exact hj
  obtain ⟨u, u', h1, h2, o⟩ := h.cells rfl (j := j) hj'
  obtain ⟨l1, l2⟩ := newL_lens hm (k := k) (by omega) (List.getElem_mem hj')
  obtain ⟨A, cA, A', cA', rfl, rfl, r1, r2⟩ := o.form (l1.trans hn) (l2.trans hn)
  exact ⟨A, A', cA, cA', _, _, h1, h2, r1, r2, fresh_succ hj'⟩
theorem rowm_more {w w1 : World} {lo g n c N : Nat} {vs : List Value} {u u' v1 : Value} {ms : List (List Int × List Int)} {m : List Int × List Int} (ho : w.ownsRow lo 35 2 (.slice (some ⟨g, 0, none⟩) n c) ms.length vs) (hm : Maps w lo vs ms)
    (hx : OwnM w lo u u' m.1 m.2) (ho1 : w1.ownsRow lo 35 2 v1 (ms.length + 1) (vs ++ [u, u'])) (hg : w.grownBy w1 (Value.slice (some ⟨g, 0, none⟩) n c).ownBlock) (hN : ms.length + 1 = N) :
    ∃ g' c', v1 = .slice (some ⟨g', 0, none⟩) N c' ∧ RowM w1 lo (.slice (some ⟨g', 0, none⟩) N c') (ms ++ [m]) := by
  have hr := RowM.more (ns := [m]) ho hm (Maps.one hx) ho1 hg
  subst hN
  rcases ho1.2 with ⟨_, e⟩ | ⟨g', cap, cur, rfl, _⟩
  · omega
  · exact ⟨g', cap, rfl, hr⟩
theorem map_news (w : World) (u u' : Value) (t : TypeId) : ∀ (j : Nat) (v : Value), [u, u'][j]? = some v → (w.alloc (.cells #[u, u'] t)).cell? ((⟨w.heap.size, 0, none⟩ : Addr).add j) = some v := by
  intro j v hj
  have e : (⟨w.heap.size, 0, none⟩ : Addr).add j = ⟨w.heap.size, j, none⟩ := by unfold Addr.add; split <;> simp_all
  rw [e, cell_of_row _ w.heap.size j _ _ (0, 0) (heap_alloc_new w _)]
  simpa using hj
theorem info_mapT : (Try.prog.info? 35).map (fun i => (i.zero, i.size, i.bytes)) = some (some (.agg #[.slice none 0 0, .slice none 0 0]), 2, 48) := by kernel_rfl

end Go.Proofs.Yteajaikgeephmaa

/-
  Plain: the cycles of a permutation begin with their least points, in ascending order.
-/
import Derived.Test.YteajaikgeephmaaOrb
namespace Go.Proofs.Yteajaikgeephmaa

theorem cycAll_heads {p : List Int} (hp : Vld p) : ∀ (m i : Nat) (vis : List Nat), i + m = p.length → vis.Nodup → (∀ j, j ∈ vis → j < p.length) → Closed p vis → (∀ j, j < i → j ∈ vis) →
    (∀ c, c ∈ cycAll p (List.range' i m) vis → i ≤ gn c 0 ∧ ∀ k, k < c.length → gn c 0 ≤ gn c k) ∧ (cycAll p (List.range' i m) vis).Pairwise (fun c d => gn c 0 < gn d 0) := by
  intro m
  induction m with
  | zero => intro i vis _ _ _ _ _; simp [cycAll]
  | succ m ih =>
    intro i vis him hn hl hc hall
    rw [List.range'_succ, cycAll]
    by_cases hv : i ∈ vis
    · rw [if_pos hv]
      obtain ⟨h1, h2⟩ := ih (i + 1) vis (by omega) hn hl hc (fun j hj => by
        by_cases e : j = i
        · rw [e]; exact hv
        · exact hall j (by omega))
      exact ⟨fun c hcm => ⟨by have := (h1 c hcm).1; omega, (h1 c hcm).2⟩, h2⟩
    · rw [if_neg hv]
      have hf := cycFrom_found hp hn hl hc hv (by omega)
      have hmem : i ∈ after (cycFrom p 13 vis i) vis := mem_after.2 (.inl ⟨0, hf.pos, hf.head⟩)
      obtain ⟨h1, h2⟩ := ih (i + 1) (after (cycFrom p 13 vis i) vis) (by omega) hf.nodup hf.lt (hf.closed hc) (fun j hj => by
        by_cases e : j = i
        · rw [e]; exact hmem
        · exact mem_after.2 (.inr (hall j (by omega))))
      refine ⟨fun c hcm => ?_, List.pairwise_cons.2 ⟨fun d hd => ?_, h2⟩⟩
      · rcases List.mem_cons.1 hcm with rfl | hcm
        · refine ⟨by rw [hf.head]; exact Nat.le_refl _, fun k hk => ?_⟩
          rw [hf.head]
          have hnv := (nodup_after hf.nodup).2 k hk
          have : ¬ gn (cycFrom p 13 vis i) k < i := fun h => hnv (hall _ h)
          omega
        · exact ⟨by have := (h1 c hcm).1; omega, (h1 c hcm).2⟩
      · rw [hf.head]
        have := (h1 d hd).1
        omega
theorem cyclesL_heads {p : List Int} (hp : Vld p) : (∀ c, c ∈ cyclesL p → ∀ k, k < c.length → gn c 0 ≤ gn c k) ∧ (cyclesL p).Pairwise (fun c d => gn c 0 < gn d 0) := by
  obtain ⟨h1, h2⟩ := cycAll_heads hp p.length 0 [] (by omega) List.nodup_nil (fun j hj => by cases hj) (fun k hk => by cases hk) (fun j hj => absurd hj (by omega))
  exact ⟨fun c hc => (h1 c hc).2, h2⟩

end Go.Proofs.Yteajaikgeephmaa

/-
  Plain: the genus of a map is a whole number, not negative; the dual, the mirror and a renamed map have it too.
-/
import Derived.Test.YtakckkmhhedfpaaPar9
import Derived.Test.YtakckkmhhedfpaaGenus
namespace Go.Proofs.Ytakckkmhhedfpaa

theorem smCs_two {F : Nat → Nat} : ∀ {cs : List (List Int)}, (∀ c, c ∈ cs → smC F c = 2) → smCs F cs = 2 * cs.length
  | [], _ => rfl
  | c :: cs, h => by rw [smCs, h c (by simp), smCs_two (fun d hd => h d (by simp [hd]))]; simp; omega
theorem flip_cycles {f : List Int} (hf : Vld f) (hp : Paired f) : 2 * (cyclesL f).length = f.length := by
  have h := sum_cycles hf fun _ => 1
  rw [sm_const, Nat.mul_one] at h
  rw [h, smCs_two fun c hc => ?_]
  have hcy := (cyclesL_spec hf).1 c hc
  unfold smC
  rw [sm_const, Nat.mul_one]
  have h0 := hcy.pos
  have hx := hcy.lt 0 h0
  have hpx := hp _ hx
  have r1 := hcy.round 0 h0
  by_cases e1 : c.length = 1
  · rw [e1] at r1
    exact absurd r1 hpx.1
  · have m1 : (0 + 1) % c.length = 1 := Nat.mod_eq_of_lt (by omega)
    rw [m1] at r1
    have r2 := hcy.round 1 (by omega)
    rw [← r1, hpx.2] at r2
    by_cases e2 : c.length = 2
    · exact e2
    · have m2 : (1 + 1) % c.length = 2 := Nat.mod_eq_of_lt (by omega)
      rw [m2] at r2
      exact absurd r2 (hcy.apart 0 2 (by omega) (by omega))
section
variable {t f : List Int}
theorem genus_facts (hm : IsMap t f) : ∃ G : Nat, genusOf t f = (G : Int) ∧ (cntV t : Int) - (cntE f : Int) + (cntF t f : Int) = 2 - 2 * (G : Int) ∧ 2 * G ≤ cntE f := by
  have hD := hm.dual.turn
  have hl : (mulL f t).length = f.length := mulL_len f t
  have hlf := hm.len
  have p1 := parity_cycles hm.turn
  have p2 := parity_cycles hm.flip
  have p3 := parity_cycles hD
  have hft : Prm f.length (gn t) := by rw [← hlf]; exact hm.turn.prm
  have p4 := invs_mul hm.flip.prm hft
  rw [hl, invs_congr f.length (f := gn (mulL f t)) (g := fun i => gn t (gn f i)) (fun i hi => gn_mulL hi)] at p3
  have e1 := flip_cycles hm.flip hm.paired
  have e2 := flip_even hm.flip hm.paired
  have e3 := euler_le hm
  have hV : 1 ≤ (cyclesL t).length := by
    obtain ⟨c, hc, -⟩ := (cyclesL_spec hm.turn).2.1 0 hm.turn.1
    exact List.length_pos_of_mem hc
  have hF : 1 ≤ (cyclesL (mulL f t)).length := by
    obtain ⟨c, hc, -⟩ := (cyclesL_spec hD).2.1 0 hD.1
    exact List.length_pos_of_mem hc
  rw [hlf] at p1 e3
  unfold genusOf cntV cntE cntF
  obtain ⟨V, hVe⟩ : ∃ V, (cyclesL t).length = V := ⟨_, rfl⟩
  obtain ⟨F, hFe⟩ : ∃ F, (cyclesL (mulL f t)).length = F := ⟨_, rfl⟩
  obtain ⟨E, hEe⟩ : ∃ E, f.length / 2 = E := ⟨_, rfl⟩
  rw [hVe] at p1 e3 hV ⊢
  rw [hFe] at p3 e3 hF ⊢
  rw [hEe] at e2 e3 ⊢
  have e4 : (cyclesL f).length = E := by omega
  rw [e4] at p2
  rw [← e2] at p1 p2 p3 p4
  have hpar : (V + E + F) % 2 = 0 := by omega
  refine ⟨(2 + E - V - F) / 2, ?_, by omega, by omega⟩
  rw [Int.tdiv_eq_ediv_of_nonneg (by omega)]
  omega
theorem genus_dual (hm : IsMap t f) : genusOf (mulL f t) f = genusOf t f := by
  have h1 : cntV (mulL f t) = cntF t f := rfl
  have h2 : cntF (mulL f t) f = cntV t := by unfold cntF cntV; rw [dual_dual hm]
  unfold genusOf
  rw [h1, h2]
  congr 1
  omega
theorem genus_mirror (hm : IsMap t f) : genusOf (backL t) f = genusOf t f := by
  have h1 : cntV (backL t) = cntV t := (cycles_of_type hm.turn hm.mirror.turn (back_type hm.turn)).symm
  have h2 : cntF (backL t) f = cntF t f := cycles_of_type hm.mirror.dual.turn hm.dual.turn (mirror_faces hm)
  unfold genusOf
  rw [h1, h2]
theorem genus_ren (hm : IsMap t f) {b : List Int} (hb : Vld b) (hl : b.length = t.length) : genusOf (conjL t b) (conjL f b) = genusOf t f := by
  have hr := hm.ren hb hl
  have h1 : cntV (conjL t b) = cntV t := (cycles_of_type hm.turn hr.turn (conj_type hm.turn hb hl.symm)).symm
  have h2 : cntF (conjL t b) (conjL f b) = cntF t f := by
    unfold cntF
    rw [conj_mul hm.flip hb (by rw [hl]; exact hm.len.symm)]
    have hlD : (mulL f t).length = b.length := by rw [mulL_len, hl, hm.len]
    exact (cycles_of_type hm.dual.turn (conj_vld hm.dual.turn hb hlD) (conj_type hm.dual.turn hb hlD)).symm
  have h3 : cntE (conjL f b) = cntE f := by unfold cntE; rw [conjL_len, hl, hm.len]
  unfold genusOf
  rw [h1, h2, h3]
end

end Go.Proofs.Ytakckkmhhedfpaa

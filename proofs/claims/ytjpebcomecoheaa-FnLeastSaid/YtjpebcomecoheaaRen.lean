/-
  Plain: a map renamed is a map.
-/
import Derived.Test.YtjpebcomecoheaaMapPlain
namespace Go.Proofs.Ytjpebcomecoheaa

theorem conj_gn' {p b : List Int} (hb : Vld b) {x : Nat} (hx : x < b.length) : gn (conjL p b) (gn b x) = gn b (gn p x) := by
  have := conjL_at (p := p) hb hx
  unfold gn at this ⊢
  rw [this]
theorem conj_vld {p b : List Int} (hp : Vld p) (hb : Vld b) (hl : p.length = b.length) : Vld (conjL p b) := by
  have hlen := conjL_len p b
  refine ⟨by rw [hlen]; exact hb.1, by rw [hlen]; exact hb.2.1, fun j hj => ?_, fun j hj i hij e => ?_⟩
  · rw [hlen] at hj ⊢
    obtain ⟨x, hx, rfl⟩ := hb.surj hj
    rw [conjL_at hb hx]
    exact hb.2.2.1 _ (by rw [← hl]; exact hp.gn_lt (by omega))
  · rw [hlen] at hj
    obtain ⟨x, hx, rfl⟩ := hb.surj hj
    obtain ⟨y, hy, rfl⟩ := hb.surj (show i < b.length by omega)
    rw [conjL_at hb hx, conjL_at hb hy] at e
    have hx' : gn p x < b.length := by rw [← hl]; exact hp.gn_lt (by omega)
    have hy' : gn p y < b.length := by rw [← hl]; exact hp.gn_lt (by omega)
    have e2 : gn b (gn p y) = gn b (gn p x) := by rw [hb.gi_gn hx', hb.gi_gn hy'] at e; omega
    have := hp.inj (by omega) (by omega) (hb.inj hy' hx' e2)
    rw [this] at hij; omega
theorem whole_of_lead {t f : List Int} (h : ∀ j, j < t.length → Lead t f 0 j) : Whole t f := fun j hj => by
  have := orb_least (h j hj); omega
theorem IsMap.lead0 {t f : List Int} (hm : IsMap t f) {j : Nat} (hj : j < t.length) : Lead t f 0 j := by
  have h := orb_lead (p := t) (q := f) (x := j)
  rwa [hm.whole j hj] at h
theorem IsMap.lead {t f : List Int} (hm : IsMap t f) {i j : Nat} (hi : i < t.length) (hj : j < t.length) : Lead t f i j :=
  ((hm.lead0 hi).sym hm.turn hm.flip hm.len hm.turn.1).trans (hm.lead0 hj)
theorem lead_ren {t f b : List Int} (hm : IsMap t f) (hb : Vld b) (hl : b.length = t.length) {x y : Nat} (h : Lead t f x y) (hx : x < t.length) : Lead (conjL t b) (conjL f b) (gn b x) (gn b y) ∧ y < t.length := by
  induction h with
  | refl => exact ⟨.refl _, hx⟩
  | @one y h ih => exact ⟨by rw [← conj_gn' hb (by omega)]; exact .one ih.1, hm.turn.gn_lt ih.2⟩
  | @two y h ih => exact ⟨by rw [← conj_gn' hb (by omega)]; exact .two ih.1, by rw [hm.len]; exact hm.flip.gn_lt (by rw [← hm.len]; exact ih.2)⟩
theorem IsMap.ren {t f b : List Int} (hm : IsMap t f) (hb : Vld b) (hl : b.length = t.length) : IsMap (conjL t b) (conjL f b) := by
  have h1 := conjL_len t b
  have h2 := conjL_len f b
  have hlf := hm.len
  refine ⟨conj_vld hm.turn hb hl.symm, conj_vld hm.flip hb (by omega), by omega, fun i hi => ?_, whole_of_lead fun j hj => ?_⟩
  · rw [h2] at hi
    obtain ⟨x, hx, rfl⟩ := hb.surj hi
    have hfx : gn f x < b.length := by rw [hl, hm.len]; exact hm.flip.gn_lt (by omega)
    have hp := hm.paired x (by omega)
    rw [conj_gn' hb hx, conj_gn' hb hfx, hp.2]
    exact ⟨fun e => hp.1 (hb.inj hfx hx e), rfl⟩
  · rw [h1] at hj
    obtain ⟨x, hx, rfl⟩ := hb.surj hj
    obtain ⟨z, hz, hz0⟩ := hb.surj (v := 0) hb.1
    have := (lead_ren hm hb hl (hm.lead (i := z) (j := x) (by omega) (by omega)) (by omega)).1
    rwa [hz0] at this

end Go.Proofs.Ytjpebcomecoheaa

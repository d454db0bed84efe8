/-
  Plain: maps: dual, mirror, renamed; sums of types.
-/
import Derived.Test.YtjpebcomecoheaaPar2
import Derived.Test.YtjpebcomecoheaaMapPlain
import Derived.Test.YtjpebcomecoheaaSpecType
namespace Go.Proofs.Ytjpebcomecoheaa

theorem lead_dual {t f : List Int} (hm : IsMap t f) {x y : Nat} (h : Lead t f x y) (hx : x < t.length) : Lead (mulL f t) f x y ∧ y < t.length := by
  induction h with
  | refl => exact ⟨.refl _, hx⟩
  | @one y h ih =>
    obtain ⟨h1, h2⟩ := ih
    have hf : gn f y < t.length := by rw [hm.len]; exact hm.flip.gn_lt (by rw [← hm.len]; exact h2)
    refine ⟨?_, hm.turn.gn_lt h2⟩
    have e : gn t y = gn (mulL f t) (gn f y) := by
      rw [gn_mulL (by rw [← hm.len]; exact hf), (hm.paired y (by rw [← hm.len]; exact h2)).2]
    rw [e]
    exact .one (.two h1)
  | @two y h ih => exact ⟨.two ih.1, by rw [hm.len]; exact hm.flip.gn_lt (by rw [← hm.len]; exact ih.2)⟩
theorem whole_of_lead {t f : List Int} (h : ∀ j, j < t.length → Lead t f 0 j) : Whole t f := fun j hj => by
  have := orb_least (h j hj); omega
theorem IsMap.lead0 {t f : List Int} (hm : IsMap t f) {j : Nat} (hj : j < t.length) : Lead t f 0 j := by
  have h := orb_lead (p := t) (q := f) (x := j)
  rwa [hm.whole j hj] at h
theorem IsMap.lead {t f : List Int} (hm : IsMap t f) {i j : Nat} (hi : i < t.length) (hj : j < t.length) : Lead t f i j :=
  ((hm.lead0 hi).sym hm.turn hm.flip hm.len hm.turn.1).trans (hm.lead0 hj)
theorem IsMap.dual {t f : List Int} (hm : IsMap t f) : IsMap (mulL f t) f := by
  have hl : (mulL f t).length = t.length := (mulL_len f t).trans hm.len.symm
  exact ⟨hm.flip.mulL hm.turn hm.len.symm, hm.flip, mulL_len f t, hm.paired, whole_of_lead fun j hj => (lead_dual hm (hm.lead0 (by omega)) hm.turn.1).1⟩
theorem dual_dual {t f : List Int} (hm : IsMap t f) : mulL f (mulL f t) = t := by
  refine eq_of_gi ((mulL_len _ _).trans hm.len.symm) fun j hj => ?_
  rw [mulL_len] at hj
  rw [gi_mulL hj, gi_mulL (hm.flip.gn_lt hj), (hm.paired j hj).2]
theorem lead_back {t f : List Int} (hm : IsMap t f) {x y : Nat} (h : Lead t f x y) (hx : x < t.length) : Lead (backL t) f y x ∧ y < t.length := by
  induction h with
  | refl => exact ⟨.refl _, hx⟩
  | @one y h ih =>
    obtain ⟨h1, h2⟩ := ih
    have e : gn (backL t) (gn t y) = y := hm.turn.gn_backL h2
    have h3 : Lead (backL t) f (gn t y) y := by
      have := Lead.one (Lead.refl (p := backL t) (q := f) (gn t y)); rwa [e] at this
    exact ⟨h3.trans h1, hm.turn.gn_lt h2⟩
  | @two y h ih =>
    obtain ⟨h1, h2⟩ := ih
    have e := (hm.paired y (by rw [← hm.len]; exact h2)).2
    have h3 : Lead (backL t) f (gn f y) y := by
      have := Lead.two (Lead.refl (p := backL t) (q := f) (gn f y)); rwa [e] at this
    exact ⟨h3.trans h1, by rw [hm.len]; exact hm.flip.gn_lt (by rw [← hm.len]; exact h2)⟩
theorem IsMap.mirror {t f : List Int} (hm : IsMap t f) : IsMap (backL t) f :=
  ⟨backL_vld hm.turn, hm.flip, (backL_len t).trans hm.len, hm.paired, whole_of_lead fun j hj => by
    rw [backL_len] at hj
    exact (lead_back hm (hm.lead hj hm.turn.1) hj).1⟩
theorem lead_ren {t f b : List Int} (hm : IsMap t f) (hb : Vld b) (hl : b.length = t.length) {x y : Nat} (h : Lead t f x y) (hx : x < t.length) : Lead (conjL t b) (conjL f b) (gn b x) (gn b y) ∧ y < t.length := by
  induction h with
  | refl => exact ⟨.refl _, hx⟩
  | @one y h ih => exact ⟨by rw [← conj_gn' hb (by omega)]; exact .one ih.1, hm.turn.gn_lt ih.2⟩
  | @two y h ih => exact ⟨by rw [← conj_gn' hb (by omega)]; exact .two ih.1, by rw [hm.len]; exact hm.flip.gn_lt (by rw [← hm.len]; exact ih.2)⟩
theorem IsMap.ren {t f b : List Int} (hm : IsMap t f) (hb : Vld b) (hl : b.length = t.length) : IsMap (conjL t b) (conjL f b) := by
  have h1 := conjL_len t b
  have h2 := conjL_len f b
  have hlf := hm.len
  refine ⟨conj_vld hm.turn hb hl.symm, conj_vld hm.flip hb (by omega), by omega, fun i hi => ?_, whole_of_lead fun j hj => ?_⟩
  · rw [h2] at hi
    obtain ⟨x, hx, rfl⟩ := hb.surj hi
    have hfx : gn f x < b.length := by rw [hl, hm.len]; exact hm.flip.gn_lt (by omega)
    have hp := hm.paired x (by omega)
    rw [conj_gn' hb hx, conj_gn' hb hfx, hp.2]
    exact ⟨fun e => hp.1 (hb.inj hfx hx e), rfl⟩
  · rw [h1] at hj
    obtain ⟨x, hx, rfl⟩ := hb.surj hj
    obtain ⟨z, hz, hz0⟩ := hb.surj (v := 0) hb.1
    have := (lead_ren hm hb hl (hm.lead (i := z) (j := x) (by omega) (by omega)) (by omega)).1
    rwa [hz0] at this
theorem back_flip {f : List Int} (hf : Vld f) (hp : Paired f) : backL f = f :=
  (hf.backL_eq rfl fun i hi => by rw [hf.gi_gn (hf.gn_lt hi), (hp i hi).2]).symm
/-- The faces of the mirror are as many. -/
theorem mirror_faces {t f : List Int} (hm : IsMap t f) : typeL (mulL f (backL t)) = typeL (mulL f t) := by
  have hlf := hm.len
  have h1 : Vld (mulL f (backL t)) := hm.flip.mulL (backL_vld hm.turn) (by rw [backL_len]; omega)
  rw [back_type h1, ← back_mul hm.flip (backL_vld hm.turn) (by rw [backL_len]; omega), back_back hm.turn, back_flip hm.flip hm.paired]
  have h2 : Vld (mulL f t) := hm.flip.mulL hm.turn (by omega)
  rw [conj_type h2 hm.flip (mulL_len f t)]
  congr 1
  refine conjL_eq hm.flip ((mulL_len _ _).trans hlf) fun i hi => ?_
  have h3 : gn f i < t.length := by rw [hlf]; exact hm.flip.gn_lt hi
  rw [gi_mulL h3, gn_mulL hi]
theorem cycles_of_type {p q : List Int} (hp : Vld p) (hq : Vld q) (h : typeL p = typeL q) : (cyclesL p).length = (cyclesL q).length := by
  rw [← typeL_len hp, ← typeL_len hq, h]

/-! ### Sums -/
theorem per_bounds {p : List Int} {x : Nat} (hx : x < p.length) : 1 ≤ per p x ∧ per p x ≤ p.length := by
  constructor
  · have h1 := sm_but (F := fun y => ch (∃ k, it p k x = y)) (G := fun y => if y = x then 0 else ch (∃ k, it p k x = y)) p.length hx (fun k _ hne => by rw [if_neg hne])
    have h2 : ch (∃ k, it p k x = x) = 1 := ch_true ⟨0, rfl⟩
    unfold per
    simp only [if_pos] at h1
    omega
  · have h1 := sm_le (F := fun y => ch (∃ k, it p k x = y)) (G := fun _ => 1) p.length (fun _ _ => ch_le _)
    rw [sm_const] at h1
    unfold per; omega
theorem fromLen_sum (cs : List (List Int)) : ∀ n, (fromLen cs n).sum = ((sm n fun k => (k + 1) * cnt cs (k + 1) cs.length : Nat) : Int)
  | 0 => by simp [fromLen, sm]
  | n + 1 => by
    rw [fromLen, List.sum_append, fromLen_sum cs n, sm]
    have h : ∀ (m : Nat) (v : Int), (List.replicate m v).sum = m * v := fun m v => by
      induction m with
      | zero => simp
      | succ m ih => rw [List.replicate_succ, List.sum_cons, ih]; push_cast; rw [Int.add_mul]; omega
    rw [h]
    push_cast
    rw [Int.mul_comm]
    omega
/-- The numbers of a type add up to all points. -/
theorem type_sum {p : List Int} (hp : Vld p) : (typeL p).sum = (p.length : Int) := by
  unfold typeL
  rw [fromLen_sum]
  congr 1
  rw [sm_congr p.length (G := fun k => sm p.length fun x => ch (per p x = k + 1)) (fun k _ => (per_cnt hp (k + 1)).symm), sm_swap]
  rw [sm_congr p.length (G := fun _ => 1) (fun x hx => ?_), sm_const, Nat.mul_one]
  have hb := per_bounds hx
  rw [sm_one (i0 := per p x - 1) p.length (by omega) (fun k hk hne => ch_false (by omega)), ch_true (by omega)]
/-- A flip has two points for each edge. -/
theorem flip_even {f : List Int} (hf : Vld f) (hp : Paired f) : 2 * (f.length / 2) = f.length := by
  have h1 := sm_prm (fun x => ch (x < gn f x)) f.length (gn f) hf.prm
  have h2 : sm f.length (fun x => ch (x < gn f x)) + sm f.length (fun x => ch (gn f x < x)) = f.length := by
    rw [← sm_add, sm_congr f.length (G := fun _ => 1) (fun x hx => ?_), sm_const, Nat.mul_one]
    have := (hp x hx).1
    by_cases e : x < gn f x
    · rw [ch_true e, ch_false (by omega)]
    · rw [ch_false e, ch_true (by omega)]
  have h3 : sm f.length (fun x => ch (gn f x < gn f (gn f x))) = sm f.length (fun x => ch (gn f x < x)) := sm_congr f.length fun x hx => by rw [(hp x hx).2]
  rw [h3] at h1
  omega

end Go.Proofs.Ytjpebcomecoheaa

/-
  Plain: products, ways back and renamings of permutations; signs.
  Plain: maps: dual, mirror, renamed; sums of types.
-/
import Derived.Test.YtcenffndclpjoaaOrb
import Derived.Test.YtcenffndclpjoaaCopy
import Derived.Test.YtcenffndclpjoaaSpecPow
import Derived.Test.YtcenffndclpjoaaSign
import Derived.Test.YtcenffndclpjoaaType
namespace Go.Proofs.Ytcenffndclpjoaa

theorem gn_mulL {a b : List Int} {i : Nat} (h : i < a.length) : gn (mulL a b) i = gn b (gn a i) := by
  unfold gn; rw [gi_mulL h]; rfl
theorem mul_assoc_ {a b : List Int} (c : List Int) (ha : Vld a) (hl : a.length = b.length) : mulL (mulL a b) c = mulL a (mulL b c) := by
  refine eq_of_gi (by simp only [mulL_len]) fun j hj => ?_
  simp only [mulL_len] at hj
  rw [gi_mulL (by rw [mulL_len]; exact hj), gn_mulL hj, gi_mulL hj, gi_mulL (by rw [← hl]; exact ha.gn_lt hj)]
theorem back_mul {a b : List Int} (ha : Vld a) (hb : Vld b) (hl : a.length = b.length) : mulL (backL b) (backL a) = backL (mulL a b) := by
  refine (ha.mulL hb hl).backL_eq (by simp only [mulL_len, backL_len]; omega) fun i hi => ?_
  rw [mulL_len] at hi
  have h1 : gn a i < b.length := by rw [← hl]; exact ha.gn_lt hi
  rw [gn_mulL hi, gi_mulL (by rw [backL_len]; exact hb.gn_lt h1), hb.gn_backL h1, ha.gi_backL hi]
theorem mul_back {p : List Int} (hp : Vld p) : mulL p (backL p) = sameL p.length := by
  refine tab_ext (mulL_len _ _) fun j hj => ?_
  rw [gi_mulL hj, hp.gi_backL hj]
theorem back_mul_same {p : List Int} (hp : Vld p) : mulL (backL p) p = sameL p.length := by
  have h := mul_back (backL_vld hp)
  rwa [back_back hp, backL_len] at h
theorem conj_back {p b : List Int} (hp : Vld p) (hb : Vld b) (hl : p.length = b.length) : conjL (conjL p b) (backL b) = p := by
  refine (conjL_eq (backL_vld hb) (by rw [backL_len]; exact hl) fun i hi => ?_).symm
  rw [backL_len] at hi
  obtain ⟨j, hj, rfl⟩ := hb.surj hi
  have h1 : gn p j < b.length := by rw [← hl]; exact hp.gn_lt (by omega)
  rw [hb.gn_backL hj, conj_gn' hb hj, hb.gi_backL h1, hp.gi_gn (by omega)]
theorem conj_mul {p q b : List Int} (hp : Vld p) (hb : Vld b) (hl : p.length = b.length) : mulL (conjL p b) (conjL q b) = conjL (mulL p q) b := by
  refine conjL_eq hb (by rw [mulL_len, conjL_len]) fun i hi => ?_
  have h1 : gn p i < b.length := by rw [← hl]; exact hp.gn_lt (by omega)
  rw [gi_mulL (by rw [conjL_len]; exact hb.gn_lt hi), conj_gn' hb hi, conjL_at hb h1, gn_mulL (by omega)]

theorem invs_congr {f g : Nat → Nat} (n : Nat) (h : ∀ i, i < n → f i = g i) : invs f n = invs g n := by
  unfold invs
  exact sm_congr n fun i hi => sm_congr i fun k hk => by rw [h i hi, h k (by omega)]
theorem sign_eq {p : List Int} (hp : Vld p) : signR p = if invs (gn p) p.length % 2 = 0 then 1 else -1 := by
  have h1 := parity_cycles hp
  have h2 := cyclesL_len (p := p)
  rw [signR, if_pos (vld_true hp), parity, Int.tmod_eq_emod_of_nonneg (by omega)]
  by_cases e : invs (gn p) p.length % 2 = 0
  · rw [if_pos e, if_pos (by omega)]
  · rw [if_neg e, if_neg (by omega)]
theorem sign_mul {a b : List Int} (ha : Vld a) (hb : Vld b) (hl : a.length = b.length) : signR (mulL a b) = signR a * signR b := by
  rw [sign_eq ha, sign_eq hb, sign_eq (ha.mulL hb hl), mulL_len, invs_congr a.length (f := gn (mulL a b)) (g := fun i => gn b (gn a i)) (fun i hi => gn_mulL hi)]
  have h := invs_mul ha.prm (by rw [hl]; exact hb.prm : Prm a.length (gn b))
  rw [← hl]
  by_cases e1 : invs (gn a) a.length % 2 = 0 <;> by_cases e2 : invs (gn b) a.length % 2 = 0
  · rw [if_pos e1, if_pos e2, if_pos (by omega)]; rfl
  · rw [if_pos e1, if_neg e2, if_neg (by omega)]; rfl
  · rw [if_neg e1, if_pos e2, if_neg (by omega)]; rfl
  · rw [if_neg e1, if_neg e2, if_pos (by omega)]; rfl
theorem sign_pm {p : List Int} (hp : Vld p) : signR p = 1 ∨ signR p = -1 := by
  rw [sign_eq hp]; split <;> simp
theorem invs_le (f : Nat → Nat) (n : Nat) : invs f n ≤ n * n := by
  have h : ∀ i, i < n → (sm i fun k => ch (f i < f k)) ≤ n := fun i hi => by
    have h1 := sm_le (F := fun k => ch (f i < f k)) (G := fun _ => 1) i (fun k _ => ch_le _)
    rw [sm_const] at h1
    omega
  have h2 := sm_le (F := fun i => sm i fun k => ch (f i < f k)) (G := fun _ => n) n h
  rwa [sm_const] at h2

end Go.Proofs.Ytcenffndclpjoaa

namespace Go.Proofs.Ytcenffndclpjoaa

theorem lead_dual {t f : List Int} (hm : IsMap t f) {x y : Nat} (h : Lead t f x y) (hx : x < t.length) : Lead (mulL f t) f x y ∧ y < t.length := by
  induction h with
  | refl => exact ⟨.refl _, hx⟩
  | @one y h ih =>
    obtain ⟨h1, h2⟩ := ih
    have hf : gn f y < t.length := by rw [hm.len]; exact hm.flip.gn_lt (by rw [← hm.len]; exact h2)
    refine ⟨?_, hm.turn.gn_lt h2⟩
    have e : gn t y = gn (mulL f t) (gn f y) := by
      rw [gn_mulL (by rw [← hm.len]; exact hf), (hm.paired y (by rw [← hm.len]; exact h2)).2]
    rw [e]
    exact .one (.two h1)
  | @two y h ih => exact ⟨.two ih.1, by rw [hm.len]; exact hm.flip.gn_lt (by rw [← hm.len]; exact ih.2)⟩
theorem IsMap.dual {t f : List Int} (hm : IsMap t f) : IsMap (mulL f t) f := by
  have hl : (mulL f t).length = t.length := (mulL_len f t).trans hm.len.symm
  exact ⟨hm.flip.mulL hm.turn hm.len.symm, hm.flip, mulL_len f t, hm.paired, whole_of_lead fun j hj => (lead_dual hm (hm.lead0 (by omega)) hm.turn.1).1⟩
theorem dual_dual {t f : List Int} (hm : IsMap t f) : mulL f (mulL f t) = t := by
  refine eq_of_gi ((mulL_len _ _).trans hm.len.symm) fun j hj => ?_
  rw [mulL_len] at hj
  rw [gi_mulL hj, gi_mulL (hm.flip.gn_lt hj), (hm.paired j hj).2]
theorem lead_back {t f : List Int} (hm : IsMap t f) {x y : Nat} (h : Lead t f x y) (hx : x < t.length) : Lead (backL t) f y x ∧ y < t.length := by
  induction h with
  | refl => exact ⟨.refl _, hx⟩
  | @one y h ih =>
    obtain ⟨h1, h2⟩ := ih
    have e : gn (backL t) (gn t y) = y := hm.turn.gn_backL h2
    have h3 : Lead (backL t) f (gn t y) y := by
      have := Lead.one (Lead.refl (p := backL t) (q := f) (gn t y)); rwa [e] at this
    exact ⟨h3.trans h1, hm.turn.gn_lt h2⟩
  | @two y h ih =>
    obtain ⟨h1, h2⟩ := ih
    have e := (hm.paired y (by rw [← hm.len]; exact h2)).2
    have h3 : Lead (backL t) f (gn f y) y := by
      have := Lead.two (Lead.refl (p := backL t) (q := f) (gn f y)); rwa [e] at this
    exact ⟨h3.trans h1, by rw [hm.len]; exact hm.flip.gn_lt (by rw [← hm.len]; exact h2)⟩
theorem IsMap.mirror {t f : List Int} (hm : IsMap t f) : IsMap (backL t) f :=
  ⟨backL_vld hm.turn, hm.flip, (backL_len t).trans hm.len, hm.paired, whole_of_lead fun j hj => by
    rw [backL_len] at hj
    exact (lead_back hm (hm.lead hj hm.turn.1) hj).1⟩
theorem back_flip {f : List Int} (hf : Vld f) (hp : Paired f) : backL f = f :=
  (hf.backL_eq rfl fun i hi => by rw [hf.gi_gn (hf.gn_lt hi), (hp i hi).2]).symm
/-- The faces of the mirror are as many. -/
theorem mirror_faces {t f : List Int} (hm : IsMap t f) : typeL (mulL f (backL t)) = typeL (mulL f t) := by
  have hlf := hm.len
  have h1 : Vld (mulL f (backL t)) := hm.flip.mulL (backL_vld hm.turn) (by rw [backL_len]; omega)
  rw [back_type h1, ← back_mul hm.flip (backL_vld hm.turn) (by rw [backL_len]; omega), back_back hm.turn, back_flip hm.flip hm.paired]
  have h2 : Vld (mulL f t) := hm.flip.mulL hm.turn (by omega)
  rw [conj_type h2 hm.flip (mulL_len f t)]
  congr 1
  refine conjL_eq hm.flip ((mulL_len _ _).trans hlf) fun i hi => ?_
  have h3 : gn f i < t.length := by rw [hlf]; exact hm.flip.gn_lt hi
  rw [gi_mulL h3, gn_mulL hi]
theorem cycles_of_type {p q : List Int} (hp : Vld p) (hq : Vld q) (h : typeL p = typeL q) : (cyclesL p).length = (cyclesL q).length := by
  rw [← typeL_len hp, ← typeL_len hq, h]

/-! ### Sums -/
theorem per_bounds {p : List Int} {x : Nat} (hx : x < p.length) : 1 ≤ per p x ∧ per p x ≤ p.length := by
  constructor
  · have h1 := sm_but (F := fun y => ch (∃ k, it p k x = y)) (G := fun y => if y = x then 0 else ch (∃ k, it p k x = y)) p.length hx (fun k _ hne => by rw [if_neg hne])
    have h2 : ch (∃ k, it p k x = x) = 1 := ch_true ⟨0, rfl⟩
    unfold per
    simp only [if_pos] at h1
    omega
  · have h1 := sm_le (F := fun y => ch (∃ k, it p k x = y)) (G := fun _ => 1) p.length (fun _ _ => ch_le _)
    rw [sm_const] at h1
    unfold per; omega
theorem fromLen_sum (cs : List (List Int)) : ∀ n, (fromLen cs n).sum = ((sm n fun k => (k + 1) * cnt cs (k + 1) cs.length : Nat) : Int)
  | 0 => by simp [fromLen, sm]
  | n + 1 => by
    rw [fromLen, List.sum_append, fromLen_sum cs n, sm]
    have h : ∀ (m : Nat) (v : Int), (List.replicate m v).sum = m * v := fun m v => by
      induction m with
      | zero => simp
      | succ m ih => rw [List.replicate_succ, List.sum_cons, ih]; push_cast; rw [Int.add_mul]; omega
    rw [h]
    push_cast
    rw [Int.mul_comm]
    omega
/-- The numbers of a type add up to all points. -/
theorem type_sum {p : List Int} (hp : Vld p) : (typeL p).sum = (p.length : Int) := by
  unfold typeL
  rw [fromLen_sum]
  congr 1
  rw [sm_congr p.length (G := fun k => sm p.length fun x => ch (per p x = k + 1)) (fun k _ => (per_cnt hp (k + 1)).symm), sm_swap]
  rw [sm_congr p.length (G := fun _ => 1) (fun x hx => ?_), sm_const, Nat.mul_one]
  have hb := per_bounds hx
  rw [sm_one (i0 := per p x - 1) p.length (by omega) (fun k hk hne => ch_false (by omega)), ch_true (by omega)]
/-- A flip has two points for each edge. -/
theorem flip_even {f : List Int} (hf : Vld f) (hp : Paired f) : 2 * (f.length / 2) = f.length := by
  have h1 := sm_prm (fun x => ch (x < gn f x)) f.length (gn f) hf.prm
  have h2 : sm f.length (fun x => ch (x < gn f x)) + sm f.length (fun x => ch (gn f x < x)) = f.length := by
    rw [← sm_add, sm_congr f.length (G := fun _ => 1) (fun x hx => ?_), sm_const, Nat.mul_one]
    have := (hp x hx).1
    by_cases e : x < gn f x
    · rw [ch_true e, ch_false (by omega)]
    · rw [ch_false e, ch_true (by omega)]
  have h3 : sm f.length (fun x => ch (gn f x < gn f (gn f x))) = sm f.length (fun x => ch (gn f x < x)) := sm_congr f.length fun x hx => by rw [(hp x hx).2]
  rw [h3] at h1
  omega

end Go.Proofs.Ytcenffndclpjoaa

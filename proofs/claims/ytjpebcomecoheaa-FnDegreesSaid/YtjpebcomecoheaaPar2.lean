/-
  Plain: products, ways back and renamings of permutations; signs.
-/
import Derived.Test.YtjpebcomecoheaaPar1
import Derived.Test.YtjpebcomecoheaaFaces
import Derived.Test.YtjpebcomecoheaaSpecPow
import Derived.Test.YtjpebcomecoheaaSpecCyc
namespace Go.Proofs.Ytjpebcomecoheaa

theorem gn_mulL {a b : List Int} {i : Nat} (h : i < a.length) : gn (mulL a b) i = gn b (gn a i) := by
  unfold gn; rw [gi_mulL h]; rfl
theorem mul_assoc_ {a b : List Int} (c : List Int) (ha : Vld a) (hl : a.length = b.length) : mulL (mulL a b) c = mulL a (mulL b c) := by
  refine eq_of_gi (by simp only [mulL_len]) fun j hj => ?_
  simp only [mulL_len] at hj
  rw [gi_mulL (by rw [mulL_len]; exact hj), gn_mulL hj, gi_mulL hj, gi_mulL (by rw [← hl]; exact ha.gn_lt hj)]
theorem back_mul {a b : List Int} (ha : Vld a) (hb : Vld b) (hl : a.length = b.length) : mulL (backL b) (backL a) = backL (mulL a b) := by
  refine (ha.mulL hb hl).backL_eq (by simp only [mulL_len, backL_len]; omega) fun i hi => ?_
  rw [mulL_len] at hi
  have h1 : gn a i < b.length := by rw [← hl]; exact ha.gn_lt hi
  rw [gn_mulL hi, gi_mulL (by rw [backL_len]; exact hb.gn_lt h1), hb.gn_backL h1, ha.gi_backL hi]
theorem mul_back {p : List Int} (hp : Vld p) : mulL p (backL p) = sameL p.length := by
  refine tab_ext (mulL_len _ _) fun j hj => ?_
  rw [gi_mulL hj, hp.gi_backL hj]
theorem back_mul_same {p : List Int} (hp : Vld p) : mulL (backL p) p = sameL p.length := by
  have h := mul_back (backL_vld hp)
  rwa [back_back hp, backL_len] at h
theorem conj_back {p b : List Int} (hp : Vld p) (hb : Vld b) (hl : p.length = b.length) : conjL (conjL p b) (backL b) = p := by
  refine (conjL_eq (backL_vld hb) (by rw [backL_len]; exact hl) fun i hi => ?_).symm
  rw [backL_len] at hi
  obtain ⟨j, hj, rfl⟩ := hb.surj hi
  have h1 : gn p j < b.length := by rw [← hl]; exact hp.gn_lt (by omega)
  rw [hb.gn_backL hj, conj_gn' hb hj, hb.gi_backL h1, hp.gi_gn (by omega)]
theorem conj_mul {p q b : List Int} (hp : Vld p) (hb : Vld b) (hl : p.length = b.length) : mulL (conjL p b) (conjL q b) = conjL (mulL p q) b := by
  refine conjL_eq hb (by rw [mulL_len, conjL_len]) fun i hi => ?_
  have h1 : gn p i < b.length := by rw [← hl]; exact hp.gn_lt (by omega)
  rw [gi_mulL (by rw [conjL_len]; exact hb.gn_lt hi), conj_gn' hb hi, conjL_at hb h1, gn_mulL (by omega)]

theorem invs_congr {f g : Nat → Nat} (n : Nat) (h : ∀ i, i < n → f i = g i) : invs f n = invs g n := by
  unfold invs
  exact sm_congr n fun i hi => sm_congr i fun k hk => by rw [h i hi, h k (by omega)]
theorem sign_eq {p : List Int} (hp : Vld p) : signR p = if invs (gn p) p.length % 2 = 0 then 1 else -1 := by
  have h1 := parity_cycles hp
  have h2 := cyclesL_len (p := p)
  rw [signR, if_pos (vld_true hp), parity, Int.tmod_eq_emod_of_nonneg (by omega)]
  by_cases e : invs (gn p) p.length % 2 = 0
  · rw [if_pos e, if_pos (by omega)]
  · rw [if_neg e, if_neg (by omega)]
theorem sign_mul {a b : List Int} (ha : Vld a) (hb : Vld b) (hl : a.length = b.length) : signR (mulL a b) = signR a * signR b := by
  rw [sign_eq ha, sign_eq hb, sign_eq (ha.mulL hb hl), mulL_len, invs_congr a.length (f := gn (mulL a b)) (g := fun i => gn b (gn a i)) (fun i hi => gn_mulL hi)]
  have h := invs_mul ha.prm (by rw [hl]; exact hb.prm : Prm a.length (gn b))
  rw [← hl]
  by_cases e1 : invs (gn a) a.length % 2 = 0 <;> by_cases e2 : invs (gn b) a.length % 2 = 0
  · rw [if_pos e1, if_pos e2, if_pos (by omega)]; rfl
  · rw [if_pos e1, if_neg e2, if_neg (by omega)]; rfl
  · rw [if_neg e1, if_pos e2, if_neg (by omega)]; rfl
  · rw [if_neg e1, if_neg e2, if_pos (by omega)]; rfl
theorem sign_pm {p : List Int} (hp : Vld p) : signR p = 1 ∨ signR p = -1 := by
  rw [sign_eq hp]; split <;> simp
theorem invs_le (f : Nat → Nat) (n : Nat) : invs f n ≤ n * n := by
  have h : ∀ i, i < n → (sm i fun k => ch (f i < f k)) ≤ n := fun i hi => by
    have h1 := sm_le (F := fun k => ch (f i < f k)) (G := fun _ => 1) i (fun k _ => ch_le _)
    rw [sm_const] at h1
    omega
  have h2 := sm_le (F := fun i => sm i fun k => ch (f i < f k)) (G := fun _ => n) n h
  rwa [sm_const] at h2

end Go.Proofs.Ytjpebcomecoheaa

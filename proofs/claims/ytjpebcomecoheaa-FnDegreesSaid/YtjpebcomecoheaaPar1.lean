/-
  Plain: sums over the cycles of a permutation are sums over its points; how many cycles of each length, what becomes of them when the permutation is renamed or turned back.
-/
import Derived.Test.YtjpebcomecoheaaReach
import Derived.Test.YtjpebcomecoheaaTypePlain
import Derived.Test.YtjpebcomecoheaaPar0
namespace Go.Proofs.Ytjpebcomecoheaa

theorem Vld.prm {p : List Int} (h : Vld p) : Prm p.length (gn p) := ⟨fun _ hi => h.gn_lt hi, fun _ _ hi hj e => h.inj hi hj e⟩
theorem it_itf (p : List Int) : ∀ k x, it p k x = itf (gn p) k x
  | 0, _ => rfl
  | k + 1, x => by rw [it, itf, it_itf p k x]

def smC (F : Nat → Nat) (c : List Int) : Nat := sm c.length fun j => F (gn c j)
def smCs (F : Nat → Nat) : List (List Int) → Nat
  | [] => 0
  | c :: cs => smC F c + smCs F cs
theorem smCs_congr {F G : Nat → Nat} : ∀ {cs : List (List Int)}, (∀ c, c ∈ cs → smC F c = smC G c) → smCs F cs = smCs G cs
  | [], _ => rfl
  | c :: cs, h => by rw [smCs, smCs, h c (by simp), smCs_congr (fun d hd => h d (by simp [hd]))]
theorem smCs_one {F : Nat → Nat} : ∀ {cs : List (List Int)}, (∀ c, c ∈ cs → smC F c = 1) → smCs F cs = cs.length
  | [], _ => rfl
  | c :: cs, h => by rw [smCs, h c (by simp), smCs_one (fun d hd => h d (by simp [hd]))]; simp; omega

theorem sm_swap (t : Nat → Nat → Nat) (m : Nat) : ∀ n, sm n (fun i => sm m fun k => t i k) = sm m (fun k => sm n fun i => t i k)
  | 0 => by rw [sm, sm_congr m (F := fun k => sm 0 fun i => t i k) (G := fun _ => 0) (fun _ _ => rfl), sm_zero]
  | n + 1 => by
    rw [sm, sm_swap t m n, ← sm_add]
    rfl
theorem smC_hits {p c : List Int} (h : Cyc p c) (F : Nat → Nat) : smC F c = sm p.length fun x => ch (inC c x) * F x := by
  unfold smC
  rw [sm_congr c.length (G := fun j => sm p.length fun x => ch (gn c j = x) * F x) (fun j hj => by
    rw [sm_one (i0 := gn c j) p.length (h.lt j hj) (fun k _ hne => by rw [ch_false (fun e => hne e.symm), Nat.zero_mul]), ch_true rfl, Nat.one_mul]), sm_swap]
  refine sm_congr p.length fun x _ => ?_
  by_cases hx : inC c x
  · obtain ⟨j0, hj0, e⟩ := hx
    rw [sm_one (i0 := j0) c.length hj0 (fun k hk hne => by
      rw [ch_false (fun e' => ?_), Nat.zero_mul]
      rcases Nat.lt_or_gt_of_ne hne with hlt | hlt
      · exact h.apart k j0 hlt hj0 (e'.trans e.symm)
      · exact h.apart j0 k hlt hk (e.trans e'.symm)), ch_true e, ch_true ⟨j0, hj0, e⟩]
  · rw [ch_false hx, sm_congr c.length (G := fun _ => 0) (fun j hj => by rw [ch_false (fun e => hx ⟨j, hj, e⟩), Nat.zero_mul]), sm_zero]; omega
theorem smCs_hits {p : List Int} (F : Nat → Nat) : ∀ {cs : List (List Int)}, (∀ c, c ∈ cs → Cyc p c) → cs.Pairwise (fun c d => ∀ x, inC c x → ¬ inC d x) →
    smCs F cs = sm p.length fun x => ch (∃ c, c ∈ cs ∧ inC c x) * F x
  | [], _, _ => by rw [smCs, sm_congr p.length (G := fun _ => 0) (fun x _ => by rw [ch_false (by simp), Nat.zero_mul]), sm_zero]
  | c :: cs, h, hp => by
    obtain ⟨h1, h2⟩ := List.pairwise_cons.1 hp
    rw [smCs, smC_hits (h c (by simp)) F, smCs_hits F (fun d hd => h d (by simp [hd])) h2, ← sm_add]
    refine sm_congr p.length fun x _ => ?_
    rw [← Nat.add_mul]
    congr 1
    by_cases hx : inC c x
    · rw [ch_true hx, ch_false (fun ⟨d, hd, hx'⟩ => h1 d hd x hx hx'), ch_true ⟨c, by simp, hx⟩]
    · rw [ch_false hx, Nat.zero_add]
      refine ch_congr ⟨fun ⟨d, hd, hx'⟩ => ⟨d, by simp [hd], hx'⟩, fun ⟨d, hd, hx'⟩ => ?_⟩
      rcases List.mem_cons.1 hd with rfl | hd
      · exact absurd hx' hx
      · exact ⟨d, hd, hx'⟩
/-- A sum over the points is one over the cycles. -/
theorem sum_cycles {p : List Int} (hp : Vld p) (F : Nat → Nat) : sm p.length F = smCs F (cyclesL p) := by
  obtain ⟨h1, h2, h3⟩ := cyclesL_spec hp
  rw [smCs_hits F h1 h3]
  exact sm_congr p.length fun x hx => by rw [ch_true (h2 x hx), Nat.one_mul]

theorem least_at (g : Nat → Nat) : ∀ n, 0 < n → ∃ j, j < n ∧ ∀ i, i < n → g j ≤ g i
  | 0, h => absurd h (by omega)
  | 1, _ => ⟨0, by omega, fun i hi => by obtain rfl : i = 0 := by omega
                                         exact Nat.le_refl _⟩
  | n + 2, _ => by
    obtain ⟨j, hj, h⟩ := least_at g (n + 1) (by omega)
    by_cases e : g j ≤ g (n + 1)
    · refine ⟨j, by omega, fun i hi => ?_⟩
      by_cases e' : i = n + 1
      · rw [e']; exact e
      · exact h i (by omega)
    · refine ⟨n + 1, by omega, fun i hi => ?_⟩
      by_cases e' : i = n + 1
      · rw [e']; exact Nat.le_refl _
      · have := h i (by omega); omega
theorem Cyc.reach {p c : List Int} (h : Cyc p c) {i j : Nat} (hi : i < c.length) (hj : j < c.length) : ∃ k, Go.Proofs.Ytjpebcomecoheaa.it p k (gn c i) = gn c j := by
  refine ⟨j + (c.length - i), ?_⟩
  rw [h.it _ hi, show i + (j + (c.length - i)) = j + c.length from by omega, Nat.add_mod_right, Nat.mod_eq_of_lt hj]
/-- There are as many cycles as points that are the least of their cycles. -/
theorem lows_cycles {p : List Int} (hp : Vld p) : lows p.length (gn p) = (cyclesL p).length := by
  obtain ⟨h1, -, -⟩ := cyclesL_spec hp
  unfold lows
  rw [sum_cycles hp]
  refine smCs_one fun c hc => ?_
  have h := h1 c hc
  obtain ⟨j0, hj0, hmin⟩ := least_at (gn c) c.length h.pos
  unfold smC
  rw [sm_one (i0 := j0) c.length hj0 (fun k hk hne => ch_false fun hall => ?_), ch_true (fun k => ?_)]
  · rw [← it_itf, h.it k hj0]; exact hmin _ (Nat.mod_lt _ h.pos)
  · obtain ⟨q, hq⟩ := h.reach hk hj0
    have h2 := hall q
    rw [← it_itf, hq] at h2
    have h3 := hmin k hk
    rcases Nat.lt_or_gt_of_ne hne with hlt | hlt
    · exact h.apart k j0 hlt hj0 (by omega)
    · exact h.apart j0 k hlt hk (by omega)
theorem parity_cycles {p : List Int} (hp : Vld p) : (p.length + (cyclesL p).length + invs (gn p) p.length) % 2 = 0 := by
  rw [← lows_cycles hp]; exact parity_invs _ _ hp.prm

/-! ### Lengths of cycles -/
/-- How many points the cycle of x has. -/
noncomputable def per (p : List Int) (x : Nat) : Nat := sm p.length fun y => ch (∃ k, it p k x = y)
theorem Cyc.per {p c : List Int} (h : Cyc p c) {i : Nat} (hi : i < c.length) : per p (gn c i) = c.length := by
  unfold Go.Proofs.Ytjpebcomecoheaa.per
  have h1 := smC_hits h fun _ => 1
  rw [smC, sm_const, Nat.mul_one] at h1
  rw [h1]
  refine sm_congr p.length fun y _ => ?_
  rw [Nat.mul_one]
  refine ch_congr ⟨fun ⟨k, hk⟩ => ⟨_, Nat.mod_lt _ h.pos, (h.it k hi).symm.trans hk⟩, fun ⟨j, hj, e⟩ => ?_⟩
  obtain ⟨k, hk⟩ := h.reach hi hj
  exact ⟨k, hk.trans e⟩
theorem cnt_cons (c : List Int) (cs : List (List Int)) (k : Nat) : ∀ i, cnt (c :: cs) k (i + 1) = (if c.length = k then 1 else 0) + cnt cs k i
  | 0 => by simp [cnt]
  | i + 1 => by
    have e : (c :: cs).getD (i + 1) [] = cs.getD i [] := rfl
    rw [cnt, cnt_cons c cs k i, cnt, e]; omega
theorem per_smCs {p : List Int} (k : Nat) : ∀ {cs : List (List Int)}, (∀ c, c ∈ cs → Cyc p c) → smCs (fun x => ch (per p x = k)) cs = k * cnt cs k cs.length
  | [], _ => by simp [smCs, cnt]
  | c :: cs, h => by
    have hc := h c (by simp)
    rw [smCs, per_smCs k (fun d hd => h d (by simp [hd])), List.length_cons, cnt_cons, Nat.mul_add]
    congr 1
    unfold smC
    by_cases e : c.length = k
    · rw [if_pos e, sm_congr c.length (G := fun _ => 1) (fun j hj => by show ch (per p (gn c j) = k) = 1; rw [hc.per hj]; exact ch_true e), sm_const, e]
    · rw [if_neg e, sm_congr c.length (G := fun _ => 0) (fun j hj => by show ch (per p (gn c j) = k) = 0; rw [hc.per hj]; exact ch_false e), sm_zero]; omega
theorem per_cnt {p : List Int} (hp : Vld p) (k : Nat) : sm p.length (fun x => ch (per p x = k)) = k * cnt (cyclesL p) k (cyclesL p).length := by
  rw [sum_cycles hp, per_smCs k (cyclesL_spec hp).1]
theorem fromLen_congr {cs ds : List (List Int)} : ∀ n, (∀ k, 0 < k → cnt cs k cs.length = cnt ds k ds.length) → fromLen cs n = fromLen ds n
  | 0, _ => rfl
  | n + 1, h => by rw [fromLen, fromLen, h (n + 1) (by omega), fromLen_congr n h]
/-- A renaming of the points that keeps the lengths of the cycles keeps the type. -/
theorem type_of_per {p q : List Int} (hp : Vld p) (hq : Vld q) (hl : p.length = q.length) {f : Nat → Nat} (hf : Prm p.length f) (h : ∀ x, x < p.length → per q (f x) = per p x) : typeL p = typeL q := by
  unfold typeL
  rw [hl]
  refine fromLen_congr _ fun k hk => ?_
  have h1 := per_cnt hp k
  have h2 := per_cnt hq k
  have h3 : sm p.length (fun x => ch (per p x = k)) = sm q.length (fun x => ch (per q x = k)) := by
    rw [← hl, ← sm_prm (fun x => ch (per q x = k)) p.length f hf]
    exact sm_congr p.length fun x hx => by rw [h x hx]
  rw [h3, h2] at h1
  exact Nat.eq_of_mul_eq_mul_left hk h1.symm
theorem conj_gn' {p b : List Int} (hb : Vld b) {x : Nat} (hx : x < b.length) : gn (conjL p b) (gn b x) = gn b (gn p x) := by
  have := conjL_at (p := p) hb hx
  unfold gn at this ⊢
  rw [this]
theorem conj_vld {p b : List Int} (hp : Vld p) (hb : Vld b) (hl : p.length = b.length) : Vld (conjL p b) := by
  have hlen := conjL_len p b
  refine ⟨by rw [hlen]; exact hb.1, by rw [hlen]; exact hb.2.1, fun j hj => ?_, fun j hj i hij e => ?_⟩
  · rw [hlen] at hj ⊢
    obtain ⟨x, hx, rfl⟩ := hb.surj hj
    rw [conjL_at hb hx]
    exact hb.2.2.1 _ (by rw [← hl]; exact hp.gn_lt (by omega))
  · rw [hlen] at hj
    obtain ⟨x, hx, rfl⟩ := hb.surj hj
    obtain ⟨y, hy, rfl⟩ := hb.surj (show i < b.length by omega)
    rw [conjL_at hb hx, conjL_at hb hy] at e
    have hx' : gn p x < b.length := by rw [← hl]; exact hp.gn_lt (by omega)
    have hy' : gn p y < b.length := by rw [← hl]; exact hp.gn_lt (by omega)
    have e2 : gn b (gn p y) = gn b (gn p x) := by rw [hb.gi_gn hx', hb.gi_gn hy'] at e; omega
    have := hp.inj (by omega) (by omega) (hb.inj hy' hx' e2)
    rw [this] at hij; omega
theorem conj_it {p b : List Int} (hp : Vld p) (hb : Vld b) (hl : p.length = b.length) {x : Nat} (hx : x < b.length) : ∀ k, it (conjL p b) k (gn b x) = gn b (it p k x)
  | 0 => rfl
  | k + 1 => by rw [it, conj_it hp hb hl hx k, conj_gn' hb (by rw [← hl]; exact it_lt hp k (by omega)), it]
theorem conj_type {p b : List Int} (hp : Vld p) (hb : Vld b) (hl : p.length = b.length) : typeL p = typeL (conjL p b) := by
  have hlen := conjL_len p b
  have hpb : Prm p.length (gn b) := by rw [hl]; exact hb.prm
  refine type_of_per hp (conj_vld hp hb hl) (by omega) hpb fun x hx => ?_
  unfold per
  rw [hlen, ← hl, ← sm_prm _ p.length _ hpb]
  refine sm_congr p.length fun y hy => ch_congr ⟨fun ⟨k, hk⟩ => ⟨k, ?_⟩, fun ⟨k, hk⟩ => ⟨k, ?_⟩⟩
  · rw [conj_it hp hb hl (by omega)] at hk
    exact hb.inj (by rw [← hl]; exact it_lt hp k hx) (by omega) hk
  · rw [conj_it hp hb hl (by omega), hk]
theorem back_reach {p : List Int} (hp : Vld p) {x y : Nat} (hx : x < p.length) (h : ∃ k, it p k x = y) : ∃ k, it (backL p) k y = x := by
  obtain ⟨k, rfl⟩ := h
  induction k with
  | zero => exact ⟨0, rfl⟩
  | succ k ih =>
    obtain ⟨q, hq⟩ := ih
    refine ⟨q + 1, ?_⟩
    rw [it_succ', it, hp.gn_backL (it_lt hp k hx)]
    exact hq
theorem reach_sym {p : List Int} (hp : Vld p) {x y : Nat} (hx : x < p.length) (h : ∃ k, it p k x = y) : ∃ k, it p k y = x := by
  obtain ⟨k, rfl⟩ := h
  obtain ⟨h1, h2, _⟩ := cyclesL_spec hp
  obtain ⟨c, hc, j, hj, rfl⟩ := h2 x hx
  have h := h1 c hc
  rw [h.it k hj]
  exact h.reach (Nat.mod_lt _ h.pos) hj
theorem back_back {p : List Int} (hp : Vld p) : backL (backL p) = p := by
  refine (hp.ext (backL_len _ |>.trans (backL_len p)) rfl fun i hi => ?_)
  have hb := backL_vld hp
  have hl := backL_len p
  have h1 := hb.gi_backL (i := gn p (gn p i)) (by rw [hl]; exact hp.gn_lt (hp.gn_lt hi))
  rw [hp.gn_backL (hp.gn_lt hi)] at h1
  rw [h1, hp.gi_gn (hp.gn_lt hi)]
theorem back_type {p : List Int} (hp : Vld p) : typeL p = typeL (backL p) := by
  have hl := backL_len p
  refine type_of_per hp (backL_vld hp) hl.symm (f := fun x => x) ⟨fun _ h => h, fun _ _ _ _ h => h⟩ fun x hx => ?_
  unfold per
  rw [hl]
  refine sm_congr p.length fun y hy => ch_congr ⟨fun h => ?_, fun h => ?_⟩
  · have h1 := back_reach (backL_vld hp) (by rw [hl]; exact hx) h
    rw [back_back hp] at h1
    exact reach_sym hp hy h1
  · exact back_reach hp hy (reach_sym hp hx h)

end Go.Proofs.Ytjpebcomecoheaa

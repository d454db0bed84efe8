/-
  Plain: what a word with two sides lacks is even: its corners are the cycles of one permutation, whose sign is known.
-/
import Derived.Test.YtmhalaleoklplaaDoorWrdN
namespace Go.Proofs.YtmhalaleoklplaaDoor

theorem invs_same {f g : Nat → Nat} (n : Nat) (h : ∀ i, i < n → f i = g i) : invs f n = invs g n := by
  unfold invs
  exact sm_congr n fun i hi => sm_congr i fun k hk => by rw [h i hi, h k (by omega)]
theorem vld_of_prm {n : Nat} {f : Nat → Nat} (h1 : 1 ≤ n) (h2 : n ≤ 12) (h : Prm n f) : Vld (tab n fun i => (f i : Int)) := by
  refine ⟨by rw [tab_len]; exact h1, by rw [tab_len]; exact h2, fun j hj => ?_, fun j hj i hij e => ?_⟩
  · rw [tab_len] at hj ⊢
    rw [gi_tab hj]
    have := h.lt j hj
    omega
  · rw [tab_len] at hj
    rw [gi_tab hj, gi_tab (by omega)] at e
    have := h.inj i j (by omega) hj (by omega)
    omega
theorem gn_tab {n : Nat} {f : Nat → Nat} {i : Nat} (h : i < n) : gn (tab n fun i => (f i : Int)) i = f i := gn_of (gi_tab h)
/-- The next side; from a side to the next one of its partner. -/
def rotN (n i : Nat) : Nat := (i + 1) % n
def rotL (n : Nat) : List Int := tab n fun i => (rotN n i : Int)
def piL (l : List UInt8) : List Int := tab l.length fun i => (rotN l.length (par l i) : Int)
theorem rotN_prm {n : Nat} (h : 0 < n) : Prm n (rotN n) := by
  refine ⟨fun i _ => Nat.mod_lt _ h, fun i j hi hj e => ?_⟩
  unfold rotN at e
  by_cases h1 : i + 1 < n <;> by_cases h2 : j + 1 < n
  · rw [Nat.mod_eq_of_lt h1, Nat.mod_eq_of_lt h2] at e; omega
  · rw [Nat.mod_eq_of_lt h1, show j + 1 = n by omega, Nat.mod_self] at e; omega
  · rw [Nat.mod_eq_of_lt h2, show i + 1 = n by omega, Nat.mod_self] at e; omega
  · omega
theorem Word.par_prm {l : List UInt8} (h : Word l) : Prm l.length (par l) :=
  ⟨fun _ hi => (h.isPar hi).lt, fun i j hi hj e => by have := h.par2 hi; rw [e, h.par2 hj] at this; exact this.symm⟩
theorem Word.pi_prm {l : List UInt8} (h : Word l) : Prm l.length fun i => rotN l.length (par l i) :=
  ⟨fun i hi => (rotN_prm h.pos).lt _ (h.par_prm.lt i hi), fun i j hi hj e => h.par_prm.inj i j hi hj ((rotN_prm h.pos).inj _ _ (h.par_prm.lt i hi) (h.par_prm.lt j hj) e)⟩
theorem rot_one : ∀ n, n < 11 → 1 ≤ n → (cyclesL (rotL n)).length = 1 := by decide +kernel
theorem smCs_twoW {F : Nat → Nat} : ∀ {cs : List (List Int)}, (∀ c, c ∈ cs → smC F c = 2) → smCs F cs = 2 * cs.length
  | [], _ => rfl
  | c :: cs, h => by rw [smCs, h c (by simp), smCs_twoW (fun d hd => h d (by simp [hd]))]; simp; omega
theorem pair_cycles {f : List Int} (hf : Vld f) (hp : Paired f) : 2 * (cyclesL f).length = f.length := by
  have h := sum_cycles hf fun _ => 1
  rw [sm_const, Nat.mul_one] at h
  rw [h, smCs_twoW fun c hc => ?_]
  have hcy := (cyclesL_spec hf).1 c hc
  unfold smC
  rw [sm_const, Nat.mul_one]
  have h0 := hcy.pos
  have hx := hcy.lt 0 h0
  have hpx := hp _ hx
  have r1 := hcy.round 0 h0
  by_cases e1 : c.length = 1
  · rw [e1] at r1
    exact absurd r1 hpx.1
  · have m1 : (0 + 1) % c.length = 1 := Nat.mod_eq_of_lt (by omega)
    rw [m1] at r1
    have r2 := hcy.round 1 (by omega)
    rw [← r1, hpx.2] at r2
    by_cases e2 : c.length = 2
    · exact e2
    · have m2 : (1 + 1) % c.length = 2 := Nat.mod_eq_of_lt (by omega)
      rw [m2] at r2
      exact absurd r2 (hcy.apart 0 2 (by omega) (by omega))
theorem Word.pi_vld {l : List UInt8} (h : Word l) : Vld (piL l) := vld_of_prm h.pos (by have := h.len; omega) h.pi_prm
theorem Word.pi_parity {l : List UInt8} (h : Word l) : ((cyclesL (piL l)).length + l.length / 2 + 1) % 2 = 0 := by
  have hl := h.len
  have hv1 : Vld (parL l) := vld_of_prm h.pos (by omega) h.par_prm
  have hv2 : Vld (rotL l.length) := vld_of_prm h.pos (by omega) (rotN_prm h.pos)
  have p1 := parity_cycles hv1
  have p2 := parity_cycles hv2
  have p3 := parity_cycles h.pi_vld
  have p4 := invs_mul h.par_prm (rotN_prm h.pos)
  have hp : Paired (parL l) := fun i hi => by
    rw [parL_len] at hi
    have e1 : gn (parL l) i = par l i := gn_tab hi
    have e2 : gn (parL l) (par l i) = par l (par l i) := gn_tab (h.isPar hi).lt
    rw [e1, e2, h.par2 hi]
    exact ⟨(h.isPar hi).ne, rfl⟩
  have e1 := pair_cycles hv1 hp
  have e2 := rot_one l.length (by omega) h.pos
  rw [parL_len] at p1 e1
  rw [show (rotL l.length).length = l.length from tab_len _ _, e2] at p2
  rw [show (piL l).length = l.length from tab_len _ _] at p3
  rw [invs_same l.length (f := gn (parL l)) (g := par l) (fun i hi => gn_tab hi)] at p1
  rw [invs_same l.length (f := gn (rotL l.length)) (g := rotN l.length) (fun i hi => gn_tab hi)] at p2
  rw [invs_same l.length (f := gn (piL l)) (g := fun i => rotN l.length (par l i)) (fun i hi => gn_tab hi)] at p3
  omega

/-! ### Corners are cycles -/
theorem nxE_rot {n i : Nat} (hi : i < n) : nxE (2 * n) (2 * i + 1) = 2 * rotN n i := by
  unfold rotN
  by_cases e : i + 1 < n
  · rw [nxE_odd e, Nat.mod_eq_of_lt e]
  · obtain rfl : i = n - 1 := by omega
    rw [nxE_last (by omega), show n - 1 + 1 = n by omega, Nat.mod_self]
/-- The side at whose beginning an end lies. -/
def kE (n x : Nat) : Nat := if x % 2 = 0 then x / 2 else rotN n (x / 2)
theorem kE_even (n i : Nat) : kE n (2 * i) = i := by unfold kE; rw [if_pos (by omega)]; omega
theorem kE_odd (n i : Nat) : kE n (2 * i + 1) = rotN n i := by unfold kE; rw [if_neg (by omega), show (2 * i + 1) / 2 = i by omega]
structure Sided (l : List UInt8) : Prop where
  w : Word l
  s : ∀ i, i < l.length → twoAt l i = true
section
variable {l : List UInt8} (h : Sided l)
include h
theorem Sided.g_even {i : Nat} (hi : i < l.length) : gn (gluW l) (2 * i) = 2 * par l i + 1 := by
  rw [gn_gluW (by omega), glE_even, tw, if_pos (h.s i hi)]
theorem Sided.g_odd {i : Nat} (hi : i < l.length) : gn (gluW l) (2 * i + 1) = 2 * par l i := by
  rw [gn_gluW (by omega), glE_odd, tw, if_pos (h.s i hi)]; omega
theorem Sided.k_lt {x : Nat} (hx : x < 2 * l.length) : kE l.length x < l.length := by
  obtain ⟨i, rfl | rfl⟩ := half x
  · rw [kE_even]; omega
  · rw [kE_odd]; exact (rotN_prm h.w.pos).lt i (by omega)
theorem Sided.k_q {x : Nat} (hx : x < 2 * l.length) : kE l.length (gn (nxtW l.length) x) = kE l.length x := by
  rw [gn_nxtW hx]
  obtain ⟨i, rfl | rfl⟩ := half x
  · have h1 := (nxE_inv hx).2
    obtain ⟨j, e | e⟩ := half (nxE (2 * l.length) (2 * i))
    · exfalso
      have := (nxE_inv hx).1
      cases i with
      | zero => rw [Nat.mul_zero, nxE_zero h.w.pos] at e; omega
      | succ i => rw [nxE_even (by omega)] at e; omega
    · have hj := (nxE_inv hx).1
      rw [e] at h1 hj ⊢
      rw [nxE_rot (by omega)] at h1
      rw [kE_odd, kE_even]; omega
  · rw [nxE_rot (by omega), kE_even, kE_odd]
theorem Sided.k_g {x : Nat} (hx : x < 2 * l.length) : kE l.length (gn (gluW l) x) = gn (piL l) (kE l.length x) ∨ gn (piL l) (kE l.length (gn (gluW l) x)) = kE l.length x := by
  obtain ⟨i, rfl | rfl⟩ := half x
  · left
    have hi : i < l.length := by omega
    have e : gn (piL l) i = rotN l.length (par l i) := gn_tab hi
    rw [h.g_even hi, kE_odd, kE_even, e]
  · right
    rw [h.g_odd (by omega), kE_odd, kE_even]
    have e : gn (piL l) (par l i) = rotN l.length (par l (par l i)) := gn_tab (h.w.isPar (by omega)).lt
    rw [e, h.w.par2 (by omega)]
theorem Sided.inC_pi {c : List Int} (hc : c ∈ cyclesL (piL l)) {i : Nat} (hi : i < l.length) : inC c (gn (piL l) i) ↔ inC c i := by
  obtain ⟨h1, h2, h3⟩ := cyclesL_spec h.w.pi_vld
  have fwd : ∀ d, d ∈ cyclesL (piL l) → inC d i → inC d (gn (piL l) i) := fun d hd ⟨j, hj, e⟩ =>
    ⟨(j + 1) % d.length, Nat.mod_lt _ (h1 d hd).pos, by rw [← (h1 d hd).round j hj, e]⟩
  refine ⟨fun hg => ?_, fwd c hc⟩
  obtain ⟨d, hd, hdi⟩ := h2 i (by rw [show (piL l).length = l.length from tab_len _ _]; exact hi)
  have hdg := fwd d hd hdi
  by_cases e : c = d
  · rw [e]; exact hdi
  · exfalso
    obtain ⟨a, ha, rfl⟩ := List.getElem_of_mem hc
    obtain ⟨b, hb, rfl⟩ := List.getElem_of_mem hd
    rw [List.pairwise_iff_getElem] at h3
    rcases Nat.lt_trichotomy a b with h' | h' | h'
    · exact h3 a b ha hb h' _ hg hdg
    · subst h'; exact e rfl
    · exact h3 b a hb ha h' _ hdg hg
theorem Sided.inC_lead {c : List Int} (hc : c ∈ cyclesL (piL l)) {x y : Nat} (hx : x < 2 * l.length) (hl : Lead (gluW l) (nxtW l.length) x y) : inC c (kE l.length x) ↔ inC c (kE l.length y) := by
  obtain ⟨hg, hn⟩ := h.w.ivl
  have hlen : (gluW l).length = (nxtW l.length).length := by rw [gluW_len, nxtW_len]
  have hlt : ∀ y, Lead (gluW l) (nxtW l.length) x y → y < 2 * l.length := fun y hy => by
    have := hy.ltI hg hn hlen (by rw [gluW_len]; exact hx)
    rwa [gluW_len] at this
  induction hl with
  | refl => exact Iff.rfl
  | @one y hy ih =>
    have hyl := hlt y hy
    have hy2 := hlt _ (.one hy)
    rcases h.k_g hyl with e | e
    · rw [e, h.inC_pi hc (h.k_lt hyl)]; exact ih
    · rw [← h.inC_pi hc (h.k_lt hy2), e]; exact ih
  | @two y hy ih =>
    rw [h.k_q (hlt y hy)]; exact ih
theorem Sided.orb_pi {i : Nat} (hi : i < l.length) : orb (gluW l) (nxtW l.length) (2 * gn (piL l) i) = orb (gluW l) (nxtW l.length) (2 * i) := by
  obtain ⟨hg, hn⟩ := h.w.ivl
  have hlen : (gluW l).length = (nxtW l.length).length := by rw [gluW_len, nxtW_len]
  have hp := (h.w.isPar hi).lt
  have e1 := orb_oneI hg hn hlen (x := 2 * i) (by rw [gluW_len]; omega)
  have e2 := orb_twoI hg hn hlen (x := 2 * par l i + 1) (by rw [gluW_len]; omega)
  rw [h.g_even hi] at e1
  rw [gn_nxtW (by omega), nxE_rot hp] at e2
  rw [show gn (piL l) i = rotN l.length (par l i) from gn_tab hi, e2, e1]
theorem Sided.orb_k {x : Nat} (hx : x < 2 * l.length) : orb (gluW l) (nxtW l.length) (2 * kE l.length x) = orb (gluW l) (nxtW l.length) x := by
  obtain ⟨hg, hn⟩ := h.w.ivl
  have hlen : (gluW l).length = (nxtW l.length).length := by rw [gluW_len, nxtW_len]
  obtain ⟨i, rfl | rfl⟩ := half x
  · rw [kE_even]
  · have e2 := orb_twoI hg hn hlen (x := 2 * i + 1) (by rw [gluW_len]; omega)
    rw [gn_nxtW hx, nxE_rot (by omega)] at e2
    rw [kE_odd, e2]
theorem Sided.orb_cyc {c : List Int} (hc : c ∈ cyclesL (piL l)) : ∀ j, j < c.length → orb (gluW l) (nxtW l.length) (2 * gn c j) = orb (gluW l) (nxtW l.length) (2 * gn c 0) := by
  have hcy := (cyclesL_spec h.w.pi_vld).1 c hc
  intro j
  induction j with
  | zero => intro _; rfl
  | succ j ih =>
    intro hj
    have hr := hcy.round j (by omega)
    rw [Nat.mod_eq_of_lt hj] at hr
    have hlt := hcy.lt j (by omega)
    rw [show (piL l).length = l.length from tab_len _ _] at hlt
    rw [← hr, h.orb_pi hlt]
    exact ih (by omega)
theorem Sided.cor_eq : corN l = (cyclesL (piL l)).length := by
  obtain ⟨hg, hn⟩ := h.w.ivl
  have hlen : (gluW l).length = (nxtW l.length).length := by rw [gluW_len, nxtW_len]
  obtain ⟨h1, h2, h3⟩ := cyclesL_spec h.w.pi_vld
  have hpl : (piL l).length = l.length := tab_len _ _
  have hval : ∀ x, x < 2 * l.length → gi (corL l) x = (orb (gluW l) (nxtW l.length) x : Int) := fun x hx => gi_orbL (by rw [gluW_len]; exact hx)
  have hF : corN l = ((List.range (2 * l.length)).filter fun x => gi (corL l) x == (x : Int)).length := by
    unfold corN fixN
    rw [List.countP_eq_length_filter]
  have hM : ((cyclesL (piL l)).map fun c => orb (gluW l) (nxtW l.length) (2 * gn c 0)).length = (cyclesL (piL l)).length := List.length_map _
  have hhead : ∀ c, c ∈ cyclesL (piL l) → gn c 0 < l.length ∧ inC c (gn c 0) := fun c hc => by
    have := (h1 c hc).lt 0 (h1 c hc).pos
    rw [hpl] at this
    exact ⟨this, 0, (h1 c hc).pos, rfl⟩
  have hnod : ((cyclesL (piL l)).map fun c => orb (gluW l) (nxtW l.length) (2 * gn c 0)).Nodup := by
    rw [List.nodup_iff_pairwise_ne, List.pairwise_map]
    refine List.Pairwise.imp_of_mem ?_ h3
    intro c d hc hd hcd e
    obtain ⟨hc1, hc2⟩ := hhead c hc
    obtain ⟨hd1, hd2⟩ := hhead d hd
    have hlt : orb (gluW l) (nxtW l.length) (2 * gn c 0) < 2 * l.length := Nat.lt_of_le_of_lt orb_le (by omega)
    have i1 := h.inC_lead hc hlt orb_lead
    have i2 := h.inC_lead hc (x := orb (gluW l) (nxtW l.length) (2 * gn c 0)) (y := 2 * gn d 0) hlt (by rw [e]; exact orb_lead)
    rw [kE_even] at i1 i2
    exact hcd _ (i2.1 (i1.2 hc2)) hd2
  have s1 : ∀ x, x ∈ ((cyclesL (piL l)).map fun c => orb (gluW l) (nxtW l.length) (2 * gn c 0)) → x ∈ (List.range (2 * l.length)).filter fun x => gi (corL l) x == (x : Int) := by
    intro x hx
    obtain ⟨c, hc, rfl⟩ := List.mem_map.1 hx
    obtain ⟨hc1, -⟩ := hhead c hc
    have hlt : orb (gluW l) (nxtW l.length) (2 * gn c 0) < 2 * l.length := Nat.lt_of_le_of_lt orb_le (by omega)
    refine List.mem_filter.2 ⟨List.mem_range.2 hlt, ?_⟩
    rw [hval _ hlt, orb_orbI hg hn hlen (by rw [gluW_len]; omega)]
    simp
  have s2 : ∀ x, x ∈ ((List.range (2 * l.length)).filter fun x => gi (corL l) x == (x : Int)) → x ∈ (cyclesL (piL l)).map fun c => orb (gluW l) (nxtW l.length) (2 * gn c 0) := by
    intro x hx
    obtain ⟨hx1, hx2⟩ := List.mem_filter.1 hx
    have hxl := List.mem_range.1 hx1
    rw [hval x hxl] at hx2
    simp only [beq_iff_eq] at hx2
    obtain ⟨c, hc, j, hj, hji⟩ := h2 (kE l.length x) (by rw [hpl]; exact h.k_lt hxl)
    refine List.mem_map.2 ⟨c, hc, ?_⟩
    rw [← h.orb_cyc hc j hj, hji, h.orb_k hxl]
    omega
  have a := nodup_sub _ _ hnod s1
  have b := nodup_sub _ _ (List.nodup_range.filter _) s2
  omega
/-- Corners and letters of a word with two sides are of one parity, but one. -/
theorem Sided.even : (corN l + l.length / 2 + 1) % 2 = 0 := by
  rw [h.cor_eq]; exact h.w.pi_parity
end

end Go.Proofs.YtmhalaleoklplaaDoor

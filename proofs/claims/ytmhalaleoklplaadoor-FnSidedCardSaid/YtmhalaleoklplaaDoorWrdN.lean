/-
  Plain: the ends of the sides of a word; what is glued and what follows are two involutions; corners are their orbits. At most one corner more than letters.
-/
import Derived.Test.YtmhalaleoklplaaDoorWop
import Derived.Test.YtmhalaleoklplaaDoorOrbI
namespace Go.Proofs.YtmhalaleoklplaaDoor

def tw (l : List UInt8) (i : Nat) : Nat := if twoAt l i then 1 else 0
theorem tw_le (l : List UInt8) (i : Nat) : tw l i ≤ 1 := by unfold tw; split <;> omega
/-- The end that is glued to an end; the end that is one with it. -/
def glE (l : List UInt8) (x : Nat) : Nat := if x % 2 = 0 then 2 * par l (x / 2) + tw l (x / 2) else 2 * par l (x / 2) + 1 - tw l (x / 2)
def nxE (n x : Nat) : Nat := if x % 2 = 1 then (x + 1) % n else (x + n - 1) % n
theorem glE_even (l : List UInt8) (i : Nat) : glE l (2 * i) = 2 * par l i + tw l i := by
  unfold glE; rw [if_pos (by omega), show 2 * i / 2 = i by omega]
theorem glE_odd (l : List UInt8) (i : Nat) : glE l (2 * i + 1) = 2 * par l i + 1 - tw l i := by
  unfold glE; rw [if_neg (by omega), show (2 * i + 1) / 2 = i by omega]
def gluW (l : List UInt8) : List Int := tab (2 * l.length) fun x => (glE l x : Int)
def nxtW (n : Nat) : List Int := tab (2 * n) fun x => (nxE (2 * n) x : Int)
theorem gluW_len (l : List UInt8) : (gluW l).length = 2 * l.length := tab_len _ _
theorem nxtW_len (n : Nat) : (nxtW n).length = 2 * n := tab_len _ _
theorem gn_gluW {l : List UInt8} {x : Nat} (h : x < 2 * l.length) : gn (gluW l) x = glE l x := gn_of (gi_tab h)
theorem gn_nxtW {n x : Nat} (h : x < 2 * n) : gn (nxtW n) x = nxE (2 * n) x := gn_of (gi_tab h)
theorem Word.tw_par {l : List UInt8} (h : Word l) {i : Nat} (hi : i < l.length) : tw l (par l i) = tw l i := by
  unfold tw twoAt
  rw [h.par2 hi, bne_comm]
theorem half (x : Nat) : ∃ i, x = 2 * i ∨ x = 2 * i + 1 := ⟨x / 2, by omega⟩
theorem Word.glE {l : List UInt8} (h : Word l) {x : Nat} (hx : x < 2 * l.length) : glE l x < 2 * l.length ∧ glE l (glE l x) = x := by
  obtain ⟨i, rfl | rfl⟩ := half x
  · have hi : i < l.length := by omega
    have hp := (h.isPar hi).lt
    have ht := tw_le l i
    have htp := h.tw_par hi
    rw [glE_even]
    refine ⟨by omega, ?_⟩
    rcases (by omega : tw l i = 0 ∨ tw l i = 1) with e | e
    · rw [e, Nat.add_zero, glE_even, htp, e, h.par2 hi]; rfl
    · rw [e, glE_odd, htp, e, h.par2 hi]; omega
  · have hi : i < l.length := by omega
    have hp := (h.isPar hi).lt
    have ht := tw_le l i
    have htp := h.tw_par hi
    rw [glE_odd]
    refine ⟨by omega, ?_⟩
    rcases (by omega : tw l i = 0 ∨ tw l i = 1) with e | e
    · rw [e, Nat.sub_zero, glE_odd, htp, e, h.par2 hi]; omega
    · rw [e, Nat.add_sub_cancel, glE_even, htp, e, h.par2 hi]
theorem nxE_odd {n i : Nat} (hi : i + 1 < n) : nxE (2 * n) (2 * i + 1) = 2 * (i + 1) := by
  unfold nxE; rw [if_pos (by omega), Nat.mod_eq_of_lt (by omega)]; omega
theorem nxE_last {n : Nat} (hn : 0 < n) : nxE (2 * n) (2 * (n - 1) + 1) = 0 := by
  unfold nxE; rw [if_pos (by omega), show 2 * (n - 1) + 1 + 1 = 2 * n by omega, Nat.mod_self]
theorem nxE_even {n i : Nat} (hi : i + 1 < n) : nxE (2 * n) (2 * (i + 1)) = 2 * i + 1 := by
  unfold nxE; rw [if_neg (by omega), show 2 * (i + 1) + 2 * n - 1 = 2 * i + 1 + 2 * n by omega, Nat.add_mod_right, Nat.mod_eq_of_lt (by omega)]
theorem nxE_zero {n : Nat} (hn : 0 < n) : nxE (2 * n) 0 = 2 * (n - 1) + 1 := by
  unfold nxE; rw [if_neg (by omega), Nat.mod_eq_of_lt (by omega)]; omega
theorem nxE_inv {n x : Nat} (hx : x < 2 * n) : nxE (2 * n) x < 2 * n ∧ nxE (2 * n) (nxE (2 * n) x) = x := by
  have hn : 0 < n := by omega
  obtain ⟨i, rfl | rfl⟩ := half x
  · cases i with
    | zero => rw [Nat.mul_zero, nxE_zero hn, nxE_last hn]; exact ⟨by omega, rfl⟩
    | succ i => rw [nxE_even (by omega), nxE_odd (by omega)]; exact ⟨by omega, rfl⟩
  · by_cases e : i + 1 < n
    · rw [nxE_odd e, nxE_even e]; exact ⟨by omega, rfl⟩
    · obtain rfl : i = n - 1 := by omega
      rw [nxE_last hn, nxE_zero hn]; exact ⟨by omega, rfl⟩
theorem Word.ivl {l : List UInt8} (h : Word l) : Ivl (gluW l) ∧ Ivl (nxtW l.length) := by
  have hl := h.len
  constructor
  · refine ⟨by rw [gluW_len]; omega, by rw [gluW_len]; omega, fun j hj => ?_, fun j hj => ?_⟩
    · rw [gluW_len] at hj
      have := (h.glE hj).1
      rw [gluW_len, gluW, gi_tab hj]; omega
    · rw [gluW_len] at hj
      rw [gn_gluW hj, gn_gluW (h.glE hj).1, (h.glE hj).2]
  · refine ⟨by rw [nxtW_len]; omega, by rw [nxtW_len]; omega, fun j hj => ?_, fun j hj => ?_⟩
    · rw [nxtW_len] at hj
      have := (nxE_inv hj).1
      rw [nxtW_len, nxtW, gi_tab hj]; omega
    · rw [nxtW_len] at hj
      rw [gn_nxtW hj, gn_nxtW (nxE_inv hj).1, (nxE_inv hj).2]

/-! ### Filled side by side -/
structure Fill (l : List UInt8) (k : Nat) (gl nx : List Int) : Prop where
  lg : gl.length = 2 * l.length
  nl : nx.length = 2 * l.length
  g : ∀ x, x < 2 * k → gi gl x = glE l x
  a : ∀ i, i < k → gi nx (2 * i + 1) = ((2 * i + 2) % (2 * l.length) : Nat)
  b : ∀ i, i < k → gi nx ((2 * i + 2) % (2 * l.length)) = (2 * i + 1 : Nat)
theorem Fill.start (l : List UInt8) : Fill l 0 (List.replicate (2 * l.length) 0) (List.replicate (2 * l.length) 0) :=
  ⟨by simp, by simp, fun x hx => by omega, fun i hi => by omega, fun i hi => by omega⟩
theorem nx_apart {n i k : Nat} (hk : k < n) (hi : i < k) : (2 * i + 2) % (2 * n) ≠ (2 * k + 2) % (2 * n) ∧ (2 * k + 2) % (2 * n) ≠ 2 * i + 1 ∧ (2 * i + 2) % (2 * n) ≠ 2 * k + 1 := by
  have e1 : (2 * i + 2) % (2 * n) = 2 * i + 2 := Nat.mod_eq_of_lt (by omega)
  rw [e1]
  by_cases e : k + 1 < n
  · rw [Nat.mod_eq_of_lt (by omega)]; omega
  · rw [show 2 * k + 2 = 2 * n by omega, Nat.mod_self]; omega
theorem nx_ne {n k : Nat} (hk : k < n) : 2 * k + 1 ≠ (2 * k + 2) % (2 * n) := by
  by_cases e : k + 1 < n
  · rw [Nat.mod_eq_of_lt (by omega)]; omega
  · rw [show 2 * k + 2 = 2 * n by omega, Nat.mod_self]; omega
theorem Fill.step {l : List UInt8} {k : Nat} {gl nx : List Int} (h : Fill l k gl nx) (hk : k < l.length) :
    Fill l (k + 1) ((gl.set (2 * k) (glE l (2 * k) : Int)).set (2 * k + 1) (glE l (2 * k + 1) : Int)) ((nx.set (2 * k + 1) ((2 * k + 2) % (2 * l.length) : Nat)).set ((2 * k + 2) % (2 * l.length)) (2 * k + 1 : Nat)) := by
  have hm : (2 * k + 2) % (2 * l.length) < 2 * l.length := Nat.mod_lt _ (by omega)
  have hgi : ∀ j, gi ((nx.set (2 * k + 1) ((2 * k + 2) % (2 * l.length) : Nat)).set ((2 * k + 2) % (2 * l.length)) (2 * k + 1 : Nat)) j = if j = (2 * k + 2) % (2 * l.length) then ((2 * k + 1 : Nat) : Int) else if j = 2 * k + 1 then (((2 * k + 2) % (2 * l.length) : Nat) : Int) else gi nx j := fun j => by
    rw [gi_set _ _ _ _ (by rw [List.length_set, h.nl]; exact hm), gi_set _ _ _ _ (by rw [h.nl]; omega)]
  have hne : (2 * k + 2) % (2 * l.length) ≠ 2 * k + 1 := by
    by_cases e : k + 1 < l.length
    · rw [Nat.mod_eq_of_lt (by omega)]; omega
    · rw [show 2 * k + 2 = 2 * l.length by omega, Nat.mod_self]; omega
  refine ⟨by simp [h.lg], by simp [h.nl], fun x hx => ?_, fun i hi => ?_, fun i hi => ?_⟩
  · rw [gi_set _ _ _ _ (by rw [List.length_set, h.lg]; omega), gi_set _ _ _ _ (by rw [h.lg]; omega)]
    split
    · rename_i e; rw [e]
    · split
      · rename_i e; rw [e]
      · exact h.g x (by omega)
  · rw [hgi]
    by_cases e : i = k
    · subst e; rw [if_neg (fun e => hne e.symm), if_pos rfl]
    · have := nx_apart hk (show i < k by omega)
      rw [if_neg (fun e => this.2.1 e.symm), if_neg (by omega)]
      exact h.a i (by omega)
  · rw [hgi]
    by_cases e : i = k
    · subst e; rw [if_pos rfl]
    · have := nx_apart hk (show i < k by omega)
      rw [if_neg this.1, if_neg this.2.2]
      exact h.b i (by omega)
theorem Fill.done {l : List UInt8} {gl nx : List Int} (h : Fill l l.length gl nx) (h0 : 0 < l.length) : gl = gluW l ∧ nx = nxtW l.length := by
  refine ⟨tab_ext h.lg h.g, tab_ext h.nl fun x hx => ?_⟩
  obtain ⟨i, rfl | rfl⟩ := half x
  · cases i with
    | zero =>
      rw [Nat.mul_zero, nxE_zero h0]
      have := h.b (l.length - 1) (by omega)
      rw [show 2 * (l.length - 1) + 2 = 2 * l.length by omega, Nat.mod_self] at this
      exact this
    | succ i =>
      rw [nxE_even (by omega)]
      have := h.b i (by omega)
      rw [Nat.mod_eq_of_lt (by omega)] at this
      exact this
  · rw [h.a i (by omega)]
    by_cases e : i + 1 < l.length
    · rw [nxE_odd e, Nat.mod_eq_of_lt (by omega)]; rfl
    · obtain rfl : i = l.length - 1 := by omega
      rw [nxE_last h0, show 2 * (l.length - 1) + 2 = 2 * l.length by omega, Nat.mod_self]

/-! ### Corners -/
/-- How many of the first k points are the least of their orbits. -/
noncomputable def fixN (ls : List Int) (k : Nat) : Nat := (List.range k).countP fun x => gi ls x == (x : Int)
theorem fixN_zero (ls : List Int) : fixN ls 0 = 0 := rfl
theorem fixN_succ (ls : List Int) (k : Nat) : fixN ls (k + 1) = fixN ls k + if gi ls k = (k : Int) then 1 else 0 := by
  simp [fixN, List.range_succ, List.countP_append]
theorem fixN_le (ls : List Int) (k : Nat) : fixN ls k ≤ k := by
  unfold fixN
  exact Nat.le_trans List.countP_le_length (by simp)
noncomputable def corL (l : List UInt8) : List Int := orbL (gluW l) (nxtW l.length)
theorem corL_len (l : List UInt8) : (corL l).length = 2 * l.length := by rw [corL, orbL_len, gluW_len]
noncomputable def corN (l : List UInt8) : Nat := fixN (corL l) (2 * l.length)
/-- A corner that is not that of the beginning is met first at the end of a side whose letter was not there yet. -/
theorem Word.first {l : List UInt8} (h : Word l) {x : Nat} (hx : x < 2 * l.length) (h0 : x ≠ 0) (hf : orb (gluW l) (nxtW l.length) x = x) : ∃ i, x = 2 * i + 1 ∧ i < par l i := by
  obtain ⟨hg, hn⟩ := h.ivl
  have hlen : (gluW l).length = (nxtW l.length).length := by rw [gluW_len, nxtW_len]
  obtain ⟨i, rfl | rfl⟩ := half x
  · exfalso
    cases i with
    | zero => exact h0 rfl
    | succ i =>
      have h1 := orb_twoI (p := gluW l) (q := nxtW l.length) (x := 2 * (i + 1)) hg hn hlen (by rw [gluW_len]; exact hx)
      rw [gn_nxtW hx, nxE_even (by omega), hf] at h1
      have := orb_le (p := gluW l) (q := nxtW l.length) (x := 2 * i + 1)
      omega
  · refine ⟨i, rfl, ?_⟩
    have hi : i < l.length := by omega
    have h1 := orb_oneI (p := gluW l) (q := nxtW l.length) (x := 2 * i + 1) hg hn hlen (by rw [gluW_len]; exact hx)
    rw [gn_gluW hx, glE_odd, hf] at h1
    have h2 := orb_le (p := gluW l) (q := nxtW l.length) (x := 2 * par l i + 1 - tw l i)
    have := tw_le l i
    have := (h.isPar hi).ne
    omega
theorem Word.zero_first (l : List UInt8) : orb (gluW l) (nxtW l.length) 0 = 0 := by
  have := orb_le (p := gluW l) (q := nxtW l.length) (x := 0)
  omega
theorem nodup_sub : ∀ (a b : List Nat), a.Nodup → (∀ x, x ∈ a → x ∈ b) → a.length ≤ b.length := by
  intro a
  induction a with
  | nil => intro b _ _; simp
  | cons x r ih =>
    intro b hn hs
    have hx := hs x (by simp)
    have hn' := List.nodup_cons.1 hn
    have h1 := ih (b.erase x) hn'.2 (fun y hy => (List.mem_erase_of_ne (fun e => hn'.1 (by rw [← e]; exact hy))).2 (hs y (by simp [hy])))
    rw [List.length_erase_of_mem hx] at h1
    have := List.length_pos_of_mem hx
    rw [List.length_cons]; omega
theorem count_le_of {P Q : Nat → Bool} {f : Nat → Nat} : ∀ (n : Nat), (∀ x, x < n → P x = true → Q (f x) = true) → (∀ x y, x < n → y < n → P x = true → P y = true → f x = f y → x = y) → ∀ m, (∀ x, x < n → P x = true → f x < m) → (List.range n).countP P ≤ (List.range m).countP Q := by
  intro n h1 h2 m h3
  rw [List.countP_eq_length_filter, List.countP_eq_length_filter]
  have hs : ((List.range n).filter P).map f ⊆ (List.range m).filter Q := by
    intro y hy
    obtain ⟨x, hx, rfl⟩ := List.mem_map.1 hy
    obtain ⟨hx, hp⟩ := List.mem_filter.1 hx
    rw [List.mem_range] at hx
    exact List.mem_filter.2 ⟨List.mem_range.2 (h3 x hx hp), h1 x hx hp⟩
  have hn : (((List.range n).filter P).map f).Nodup := by
    rw [List.nodup_iff_pairwise_ne, List.pairwise_map]
    refine List.Pairwise.imp_of_mem ?_ (List.nodup_range.filter P)
    intro a b ha hb hab e
    obtain ⟨ha, hpa⟩ := List.mem_filter.1 ha
    obtain ⟨hb, hpb⟩ := List.mem_filter.1 hb
    rw [List.mem_range] at ha hb
    exact hab (h2 a b ha hb hpa hpb e)
  have := nodup_sub _ _ hn hs
  rwa [List.length_map] at this
theorem Word.cor_le {l : List UInt8} (h : Word l) : 1 ≤ corN l ∧ 2 * corN l ≤ l.length + 2 := by
  have hpos := h.pos
  have hval : ∀ x, x < 2 * l.length → gi (corL l) x = (orb (gluW l) (nxtW l.length) x : Int) := fun x hx => gi_orbL (by rw [gluW_len]; exact hx)
  have e : corN l = 1 + ((List.range (2 * l.length)).countP fun x => decide (x ≠ 0) && (gi (corL l) x == (x : Int))) := by
    obtain ⟨m, hm⟩ : ∃ m, 2 * l.length = m + 1 := ⟨2 * l.length - 1, by omega⟩
    unfold corN fixN
    rw [hm, List.range_succ_eq_map, List.countP_cons, List.countP_cons, List.countP_map, List.countP_map]
    have h0 : (gi (corL l) 0 == ((0 : Nat) : Int)) = true := by rw [hval 0 (by omega), Word.zero_first]; rfl
    rw [h0]
    have : ((fun x => decide (x ≠ 0) && (gi (corL l) x == (x : Int))) ∘ Nat.succ) = ((fun x => gi (corL l) x == (x : Int)) ∘ Nat.succ) := by
      funext x; simp
    rw [this]
    simp
    omega
  have hle : ((List.range (2 * l.length)).countP fun x => decide (x ≠ 0) && (gi (corL l) x == (x : Int))) ≤ (List.range l.length).countP fun j => decide (j < par l j) := by
    have hf : ∀ x, x < 2 * l.length → (decide (x ≠ 0) && (gi (corL l) x == (x : Int))) = true → ∃ i, x = 2 * i + 1 ∧ i < par l i := fun x hx hp => by
      simp only [Bool.and_eq_true, decide_eq_true_eq, beq_iff_eq] at hp
      refine h.first hx hp.1 ?_
      have := hp.2
      rw [hval x hx] at this
      omega
    refine count_le_of (f := fun x => x / 2) _ (fun x hx hp => ?_) (fun x y hx hy hpx hpy e => ?_) _ (fun x hx hp => by show x / 2 < _; omega)
    · obtain ⟨i, rfl, hi⟩ := hf x hx hp
      show decide ((2 * i + 1) / 2 < par l ((2 * i + 1) / 2)) = true
      rw [show (2 * i + 1) / 2 = i by omega]
      exact decide_eq_true hi
    · obtain ⟨i, rfl, _⟩ := hf x hx hpx
      obtain ⟨j, rfl, _⟩ := hf y hy hpy
      have e' : (2 * i + 1) / 2 = (2 * j + 1) / 2 := e
      omega
  have := h.rk_all
  unfold rk at this
  omega

end Go.Proofs.YtmhalaleoklplaaDoor

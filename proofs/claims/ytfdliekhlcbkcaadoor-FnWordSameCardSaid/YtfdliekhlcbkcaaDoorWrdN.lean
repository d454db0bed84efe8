/-
  Plain: orbits of two involutions of at most 20 points (the ends of the sides of a word): what is said of permutations, said of them.
  Plain: the ends of the sides of a word; what is glued and what follows are two involutions; corners are their orbits. At most one corner more than letters.
  Plain: a word read back has as many corners, and two sides if the word has.
  Plain: what a word with two sides lacks is even: its corners are the cycles of one permutation, whose sign is known.
  Plain: a word turned has as many corners, and two sides if the word has; turned all around it is as it was.
  Plain: a word renamed has the same partners and corners; renamed twice it is as renamed once; its names are given once.
-/
import Derived.Test.YtfdliekhlcbkcaaDoorOrb
import Derived.Test.YtfdliekhlcbkcaaDoorWrd
namespace Go.Proofs.YtfdliekhlcbkcaaDoor

def Ivl (xs : List Int) : Prop := 1 ≤ xs.length ∧ xs.length ≤ 20 ∧ (∀ j, j < xs.length → 0 ≤ gi xs j ∧ gi xs j < xs.length) ∧ ∀ j, j < xs.length → gn xs (gn xs j) = j
theorem Ivl.gn_lt {p : List Int} (h : Ivl p) {j : Nat} (hj : j < p.length) : gn p j < p.length := by have := h.2.2.1 j hj; unfold gn; omega
theorem it_roundI {p : List Int} (hp : Ivl p) {x : Nat} (hx : x < p.length) : ∃ k, it p k (gn p x) = x := ⟨1, hp.2.2.2 x hx⟩
section
variable {p q : List Int} {x y z : Nat}
theorem Lead.ltI (hp : Ivl p) (hq : Ivl q) (hl : p.length = q.length) (h : Lead p q x y) (hx : x < p.length) : y < p.length := by
  induction h with
  | refl => exact hx
  | one _ ih => exact hp.gn_lt ih
  | two _ ih => rw [hl]; exact hq.gn_lt (by omega)
theorem Lead.symI (hp : Ivl p) (hq : Ivl q) (hl : p.length = q.length) (h : Lead p q x y) (hx : x < p.length) : Lead p q y x := by
  induction h with
  | refl => exact .refl _
  | @one y h ih =>
    obtain ⟨k, hk⟩ := it_roundI hp (h.ltI hp hq hl hx)
    have h2 := Lead.along1 p q (gn p y) k
    rw [hk] at h2
    exact h2.trans ih
  | @two y h ih =>
    obtain ⟨k, hk⟩ := it_roundI hq (show y < q.length by rw [← hl]; exact h.ltI hp hq hl hx)
    have h2 := Lead.along2 p q (gn q y) k
    rw [hk] at h2
    exact h2.trans ih
theorem orb_eqI (hp : Ivl p) (hq : Ivl q) (hl : p.length = q.length) (h : Lead p q x y) (hx : x < p.length) : orb p q y = orb p q x :=
  Nat.le_antisymm (orb_least (orb_lead.trans h)) (orb_least (orb_lead.trans (h.symI hp hq hl hx)))
theorem orb_oneI (hp : Ivl p) (hq : Ivl q) (hl : p.length = q.length) (hx : x < p.length) : orb p q (gn p x) = orb p q x := orb_eqI hp hq hl (.one (.refl _)) hx
theorem orb_twoI (hp : Ivl p) (hq : Ivl q) (hl : p.length = q.length) (hx : x < p.length) : orb p q (gn q x) = orb p q x := orb_eqI hp hq hl (.two (.refl _)) hx
theorem orb_orbI (hp : Ivl p) (hq : Ivl q) (hl : p.length = q.length) (hx : x < p.length) : orb p q (orb p q x) = orb p q x :=
  (orb_eqI hp hq hl orb_lead (Nat.lt_of_le_of_lt orb_le hx)).symm
theorem Relax.stepI {p q out0 out : List Int} {i : Nat} {v : Int} (hp : Ivl p) (hq : Ivl q) (hl : p.length = q.length) (h : Relax p q out0 i out) (hi : i < p.length)
    (h1 : v ≤ gi out i) (h2 : v ≤ gi out (gn p i)) (h3 : v ≤ gi out (gn q i)) (hv : v = gi out i ∨ v = gi out (gn p i) ∨ v = gi out (gn q i)) :
    Relax p q out0 (i + 1) (((out.set i v).set (gn p i) v).set (gn q i) v) := by
  have hpi := hp.gn_lt hi
  have hqi : gn q i < p.length := by rw [hl]; exact hq.gn_lt (by omega)
  have hnew : ∀ j, gi (((out.set i v).set (gn p i) v).set (gn q i) v) j = if j = i ∨ j = gn p i ∨ j = gn q i then v else gi out j := fun j =>
    gi_set3 (by rw [h.len]; exact hi) (by rw [h.len]; exact hpi) (by rw [h.len]; exact hqi)
  have o1 := orb_oneI hp hq hl hi
  have o2 := orb_twoI hp hq hl hi
  have hov : (orb p q i : Int) ≤ v := by
    have g1 := h.ge i hi
    have g2 := h.ge _ hpi
    have g3 := h.ge _ hqi
    rw [o1] at g2
    rw [o2] at g3
    rcases hv with e | e | e <;> rw [e] <;> assumption
  have hle : ∀ j, j < p.length → gi (((out.set i v).set (gn p i) v).set (gn q i) v) j ≤ gi out j := fun j hj => by
    rw [hnew]
    split
    · rename_i e
      rcases e with rfl | rfl | rfl <;> assumption
    · exact Int.le_refl _
  have hge : ∀ j, j < p.length → (orb p q j : Int) ≤ gi (((out.set i v).set (gn p i) v).set (gn q i) v) j := fun j hj => by
    rw [hnew]
    split
    · rename_i e
      rcases e with rfl | rfl | rfl
      · exact hov
      · rw [o1]; exact hov
      · rw [o2]; exact hov
    · exact h.ge j hj
  refine ⟨by simpa using h.len, hge, fun j hj => Int.le_trans (hle j hj) (h.le j hj), fun j hj e => ?_⟩
  by_cases hji : j < i
  · obtain ⟨d1, d2⟩ := h.did j hji e
    have hj' : j < p.length := by omega
    have l1 := hp.gn_lt hj'
    have l2 : gn q j < p.length := by rw [hl]; exact hq.gn_lt (by omega)
    have a1 := hle _ l1
    have a2 := hle _ l2
    have b1 := hge _ l1
    have b2 := hge _ l2
    rw [orb_oneI hp hq hl hj'] at b1
    rw [orb_twoI hp hq hl hj'] at b2
    exact ⟨by omega, by omega⟩
  · obtain rfl : j = i := by omega
    have hvv : v = orb p q j := by
      have := h.le j hi
      rw [e] at this
      omega
    rw [hnew, hnew, if_pos (.inr (.inl rfl)), if_pos (.inr (.inr rfl))]
    exact ⟨hvv, hvv⟩

theorem Rounds.nextI {p q out0 out : List Int} {r : Nat} (hp : Ivl p) (hq : Ivl q) (hl : p.length = q.length) (h : Rounds p q r out0) (hr : r < p.length) (hx : Relax p q out0 p.length out) : Rounds p q (r + 1) out := by
  have keep : ∀ j, j < p.length → gi out0 j = (orb p q j : Int) → gi out j = (orb p q j : Int) := fun j hj e => by
    have := hx.le j hj
    have := hx.ge j hj
    omega
  refine ⟨hx.len, hx.ge, fun j hj => Int.le_trans (hx.le j hj) (h.le j hj), ?_⟩
  have hf := h.few
  by_cases hb : ∃ j, j < p.length ∧ gi out0 j ≠ (orb p q j : Int)
  · obtain ⟨j, hj, hw⟩ := hb
    have hm : orb p q j < p.length := Nat.lt_of_le_of_lt orb_le hj
    have hmr : gi out0 (orb p q j) = (orb p q (orb p q j) : Int) := by
      have := h.le _ hm
      have := h.ge _ hm
      rw [orb_orbI hp hq hl hj] at *
      omega
    obtain ⟨u, v, hu, hru, hrv, huv⟩ := Lead.turn (R := fun x => gi out0 x = (orb p q x : Int)) orb_lead hmr hw
    have hul := hu.ltI hp hq hl hm
    have hd := hx.did u hul hru
    have hvr : v < p.length ∧ gi out v = (orb p q v : Int) := by
      rcases huv with rfl | rfl
      · exact ⟨hp.gn_lt hul, by rw [orb_oneI hp hq hl hul]; exact hd.1⟩
      · exact ⟨by rw [hl]; exact hq.gn_lt (by omega), by rw [orb_twoI hp hq hl hul]; exact hd.2⟩
    have hlt : bad p q out < bad p q out0 := by
      unfold bad
      refine filter_lt (y := v) _ (fun k hk hkb => ?_) (List.mem_range.2 hvr.1) (by simp [hvr.2]) (by simpa using hrv)
      simp only [decide_eq_true_eq] at hkb ⊢
      exact fun e => hkb (keep k (List.mem_range.1 hk) e)
    omega
  · have h0 : bad p q out = 0 := by
      unfold bad
      rw [List.length_eq_zero_iff, List.filter_eq_nil_iff]
      intro k hk
      simp only [List.mem_range] at hk
      simp only [decide_eq_true_eq, Decidable.not_not]
      apply keep k hk
      apply Decidable.byContradiction
      intro e
      exact hb ⟨k, hk, e⟩
    omega
theorem Search.new_markI {p q ls st : List Int} {first x : Nat} (hp : Ivl p) (hq : Ivl q) (hl : p.length = q.length) (h : Search p q first ls (st ++ [(x : Int)])) (hm : gi ls x = -1) :
    Search p q first (ls.set x (first : Int)) (st ++ [(gn p x : Int), (gn q x : Int)]) := by
  obtain ⟨x', hx', hxl, hlead⟩ := h.stk (x : Int) (by simp)
  obtain rfl : x = x' := by omega
  have hxo : orb p q x = first := by
    have h1 : orb p q x ≤ first := orb_least hlead
    rcases Nat.lt_or_ge (orb p q x) first with h2 | h2
    · have := h.old x hxl h2
      rw [hm] at this; omega
    · omega
  have hset : ∀ j, gi (ls.set x (first : Int)) j = if j = x then (first : Int) else gi ls j := fun j => gi_set _ _ _ _ (by rw [h.len]; exact hxl)
  have hmono : ∀ j, gi ls j ≠ -1 → gi (ls.set x (first : Int)) j ≠ -1 := fun j hj => by
    rw [hset]; split
    · omega
    · exact hj
  have hmem : ∀ y : Nat, (gi ls y ≠ -1 ∨ (y : Int) ∈ st ++ [(x : Int)]) → gi (ls.set x (first : Int)) y ≠ -1 ∨ (y : Int) ∈ st ++ [(gn p x : Int), (gn q x : Int)] := by
    rintro y (h1 | h1)
    · exact .inl (hmono y h1)
    · rcases List.mem_append.1 h1 with h1 | h1
      · exact .inr (by simp [h1])
      · simp only [List.mem_cons, List.not_mem_nil, or_false] at h1
        refine .inl ?_
        rw [show y = x by omega, hset, if_pos rfl]; omega
  refine ⟨by simpa using h.len, fun j hj => ?_, fun j hj ho => ?_, fun s hs => ?_, fun j hj e => ?_, hmem _ h.root⟩
  · rw [hset]; split
    · rename_i e; subst e; exact .inr ⟨by rw [hxo], by omega⟩
    · exact h.val j hj
  · rw [hset]; split
    · rename_i e; subst e; rw [hxo]
    · exact h.old j hj ho
  · rcases List.mem_append.1 hs with hs | hs
    · exact h.stk s (by simp [hs])
    · simp only [List.mem_cons, List.not_mem_nil, or_false] at hs
      rcases hs with rfl | rfl
      · exact ⟨_, rfl, hp.gn_lt hxl, .one hlead⟩
      · exact ⟨_, rfl, by rw [hl]; exact hq.gn_lt (by omega), .two hlead⟩
  · by_cases ej : j = x
    · subst ej
      exact ⟨.inr (by simp), .inr (by simp)⟩
    · rw [hset, if_neg ej] at e
      obtain ⟨h1, h2⟩ := h.shut j hj e
      exact ⟨hmem _ h1, hmem _ h2⟩
theorem Search.doneI {p q ls : List Int} {first : Nat} (hp : Ivl p) (hq : Ivl q) (hl : p.length = q.length) (h : Search p q first ls []) : Firsts p q (first + 1) ls := by
  refine ⟨h.len, fun j hj => ?_⟩
  by_cases hlt : orb p q j < first
  · rw [if_pos (by omega)]; exact h.old j hj hlt
  · by_cases he : orb p q j = first
    · rw [if_pos (by omega)]
      rcases h.val j hj with h1 | h1
      · exfalso
        have hroot : gi ls (orb p q j) ≠ -1 := by
          rw [he]
          rcases h.root with h | h
          · exact h
          · cases h
        obtain ⟨u, v, hu, hru, hrv, huv⟩ := Lead.turn (R := fun x => gi ls x ≠ -1) (p := p) (q := q) orb_lead hroot (by simpa using h1)
        have hfl : orb p q j < p.length := Nat.lt_of_le_of_lt orb_le hj
        have hul := hu.ltI hp hq hl hfl
        have huo : orb p q u = first := by rw [orb_eqI hp hq hl hu hfl, orb_orbI hp hq hl hj, he]
        have hum : gi ls u = (first : Int) := by
          rcases h.val u hul with h2 | h2
          · exact absurd h2 hru
          · rw [h2.1, huo]
        obtain ⟨s1, s2⟩ := h.shut u hul hum
        rcases huv with rfl | rfl
        · rcases s1 with s | s
          · exact hrv s
          · cases s
        · rcases s2 with s | s
          · exact hrv s
          · cases s
      · exact h1.1
    · rw [if_neg (by omega)]
      rcases h.val j hj with h1 | h1
      · exact h1
      · omega
end

end Go.Proofs.YtfdliekhlcbkcaaDoor

namespace Go.Proofs.YtfdliekhlcbkcaaDoor

def tw (l : List UInt8) (i : Nat) : Nat := if twoAt l i then 1 else 0
theorem tw_le (l : List UInt8) (i : Nat) : tw l i ≤ 1 := by unfold tw; split <;> omega
/-- The end that is glued to an end; the end that is one with it. -/
def glE (l : List UInt8) (x : Nat) : Nat := if x % 2 = 0 then 2 * par l (x / 2) + tw l (x / 2) else 2 * par l (x / 2) + 1 - tw l (x / 2)
def nxE (n x : Nat) : Nat := if x % 2 = 1 then (x + 1) % n else (x + n - 1) % n
theorem glE_even (l : List UInt8) (i : Nat) : glE l (2 * i) = 2 * par l i + tw l i := by
  unfold glE; rw [if_pos (by omega), show 2 * i / 2 = i by omega]
theorem glE_odd (l : List UInt8) (i : Nat) : glE l (2 * i + 1) = 2 * par l i + 1 - tw l i := by
  unfold glE; rw [if_neg (by omega), show (2 * i + 1) / 2 = i by omega]
def gluW (l : List UInt8) : List Int := tab (2 * l.length) fun x => (glE l x : Int)
def nxtW (n : Nat) : List Int := tab (2 * n) fun x => (nxE (2 * n) x : Int)
theorem gluW_len (l : List UInt8) : (gluW l).length = 2 * l.length := tab_len _ _
theorem nxtW_len (n : Nat) : (nxtW n).length = 2 * n := tab_len _ _
theorem gn_gluW {l : List UInt8} {x : Nat} (h : x < 2 * l.length) : gn (gluW l) x = glE l x := gn_of (gi_tab h)
theorem gn_nxtW {n x : Nat} (h : x < 2 * n) : gn (nxtW n) x = nxE (2 * n) x := gn_of (gi_tab h)
theorem Word.tw_par {l : List UInt8} (h : Word l) {i : Nat} (hi : i < l.length) : tw l (par l i) = tw l i := by
  unfold tw twoAt
  rw [h.par2 hi, bne_comm]
theorem half (x : Nat) : ∃ i, x = 2 * i ∨ x = 2 * i + 1 := ⟨x / 2, by omega⟩
theorem Word.glE {l : List UInt8} (h : Word l) {x : Nat} (hx : x < 2 * l.length) : glE l x < 2 * l.length ∧ glE l (glE l x) = x := by
  obtain ⟨i, rfl | rfl⟩ := half x
  · have hi : i < l.length := by omega
    have hp := (h.isPar hi).lt
    have ht := tw_le l i
    have htp := h.tw_par hi
    rw [glE_even]
    refine ⟨by omega, ?_⟩
    rcases (by omega : tw l i = 0 ∨ tw l i = 1) with e | e
    · rw [e, Nat.add_zero, glE_even, htp, e, h.par2 hi]; rfl
    · rw [e, glE_odd, htp, e, h.par2 hi]; omega
  · have hi : i < l.length := by omega
    have hp := (h.isPar hi).lt
    have ht := tw_le l i
    have htp := h.tw_par hi
    rw [glE_odd]
    refine ⟨by omega, ?_⟩
    rcases (by omega : tw l i = 0 ∨ tw l i = 1) with e | e
    · rw [e, Nat.sub_zero, glE_odd, htp, e, h.par2 hi]; omega
    · rw [e, Nat.add_sub_cancel, glE_even, htp, e, h.par2 hi]
theorem nxE_odd {n i : Nat} (hi : i + 1 < n) : nxE (2 * n) (2 * i + 1) = 2 * (i + 1) := by
  unfold nxE; rw [if_pos (by omega), Nat.mod_eq_of_lt (by omega)]; omega
theorem nxE_last {n : Nat} (hn : 0 < n) : nxE (2 * n) (2 * (n - 1) + 1) = 0 := by
  unfold nxE; rw [if_pos (by omega), show 2 * (n - 1) + 1 + 1 = 2 * n by omega, Nat.mod_self]
theorem nxE_even {n i : Nat} (hi : i + 1 < n) : nxE (2 * n) (2 * (i + 1)) = 2 * i + 1 := by
  unfold nxE; rw [if_neg (by omega), show 2 * (i + 1) + 2 * n - 1 = 2 * i + 1 + 2 * n by omega, Nat.add_mod_right, Nat.mod_eq_of_lt (by omega)]
theorem nxE_zero {n : Nat} (hn : 0 < n) : nxE (2 * n) 0 = 2 * (n - 1) + 1 := by
  unfold nxE; rw [if_neg (by omega), Nat.mod_eq_of_lt (by omega)]; omega
theorem nxE_inv {n x : Nat} (hx : x < 2 * n) : nxE (2 * n) x < 2 * n ∧ nxE (2 * n) (nxE (2 * n) x) = x := by
  have hn : 0 < n := by omega
  obtain ⟨i, rfl | rfl⟩ := half x
  · cases i with
    | zero => rw [Nat.mul_zero, nxE_zero hn, nxE_last hn]; exact ⟨by omega, rfl⟩
    | succ i => rw [nxE_even (by omega), nxE_odd (by omega)]; exact ⟨by omega, rfl⟩
  · by_cases e : i + 1 < n
    · rw [nxE_odd e, nxE_even e]; exact ⟨by omega, rfl⟩
    · obtain rfl : i = n - 1 := by omega
      rw [nxE_last hn, nxE_zero hn]; exact ⟨by omega, rfl⟩
theorem Word.ivl {l : List UInt8} (h : Word l) : Ivl (gluW l) ∧ Ivl (nxtW l.length) := by
  have hl := h.len
  constructor
  · refine ⟨by rw [gluW_len]; omega, by rw [gluW_len]; omega, fun j hj => ?_, fun j hj => ?_⟩
    · rw [gluW_len] at hj
      have := (h.glE hj).1
      rw [gluW_len, gluW, gi_tab hj]; omega
    · rw [gluW_len] at hj
      rw [gn_gluW hj, gn_gluW (h.glE hj).1, (h.glE hj).2]
  · refine ⟨by rw [nxtW_len]; omega, by rw [nxtW_len]; omega, fun j hj => ?_, fun j hj => ?_⟩
    · rw [nxtW_len] at hj
      have := (nxE_inv hj).1
      rw [nxtW_len, nxtW, gi_tab hj]; omega
    · rw [nxtW_len] at hj
      rw [gn_nxtW hj, gn_nxtW (nxE_inv hj).1, (nxE_inv hj).2]

/-! ### Filled side by side -/
structure Fill (l : List UInt8) (k : Nat) (gl nx : List Int) : Prop where
  lg : gl.length = 2 * l.length
  nl : nx.length = 2 * l.length
  g : ∀ x, x < 2 * k → gi gl x = glE l x
  a : ∀ i, i < k → gi nx (2 * i + 1) = ((2 * i + 2) % (2 * l.length) : Nat)
  b : ∀ i, i < k → gi nx ((2 * i + 2) % (2 * l.length)) = (2 * i + 1 : Nat)
theorem Fill.start (l : List UInt8) : Fill l 0 (List.replicate (2 * l.length) 0) (List.replicate (2 * l.length) 0) :=
  ⟨by simp, by simp, fun x hx => by omega, fun i hi => by omega, fun i hi => by omega⟩
theorem nx_apart {n i k : Nat} (hk : k < n) (hi : i < k) : (2 * i + 2) % (2 * n) ≠ (2 * k + 2) % (2 * n) ∧ (2 * k + 2) % (2 * n) ≠ 2 * i + 1 ∧ (2 * i + 2) % (2 * n) ≠ 2 * k + 1 := by
  have e1 : (2 * i + 2) % (2 * n) = 2 * i + 2 := Nat.mod_eq_of_lt (by omega)
  rw [e1]
  by_cases e : k + 1 < n
  · rw [Nat.mod_eq_of_lt (by omega)]; omega
  · rw [show 2 * k + 2 = 2 * n by omega, Nat.mod_self]; omega
theorem nx_ne {n k : Nat} (hk : k < n) : 2 * k + 1 ≠ (2 * k + 2) % (2 * n) := by
  by_cases e : k + 1 < n
  · rw [Nat.mod_eq_of_lt (by omega)]; omega
  · rw [show 2 * k + 2 = 2 * n by omega, Nat.mod_self]; omega
theorem Fill.step {l : List UInt8} {k : Nat} {gl nx : List Int} (h : Fill l k gl nx) (hk : k < l.length) :
    Fill l (k + 1) ((gl.set (2 * k) (glE l (2 * k) : Int)).set (2 * k + 1) (glE l (2 * k + 1) : Int)) ((nx.set (2 * k + 1) ((2 * k + 2) % (2 * l.length) : Nat)).set ((2 * k + 2) % (2 * l.length)) (2 * k + 1 : Nat)) := by
  have hm : (2 * k + 2) % (2 * l.length) < 2 * l.length := Nat.mod_lt _ (by omega)
  have hgi : ∀ j, gi ((nx.set (2 * k + 1) ((2 * k + 2) % (2 * l.length) : Nat)).set ((2 * k + 2) % (2 * l.length)) (2 * k + 1 : Nat)) j = if j = (2 * k + 2) % (2 * l.length) then ((2 * k + 1 : Nat) : Int) else if j = 2 * k + 1 then (((2 * k + 2) % (2 * l.length) : Nat) : Int) else gi nx j := fun j => by
    rw [gi_set _ _ _ _ (by rw [List.length_set, h.nl]; exact hm), gi_set _ _ _ _ (by rw [h.nl]; omega)]
  have hne : (2 * k + 2) % (2 * l.length) ≠ 2 * k + 1 := by
    by_cases e : k + 1 < l.length
    · rw [Nat.mod_eq_of_lt (by omega)]; omega
    · rw [show 2 * k + 2 = 2 * l.length by omega, Nat.mod_self]; omega
  refine ⟨by simp [h.lg], by simp [h.nl], fun x hx => ?_, fun i hi => ?_, fun i hi => ?_⟩
  · rw [gi_set _ _ _ _ (by rw [List.length_set, h.lg]; omega), gi_set _ _ _ _ (by rw [h.lg]; omega)]
    split
    · rename_i e; rw [e]
    · split
      · rename_i e; rw [e]
      · exact h.g x (by omega)
  · rw [hgi]
    by_cases e : i = k
    · subst e; rw [if_neg (fun e => hne e.symm), if_pos rfl]
    · have := nx_apart hk (show i < k by omega)
      rw [if_neg (fun e => this.2.1 e.symm), if_neg (by omega)]
      exact h.a i (by omega)
  · rw [hgi]
    by_cases e : i = k
    · subst e; rw [if_pos rfl]
    · have := nx_apart hk (show i < k by omega)
      rw [if_neg this.1, if_neg this.2.2]
      exact h.b i (by omega)
theorem Fill.done {l : List UInt8} {gl nx : List Int} (h : Fill l l.length gl nx) (h0 : 0 < l.length) : gl = gluW l ∧ nx = nxtW l.length := by
  refine ⟨tab_ext h.lg h.g, tab_ext h.nl fun x hx => ?_⟩
  obtain ⟨i, rfl | rfl⟩ := half x
  · cases i with
    | zero =>
      rw [Nat.mul_zero, nxE_zero h0]
      have := h.b (l.length - 1) (by omega)
      rw [show 2 * (l.length - 1) + 2 = 2 * l.length by omega, Nat.mod_self] at this
      exact this
    | succ i =>
      rw [nxE_even (by omega)]
      have := h.b i (by omega)
      rw [Nat.mod_eq_of_lt (by omega)] at this
      exact this
  · rw [h.a i (by omega)]
    by_cases e : i + 1 < l.length
    · rw [nxE_odd e, Nat.mod_eq_of_lt (by omega)]; rfl
    · obtain rfl : i = l.length - 1 := by omega
      rw [nxE_last h0, show 2 * (l.length - 1) + 2 = 2 * l.length by omega, Nat.mod_self]

/-! ### Corners -/
/-- How many of the first k points are the least of their orbits. -/
noncomputable def fixN (ls : List Int) (k : Nat) : Nat := (List.range k).countP fun x => gi ls x == (x : Int)
theorem fixN_zero (ls : List Int) : fixN ls 0 = 0 := rfl
theorem fixN_succ (ls : List Int) (k : Nat) : fixN ls (k + 1) = fixN ls k + if gi ls k = (k : Int) then 1 else 0 := by
  simp [fixN, List.range_succ, List.countP_append]
theorem fixN_le (ls : List Int) (k : Nat) : fixN ls k ≤ k := by
  unfold fixN
  exact Nat.le_trans List.countP_le_length (by simp)
noncomputable def cnrL (l : List UInt8) : List Int := orbL (gluW l) (nxtW l.length)
theorem cnrL_len (l : List UInt8) : (cnrL l).length = 2 * l.length := by rw [cnrL, orbL_len, gluW_len]
noncomputable def corN (l : List UInt8) : Nat := fixN (cnrL l) (2 * l.length)
/-- A corner that is not that of the beginning is met first at the end of a side whose letter was not there yet. -/
theorem Word.first {l : List UInt8} (h : Word l) {x : Nat} (hx : x < 2 * l.length) (h0 : x ≠ 0) (hf : orb (gluW l) (nxtW l.length) x = x) : ∃ i, x = 2 * i + 1 ∧ i < par l i := by
  obtain ⟨hg, hn⟩ := h.ivl
  have hlen : (gluW l).length = (nxtW l.length).length := by rw [gluW_len, nxtW_len]
  obtain ⟨i, rfl | rfl⟩ := half x
  · exfalso
    cases i with
    | zero => exact h0 rfl
    | succ i =>
      have h1 := orb_twoI (p := gluW l) (q := nxtW l.length) (x := 2 * (i + 1)) hg hn hlen (by rw [gluW_len]; exact hx)
      rw [gn_nxtW hx, nxE_even (by omega), hf] at h1
      have := orb_le (p := gluW l) (q := nxtW l.length) (x := 2 * i + 1)
      omega
  · refine ⟨i, rfl, ?_⟩
    have hi : i < l.length := by omega
    have h1 := orb_oneI (p := gluW l) (q := nxtW l.length) (x := 2 * i + 1) hg hn hlen (by rw [gluW_len]; exact hx)
    rw [gn_gluW hx, glE_odd, hf] at h1
    have h2 := orb_le (p := gluW l) (q := nxtW l.length) (x := 2 * par l i + 1 - tw l i)
    have := tw_le l i
    have := (h.isPar hi).ne
    omega
theorem Word.zero_first (l : List UInt8) : orb (gluW l) (nxtW l.length) 0 = 0 := by
  have := orb_le (p := gluW l) (q := nxtW l.length) (x := 0)
  omega
theorem nodup_sub : ∀ (a b : List Nat), a.Nodup → (∀ x, x ∈ a → x ∈ b) → a.length ≤ b.length := by
  intro a
  induction a with
  | nil => intro b _ _; simp
  | cons x r ih =>
    intro b hn hs
    have hx := hs x (by simp)
    have hn' := List.nodup_cons.1 hn
    have h1 := ih (b.erase x) hn'.2 (fun y hy => (List.mem_erase_of_ne (fun e => hn'.1 (by rw [← e]; exact hy))).2 (hs y (by simp [hy])))
    rw [List.length_erase_of_mem hx] at h1
    have := List.length_pos_of_mem hx
    rw [List.length_cons]; omega
theorem count_le_of {P Q : Nat → Bool} {f : Nat → Nat} : ∀ (n : Nat), (∀ x, x < n → P x = true → Q (f x) = true) → (∀ x y, x < n → y < n → P x = true → P y = true → f x = f y → x = y) → ∀ m, (∀ x, x < n → P x = true → f x < m) → (List.range n).countP P ≤ (List.range m).countP Q := by
  intro n h1 h2 m h3
  rw [List.countP_eq_length_filter, List.countP_eq_length_filter]
  have hs : ((List.range n).filter P).map f ⊆ (List.range m).filter Q := by
    intro y hy
    obtain ⟨x, hx, rfl⟩ := List.mem_map.1 hy
    obtain ⟨hx, hp⟩ := List.mem_filter.1 hx
    rw [List.mem_range] at hx
    exact List.mem_filter.2 ⟨List.mem_range.2 (h3 x hx hp), h1 x hx hp⟩
  have hn : (((List.range n).filter P).map f).Nodup := by
    rw [List.nodup_iff_pairwise_ne, List.pairwise_map]
    refine List.Pairwise.imp_of_mem ?_ (List.nodup_range.filter P)
    intro a b ha hb hab e
    obtain ⟨ha, hpa⟩ := List.mem_filter.1 ha
    obtain ⟨hb, hpb⟩ := List.mem_filter.1 hb
    rw [List.mem_range] at ha hb
    exact hab (h2 a b ha hb hpa hpb e)
  have := nodup_sub _ _ hn hs
  rwa [List.length_map] at this
theorem Word.cor_le {l : List UInt8} (h : Word l) : 1 ≤ corN l ∧ 2 * corN l ≤ l.length + 2 := by
  have hpos := h.pos
  have hval : ∀ x, x < 2 * l.length → gi (cnrL l) x = (orb (gluW l) (nxtW l.length) x : Int) := fun x hx => gi_orbL (by rw [gluW_len]; exact hx)
  have e : corN l = 1 + ((List.range (2 * l.length)).countP fun x => decide (x ≠ 0) && (gi (cnrL l) x == (x : Int))) := by
    obtain ⟨m, hm⟩ : ∃ m, 2 * l.length = m + 1 := ⟨2 * l.length - 1, by omega⟩
    unfold corN fixN
    rw [hm, List.range_succ_eq_map, List.countP_cons, List.countP_cons, List.countP_map, List.countP_map]
    have h0 : (gi (cnrL l) 0 == ((0 : Nat) : Int)) = true := by rw [hval 0 (by omega), Word.zero_first]; rfl
    rw [h0]
    have : ((fun x => decide (x ≠ 0) && (gi (cnrL l) x == (x : Int))) ∘ Nat.succ) = ((fun x => gi (cnrL l) x == (x : Int)) ∘ Nat.succ) := by
      funext x; simp
    rw [this]
    simp
    omega
  have hle : ((List.range (2 * l.length)).countP fun x => decide (x ≠ 0) && (gi (cnrL l) x == (x : Int))) ≤ (List.range l.length).countP fun j => decide (j < par l j) := by
    have hf : ∀ x, x < 2 * l.length → (decide (x ≠ 0) && (gi (cnrL l) x == (x : Int))) = true → ∃ i, x = 2 * i + 1 ∧ i < par l i := fun x hx hp => by
      simp only [Bool.and_eq_true, decide_eq_true_eq, beq_iff_eq] at hp
      refine h.first hx hp.1 ?_
      have := hp.2
      rw [hval x hx] at this
      omega
    refine count_le_of (f := fun x => x / 2) _ (fun x hx hp => ?_) (fun x y hx hy hpx hpy e => ?_) _ (fun x hx hp => by show x / 2 < _; omega)
    · obtain ⟨i, rfl, hi⟩ := hf x hx hp
      show decide ((2 * i + 1) / 2 < par l ((2 * i + 1) / 2)) = true
      rw [show (2 * i + 1) / 2 = i by omega]
      exact decide_eq_true hi
    · obtain ⟨i, rfl, _⟩ := hf x hx hpx
      obtain ⟨j, rfl, _⟩ := hf y hy hpy
      have e' : (2 * i + 1) / 2 = (2 * j + 1) / 2 := e
      omega
  have := h.rk_all
  unfold rk at this
  omega

end Go.Proofs.YtfdliekhlcbkcaaDoor

namespace Go.Proofs.YtfdliekhlcbkcaaDoor

structure ConjI (p q p' q' : List Int) (s : Nat → Nat) (N : Nat) : Prop where
  lt : ∀ x, x < N → s x < N
  inj : ∀ x y, x < N → y < N → s x = s y → x = y
  one : ∀ x, x < N → gn p x < N ∧ gn p' (s x) = s (gn p x)
  two : ∀ x, x < N → gn q x < N ∧ gn q' (s x) = s (gn q x)
theorem ConjI.lead {p q p' q' : List Int} {s : Nat → Nat} {N : Nat} (C : ConjI p q p' q' s N) {x : Nat} (hx : x < N) {u z : Nat} (hl : Lead p' q' u z) (e : s x = u) : ∃ y, y < N ∧ z = s y ∧ Lead p q x y := by
  subst e
  induction hl with
  | refl => exact ⟨x, hx, rfl, .refl _⟩
  | one _ ih =>
    obtain ⟨y, hy, rfl, h⟩ := ih
    exact ⟨gn p y, (C.one y hy).1, (C.one y hy).2, .one h⟩
  | two _ ih =>
    obtain ⟨y, hy, rfl, h⟩ := ih
    exact ⟨gn q y, (C.two y hy).1, (C.two y hy).2, .two h⟩
theorem cor_le_conj {l m : List UInt8} {s : Nat → Nat} (h : Word l) (h' : Word m) (hl : m.length = l.length) (C : ConjI (gluW l) (nxtW l.length) (gluW m) (nxtW m.length) s (2 * l.length)) : corN l ≤ corN m := by
  obtain ⟨hg, hn⟩ := h.ivl
  obtain ⟨hg', hn'⟩ := h'.ivl
  have hlen : (gluW l).length = (nxtW l.length).length := by rw [gluW_len, nxtW_len]
  have hlen' : (gluW m).length = (nxtW m.length).length := by rw [gluW_len, nxtW_len]
  have hval : ∀ x, x < 2 * l.length → gi (cnrL l) x = (orb (gluW l) (nxtW l.length) x : Int) := fun x hx => gi_orbL (by rw [gluW_len]; exact hx)
  have hval' : ∀ x, x < 2 * m.length → gi (cnrL m) x = (orb (gluW m) (nxtW m.length) x : Int) := fun x hx => gi_orbL (by rw [gluW_len]; exact hx)
  have hlt : ∀ x, x < 2 * l.length → orb (gluW m) (nxtW m.length) (s x) < 2 * m.length := fun x hx => Nat.lt_of_le_of_lt orb_le (by rw [hl]; exact C.lt x hx)
  unfold corN fixN
  refine count_le_of (f := fun x => orb (gluW m) (nxtW m.length) (s x)) _ (fun x hx _ => ?_) (fun x y hx hy hpx hpy e => ?_) _ (fun x hx _ => hlt x hx)
  · have hsx : s x < (gluW m).length := by rw [gluW_len, hl]; exact C.lt x hx
    show (gi (cnrL m) (orb (gluW m) (nxtW m.length) (s x)) == ((orb (gluW m) (nxtW m.length) (s x) : Nat) : Int)) = true
    rw [hval' _ (hlt x hx), orb_orbI hg' hn' hlen' hsx]
    simp
  · have e' : orb (gluW m) (nxtW m.length) (s x) = orb (gluW m) (nxtW m.length) (s y) := e
    simp only [beq_iff_eq] at hpx hpy
    rw [hval x hx] at hpx
    rw [hval y hy] at hpy
    have hxy : Lead (gluW m) (nxtW m.length) (s x) (s y) := by
      have h1 : Lead (gluW m) (nxtW m.length) (orb (gluW m) (nxtW m.length) (s x)) (s x) := orb_lead
      have h2 : Lead (gluW m) (nxtW m.length) (orb (gluW m) (nxtW m.length) (s x)) (s y) := by rw [e']; exact orb_lead
      exact (h1.symI hg' hn' hlen' (by rw [gluW_len]; exact hlt x hx)).trans h2
    obtain ⟨y', hy', ey, hlead⟩ := C.lead hx hxy rfl
    obtain rfl := C.inj y y' hy hy' ey
    have := orb_eqI hg hn hlen hlead (by rw [gluW_len]; exact hx)
    omega

theorem gb_back {l : List UInt8} {i : Nat} (hi : i < l.length) : gb (backW l) (l.length - 1 - i) = oth (gb l i) := by
  rw [gb_eq (by rw [backW_len]; omega), gb_eq hi]
  simp only [backW, List.getElem_reverse, List.getElem_map, List.length_map]
  congr 2
  omega
theorem Word.par_back {l : List UInt8} (h : Word l) {i : Nat} (hi : i < l.length) : par (backW l) (l.length - 1 - i) = l.length - 1 - par l i := by
  have hp := h.isPar hi
  have hlt := hp.lt
  have hne := hp.ne
  have hb : l.length - 1 - i < (backW l).length := by rw [backW_len]; omega
  refine (h.back.isPar hb).uniq (⟨by rw [backW_len]; omega, by omega, ?_, fun j hj e => ?_⟩ : IsPar (backW l) (l.length - 1 - i) (l.length - 1 - par l i))
  · rw [gb_back hlt, gb_back hi, (ltr_oth _ (h.ok _ hlt).1).1, (ltr_oth _ (h.ok _ hi).1).1]
    exact hp.eq
  · rw [backW_len] at hj
    have ej : j = l.length - 1 - (l.length - 1 - j) := by omega
    have hj' : l.length - 1 - j < l.length := by omega
    rw [ej, gb_back hj', gb_back hi, (ltr_oth _ (h.ok _ hj').1).1, (ltr_oth _ (h.ok _ hi).1).1] at e
    rcases hp.all _ hj' e with e1 | e1
    · left; omega
    · right; omega
theorem Word.two_back {l : List UInt8} (h : Word l) {i : Nat} (hi : i < l.length) : twoAt (backW l) (l.length - 1 - i) = twoAt l i := by
  have hlt := (h.isPar hi).lt
  unfold twoAt
  rw [h.par_back hi, gb_back hi, gb_back hlt, (ltr_oth _ (h.ok _ hi).1).2, (ltr_oth _ (h.ok _ hlt).1).2]
  cases sml (gb l i) <;> cases sml (gb l (par l i)) <;> rfl
theorem Word.conj_back {l : List UInt8} (h : Word l) : ConjI (gluW l) (nxtW l.length) (gluW (backW l)) (nxtW (backW l).length) (fun x => 2 * l.length - 1 - x) (2 * l.length) := by
  have hpos := h.pos
  refine ⟨fun x hx => by show 2 * l.length - 1 - x < _; omega, fun x y hx hy e => by have e' : 2 * l.length - 1 - x = 2 * l.length - 1 - y := e; omega, fun x hx => ?_, fun x hx => ?_⟩
  · have hg := h.glE hx
    refine ⟨by rw [gn_gluW hx]; exact hg.1, ?_⟩
    show gn (gluW (backW l)) (2 * l.length - 1 - x) = 2 * l.length - 1 - gn (gluW l) x
    rw [gn_gluW hx, gn_gluW (by rw [backW_len]; omega)]
    obtain ⟨i, rfl | rfl⟩ := half x
    · have hi : i < l.length := by omega
      have hp := (h.isPar hi).lt
      have ht : tw (backW l) (l.length - 1 - i) = tw l i := by unfold tw; rw [h.two_back hi]
      have := tw_le l i
      rw [show 2 * l.length - 1 - 2 * i = 2 * (l.length - 1 - i) + 1 by omega, glE_odd, glE_even, h.par_back hi, ht]
      omega
    · have hi : i < l.length := by omega
      have hp := (h.isPar hi).lt
      have ht : tw (backW l) (l.length - 1 - i) = tw l i := by unfold tw; rw [h.two_back hi]
      have := tw_le l i
      rw [show 2 * l.length - 1 - (2 * i + 1) = 2 * (l.length - 1 - i) by omega, glE_odd, glE_even, h.par_back hi, ht]
      omega
  · have hn := nxE_inv hx
    refine ⟨by rw [gn_nxtW hx]; exact hn.1, ?_⟩
    show gn (nxtW (backW l).length) (2 * l.length - 1 - x) = 2 * l.length - 1 - gn (nxtW l.length) x
    rw [backW_len, gn_nxtW hx, gn_nxtW (by omega)]
    obtain ⟨i, rfl | rfl⟩ := half x
    · cases i with
      | zero =>
        rw [Nat.mul_zero, nxE_zero hpos, show 2 * l.length - 1 - 0 = 2 * (l.length - 1) + 1 by omega, nxE_last hpos]
        omega
      | succ i =>
        rw [nxE_even (by omega), show 2 * l.length - 1 - 2 * (i + 1) = 2 * (l.length - 2 - i) + 1 by omega, nxE_odd (by omega)]
        omega
    · by_cases e : i + 1 < l.length
      · rw [nxE_odd e, show 2 * l.length - 1 - (2 * i + 1) = 2 * ((l.length - 2 - i) + 1) by omega, nxE_even (by omega)]
        omega
      · obtain rfl : i = l.length - 1 := by omega
        rw [nxE_last hpos, show 2 * l.length - 1 - (2 * (l.length - 1) + 1) = 0 by omega, nxE_zero hpos]
        omega
theorem back_backW (l : List UInt8) : backW (backW l) = l := by
  unfold backW
  rw [List.map_reverse, List.reverse_reverse, List.map_map]
  have : ∀ c, c ∈ l → (oth ∘ oth) c = c := fun c _ => by
    show oth (oth c) = c
    unfold oth
    rw [UInt8.xor_assoc, UInt8.xor_self, UInt8.xor_zero]
  calc l.map (oth ∘ oth) = l.map id := List.map_congr_left this
    _ = l := List.map_id _
theorem Word.cor_back {l : List UInt8} (h : Word l) : corN (backW l) = corN l := by
  have a := cor_le_conj h h.back (backW_len l) h.conj_back
  have b := cor_le_conj h.back h.back.back (backW_len _) h.back.conj_back
  rw [back_backW] at b
  omega
theorem Word.sided_back {l : List UInt8} (h : Word l) : sidedB (backW l) = sidedB l := by
  have hw := wordB_iff.2 h
  have hb := wordB_iff.2 h.back
  rw [sidedB, sidedB, hw, hb, Bool.true_and, Bool.true_and, backW_len, Bool.eq_iff_iff, List.all_eq_true, List.all_eq_true]
  constructor
  · intro ha i hi
    have hi' := List.mem_range.1 hi
    rw [← h.two_back hi']
    exact ha _ (List.mem_range.2 (by omega))
  · intro ha i hi
    have hi' := List.mem_range.1 hi
    have e : i = l.length - 1 - (l.length - 1 - i) := by omega
    rw [e, h.two_back (by omega)]
    exact ha _ (List.mem_range.2 (by omega))

end Go.Proofs.YtfdliekhlcbkcaaDoor

namespace Go.Proofs.YtfdliekhlcbkcaaDoor

theorem invs_same {f g : Nat → Nat} (n : Nat) (h : ∀ i, i < n → f i = g i) : invs f n = invs g n := by
  unfold invs
  exact sm_congr n fun i hi => sm_congr i fun k hk => by rw [h i hi, h k (by omega)]
theorem vld_of_prm {n : Nat} {f : Nat → Nat} (h1 : 1 ≤ n) (h2 : n ≤ 12) (h : Prm n f) : Vld (tab n fun i => (f i : Int)) := by
  refine ⟨by rw [tab_len]; exact h1, by rw [tab_len]; exact h2, fun j hj => ?_, fun j hj i hij e => ?_⟩
  · rw [tab_len] at hj ⊢
    rw [gi_tab hj]
    have := h.lt j hj
    omega
  · rw [tab_len] at hj
    rw [gi_tab hj, gi_tab (by omega)] at e
    have := h.inj i j (by omega) hj (by omega)
    omega
theorem gn_tab {n : Nat} {f : Nat → Nat} {i : Nat} (h : i < n) : gn (tab n fun i => (f i : Int)) i = f i := gn_of (gi_tab h)
/-- The next side; from a side to the next one of its partner. -/
def rotN (n i : Nat) : Nat := (i + 1) % n
def rotL (n : Nat) : List Int := tab n fun i => (rotN n i : Int)
def piL (l : List UInt8) : List Int := tab l.length fun i => (rotN l.length (par l i) : Int)
theorem rotN_prm {n : Nat} (h : 0 < n) : Prm n (rotN n) := by
  refine ⟨fun i _ => Nat.mod_lt _ h, fun i j hi hj e => ?_⟩
  unfold rotN at e
  by_cases h1 : i + 1 < n <;> by_cases h2 : j + 1 < n
  · rw [Nat.mod_eq_of_lt h1, Nat.mod_eq_of_lt h2] at e; omega
  · rw [Nat.mod_eq_of_lt h1, show j + 1 = n by omega, Nat.mod_self] at e; omega
  · rw [Nat.mod_eq_of_lt h2, show i + 1 = n by omega, Nat.mod_self] at e; omega
  · omega
theorem Word.par_prm {l : List UInt8} (h : Word l) : Prm l.length (par l) :=
  ⟨fun _ hi => (h.isPar hi).lt, fun i j hi hj e => by have := h.par2 hi; rw [e, h.par2 hj] at this; exact this.symm⟩
theorem Word.pi_prm {l : List UInt8} (h : Word l) : Prm l.length fun i => rotN l.length (par l i) :=
  ⟨fun i hi => (rotN_prm h.pos).lt _ (h.par_prm.lt i hi), fun i j hi hj e => h.par_prm.inj i j hi hj ((rotN_prm h.pos).inj _ _ (h.par_prm.lt i hi) (h.par_prm.lt j hj) e)⟩
theorem rot_one : ∀ n, n < 11 → 1 ≤ n → (cyclesL (rotL n)).length = 1 := by decide +kernel
theorem smCs_twoW {F : Nat → Nat} : ∀ {cs : List (List Int)}, (∀ c, c ∈ cs → smC F c = 2) → smCs F cs = 2 * cs.length
  | [], _ => rfl
  | c :: cs, h => by rw [smCs, h c (by simp), smCs_twoW (fun d hd => h d (by simp [hd]))]; simp; omega
theorem pair_cycles {f : List Int} (hf : Vld f) (hp : Paired f) : 2 * (cyclesL f).length = f.length := by
  have h := sum_cycles hf fun _ => 1
  rw [sm_const, Nat.mul_one] at h
  rw [h, smCs_twoW fun c hc => ?_]
  have hcy := (cyclesL_spec hf).1 c hc
  unfold smC
  rw [sm_const, Nat.mul_one]
  have h0 := hcy.pos
  have hx := hcy.lt 0 h0
  have hpx := hp _ hx
  have r1 := hcy.round 0 h0
  by_cases e1 : c.length = 1
  · rw [e1] at r1
    exact absurd r1 hpx.1
  · have m1 : (0 + 1) % c.length = 1 := Nat.mod_eq_of_lt (by omega)
    rw [m1] at r1
    have r2 := hcy.round 1 (by omega)
    rw [← r1, hpx.2] at r2
    by_cases e2 : c.length = 2
    · exact e2
    · have m2 : (1 + 1) % c.length = 2 := Nat.mod_eq_of_lt (by omega)
      rw [m2] at r2
      exact absurd r2 (hcy.apart 0 2 (by omega) (by omega))
theorem Word.pi_vld {l : List UInt8} (h : Word l) : Vld (piL l) := vld_of_prm h.pos (by have := h.len; omega) h.pi_prm
theorem Word.pi_parity {l : List UInt8} (h : Word l) : ((cyclesL (piL l)).length + l.length / 2 + 1) % 2 = 0 := by
  have hl := h.len
  have hv1 : Vld (parL l) := vld_of_prm h.pos (by omega) h.par_prm
  have hv2 : Vld (rotL l.length) := vld_of_prm h.pos (by omega) (rotN_prm h.pos)
  have p1 := parity_cycles hv1
  have p2 := parity_cycles hv2
  have p3 := parity_cycles h.pi_vld
  have p4 := invs_mul h.par_prm (rotN_prm h.pos)
  have hp : Paired (parL l) := fun i hi => by
    rw [parL_len] at hi
    have e1 : gn (parL l) i = par l i := gn_tab hi
    have e2 : gn (parL l) (par l i) = par l (par l i) := gn_tab (h.isPar hi).lt
    rw [e1, e2, h.par2 hi]
    exact ⟨(h.isPar hi).ne, rfl⟩
  have e1 := pair_cycles hv1 hp
  have e2 := rot_one l.length (by omega) h.pos
  rw [parL_len] at p1 e1
  rw [show (rotL l.length).length = l.length from tab_len _ _, e2] at p2
  rw [show (piL l).length = l.length from tab_len _ _] at p3
  rw [invs_same l.length (f := gn (parL l)) (g := par l) (fun i hi => gn_tab hi)] at p1
  rw [invs_same l.length (f := gn (rotL l.length)) (g := rotN l.length) (fun i hi => gn_tab hi)] at p2
  rw [invs_same l.length (f := gn (piL l)) (g := fun i => rotN l.length (par l i)) (fun i hi => gn_tab hi)] at p3
  omega

/-! ### Corners are cycles -/
theorem nxE_rot {n i : Nat} (hi : i < n) : nxE (2 * n) (2 * i + 1) = 2 * rotN n i := by
  unfold rotN
  by_cases e : i + 1 < n
  · rw [nxE_odd e, Nat.mod_eq_of_lt e]
  · obtain rfl : i = n - 1 := by omega
    rw [nxE_last (by omega), show n - 1 + 1 = n by omega, Nat.mod_self]
/-- The side at whose beginning an end lies. -/
def kE (n x : Nat) : Nat := if x % 2 = 0 then x / 2 else rotN n (x / 2)
theorem kE_even (n i : Nat) : kE n (2 * i) = i := by unfold kE; rw [if_pos (by omega)]; omega
theorem kE_odd (n i : Nat) : kE n (2 * i + 1) = rotN n i := by unfold kE; rw [if_neg (by omega), show (2 * i + 1) / 2 = i by omega]
structure Sided (l : List UInt8) : Prop where
  w : Word l
  s : ∀ i, i < l.length → twoAt l i = true
section
variable {l : List UInt8} (h : Sided l)
include h
theorem Sided.g_even {i : Nat} (hi : i < l.length) : gn (gluW l) (2 * i) = 2 * par l i + 1 := by
  rw [gn_gluW (by omega), glE_even, tw, if_pos (h.s i hi)]
theorem Sided.g_odd {i : Nat} (hi : i < l.length) : gn (gluW l) (2 * i + 1) = 2 * par l i := by
  rw [gn_gluW (by omega), glE_odd, tw, if_pos (h.s i hi)]; omega
theorem Sided.k_lt {x : Nat} (hx : x < 2 * l.length) : kE l.length x < l.length := by
  obtain ⟨i, rfl | rfl⟩ := half x
  · rw [kE_even]; omega
  · rw [kE_odd]; exact (rotN_prm h.w.pos).lt i (by omega)
theorem Sided.k_q {x : Nat} (hx : x < 2 * l.length) : kE l.length (gn (nxtW l.length) x) = kE l.length x := by
  rw [gn_nxtW hx]
  obtain ⟨i, rfl | rfl⟩ := half x
  · have h1 := (nxE_inv hx).2
    obtain ⟨j, e | e⟩ := half (nxE (2 * l.length) (2 * i))
    · exfalso
      have := (nxE_inv hx).1
      cases i with
      | zero => rw [Nat.mul_zero, nxE_zero h.w.pos] at e; omega
      | succ i => rw [nxE_even (by omega)] at e; omega
    · have hj := (nxE_inv hx).1
      rw [e] at h1 hj ⊢
      rw [nxE_rot (by omega)] at h1
      rw [kE_odd, kE_even]; omega
  · rw [nxE_rot (by omega), kE_even, kE_odd]
theorem Sided.k_g {x : Nat} (hx : x < 2 * l.length) : kE l.length (gn (gluW l) x) = gn (piL l) (kE l.length x) ∨ gn (piL l) (kE l.length (gn (gluW l) x)) = kE l.length x := by
  obtain ⟨i, rfl | rfl⟩ := half x
  · left
    have hi : i < l.length := by omega
    have e : gn (piL l) i = rotN l.length (par l i) := gn_tab hi
    rw [h.g_even hi, kE_odd, kE_even, e]
  · right
    rw [h.g_odd (by omega), kE_odd, kE_even]
    have e : gn (piL l) (par l i) = rotN l.length (par l (par l i)) := gn_tab (h.w.isPar (by omega)).lt
    rw [e, h.w.par2 (by omega)]
theorem Sided.inC_pi {c : List Int} (hc : c ∈ cyclesL (piL l)) {i : Nat} (hi : i < l.length) : inC c (gn (piL l) i) ↔ inC c i := by
  obtain ⟨h1, h2, h3⟩ := cyclesL_spec h.w.pi_vld
  have fwd : ∀ d, d ∈ cyclesL (piL l) → inC d i → inC d (gn (piL l) i) := fun d hd ⟨j, hj, e⟩ =>
    ⟨(j + 1) % d.length, Nat.mod_lt _ (h1 d hd).pos, by rw [← (h1 d hd).round j hj, e]⟩
  refine ⟨fun hg => ?_, fwd c hc⟩
  obtain ⟨d, hd, hdi⟩ := h2 i (by rw [show (piL l).length = l.length from tab_len _ _]; exact hi)
  have hdg := fwd d hd hdi
  by_cases e : c = d
  · rw [e]; exact hdi
  · exfalso
    obtain ⟨a, ha, rfl⟩ := List.getElem_of_mem hc
    obtain ⟨b, hb, rfl⟩ := List.getElem_of_mem hd
    rw [List.pairwise_iff_getElem] at h3
    rcases Nat.lt_trichotomy a b with h' | h' | h'
    · exact h3 a b ha hb h' _ hg hdg
    · subst h'; exact e rfl
    · exact h3 b a hb ha h' _ hdg hg
theorem Sided.inC_lead {c : List Int} (hc : c ∈ cyclesL (piL l)) {x y : Nat} (hx : x < 2 * l.length) (hl : Lead (gluW l) (nxtW l.length) x y) : inC c (kE l.length x) ↔ inC c (kE l.length y) := by
  obtain ⟨hg, hn⟩ := h.w.ivl
  have hlen : (gluW l).length = (nxtW l.length).length := by rw [gluW_len, nxtW_len]
  have hlt : ∀ y, Lead (gluW l) (nxtW l.length) x y → y < 2 * l.length := fun y hy => by
    have := hy.ltI hg hn hlen (by rw [gluW_len]; exact hx)
    rwa [gluW_len] at this
  induction hl with
  | refl => exact Iff.rfl
  | @one y hy ih =>
    have hyl := hlt y hy
    have hy2 := hlt _ (.one hy)
    rcases h.k_g hyl with e | e
    · rw [e, h.inC_pi hc (h.k_lt hyl)]; exact ih
    · rw [← h.inC_pi hc (h.k_lt hy2), e]; exact ih
  | @two y hy ih =>
    rw [h.k_q (hlt y hy)]; exact ih
theorem Sided.orb_pi {i : Nat} (hi : i < l.length) : orb (gluW l) (nxtW l.length) (2 * gn (piL l) i) = orb (gluW l) (nxtW l.length) (2 * i) := by
  obtain ⟨hg, hn⟩ := h.w.ivl
  have hlen : (gluW l).length = (nxtW l.length).length := by rw [gluW_len, nxtW_len]
  have hp := (h.w.isPar hi).lt
  have e1 := orb_oneI hg hn hlen (x := 2 * i) (by rw [gluW_len]; omega)
  have e2 := orb_twoI hg hn hlen (x := 2 * par l i + 1) (by rw [gluW_len]; omega)
  rw [h.g_even hi] at e1
  rw [gn_nxtW (by omega), nxE_rot hp] at e2
  rw [show gn (piL l) i = rotN l.length (par l i) from gn_tab hi, e2, e1]
theorem Sided.orb_k {x : Nat} (hx : x < 2 * l.length) : orb (gluW l) (nxtW l.length) (2 * kE l.length x) = orb (gluW l) (nxtW l.length) x := by
  obtain ⟨hg, hn⟩ := h.w.ivl
  have hlen : (gluW l).length = (nxtW l.length).length := by rw [gluW_len, nxtW_len]
  obtain ⟨i, rfl | rfl⟩ := half x
  · rw [kE_even]
  · have e2 := orb_twoI hg hn hlen (x := 2 * i + 1) (by rw [gluW_len]; omega)
    rw [gn_nxtW hx, nxE_rot (by omega)] at e2
    rw [kE_odd, e2]
theorem Sided.orb_cyc {c : List Int} (hc : c ∈ cyclesL (piL l)) : ∀ j, j < c.length → orb (gluW l) (nxtW l.length) (2 * gn c j) = orb (gluW l) (nxtW l.length) (2 * gn c 0) := by
  have hcy := (cyclesL_spec h.w.pi_vld).1 c hc
  intro j
  induction j with
  | zero => intro _; rfl
  | succ j ih =>
    intro hj
    have hr := hcy.round j (by omega)
    rw [Nat.mod_eq_of_lt hj] at hr
    have hlt := hcy.lt j (by omega)
    rw [show (piL l).length = l.length from tab_len _ _] at hlt
    rw [← hr, h.orb_pi hlt]
    exact ih (by omega)
theorem Sided.cor_eq : corN l = (cyclesL (piL l)).length := by
  obtain ⟨hg, hn⟩ := h.w.ivl
  have hlen : (gluW l).length = (nxtW l.length).length := by rw [gluW_len, nxtW_len]
  obtain ⟨h1, h2, h3⟩ := cyclesL_spec h.w.pi_vld
  have hpl : (piL l).length = l.length := tab_len _ _
  have hval : ∀ x, x < 2 * l.length → gi (cnrL l) x = (orb (gluW l) (nxtW l.length) x : Int) := fun x hx => gi_orbL (by rw [gluW_len]; exact hx)
  have hF : corN l = ((List.range (2 * l.length)).filter fun x => gi (cnrL l) x == (x : Int)).length := by
    unfold corN fixN
    rw [List.countP_eq_length_filter]
  have hM : ((cyclesL (piL l)).map fun c => orb (gluW l) (nxtW l.length) (2 * gn c 0)).length = (cyclesL (piL l)).length := List.length_map _
  have hhead : ∀ c, c ∈ cyclesL (piL l) → gn c 0 < l.length ∧ inC c (gn c 0) := fun c hc => by
    have := (h1 c hc).lt 0 (h1 c hc).pos
    rw [hpl] at this
    exact ⟨this, 0, (h1 c hc).pos, rfl⟩
  have hnod : ((cyclesL (piL l)).map fun c => orb (gluW l) (nxtW l.length) (2 * gn c 0)).Nodup := by
    rw [List.nodup_iff_pairwise_ne, List.pairwise_map]
    refine List.Pairwise.imp_of_mem ?_ h3
    intro c d hc hd hcd e
    obtain ⟨hc1, hc2⟩ := hhead c hc
    obtain ⟨hd1, hd2⟩ := hhead d hd
    have hlt : orb (gluW l) (nxtW l.length) (2 * gn c 0) < 2 * l.length := Nat.lt_of_le_of_lt orb_le (by omega)
    have i1 := h.inC_lead hc hlt orb_lead
    have i2 := h.inC_lead hc (x := orb (gluW l) (nxtW l.length) (2 * gn c 0)) (y := 2 * gn d 0) hlt (by rw [e]; exact orb_lead)
    rw [kE_even] at i1 i2
    exact hcd _ (i2.1 (i1.2 hc2)) hd2
  have s1 : ∀ x, x ∈ ((cyclesL (piL l)).map fun c => orb (gluW l) (nxtW l.length) (2 * gn c 0)) → x ∈ (List.range (2 * l.length)).filter fun x => gi (cnrL l) x == (x : Int) := by
    intro x hx
    obtain ⟨c, hc, rfl⟩ := List.mem_map.1 hx
    obtain ⟨hc1, -⟩ := hhead c hc
    have hlt : orb (gluW l) (nxtW l.length) (2 * gn c 0) < 2 * l.length := Nat.lt_of_le_of_lt orb_le (by omega)
    refine List.mem_filter.2 ⟨List.mem_range.2 hlt, ?_⟩
    rw [hval _ hlt, orb_orbI hg hn hlen (by rw [gluW_len]; omega)]
    simp
  have s2 : ∀ x, x ∈ ((List.range (2 * l.length)).filter fun x => gi (cnrL l) x == (x : Int)) → x ∈ (cyclesL (piL l)).map fun c => orb (gluW l) (nxtW l.length) (2 * gn c 0) := by
    intro x hx
    obtain ⟨hx1, hx2⟩ := List.mem_filter.1 hx
    have hxl := List.mem_range.1 hx1
    rw [hval x hxl] at hx2
    simp only [beq_iff_eq] at hx2
    obtain ⟨c, hc, j, hj, hji⟩ := h2 (kE l.length x) (by rw [hpl]; exact h.k_lt hxl)
    refine List.mem_map.2 ⟨c, hc, ?_⟩
    rw [← h.orb_cyc hc j hj, hji, h.orb_k hxl]
    omega
  have a := nodup_sub _ _ hnod s1
  have b := nodup_sub _ _ (List.nodup_range.filter _) s2
  omega
/-- Corners and letters of a word with two sides are of one parity, but one. -/
theorem Sided.even : (corN l + l.length / 2 + 1) % 2 = 0 := by
  rw [h.cor_eq]; exact h.w.pi_parity
end

end Go.Proofs.YtfdliekhlcbkcaaDoor

namespace Go.Proofs.YtfdliekhlcbkcaaDoor

def unR (n i : Nat) : Nat := if i = 0 then n - 1 else i - 1
theorem unR_lt {n i : Nat} (hi : i < n) : unR n i < n := by unfold unR; split <;> omega
theorem rot_unR {n i : Nat} (hi : i < n) : rotN n (unR n i) = i := by
  unfold rotN unR
  split
  · rw [show n - 1 + 1 = n by omega, Nat.mod_self]; omega
  · rw [show i - 1 + 1 = i by omega, Nat.mod_eq_of_lt hi]
theorem unR_rot {n i : Nat} (hi : i < n) : unR n (rotN n i) = i := by
  have h1 := (rotN_prm (show 0 < n by omega)).lt i hi
  exact (rotN_prm (show 0 < n by omega)).inj _ _ (unR_lt h1) hi (rot_unR h1)
theorem unR_inj {n i j : Nat} (hi : i < n) (hj : j < n) (e : unR n i = unR n j) : i = j := by rw [← rot_unR hi, ← rot_unR hj, e]
theorem turnW_len (l : List UInt8) : (turnW l).length = l.length := by simp [turnW]; omega
theorem gb_turn {l : List UInt8} {i : Nat} (hi : i < l.length) : gb (turnW l) i = gb l (rotN l.length i) := by
  have hr := (rotN_prm (show 0 < l.length by omega)).lt i hi
  rw [gb_eq (by rw [turnW_len]; exact hi), gb_eq hr]
  unfold turnW
  by_cases h : i + 1 < l.length
  · rw [List.getElem_append_left (by rw [List.length_drop]; omega), List.getElem_drop]
    congr 1
    unfold rotN
    rw [Nat.mod_eq_of_lt h]; omega
  · rw [List.getElem_append_right (by rw [List.length_drop]; omega), List.getElem_take]
    congr 1
    unfold rotN
    rw [List.length_drop, show i + 1 = l.length by omega, Nat.mod_self]; omega
theorem gb_unR {l : List UInt8} {i : Nat} (hi : i < l.length) : gb (turnW l) (unR l.length i) = gb l i := by
  rw [gb_turn (unR_lt hi), rot_unR hi]
theorem Word.par_turn {l : List UInt8} (h : Word l) {i : Nat} (hi : i < l.length) : par (turnW l) (unR l.length i) = unR l.length (par l i) := by
  have hp := h.isPar hi
  have hlt := hp.lt
  have hb : unR l.length i < (turnW l).length := by rw [turnW_len]; exact unR_lt hi
  refine (h.turn.isPar hb).uniq (⟨by rw [turnW_len]; exact unR_lt hlt, fun e => hp.ne (unR_inj hlt hi e), ?_, fun j hj e => ?_⟩ : IsPar (turnW l) (unR l.length i) (unR l.length (par l i)))
  · rw [gb_unR hlt, gb_unR hi]
    exact hp.eq
  · rw [turnW_len] at hj
    rw [gb_turn hj, gb_unR hi] at e
    rcases hp.all _ ((rotN_prm h.pos).lt j hj) e with e1 | e1
    · left; rw [← e1, unR_rot hj]
    · right; rw [← e1, unR_rot hj]
theorem Word.two_turn {l : List UInt8} (h : Word l) {i : Nat} (hi : i < l.length) : twoAt (turnW l) (unR l.length i) = twoAt l i := by
  unfold twoAt
  rw [h.par_turn hi, gb_unR hi, gb_unR (h.isPar hi).lt]
theorem nxE_unR {n i : Nat} (hi : i < n) : nxE (2 * n) (2 * i) = 2 * unR n i + 1 := by
  cases i with
  | zero => rw [Nat.mul_zero, nxE_zero (by omega)]; unfold unR; rw [if_pos rfl]
  | succ i => rw [nxE_even (by omega)]; unfold unR; rw [if_neg (by omega)]; omega
/-- Where an end comes to lie. -/
def movE (n x : Nat) : Nat := 2 * unR n (x / 2) + x % 2
theorem movE_even (n i : Nat) : movE n (2 * i) = 2 * unR n i := by unfold movE; rw [show 2 * i / 2 = i by omega]; omega
theorem movE_odd (n i : Nat) : movE n (2 * i + 1) = 2 * unR n i + 1 := by unfold movE; rw [show (2 * i + 1) / 2 = i by omega]; omega
theorem Word.conj_turn {l : List UInt8} (h : Word l) : ConjI (gluW l) (nxtW l.length) (gluW (turnW l)) (nxtW (turnW l).length) (movE l.length) (2 * l.length) := by
  have hpos := h.pos
  refine ⟨fun x hx => ?_, fun x y hx hy e => ?_, fun x hx => ?_, fun x hx => ?_⟩
  · have := unR_lt (show x / 2 < l.length by omega)
    unfold movE; omega
  · unfold movE at e
    have := unR_inj (n := l.length) (i := x / 2) (j := y / 2) (by omega) (by omega) (by omega)
    omega
  · have hg := h.glE hx
    refine ⟨by rw [gn_gluW hx]; exact hg.1, ?_⟩
    rw [gn_gluW hx]
    obtain ⟨i, rfl | rfl⟩ := half x
    · have hi : i < l.length := by omega
      have hu := unR_lt hi
      have ht : tw (turnW l) (unR l.length i) = tw l i := by unfold tw; rw [h.two_turn hi]
      rw [movE_even, gn_gluW (by rw [turnW_len]; omega), glE_even, glE_even, h.par_turn hi, ht]
      rcases (by have := tw_le l i; omega : tw l i = 0 ∨ tw l i = 1) with e | e
      · rw [e, Nat.add_zero, Nat.add_zero, movE_even]
      · rw [e, movE_odd]
    · have hi : i < l.length := by omega
      have hu := unR_lt hi
      have ht : tw (turnW l) (unR l.length i) = tw l i := by unfold tw; rw [h.two_turn hi]
      rw [movE_odd, gn_gluW (by rw [turnW_len]; omega), glE_odd, glE_odd, h.par_turn hi, ht]
      rcases (by have := tw_le l i; omega : tw l i = 0 ∨ tw l i = 1) with e | e
      · rw [e, Nat.sub_zero, Nat.sub_zero, movE_odd]
      · rw [e, Nat.add_sub_cancel, Nat.add_sub_cancel, movE_even]
  · have hn := nxE_inv hx
    refine ⟨by rw [gn_nxtW hx]; exact hn.1, ?_⟩
    rw [turnW_len, gn_nxtW hx]
    obtain ⟨i, rfl | rfl⟩ := half x
    · have hi : i < l.length := by omega
      have hu := unR_lt hi
      rw [movE_even, gn_nxtW (by omega), nxE_unR hi, nxE_unR hu, movE_odd]
    · have hi : i < l.length := by omega
      have hu := unR_lt hi
      rw [movE_odd, gn_nxtW (by omega), nxE_rot hi, nxE_rot hu, movE_even, rot_unR hi, unR_rot hi]
/-- Turned k times. -/
def itT (l : List UInt8) : Nat → List UInt8
  | 0 => l
  | k + 1 => turnW (itT l k)
theorem itT_shift (l : List UInt8) : ∀ k, itT (turnW l) k = itT l (k + 1)
  | 0 => rfl
  | k + 1 => by rw [itT, itT_shift l k]; rfl
theorem itT_len (l : List UInt8) : ∀ k, (itT l k).length = l.length
  | 0 => rfl
  | k + 1 => by rw [itT, turnW_len, itT_len l k]
theorem itT_eq (l : List UInt8) : ∀ k, k ≤ l.length → itT l k = l.drop k ++ l.take k
  | 0, _ => by simp [itT]
  | k + 1, h => by
    have hk : k < l.length := by omega
    have e1 : l.drop k = l[k] :: l.drop (k + 1) := List.drop_eq_getElem_cons hk
    have e2 : l.take (k + 1) = l.take k ++ [l[k]] := List.take_succ_eq_append_getElem hk
    rw [itT, itT_eq l k (by omega), e1, e2]
    show (l.drop (k + 1) ++ l.take k) ++ [l[k]] = l.drop (k + 1) ++ (l.take k ++ [l[k]])
    rw [List.append_assoc]
theorem itT_all (l : List UInt8) : itT l l.length = l := by rw [itT_eq l _ (Nat.le_refl _)]; simp
theorem Word.itT {l : List UInt8} (h : Word l) : ∀ k, Word (Go.Proofs.YtfdliekhlcbkcaaDoor.itT l k)
  | 0 => h
  | k + 1 => (h.itT k).turn
theorem Word.cor_itT {l : List UInt8} (h : Word l) : ∀ k, corN l ≤ corN (Go.Proofs.YtfdliekhlcbkcaaDoor.itT l k)
  | 0 => Nat.le_refl _
  | k + 1 => Nat.le_trans (h.cor_itT k) (cor_le_conj (h.itT k) (h.itT k).turn (turnW_len _) (h.itT k).conj_turn)
theorem Word.cor_turn {l : List UInt8} (h : Word l) : corN (turnW l) = corN l := by
  have a := cor_le_conj h h.turn (turnW_len l) h.conj_turn
  have b := h.turn.cor_itT (l.length - 1)
  rw [itT_shift, show l.length - 1 + 1 = l.length by have := h.pos; omega, itT_all] at b
  omega
theorem Word.sided_turn {l : List UInt8} (h : Word l) : sidedB (turnW l) = sidedB l := by
  have hw := wordB_iff.2 h
  have hb := wordB_iff.2 h.turn
  rw [sidedB, sidedB, hw, hb, Bool.true_and, Bool.true_and, turnW_len, Bool.eq_iff_iff, List.all_eq_true, List.all_eq_true]
  constructor
  · intro ha i hi
    have hi' := List.mem_range.1 hi
    rw [← h.two_turn hi']
    exact ha _ (List.mem_range.2 (unR_lt hi'))
  · intro ha i hi
    have hi' := List.mem_range.1 hi
    rw [← unR_rot hi', h.two_turn ((rotN_prm h.pos).lt _ hi')]
    exact ha _ (List.mem_range.2 ((rotN_prm h.pos).lt _ hi'))

end Go.Proofs.YtfdliekhlcbkcaaDoor

namespace Go.Proofs.YtfdliekhlcbkcaaDoor

section
variable {l : List UInt8} (h : Word l)
include h
theorem Word.gb_name {i : Nat} (hi : i < l.length) : ltr (gb (namesW l 0) i) = (rk l (fst l i) : Int) ∧ sml (gb (namesW l 0) i) = (sml (gb l i) == sml (gb l (fst l i))) := by
  have hl := h.len
  have := h.ltr_name (k := 0) (by omega) hi
  rw [gb_names hi, this.1, this.2, Nat.zero_add]
  exact ⟨rfl, rfl⟩
theorem Word.par_name {i : Nat} (hi : i < l.length) : par (namesW l 0) i = par l i := by
  have hl := h.len
  have hw := h.names (k := 0) (by omega)
  have hp := h.isPar hi
  refine (hw.isPar (by rw [namesW_len]; exact hi)).uniq (⟨by rw [namesW_len]; exact hp.lt, hp.ne, ?_, fun j hj e => ?_⟩ : IsPar (namesW l 0) i (par l i))
  · rw [(h.gb_name hp.lt).1, (h.gb_name hi).1, h.fst_par hi]
  · rw [namesW_len] at hj
    rw [(h.gb_name hj).1, (h.gb_name hi).1] at e
    have e1 := h.rk_inj hi hj (by omega)
    exact hp.all j hj ((h.fst_iff hi hj).1 e1)
theorem Word.fst_name {i : Nat} (hi : i < l.length) : fst (namesW l 0) i = fst l i := by unfold fst; rw [h.par_name hi]
theorem Word.rk_name : ∀ i, i ≤ l.length → rk (namesW l 0) i = rk l i
  | 0, _ => rfl
  | i + 1, hi => by rw [rk_succ, rk_succ, Word.rk_name i (by omega), h.par_name (by omega)]
theorem Word.two_name {i : Nat} (hi : i < l.length) : twoAt (namesW l 0) i = twoAt l i := by
  have hp := (h.isPar hi).lt
  unfold twoAt
  rw [h.par_name hi, (h.gb_name hi).2, (h.gb_name hp).2, h.fst_par hi]
  cases sml (gb l i) <;> cases sml (gb l (par l i)) <;> cases sml (gb l (fst l i)) <;> rfl
theorem Word.glu_name : gluW (namesW l 0) = gluW l := by
  unfold gluW
  rw [namesW_len]
  refine tab_ext (tab_len _ _) fun x hx => ?_
  rw [gi_tab hx]
  obtain ⟨i, rfl | rfl⟩ := half x
  · rw [glE_even, glE_even, h.par_name (by omega), tw, tw, h.two_name (by omega)]
  · rw [glE_odd, glE_odd, h.par_name (by omega), tw, tw, h.two_name (by omega)]
theorem Word.cor_name : corN (namesW l 0) = corN l := by
  unfold corN cnrL
  rw [h.glu_name, namesW_len]
theorem Word.sided_name : sidedB (namesW l 0) = sidedB l := by
  have hl := h.len
  have hw := wordB_iff.2 h
  have hb := wordB_iff.2 (h.names (k := 0) (by omega))
  rw [sidedB, sidedB, hw, hb, Bool.true_and, Bool.true_and, namesW_len, Bool.eq_iff_iff, List.all_eq_true, List.all_eq_true]
  constructor
  · intro ha i hi
    rw [← h.two_name (List.mem_range.1 hi)]
    exact ha i hi
  · intro ha i hi
    rw [h.two_name (List.mem_range.1 hi)]
    exact ha i hi
theorem Word.names_names : namesW (namesW l 0) 0 = namesW l 0 := by
  have e : ∀ i, i < l.length → nmAt (namesW l 0) 0 i = nmAt l 0 i := fun i hi => by
    have hf := (h.isFst hi).2.1
    have hff : fst l (fst l i) = fst l i := by
      rw [h.fst_iff hi hf]; exact (h.isFst hi).2.2
    unfold nmAt
    rw [h.fst_name hi, h.rk_name _ (by omega), (h.gb_name hi).2, (h.gb_name hf).2, hff]
    cases sml (gb l i) <;> cases sml (gb l (fst l i)) <;> rfl
  show (List.range (namesW l 0).length).map (nmAt (namesW l 0) 0) = (List.range l.length).map (nmAt l 0)
  rw [namesW_len]
  exact List.map_congr_left fun i hi => e i (List.mem_range.1 hi)
theorem Word.first_name : gb (namesW l 0) 0 = 97 := by
  rw [gb_names h.pos, nmAt, show fst l 0 = 0 from Nat.zero_min _]
  simp [rk, nmb]
/-- A name that is new has the next number; one that has been there has a lesser one. -/
theorem Word.name_step {i : Nat} (hi : i < l.length) : ((gb (namesW l 0) i).toNat : Int) - 97 = (rk l i : Int) ∧ rk l (i + 1) = rk l i + 1 ∨ ((gb (namesW l 0) i).toNat : Int) - 97 < (rk l i : Int) ∧ rk l (i + 1) = rk l i := by
  have hl := h.len
  have hb := h.rk_lt hi
  have hs := rk_succ l i
  rw [gb_names hi]
  have key : ∀ n, n < 5 → ∀ s, ((nmb n s).toNat : Int) - 97 ≤ (n : Int) ∧ ((nmb n true).toNat : Int) - 97 = (n : Int) := by decide +kernel
  by_cases hf : i < par l i
  · left
    rw [if_pos hf] at hs
    have e : fst l i = i := Nat.min_eq_left (by omega)
    rw [nmAt, e, Nat.zero_add, beq_self_eq_true]
    rw [e] at hb
    exact ⟨(key _ (by omega) true).2, hs⟩
  · right
    rw [if_neg hf] at hs
    obtain ⟨h1, h2, -⟩ := h.isFst hi
    have hp := (h.isPar hi).ne
    have hfi : fst l i < i := by unfold fst; omega
    have h3 := rk_succ l (fst l i)
    rw [if_pos h1] at h3
    have h4 := rk_mono l (show fst l i + 1 ≤ i by omega)
    have := (key (rk l (fst l i)) (by omega) (sml (gb l i) == sml (gb l (fst l i)))).1
    rw [nmAt, Nat.zero_add]
    omega
end

end Go.Proofs.YtfdliekhlcbkcaaDoor

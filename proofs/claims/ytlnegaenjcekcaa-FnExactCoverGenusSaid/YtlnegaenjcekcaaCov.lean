/-
  Plain: voltages of a map, the permutation of a dart, the cover, sheets renamed at a vertex.
-/
import Derived.Test.YtlnegaenjcekcaaRibP
namespace Go.Proofs.Ytlnegaenjcekcaa

/-- A voltage with k sheets. -/
structure Volt (t f : List Int) (k : Nat) (vss : List (List Int)) : Prop where
  map : IsMap t f
  one : 1 ≤ k
  six : k ≤ 6
  few : k * t.length ≤ 12
  len : vss.length = f.length / 2
  row : ∀ e, e < vss.length → Vld (vss.getD e []) ∧ (vss.getD e []).length = k
/-- Whether the map may have a cover with so many sheets. -/
noncomputable def cvB (t f : List Int) (k : Int) : Bool := mapV t f && (inB k 1 6 && decide (k * (t.length : Int) ≤ 12))
noncomputable def vvB (t f : List Int) (k : Int) (vss : List (List Int)) : Bool := open Classical in decide (1 ≤ k ∧ Volt t f k.toNat vss)
theorem vvB_true {t f : List Int} {k : Nat} {vss : List (List Int)} (h : Volt t f k vss) : vvB t f (k : Int) vss = true := by
  have := h.one
  simp only [vvB, decide_eq_true_eq, Int.toNat_natCast]
  exact ⟨by omega, h⟩
theorem vvB_false {t f : List Int} {k : Int} {vss : List (List Int)} (h : ∀ kn : Nat, k = kn → ¬ Volt t f kn vss) : vvB t f k vss = false := by
  simp only [vvB, decide_eq_false_iff_not]
  rintro ⟨h1, h2⟩
  exact h k.toNat (by omega) h2
theorem Volt_of {t f : List Int} {k : Int} {vss : List (List Int)} (h : vvB t f k vss = true) : ∃ kn : Nat, k = kn ∧ Volt t f kn vss := by
  simp only [vvB, decide_eq_true_eq] at h
  exact ⟨k.toNat, by omega, h.2⟩
theorem cvB_iff {t f : List Int} {k : Int} : cvB t f k = true ↔ ∃ kn : Nat, k = kn ∧ IsMap t f ∧ 1 ≤ kn ∧ kn ≤ 6 ∧ kn * t.length ≤ 12 := by
  simp only [cvB, Bool.and_eq_true, mapV_iff, inB, decide_eq_true_eq]
  constructor
  · rintro ⟨h1, ⟨h2, h3⟩, h4⟩
    refine ⟨k.toNat, by omega, h1, by omega, by omega, ?_⟩
    have : ((k.toNat * t.length : Nat) : Int) ≤ 12 := by rw [Int.natCast_mul, Int.toNat_of_nonneg (by omega)]; exact h4
    omega
  · rintro ⟨kn, rfl, h1, h2, h3, h4⟩
    refine ⟨h1, ⟨by omega, by omega⟩, ?_⟩
    rw [← Int.natCast_mul]; omega
theorem Volt.cv {t f : List Int} {k : Nat} {vss : List (List Int)} (h : Volt t f k vss) : cvB t f (k : Int) = true := cvB_iff.2 ⟨k, rfl, h.map, h.one, h.six, h.few⟩

theorem mulA {a b : List Int} (c : List Int) (ha : Vld a) (hl : a.length = b.length) : mulL (mulL a b) c = mulL a (mulL b c) := by
  refine eq_of_gi (by simp only [mulL_len]) fun j hj => ?_
  simp only [mulL_len] at hj
  have e : gn (mulL a b) j = gn b (gn a j) := by unfold gn; rw [gi_mulL hj]; rfl
  rw [gi_mulL (by rw [mulL_len]; exact hj), e, gi_mulL hj, gi_mulL (by rw [← hl]; exact ha.gn_lt hj)]
theorem backM {a b : List Int} (ha : Vld a) (hb : Vld b) (hl : a.length = b.length) : mulL (backL b) (backL a) = backL (mulL a b) := by
  refine (ha.mulL hb hl).backL_eq (by simp only [mulL_len, backL_len]; omega) fun i hi => ?_
  rw [mulL_len] at hi
  have h1 : gn a i < b.length := by rw [← hl]; exact ha.gn_lt hi
  have e : gn (mulL a b) i = gn b (gn a i) := by unfold gn; rw [gi_mulL hi]; rfl
  rw [e, gi_mulL (by rw [backL_len]; exact hb.gn_lt h1), hb.gn_backL h1, ha.gi_backL hi]

/-- The permutation of a dart. -/
def dV (f : List Int) (vss : List (List Int)) (d : Nat) : List Int := if d < gn f d then vss.getD (edgN f d) [] else backL (vss.getD (edgN f d) [])
def alL (f : List Int) (vss : List (List Int)) : List (List Int) := (List.range f.length).map (dV f vss)
theorem alL_len (f : List Int) (vss : List (List Int)) : (alL f vss).length = f.length := by simp [alL]
theorem alL_get {f : List Int} (vss : List (List Int)) {d : Nat} (hd : d < f.length) : (alL f vss).getD d [] = dV f vss d := by simp [alL, List.getD, hd]
section
variable {t f : List Int} {k : Nat} {vss : List (List Int)}
theorem Volt.edge (h : Volt t f k vss) {d : Nat} (hd : d < f.length) : edgN f d < vss.length := by
  have := edgN_lt h.map.flip h.map.paired hd
  have := lesN_half h.map.flip h.map.paired
  rw [h.len]; omega
theorem Volt.dV (h : Volt t f k vss) {d : Nat} (hd : d < f.length) : Vld (dV f vss d) ∧ (dV f vss d).length = k := by
  obtain ⟨h1, h2⟩ := h.row _ (h.edge hd)
  unfold Go.Proofs.Ytlnegaenjcekcaa.dV
  split
  · exact ⟨h1, h2⟩
  · exact ⟨backL_vld h1, by rw [backL_len]; exact h2⟩
theorem Volt.dV_flip (h : Volt t f k vss) {d : Nat} (hd : d < f.length) : Go.Proofs.Ytlnegaenjcekcaa.dV f vss (gn f d) = backL (Go.Proofs.Ytlnegaenjcekcaa.dV f vss d) := by
  obtain ⟨h1, h2⟩ := h.row _ (h.edge hd)
  have h3 := (h.map.paired d hd).2
  have h4 := edgN_flip h.map.paired hd
  unfold Go.Proofs.Ytlnegaenjcekcaa.dV
  rw [h4, h3]
  rcases less_or h.map.paired hd with h5 | ⟨h5, h6⟩
  · rw [if_neg (by omega), if_pos h5]
  · rw [if_pos h5, if_neg (by omega), back_back h1]
theorem dV_less {d : Nat} (hd : d < gn f d) : dV f vss d = vss.getD (lesN f d) [] := by unfold dV; rw [if_pos hd, edgN_less hd]
end

/-- The lesser dart of an edge. -/
def lesD (f : List Int) (e : Nat) : Nat := gn (lesPre f f.length) e
theorem lesD_spec {f : List Int} (hf : Vld f) (hp : Paired f) {e : Nat} (he : e < f.length / 2) : lesD f e < f.length ∧ lesD f e < gn f (lesD f e) ∧ lesN f (lesD f e) = e := by
  have h := lesN_half hf hp
  obtain ⟨d, h1, h2, h3⟩ := lesPre_find (f := f) (k := f.length) (e := e) (by omega)
  have h4 := lesPre_at h2 h1
  rw [h3] at h4
  have : lesD f e = d := by unfold lesD gn; rw [h4]; omega
  rw [this]
  exact ⟨h1, h2, h3⟩
theorem lesD_lesN {f : List Int} {d : Nat} (hd : d < f.length) (hl : d < gn f d) : lesD f (lesN f d) = d := by
  have h4 := lesPre_at hl hd
  unfold lesD gn; rw [h4]; omega

/-- The sheets renamed at the vertex nv: what becomes of the permutation a of the dart x, whose vertices are told by V. -/
def dC (V : List Int) (f : List Int) (nv : Int) (by_ : List Int) (a : List Int) (x : Nat) : List Int :=
  if gi V (gn f x) = nv then mulL (if gi V x = nv then mulL (backL by_) a else a) by_ else if gi V x = nv then mulL (backL by_) a else a
def cjL (V : List Int) (f : List Int) (vss : List (List Int)) (nv : Int) (by_ : List Int) : List (List Int) := (List.range vss.length).map fun e => dC V f nv by_ (vss.getD e []) (lesD f e)
theorem cjL_len (V f : List Int) (vss : List (List Int)) (nv : Int) (b : List Int) : (cjL V f vss nv b).length = vss.length := by simp [cjL]
theorem cjL_get {V f : List Int} {vss : List (List Int)} {nv : Int} {b : List Int} {e : Nat} (he : e < vss.length) : (cjL V f vss nv b).getD e [] = dC V f nv b (vss.getD e []) (lesD f e) := by simp [cjL, List.getD, he]
theorem dC_vld {V f : List Int} {nv : Int} {b a : List Int} {x k : Nat} (hb : Vld b) (hbk : b.length = k) (ha : Vld a) (hak : a.length = k) : Vld (dC V f nv b a x) ∧ (dC V f nv b a x).length = k := by
  have h1 : Vld (if gi V x = nv then mulL (backL b) a else a) ∧ (if gi V x = nv then mulL (backL b) a else a).length = k := by
    split
    · exact ⟨(backL_vld hb).mulL ha (by rw [backL_len]; omega), by rw [mulL_len, backL_len]; exact hbk⟩
    · exact ⟨ha, hak⟩
  unfold dC
  by_cases h : gi V (gn f x) = nv
  · rw [if_pos h]
    exact ⟨h1.1.mulL hb (by rw [h1.2]; omega), by rw [mulL_len]; exact h1.2⟩
  · rw [if_neg h]; exact h1
theorem Volt.cj {t f : List Int} {k : Nat} {vss : List (List Int)} (h : Volt t f k vss) {V : List Int} {nv : Int} {b : List Int} (hb : Vld b) (hbk : b.length = k) : Volt t f k (cjL V f vss nv b) := by
  refine ⟨h.map, h.one, h.six, h.few, by rw [cjL_len]; exact h.len, fun e he => ?_⟩
  rw [cjL_len] at he
  rw [cjL_get he]
  obtain ⟨h1, h2⟩ := h.row e he
  exact dC_vld hb hbk h1 h2
theorem dV_cj {t f : List Int} {k : Nat} {vss : List (List Int)} (h : Volt t f k vss) {V : List Int} {nv : Int} {b : List Int} (hb : Vld b) (hbk : b.length = k) {x : Nat} (hx : x < f.length) :
    dV f (cjL V f vss nv b) x = dC V f nv b (dV f vss x) x := by
  have he := h.edge hx
  obtain ⟨h1, h2⟩ := h.row _ he
  unfold dV
  rw [cjL_get he]
  rcases less_or h.map.paired hx with h5 | ⟨h5, h6⟩
  · rw [if_pos h5, if_pos h5, edgN_less h5, lesD_lesN hx h5]
  · have hfx := h.map.flip.gn_lt hx
    have h7 := (h.map.paired x hx).2
    rw [if_neg (by omega), if_neg (by omega)]
    obtain ⟨a, ha⟩ : ∃ a, vss.getD (edgN f x) [] = a := ⟨_, rfl⟩
    rw [ha] at h1 h2 ⊢
    rw [edgN_more h5, lesD_lesN hfx h6]
    have hB := backL_vld hb
    have hA := backL_vld h1
    unfold dC
    rw [h7]
    by_cases e1 : gi V x = nv <;> by_cases e2 : gi V (gn f x) = nv
    · rw [if_pos e1, if_pos e2, if_pos e2, if_pos e1, ← backM (hB.mulL h1 (by rw [backL_len]; omega)) hb (by rw [mulL_len, backL_len]), ← backM hB h1 (by rw [backL_len]; omega), back_back hb, ← mulA b hB (by rw [backL_len, backL_len]; omega)]
    · rw [if_pos e1, if_neg e2, if_neg e2, if_pos e1, ← backM h1 hb (by omega)]
    · rw [if_neg e1, if_pos e2, if_pos e2, if_neg e1, ← backM hB h1 (by rw [backL_len]; omega), back_back hb]
    · rw [if_neg e1, if_neg e2, if_neg e2, if_neg e1]

/-- The cover. -/
def covT (t : List Int) (k : Nat) : List Int := tab (t.length * k) fun j => (k * gn t (j / k) + j % k : Nat)
def covF (f : List Int) (vss : List (List Int)) (k : Nat) : List Int := tab (f.length * k) fun j => (k * gn f (j / k) + gn (dV f vss (j / k)) (j % k) : Nat)
theorem covT_len (t : List Int) (k : Nat) : (covT t k).length = t.length * k := tab_len _ _
theorem covF_len (f : List Int) (vss : List (List Int)) (k : Nat) : (covF f vss k).length = f.length * k := tab_len _ _
theorem at_dart {n k d s : Nat} (hd : d < n) (hs : s < k) : k * d + s < n * k ∧ (k * d + s) / k = d ∧ (k * d + s) % k = s := by
  refine ⟨?_, ?_, ?_⟩
  · have h1 : k * (d + 1) ≤ k * n := Nat.mul_le_mul_left k (by omega)
    rw [Nat.mul_add, Nat.mul_one, Nat.mul_comm k n] at h1
    omega
  · rw [Nat.mul_add_div (by omega), Nat.div_eq_of_lt hs, Nat.add_zero]
  · rw [Nat.mul_add_mod, Nat.mod_eq_of_lt hs]
theorem gi_covT {t : List Int} {k d s : Nat} (hd : d < t.length) (hs : s < k) : gi (covT t k) (k * d + s) = (k * gn t d + s : Nat) := by
  obtain ⟨h1, h2, h3⟩ := at_dart hd hs
  rw [covT, gi_tab h1, h2, h3]
theorem gi_covF {f : List Int} {vss : List (List Int)} {k d s : Nat} (hd : d < f.length) (hs : s < k) : gi (covF f vss k) (k * d + s) = (k * gn f d + gn (dV f vss d) s : Nat) := by
  obtain ⟨h1, h2, h3⟩ := at_dart hd hs
  rw [covF, gi_tab h1, h2, h3]
/-- The shift of all sheets. -/
def shL (n k : Nat) (b : List Int) : List Int := tab (n * k) fun j => (k * (j / k) + gn b (j % k) : Nat)
theorem shL_len (n k : Nat) (b : List Int) : (shL n k b).length = n * k := tab_len _ _
theorem gi_shL {n k d s : Nat} {b : List Int} (hd : d < n) (hs : s < k) : gi (shL n k b) (k * d + s) = (k * d + gn b s : Nat) := by
  obtain ⟨h1, h2, h3⟩ := at_dart hd hs
  rw [shL, gi_tab h1, h2, h3]

/-! ### What the functions answer -/
noncomputable def shR (t f : List Int) (k : Int) (vss : List (List Int)) (b : List Int) : Bool × List Int := if vvB t f k vss = true ∧ vld b = true ∧ (b.length : Int) = k then (true, shL t.length k.toNat b) else (false, [])
noncomputable def trvR (t f : List Int) (k : Int) : Bool × List (List Int) := if cvB t f k = true then (true, List.replicate (f.length / 2) (marks 0 k.toNat)) else (false, [])
noncomputable def cwB (t f : List Int) (k : Int) (vss : List (List Int)) : Bool := vvB t f k vss && mapV (covT t k.toNat) (covF f vss k.toNat)
noncomputable def cmR (t f : List Int) (k : Int) (vss : List (List Int)) : Bool × List Int × List Int := if cwB t f k vss = true then (true, covT t k.toNat, covF f vss k.toNat) else (false, [], [])

end Go.Proofs.Ytlnegaenjcekcaa

/-
  Plain: a subgraph with one edge more: its sides and its parts; the genus of a subgraph is from 0 to that of the map.
  Plain: quasi-trees of a map, of its dual and of its mirror; spanning trees are quasi-trees.
-/
import Derived.Test.YtcenffndclpjoaaQuaP
import Derived.Test.YtcenffndclpjoaaKind
import Derived.Test.YtcenffndclpjoaaCls
import Derived.Test.YtcenffndclpjoaaRibT
namespace Go.Proofs.Ytcenffndclpjoaa
set_option linter.unusedVariables false

theorem bit_f1 : ∀ s : Nat, s < 64 → ∀ e : Nat, e < 6 → s.testBit e = false → (bL (s ||| 2 ^ e)).length = (bL s).length + 1 := by decide +kernel
theorem bit_f2 : ∀ s : Nat, s < 64 → ∀ e : Nat, e < 6 → s ||| 2 ^ e < 64 := by decide +kernel
theorem bit_f3 : ∀ s : Nat, s < 64 → ∀ e : Nat, e < 6 → (s ||| 2 ^ e).testBit e = true := by decide +kernel
theorem bit_f5 : ∀ s : Nat, s < 64 → ∀ e : Nat, e < 6 → ∀ j : Nat, j < 6 → j ≠ e → (s ||| 2 ^ e).testBit j = s.testBit j := by decide +kernel
theorem bit_facts (s : Nat) (hs : s < 64) (e : Nat) (he : e < 6) (hb : s.testBit e = false) : (bL (s ||| 2 ^ e)).length = (bL s).length + 1 ∧ s ||| 2 ^ e < 64 ∧ (s ||| 2 ^ e).testBit e = true ∧ ∀ j : Nat, j < 6 → j ≠ e → (s ||| 2 ^ e).testBit j = s.testBit j :=
  ⟨bit_f1 s hs e he hb, bit_f2 s hs e he, bit_f3 s hs e he, bit_f5 s hs e he⟩
theorem low_facts : ∀ s : Nat, s < 64 → ∀ k : Nat, k < 6 → (s % 2 ^ k).testBit k = false ∧ s % 2 ^ k < 64 ∧ (s.testBit k = true → s % 2 ^ (k + 1) = (s % 2 ^ k) ||| 2 ^ k) ∧ (s.testBit k = false → s % 2 ^ (k + 1) = s % 2 ^ k) := by decide +kernel
theorem high_facts : ∀ s : Nat, s < 64 → ∀ k : Nat, k < 6 → (s ||| (2 ^ k - 1)) < 64 ∧ ((s ||| (2 ^ k - 1)).testBit k = true → s ||| (2 ^ (k + 1) - 1) = s ||| (2 ^ k - 1)) ∧ ((s ||| (2 ^ k - 1)).testBit k = false → s ||| (2 ^ (k + 1) - 1) = (s ||| (2 ^ k - 1)) ||| 2 ^ k) := by decide +kernel
theorem full_f1 : ∀ h : Nat, h < 7 → ∀ s : Nat, s < 64 → s < 2 ^ h → s ||| (2 ^ h - 1) = 2 ^ h - 1 ∧ s % 2 ^ h = s := by decide +kernel
theorem full_f2 : ∀ h : Nat, h < 7 → (2 ^ h - 1) < 64 ∧ (bL (2 ^ h - 1)).length = h := by decide +kernel
theorem full_f3 : ∀ h : Nat, h < 7 → ∀ j : Nat, j < 6 → j < h → (2 ^ h - 1).testBit j = true := by decide +kernel
theorem full_facts (h : Nat) (hh : h < 7) (s : Nat) (hs : s < 64) (hb : s < 2 ^ h) : s ||| (2 ^ h - 1) = 2 ^ h - 1 ∧ s % 2 ^ h = s ∧ (2 ^ h - 1) < 64 ∧ (bL (2 ^ h - 1)).length = h ∧ ∀ j : Nat, j < 6 → j < h → (2 ^ h - 1).testBit j = true :=
  ⟨(full_f1 h hh s hs hb).1, (full_f1 h hh s hs hb).2, (full_f2 h hh).1, (full_f2 h hh).2, full_f3 h hh⟩
theorem bL_zero : (bL 0).length = 0 := by decide +kernel

section
variable {t f : List Int}
theorem edg6 (hm : IsMap t f) (h6 : f.length / 2 ≤ 6) {x : Nat} (hx : x < f.length) : edgN f x < 6 := by
  have h1 := edgN_lt hm.flip hm.paired hx
  have h2 := lesN_half hm.flip hm.paired
  omega
theorem Lead.lt' (hm : IsMap t f) {s x y : Nat} (h : Lead t (flipS f s) x y) (hx : x < t.length) : y < t.length :=
  h.lt hm.turn (flipS_vld hm.flip hm.paired s) (by rw [flipS_len, hm.len]) hx
theorem lead_eqv (hm : IsMap t f) (s : Nat) : Eqv t.length (Lead t (flipS f s)) :=
  ⟨fun x _ => .refl x, fun x y hx _ h => h.sym hm.turn (flipS_vld hm.flip hm.paired s) (by rw [flipS_len, hm.len]) hx, fun _ _ _ _ _ _ h1 h2 => h1.trans h2⟩
theorem pts_cls (hm : IsMap t f) (s : Nat) : ptsN t f s = cls t.length (Lead t (flipS f s)) := by
  rw [ptsN, fixN_sm, cls]
  refine sm_congr _ fun x hx => ch_congr ?_
  rw [gi_orbL hx]
  constructor
  · intro h y hy hr
    have h1 := orb_least ((lead_eqv hm s).symm x y hx hy hr)
    omega
  · intro h
    have h1 : orb t (flipS f s) x < t.length := Nat.lt_of_le_of_lt orb_le hx
    have h2 := h _ h1 ((lead_eqv hm s).symm _ x h1 hx orb_lead)
    have h3 := orb_le (p := t) (q := flipS f s) (x := x)
    omega
theorem sid_prm (hm : IsMap t f) (s : Nat) : Prm t.length (gn (sidL t f s)) := by
  have h := (sidL_vld hm s).prm
  rw [sidL_len, ← hm.len] at h
  exact h
theorem sid_cls (hm : IsMap t f) (s : Nat) : sidN t f s = cls t.length (Rch (gn (sidL t f s))) := by
  have h := lows_cycles (sidL_vld hm s)
  rw [sidL_len, ← hm.len] at h
  rw [sidN, ← h, lows_cls (sid_prm hm s)]
/-- Sides go within parts. -/
theorem rch_lead (hm : IsMap t f) (s : Nat) {x y : Nat} (hx : x < t.length) (h : Rch (gn (sidL t f s)) x y) : Lead t (flipS f s) x y := by
  obtain ⟨k, rfl⟩ := h
  induction k with
  | zero => exact .refl _
  | succ k ih =>
    have hl := (sid_prm hm s).itf_lt hx k
    have e : itf (gn (sidL t f s)) (k + 1) x = gn t (gn (flipS f s) (itf (gn (sidL t f s)) k x)) := by
      show gn (sidL t f s) (itf (gn (sidL t f s)) k x) = _
      unfold sidL
      rw [gn_mulL (by rw [flipS_len, ← hm.len]; exact hl)]
    rw [e]
    exact .one (.two ih)

/-- The flip of the chosen edges with one edge more. -/
theorem flip_more (hm : IsMap t f) (h6 : f.length / 2 ≤ 6) {s e d : Nat} (hs : s < 64) (he : e < 6) (hb : s.testBit e = false) (hd : d < f.length) (hde : edgN f d = e) {x : Nat} (hx : x < f.length) :
    gn (flipS f (s ||| 2 ^ e)) x = gn (flipS f s) (sw d (gn f d) x) ∧ gn (flipS f s) d = d ∧ gn (flipS f s) (gn f d) = gn f d ∧ (x ≠ d → x ≠ gn f d → gn (flipS f (s ||| 2 ^ e)) x = gn (flipS f s) x) := by
  obtain ⟨b1, b2, b3, b4⟩ := bit_facts s hs e he hb
  have hfd := hm.flip.gn_lt hd
  have c1 : chB f s d = false := by rw [chB, hde]; exact hb
  have c2 : chB f s (gn f d) = false := by rw [chB_flip hm.paired s hd]; exact c1
  have k1 : gn (flipS f s) d = d := by rw [gn_flipS hd, if_neg (by rw [c1]; decide)]
  have k2 : gn (flipS f s) (gn f d) = gn f d := by rw [gn_flipS hfd, if_neg (by rw [c2]; decide)]
  have c3 : chB f (s ||| 2 ^ e) d = true := by rw [chB, hde]; exact b3
  have c4 : chB f (s ||| 2 ^ e) (gn f d) = true := by rw [chB_flip hm.paired _ hd]; exact c3
  have key : x ≠ d → x ≠ gn f d → gn (flipS f (s ||| 2 ^ e)) x = gn (flipS f s) x := by
    intro h1 h2
    have hne : edgN f x ≠ e := fun h => by
      rcases edgN_inj hm.flip hm.paired hd hx (by rw [hde, h]) with h | h
      · exact h1 h
      · exact h2 h
    have hc : chB f (s ||| 2 ^ e) x = chB f s x := by unfold chB; exact b4 _ (edg6 hm h6 hx) hne
    rw [gn_flipS hx, gn_flipS hx, hc]
  refine ⟨?_, k1, k2, key⟩
  unfold sw
  by_cases h1 : x = d
  · rw [if_pos h1, h1, k2, gn_flipS hd, if_pos c3]
  · rw [if_neg h1]
    by_cases h2 : x = gn f d
    · rw [if_pos h2, h2, k1, gn_flipS hfd, if_pos c4, (hm.paired d hd).2]
    · rw [if_neg h2]; exact key h1 h2
theorem sid_more (hm : IsMap t f) (h6 : f.length / 2 ≤ 6) {s e d : Nat} (hs : s < 64) (he : e < 6) (hb : s.testBit e = false) (hd : d < f.length) (hde : edgN f d = e) {x : Nat} (hx : x < f.length) :
    gn (sidL t f (s ||| 2 ^ e)) x = gn (sidL t f s) (sw d (gn f d) x) := by
  have h1 := (flip_more hm h6 hs he hb hd hde hx).1
  have hsw := sw_lt hd (hm.flip.gn_lt hd) hx
  unfold sidL
  rw [gn_mulL (by rw [flipS_len]; exact hx), gn_mulL (by rw [flipS_len]; exact hsw), h1]
theorem itf_congr {n : Nat} {p q : Nat → Nat} (hq : Prm n q) (h : ∀ x, x < n → p x = q x) {x : Nat} (hx : x < n) : ∀ k, itf p k x = itf q k x
  | 0 => rfl
  | k + 1 => by rw [itf, itf, itf_congr hq h hx k, h _ (hq.itf_lt hx k)]
theorem cls_rch_congr {n : Nat} {p q : Nat → Nat} (hp : Prm n p) (hq : Prm n q) (h : ∀ x, x < n → p x = q x) : cls n (Rch p) = cls n (Rch q) :=
  Nat.le_antisymm (cls_mono fun x y hx _ ⟨k, hk⟩ => ⟨k, by rw [itf_congr hq h hx]; exact hk⟩) (cls_mono fun x y hx _ ⟨k, hk⟩ => ⟨k, by rw [← itf_congr hq h hx]; exact hk⟩)
theorem lead_more (hm : IsMap t f) (h6 : f.length / 2 ≤ 6) {s e d : Nat} (hs : s < 64) (he : e < 6) (hb : s.testBit e = false) (hd : d < f.length) (hde : edgN f d = e) {x y : Nat} (hx : x < t.length) :
    Lead t (flipS f (s ||| 2 ^ e)) x y ↔ Mer (Lead t (flipS f s)) d (gn f d) x y := by
  have hl := hm.len
  have hfd := hm.flip.gn_lt hd
  have hmor := fun {x : Nat} (hx : x < f.length) => flip_more hm h6 hs he hb hd hde hx
  have e1 : gn (flipS f (s ||| 2 ^ e)) d = gn f d := by
    have h := (hmor hd).1
    rw [sw, if_pos rfl, (hmor hd).2.2.1] at h
    exact h
  have e2 : gn (flipS f (s ||| 2 ^ e)) (gn f d) = d := by
    have h := (hmor hfd).1
    have hne := (hm.paired d hd).1
    rw [sw, if_neg hne, if_pos rfl, (hmor hd).2.1] at h
    exact h
  constructor
  · intro h
    induction h with
    | refl => exact .inl (.refl _)
    | one h' ih =>
      rcases ih with ih | ⟨a, b⟩ | ⟨a, b⟩
      · exact .inl (.one ih)
      · exact .inr (.inl ⟨a, .one b⟩)
      · exact .inr (.inr ⟨a, .one b⟩)
    | two h' ih =>
      rename_i u
      have hu : u < f.length := by rw [← hl]; exact Lead.lt' hm h' hx
      by_cases h1 : u = d
      · subst h1
        rw [e1]
        rcases ih with ih | ⟨a, _⟩ | ⟨a, _⟩
        · exact .inr (.inl ⟨ih, .refl _⟩)
        · exact .inr (.inl ⟨a, .refl _⟩)
        · exact .inl a
      · by_cases h2 : u = gn f d
        · subst h2
          rw [e2]
          rcases ih with ih | ⟨a, _⟩ | ⟨a, _⟩
          · exact .inr (.inr ⟨ih, .refl _⟩)
          · exact .inl a
          · exact .inr (.inr ⟨a, .refl _⟩)
        · rw [(hmor hu).2.2.2 h1 h2]
          rcases ih with ih | ⟨a, b⟩ | ⟨a, b⟩
          · exact .inl (.two ih)
          · exact .inr (.inl ⟨a, .two b⟩)
          · exact .inr (.inr ⟨a, .two b⟩)
  · have up : ∀ {a b : Nat}, a < t.length → Lead t (flipS f s) a b → Lead t (flipS f (s ||| 2 ^ e)) a b := by
      intro a b ha h
      induction h with
      | refl => exact .refl _
      | one _ ih => exact .one ih
      | two h' ih =>
        rename_i u
        have hu : u < f.length := by rw [← hl]; exact Lead.lt' hm h' ha
        by_cases h1 : u = d
        · subst h1; rw [(hmor hd).2.1]; exact ih
        · by_cases h2 : u = gn f d
          · subst h2; rw [(hmor hd).2.2.1]; exact ih
          · rw [← (hmor hu).2.2.2 h1 h2]; exact .two ih
    have hdt : d < t.length := by rw [hl]; exact hd
    have hft : gn f d < t.length := by rw [hl]; exact hfd
    rintro (h | ⟨h1, h2⟩ | ⟨h1, h2⟩)
    · exact up hx h
    · have h3 := Lead.two (up hx h1)
      rw [e1] at h3
      exact h3.trans (up hft h2)
    · have h3 := Lead.two (up hx h1)
      rw [e2] at h3
      exact h3.trans (up hdt h2)
/-- One edge more: a side more or less; a part less only where two sides become one. -/
theorem one_edge (hm : IsMap t f) (h6 : f.length / 2 ≤ 6) {s e : Nat} (hs : s < 2 ^ (f.length / 2)) (hs64 : s < 64) (he : e < f.length / 2) (hb : s.testBit e = false) :
    (sidN t f (s ||| 2 ^ e) = sidN t f s + 1 ∨ sidN t f s = sidN t f (s ||| 2 ^ e) + 1) ∧
    (ptsN t f (s ||| 2 ^ e) = ptsN t f s ∨ (ptsN t f s = ptsN t f (s ||| 2 ^ e) + 1 ∧ sidN t f s = sidN t f (s ||| 2 ^ e) + 1)) ∧
    (bL (s ||| 2 ^ e)).length = (bL s).length + 1 ∧ s ||| 2 ^ e < 2 ^ (f.length / 2) := by
  have hl := hm.len
  obtain ⟨d1, d2, d3, -⟩ := dE_of hm.flip hm.paired he
  have hde : edgN f (dE f e) = e := by rw [edgN_less d2]; exact d3
  have he6 : e < 6 := by omega
  obtain ⟨b1, b2, -, -⟩ := bit_facts s hs64 e he6 hb
  have hdt : dE f e < t.length := by rw [hl]; exact d1
  have hft : gn f (dE f e) < t.length := by rw [hl]; exact hm.flip.gn_lt d1
  have hlt : s ||| 2 ^ e < 2 ^ (f.length / 2) := Nat.or_lt_two_pow hs (Nat.pow_lt_pow_right (by omega) he)
  have P := sid_prm hm s
  have PW := P.sw hdt hft
  have eS : sidN t f (s ||| 2 ^ e) = cls t.length (Rch fun x => gn (sidL t f s) (sw (dE f e) (gn f (dE f e)) x)) := by
    rw [sid_cls hm]
    exact cls_rch_congr (sid_prm hm _) PW fun x hx => sid_more hm h6 hs64 he6 hb d1 hde (by rw [← hl]; exact hx)
  have eP : ptsN t f (s ||| 2 ^ e) = cls t.length (Mer (Lead t (flipS f s)) (dE f e) (gn f (dE f e))) := by
    rw [pts_cls hm]
    exact Nat.le_antisymm (cls_mono fun x y hx _ h => (lead_more hm h6 hs64 he6 hb d1 hde hx).2 h) (cls_mono fun x y hx _ h => (lead_more hm h6 hs64 he6 hb d1 hde hx).1 h)
  have s1 := cls_sw_ge P hdt hft
  have s2 := cls_sw_le P hdt hft
  rw [← eS, ← sid_cls hm] at s1 s2
  have p1 := sidN_par hm h6 hs
  have p2 := sidN_par hm h6 hlt
  rw [b1] at p2
  have q1 := cls_mer_ge (lead_eqv hm s) hdt hft
  rw [← eP, ← pts_cls hm] at q1
  have q2 : ptsN t f (s ||| 2 ^ e) ≤ ptsN t f s := by
    rw [eP, pts_cls hm]
    exact cls_mono fun x y _ _ h => .inl h
  refine ⟨by omega, ?_, b1, hlt⟩
  by_cases hR : Lead t (flipS f s) (dE f e) (gn f (dE f e))
  · left
    refine Nat.le_antisymm q2 ?_
    rw [eP, pts_cls hm]
    refine cls_mono fun x y hx hy h => ?_
    rcases h with h | ⟨h1, h2⟩ | ⟨h1, h2⟩
    · exact h
    · exact (h1.trans hR).trans h2
    · exact (h1.trans ((lead_eqv hm s).symm _ _ hdt hft hR)).trans h2
  · right
    have q3 := cls_mer_lt (lead_eqv hm s) hdt hft hR
    rw [← eP, ← pts_cls hm] at q3
    have s3 := cls_sw_lt P hdt hft (fun h => hR (rch_lead hm s hdt h))
    rw [← eS, ← sid_cls hm] at s3
    exact ⟨by omega, by omega⟩

/-- Twice the genus of a subgraph. -/
noncomputable def gen2 (t f : List Int) (s : Nat) : Int := 2 * (ptsN t f s : Int) - cntV t + (bL s).length - sidN t f s
noncomputable def nulN (t f : List Int) (s : Nat) : Int := ((bL s).length : Int) - cntV t + ptsN t f s
theorem step_up (hm : IsMap t f) (h6 : f.length / 2 ≤ 6) {s e : Nat} (hs : s < 2 ^ (f.length / 2)) (hs64 : s < 64) (he : e < f.length / 2) (hb : s.testBit e = false) :
    gen2 t f s ≤ gen2 t f (s ||| 2 ^ e) ∧ nulN t f s ≤ nulN t f (s ||| 2 ^ e) := by
  obtain ⟨h1, h2, h3, -⟩ := one_edge hm h6 hs hs64 he hb
  unfold gen2 nulN
  rw [h3]
  omega
theorem lead_none (hm : IsMap t f) {x y : Nat} (hx : x < t.length) (h : Lead t (flipS f 0) x y) : Rch (gn t) x y := by
  induction h with
  | refl => exact .refl_ _
  | one _ ih => exact ih.step
  | two h' ih =>
    rename_i u
    have hu : u < f.length := by rw [← hm.len]; exact Lead.lt' hm h' hx
    rw [gn_flipS hu, if_neg (by unfold chB; simp)]
    exact ih
theorem none_zero (hm : IsMap t f) : 0 ≤ gen2 t f 0 ∧ 0 ≤ nulN t f 0 := by
  have h1 : sidN t f 0 = cntV t := by
    have e : sidL t f 0 = t := by
      refine eq_of_gi (by rw [sidL_len, hm.len]) fun j hj => ?_
      rw [sidL_len] at hj
      have hj' : j < t.length := by rw [hm.len]; exact hj
      have h := gn_sidL (t := t) (f := f) 0 hj
      rw [if_neg (by unfold chB; simp)] at h
      rw [(sidL_vld hm 0).gi_gn (by rw [sidL_len]; exact hj), hm.turn.gi_gn hj', h]
    rw [sidN, e]; rfl
  have h2 : cntV t ≤ ptsN t f 0 := by
    rw [pts_cls hm]
    show (cyclesL t).length ≤ _
    rw [← lows_cycles hm.turn, lows_cls hm.turn.prm]
    exact cls_mono fun x y hx _ h => lead_none hm hx h
  unfold gen2 nulN
  rw [h1, bL_zero]
  omega
theorem from_none (hm : IsMap t f) (h6 : f.length / 2 ≤ 6) {s : Nat} (hs : s < 2 ^ (f.length / 2)) (hs64 : s < 64) : ∀ k, k ≤ f.length / 2 → 0 ≤ gen2 t f (s % 2 ^ k) ∧ 0 ≤ nulN t f (s % 2 ^ k)
  | 0, _ => by rw [Nat.pow_zero, Nat.mod_one]; exact none_zero hm
  | k + 1, hk => by
    have ih := from_none hm h6 hs hs64 k (by omega)
    obtain ⟨l1, l2, l3, l4⟩ := low_facts s hs64 k (by omega)
    cases hb : s.testBit k with
    | true =>
      have h := step_up hm h6 (s := s % 2 ^ k) (Nat.lt_of_le_of_lt (Nat.mod_le _ _) hs) l2 (e := k) (by omega) l1
      rw [l3 hb]
      omega
    | false => rw [l4 hb]; exact ih
theorem to_all (hm : IsMap t f) (h6 : f.length / 2 ≤ 6) {s : Nat} (hs : s < 2 ^ (f.length / 2)) (hs64 : s < 64) : ∀ k, k ≤ f.length / 2 → gen2 t f s ≤ gen2 t f (s ||| (2 ^ k - 1)) ∧ s ||| (2 ^ k - 1) < 2 ^ (f.length / 2) ∧ s ||| (2 ^ k - 1) < 64
  | 0, _ => by simp; exact ⟨hs, hs64⟩
  | k + 1, hk => by
    obtain ⟨i1, i2, i3⟩ := to_all hm h6 hs hs64 k (by omega)
    obtain ⟨l1, l2, l3⟩ := high_facts s hs64 k (by omega)
    cases hb : (s ||| (2 ^ k - 1)).testBit k with
    | true => rw [l2 hb]; exact ⟨i1, i2, i3⟩
    | false =>
      have h := step_up hm h6 i2 i3 (e := k) (by omega) hb
      have h2 := (one_edge hm h6 i2 i3 (e := k) (by omega) hb).2.2.2
      have h3 := (bit_facts _ i3 k (by omega) hb).2.1
      rw [l3 hb]
      exact ⟨by omega, h2, h3⟩
theorem all_edges (hm : IsMap t f) (h6 : f.length / 2 ≤ 6) : flipS f (2 ^ (f.length / 2) - 1) = f := by
  refine eq_of_gi (flipS_len _ _) fun j hj => ?_
  rw [flipS_len] at hj
  obtain ⟨-, -, -, -, h5⟩ := full_facts (f.length / 2) (by omega) 0 (by omega) (Nat.two_pow_pos _)
  have hE := edgN_lt hm.flip hm.paired hj
  have hH := lesN_half hm.flip hm.paired
  rw [gi_flipS hj, if_pos (by unfold chB; exact h5 _ (by omega) (by omega))]
theorem gen_all (hm : IsMap t f) (h6 : f.length / 2 ≤ 6) : gen2 t f (2 ^ (f.length / 2) - 1) = 2 - cntV t + cntE f - cntF t f := by
  obtain ⟨-, -, -, h4, -⟩ := full_facts (f.length / 2) (by omega) 0 (by omega) (Nat.two_pow_pos _)
  have h1 : ptsN t f (2 ^ (f.length / 2) - 1) = 1 := by
    rw [ptsN, all_edges hm h6]
    exact one_part hm.turn hm.flip hm.len hm.turn.1 fun y hy => hm.lead0 hy
  have h2 : sidN t f (2 ^ (f.length / 2) - 1) = cntF t f := by rw [sidN, sidL, all_edges hm h6]; rfl
  unfold gen2 cntE
  rw [h1, h2, h4]
  omega
theorem gen_between (hm : IsMap t f) (h6 : f.length / 2 ≤ 6) {s : Nat} (hs : s < 2 ^ (f.length / 2)) (hs64 : s < 64) : 0 ≤ gen2 t f s ∧ gen2 t f s ≤ 2 - cntV t + cntE f - cntF t f ∧ 0 ≤ nulN t f s ∧ gen2 t f s % 2 = 0 ∧ gen2 t f (2 ^ (f.length / 2) - 1) % 2 = 0 := by
  obtain ⟨f1, f2, f3, f4, -⟩ := full_facts (f.length / 2) (by omega) s hs64 hs
  have h1 := from_none hm h6 hs hs64 _ (Nat.le_refl _)
  rw [f2] at h1
  have h2 := (to_all hm h6 hs hs64 _ (Nat.le_refl _)).1
  rw [f1] at h2
  have h3 := gen_all hm h6
  have p1 := sidN_par hm h6 hs
  have p2 := sidN_par hm h6 (s := 2 ^ (f.length / 2) - 1) (by have := Nat.two_pow_pos (f.length / 2); omega)
  refine ⟨h1.1, by omega, h1.2, ?_, ?_⟩
  · unfold gen2; omega
  · unfold gen2; omega
/-- The mirror's sides and parts are as many. -/
theorem sid_mirror (hm : IsMap t f) (s : Nat) : sidN (backL t) f s = sidN t f s := by
  have hq := flipS_vld hm.flip hm.paired s
  have hlq : (flipS f s).length = t.length := by rw [flipS_len, hm.len]
  have hbq : backL (flipS f s) = flipS f s := by
    refine (hq.backL_eq rfl fun i hi => ?_).symm
    rw [flipS_len] at hi
    rw [hq.gi_gn (hq.gn_lt (by rw [flipS_len]; exact hi))]
    have hfi := hm.flip.gn_lt hi
    cases hc : chB f s i with
    | true => rw [gn_flipS hi, if_pos hc, gn_flipS hfi, if_pos (by rw [chB_flip hm.paired s hi]; exact hc), (hm.paired i hi).2]
    | false => rw [gn_flipS hi, if_neg (by rw [hc]; decide), gn_flipS hi, if_neg (by rw [hc]; decide)]
  have h1 : Vld (mulL (flipS f s) (backL t)) := hq.mulL (backL_vld hm.turn) (by rw [backL_len]; omega)
  have h2 : Vld (mulL (flipS f s) t) := hq.mulL hm.turn hlq
  show (cyclesL (mulL (flipS f s) (backL t))).length = (cyclesL (mulL (flipS f s) t)).length
  refine cycles_of_type h1 h2 ?_
  rw [back_type h1, ← back_mul hq (backL_vld hm.turn) (by rw [backL_len]; omega), back_back hm.turn, hbq]
  rw [conj_type h2 hq (mulL_len _ _)]
  congr 1
  refine conjL_eq hq ((mulL_len _ _).trans hlq.symm) fun i hi => ?_
  have hqi := hq.gn_lt hi
  rw [gi_mulL (by rw [← hlq]; exact hqi), gn_mulL hi]
theorem lead_mirror (hm : IsMap t f) (s : Nat) {x y : Nat} (h : Lead t (flipS f s) x y) (hx : x < t.length) : Lead (backL t) (flipS f s) y x ∧ y < t.length := by
  have hq := flipS_vld hm.flip hm.paired s
  induction h with
  | refl => exact ⟨.refl _, hx⟩
  | @one y h ih =>
    obtain ⟨h1, h2⟩ := ih
    have e : gn (backL t) (gn t y) = y := hm.turn.gn_backL h2
    have h3 : Lead (backL t) (flipS f s) (gn t y) y := by
      have := Lead.one (Lead.refl (p := backL t) (q := flipS f s) (gn t y)); rwa [e] at this
    exact ⟨h3.trans h1, hm.turn.gn_lt h2⟩
  | @two y h ih =>
    obtain ⟨h1, h2⟩ := ih
    have hy : y < f.length := by rw [← hm.len]; exact h2
    have e : gn (flipS f s) (gn (flipS f s) y) = y := by
      have hfi := hm.flip.gn_lt hy
      cases hc : chB f s y with
      | true => rw [gn_flipS hy, if_pos hc, gn_flipS hfi, if_pos (by rw [chB_flip hm.paired s hy]; exact hc), (hm.paired y hy).2]
      | false => rw [gn_flipS hy, if_neg (by rw [hc]; decide), gn_flipS hy, if_neg (by rw [hc]; decide)]
    have h3 : Lead (backL t) (flipS f s) (gn (flipS f s) y) y := by
      have := Lead.two (Lead.refl (p := backL t) (q := flipS f s) (gn (flipS f s) y)); rwa [e] at this
    have h4 := hq.gn_lt (j := y) (by rw [flipS_len]; exact hy)
    rw [flipS_len, ← hm.len] at h4
    exact ⟨h3.trans h1, h4⟩
theorem pts_mirror (hm : IsMap t f) (s : Nat) : ptsN (backL t) f s = ptsN t f s := by
  have hb := hm.mirror
  have hl : (backL t).length = t.length := backL_len t
  rw [pts_cls hb, pts_cls hm, hl]
  refine Nat.le_antisymm (cls_mono fun x y hx hy h => ?_) (cls_mono fun x y hx hy h => ?_)
  · exact (lead_mirror hm s ((lead_eqv hm s).symm x y hx hy h) hy).1
  · have h1 := (lead_mirror hb s ((lead_eqv hb s).symm x y (by omega) (by omega) h) (by omega)).1
    rw [back_back hm.turn] at h1
    exact h1
end

/-- Two points of one cycle, exchanged: there is a cycle more. -/
theorem cls_split {n : Nat} {p : Nat → Nat} {a b : Nat} (h : Prm n p) (ha : a < n) (hb : b < n) (hab : a ≠ b) (hr : Rch p a b) : cls n (Rch p) + 1 ≤ cls n (Rch fun x => p (sw a b x)) := by
  obtain ⟨k0, hk0⟩ := hr
  have hex : ∃ k, itf p k a = b ∧ ∀ j, j < k → itf p j a ≠ b := by
    have h1 := leastOf_spec (p := fun k => itf p k a = b) ⟨k0, hk0⟩
    exact ⟨_, h1.1, fun j hj e => by have := h1.2 j e; omega⟩
  obtain ⟨k, hk, hlt⟩ := hex
  have hkpos : 0 < k := by
    rcases Nat.eq_zero_or_pos k with e | e
    · subst e; exact absurd hk hab
    · exact e
  have hna : ∀ j, 0 < j → j < k → itf p j a ≠ a := by
    intro j hj1 hj2 e
    have h2 : itf p (k - j + j) a = itf p (k - j) (itf p j a) := itf_add p (k - j) j a
    rw [e, show k - j + j = k by omega, hk] at h2
    exact hlt (k - j) (by omega) h2.symm
  have Q := h.sw ha hb
  have hq : ∀ j, 0 < j → j ≤ k → itf (fun x => p (sw a b x)) j b = itf p j a := by
    intro j hj
    induction j with
    | zero => omega
    | succ j ih =>
      intro hj2
      rw [itf, itf]
      rcases Nat.eq_zero_or_pos j with e | e
      · subst e
        show p (sw a b b) = p a
        unfold sw
        by_cases e2 : b = a
        · rw [if_pos e2, e2]
        · rw [if_neg e2, if_pos rfl]
      · rw [ih e (by omega)]
        show p (sw a b (itf p j a)) = p (itf p j a)
        unfold sw
        rw [if_neg (hna j e (by omega)), if_neg (hlt j (by omega))]
  have hback : itf (fun x => p (sw a b x)) k b = b := by rw [hq k hkpos (Nat.le_refl _), hk]
  have hmul : ∀ m, itf (fun x => p (sw a b x)) (k * m) b = b := by
    intro m
    induction m with
    | zero => rfl
    | succ m ih => rw [Nat.mul_succ, itf_add, hback, ih]
  have hno : ¬ Rch (fun x => p (sw a b x)) b a := by
    rintro ⟨m, hm⟩
    have e : itf (fun x => p (sw a b x)) m b = itf (fun x => p (sw a b x)) (m % k) b := by
      have h3 : m = m % k + k * (m / k) := (Nat.mod_add_div m k).symm
      rw [h3, itf_add, hmul]
      rw [← h3]
    rw [hm] at e
    have hmk := Nat.mod_lt m hkpos
    rcases Nat.eq_zero_or_pos (m % k) with e0 | e0
    · rw [e0] at e; exact hab e
    · rw [hq _ e0 (by omega)] at e
      exact hna _ e0 hmk e.symm
  have hno' : ¬ Rch (fun x => p (sw a b x)) a b := fun hr => hno (hr.symm_ Q ha)
  have h4 := cls_sw_lt Q ha hb hno'
  have e5 : (fun x => p (sw a b (sw a b x))) = p := by
    funext x; rw [sw_sw]
  rw [e5] at h4
  exact h4

section
variable {t f : List Int}
theorem vert_rch {t : List Int} (ht : Vld t) {d z : Nat} (hd : d < t.length) (hz : z < t.length) : vertN t d = vertN t z ↔ Rch (gn t) d z := by
  constructor
  · intro h
    obtain ⟨h1, h2, h3⟩ := cyclesL_spec ht
    have get : ∀ x, x < t.length → vertN t x < (cyclesL t).length ∧ inC ((cyclesL t).getD (vertN t x) []) x := by
      intro x hx
      obtain ⟨c, hc, hcx⟩ := h2 x hx
      obtain ⟨j, hj, rfl⟩ := List.getElem_of_mem hc
      exact (leastOf_spec (p := fun j => j < (cyclesL t).length ∧ inC ((cyclesL t).getD j []) x) ⟨j, hj, by simpa [List.getD, hj] using hcx⟩).1
    obtain ⟨g1, g2⟩ := get d hd
    obtain ⟨-, g4⟩ := get z hz
    rw [← h] at g4
    have hmem : (cyclesL t).getD (vertN t d) [] ∈ cyclesL t := by
      rw [List.getD, List.getElem?_eq_getElem g1]; exact List.getElem_mem _
    have hcy := h1 _ hmem
    obtain ⟨i, hi, ei⟩ := g2
    obtain ⟨j, hj, ej⟩ := g4
    obtain ⟨k, hk⟩ := hcy.reach hi hj
    rw [ei, ej] at hk
    exact ⟨k, by rw [itf_gn]; exact hk⟩
  · rintro ⟨k, hk⟩
    rw [itf_gn] at hk
    have := vert_it ht (d := d) (m := k) hd
    rw [hk] at this
    exact this.symm
theorem but_full : ∀ h : Nat, h < 7 → ∀ e : Nat, e < h → (butE h e).testBit e = false ∧ butE h e ||| 2 ^ e = 2 ^ h - 1 := by decide +kernel
/-- All edges but one, and that one: parts and sides. -/
theorem but_sides (hm : IsMap t f) (h6 : f.length / 2 ≤ 6) {e : Nat} (he : e < f.length / 2) :
    (Rch (gn (mulL f t)) (dE f e) (gn f (dE f e)) → sidN t f (butE (f.length / 2) e) = cntF t f + 1) ∧ (¬ Rch (gn (mulL f t)) (dE f e) (gn f (dE f e)) → cntF t f = sidN t f (butE (f.length / 2) e) + 1) ∧
    (ptsN t f (butE (f.length / 2) e) = 2 → cntF t f + 1 = sidN t f (butE (f.length / 2) e)) ∧ (Rch (gn t) (dE f e) (gn f (dE f e)) → ptsN t f (butE (f.length / 2) e) = 1) := by
  have hl := hm.len
  obtain ⟨d1, d2, d3, -⟩ := dE_of hm.flip hm.paired he
  have hde : edgN f (dE f e) = e := by rw [edgN_less d2]; exact d3
  obtain ⟨b1, b2, -⟩ := but_in (f.length / 2) (by omega) e he
  obtain ⟨u1, u2⟩ := but_full (f.length / 2) (by omega) e he
  obtain ⟨o1, o2, o3, o4⟩ := one_edge hm h6 b1 b2 he u1
  have hdt : dE f e < t.length := by rw [hl]; exact d1
  have hft : gn f (dE f e) < t.length := by rw [hl]; exact hm.flip.gn_lt d1
  have hne : dE f e ≠ gn f (dE f e) := by omega
  have hS : sidL t f (2 ^ (f.length / 2) - 1) = mulL f t := by rw [sidL, all_edges hm h6]
  have hsF : sidN t f (2 ^ (f.length / 2) - 1) = cntF t f := by rw [sidN, hS]; rfl
  have hpF : ptsN t f (2 ^ (f.length / 2) - 1) = 1 := by
    rw [ptsN, all_edges hm h6]
    exact one_part hm.turn hm.flip hm.len hm.turn.1 fun y hy => hm.lead0 hy
  rw [u2, hsF] at o1 o2
  rw [hpF] at o2
  have P := sid_prm hm (2 ^ (f.length / 2) - 1)
  have PW := P.sw hdt hft
  have eS : sidN t f (butE (f.length / 2) e) = cls t.length (Rch fun x => gn (sidL t f (2 ^ (f.length / 2) - 1)) (sw (dE f e) (gn f (dE f e)) x)) := by
    rw [sid_cls hm]
    refine cls_rch_congr (sid_prm hm _) PW fun x hx => ?_
    have h1 := sid_more hm h6 b2 (by omega) u1 d1 hde (x := sw (dE f e) (gn f (dE f e)) x) (sw_lt d1 (hm.flip.gn_lt d1) (by omega))
    rw [sw_sw, u2] at h1
    exact h1.symm
  have hb := but_parts hm he
  refine ⟨fun h => ?_, fun h => ?_, fun h => ?_, fun h => ?_⟩
  · rw [← hS] at h
    have := cls_split P hdt hft hne h
    rw [← eS, ← sid_cls hm, hsF] at this
    omega
  · rw [← hS] at h
    have := cls_sw_lt P hdt hft h
    rw [← eS, ← sid_cls hm, hsF] at this
    omega
  · omega
  · have hL : Lead t (flipS f (butE (f.length / 2) e)) (dE f e) (gn f (dE f e)) := by
      obtain ⟨k, hk⟩ := h
      have := Lead.along1 t (flipS f (butE (f.length / 2) e)) (dE f e) k
      rw [← itf_gn, hk] at this
      exact this
    rcases hb with hb | hb
    · exact hb
    · exfalso
      have q3 : ptsN t f (2 ^ (f.length / 2) - 1) = ptsN t f (butE (f.length / 2) e) := by
        refine Nat.le_antisymm (by omega) ?_
        rw [← u2, pts_cls hm, pts_cls hm]
        refine cls_mono fun x y hx hy h => ?_
        rcases (lead_more hm h6 b2 (by omega) u1 d1 hde hx).1 h with h | ⟨h1, h2⟩ | ⟨h1, h2⟩
        · exact h
        · exact (h1.trans hL).trans h2
        · exact (h1.trans ((lead_eqv hm _).symm _ _ hdt hft hL)).trans h2
      omega
/-- On the sphere a bridge is a loop of the dual, and a loop a bridge. -/
theorem kind_facts (hm : IsMap t f) (h6 : f.length / 2 ≤ 6) {e : Nat} (he : e < f.length / 2) :
    kindE (backL t) f e = kindE t f e ∧ (kindE t f e = 1 ↔ ptsN t f (butE (f.length / 2) e) = 2) ∧
    (genusOf t f = 0 → (kindE t f e = 1 ↔ kindE (mulL f t) f e = 2) ∧ (kindE t f e = 2 ↔ kindE (mulL f t) f e = 1)) ∧ 0 ≤ kindE t f e ∧ kindE t f e ≤ 2 ∧ 0 ≤ kindE (mulL f t) f e ∧ kindE (mulL f t) f e ≤ 2 := by
  obtain ⟨d1, d2, d3, -⟩ := dE_of hm.flip hm.paired he
  have hl := hm.len
  have hdt : dE f e < t.length := by rw [hl]; exact d1
  have hft : gn f (dE f e) < t.length := by rw [hl]; exact hm.flip.gn_lt d1
  obtain ⟨b1, b2, -⟩ := but_in (f.length / 2) (by omega) e he
  have hD := hm.dual
  have hlD : (mulL f t).length = t.length := by rw [mulL_len, hl]
  have vT := vert_rch hm.turn hdt hft
  have vD := vert_rch hD.turn (d := dE f e) (z := gn f (dE f e)) (by omega) (by omega)
  have hB := but_parts hm he
  have hBD := but_parts hD he
  obtain ⟨s1, s2, s3, s4⟩ := but_sides hm h6 he
  obtain ⟨t1, t2, t3, t4⟩ := but_sides hD h6 he
  rw [dual_dual hm] at t1 t2
  have key : ∀ (t : List Int), (ptsN t f (butE (f.length / 2) e) = 1 ∨ ptsN t f (butE (f.length / 2) e) = 2) → (vertN t (dE f e) = vertN t (gn f (dE f e)) → ptsN t f (butE (f.length / 2) e) = 1) →
      (kindE t f e = 2 ↔ vertN t (dE f e) = vertN t (gn f (dE f e))) ∧ (kindE t f e = 1 ↔ ptsN t f (butE (f.length / 2) e) = 2) ∧ 0 ≤ kindE t f e ∧ kindE t f e ≤ 2 := by
    intro t h1 h2
    unfold kindE
    split
    · rename_i h
      have := h2 h
      refine ⟨⟨fun _ => h, fun _ => rfl⟩, ⟨fun h => by omega, fun h => by omega⟩, by omega, by omega⟩
    · rename_i h
      refine ⟨⟨fun h' => by omega, fun h' => absurd h' h⟩, ⟨fun h => by omega, fun h => by omega⟩, by omega, by omega⟩
  obtain ⟨k1, k2, k3, k4⟩ := key t hB fun h => s4 (vT.1 h)
  obtain ⟨j1, j2, j3, j4⟩ := key (mulL f t) hBD fun h => t4 (vD.1 h)
  refine ⟨?_, k2, fun hg => ?_, k3, k4, j3, j4⟩
  · have hM := hm.mirror
    have hlM : (backL t).length = t.length := backL_len t
    have vM := vert_rch hM.turn (d := dE f e) (z := gn f (dE f e)) (by omega) (by omega)
    have hiff : vertN (backL t) (dE f e) = vertN (backL t) (gn f (dE f e)) ↔ vertN t (dE f e) = vertN t (gn f (dE f e)) := by
      rw [vM, vT]
      constructor
      · rintro ⟨k, hk⟩
        rw [itf_gn] at hk
        obtain ⟨q, hq⟩ := back_reach hM.turn (by omega) ⟨k, hk⟩
        rw [back_back hm.turn] at hq
        exact (Rch.eqv hm.turn.prm).symm _ _ hft hdt ⟨q, by rw [itf_gn]; exact hq⟩
      · rintro ⟨k, hk⟩
        rw [itf_gn] at hk
        obtain ⟨q, hq⟩ := back_reach hm.turn hdt ⟨k, hk⟩
        exact (Rch.eqv hM.turn.prm).symm _ _ (by omega) (by omega) ⟨q, by rw [itf_gn]; exact hq⟩
    unfold kindE
    rw [pts_mirror hm]
    by_cases h : vertN t (dE f e) = vertN t (gn f (dE f e))
    · rw [if_pos h, if_pos (hiff.2 h)]
    · rw [if_neg h, if_neg fun h' => h (hiff.1 h')]
  · have gb := gen_between hm h6 b1 b2
    have gD := gen_between hD h6 b1 b2
    have p1 := gb.2.2.2.2
    have ga := gen_all hm h6
    rw [ga] at p1
    have hz : (2 : Int) - cntV t + cntE f - cntF t f = 0 := by
      unfold genusOf at hg
      rw [Int.tdiv_eq_ediv_of_dvd (by omega)] at hg
      omega
    have hcD : cntF (mulL f t) f = cntV t := by unfold cntF cntV; rw [dual_dual hm]
    have hvD : cntV (mulL f t) = cntF t f := rfl
    have hbl : (bL (butE (f.length / 2) e)).length + 1 = f.length / 2 := by
      have h1 := (bit_facts _ b2 e (by omega) (but_full (f.length / 2) (by omega) e he).1).1
      rw [(but_full (f.length / 2) (by omega) e he).2] at h1
      have h2 := (full_facts (f.length / 2) (by omega) 0 (by omega) (Nat.two_pow_pos _)).2.2.2.1
      omega
    have g1 := gb.2.1
    have g0 := gb.1
    have h1 := gD.2.1
    have h0 := gD.1
    unfold gen2 at g1 g0 h1 h0
    unfold cntE at hz g1 h1
    rw [hvD, hcD] at h1
    rw [hvD] at h0
    refine ⟨?_, ?_⟩
    · rw [k2, j1, vD]
      constructor
      · intro h
        apply Classical.byContradiction
        intro hn
        have := s2 hn
        have := s3 h
        omega
      · intro h
        have := s1 h
        omega
    · rw [j2, k1, vT]
      constructor
      · intro h
        have := t1 h
        rw [hcD] at this
        omega
      · intro h
        apply Classical.byContradiction
        intro hn
        have := t2 hn
        have := t3 h
        rw [hcD] at *
        omega
end

section
variable {t f : List Int}
/-- The first bits of a choice, as a list. -/
def pickL (s i : Nat) : List Int := ((List.range i).filter fun e => s.testBit e).map fun (e : Nat) => (e : Int)
theorem pickL_zero (s : Nat) : pickL s 0 = [] := rfl
theorem pickL_yes {s i : Nat} (h : s.testBit i = true) : pickL s (i + 1) = pickL s i ++ [(i : Int)] := by
  unfold pickL
  rw [List.range_succ, List.filter_append, List.map_append]
  simp [List.filter, h]
theorem pickL_no {s i : Nat} (h : s.testBit i = false) : pickL s (i + 1) = pickL s i := by
  unfold pickL
  rw [List.range_succ, List.filter_append, List.map_append]
  simp [List.filter, h]
theorem pickL_len (s i : Nat) : (pickL s i).length ≤ i := by
  unfold pickL
  rw [List.length_map]
  have := List.length_filter_le (fun e => s.testBit e) (List.range i)
  rwa [List.length_range] at this
theorem pick_all : ∀ E : Nat, E < 7 → ∀ s : Nat, s < 64 → s < 2 ^ E → pickL s E = bL s := by decide +kernel
/-- What FnChoiceCounts asks of a choice. -/
theorem counts_facts (hm : IsMap t f) (h6 : f.length / 2 ≤ 6) {s : Nat} (hs : s < 2 ^ (f.length / 2)) (hs64 : s < 64) : ∃ a2 a3 own : Int, ∃ P S : Nat,
    subL t f s = [(P : Int), (S : Int), a2, a3, own] ∧ P = ptsN t f s ∧ S = sidN t f s ∧ a2 + a3 = ((bL s).length : Int) ∧ 2 * (P : Int) - cntV t + (bL s).length - S = 2 * own ∧ 0 ≤ own ∧ own ≤ genusOf t f ∧ 0 ≤ a3 ∧ P ≤ 12 ∧ S ≤ 12 ∧ cntV t ≤ 12 ∧ (bL s).length ≤ 6 ∧ own ≤ 30 ∧ -20 ≤ a2 ∧ a2 ≤ 20 := by
  obtain ⟨g1, g2, g3, g4, g5⟩ := gen_between hm h6 hs hs64
  have hP : ptsN t f s ≤ 12 := by
    rw [pts_cls hm]
    have h1 := cls_mono (n := t.length) (R := fun x y => x = y) (R' := Lead t (flipS f s)) (fun x y _ _ e => by rw [e]; exact .refl _)
    have h2 : cls t.length (fun x y => x = y) ≤ t.length := by
      unfold cls
      exact Nat.le_trans (sm_le t.length (fun _ _ => ch_le _)) (by rw [sm_const]; omega)
    have := hm.turn.2.1
    omega
  have hS : sidN t f s ≤ 12 := by
    have := cyclesL_len (p := sidL t f s)
    rw [sidL_len] at this
    have := hm.flip.2.1
    unfold sidN; omega
  have hV : cntV t ≤ 12 := by have := cyclesL_len (p := t); have := hm.turn.2.1; unfold cntV; omega
  have hb : (bL s).length ≤ 6 := by
    unfold bL
    rw [List.length_map]
    have := List.length_filter_le (fun e => s.testBit e) (List.range 6)
    rwa [List.length_range] at this
  have ga := gen_all hm h6
  rw [ga] at g5
  have hown : (2 * (ptsN t f s : Int) - cntV t + (bL s).length - sidN t f s).tdiv 2 = gen2 t f s / 2 := by
    rw [Int.tdiv_eq_ediv_of_dvd (by unfold gen2 at g4; omega)]; rfl
  have hgen : genusOf t f = (2 - cntV t + cntE f - cntF t f) / 2 := by
    unfold genusOf
    rw [Int.tdiv_eq_ediv_of_dvd (by omega)]
  refine ⟨(cntV t : Int) - ptsN t f s, ((bL s).length : Int) - ((cntV t : Int) - ptsN t f s), gen2 t f s / 2, ptsN t f s, sidN t f s, ?_, rfl, rfl, by omega, ?_, by omega, by omega, ?_, hP, hS, hV, hb, ?_, by omega, by omega⟩
  · rw [subL, subI, hown]
  · unfold gen2 at g4 ⊢; omega
  · unfold nulN at g3; omega
  · unfold gen2; omega
end

end Go.Proofs.Ytcenffndclpjoaa

namespace Go.Proofs.Ytcenffndclpjoaa

theorem cntG_sm (S : List Int → Bool) (t f : List Int) : ∀ k, cntG S t f k = sm k fun s => ch (S (subL t f s) = true)
  | 0 => rfl
  | k + 1 => by
    rw [cntG, sm, cntG_sm S t f k]
    by_cases h : S (subL t f k) = true
    · rw [if_pos h, ch_true h]
    · rw [if_neg h, ch_false h]
section
variable {t f : List Int}
theorem quasi_iff (hm : IsMap t f) (s : Nat) : quasiS (subL t f s) = true ↔ sidN t f s = 1 := by
  have e : quasiS (subL t f s) = (((ptsN t f s : Int) == 1) && ((sidN t f s : Int) == 1)) := rfl
  rw [e, Bool.and_eq_true, beq_iff_eq, beq_iff_eq]
  constructor
  · rintro ⟨-, h⟩; omega
  · intro h
    have := one_side hm h
    omega
theorem tree_iff (t f : List Int) (s : Nat) : treeS (subL t f s) = true ↔ ptsN t f s = 1 ∧ ((bL s).length : Int) = cntV t - 1 := by
  have e : treeS (subL t f s) = (((ptsN t f s : Int) == 1) && (((bL s).length : Int) - ((cntV t : Int) - ptsN t f s) == 0)) := rfl
  rw [e, Bool.and_eq_true, beq_iff_eq, beq_iff_eq]
  constructor
  · rintro ⟨h1, h2⟩; exact ⟨by omega, by omega⟩
  · rintro ⟨h1, h2⟩; exact ⟨by omega, by omega⟩
theorem tree_quasi (hm : IsMap t f) (h6 : f.length / 2 ≤ 6) {s : Nat} (hs : s < 2 ^ (f.length / 2)) (hs64 : s < 64) (h : treeS (subL t f s) = true) : sidN t f s = 1 ∧ gen2 t f s = 0 := by
  obtain ⟨h1, h2⟩ := (tree_iff t f s).1 h
  obtain ⟨g1, -, -, g4, -⟩ := gen_between hm h6 hs hs64
  unfold gen2 at g1 g4 ⊢
  rw [h1] at g1 g4 ⊢
  omega
theorem quasi_tree (hm : IsMap t f) (h6 : f.length / 2 ≤ 6) (hg : ¬ 0 < genusOf t f) {s : Nat} (hs : s < 2 ^ (f.length / 2)) (hs64 : s < 64) (h : sidN t f s = 1) : treeS (subL t f s) = true := by
  obtain ⟨g1, g2, -, -, g5⟩ := gen_between hm h6 hs hs64
  have h1 := one_side hm h
  rw [gen_all hm h6] at g5
  refine (tree_iff t f s).2 ⟨h1, ?_⟩
  unfold genusOf at hg
  rw [Int.tdiv_eq_ediv_of_dvd (by omega)] at hg
  unfold gen2 at g1 g2
  rw [h1, h] at g1 g2
  omega
theorem quasis_facts (hm : IsMap t f) : ∃ Q T : Nat, ribQ t f = Q ∧ ribT t f = T ∧ ribQ (mulL f t) f = Q ∧ ribQ (backL t) f = Q ∧ T ≤ Q ∧ (¬ 0 < genusOf t f → Q = T) ∧ Q ≤ 64 := by
  have h6 : f.length / 2 ≤ 6 := by have := hm.flip.2.1; omega
  have h64 : ∀ s, s < 2 ^ (f.length / 2) → s < 64 := fun s hs => lt_of_pow hs h6
  have hD := hm.dual
  have hM := hm.mirror
  have q0 : cntG quasiS t f (2 ^ (f.length / 2)) = sm (2 ^ (f.length / 2)) fun s => ch (sidN t f s = 1) := by
    rw [cntG_sm]; exact sm_congr _ fun s _ => ch_congr (quasi_iff hm s)
  refine ⟨cntG quasiS t f (2 ^ (f.length / 2)), cntG treeS t f (2 ^ (f.length / 2)), by rw [ribQ, ribR, if_pos (mapV_iff.2 hm)], by rw [ribT, ribR, if_pos (mapV_iff.2 hm)], ?_, ?_, ?_, fun hg => ?_, ?_⟩
  · rw [ribQ, ribR, if_pos (mapV_iff.2 hD), q0, cntG_sm]
    congr 1
    have hP : Prm (2 ^ (f.length / 2)) fun i => 2 ^ (f.length / 2) - 1 - i := ⟨fun i hi => by omega, fun i j hi hj e => by omega⟩
    rw [← sm_prm _ _ _ hP]
    refine sm_congr _ fun s hs => ch_congr ?_
    rw [quasi_iff hD, sidN_dual hm hs (h64 s hs)]
  · rw [ribQ, ribR, if_pos (mapV_iff.2 hM), q0, cntG_sm]
    congr 1
    refine sm_congr _ fun s hs => ch_congr ?_
    rw [quasi_iff hM, sid_mirror hm]
  · rw [q0, cntG_sm]
    exact sm_le _ fun s hs => ch_imp fun h => (tree_quasi hm h6 hs (h64 s hs) h).1
  · rw [q0, cntG_sm]
    exact sm_congr _ fun s hs => ch_congr ⟨fun h => quasi_tree hm h6 hg hs (h64 s hs) h, fun h => (tree_quasi hm h6 hs (h64 s hs) h).1⟩
  · have h1 := cntG_le quasiS t f (2 ^ (f.length / 2))
    have h2 : 2 ^ (f.length / 2) ≤ 2 ^ 6 := Nat.pow_le_pow_right (by omega) h6
    omega
end

theorem less_f1 : ∀ s : Nat, s < 64 → ∀ i : Nat, i < 6 → i < (bL s).length → (bL s).take i ++ (bL s).drop (i + 1) = bL (s ^^^ 2 ^ ((bL s).getD i 0).toNat) := by decide +kernel
theorem less_f2 : ∀ s : Nat, s < 64 → ∀ i : Nat, i < 6 → i < (bL s).length → (s ^^^ 2 ^ ((bL s).getD i 0).toNat).testBit ((bL s).getD i 0).toNat = false ∧ (s ^^^ 2 ^ ((bL s).getD i 0).toNat) ||| 2 ^ ((bL s).getD i 0).toNat = s := by decide +kernel
theorem less_f3 : ∀ s : Nat, s < 64 → ∀ i : Nat, i < 6 → i < (bL s).length → (s ^^^ 2 ^ ((bL s).getD i 0).toNat) ≤ s ∧ 2 ^ ((bL s).getD i 0).toNat ≤ s := by decide +kernel
section
variable {t f : List Int}
/-- What FnChoiceTree asks of a spanning tree. -/
theorem tree_facts {xs : List Int} (h : chV t f xs = true) (ht : treeS (subL t f (sOf xs)) = true) : ∃ a2 a3 : Int, IsMap t f ∧ ccR t f xs = (true, [1, 1, a2, a3, 0]) ∧ (xs.length : Int) = cntV t - 1 ∧ quasiCB t f xs = true ∧ xs.length ≤ 6 ∧ cntV t ≤ 12 ∧
    ∀ i, i < xs.length → ∃ b1 b2 b3 b4 : Int, ccR t f (xs.take i ++ xs.drop (i + 1)) = (true, [2, b1, b2, b3, b4]) := by
  obtain ⟨hm, h6, s, h1, rfl, h64, e⟩ := chV_bits h
  rw [e] at ht
  obtain ⟨t1, t2⟩ := (tree_iff t f s).1 ht
  obtain ⟨q1, q2⟩ := tree_quasi hm h6 h1 h64 ht
  have hb : (bL s).length ≤ 6 := by
    unfold bL
    rw [List.length_map]
    have := List.length_filter_le (fun e => s.testBit e) (List.range 6)
    rwa [List.length_range] at this
  have hV : cntV t ≤ 12 := by have := cyclesL_len (p := t); have := hm.turn.2.1; unfold cntV; omega
  refine ⟨(cntV t : Int) - ((1 : Nat) : Int), ((bL s).length : Int) - ((cntV t : Int) - ((1 : Nat) : Int)), hm, ?_, t2, ?_, hb, hV, fun i hi => ?_⟩
  · unfold gen2 at q2
    rw [ccR, if_pos h, e, subL, t1, q1, subI]
    rw [t1, q1] at q2
    rw [show (2 * ((1 : Nat) : Int) - cntV t + (bL s).length - ((1 : Nat) : Int)) = 0 from by omega]
    rfl
  · rw [quasiCB, h, e, (quasi_iff hm s).2 q1]; rfl
  · have l1 := less_f1 s h64 i (by omega) hi
    obtain ⟨l2, l3⟩ := less_f2 s h64 i (by omega) hi
    obtain ⟨l4, l5⟩ := less_f3 s h64 i (by omega) hi
    have he : ((bL s).getD i 0).toNat < f.length / 2 := (Nat.pow_lt_pow_iff_right (a := 2) (by omega)).1 (by omega)
    obtain ⟨o1, o2, o3, o4⟩ := one_edge hm h6 (s := s ^^^ 2 ^ ((bL s).getD i 0).toNat) (by omega) (by omega) he l2
    obtain ⟨g1, g2, g3, g4, g5⟩ := gen_between hm h6 (s := s ^^^ 2 ^ ((bL s).getD i 0).toNat) (by omega) (by omega)
    rw [l3] at o1 o2 o3
    unfold nulN at g3
    have hp : ptsN t f (s ^^^ 2 ^ ((bL s).getD i 0).toNat) = 2 := by omega
    obtain ⟨c1, c2, -⟩ := chV_of hm (s := s ^^^ 2 ^ ((bL s).getD i 0).toNat) (by omega)
    rw [l1, ccR, if_pos c1, c2, subL, hp, subI]
    exact ⟨_, _, _, _, rfl⟩
end

theorem has_bits : ∀ s : Nat, s < 64 → ∀ i : Nat, i < 6 → ((bL s).any fun x => x == (i : Int)) = s.testBit i := by decide +kernel
section
variable {t f : List Int}
/-- What FnChoiceCounts asks of a choice with one edge more. -/
theorem more_facts (hm : IsMap t f) {s e : Nat} (hs : s < 2 ^ (f.length / 2)) (hs64 : s < 64) (he : e < f.length / 2) (hb : s.testBit e = false) :
    ∃ b2 b3 b4 : Int, ∃ P S : Nat, ccR t f (pickL (s ||| 2 ^ e) (f.length / 2)) = (true, [(P : Int), (S : Int), b2, b3, b4]) ∧ (S = sidN t f s + 1 ∧ P = ptsN t f s ∨ sidN t f s = S + 1 ∧ P = ptsN t f s ∨ sidN t f s = S + 1 ∧ ptsN t f s = P + 1) ∧
      ∀ i, i < f.length / 2 → (s ||| 2 ^ e).testBit i = (decide (i = e) || s.testBit i) := by
  have h6 : f.length / 2 ≤ 6 := by have := hm.flip.2.1; omega
  obtain ⟨o1, o2, o3, o4⟩ := one_edge hm h6 hs hs64 he hb
  obtain ⟨b1, b2, b3, b4⟩ := bit_facts s hs64 e (by omega) hb
  obtain ⟨c1, c2, -⟩ := chV_of hm o4
  refine ⟨(cntV t : Int) - ptsN t f (s ||| 2 ^ e), ((bL (s ||| 2 ^ e)).length : Int) - ((cntV t : Int) - ptsN t f (s ||| 2 ^ e)), (2 * (ptsN t f (s ||| 2 ^ e) : Int) - cntV t + (bL (s ||| 2 ^ e)).length - sidN t f (s ||| 2 ^ e)).tdiv 2, ptsN t f (s ||| 2 ^ e), sidN t f (s ||| 2 ^ e), ?_, by omega, fun i hi => ?_⟩
  · rw [pick_all _ (by omega) _ b2 o4, ccR, if_pos c1, c2]
    rfl
  · by_cases h : i = e
    · rw [h, b3]; simp
    · rw [b4 i (by omega) h]; simp [h]
end

end Go.Proofs.Ytcenffndclpjoaa

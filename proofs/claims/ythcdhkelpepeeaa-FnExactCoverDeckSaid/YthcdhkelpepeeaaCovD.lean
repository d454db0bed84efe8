/-
  CoverDeck: plain; the program's.
-/
import Derived.Test.YthcdhkelpepeeaaCovT
import Derived.Test.YthcdhkelpepeeaaAdv
import Derived.Test.YthcdhkelpepeeaaConj
import Derived.Deep.RegionHeld3
namespace Go.Proofs.Ythcdhkelpepeeaa
open Go.RowKit
set_option linter.unusedVariables false

def comB (vss : List (List Int)) (p : List Int) : Bool := decide (∀ e, e < vss.length → mulL p (vss.getD e []) = mulL (vss.getD e []) p)
/-- The permutations of k points, one after the other. -/
def chn (k : Nat) : Nat → List Int
  | 0 => marks 0 k
  | i + 1 => nextL (chn k i)
def fctK (k : Nat) : Nat := if k ≤ 1 then 1 else if k = 2 then 2 else if k = 3 then 6 else 24
def dkN (vss : List (List Int)) (k : Nat) : Nat → Nat
  | 0 => 0
  | i + 1 => dkN vss k i + if comB vss (chn k i) = true then 1 else 0
theorem dkN_le (vss : List (List Int)) (k : Nat) : ∀ i, dkN vss k i ≤ i
  | 0 => Nat.le_refl _
  | i + 1 => by have := dkN_le vss k i; rw [dkN]; split <;> omega
noncomputable def dkR (t f : List Int) (k : Int) (vss : List (List Int)) : Int := if vvB t f k vss = true ∧ k ≤ 4 then (dkN vss k.toNat (fctK k.toNat) : Int) else -1
def chnB (k i : Nat) : Bool := vld (chn k i) && decide ((chn k i).length = k) && (if i + 1 < fctK k then decide (atR (chn k i) (k - 1) ≠ 0) else decide (atR (chn k i) (k - 1) = 0)) && (List.range i).all fun j => decide (chn k j ≠ chn k i)
theorem chn_all : ((List.range 5).all fun k => k == 0 || (List.range (fctK k)).all fun i => chnB k i) = true := by decide +kernel
theorem chn_at {k i : Nat} (h1 : 1 ≤ k) (h4 : k ≤ 4) (hi : i < fctK k) : Vld (chn k i) ∧ (chn k i).length = k ∧ (i + 1 < fctK k → atR (chn k i) (k - 1) ≠ 0) ∧ (i + 1 = fctK k → atR (chn k i) (k - 1) = 0) ∧ ∀ j, j < i → chn k j ≠ chn k i := by
  have h := List.all_eq_true.1 chn_all k (List.mem_range.2 (by omega))
  have h0 : (k == 0) = false := by simp; omega
  rw [h0, Bool.false_or] at h
  have h2 := List.all_eq_true.1 h i (List.mem_range.2 hi)
  simp only [chnB, Bool.and_eq_true, decide_eq_true_eq] at h2
  obtain ⟨⟨⟨a, b⟩, c⟩, d⟩ := h2
  refine ⟨Vld_of a, b, fun e => ?_, fun e => ?_, fun j hj => ?_⟩
  · rw [if_pos e] at c; simpa using c
  · rw [if_neg (by omega)] at c; simpa using c
  · simpa using List.all_eq_true.1 d j (List.mem_range.2 hj)
theorem chn_last {k : Nat} (h1 : 1 ≤ k) (h4 : k ≤ 4) : chn k (fctK k) = [] := by
  have hf : 1 ≤ fctK k := by unfold fctK; split <;> (try split) <;> (try split) <;> omega
  obtain ⟨i, hi⟩ : ∃ i, fctK k = i + 1 := ⟨fctK k - 1, by omega⟩
  obtain ⟨-, h2, -, h3, -⟩ := chn_at h1 h4 (i := i) (by omega)
  rw [hi, chn, nextL, h2, if_pos (h3 hi.symm)]
theorem fctK_pos (k : Nat) : 1 ≤ fctK k ∧ fctK k ≤ 24 := by unfold fctK; split <;> (try split) <;> (try split) <;> omega
theorem chn_inj {k i j : Nat} (h1 : 1 ≤ k) (h4 : k ≤ 4) (hi : i ≤ fctK k) (hj : j ≤ fctK k) (e : chn k i = chn k j) : i = j := by
  have ne : ∀ {a : Nat}, a < fctK k → chn k a ≠ [] := fun {a} ha h => by have := (chn_at h1 h4 ha).2.1; rw [h] at this; simp at this; omega
  by_cases a : i < fctK k <;> by_cases b : j < fctK k
  · rcases Nat.lt_trichotomy i j with h | h | h
    · exact absurd e ((chn_at h1 h4 b).2.2.2.2 i h)
    · exact h
    · exact absurd e.symm ((chn_at h1 h4 a).2.2.2.2 j h)
  · have : j = fctK k := by omega
    rw [this, chn_last h1 h4] at e; exact absurd e (ne a)
  · have : i = fctK k := by omega
    rw [this, chn_last h1 h4] at e; exact absurd e.symm (ne b)
  · omega

theorem conj_com {a p : List Int} (ha : Vld a) (hp : Vld p) (hl : a.length = p.length) : conjL a p = a ↔ mulL p a = mulL a p := by
  constructor
  · intro h
    refine eq_of_gi (by rw [mulL_len, mulL_len, hl]) fun i hi => ?_
    rw [mulL_len] at hi
    rw [gi_mulL hi, gi_mulL (by omega), ← conjL_at hp hi, h]
  · intro h
    refine hp.ext (by rw [conjL_len]) hl fun i hi => ?_
    rw [conjL_at hp hi]
    have h1 : gi (mulL p a) i = gi (mulL a p) i := by rw [h]
    rw [gi_mulL hi, gi_mulL (by omega)] at h1
    exact h1.symm
theorem conj_back_com {a p : List Int} (ha : Vld a) (hp : Vld p) (hl : a.length = p.length) (h : conjL a p = a) : conjL (backL a) p = backL a := by
  rw [conj_com (backL_vld ha) hp (by rw [backL_len]; exact hl)]
  have h0 := (conj_com ha hp hl).1 h
  refine eq_of_gi (by rw [mulL_len, mulL_len, backL_len, hl]) fun i hi => ?_
  rw [mulL_len] at hi
  obtain ⟨j, hj, rfl⟩ := ha.surj (v := i) (by omega)
  rw [gi_mulL hi, gi_mulL (by rw [backL_len]; omega), ha.gn_backL hj]
  have h1 : gi (mulL p a) j = gi (mulL a p) j := by rw [h0]
  rw [gi_mulL (by omega), gi_mulL hj] at h1
  have h2 : gn p (gn a j) = gn a (gn p j) := by unfold gn at h1 ⊢; rw [h1]
  rw [h2, ha.gi_backL (by rw [hl]; exact hp.gn_lt (by omega)), hp.gi_gn (by omega)]
theorem com_darts {t f : List Int} {k : Nat} {vss : List (List Int)} (h : Volt t f k vss) {p : List Int} (hp : Vld p) (hl : p.length = k) : comB vss p = true ↔ ∀ d, d < f.length → conjL (dV f vss d) p = dV f vss d := by
  simp only [comB, decide_eq_true_eq]
  constructor
  · intro hc d hd
    obtain ⟨h1, h2⟩ := h.row _ (h.edge hd)
    have h3 := (conj_com h1 hp (by omega)).2 (hc _ (h.edge hd))
    unfold dV
    split
    · exact h3
    · exact conj_back_com h1 hp (by omega) h3
  · intro hc e he
    obtain ⟨x1, x2, x3⟩ := lesD_spec h.map.flip h.map.paired (e := e) (by rw [← h.len]; exact he)
    have h1 := hc _ x1
    rw [dV_less x2, x3] at h1
    obtain ⟨h2, h3⟩ := h.row e he
    exact (conj_com h2 hp (by omega)).1 h1

set_option maxHeartbeats 1600000 in
theorem equalP_any (A A' : Option Addr) (n c c' : Nat) (xs ys : List Int) (w : World) (h : Rd w A n xs) (h' : Rd w A' n ys) (hn : n ≤ 1048576) :
    Calls Try.prog 107 #[.slice A n c, .slice A' n c'] w fun e w' => e = .returned (.bool (eqB xs ys)) ∧ ∃ q, w' = w.drewN q := by
  have hne : ((n : Int) != (n : Int)) = false := by simp
  have H := Lib.hid h; have H' := Lib.hid h'; clear h h'
  go_enter Try.func107, Try.ntmps107
  go_wp2_with fail
  clear hne
  go_loopw [5, 13] (fun _ iv wr => ∃ i q : Nat, i ≤ n ∧ iv = .int .i64 i ∧ wr = w.drewN q ∧ Hid (∀ j, j < i → gi xs j = gi ys j)) (fun _ iv _ => n - (intOf iv).toNat)
  case atStart => exact ⟨0, 0, Nat.zero_le _, rfl, rfl, fun j hj => absurd hj (by omega)⟩
  case round =>
    obtain ⟨i, q, hi, rfl, rfl, hall⟩ := hrel
    generalize hWe : w.drewN q = W
    have HW := Lib.hid hWe.symm; clear hWe
    by_cases hlt : i < n
    · obtain ⟨ad, rfl, hc⟩ := (show Rd W A n xs from HW.out ▸ H.out.drewN q).at_ hlt
      obtain ⟨ad', rfl, hc'⟩ := (show Rd W A' n ys from HW.out ▸ H'.out.drewN q).at_ hlt
      obtain ⟨x, hx⟩ : ∃ x, gi xs i = x := ⟨_, rfl⟩
      obtain ⟨y, hy⟩ : ∃ y, gi ys i = y := ⟨_, rfl⟩
      rw [hx] at hc
      rw [hy] at hc'
      have HX := Lib.hid hx; have HY := Lib.hid hy; clear hx hy
      by_cases he : x = y
      · have hb : (x != y) = false := by simp [he]
        have HE := Lib.hid he; clear he
        go_wp2_with fail
        go_quiet (fail)
        go_wp2_with fail
        go_roundw
        case rel => exact ⟨i + 1, q + _, by omega, by go_num, by rw [HW.out, World.drewN_drewN], fun j hj => by
          by_cases e : j = i
          · rw [e, HX.out, HY.out]; exact HE.out
          · exact hall.out j (by omega)⟩
        case measure => simp [intOf]; omega
      · have hb : (x != y) = true := by simp [he]
        have HF : Hid (eqB xs ys = false) := by
          simp only [Hid, eqB, decide_eq_false_iff_not]
          intro e; apply he; rw [← HX.out, ← HY.out, e]
        clear he
        go_wp2_with fail
        go_quiet (fail)
        go_wp2_with fail
        go_ret
        exact ⟨ret_bool HF.out.symm, q + _, by rw [HW.out, World.drewN_drewN]⟩
    · have HT : Hid (eqB xs ys = true) := by
        simp only [Hid, eqB, decide_eq_true_eq]
        exact eq_of_gi (by rw [H.out.1, H'.out.1]) fun j hj => hall.out j (by rw [H.out.1] at hj; omega)
      go_wp2_with fail
      go_ret
      exact ⟨ret_bool HT.out.symm, q, HW.out⟩

set_option maxRecDepth 20000 in
set_option maxHeartbeats 3200000 in
theorem commutes_any (w : World) (b : Nat) (t f : List Int) (k : Nat) (vss : List (List Int)) (hv : Volt t f k vss) (h : VAt w b t f k vss) (E : Option Addr) (ec : Nat) (p : List Int) (he : Rd w E k p) (hp : Vld p) {r : Bool} (hr : comB vss p = r) :
    Calls Try.prog 86 #[.pointer (some ⟨b, 0, none⟩), .slice E k ec] w fun e w' => e = .returned (.bool r) ∧ Below w.heap.size w w' := by
  obtain ⟨n, hn⟩ : ∃ n, f.length = n := ⟨_, rfl⟩
  obtain ⟨A, c, A', c', lo, g, cg, hvb, hr1, hr2, hal⟩ := (show ∃ (A : Option Addr) (c : Nat) (A' : Option Addr) (c' lo g cg : Nat), VBox w b A n c A' n c' k g cg ∧ Rd w A n t ∧ Rd w A' n f ∧ Alg w lo g n cg (fun j => some (dV f vss j)) by subst hn; exact h)
  have hn12 : n ≤ 12 := by rw [← hn]; exact hv.map.flip.2.1
  have hk6 := hv.six
  have hcd := com_darts hv hp he.1
  have HCD := Lib.hid hcd; have HNN := Lib.hid hn; have HVO := Lib.hid hv; have HVB := Lib.hid hvb; have HAL := Lib.hid hal; have HE := Lib.hid he; have HP := Lib.hid hp; have HR := Lib.hid hr; have HPL := Lib.hid he.1
  have c3 := hvb.cell3
  clear hcd hn hv h hvb hr1 hr2 hal he hp hr
  go_enter Try.func86, Try.ntmps86
  go_wp2_with fail
  clear c3
  go_loopw [6, 12] (fun _ iv wr => ∃ i : Nat, i ≤ n ∧ iv = .int .i64 i ∧ Hid (Below w.heap.size w wr) ∧ Hid (∀ d, d < i → conjL (dV f vss d) p = dV f vss d)) (fun _ iv _ => n - (intOf iv).toNat)
  case atStart => exact ⟨0, Nat.zero_le _, rfl, Below.refl _ _, fun d hd => absurd hd (by omega)⟩
  case round =>
    obtain ⟨i, hi, rfl, hb, hall⟩ := hrel
    by_cases hlt : i < n
    · obtain ⟨ha1, ha2⟩ := HVO.out.dV (d := i) (by rw [HNN.out]; exact hlt)
      obtain ⟨a, ha⟩ : ∃ a, dV f vss i = a := ⟨_, rfl⟩
      rw [ha] at ha1 ha2
      obtain ⟨Ax, cx, hcx, hrx⟩ := (HAL.out.below hb.out).at_ hlt (p := a) (by rw [ha]) ha2
      have hcx' : wr.cell? ((⟨g, 0, none⟩ : Addr).add i) = some (.slice Ax k cx) := by rw [show (⟨g, 0, none⟩ : Addr).add i = ⟨g, i, none⟩ from by unfold Addr.add; split <;> simp_all]; exact hcx
      have HRX := Lib.hid hrx; have HA1 := Lib.hid ha1; have HA2 := Lib.hid ha2; have HAD := Lib.hid ha
      have HLC : Hid ((conjL a p).length = k) := by rw [Hid, conjL_len, HPL.out]
      obtain ⟨q, hq⟩ : ∃ q, eqB (conjL a p) a = q := ⟨_, rfl⟩
      have HQ := Lib.hid hq
      clear hrx ha1 ha2 ha
      cases q with
      | false =>
        have HF : Hid (false = r) := by
          rw [Hid, ← HR.out]
          cases hc : comB vss p with
          | false => rfl
          | true =>
            have := HCD.out.1 hc i (by rw [HNN.out]; exact hlt)
            rw [HAD.out] at this
            rw [this, eqB_refl] at hq
            exact absurd hq (by decide)
        clear hq
        go_wp2_with (first
          | (go_at_call 108; refine (conj_any Ax E k cx ec a p wr HRX.out (HE.out.below hb.out) (by omega) HA1.out HP.out).mono ?_; rintro e w2 ⟨v, rfl, o, bl⟩; obtain ⟨A5, c5, rfl, -, -⟩ := o.form' HLC.out; have HRC := Lib.hid (o.rd HLC.out); have BL := Lib.hid bl; have HB2 : Hid (Below w.heap.size w w2) := hb.out.trans (bl.mono hb.out.size); clear o bl)
          | (go_at_call 107; refine (equalP_any A5 Ax k c5 cx _ _ w2 HRC.out (HRX.out.below BL.out) (by omega)).mono ?_; rintro e w3 ⟨rfl, q3, rfl⟩; rw [HQ.out]))
        go_ret
        exact ⟨ret_bool HF.out, below_drewN HB2.out _⟩
      | true =>
        have HEQ : Hid (conjL (dV f vss i) p = dV f vss i) := by rw [Hid, HAD.out]; simpa [eqB] using hq
        clear hq
        go_wp2_with (first
          | (go_at_call 108; refine (conj_any Ax E k cx ec a p wr HRX.out (HE.out.below hb.out) (by omega) HA1.out HP.out).mono ?_; rintro e w2 ⟨v, rfl, o, bl⟩; obtain ⟨A5, c5, rfl, -, -⟩ := o.form' HLC.out; have HRC := Lib.hid (o.rd HLC.out); have BL := Lib.hid bl; have HB2 : Hid (Below w.heap.size w w2) := hb.out.trans (bl.mono hb.out.size); clear o bl)
          | (go_at_call 107; refine (equalP_any A5 Ax k c5 cx _ _ w2 HRC.out (HRX.out.below BL.out) (by omega)).mono ?_; rintro e w3 ⟨rfl, q3, rfl⟩; rw [HQ.out]))
        go_roundw
        case rel => exact ⟨i + 1, by omega, by go_num, below_drewN HB2.out _, fun d hd => by
          by_cases e : d = i
          · rw [e]; exact HEQ.out
          · exact hall.out d (by omega)⟩
        case measure => simp [intOf]; omega
    · have HT : Hid (true = r) := by
        rw [Hid, ← HR.out]
        exact (HCD.out.2 fun d hd => hall.out d (by rw [HNN.out] at hd; omega)).symm
      go_wp2_with fail
      go_ret
      exact ⟨ret_bool HT.out, hb.out⟩

theorem VAt.over_ {w w' : World} {b k : Nat} {t f : List Int} {vss : List (List Int)} (h : VAt w b t f k vss) (hb : Below w.heap.size w w') : VAt w' b t f k vss := h.below hb
theorem Rd.uniq {w : World} {A : Option Addr} {n : Nat} {xs ys : List Int} (h : Rd w A n xs) (h' : Rd w A n ys) : xs = ys := by
  refine eq_of_gi (by rw [h.1, h'.1]) fun j hj => ?_
  rw [h.1] at hj
  obtain ⟨ad, e, hc⟩ := h.at_ hj
  obtain ⟨ad', e', hc'⟩ := h'.at_ hj
  rw [e] at e'
  injection e' with e'
  subst e'
  rw [hc] at hc'
  injection hc' with hc'
  injection hc' with _ hc'
/-- How many permutations are still to come, this one among them. -/
noncomputable def rankV (w : World) (k : Nat) (v : Value) : Nat := leastOf fun r => ∃ i, i ≤ fctK k ∧ r + i = fctK k ∧ ∃ lo, Own w lo v (chn k i)
theorem rankV_eq {w : World} {k i lo : Nat} {v : Value} (h1 : 1 ≤ k) (h4 : k ≤ 4) (hi : i ≤ fctK k) (h : Own w lo v (chn k i)) : rankV w k v = fctK k - i := by
  obtain ⟨⟨i', hi', e, lo', h'⟩, -⟩ := leastOf_spec (p := fun r => ∃ i, i ≤ fctK k ∧ r + i = fctK k ∧ ∃ lo, Own w lo v (chn k i)) ⟨fctK k - i, i, hi, by omega, lo, h⟩
  obtain ⟨A, c, rfl, hr, -⟩ := h.form
  obtain ⟨A', c', ev, hr', -⟩ := h'.form
  injection ev with e1 e2 e3
  subst e1
  rw [← e2] at hr'
  have := chn_inj h1 h4 hi hi' (hr.uniq hr')
  unfold rankV
  omega
theorem Own.cap_ {w : World} {lo g n c : Nat} {xs : List Int} (h : Own w lo (.slice (some ⟨g, 0, none⟩) n c) xs) (hn : xs.length = n) : n ≤ c := by
  subst hn
  rcases h.2 with ⟨e, -⟩ | ⟨g', cap, cur, e, -, -, hc, -⟩
  · simp at e
  · simp only [Value.slice.injEq, true_and] at e
    omega

set_option maxRecDepth 20000 in
set_option maxHeartbeats 6400000 in
theorem impl_dkR (w : World) (A A' : Option Addr) (n n' c c' : Nat) (t f : List Int) (h : Rd w A n t) (h' : Rd w A' n' f) (hn : n ≤ 1048576) (hn' : n' ≤ 1048576) (k : Int) (B : Option Addr) (m d : Nat) (vss : List (List Int)) (hs : RdSS w B m vss) (hm : m ≤ 1048576) (htot : total vss ≤ 1048576) {r : Int} (hR : dkR t f k vss = r) :
    Calls Try.prog 47 #[.agg #[.slice A n c, .slice A' n' c'], .int .i64 k, .slice B m d] w fun e w' => e = .returned (.int .i64 r) ∧ Below w.heap.size w w' := by
  obtain ⟨W0, hW0, hx, hb, hz⟩ := Box.local_ w 29 (.slice A n c) (.slice A' n' c')
  have c0 := hx.cell0
  have c1 := hx.cell1
  have HB := Lib.hid hb; have H := Lib.hid h; have H' := Lib.hid h'; have HR := Lib.hid hR; have HS := Lib.hid hs
  clear hx hb h h' hR hs hz
  cases hv : vvB t f k vss with
  | false =>
    have HF : Hid (-1 = r) := by rw [Hid, ← HR.out, dkR, if_neg (fun h => by rw [hv] at h; exact absurd h.1 (by decide))]
    have HV := Lib.hid hv; clear hv
    go_enter Try.func47, Try.ntmps47
    go_wp2_with (go_at_call 54; refine (voltageOf_any _ A A' n n' c c' t f (H.out.below HB.out) (H'.out.below HB.out) hn hn' k B m d vss (HS.out.below HB.out) hm htot HV.out).mono ?_; rintro e w1 ⟨p, rfl, b, -⟩; have HB1 := Lib.hid (HB.out.trans (b.mono HB.out.size)); clear b c0 c1)
    go_ret
    exact ⟨ret_int HF.out, HB1.out⟩
  | true =>
    have HV := Lib.hid hv
    obtain ⟨kn, rfl, hvt⟩ := Volt_of hv
    have hk1 := hvt.one
    have hk6 := hvt.six
    by_cases h4 : kn ≤ 4
    · have hd4 : decide ((4 : Int) < (kn : Int)) = false := by simp; omega
      obtain ⟨F, hF⟩ : ∃ F, fctK kn = F := ⟨_, rfl⟩
      obtain ⟨f1, f24⟩ := fctK_pos kn
      rw [hF] at f1 f24
      have HF : Hid ((dkN vss kn F : Int) = r) := by rw [Hid, ← HR.out, dkR, if_pos ⟨hv, by omega⟩, Int.toNat_natCast, hF]
      have HFF := Lib.hid hF
      have HVT := Lib.hid hvt
      clear hv hvt hF
      go_enter Try.func47, Try.ntmps47
      go_wp2_with (first
        | (go_at_call 54; refine (voltageOf_any _ A A' n n' c c' t f (H.out.below HB.out) (H'.out.below HB.out) hn hn' (kn : Int) B m d vss (HS.out.below HB.out) hm htot HV.out).mono ?_; rintro e w1 ⟨p, rfl, b, hva⟩; obtain ⟨bv, kn', rfl, hkn, hva⟩ := hva rfl; obtain rfl : kn = kn' := (by omega); have HVA := Lib.hid hva; have HB1 := Lib.hid (HB.out.trans (b.mono HB.out.size)); clear b c0 c1 hva hkn)
        | (go_at_call 84; refine (stillPerm_any kn w1 (by omega)).mono ?_; rintro e w2 ⟨v, rfl, o, b⟩; obtain ⟨Ap, cp, rfl, -, -⟩ := o.form' (marks_len 0 kn); obtain ⟨g, rfl, hg1, -, -⟩ := o.cellAt (marks_len 0 kn) (k := 0) (by omega); have hcap := o.cap_ (marks_len 0 kn); have HO2 : Hid (Own w2 w1.heap.size (.slice (some ⟨g, 0, none⟩) kn cp) (chn kn 0)) := o; have HB2 : Hid (Below w1.heap.size w1 w2) := b; clear o b))
      clear hd4
      go_loopw [9, 11] (fun cv mv wr => ∃ i : Nat, i ≤ F ∧ cv = .int .i64 (dkN vss kn i : Nat) ∧ Hid ((mv = .bool true ∧ i < F ∧ Own wr w1.heap.size (.slice (some ⟨g, 0, none⟩) kn cp) (chn kn i)) ∨ (mv = .bool false ∧ i = F)) ∧ Hid (Below w1.heap.size w1 wr)) (fun _ mv wr => match mv with | .bool true => rankV wr kn (.slice (some ⟨g, 0, none⟩) kn cp) | _ => 0)
      case atStart => exact ⟨0, Nat.zero_le _, rfl, .inl ⟨rfl, by omega, HO2.out⟩, HB2⟩
      case round =>
        clear HO2 HB2
        obtain ⟨i, hi, rfl, hm2, hb⟩ := hrel
        have hwr := hb.out.size
        rcases hm2.out with ⟨rfl, hlt, ho⟩ | ⟨rfl, rfl⟩
        · obtain ⟨p1, p2, p3, p4, -⟩ := chn_at hk1 h4 (i := i) (by rw [HFF.out]; exact hlt)
          have hrk := rankV_eq hk1 h4 (i := i) (by rw [HFF.out]; omega) ho
          rw [HFF.out] at p3 p4 hrk
          have HO := Lib.hid ho; have HP1 := Lib.hid p1; have HP2 := Lib.hid p2; have HRK := Lib.hid hrk
          have hdk := dkN_le vss kn i
          obtain ⟨s, hs⟩ : ∃ s, dkN vss kn i = s := ⟨_, rfl⟩
          have HSS := Lib.hid hs
          rw [hs] at hdk ⊢
          obtain ⟨q, hq⟩ : ∃ q, comB vss (chn kn i) = q := ⟨_, rfl⟩
          have HQ := Lib.hid hq
          have HRPP : Hid (Rd wr (some ⟨g, 0, none⟩) kn (chn kn i)) := ho.rd p2
          have HNX : Hid (dkN vss kn (i + 1) = s + if q = true then 1 else 0) := by rw [Hid, dkN, hs, hq]
          obtain ⟨u, hu⟩ : ∃ u, decide (atR (chn kn i) (kn - 1) ≠ 0) = u := ⟨_, rfl⟩
          have HU := Lib.hid hu
          have HAR : Hid ((u = true → i + 1 < F ∧ atR (chn kn i) (kn - 1) ≠ 0) ∧ (u = false → i + 1 = F)) := by
            refine ⟨fun e => ?_, fun e => ?_⟩
            · rw [e] at hu
              have h0 : atR (chn kn i) (kn - 1) ≠ 0 := by simpa using hu
              refine ⟨?_, h0⟩
              rcases Nat.lt_or_ge (i + 1) F with h | h
              · exact h
              · exact absurd (p4 (by omega)) h0
            · rw [e] at hu
              have h0 : atR (chn kn i) (kn - 1) = 0 := by simpa using hu
              rcases Nat.lt_or_ge (i + 1) F with h | h
              · exact absurd h0 (p3 h)
              · omega
          clear ho p1 p2 p3 p4 hrk hs hq hu hm2
          cases q with
          | false =>
            go_wp2_with (first
              | (go_at_call 86; refine (commutes_any wr bv t f kn vss HVT.out (HVA.out.over_ hb.out) (some ⟨g, 0, none⟩) cp _ HRPP.out HP1.out HQ.out).mono ?_; rintro e w3 ⟨rfl, b⟩; have HB3 := Lib.hid (hb.out.trans (b.mono hwr)); have HO3 := Lib.hid (HO.out.below b); have HSZ3 := Lib.hid b.size; clear b)
              | (go_at_call 85; refine (advance_any w3 w1.heap.size g kn cp _ HO3.out HP2.out hk1 (by omega) hcap).mono ?_; rintro e w4 ⟨rfl, ha, hgr⟩; rw [HU.out]; have HA4 := Lib.hid ha; have HG4 := Lib.hid hgr; clear ha hgr))
            go_roundw
            case rel =>
              refine ⟨i + 1, by omega, by rw [HNX.out]; go_num, ?_, HB3.out.grown HG4.out HB3.out.size (fun b hb => by cases hb; exact hg1)⟩
              cases u with
              | true => exact .inl ⟨rfl, (HAR.out.1 rfl).1, HA4.out (HAR.out.1 rfl).2⟩
              | false => exact .inr ⟨rfl, HAR.out.2 rfl⟩
            case measure =>
              have := HRK.out
              cases u with
              | true =>
                have h2 := rankV_eq hk1 h4 (i := i + 1) (by rw [HFF.out]; have := (HAR.out.1 rfl).1; omega) (HA4.out (HAR.out.1 rfl).2)
                rw [HFF.out] at h2
                simp only
                omega
              | false => simp only; omega
          | true =>
            go_wp2_with (first
              | (go_at_call 86; refine (commutes_any wr bv t f kn vss HVT.out (HVA.out.over_ hb.out) (some ⟨g, 0, none⟩) cp _ HRPP.out HP1.out HQ.out).mono ?_; rintro e w3 ⟨rfl, b⟩; have HB3 := Lib.hid (hb.out.trans (b.mono hwr)); have HO3 := Lib.hid (HO.out.below b); have HSZ3 := Lib.hid b.size; clear b)
              | (go_at_call 85; refine (advance_any w3 w1.heap.size g kn cp _ HO3.out HP2.out hk1 (by omega) hcap).mono ?_; rintro e w4 ⟨rfl, ha, hgr⟩; rw [HU.out]; have HA4 := Lib.hid ha; have HG4 := Lib.hid hgr; clear ha hgr))
            go_roundw
            case rel =>
              refine ⟨i + 1, by omega, by rw [HNX.out]; go_num, ?_, HB3.out.grown HG4.out HB3.out.size (fun b hb => by cases hb; exact hg1)⟩
              cases u with
              | true => exact .inl ⟨rfl, (HAR.out.1 rfl).1, HA4.out (HAR.out.1 rfl).2⟩
              | false => exact .inr ⟨rfl, HAR.out.2 rfl⟩
            case measure =>
              have := HRK.out
              cases u with
              | true =>
                have h2 := rankV_eq hk1 h4 (i := i + 1) (by rw [HFF.out]; have := (HAR.out.1 rfl).1; omega) (HA4.out (HAR.out.1 rfl).2)
                rw [HFF.out] at h2
                simp only
                omega
              | false => simp only; omega
        · go_wp2_with fail
          go_ret
          exact ⟨ret_int HF.out, HB1.out.trans (hb.out.mono HB1.out.size)⟩
    · have hd4 : decide ((4 : Int) < (kn : Int)) = true := by simp; omega
      have HF : Hid (-1 = r) := by rw [Hid, ← HR.out, dkR, if_neg (fun h => h4 (by have := h.2; omega))]
      clear hv h4 hvt
      go_enter Try.func47, Try.ntmps47
      go_wp2_with (go_at_call 54; refine (voltageOf_any _ A A' n n' c c' t f (H.out.below HB.out) (H'.out.below HB.out) hn hn' (kn : Int) B m d vss (HS.out.below HB.out) hm htot HV.out).mono ?_; rintro e w1 ⟨p, rfl, b, -⟩; have HB1 := Lib.hid (HB.out.trans (b.mono HB.out.size)); clear b c0 c1)
      go_ret
      exact ⟨ret_int HF.out, HB1.out⟩

end Go.Proofs.Ythcdhkelpepeeaa

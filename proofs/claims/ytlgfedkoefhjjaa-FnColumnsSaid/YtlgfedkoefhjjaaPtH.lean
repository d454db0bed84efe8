/-
  Characters, the model's: hooks taken off a list of beads.
-/
import Derived.Test.YtlgfedkoefhjjaaPtL
import Derived.Test.YtlgfedkoefhjjaaPtF
namespace Go.Proofs.Ytlgfedkoefhjjaa
open Go.RowKit
set_option linter.unusedVariables false

def frN (bs : List Int) (to : Int) : Nat → Bool
  | 0 => true
  | j + 1 => frN bs to j && (gi bs j != to)
def sgN (bs : List Int) (to bk : Int) : Nat → Int
  | 0 => 1
  | j + 1 => if to < gi bs j ∧ gi bs j < bk then 0 - sgN bs to bk j else sgN bs to bk j
theorem sgN_or (bs : List Int) (to bk : Int) (j : Nat) : sgN bs to bk j = 1 ∨ sgN bs to bk j = -1 := by
  induction j with
  | zero => exact .inl rfl
  | succ j ih => simp only [sgN]; split <;> omega
def hk : List Int → List Int → Int
  | [], _ => 1
  | x :: r, bs => sumN bs.length fun k => if decide (0 ≤ gi bs k - x) && frN bs (gi bs k - x) bs.length then sgN bs (gi bs k - x) (gi bs k) bs.length * hk r (bs.set k (gi bs k - x)) else 0
theorem hk_bd : ∀ (ys bs : List Int), bs.length ≤ 6 → -((7 ^ ys.length : Nat) : Int) ≤ hk ys bs ∧ hk ys bs ≤ ((7 ^ ys.length : Nat) : Int) := by
  intro ys
  induction ys with
  | nil => intro bs _; simp [hk]
  | cons x r ih =>
    intro bs hl
    have e1 : 7 ^ (x :: r).length = 7 ^ r.length * 7 := by rw [List.length_cons, Nat.pow_succ]
    obtain ⟨q, hq⟩ : ∃ q : Nat, 7 ^ r.length = q := ⟨_, rfl⟩
    rw [e1]
    rw [hq] at ih ⊢
    have := sumN_bd (B := (q : Int)) (by omega) (fun k => term_bd (q := decide (0 ≤ gi bs k - x) && frN bs (gi bs k - x) bs.length) (by omega) (sgN_or bs (gi bs k - x) (gi bs k) bs.length) (ih (bs.set k (gi bs k - x)) (by simpa using hl))) bs.length
    have h7 : (bs.length : Int) * (q : Int) ≤ 7 * (q : Int) := Int.mul_le_mul_of_nonneg_right (by omega) (by omega)
    simp only [hk]
    omega
def hkS (r bs : List Int) (x : Int) (k : Nat) : Int := sumN k fun k => if decide (0 ≤ gi bs k - x) && frN bs (gi bs k - x) bs.length then sgN bs (gi bs k - x) (gi bs k) bs.length * hk r (bs.set k (gi bs k - x)) else 0
theorem hk_eq (r bs : List Int) (x : Int) : Go.Proofs.Ytlgfedkoefhjjaa.hk (x :: r) bs = hkS r bs x bs.length := rfl
theorem hkS_bd (r bs : List Int) (x : Int) (k : Nat) (hr : r.length ≤ 5) (hl : bs.length ≤ 6) (hk6 : k ≤ 7) : -1000000 ≤ hkS r bs x k ∧ hkS r bs x k ≤ 1000000 := by
  have h5 : 7 ^ r.length ≤ 7 ^ 5 := Nat.pow_le_pow_right (by omega) hr
  obtain ⟨q, hq⟩ : ∃ q : Nat, 7 ^ r.length = q := ⟨_, rfl⟩
  have ih := hk_bd r
  rw [hq] at ih h5
  have := sumN_bd (B := (q : Int)) (by omega) (fun k => term_bd (q := decide (0 ≤ gi bs k - x) && frN bs (gi bs k - x) bs.length) (by omega) (sgN_or bs (gi bs k - x) (gi bs k) bs.length) (ih (bs.set k (gi bs k - x)) (by simpa using hl))) k
  have h7 : (k : Int) * (q : Int) ≤ 7 * (q : Int) := Int.mul_le_mul_of_nonneg_right (by omega) (by omega)
  unfold hkS
  omega
theorem hkS_no {r bs : List Int} {x : Int} {k : Nat} (h : (decide (0 ≤ gi bs k - x) && frN bs (gi bs k - x) bs.length) = false) : hkS r bs x (k + 1) = hkS r bs x k := by simp only [hkS, sumN, h]; simp
theorem hkS_yes {r bs : List Int} {x : Int} {k : Nat} (h : (decide (0 ≤ gi bs k - x) && frN bs (gi bs k - x) bs.length) = true) : hkS r bs x (k + 1) = hkS r bs x k + sgN bs (gi bs k - x) (gi bs k) bs.length * hk r (bs.set k (gi bs k - x)) := by simp only [hkS, sumN, h, if_true]

def HooksAt (ps : List Int) (i : Nat) : Prop :=
  ∀ (w : World) (A B : Option Addr) (n m c d : Nat) (bs : List Int), Rd w A n bs → Rd w B m ps → n ≤ 6 → (∀ j, j < n → 0 ≤ gi bs j ∧ gi bs j ≤ 100) →
    Calls Try.prog 29 #[.slice A n c, .slice B m d, .int .i64 i] w fun e w' => e = .returned (.int .i64 (hk (ps.drop i) bs)) ∧ Below w.heap.size w w'

set_option maxRecDepth 20000 in
set_option maxHeartbeats 3200000 in
theorem hooks_step (ps : List Int) (i : Nat) (h6 : ps.length ≤ 6) (hi : i < ps.length) (hx : 1 ≤ gi ps i ∧ gi ps i ≤ 6) (ih : HooksAt ps (i + 1)) : HooksAt ps i := by
  intro w A B n m c d bs h h' hn hb
  obtain ⟨x, hxe⟩ : ∃ x, gi ps i = x := ⟨_, rfl⟩
  rw [hxe] at hx
  obtain ⟨r, hr⟩ : ∃ r, ps.drop (i + 1) = r := ⟨_, rfl⟩
  have hdr : ps.drop i = x :: r := by rw [List.drop_eq_getElem_cons hi, ← hr, ← gi_eq hi, hxe]
  have hrl : r.length ≤ 5 := by rw [← hr, List.length_drop]; omega
  have hm : m = ps.length := h'.1.symm
  have him : i < m := by omega
  have hne : ((i : Int) == (m : Int)) = false := by simp; omega
  have hm6 : m ≤ 6 := by omega
  have H := Lib.hid h; have H' := Lib.hid h'; have HX := Lib.hid hxe; have HR := Lib.hid hr; have HD := Lib.hid hdr; have HIH := Lib.hid ih; have HBB := Lib.hid hb; have Hn := Lib.hid h.1
  clear h h' hxe hr hdr hm ih hb hi h6
  go_enter Try.func29, Try.ntmps29
  go_wp2_with fail
  go_loopw [7, 8] (fun s iv wr => ∃ (k : Nat) (t : Int), k ≤ n ∧ s = .int .i64 t ∧ iv = .int .i64 k ∧ Hid (t = hkS r bs x k) ∧ Hid (Below w.heap.size w wr)) (fun _ iv _ => n - (intOf iv).toNat)
  case atStart => exact ⟨0, 0, Nat.zero_le _, rfl, rfl, rfl, Below.refl _ _⟩
  case round =>
    obtain ⟨k, t, hk, rfl, rfl, hT, hB⟩ := hrel
    by_cases hlt : k < n
    · obtain ⟨ad, rfl, hc⟩ := (H.out.below hB.out).at_ hlt
      obtain ⟨ad', rfl, hc'⟩ := (H'.out.below hB.out).at_ him
      rw [HX.out] at hc'
      obtain ⟨y, hy⟩ : ∃ y, gi bs k = y := ⟨_, rfl⟩
      have hyb := HBB.out k hlt
      rw [hy] at hc hyb
      obtain ⟨to, hto⟩ : ∃ to, y - x = to := ⟨_, rfl⟩
      have g1 : IntKind.i64.wrap (y - x) = to := by rw [hto]; exact IntWalk.i64_in _ (by omega)
      have HY := Lib.hid hy; have HTO := Lib.hid hto; clear hy
      by_cases h0 : to < 0
      · have hd : decide (to < 0) = true := by simpa using h0
        have HST := Lib.hid (hkS_no (r := r) (bs := bs) (x := x) (k := k) (by rw [HY.out, hto]; simp; intro h; omega))
        clear hto
        go_wp2_with fail
        go_quiet (fail)
        go_wp2_with fail
        go_roundw
        case rel => exact ⟨k + 1, t, by omega, rfl, by go_num, by rw [Hid, HST.out]; exact hT.out, below_drewN hB.out _⟩
        case measure => simp [intOf]; omega
      · have hd : decide (to < 0) = false := by simpa using h0
        have hT1 := hkS_bd r bs x k hrl (by rw [Hn.out]; exact hn) (by omega)
        rw [← hT.out] at hT1
        clear hto
        go_wp2_with fail
        go_quiet (fail)
        go_wp2_with fail
        go_loopw [10, 11, 12] (fun sv fv jv wv => ∃ (j q : Nat) (s : Int) (fr : Bool), j ≤ n ∧ sv = .int .i64 s ∧ fv = .bool fr ∧ jv = .int .i64 j ∧ wv = wr.drewN q ∧ (s = 1 ∨ s = -1) ∧ Hid (s = sgN bs to y j) ∧ Hid (fr = frN bs to j)) (fun _ _ jv _ => n - (intOf jv).toNat)
        case atStart => exact ⟨0, _, 1, true, Nat.zero_le _, rfl, rfl, rfl, rfl, .inl rfl, rfl, rfl⟩
        case round =>
          obtain ⟨j, q, s, fr, hj, rfl, rfl, rfl, rfl, hs1, hS, hF⟩ := hrel
          by_cases hlt' : j < n
          · obtain ⟨ad2, e1, hcj⟩ := (H.out.below hB.out).at_ hlt'
            injection e1 with e1
            subst e1
            obtain ⟨v, hv⟩ : ∃ v, gi bs j = v := ⟨_, rfl⟩
            rw [hv] at hcj
            obtain ⟨fr', hfr'⟩ : ∃ fr', (fr && (v != to)) = fr' := ⟨_, rfl⟩
            have HF' : Hid (fr' = frN bs to (j + 1)) := by rw [Hid, frN, hv, ← hF.out, hfr']
            have hw0 : IntKind.i64.wrap (0 - s) = -s := by rw [IntWalk.i64_in _ (by omega)]; omega
            have HV := Lib.hid hv; clear hv
            by_cases hb1 : to < v
            · have hd1 : decide (to < v) = true := by simpa using hb1
              by_cases hb2 : v < y
              · have hd2 : decide (v < y) = true := by simpa using hb2
                have HS' : Hid (-s = sgN bs to y (j + 1)) := by rw [Hid, sgN, HV.out, if_pos ⟨hb1, hb2⟩, ← hS.out]; omega
                clear hb1 hb2
                cases fr with
                | false =>
                  obtain rfl : false = fr' := by simpa using hfr'
                  clear hfr'
                  go_wp2_with fail
                  go_quiet (fail)
                  go_wp2_with fail
                  go_roundw
                  case rel => exact ⟨j + 1, q + _, -s, false, by omega, rfl, rfl, by go_num, by first | rfl | exact World.drewN_drewN _ _ _, by omega, HS'.out, HF'.out⟩
                  case measure => simp [intOf]; omega
                | true =>
                  have hne2 : (v != to) = fr' := by simpa using hfr'
                  clear hfr'
                  go_wp2_with fail
                  go_quiet (fail)
                  go_wp2_with fail
                  go_roundw
                  case rel => exact ⟨j + 1, q + _, -s, fr', by omega, rfl, rfl, by go_num, by first | rfl | exact World.drewN_drewN _ _ _, by omega, HS'.out, HF'.out⟩
                  case measure => simp [intOf]; omega
              · have hd2 : decide (v < y) = false := by simpa using hb2
                have HS' : Hid (s = sgN bs to y (j + 1)) := by rw [Hid, sgN, HV.out, if_neg (fun h => hb2 h.2), ← hS.out]
                clear hb1 hb2
                cases fr with
                | false =>
                  obtain rfl : false = fr' := by simpa using hfr'
                  clear hfr'
                  go_wp2_with fail
                  go_quiet (fail)
                  go_wp2_with fail
                  go_roundw
                  case rel => exact ⟨j + 1, q + _, s, false, by omega, rfl, rfl, by go_num, by first | rfl | exact World.drewN_drewN _ _ _, by omega, HS'.out, HF'.out⟩
                  case measure => simp [intOf]; omega
                | true =>
                  have hne2 : (v != to) = fr' := by simpa using hfr'
                  clear hfr'
                  go_wp2_with fail
                  go_quiet (fail)
                  go_wp2_with fail
                  go_roundw
                  case rel => exact ⟨j + 1, q + _, s, fr', by omega, rfl, rfl, by go_num, by first | rfl | exact World.drewN_drewN _ _ _, by omega, HS'.out, HF'.out⟩
                  case measure => simp [intOf]; omega
            · have hd1 : decide (to < v) = false := by simpa using hb1
              have HS' : Hid (s = sgN bs to y (j + 1)) := by rw [Hid, sgN, HV.out, if_neg (fun h => hb1 h.1), ← hS.out]
              clear hb1
              cases fr with
              | false =>
                obtain rfl : false = fr' := by simpa using hfr'
                clear hfr'
                go_wp2_with fail
                go_quiet (fail)
                go_wp2_with fail
                go_roundw
                case rel => exact ⟨j + 1, q + _, s, false, by omega, rfl, rfl, by go_num, by first | rfl | exact World.drewN_drewN _ _ _, by omega, HS'.out, HF'.out⟩
                case measure => simp [intOf]; omega
              | true =>
                have hne2 : (v != to) = fr' := by simpa using hfr'
                clear hfr'
                go_wp2_with fail
                go_quiet (fail)
                go_wp2_with fail
                go_roundw
                case rel => exact ⟨j + 1, q + _, s, fr', by omega, rfl, rfl, by go_num, by first | rfl | exact World.drewN_drewN _ _ _, by omega, HS'.out, HF'.out⟩
                case measure => simp [intOf]; omega
          · obtain rfl : j = n := by omega
            have hcond : (decide (0 ≤ gi bs k - x) && frN bs (gi bs k - x) bs.length) = fr := by
              rw [HY.out, HTO.out, Hn.out, ← hF.out]; simp; omega
            cases fr with
            | false =>
              have HST := Lib.hid (hkS_no (r := r) (bs := bs) (x := x) (k := k) hcond)
              clear hcond hs1 hT1 hlt'
              go_wp2_with fail
              go_roundw
              case rel => exact ⟨k + 1, t, by omega, rfl, by go_num, by rw [Hid, HST.out]; exact hT.out, below_drewN hB.out _⟩
              case measure => simp [intOf]; omega
            | true =>
              have hst := hkS_yes (r := r) (bs := bs) (x := x) (k := k) hcond
              rw [HY.out, HTO.out, Hn.out, ← hS.out] at hst
              obtain ⟨cc, hcc⟩ : ∃ cc, Go.Proofs.Ytlgfedkoefhjjaa.hk r (bs.set k to) = cc := ⟨_, rfl⟩
              have tb' := hkS_bd r bs x (k + 1) hrl (by rw [Hn.out]; exact hn) (by omega)
              have hcb := hk_bd r (bs.set k to) (by rw [List.length_set, Hn.out]; exact hn)
              rw [hcc] at hcb hst
              have h5 : 7 ^ r.length ≤ 7 ^ 5 := Nat.pow_le_pow_right (by omega) hrl
              obtain ⟨q7, hq7⟩ : ∃ q : Nat, 7 ^ r.length = q := ⟨_, rfl⟩
              rw [hq7] at hcb h5
              obtain ⟨pp, hpp⟩ : ∃ pp, s * cc = pp := ⟨_, rfl⟩
              rw [hpp, ← hT.out] at hst
              rw [hst] at tb'
              have hpb : -1000000 ≤ pp ∧ pp ≤ 1000000 := by rcases hs1 with rfl | rfl <;> omega
              have g3 : IntKind.i64.wrap (s * cc) = pp := by rw [hpp]; exact IntWalk.i64_in _ (by omega)
              obtain ⟨tt, htt⟩ : ∃ tt, t + pp = tt := ⟨_, rfl⟩
              have g4 : IntKind.i64.wrap (t + pp) = tt := by rw [htt]; exact IntWalk.i64_in _ (by omega)
              have HTT : Hid (tt = hkS r bs x (k + 1)) := by rw [Hid, hst, htt]
              have g5 : IntKind.i64.wrap ((i : Int) + 1) = ((i + 1 : Nat) : Int) := by rw [IntWalk.i64_in _ (by omega)]; omega
              have HCC := Lib.hid hcc; have HIN := Lib.hid (below_drewN hB.out q)
              clear hcond hst hcc hcb h5 hq7 hpp htt tb' hpb hs1 hT1
              go_wp2_with fail
              refine (l2Copy_any (some ad) j c bs _ ((H.out.below hB.out).drewN q) (by omega) (by omega)).mono ?_
              rintro e w1 ⟨v, rfl, o, b⟩
              have HB1 := Lib.hid (HIN.out.trans (b.mono HIN.out.size))
              have HP1 := Lib.hid (((H'.out.below hB.out).drewN q).below b)
              clear b
              obtain ⟨Av, cv, rfl, -, -⟩ := o.form' Hn.out
              obtain ⟨g, rfl, hlg, hck, hfk⟩ := o.cellAt Hn.out hlt
              have HO := Lib.hid (o.stored Hn.out k to)
              have HLO : Hid (w.heap.size ≤ g) := Nat.le_trans HIN.out.size hlg
              have HP2 := Lib.hid (HP1.out.grown (m := wr.heap.size) (v := .slice (some ⟨g, 0, none⟩) j cv) (fun ad e h => Rd.lt (H'.out.below hB.out) ad e h) HO.out.2 (fun k hk => by cases hk; exact hlg))
              have hkj : (k : Int) < j := by omega
              clear o hlg
              go_wp2_with fail
              refine (HIH.out _ (some ⟨g, 0, none⟩) (some ad') j m cv d (bs.set k to) (HO.out.1.rd (by rw [List.length_set]; exact Hn.out)) HP2.out hn (fun q hq => ?_)).mono ?_
              · rw [gi_set _ _ _ _ (by rw [Hn.out]; exact hlt)]
                split
                · have := HTO.out; omega
                · exact HBB.out q hq
              rintro e w2 ⟨rfl, b⟩
              rw [HR.out, HCC.out]
              have HB2 : Hid (Below w.heap.size w w2) := by
                have b1 : Below w.heap.size w (w1.setCell ⟨g, k, none⟩ (.int .i64 to)) := HB1.out.setCell HLO.out _
                exact b1.trans (b.mono b1.size)
              clear b
              go_wp2_with fail
              go_roundw
              case rel => exact ⟨k + 1, tt, by omega, rfl, by go_num, HTT.out, HB2.out⟩
              case measure => simp [intOf]; omega
    · obtain rfl : k = n := by omega
      go_wp2_with fail
      go_ret
      exact ⟨ret_int (by rw [hT.out, HD.out, hk_eq, Hn.out]), hB.out⟩

set_option maxHeartbeats 800000 in
theorem hooks_end (ps : List Int) (h6 : ps.length ≤ 6) : HooksAt ps ps.length := by
  intro w A B n m c d bs h h' hn hb
  obtain rfl : ps.length = m := h'.1
  have hdr : ps.drop ps.length = [] := List.drop_length
  rw [hdr]
  clear hdr
  have he : (((ps.length : Nat) : Int) == ((ps.length : Nat) : Int)) = true := by simp
  clear hb
  go_enter Try.func29, Try.ntmps29
  go_wp2_with fail
  go_ret
  exact ⟨rfl, Below.refl _ _⟩
theorem hooks_all (ps : List Int) (h6 : ps.length ≤ 6) (hx : ∀ j, j < ps.length → 1 ≤ gi ps j ∧ gi ps j ≤ 6) : ∀ d i, i + d = ps.length → HooksAt ps i := by
  intro d
  induction d with
  | zero => intro i hi; obtain rfl : i = ps.length := by omega
            exact hooks_end ps h6
  | succ d ih => intro i hi; exact hooks_step ps i h6 (by omega) (hx i (by omega)) (ih (i + 1) (by omega))

/-- The beads of a partition as a list. -/
def bl (xs : List Int) : List Int := tab xs.length fun i => gi xs i + xs.length - 1 - i
theorem bl_len (xs : List Int) : (bl xs).length = xs.length := tab_len _ _
theorem ch_same : ∀ p ∈ pairPts, hk p.2 (bl p.1) = chr p.1 p.2 := by decide +kernel
theorem bl_in : ∀ xs ∈ allPts, ∀ j, j < xs.length → 0 ≤ gi (bl xs) j ∧ gi (bl xs) j ≤ 100 := by decide +kernel

set_option maxHeartbeats 1600000 in
theorem l5Char_any (A B : Option Addr) (n m c d : Nat) (a b : List Int) (w : World) (h : Rd w A n a) (h' : Rd w B m b) (hp : PairOk a b) :
    Calls Try.prog 19 #[.slice A n c, .slice B m d] w fun e w' => e = .returned (.int .i64 (chr a b)) ∧ Below w.heap.size w w' := by
  obtain ⟨i0, hinf, hz0, hz1, hz2⟩ := info_parts info_int
  obtain ⟨pa, pb, he⟩ := hp
  have hn6 : n ≤ 6 := by have := pa.len; rw [h.1] at this; exact this
  have HALL := Lib.hid (hooks_all b pb.len (fun j hj => pb.le hj) b.length 0 (by omega))
  have HS := Lib.hid (ch_same _ (pa.pair pb he))
  have HBL := Lib.hid (bl_in a pa.all)
  have H := Lib.hid h; have H' := Lib.hid h'; have Hx := Lib.hid h.1; have HPA := Lib.hid pa
  clear h h' pa pb he
  go_enter Try.func19, Try.ntmps19
  go_wp2_with fail
  go_loopw [5, 6] (fun v i wr => ∃ k : Nat, k ≤ n ∧ i = .int .i64 k ∧ Hid (wr.ownsRow w.heap.size 3 1 v k (ints ((bl a).take k))) ∧ Hid (Below w.heap.size w wr)) (fun _ i _ => n - (intOf i).toNat)
  case atStart => exact ⟨0, Nat.zero_le _, rfl, Own.empty (Nat.le_refl _), (Below.refl _ _).alloc (Nat.le_refl _) _⟩
  case round =>
    obtain ⟨k, hk, rfl, ho, hB⟩ := hrel
    have hbs := hB.out.size
    by_cases hlt : k < n
    · obtain ⟨ad, rfl, hc⟩ := (H.out.below hB.out).at_ hlt
      obtain ⟨x, hx, hx1, hx6, hgn⟩ := HPA.out.nat (j := k) (by rw [Hx.out]; exact hlt)
      rw [hx] at hc
      obtain ⟨u, hu⟩ : ∃ u, gi (bl a) k = u := ⟨_, rfl⟩
      have hu' : (x : Int) + n - 1 - k = u := by rw [← hu, bl, gi_tab (by rw [Hx.out]; exact hlt), hx, Hx.out]
      obtain ⟨b1, hb1⟩ : ∃ b1, (x : Int) + (n : Int) - 1 = b1 := ⟨_, rfl⟩
      have g1 : IntKind.i64.wrap ((x : Int) + (n : Int)) = (x : Int) + (n : Int) := IntWalk.i64_in _ (by omega)
      have g2 : IntKind.i64.wrap ((x : Int) + (n : Int) - 1) = b1 := by rw [hb1]; exact IntWalk.i64_in _ (by omega)
      have g3 : IntKind.i64.wrap (b1 - (k : Int)) = u := by rw [← hb1, hu']; exact IntWalk.i64_in _ (by omega)
      have HU := Lib.hid hu
      clear hu hu' hb1 hx hgn
      go_wp2_with (at_builtin; refine wpList_append_own _ rfl _ _ 23 rfl w.heap.size 3 i0 (.int .i64 0) 1 8 Try.underlying23 hinf hz0 hz1 hz2 rfl (by decide) _ _ _ rfl (ho.out.alloc _) ⟨wr.heap.size, 0, none⟩ 1 1 [.int .i64 u] rfl rfl (cell_one_new _ _ _) (by intro u hu; simp at hu; subst hu; rfl) (by unfold maxLen; omega) (by omega) (by simp; omega) ?_; intro v1 w1 hown1 hgrow1 _)
      have HO := Lib.hid hown1; have HGR := Lib.hid hgrow1; clear hown1 hgrow1
      go_wp2_with fail
      go_roundw
      case rel =>
        refine ⟨k + 1, by omega, by go_num, ?_, ?_⟩
        · have := HO.out
          rw [Hid, take_one (by rw [bl_len, Hx.out]; exact hlt) HU.out, ints, List.map_append]
          exact this
        · exact (hB.out.alloc hbs _).grown HGR.out (by simp; omega) (fun j hj => (ho.out.lt j hj).1)
      case measure => simp [intOf]; omega
    · obtain rfl : k = n := by omega
      obtain ⟨Av, cv, rfl, hrv, -⟩ := Own.form' (own_take ((bl_len a).trans Hx.out) (Nat.le_refl _) ho.out) (n := k) (by rw [List.length_take, bl_len, Hx.out]; omega)
      rw [List.take_of_length_le (by rw [bl_len, Hx.out]; exact Nat.le_refl _)] at hrv
      have HRV := Lib.hid hrv; clear hrv
      go_wp2_with fail
      refine (HALL.out wr Av B k m cv d (bl a) HRV.out (H'.out.below hB.out) hn6 (fun j hj => HBL.out j (by rw [Hx.out]; exact hj))).mono ?_
      rintro e w1 ⟨rfl, b1⟩
      have HB1 := Lib.hid (hB.out.trans (b1.mono hB.out.size)); clear b1
      have HS' : Hid (Go.Proofs.Ytlgfedkoefhjjaa.hk (b.drop 0) (bl a) = chr a b) := by have := HS.out; exact this
      rw [HS'.out]
      go_wp2_with fail
      go_ret
      exact ⟨rfl, HB1.out⟩

set_option maxHeartbeats 800000 in
theorem spec_chR (w : World) (A0 : Option Addr) (c0 n0 : Nat) (xs0 : List Int) (h0 : Rd w A0 n0 xs0) (hn0 : n0 ≤ 1048576) (A1 : Option Addr) (c1 n1 : Nat) (xs1 : List Int) (h1 : Rd w A1 n1 xs1) (hn1 : n1 ≤ 1048576)
    {ok : Bool} {r : Int} (hR : chR xs0 xs1 = (ok, r)) :
    Calls Try.prog 7 #[.slice A0 n0 c0, .slice A1 n1 c1] w fun e w' => e = .returned (.tuple #[.int .i64 r, .bool ok]) ∧ Below w.heap.size w w' := by
  have H := Lib.hid h0; have H' := Lib.hid h1; have HR := Lib.hid hR; clear h0 h1 hR
  by_cases p1 : pt xs0 = true
  · by_cases p2 : pt xs1 = true
    · have P1 := Lib.hid (Pt_of p1); have P2 := Lib.hid (Pt_of p2)
      by_cases he : sumI xs0 = sumI xs1
      · have hq : (sumI xs0 != sumI xs1) = false := by simpa using he
        have hb : prB xs0 xs1 = true := by simp [prB, p1, p2, he]
        obtain ⟨rfl, rfl⟩ : ok = true ∧ r = chr xs0 xs1 := by have := HR.out; rw [chR, if_pos hb] at this; simpa [eq_comm] using this
        have HP := Lib.hid (prB_iff.1 hb)
        clear he HR hb
        go_enter Try.func7, Try.ntmps7
        go_wp2_with fail
        refine (spec_ptq w A0 c0 n0 xs0 H.out hn0 p1).mono ?_
        rintro e w1 ⟨rfl, q, rfl⟩
        go_wp2_with fail
        refine (spec_ptq _ A1 c1 n1 xs1 (H'.out.drewN q) hn1 p2).mono ?_
        rintro e w2 ⟨rfl, q', rfl⟩
        go_wp2_with fail
        refine (l5Sum_any A0 n0 c0 xs0 _ (H.out.drewN _) P1.out).mono ?_
        rintro e w3 ⟨rfl, rfl⟩
        go_wp2_with fail
        refine (l5Sum_any A1 n1 c1 xs1 _ (H'.out.drewN _) P2.out).mono ?_
        rintro e w4 ⟨rfl, rfl⟩
        go_wp2_with fail
        refine (l5Char_any A0 A1 n0 n1 c0 c1 xs0 xs1 _ (H.out.drewN _) (H'.out.drewN _) HP.out).mono ?_
        rintro e w5 ⟨rfl, b⟩
        have HB := Lib.hid ((below_drewN (Below.refl w.heap.size w) _).trans b)
        clear b
        go_wp2_with fail
        go_ret2
        exact ⟨rfl, HB.out⟩
      · have hq : (sumI xs0 != sumI xs1) = true := by simpa using he
        have hb : ¬ prB xs0 xs1 = true := by simp [prB, p1, p2, he]
        obtain ⟨rfl, rfl⟩ : ok = false ∧ r = 0 := by have := HR.out; rw [chR, if_neg hb] at this; simpa [eq_comm] using this
        clear he HR hb
        go_enter Try.func7, Try.ntmps7
        go_wp2_with fail
        refine (spec_ptq w A0 c0 n0 xs0 H.out hn0 p1).mono ?_
        rintro e w1 ⟨rfl, q, rfl⟩
        go_wp2_with fail
        refine (spec_ptq _ A1 c1 n1 xs1 (H'.out.drewN q) hn1 p2).mono ?_
        rintro e w2 ⟨rfl, q', rfl⟩
        go_wp2_with fail
        refine (l5Sum_any A0 n0 c0 xs0 _ (H.out.drewN _) P1.out).mono ?_
        rintro e w3 ⟨rfl, rfl⟩
        go_wp2_with fail
        refine (l5Sum_any A1 n1 c1 xs1 _ (H'.out.drewN _) P2.out).mono ?_
        rintro e w4 ⟨rfl, rfl⟩
        go_wp2_with fail
        go_ret2
        exact ⟨rfl, below_drewN (Below.refl _ _) _⟩
    · have p2 : pt xs1 = false := by simpa using p2
      have hb : ¬ prB xs0 xs1 = true := by simp [prB, p2]
      obtain ⟨rfl, rfl⟩ : ok = false ∧ r = 0 := by have := HR.out; rw [chR, if_neg hb] at this; simpa [eq_comm] using this
      clear HR hb
      go_enter Try.func7, Try.ntmps7
      go_wp2_with fail
      refine (spec_ptq w A0 c0 n0 xs0 H.out hn0 p1).mono ?_
      rintro e w1 ⟨rfl, q, rfl⟩
      go_wp2_with fail
      refine (spec_ptq _ A1 c1 n1 xs1 (H'.out.drewN q) hn1 p2).mono ?_
      rintro e w2 ⟨rfl, q', rfl⟩
      go_wp2_with fail
      go_ret2
      exact ⟨rfl, below_drewN (Below.refl _ _) _⟩
  · have p1 : pt xs0 = false := by simpa using p1
    have hb : ¬ prB xs0 xs1 = true := by simp [prB, p1]
    obtain ⟨rfl, rfl⟩ : ok = false ∧ r = 0 := by have := HR.out; rw [chR, if_neg hb] at this; simpa [eq_comm] using this
    clear HR hb
    go_enter Try.func7, Try.ntmps7
    go_wp2_with fail
    refine (spec_ptq w A0 c0 n0 xs0 H.out hn0 p1).mono ?_
    rintro e w1 ⟨rfl, q, rfl⟩
    go_wp2_with fail
    go_ret2
    exact ⟨rfl, below_drewN (Below.refl _ _) _⟩

end Go.Proofs.Ytlgfedkoefhjjaa

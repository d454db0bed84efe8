/-
  The numbers of a choice, as the model counts them: edges, parts.
  The sides of a choice and its five numbers, as the model counts them.
-/
import Derived.Test.YtcenffndclpjoaaRibG
import Derived.Test.YtcenffndclpjoaaMarkSS
namespace Go.Proofs.Ytcenffndclpjoaa
open Go.RowKit

def edgP (f : List Int) (k : Nat) : List Int := tab f.length fun d => if min d (gn f d) < k then (edgN f d : Int) else 0
theorem edgP_len (f : List Int) (k : Nat) : (edgP f k).length = f.length := tab_len _ _
theorem edgP_zero (f : List Int) : List.replicate f.length 0 = edgP f 0 := tab_ext (by simp) fun j hj => by rw [if_neg (by omega), gi_eq (by simpa using hj)]; simp
theorem edgP_all (f : List Int) : edgP f f.length = edgL f := tab_ext (edgP_len _ _) fun j hj => by rw [edgP, gi_tab hj, if_pos (by omega)]
theorem edgP_no {f : List Int} (hp : Paired f) {k : Nat} (hk : k < f.length) (h : ¬ k < gn f k) : edgP f (k + 1) = edgP f k := by
  refine tab_ext (edgP_len _ _) fun j hj => ?_
  rw [edgP, gi_tab hj]
  by_cases h1 : min j (gn f j) < k
  · rw [if_pos h1, if_pos (by omega)]
  · rw [if_neg h1, if_neg]
    intro h2
    have h3 : min j (gn f j) = k := by omega
    have h4 := hp j hj
    have h5 := hp k hk
    rcases Nat.le_total j (gn f j) with h6 | h6
    · rw [Nat.min_eq_left h6] at h3
      subst h3
      have := h4.1
      omega
    · rw [Nat.min_eq_right h6] at h3
      rw [h3] at h4
      have := h4.1
      omega
theorem edgP_yes {f : List Int} (hf : Vld f) (hp : Paired f) {k z e : Nat} (hk : k < f.length) (h : k < gn f k) (hz : gn f k = z) (he : lesN f k = e) :
    ((edgP f k).set k (e : Int)).set z (e : Int) = edgP f (k + 1) := by
  have hzl : z < f.length := by rw [← hz]; exact hf.gn_lt hk
  refine tab_ext (by simp [edgP_len]) fun j hj => ?_
  rw [gi_set _ _ _ _ (by rw [List.length_set, edgP_len]; exact hzl), gi_set _ _ _ _ (by rw [edgP_len]; exact hk)]
  have hez : edgN f z = e := by rw [← hz, edgN_flip hp hk, edgN_less h, he]
  have hfz : gn f z = k := by rw [← hz]; exact (hp k hk).2
  by_cases h1 : j = z
  · rw [if_pos h1, h1, hez, hfz, if_pos (by omega)]
  · rw [if_neg h1]
    by_cases h2 : j = k
    · rw [if_pos h2, h2, edgN_less h, he, if_pos (by omega)]
    · rw [if_neg h2, edgP, gi_tab hj]
      have h4 := hp j hj
      by_cases h3 : min j (gn f j) < k
      · rw [if_pos h3, if_pos (by omega)]
      · rw [if_neg h3, if_neg]
        intro h5
        have h6 : min j (gn f j) = k := by omega
        rcases Nat.le_total j (gn f j) with h7 | h7
        · rw [Nat.min_eq_left h7] at h6; exact h2 h6
        · rw [Nat.min_eq_right h7] at h6
          rw [h6, hz] at h4
          exact h1 h4.2.symm

set_option maxHeartbeats 1600000 in
theorem l7Edges_any (A A' : Option Addr) (n n' c c' : Nat) (f : List Int) (w : World) (h' : Rd w A' n' f) (hf : Vld f) (hp : Paired f) :
    Calls Try.prog 77 #[.agg #[.slice A n c, .slice A' n' c']] w fun e w' => ∃ v, e = .returned v ∧ Own w' w.heap.size v (edgL f) ∧ Below w.heap.size w w' := by
  obtain ⟨i0, hinf, hz0, hz1, hz2⟩ := info_parts info_int
  obtain ⟨W0, hW0, hx, hb, hz⟩ := Box.local_ w 25 (.slice A n c) (.slice A' n' c')
  have hn12 : n' ≤ 12 := by rw [← h'.1]; exact hf.2.1
  have c1 := hx.cell1
  have hwz : w.heap.size < W0.heap.size := by omega
  have HX := Lib.hid hx; have HB := Lib.hid hb; have H' := Lib.hid h'; have HF := Lib.hid hf; have HP := Lib.hid hp; clear hx hb hz h' hf hp
  go_enter Try.func77, Try.ntmps77
  go_wp2_with (at_make; refine wpList_make_full _ rfl _ _ 23 rfl W0.heap.size 3 i0 (.int .i64 0) 1 Try.underlying23 hinf hz0 hz1 .i64 .i64 _ _ n' rfl rfl rfl rfl (by rw [hz2]; omega) (by unfold maxLen; omega) (Nat.le_refl _) ?_; intro w1 hown1 hgrow1)
  have hb1 := Lib.hid (below_of_grown hgrow1 (Nat.le_refl _) (fun k hk => by cases hk))
  have ho1 := Lib.hid (Own.made hown1)
  clear hown1 hgrow1 hz0 hz1 hz2 hinf c1
  go_loopw [4, 5] (fun nv dv wr => ∃ k e0 : Nat, k ≤ n' ∧ dv = .int .i64 k ∧ nv = .int .i64 e0 ∧ e0 ≤ k ∧ Hid (lesN f k = e0) ∧ Hid (Own wr W0.heap.size (.slice (some ⟨W0.heap.size, 0, none⟩) n' n') (edgP f k)) ∧ Hid (Below W0.heap.size W0 wr)) (fun _ dv _ => n' - (intOf dv).toNat)
  case atStart => exact ⟨0, 0, Nat.zero_le _, rfl, rfl, Nat.le_refl _, rfl, by rw [← edgP_zero, H'.out.1]; exact ho1, hb1⟩
  case round =>
    obtain ⟨k, e0, hk, rfl, rfl, hek, hle, ho, hb⟩ := hrel
    clear ho1 hb1
    have hel : (edgP f k).length = n' := (edgP_len _ _).trans H'.out.1
    by_cases hlt : k < n'
    · have c1 := (HX.out.over hb.out hwz).cell1
      obtain ⟨ad, rfl, hc⟩ := ((H'.out.below HB.out).below hb.out).at_ hlt
      obtain ⟨x, hx, hxn, hgx⟩ := (HF.out.into H'.out.1).nat (j := k) (by rw [H'.out.1]; exact hlt)
      rw [hx] at hc
      have HGX := Lib.hid hgx
      clear hx hgx
      by_cases hkx : k < x
      · obtain ⟨g1, e1, -, hc1, hf1⟩ := ho.out.cellAt hel hlt
        simp only [Option.some.injEq, Addr.mk.injEq, and_true] at e1
        subst e1
        have s1 := ho.out.stored hel k (e0 : Int)
        have hel1 : ((edgP f k).set k (e0 : Int)).length = n' := by rw [List.length_set, hel]
        obtain ⟨g1, e1, -, hc2, hf2⟩ := s1.1.cellAt hel1 hxn
        simp only [Option.some.injEq, Addr.mk.injEq, and_true] at e1
        subst e1
        have s2 := s1.1.stored hel1 x (e0 : Int)
        have hbl : Below W0.heap.size wr (wr.setCell ⟨W0.heap.size, k, none⟩ (.int .i64 (e0 : Int))) := (Below.refl W0.heap.size wr).setCell (show W0.heap.size ≤ (⟨W0.heap.size, k, none⟩ : Addr).block from Nat.le_refl _) _
        have d1 := (HX.out.over (hb.out.trans hbl) hwz).cell1
        obtain ⟨ad2, e2, hcd⟩ := ((H'.out.below HB.out).below (hb.out.trans hbl)).at_ hlt
        simp only [Option.some.injEq] at e2
        subst e2
        rw [show gi f k = (x : Int) from by rw [HF.out.gi_gn (by rw [H'.out.1]; exact hlt), HGX.out]] at hcd
        have HS2 := Lib.hid s2; have HBL := Lib.hid hbl
        clear s1 s2 hel hel1 hbl
        go_wp2_with fail
        go_roundw
        case rel =>
          refine ⟨k + 1, e0 + 1, by omega, by go_num, by go_num, by omega, ?_, ?_, ?_⟩
          · rw [Hid, lesN, HGX.out, if_pos hkx, hle.out]
          · rw [← edgP_yes HF.out HP.out (by rw [H'.out.1]; exact hlt) (by rw [HGX.out]; exact hkx) HGX.out hle.out]; exact HS2.out.1
          · exact (hb.out.trans HBL.out).setCell (Nat.le_refl _) _
        case measure => simp [intOf]; omega
      · go_wp2_with fail
        go_roundw
        case rel => exact ⟨k + 1, e0, by omega, by go_num, rfl, by omega, by rw [Hid, lesN, HGX.out, if_neg hkx, Nat.add_zero]; exact hle.out, by rw [edgP_no HP.out (by rw [H'.out.1]; exact hlt) (by rw [HGX.out]; exact hkx)]; exact ho.out, hb.out⟩
        case measure => simp [intOf]; omega
    · have hkn : k = n' := by omega
      have HK := Lib.hid hkn; clear hkn
      go_wp2_with fail
      go_ret
      refine ⟨_, rfl, ?_, HB.out.trans (hb.out.mono (by omega))⟩
      have := ho.out
      rw [HK.out, ← H'.out.1, edgP_all] at this
      rw [← H'.out.1]
      exact this.mono (by omega)

/-! ### Parts -/
def flipP (f : List Int) (s k : Nat) : List Int := tab f.length fun d => if d < k ∧ chB f s d = true then gi f d else (d : Int)
theorem flipP_len (f : List Int) (s k : Nat) : (flipP f s k).length = f.length := tab_len _ _
theorem flipP_zero (f : List Int) (s : Nat) : marks 0 f.length = flipP f s 0 := tab_ext (marks_len _ _) fun j hj => by rw [gi_marks hj, if_neg (fun h => by omega)]; omega
theorem flipP_all (f : List Int) (s : Nat) : flipP f s f.length = flipS f s := tab_ext (flipP_len _ _ _) fun j hj => by
  rw [flipP, gi_tab hj]
  by_cases h : chB f s j = true
  · rw [if_pos ⟨hj, h⟩, if_pos h]
  · rw [if_neg (fun h' => h h'.2), if_neg h]
theorem flipP_no {f : List Int} {s k : Nat} (h : chB f s k = false) : flipP f s (k + 1) = flipP f s k := by
  unfold flipP
  congr 1
  funext d
  by_cases hd : d = k
  · rw [if_neg (fun h' => by rw [hd, h] at h'; exact absurd h'.2 (by decide)), if_neg (fun h' => by omega)]
  · have : (d < k + 1 ∧ chB f s d = true) ↔ (d < k ∧ chB f s d = true) := ⟨fun h' => ⟨by omega, h'.2⟩, fun h' => ⟨by omega, h'.2⟩⟩
    simp only [this]
theorem flipP_yes {f : List Int} {s k : Nat} {x : Int} (h : chB f s k = true) (hk : k < f.length) (hx : gi f k = x) : (flipP f s k).set k x = flipP f s (k + 1) := by
  refine tab_ext (by simp [flipP_len]) fun j hj => ?_
  rw [gi_set _ _ _ _ (by rw [flipP_len]; exact hk)]
  by_cases h1 : j = k
  · rw [if_pos h1, h1, if_pos ⟨by omega, h⟩, hx]
  · rw [if_neg h1, flipP, gi_tab hj]
    have : (j < k + 1 ∧ chB f s j = true) ↔ (j < k ∧ chB f s j = true) := ⟨fun h' => ⟨by omega, h'.2⟩, fun h' => ⟨by omega, h'.2⟩⟩
    simp only [this]

set_option maxRecDepth 20000 in
set_option maxHeartbeats 1600000 in
theorem l7Parts_any (A A' : Option Addr) (n c c' s p : Nat) (t f : List Int) (w : World) (h : Rd w A n t) (h' : Rd w A' n f) (hm : IsMap t f) (B : Option Addr) (d m : Nat) (xs : List Int) (kx : Rd w B m xs) (hs : s < 64) (hxs : bL s = xs) (hpn : ptsN t f s = p) :
    Calls Try.prog 55 #[.agg #[.slice A n c, .slice A' n c'], .slice B m d] w fun e w' => e = .returned (.int .i64 p) ∧ Below w.heap.size w w' := by
  obtain ⟨W0, hW0, hx, hb, hz⟩ := Box.local_ w 25 (.slice A n c) (.slice A' n c')
  have hn12 : n ≤ 12 := by rw [← h'.1]; exact hm.flip.2.1
  have hn1 : 1 ≤ n := by rw [← h'.1]; exact hm.flip.1
  have hm6 : m ≤ 6 := by rw [← kx.1, ← hxs]; exact bL_few s hs
  have hwz : w.heap.size < W0.heap.size := by omega
  have HHS : Hid (∀ e : Nat, hasL xs (e : Int) = s.testBit e) := fun e => by rw [← hxs]; exact hasL_bL hs e
  have c0 := hx.cell0
  have c1 := hx.cell1
  have HX := Lib.hid hx; have HB := Lib.hid hb; have H := Lib.hid h; have H' := Lib.hid h'; have HM := Lib.hid hm; have KX := Lib.hid kx; have HP := Lib.hid hpn
  have HFV := Lib.hid (flipS_vld hm.flip hm.paired s)
  have HFL : Hid ((flipS f s).length = n) := by rw [Hid, flipS_len, h'.1]
  clear hx hb hz h h' hm kx hpn hxs
  go_enter Try.func55, Try.ntmps55
  go_wp2_with fail
  refine (l1Same_any n W0 (by omega)).mono ?_
  rintro e w1 ⟨v, rfl, o, bl⟩
  obtain ⟨A1, cq, rfl, -, -⟩ := o.form' (marks_len 0 n)
  obtain ⟨g, rfl, hg, -, -⟩ := o.cellAt (marks_len 0 n) (k := 0) (by omega)
  have HGL : Hid (g < w1.heap.size) := (o.lt g rfl).2
  have hgw : w.heap.size < g := by omega
  have HO1 := Lib.hid (o.mono (lo' := w.heap.size) (by omega)); have HB1 := Lib.hid (HB.out.trans (bl.mono HB.out.size)); have hx1 := HX.out.below bl
  have d0 := hx1.cell0
  have d1 := hx1.cell1
  have HX1 := Lib.hid hx1
  clear o bl c0 c1 hx1 hg
  go_wp2_with fail
  refine (l7Edges_any A A' n n c c' f w1 (H'.out.below HB1.out) HM.out.flip HM.out.paired).mono ?_
  rintro e w2 ⟨v, rfl, o, bl⟩
  obtain ⟨A2, c2, rfl, -, -⟩ := o.form' ((edgL_len f).trans H'.out.1)
  have HRL := Lib.hid (o.rd ((edgL_len f).trans H'.out.1))
  have HNB : Hid (∀ ad : Addr, A2 = some ad → ad.block ≠ g) := fun ad e hh => by
    have := o.lt ad.block (by rw [e]; rfl)
    have := HGL.out; omega
  have HB2 := Lib.hid (HB1.out.trans (bl.mono HB1.out.size)); have HO2 := Lib.hid (HO1.out.below bl); have HX2 := Lib.hid (HX1.out.below bl)
  have hgw2 : g < w2.heap.size := (HO2.out.lt g rfl).2
  clear o bl d0 d1
  go_wp2_with fail
  go_loopw [7] (fun iv wr => ∃ k : Nat, k ≤ n ∧ iv = .int .i64 k ∧ Hid (Own wr w.heap.size (.slice (some ⟨g, 0, none⟩) n cq) (flipP f s k)) ∧ Hid (Below g w2 wr) ∧ Hid (w2.grownBy wr (some g))) (fun iv _ => n - (intOf iv).toNat)
  case atStart => exact ⟨0, Nat.zero_le _, rfl, by rw [← flipP_zero, H'.out.1]; exact HO2.out, Below.refl _ _, World.grownBy.refl _ _⟩
  case round =>
    obtain ⟨k, hk, rfl, ho, hb, hg⟩ := hrel
    have hfl : (flipP f s k).length = n := (flipP_len _ _ _).trans H'.out.1
    have hgr := (ho.out.lt g rfl)
    have HBR : Hid (Below w.heap.size w wr) := HB2.out.trans (hb.out.mono (by omega))
    by_cases hlt : k < n
    · obtain ⟨ad, rfl, hc⟩ := (HRL.out.kept_ hg.out (fun ad e h => HNB.out ad e (by injection h with h; exact h.symm))).at_ hlt
      rw [gi_edgL (by rw [H'.out.1]; exact hlt)] at hc
      have hbt := HHS.out (edgN f k)
      rw [show s.testBit (edgN f k) = chB f s k from rfl] at hbt
      have HBT := Lib.hid hbt; clear hbt
      cases hch : chB f s k with
      | false =>
        rw [hch] at HBT
        have HCH := Lib.hid hch; have HFL1 := Lib.hid hfl; clear hch hfl
        go_wp2_with (go_at_call 78; refine (l7Has_any B d m xs _ _ (KX.out.below HBR.out) (by omega)).mono ?_; rintro e w3 ⟨rfl, rfl⟩; rw [HBT.out])
        go_roundw
        case rel => exact ⟨k + 1, by omega, by go_num, by rw [flipP_no HCH.out]; exact ho.out, hb.out, hg.out⟩
        case measure => simp [intOf]; omega
      | true =>
        rw [hch] at HBT
        have c1 := (HX2.out.over hb.out hgw).cell1
        obtain ⟨ad2, rfl, hc2⟩ := (H'.out.below HBR.out).at_ hlt
        obtain ⟨x, hx⟩ : ∃ x, gi f k = x := ⟨_, rfl⟩
        rw [hx] at hc2
        obtain ⟨g1, e1, -, hc1, hf1⟩ := ho.out.cellAt hfl hlt
        simp only [Option.some.injEq, Addr.mk.injEq, and_true] at e1
        subst e1
        have HST := Lib.hid (ho.out.stored hfl k x)
        have HXX := Lib.hid hx
        have HCH := Lib.hid hch; clear hch hfl hx
        go_wp2_with (go_at_call 78; refine (l7Has_any B d m xs _ _ (KX.out.below HBR.out) (by omega)).mono ?_; rintro e w3 ⟨rfl, rfl⟩; rw [HBT.out])
        go_roundw
        case rel => exact ⟨k + 1, by omega, by go_num, by rw [← flipP_yes HCH.out (by rw [H'.out.1]; exact hlt) HXX.out]; exact HST.out.1, hb.out.setCell (Nat.le_refl _) _, grownBy_trans hg.out HST.out.2⟩
        case measure => simp [intOf]; omega
    · have hkn : k = n := by omega
      have HF3 : Hid (Rd wr (some ⟨g, 0, none⟩) n (flipS f s)) := by
        have := ho.out
        rw [hkn, ← H'.out.1, flipP_all, H'.out.1] at this
        exact this.rd HFL.out
      have hx3 := HX2.out.over hb.out hgw
      have c0 := hx3.cell0
      have HX3 := Lib.hid hx3
      clear hkn hx3
      go_wp2_with fail
      refine (l1Orbits_any A _ n c cq t (flipS f s) wr (H.out.below HBR.out) HF3.out HM.out.turn HFV.out).mono ?_
      rintro e w3 ⟨v, rfl, o, bl⟩
      obtain ⟨A3, c3, rfl, -, -⟩ := o.form' ((orbL_len t (flipS f s)).trans H.out.1)
      have HOR := Lib.hid (o.rd ((orbL_len t (flipS f s)).trans H.out.1))
      have HB3 := Lib.hid (HBR.out.trans (bl.mono HBR.out.size))
      have HOI : Hid (∀ k, k < n → ∃ x : Nat, gi (orbL t (flipS f s)) k = (x : Int)) := fun k hk => ⟨_, gi_orbL (by rw [H.out.1]; exact hk)⟩
      clear o bl c0
      go_wp2_with fail
      go_loop [9, 10] (fun pv iv => ∃ k q : Nat, k ≤ n ∧ iv = .int .i64 k ∧ pv = .int .i64 q ∧ q ≤ k ∧ Hid (q = fixN (orbL t (flipS f s)) k)) (fun _ iv => n - (intOf iv).toNat)
      case atStart => exact ⟨0, 0, Nat.zero_le _, rfl, rfl, Nat.le_refl _, rfl⟩
      case round =>
        obtain ⟨k, q, hk, rfl, rfl, hqk, hq⟩ := hrel
        by_cases hlt : k < n
        · obtain ⟨ad, rfl, hc⟩ := HOR.out.at_ hlt
          obtain ⟨x, hx⟩ := HOI.out k hlt
          rw [hx] at hc
          have HXX := Lib.hid hx; clear hx
          by_cases he : x = k
          · have he' : ((x : Int) == (k : Int)) = true := by simp [he]
            have HE := Lib.hid he; clear he
            go_wp2_with fail
            go_round
            case rel => exact ⟨k + 1, q + 1, by omega, by go_num, by go_num, by omega, by rw [Hid, fixN, HXX.out, if_pos (by have := HE.out; omega), hq.out]⟩
            case measure => simp [intOf]; omega
          · have he' : ((x : Int) == (k : Int)) = false := by simp; omega
            have HE := Lib.hid he; clear he
            go_wp2_with fail
            go_round
            case rel => exact ⟨k + 1, q, by omega, by go_num, rfl, by omega, by rw [Hid, fixN, HXX.out, if_neg (by have := HE.out; omega), Nat.add_zero]; exact hq.out⟩
            case measure => simp [intOf]; omega
        · have hkn : k = n := by omega
          have hqp : q = p := by have := hq.out; rw [hkn] at this; rw [this, ← HP.out, ptsN, H.out.1]
          subst hqp
          clear hkn
          go_wp2_with fail
          go_ret
          exact ⟨rfl, HB3.out⟩

end Go.Proofs.Ytcenffndclpjoaa

namespace Go.Proofs.Ytcenffndclpjoaa
open Go.RowKit

theorem cyc_few {p : List Int} (hp : Vld p) : ∀ j, j < (cyclesL p).length → 1 ≤ ((cyclesL p).getD j []).length ∧ ((cyclesL p).getD j []).length ≤ p.length ∧ Cyc p ((cyclesL p).getD j []) := by
  intro j hj
  have hm : (cyclesL p).getD j [] ∈ cyclesL p := by
    have : (cyclesL p).getD j [] = (cyclesL p)[j] := by simp [List.getD, hj]
    rw [this]; exact List.getElem_mem hj
  have hc := (cyclesL_spec hp).1 _ hm
  refine ⟨hc.pos, ?_, hc⟩
  have h2 := nodup_len p.length (((cyclesL p).getD j []).map Int.toNat) (by
    rw [List.Nodup, List.pairwise_iff_getElem]
    intro a b ha hb hab
    simp only [List.length_map] at ha hb
    have h3 := hc.apart a b hab hb
    simp only [gn, gi_eq hb, gi_eq ha] at h3
    simpa using h3) (fun x hx => by
    obtain ⟨a, ha, rfl⟩ := List.mem_map.1 hx
    obtain ⟨i, hi, rfl⟩ := List.getElem_of_mem ha
    have := hc.lt i hi
    simpa only [gn, gi_eq hi] using this)
  simpa using h2

/-- How many of the first k points of a cycle are marked. -/
def onN (c : Nat → Bool) (cy : List Int) : Nat → Nat
  | 0 => 0
  | k + 1 => onN c cy k + if c (gn cy k) = true then 1 else 0
theorem onN_le (c : Nat → Bool) (cy : List Int) : ∀ k, onN c cy k ≤ k
  | 0 => Nat.le_refl _
  | k + 1 => by have := onN_le c cy k; rw [onN]; split <;> omega
theorem onN_zero {c : Nat → Bool} {cy : List Int} : ∀ k, onN c cy k = 0 ↔ ∀ j, j < k → c (gn cy j) = false
  | 0 => ⟨fun _ j hj => absurd hj (by omega), fun _ => rfl⟩
  | k + 1 => by
    rw [onN]
    constructor
    · intro h j hj
      have h0 := (onN_zero (c := c) (cy := cy) k).1 (by omega)
      by_cases e : j = k
      · subst e
        cases hc : c (gn cy j) with
        | false => rfl
        | true => rw [if_pos hc] at h; omega
      · exact h0 j (by omega)
    · intro h
      rw [(onN_zero k).2 (fun j hj => h j (by omega)), h k (by omega), if_neg (by decide)]
/-- How many of the first i cycles have no marked point. -/
def bareTo (cs : List (List Int)) (c : Nat → Bool) : Nat → Nat
  | 0 => 0
  | i + 1 => bareTo cs c i + if onN c (cs.getD i []) (cs.getD i []).length = 0 then 1 else 0
theorem bareTo_le (cs : List (List Int)) (c : Nat → Bool) : ∀ k, bareTo cs c k ≤ k
  | 0 => Nat.le_refl _
  | k + 1 => by have := bareTo_le cs c k; rw [bareTo]; split <;> omega
theorem smCs_snoc (F : Nat → Nat) (x : List Int) : ∀ a : List (List Int), smCs F (a ++ [x]) = smCs F a + smC F x
  | [] => by simp [smCs]
  | y :: a => by rw [List.cons_append, smCs, smCs, smCs_snoc F x a]; omega
theorem smC_bare {t d : List Int} (c : Nat → Bool) (h : Cyc t d) : smC (fun i => ch (BareAt t c i)) d = if onN c d d.length = 0 then 1 else 0 := by
  by_cases h0 : onN c d d.length = 0
  · rw [if_pos h0]
    have hall := (onN_zero d.length).1 h0
    refine smC_one h ?_ ?_
    · obtain ⟨j0, hj0, hmin⟩ := least_at (gn d) d.length h.pos
      refine ⟨j0, hj0, fun k => ?_, fun k => ?_⟩
      · rw [h.it k hj0]; exact hmin _ (Nat.mod_lt _ h.pos)
      · rw [h.it k hj0]; exact hall _ (Nat.mod_lt _ h.pos)
    · intro i j hi hj hPi hPj
      obtain ⟨q, hq⟩ := h.reach hi hj
      obtain ⟨q', hq'⟩ := h.reach hj hi
      have a := hPi.1 q
      have b := hPj.1 q'
      rw [hq] at a
      rw [hq'] at b
      omega
  · rw [if_neg h0]
    refine smC_none fun i hi hb => h0 ((onN_zero d.length).2 fun j hj => ?_)
    obtain ⟨q, hq⟩ := h.reach hi hj
    have := hb.2 q
    rwa [hq] at this
theorem bareTo_all {t : List Int} (ht : Vld t) (c : Nat → Bool) : bareTo (cyclesL t) c (cyclesL t).length = bareN t c := by
  rw [bareN, sum_cycles ht]
  have key : ∀ i, i ≤ (cyclesL t).length → bareTo (cyclesL t) c i = smCs (fun i => ch (BareAt t c i)) ((cyclesL t).take i) := by
    intro i
    induction i with
    | zero => intro _; rfl
    | succ i ih =>
      intro hi
      have hlt : i < (cyclesL t).length := by omega
      have e : (cyclesL t).take (i + 1) = (cyclesL t).take i ++ [(cyclesL t).getD i []] := by
        rw [List.take_add_one, List.getElem?_eq_getElem hlt]
        simp [List.getD, hlt]
      rw [bareTo, ih (by omega), e, smCs_snoc, smC_bare c (cyc_few ht i hlt).2.2]
  have := key _ (Nat.le_refl _)
  rwa [List.take_length] at this

/-- The faces of the first k darts. -/
def facP (t f : List Int) (s k : Nat) : List Int := tab f.length fun d => if d < k ∧ chB f s d = true then (ret (sidL t f s) (chB f s) 12 (gn (sidL t f s) d) : Int) else (d : Int)
theorem facP_len (t f : List Int) (s k : Nat) : (facP t f s k).length = f.length := tab_len _ _
theorem facP_zero (t f : List Int) (s : Nat) : marks 0 f.length = facP t f s 0 := tab_ext (marks_len _ _) fun j hj => by rw [gi_marks hj, if_neg (fun h => by omega)]; omega
theorem facP_all (t f : List Int) (s : Nat) : facP t f s f.length = facS t f s := by
  unfold facP facS retL
  rw [sidL_len]
  refine tab_ext (tab_len _ _) fun j hj => ?_
  rw [gi_tab hj]
  by_cases h : chB f s j = true
  · rw [if_pos ⟨hj, h⟩, if_pos h]
  · rw [if_neg (fun h' => h h'.2), if_neg h]
theorem facP_no {t f : List Int} {s k : Nat} (h : chB f s k = false) : facP t f s (k + 1) = facP t f s k := by
  unfold facP
  congr 1
  funext d
  by_cases hd : d = k
  · rw [if_neg (fun h' => by rw [hd, h] at h'; exact absurd h'.2 (by decide)), if_neg (fun h' => by omega)]
  · have : (d < k + 1 ∧ chB f s d = true) ↔ (d < k ∧ chB f s d = true) := ⟨fun h' => ⟨by omega, h'.2⟩, fun h' => ⟨by omega, h'.2⟩⟩
    simp only [this]
theorem facP_yes {t f : List Int} {s k x : Nat} (h : chB f s k = true) (hk : k < f.length) (hx : ret (sidL t f s) (chB f s) 12 (gn (sidL t f s) k) = x) : (facP t f s k).set k (x : Int) = facP t f s (k + 1) := by
  refine tab_ext (by simp [facP_len]) fun j hj => ?_
  rw [gi_set _ _ _ _ (by rw [facP_len]; exact hk)]
  by_cases h1 : j = k
  · rw [if_pos h1, h1, if_pos ⟨by omega, h⟩, hx]
  · rw [if_neg h1, facP, gi_tab hj]
    have : (j < k + 1 ∧ chB f s j = true) ↔ (j < k ∧ chB f s j = true) := ⟨fun h' => ⟨by omega, h'.2⟩, fun h' => ⟨by omega, h'.2⟩⟩
    simp only [this]

/-- How far the next marked point is. -/
noncomputable def away (p : List Int) (c : Nat → Bool) (x : Nat) : Nat := leastOf fun k => c (it p k x) = true
theorem away_eq {p : List Int} {c : Nat → Bool} {x k : Nat} (h : FirstAt p c x k) : away p c x = k := by
  obtain ⟨h1, h2⟩ := leastOf_spec (p := fun k => c (it p k x) = true) ⟨k, h.1⟩
  have h3 := h2 k h.1
  unfold away
  rcases Nat.lt_or_ge (leastOf fun k => c (it p k x) = true) k with h4 | h4
  · have := h.2 _ h4; rw [h1] at this; exact absurd this (by decide)
  · omega
theorem FirstAt.next {p : List Int} {c : Nat → Bool} {x q : Nat} (h : FirstAt p c x (q + 1)) : c x = false ∧ FirstAt p c (gn p x) q := by
  refine ⟨h.2 0 (by omega), ?_, fun j hj => ?_⟩
  · have := h.1; rwa [it_succ'] at this
  · have := h.2 (j + 1) (by omega); rwa [it_succ'] at this

set_option maxRecDepth 20000 in
set_option maxHeartbeats 3200000 in
theorem l7Sides_any (A A' : Option Addr) (n c c' s sd : Nat) (t f : List Int) (w : World) (h : Rd w A n t) (h' : Rd w A' n f) (hm : IsMap t f) (B : Option Addr) (d m : Nat) (xs : List Int) (kx : Rd w B m xs) (hs : s < 2 ^ (f.length / 2)) (hxs : bL s = xs) (hsd : sidN t f s = sd) :
    Calls Try.prog 63 #[.agg #[.slice A n c, .slice A' n c'], .slice B m d] w fun e w' => e = .returned (.int .i64 sd) ∧ Below w.heap.size w w' := by
  obtain ⟨W0, hW0, hx, hb, hz⟩ := Box.local_ w 25 (.slice A n c) (.slice A' n c')
  have hn12 : n ≤ 12 := by rw [← h'.1]; exact hm.flip.2.1
  have hn1 : 1 ≤ n := by rw [← h'.1]; exact hm.flip.1
  have hh6 : f.length / 2 ≤ 6 := by rw [h'.1]; omega
  have hs64 : s < 64 := lt_of_pow hs hh6
  have hm6 : m ≤ 6 := by rw [← kx.1, ← hxs]; exact bL_few s hs64
  have hwz : w.heap.size < W0.heap.size := by omega
  have HHS : Hid (∀ e : Nat, hasL xs (e : Int) = s.testBit e) := fun e => by rw [← hxs]; exact hasL_bL hs64 e
  have hhalf : lesN f f.length = f.length / 2 := by have := lesN_half hm.flip hm.paired; omega
  obtain ⟨C, hC⟩ : ∃ C, (cyclesL (facS t f s)).length = C := ⟨_, rfl⟩
  obtain ⟨V, hV⟩ : ∃ V, (cyclesL t).length = V := ⟨_, rfl⟩
  obtain ⟨bn, hbn⟩ : ∃ bn, bareN t (chB f s) = bn := ⟨_, rfl⟩
  have hV12 : V ≤ 12 := by rw [← hV]; have := cyclesL_len (p := t); have := hm.turn.2.1; omega
  have hC12 : C ≤ 12 := by rw [← hC]; have := cyclesL_len (p := facS t f s); have := retL_len (sidL t f s) (chB f s); have := sidL_len t f s; have := hm.flip.2.1; unfold facS at *; omega
  have hbn12 : bn ≤ V := by rw [← hbn, ← bareTo_all hm.turn, hV]; exact bareTo_le _ _ _
  have HEQ : Hid ((C : Int) - ((n : Int) - 2 * (m : Int)) + (bn : Int) = (sd : Int)) := by
    have := sides_eq hm (s := s) (by rw [hhalf]; exact hs) (by omega)
    rw [hC, hbn, hxs, kx.1, h'.1] at this
    rw [Hid, this, ← hsd]; rfl
  have c0 := hx.cell0
  have c1 := hx.cell1
  have HX := Lib.hid hx; have HB := Lib.hid hb; have H := Lib.hid h; have H' := Lib.hid h'; have HM := Lib.hid hm; have KX := Lib.hid kx; have HCC := Lib.hid hC; have HVV := Lib.hid hV; have HBN := Lib.hid hbn
  have HSV := Lib.hid (sidL_vld hm s)
  clear hx hb hz h h' hm kx hxs hC hV hbn hsd hhalf hh6
  go_enter Try.func63, Try.ntmps63
  go_wp2_with fail
  refine (l7Edges_any A A' n n c c' f W0 (H'.out.below HB.out) HM.out.flip HM.out.paired).mono ?_
  rintro e w1 ⟨v, rfl, o, bl⟩
  obtain ⟨A2, c2, rfl, -, -⟩ := o.form' ((edgL_len f).trans H'.out.1)
  have HRL := Lib.hid (o.rd ((edgL_len f).trans H'.out.1))
  have HRT : Hid (∀ ad : Addr, A2 = some ad → ad.block < w1.heap.size) := fun ad e => (o.lt ad.block (by rw [e]; rfl)).2
  have HB1 := Lib.hid (HB.out.trans (bl.mono HB.out.size)); have hx1 := HX.out.below bl
  have d0 := hx1.cell0
  have d1 := hx1.cell1
  have hbs1 := bl.size
  have HX1 := Lib.hid hx1
  clear o bl c0 c1 hx1
  go_wp2_with fail
  refine (l1Same_any n w1 (by omega)).mono ?_
  rintro e w2 ⟨v, rfl, o, bl⟩
  obtain ⟨A1, cq, rfl, -, -⟩ := o.form' (marks_len 0 n)
  obtain ⟨g, rfl, hg, -, -⟩ := o.cellAt (marks_len 0 n) (k := 0) (by omega)
  have hgw : w.heap.size < g := by omega
  have HNB : Hid (∀ ad : Addr, A2 = some ad → 0 < n → ad.block < g) := fun ad e _ => by have := HRT.out ad e; omega
  have HO2 := Lib.hid (o.mono (lo' := w.heap.size) (by omega)); have HRL2 := Lib.hid (HRL.out.below bl)
  have HGL : Hid (g < w2.heap.size) := (o.lt g rfl).2
  have HB2 := Lib.hid (HB1.out.trans (bl.mono HB1.out.size)); have hx2 := HX1.out.below bl
  have c0 := hx2.cell0
  have c1 := hx2.cell1
  have HX2 := Lib.hid hx2
  clear o bl d0 d1 hx2 hg HRT
  go_wp2_with fail
  refine (l1Cycles_any A n c t w2 (H.out.below HB2.out) HM.out.turn).mono ?_
  rintro e w3 ⟨v, rfl, o, bl⟩
  obtain ⟨A3, c3, rfl⟩ := o.form_len HVV.out
  have HSS := Lib.hid (o.rd HVV.out)
  have HO3 := Lib.hid (HO2.out.below bl); have HRL3 := Lib.hid (HRL2.out.below bl)
  have HB3 := Lib.hid (HB2.out.trans (bl.mono HB2.out.size)); have HX3 := Lib.hid (HX2.out.below bl)
  have hgw3 : g < w3.heap.size := by have := bl.size; have := HGL.out; omega
  clear o bl c0 c1
  go_wp2_with fail
  go_loop [7, 9, 10, 11] (fun bv iv _ _ => ∃ i q : Nat, i ≤ V ∧ iv = .int .i64 i ∧ bv = .int .i64 q ∧ q ≤ i ∧ Hid (q = bareTo (cyclesL t) (chB f s) i)) (fun _ iv _ _ => V - (intOf iv).toNat)
  case atStart => exact ⟨0, 0, Nat.zero_le _, rfl, rfl, Nat.le_refl _, rfl⟩
  case round =>
    obtain ⟨i, q, hi, rfl, rfl, hqi, hq⟩ := hrel
    by_cases hlt : i < V
    · obtain ⟨ad, Aj, cj, nj, hAe, hc, hr, -⟩ := HSS.out.at_ hlt
      subst hAe
      obtain ⟨hj1, hj2, hcy⟩ := cyc_few HM.out.turn i (by rw [HVV.out]; exact hlt)
      obtain ⟨cy, hcyd⟩ : ∃ cy, (cyclesL t).getD i [] = cy := ⟨_, rfl⟩
      have hbt : bareTo (cyclesL t) (chB f s) (i + 1) = bareTo (cyclesL t) (chB f s) i + if onN (chB f s) cy cy.length = 0 then 1 else 0 := by rw [bareTo, hcyd]
      rw [hcyd] at hr hj1 hj2 hcy
      rw [hr.1] at hj1 hj2 hbt
      rw [H.out.1] at hj2
      have HR := Lib.hid hr; have HCY := Lib.hid hcy; have HBT := Lib.hid hbt
      clear hr hcy hcyd hbt
      go_wp2_with fail
      go_loop [10, 11] (fun cv kv => ∃ k z : Nat, k ≤ nj ∧ kv = .int .i64 k ∧ cv = .int .i64 z ∧ z ≤ k ∧ Hid (z = onN (chB f s) cy k)) (fun _ kv => nj - (intOf kv).toNat)
      case atStart => exact ⟨0, 0, Nat.zero_le _, rfl, rfl, Nat.le_refl _, rfl⟩
      case round =>
        obtain ⟨k, z, hk, rfl, rfl, hzk, hz⟩ := hrel
        by_cases hkl : k < nj
        · obtain ⟨ad2, rfl, hc2⟩ := HR.out.at_ hkl
          have hkc : k < cy.length := by rw [HR.out.1]; exact hkl
          have hx := HCY.out.nat k hkc
          have hxl := HCY.out.lt k hkc
          obtain ⟨x, hxx⟩ : ∃ x, gn cy k = x := ⟨_, rfl⟩
          rw [hxx] at hx hxl
          rw [hx] at hc2
          rw [H.out.1] at hxl
          obtain ⟨ad3, rfl, hc3⟩ := HRL3.out.at_ hxl
          rw [gi_edgL (by rw [H'.out.1]; exact hxl)] at hc3
          have hbt := HHS.out (edgN f x)
          rw [show s.testBit (edgN f x) = chB f s x from rfl] at hbt
          have HBT2 := Lib.hid hbt; have HXX := Lib.hid hxx; clear hbt hx hxx hkc
          cases hch : chB f s x with
          | false =>
            rw [hch] at HBT2
            have HCH := Lib.hid hch; clear hch
            go_wp2_with (go_at_call 78; refine (l7Has_any B d m xs _ _ (KX.out.below HB3.out) (by omega)).mono ?_; rintro e w4 ⟨rfl, rfl⟩; rw [HBT2.out])
            go_round
            case rel => exact ⟨k + 1, z, by omega, by go_num, rfl, by omega, by rw [Hid, onN, HXX.out, HCH.out, if_neg (by decide), Nat.add_zero]; exact hz.out⟩
            case measure => simp [intOf]; omega
          | true =>
            rw [hch] at HBT2
            have HCH := Lib.hid hch; clear hch
            go_wp2_with (go_at_call 78; refine (l7Has_any B d m xs _ _ (KX.out.below HB3.out) (by omega)).mono ?_; rintro e w4 ⟨rfl, rfl⟩; rw [HBT2.out])
            go_round
            case rel => exact ⟨k + 1, z + 1, by omega, by go_num, by go_num, by omega, by rw [Hid, onN, HXX.out, HCH.out, if_pos rfl, hz.out]⟩
            case measure => simp [intOf]; omega
        · have hkn : k = nj := by omega
          have HZ : Hid (z = onN (chB f s) cy nj) := by rw [Hid, ← hkn]; exact hz.out
          clear hkn hz
          by_cases hz0 : z = 0
          · have hd : ((z : Int) == 0) = true := by simp [hz0]
            have HZ0 := Lib.hid hz0; clear hz0
            go_wp2_with fail
            go_round
            case rel => exact ⟨i + 1, q + 1, by omega, by go_num, by go_num, by omega, by rw [Hid, HBT.out, ← HZ.out, if_pos HZ0.out, hq.out]⟩
            case measure => simp [intOf]; omega
          · have hd : ((z : Int) == 0) = false := by simp; omega
            have HZ0 := Lib.hid hz0; clear hz0
            go_wp2_with fail
            go_round
            case rel => exact ⟨i + 1, q, by omega, by go_num, rfl, by omega, by rw [Hid, HBT.out, ← HZ.out, if_neg HZ0.out, Nat.add_zero]; exact hq.out⟩
            case measure => simp [intOf]; omega
    · have hiV : i = V := by omega
      have hqb : q = bn := by have := hq.out; rw [hiV, ← HVV.out, bareTo_all HM.out.turn, HBN.out] at this; exact this
      subst hqb
      clear hiV hq
      go_wp2_with fail
      go_loopw [12, 13] (fun dv _ wr => ∃ k : Nat, k ≤ n ∧ dv = .int .i64 k ∧ Hid (Own wr w.heap.size (.slice (some ⟨g, 0, none⟩) n cq) (facP t f s k)) ∧ Hid (Below g w3 wr)) (fun dv _ _ => n - (intOf dv).toNat)
      case atStart => exact ⟨0, Nat.zero_le _, rfl, by rw [← facP_zero, H'.out.1]; exact HO3.out, Below.refl _ _⟩
      case round =>
        obtain ⟨k, hk, rfl, ho, hb⟩ := hrel
        have hfl : (facP t f s k).length = n := (facP_len _ _ _ _).trans H'.out.1
        have HBR : Hid (Below w.heap.size w wr) := HB3.out.trans (hb.out.mono (by omega))
        by_cases hlt : k < n
        · have HRE : Hid (Rd wr A2 n (edgL f)) := HRL3.out.over hb.out HNB.out
          obtain ⟨ad, hA2, hc⟩ := HRE.out.at_ hlt
          subst hA2
          rw [gi_edgL (by rw [H'.out.1]; exact hlt)] at hc
          have hbt := HHS.out (edgN f k)
          rw [show s.testBit (edgN f k) = chB f s k from rfl] at hbt
          have HBT := Lib.hid hbt; clear hbt
          cases hch : chB f s k with
          | false =>
            rw [hch] at HBT
            have HCH := Lib.hid hch; have HFL1 := Lib.hid hfl; clear hch hfl
            go_wp2_with (go_at_call 78; refine (l7Has_any B d m xs _ _ (KX.out.below HBR.out) (by omega)).mono ?_; rintro e w4 ⟨rfl, rfl⟩; rw [HBT.out])
            go_roundw
            case rel => exact ⟨k + 1, by omega, by go_num, by rw [facP_no HCH.out]; exact ho.out, hb.out⟩
            case measure => simp [intOf]; omega
          | true =>
            rw [hch] at HBT
            have hx3 := HX3.out.over hb.out hgw
            have c0 := hx3.cell0
            have c1 := hx3.cell1
            obtain ⟨adf, rfl, hcf⟩ := (H'.out.below HBR.out).at_ hlt
            obtain ⟨z, hz, hzn, hgz⟩ := (HM.out.flip.into H'.out.1).nat (j := k) (by rw [H'.out.1]; exact hlt)
            have HRTT : Hid (Rd wr A n t) := H.out.below HBR.out
            obtain ⟨adt, hAt, hct⟩ := HRTT.out.at_ hzn
            subst hAt
            obtain ⟨y, hy, hyn, hgy⟩ := (HM.out.turn.into H.out.1).nat (j := z) (by rw [H.out.1]; exact hzn)
            rw [hz] at hcf
            rw [hy] at hct
            have hsy : gn (sidL t f s) k = y := by rw [gn_sidL s (by rw [H'.out.1]; exact hlt), if_pos hch, hgz, hgy]
            obtain ⟨kk, hkk, hfst⟩ := first_from HSV.out (c := chB f s) (d := k) (by rw [sidL_len, H'.out.1]; exact hlt) hch
            rw [sidL_len, H'.out.1] at hkk
            rw [hsy] at hfst
            obtain ⟨r0, hr0⟩ : ∃ r0, it (sidL t f s) kk y = r0 := ⟨_, rfl⟩
            have HRET : Hid (ret (sidL t f s) (chB f s) 12 (gn (sidL t f s) k) = r0) := by rw [Hid, hsy, ret_first 12 hfst (by omega), hr0]
            have hz0 : (0 : Int) ≤ (z : Int) := by omega
            have hzI : (z : Int) < (n : Int) := by omega
            have hk0 : (0 : Int) ≤ (k : Int) := by omega
            have hkI : (k : Int) < (n : Int) := by omega
            have HCH := Lib.hid hch; have HFL1 := Lib.hid hfl; have HFST := Lib.hid hfst; have HR0 := Lib.hid hr0
            clear hch hfl hz hgz hy hgy hsy hkk hfst hr0 hx3
            go_wp2_with (go_at_call 78; refine (l7Has_any B d m xs _ _ (KX.out.below HBR.out) (by omega)).mono ?_; rintro e w4 ⟨rfl, rfl⟩; rw [HBT.out])
            go_quiet (fail)
            clear hz0 hzI hk0 hkI hcf hct c1
            go_wp2_with fail
            go_loop [13] (fun nv => ∃ x q : Nat, x < n ∧ nv = .int .i64 x ∧ Hid (FirstAt (sidL t f s) (chB f s) x q) ∧ Hid (it (sidL t f s) q x = r0)) (fun nv => away (sidL t f s) (chB f s) (intOf nv).toNat)
            case atStart => exact ⟨y, kk, hyn, rfl, HFST, HR0⟩
            case round =>
              obtain ⟨x, q, hxn, rfl, hf, hr⟩ := hrel
              obtain ⟨ad5, e5, hc5⟩ := HRE.out.at_ hxn
              simp only [Option.some.injEq] at e5
              subst e5
              rw [gi_edgL (by rw [H'.out.1]; exact hxn)] at hc5
              have hbt := HHS.out (edgN f x)
              rw [show s.testBit (edgN f x) = chB f s x from rfl] at hbt
              cases q with
              | zero =>
                have hcx : chB f s x = true := hf.out.1
                rw [hcx] at hbt
                have hxr : x = r0 := hr.out
                have HXR := Lib.hid hxr
                have HBT2 := Lib.hid hbt
                have S := Own.stored (ho.out.drewN nq) HFL1.out k (x : Int)
                obtain ⟨g1, e1, -, hc1, hf1⟩ := ho.out.cellAt HFL1.out hlt
                simp only [Option.some.injEq, Addr.mk.injEq, and_true] at e1
                subst e1
                have HST := Lib.hid S
                clear hbt hcx hxr S hr hf
                go_wp2_with (go_at_call 78; refine (l7Has_any B d m xs _ _ ((KX.out.below HBR.out).drewN _) (by omega)).mono ?_; rintro e w4 ⟨rfl, rfl⟩; rw [HBT2.out])
                go_roundw
                case rel => exact ⟨k + 1, by omega, by go_num, by rw [← facP_yes HCH.out (by rw [H'.out.1]; exact hlt) (HRET.out.trans HXR.out.symm)]; exact HST.out.1, (below_drewN hb.out _).setCell (Nat.le_refl _) _⟩
                case measure => simp [intOf]; omega
              | succ q =>
                obtain ⟨hcx, hnx⟩ := hf.out.next
                rw [hcx] at hbt
                have HBT2 := Lib.hid hbt
                obtain ⟨ad6, e6, hc6⟩ := HRTT.out.at_ hxn
                simp only [Option.some.injEq] at e6
                subst e6
                obtain ⟨y2, hy2, hyn2, hgy2⟩ := (HM.out.turn.into H.out.1).nat (j := x) (by rw [H.out.1]; exact hxn)
                rw [hy2] at hc6
                have hs2 : gn (sidL t f s) x = y2 := by rw [gn_sidL s (by rw [H'.out.1]; exact hxn), if_neg (by rw [hcx]; decide), hgy2]
                rw [hs2] at hnx
                have HNX := Lib.hid hnx
                have HR2 : Hid (it (sidL t f s) q y2 = r0) := by have := hr.out; rwa [it_succ', hs2] at this
                have HAW : Hid (away (sidL t f s) (chB f s) y2 < away (sidL t f s) (chB f s) x) := by rw [Hid, away_eq hnx, away_eq hf.out]; omega
                clear hbt hcx hnx hy2 hgy2 hs2 hr hf
                go_wp2_with (go_at_call 78; refine (l7Has_any B d m xs _ _ ((KX.out.below HBR.out).drewN _) (by omega)).mono ?_; rintro e w4 ⟨rfl, rfl⟩; rw [HBT2.out])
                go_round
                case rel => exact ⟨y2, q, hyn2, rfl, HNX, HR2⟩
                case measure => simpa [intOf] using HAW.out
        · have hkn : k = n := by omega
          have HF3 : Hid (Rd wr (some ⟨g, 0, none⟩) n (facS t f s)) := by
            have := ho.out
            rw [hkn, ← H'.out.1, facP_all, H'.out.1] at this
            exact this.rd ((retL_len _ _).trans ((sidL_len _ _ _).trans H'.out.1))
          have g1 : IntKind.i64.wrap (2 * (m : Int)) = 2 * (m : Int) := IntWalk.i64_in _ (by omega)
          clear hkn
          go_wp2_with fail
          refine (l1Cycles_any _ n cq (facS t f s) wr HF3.out (retL_vld HSV.out)).mono ?_
          rintro e w4 ⟨v, rfl, o, bl⟩
          obtain ⟨A5, c5, rfl⟩ := o.form_len HCC.out
          have HB4 := Lib.hid (HBR.out.trans (bl.mono HBR.out.size))
          clear o bl
          go_wp2_with fail
          go_ret
          exact ⟨ret_int HEQ.out, HB4.out⟩

end Go.Proofs.Ytcenffndclpjoaa

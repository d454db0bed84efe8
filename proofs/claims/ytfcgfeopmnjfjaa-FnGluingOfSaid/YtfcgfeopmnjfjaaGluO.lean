/-
  GluingOf: of a map with one face, the sides named along the face: the model's and the program's.
-/
import Derived.Test.YtfcgfeopmnjfjaaFormR
import Derived.Test.YtfcgfeopmnjfjaaCounts
import Derived.Test.YtfcgfeopmnjfjaaConj
namespace Go.Proofs.Ytfcgfeopmnjfjaa
open Go.RowKit

/-- A permutation of one cycle leads from each point to all points. -/
theorem one_ring {p : List Int} (hp : Vld p) (h1 : (cyclesL p).length = 1) {d : Nat} (hd : d < p.length) : Prm p.length (fun i => it p i d) := by
  obtain ⟨c, hc⟩ := List.length_eq_one_iff.1 h1
  have hs := cyclesL_spec hp
  have hcc : Cyc p c := hs.1 c (by rw [hc]; simp)
  have hlen : p.length = c.length := by
    have := sum_cycles hp (fun _ => 1)
    rw [hc, sm_const] at this
    simp only [smCs, smC, sm_const] at this
    omega
  obtain ⟨c', hc', j0, hj0, he⟩ := hs.2.1 d hd
  rw [hc] at hc'
  simp only [List.mem_singleton] at hc'
  subst hc'
  refine ⟨fun i _ => it_lt hp i hd, fun i j hi hj e => ?_⟩
  have e' : it p i d = it p j d := e
  rw [← he, hcc.it i hj0, hcc.it j hj0] at e'
  have hpos : 0 < c'.length := hcc.pos
  have h2 := gn_apart hcc (Nat.mod_lt _ hpos) (Nat.mod_lt _ hpos) e'
  rw [hlen] at hi hj
  have m : ∀ x, x < c'.length → (j0 + x) % c'.length = if j0 + x < c'.length then j0 + x else j0 + x - c'.length := by
    intro x hx
    split
    · rename_i q; exact Nat.mod_eq_of_lt q
    · rename_i q; rw [Nat.mod_eq_sub_mod (by omega), Nat.mod_eq_of_lt (by omega)]
  rw [m i hi, m j hj] at h2
  split at h2 <;> split at h2 <;> omega

/-- The side of each dart. -/
def sideL (p : List Int) (d : Nat) : List Int := tab p.length fun x => ((((List.range p.length).find? fun i => it p i d == x).getD 0 : Nat) : Int)
theorem sideL_len (p : List Int) (d : Nat) : (sideL p d).length = p.length := tab_len _ _
theorem sideL_at {p : List Int} {d : Nat} (h : Prm p.length (fun i => it p i d)) {i : Nat} (hi : i < p.length) : gi (sideL p d) (it p i d) = i := by
  rw [sideL, gi_tab (h.lt i hi)]
  have : (List.range p.length).find? (fun j => it p j d == it p i d) = some i := by
    rw [List.find?_range_eq_some]
    refine ⟨by simp, List.mem_range.2 hi, fun j hj => ?_⟩
    have hne : ¬ (it p j d = it p i d) := fun e => by have := h.inj j i (by omega) hi e; omega
    simp [hne]
  rw [this]; rfl
theorem side_eq {p zs : List Int} {d : Nat} (h : Prm p.length (fun i => it p i d)) (hl : zs.length = p.length) (ha : ∀ i, i < p.length → gi zs (it p i d) = i) : zs = sideL p d := by
  refine eq_of_gi (by rw [hl, sideL_len]) (fun j hj => ?_)
  rw [hl] at hj
  obtain ⟨i, hi, rfl⟩ := h.surj hj
  rw [ha i hi, sideL_at h hi]
theorem sideL_vld {p : List Int} {d : Nat} (hp : Vld p) (h : Prm p.length (fun i => it p i d)) : Vld (sideL p d) := by
  have hl := sideL_len p d
  refine ⟨by rw [hl]; exact hp.1, by rw [hl]; exact hp.2.1, fun j hj => ?_, fun j hj i hij e => ?_⟩
  · rw [hl] at hj ⊢
    obtain ⟨k, hk, rfl⟩ := h.surj hj
    show 0 ≤ gi (sideL p d) (it p k d) ∧ gi (sideL p d) (it p k d) < p.length
    rw [sideL_at h hk]; omega
  · rw [hl] at hj
    obtain ⟨k, hk, rfl⟩ := h.surj hj
    obtain ⟨k', hk', rfl⟩ := h.surj (show i < p.length by omega)
    have e' : gi (sideL p d) (it p k' d) = gi (sideL p d) (it p k d) := e
    rw [sideL_at h hk, sideL_at h hk'] at e'
    have : k = k' := by omega
    subst this; omega

/-- Whether a map and a dart make a gluing. -/
noncomputable def isOf (t f : List Int) (d : Int) : Bool := mapV t f && dartB t.length d && decide (t.length ≤ 10) && decide (cntF t f = 1)
theorem isOf_iff {t f : List Int} {d : Int} : isOf t f d = true ↔ IsMap t f ∧ (0 ≤ d ∧ d < t.length) ∧ t.length ≤ 10 ∧ cntF t f = 1 := by
  simp [isOf, mapV_iff, dartB, and_assoc]
noncomputable def gofR (t f : List Int) (d : Int) : Bool × List Int := if isOf t f d = true then (true, conjL f (sideL (mulL f t) d.toNat)) else (false, [])
theorem gofR_len {t f ys : List Int} {d : Int} {ok : Bool} (h : gofR t f d = (ok, ys)) : ys.length ≤ 12 := by
  unfold gofR at h
  split at h
  · rename_i hg
    injection h with _ h
    have hm := (isOf_iff.1 hg).1
    rw [← h, conjL_len, sideL_len, mulL_len]; exact hm.flip.2.1
  · injection h with _ h; rw [← h]; simp

theorem gofR_no {t f ys : List Int} {d : Int} {ok : Bool} (hR : gofR t f d = (ok, ys)) (h : isOf t f d = false) : ok = false ∧ ys = [] := by
  rw [gofR, h] at hR; simpa [eq_comm] using hR
theorem dartB_iff {n : Nat} {d : Int} : dartB n d = true ↔ 0 ≤ d ∧ d < n := by simp [dartB]

set_option maxHeartbeats 3200000 in
theorem spec_gofR (w : World) (A A' : Option Addr) (n n' c c' : Nat) (t f : List Int) (h : Rd w A n t) (h' : Rd w A' n' f) (hn : n ≤ 1048576) (hn' : n' ≤ 1048576) (x : Int) (hw : (Lit.int .i64 x).wf = true) {ok : Bool} {ys : List Int} (hR : gofR t f x = (ok, ys)) :
    Calls Try.prog 31 #[.agg #[.slice A n c, .slice A' n' c'], .int .i64 x] w fun e w' => ∃ v, e = .returned (.tuple #[v, .bool ok]) ∧ Own w' w.heap.size v ys ∧ Below w.heap.size w w' := by
  obtain ⟨W0, hW0, hx, hb, -⟩ := Box.local_ w 36 (.slice A n c) (.slice A' n' c')
  have c0 := hx.cell0
  have c1 := hx.cell1
  have HX := Lib.hid hx; have HB := Lib.hid hb; have H := Lib.hid h; have H' := Lib.hid h'; have HR := Lib.hid hR; clear hx hb h h' hR
  by_cases hv : (mapV t f && dartB n x) = true
  · have hv2 := hv
    rw [Bool.and_eq_true] at hv2
    have hm := mapV_iff.1 hv2.1
    have hd := dartB_iff.1 hv2.2
    have HV := Lib.hid hv; have HM := Lib.hid hm
    obtain rfl : n = n' := hm.same H.out.1 H'.out.1
    have hn12 : n ≤ 12 := by rw [← H.out.1]; exact hm.turn.2.1
    obtain ⟨d, rfl⟩ := Int.eq_ofNat_of_zero_le hd.1
    have hdn : d < n := by omega
    clear hv hv2 hm hd
    by_cases h10 : 10 < n
    · have hd1 : decide ((10 : Int) < n) = true := by simp; omega
      obtain ⟨rfl, rfl⟩ := gofR_no HR.out (by rw [Bool.eq_false_iff]; intro e; have := (isOf_iff.1 e).2.2.1; rw [H.out.1] at this; omega)
      go_enter Try.func31, Try.ntmps31
      go_wp2_with fail
      refine (l2Dart_lit W0 A A' n n c c' t f (H.out.below HB.out) (H'.out.below HB.out) hn hn' (d : Int) HV.out).mono ?_
      rintro e w1 ⟨rfl, b⟩
      have hx := HX.out.below b
      have c0 := hx.cell0
      have c1 := hx.cell1
      have HB1 := Lib.hid (HB.out.trans (b.mono HB.out.size)); clear b hx
      go_wp2_with fail
      go_ret2
      exact ⟨_, rfl, Own.empty HB1.out.size, HB1.out.alloc HB1.out.size _⟩
    have hd1 : decide ((10 : Int) < n) = false := by simp; omega
    obtain ⟨V, hV⟩ : ∃ V, cntV t = V := ⟨_, rfl⟩
    obtain ⟨E, hE⟩ : ∃ E, cntE f = E := ⟨_, rfl⟩
    obtain ⟨Fn, hF⟩ : ∃ Fn, cntF t f = Fn := ⟨_, rfl⟩
    have HL : Hid ([(cntV t : Int), (cntE f : Int), (cntF t f : Int)] = [(V : Int), (E : Int), (Fn : Int)]) := by rw [Hid, hV, hE, hF]
    have HF := Lib.hid hF; clear hV hE hF
    by_cases h1 : ¬ Fn = 1
    · have hd2 : ((Fn : Int) != 1) = true := by simp; omega
      obtain ⟨rfl, rfl⟩ := gofR_no HR.out (by rw [Bool.eq_false_iff]; intro e; have := (isOf_iff.1 e).2.2.2; rw [HF.out] at this; omega)
      go_enter Try.func31, Try.ntmps31
      go_wp2_with fail
      refine (l2Dart_lit W0 A A' n n c c' t f (H.out.below HB.out) (H'.out.below HB.out) hn hn' (d : Int) HV.out).mono ?_
      rintro e w1 ⟨rfl, b⟩
      have hx := HX.out.below b
      have c0 := hx.cell0
      have c1 := hx.cell1
      have HB1 := Lib.hid (HB.out.trans (b.mono HB.out.size)); have HX1 := Lib.hid hx; clear b hx
      go_wp2_with fail
      refine (l2Counts_any A A' n c c' t f w1 (H.out.below HB1.out) (H'.out.below HB1.out) HM.out).mono ?_
      rintro e w2 ⟨v, rfl, o, b⟩
      rw [HL.out] at o
      obtain ⟨A3, c3, rfl, r, -⟩ := o.form' (n := 3) rfl
      obtain ⟨g, rfl, -, r0, -⟩ := o.cellAt (k := 0) rfl (by omega)
      obtain ⟨g2, e2, -, r2, -⟩ := o.cellAt (k := 2) rfl (by omega)
      simp only [Option.some.injEq, Addr.mk.injEq, and_true] at e2
      subst e2
      have hx := HX1.out.below b
      have c0 := hx.cell0
      have c1 := hx.cell1
      have HB2 := Lib.hid (HB1.out.trans (b.mono HB1.out.size)); have HX2 := Lib.hid hx; clear b o r r0 hx
      rw [show gi [(V : Int), (E : Int), (Fn : Int)] 2 = Fn from rfl] at r2
      go_wp2_with fail
      go_ret2
      exact ⟨_, rfl, Own.empty HB2.out.size, HB2.out.alloc HB2.out.size _⟩
    · have hd2 : ((Fn : Int) != 1) = false := by simp; omega
      have h1' : Fn = 1 := by omega
      have hof : isOf t f (d : Int) = true := isOf_iff.2 ⟨HM.out, ⟨by omega, by rw [H.out.1]; omega⟩, by rw [H.out.1]; omega, HF.out.trans h1'⟩
      obtain ⟨rfl, rfl⟩ : ok = true ∧ ys = conjL f (sideL (mulL f t) d) := by have := HR.out; rw [gofR, if_pos hof, Int.toNat_natCast] at this; simpa [eq_comm] using this
      have HMU := Lib.hid (HM.out.flip.mulL HM.out.turn HM.out.len.symm)
      have hfl : (mulL f t).length = n := (mulL_len f t).trans H'.out.1
      have HFL := Lib.hid hfl
      have HPR := Lib.hid (one_ring HMU.out (HF.out.trans h1') (d := d) (by rw [hfl]; exact hdn))
      obtain ⟨i0, hinf, hz0, hz1, hz2⟩ := info_parts info_int
      clear hof h1' hfl h1
      go_enter Try.func31, Try.ntmps31
      go_wp2_with fail
      refine (l2Dart_lit W0 A A' n n c c' t f (H.out.below HB.out) (H'.out.below HB.out) hn hn' (d : Int) HV.out).mono ?_
      rintro e w1 ⟨rfl, b⟩
      have hx := HX.out.below b
      have c0 := hx.cell0
      have c1 := hx.cell1
      have HB1 := Lib.hid (HB.out.trans (b.mono HB.out.size)); have HX1 := Lib.hid hx; clear b hx
      go_wp2_with fail
      refine (l2Counts_any A A' n c c' t f w1 (H.out.below HB1.out) (H'.out.below HB1.out) HM.out).mono ?_
      rintro e w2 ⟨v, rfl, o, b⟩
      rw [HL.out] at o
      obtain ⟨A3, c3, rfl, r, -⟩ := o.form' (n := 3) rfl
      obtain ⟨g, rfl, -, r0, -⟩ := o.cellAt (k := 0) rfl (by omega)
      obtain ⟨g2, e2, -, r2, -⟩ := o.cellAt (k := 2) rfl (by omega)
      simp only [Option.some.injEq, Addr.mk.injEq, and_true] at e2
      subst e2
      have hx := HX1.out.below b
      have c0 := hx.cell0
      have c1 := hx.cell1
      have HB2 := Lib.hid (HB1.out.trans (b.mono HB1.out.size)); have HX2 := Lib.hid hx; clear b o r r0 hx
      rw [show gi [(V : Int), (E : Int), (Fn : Int)] 2 = Fn from rfl] at r2
      have hn1 : 1 ≤ n := by omega
      go_wp2_with (at_make; refine wpList_make_full _ rfl _ _ 30 rfl w2.heap.size 3 i0 (.int .i64 0) 1 Try.underlying30 hinf hz0 hz1 .i64 .i64 _ _ n rfl rfl rfl rfl (by rw [hz2]; omega) (by unfold maxLen; omega) (Nat.le_refl _) ?_; intro w3 hown1 hgrow1; have hb1 := below_of_grown hgrow1 (Nat.le_refl _) (fun k hk => by cases hk); have ho1 := Lib.hid (Own.made hown1); have hx := HX2.out.below hb1; have c0 := hx.cell0; have c1 := hx.cell1; have HB3 := Lib.hid (HB2.out.trans (hb1.mono HB2.out.size)); have HX3 := Lib.hid hx; have hs2 := HB2.out.size; have hlt2 := HX2.out.lt; clear hown1 hgrow1 hz0 hz1 hz2 hinf hx hb1 r2)
      refine (l2Faces_any A A' n c c' t f w3 (H.out.below HB3.out) (H'.out.below HB3.out) HM.out.flip).mono ?_
      rintro e w4 ⟨v, rfl, o, b⟩
      obtain ⟨A3, c3, rfl, -, -⟩ := o.form' HFL.out
      have HNE : Hid ((Value.slice A3 n c3).ownBlock = none ∨ (Value.slice A3 n c3).ownBlock ≠ some w2.heap.size) := ne_of' (m := w3.heap.size) (v' := .slice (some ⟨w2.heap.size, 0, none⟩) n n) (fun k hk => (o.lt k hk).1) (fun k hk => by have := ho1.out.lt k hk; exact this.2)
      have ho2 := Lib.hid (ho1.out.below b)
      have HO3 : Hid (Own w4 w3.heap.size (.slice A3 n c3) (mulL f t)) := o
      have hx := HX3.out.below b
      have hb4 : Below w2.heap.size w3 w4 := b.mono (by have := HB3.out.size; have := ho1.out.lt w2.heap.size rfl; omega)
      have HB4 := Lib.hid (HB3.out.trans (b.mono HB3.out.size)); have HX4 := Lib.hid hx
      clear b o hx ho1 hb4
      go_wp2_with fail
      go_loopw [8, 9] (fun dv iv wr => ∃ (k : Nat) (zs : List Int), k ≤ n ∧ iv = .int .i64 k ∧ dv = .int .i64 (it (mulL f t) k d : Nat) ∧ Hid (Own wr w2.heap.size (.slice (some ⟨w2.heap.size, 0, none⟩) n n) zs) ∧ Hid (zs.length = n) ∧ Hid (Own wr w3.heap.size (.slice A3 n c3) (mulL f t)) ∧ Hid (Box wr w.heap.size 36 (.slice A n c) (.slice A' n c')) ∧ Hid (Below w.heap.size w wr) ∧ Hid (∀ j, j < k → gi zs (it (mulL f t) j d) = j)) (fun _ iv _ => n - (intOf iv).toNat)
      case atStart => exact ⟨0, _, Nat.zero_le _, rfl, rfl, ho2, by simp [Hid], HO3, HX4, HB4, fun j hj => absurd hj (by omega)⟩
      case round =>
        clear c0 c1
        obtain ⟨k, zs, hk, rfl, rfl, ho, hzl, hf3, hbx, hbb, hall⟩ := hrel
        by_cases hlt : k < n
        · obtain ⟨y, hy⟩ : ∃ y, it (mulL f t) k d = y := ⟨_, rfl⟩
          have hyn : y < n := by rw [← hy]; have := HPR.out.lt k (by rw [HFL.out]; exact hlt); rw [HFL.out] at this; exact this
          rw [hy]
          obtain ⟨g, hg, _, hc3, hfr3⟩ := ho.out.cellAt hzl.out hyn
          simp only [Option.some.injEq, Addr.mk.injEq, and_true] at hg
          subst hg
          have HS := Lib.hid (ho.out.stored hzl.out y k)
          have hf4 := hf3.out.grown HS.out.2 HNE.out
          obtain ⟨ad, rfl, hc4⟩ := (hf4.rd HFL.out).at_ hyn
          have hgy : gi (mulL f t) y = (it (mulL f t) (k + 1) d : Nat) := by
            rw [HMU.out.gi_gn (by rw [HFL.out]; exact hyn), it, hy]
          rw [hgy] at hc4
          have HF4 := Lib.hid hf4
          have HBX : Hid (Box (wr.setCell ⟨w2.heap.size, y, none⟩ (.int .i64 k)) w.heap.size 36 (.slice A n c) (.slice A' n c')) := by
            have := HS.out.2.block w.heap.size hbx.out.lt (by simp; omega)
            exact this.trans hbx.out
          have HBB := Lib.hid (hbb.out.grown HS.out.2 hbb.out.size (fun k hk => by cases hk; omega))
          have HY := Lib.hid hy
          clear hf4 hgy hy
          go_wp2_with fail
          go_roundw
          case rel =>
            refine ⟨k + 1, _, by omega, by go_num, rfl, HS.out.1, by simpa [Hid] using hzl.out, HF4, HBX, HBB, fun j hj => ?_⟩
            rw [gi_set _ _ _ _ (by rw [hzl.out]; exact hyn)]
            by_cases e : j = k
            · rw [if_pos (by rw [e, HY.out]), e]
            · rw [if_neg (fun e' => e (HPR.out.inj j k (by rw [HFL.out]; omega) (by rw [HFL.out]; exact hlt) (e'.trans HY.out.symm)))]; exact hall.out j (by omega)
          case measure => simp [intOf]; omega
        · obtain rfl : k = n := by omega
          have ez : zs = sideL (mulL f t) d := side_eq HPR.out (by rw [hzl.out, HFL.out]) (fun i hi => by rw [HFL.out] at hi; exact hall.out i hi)
          subst ez
          have hsv := sideL_vld HMU.out HPR.out
          have HCR : Hid (conjR f (sideL (mulL f t) d) = (true, conjL f (sideL (mulL f t) d))) := by
            rw [Hid, conjR, if_pos (both_iff.2 ⟨HM.out.flip, hsv, by rw [hzl.out, H'.out.1]⟩)]
          have c0 := hbx.out.cell0
          have c1 := hbx.out.cell1
          clear hsv
          go_wp2_with fail
          refine (spec_conjR wr A' c' k f (H'.out.below hbb.out) hn (some ⟨w2.heap.size, 0, none⟩) k k (sideL (mulL f t) d) (ho.out.rd hzl.out) hn HCR.out).mono ?_
          rintro e w5 ⟨v, rfl, o, b⟩
          have HO5 := Lib.hid (o.mono hbb.out.size); have HB5 := Lib.hid (hbb.out.trans (b.mono hbb.out.size)); clear o b
          go_wp2_with fail
          go_ret2
          exact ⟨_, rfl, HO5.out, HB5.out⟩
  · have hv' : (mapV t f && dartB n x) = false := by simpa using hv
    obtain ⟨rfl, rfl⟩ := gofR_no HR.out (by rw [Bool.eq_false_iff]; intro e; exact hv (by have := isOf_iff.1 e; rw [mapV_iff.2 this.1, Bool.true_and, dartB_iff]; rw [H.out.1] at this; exact this.2.1))
    have HV := Lib.hid hv'; clear hv hv'
    go_enter Try.func31, Try.ntmps31
    go_wp2_with fail
    refine (l2Dart_lit W0 A A' n n' c c' t f (H.out.below HB.out) (H'.out.below HB.out) hn hn' x HV.out).mono ?_
    rintro e w1 ⟨rfl, b⟩
    have HB1 := Lib.hid (HB.out.trans (b.mono HB.out.size)); clear b
    go_wp2_with fail
    go_ret2
    exact ⟨_, rfl, Own.empty HB1.out.size, HB1.out.alloc HB1.out.size _⟩

end Go.Proofs.Ytfcgfeopmnjfjaa

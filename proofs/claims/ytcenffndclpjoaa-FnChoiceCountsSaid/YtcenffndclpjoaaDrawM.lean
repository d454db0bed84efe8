/-
  The draw of a map: two lists of at most twelve numbers each.
-/
import Derived.Test.YtcenffndclpjoaaLawMap
import Derived.Test.YtcenffndclpjoaaSpecMap
namespace Go.Proofs.Ytcenffndclpjoaa
open Go.RowKit

/-- A list that leads from each of two neighbors of a permutation to the other is a flip. -/
theorem pairs_flip {p fl : List Int} (hp : Vld p) (hl : fl.length = p.length) {h : Nat} (hh : p.length = 2 * h)
    (hall : ∀ j, j < h → gi fl (gn p (2 * j)) = (gn p (2 * j + 1) : Int) ∧ gi fl (gn p (2 * j + 1)) = (gn p (2 * j) : Int)) : Vld fl ∧ Paired fl := by
  have key : ∀ v, v < p.length → ∃ u, u < p.length ∧ u ≠ v ∧ gi fl v = (u : Int) ∧ gi fl u = (v : Int) := fun v hv => by
    obtain ⟨i, hi, rfl⟩ := hp.surj hv
    rcases Nat.mod_two_eq_zero_or_one i with hm | hm
    · obtain ⟨j, rfl⟩ : ∃ j, i = 2 * j := ⟨i / 2, by omega⟩
      have := hall j (by omega)
      exact ⟨gn p (2 * j + 1), hp.gn_lt (by omega), fun e => by have := hp.inj (by omega) (by omega) e; omega, this.1, this.2⟩
    · obtain ⟨j, rfl⟩ : ∃ j, i = 2 * j + 1 := ⟨i / 2, by omega⟩
      have := hall j (by omega)
      exact ⟨gn p (2 * j), hp.gn_lt (by omega), fun e => by have := hp.inj (by omega) (by omega) e; omega, this.2, this.1⟩
  refine ⟨⟨by rw [hl]; exact hp.1, by rw [hl]; exact hp.2.1, fun v hv => ?_, fun v hv u huv e => ?_⟩, fun v hv => ?_⟩
  · rw [hl] at hv ⊢
    obtain ⟨u, hu, -, h1, -⟩ := key v hv
    omega
  · rw [hl] at hv
    obtain ⟨a, -, -, h1, h2⟩ := key v hv
    obtain ⟨b, -, -, h3, h4⟩ := key u (by omega)
    have e1 : a = b := by omega
    rw [e1, h4] at h2
    omega
  · rw [hl] at hv
    obtain ⟨u, -, hne, h1, h2⟩ := key v hv
    rw [gn_of h1, gn_of h2]
    exact ⟨hne, rfl⟩
/-- Two numbers of a permutation exchanged. -/
theorem swap_vld {t : List Int} (h : Vld t) {k : Nat} (hk : k < t.length) : Vld ((t.set 0 (gi t k)).set k (gi t 0)) ∧ ((t.set 0 (gi t k)).set k (gi t 0)).length = t.length := by
  have hl : ((t.set 0 (gi t k)).set k (gi t 0)).length = t.length := by simp
  have hg : ∀ j, gi ((t.set 0 (gi t k)).set k (gi t 0)) j = gi t (if j = k then 0 else if j = 0 then k else j) := fun j => by
    rw [gi_set _ _ _ _ (by simpa using hk), gi_set _ _ _ _ h.1]
    by_cases e1 : j = k
    · rw [if_pos e1, if_pos e1]
    · rw [if_neg e1, if_neg e1]
      by_cases e2 : j = 0
      · rw [if_pos e2, if_pos e2]
      · rw [if_neg e2, if_neg e2]
  have h1 := h.1
  refine ⟨⟨by rw [hl]; exact h.1, by rw [hl]; exact h.2.1, fun j hj => ?_, fun j hj i hij e => ?_⟩, hl⟩
  · rw [hl] at hj ⊢
    rw [hg]
    exact h.2.2.1 _ (by split <;> first | omega | (split <;> omega))
  · rw [hl] at hj
    rw [hg, hg] at e
    have hb : ∀ q, q < t.length → (if q = k then 0 else if q = 0 then k else q) < t.length := fun q hq => by split <;> first | omega | (split <;> omega)
    have e2 : gn t (if i = k then 0 else if i = 0 then k else i) = gn t (if j = k then 0 else if j = 0 then k else j) := by unfold gn; rw [e]
    have e3 := h.inj (hb i (by omega)) (hb j hj) e2
    split at e3 <;> split at e3 <;> (try split at e3) <;> (try split at e3) <;> omega
theorem not_whole {t f : List Int} (h : ¬ Whole t f) : ∃ j, j < t.length ∧ orb t f j ≠ 0 := by
  unfold Whole at h
  by_cases hc : ∃ j, j < t.length ∧ orb t f j ≠ 0
  · exact hc
  · exact absurd (fun j hj => by
      by_cases e : orb t f j = 0
      · exact e
      · exact absurd ⟨j, hj, e⟩ hc) h
theorem Rd.tail_ {w : World} {g n : Nat} {t : List Int} (h : Rd w (some ⟨g, 0, none⟩) n t) (hn : 0 < n) : Rd w (some ⟨g, 1, none⟩) (n - 1) (t.drop 1) := by
  rw [show (⟨g, 1, none⟩ : Addr) = (⟨g, 0, none⟩ : Addr).add 1 from by unfold Addr.add; simp]
  refine ⟨by rw [List.length_drop, h.1], fun _ => ⟨_, rfl, fun j hj => ?_⟩⟩
  obtain ⟨ad, e, hc⟩ := h.2 hn
  injection e with e
  subst e
  have h1 := hc (1 + j) (by omega)
  have e1 : gi (t.drop 1) j = gi t (1 + j) := by simp [gi, List.getD, Nat.add_comm]
  rw [e1]
  rw [show ((⟨g, 0, none⟩ : Addr).add 1).add j = (⟨g, 0, none⟩ : Addr).add (1 + j) from by unfold Addr.add; simp]
  exact h1

theorem Gr.drew {rb : Nat} {a b : World} (h : Gr rb a b) : Gr rb a b.drew := by
  have h' : a.grownBy b (some rb) := h
  exact ⟨h'.os, h'.tape, h'.output, h'.size, h'.block⟩
theorem Gr.drewN {rb : Nat} {a b : World} (h : Gr rb a b) (k : Nat) : Gr rb a (b.drewN k) := by
  have h' : a.grownBy b (some rb) := h
  exact ⟨h'.os, h'.tape, h'.output, h'.size, h'.block⟩
theorem Box.gr {w w' : World} {b g : Nat} {t : TypeId} {u u' : Value} (h : Box w b t u u') (hg : Gr g w w') (hne : b ≠ g) : Box w' b t u u' := (World.grownBy.block hg b h.lt (by intro e; injection e with e; exact hne e)).trans h
theorem Own.gr' {w w' : World} {lo b g n c : Nat} {xs : List Int} (h : Own w lo (.slice (some ⟨b, 0, none⟩) n c) xs) (hg : Gr g w w') (hne : b ≠ g) : Own w' lo (.slice (some ⟨b, 0, none⟩) n c) xs :=
  h.grown hg (.inr (fun e => by simp [Value.ownBlock] at e; exact hne e))

theorem Own.cap_le {w : World} {lo n c g : Nat} {xs : List Int} (h : Own w lo (.slice (some ⟨g, 0, none⟩) n c) xs) (hx : xs.length = n) (_hn : 0 < n) : n ≤ c := by
  subst hx
  obtain ⟨_, hc⟩ := h
  rcases hc with ⟨hv, hn⟩ | ⟨g, cap, cur, hv, hg, _, hle, _⟩
  · cases hv
  · simp only [Value.slice.injEq] at hv
    obtain ⟨-, -, rfl⟩ := hv
    exact hle
theorem fin_map {w Wf : World} {rb x n n' c c' q b : Nat} {A A' : Option Addr} {t f : List Int} {u u' : Value} (hx : Box Wf x 25 u u') (hxw : w.heap.size ≤ x) (hrb : rb < x) (r1 : Rd Wf A n t) (r2 : Rd Wf A' n' f)
    (a1 : ∀ ad : Addr, A = some ad → x < ad.block) (a2 : ∀ ad : Addr, A' = some ad → x < ad.block) (hr : Reads Wf rb q) (hq : q ≤ b) (hg : Gr rb w Wf) :
    ∃ W', (Wf.setCell ⟨x, 0, none⟩ (.slice A n c)).setCell ⟨x, 1, none⟩ (.slice A' n' c') = W' ∧ W'.cell? ⟨x, 0, none⟩ = some (.slice A n c) ∧ W'.cell? ⟨x, 1, none⟩ = some (.slice A' n' c') ∧ Rd W' A n t ∧ Rd W' A' n' f ∧ (∃ q', q' ≤ b ∧ Reads W' rb q') ∧ Gr rb w W' := by
  obtain ⟨hq1, hq2⟩ := hx.store2 (.slice A n c) (.slice A' n' c')
  have hlt := hx.lt
  exact ⟨_, rfl, hq1.cell0, hq1.cell1, r1.gr hq2 (fun ad e _ => by have := a1 ad e; omega), r2.gr hq2 (fun ad e _ => by have := a2 ad e; omega), ⟨q, hq, hr.below ((Gr.below hq2 (by omega)).mono (by omega))⟩, hg.own hq2 (fun k hk => by injection hk with hk; omega)⟩

set_option maxRecDepth 100000 in
set_option maxHeartbeats 3200000 in
theorem map_any (w : World) (rb q m : Nat) (hr : Reads w rb q) (hq : q ≤ 5000) (hm0 : 1 ≤ m) (hm : m ≤ 6) :
    Calls Try.prog 38 #[.pointer (some ⟨rb, 0, none⟩), .int .i64 m] w fun e w' => ∃ A A' n n' c c' t f, e = .returned (.agg #[.slice A n c, .slice A' n' c']) ∧ Rd w' A n t ∧ Rd w' A' n' f ∧ n ≤ 12 ∧ n' ≤ 12 ∧ (∀ ad : Addr, A = some ad → w.heap.size < ad.block) ∧ (∀ ad : Addr, A' = some ad → w.heap.size < ad.block) ∧ (∃ q', q' ≤ q + 1000 ∧ Reads w' rb q') ∧ Gr rb w w' := by
  obtain ⟨i0, hinf, hz0, hz1, hz2⟩ := info_parts info_int
  have hlt0 := hr.lt
  obtain ⟨W0, hW0, hx0, hb0, hs0⟩ := Box.local_ w 25 (.slice none 0 0) (.slice none 0 0)
  obtain ⟨x, hx⟩ : ∃ x, w.heap.size = x := ⟨_, rfl⟩
  have HR0 := Lib.hid (hr.below (hb0.mono (by omega)))
  have HX0 : Hid (Box W0 x 25 (.slice none 0 0) (.slice none 0 0)) := by rw [← hx]; exact hx0
  have HG0 : Hid (Gr rb w W0) := (Gr.refl rb w).of_below hb0
  rw [hx] at hlt0 hs0
  have HXE := Lib.hid hx; clear hx hr hx0 hb0
  go_enter Try.func38, Try.ntmps38
  go_wp2_with fail
  rw [HXE.out]
  refine (pick_reads W0 rb q HR0.out (by omega) (m : Int) (by omega) (by omega)).mono ?_
  rintro e w1 ⟨z, rfl, hz, r1, g1⟩
  have hs1 := g1.size
  have HX1 : Hid (Box w1 x 25 (.slice none 0 0) (.slice none 0 0)) := (World.grownBy.block g1 x HX0.out.lt (by intro e; injection e with e; omega)).trans HX0.out
  have HG1 := Lib.hid (HG0.out.trans g1)
  have HR1 := Lib.hid r1; clear r1 g1 HR0 HX0 HG0
  obtain ⟨H, hH⟩ : ∃ H, z + 1 = H := ⟨_, rfl⟩
  obtain ⟨N, hN⟩ : ∃ N, 2 * H = N := ⟨_, rfl⟩
  have hN12 : N ≤ 12 := by omega
  have hN2 : 2 ≤ N := by omega
  have e1 : (2 : Int) * (1 + (z : Int)) = (N : Int) := by omega
  go_wp2_with fail
  clear e1 hz
  refine (perm_pl w1 rb (q + 1) N HR1.out (by omega) (by omega)).mono ?_
  rintro e w2 ⟨v, p, rfl, o, hpl, r2, -, pl, g2⟩
  obtain ⟨Ap, cp, rfl, -, -⟩ := o.form' hpl
  obtain ⟨gp, rfl, hgp, -, -⟩ := o.cellAt hpl (k := 0) (by omega)
  have hs2 := g2.size
  have HP2 := Lib.hid o; have HPL := Lib.hid hpl; have HPV : Hid (Vld p) := pl.vld (by omega) (by omega)
  have HX2 : Hid (Box w2 x 25 (.slice none 0 0) (.slice none 0 0)) := (World.grownBy.block g2 x HX1.out.lt (by intro e; injection e with e; omega)).trans HX1.out
  have HG2 := Lib.hid (HG1.out.trans g2)
  have HR2 := Lib.hid r2; clear r2 g2 o hpl pl HR1 HX1 HG1
  go_wp2_with (at_make; refine wpList_make_full _ rfl _ _ 23 rfl w2.heap.size 3 i0 (.int .i64 0) 1 Try.underlying23 hinf hz0 hz1 .i64 .i64 _ _ N rfl rfl rfl rfl (by rw [hz2]; omega) (by unfold maxLen; omega) (Nat.le_refl _) ?_; intro w3 hown1 hgrow1; have HO3 := Lib.hid (Own.made hown1); have HGM := Lib.hid hgrow1; clear hown1 hgrow1)
  obtain ⟨g, hg⟩ : ∃ g, w2.heap.size = g := ⟨_, rfl⟩
  have hs3 := HGM.out.size
  have HF3 : Hid (Own w3 x (.slice (some ⟨g, 0, none⟩) N N) (List.replicate N 0)) := by have := HO3.out; rw [hg] at this; exact this.mono (by omega)
  have hgl : g < w3.heap.size := (HF3.out.lt g rfl).2
  have hgx : x < g := by rw [← hg]; exact HX2.out.lt
  have hgpg : gp < g := by rw [← hg]; exact (HP2.out.lt gp rfl).2
  have hgm : ∀ k, k < g → w3.heap[k]? = w2.heap[k]? := fun k hk => HGM.out.block k (by omega) (by simp)
  have HX3 : Hid (Box w3 x 25 (.slice none 0 0) (.slice none 0 0)) := (hgm x hgx).trans HX2.out
  have HB23 : Hid (Below w2.heap.size w2 w3) := (Below.refl _ _).grown HGM.out (Nat.le_refl _) (fun k hk => by cases hk)
  have HP3 := Lib.hid (HP2.out.below HB23.out)
  have HG3 := Lib.hid (HG2.out.of_below HB23.out)
  have HR3 := Lib.hid (HR2.out.below (HB23.out.mono (by omega)))
  have HGE := Lib.hid hg
  rw [hg]
  clear HO3 HGM HX2 HP2 HG2 HR2 hgm hg hs2 HB23
  go_loopw [8] (fun iv wr => ∃ (j : Nat) (fl : List Int), j ≤ H ∧ iv = .int .i64 ((2 * j : Nat) : Int) ∧ Hid (Own wr x (.slice (some ⟨g, 0, none⟩) N N) fl) ∧ Hid (fl.length = N) ∧ Hid (Gr g w3 wr) ∧ Hid (∀ q, q < j → gi fl (gn p (2 * q)) = (gn p (2 * q + 1) : Int) ∧ gi fl (gn p (2 * q + 1)) = (gn p (2 * q) : Int))) (fun iv _ => N - (intOf iv).toNat)
  case atStart => exact ⟨0, _, Nat.zero_le _, rfl, HF3.out, by simp [Hid], Gr.refl _ _, fun q hq => absurd hq (by omega)⟩
  case round =>
    obtain ⟨j, fl, hj, rfl, ho, hfl, hgr, hall⟩ := hrel
    by_cases hlt : j < H
    · have hd : decide (((2 * j : Nat) : Int) + 1 < (N : Int)) = true := by simp; omega
      have hP := HP3.out.grown hgr.out (.inr (fun e => by simp [Value.ownBlock] at e; omega))
      obtain ⟨g1, e1, -, hc1, -⟩ := hP.cellAt HPL.out (k := 2 * j) (by omega)
      obtain ⟨g2, e2, -, hc2, -⟩ := hP.cellAt HPL.out (k := 2 * j + 1) (by omega)
      simp only [Option.some.injEq, Addr.mk.injEq, and_true] at e1 e2
      subst e1 e2
      have hb1 := HPV.out.gn_lt (j := 2 * j) (by rw [HPL.out]; omega)
      have hb2 := HPV.out.gn_lt (j := 2 * j + 1) (by rw [HPL.out]; omega)
      rw [HPL.out] at hb1 hb2
      rw [HPV.out.gi_gn (by rw [HPL.out]; omega)] at hc1 hc2
      obtain ⟨u, hu⟩ : ∃ u, gn p (2 * j) = u := ⟨_, rfl⟩
      obtain ⟨v, hv⟩ : ∃ v, gn p (2 * j + 1) = v := ⟨_, rfl⟩
      rw [hu] at hc1 hb1
      rw [hv] at hc2 hb2
      have hne : u ≠ v := fun e => by rw [← hu, ← hv] at e; have := HPV.out.inj (by rw [HPL.out]; omega) (by rw [HPL.out]; omega) e; omega
      have HU := Lib.hid hu; have HV := Lib.hid hv; clear hu hv
      obtain ⟨J, hJ⟩ : ∃ J, 2 * j = J := ⟨_, rfl⟩
      rw [hJ] at hc1 hc2 hd
      have HJ := Lib.hid hJ
      obtain ⟨ga, ea, -, hcu, hfu⟩ := ho.out.cellAt hfl.out hb1
      obtain ⟨gb, eb, -, -, -⟩ := ho.out.cellAt hfl.out hb2
      simp only [Option.some.injEq, Addr.mk.injEq, and_true] at ea eb
      subst ea eb
      obtain ⟨o1, gr1⟩ := ho.out.stored hfl.out u (v : Int)
      have hfl1 : (fl.set u (v : Int)).length = N := by rw [List.length_set]; exact hfl.out
      obtain ⟨W1, hW1⟩ : ∃ W1, wr.setCell ⟨g, u, none⟩ (.int .i64 (v : Int)) = W1 := ⟨_, rfl⟩
      rw [hW1] at o1 gr1
      have hP1 := hP.grown gr1 (.inr (fun e => by simp [Value.ownBlock] at e; omega))
      obtain ⟨g3, e3, -, hc3, -⟩ := hP1.cellAt HPL.out (k := J) (by omega)
      obtain ⟨g4, e4, -, hc4, -⟩ := hP1.cellAt HPL.out (k := J + 1) (by omega)
      simp only [Option.some.injEq, Addr.mk.injEq, and_true] at e3 e4
      subst e3 e4
      rw [HPV.out.gi_gn (by rw [HPL.out]; omega)] at hc3 hc4
      rw [← HJ.out, HU.out, HJ.out] at hc3
      rw [← HJ.out, HV.out, HJ.out] at hc4
      obtain ⟨gc, ec, -, hcv, hfv⟩ := o1.cellAt hfl1 hb2
      simp only [Option.some.injEq, Addr.mk.injEq, and_true] at ec
      subst ec
      obtain ⟨o2, gr2⟩ := o1.stored hfl1 v (u : Int)
      have HO2 := Lib.hid o2; have HGR2 := Lib.hid ((hgr.out.trans gr1).trans gr2)
      have HFL2 : Hid (((fl.set u (v : Int)).set v (u : Int)).length = N) := by rw [Hid, List.length_set]; exact hfl1
      have HALL : Hid (∀ q, q < j + 1 → gi ((fl.set u (v : Int)).set v (u : Int)) (gn p (2 * q)) = (gn p (2 * q + 1) : Int) ∧ gi ((fl.set u (v : Int)).set v (u : Int)) (gn p (2 * q + 1)) = (gn p (2 * q) : Int)) := fun q hq => by
        rw [gi_set _ _ _ _ (by rw [hfl1]; exact hb2), gi_set _ _ _ _ (by rw [hfl.out]; exact hb1), gi_set _ _ _ _ (by rw [hfl1]; exact hb2), gi_set _ _ _ _ (by rw [hfl.out]; exact hb1)]
        have inj : ∀ a b, a < N → b < N → gn p a = gn p b → a = b := fun a b ha hb e => HPV.out.inj (by rw [HPL.out]; exact ha) (by rw [HPL.out]; exact hb) e
        have hU := HU.out; have hV := HV.out
        by_cases e : q = j
        · subst e
          rw [hU, hV, if_neg hne, if_pos rfl, if_pos rfl]
          exact ⟨rfl, rfl⟩
        · have n1 : gn p (2 * q) ≠ v := fun e' => by have := inj _ _ (by omega) (by omega) (e'.trans hV.symm); omega
          have n2 : gn p (2 * q) ≠ u := fun e' => by have := inj _ _ (by omega) (by omega) (e'.trans hU.symm); omega
          have n3 : gn p (2 * q + 1) ≠ v := fun e' => by have := inj _ _ (by omega) (by omega) (e'.trans hV.symm); omega
          have n4 : gn p (2 * q + 1) ≠ u := fun e' => by have := inj _ _ (by omega) (by omega) (e'.trans hU.symm); omega
          rw [if_neg n1, if_neg n2, if_neg n3, if_neg n4]
          exact hall.out q (by omega)
      clear hP hP1 o1 o2 gr1 gr2 hfl1 hne
      rw [hJ]
      clear hJ
      have hJN : J + 1 < N := by have := HJ.out; omega
      go_wp2
      go_region
      all_goals go_wp2
      all_goals go_region
      all_goals go_wp2
      all_goals go_roundw
      all_goals
        first
        | (show N - ((J : Int) + 2).toNat < N - (J : Int).toNat; omega)
        | (have e2 : Value.int .i64 ((J : Int) + 2) = .int .i64 ((2 * (j + 1) : Nat) : Int) := by rw [show (J : Int) + 2 = ((2 * (j + 1) : Nat) : Int) from by have := HJ.out; omega]
           exact ⟨j + 1, _, by omega, e2, HO2.out, HFL2.out, HGR2.out.drew.drew, HALL.out⟩)
    · have hjH : j = H := by omega
      subst hjH
      have hd : decide (((2 * j : Nat) : Int) + 1 < (N : Int)) = false := by simp; omega
      obtain ⟨hvf, hpf⟩ := pairs_flip HPV.out (hfl.out.trans HPL.out.symm) (h := j) (by rw [HPL.out]; exact hN.symm) hall.out
      have HVF := Lib.hid hvf; have HPF := Lib.hid hpf
      have hsr := hgr.out.size
      have HX4 : Hid (Box wr x 25 (.slice none 0 0) (.slice none 0 0)) := (World.grownBy.block hgr.out x HX3.out.lt (by intro e; injection e with e; omega)).trans HX3.out
      have HG4 := Lib.hid (HG3.out.own hgr.out (fun k hk => by injection hk with hk; rw [HXE.out]; omega))
      have HR4 := Lib.hid (HR3.out.below ((Gr.below hgr.out (by omega)).mono (by omega)))
      clear hvf hpf hall HX3 HG3 HR3 HP3 hgr
      rw [hN]
      go_wp2_with fail
      refine (perm_pl wr rb (q + 1 + N) N HR4.out (by omega) (by omega)).mono ?_
      rintro e w4 ⟨v, t0, rfl, o, htl, r4, -, pl, g4⟩
      obtain ⟨At, ct, rfl, -, -⟩ := o.form' htl
      obtain ⟨gt, rfl, hgt, -, -⟩ := o.cellAt htl (k := 0) (by omega)
      have hs4 := g4.size
      have hgs := (ho.out.lt g rfl).2
      have hts := (o.lt gt rfl).2
      obtain ⟨W5, hW5, hx5, hb5, hz5⟩ := Box.local_ w4 25 (.slice (some ⟨gt, 0, none⟩) N ct) (.slice (some ⟨g, 0, none⟩) N N)
      obtain ⟨y, hy⟩ : ∃ y, w4.heap.size = y := ⟨_, rfl⟩
      have HT5 := Lib.hid ((o.mono (show x ≤ wr.heap.size by omega)).below hb5); have HTL := Lib.hid htl; have HTV : Hid (Vld t0) := pl.vld (by omega) (by omega)
      have HF5 := Lib.hid ((ho.out.gr' g4 (by omega)).below hb5)
      have HX5 : Hid (Box W5 x 25 (.slice none 0 0) (.slice none 0 0)) := (HX4.out.gr g4 (by omega)).below hb5
      have HG5 := Lib.hid ((HG4.out.trans g4).of_below hb5)
      have HR5 := Lib.hid (r4.below (hb5.mono (by omega)))
      have HY5 : Hid (Box W5 y 25 (.slice (some ⟨gt, 0, none⟩) N ct) (.slice (some ⟨g, 0, none⟩) N N)) := by rw [← hy]; exact hx5
      have HYE := Lib.hid hy
      rw [hy] at hz5 hts
      clear hx5 hb5 hy o r4 g4 pl htl ho HR4 HG4 HX4
      go_wp2
      rw [HYE.out]
      go_loopw [10] (fun iv wr' => ∃ (k : Nat) (t : List Int), k ≤ N ∧ iv = .int .i64 (k : Int) ∧ Hid (Own wr' x (.slice (some ⟨gt, 0, none⟩) N ct) t) ∧ Hid (t.length = N) ∧ Hid (Vld t) ∧ Hid (Gr gt W5 wr')) (fun iv _ => N - (intOf iv).toNat)
      case atStart => exact ⟨0, t0, Nat.zero_le _, rfl, HT5, HTL, HTV, Gr.refl _ _⟩
      case round =>
        clear HT5 HTL HTV
        obtain ⟨k, t, hk, rfl, ht, htl, htv, hgr⟩ := hrel
        have hsr2 := hgr.out.size
        have hF := HF5.out.gr' hgr.out (by omega)
        have hY := HY5.out.gr hgr.out (by omega)
        have c0 := hY.cell0
        have c1 := hY.cell1
        have HF := Lib.hid hF; have HY := Lib.hid hY; clear hF hY
        by_cases hlt : k < N
        · have hdk : decide ((k : Int) < (N : Int)) = true := by simp; omega
          go_wp2_with fail
          refine (specMap_any (some ⟨gt, 0, none⟩) (some ⟨g, 0, none⟩) N N ct N t fl wr (ht.out.rd htl.out) (HF.out.rd hfl.out) (by omega) (by omega)).mono ?_
          rintro e w6 ⟨rfl, b6⟩
          have hs6 := b6.size
          have HT6 := Lib.hid (ht.out.below b6); have HF6 := Lib.hid (HF.out.below b6); have hY6 := HY.out.below b6; have HGR6 := Lib.hid (hgr.out.of_below b6)
          have c0 := hY6.cell0
          have c1 := hY6.cell1
          have HY6 := Lib.hid hY6
          clear b6 ht HF HY hgr hY6
          by_cases hmv : mapV t fl = true
          · rw [hmv]
            go_wp2_with fail
            have hRz := HR5.out.below ((Gr.below HGR6.out (by omega)).mono (by omega))
            have hXz := HX5.out.gr HGR6.out (by omega)
            have hGz := HG5.out.own HGR6.out (fun k hk => by injection hk with hk; rw [HXE.out]; omega)
            have HXz := Lib.hid hXz; have HGz := Lib.hid hGz; clear hXz hGz
            refine (pick_reads w6 rb (q + 1 + N + N) hRz (by omega) 50 (by omega) (by omega)).mono ?_
            rintro e w9 ⟨z9, rfl, hz9, r9, g9⟩
            have hs9 := Gr.size g9
            have HR9 := Lib.hid r9
            have HT9 := Lib.hid (HT6.out.gr' g9 (by omega)); have HF9 := Lib.hid (HF6.out.gr' g9 (by omega)); have hY9 := HY6.out.gr g9 (by omega)
            have HX9 := Lib.hid (HXz.out.gr g9 (by omega)); have HG9 := Lib.hid (HGz.out.trans g9)
            have y0 := hY9.cell0; have y1 := hY9.cell1; have y2 := hY9.frozen 0
            have HY9 := Lib.hid hY9
            clear r9 g9 hY9 hRz HXz HGz c0 c1
            have hgtx : x < gt := by omega
            by_cases h0 : z9 = 0
            · subst h0
              obtain ⟨ga, ea, -, hcf, hff⟩ := HF9.out.cellAt hfl.out (k := 0) (by omega)
              simp only [Option.some.injEq, Addr.mk.injEq, and_true] at ea
              subst ea
              obtain ⟨o1, gr1⟩ := HF9.out.stored hfl.out 0 0
              obtain ⟨Wf, hWf⟩ : ∃ Wf, w9.setCell ⟨g, 0, none⟩ (.int .i64 0) = Wf := ⟨_, rfl⟩
              rw [hWf] at o1 gr1
              have hYf := HY9.out.gr gr1 (by omega)
              have v0 := hYf.cell0; have v1 := hYf.cell1
              have hXf := HX9.out.gr gr1 (by omega)
              have e0 := hXf.cell0; have e1 := hXf.cell1; have e2 := hXf.frozen 0; have e3 := hXf.frozen 1
              obtain ⟨W', hW', k0, k1, q1, q2, q3, q4⟩ := fin_map (w := w) (b := q + 1000) (c := ct) (c' := N) hXf (by rw [HXE.out]; omega) hlt0 ((HT9.out.gr' gr1 (by omega)).rd htl.out) (o1.rd (by rw [List.length_set]; exact hfl.out)) (fun ad e => by injection e with e; rw [← e]; exact hgtx) (fun ad e => by injection e with e; rw [← e]; exact hgx) (HR9.out.below ((Gr.below gr1 (by omega)).mono (by omega))) (by omega) (HG9.out.own gr1 (fun k hk => by injection hk with hk; rw [HXE.out]; omega))
              have HQ := Lib.hid (And.intro q1 (And.intro q2 (And.intro q3 q4))); clear q1 q2 q3 q4 o1 gr1 hYf hXf
              go_wp2_with fail
              exact bodyPost_ret (v := .agg #[.slice (some ⟨gt, 0, none⟩) N ct, .slice (some ⟨g, 0, none⟩) N N]) (by simp [results, Try.results38, go_sem, k0, k1]) rfl ⟨_, _, _, _, _, _, _, _, rfl, HQ.out.1, HQ.out.2.1, hN12, hN12, fun ad e => by injection e with e; rw [← e, HXE.out]; exact hgtx, fun ad e => by injection e with e; rw [← e, HXE.out]; exact hgx, HQ.out.2.2⟩
            by_cases h1 : z9 = 1
            · subst h1
              obtain ⟨Wf, hWf⟩ : ∃ Wf, w9.setCell ⟨y, 0, none⟩ (.slice (some ⟨gt, 1, none⟩) (N - 1) (ct - 1)) = Wf := ⟨_, rfl⟩
              have hxg : Gr y w9 Wf := by rw [← hWf]; exact grown_set _ _ _ _
              have hYf : Box Wf y 25 (.slice (some ⟨gt, 1, none⟩) (N - 1) (ct - 1)) (.slice (some ⟨g, 0, none⟩) N N) := by rw [← hWf]; exact set_row2 HY9.out
              have v0 := hYf.cell0; have v1 := hYf.cell1
              have hXf := HX9.out.gr hxg (by omega)
              have e0 := hXf.cell0; have e1 := hXf.cell1; have e2 := hXf.frozen 0; have e3 := hXf.frozen 1
              have hcN : N ≤ ct := HT9.out.cap_le htl.out (by omega)
              obtain ⟨W', hW', k0, k1, q1, q2, q3, q4⟩ := fin_map (w := w) (b := q + 1000) (c := ct - 1) (c' := N) hXf (by rw [HXE.out]; omega) hlt0 (((HT9.out.gr' hxg (by omega)).rd htl.out).tail_ (by omega)) ((HF9.out.gr' hxg (by omega)).rd hfl.out) (fun ad e => by injection e with e; rw [← e]; exact hgtx) (fun ad e => by injection e with e; rw [← e]; exact hgx) (HR9.out.below ((Gr.below hxg (by omega)).mono (by omega))) (by omega) (HG9.out.own hxg (fun k hk => by injection hk with hk; rw [HXE.out]; omega))
              have HQ := Lib.hid (And.intro q1 (And.intro q2 (And.intro q3 q4))); clear q1 q2 q3 q4 hxg hYf hXf
              go_wp2_with fail
              exact bodyPost_ret (v := .agg #[.slice (some ⟨gt, 1, none⟩) (N - 1) (ct - 1), .slice (some ⟨g, 0, none⟩) N N]) (by simp [results, Try.results38, go_sem, k0, k1]) rfl ⟨_, _, _, _, _, _, _, _, rfl, HQ.out.1, HQ.out.2.1, by omega, hN12, fun ad e => by injection e with e; rw [← e, HXE.out]; exact hgtx, fun ad e => by injection e with e; rw [← e, HXE.out]; exact hgx, HQ.out.2.2⟩
            by_cases h2 : z9 = 2
            · subst h2
              obtain ⟨ga, ea, -, hcf, hff⟩ := HT9.out.cellAt htl.out (k := 0) (by omega)
              simp only [Option.some.injEq, Addr.mk.injEq, and_true] at ea
              subst ea
              obtain ⟨o1, gr1⟩ := HT9.out.stored htl.out 0 (N : Int)
              obtain ⟨Wf, hWf⟩ : ∃ Wf, w9.setCell ⟨gt, 0, none⟩ (.int .i64 (N : Int)) = Wf := ⟨_, rfl⟩
              rw [hWf] at o1 gr1
              have hYf := HY9.out.gr gr1 (by omega)
              have v0 := hYf.cell0; have v1 := hYf.cell1
              have hXf := HX9.out.gr gr1 (by omega)
              have e0 := hXf.cell0; have e1 := hXf.cell1; have e2 := hXf.frozen 0; have e3 := hXf.frozen 1
              obtain ⟨W', hW', k0, k1, q1, q2, q3, q4⟩ := fin_map (w := w) (b := q + 1000) (c := ct) (c' := N) hXf (by rw [HXE.out]; omega) hlt0 (o1.rd (by rw [List.length_set]; exact htl.out)) ((HF9.out.gr' gr1 (by omega)).rd hfl.out) (fun ad e => by injection e with e; rw [← e]; exact hgtx) (fun ad e => by injection e with e; rw [← e]; exact hgx) (HR9.out.below ((Gr.below gr1 (by omega)).mono (by omega))) (by omega) (HG9.out.own gr1 (fun k hk => by injection hk with hk; rw [HXE.out]; omega))
              have HQ := Lib.hid (And.intro q1 (And.intro q2 (And.intro q3 q4))); clear q1 q2 q3 q4 o1 gr1 hYf hXf
              go_wp2_with fail
              exact bodyPost_ret (v := .agg #[.slice (some ⟨gt, 0, none⟩) N ct, .slice (some ⟨g, 0, none⟩) N N]) (by simp [results, Try.results38, go_sem, k0, k1]) rfl ⟨_, _, _, _, _, _, _, _, rfl, HQ.out.1, HQ.out.2.1, hN12, hN12, fun ad e => by injection e with e; rw [← e, HXE.out]; exact hgtx, fun ad e => by injection e with e; rw [← e, HXE.out]; exact hgx, HQ.out.2.2⟩
            have hd0 : ((z9 : Int) == 0) = false := by simp; omega
            have hd1 : ((z9 : Int) == 1) = false := by simp; omega
            have hd2 : ((z9 : Int) == 2) = false := by simp; omega
            have hXf := HX9.out
            have e0 := hXf.cell0; have e1 := hXf.cell1; have e2 := hXf.frozen 0; have e3 := hXf.frozen 1
            obtain ⟨W', hW', k0, k1, q1, q2, q3, q4⟩ := fin_map (w := w) (b := q + 1000) (c := ct) (c' := N) hXf (by rw [HXE.out]; omega) hlt0 (HT9.out.rd htl.out) (HF9.out.rd hfl.out) (fun ad e => by injection e with e; rw [← e]; exact hgtx) (fun ad e => by injection e with e; rw [← e]; exact hgx) HR9.out (by omega) HG9.out
            have HQ := Lib.hid (And.intro q1 (And.intro q2 (And.intro q3 q4))); clear q1 q2 q3 q4 hXf
            go_wp2_with fail
            exact bodyPost_ret (v := .agg #[.slice (some ⟨gt, 0, none⟩) N ct, .slice (some ⟨g, 0, none⟩) N N]) (by simp [results, Try.results38, go_sem, k0, k1]) rfl ⟨_, _, _, _, _, _, _, _, rfl, HQ.out.1, HQ.out.2.1, hN12, hN12, fun ad e => by injection e with e; rw [← e, HXE.out]; exact hgtx, fun ad e => by injection e with e; rw [← e, HXE.out]; exact hgx, HQ.out.2.2⟩
          · have hmf : mapV t fl = false := by simpa using hmv
            have hnw : ¬ Whole t fl := fun hw => hmv (mapV_iff.2 ⟨htv.out, HVF.out, by rw [htl.out, hfl.out], HPF.out, hw⟩)
            obtain ⟨K, hK, hKo⟩ := not_whole hnw
            rw [htl.out] at hK
            have HKO := Lib.hid hKo; clear hKo hnw hmv
            rw [hmf]
            go_wp2_with fail
            refine (l1Orbits_any (some ⟨gt, 0, none⟩) (some ⟨g, 0, none⟩) N ct N t fl w6 (HT6.out.rd htl.out) (HF6.out.rd hfl.out) htv.out HVF.out).mono ?_
            rintro e w7 ⟨v, rfl, o, b7⟩
            obtain ⟨Ao, co, rfl, ro, -⟩ := o.form' (n := N) ((orbL_len t fl).trans htl.out)
            have hs7 := b7.size
            have HO7 := Lib.hid ro; have HT7 := Lib.hid (HT6.out.below b7); have hY7 := HY6.out.below b7; have HGR7 := Lib.hid (HGR6.out.of_below b7)
            have c0 := hY7.cell0
            have c1 := hY7.cell1
            clear ro o b7 HT6 HF6 HY6 HGR6 hY7
            go_wp2
            go_loop [12] (fun kv => ∃ e : Nat, e ≤ K ∧ kv = .int .i64 (e : Int)) (fun kv => K + 1 - (intOf kv).toNat)
            case atStart => exact ⟨0, Nat.zero_le _, rfl⟩
            case round =>
              obtain ⟨e, he, rfl⟩ := hrel
              have heN : e < N := by omega
              obtain ⟨ao, rfl, hco⟩ := HO7.out.at_ heN
              rw [gi_orbL (by rw [htl.out]; exact heN)] at hco
              obtain ⟨ov, hov⟩ : ∃ ov, orb t fl e = ov := ⟨_, rfl⟩
              rw [hov] at hco
              have HOV := Lib.hid hov; clear hov
              by_cases hov0 : ov = 0
              · have hdo : ((ov : Int) == 0) = true := by simp [hov0]
                have heK : e ≠ K := fun e' => HKO.out (by rw [← e', HOV.out, hov0])
                have HZ := Lib.hid hov0; clear hov0
                go_wp2
                go_round
                case rel => exact ⟨e + 1, by omega, by go_num⟩
                case measure => simp [intOf]; omega
              · have hdo : ((ov : Int) == 0) = false := by simp; omega
                have HZ := Lib.hid hov0; clear hov0
                obtain ⟨g1, e1, -, h1, f1⟩ := HT7.out.cellAt htl.out (k := 0) (by omega)
                obtain ⟨g2, e2, -, h2, f2⟩ := HT7.out.cellAt htl.out heN
                simp only [Option.some.injEq, Addr.mk.injEq, and_true] at e1 e2
                subst e1 e2
                obtain ⟨a0, ha0⟩ : ∃ a, gi t 0 = a := ⟨_, rfl⟩
                obtain ⟨a1, ha1⟩ : ∃ a, gi t e = a := ⟨_, rfl⟩
                rw [ha0] at h1
                rw [ha1] at h2
                obtain ⟨o1, gr1⟩ := HT7.out.stored htl.out 0 a1
                have htl1 : (t.set 0 a1).length = N := by rw [List.length_set]; exact htl.out
                obtain ⟨W8, hW8⟩ : ∃ W8, w7.setCell ⟨gt, 0, none⟩ (.int .i64 a1) = W8 := ⟨_, rfl⟩
                rw [hW8] at o1 gr1
                obtain ⟨g3, e3, -, h3, f3⟩ := o1.cellAt htl1 heN
                simp only [Option.some.injEq, Addr.mk.injEq, and_true] at e3
                subst e3
                obtain ⟨o2, gr2⟩ := o1.stored htl1 e a0
                have hY8 := (HY5.out.gr HGR7.out (by omega)).gr gr1 (by omega)
                have d0 := hY8.cell0
                have d1 := hY8.cell1
                have HO2 := Lib.hid o2; have HGR8 := Lib.hid ((HGR7.out.trans gr1).trans gr2)
                have hsw := swap_vld htv.out (k := e) (by rw [htl.out]; exact heN)
                rw [ha0, ha1] at hsw
                have HSW := Lib.hid hsw
                clear o1 o2 gr1 gr2 hY8 hsw ha0 ha1
                go_wp2
                go_region
                all_goals go_wp2
                all_goals go_roundw
                all_goals
                  first
                  | exact ⟨k + 1, _, by omega, by go_num, HO2.out, HSW.out.2.trans htl.out, HSW.out.1, HGR8.out.drew⟩
                  | (simp [intOf]; omega)
        · have hdk : decide ((k : Int) < (N : Int)) = false := by simp; omega
          go_wp2_with fail
          have hRz := HR5.out.below ((Gr.below hgr.out (by omega)).mono (by omega))
          have hXz := HX5.out.gr hgr.out (by omega)
          have hGz := HG5.out.own hgr.out (fun k hk => by injection hk with hk; rw [HXE.out]; omega)
          have HXz := Lib.hid hXz; have HGz := Lib.hid hGz; clear hXz hGz
          refine (pick_reads wr rb (q + 1 + N + N) hRz (by omega) 50 (by omega) (by omega)).mono ?_
          rintro e w9 ⟨z9, rfl, hz9, r9, g9⟩
          have hs9 := Gr.size g9
          have HR9 := Lib.hid r9
          have HT9 := Lib.hid (ht.out.gr' g9 (by omega)); have HF9 := Lib.hid (HF.out.gr' g9 (by omega)); have hY9 := HY.out.gr g9 (by omega)
          have HX9 := Lib.hid (HXz.out.gr g9 (by omega)); have HG9 := Lib.hid (HGz.out.trans g9)
          have y0 := hY9.cell0; have y1 := hY9.cell1; have y2 := hY9.frozen 0
          have HY9 := Lib.hid hY9
          clear r9 g9 hY9 hRz HXz HGz c0 c1
          have hgtx : x < gt := by omega
          by_cases h0 : z9 = 0
          · subst h0
            obtain ⟨ga, ea, -, hcf, hff⟩ := HF9.out.cellAt hfl.out (k := 0) (by omega)
            simp only [Option.some.injEq, Addr.mk.injEq, and_true] at ea
            subst ea
            obtain ⟨o1, gr1⟩ := HF9.out.stored hfl.out 0 0
            obtain ⟨Wf, hWf⟩ : ∃ Wf, w9.setCell ⟨g, 0, none⟩ (.int .i64 0) = Wf := ⟨_, rfl⟩
            rw [hWf] at o1 gr1
            have hYf := HY9.out.gr gr1 (by omega)
            have v0 := hYf.cell0; have v1 := hYf.cell1
            have hXf := HX9.out.gr gr1 (by omega)
            have e0 := hXf.cell0; have e1 := hXf.cell1; have e2 := hXf.frozen 0; have e3 := hXf.frozen 1
            obtain ⟨W', hW', k0, k1, q1, q2, q3, q4⟩ := fin_map (w := w) (b := q + 1000) (c := ct) (c' := N) hXf (by rw [HXE.out]; omega) hlt0 ((HT9.out.gr' gr1 (by omega)).rd htl.out) (o1.rd (by rw [List.length_set]; exact hfl.out)) (fun ad e => by injection e with e; rw [← e]; exact hgtx) (fun ad e => by injection e with e; rw [← e]; exact hgx) (HR9.out.below ((Gr.below gr1 (by omega)).mono (by omega))) (by omega) (HG9.out.own gr1 (fun k hk => by injection hk with hk; rw [HXE.out]; omega))
            have HQ := Lib.hid (And.intro q1 (And.intro q2 (And.intro q3 q4))); clear q1 q2 q3 q4 o1 gr1 hYf hXf
            go_wp2_with fail
            exact bodyPost_ret (v := .agg #[.slice (some ⟨gt, 0, none⟩) N ct, .slice (some ⟨g, 0, none⟩) N N]) (by simp [results, Try.results38, go_sem, k0, k1]) rfl ⟨_, _, _, _, _, _, _, _, rfl, HQ.out.1, HQ.out.2.1, hN12, hN12, fun ad e => by injection e with e; rw [← e, HXE.out]; exact hgtx, fun ad e => by injection e with e; rw [← e, HXE.out]; exact hgx, HQ.out.2.2⟩
          by_cases h1 : z9 = 1
          · subst h1
            obtain ⟨Wf, hWf⟩ : ∃ Wf, w9.setCell ⟨y, 0, none⟩ (.slice (some ⟨gt, 1, none⟩) (N - 1) (ct - 1)) = Wf := ⟨_, rfl⟩
            have hxg : Gr y w9 Wf := by rw [← hWf]; exact grown_set _ _ _ _
            have hYf : Box Wf y 25 (.slice (some ⟨gt, 1, none⟩) (N - 1) (ct - 1)) (.slice (some ⟨g, 0, none⟩) N N) := by rw [← hWf]; exact set_row2 HY9.out
            have v0 := hYf.cell0; have v1 := hYf.cell1
            have hXf := HX9.out.gr hxg (by omega)
            have e0 := hXf.cell0; have e1 := hXf.cell1; have e2 := hXf.frozen 0; have e3 := hXf.frozen 1
            have hcN : N ≤ ct := HT9.out.cap_le htl.out (by omega)
            obtain ⟨W', hW', k0, k1, q1, q2, q3, q4⟩ := fin_map (w := w) (b := q + 1000) (c := ct - 1) (c' := N) hXf (by rw [HXE.out]; omega) hlt0 (((HT9.out.gr' hxg (by omega)).rd htl.out).tail_ (by omega)) ((HF9.out.gr' hxg (by omega)).rd hfl.out) (fun ad e => by injection e with e; rw [← e]; exact hgtx) (fun ad e => by injection e with e; rw [← e]; exact hgx) (HR9.out.below ((Gr.below hxg (by omega)).mono (by omega))) (by omega) (HG9.out.own hxg (fun k hk => by injection hk with hk; rw [HXE.out]; omega))
            have HQ := Lib.hid (And.intro q1 (And.intro q2 (And.intro q3 q4))); clear q1 q2 q3 q4 hxg hYf hXf
            go_wp2_with fail
            exact bodyPost_ret (v := .agg #[.slice (some ⟨gt, 1, none⟩) (N - 1) (ct - 1), .slice (some ⟨g, 0, none⟩) N N]) (by simp [results, Try.results38, go_sem, k0, k1]) rfl ⟨_, _, _, _, _, _, _, _, rfl, HQ.out.1, HQ.out.2.1, by omega, hN12, fun ad e => by injection e with e; rw [← e, HXE.out]; exact hgtx, fun ad e => by injection e with e; rw [← e, HXE.out]; exact hgx, HQ.out.2.2⟩
          by_cases h2 : z9 = 2
          · subst h2
            obtain ⟨ga, ea, -, hcf, hff⟩ := HT9.out.cellAt htl.out (k := 0) (by omega)
            simp only [Option.some.injEq, Addr.mk.injEq, and_true] at ea
            subst ea
            obtain ⟨o1, gr1⟩ := HT9.out.stored htl.out 0 (N : Int)
            obtain ⟨Wf, hWf⟩ : ∃ Wf, w9.setCell ⟨gt, 0, none⟩ (.int .i64 (N : Int)) = Wf := ⟨_, rfl⟩
            rw [hWf] at o1 gr1
            have hYf := HY9.out.gr gr1 (by omega)
            have v0 := hYf.cell0; have v1 := hYf.cell1
            have hXf := HX9.out.gr gr1 (by omega)
            have e0 := hXf.cell0; have e1 := hXf.cell1; have e2 := hXf.frozen 0; have e3 := hXf.frozen 1
            obtain ⟨W', hW', k0, k1, q1, q2, q3, q4⟩ := fin_map (w := w) (b := q + 1000) (c := ct) (c' := N) hXf (by rw [HXE.out]; omega) hlt0 (o1.rd (by rw [List.length_set]; exact htl.out)) ((HF9.out.gr' gr1 (by omega)).rd hfl.out) (fun ad e => by injection e with e; rw [← e]; exact hgtx) (fun ad e => by injection e with e; rw [← e]; exact hgx) (HR9.out.below ((Gr.below gr1 (by omega)).mono (by omega))) (by omega) (HG9.out.own gr1 (fun k hk => by injection hk with hk; rw [HXE.out]; omega))
            have HQ := Lib.hid (And.intro q1 (And.intro q2 (And.intro q3 q4))); clear q1 q2 q3 q4 o1 gr1 hYf hXf
            go_wp2_with fail
            exact bodyPost_ret (v := .agg #[.slice (some ⟨gt, 0, none⟩) N ct, .slice (some ⟨g, 0, none⟩) N N]) (by simp [results, Try.results38, go_sem, k0, k1]) rfl ⟨_, _, _, _, _, _, _, _, rfl, HQ.out.1, HQ.out.2.1, hN12, hN12, fun ad e => by injection e with e; rw [← e, HXE.out]; exact hgtx, fun ad e => by injection e with e; rw [← e, HXE.out]; exact hgx, HQ.out.2.2⟩
          have hd0 : ((z9 : Int) == 0) = false := by simp; omega
          have hd1 : ((z9 : Int) == 1) = false := by simp; omega
          have hd2 : ((z9 : Int) == 2) = false := by simp; omega
          have hXf := HX9.out
          have e0 := hXf.cell0; have e1 := hXf.cell1; have e2 := hXf.frozen 0; have e3 := hXf.frozen 1
          obtain ⟨W', hW', k0, k1, q1, q2, q3, q4⟩ := fin_map (w := w) (b := q + 1000) (c := ct) (c' := N) hXf (by rw [HXE.out]; omega) hlt0 (HT9.out.rd htl.out) (HF9.out.rd hfl.out) (fun ad e => by injection e with e; rw [← e]; exact hgtx) (fun ad e => by injection e with e; rw [← e]; exact hgx) HR9.out (by omega) HG9.out
          have HQ := Lib.hid (And.intro q1 (And.intro q2 (And.intro q3 q4))); clear q1 q2 q3 q4 hXf
          go_wp2_with fail
          exact bodyPost_ret (v := .agg #[.slice (some ⟨gt, 0, none⟩) N ct, .slice (some ⟨g, 0, none⟩) N N]) (by simp [results, Try.results38, go_sem, k0, k1]) rfl ⟨_, _, _, _, _, _, _, _, rfl, HQ.out.1, HQ.out.2.1, hN12, hN12, fun ad e => by injection e with e; rw [← e, HXE.out]; exact hgtx, fun ad e => by injection e with e; rw [← e, HXE.out]; exact hgx, HQ.out.2.2⟩

theorem fin_draw {w Wf : World} {x n n' c c' : Nat} {A A' : Option Addr} {t f : List Int} {u u' : Value} (hx : Box Wf x 25 u u') (hxw : w.heap.size ≤ x) (r1 : Rd Wf A n t) (r2 : Rd Wf A' n' f)
    (a1 : ∀ ad : Addr, A = some ad → x < ad.block) (a2 : ∀ ad : Addr, A' = some ad → x < ad.block) (hb : Below w.heap.size w Wf) :
    ∃ W', (Wf.setCell ⟨x, 0, none⟩ (.slice A n c)).setCell ⟨x, 1, none⟩ (.slice A' n' c') = W' ∧ W'.cell? ⟨x, 0, none⟩ = some (.slice A n c) ∧ W'.cell? ⟨x, 1, none⟩ = some (.slice A' n' c') ∧ Rd W' A n t ∧ Rd W' A' n' f ∧ Below w.heap.size w W' := by
  obtain ⟨hq1, hq2⟩ := hx.store2 (.slice A n c) (.slice A' n' c')
  exact ⟨_, rfl, hq1.cell0, hq1.cell1, r1.gr hq2 (fun ad e _ => by have := a1 ad e; omega), r2.gr hq2 (fun ad e _ => by have := a2 ad e; omega), hb.grown hq2 hb.size (fun k hk => by cases hk; exact hxw)⟩

/-- A reader that lies over two further blocks. -/
theorem reads_alloc {w : World} {rb q : Nat} (h : Reads w rb q) (o : Obj) : Reads (w.alloc o) rb q := h.below ((Below.refl _ _).alloc h.lt o)

theorem OwnM.above {w : World} {lo n c n' c' x : Nat} {A A' : Option Addr} {t f : List Int} (o : OwnM w lo (.slice A n c) (.slice A' n' c') t f) (ht : t.length = n) (hf : f.length = n') (hn : 0 < n) (hn' : 0 < n') (hx : x < lo) : (∀ ad : Addr, A = some ad → x < ad.block) ∧ ∀ ad : Addr, A' = some ad → x < ad.block := by
  obtain ⟨g, rfl, hg, -, -⟩ := o.turn.cellAt ht (k := 0) hn
  obtain ⟨g', rfl, hg', -, -⟩ := o.flip.cellAt hf (k := 0) hn'
  exact ⟨fun ad e => by injection e with e; rw [← e]; show x < g; omega, fun ad e => by injection e with e; rw [← e]; show x < g'; omega⟩
theorem above_drew {w : World} {k x : Nat} {A : Option Addr} (h : ∀ ad : Addr, A = some ad → (w.drewN k).heap.size < ad.block) (hx : x < w.heap.size) : ∀ ad : Addr, A = some ad → x < ad.block := fun ad e => Nat.lt_trans hx (h ad e)

end Go.Proofs.Ytcenffndclpjoaa

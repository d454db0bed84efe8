/-
  The draws of gluings: a list of at most so many numbers, whatever they are.
-/
import Derived.Test.YtfcgfeopmnjfjaaDrawC
import Derived.WalkSmall
namespace Go.Proofs.Ytfcgfeopmnjfjaa
open Go.RowKit
set_option linter.unusedVariables false
attribute [local go_sem] Oper.semAt_some

theorem Own.pop {w : World} {lo g n c : Nat} {xs : List Int} {x : Int} (h : Own w lo (.slice (some ⟨g, 0, none⟩) (n + 1) c) (xs ++ [x])) (hn : xs.length = n) : Own w lo (.slice (some ⟨g, 0, none⟩) n c) xs := by
  subst hn
  unfold Own at h ⊢
  have e : ints (xs ++ [x]) = ints xs ++ [.int .i64 x] := by simp [ints]
  rw [e, List.length_append] at h
  exact ownsRow_pop (by simp [ints]) h

theorem Gr.drew {rb : Nat} {w w' : World} (h : Gr rb w w') : Gr rb w w'.drew := by
  have g : w.grownBy w' (some rb) := h
  exact ⟨g.os, g.tape, g.output, g.size, g.block⟩
theorem Own.cap {w : World} {lo g n c : Nat} {xs : List Int} (h : Own w lo (.slice (some ⟨g, 0, none⟩) n c) xs) : n ≤ c := by
  rcases h.2 with ⟨e, _⟩ | ⟨g', cap, cur, e, _, _, hn, _⟩
  · simp at e
  · simp only [Value.slice.injEq] at e
    obtain ⟨_, e1, e2⟩ := e
    omega
theorem own_succ {w : World} {lo n size : Nat} {t : TypeId} {v : Value} {xs : List Value} (h : w.ownsRow lo t size v (n + 1) xs) : ∃ g c, v = .slice (some ⟨g, 0, none⟩) (n + 1) c := by
  rcases h.2 with ⟨_, hn⟩ | ⟨g, cap, cur, rfl, _⟩
  · omega
  · exact ⟨g, cap, rfl⟩

set_option maxRecDepth 100000 in
set_option maxHeartbeats 3200000 in
theorem gluing_more (w : World) (rb q pairs : Nat) (hr : Reads w rb q) (hq : q ≤ 1000) (hp : 1 ≤ pairs) (hp6 : pairs ≤ 6) :
    Calls Try.prog 84 #[.pointer (some ⟨rb, 0, none⟩), .int .i64 pairs] w fun e w' => ∃ v ys, e = .returned v ∧ Own w' w.heap.size v ys ∧ ys.length ≤ 12 ∧ Gr rb w w' ∧ ∃ q', q' ≤ q + 40 ∧ Reads w' rb q' := by
  obtain ⟨i0, hinf, hz0, hz1, hz2⟩ := info_parts info_int
  have hlt0 := hr.lt
  have HR0 := Lib.hid hr; clear hr
  go_enter Try.func84, Try.ntmps84
  go_wp2_with fail
  refine (pick_reads w rb q HR0.out (by omega) (pairs : Int) (by omega) (by omega)).mono ?_
  rintro e w1 ⟨x, rfl, hx, r1, g1⟩
  have hs1 := g1.size
  have HB1 : Hid (Gr rb w w1) := g1
  have HR1 := Lib.hid r1; clear r1 g1
  obtain ⟨N, hN⟩ : ∃ N : Nat, 2 * (1 + x) = N := ⟨_, rfl⟩
  have hN2 : 2 ≤ N := by omega
  have hN12 : N ≤ 12 := by omega
  have hNe : 2 * (1 + (x : Int)) = (N : Int) := by omega
  go_wp2_with (at_make; refine wpList_make_full _ rfl _ _ 30 rfl w1.heap.size 3 i0 (.int .i64 0) 1 Try.underlying30 hinf hz0 hz1 .i64 .i64 _ _ N rfl rfl (by simp) (by simp) (by rw [hz2]; omega) (by unfold maxLen; omega) (Nat.le_refl _) ?_; intro w2 hown1 hgrow1; have hb1 := below_of_grown hgrow1 (Nat.le_refl _) (fun k hk => by cases hk); have HO2 := Lib.hid (Own.made hown1); have HR2 := Lib.hid (HR1.out.below (hb1.mono (by have := HR1.out.lt; omega))); have HB2 : Hid (Gr rb w w2) := HB1.out.of_below hb1; have HS2 := Lib.hid hb1.size; clear hown1 hgrow1 hb1)
  refine (pick_reads w2 rb (q + 1) HR2.out (by omega) 3 (by omega) (by omega)).mono ?_
  rintro e w3 ⟨y, rfl, hy, r3, g3⟩
  have hlt1 := HR1.out.lt
  have HO3 : Hid (Own w3 w1.heap.size (.slice (some ⟨w1.heap.size, 0, none⟩) N N) (List.replicate N 0)) := HO2.out.gr g3 (by omega)
  have HB3 : Hid (Gr rb w w3) := HB2.out.trans g3
  have HS3 : Hid (w1.heap.size < w3.heap.size) := by have := HO3.out.lt w1.heap.size rfl; exact this.2
  have HR3 := Lib.hid r3; clear r3 g3 HO2 HR2 HB2
  by_cases h0 : y = 0
  · subst h0
    go_wp2_with fail
    obtain ⟨W4, hW4⟩ : ∃ W4, w3.alloc (.cells #[] 3) = W4 := ⟨_, rfl⟩
    have HOE : Hid (Own W4 w3.heap.size (.slice (some ⟨w3.heap.size, 0, none⟩) 0 0) []) := by rw [← hW4]; exact Own.empty (Nat.le_refl _)
    have ha : Below w3.heap.size w3 W4 := by rw [← hW4]; exact (Below.refl _ _).alloc (Nat.le_refl _) _
    have HO4 := Lib.hid (HO3.out.below ha)
    have HR4 := Lib.hid (HR3.out.below (ha.mono (by have := HR3.out.lt; omega)))
    have HB4 := Lib.hid (HB3.out.of_below ha)
    rw [hW4]
    clear hW4 ha HO3 HR3 HB3
    go_loopw [7, 8] (fun vo' iv wr => ∃ (g c L k q' : Nat) (os zs : List Int), vo' = .slice (some ⟨g, 0, none⟩) L c ∧ k ≤ N ∧ iv = .int .i64 k ∧ Hid (Own wr w3.heap.size (.slice (some ⟨g, 0, none⟩) L c) os) ∧ Hid (os.length = L) ∧ L ≤ k ∧ Hid (∀ j, j < os.length → 0 ≤ gi os j ∧ gi os j < N) ∧ Hid (Own wr w1.heap.size (.slice (some ⟨w1.heap.size, 0, none⟩) N N) zs) ∧ Hid (zs.length = N) ∧ Hid (Reads wr rb q') ∧ Hid (q' ≤ q + 2 + k) ∧ Hid (Gr rb w wr)) (fun _ iv _ => N - (intOf iv).toNat)
    case atStart => exact ⟨w3.heap.size, 0, 0, 0, q + 1 + 1, [], _, rfl, Nat.zero_le _, rfl, HOE, rfl, Nat.le_refl _, fun j hj => absurd hj (by simp), HO4, by simp [Hid], HR4, by simp [Hid], HB4⟩
    case round =>
      obtain ⟨g0, c, L, k, q', os, zs, rfl, hk, rfl, ho, HL, hLk, hoi, hz, hzl, hrd, hq', hb⟩ := hrel
      have hqq := hq'.out
      have hbs : w3.heap.size ≤ wr.heap.size := by have := ho.out.lt g0 rfl; omega
      by_cases hlt : k < N
      · -- what the round does when it opens a pair
        by_cases hL0 : L = 0
        · subst hL0
          have HOW : Hid (wr.ownsRow w3.heap.size 3 1 (.slice (some ⟨g0, 0, none⟩) 0 c) 0 (ints os)) := by have h := ho.out; unfold Own at h; rwa [HL.out] at h
          go_wp2_with (at_builtin; refine wpList_append_own _ rfl _ _ 30 rfl w3.heap.size 3 i0 (.int .i64 0) 1 8 Try.underlying30 hinf hz0 hz1 hz2 rfl (by decide) _ _ _ rfl (HOW.out.alloc _) ⟨wr.heap.size, 0, none⟩ 1 1 [.int .i64 (k : Int)] rfl rfl (cell_one_new _ _ _) (by intro u hu; simp at hu; subst hu; rfl) (by unfold maxLen; omega) (by omega) (by simp; omega) ?_; intro v1 w4 hown1 hgrow1 _; obtain ⟨gv, cv, rfl⟩ := own_succ hown1; have HOA := Lib.hid hown1; have HGR := Lib.hid hgrow1; clear hown1 hgrow1)
          go_roundw
          case rel =>
            have hlow : ∀ j, (Value.slice (some ⟨g0, 0, none⟩) 0 c).ownBlock = some j → rb + 1 ≤ j := fun j hj => by have := (HOW.out.lt j hj).1; have := HS3.out; omega
            have hst : Below (rb + 1) wr w4 := ((Below.refl (rb + 1) wr).alloc (by have := hrd.out.lt; omega) _).grown HGR.out (by simp; have := hrd.out.lt; omega) hlow
            have hgr : Gr rb w w4 := (hb.out.alloc _).own HGR.out (fun j hj => by have := (HOW.out.lt j hj).1; have := HS3.out; have := HB1.out.size; omega)
            refine ⟨_, _, 0 + 1, k + 1, q', os ++ [(k : Int)], zs, rfl, by omega, by go_num, ?_, ?_, by omega, ?_, ?_, hzl, hrd.out.below hst, ?_, hgr⟩
            · rw [Hid, Own, List.length_append, HL.out, ints, List.map_append]; exact HOA.out
            · rw [Hid, List.length_append, HL.out]; simp
            · intro j hj
              rw [List.length_append, HL.out] at hj
              rw [gi_snoc _ _ _ (by rw [HL.out]; simpa using hj), if_pos (by rw [HL.out]; simp at hj; omega)]
              omega
            · exact (hz.out.below ((Below.refl _ _).alloc (Nat.le_refl _) _)).grown HGR.out (ne_of (m := w3.heap.size) (fun j hj => by simp [Value.ownBlock] at hj; have := HS3.out; omega) (fun j hj => (HOW.out.lt j hj).1))
            · rw [Hid]; omega
          case measure => simp [intOf]; omega
        · have hL1 : decide ((0 : Int) < (L : Int)) = true := by simp; omega
          have hL1' : decide (0 < L) = true := by simp; omega
          go_wp2_with fail
          refine (pick_reads wr rb q' hrd.out (by omega) 2 (by omega) (by omega)).mono ?_
          rintro e w5 ⟨z, rfl, hzz, r5, g5⟩
          have hs5 := g5.size
          have ho5 : Hid (Own w5 w3.heap.size (.slice (some ⟨g0, 0, none⟩) L c) os) := ho.out.gr g5 (by have := HS3.out; omega)
          have hz5 : Hid (Own w5 w1.heap.size (.slice (some ⟨w1.heap.size, 0, none⟩) N N) zs) := hz.out.gr g5 (by omega)
          have hb5 : Hid (Gr rb w w5) := hb.out.trans g5
          have hr5 := Lib.hid r5
          clear r5 g5 ho hz hb hrd
          by_cases hcl : z = 0 ∨ L = N - k
          · -- it closes one
            obtain ⟨M, rfl⟩ : ∃ M, L = M + 1 := ⟨L - 1, by omega⟩
            obtain ⟨us, u, hus⟩ : ∃ us u, os = us ++ [u] := by
              rcases List.eq_nil_or_concat os with h | ⟨us, u, h⟩
              · have := HL.out; rw [h] at this; simp at this
              · exact ⟨us, u, by rw [h]; simp⟩
            subst hus
            have hul : us.length = M := by simpa using HL.out
            have hgu : gi (us ++ [u]) M = u := by rw [gi_snoc _ _ _ (by omega), if_pos hul.symm]
            obtain ⟨hu0, hu1⟩ := hoi.out M (by simp; omega)
            rw [hgu] at hu0 hu1
            obtain ⟨t, rfl⟩ := Int.eq_ofNat_of_zero_le hu0
            have ht : t < N := by omega
            obtain ⟨_, e3, hgl, hcM, -⟩ := ho5.out.cellAt HL.out (show M < M + 1 by omega)
            simp only [Option.some.injEq, Addr.mk.injEq, and_true] at e3
            subst e3
            rw [hgu] at hcM
            have hcap : M + 1 ≤ c := ho5.out.cap
            have hMc : M ≤ c := by omega
            have hpop := Lib.hid (ho5.out.pop hul)
            obtain ⟨gz, hgz, -, hcz, hfz⟩ := hz5.out.cellAt hzl.out hlt
            simp only [Option.some.injEq, Addr.mk.injEq, and_true] at hgz
            subst hgz
            have HST := Lib.hid (hz5.out.stored hzl.out k (t : Int))
            have hzl2 : (zs.set k (t : Int)).length = N := by simpa using hzl.out
            obtain ⟨gz2, hgz2, -, hcz2, hfz2⟩ := HST.out.1.cellAt hzl2 ht
            simp only [Option.some.injEq, Addr.mk.injEq, and_true] at hgz2
            subst hgz2
            have HST2 := Lib.hid (HST.out.1.stored hzl2 t (k : Int))
            have HZL : Hid (((zs.set k (t : Int)).set t (k : Int)).length = N) := by simpa [Hid] using hzl.out
            have HST3 := Lib.hid HST2.out.1
            have hne : ∀ j, (Value.slice (some ⟨g0, 0, none⟩) M c).ownBlock = some j → some j ≠ some w1.heap.size := fun j hj e => by
              simp [Value.ownBlock] at hj; injection e with e; have := HS3.out; omega
            have HPO : Hid (Own ((w5.setCell ⟨w1.heap.size, k, none⟩ (.int .i64 t)).setCell ⟨w1.heap.size, t, none⟩ (.int .i64 k)) w3.heap.size (.slice (some ⟨g0, 0, none⟩) M c) us) :=
              (hpop.out.grown HST.out.2 (.inr (fun e => by simp [Value.ownBlock] at e; have := HS3.out; omega))).grown HST2.out.2 (.inr (fun e => by simp [Value.ownBlock] at e; have := HS3.out; omega))
            have HRR : Hid (Reads ((w5.setCell ⟨w1.heap.size, k, none⟩ (.int .i64 t)).setCell ⟨w1.heap.size, t, none⟩ (.int .i64 k)) rb (q' + 1)) :=
              hr5.out.below (((Below.refl _ _).setCell (p := ⟨w1.heap.size, k, none⟩) (by show rb + 1 ≤ w1.heap.size; omega) _).setCell (p := ⟨w1.heap.size, t, none⟩) (by show rb + 1 ≤ w1.heap.size; omega) _)
            have HGG : Hid (Gr rb w ((w5.setCell ⟨w1.heap.size, k, none⟩ (.int .i64 t)).setCell ⟨w1.heap.size, t, none⟩ (.int .i64 k))) :=
              (hb5.out.own (grown_set _ _ _ _) (fun j hj => by injection hj with hj; omega)).own (grown_set _ _ _ _) (fun j hj => by injection hj with hj; omega)
            have HUI : Hid (∀ j, j < us.length → 0 ≤ gi us j ∧ gi us j < N) := fun j hj => by
              have := hoi.out j (by simp; omega)
              rwa [gi_snoc _ _ _ (by omega), if_neg (by omega)] at this
            have hM1 : decide ((0 : Int) < (M : Int) + 1) = true := decide_eq_true (by omega)
            have HUL := Lib.hid hul
            clear hul hgu hne ho5 hz5 hpop hoi HST HST2 hzl2
            rcases (show z = 0 ∨ z = 1 by omega) with rfl | rfl
            · go_wp2_with fail
              go_roundw
              case rel => exact ⟨_, _, M, k + 1, q' + 1, us, _, rfl, by omega, by go_num, HPO, HUL, by omega, HUI, HST3, HZL, HRR, by rw [Hid]; omega, HGG⟩
              case measure => simp [intOf]; omega
            · have hMN : (((M + 1 : Nat) : Int) == (N : Int) - (k : Int)) = true := by simp; omega
              have hMN' : ((M : Int) + 1 == (N : Int) - (k : Int)) = true := by simp; omega
              go_wp2_with fail
              go_roundw
              case rel => exact ⟨_, _, M, k + 1, q' + 1, us, _, rfl, by omega, by go_num, HPO, HUL, by omega, HUI, HST3, HZL, HRR, by rw [Hid]; omega, HGG⟩
              case measure => simp [intOf]; omega
          · obtain ⟨hz0', hLN⟩ : ¬ z = 0 ∧ ¬ L = N - k := by omega
            obtain rfl : z = 1 := by omega
            have hLN' : ((L : Int) == (N : Int) - (k : Int)) = false := by simp; omega
            have HOW : Hid (w5.ownsRow w3.heap.size 3 1 (.slice (some ⟨g0, 0, none⟩) L c) L (ints os)) := by have h := ho5.out; unfold Own at h; rwa [HL.out] at h
            have ho := ho5; have hz := hz5; have hb := hb5
            have hrd : Hid (Reads w5 rb (q' + 1)) := hr5
            clear ho5 hz5 hb5 hr5
            go_wp2_with (at_builtin; refine wpList_append_own _ rfl _ _ 30 rfl w3.heap.size 3 i0 (.int .i64 0) 1 8 Try.underlying30 hinf hz0 hz1 hz2 rfl (by decide) _ _ _ rfl (HOW.out.alloc _) ⟨w5.heap.size, 0, none⟩ 1 1 [.int .i64 (k : Int)] rfl rfl (cell_one_new _ _ _) (by intro u hu; simp at hu; subst hu; rfl) (by unfold maxLen; omega) (by omega) (by simp; omega) ?_; intro v1 w4 hown1 hgrow1 _; obtain ⟨gv, cv, rfl⟩ := own_succ hown1; have HOA := Lib.hid hown1; have HGR := Lib.hid hgrow1; clear hown1 hgrow1)
            go_roundw
            case rel =>
              have hlow : ∀ j, (Value.slice (some ⟨g0, 0, none⟩) L c).ownBlock = some j → rb + 1 ≤ j := fun j hj => by have := (HOW.out.lt j hj).1; have := HS3.out; omega
              have hst : Below (rb + 1) w5 w4 := ((Below.refl (rb + 1) w5).alloc (by have := hrd.out.lt; omega) _).grown HGR.out (by simp; have := hrd.out.lt; omega) hlow
              have hgr : Gr rb w w4 := (hb.out.alloc _).own HGR.out (fun j hj => by have := (HOW.out.lt j hj).1; have := HS3.out; have := HB1.out.size; omega)
              refine ⟨_, _, L + 1, k + 1, q' + 1, os ++ [(k : Int)], zs, rfl, by omega, by go_num, ?_, ?_, by omega, ?_, ?_, hzl, hrd.out.below hst, ?_, hgr⟩
              · rw [Hid, Own, List.length_append, HL.out, ints, List.map_append]; exact HOA.out
              · rw [Hid, List.length_append, HL.out]; simp
              · intro j hj
                rw [List.length_append, HL.out] at hj
                rw [gi_snoc _ _ _ (by rw [HL.out]; simpa using hj)]
                split
                · omega
                · rename_i hne; exact hoi.out j (by rw [HL.out] at hne ⊢; simp at hj; omega)
              · exact (hz.out.below ((Below.refl _ _).alloc (Nat.le_refl _) _)).grown HGR.out (ne_of (m := w3.heap.size) (fun j hj => by simp [Value.ownBlock] at hj; have := HS3.out; omega) (fun j hj => (HOW.out.lt j hj).1))
              · rw [Hid]; omega
            case measure => simp [intOf]; omega
      · obtain rfl : k = N := by omega
        have HBS := Lib.hid HB1.out.size
        go_wp2_with fail
        go_ret
        exact ⟨_, zs, rfl, hz.out.mono HBS.out, by rw [hzl.out]; exact hN12, hb.out, q', by omega, hrd.out⟩
  · have hy0 : ((y : Int) == 0) = false := by simp; omega
    go_wp2_with fail
    refine (perm_pl w3 rb (q + 2) N HR3.out (by omega) (by omega)).mono ?_
    rintro e w4 ⟨v, ps, rfl, o, hpl, r4, -, hPL, g4⟩
    obtain ⟨A, c, rfl, -, -⟩ := o.form' hpl
    have HP4 : Hid (Own w4 w3.heap.size (.slice A N c) ps) := o
    have HO4 : Hid (Own w4 w1.heap.size (.slice (some ⟨w1.heap.size, 0, none⟩) N N) (List.replicate N 0)) := HO3.out.gr g4 (by omega)
    have HB4 : Hid (Gr rb w w4) := HB3.out.trans g4
    have HR4 := Lib.hid r4; have HPN := Lib.hid hpl; have HPP := Lib.hid hPL
    have HI := Lib.hid (Own.lt o)
    clear r4 hpl hPL g4 o HO3 HB3 HR3
    go_wp2_with fail
    go_loopw [11] (fun iv wr => ∃ (k : Nat) (zs : List Int), 2 * k ≤ N ∧ iv = .int .i64 ((2 * k : Nat) : Int) ∧ Hid (Own wr w3.heap.size (.slice A N c) ps) ∧ Hid (Own wr w1.heap.size (.slice (some ⟨w1.heap.size, 0, none⟩) N N) zs) ∧ Hid (zs.length = N) ∧ Hid (Reads wr rb (q + 2 + N)) ∧ Hid (Gr rb w wr)) (fun iv _ => N - (intOf iv).toNat)
    case atStart => exact ⟨0, _, by omega, rfl, HP4, HO4, by simp [Hid], HR4, HB4⟩
    case round =>
      obtain ⟨k, zs, hk, rfl, hp, hz, hzl, hrd, hb⟩ := hrel
      by_cases hlt : k < 1 + x
      · have hk0 : 2 * k < N := by omega
        have hk1 : 2 * k + 1 < N := by omega
        obtain ⟨ga, rfl, hga, hca, -⟩ := hp.out.cellAt HPN.out hk0
        obtain ⟨gb, hgb, -, hcb, -⟩ := hp.out.cellAt HPN.out hk1
        simp only [Option.some.injEq, Addr.mk.injEq, and_true] at hgb
        subst hgb
        obtain ⟨a0, a1⟩ := HPP.out.1 (2 * k) (by rw [HPN.out]; exact hk0)
        obtain ⟨b0, b1⟩ := HPP.out.1 (2 * k + 1) (by rw [HPN.out]; exact hk1)
        rw [HPN.out] at a1 b1
        obtain ⟨a, ha⟩ := Int.eq_ofNat_of_zero_le a0
        obtain ⟨b, hbb⟩ := Int.eq_ofNat_of_zero_le b0
        rw [ha] at hca a1; rw [hbb] at hcb b1
        have ha' : a < N := by omega
        have hb' : b < N := by omega
        obtain ⟨j, hj⟩ : ∃ j, 2 * k = j := ⟨_, rfl⟩
        have hj1 : 2 * (k : Int) = (j : Int) := by omega
        rw [hj] at hca hcb hk0 hk1
        obtain ⟨gz, hgz, -, hcz, hfz⟩ := hz.out.cellAt hzl.out ha'
        simp only [Option.some.injEq, Addr.mk.injEq, and_true] at hgz
        subst hgz
        have HST := Lib.hid (hz.out.stored hzl.out a (b : Int))
        have hzl2 : (zs.set a (b : Int)).length = N := by simpa using hzl.out
        obtain ⟨gz2, hgz2, -, hcz2, hfz2⟩ := HST.out.1.cellAt hzl2 hb'
        simp only [Option.some.injEq, Addr.mk.injEq, and_true] at hgz2
        subst hgz2
        have HST2 := Lib.hid (HST.out.1.stored hzl2 b (a : Int))
        have hgne : ga ≠ w1.heap.size := by have := HS3.out; omega
        have HP1 : Hid (Own (wr.setCell ⟨w1.heap.size, a, none⟩ (.int .i64 b)) w3.heap.size (.slice (some ⟨ga, 0, none⟩) N c) ps) := hp.out.grown HST.out.2 (.inr (fun e => by simp [Value.ownBlock] at e; omega))
        have HP2 : Hid (Own ((wr.setCell ⟨w1.heap.size, a, none⟩ (.int .i64 b)).setCell ⟨w1.heap.size, b, none⟩ (.int .i64 a)) w3.heap.size (.slice (some ⟨ga, 0, none⟩) N c) ps) := HP1.out.grown HST2.out.2 (.inr (fun e => by simp [Value.ownBlock] at e; omega))
        obtain ⟨_, e3, -, hca2, -⟩ := HP1.out.cellAt HPN.out hk0
        simp only [Option.some.injEq, Addr.mk.injEq, and_true] at e3
        subst e3
        obtain ⟨_, e3, -, hcb2, -⟩ := HP1.out.cellAt HPN.out hk1
        simp only [Option.some.injEq, Addr.mk.injEq, and_true] at e3
        subst e3
        rw [← hj, ha, hj] at hca2
        rw [← hj, hbb, hj] at hcb2
        have HRR : Hid (Reads ((wr.setCell ⟨w1.heap.size, a, none⟩ (.int .i64 b)).setCell ⟨w1.heap.size, b, none⟩ (.int .i64 a)) rb (q + 2 + N)) :=
          hrd.out.below (((Below.refl _ _).setCell (p := ⟨w1.heap.size, a, none⟩) (by show rb + 1 ≤ w1.heap.size; omega) _).setCell (p := ⟨w1.heap.size, b, none⟩) (by show rb + 1 ≤ w1.heap.size; omega) _)
        have HGG : Hid (Gr rb w ((wr.setCell ⟨w1.heap.size, a, none⟩ (.int .i64 b)).setCell ⟨w1.heap.size, b, none⟩ (.int .i64 a))) :=
          (hb.out.own (grown_set _ _ _ _) (fun j hj => by injection hj with hj; omega)).own (grown_set _ _ _ _) (fun j hj => by injection hj with hj; omega)
        have HZ2 := Lib.hid HST2.out.1
        have HZL : Hid (((zs.set a (b : Int)).set b (a : Int)).length = N) := by simpa [Hid] using hzl.out
        have hd1 : decide ((j : Int) + 1 < (N : Int)) = true := by simp; omega
        rw [hj]
        have HK := Lib.hid hj
        clear hj hj1 ha hbb HP1 HST HST2 hzl2 hca2 hcb2
        go_wp2
        go_region
        all_goals go_wp2
        all_goals go_region
        all_goals go_wp2
        all_goals go_roundw
        case measure => have := HK.out; simp [intOf]; omega
        refine ⟨k + 1, _, by omega, by have := HK.out; go_num, HP2.out, HZ2.out, HZL.out, HRR.out, HGG.out.drew.drew⟩
      · have hk1 : k = 1 + x := by omega
        have hd1 : decide ((N : Int) + 1 < (N : Int)) = false := by simp; omega
        rw [hk1, hN]
        have HK1 := Lib.hid hk1; clear hk1 hlt hk
        have HBS := Lib.hid HB1.out.size
        go_wp2_with fail
        refine (pick_reads wr rb (q + 2 + N) hrd.out (by omega) 20 (by omega) (by omega)).mono ?_
        rintro e w5 ⟨z, rfl, hzz, r5, g5⟩
        have hp5 : Hid (Own w5 w1.heap.size (.slice (some ⟨w1.heap.size, 0, none⟩) N N) zs) := hz.out.gr g5 (by omega)
        have hb5 : Hid (Gr rb w w5) := hb.out.trans g5
        have hr5 := Lib.hid r5
        clear r5 g5 hb hz hrd hp
        by_cases h20 : z = 0
        · subst h20
          go_wp2_with fail
          obtain ⟨W6, hW6⟩ : ∃ W6, w5.alloc (.cells #[.int .i64 0, .int .i64 (-1), .int .i64 (N : Int)] 3) = W6 := ⟨_, rfl⟩
          have HW6 := Lib.hid hW6
          have hlt5 := hr5.out.lt
          have hba : Below w5.heap.size w5 W6 := by rw [← hW6]; exact (Below.refl _ _).alloc (Nat.le_refl _) _
          have hr6 : Reads W6 rb (q + 2 + N + 1) := hr5.out.below (hba.mono (by omega))
          have hp6' := hp5.out.below hba
          have hb6 := hb5.out.of_below hba
          rw [hW6]
          clear hW6 hba
          refine (pick_reads W6 rb (q + 2 + N + 1) hr6 (by omega) 3 (by omega) (by omega)).mono ?_
          rintro e w7 ⟨z2, rfl, hz2', r7, g7⟩
          obtain ⟨u, hu, -⟩ := lit3 HW6.out g7 hlt5 (y := z2) (by omega)
          have hp7 : Own w7 w1.heap.size (.slice (some ⟨w1.heap.size, 0, none⟩) N N) zs := hp6'.gr g7 (by omega)
          have hb7 : Gr rb w w7 := hb6.trans g7
          obtain ⟨gz, hgz, -, hcz, hfz⟩ := hp7.cellAt hzl.out (show 0 < N by omega)
          simp only [Option.some.injEq, Addr.mk.injEq, and_true] at hgz
          subst hgz
          have HST := Lib.hid (hp7.stored hzl.out 0 u)
          have HB7 := Lib.hid hb7
          have HR7 := Lib.hid r7
          have hz3 : z2 < 3 := by omega
          have hN0 : 0 < N := by omega
          clear r7 g7 hp7 hb7 hr6 hp6' hb6 hz2'
          go_wp2_with fail
          go_ret
          exact ⟨_, _, rfl, HST.out.1.mono HBS.out, by rw [List.length_set, hzl.out]; exact hN12, HB7.out.own (grown_set _ _ _ _) (fun j hj => by injection hj with hj; have := HBS.out; omega), _, by omega, HR7.out.below ((Below.refl _ _).setCell (p := ⟨w1.heap.size, 0, none⟩) (by show rb + 1 ≤ w1.heap.size; omega) _)⟩
        · have hz0' : ((z : Int) == 0) = false := by simp; omega
          go_wp2_with fail
          go_ret
          exact ⟨_, zs, rfl, hp5.out.mono HBS.out, by rw [hzl.out]; exact hN12, hb5.out, _, by omega, hr5.out⟩

theorem gluing_reads (w : World) (rb q pairs : Nat) (hr : Reads w rb q) (hq : q ≤ 1000) (hp : 1 ≤ pairs) (hp6 : pairs ≤ 6) :
    Calls Try.prog 84 #[.pointer (some ⟨rb, 0, none⟩), .int .i64 pairs] w fun e w' => ∃ v ys, e = .returned v ∧ Own w' w.heap.size v ys ∧ ys.length ≤ 12 ∧ Gr rb w w' :=
  (gluing_more w rb q pairs hr hq hp hp6).mono fun _ _ ⟨v, ys, h1, h2, h3, h4, _⟩ => ⟨v, ys, h1, h2, h3, h4⟩

end Go.Proofs.Ytfcgfeopmnjfjaa

/-
  EdgeDelete, EdgeContract: the program's.
-/
import Derived.Test.YtpaohaodnchfkaaDelM
import Derived.Test.YtpaohaodnchfkaaDualM
import Derived.RegionTactic
import Derived.BigRegion
namespace Go.Proofs.Ytpaohaodnchfkaa
open Go.RowKit

theorem stays_any (d a b p q : Nat) (w : World) (ha : w.cell? ⟨p, 0, none⟩ = some (.int .i64 a)) (hb : w.cell? ⟨q, 0, none⟩ = some (.int .i64 b)) {r : Bool} (hr : stayB a b d = r) :
    Calls Try.prog 84 #[.int .i64 d, .pointer (some ⟨p, 0, none⟩), .pointer (some ⟨q, 0, none⟩)] w fun e w' => e = .returned (.bool r) ∧ w = w' := by
  by_cases h1 : d = a
  · obtain rfl : r = false := by rw [← hr, h1]; simp [stayB]
    have e1 : ((d : Int) != (a : Int)) = false := by simp [h1]
    clear h1 hr
    go_enter Try.func84, Try.ntmps84
    go_wp2_with fail
    go_ret
    exact ⟨rfl, rfl⟩
  · have e1 : ((d : Int) != (a : Int)) = true := by simp; omega
    by_cases h2 : d = b
    · obtain rfl : r = false := by rw [← hr, h2]; simp [stayB]
      have e2 : ((d : Int) != (b : Int)) = false := by simp [h2]
      clear h1 h2 hr
      go_enter Try.func84, Try.ntmps84
      go_wp2_with fail
      go_ret
      exact ⟨rfl, rfl⟩
    · obtain rfl : r = true := by rw [← hr, stayB_true h1 h2]
      have e2 : ((d : Int) != (b : Int)) = true := by simp; omega
      clear h1 h2 hr
      go_enter Try.func84, Try.ntmps84
      go_wp2_with fail
      go_ret
      exact ⟨rfl, rfl⟩

/-- The names of the darts that stay, for the first k darts. -/
def nmQ (a b n k : Nat) : List Int := tab n fun d => if d < k ∧ stayB a b d = true then (kpN a b d : Int) else 0
theorem nmQ_len (a b n k : Nat) : (nmQ a b n k).length = n := tab_len _ _
theorem nmQ_zero (a b n : Nat) : List.replicate n 0 = nmQ a b n 0 := tab_ext (by simp) fun j hj => by rw [if_neg (fun h => by omega), gi_eq (by simpa using hj)]; simp
theorem nmQ_no {a b n k : Nat} (h : stayB a b k = false) : nmQ a b n (k + 1) = nmQ a b n k := by
  unfold nmQ
  congr 1
  funext d
  by_cases hd : d = k
  · rw [if_neg (fun h' => by rw [hd, h] at h'; exact absurd h'.2 (by decide)), if_neg (fun h' => by omega)]
  · have : (d < k + 1 ∧ stayB a b d = true) ↔ (d < k ∧ stayB a b d = true) := ⟨fun h' => ⟨by omega, h'.2⟩, fun h' => ⟨by omega, h'.2⟩⟩
    simp only [this]
theorem nmQ_yes {a b n k : Nat} (h : stayB a b k = true) (hk : k < n) : (nmQ a b n k).set k (kpN a b k : Int) = nmQ a b n (k + 1) := by
  refine tab_ext (by simp [nmQ_len]) fun j hj => ?_
  rw [gi_set _ _ _ _ (by rw [nmQ_len]; exact hk)]
  by_cases h1 : j = k
  · rw [if_pos h1, h1, if_pos ⟨by omega, h⟩]
  · rw [if_neg h1, nmQ, gi_tab hj]
    have : (j < k + 1 ∧ stayB a b j = true) ↔ (j < k ∧ stayB a b j = true) := ⟨fun h' => ⟨by omega, h'.2⟩, fun h' => ⟨by omega, h'.2⟩⟩
    simp only [this]

set_option maxRecDepth 20000 in
set_option maxHeartbeats 1600000 in
theorem byOrder_any (n a b p q : Nat) (w : World) (hn : n ≤ 12) (ha : w.cell? ⟨p, 0, none⟩ = some (.int .i64 a)) (hb : w.cell? ⟨q, 0, none⟩ = some (.int .i64 b)) :
    Calls Try.prog 85 #[.int .i64 n, .func (.func 84) #[] #[.pointer (some ⟨p, 0, none⟩), .pointer (some ⟨q, 0, none⟩)]] w fun e w' => ∃ u v, e = .returned (.tuple #[u, v]) ∧ Own w' w.heap.size u (kpL a b n) ∧ Own w' w.heap.size v (nmQ a b n n) ∧ Below w.heap.size w w' := by
  obtain ⟨i0, hinf, hz0, hz1, hz2⟩ := info_parts info_int
  have hpl := World.block_lt_of_cell? w _ ha
  have hql := World.block_lt_of_cell? w _ hb
  have HA := Lib.hid ha; have HBB := Lib.hid hb; clear ha hb
  have hpl' : p < w.heap.size := hpl
  have hql' : q < w.heap.size := hql
  clear hpl hql
  go_enter Try.func85, Try.ntmps85
  go_wp2_with (at_make; refine wpList_make_full _ rfl _ _ 22 rfl w.heap.size 3 i0 (.int .i64 0) 1 Try.underlying22 hinf hz0 hz1 .i64 .i64 _ _ n rfl rfl rfl rfl (by rw [hz2]; omega) (by unfold maxLen; omega) (Nat.le_refl _) ?_; intro w1 hown1 hgrow1)
  have HB1 := Lib.hid (below_of_grown hgrow1 (Nat.le_refl _) (fun k hk => by cases hk))
  have HO1 := Lib.hid (Own.made hown1)
  have hg1 := (HO1.out.lt w.heap.size rfl).2
  clear hown1 hgrow1
  go_loopw [4, 6, 10] (fun kv _ dv wr => ∃ k m : Nat, k ≤ n ∧ m ≤ k ∧ dv = .int .i64 k ∧ Hid (kpN a b k = m) ∧ Hid (∃ A c, kv = .slice A m c) ∧ Hid (Own wr (w.heap.size + 1) kv (kpL a b k)) ∧ Hid (Own wr w.heap.size (.slice (some ⟨w.heap.size, 0, none⟩) n n) (nmQ a b n k)) ∧ Hid (Below w.heap.size w wr) ∧ Hid (w.heap.size < wr.heap.size)) (fun _ _ dv _ => n - (intOf dv).toNat)
  case atStart => exact ⟨0, 0, Nat.zero_le _, Nat.le_refl _, rfl, rfl, ⟨_, _, rfl⟩, Own.nil_ _ _, by rw [← nmQ_zero]; exact HO1.out, HB1.out, hg1⟩
  case round =>
    obtain ⟨k, m, hk, hmk, rfl, hkm, hform, ho, hnm, hb, hsz⟩ := hrel
    obtain ⟨Ak, ck, hkv⟩ := hform.out
    subst hkv
    clear hform
    have hsw := hsz.out
    by_cases hlt : k < n
    · have hca : wr.cell? ⟨p, 0, none⟩ = some (.int .i64 a) := (hb.out.cell (p := ⟨p, 0, none⟩) hpl').trans HA.out
      have hcb : wr.cell? ⟨q, 0, none⟩ = some (.int .i64 b) := (hb.out.cell (p := ⟨q, 0, none⟩) hql').trans HBB.out
      have HCA := Lib.hid hca; have HCB := Lib.hid hcb; clear hca hcb
      cases hst : stayB a b k with
      | false =>
        have HST := Lib.hid hst; clear hst
        have HK : Hid (kpN a b (k + 1) = m ∧ kpL a b (k + 1) = kpL a b k) := by rw [Hid, kpN, kpL, hkm.out, HST.out]; simp
        go_wp2_with fail
        refine (stays_any k a b p q wr HCA.out HCB.out HST.out).mono ?_
        rintro e w2 ⟨rfl, rfl⟩
        go_wp2_with fail
        go_roundw
        case rel => exact ⟨k + 1, m, by omega, by omega, by go_num, HK.out.1, ⟨_, _, rfl⟩, by rw [HK.out.2]; exact ho.out, by rw [nmQ_no HST.out]; exact hnm.out, hb.out, hsz.out⟩
        case measure => simp [intOf]; omega
      | true =>
        have HST := Lib.hid hst; clear hst
        have HK : Hid (kpN a b (k + 1) = m + 1 ∧ kpL a b (k + 1) = kpL a b k ++ [(k : Int)]) := by rw [Hid, kpN, kpL, hkm.out, HST.out]; simp
        have hkl : (kpL a b k).length = m := (kpL_len k).trans hkm.out
        obtain ⟨g1, q1, -, hc1, hf1⟩ := hnm.out.cellAt (nmQ_len a b n k) hlt
        simp only [Option.some.injEq, Addr.mk.injEq, and_true] at q1
        subst q1
        have hs := hnm.out.stored (nmQ_len a b n k) k (m : Int)
        rw [← hkm.out, nmQ_yes HST.out hlt, hkm.out] at hs
        have HS := Lib.hid hs
        have hos := ho.out.grown hs.2 (by
          cases hb' : Value.ownBlock (.slice Ak m ck) with
          | none => exact .inl rfl
          | some i => exact .inr (fun e => by have := (ho.out.lt i hb').1; injection e with e; omega))
        have HOS := Lib.hid hos
        have HOA := hos.asRow hkl
        have HKL := Lib.hid hkl
        have hzs : (wr.setCell ⟨w.heap.size, k, none⟩ (.int .i64 (m : Int))).heap.size = wr.heap.size := by simp [World.setCell]
        have HZS := Lib.hid hzs
        clear hs hos hkl hzs
        go_wp2_with fail
        refine (stays_any k a b p q wr HCA.out HCB.out HST.out).mono ?_
        rintro e w2 ⟨rfl, rfl⟩
        go_wp2_with (at_builtin; refine wpList_append_own _ rfl _ _ 22 rfl (w.heap.size + 1) 3 i0 (.int .i64 0) 1 8 Try.underlying22 hinf hz0 hz1 hz2 rfl (by decide) _ _ _ rfl (HOA.out.alloc _) ⟨wr.heap.size, 0, none⟩ 1 1 [.int .i64 (k : Int)] rfl rfl (cell_one_set _ _ _ _ _) (by intro u hu; simp at hu; subst hu; rfl) (by unfold maxLen; omega) (by omega) (by simp; omega) ?_; intro v1 w3 hown1 hgrow1 _; have HO := Lib.hid hown1; have HGR := Lib.hid hgrow1; clear hown1 hgrow1)
        go_roundw
        case rel =>
          have ha := app_int (by rw [HZS.out]; omega) HOS.out HKL.out HO.out HGR.out
          obtain ⟨A9, c9, e9, -, -⟩ := ha.1.form' (n := m + 1) (by rw [List.length_append, HKL.out]; rfl)
          have hb9 : Below (w.heap.size + 1) _ w3 := ha.2
          refine ⟨k + 1, m + 1, by omega, by omega, by go_num, HK.out.1, ⟨A9, c9, e9⟩, by rw [HK.out.2]; exact ha.1, HS.out.1.over hb9 (fun i hi => by have hi' : (some w.heap.size : Option Nat) = some i := hi; injection hi' with hi'; omega), ((hb.out.setCell (Nat.le_refl _) _).trans (hb9.mono (by omega))), ?_⟩
          have := hb9.size
          rw [HZS.out] at this
          rw [Hid]; omega
        case measure => simp [intOf]; omega
    · have hkn : k = n := by omega
      have HE : Hid (Own wr (w.heap.size + 1) (.slice Ak m ck) (kpL a b n) ∧ Own wr w.heap.size (.slice (some ⟨w.heap.size, 0, none⟩) n n) (nmQ a b n n)) := by
        rw [Hid, ← hkn]
        have := hnm.out
        rw [hkn] at this ⊢
        exact ⟨by rw [← hkn]; exact ho.out, this⟩
      clear hkn
      go_wp2_with fail
      go_ret2
      exact ⟨_, _, rfl, HE.out.1.mono (by omega), HE.out.2, hb.out⟩

theorem own_apart {wr w2 : World} {lo : Nat} {v u : Value} {xs : List Int} {o : Obj} (h : Own wr lo v xs) (hap : ∀ k, u.ownBlock = some k → v.ownBlock ≠ some k) (hg : (wr.alloc o).grownBy w2 u.ownBlock) : Own w2 lo v xs := by
  refine (h.below ((Below.refl _ _).alloc (Nat.le_refl _) o)).grown hg ?_
  cases hv : v.ownBlock with
  | none => exact .inl rfl
  | some q => exact .inr fun e => hap q e.symm hv
theorem apart_more {wr : World} {lo : Nat} {v u u' : Value} {xs : List Int} {o : Obj} (hap : ∀ k, u.ownBlock = some k → v.ownBlock ≠ some k) (h : Own wr lo v xs) (hat : u'.ownBlock = u.ownBlock ∨ u'.ownBlock = some (wr.alloc o).heap.size) : ∀ k, u'.ownBlock = some k → v.ownBlock ≠ some k := by
  intro k hk
  rcases hat with e | e
  · exact hap k (by rw [← e]; exact hk)
  · intro hv
    have := (h.lt k hv).2
    rw [e] at hk
    injection hk with hk
    rw [World.size_alloc] at hk
    omega
theorem flip_cell {w w5 w2 : World} {ad : Addr} {n d z : Nat} {f : List Int} (h : Rd w (some ad) n f) (hb : Below w.heap.size w w5) (hb2 : Below w5.heap.size w5 w2) (hd : d < n) (hz : gi f d = (z : Int)) : w2.cell? (ad.add d) = some (.int .i64 (z : Int)) := by
  obtain ⟨ad', e, hc⟩ := (h.below (hb.trans (hb2.mono hb.size))).at_ hd
  injection e with e
  subst e
  rw [hc, hz]
theorem name_cell {w5 w2 : World} {ad : Addr} {n a b z y : Nat} (h : Rd w5 (some ad) n (nmQ a b n n)) (hb2 : Below w5.heap.size w5 w2) (hz : z < n) (hs : stayB a b z = true) (hy : kpN a b z = y) : w2.cell? (ad.add z) = some (.int .i64 (y : Int)) := by
  obtain ⟨ad', e, hc⟩ := (h.below hb2).at_ hz
  injection e with e
  subst e
  rw [hc, nmQ, gi_tab hz, if_pos ⟨hz, hs⟩, hy]

set_option maxRecDepth 20000 in
set_option maxHeartbeats 3200000 in
theorem without_any (b0 : Nat) (A A' : Option Addr) (n c c' e a b : Nat) (t f : List Int) (w : World) (hb : Box2 w b0 A n c A' n c') (h : Rd w A n t) (h' : Rd w A' n f) (ht : Vld t) (hf : Vld f) (hp : Paired f) (he : e < n / 2) (ha : dE f e = a) (hab : gn f a = b) :
    Calls Try.prog 66 #[.pointer (some ⟨b0, 0, none⟩), .int .i64 e] w fun e w' => ∃ u u', e = .returned (.agg #[u, u']) ∧ OwnM w' w.heap.size u u' (delT t a b) (delF f a b) ∧ Below w.heap.size w w' := by
  obtain ⟨i0, hinf, hz0, hz1, hz2⟩ := info_parts info_int
  have hn12 : n ≤ 12 := by rw [← h'.1]; exact hf.2.1
  obtain ⟨d1, -, -, d4⟩ := dE_of hf hp (e := e) (by rw [h'.1]; exact he)
  rw [ha, h'.1] at d1 d4
  have hbl : b < n := by rw [← hab, ← h'.1]; exact hf.gn_lt (by rw [h'.1]; exact d1)
  have hne : a ≠ b := by rw [← hab]; exact ((hp a (by rw [h'.1]; exact d1)).1).symm
  obtain ⟨h2, hh2⟩ : ∃ h2, n / 2 = h2 := ⟨_, rfl⟩
  have HLN : Hid (lesN f n = h2) := by have := lesN_half hf hp; rw [h'.1] at this; rw [Hid]; omega
  rw [hh2] at he
  obtain ⟨W0, hW0, hy, hbw, hz⟩ := Box.local_ w 28 (.slice none 0 0) (.slice none 0 0)
  have hx0 : Box2 W0 b0 A n c A' n c' := hb.below hbw
  have hb0l := hb.lt
  have HX0 := Lib.hid hx0; have HY := Lib.hid hy; have HB := Lib.hid hbw; have HZ := Lib.hid hz; have H := Lib.hid h; have H' := Lib.hid h'; have HT := Lib.hid ht; have HF := Lib.hid hf; have HP := Lib.hid hp; have HAB := Lib.hid hab; have HD4 := Lib.hid d4
  clear hx0 hy hbw hz h h' ht hf hp hb ha hab d4 hh2
  have he0 : (0 : Int) ≤ (e : Int) := by omega
  have heI : (e : Int) < (h2 : Int) := by omega
  go_enter Try.func66, Try.ntmps66
  go_wp2_with fail
  refine (lesserDarts_any b0 A A' n n c c' f W0 HX0.out (H'.out.below HB.out) HF.out).mono ?_
  rintro e' w1 ⟨v, rfl, o, bl⟩
  obtain ⟨A6, c6, rfl, -, -⟩ := o.form' ((lesPre_len f n).trans HLN.out)
  obtain ⟨adl, rfl, cl⟩ := (o.rd ((lesPre_len f n).trans HLN.out)).at_ he
  rw [HD4.out] at cl
  have HX1 := Lib.hid (HX0.out.below bl); have HY1 := Lib.hid (HY.out.below bl); have HB1 := Lib.hid (HB.out.trans (bl.mono HB.out.size))
  have hs1 : w.heap.size < w1.heap.size := by have := bl.size; have := HZ.out; omega
  clear o bl
  obtain ⟨P1, hP1⟩ : ∃ P1, w1.heap.size = P1 := ⟨_, rfl⟩
  obtain ⟨W2, hW2⟩ : ∃ W2, w1.alloc (.cells #[.int .i64 (a : Int)] 3) = W2 := ⟨_, rfl⟩
  have hb2 : Below w1.heap.size w1 W2 := by rw [← hW2]; exact (Below.refl _ _).alloc (Nat.le_refl _) _
  have hx2 := HX1.out.below hb2
  have hc1 := hx2.cell1
  have hpc : W2.cell? ⟨P1, 0, none⟩ = some (.int .i64 (a : Int)) := by rw [← hW2, ← hP1, cell_of_row _ w1.heap.size 0 _ _ (0, 0) (heap_alloc_new w1 _)]; rfl
  have hz2' : W2.heap.size = P1 + 1 := by rw [← hW2, World.size_alloc, hP1]
  have HB2 := Lib.hid (HB1.out.trans (hb2.mono HB1.out.size)); have HX2 := Lib.hid hx2; have HY2 := Lib.hid (HY1.out.below hb2)
  obtain ⟨adf, hAf, hcf⟩ := (H'.out.below HB2.out).at_ d1
  rw [HF.out.gi_gn (by rw [H'.out.1]; exact d1), HAB.out] at hcf
  subst hAf
  have ha0 : (0 : Int) ≤ (a : Int) := by omega
  have haI : (a : Int) < (n : Int) := by omega
  have HPC := Lib.hid hpc
  have HWA : Hid (Below W2.heap.size W2 (W2.alloc (.cells #[.int .i64 0] 3))) := (Below.refl _ _).alloc (Nat.le_refl _) _
  have hpA : (W2.alloc (.cells #[.int .i64 0] 3)).cell? ⟨P1, 0, none⟩ = some (.int .i64 (a : Int)) := (HWA.out.cell (p := ⟨P1, 0, none⟩) (World.block_lt_of_cell? _ _ hpc)).trans hpc
  have hcA : (W2.alloc (.cells #[.int .i64 0] 3)).cell? ⟨b0, 1, none⟩ = some (.slice (some adf) n c') := (HWA.out.cell (p := ⟨b0, 1, none⟩) (World.block_lt_of_cell? _ _ hc1)).trans hc1
  have hfA : (W2.alloc (.cells #[.int .i64 0] 3)).cell? (adf.add a) = some (.int .i64 (b : Int)) := (HWA.out.cell (World.block_lt_of_cell? _ _ hcf)).trans hcf
  clear hb2 hx2
  go_wp2_with fail
  go_region
  all_goals
    obtain ⟨W3, hW3⟩ : ∃ W3, (W2.alloc (.cells #[.int .i64 (b : Int)] 3)).drew = W3 := ⟨_, rfl⟩
    rw [hW3]
    have hb3 : Below W2.heap.size W2 W3 := by
      rw [← hW3]
      have h0 : Below W2.heap.size W2 (W2.alloc (.cells #[.int .i64 (b : Int)] 3)) := (Below.refl _ _).alloc (Nat.le_refl _) _
      exact ⟨h0.os, h0.tape, h0.output, h0.size, h0.block⟩
    have hq3 : W3.cell? ⟨P1 + 1, 0, none⟩ = some (.int .i64 (b : Int)) := by
      rw [← hW3, ← hz2']
      have : (W2.alloc (.cells #[.int .i64 (b : Int)] 3)).cell? ⟨W2.heap.size, 0, none⟩ = some (.int .i64 (b : Int)) := by rw [cell_of_row _ W2.heap.size 0 _ _ (0, 0) (heap_alloc_new W2 _)]; rfl
      exact this
    have hz3 : W3.heap.size = P1 + 1 + 1 := by
      rw [← hW3, ← hz2']
      have : (W2.alloc (.cells #[.int .i64 (b : Int)] 3)).heap.size = W2.heap.size + 1 := World.size_alloc _ _
      exact this
    have hp3 : W3.cell? ⟨P1, 0, none⟩ = some (.int .i64 (a : Int)) := (hb3.cell (p := ⟨P1, 0, none⟩) (World.block_lt_of_cell? _ _ HPC.out)).trans HPC.out
    have hx3 := HX2.out.below hb3
    have k0 := hx3.cell0
    have k1 := hx3.cell1
    have HX3 := Lib.hid hx3; have HY3 := Lib.hid (HY2.out.below hb3); have HB3 := Lib.hid (HB2.out.trans (hb3.mono HB2.out.size)); have HP3 := Lib.hid hp3; have HQ3 := Lib.hid hq3; have HZ3 := Lib.hid hz3
    clear hW3 hW2 hP1 hb3 hq3 hp3 hx3 hz3 hz2' hpA hcA hfA hc1 hcf cl hpc ha0 haI he0 heI
    go_wp2_with fail
    refine (byOrder_any n a b P1 (P1 + 1) W3 hn12 HP3.out HQ3.out).mono ?_
    rintro e' w5 ⟨u, v, rfl, ou, ov, bl⟩
    obtain ⟨K, hK⟩ : ∃ K, kpN a b n = K := ⟨_, rfl⟩
    have hKn : K ≤ n := by rw [← hK]; exact kpN_le n
    have HK := Lib.hid hK
    obtain ⟨A7, c7, rfl, -, -⟩ := ou.form' ((kpL_len n).trans hK)
    obtain ⟨A8, c8, rfl, -, -⟩ := ov.form' (nmQ_len a b n n)
    have HKP := Lib.hid (ou.rd ((kpL_len n).trans hK)); have HNQ := Lib.hid (ov.rd (nmQ_len a b n n))
    have HP5 : Hid (w5.cell? ⟨P1, 0, none⟩ = some (.int .i64 (a : Int))) := (bl.cell (p := ⟨P1, 0, none⟩) (World.block_lt_of_cell? _ _ HP3.out)).trans HP3.out
    have HQ5 : Hid (w5.cell? ⟨P1 + 1, 0, none⟩ = some (.int .i64 (b : Int))) := (bl.cell (p := ⟨P1 + 1, 0, none⟩) (World.block_lt_of_cell? _ _ HQ3.out)).trans HQ3.out
    have HX5 := Lib.hid (HX3.out.below bl); have HY5 := Lib.hid (HY3.out.below bl); have HB5 := Lib.hid (HB3.out.trans (bl.mono HB3.out.size))
    have hs5 : w.heap.size < w5.heap.size := HY5.out.lt
    clear ou ov bl hK k0 k1
    obtain ⟨lo, hlo⟩ : ∃ lo, w5.heap.size = lo := ⟨_, rfl⟩
    have HLO := Lib.hid hlo
    rw [hlo] at hs5
    clear hlo
    go_wp2_with fail
    go_loopw [10, 11, 13, 14, 40] (fun tv fv _ _ iv wr => ∃ (i : Nat) (A1 A2 : Option Addr) (c1 c2 : Nat), i ≤ K ∧ iv = .int .i64 i ∧ tv = .slice A1 i c1 ∧ fv = .slice A2 i c2 ∧ Hid (Own wr lo (.slice A1 i c1) (outI a b n (pastG t a b) i)) ∧ Hid (Own wr lo (.slice A2 i c2) (outI a b n (gn f) i)) ∧ Hid (∀ k, (Value.slice A1 i c1).ownBlock = some k → (Value.slice A2 i c2).ownBlock ≠ some k) ∧ Hid (Below lo w5 wr)) (fun _ _ _ _ iv _ => K - (intOf iv).toNat)
    case atStart => exact ⟨0, none, none, 0, 0, Nat.zero_le _, rfl, rfl, rfl, Own.nil_ _ _, Own.nil_ _ _, (fun k hk => by cases hk), Below.refl _ _⟩
    case round =>
      obtain ⟨i, A1, A2, c1, c2, hi, rfl, rfl, rfl, ho1, ho2, hap, hbr⟩ := hrel
      have hlr : lo ≤ wr.heap.size := by have := hbr.out.size; rw [HLO.out] at this; exact this
      have HBW : Hid (Below w5.heap.size w5 wr) := by rw [HLO.out]; exact hbr.out
      have HBR : Hid (Below w.heap.size w wr) := HB5.out.trans (HBW.out.mono HB5.out.size)
      by_cases hlt : i < K
      · obtain ⟨d, h1, h2, h3⟩ := kpL_find (a := a) (b := b) (k := n) (i := i) (by rw [HK.out]; exact hlt)
        obtain ⟨ad, rfl, hc⟩ := (HKP.out.below HBW.out).at_ hlt
        rw [show gi (kpL a b n) i = (d : Int) from by rw [← h3]; exact kpL_at h2 h1] at hc
        have hx := HX5.out.below HBW.out
        have k0 := hx.cell0
        have k1 := hx.cell1
        have HXR := Lib.hid hx
        have hca : wr.cell? ⟨P1, 0, none⟩ = some (.int .i64 (a : Int)) := (HBW.out.cell (p := ⟨P1, 0, none⟩) (World.block_lt_of_cell? _ _ HP5.out)).trans HP5.out
        have hcb : wr.cell? ⟨P1 + 1, 0, none⟩ = some (.int .i64 (b : Int)) := (HBW.out.cell (p := ⟨P1 + 1, 0, none⟩) (World.block_lt_of_cell? _ _ HQ5.out)).trans HQ5.out
        have HCA := Lib.hid hca; have HCB := Lib.hid hcb
        have HRT : Hid (Rd wr A n t) := H.out.below HBR.out
        obtain ⟨adt, hAt, hct⟩ := HRT.out.at_ h1
        obtain ⟨y, hy, hyn, hgy⟩ := (HT.out.into H.out.1).nat (j := d) (by rw [H.out.1]; exact h1)
        rw [hy] at hct
        obtain ⟨kk, hkk, hfst, hps⟩ := past_first HT.out (by rw [H.out.1]; exact h1) h2
        rw [hgy] at hfst hps
        obtain ⟨r0, hr0⟩ : ∃ r0, it t kk y = r0 := ⟨_, rfl⟩
        have HR0 := Lib.hid hr0; have HFST := Lib.hid hfst
        have HPS : Hid (pastG t a b d = r0) := by rw [Hid, hps, hr0]
        have H1 := Lib.hid h1; have H2 := Lib.hid h2; have H3 := Lib.hid h3
        subst hAt
        clear hx hca hcb hy hgy hkk hfst hps hr0 h2
        go_wp2_with fail
        clear hc hct k1
        go_loop [14] (fun nv => ∃ x q : Nat, x < n ∧ nv = .int .i64 x ∧ Hid (FirstAt t (stayB a b) x q) ∧ Hid (it t q x = r0)) (fun nv => away t (stayB a b) (intOf nv).toNat)
        case atStart => exact ⟨y, kk, hyn, rfl, HFST, HR0⟩
        case round =>
          obtain ⟨x, q, hxn, rfl, hf, hr⟩ := hrel
          cases q with
          | zero =>
            have hcx : stayB a b x = true := hf.out.1
            have HCX := Lib.hid hcx
            have HXR0 : Hid (x = r0) := hr.out
            clear hcx hr hf
            go_wp2_with fail
            refine (stays_any x a b P1 (P1 + 1) wr HCA.out HCB.out HCX.out).mono ?_
            rintro e9 w9 ⟨rfl, rfl⟩
            obtain ⟨yx, hyx⟩ : ∃ yx, kpN a b x = yx := ⟨_, rfl⟩
            obtain ⟨z, hz, hzn, hgz⟩ := (HF.out.into H'.out.1).nat (j := d) (by rw [H'.out.1]; exact H1.out)
            obtain ⟨yz, hyz⟩ : ∃ yz, kpN a b z = yz := ⟨_, rfl⟩
            have hzs : stayB a b z = true := by rw [← hgz]; exact pair_stay HP.out (by rw [H'.out.1]; exact d1) HAB.out (by rw [H'.out.1]; exact H1.out) H2.out
            have HNR := Lib.hid (HNQ.out.below HBW.out)
            obtain ⟨adn, hAn, hcn⟩ := HNR.out.at_ hxn
            rw [nmQ, gi_tab hxn, if_pos ⟨hxn, HCX.out⟩, hyx] at hcn
            subst hAn
            have HO1T : Hid (outI a b n (pastG t a b) (i + 1) = outI a b n (pastG t a b) i ++ [(yx : Int)]) := by
              have := outI_succ (pastG t a b) H2.out H1.out; rw [H3.out, HPS.out, ← HXR0.out, hyx] at this; exact this
            have HO2T : Hid (outI a b n (gn f) (i + 1) = outI a b n (gn f) i ++ [(yz : Int)]) := by
              have := outI_succ (gn f) H2.out H1.out; rw [H3.out, hgz, hyz] at this; exact this
            have HA1 := ho1.out.asRow (outI_len a b n (pastG t a b) i)
            have HZG := Lib.hid hz; have HYZ := Lib.hid hyz; have HZS := Lib.hid hzs
            have hnx := HNR.out
            clear hyx hz hgz hyz hzs
            go_wp2_with (first
              | (have hchk := HTWO.out; clear hchk; at_builtin; refine wpList_append_own_at _ rfl (.tmp 69) (.tmp 80) 22 rfl lo 3 i0 (.int .i64 0) 1 8 Try.underlying22 hinf hz0 hz1 hz2 rfl (by decide) _ _ _ rfl (HA2.out.alloc _) ⟨w2.heap.size, 0, none⟩ 1 1 [.int .i64 (yz : Int)] rfl rfl (cell_one_new _ _ _) (by intro u hu; simp at hu; subst hu; rfl) (by unfold maxLen; omega) (by omega) (by simp; omega) ?_; intro v4 w4 hown4 hgrow4 _ hat4; have HO4 := Lib.hid hown4; have HG4 := Lib.hid hgrow4; have HAT4 := Lib.hid hat4; clear hown4 hgrow4 hat4)
              | (at_builtin; refine wpList_append_own_at _ rfl (.tmp 62) (.tmp 67) 22 rfl lo 3 i0 (.int .i64 0) 1 8 Try.underlying22 hinf hz0 hz1 hz2 rfl (by decide) _ _ _ rfl (HA1.out.alloc _) ⟨wr.heap.size, 0, none⟩ 1 1 [.int .i64 (yx : Int)] rfl rfl (cell_one_new _ _ _) (by intro u hu; simp at hu; subst hu; rfl) (by unfold maxLen; omega) (by omega) (by simp; omega) ?_; intro v3 w2 hown3 hgrow3 _ hat3; have ha := app_int hlr ho1.out (outI_len a b n (pastG t a b) i) hown3 hgrow3; rw [← HO1T.out] at ha; obtain ⟨A3, c3, rfl, -, -⟩ := Own.form' ha.1 (n := i + 1) (outI_len _ _ _ _ _); have HO3 := Lib.hid ha.1; have HBL := Lib.hid ha.2; have HTWO := Lib.hid (True.intro); have HO2W := Lib.hid (own_apart ho2.out hap.out hgrow3); have HA2 := HO2W.out.asRow (outI_len a b n (gn f) i); have HAP := Lib.hid (apart_more hap.out ho2.out hat3); have HBW2 : Hid (Below w5.heap.size w5 w2) := (by rw [HLO.out]; exact hbr.out.trans HBL.out); have hx2 := HX5.out.below HBW2.out; have q1 := hx2.cell1; have hfc := flip_cell H'.out HB5.out HBW2.out H1.out HZG.out; have hnc := name_cell HNQ.out HBW2.out hzn HZS.out HYZ.out; have hl2 := HBL.out.size; clear ha hown3 hgrow3 hat3 hx2))
            go_roundw
            case rel =>
              have ha4 := app_int (by omega) HO2W.out (outI_len a b n (gn f) i) HO4.out HG4.out
              rw [← HO2T.out] at ha4
              obtain ⟨A4, c4, e4, -, -⟩ := Own.form' ha4.1 (n := i + 1) (outI_len _ _ _ _ _)
              have hap' : ∀ k, (Value.slice A2 i c2).ownBlock = some k → (Value.slice A3 (i + 1) c3).ownBlock ≠ some k := fun k hk hv => HAP.out k hv hk
              have h34 := own_apart HO3.out hap' HG4.out
              have hapn := apart_more hap' HO3.out HAT4.out
              refine ⟨i + 1, A3, A4, c3, c4, by omega, by go_num, rfl, e4, h34, by rw [← e4]; exact ha4.1, fun k hk hv => hapn k (by rw [e4]; exact hv) hk, (hbr.out.trans HBL.out).trans ha4.2⟩
            case measure => simp [intOf]; omega
          | succ q =>
            obtain ⟨hcx, hnx⟩ := hf.out.next
            have HCX := Lib.hid hcx
            obtain ⟨ad6, e6, hc6⟩ := HRT.out.at_ hxn
            simp only [Option.some.injEq] at e6
            subst e6
            obtain ⟨y2, hy2, hyn2, hgy2⟩ := (HT.out.into H.out.1).nat (j := x) (by rw [H.out.1]; exact hxn)
            rw [hy2] at hc6
            rw [hgy2] at hnx
            have HNX := Lib.hid hnx
            have HR2 : Hid (it t q y2 = r0) := by have := hr.out; rwa [it_succ', hgy2] at this
            have HAW : Hid (away t (stayB a b) y2 < away t (stayB a b) x) := by rw [Hid, away_eq hnx, away_eq hf.out]; omega
            clear hcx hnx hy2 hgy2 hr hf
            go_wp2_with fail
            refine (stays_any x a b P1 (P1 + 1) wr HCA.out HCB.out HCX.out).mono ?_
            rintro e9 w9 ⟨rfl, rfl⟩
            go_wp2_with fail
            go_round
            case rel => exact ⟨y2, q, hyn2, rfl, HNX, HR2⟩
            case measure => simpa [intOf] using HAW.out
      · have hiK : i = K := by omega
        have HFT : Hid (outI a b n (pastG t a b) i = delT t a b ∧ outI a b n (gn f) i = delF f a b) := by
          rw [Hid, hiK, ← HK.out, delT, delF, H.out.1, H'.out.1]; exact ⟨rfl, rfl⟩
        have hy := HY5.out.below HBW.out
        have e0 := hy.cell0
        have e1 := hy.cell1
        have e2 := hy.frozen 0
        have e3 := hy.frozen 1
        obtain ⟨hq1, hq2⟩ := hy.store2 (.slice A1 i c1) (.slice A2 i c2)
        have j0 := hq1.cell0
        have j1 := hq1.cell1
        have HD := Lib.hid (pair_done ho1.out ho2.out hap.out HBR.out hq2 (by omega) (by omega))
        clear hq1 hq2 hy hiK
        go_wp2_with fail
        exact bodyPost_ret (v := .agg #[.slice A1 i c1, .slice A2 i c2]) (by simp [results, Try.results66, go_sem, j0, j1]) rfl ⟨_, _, rfl, by rw [← HFT.out.1, ← HFT.out.2]; exact HD.out.1, HD.out.2⟩

end Go.Proofs.Ytpaohaodnchfkaa

/-
  The subgraph of a choice, as the program counts it: lesser darts, the flip that only chosen darts do, parts, sides.
-/
import Derived.Test.YtloobhfjmcffoaaRibR
import Derived.Test.YtloobhfjmcffoaaTutP
import Derived.Deep.RegionHeld3
namespace Go.Proofs.Ytloobhfjmcffoaa
open Go.RowKit

set_option maxHeartbeats 1600000 in
theorem lesserDarts_any (b : Nat) (A A' : Option Addr) (n n' c c' : Nat) (f : List Int) (w : World) (hb : Box2 w b A n c A' n' c') (h' : Rd w A' n' f) (hf : Vld f) :
    Calls Try.prog 58 #[.pointer (some ⟨b, 0, none⟩)] w fun e w' => ∃ v, e = .returned v ∧ Own w' w.heap.size v (lesPre f n') ∧ Below w.heap.size w w' := by
  obtain ⟨i0, hinf, hz0, hz1, hz2⟩ := info_parts info_int
  have hn12 : n' ≤ 12 := by rw [← h'.1]; exact hf.2.1
  have c1 := hb.cell1
  have HX := Lib.hid hb; have H' := Lib.hid h'; have HF := Lib.hid hf; clear hb h' hf
  go_enter Try.func58, Try.ntmps58
  go_wp2_with fail
  go_loopw [3, 4, 5, 11] (fun v _ _ iv wr => ∃ k : Nat, k ≤ n' ∧ iv = .int .i64 k ∧ Hid (Own wr w.heap.size v (lesPre f k)) ∧ Hid (Below w.heap.size w wr)) (fun _ _ _ iv _ => n' - (intOf iv).toNat)
  case atStart => exact ⟨0, Nat.zero_le _, rfl, Own.nil_ _ _, Below.refl _ _⟩
  case round =>
    obtain ⟨k, hk, rfl, ho, hb⟩ := hrel
    have hbs := hb.out.size
    by_cases hlt : k < n'
    · obtain ⟨ad, rfl, hc⟩ := (H'.out.below hb.out).at_ hlt
      obtain ⟨x, hx, hxn, hgx⟩ := (HF.out.into H'.out.1).nat (j := k) (by rw [H'.out.1]; exact hlt)
      rw [hx] at hc
      have HGX := Lib.hid hgx
      clear hx hgx
      by_cases hkx : k < x
      · obtain ⟨L, hL⟩ : ∃ L, (lesPre f k).length = L := ⟨_, rfl⟩
        have hLk : L ≤ 12 := by have := lesN_le f k; rw [lesPre_len] at hL; omega
        have HOA := ho.out.asRow hL
        have HL := Lib.hid hL; clear hL
        go_wp2_with (at_builtin; refine wpList_append_own _ rfl _ _ 23 rfl w.heap.size 3 i0 (.int .i64 0) 1 8 Try.underlying23 hinf hz0 hz1 hz2 rfl (by decide) _ _ _ rfl (HOA.out.alloc _) ⟨wr.heap.size, 0, none⟩ 1 1 [.int .i64 (k : Int)] rfl rfl (cell_one_new _ _ _) (by intro u hu; simp at hu; subst hu; rfl) (by unfold maxLen; omega) (by omega) (by simp; omega) ?_; intro v1 w2 hown1 hgrow1 _; have HO := Lib.hid hown1; have HGR := Lib.hid hgrow1; clear hown1 hgrow1)
        go_roundw
        case rel =>
          have ha := app_int hbs ho.out HL.out HO.out HGR.out
          exact ⟨k + 1, by omega, by go_num, by rw [lesPre, HGX.out, if_pos hkx]; exact ha.1, hb.out.trans ha.2⟩
        case measure => simp [intOf]; omega
      · go_wp2_with fail
        go_roundw
        case rel => exact ⟨k + 1, by omega, by go_num, by rw [lesPre, HGX.out, if_neg hkx, List.append_nil]; exact ho, hb⟩
        case measure => simp [intOf]; omega
    · have hkn : k = n' := by omega
      have HK := Lib.hid hkn; clear hkn
      go_wp2_with fail
      go_ret
      exact ⟨_, rfl, by rw [← HK.out]; exact ho.out, hb.out⟩

/-- Each point of a list led to the next one, the last to the first. -/
def leadL (ys zs : List Int) : Nat → List Int
  | 0 => ys
  | k + 1 => (leadL ys zs k).set (gn zs k) (gi zs ((k + 1) % zs.length))
theorem leadL_len (ys zs : List Int) : ∀ k, (leadL ys zs k).length = ys.length
  | 0 => rfl
  | k + 1 => by rw [leadL, List.length_set, leadL_len ys zs k]

set_option maxHeartbeats 1600000 in
theorem lead_any (lo g n c : Nat) (ys zs : List Int) (A : Option Addr) (d m : Nat) (w : World) (ho : Own w lo (.slice (some ⟨g, 0, none⟩) n c) ys) (hl : ys.length = n) (k : Rd w A m zs) (hm : m ≤ 12) (hne : ∀ ad : Addr, A = some ad → ad.block ≠ g) (hi : Into zs n) :
    Calls Try.prog 89 #[.slice (some ⟨g, 0, none⟩) n c, .slice A m d] w fun e w' => e = .returned (.tuple #[]) ∧ Own w' lo (.slice (some ⟨g, 0, none⟩) n c) (leadL ys zs m) ∧ w.grownBy w' (some g) := by
  have HO := Lib.hid ho; have K := Lib.hid k; have KL := Lib.hid k.1; have HNE := Lib.hid hne; have HI := Lib.hid hi; have HL := Lib.hid hl; clear ho k hne hi hl
  go_enter Try.func89, Try.ntmps89
  go_wp2_with fail
  go_loopw [4, 5, 8] (fun _ _ iv wr => ∃ k : Nat, k ≤ m ∧ iv = .int .i64 k ∧ Hid (Own wr lo (.slice (some ⟨g, 0, none⟩) n c) (leadL ys zs k)) ∧ Hid (w.grownBy wr (some g))) (fun _ _ iv _ => m - (intOf iv).toNat)
  case atStart => exact ⟨0, Nat.zero_le _, rfl, HO.out, World.grownBy.refl _ _⟩
  case round =>
    obtain ⟨k, hk, rfl, ho, hg⟩ := hrel
    by_cases hlt : k < m
    · obtain ⟨q, hq⟩ : ∃ q, (k + 1) % m = q := ⟨_, rfl⟩
      have hqm : q < m := by rw [← hq]; exact Nat.mod_lt _ (by omega)
      have hq' : ((k : Int) + 1) % (m : Int) = (q : Int) := by rw [← hq]; push_cast; rfl
      have hkr : Rd wr A m zs := K.out.kept_ hg.out (fun ad e h => HNE.out ad e (by injection h with h; exact h.symm))
      obtain ⟨ad, rfl, hc⟩ := hkr.at_ hlt
      obtain ⟨ad', e, hc'⟩ := hkr.at_ hqm
      simp only [Option.some.injEq] at e
      subst e
      obtain ⟨x, hx, hxn, hgx⟩ := HI.out.nat (j := k) (by rw [KL.out]; exact hlt)
      obtain ⟨y, hy, hyn, hgy⟩ := HI.out.nat (j := q) (by rw [KL.out]; exact hqm)
      rw [hx] at hc
      rw [hy] at hc'
      have hll : (leadL ys zs k).length = n := (leadL_len _ _ _).trans HL.out
      obtain ⟨g1, e1, -, hc1, hf1⟩ := ho.out.cellAt hll hxn
      simp only [Option.some.injEq, Addr.mk.injEq, and_true] at e1
      subst e1
      have HST := Lib.hid (ho.out.stored hll x (y : Int))
      have HLL : Hid (leadL ys zs (k + 1) = (leadL ys zs k).set x (y : Int)) := by rw [Hid, leadL, hgx, KL.out, hq, hy]
      clear hx hgx hy hgy hq hkr hll
      go_wp2_with fail
      go_roundw
      case rel => exact ⟨k + 1, by omega, by go_num, by rw [HLL.out]; exact HST.out.1, grownBy_trans hg.out HST.out.2⟩
      case measure => simp [intOf]; omega
    · have hkm : k = m := by omega
      have HK := Lib.hid hkm; clear hkm
      go_wp2_with fail
      exact bodyPost_end (v := .tuple #[]) (by simp [results, Try.results89, go_sem]) rfl ⟨rfl, by rw [← HK.out]; exact ho.out, hg.out⟩

/-! ### The flip that only chosen darts do -/
def flipE (f : List Int) (s e : Nat) : List Int := tab f.length fun d => if edgN f d < e ∧ s.testBit (edgN f d) = true then gi f d else (d : Int)
theorem flipE_len (f : List Int) (s e : Nat) : (flipE f s e).length = f.length := tab_len _ _
theorem flipE_zero (f : List Int) (s : Nat) : marks 0 f.length = flipE f s 0 := tab_ext (marks_len _ _) fun j hj => by rw [gi_marks hj, if_neg (fun h => by omega)]; omega
theorem flipE_all {f : List Int} (hf : Vld f) (hp : Paired f) (s : Nat) : flipE f s (lesN f f.length) = flipS f s := tab_ext (flipE_len _ _ _) fun j hj => by
  have := edgN_lt hf hp hj
  rw [flipE, gi_tab hj]
  by_cases h : s.testBit (edgN f j) = true
  · rw [if_pos ⟨this, h⟩, if_pos (show chB f s j = true from h)]
  · rw [if_neg (fun h' => h h'.2), if_neg (show ¬ chB f s j = true from h)]
theorem flipE_no {f : List Int} {s e : Nat} (h : s.testBit e = false) : flipE f s (e + 1) = flipE f s e := by
  unfold flipE
  congr 1
  funext d
  by_cases hd : edgN f d = e
  · rw [if_neg (fun h' => by rw [hd, h] at h'; exact absurd h'.2 (by decide)), if_neg (fun h' => by omega)]
  · have : (edgN f d < e + 1 ∧ s.testBit (edgN f d) = true) ↔ (edgN f d < e ∧ s.testBit (edgN f d) = true) := ⟨fun h' => ⟨by omega, h'.2⟩, fun h' => ⟨by omega, h'.2⟩⟩
    simp only [this]
theorem flipE_yes {f : List Int} (hf : Vld f) (hp : Paired f) {s e d z : Nat} (h : s.testBit e = true) (hd : d < f.length) (hl : d < gn f d) (he : lesN f d = e) (hz : gn f d = z) :
    leadL (flipE f s e) [(d : Int), (z : Int)] 2 = flipE f s (e + 1) := by
  have hzl : z < f.length := by rw [← hz]; exact hf.gn_lt hd
  have e1 : leadL (flipE f s e) [(d : Int), (z : Int)] 2 = ((flipE f s e).set d (z : Int)).set z (d : Int) := by
    simp [leadL, gn, gi]
  rw [e1]
  refine tab_ext (by simp [flipE_len]) fun j hj => ?_
  have hed : edgN f d = e := by rw [edgN_less hl, he]
  have hez : edgN f z = e := by rw [← hz, edgN_flip hp hd, hed]
  rw [gi_set _ _ _ _ (by rw [List.length_set, flipE_len]; exact hzl), gi_set _ _ _ _ (by rw [flipE_len]; exact hd)]
  by_cases h1 : j = z
  · rw [if_pos h1, h1, hez, if_pos ⟨by omega, h⟩, hf.gi_gn hzl, ← hz, (hp d hd).2]
  · rw [if_neg h1]
    by_cases h2 : j = d
    · rw [if_pos h2, h2, hed, if_pos ⟨by omega, h⟩, hf.gi_gn hd, hz]
    · rw [if_neg h2, flipE, gi_tab hj]
      have hne : edgN f j ≠ e := fun e' => by
        rcases edgN_inj hf hp hd hj (hed.trans e'.symm) with h3 | h3
        · exact h2 h3
        · exact h1 (h3.trans hz)
      have : (edgN f j < e + 1 ∧ s.testBit (edgN f j) = true) ↔ (edgN f j < e ∧ s.testBit (edgN f j) = true) := ⟨fun h' => ⟨by omega, h'.2⟩, fun h' => ⟨by omega, h'.2⟩⟩
      simp only [this]

set_option maxHeartbeats 1600000 in
theorem flipOf_any (b : Nat) (A A' : Option Addr) (n n' c c' s : Nat) (f : List Int) (w : World) (hb : Box2 w b A n c A' n' c') (h' : Rd w A' n' f) (hf : Vld f) (hp : Paired f) (hs : s < 64) :
    Calls Try.prog 73 #[.pointer (some ⟨b, 0, none⟩), .int .u64 s] w fun e w' => ∃ v, e = .returned v ∧ Own w' w.heap.size v (flipS f s) ∧ Below w.heap.size w w' := by
  have hn12 : n' ≤ 12 := by rw [← h'.1]; exact hf.2.1
  have hn1 : 1 ≤ n' := by rw [← h'.1]; exact hf.1
  have h6 : lesN f n' ≤ 6 := by have := lesN_half hf hp; rw [h'.1] at this; omega
  have c1 := hb.cell1
  have hbl := hb.lt
  have HX := Lib.hid hb; have H' := Lib.hid h'; have HF := Lib.hid hf; have HP := Lib.hid hp; clear hb h' hf hp
  go_enter Try.func73, Try.ntmps73
  go_wp2_with fail
  refine (still_new n' w (by omega)).mono ?_
  rintro e w1 ⟨v, rfl, o, bl⟩
  obtain ⟨A1, cq, rfl, -, -⟩ := o.form' (marks_len 0 n')
  obtain ⟨g, rfl, hg, -, -⟩ := o.cellAt (marks_len 0 n') (k := 0) (by omega)
  have HO1 := Lib.hid o; have HB1 := Lib.hid bl; have HX1 := Lib.hid (HX.out.below bl)
  have HGL : Hid (g < w1.heap.size) := (o.lt g rfl).2
  clear o bl c1
  go_wp2_with fail
  refine (lesserDarts_any b A A' n n' c c' f w1 HX1.out (H'.out.below HB1.out) HF.out).mono ?_
  rintro e w2 ⟨v, rfl, o, bl⟩
  obtain ⟨m, hmm⟩ : ∃ m, lesN f n' = m := ⟨_, rfl⟩
  rw [hmm] at h6
  obtain ⟨A2, cl, rfl, -, -⟩ := o.form' ((lesPre_len f n').trans hmm)
  have HL := Lib.hid o; have HB2 := Lib.hid (HB1.out.trans (bl.mono HB1.out.size)); have HO2 := Lib.hid (HO1.out.below bl); have HMM := Lib.hid hmm
  have HRL := Lib.hid (o.rd ((lesPre_len f n').trans hmm))
  have HNB : Hid (∀ ad : Addr, A2 = some ad → ad.block ≠ g) := fun ad e hh => by
    have := HL.out.lt ad.block (by rw [e]; rfl)
    have := HGL.out; omega
  have hgw2 : g < w2.heap.size := (HO2.out.lt g rfl).2
  clear o bl hmm
  go_wp2_with fail
  go_loopw [6, 7, 17] (fun _ _ iv wr => ∃ k : Nat, k ≤ m ∧ iv = .int .i64 k ∧ Hid (Own wr w.heap.size (.slice (some ⟨g, 0, none⟩) n' cq) (flipE f s k)) ∧ Hid (Below w.heap.size w wr) ∧ Hid (w2.grownBy wr (some g))) (fun _ _ iv _ => m - (intOf iv).toNat)
  case atStart => exact ⟨0, Nat.zero_le _, rfl, by rw [← flipE_zero, H'.out.1]; exact HO2.out, HB2.out, World.grownBy.refl _ _⟩
  case round =>
    obtain ⟨k, hk, rfl, ho, hb, hg⟩ := hrel
    have hfl : (flipE f s k).length = n' := (flipE_len _ _ _).trans H'.out.1
    have hgr := (ho.out.lt g rfl)
    by_cases hlt : k < m
    · obtain ⟨d, hd1, hd2, hd3⟩ := lesPre_find (f := f) (k := n') (e := k) (by rw [HMM.out]; exact hlt)
      have hat := lesPre_at hd2 hd1
      rw [hd3] at hat
      have hrr : Rd wr A2 m (lesPre f n') := HRL.out.kept_ hg.out (fun ad e h => HNB.out ad e (by injection h with h; exact h.symm))
      obtain ⟨ad, rfl, hc⟩ := hrr.at_ hlt
      rw [hat] at hc
      have H1 := Lib.hid hd1; have H2 := Lib.hid hd2; have H3 := Lib.hid hd3
      have HFL := Lib.hid hfl
      clear hd2 hd3 hat hrr hfl
      cases hbt : s.testBit k with
      | false =>
        have HBT := Lib.hid hbt; clear hbt
        go_wp2_with (go_at_call 72; refine (hasS_any s k _ hs (by omega) HBT.out).mono ?_; rintro e w3 ⟨rfl, rfl⟩)
        go_roundw
        case rel => exact ⟨k + 1, by omega, by go_num, by rw [flipE_no HBT.out]; exact ho.out, hb.out, hg.out⟩
        case measure => simp [intOf]; omega
      | true =>
        have HBT := Lib.hid hbt; clear hbt
        have c1 := (HX.out.below hb.out).cell1
        obtain ⟨ad2, rfl, hc2⟩ := (H'.out.below hb.out).at_ hd1
        obtain ⟨z, hz, hzn, hgz⟩ := (HF.out.into H'.out.1).nat (j := d) (by rw [H'.out.1]; exact hd1)
        rw [hz] at hc2
        have HZ := Lib.hid hz; have HGZ := Lib.hid hgz
        clear hz hgz
        have HLW : Hid (Own (wr.alloc (.cells #[.int .i64 (d : Int), .int .i64 (z : Int)] 3)) w.heap.size (.slice (some ⟨g, 0, none⟩) n' cq) (flipE f s k)) := ho.out.below ((Below.refl _ _).alloc (Nat.le_refl _) _)
        have HRD : Hid (Rd (wr.alloc (.cells #[.int .i64 (d : Int), .int .i64 (z : Int)] 3)) (some ⟨wr.heap.size, 0, none⟩) 2 [(d : Int), (z : Int)]) := ⟨rfl, fun _ => ⟨_, rfl, fun j hj => two_new wr _ _ _ _ rfl j _ (by
          rcases j with _ | _ | j
          · rfl
          · rfl
          · omega)⟩⟩
        go_wp2_with (first
          | (go_at_call 72; refine (hasS_any s k _ hs (by omega) HBT.out).mono ?_; rintro e w3 ⟨rfl, rfl⟩)
          | (go_at_call 89; refine (lead_any w.heap.size g n' cq (flipE f s k) [(d : Int), (z : Int)] _ 2 2 _ HLW.out HFL.out HRD.out (by omega) (fun ad e => by injection e with e; rw [← e]; show wr.heap.size ≠ g; omega) (fun j hj => by
              rcases j with _ | _ | j
              · show (0 : Int) ≤ d ∧ (d : Int) < n'; omega
              · show (0 : Int) ≤ z ∧ (z : Int) < n'; omega
              · have : j + 1 + 1 < 2 := hj; omega)).mono ?_; rintro e w3 ⟨rfl, o, gr⟩; have HO3 := Lib.hid o; have HG3 := Lib.hid gr; clear o gr))
        go_roundw
        case rel =>
          have hbs := hb.out.size
          have hst : leadL (flipE f s k) [(d : Int), (z : Int)] 2 = flipE f s (k + 1) := flipE_yes HF.out HP.out HBT.out (by rw [H'.out.1]; exact H1.out) H2.out H3.out HGZ.out
          refine ⟨k + 1, by omega, by go_num, by rw [← hst]; exact HO3.out, (hb.out.alloc hbs _).grown HG3.out (by simp; omega) (fun j hj => by injection hj with hj; omega), ?_⟩
          have := hg.out
          have hgs := this.size
          exact ⟨HG3.out.os.trans this.os, HG3.out.tape.trans this.tape, HG3.out.output.trans this.output, by have := HG3.out.size; simp at this; omega, fun i hi hne => by
            rw [HG3.out.block i (by simp; omega) hne, Below.heap_alloc wr _ i (by omega)]
            exact this.block i hi hne⟩
        case measure => simp [intOf]; omega
    · have hkm : k = m := by omega
      have HK := Lib.hid hkm; clear hkm
      go_wp2_with fail
      go_ret
      refine ⟨_, rfl, ?_, hb.out⟩
      have := ho.out
      rw [HK.out, ← HMM.out, ← H'.out.1, flipE_all HF.out HP.out] at this
      rw [← H'.out.1]
      exact this

end Go.Proofs.Ytloobhfjmcffoaa

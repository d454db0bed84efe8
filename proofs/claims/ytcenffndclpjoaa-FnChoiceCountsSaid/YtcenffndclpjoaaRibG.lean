/-
  The subgraph of a choice, as the program counts it: lesser darts, the flip that only chosen darts do, parts, sides.
  The subgraph of a choice by the program: parts, sides, rank, nullity, genus.
-/
import Derived.Test.YtcenffndclpjoaaRibR
import Derived.Test.YtcenffndclpjoaaTutP
import Derived.Deep.RegionHeld3
namespace Go.Proofs.Ytcenffndclpjoaa
open Go.RowKit

set_option maxHeartbeats 1600000 in
theorem lesserDarts_at (b : Nat) (A A' : Option Addr) (n n' c c' : Nat) (f : List Int) (w : World) (hb : MapAt w b A n c A' n' c') (h' : Rd w A' n' f) (hf : Vld f) :
    Calls Try.prog 49 #[.pointer (some ⟨b, 0, none⟩)] w fun e w' => ∃ v, e = .returned v ∧ Own w' w.heap.size v (lesPre f n') ∧ Below w.heap.size w w' := by
  obtain ⟨i0, hinf, hz0, hz1, hz2⟩ := info_parts info_int
  have hn12 : n' ≤ 12 := by rw [← h'.1]; exact hf.2.1
  have c1 := hb.cell1
  have HX := Lib.hid hb; have H' := Lib.hid h'; have HF := Lib.hid hf; clear hb h' hf
  go_enter Try.func49, Try.ntmps49
  go_wp2_with fail
  go_loopw [3, 4, 5, 11] (fun v _ _ iv wr => ∃ k : Nat, k ≤ n' ∧ iv = .int .i64 k ∧ Hid (Own wr w.heap.size v (lesPre f k)) ∧ Hid (Below w.heap.size w wr)) (fun _ _ _ iv _ => n' - (intOf iv).toNat)
  case atStart => exact ⟨0, Nat.zero_le _, rfl, Own.nil_ _ _, Below.refl _ _⟩
  case round =>
    obtain ⟨k, hk, rfl, ho, hb⟩ := hrel
    have hbs := hb.out.size
    by_cases hlt : k < n'
    · obtain ⟨ad, rfl, hc⟩ := (H'.out.below hb.out).at_ hlt
      obtain ⟨x, hx, hxn, hgx⟩ := (HF.out.into H'.out.1).nat (j := k) (by rw [H'.out.1]; exact hlt)
      rw [hx] at hc
      have HGX := Lib.hid hgx
      clear hx hgx
      by_cases hkx : k < x
      · obtain ⟨L, hL⟩ : ∃ L, (lesPre f k).length = L := ⟨_, rfl⟩
        have hLk : L ≤ 12 := by have := lesN_le f k; rw [lesPre_len] at hL; omega
        have HOA := ho.out.asRow hL
        have HL := Lib.hid hL; clear hL
        go_wp2_with (at_builtin; refine wpList_append_own _ rfl _ _ 23 rfl w.heap.size 3 i0 (.int .i64 0) 1 8 Try.underlying23 hinf hz0 hz1 hz2 rfl (by decide) _ _ _ rfl (HOA.out.alloc _) ⟨wr.heap.size, 0, none⟩ 1 1 [.int .i64 (k : Int)] rfl rfl (cell_one_new _ _ _) (by intro u hu; simp at hu; subst hu; rfl) (by unfold maxLen; omega) (by omega) (by simp; omega) ?_; intro v1 w2 hown1 hgrow1 _; have HO := Lib.hid hown1; have HGR := Lib.hid hgrow1; clear hown1 hgrow1)
        go_roundw
        case rel =>
          have ha := app_int hbs ho.out HL.out HO.out HGR.out
          exact ⟨k + 1, by omega, by go_num, by rw [lesPre, HGX.out, if_pos hkx]; exact ha.1, hb.out.trans ha.2⟩
        case measure => simp [intOf]; omega
      · go_wp2_with fail
        go_roundw
        case rel => exact ⟨k + 1, by omega, by go_num, by rw [lesPre, HGX.out, if_neg hkx, List.append_nil]; exact ho, hb⟩
        case measure => simp [intOf]; omega
    · have hkn : k = n' := by omega
      have HK := Lib.hid hkn; clear hkn
      go_wp2_with fail
      go_ret
      exact ⟨_, rfl, by rw [← HK.out]; exact ho.out, hb.out⟩
theorem lesserDarts_any (b : Nat) (A A' : Option Addr) (n n' c c' : Nat) (f : List Int) (w : World) (hb : Box2 w b A n c A' n' c') (h' : Rd w A' n' f) (hf : Vld f) :
    Calls Try.prog 49 #[.pointer (some ⟨b, 0, none⟩)] w fun e w' => ∃ v, e = .returned v ∧ Own w' w.heap.size v (lesPre f n') ∧ Below w.heap.size w w' :=
  lesserDarts_at b A A' n n' c c' f w hb.at_ h' hf

/-- Each point of a list led to the next one, the last to the first. -/
def leadL (ys zs : List Int) : Nat → List Int
  | 0 => ys
  | k + 1 => (leadL ys zs k).set (gn zs k) (gi zs ((k + 1) % zs.length))
theorem leadL_len (ys zs : List Int) : ∀ k, (leadL ys zs k).length = ys.length
  | 0 => rfl
  | k + 1 => by rw [leadL, List.length_set, leadL_len ys zs k]

set_option maxHeartbeats 1600000 in
theorem lead_any (lo g n c : Nat) (ys zs : List Int) (A : Option Addr) (d m : Nat) (w : World) (ho : Own w lo (.slice (some ⟨g, 0, none⟩) n c) ys) (hl : ys.length = n) (k : Rd w A m zs) (hm : m ≤ 12) (hne : ∀ ad : Addr, A = some ad → ad.block ≠ g) (hi : Into zs n) :
    Calls Try.prog 83 #[.slice (some ⟨g, 0, none⟩) n c, .slice A m d] w fun e w' => e = .returned (.tuple #[]) ∧ Own w' lo (.slice (some ⟨g, 0, none⟩) n c) (leadL ys zs m) ∧ w.grownBy w' (some g) := by
  have HO := Lib.hid ho; have K := Lib.hid k; have KL := Lib.hid k.1; have HNE := Lib.hid hne; have HI := Lib.hid hi; have HL := Lib.hid hl; clear ho k hne hi hl
  go_enter Try.func83, Try.ntmps83
  go_wp2_with fail
  go_loopw [4, 5, 8] (fun _ _ iv wr => ∃ k : Nat, k ≤ m ∧ iv = .int .i64 k ∧ Hid (Own wr lo (.slice (some ⟨g, 0, none⟩) n c) (leadL ys zs k)) ∧ Hid (w.grownBy wr (some g))) (fun _ _ iv _ => m - (intOf iv).toNat)
  case atStart => exact ⟨0, Nat.zero_le _, rfl, HO.out, World.grownBy.refl _ _⟩
  case round =>
    obtain ⟨k, hk, rfl, ho, hg⟩ := hrel
    by_cases hlt : k < m
    · obtain ⟨q, hq⟩ : ∃ q, (k + 1) % m = q := ⟨_, rfl⟩
      have hqm : q < m := by rw [← hq]; exact Nat.mod_lt _ (by omega)
      have hq' : ((k : Int) + 1) % (m : Int) = (q : Int) := by rw [← hq]; push_cast; rfl
      have hkr : Rd wr A m zs := K.out.kept_ hg.out (fun ad e h => HNE.out ad e (by injection h with h; exact h.symm))
      obtain ⟨ad, rfl, hc⟩ := hkr.at_ hlt
      obtain ⟨ad', e, hc'⟩ := hkr.at_ hqm
      simp only [Option.some.injEq] at e
      subst e
      obtain ⟨x, hx, hxn, hgx⟩ := HI.out.nat (j := k) (by rw [KL.out]; exact hlt)
      obtain ⟨y, hy, hyn, hgy⟩ := HI.out.nat (j := q) (by rw [KL.out]; exact hqm)
      rw [hx] at hc
      rw [hy] at hc'
      have hll : (leadL ys zs k).length = n := (leadL_len _ _ _).trans HL.out
      obtain ⟨g1, e1, -, hc1, hf1⟩ := ho.out.cellAt hll hxn
      simp only [Option.some.injEq, Addr.mk.injEq, and_true] at e1
      subst e1
      have HST := Lib.hid (ho.out.stored hll x (y : Int))
      have HLL : Hid (leadL ys zs (k + 1) = (leadL ys zs k).set x (y : Int)) := by rw [Hid, leadL, hgx, KL.out, hq, hy]
      clear hx hgx hy hgy hq hkr hll
      go_wp2_with fail
      go_roundw
      case rel => exact ⟨k + 1, by omega, by go_num, by rw [HLL.out]; exact HST.out.1, grownBy_trans hg.out HST.out.2⟩
      case measure => simp [intOf]; omega
    · have hkm : k = m := by omega
      have HK := Lib.hid hkm; clear hkm
      go_wp2_with fail
      exact bodyPost_end (v := .tuple #[]) (by simp [results, Try.results83, go_sem]) rfl ⟨rfl, by rw [← HK.out]; exact ho.out, hg.out⟩

/-! ### The flip that only chosen darts do -/
def flipE (f : List Int) (s e : Nat) : List Int := tab f.length fun d => if edgN f d < e ∧ s.testBit (edgN f d) = true then gi f d else (d : Int)
theorem flipE_len (f : List Int) (s e : Nat) : (flipE f s e).length = f.length := tab_len _ _
theorem flipE_zero (f : List Int) (s : Nat) : marks 0 f.length = flipE f s 0 := tab_ext (marks_len _ _) fun j hj => by rw [gi_marks hj, if_neg (fun h => by omega)]; omega
theorem flipE_all {f : List Int} (hf : Vld f) (hp : Paired f) (s : Nat) : flipE f s (lesN f f.length) = flipS f s := tab_ext (flipE_len _ _ _) fun j hj => by
  have := edgN_lt hf hp hj
  rw [flipE, gi_tab hj]
  by_cases h : s.testBit (edgN f j) = true
  · rw [if_pos ⟨this, h⟩, if_pos (show chB f s j = true from h)]
  · rw [if_neg (fun h' => h h'.2), if_neg (show ¬ chB f s j = true from h)]
theorem flipE_no {f : List Int} {s e : Nat} (h : s.testBit e = false) : flipE f s (e + 1) = flipE f s e := by
  unfold flipE
  congr 1
  funext d
  by_cases hd : edgN f d = e
  · rw [if_neg (fun h' => by rw [hd, h] at h'; exact absurd h'.2 (by decide)), if_neg (fun h' => by omega)]
  · have : (edgN f d < e + 1 ∧ s.testBit (edgN f d) = true) ↔ (edgN f d < e ∧ s.testBit (edgN f d) = true) := ⟨fun h' => ⟨by omega, h'.2⟩, fun h' => ⟨by omega, h'.2⟩⟩
    simp only [this]
theorem flipE_yes {f : List Int} (hf : Vld f) (hp : Paired f) {s e d z : Nat} (h : s.testBit e = true) (hd : d < f.length) (hl : d < gn f d) (he : lesN f d = e) (hz : gn f d = z) :
    leadL (flipE f s e) [(d : Int), (z : Int)] 2 = flipE f s (e + 1) := by
  have hzl : z < f.length := by rw [← hz]; exact hf.gn_lt hd
  have e1 : leadL (flipE f s e) [(d : Int), (z : Int)] 2 = ((flipE f s e).set d (z : Int)).set z (d : Int) := by
    simp [leadL, gn, gi]
  rw [e1]
  refine tab_ext (by simp [flipE_len]) fun j hj => ?_
  have hed : edgN f d = e := by rw [edgN_less hl, he]
  have hez : edgN f z = e := by rw [← hz, edgN_flip hp hd, hed]
  rw [gi_set _ _ _ _ (by rw [List.length_set, flipE_len]; exact hzl), gi_set _ _ _ _ (by rw [flipE_len]; exact hd)]
  by_cases h1 : j = z
  · rw [if_pos h1, h1, hez, if_pos ⟨by omega, h⟩, hf.gi_gn hzl, ← hz, (hp d hd).2]
  · rw [if_neg h1]
    by_cases h2 : j = d
    · rw [if_pos h2, h2, hed, if_pos ⟨by omega, h⟩, hf.gi_gn hd, hz]
    · rw [if_neg h2, flipE, gi_tab hj]
      have hne : edgN f j ≠ e := fun e' => by
        rcases edgN_inj hf hp hd hj (hed.trans e'.symm) with h3 | h3
        · exact h2 h3
        · exact h1 (h3.trans hz)
      have : (edgN f j < e + 1 ∧ s.testBit (edgN f j) = true) ↔ (edgN f j < e ∧ s.testBit (edgN f j) = true) := ⟨fun h' => ⟨by omega, h'.2⟩, fun h' => ⟨by omega, h'.2⟩⟩
      simp only [this]

set_option maxHeartbeats 1600000 in
theorem flipOf_any (b : Nat) (A A' : Option Addr) (n n' c c' s : Nat) (f : List Int) (w : World) (hb : Box2 w b A n c A' n' c') (h' : Rd w A' n' f) (hf : Vld f) (hp : Paired f) (hs : s < 64) :
    Calls Try.prog 58 #[.pointer (some ⟨b, 0, none⟩), .int .u64 s] w fun e w' => ∃ v, e = .returned v ∧ Own w' w.heap.size v (flipS f s) ∧ Below w.heap.size w w' := by
  have hn12 : n' ≤ 12 := by rw [← h'.1]; exact hf.2.1
  have hn1 : 1 ≤ n' := by rw [← h'.1]; exact hf.1
  have h6 : lesN f n' ≤ 6 := by have := lesN_half hf hp; rw [h'.1] at this; omega
  have c1 := hb.cell1
  have hbl := hb.lt
  have HX := Lib.hid hb; have H' := Lib.hid h'; have HF := Lib.hid hf; have HP := Lib.hid hp; clear hb h' hf hp
  go_enter Try.func58, Try.ntmps58
  go_wp2_with fail
  refine (still_new n' w (by omega)).mono ?_
  rintro e w1 ⟨v, rfl, o, bl⟩
  obtain ⟨A1, cq, rfl, -, -⟩ := o.form' (marks_len 0 n')
  obtain ⟨g, rfl, hg, -, -⟩ := o.cellAt (marks_len 0 n') (k := 0) (by omega)
  have HO1 := Lib.hid o; have HB1 := Lib.hid bl; have HX1 := Lib.hid (HX.out.below bl)
  have HGL : Hid (g < w1.heap.size) := (o.lt g rfl).2
  clear o bl c1
  go_wp2_with fail
  refine (lesserDarts_any b A A' n n' c c' f w1 HX1.out (H'.out.below HB1.out) HF.out).mono ?_
  rintro e w2 ⟨v, rfl, o, bl⟩
  obtain ⟨m, hmm⟩ : ∃ m, lesN f n' = m := ⟨_, rfl⟩
  rw [hmm] at h6
  obtain ⟨A2, cl, rfl, -, -⟩ := o.form' ((lesPre_len f n').trans hmm)
  have HL := Lib.hid o; have HB2 := Lib.hid (HB1.out.trans (bl.mono HB1.out.size)); have HO2 := Lib.hid (HO1.out.below bl); have HMM := Lib.hid hmm
  have HRL := Lib.hid (o.rd ((lesPre_len f n').trans hmm))
  have HNB : Hid (∀ ad : Addr, A2 = some ad → ad.block ≠ g) := fun ad e hh => by
    have := HL.out.lt ad.block (by rw [e]; rfl)
    have := HGL.out; omega
  have hgw2 : g < w2.heap.size := (HO2.out.lt g rfl).2
  clear o bl hmm
  go_wp2_with fail
  go_loopw [6, 7, 17] (fun _ _ iv wr => ∃ k : Nat, k ≤ m ∧ iv = .int .i64 k ∧ Hid (Own wr w.heap.size (.slice (some ⟨g, 0, none⟩) n' cq) (flipE f s k)) ∧ Hid (Below w.heap.size w wr) ∧ Hid (w2.grownBy wr (some g))) (fun _ _ iv _ => m - (intOf iv).toNat)
  case atStart => exact ⟨0, Nat.zero_le _, rfl, by rw [← flipE_zero, H'.out.1]; exact HO2.out, HB2.out, World.grownBy.refl _ _⟩
  case round =>
    obtain ⟨k, hk, rfl, ho, hb, hg⟩ := hrel
    have hfl : (flipE f s k).length = n' := (flipE_len _ _ _).trans H'.out.1
    have hgr := (ho.out.lt g rfl)
    by_cases hlt : k < m
    · obtain ⟨d, hd1, hd2, hd3⟩ := lesPre_find (f := f) (k := n') (e := k) (by rw [HMM.out]; exact hlt)
      have hat := lesPre_at hd2 hd1
      rw [hd3] at hat
      have hrr : Rd wr A2 m (lesPre f n') := HRL.out.kept_ hg.out (fun ad e h => HNB.out ad e (by injection h with h; exact h.symm))
      obtain ⟨ad, rfl, hc⟩ := hrr.at_ hlt
      rw [hat] at hc
      have H1 := Lib.hid hd1; have H2 := Lib.hid hd2; have H3 := Lib.hid hd3
      have HFL := Lib.hid hfl
      clear hd2 hd3 hat hrr hfl
      cases hbt : s.testBit k with
      | false =>
        have HBT := Lib.hid hbt; clear hbt
        go_wp2_with (go_at_call 81; refine (hasS_any s k _ hs (by omega) HBT.out).mono ?_; rintro e w3 ⟨rfl, rfl⟩)
        go_roundw
        case rel => exact ⟨k + 1, by omega, by go_num, by rw [flipE_no HBT.out]; exact ho.out, hb.out, hg.out⟩
        case measure => simp [intOf]; omega
      | true =>
        have HBT := Lib.hid hbt; clear hbt
        have c1 := (HX.out.below hb.out).cell1
        obtain ⟨ad2, rfl, hc2⟩ := (H'.out.below hb.out).at_ hd1
        obtain ⟨z, hz, hzn, hgz⟩ := (HF.out.into H'.out.1).nat (j := d) (by rw [H'.out.1]; exact hd1)
        rw [hz] at hc2
        have HZ := Lib.hid hz; have HGZ := Lib.hid hgz
        clear hz hgz
        have HLW : Hid (Own (wr.alloc (.cells #[.int .i64 (d : Int), .int .i64 (z : Int)] 3)) w.heap.size (.slice (some ⟨g, 0, none⟩) n' cq) (flipE f s k)) := ho.out.below ((Below.refl _ _).alloc (Nat.le_refl _) _)
        have HRD : Hid (Rd (wr.alloc (.cells #[.int .i64 (d : Int), .int .i64 (z : Int)] 3)) (some ⟨wr.heap.size, 0, none⟩) 2 [(d : Int), (z : Int)]) := ⟨rfl, fun _ => ⟨_, rfl, fun j hj => two_new wr _ _ _ _ rfl j _ (by
          rcases j with _ | _ | j
          · rfl
          · rfl
          · omega)⟩⟩
        go_wp2_with (first
          | (go_at_call 81; refine (hasS_any s k _ hs (by omega) HBT.out).mono ?_; rintro e w3 ⟨rfl, rfl⟩)
          | (go_at_call 83; refine (lead_any w.heap.size g n' cq (flipE f s k) [(d : Int), (z : Int)] _ 2 2 _ HLW.out HFL.out HRD.out (by omega) (fun ad e => by injection e with e; rw [← e]; show wr.heap.size ≠ g; omega) (fun j hj => by
              rcases j with _ | _ | j
              · show (0 : Int) ≤ d ∧ (d : Int) < n'; omega
              · show (0 : Int) ≤ z ∧ (z : Int) < n'; omega
              · have : j + 1 + 1 < 2 := hj; omega)).mono ?_; rintro e w3 ⟨rfl, o, gr⟩; have HO3 := Lib.hid o; have HG3 := Lib.hid gr; clear o gr))
        go_roundw
        case rel =>
          have hbs := hb.out.size
          have hst : leadL (flipE f s k) [(d : Int), (z : Int)] 2 = flipE f s (k + 1) := flipE_yes HF.out HP.out HBT.out (by rw [H'.out.1]; exact H1.out) H2.out H3.out HGZ.out
          refine ⟨k + 1, by omega, by go_num, by rw [← hst]; exact HO3.out, (hb.out.alloc hbs _).grown HG3.out (by simp; omega) (fun j hj => by injection hj with hj; omega), ?_⟩
          have := hg.out
          have hgs := this.size
          exact ⟨HG3.out.os.trans this.os, HG3.out.tape.trans this.tape, HG3.out.output.trans this.output, by have := HG3.out.size; simp at this; omega, fun i hi hne => by
            rw [HG3.out.block i (by simp; omega) hne, Below.heap_alloc wr _ i (by omega)]
            exact this.block i hi hne⟩
        case measure => simp [intOf]; omega
    · have hkm : k = m := by omega
      have HK := Lib.hid hkm; clear hkm
      go_wp2_with fail
      go_ret
      refine ⟨_, rfl, ?_, hb.out⟩
      have := ho.out
      rw [HK.out, ← HMM.out, ← H'.out.1, flipE_all HF.out HP.out] at this
      rw [← H'.out.1]
      exact this

end Go.Proofs.Ytcenffndclpjoaa

namespace Go.Proofs.Ytcenffndclpjoaa
open Go.RowKit

def qa (x : Int) : Int := IntKind.u64.wrap (bits BinOp.and IntKind.u64 (x / 2) 6148914691236517205 + bits BinOp.and IntKind.u64 x 6148914691236517205)
def qb (x : Int) : Int := IntKind.u64.wrap (bits BinOp.and IntKind.u64 (x / 4) 3689348814741910323 + bits BinOp.and IntKind.u64 x 3689348814741910323)
def qc (x : Int) : Int := bits BinOp.and IntKind.u64 (x / 16 + x) 1085102592571150095
def qd (x : Int) : Int := bits BinOp.and IntKind.i64 x 127
theorem q_in : ∀ b : Nat, b < 64 → (0 ≤ qa b ∧ qa b < 256) ∧ (0 ≤ qb (qa b) ∧ qb (qa b) < 256) ∧ (0 ≤ qc (qb (qa b)) ∧ qc (qb (qa b)) < 16) ∧ qd (qc (qb (qa b))) = ((bL b).length : Nat) := by decide +kernel
theorem bL_few : ∀ b : Nat, b < 64 → (bL b).length ≤ 6 := by decide +kernel

theorem ones64_any (b l : Nat) (w : World) (hb : b < 64) (hl : (bL b).length = l) :
    Calls Try.prog 94 #[.int .u64 b] w fun e w' => e = .returned (.int .i64 l) ∧ w = w' := by
  obtain ⟨⟨a1, a2⟩, ⟨b1, b2⟩, ⟨c1, c2⟩, d⟩ := q_in b hb
  obtain ⟨x1, h1⟩ : ∃ x1, qa b = x1 := ⟨_, rfl⟩
  rw [h1] at a1 a2 b1 b2 c1 c2 d
  obtain ⟨x2, h2⟩ : ∃ x2, qb x1 = x2 := ⟨_, rfl⟩
  rw [h2] at b1 b2 c1 c2 d
  obtain ⟨x3, h3⟩ : ∃ x3, qc x2 = x3 := ⟨_, rfl⟩
  rw [h3] at c1 c2 d
  rw [hl] at d
  clear hl
  unfold qa at h1; unfold qb at h2; unfold qc at h3; unfold qd at d
  have e1 : x3 / 256 = 0 := by omega
  have e2 : x3 / 65536 = 0 := by omega
  have e3 : x3 / 4294967296 = 0 := by omega
  go_enter Try.func94, Try.ntmps94
  go_wp2_with fail
  go_ret
  exact ⟨rfl, rfl⟩
theorem ones_any (b l : Nat) (w : World) (hb : b < 64) (hl : (bL b).length = l) :
    Calls Try.prog 85 #[.int .u64 b] w fun e w' => e = .returned (.int .i64 l) ∧ w = w' := by
  have HL := Lib.hid hl; clear hl
  go_enter Try.func85, Try.ntmps85
  go_wp2_with fail
  refine (ones64_any b l w hb HL.out).mono ?_
  rintro e w1 ⟨rfl, rfl⟩
  go_wp2_with fail
  go_ret
  exact ⟨rfl, rfl⟩
theorem sizeS_any (b l : Nat) (w : World) (hb : b < 64) (hl : (bL b).length = l) :
    Calls Try.prog 62 #[.int .u64 b] w fun e w' => e = .returned (.int .i64 l) ∧ w = w' := by
  have HL := Lib.hid hl; clear hl
  go_enter Try.func62, Try.ntmps62
  go_wp2_with fail
  refine (ones_any b l w hb HL.out).mono ?_
  rintro e w1 ⟨rfl, rfl⟩
  go_wp2_with fail
  go_ret
  exact ⟨rfl, rfl⟩

theorem box2_drewN {w : World} {b n c n' c' : Nat} {A A' : Option Addr} (h : Box2 w b A n c A' n' c') (k : Nat) : Box2 (w.drewN k) b A n c A' n' c' := h
/-- How many of the first k numbers stand at their own places. -/
def fixN (xs : List Int) : Nat → Nat
  | 0 => 0
  | k + 1 => fixN xs k + if gi xs k = (k : Int) then 1 else 0
theorem fixN_le (xs : List Int) : ∀ k, fixN xs k ≤ k
  | 0 => Nat.le_refl _
  | k + 1 => by have := fixN_le xs k; rw [fixN]; split <;> omega
theorem fixNR_succ (xs : List Int) (k : Nat) : fixN xs (k + 1) = fixN xs k + if gi xs k = (k : Int) then 1 else 0 := rfl
set_option maxHeartbeats 800000 in
theorem orbCountV_any (b0 : Nat) (A A' : Option Addr) (n c c' : Nat) (xs ys : List Int) (w : World) (hv0 : w.cell? ⟨b0, 0, none⟩ = some (.slice A' n c')) (h : Rd w A n xs) (h' : Rd w A' n ys) (hp : Vld xs) (hq : Vld ys) :
    Calls Try.prog 59 #[.slice A n c, .slice (some ⟨b0, 0, none⟩) 1 1] w fun e w' => e = .returned (.int .i64 (fixN (orbL xs ys) n : Int)) ∧ Below w.heap.size w w' := by
  have Hx := Lib.hid h.1
  have hn20 : n ≤ 12 := by rw [← h.1]; exact hp.2.1
  have HC := Lib.hid (orbits_any b0 A A' n c c' xs ys w hv0 h h' hp hq)
  clear hv0 h h' hp hq
  go_enter Try.func59, Try.ntmps59
  go_wp2_with fail
  refine HC.out.mono ?_
  rintro e w1 ⟨v, rfl, o, b⟩
  have hol : (orbL xs ys).length = n := by rw [orbL_len]; exact Hx.out
  obtain ⟨A1, c1, rfl, hr, -⟩ := o.form' hol
  have HR := Lib.hid hr; have HB := Lib.hid b; clear o b hr hol
  obtain ⟨ls, hls⟩ : ∃ ls, orbL xs ys = ls := ⟨_, rfl⟩
  rw [hls] at HR
  have HLS := Lib.hid hls; clear hls
  go_wp2_with fail
  go_loop [5, 12] (fun cv kv => ∃ k q : Nat, k ≤ n ∧ q ≤ k ∧ kv = .int .i64 k ∧ cv = .int .i64 q ∧ Hid (q = fixN ls k)) (fun _ kv => n - (intOf kv).toNat)
  case atStart => exact ⟨0, 0, Nat.zero_le _, Nat.le_refl _, rfl, rfl, rfl⟩
  case round =>
    obtain ⟨k, q, hk, hqk, rfl, rfl, hq⟩ := hrel
    by_cases hlt : k < n
    · obtain ⟨ad, rfl, hc⟩ := HR.out.at_ hlt
      have hs := fixNR_succ ls k
      rw [← hq.out] at hs
      have HS := Lib.hid hs; clear hs
      obtain ⟨z, hz⟩ : ∃ z, gi ls k = z := ⟨_, rfl⟩
      rw [hz] at hc
      have HZ := Lib.hid hz; clear hz
      by_cases e : z = (k : Int)
      · have d : ((k : Int) == z) = true := by simp [e]
        have HE := Lib.hid e; clear e
        go_wp2_with fail
        go_round
        case rel => exact ⟨k + 1, q + 1, by omega, by omega, by go_num, by go_num, by rw [Hid, HS.out, if_pos (HZ.out.trans HE.out)]⟩
        case measure => simp [intOf]; omega
      · have d : ((k : Int) == z) = false := by simp; omega
        have HE := Lib.hid e; clear e
        go_wp2_with fail
        go_round
        case rel => exact ⟨k + 1, q, by omega, by omega, by go_num, rfl, by rw [Hid, HS.out, if_neg (fun e => HE.out (HZ.out.symm.trans e))]; rfl⟩
        case measure => simp [intOf]; omega
    · have hkn : k = n := by omega
      have HK := Lib.hid hkn; clear hkn
      go_wp2_with fail
      go_ret
      exact ⟨ret_int (by rw [HLS.out, hq.out, HK.out]), HB.out⟩

noncomputable def ptsN (t f : List Int) (s : Nat) : Nat := fixN (orbL t (flipS f s)) t.length
def sidN (t f : List Int) (s : Nat) : Nat := (cyclesL (sidL t f s)).length
/-- Parts, sides, rank, nullity, genus, told by the numbers of parts, sides, vertices, chosen edges. -/
def subI (p sd v e : Nat) : List Int := [(p : Int), (sd : Int), (v : Int) - p, (e : Int) - ((v : Int) - p), (2 * (p : Int) - v + e - sd).tdiv 2]
noncomputable def subL (t f : List Int) (s : Nat) : List Int := subI (ptsN t f s) (sidN t f s) (cntV t) (bL s).length
def aggOf (xs : List Int) : Value := .agg ((xs.map (Value.int .i64)).toArray)

/-- Block b holds five values as a struct of type t. -/
def Row5 (w : World) (b : Nat) (t : TypeId) (u0 u1 u2 u3 u4 : Value) : Prop := w.heap[b]? = some (.cells #[u0, u1, u2, u3, u4] t (0, 0))
section
variable {w w' : World} {b : Nat} {t : TypeId} {u0 u1 u2 u3 u4 : Value}
theorem Row5.new (w : World) (t : TypeId) (u0 u1 u2 u3 u4 : Value) : Row5 (w.alloc (.cells #[u0, u1, u2, u3, u4] t)) w.heap.size t u0 u1 u2 u3 u4 := heap_alloc_new w _
theorem Row5.lt (h : Row5 w b t u0 u1 u2 u3 u4) : b < w.heap.size := (Array.getElem?_eq_some_iff.1 h).1
theorem Row5.below (h : Row5 w b t u0 u1 u2 u3 u4) (hb : Below w.heap.size w w') : Row5 w' b t u0 u1 u2 u3 u4 := (hb.block b h.lt).trans h
theorem Row5.cells (h : Row5 w b t u0 u1 u2 u3 u4) : w.cell? ⟨b, 0, none⟩ = some u0 ∧ w.cell? ⟨b, 1, none⟩ = some u1 ∧ w.cell? ⟨b, 2, none⟩ = some u2 ∧ w.cell? ⟨b, 3, none⟩ = some u3 ∧ w.cell? ⟨b, 4, none⟩ = some u4 := by
  refine ⟨?_, ?_, ?_, ?_, ?_⟩ <;> (rw [cell_of_row w b _ _ _ (0, 0) h]; rfl)
theorem Row5.frozen (h : Row5 w b t u0 u1 u2 u3 u4) (j : Nat) : w.frozen? ⟨b, j, none⟩ = false := frozen_of_row w b j _ _ h
theorem Row5.store (h : Row5 w b t u0 u1 u2 u3 u4) (v0 v1 v2 v3 v4 : Value) :
    Row5 (((((w.setCell ⟨b, 0, none⟩ v0).setCell ⟨b, 1, none⟩ v1).setCell ⟨b, 2, none⟩ v2).setCell ⟨b, 3, none⟩ v3).setCell ⟨b, 4, none⟩ v4) b t v0 v1 v2 v3 v4 ∧ w.grownBy (((((w.setCell ⟨b, 0, none⟩ v0).setCell ⟨b, 1, none⟩ v1).setCell ⟨b, 2, none⟩ v2).setCell ⟨b, 3, none⟩ v3).setCell ⟨b, 4, none⟩ v4) (some b) := by
  refine ⟨?_, grownBy_trans (grownBy_trans (grownBy_trans (grownBy_trans (grown_set _ _ _ _) (grown_set _ _ _ _)) (grown_set _ _ _ _)) (grown_set _ _ _ _)) (grown_set _ _ _ _)⟩
  unfold Row5 at h ⊢
  rw [set_row2 (set_row2 (set_row2 (set_row2 (set_row2 h))))]; rfl
end

set_option maxRecDepth 20000 in
set_option maxHeartbeats 3200000 in
theorem subgraph_any (b : Nat) (A A' : Option Addr) (n c c' s p sd v l : Nat) (t f : List Int) (w : World) (hb : Box2 w b A n c A' n c') (h : Rd w A n t) (h' : Rd w A' n f) (hm : IsMap t f) (hs : s < 64)
    (hpn : ptsN t f s = p) (hsd : sidN t f s = sd) (hv : cntV t = v) (hl : (bL s).length = l) :
    Calls Try.prog 31 #[.pointer (some ⟨b, 0, none⟩), .int .u64 s] w fun e w' => e = .returned (aggOf (subI p sd v l)) ∧ Below w.heap.size w w' := by
  have hn12 : n ≤ 12 := by rw [← h'.1]; exact hm.flip.2.1
  have hp12 : p ≤ 12 := by rw [← hpn]; have := fixN_le (orbL t (flipS f s)) t.length; rw [h.1] at this; unfold ptsN; rw [h.1]; omega
  have hsV := sidL_vld hm s
  have hsd12 : sd ≤ 12 := by
    rw [← hsd]; have := cyclesL_len (p := sidL t f s); have := sidL_len t f s; have := hm.flip.2.1; unfold sidN; omega
  have hv12 : v ≤ 12 := by rw [← hv]; have := cyclesL_len (p := t); have := hm.turn.2.1; unfold cntV; omega
  have hl6 : l ≤ 6 := by rw [← hl]; exact bL_few s hs
  have HX := Lib.hid hb; have H := Lib.hid h; have H' := Lib.hid h'; have HM := Lib.hid hm; have HP := Lib.hid hpn; have HSD := Lib.hid hsd; have HVV := Lib.hid hv; have HLL := Lib.hid hl
  have HSV := Lib.hid hsV
  have HFV := Lib.hid (flipS_vld hm.flip hm.paired s)
  have HFL : Hid ((flipS f s).length = n) := by rw [Hid, flipS_len, h'.1]
  clear hb h h' hm hpn hsd hv hl hsV
  have HB0 : Hid (Below w.heap.size w (w.alloc (.cells #[.int .i64 0, .int .i64 0, .int .i64 0, .int .i64 0, .int .i64 0] 51))) := (Below.refl _ _).alloc (Nat.le_refl _) _
  have HR0 := Lib.hid (Row5.new w 51 (.int .i64 0) (.int .i64 0) (.int .i64 0) (.int .i64 0) (.int .i64 0))
  obtain ⟨W0, hW0⟩ : ∃ W0, w.alloc (.cells #[.int .i64 0, .int .i64 0, .int .i64 0, .int .i64 0, .int .i64 0] 51) = W0 := ⟨_, rfl⟩
  rw [hW0] at HB0 HR0
  have HX0 := Lib.hid (HX.out.below HB0.out)
  have c0 := HX0.out.cell0
  have c1 := HX0.out.cell1
  go_enter Try.func31, Try.ntmps31
  go_wp2_with fail
  go_region_held3 (fun w' => w'.cell? ⟨b, 0, none⟩ = some (.slice A n c)) (first | go_keep | exact (HX0.out.below BL.out).cell0) (first
    | (go_at_call 58; refine (flipOf_any b A A' n n c c' s f _ (box2_drewN HX0.out _) ((H'.out.below HB0.out).drewN _) HM.out.flip HM.out.paired hs).mono ?_; rintro e w1 ⟨v1, rfl, o, bl⟩; have HO := Lib.hid o; have BL := Lib.hid (Below.of_drewN bl); clear o bl))
  obtain ⟨A2, c2, rfl, -, -⟩ := HO.out.form' HFL.out
  have HF1 := Lib.hid (HO.out.rd HFL.out)
  have HB1 := Lib.hid (HB0.out.trans (BL.out.mono HB0.out.size)); have HX1 := Lib.hid (HX0.out.below BL.out); have HR1 := Lib.hid (HR0.out.below BL.out)
  clear hW0 c0 c1
  go_wp2_with fail
  have HB1a : Hid (Below w1.heap.size w1 (w1.alloc (.cells #[.slice A2 n c2] 64))) := (Below.refl _ _).alloc (Nat.le_refl _) _
  refine (orbCountV_any w1.heap.size A A2 n c c2 t (flipS f s) _ (by rw [cell_of_row _ w1.heap.size 0 _ _ (0, 0) (heap_alloc_new w1 _)]; rfl) ((H.out.below HB1.out).alloc _) (HF1.out.alloc _) HM.out.turn HFV.out).mono ?_
  rintro e w2 ⟨rfl, bl⟩
  have hb2 : Below w1.heap.size w1 w2 := HB1a.out.trans (bl.mono (by simp))
  rw [show fixN (orbL t (flipS f s)) n = p from by rw [← HP.out, ptsN, H.out.1]]
  have HB2 := Lib.hid (HB1.out.trans (hb2.mono HB1.out.size)); have HR2 := Lib.hid (HR1.out.below hb2); have HF2 := Lib.hid (HF1.out.below hb2)
  clear bl hb2
  go_wp2_with fail
  refine (then_any A2 A n n c2 c (flipS f s) t w2 HF2.out (H.out.below HB2.out) (by omega) (by omega) (HFV.out.into HFL.out)).mono ?_
  rintro e w3 ⟨v3, rfl, o, bl⟩
  obtain ⟨A4, c4, rfl, -, -⟩ := o.form' ((sidL_len t f s).trans H'.out.1)
  have HS3 := Lib.hid (o.rd ((sidL_len t f s).trans H'.out.1))
  have HB3 := Lib.hid (HB2.out.trans (bl.mono HB2.out.size)); have HR3 := Lib.hid (HR2.out.below bl); clear o bl
  go_wp2_with fail
  refine (count_any w3 A4 c4 n (sidL t f s) HS3.out HSV.out).mono ?_
  rintro e w4 ⟨rfl, bl⟩
  rw [show (cyclesL (sidL t f s)).length = sd from HSD.out]
  have HB4 := Lib.hid (HB3.out.trans (bl.mono HB3.out.size)); have HR4 := Lib.hid (HR3.out.below bl); clear bl
  go_wp2_with fail
  refine (count_any w4 A c n t (H.out.below HB4.out) HM.out.turn).mono ?_
  rintro e w5 ⟨rfl, bl⟩
  rw [show (cyclesL t).length = v from HVV.out]
  have HB5 := Lib.hid (HB4.out.trans (bl.mono HB4.out.size)); have hr5 := HR4.out.below bl
  obtain ⟨z0, z1, z2, z3, z4⟩ := hr5.cells
  have y0 := hr5.frozen 0
  have y1 := hr5.frozen 1
  have y2 := hr5.frozen 2
  have y3 := hr5.frozen 3
  have y4 := hr5.frozen 4
  have HR5 := Lib.hid hr5
  clear bl hr5
  go_wp2_with fail
  refine (sizeS_any s l w5 hs HLL.out).mono ?_
  rintro e w6 ⟨rfl, rfl⟩
  go_wp2_with fail
  obtain ⟨hq1, hq2⟩ := HR5.out.store (.int .i64 (p : Int)) (.int .i64 (sd : Int)) (.int .i64 ((v : Int) - p)) (.int .i64 ((l : Int) - ((v : Int) - p))) (.int .i64 ((2 * (p : Int) - v + l - sd).tdiv 2))
  obtain ⟨k0, k1, k2, k3, k4⟩ := hq1.cells
  have HBW := Lib.hid (HB5.out.grown hq2 HB5.out.size (fun k hk => by cases hk; exact Nat.le_refl _))
  clear hq1 hq2
  exact bodyPost_ret (v := aggOf (subI p sd v l)) (by simp [results, Try.results31, go_sem, k0, k1, k2, k3, k4, aggOf, subI]) rfl ⟨rfl, HBW.out⟩

end Go.Proofs.Ytcenffndclpjoaa

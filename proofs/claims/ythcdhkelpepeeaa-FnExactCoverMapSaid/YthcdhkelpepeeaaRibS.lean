/-
  The subgraph of a choice, as the program counts it: lesser darts, the flip that only chosen darts do, parts, sides.
-/
import Derived.Test.YthcdhkelpepeeaaRibR
import Derived.Test.YthcdhkelpepeeaaTutP
import Derived.Deep.RegionHeld3
namespace Go.Proofs.Ythcdhkelpepeeaa
open Go.RowKit

set_option maxHeartbeats 1600000 in
theorem lesserDarts_at (b : Nat) (A A' : Option Addr) (n n' c c' : Nat) (f : List Int) (w : World) (hb : MapAt w b A n c A' n' c') (h' : Rd w A' n' f) (hf : Vld f) :
    Calls Try.prog 91 #[.pointer (some ⟨b, 0, none⟩)] w fun e w' => ∃ v, e = .returned v ∧ Own w' w.heap.size v (lesPre f n') ∧ Below w.heap.size w w' := by
  obtain ⟨i0, hinf, hz0, hz1, hz2⟩ := info_parts info_int
  have hn12 : n' ≤ 12 := by rw [← h'.1]; exact hf.2.1
  have c1 := hb.cell1
  have HX := Lib.hid hb; have H' := Lib.hid h'; have HF := Lib.hid hf; clear hb h' hf
  go_enter Try.func91, Try.ntmps91
  go_wp2_with fail
  go_loopw [3, 4, 5, 11] (fun v _ _ iv wr => ∃ k : Nat, k ≤ n' ∧ iv = .int .i64 k ∧ Hid (Own wr w.heap.size v (lesPre f k)) ∧ Hid (Below w.heap.size w wr)) (fun _ _ _ iv _ => n' - (intOf iv).toNat)
  case atStart => exact ⟨0, Nat.zero_le _, rfl, Own.nil_ _ _, Below.refl _ _⟩
  case round =>
    obtain ⟨k, hk, rfl, ho, hb⟩ := hrel
    have hbs := hb.out.size
    by_cases hlt : k < n'
    · obtain ⟨ad, rfl, hc⟩ := (H'.out.below hb.out).at_ hlt
      obtain ⟨x, hx, hxn, hgx⟩ := (HF.out.into H'.out.1).nat (j := k) (by rw [H'.out.1]; exact hlt)
      rw [hx] at hc
      have HGX := Lib.hid hgx
      clear hx hgx
      by_cases hkx : k < x
      · obtain ⟨L, hL⟩ : ∃ L, (lesPre f k).length = L := ⟨_, rfl⟩
        have hLk : L ≤ 12 := by have := lesN_le f k; rw [lesPre_len] at hL; omega
        have HOA := ho.out.asRow hL
        have HL := Lib.hid hL; clear hL
        go_wp2_with (at_builtin; refine wpList_append_own _ rfl _ _ 22 rfl w.heap.size 3 i0 (.int .i64 0) 1 8 Try.underlying22 hinf hz0 hz1 hz2 rfl (by decide) _ _ _ rfl (HOA.out.alloc _) ⟨wr.heap.size, 0, none⟩ 1 1 [.int .i64 (k : Int)] rfl rfl (cell_one_new _ _ _) (by intro u hu; simp at hu; subst hu; rfl) (by unfold maxLen; omega) (by omega) (by simp; omega) ?_; intro v1 w2 hown1 hgrow1 _; have HO := Lib.hid hown1; have HGR := Lib.hid hgrow1; clear hown1 hgrow1)
        go_roundw
        case rel =>
          have ha := app_int hbs ho.out HL.out HO.out HGR.out
          exact ⟨k + 1, by omega, by go_num, by rw [lesPre, HGX.out, if_pos hkx]; exact ha.1, hb.out.trans ha.2⟩
        case measure => simp [intOf]; omega
      · go_wp2_with fail
        go_roundw
        case rel => exact ⟨k + 1, by omega, by go_num, by rw [lesPre, HGX.out, if_neg hkx, List.append_nil]; exact ho, hb⟩
        case measure => simp [intOf]; omega
    · have hkn : k = n' := by omega
      have HK := Lib.hid hkn; clear hkn
      go_wp2_with fail
      go_ret
      exact ⟨_, rfl, by rw [← HK.out]; exact ho.out, hb.out⟩
theorem lesserDarts_any (b : Nat) (A A' : Option Addr) (n n' c c' : Nat) (f : List Int) (w : World) (hb : Box2 w b A n c A' n' c') (h' : Rd w A' n' f) (hf : Vld f) :
    Calls Try.prog 91 #[.pointer (some ⟨b, 0, none⟩)] w fun e w' => ∃ v, e = .returned v ∧ Own w' w.heap.size v (lesPre f n') ∧ Below w.heap.size w w' :=
  lesserDarts_at b A A' n n' c c' f w hb.at_ h' hf

/-- Each point of a list led to the next one, the last to the first. -/
def leadL (ys zs : List Int) : Nat → List Int
  | 0 => ys
  | k + 1 => (leadL ys zs k).set (gn zs k) (gi zs ((k + 1) % zs.length))
theorem leadL_len (ys zs : List Int) : ∀ k, (leadL ys zs k).length = ys.length
  | 0 => rfl
  | k + 1 => by rw [leadL, List.length_set, leadL_len ys zs k]

def flipE (f : List Int) (s e : Nat) : List Int := tab f.length fun d => if edgN f d < e ∧ s.testBit (edgN f d) = true then gi f d else (d : Int)
theorem flipE_len (f : List Int) (s e : Nat) : (flipE f s e).length = f.length := tab_len _ _
theorem flipE_zero (f : List Int) (s : Nat) : marks 0 f.length = flipE f s 0 := tab_ext (marks_len _ _) fun j hj => by rw [gi_marks hj, if_neg (fun h => by omega)]; omega
theorem flipE_all {f : List Int} (hf : Vld f) (hp : Paired f) (s : Nat) : flipE f s (lesN f f.length) = flipS f s := tab_ext (flipE_len _ _ _) fun j hj => by
  have := edgN_lt hf hp hj
  rw [flipE, gi_tab hj]
  by_cases h : s.testBit (edgN f j) = true
  · rw [if_pos ⟨this, h⟩, if_pos (show chB f s j = true from h)]
  · rw [if_neg (fun h' => h h'.2), if_neg (show ¬ chB f s j = true from h)]
theorem flipE_no {f : List Int} {s e : Nat} (h : s.testBit e = false) : flipE f s (e + 1) = flipE f s e := by
  unfold flipE
  congr 1
  funext d
  by_cases hd : edgN f d = e
  · rw [if_neg (fun h' => by rw [hd, h] at h'; exact absurd h'.2 (by decide)), if_neg (fun h' => by omega)]
  · have : (edgN f d < e + 1 ∧ s.testBit (edgN f d) = true) ↔ (edgN f d < e ∧ s.testBit (edgN f d) = true) := ⟨fun h' => ⟨by omega, h'.2⟩, fun h' => ⟨by omega, h'.2⟩⟩
    simp only [this]
theorem flipE_yes {f : List Int} (hf : Vld f) (hp : Paired f) {s e d z : Nat} (h : s.testBit e = true) (hd : d < f.length) (hl : d < gn f d) (he : lesN f d = e) (hz : gn f d = z) :
    leadL (flipE f s e) [(d : Int), (z : Int)] 2 = flipE f s (e + 1) := by
  have hzl : z < f.length := by rw [← hz]; exact hf.gn_lt hd
  have e1 : leadL (flipE f s e) [(d : Int), (z : Int)] 2 = ((flipE f s e).set d (z : Int)).set z (d : Int) := by
    simp [leadL, gn, gi]
  rw [e1]
  refine tab_ext (by simp [flipE_len]) fun j hj => ?_
  have hed : edgN f d = e := by rw [edgN_less hl, he]
  have hez : edgN f z = e := by rw [← hz, edgN_flip hp hd, hed]
  rw [gi_set _ _ _ _ (by rw [List.length_set, flipE_len]; exact hzl), gi_set _ _ _ _ (by rw [flipE_len]; exact hd)]
  by_cases h1 : j = z
  · rw [if_pos h1, h1, hez, if_pos ⟨by omega, h⟩, hf.gi_gn hzl, ← hz, (hp d hd).2]
  · rw [if_neg h1]
    by_cases h2 : j = d
    · rw [if_pos h2, h2, hed, if_pos ⟨by omega, h⟩, hf.gi_gn hd, hz]
    · rw [if_neg h2, flipE, gi_tab hj]
      have hne : edgN f j ≠ e := fun e' => by
        rcases edgN_inj hf hp hd hj (hed.trans e'.symm) with h3 | h3
        · exact h2 h3
        · exact h1 (h3.trans hz)
      have : (edgN f j < e + 1 ∧ s.testBit (edgN f j) = true) ↔ (edgN f j < e ∧ s.testBit (edgN f j) = true) := ⟨fun h' => ⟨by omega, h'.2⟩, fun h' => ⟨by omega, h'.2⟩⟩
      simp only [this]

end Go.Proofs.Ythcdhkelpepeeaa

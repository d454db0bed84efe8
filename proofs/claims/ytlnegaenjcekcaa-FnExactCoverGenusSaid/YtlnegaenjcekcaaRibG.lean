/-
  The subgraph of a choice, as the program counts it: lesser darts, the flip that only chosen darts do, parts, sides.
  The subgraph of a choice by the program: parts, sides, rank, nullity, genus.
-/
import Derived.Test.YtlnegaenjcekcaaRibR
import Derived.Test.YtlnegaenjcekcaaTutP
import Derived.Deep.RegionHeld3
namespace Go.Proofs.Ytlnegaenjcekcaa
open Go.RowKit

set_option maxHeartbeats 1600000 in
theorem lesserDarts_at (b : Nat) (A A' : Option Addr) (n n' c c' : Nat) (f : List Int) (w : World) (hb : MapAt w b A n c A' n' c') (h' : Rd w A' n' f) (hf : Vld f) :
    Calls Try.prog 85 #[.pointer (some ⟨b, 0, none⟩)] w fun e w' => ∃ v, e = .returned v ∧ Own w' w.heap.size v (lesPre f n') ∧ Below w.heap.size w w' := by
  obtain ⟨i0, hinf, hz0, hz1, hz2⟩ := info_parts info_int
  have hn12 : n' ≤ 12 := by rw [← h'.1]; exact hf.2.1
  have c1 := hb.cell1
  have HX := Lib.hid hb; have H' := Lib.hid h'; have HF := Lib.hid hf; clear hb h' hf
  go_enter Try.func85, Try.ntmps85
  go_wp2_with fail
  go_loopw [3, 4, 5, 11] (fun v _ _ iv wr => ∃ k : Nat, k ≤ n' ∧ iv = .int .i64 k ∧ Hid (Own wr w.heap.size v (lesPre f k)) ∧ Hid (Below w.heap.size w wr)) (fun _ _ _ iv _ => n' - (intOf iv).toNat)
  case atStart => exact ⟨0, Nat.zero_le _, rfl, Own.nil_ _ _, Below.refl _ _⟩
  case round =>
    obtain ⟨k, hk, rfl, ho, hb⟩ := hrel
    have hbs := hb.out.size
    by_cases hlt : k < n'
    · obtain ⟨ad, rfl, hc⟩ := (H'.out.below hb.out).at_ hlt
      obtain ⟨x, hx, hxn, hgx⟩ := (HF.out.into H'.out.1).nat (j := k) (by rw [H'.out.1]; exact hlt)
      rw [hx] at hc
      have HGX := Lib.hid hgx
      clear hx hgx
      by_cases hkx : k < x
      · obtain ⟨L, hL⟩ : ∃ L, (lesPre f k).length = L := ⟨_, rfl⟩
        have hLk : L ≤ 12 := by have := lesN_le f k; rw [lesPre_len] at hL; omega
        have HOA := ho.out.asRow hL
        have HL := Lib.hid hL; clear hL
        go_wp2_with (at_builtin; refine wpList_append_own _ rfl _ _ 22 rfl w.heap.size 3 i0 (.int .i64 0) 1 8 Try.underlying22 hinf hz0 hz1 hz2 rfl (by decide) _ _ _ rfl (HOA.out.alloc _) ⟨wr.heap.size, 0, none⟩ 1 1 [.int .i64 (k : Int)] rfl rfl (cell_one_new _ _ _) (by intro u hu; simp at hu; subst hu; rfl) (by unfold maxLen; omega) (by omega) (by simp; omega) ?_; intro v1 w2 hown1 hgrow1 _; have HO := Lib.hid hown1; have HGR := Lib.hid hgrow1; clear hown1 hgrow1)
        go_roundw
        case rel =>
          have ha := app_int hbs ho.out HL.out HO.out HGR.out
          exact ⟨k + 1, by omega, by go_num, by rw [lesPre, HGX.out, if_pos hkx]; exact ha.1, hb.out.trans ha.2⟩
        case measure => simp [intOf]; omega
      · go_wp2_with fail
        go_roundw
        case rel => exact ⟨k + 1, by omega, by go_num, by rw [lesPre, HGX.out, if_neg hkx, List.append_nil]; exact ho, hb⟩
        case measure => simp [intOf]; omega
    · have hkn : k = n' := by omega
      have HK := Lib.hid hkn; clear hkn
      go_wp2_with fail
      go_ret
      exact ⟨_, rfl, by rw [← HK.out]; exact ho.out, hb.out⟩
theorem lesserDarts_any (b : Nat) (A A' : Option Addr) (n n' c c' : Nat) (f : List Int) (w : World) (hb : Box2 w b A n c A' n' c') (h' : Rd w A' n' f) (hf : Vld f) :
    Calls Try.prog 85 #[.pointer (some ⟨b, 0, none⟩)] w fun e w' => ∃ v, e = .returned v ∧ Own w' w.heap.size v (lesPre f n') ∧ Below w.heap.size w w' :=
  lesserDarts_at b A A' n n' c c' f w hb.at_ h' hf

/-- Each point of a list led to the next one, the last to the first. -/
def leadL (ys zs : List Int) : Nat → List Int
  | 0 => ys
  | k + 1 => (leadL ys zs k).set (gn zs k) (gi zs ((k + 1) % zs.length))
theorem leadL_len (ys zs : List Int) : ∀ k, (leadL ys zs k).length = ys.length
  | 0 => rfl
  | k + 1 => by rw [leadL, List.length_set, leadL_len ys zs k]

def flipE (f : List Int) (s e : Nat) : List Int := tab f.length fun d => if edgN f d < e ∧ s.testBit (edgN f d) = true then gi f d else (d : Int)
theorem flipE_len (f : List Int) (s e : Nat) : (flipE f s e).length = f.length := tab_len _ _
theorem flipE_zero (f : List Int) (s : Nat) : marks 0 f.length = flipE f s 0 := tab_ext (marks_len _ _) fun j hj => by rw [gi_marks hj, if_neg (fun h => by omega)]; omega
theorem flipE_all {f : List Int} (hf : Vld f) (hp : Paired f) (s : Nat) : flipE f s (lesN f f.length) = flipS f s := tab_ext (flipE_len _ _ _) fun j hj => by
  have := edgN_lt hf hp hj
  rw [flipE, gi_tab hj]
  by_cases h : s.testBit (edgN f j) = true
  · rw [if_pos ⟨this, h⟩, if_pos (show chB f s j = true from h)]
  · rw [if_neg (fun h' => h h'.2), if_neg (show ¬ chB f s j = true from h)]
theorem flipE_no {f : List Int} {s e : Nat} (h : s.testBit e = false) : flipE f s (e + 1) = flipE f s e := by
  unfold flipE
  congr 1
  funext d
  by_cases hd : edgN f d = e
  · rw [if_neg (fun h' => by rw [hd, h] at h'; exact absurd h'.2 (by decide)), if_neg (fun h' => by omega)]
  · have : (edgN f d < e + 1 ∧ s.testBit (edgN f d) = true) ↔ (edgN f d < e ∧ s.testBit (edgN f d) = true) := ⟨fun h' => ⟨by omega, h'.2⟩, fun h' => ⟨by omega, h'.2⟩⟩
    simp only [this]
theorem flipE_yes {f : List Int} (hf : Vld f) (hp : Paired f) {s e d z : Nat} (h : s.testBit e = true) (hd : d < f.length) (hl : d < gn f d) (he : lesN f d = e) (hz : gn f d = z) :
    leadL (flipE f s e) [(d : Int), (z : Int)] 2 = flipE f s (e + 1) := by
  have hzl : z < f.length := by rw [← hz]; exact hf.gn_lt hd
  have e1 : leadL (flipE f s e) [(d : Int), (z : Int)] 2 = ((flipE f s e).set d (z : Int)).set z (d : Int) := by
    simp [leadL, gn, gi]
  rw [e1]
  refine tab_ext (by simp [flipE_len]) fun j hj => ?_
  have hed : edgN f d = e := by rw [edgN_less hl, he]
  have hez : edgN f z = e := by rw [← hz, edgN_flip hp hd, hed]
  rw [gi_set _ _ _ _ (by rw [List.length_set, flipE_len]; exact hzl), gi_set _ _ _ _ (by rw [flipE_len]; exact hd)]
  by_cases h1 : j = z
  · rw [if_pos h1, h1, hez, if_pos ⟨by omega, h⟩, hf.gi_gn hzl, ← hz, (hp d hd).2]
  · rw [if_neg h1]
    by_cases h2 : j = d
    · rw [if_pos h2, h2, hed, if_pos ⟨by omega, h⟩, hf.gi_gn hd, hz]
    · rw [if_neg h2, flipE, gi_tab hj]
      have hne : edgN f j ≠ e := fun e' => by
        rcases edgN_inj hf hp hd hj (hed.trans e'.symm) with h3 | h3
        · exact h2 h3
        · exact h1 (h3.trans hz)
      have : (edgN f j < e + 1 ∧ s.testBit (edgN f j) = true) ↔ (edgN f j < e ∧ s.testBit (edgN f j) = true) := ⟨fun h' => ⟨by omega, h'.2⟩, fun h' => ⟨by omega, h'.2⟩⟩
      simp only [this]

end Go.Proofs.Ytlnegaenjcekcaa

namespace Go.Proofs.Ytlnegaenjcekcaa
open Go.RowKit

def qa (x : Int) : Int := IntKind.u64.wrap (bits BinOp.and IntKind.u64 (x / 2) 6148914691236517205 + bits BinOp.and IntKind.u64 x 6148914691236517205)
def qb (x : Int) : Int := IntKind.u64.wrap (bits BinOp.and IntKind.u64 (x / 4) 3689348814741910323 + bits BinOp.and IntKind.u64 x 3689348814741910323)
def qc (x : Int) : Int := bits BinOp.and IntKind.u64 (x / 16 + x) 1085102592571150095
def qd (x : Int) : Int := bits BinOp.and IntKind.i64 x 127
theorem q_in : ∀ b : Nat, b < 64 → (0 ≤ qa b ∧ qa b < 256) ∧ (0 ≤ qb (qa b) ∧ qb (qa b) < 256) ∧ (0 ≤ qc (qb (qa b)) ∧ qc (qb (qa b)) < 16) ∧ qd (qc (qb (qa b))) = ((bL b).length : Nat) := by decide +kernel
theorem bL_few : ∀ b : Nat, b < 64 → (bL b).length ≤ 6 := by decide +kernel

theorem box2_drewN {w : World} {b n c n' c' : Nat} {A A' : Option Addr} (h : Box2 w b A n c A' n' c') (k : Nat) : Box2 (w.drewN k) b A n c A' n' c' := h
/-- How many of the first k numbers stand at their own places. -/
def fixN (xs : List Int) : Nat → Nat
  | 0 => 0
  | k + 1 => fixN xs k + if gi xs k = (k : Int) then 1 else 0
theorem fixN_le (xs : List Int) : ∀ k, fixN xs k ≤ k
  | 0 => Nat.le_refl _
  | k + 1 => by have := fixN_le xs k; rw [fixN]; split <;> omega
theorem fixNR_succ (xs : List Int) (k : Nat) : fixN xs (k + 1) = fixN xs k + if gi xs k = (k : Int) then 1 else 0 := rfl
noncomputable def ptsN (t f : List Int) (s : Nat) : Nat := fixN (orbL t (flipS f s)) t.length
def sidN (t f : List Int) (s : Nat) : Nat := (cyclesL (sidL t f s)).length
/-- Parts, sides, rank, nullity, genus, told by the numbers of parts, sides, vertices, chosen edges. -/
def subI (p sd v e : Nat) : List Int := [(p : Int), (sd : Int), (v : Int) - p, (e : Int) - ((v : Int) - p), (2 * (p : Int) - v + e - sd).tdiv 2]
noncomputable def subL (t f : List Int) (s : Nat) : List Int := subI (ptsN t f s) (sidN t f s) (cntV t) (bL s).length
def aggOf (xs : List Int) : Value := .agg ((xs.map (Value.int .i64)).toArray)

/-- Block b holds five values as a struct of type t. -/
def Row5 (w : World) (b : Nat) (t : TypeId) (u0 u1 u2 u3 u4 : Value) : Prop := w.heap[b]? = some (.cells #[u0, u1, u2, u3, u4] t (0, 0))
section
variable {w w' : World} {b : Nat} {t : TypeId} {u0 u1 u2 u3 u4 : Value}
theorem Row5.new (w : World) (t : TypeId) (u0 u1 u2 u3 u4 : Value) : Row5 (w.alloc (.cells #[u0, u1, u2, u3, u4] t)) w.heap.size t u0 u1 u2 u3 u4 := heap_alloc_new w _
theorem Row5.lt (h : Row5 w b t u0 u1 u2 u3 u4) : b < w.heap.size := (Array.getElem?_eq_some_iff.1 h).1
theorem Row5.below (h : Row5 w b t u0 u1 u2 u3 u4) (hb : Below w.heap.size w w') : Row5 w' b t u0 u1 u2 u3 u4 := (hb.block b h.lt).trans h
theorem Row5.cells (h : Row5 w b t u0 u1 u2 u3 u4) : w.cell? ⟨b, 0, none⟩ = some u0 ∧ w.cell? ⟨b, 1, none⟩ = some u1 ∧ w.cell? ⟨b, 2, none⟩ = some u2 ∧ w.cell? ⟨b, 3, none⟩ = some u3 ∧ w.cell? ⟨b, 4, none⟩ = some u4 := by
  refine ⟨?_, ?_, ?_, ?_, ?_⟩ <;> (rw [cell_of_row w b _ _ _ (0, 0) h]; rfl)
theorem Row5.frozen (h : Row5 w b t u0 u1 u2 u3 u4) (j : Nat) : w.frozen? ⟨b, j, none⟩ = false := frozen_of_row w b j _ _ h
theorem Row5.store (h : Row5 w b t u0 u1 u2 u3 u4) (v0 v1 v2 v3 v4 : Value) :
    Row5 (((((w.setCell ⟨b, 0, none⟩ v0).setCell ⟨b, 1, none⟩ v1).setCell ⟨b, 2, none⟩ v2).setCell ⟨b, 3, none⟩ v3).setCell ⟨b, 4, none⟩ v4) b t v0 v1 v2 v3 v4 ∧ w.grownBy (((((w.setCell ⟨b, 0, none⟩ v0).setCell ⟨b, 1, none⟩ v1).setCell ⟨b, 2, none⟩ v2).setCell ⟨b, 3, none⟩ v3).setCell ⟨b, 4, none⟩ v4) (some b) := by
  refine ⟨?_, grownBy_trans (grownBy_trans (grownBy_trans (grownBy_trans (grown_set _ _ _ _) (grown_set _ _ _ _)) (grown_set _ _ _ _)) (grown_set _ _ _ _)) (grown_set _ _ _ _)⟩
  unfold Row5 at h ⊢
  rw [set_row2 (set_row2 (set_row2 (set_row2 (set_row2 h))))]; rfl
end

end Go.Proofs.Ytlnegaenjcekcaa

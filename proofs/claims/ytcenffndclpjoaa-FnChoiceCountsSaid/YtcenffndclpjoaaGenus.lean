/-
  MapGenus: the model's and the program's.
-/
import Derived.Test.YtcenffndclpjoaaCounts
namespace Go.Proofs.Ytcenffndclpjoaa
open Go.RowKit

def genusOf (t f : List Int) : Int := ((2 : Int) - cntV t + cntE f - cntF t f).tdiv 2
noncomputable def genusR (t f : List Int) : Int := if mapV t f = true then genusOf t f else -1
theorem IsMap.cnt {t f : List Int} (h : IsMap t f) : cntV t ≤ 12 ∧ cntE f ≤ 12 ∧ cntF t f ≤ 12 := by
  have h1 := cyclesL_len (p := t)
  have h2 := h.turn.2.1
  have h3 := h.flip.2.1
  have h4 := cyclesL_len (p := mulL f t)
  rw [mulL_len] at h4
  exact ⟨by unfold cntV; omega, by unfold cntE; omega, by unfold cntF; omega⟩

set_option maxHeartbeats 800000 in
theorem impl_genusR (w : World) (A A' : Option Addr) (n n' c c' : Nat) (t f : List Int) (h : Rd w A n t) (h' : Rd w A' n' f) (hn : n ≤ 1048576) (hn' : n' ≤ 1048576) {r : Int} (hR : genusR t f = r) :
    Calls Try.prog 12 #[.agg #[.slice A n c, .slice A' n' c']] w fun e w' => e = .returned (.int .i64 r) ∧ Below w.heap.size w w' := by
  obtain ⟨W0, hW0, hx, hb, -⟩ := Box.local_ w 25 (.slice A n c) (.slice A' n' c')
  have HX := Lib.hid hx; have HB := Lib.hid hb; have H := Lib.hid h; have H' := Lib.hid h'; clear hx hb h h'
  by_cases hv : mapV t f = true
  · have hm := mapV_iff.1 hv
    rw [genusR, if_pos hv] at hR
    obtain rfl : n = n' := hm.same H.out.1 H'.out.1
    obtain ⟨V, hV⟩ : ∃ V, cntV t = V := ⟨_, rfl⟩
    obtain ⟨E, hE⟩ : ∃ E, cntE f = E := ⟨_, rfl⟩
    obtain ⟨Fn, hF⟩ : ∃ Fn, cntF t f = Fn := ⟨_, rfl⟩
    have hc := hm.cnt
    rw [hV, hE, hF] at hc
    obtain ⟨hv12, he12, hf12⟩ := hc
    have HG : Hid (((2 : Int) - V + E - Fn).tdiv 2 = r) := by rw [Hid, ← hR, genusOf, hV, hE, hF]
    have HVV := Lib.hid hV; have HEE := Lib.hid hE; have HFF := Lib.hid hF
    have HV := Lib.hid hv; have HM := Lib.hid hm; clear hR hv hm hV hE hF
    have s1 : IntKind.i64.wrap (2 - (V : Int)) = 2 - (V : Int) := IntWalk.i64_in _ (by omega)
    have s2 : IntKind.i64.wrap (2 - (V : Int) + (E : Int)) = 2 - (V : Int) + (E : Int) := IntWalk.i64_in _ (by omega)
    have s3 : IntKind.i64.wrap (2 - (V : Int) + (E : Int) - (Fn : Int)) = 2 - (V : Int) + (E : Int) - (Fn : Int) := IntWalk.i64_in _ (by omega)
    have s4 : IntKind.i64.wrap ((2 - (V : Int) + (E : Int) - (Fn : Int)).tdiv 2) = (2 - (V : Int) + (E : Int) - (Fn : Int)).tdiv 2 := by
      rw [IntWalk.i64_in _ (by rw [tdiv_eq_if]; split <;> omega)]
    go_enter Try.func12, Try.ntmps12
    go_wp2_with fail
    refine (valid_lit w.heap.size A A' n n c c' t f W0 HX.out (H.out.below HB.out) (H'.out.below HB.out) hn hn' HV.out).mono ?_
    rintro e w1 ⟨rfl, b⟩
    have HX1 := Lib.hid (HX.out.below b)
    have HB1 := Lib.hid (HB.out.trans (b.mono HB.out.size)); clear b
    go_wp2_with fail
    refine (counts_any w.heap.size A A' n c c' t f w1 HX1.out (H.out.below HB1.out) (H'.out.below HB1.out) HM.out).mono ?_
    rintro e w2 ⟨rfl, b⟩
    rw [HVV.out, HEE.out, HFF.out]
    have HB2 := Lib.hid (HB1.out.trans (b.mono HB1.out.size)); clear b
    go_wp2_with fail
    go_ret
    exact ⟨ret_int HG.out, HB2.out⟩
  · have hv' : mapV t f = false := by simpa using hv
    rw [genusR, if_neg hv] at hR
    subst hR
    have HV := Lib.hid hv'; clear hv hv'
    go_enter Try.func12, Try.ntmps12
    go_wp2_with fail
    refine (valid_lit w.heap.size A A' n n' c c' t f W0 HX.out (H.out.below HB.out) (H'.out.below HB.out) hn hn' HV.out).mono ?_
    rintro e w1 ⟨rfl, b⟩
    have HB1 := Lib.hid (HB.out.trans (b.mono HB.out.size)); clear b
    go_wp2_with fail
    go_ret
    exact ⟨rfl, HB1.out⟩

end Go.Proofs.Ytcenffndclpjoaa

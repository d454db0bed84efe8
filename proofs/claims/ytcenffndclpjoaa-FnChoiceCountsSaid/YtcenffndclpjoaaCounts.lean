/-
  MapCounts and MapGenus: the model's and the program's.
-/
import Derived.Test.YtcenffndclpjoaaCopy
import Derived.Test.YtcenffndclpjoaaSign
import Derived.Deep.RegionHeld3
import Derived.IntWalk
namespace Go.Proofs.Ytcenffndclpjoaa
open Go.RowKit

/-- Vertices, edges, faces. -/
def cntV (t : List Int) : Nat := (cyclesL t).length
def cntE (f : List Int) : Nat := f.length / 2
def cntF (t f : List Int) : Nat := (cyclesL (mulL f t)).length

theorem counts_any (b : Nat) (A A' : Option Addr) (n c c' : Nat) (t f : List Int) (w : World) (hb : Box2 w b A n c A' n c') (h : Rd w A n t) (h' : Rd w A' n f) (hm : IsMap t f) :
    Calls Try.prog 35 #[.pointer (some ⟨b, 0, none⟩)] w fun e w' => e = .returned (.tuple #[.int .i64 (cntV t : Nat), .int .i64 (cntE f : Nat), .int .i64 (cntF t f : Nat)]) ∧ Below w.heap.size w w' := by
  have hn : n ≤ 12 := by rw [← h'.1]; exact hm.flip.2.1
  have c0 := hb.cell0
  have c1 := hb.cell1
  have hw : IntKind.i64.wrap ((n : Int) / 2) = ((n / 2 : Nat) : Int) := by rw [IntWalk.i64_in _ (by omega)]; omega
  have HE : Hid ((cntE f : Nat) = n / 2) := by rw [Hid, cntE, h'.1]
  have HX := Lib.hid hb; have H := Lib.hid h; have H' := Lib.hid h'; have HM := Lib.hid hm; have HMU := Lib.hid (hm.flip.mulL hm.turn hm.len.symm); clear hb h h' hm
  go_enter Try.func35, Try.ntmps35
  go_wp2_with fail
  go_region_held3 (fun w' => w'.cell? ⟨b, 0, none⟩ = some (.slice A n c) ∧ w'.cell? ⟨b, 1, none⟩ = some (.slice A' n c')) (first | go_keep | exact ⟨(HX.out.below BL3.out).cell0, (HX.out.below BL3.out).cell1⟩ | exact ⟨(HX.out.below BL2.out).cell0, (HX.out.below BL2.out).cell1⟩ | exact ⟨(HX.out.below BL.out).cell0, (HX.out.below BL.out).cell1⟩) (first
    | (have hchk := BL2.out; clear hchk; go_at_call 61; refine (count_any _ A3 c3 n (mulL f t) RO.out HMU.out).mono ?_; rintro e w3 ⟨rfl, bl⟩; have BL3 := Lib.hid (BL2.out.trans (bl.mono BL2.out.size)); clear bl)
    | (go_at_call 61; refine (count_any _ A c n t (H.out.drewN _) HM.out.turn).mono ?_; rintro e w1 ⟨rfl, bl⟩; have BL := Lib.hid (Below.of_drewN bl); clear bl)
    | (go_at_call 68; refine (faces_any b A A' n c c' t f _ (HX.out.below BL.out) (H.out.below BL.out) (H'.out.below BL.out) HM.out.flip).mono ?_; rintro e w2 ⟨v, rfl, o, bl⟩; obtain ⟨A3, c3, rfl, r, -⟩ := o.form' ((mulL_len f t).trans H'.out.1); have RO := Lib.hid r; have BL2 := Lib.hid (BL.out.trans (bl.mono BL.out.size)); clear o bl r))
  go_wp2
  go_ret3
  exact ⟨by rw [HE.out]; rfl, BL3.out⟩

theorem OwnSS.form_len {w : World} {lo hi : Nat} {v : Value} {xss : List (List Int)} (h : OwnSS w lo hi v xss) {m : Nat} (hm : xss.length = m) : ∃ A c, v = .slice A m c := by
  subst hm
  obtain ⟨vs, _, ho, _⟩ := h
  rcases ho.2 with ⟨rfl, hn⟩ | ⟨g, cap, cur, hv, _⟩
  · exact ⟨none, 0, by rw [hn]⟩
  · exact ⟨_, _, hv⟩

noncomputable def countsR (t f : List Int) : Bool × List Int := if mapV t f = true then (true, [(cntV t : Int), (cntE f : Int), (cntF t f : Int)]) else (false, [])
theorem countsR_len {t f ys : List Int} {ok : Bool} (h : countsR t f = (ok, ys)) : ys.length ≤ 12 := by
  unfold countsR at h
  split at h <;> (injection h with _ h; rw [← h]; simp)

theorem impl_countsR (w : World) (A A' : Option Addr) (n n' c c' : Nat) (t f : List Int) (h : Rd w A n t) (h' : Rd w A' n' f) (hn : n ≤ 1048576) (hn' : n' ≤ 1048576) {ok : Bool} {ys : List Int} (hR : countsR t f = (ok, ys)) :
    Calls Try.prog 11 #[.agg #[.slice A n c, .slice A' n' c']] w fun e w' => ∃ v, e = .returned (.tuple #[v, .bool ok]) ∧ Own w' w.heap.size v ys ∧ Below w.heap.size w w' := by
  obtain ⟨W0, hW0, hx, hb, -⟩ := Box.local_ w 25 (.slice A n c) (.slice A' n' c')
  have HX := Lib.hid hx; have HB := Lib.hid hb; have H := Lib.hid h; have H' := Lib.hid h'; have HR := Lib.hid hR; clear hx hb h h' hR
  by_cases hv : mapV t f = true
  · have hm := mapV_iff.1 hv
    obtain ⟨rfl, rfl⟩ : ok = true ∧ ys = [(cntV t : Int), (cntE f : Int), (cntF t f : Int)] := by have := HR.out; rw [countsR, if_pos hv] at this; simpa [eq_comm] using this
    obtain rfl : n = n' := hm.same H.out.1 H'.out.1
    have HV := Lib.hid hv; have HM := Lib.hid hm; clear HR hv hm
    go_enter Try.func11, Try.ntmps11
    go_wp2_with fail
    refine (valid_lit w.heap.size A A' n n c c' t f W0 HX.out (H.out.below HB.out) (H'.out.below HB.out) hn hn' HV.out).mono ?_
    rintro e w1 ⟨rfl, b⟩
    have HX1 := Lib.hid (HX.out.below b)
    have HB1 := Lib.hid (HB.out.trans (b.mono HB.out.size)); clear b
    go_wp2_with fail
    refine (counts_any w.heap.size A A' n c c' t f w1 HX1.out (H.out.below HB1.out) (H'.out.below HB1.out) HM.out).mono ?_
    rintro e w2 ⟨rfl, b⟩
    have HB2 := Lib.hid (HB1.out.trans (b.mono HB1.out.size)); clear b
    have HOW : Hid (Own (w2.alloc (.cells #[.int .i64 (cntV t : Nat), .int .i64 (cntE f : Nat), .int .i64 (cntF t f : Nat)] 3)) w.heap.size (.slice (some ⟨w2.heap.size, 0, none⟩) 3 3) [(cntV t : Int), (cntE f : Int), (cntF t f : Int)]) :=
      World.ownsRow_lit w2 #[.int .i64 (cntV t : Nat), .int .i64 (cntE f : Nat), .int .i64 (cntF t f : Nat)] 3 HB2.out.size (by unfold maxLen; omega) rfl
    go_wp2_with fail
    go_ret2
    exact ⟨_, rfl, HOW.out, HB2.out.alloc HB2.out.size _⟩
  · have hv' : mapV t f = false := by simpa using hv
    obtain ⟨rfl, rfl⟩ : ok = false ∧ ys = [] := by have := HR.out; rw [countsR, if_neg hv] at this; simpa [eq_comm] using this
    have HV := Lib.hid hv'; clear HR hv hv'
    go_enter Try.func11, Try.ntmps11
    go_wp2_with fail
    refine (valid_lit w.heap.size A A' n n' c c' t f W0 HX.out (H.out.below HB.out) (H'.out.below HB.out) hn hn' HV.out).mono ?_
    rintro e w1 ⟨rfl, b⟩
    have HB1 := Lib.hid (HB.out.trans (b.mono HB.out.size)); clear b
    go_wp2_with fail
    go_ret2
    exact ⟨_, rfl, Own.nil_ _ _, HB1.out⟩

end Go.Proofs.Ytcenffndclpjoaa

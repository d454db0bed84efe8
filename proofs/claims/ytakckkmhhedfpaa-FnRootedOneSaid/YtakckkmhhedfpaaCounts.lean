/-
  MapCounts and MapGenus: the model's and the program's.
-/
import Derived.Test.YtakckkmhhedfpaaCopy
import Derived.Test.YtakckkmhhedfpaaSign
import Derived.Deep.RegionHeld3
import Derived.IntWalk
namespace Go.Proofs.Ytakckkmhhedfpaa
open Go.RowKit

/-- Vertices, edges, faces. -/
def cntV (t : List Int) : Nat := (cyclesL t).length
def cntE (f : List Int) : Nat := f.length / 2
def cntF (t f : List Int) : Nat := (cyclesL (mulL f t)).length

theorem counts_any (b : Nat) (A A' : Option Addr) (n c c' : Nat) (t f : List Int) (w : World) (hb : Box2 w b A n c A' n c') (h : Rd w A n t) (h' : Rd w A' n f) (hm : IsMap t f) :
    Calls Try.prog 45 #[.pointer (some ⟨b, 0, none⟩)] w fun e w' => e = .returned (.tuple #[.int .i64 (cntV t : Nat), .int .i64 (cntE f : Nat), .int .i64 (cntF t f : Nat)]) ∧ Below w.heap.size w w' := by
  have hn : n ≤ 12 := by rw [← h'.1]; exact hm.flip.2.1
  have c0 := hb.cell0
  have c1 := hb.cell1
  have hw : IntKind.i64.wrap ((n : Int) / 2) = ((n / 2 : Nat) : Int) := by rw [IntWalk.i64_in _ (by omega)]; omega
  have HE : Hid ((cntE f : Nat) = n / 2) := by rw [Hid, cntE, h'.1]
  have HX := Lib.hid hb; have H := Lib.hid h; have H' := Lib.hid h'; have HM := Lib.hid hm; have HMU := Lib.hid (hm.flip.mulL hm.turn hm.len.symm); clear hb h h' hm
  go_enter Try.func45, Try.ntmps45
  go_wp2_with fail
  go_region_held3 (fun w' => w'.cell? ⟨b, 0, none⟩ = some (.slice A n c) ∧ w'.cell? ⟨b, 1, none⟩ = some (.slice A' n c')) (first | go_keep | exact ⟨(HX.out.below BL3.out).cell0, (HX.out.below BL3.out).cell1⟩ | exact ⟨(HX.out.below BL2.out).cell0, (HX.out.below BL2.out).cell1⟩ | exact ⟨(HX.out.below BL.out).cell0, (HX.out.below BL.out).cell1⟩) (first
    | (have hchk := BL2.out; clear hchk; go_at_call 75; refine (count_any _ A3 c3 n (mulL f t) RO.out HMU.out).mono ?_; rintro e w3 ⟨rfl, bl⟩; have BL3 := Lib.hid (BL2.out.trans (bl.mono BL2.out.size)); clear bl)
    | (go_at_call 75; refine (count_any _ A c n t (H.out.drewN _) HM.out.turn).mono ?_; rintro e w1 ⟨rfl, bl⟩; have BL := Lib.hid (Below.of_drewN bl); clear bl)
    | (go_at_call 76; refine (faces_any b A A' n c c' t f _ (HX.out.below BL.out) (H.out.below BL.out) (H'.out.below BL.out) HM.out.flip).mono ?_; rintro e w2 ⟨v, rfl, o, bl⟩; obtain ⟨A3, c3, rfl, r, -⟩ := o.form' ((mulL_len f t).trans H'.out.1); have RO := Lib.hid r; have BL2 := Lib.hid (BL.out.trans (bl.mono BL.out.size)); clear o bl r))
  go_wp2
  go_ret3
  exact ⟨by rw [HE.out]; rfl, BL3.out⟩

theorem OwnSS.form_len {w : World} {lo hi : Nat} {v : Value} {xss : List (List Int)} (h : OwnSS w lo hi v xss) {m : Nat} (hm : xss.length = m) : ∃ A c, v = .slice A m c := by
  subst hm
  obtain ⟨vs, _, ho, _⟩ := h
  rcases ho.2 with ⟨rfl, hn⟩ | ⟨g, cap, cur, hv, _⟩
  · exact ⟨none, 0, by rw [hn]⟩
  · exact ⟨_, _, hv⟩

set_option maxHeartbeats 1600000 in
theorem l2Counts_any (A A' : Option Addr) (n c c' : Nat) (t f : List Int) (w : World) (h : Rd w A n t) (h' : Rd w A' n f) (hm : IsMap t f) :
    Calls Try.prog 44 #[.agg #[.slice A n c, .slice A' n c']] w fun e w' => ∃ v, e = .returned v ∧ Own w' w.heap.size v [(cntV t : Int), (cntE f : Int), (cntF t f : Int)] ∧ Below w.heap.size w w' := by
  have hn : n ≤ 12 := by rw [← h'.1]; exact hm.flip.2.1
  have hw : IntKind.i64.wrap ((n : Int) / 2) = ((n / 2 : Nat) : Int) := by rw [IntWalk.i64_in _ (by omega)]; omega
  have HE : Hid ((cntE f : Nat) = n / 2) := by rw [Hid, cntE, h'.1]
  obtain ⟨V, hV⟩ : ∃ V, (cyclesL t).length = V := ⟨_, rfl⟩
  obtain ⟨Fn, hF⟩ : ∃ Fn, (cyclesL (mulL f t)).length = Fn := ⟨_, rfl⟩
  have HVV := Lib.hid hV; have HFF := Lib.hid hF; clear hV hF
  obtain ⟨W0, hW0, hx, hb, hz⟩ := Box.local_ w 35 (.slice A n c) (.slice A' n c')
  have c0 := hx.cell0
  have c1 := hx.cell1
  have HX := Lib.hid hx; have HB := Lib.hid hb; have H := Lib.hid h; have H' := Lib.hid h'; have HM := Lib.hid hm; have HMU := Lib.hid (hm.flip.mulL hm.turn hm.len.symm); clear hx hb hz h h' hm
  go_enter Try.func44, Try.ntmps44
  go_wp2_with fail
  go_region_held3 (fun w' => w'.cell? ⟨w.heap.size, 0, none⟩ = some (.slice A n c) ∧ w'.cell? ⟨w.heap.size, 1, none⟩ = some (.slice A' n c')) (first | go_keep | exact ⟨(HX.out.below BL4.out).cell0, (HX.out.below BL4.out).cell1⟩ | exact ⟨(HX.out.below BL3.out).cell0, (HX.out.below BL3.out).cell1⟩ | exact ⟨(HX.out.below BL2.out).cell0, (HX.out.below BL2.out).cell1⟩ | exact ⟨(HX.out.below BL.out).cell0, (HX.out.below BL.out).cell1⟩) (first
    | (have hchk := BL2.out; clear hchk; go_at_call 73; refine (l1Cycles_any A3 n c3 (mulL f t) _ RO.out HMU.out).mono ?_; rintro e w3 ⟨v, rfl, o, bl⟩; obtain ⟨A5, c5, rfl⟩ := o.form_len HFF.out; have BL3 := Lib.hid (BL2.out.trans (bl.mono BL2.out.size)); have BL4 := Lib.hid (BL3.out.alloc BL3.out.size (.cells #[.int .i64 V, .int .i64 ((n / 2 : Nat) : Int), .int .i64 Fn] 3)); clear bl o)
    | (go_at_call 73; refine (l1Cycles_any A n c t _ ((H.out.below HB.out).drewN _) HM.out.turn).mono ?_; rintro e w1 ⟨v, rfl, o, bl⟩; obtain ⟨A4, c4, rfl⟩ := o.form_len HVV.out; have BL := Lib.hid (Below.of_drewN bl); have HB1 := Lib.hid (HB.out.trans (BL.out.mono HB.out.size)); clear bl o)
    | (go_at_call 74; refine (l2Faces_any A A' n c c' t f _ (H.out.below HB1.out) (H'.out.below HB1.out) HM.out.flip).mono ?_; rintro e w2 ⟨v, rfl, o, bl⟩; obtain ⟨A3, c3, rfl, r, -⟩ := o.form' ((mulL_len f t).trans H'.out.1); have RO := Lib.hid r; have BL2 := Lib.hid (BL.out.trans (bl.mono BL.out.size)); clear o bl r))
  all_goals
    have hb3 : Below W0.heap.size W0 w3 := BL3.out
    have hbw : Below w.heap.size w w3 := HB.out.trans (hb3.mono HB.out.size)
    have HBW := Lib.hid hbw
    have HOW : Hid (Own (w3.alloc (.cells #[.int .i64 (V : Int), .int .i64 ((n : Int) / 2), .int .i64 (Fn : Int)] 3)) w.heap.size (.slice (some ⟨w3.heap.size, 0, none⟩) 3 3) [(V : Int), (n : Int) / 2, (Fn : Int)]) :=
      World.ownsRow_lit w3 #[.int .i64 (V : Int), .int .i64 ((n : Int) / 2), .int .i64 (Fn : Int)] 3 hbw.size (by unfold maxLen; omega) rfl
    clear hb3 hbw
    go_wp2
    go_ret
    refine ⟨_, rfl, ?_, HBW.out.alloc HBW.out.size _⟩
    have e : [(cntV t : Int), (cntE f : Int), (cntF t f : Int)] = [(V : Int), (n : Int) / 2, (Fn : Int)] := by
      rw [HE.out, cntV, cntF, HVV.out, HFF.out]; simp
    rw [e]; exact HOW.out

noncomputable def countsR (t f : List Int) : Bool × List Int := if mapV t f = true then (true, [(cntV t : Int), (cntE f : Int), (cntF t f : Int)]) else (false, [])
theorem countsR_len {t f ys : List Int} {ok : Bool} (h : countsR t f = (ok, ys)) : ys.length ≤ 12 := by
  unfold countsR at h
  split at h <;> (injection h with _ h; rw [← h]; simp)

end Go.Proofs.Ytakckkmhhedfpaa

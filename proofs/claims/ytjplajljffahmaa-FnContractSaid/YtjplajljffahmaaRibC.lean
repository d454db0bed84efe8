/-
  ChoiceCounts, ChoiceTree, ChoiceQuasi: the model's and the program's.
-/
import Derived.Test.YtjplajljffahmaaRibN
namespace Go.Proofs.Ytjplajljffahmaa
open Go.RowKit

theorem bL_inj : ∀ s : Nat, s < 64 → ∀ s' : Nat, s' < 64 → bL s = bL s' → s = s' := by decide +kernel
noncomputable def sOf (xs : List Int) : Nat := leastOf fun s => s < 64 ∧ bL s = xs
theorem sOf_eq {xs : List Int} {s : Nat} (hs : s < 64) (h : bL s = xs) : sOf xs = s := by
  obtain ⟨⟨h1, h2⟩, _⟩ := leastOf_spec (p := fun s => s < 64 ∧ bL s = xs) ⟨s, hs, h⟩
  exact bL_inj _ h1 _ hs (h2.trans h.symm)
theorem asc_bits {m : Nat} {xs : List Int} (h : Asc m xs) (hm : m ≤ 6) : ∃ s, s < 2 ^ m ∧ bL s = xs := by
  have key : ∀ k, k ≤ xs.length → ∃ s L, Bits xs k s L ∧ L ≤ m := by
    intro k
    induction k with
    | zero => intro _; exact ⟨0, 0, Bits.start xs, Nat.zero_le _⟩
    | succ k ih =>
      intro hk
      obtain ⟨s, L, hb, hL⟩ := ih (by omega)
      have ha := h k (by omega)
      by_cases hin : 0 ≤ gi xs k ∧ gi xs k < (m : Int) ∧ s < 2 ^ (gi xs k).toNat
      · obtain ⟨e, he⟩ := Int.eq_ofNat_of_zero_le hin.1
        have := hb.step (m := m) (e := e) (by omega) he (by have := hin.2.1; omega) hm (by have := hin.2.2; rw [he] at this; simpa using this)
        exact ⟨_, _, this.1, by have := hin.2.1; omega⟩
      · have := hb.stop hin; rw [ha] at this; exact absurd this (by decide)
  obtain ⟨s, L, hb, hL⟩ := key _ (Nat.le_refl _)
  exact ⟨s, hb.iff.2 hL, hb.done⟩
theorem chV_bits {t f xs : List Int} (h : chV t f xs = true) : IsMap t f ∧ f.length / 2 ≤ 6 ∧ ∃ s, s < 2 ^ (f.length / 2) ∧ bL s = xs ∧ s < 64 ∧ sOf xs = s := by
  obtain ⟨h6, hm⟩ := chV_few h
  unfold chV at h
  rw [Bool.and_eq_true] at h
  obtain ⟨s, h1, h2⟩ := asc_bits (m := f.length / 2) (xs := xs) (by simpa [ascB] using h.1) h6
  have h64 := lt_of_pow h1 h6
  exact ⟨hm, h6, s, h1, h2, h64, sOf_eq h64 h2⟩
theorem subL_five (t f : List Int) (s : Nat) : ∃ x0 x1 x2 x3 x4 : Int, subL t f s = [x0, x1, x2, x3, x4] := ⟨_, _, _, _, _, rfl⟩

theorem own_lit5 (w : World) {base : Nat} (x0 x1 x2 x3 x4 : Int) (h : base ≤ w.heap.size) : Own (w.alloc (.cells #[.int .i64 x0, .int .i64 x1, .int .i64 x2, .int .i64 x3, .int .i64 x4] 3)) base (.slice (some ⟨w.heap.size, 0, none⟩) 5 5) [x0, x1, x2, x3, x4] :=
  World.ownsRow_lit w #[.int .i64 x0, .int .i64 x1, .int .i64 x2, .int .i64 x3, .int .i64 x4] 5 h (by unfold maxLen; omega) rfl

noncomputable def ccR (t f xs : List Int) : Bool × List Int := if chV t f xs = true then (true, subL t f (sOf xs)) else (false, [])
theorem ccR_len {t f xs ys : List Int} {ok : Bool} (h : ccR t f xs = (ok, ys)) : ys.length ≤ 12 := by
  unfold ccR at h
  split at h <;> (injection h with _ h; rw [← h]; simp [subL, subI])

theorem subgraph_lit (b : Nat) (A A' : Option Addr) (n c c' s : Nat) (t f : List Int) (w : World) (hb : Box2 w b A n c A' n c') (h : Rd w A n t) (h' : Rd w A' n f) (hm : IsMap t f) (hs : s < 64) {x0 x1 x2 x3 x4 : Int} (hx : subL t f s = [x0, x1, x2, x3, x4]) :
    Calls Try.prog 34 #[.pointer (some ⟨b, 0, none⟩), .int .u64 s] w fun e w' => e = .returned (.agg #[.int .i64 x0, .int .i64 x1, .int .i64 x2, .int .i64 x3, .int .i64 x4]) ∧ Below w.heap.size w w' := by
  refine (subgraph_any b A A' n c c' s _ _ _ _ t f w hb h h' hm hs rfl rfl rfl rfl).mono ?_
  rintro e w1 ⟨rfl, b⟩
  refine ⟨?_, b⟩
  have : aggOf (subL t f s) = aggOf [x0, x1, x2, x3, x4] := by rw [hx]
  exact congrArg Ending.returned this

set_option maxHeartbeats 1600000 in
theorem impl_ccR (w : World) (A A' : Option Addr) (n n' c c' : Nat) (t f : List Int) (h : Rd w A n t) (h' : Rd w A' n' f) (hn : n ≤ 1048576) (hn' : n' ≤ 1048576) (B : Option Addr) (d m : Nat) (xs : List Int) (k : Rd w B m xs) (hm : m ≤ 1048576) {ok : Bool} {ys : List Int} (hR : ccR t f xs = (ok, ys)) :
    Calls Try.prog 12 #[.agg #[.slice A n c, .slice A' n' c'], .slice B m d] w fun e w' => ∃ v, e = .returned (.tuple #[v, .bool ok]) ∧ Own w' w.heap.size v ys ∧ Below w.heap.size w w' := by
  obtain ⟨W0, hW0, hx, hb, -⟩ := Box.local_ w 25 (.slice A n c) (.slice A' n' c')
  have HX := Lib.hid hx; have HB := Lib.hid hb; have H := Lib.hid h; have H' := Lib.hid h'; have K := Lib.hid k; have HR := Lib.hid hR; clear hx hb h h' hR k
  by_cases hv : chV t f xs = true
  · obtain ⟨rfl, rfl⟩ : ok = true ∧ ys = subL t f (sOf xs) := by have := HR.out; rw [ccR, if_pos hv] at this; simpa [eq_comm] using this
    obtain ⟨hmap, h6, s0, h1, h2, h3, h4⟩ := chV_bits hv
    obtain rfl : n = n' := hmap.same H.out.1 H'.out.1
    obtain ⟨x0, x1, x2, x3, x4, h5⟩ := subL_five t f s0
    have HV := Lib.hid hv; have HM := Lib.hid hmap; have H2 := Lib.hid h2; have H4 := Lib.hid h4; have H5 := Lib.hid h5
    clear hv hmap h1 h2 h4 h5
    go_enter Try.func12, Try.ntmps12
    go_wp2_with fail
    refine (chosen_any w.heap.size A A' n n c c' t f W0 HX.out (H.out.below HB.out) (H'.out.below HB.out) hn hn' B d m xs (K.out.below HB.out) hm HV.out).mono ?_
    rintro e w1 ⟨s, rfl, hs, b⟩
    obtain ⟨s1, s2⟩ := hs.out rfl
    obtain rfl : s = s0 := bL_inj _ (lt_of_pow s1 h6) _ h3 (s2.trans H2.out.symm)
    have HX1 := Lib.hid (HX.out.below b); have HB1 := Lib.hid (HB.out.trans (b.mono HB.out.size)); clear b hs s1 s2
    go_wp2_with fail
    refine (subgraph_lit w.heap.size A A' n c c' s t f w1 HX1.out (H.out.below HB1.out) (H'.out.below HB1.out) HM.out h3 H5.out).mono ?_
    rintro e w2 ⟨rfl, b⟩
    have HB2 := Lib.hid (HB1.out.trans (b.mono HB1.out.size)); clear b
    go_wp2_with fail
    go_ret2
    have hb3 : Below w2.heap.size w2 (w2.alloc (.cells #[.int .i64 x0, .int .i64 x1, .int .i64 x2, .int .i64 x3, .int .i64 x4] 55)) := (Below.refl _ _).alloc (Nat.le_refl _) _
    have hbw := HB2.out.trans (hb3.mono HB2.out.size)
    have ho := own_lit5 (w2.alloc (.cells #[.int .i64 x0, .int .i64 x1, .int .i64 x2, .int .i64 x3, .int .i64 x4] 55)) x0 x1 x2 x3 x4 hbw.size
    rw [World.size_alloc] at ho
    exact ⟨_, rfl, by rw [H4.out, H5.out]; exact ho, hbw.alloc hbw.size _⟩
  · have hv' : chV t f xs = false := by simpa using hv
    obtain ⟨rfl, rfl⟩ : ok = false ∧ ys = [] := by have := HR.out; rw [ccR, if_neg hv] at this; simpa [eq_comm] using this
    have HV := Lib.hid hv'; clear HR hv hv'
    go_enter Try.func12, Try.ntmps12
    go_wp2_with fail
    refine (chosen_any w.heap.size A A' n n' c c' t f W0 HX.out (H.out.below HB.out) (H'.out.below HB.out) hn hn' B d m xs (K.out.below HB.out) hm HV.out).mono ?_
    rintro e w1 ⟨s, rfl, -, b⟩
    have HB1 := Lib.hid (HB.out.trans (b.mono HB.out.size)); clear b
    go_wp2_with fail
    go_ret2
    exact ⟨_, rfl, Own.nil_ _ _, HB1.out⟩

/-- One part and no nullity; one part and one side. -/
def treeS (xs : List Int) : Bool := gi xs 0 == 1 && gi xs 3 == 0
def quasiS (xs : List Int) : Bool := gi xs 0 == 1 && gi xs 1 == 1

noncomputable def treeCB (t f xs : List Int) : Bool := chV t f xs && treeS (subL t f (sOf xs))

noncomputable def quasiCB (t f xs : List Int) : Bool := chV t f xs && quasiS (subL t f (sOf xs))

end Go.Proofs.Ytjplajljffahmaa

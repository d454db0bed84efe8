/-
  Words on memory for trees: the small functions of package laws on trees.
-/
import Derived.Test.YthggadkmipicgaaKitM
namespace Go.Proofs.Ythggadkmipicgaa
open Go.RowKit

theorem szTree_any (s : ByteArray) (A : Option Addr) (n c : Nat) (m : Int) (w : World) (hs : s.size ≤ maxLen) (hn : n ≤ maxLen) (h0 : 0 ≤ m) (hm : m ≤ 1048576) {r : Int} (hr : szOf m s.size n = r) :
    Calls Try.prog 11 #[.agg #[.string s, .slice A n c], .int .i64 m] w fun e w' => e = .returned (.int .i64 r) ∧ Below w.heap.size w w' := by
  have hbx := Box.new w 24 (.string s) (.slice A n c)
  have c0 := hbx.cell0
  have c1 := hbx.cell1
  clear hbx
  have HB : Hid (Below w.heap.size w (w.alloc (.cells #[.string s, .slice A n c] 24))) := (Below.refl _ _).alloc (Nat.le_refl _) _
  have hss := hs
  unfold maxLen at hss
  unfold szOf at hr
  by_cases h : m - s.size < 0
  · rw [if_pos h] at hr
    have HR := Lib.hid hr; clear hr
    go_enter Try.func11, Try.ntmps11
    go_wp2_with fail
    go_ret
    exact ⟨ret_int HR.out, HB.out⟩
  · rw [if_neg h] at hr
    have h3 : 0 ≤ m - s.size := by omega
    have h4 : m - s.size ≤ 1048576 := by omega
    obtain ⟨d, hd⟩ : ∃ d, m - s.size = d := ⟨_, rfl⟩
    rw [hd] at h3 h4 hr
    by_cases h2 : d - n < 0
    · rw [if_pos h2] at hr
      have HR := Lib.hid hr; clear hr
      have E2 := Lib.hid (show (if d - n < 0 then -1 else d - n) = -1 from if_pos h2)
      clear h2
      go_enter Try.func11, Try.ntmps11
      go_wp2_with fail
      refine (szIntS_any A n c d _ hn h3 h4 E2.out).mono ?_
      rintro e w1 ⟨rfl, rfl⟩
      go_wp2_with fail
      go_ret
      exact ⟨ret_int HR.out, HB.out⟩
    · rw [if_neg h2] at hr
      have HR := Lib.hid hr; clear hr
      have h5 : 0 ≤ d - n := by omega
      obtain ⟨d', hd'⟩ : ∃ d', d - n = d' := ⟨_, rfl⟩
      have E2 : Hid ((if d - n < 0 then -1 else d - n) = d') := by rw [Hid, if_neg h2, hd']
      have HR : Hid (d' = r) := by rw [Hid, ← hd']; exact HR.out
      rw [hd'] at h5
      clear h2 hd'
      go_enter Try.func11, Try.ntmps11
      go_wp2_with fail
      refine (szIntS_any A n c d _ hn h3 h4 E2.out).mono ?_
      rintro e w1 ⟨rfl, rfl⟩
      go_wp2_with fail
      go_ret
      exact ⟨ret_int HR.out, HB.out⟩

set_option maxHeartbeats 800000 in
theorem toTree_any (s : ByteArray) (A : Option Addr) (n c : Nat) (xs : List Int) (w : World) (h : Rd w A n xs) (hn : n ≤ 1048576) :
    Calls Try.prog 13 #[.agg #[.string s, .slice A n c]] w fun e w' => ∃ v, e = .returned (.agg #[.string s, v]) ∧ Own w' w.heap.size v xs ∧ Below w.heap.size w w' := by
  have H := Lib.hid h; clear h
  have hbx := Box.new w 24 (.string s) (.slice A n c)
  have c0 := hbx.cell0
  have c1 := hbx.cell1
  clear hbx
  obtain ⟨W0, hW0⟩ : ∃ W0, ((w.alloc (.cells #[.string s, .slice A n c] 24)).alloc (.cells #[.string { data := #[] }, .slice none 0 0] 27)).alloc (.cells #[.string s, .slice none 0 0] 27) = W0 := ⟨_, rfl⟩
  have hz : w.heap.size + 3 = W0.heap.size := by rw [← hW0]; simp
  have hx1 : Box W0 (w.heap.size + 1) 27 (.string { data := #[] }) (.slice none 0 0) := by
    rw [← hW0]
    have := Box.new (w.alloc (.cells #[.string s, .slice A n c] 24)) 27 (.string { data := #[] }) (.slice none 0 0)
    rw [World.size_alloc] at this
    exact this.below ((Below.refl _ _).alloc (Nat.le_refl _) _)
  have hx2 : Box W0 (w.heap.size + 1 + 1) 27 (.string s) (.slice none 0 0) := by
    rw [← hW0]
    have := Box.new ((w.alloc (.cells #[.string s, .slice A n c] 24)).alloc (.cells #[.string { data := #[] }, .slice none 0 0] 27)) 27 (.string s) (.slice none 0 0)
    rw [World.size_alloc, World.size_alloc] at this
    exact this
  have hb0 : Below w.heap.size w W0 := by
    rw [← hW0]; exact (((Below.refl _ _).alloc (Nat.le_refl _) _).alloc (by simp) _).alloc (by simp; omega) _
  have HX1 := Lib.hid hx1; have HX2 := Lib.hid hx2; have HB0 := Lib.hid hb0; have HW0 := Lib.hid hW0; have HZ := Lib.hid hz; clear hx1 hx2 hb0 hW0 hz
  go_enter Try.func13, Try.ntmps13
  go_wp2_with fail
  rw [HW0.out]
  refine (toIntS_any A n c xs W0 (H.out.below HB0.out) (by omega)).mono ?_
  rintro e w1 ⟨u, rfl, o, b⟩
  obtain ⟨A1, c3, rfl, -, -⟩ := o.form' H.out.1
  have hx1 := HX1.out.below b
  have hx2 := HX2.out.below b
  have hs1 := b.size
  have HB1 := Lib.hid (HB0.out.trans (b.mono HB0.out.size))
  have c2 := hx2.cell0
  have c2' := hx2.cell1
  have f2 := hx2.frozen 1
  have hu : ∀ k, (Value.slice A1 n c3).ownBlock = some k → W0.heap.size ≤ k ∧ k < w1.heap.size := o.lt
  obtain ⟨W1, hW1⟩ : ∃ W1, w1.setCell ⟨w.heap.size + 1 + 1, 1, none⟩ (.slice A1 n c3) = W1 := ⟨_, rfl⟩
  have hg : w1.grownBy W1 (some (w.heap.size + 1 + 1)) := by rw [← hW1]; exact grown_set _ _ _ _
  have hzz := HZ.out
  have ho1 := o.grown hg (by
    cases hb : (Value.slice A1 n c3).ownBlock with
    | none => exact .inl rfl
    | some k => exact .inr (fun e => by injection e with e; have := hu k hb; omega))
  have hy1 : Box W1 (w.heap.size + 1) 27 (.string { data := #[] }) (.slice none 0 0) := (hg.block _ hx1.lt (by simp)).trans hx1
  have hy2 : Box W1 (w.heap.size + 1 + 1) 27 (.string s) (.slice A1 n c3) := by
    rw [← hW1]; unfold Box; rw [set_row2 hx2]; rfl
  have r1 := hy2.cell0
  have r2 := hy2.cell1
  have r3 := hy1.cell0
  have r4 := hy1.cell1
  have r5 := hy1.frozen 0
  have r6 := hy1.frozen 1
  have hbb : Below w.heap.size w W1 := HB1.out.grown hg (by omega) (fun k hk => by cases hk; omega)
  obtain ⟨hq1, hq2⟩ := hy1.store2 (.string s) (.slice A1 n c3)
  have k0 := hq1.cell0
  have k1 := hq1.cell1
  have HO1 := Lib.hid ho1; have HQ := Lib.hid hq2; have HBB := Lib.hid hbb; have HU := Lib.hid hu
  have hs4 := hg.size
  clear hq1 hq2 hg o b hx1 hx2 hy1 hy2 hbb ho1 hu
  go_wp2_with fail
  refine bodyPost_ret (v := .agg #[.string s, .slice A1 n c3]) (by simp [results, Try.results13, go_sem, k0, k1]) rfl ⟨_, rfl, ?_, ?_⟩
  · refine (HO1.out.grown HQ.out ?_).mono (by omega)
    cases hb : (Value.slice A1 n c3).ownBlock with
    | none => exact .inl rfl
    | some k => exact .inr (fun e => by injection e with e; have := HU.out k hb; omega)
  · exact HBB.out.grown HQ.out (by omega) (fun k hk => by cases hk; omega)

set_option maxHeartbeats 800000 in
theorem eqTree_same (s : ByteArray) (A B : Option Addr) (n c d : Nat) (xs : List Int) (w : World) (h : Rd w A n xs) (k : Rd w B n xs) (hn : n ≤ 1048576) :
    Calls Try.prog 15 #[.agg #[.string s, .slice A n c], .agg #[.string s, .slice B n d]] w fun e w' => e = .returned (.bool true) ∧ Below w.heap.size w w' := by
  have H := Lib.hid h; have K := Lib.hid k; clear h k
  obtain ⟨W0, hW0⟩ : ∃ W0, (w.alloc (.cells #[.string s, .slice A n c] 27)).alloc (.cells #[.string s, .slice B n d] 27) = W0 := ⟨_, rfl⟩
  have hx0 : Box W0 w.heap.size 27 (.string s) (.slice A n c) := by
    rw [← hW0]; exact (Box.new w _ _ _).below ((Below.refl _ _).alloc (Nat.le_refl _) _)
  have hx1 : Box W0 (w.heap.size + 1) 27 (.string s) (.slice B n d) := by
    rw [← hW0]
    have := Box.new (w.alloc (.cells #[.string s, .slice A n c] 27)) 27 (.string s) (.slice B n d)
    rwa [World.size_alloc] at this
  have HB0 : Hid (Below w.heap.size w W0) := by rw [← hW0]; exact ((Below.refl _ _).alloc (Nat.le_refl _) _).alloc (by simp) _
  have c0 := hx0.cell0
  have c1 := hx0.cell1
  have c2 := hx1.cell0
  have c3 := hx1.cell1
  clear hx0 hx1
  go_enter Try.func15, Try.ntmps15
  go_wp2_with fail
  refine (eqIntS_same A B n c d xs W0 (H.out.below HB0.out) (K.out.below HB0.out) (by unfold maxLen; omega)).mono ?_
  rintro e w1 ⟨rfl, q, rfl⟩
  go_wp2_with fail
  go_ret
  exact ⟨rfl, below_drewN HB0.out _⟩

end Go.Proofs.Ythggadkmipicgaa

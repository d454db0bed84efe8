/-
  Words on memory for maps: a box of two slices, a map that a call owns; the small functions of package laws on maps.
-/
import Derived.Test.YtpaohaodnchfkaaBack
import Derived.Test.YtpaohaodnchfkaaSeen
import Derived.LoopIn
import Derived.LoopNIn
import Derived.OwnWalkIn
import Derived.RangeFuncBound
import Derived.RangeFuncBox
import Derived.RangeFuncCalls
import Derived.RangeFuncLeaves
import Derived.RangeFuncNested
import Derived.Shelf.Abstract
import Derived.Shelf.RegionOpen
import Derived.TacticsInMore
namespace Go.Proofs.Ytpaohaodnchfkaa
open Go.RowKit

/-- Only blocks from lo up to hi have changed. -/
structure Chg (lo hi : Nat) (w w' : World) : Prop where
  os : w'.os = w.os
  tape : w'.tape = w.tape
  output : w'.output = w.output
  size : w.heap.size ≤ w'.heap.size
  block : ∀ k : Nat, k < w.heap.size → (k < lo ∨ hi ≤ k) → w'.heap[k]? = w.heap[k]?
section
variable {lo hi : Nat} {w w' w'' : World}
theorem Chg.refl (lo hi : Nat) (w : World) : Chg lo hi w w := ⟨rfl, rfl, rfl, Nat.le_refl _, fun _ _ _ => rfl⟩
theorem Chg.trans (h : Chg lo hi w w') (k : Chg lo hi w' w'') : Chg lo hi w w'' :=
  ⟨k.os.trans h.os, k.tape.trans h.tape, k.output.trans h.output, Nat.le_trans h.size k.size, fun i hi' ho => (k.block i (Nat.lt_of_lt_of_le hi' h.size) ho).trans (h.block i hi' ho)⟩
theorem Chg.of_below (h : Below w.heap.size w w') : Chg lo hi w w' := ⟨h.os, h.tape, h.output, h.size, fun k hk _ => h.block k hk⟩
theorem Chg.of_grown {row : Option Nat} (h : w.grownBy w' row) (hr : ∀ k, row = some k → lo ≤ k ∧ k < hi) : Chg lo hi w w' :=
  ⟨h.os, h.tape, h.output, h.size, fun k hk ho => h.block k hk (fun e => by have := hr k e.symm; omega)⟩
theorem Chg.below {B : Nat} (h : Chg lo hi w w') (hB : B ≤ lo) (hs : B ≤ w.heap.size) : Below B w w' := ⟨h.os, h.tape, h.output, h.size, fun k hk => h.block k (by omega) (by omega)⟩
end

/-- A value whose row, if it has one, lies from block a on, ahead of block b. -/
def InIv (v : Value) (a b : Nat) : Prop := ∀ k, v.ownBlock = some k → a ≤ k ∧ k < b
theorem Own.iv {w : World} {lo : Nat} {v : Value} {xs : List Int} (h : Own w lo v xs) : InIv v lo w.heap.size := h.lt
theorem InIv.wide {v : Value} {a b a' b' : Nat} (h : InIv v a b) (ha : a' ≤ a) (hb : b ≤ b') : InIv v a' b' := fun k hk => by have := h k hk; omega
theorem InIv.outside {v : Value} {a b lo hi : Nat} (h : InIv v a b) (ho : b ≤ lo ∨ hi ≤ a) : ∀ k, v.ownBlock = some k → k < lo ∨ hi ≤ k := fun k hk => by have := h k hk; omega
theorem Own.chg {w w' : World} {l lo hi : Nat} {v : Value} {xs : List Int} (h : Own w l v xs) (hc : Chg lo hi w w') (ho : ∀ k, v.ownBlock = some k → k < lo ∨ hi ≤ k) : Own w' l v xs := by
  obtain ⟨h1, h2⟩ := h
  refine ⟨h1, ?_⟩
  rcases h2 with h2 | ⟨g, cap, cur, hv, hg, hh, r⟩
  · exact .inl h2
  · refine .inr ⟨g, cap, cur, hv, hg, (hc.block g (Array.getElem?_eq_some_iff.1 hh).1 (ho g ?_)).trans hh, r⟩
    rw [hv]; rfl
theorem Rd.chg {w w' : World} {lo hi n : Nat} {A : Option Addr} {xs : List Int} (h : Rd w A n xs) (hA : ∀ ad, A = some ad → 0 < n → ad.block < lo) (hc : Chg lo hi w w') : Rd w' A n xs :=
  ⟨h.1, fun hn => by
    obtain ⟨ad, e, hcell⟩ := h.2 hn
    refine ⟨ad, e, fun j hj => ?_⟩
    refine (World.cell?_of_block (w := w) (w' := w') ?_).trans (hcell j hj)
    rw [add_block]
    have hb := World.block_lt_of_cell? w _ (hcell j hj)
    rw [add_block] at hb
    exact hc.block _ hb (.inl (hA ad e hn))⟩

/-- Block b holds two values as a struct of type t. -/
def Box (w : World) (b : Nat) (t : TypeId) (u u' : Value) : Prop := w.heap[b]? = some (.cells #[u, u'] t (0, 0))
section
variable {w w' : World} {b lo hi : Nat} {t : TypeId} {u u' : Value}
theorem Box.cell0 (h : Box w b t u u') : w.cell? ⟨b, 0, none⟩ = some u := by rw [cell_of_row w b 0 _ _ (0, 0) h]; rfl
theorem Box.cell1 (h : Box w b t u u') : w.cell? ⟨b, 1, none⟩ = some u' := by rw [cell_of_row w b 1 _ _ (0, 0) h]; rfl
theorem Box.lt (h : Box w b t u u') : b < w.heap.size := (Array.getElem?_eq_some_iff.1 h).1
theorem Box.below (h : Box w b t u u') (hb : Below w.heap.size w w') : Box w' b t u u' := (hb.block b h.lt).trans h
theorem Box.chg (h : Box w b t u u') (hc : Chg lo hi w w') (ho : b < lo ∨ hi ≤ b) : Box w' b t u u' := (hc.block b h.lt ho).trans h
theorem Box.drewN (h : Box w b t u u') (n : Nat) : Box (w.drewN n) b t u u' := h
theorem Box.new (w : World) (t : TypeId) (u u' : Value) : Box (w.alloc (.cells #[u, u'] t)) w.heap.size t u u' := heap_alloc_new w _
theorem Box.frozen (h : Box w b t u u') (j : Nat) : w.frozen? ⟨b, j, none⟩ = false := frozen_of_row w b j _ _ h
end

/-- Both values of a box stored anew. -/
theorem set_row2 {w : World} {b j : Nat} {cs : Array Value} {t : TypeId} {u : Value} (h : w.heap[b]? = some (.cells cs t (0, 0))) : (w.setCell ⟨b, j, none⟩ u).heap[b]? = some (.cells (cs.setIfInBounds j u) t (0, 0)) := by
  simp [World.setCell, Array.getElem?_modify, h]
theorem Box.store2 {w : World} {b : Nat} {t : TypeId} {x y : Value} (h : Box w b t x y) (u u' : Value) :
    Box ((w.setCell ⟨b, 0, none⟩ u).setCell ⟨b, 1, none⟩ u') b t u u' ∧ w.grownBy ((w.setCell ⟨b, 0, none⟩ u).setCell ⟨b, 1, none⟩ u') (some b) := by
  refine ⟨?_, grownBy_trans (grown_set _ _ _ _) (grown_set _ _ _ _)⟩
  unfold Box at h ⊢
  rw [set_row2 (set_row2 h)]; rfl
/-- A variable that is made and takes two values. -/
theorem Box.local_ (w : World) (t : TypeId) (u u' : Value) :
    ∃ W, w.alloc (.cells #[u, u'] t) = W ∧ Box W w.heap.size t u u' ∧ Below w.heap.size w W ∧ W.heap.size = w.heap.size + 1 :=
  ⟨_, rfl, Box.new w t u u', (Below.refl _ _).alloc (Nat.le_refl _) _, by simp⟩

/-- A map that a call owns: two rows of its own. -/
structure OwnM (w : World) (lo : Nat) (u u' : Value) (t f : List Int) : Prop where
  turn : Own w lo u t
  flip : Own w lo u' f
  apart : ∀ k, u.ownBlock = some k → u'.ownBlock ≠ some k
section
variable {w w' : World} {lo lo' hi : Nat} {u u' : Value} {t f : List Int}
theorem OwnM.mono (h : OwnM w lo u u' t f) (hl : lo' ≤ lo) : OwnM w lo' u u' t f := ⟨h.turn.mono hl, h.flip.mono hl, h.apart⟩
theorem OwnM.below (h : OwnM w lo u u' t f) (hb : Below w.heap.size w w') : OwnM w' lo u u' t f := ⟨h.turn.below hb, h.flip.below hb, h.apart⟩
theorem OwnM.chg (h : OwnM w lo u u' t f) (hc : Chg lo' hi w w') (h1 : ∀ k, u.ownBlock = some k → k < lo' ∨ hi ≤ k) (h2 : ∀ k, u'.ownBlock = some k → k < lo' ∨ hi ≤ k) : OwnM w' lo u u' t f := ⟨h.turn.chg hc h1, h.flip.chg hc h2, h.apart⟩
theorem OwnM.nil_ (w : World) (lo : Nat) : OwnM w lo (.slice none 0 0) (.slice none 0 0) [] [] := ⟨Own.nil_ _ _, Own.nil_ _ _, fun k hk => by cases hk⟩
theorem OwnM.form (h : OwnM w lo u u' t f) {n n' : Nat} (hn : t.length = n) (hn' : f.length = n') : ∃ A c A' c', u = .slice A n c ∧ u' = .slice A' n' c' ∧ Rd w A n t ∧ Rd w A' n' f := by
  obtain ⟨A, c, h1, h2, _⟩ := h.turn.form' hn
  obtain ⟨A', c', h3, h4, _⟩ := h.flip.form' hn'
  exact ⟨A, c, A', c', h1, h3, h2, h4⟩
end

theorem Below.of_drewN {B k : Nat} {w w' : World} (h : Below B (w.drewN k) w') : Below B w w' := ⟨h.os, h.tape, h.output, h.size, h.block⟩

theorem szIntS_any (A : Option Addr) (n c : Nat) (m : Int) (w : World) (hn : n ≤ maxLen) (h0 : 0 ≤ m) (hm : m ≤ 1048576) {r : Int} (hr : (if m - n < 0 then -1 else m - n) = r) :
    Calls Try.prog 39 #[.slice A n c, .int .i64 m] w fun e w' => e = .returned (.int .i64 r) ∧ w = w' := by
  unfold maxLen at hn
  by_cases h : m - n < 0
  · rw [if_pos h] at hr
    have HR := Lib.hid hr; clear hr
    go_enter Try.func39, Try.ntmps39
    go_wp2
    go_ret
    exact ⟨ret_int HR.out, rfl⟩
  · rw [if_neg h] at hr
    have HR := Lib.hid hr; clear hr
    go_enter Try.func39, Try.ntmps39
    go_wp2
    go_ret
    exact ⟨ret_int HR.out, rfl⟩

/-- What is left of m when n and n' are taken off, -1 if there is not so much. -/
def szOf (m : Int) (n n' : Nat) : Int := if m - n < 0 then -1 else if m - n - n' < 0 then -1 else m - n - n'
theorem szOf_eq {m : Int} {n n' : Nat} (h : (n : Int) + n' ≤ m) : szOf m n n' = m - n - n' := by
  unfold szOf
  rw [if_neg (by omega), if_neg (by omega)]
theorem szOf_fits {m : Int} {n n' : Nat} (_h0 : 0 ≤ m) (h : ¬ szOf m n n' < 0) : (n : Int) + n' ≤ m ∧ szOf m n n' = m - n - n' := by
  have hle : (n : Int) + n' ≤ m := by
    unfold szOf at h
    by_cases h1 : m - n < 0
    · rw [if_pos h1] at h; omega
    · rw [if_neg h1] at h
      by_cases h2 : m - n - n' < 0
      · rw [if_pos h2] at h; omega
      · omega
  exact ⟨hle, szOf_eq hle⟩
theorem szMap_any (A A' : Option Addr) (n n' c c' : Nat) (m : Int) (w : World) (hn : n ≤ maxLen) (hn' : n' ≤ maxLen) (h0 : 0 ≤ m) (hm : m ≤ 1048576) {r : Int} (hr : szOf m n n' = r) :
    Calls Try.prog 12 #[.agg #[.slice A n c, .slice A' n' c'], .int .i64 m] w fun e w' => e = .returned (.int .i64 r) ∧ Below w.heap.size w w' := by
  have hbx := Box.new w 24 (.slice A n c) (.slice A' n' c')
  have c0 := hbx.cell0
  have c1 := hbx.cell1
  clear hbx
  have HB : Hid (Below w.heap.size w (w.alloc (.cells #[.slice A n c, .slice A' n' c'] 24))) := (Below.refl _ _).alloc (Nat.le_refl _) _
  unfold szOf at hr
  by_cases h : m - n < 0
  · rw [if_pos h] at hr
    have HR := Lib.hid hr; clear hr
    have E := Lib.hid (show (if m - n < 0 then -1 else m - n) = -1 from if_pos h)
    clear h
    go_enter Try.func12, Try.ntmps12
    go_wp2_with fail
    refine (szIntS_any A n c m _ hn h0 hm E.out).mono ?_
    rintro e w1 ⟨rfl, rfl⟩
    go_wp2_with fail
    go_ret
    exact ⟨ret_int HR.out, HB.out⟩
  · rw [if_neg h] at hr
    have h3 : 0 ≤ m - n := by omega
    have h4 : m - n ≤ 1048576 := by omega
    obtain ⟨d, hd⟩ : ∃ d, m - n = d := ⟨_, rfl⟩
    have E : Hid ((if m - n < 0 then -1 else m - n) = d) := by rw [Hid, if_neg h, hd]
    rw [hd] at h3 h4 hr
    clear h hd
    by_cases h2 : d - n' < 0
    · rw [if_pos h2] at hr
      have HR := Lib.hid hr; clear hr
      have E2 := Lib.hid (show (if d - n' < 0 then -1 else d - n') = -1 from if_pos h2)
      clear h2
      go_enter Try.func12, Try.ntmps12
      go_wp2_with fail
      refine (szIntS_any A n c m _ hn h0 hm E.out).mono ?_
      rintro e w1 ⟨rfl, rfl⟩
      go_wp2_with fail
      refine (szIntS_any A' n' c' d _ hn' h3 h4 E2.out).mono ?_
      rintro e w1 ⟨rfl, rfl⟩
      go_wp2_with fail
      go_ret
      exact ⟨ret_int HR.out, HB.out⟩
    · rw [if_neg h2] at hr
      have HR := Lib.hid hr; clear hr
      have h5 : 0 ≤ d - n' := by omega
      obtain ⟨d', hd'⟩ : ∃ d', d - n' = d' := ⟨_, rfl⟩
      have E2 : Hid ((if d - n' < 0 then -1 else d - n') = d') := by rw [Hid, if_neg h2, hd']
      have HR : Hid (d' = r) := by rw [Hid, ← hd']; exact HR.out
      rw [hd'] at h5
      clear h2 hd'
      go_enter Try.func12, Try.ntmps12
      go_wp2_with fail
      refine (szIntS_any A n c m _ hn h0 hm E.out).mono ?_
      rintro e w1 ⟨rfl, rfl⟩
      go_wp2_with fail
      refine (szIntS_any A' n' c' d _ hn' h3 h4 E2.out).mono ?_
      rintro e w1 ⟨rfl, rfl⟩
      go_wp2_with fail
      go_ret
      exact ⟨ret_int HR.out, HB.out⟩

set_option maxHeartbeats 800000 in
theorem toMap_any (A A' : Option Addr) (n n' c c' : Nat) (t f : List Int) (w : World) (h : Rd w A n t) (h' : Rd w A' n' f) (hn : n ≤ 17592186044416) (hn' : n' ≤ 17592186044416) :
    Calls Try.prog 14 #[.agg #[.slice A n c, .slice A' n' c']] w fun e w' => ∃ u u', e = .returned (.agg #[u, u']) ∧ OwnM w' w.heap.size u u' t f ∧ Below w.heap.size w w' := by
  have H := Lib.hid h; have H' := Lib.hid h'; clear h h'
  obtain ⟨W0, hW0⟩ : ∃ W0, ((w.alloc (.cells #[.slice A n c, .slice A' n' c'] 24)).alloc (.cells #[.slice none 0 0, .slice none 0 0] 28)).alloc (.cells #[.slice none 0 0, .slice none 0 0] 28) = W0 := ⟨_, rfl⟩
  have hz : w.heap.size + 3 = W0.heap.size := by rw [← hW0]; simp
  have hx0 : Box W0 w.heap.size 24 (.slice A n c) (.slice A' n' c') := by
    rw [← hW0]; exact ((Box.new w _ _ _).below ((Below.refl _ _).alloc (Nat.le_refl _) _)).below ((Below.refl _ _).alloc (Nat.le_refl _) _)
  have hx1 : Box W0 (w.heap.size + 1) 28 (.slice none 0 0) (.slice none 0 0) := by
    rw [← hW0]
    have := Box.new (w.alloc (.cells #[.slice A n c, .slice A' n' c'] 24)) 28 (.slice none 0 0) (.slice none 0 0)
    rw [World.size_alloc] at this
    exact this.below ((Below.refl _ _).alloc (Nat.le_refl _) _)
  have hx2 : Box W0 (w.heap.size + 1 + 1) 28 (.slice none 0 0) (.slice none 0 0) := by
    rw [← hW0]
    have := Box.new ((w.alloc (.cells #[.slice A n c, .slice A' n' c'] 24)).alloc (.cells #[.slice none 0 0, .slice none 0 0] 28)) 28 (.slice none 0 0) (.slice none 0 0)
    rw [World.size_alloc, World.size_alloc] at this
    exact this
  have hb0 : Below w.heap.size w W0 := by
    rw [← hW0]; exact (((Below.refl _ _).alloc (Nat.le_refl _) _).alloc (by simp) _).alloc (by simp; omega) _
  have hc0 := (Box.new w 24 (.slice A n c) (.slice A' n' c')).cell0
  have HX0 := Lib.hid hx0; have HX1 := Lib.hid hx1; have HX2 := Lib.hid hx2; have HB0 := Lib.hid hb0; have HW0 := Lib.hid hW0; have HZ := Lib.hid hz; clear hx0 hx1 hx2 hb0 hW0 hz
  go_enter Try.func14, Try.ntmps14
  go_wp2_with fail
  rw [HW0.out]
  refine (toIntS_any A n c t W0 (H.out.below HB0.out) hn).mono ?_
  rintro e w1 ⟨u, rfl, o, b⟩
  obtain ⟨A1, c3, rfl, -, -⟩ := o.form' H.out.1
  have hx0 := HX0.out.below b
  have hx1 := HX1.out.below b
  have hx2 := HX2.out.below b
  have hs1 := b.size
  have HB1 := Lib.hid (HB0.out.trans (b.mono HB0.out.size))
  have c0 := hx0.cell0
  have c1 := hx0.cell1
  have c2 := hx2.cell0
  have f2 := hx2.frozen 0
  have hu : ∀ k, (Value.slice A1 n c3).ownBlock = some k → W0.heap.size ≤ k ∧ k < w1.heap.size := o.lt
  obtain ⟨W1, hW1⟩ : ∃ W1, w1.setCell ⟨w.heap.size + 1 + 1, 0, none⟩ (.slice A1 n c3) = W1 := ⟨_, rfl⟩
  have hg : w1.grownBy W1 (some (w.heap.size + 1 + 1)) := by rw [← hW1]; exact grown_set _ _ _ _
  have hzz := HZ.out
  have HO1 := Lib.hid (o.grown hg (by
    cases hb : (Value.slice A1 n c3).ownBlock with
    | none => exact .inl rfl
    | some k => exact .inr (fun e => by injection e with e; have := hu k hb; omega)))
  have hy0 : Box W1 w.heap.size 24 (.slice A n c) (.slice A' n' c') := (hg.block _ hx0.lt (by simp; omega)).trans hx0
  have hy1 : Box W1 (w.heap.size + 1) 28 (.slice none 0 0) (.slice none 0 0) := (hg.block _ hx1.lt (by simp)).trans hx1
  have hy2 : Box W1 (w.heap.size + 1 + 1) 28 (.slice A1 n c3) (.slice none 0 0) := by
    rw [← hW1]; unfold Box; rw [set_row2 hx2]; rfl
  have d1 := hy0.cell1
  rw [← hW1] at d1
  have HY0 := Lib.hid hy0; have HY1 := Lib.hid hy1; have HY2 := Lib.hid hy2; have HW1 := Lib.hid hW1; have HU := Lib.hid hu
  have HB1' : Hid (Below w.heap.size w W1) := HB1.out.grown hg (by omega) (fun k hk => by cases hk; omega)
  have hs2 := hg.size
  clear hx0 hx1 hx2 o b hu hg hW1 hy0 hy1 hy2
  go_wp2_with fail
  rw [HW1.out]
  clear hc0 c0 c1 c2 f2 d1
  refine (toIntS_any A' n' c' f W1 (H'.out.below HB1'.out) hn').mono ?_
  rintro e w2 ⟨u', rfl, o', b⟩
  obtain ⟨A2, c4, rfl, -, -⟩ := o'.form' H'.out.1
  have hy1 := HY1.out.below b
  have hy2 := HY2.out.below b
  have hu' : ∀ k, (Value.slice A2 n' c4).ownBlock = some k → W1.heap.size ≤ k ∧ k < w2.heap.size := o'.lt
  have hs3 := b.size
  have HB2 := Lib.hid (HB1'.out.trans (b.mono HB1'.out.size))
  have HO1' := Lib.hid (HO1.out.below b)
  have e1 := hy2.cell1
  have g1 := hy2.frozen 1
  obtain ⟨W2, hW2⟩ : ∃ W2, w2.setCell ⟨w.heap.size + 1 + 1, 1, none⟩ (.slice A2 n' c4) = W2 := ⟨_, rfl⟩
  have hg : w2.grownBy W2 (some (w.heap.size + 1 + 1)) := by rw [← hW2]; exact grown_set _ _ _ _
  have hz1 : Box W2 (w.heap.size + 1) 28 (.slice none 0 0) (.slice none 0 0) := (hg.block _ hy1.lt (by simp)).trans hy1
  have hz2 : Box W2 (w.heap.size + 1 + 1) 28 (.slice A1 n c3) (.slice A2 n' c4) := by
    rw [← hW2]; unfold Box; rw [set_row2 hy2]; rfl
  have r1 := hz2.cell0
  have r2 := hz2.cell1
  have r3 := hz1.cell0
  have r4 := hz1.cell1
  have r5 := hz1.frozen 0
  have r6 := hz1.frozen 1
  have hu1 := HU.out
  have HOB : Hid (OwnM W2 W0.heap.size (.slice A1 n c3) (.slice A2 n' c4) t f) := by
    refine ⟨HO1'.out.grown hg ?_, (o'.mono (Nat.le_trans hs1 hs2)).grown hg ?_, fun k hk hk' => by have := hu1 k hk; have := hu' k hk'; omega⟩
    · cases hb : (Value.slice A1 n c3).ownBlock with
      | none => exact .inl rfl
      | some k => exact .inr (fun e => by injection e with e; have := hu1 k hb; omega)
    · cases hb : (Value.slice A2 n' c4).ownBlock with
      | none => exact .inl rfl
      | some k => exact .inr (fun e => by injection e with e; have := hu' k hb; omega)
  have HBB : Hid (Below w.heap.size w W2) := HB2.out.grown hg (by omega) (fun k hk => by cases hk; omega)
  obtain ⟨hq1, hq2⟩ := hz1.store2 (.slice A1 n c3) (.slice A2 n' c4)
  have k0 := hq1.cell0
  have k1 := hq1.cell1
  have HQ := Lib.hid hq2
  have hs4 := hg.size
  clear hu1 hq1 hq2 hg o' b hy1 hy2 hz1 hz2
  go_wp2_with fail
  refine bodyPost_ret (v := .agg #[.slice A1 n c3, .slice A2 n' c4]) (by simp [results, Try.results14, go_sem, k0, k1]) rfl ⟨_, _, rfl, ?_, ?_⟩
  · refine (OwnM.chg HOB.out (Chg.of_grown (lo := w.heap.size + 1) (hi := w.heap.size + 1 + 1) HQ.out (fun k hk => by cases hk; omega)) (fun k hk => ?_) (fun k hk => ?_)).mono (by omega)
    · have := HU.out k hk; omega
    · have := hu' k hk; omega
  · exact HBB.out.grown HQ.out (by omega) (fun k hk => by cases hk; omega)

theorem eqIntS_same (A A' : Option Addr) (n c c' : Nat) (xs : List Int) (w : World) (h : Rd w A n xs) (h' : Rd w A' n xs) (hn : n ≤ maxLen) :
    Calls Try.prog 17 #[.slice A n c, .slice A' n c'] w fun e w' => e = .returned (.bool true) ∧ ∃ k, w' = w.drewN k :=
  (eqIntS_any A A' n n c c' xs xs w h h' hn hn).mono fun _ _ ⟨he, hk⟩ => ⟨by rw [he, eqB_refl], hk⟩

set_option maxHeartbeats 800000 in
theorem eqMap_same (A A' B B' : Option Addr) (n n' c c' d d' : Nat) (t f : List Int) (w : World) (h : Rd w A n t) (h' : Rd w A' n' f) (k : Rd w B n t) (k' : Rd w B' n' f) (hn : n ≤ 17592186044416) (hn' : n' ≤ 17592186044416) :
    Calls Try.prog 18 #[.agg #[.slice A n c, .slice A' n' c'], .agg #[.slice B n d, .slice B' n' d']] w fun e w' => e = .returned (.bool true) ∧ Below w.heap.size w w' := by
  have H := Lib.hid h; have H' := Lib.hid h'; have K := Lib.hid k; have K' := Lib.hid k'; clear h h' k k'
  obtain ⟨W0, hW0⟩ : ∃ W0, (w.alloc (.cells #[.slice A n c, .slice A' n' c'] 28)).alloc (.cells #[.slice B n d, .slice B' n' d'] 28) = W0 := ⟨_, rfl⟩
  have hx0 : Box W0 w.heap.size 28 (.slice A n c) (.slice A' n' c') := by
    rw [← hW0]; exact (Box.new w _ _ _).below ((Below.refl _ _).alloc (Nat.le_refl _) _)
  have hx1 : Box W0 (w.heap.size + 1) 28 (.slice B n d) (.slice B' n' d') := by
    rw [← hW0]
    have := Box.new (w.alloc (.cells #[.slice A n c, .slice A' n' c'] 28)) 28 (.slice B n d) (.slice B' n' d')
    rwa [World.size_alloc] at this
  have HB0 : Hid (Below w.heap.size w W0) := by rw [← hW0]; exact ((Below.refl _ _).alloc (Nat.le_refl _) _).alloc (by simp) _
  have c0 := hx0.cell0
  have c1 := hx0.cell1
  have c2 := hx1.cell0
  have c3 := hx1.cell1
  clear hx0 hx1
  go_enter Try.func18, Try.ntmps18
  go_wp2_with fail
  refine (eqIntS_same A B n c d t W0 (H.out.below HB0.out) (K.out.below HB0.out) (by unfold maxLen; omega)).mono ?_
  rintro e w1 ⟨rfl, q, rfl⟩
  go_wp2_with fail
  refine (eqIntS_same A' B' n' c' d' f (W0.drewN q) ((H'.out.below HB0.out).drewN q) ((K'.out.below HB0.out).drewN q) (by unfold maxLen; omega)).mono ?_
  rintro e w1 ⟨rfl, q', rfl⟩
  go_wp2_with fail
  go_ret
  exact ⟨rfl, below_drewN HB0.out _⟩

set_option maxHeartbeats 800000 in
theorem markMap_any (a b lo : Nat) (A A' : Option Addr) (n n' c c' : Nat) (t f : List Int) (m : Int) (w : World) (h : OwnM w lo (.slice A n c) (.slice A' n' c') t f) (ht : t.length = n) (hf : f.length = n') (hn : n ≤ 2097152) (hn' : n' ≤ 2097152) (hm0 : 0 ≤ m) (hm : m ≤ 8388608)
    (hi : InIv (.slice A n c) a b) (hi' : InIv (.slice A' n' c') a b) (hb : b ≤ w.heap.size) :
    Calls Try.prog 19 #[.agg #[.slice A n c, .slice A' n' c'], .int .i64 m] w fun e w' => e = .returned (.int .i64 (m + n + n')) ∧ OwnM w' lo (.slice A n c) (.slice A' n' c') (marks m n) (marks (m + n) n') ∧ Chg a b w w' := by
  have H := Lib.hid h; have HT := Lib.hid ht; have HF := Lib.hid hf; have HI := Lib.hid hi; have HI' := Lib.hid hi'; clear h ht hf hi hi'
  obtain ⟨W0, hW0⟩ : ∃ W0, w.alloc (.cells #[.slice A n c, .slice A' n' c'] 28) = W0 := ⟨_, rfl⟩
  have hx0 : Box W0 w.heap.size 28 (.slice A n c) (.slice A' n' c') := by rw [← hW0]; exact Box.new w _ _ _
  have HB0 : Hid (Below w.heap.size w W0) := by rw [← hW0]; exact (Below.refl _ _).alloc (Nat.le_refl _) _
  have HM0 := Lib.hid (H.out.below HB0.out)
  have c0 := hx0.cell0
  have HX0 := Lib.hid hx0; clear hx0
  have hsz := HB0.out.size
  go_enter Try.func19, Try.ntmps19
  go_wp2_with fail
  refine (markIntS_any lo A n c t m W0 HM0.out.turn HT.out (by omega) hm0 (by omega)).mono ?_
  rintro e w1 ⟨rfl, o, hg⟩
  have hg1 : Chg a b W0 w1 := Chg.of_grown hg (fun k hk => HI.out k hk)
  have o2 := HM0.out.flip.grown hg (by
    cases hk : (Value.slice A' n' c').ownBlock with
    | none => exact .inl rfl
    | some k => exact .inr (fun e => HM0.out.apart k e.symm hk))
  have hx1 := HX0.out.chg hg1 (.inr hb)
  have c1 := hx1.cell1
  have HO := Lib.hid o; have HO2 := Lib.hid o2; have HG1 := Lib.hid hg1; clear o o2 hg hg1 hx1 c0
  have hs1 : 0 ≤ m + n := by omega
  have hs2 : m + n ≤ 16777216 := by omega
  go_wp2_with fail
  refine (markIntS_any lo A' n' c' f (m + n) w1 HO2.out HF.out (by omega) hs1 (by omega)).mono ?_
  rintro e w2 ⟨rfl, o', hg⟩
  have hg2 : Chg a b w1 w2 := Chg.of_grown hg (fun k hk => HI'.out k hk)
  have HO3 : Hid (OwnM w2 lo (.slice A n c) (.slice A' n' c') (marks m n) (marks (m + n) n')) := by
    refine ⟨HO.out.grown hg ?_, o', HM0.out.apart⟩
    cases hk : (Value.slice A n c).ownBlock with
    | none => exact .inl rfl
    | some k => exact .inr (fun e => HM0.out.apart k hk e.symm)
  have HC : Hid (Chg a b w w2) := ((Chg.of_below HB0.out).trans HG1.out).trans hg2
  clear o' hg hg2 c1
  go_wp2_with fail
  go_ret
  exact ⟨rfl, HO3.out, HC.out⟩

set_option maxHeartbeats 800000 in
theorem heldMap_any (A A' : Option Addr) (n n' c c' : Nat) (m : Int) (w : World) (h : Rd w A n (marks m n)) (h' : Rd w A' n' (marks (m + n) n')) (hn : n ≤ 2097152) (hn' : n' ≤ 2097152) (hm0 : 0 ≤ m) (hm : m ≤ 8388608) :
    Calls Try.prog 36 #[.agg #[.slice A n c, .slice A' n' c'], .int .i64 m] w fun e w' => e = .returned (.int .i64 (m + n + n')) ∧ Below w.heap.size w w' := by
  have H := Lib.hid h; have H' := Lib.hid h'; clear h h'
  obtain ⟨W0, hW0⟩ : ∃ W0, w.alloc (.cells #[.slice A n c, .slice A' n' c'] 28) = W0 := ⟨_, rfl⟩
  have hx0 : Box W0 w.heap.size 28 (.slice A n c) (.slice A' n' c') := by rw [← hW0]; exact Box.new w _ _ _
  have HB0 : Hid (Below w.heap.size w W0) := by rw [← hW0]; exact (Below.refl _ _).alloc (Nat.le_refl _) _
  have c0 := hx0.cell0
  have c1 := hx0.cell1
  clear hx0
  have hs1 : 0 ≤ m + n := by omega
  have hs2 : m + n ≤ 16777216 := by omega
  have hs3 : 0 ≤ m + n + n' := by omega
  go_enter Try.func36, Try.ntmps36
  go_wp2_with fail
  refine (heldIntS_any A n c m W0 (H.out.below HB0.out) (by omega) hm0 (by omega)).mono ?_
  rintro e w1 ⟨rfl, rfl⟩
  go_wp2_with fail
  refine (heldIntS_any A' n' c' (m + n) W0 (H'.out.below HB0.out) (by omega) hs1 (by omega)).mono ?_
  rintro e w1 ⟨rfl, rfl⟩
  go_wp2_with fail
  go_ret
  exact ⟨rfl, HB0.out⟩

end Go.Proofs.Ytpaohaodnchfkaa

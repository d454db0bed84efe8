/-
  (*Map).compare once more: what it leaves behind is the world with draws and blocks of its own.
  A row of forms, sorted by slices.SortFunc: the closures of rootedForms; what the sort leaves.
  A row of maps whose cells change their places: what holds of it; clear; slices.CompactFunc, as rootedForms calls it.
  slices.CompactFunc, as rootedForms calls it.
-/
import Derived.Test.YtakckkmhhedfpaaCmpM
import Derived.Sort.Grow
import Derived.Deep.RegionHeld3
import Derived.Test.YtakckkmhhedfpaaShelfSF
import Derived.Test.YtakckkmhhedfpaaPut
import Derived.Test.YtakckkmhhedfpaaRootP
import Derived.Test.YtakckkmhhedfpaaAbove
import Derived.Lib.SliceRun
namespace Go.Proofs.Ytakckkmhhedfpaa
open Go.RowKit Go.Sort

set_option maxHeartbeats 400000 in
theorem compare_grow (w : World) (x y : Nat) (A A' B B' : Option Addr) (n c c' d d' : Nat) (t f t' f' : List Int) (hx : Box2 w x A n c A' n c') (hy : Box2 w y B n d B' n d') (h : Rd w A n t) (h' : Rd w A' n f) (k : Rd w B n t') (k' : Rd w B' n f') (hn : n ≤ 12) {r : Int} (hr : cmpM t f t' f' = r) :
    Calls Try.prog 80 #[.pointer (some ⟨x, 0, none⟩), .pointer (some ⟨y, 0, none⟩)] w fun e w' => e = .returned (.int .i64 r) ∧ ∃ q os, w' = grow (w.drewN q) os := by
  have c0 := hx.cell0
  have c1 := hx.cell1
  have d0 := hy.cell0
  have d1 := hy.cell1
  have HX := Lib.hid hx; have HY := Lib.hid hy
  have HR : Hid ((if cmpL t t' = 0 then cmpL f f' else cmpL t t') = r) := hr
  have H := Lib.hid h; have H' := Lib.hid h'; have K := Lib.hid k; have K' := Lib.hid k'; clear hx hy h h' k k' hr
  go_enter Try.func80, Try.ntmps80
  go_wp2_with fail
  go_region_held3 (fun w' => w'.cell? ⟨x, 0, none⟩ = some (.slice A n c) ∧ w'.cell? ⟨x, 1, none⟩ = some (.slice A' n c') ∧ w'.cell? ⟨y, 0, none⟩ = some (.slice B n d) ∧ w'.cell? ⟨y, 1, none⟩ = some (.slice B' n d')) (first | go_keep | exact ⟨(HX.out.below ((below_drewN (Below.refl _ w) _).alloc (Nat.le_refl _) _)).cell0, (HX.out.below ((below_drewN (Below.refl _ w) _).alloc (Nat.le_refl _) _)).cell1, (HY.out.below ((below_drewN (Below.refl _ w) _).alloc (Nat.le_refl _) _)).cell0, (HY.out.below ((below_drewN (Below.refl _ w) _).alloc (Nat.le_refl _) _)).cell1⟩) (first
    | (have hchk := HC1.out; clear hchk; go_at_call 109; refine (sCompare_any A' B' n c' d' f f' _ (H'.out.drewN _) (K'.out.drewN _) hn).mono ?_; rintro e w' ⟨rfl, rfl⟩)
    | (go_at_call 109; refine (sCompare_any A B n c d t t' _ (H.out.drewN _) (K.out.drewN _) hn).mono ?_; rintro e w' ⟨rfl, rfl⟩; have HC1 : Hid True := trivial)
    | (go_at_call 108; refine (cOr_any _ 2 (cmpL t t') (cmpL f f') _ (rd_lit2d w _ _ _) HR.out).mono ?_; rintro e w' ⟨rfl, rfl⟩))
  all_goals
    go_wp2
    go_ret
    exact ⟨rfl, _, _, alloc_eq_grow _ _⟩

end Go.Proofs.Ytakckkmhhedfpaa

namespace Go.Proofs.Ytakckkmhhedfpaa
open Go.RowKit Go.Shelf Go.Lib Go.Sort

set_option maxHeartbeats 800000 in
theorem forms1_any (w : World) (A A' B B' : Option Addr) (n c c' d d' : Nat) (t f t' f' : List Int) (h : Rd w A n t) (h' : Rd w A' n f) (k : Rd w B n t') (k' : Rd w B' n f') (hn : n ≤ 12) {r : Int} (hr : cmpM t f t' f' = r) :
    Calls Try.prog 99 #[.agg #[.slice A n c, .slice A' n c'], .agg #[.slice B n d, .slice B' n d']] w fun e w' => e = .returned (.int .i64 r) ∧ ∃ q os, w' = grow (w.drewN q) os := by
  obtain ⟨W0, hW0, hx, hy, hbl, hz⟩ := two_boxes w 35 35 (.slice A n c) (.slice A' n c') (.slice B n d) (.slice B' n d')
  have HX : Hid (Box2 W0 w.heap.size A n c A' n c') := hx
  have HY : Hid (Box2 W0 (w.heap.size + 1) B n d B' n d') := hy
  have HB := Lib.hid hbl; have H := Lib.hid h; have H' := Lib.hid h'; have K := Lib.hid k; have K' := Lib.hid k'
  have HW : Hid (∃ os, W0 = grow w os) := by rw [Hid, ← hW0]; exact ⟨_, by rw [alloc_eq_grow, alloc_eq_grow, grow_grow]⟩
  clear hx hy hbl hz h h' k k'
  go_enter Try.func99, Try.ntmps99
  go_wp2_with fail
  refine (compare_grow W0 w.heap.size (w.heap.size + 1) A A' B B' n c c' d d' t f t' f' HX.out HY.out (H.out.below HB.out) (H'.out.below HB.out) (K.out.below HB.out) (K'.out.below HB.out) hn hr).mono ?_
  rintro e w1 ⟨rfl, q, os, rfl⟩
  go_wp2
  go_ret
  obtain ⟨o0, ho0⟩ := HW.out
  exact ⟨rfl, q, o0 ++ os, by rw [ho0, ← grow_grow]; rfl⟩

set_option maxHeartbeats 800000 in
theorem forms2_any (w : World) (A A' B B' : Option Addr) (n c c' d d' : Nat) (t f t' f' : List Int) (h : Rd w A n t) (h' : Rd w A' n f) (k : Rd w B n t') (k' : Rd w B' n f') (hn : n ≤ 12) {r : Int} (hr : cmpM t f t' f' = r) {v : Bool} (hv : (r == 0) = v) :
    Calls Try.prog 101 #[.agg #[.slice A n c, .slice A' n c'], .agg #[.slice B n d, .slice B' n d']] w fun e w' => e = .returned (.bool v) ∧ Below w.heap.size w w' := by
  obtain ⟨W0, hW0, hx, hy, hbl, hz⟩ := two_boxes w 35 35 (.slice A n c) (.slice A' n c') (.slice B n d) (.slice B' n d')
  have HX : Hid (Box2 W0 w.heap.size A n c A' n c') := hx
  have HY : Hid (Box2 W0 (w.heap.size + 1) B n d B' n d') := hy
  have HB := Lib.hid hbl; have H := Lib.hid h; have H' := Lib.hid h'; have K := Lib.hid k; have K' := Lib.hid k'
  clear hx hy hbl hz h h' k k'
  go_enter Try.func101, Try.ntmps101
  go_wp2_with fail
  refine (compare_lit W0 w.heap.size (w.heap.size + 1) A A' B B' n c c' d d' t f t' f' HX.out HY.out (H.out.below HB.out) (H'.out.below HB.out) (K.out.below HB.out) (K'.out.below HB.out) hn hr).mono ?_
  rintro e w1 ⟨rfl, bl⟩
  have HB1 := Lib.hid (HB.out.trans (bl.mono HB.out.size)); clear bl
  go_wp2
  go_ret
  exact ⟨rfl, HB1.out⟩

/-- A map of a row together with its cells: it is owned in a world w. -/
abbrev CM (w : World) (lo n : Nat) : Type := { x : Value × Value × MV n // OwnM w lo x.1 x.2.1 x.2.2.t x.2.2.f }
section
variable {w w' : World} {lo n : Nat}
def CM.enc (x : CM w lo n) : List Value := [x.1.1, x.1.2.1]
def CM.mv (x : CM w lo n) : MV n := x.1.2.2
theorem CM.own (x : CM w lo n) : OwnM w lo x.1.1 x.1.2.1 x.mv.t x.mv.f := x.2
theorem CM.maps : ∀ xs : List (CM w lo n), Maps w lo (xs.flatMap CM.enc) (xs.map fun x => x.mv.pr)
  | [] => trivial
  | x :: xs => ⟨x.own, CM.maps xs⟩
theorem CM.of : ∀ {vs : List Value} {ms : List (MV n)}, Maps w lo vs (ms.map MV.pr) → ∃ xs : List (CM w lo n), xs.flatMap CM.enc = vs ∧ xs.map CM.mv = ms
  | [], [], _ => ⟨[], rfl, rfl⟩
  | u :: u' :: vs, m :: ms, h => by
    obtain ⟨xs, h1, h2⟩ := CM.of (vs := vs) (ms := ms) h.2
    exact ⟨⟨(u, u', m), h.1⟩ :: xs, by simp [CM.enc, h1], by simp [CM.mv, h2]⟩
  | [], _ :: _, h => h.elim
  | [_], [], h => h.elim
  | [_], _ :: _, h => h.elim
  | _ :: _ :: _, [], h => h.elim
theorem CM.enc_len (x : CM w lo n) : x.enc.length = 2 := rfl
theorem CM.flat_len : ∀ xs : List (CM w lo n), (xs.flatMap CM.enc).length = xs.length * 2
  | [] => rfl
  | x :: xs => by rw [List.flatMap_cons, List.length_append, CM.flat_len xs, CM.enc_len, List.length_cons]; omega
theorem CM.form (x : CM w lo n) : ∃ A c A' c', x.enc = [.slice A n c, .slice A' n c'] ∧ Rd w A n x.mv.t ∧ Rd w A' n x.mv.f := by
  obtain ⟨A, c, A', c', e1, e2, r1, r2⟩ := x.own.form x.mv.ht x.mv.hf
  exact ⟨A, c, A', c', by rw [CM.enc, e1, e2], r1, r2⟩
theorem CM.one (x : CM w lo n) : ∀ v ∈ x.enc, v.oneCell' = true := by
  obtain ⟨A, c, A', c', e, -, -⟩ := x.form
  intro v hv
  rw [e] at hv
  simp at hv
  rcases hv with rfl | rfl <;> rfl
theorem CM.flat_get [Inhabited (CM w lo n)] : ∀ (xs : List (CM w lo n)) (t : Nat), t < xs.length * 2 → (xs.flatMap CM.enc)[t]? = some ((xs.toArray[t / 2]!).enc[t % 2]!)
  | [], t, h => by simp at h
  | x :: xs, 0, _ => by simp [CM.enc]
  | x :: xs, 1, _ => by simp [CM.enc]
  | x :: xs, t + 2, h => by
    have h' : t < xs.length * 2 := by simp only [List.length_cons] at h; omega
    have ih := CM.flat_get xs t h'
    rw [List.flatMap_cons, List.getElem?_append_right (by rw [CM.enc_len]; omega), CM.enc_len, Nat.add_sub_cancel, ih]
    have e1 : (t + 2) / 2 = t / 2 + 1 := by omega
    have e2 : (t + 2) % 2 = t % 2 := by omega
    rw [e1, e2]
    have hlt : t / 2 < xs.length := by omega
    rw [getElem!_pos xs.toArray _ (by simpa using hlt), getElem!_pos (x :: xs).toArray _ (by simp; omega)]
    simp
theorem CM.flatK_eq [Inhabited (CM w lo n)] (xs : List (CM w lo n)) : flatK CM.enc 2 xs.toArray = (xs.flatMap CM.enc).toArray := by
  refine ext_get! (by rw [size_flatK, List.size_toArray, List.size_toArray, CM.flat_len]) fun t ht => ?_
  have ht' : t < xs.length * 2 := by simpa using ht
  rw [get_flatK _ _ _ t (by simpa using ht')]
  have h := CM.flat_get xs t ht'
  have hl : t < (xs.flatMap CM.enc).length := by rw [CM.flat_len]; exact ht'
  rw [List.getElem?_eq_getElem hl] at h
  injection h with h
  rw [getElem!_pos (xs.flatMap CM.enc).toArray t (by simpa using hl)]
  simpa using h.symm
end

theorem ownsRow_put2 {w : World} {base : Nat} {e : TypeId} {g n cap q : Nat} {zs ys : List Value} (h : w.ownsRow base e 2 (.slice (some ⟨g, 0, none⟩) n cap) n zs) (hy : ys.length = n * 2) :
    (putRow id (Sort.ahead w q) g 0 ys.toArray).ownsRow base e 2 (.slice (some ⟨g, 0, none⟩) n cap) n ys := by
  rcases h.2 with ⟨e0, _⟩ | ⟨g', cap', cur, e0, hb, hg, hn, hm, hs, ht⟩
  · cases e0
  · injection e0 with e1 _ e3
    injection e1 with e1
    injection e1 with e1
    subst e1; subst e3
    refine ⟨hy, .inr ⟨g, cap, putCells id 0 ys.toArray cur, rfl, hb, ?_, hn, hm, by simpa [putCells] using hs, ?_⟩⟩
    · simp [putRow, mapBlock, Sort.ahead, Array.getElem?_modify, hg, onCells]
    · apply List.ext_getElem?
      intro j
      rw [List.getElem?_take, Array.getElem?_toList]
      by_cases hj : j < n * 2
      · have hjc : j < cur.size := by rw [hs]; have := Nat.mul_le_mul_right 2 hn; omega
        simp only [if_pos hj, putCells, Array.getElem?_mapIdx, Array.getElem?_eq_getElem hjc, Option.map_some]
        rw [if_pos (by simp; omega), List.getElem?_eq_getElem (by omega)]
        simp [getElem!_pos, show j < ys.length by omega]
      · rw [if_neg hj, List.getElem?_eq_none (by omega)]

theorem sortK_grown {w : World} {α : Type} [Inhabited α] (enc : α → List Value) (k g m : Nat) (dk : Array α) (os : Array Obj) : w.grownBy (sortWorldK enc k w g 0 m dk os) (some g) := by
  refine ⟨rfl, rfl, rfl, ?_, fun i hi hne => ?_⟩
  · simp [sortWorldK, putRowK, putRow, mapBlock, Sort.grow, Sort.ahead]
  · have hne' : ¬ g = i := fun e => hne (by rw [e])
    simp only [sortWorldK, putRowK, putRow, mapBlock, Sort.grow, Sort.ahead]
    rw [Array.getElem?_append, if_pos (by simpa using hi), Array.getElem?_modify, if_neg hne']

theorem swo_mv {w : World} {lo n : Nat} : SWO (ltOf fun x y : CM w lo n => x.mv.cmp y.mv) where
  irrefl x := by unfold ltOf; simp; have := MV.cmp_zero.2 (rfl : x.mv = x.mv); omega
  trans x y z h1 h2 := by unfold ltOf at *; simp at *; exact MV.cmp_trans h1 h2
  ntrans x y z h1 h2 := by
    unfold ltOf at *
    simp only [decide_eq_false_iff_not] at *
    intro h3
    rcases MV.tri x.mv y.mv with e | e | e
    · exact h1 e
    · rw [e] at h3; exact h2 h3
    · exact h2 (MV.cmp_trans e h3)

/-- Values that own different blocks. -/
def Apt (vs : List Value) : Prop := vs.Pairwise fun u v => ∀ k, u.ownBlock = some k → v.ownBlock ≠ some k
theorem Apt.perm {vs us : List Value} (h : Apt vs) (hp : vs.Perm us) : Apt us :=
  (hp.pairwise_iff (fun {_ _} h k hk e => h k e hk)).1 h
theorem Apt.sub {vs us : List Value} (h : Apt vs) (hp : us.Sublist vs) : Apt us := List.Pairwise.sublist hp h
theorem flat_perm {α β : Type} {f : α → List β} {xs ys : List α} (h : xs.Perm ys) : (xs.flatMap f).Perm (ys.flatMap f) := h.flatMap_right f
theorem flat_sub {α β : Type} (f : α → List β) {xs ys : List α} (h : xs.Sublist ys) : (xs.flatMap f).Sublist (ys.flatMap f) := by
  induction h with
  | slnil => exact List.Sublist.refl _
  | cons a _ ih => rw [List.flatMap_cons]; exact ih.trans (List.sublist_append_right _ _)
  | cons_cons a _ ih => rw [List.flatMap_cons, List.flatMap_cons]; exact List.Sublist.append_left ih _
/-- A row of maps that a call owns, no two of whose lists lie in one block. -/
def RowD (w : World) (lo : Nat) (v : Value) (ms : List (List Int × List Int)) : Prop :=
  ∃ vs, w.ownsRow lo 35 2 v ms.length vs ∧ Maps w lo vs ms ∧ Apt vs
theorem RowD.row {w : World} {lo : Nat} {v : Value} {ms : List (List Int × List Int)} (h : RowD w lo v ms) : RowM w lo v ms := by
  obtain ⟨vs, h1, h2, -⟩ := h
  exact ⟨vs, h1, h2⟩
theorem RowD.below {w w' : World} {lo : Nat} {v : Value} {ms : List (List Int × List Int)} (h : RowD w lo v ms) (hb : Below w.heap.size w w') : RowD w' lo v ms := by
  obtain ⟨vs, ho, hm, ha⟩ := h
  exact ⟨vs, World.ownsRow.kept ho (row := none) ⟨hb.os, hb.tape, hb.output, hb.size, fun k hk _ => hb.block k hk⟩ (by cases v.ownBlock <;> simp), hm.below hb, ha⟩
theorem RowD.mono {w : World} {lo lo' : Nat} {v : Value} {ms : List (List Int × List Int)} (h : RowD w lo v ms) (hh : lo' ≤ lo) : RowD w lo' v ms := by
  obtain ⟨vs, ho, hm, ha⟩ := h
  refine ⟨vs, ?_, hm.mono hh, ha⟩
  obtain ⟨h1, h2⟩ := ho
  refine ⟨h1, ?_⟩
  rcases h2 with h2 | ⟨g, cap, cur, hv, hg, r⟩
  · exact .inl h2
  · exact .inr ⟨g, cap, cur, hv, by omega, r⟩

set_option maxHeartbeats 1600000 in
theorem sortFunc_any {n : Nat} (hn : n ≤ 12) (ms : List (MV n)) (g N c lo : Nat) (w : World) (h : RowD w lo (.slice (some ⟨g, 0, none⟩) N c) (ms.map MV.pr)) (hN : ms.length = N) (h0 : 0 < N) (hm : N ≤ 1048576) :
    Calls Try.prog 98 #[.slice (some ⟨g, 0, none⟩) N c, .func (.func 99) #[] #[]] w fun e w' => e = .returned (.tuple #[]) ∧
      ∃ s : List (MV n), s.Perm ms ∧ s.Pairwise (fun a b => ¬ b.cmp a < 0) ∧ RowD w' lo (.slice (some ⟨g, 0, none⟩) N c) (s.map MV.pr) ∧ w.grownBy w' (some g) := by
  obtain ⟨vs, ho, hmaps, hapt⟩ := h
  obtain ⟨xs, hxv, hxm⟩ := CM.of hmaps
  rw [List.length_map, hN] at ho
  have hxl : xs.length = N := by rw [← hN, ← hxm, List.length_map]
  obtain ⟨x0, hx0⟩ : ∃ x0, x0 ∈ xs := by
    cases xs with
    | nil => simp at hxl; omega
    | cons a l => exact ⟨a, by simp⟩
  haveI : Inhabited (CM w lo n) := ⟨x0⟩
  have hfl := CM.flatK_eq xs
  have hglt : g < w.heap.size := (ho.lt g rfl).2
  have hH : HoldsK CM.enc 2 w g 0 xs.toArray := by
    intro j hj
    rw [hfl] at hj ⊢
    have hj' : j < vs.length := by simpa [hxv] using hj
    obtain ⟨cs, hcs⟩ : ∃ cs : Array Value, w.heap[g]? = some (.cells cs 35 (0, 0)) := by
      rcases ho.2 with ⟨e, _⟩ | ⟨g', cap, cur, e, _, hh, _⟩
      · cases e
      · injection e with e1 _ _
        injection e1 with e1
        injection e1 with e1
        subst e1
        exact ⟨cur, hh⟩
    refine ⟨?_, frozen_of_row w g _ _ _ hcs⟩
    have hc := ho.cells (g := g) rfl j vs[j] (List.getElem?_eq_getElem hj')
    have e : (⟨g, 0, none⟩ : Addr).add j = ⟨g, j, none⟩ := by unfold Addr.add; split <;> simp_all
    rw [e] at hc
    rw [Nat.zero_add, hc, getElem!_pos _ j (by simpa [hxv] using hj')]
    simp [hxv]
  have hcmp : CmpLays Try.prog 99 #[] CM.enc 2 (fun x y : CM w lo n => x.mv.cmp y.mv) g 0 N w := by
    intro m os dk _ x y
    have hgr : w.grownBy (sortWorldK CM.enc 2 w g 0 m dk os) (some g) := sortK_grown _ _ _ _ _ _
    have ox := ownM_kept (v := .slice (some ⟨g, 0, none⟩) N c) x.own ho hgr
    have oy := ownM_kept (v := .slice (some ⟨g, 0, none⟩) N c) y.own ho hgr
    obtain ⟨A, c1, A', c1', e1, e2, r1, r2⟩ := ox.form x.mv.ht x.mv.hf
    obtain ⟨B, d1, B', d1', e3, e4, r3, r4⟩ := oy.form y.mv.ht y.mv.hf
    have ex : x.enc.toArray = #[.slice A n c1, .slice A' n c1'] := by rw [CM.enc, e1, e2]
    have ey : y.enc.toArray = #[.slice B n d1, .slice B' n d1'] := by rw [CM.enc, e3, e4]
    rw [ex, ey]
    exact forms1_any _ A A' B B' n c1 c1' d1 d1' x.mv.t x.mv.f y.mv.t y.mv.f r1 r2 r3 r4 hn rfl
  have hcon := AnyQ.slices_SortFunc Try.laysSF 2 Try.isAgg35 Try.sizeOf35 CM.enc CM.enc_len CM.one (fun x y : CM w lo n => x.mv.cmp y.mv) swo_mv 99 #[] g 0 c xs.toArray w (enters_of Try.func99 (by kernel_rfl) rfl) (by simpa [hxl] using hcmp) hH hglt (by simp [hxl]; omega)
  have es : xs.toArray.size = N := by simp [hxl]
  rw [es] at hcon
  change Calls Try.prog 98 _ _ _ at hcon
  refine hcon.mono ?_
  rintro e w' ⟨rfl, d', q, os, hp, hs, rfl⟩
  refine ⟨rfl, d'.toList.map CM.mv, ?_, ?_, ?_, sortK_grown _ _ _ _ _ _⟩
  · have h1 := hp.2.2
    have h2 := hp.1
    have e1 : d'.extract 0 N = d' := by rw [← es, ← h2]; simp
    have e2 : xs.toArray.extract 0 N = xs.toArray := by rw [← es]; simp
    rw [e1, e2] at h1
    rw [← hxm]
    exact h1.map _
  · rw [List.pairwise_map, List.pairwise_iff_getElem]
    intro i j hi hj hij
    have hj' : j < N := by have := hp.1; simp at hj; omega
    have h3 := hs i j (Nat.zero_le _) hij hj'
    have hi2 : i < d'.size := by simpa using hi
    have hj2 : j < d'.size := by simpa using hj
    rw [getElem!_pos d' i hi2, getElem!_pos d' j hj2] at h3
    unfold ltOf at h3
    simpa using h3
  · have hd : d'.toList.length = N := by have := hp.1; simp at this ⊢; omega
    have hfk : flatK CM.enc 2 d' = (d'.toList.flatMap CM.enc).toArray := by have := CM.flatK_eq d'.toList; simpa using this
    have ho2 : (sortWorldK CM.enc 2 w g 0 q d' os).ownsRow lo 35 2 (.slice (some ⟨g, 0, none⟩) N c) N (d'.toList.flatMap CM.enc) := by
      unfold sortWorldK putRowK
      rw [hfk]
      exact Lib.ownsRow_grow (ownsRow_put2 (q := q) ho (by rw [CM.flat_len, hd])) 0 os
    have h1 := hp.2.2
    have h2 := hp.1
    have e1 : d'.extract 0 N = d' := by rw [← es, ← h2]; simp
    have e2 : xs.toArray.extract 0 N = xs.toArray := by rw [← es]; simp
    rw [e1, e2] at h1
    have hap : Apt (d'.toList.flatMap CM.enc) := by
      rw [← hxv] at hapt
      exact hapt.perm (flat_perm h1.symm)
    refine ⟨_, by rw [List.length_map, List.length_map, hd]; exact ho2, ?_, hap⟩
    have hmm := CM.maps d'.toList
    have hk := hmm.kept (v := .slice (some ⟨g, 0, none⟩) N c) ho (sortK_grown CM.enc 2 g q d' os)
    rw [List.map_map]; exact hk

end Go.Proofs.Ytakckkmhhedfpaa

namespace Go.Proofs.Ytakckkmhhedfpaa
open Go.RowKit

/-- The row's cells are those of ys, each of which is owned in the world w0. -/
structure RwC (w0 : World) (lo n g N c : Nat) (ys : List (CM w0 lo n)) (w : World) : Prop where
  base : ∃ vs0, w0.ownsRow lo 35 2 (.slice (some ⟨g, 0, none⟩) N c) N vs0
  row : w.ownsRow lo 35 2 (.slice (some ⟨g, 0, none⟩) N c) N (ys.flatMap CM.enc)
  grown : w0.grownBy w (some g)
theorem row_cells {w : World} {lo g N c : Nat} {vs : List Value} (h : w.ownsRow lo 35 2 (.slice (some ⟨g, 0, none⟩) N c) N vs) :
    ∃ cur, w.heap[g]? = some (.cells cur 35 (0, 0)) ∧ lo ≤ g ∧ N ≤ c ∧ c ≤ maxLen ∧ cur.size = c * 2 ∧ cur.toList.take (N * 2) = vs := by
  rcases h.2 with ⟨e0, _⟩ | ⟨g', cap', cur, e0, hb, hg, hn, hm, hs, ht⟩
  · cases e0
  · injection e0 with e1 _ e3
    injection e1 with e1
    injection e1 with e1
    subst e1; subst e3
    exact ⟨cur, hg, hb, hn, hm, hs, ht⟩
theorem row_of_cells {w : World} {lo g N c : Nat} {cur : Array Value} (h : w.heap[g]? = some (.cells cur 35 (0, 0))) (hl : lo ≤ g) (hN : N ≤ c) (hc : c ≤ maxLen) (hs : cur.size = c * 2) :
    w.ownsRow lo 35 2 (.slice (some ⟨g, 0, none⟩) N c) N (cur.toList.take (N * 2)) :=
  ⟨by rw [List.length_take, Array.length_toList, hs]; have := Nat.mul_le_mul_right 2 hN; omega, .inr ⟨g, c, cur, rfl, hl, h, hN, hc, hs, rfl⟩⟩
theorem CM.flat_set {w : World} {lo n : Nat} {x : CM w lo n} {u u' : Value} (hx : x.enc = [u, u']) : ∀ (ys : List (CM w lo n)) (k : Nat), (ys.set k x).flatMap CM.enc = ((ys.flatMap CM.enc).set (k * 2) u).set (k * 2 + 1) u'
  | [], k => by simp
  | y :: ys, 0 => by simp [CM.enc] at hx ⊢; exact hx
  | y :: ys, k + 1 => by
    rw [List.set_cons_succ, List.flatMap_cons, CM.flat_set hx ys k, List.flatMap_cons]
    have e1 : (k + 1) * 2 = k * 2 + 1 + 1 := by omega
    rw [e1, CM.enc]
    simp
section
variable {w0 w w' : World} {lo n g N c : Nat} {ys : List (CM w0 lo n)}
theorem RwC.len (h : RwC w0 lo n g N c ys w) : ys.length = N := by
  have h1 := h.row.1
  rw [CM.flat_len] at h1
  omega
theorem RwC.lt (h : RwC w0 lo n g N c ys w) : g < w.heap.size := (h.row.lt g rfl).2
theorem RwC.below (h : RwC w0 lo n g N c ys w) (hb : Below w.heap.size w w') : RwC w0 lo n g N c ys w' :=
  ⟨h.base, World.ownsRow.kept h.row (row := none) ⟨hb.os, hb.tape, hb.output, hb.size, fun k hk _ => hb.block k hk⟩ (by simp [Value.ownBlock]),
    grownBy_trans h.grown ⟨hb.os, hb.tape, hb.output, hb.size, fun k hk _ => hb.block k hk⟩⟩
theorem RwC.cap (h : RwC w0 lo n g N c ys w) : N ≤ c ∧ c ≤ maxLen := by
  obtain ⟨cur, _, _, h3, h4, _⟩ := row_cells h.row
  exact ⟨h3, h4⟩
theorem RwC.cell (h : RwC w0 lo n g N c ys w) {j : Nat} {x : CM w0 lo n} (hx : ys[j]? = some x) : ∃ A d A' d', x.enc = [.slice A n d, .slice A' n d'] ∧ w.cell? ⟨g, j * 2, none⟩ = some (.slice A n d) ∧ w.cell? ⟨g, j * 2 + 1, none⟩ = some (.slice A' n d') ∧
    Rd w A n x.mv.t ∧ Rd w A' n x.mv.f ∧ w.frozen? ⟨g, j * 2, none⟩ = false ∧ w.frozen? ⟨g, j * 2 + 1, none⟩ = false := by
  obtain ⟨vs0, hv0⟩ := h.base
  have ho := ownM_kept x.own hv0 h.grown
  obtain ⟨A, d, A', d', e1, e2, r1, r2⟩ := ho.form x.mv.ht x.mv.hf
  have ex : x.enc = [.slice A n d, .slice A' n d'] := by rw [CM.enc, e1, e2]
  have hm := CM.maps ys
  obtain ⟨cur, hh, _, _, _, _, ht⟩ := row_cells h.row
  have hat : ∀ (ys : List (CM w0 lo n)) (j : Nat), ys[j]? = some x → (ys.flatMap CM.enc)[j * 2]? = some (.slice A n d) ∧ (ys.flatMap CM.enc)[j * 2 + 1]? = some (.slice A' n d') := by
    intro ys
    induction ys with
    | nil => intro j hj; simp at hj
    | cons y ys ih =>
      intro j hj
      cases j with
      | zero =>
        simp only [List.getElem?_cons_zero, Option.some.injEq] at hj
        subst hj
        rw [List.flatMap_cons, ex]
        simp
      | succ j =>
        simp only [List.getElem?_cons_succ] at hj
        obtain ⟨i1, i2⟩ := ih j hj
        rw [List.flatMap_cons]
        have l2 := CM.enc_len y
        constructor
        · rw [List.getElem?_append_right (by omega), l2, show (j + 1) * 2 - 2 = j * 2 by omega]; exact i1
        · rw [List.getElem?_append_right (by omega), l2, show (j + 1) * 2 + 1 - 2 = j * 2 + 1 by omega]; exact i2
  obtain ⟨a1, a2⟩ := hat ys j hx
  have e0 : ∀ i, (⟨g, 0, none⟩ : Addr).add i = ⟨g, i, none⟩ := fun i => by unfold Addr.add; split <;> simp_all
  exact ⟨A, d, A', d', ex, by rw [← e0]; exact h.row.cells (g := g) rfl _ _ a1, by rw [← e0]; exact h.row.cells (g := g) rfl _ _ a2, r1, r2, frozen_of_row w g _ _ _ hh, frozen_of_row w g _ _ _ hh⟩
theorem RwC.start {v0 : World} {ms : List (MV n)} (h : RowD v0 lo (.slice (some ⟨g, 0, none⟩) N c) (ms.map MV.pr)) (hN : ms.length = N) :
    ∃ xs : List (CM v0 lo n), xs.map CM.mv = ms ∧ RwC v0 lo n g N c xs v0 ∧ Apt (xs.flatMap CM.enc) := by
  obtain ⟨vs, ho, hm, ha⟩ := h
  obtain ⟨xs, h1, h2⟩ := CM.of hm
  rw [List.length_map, hN] at ho
  exact ⟨xs, h2, ⟨⟨vs, ho⟩, by rw [h1]; exact ho, ⟨rfl, rfl, rfl, Nat.le_refl _, fun _ _ _ => rfl⟩⟩, by rw [h1]; exact ha⟩
theorem RwC.store (h : RwC w0 lo n g N c ys w) {k : Nat} (_hk : k < N) {x : CM w0 lo n} {u u' : Value} (hx : x.enc = [u, u']) :
    RwC w0 lo n g N c (ys.set k x) ((w.setCell ⟨g, k * 2, none⟩ u).setCell ⟨g, k * 2 + 1, none⟩ u') := by
  obtain ⟨cur, h1, h2, h3, h4, h5, h6⟩ := row_cells h.row
  have hr := row_of_cells (w := (w.setCell ⟨g, k * 2, none⟩ u).setCell ⟨g, k * 2 + 1, none⟩ u') (set_row2 (set_row2 h1)) h2 h3 h4 (by simpa using h5)
  refine ⟨h.base, ?_, grownBy_trans h.grown (grownBy_trans (grown_set _ _ _ _) (grown_set _ _ _ _))⟩
  rw [CM.flat_set hx, ← h6]
  have e : (((cur.setIfInBounds (k * 2) u).setIfInBounds (k * 2 + 1) u').toList.take (N * 2)) = ((cur.toList.take (N * 2)).set (k * 2) u).set (k * 2 + 1) u' := by
    rw [Array.toList_setIfInBounds, Array.toList_setIfInBounds, List.take_set, List.take_set]
  rw [e] at hr
  exact hr
theorem grown_sets (g : Nat) : ∀ (vs : List Value) (o : Nat) (w : World), w.grownBy (w.setCells g o vs) (some g)
  | [], _, w => ⟨rfl, rfl, rfl, Nat.le_refl _, fun _ _ _ => rfl⟩
  | v :: vs, o, w => by
    rw [World.setCells]
    exact grownBy_trans (grown_set _ _ _ _) (grown_sets g vs (o + 1) _)
theorem sets_row {g : Nat} {T : TypeId} : ∀ (vs : List Value) (o : Nat) {w : World} {cur : Array Value}, w.heap[g]? = some (.cells cur T (0, 0)) → ∃ cur', (w.setCells g o vs).heap[g]? = some (.cells cur' T (0, 0)) ∧ cur'.size = cur.size ∧ ∀ j, j < o → cur'[j]? = cur[j]?
  | [], _, w, cur, h => ⟨cur, h, rfl, fun _ _ => rfl⟩
  | v :: vs, o, w, cur, h => by
    rw [World.setCells]
    obtain ⟨cur', h1, h2, h3⟩ := sets_row vs (o + 1) (set_row2 (j := o) (u := v) h)
    refine ⟨cur', h1, by rw [h2]; simp, fun j hj => ?_⟩
    rw [h3 j (by omega), Array.getElem?_setIfInBounds_ne (by omega)]
/-- What is left of the row when it is cut behind k maps and the rest is cleared. -/
theorem RwC.cut (h : RwC w0 lo n g N c ys w) {k : Nat} (hk : k ≤ N) (vs : List Value) {A : List (CM w0 lo n)} (hA : ys.take k = A) (hap : Apt (A.flatMap CM.enc)) {ms : List (MV n)} (hms : A.map CM.mv = ms) :
    RowD (w.setCells g (k * 2) vs) lo (.slice (some ⟨g, 0, none⟩) k c) (ms.map MV.pr) ∧ w0.grownBy (w.setCells g (k * 2) vs) (some g) := by
  have hg2 := grownBy_trans h.grown (grown_sets g vs (k * 2) w)
  refine ⟨?_, hg2⟩
  obtain ⟨cur, h1, h2, h3, h4, h5, h6⟩ := row_cells h.row
  obtain ⟨cur', c1, c2, c3⟩ := sets_row vs (k * 2) h1
  have hr := row_of_cells (N := k) c1 h2 (by omega) h4 (by rw [c2, h5])
  have hfl : cur'.toList.take (k * 2) = A.flatMap CM.enc := by
    have e1 : cur'.toList.take (k * 2) = cur.toList.take (k * 2) := by
      apply List.ext_getElem?
      intro j
      rw [List.getElem?_take, List.getElem?_take]
      split
      · rw [Array.getElem?_toList, Array.getElem?_toList, c3 j (by omega)]
      · rfl
    have e2 : (ys.flatMap CM.enc).take (k * 2) = (ys.take k).flatMap CM.enc := by
      have : ∀ (ys : List (CM w0 lo n)) (k : Nat), (ys.flatMap CM.enc).take (k * 2) = (ys.take k).flatMap CM.enc := by
        intro ys
        induction ys with
        | nil => intro k; simp
        | cons y ys ih =>
          intro k
          cases k with
          | zero => simp
          | succ k =>
            rw [List.flatMap_cons, List.take_succ_cons, List.flatMap_cons, ← ih k, CM.enc]
            rw [show (k + 1) * 2 = k * 2 + 1 + 1 by omega]
            simp
      exact this ys k
    rw [e1, ← hA, ← e2, ← h6, List.take_take, Nat.min_eq_left (by omega)]
  rw [hfl] at hr
  obtain ⟨vs0, hv0⟩ := h.base
  have hl : ms.length = k := by rw [← hms, ← hA, List.length_map, List.length_take, h.len]; omega
  refine ⟨_, by rw [List.length_map, hl]; exact hr, ?_, hap⟩
  have hm := (CM.maps A).kept (v := .slice (some ⟨g, 0, none⟩) N c) hv0 hg2
  rw [← hms, List.map_map]
  exact hm
/-- The row as it is, no cell cleared. -/
theorem RwC.done (h : RwC w0 lo n g N c ys w) (hap : Apt (ys.flatMap CM.enc)) {ms : List (MV n)} (hms : ys.map CM.mv = ms) : RowD w lo (.slice (some ⟨g, 0, none⟩) N c) (ms.map MV.pr) := by
  obtain ⟨vs0, hv0⟩ := h.base
  have hl : ms.length = N := by rw [← hms, List.length_map, h.len]
  refine ⟨_, by rw [List.length_map, hl]; exact h.row, ?_, hap⟩
  have hm := (CM.maps ys).kept (v := .slice (some ⟨g, 0, none⟩) N c) hv0 h.grown
  rw [← hms, List.map_map]
  exact hm
end

/-- 'clear(s)', s a slice of maps. -/
theorem run_clear_maps (w : World) (ty : TypeId) (b o m c : Nat) (hm : 0 < m) (hc : ∀ j, j < m * 2 → (w.cell? ⟨b, o + j, none⟩).isSome = true) (hf : ∀ j, j < m * 2 → w.frozen? ⟨b, o + j, none⟩ = false) :
    (Builtin.clear_ #[24] ty #[.slice (some ⟨b, o, none⟩) m c]).run Try.prog w = .ok (.tuple #[]) (w.setCells b o (List.replicate (m * 2) (.slice none 0 0))) := by
  have hzc : (Builtin.zeroCells (Value.cells (.agg #[.slice none 0 0, .slice none 0 0])) m).toList = List.replicate (m * 2) (.slice none 0 0) := by
    apply List.ext_getElem
    · simp [Builtin.zeroCells, Value.cells]
    · intro i h1 h2
      simp [Builtin.zeroCells, Value.cells]
      rcases Nat.mod_two_eq_zero_or_one i with h | h <;> rw [h] <;> rfl
  have hst := run_storeCells_cells (P := Try.prog) b o (List.replicate (m * 2) (.slice none 0 0)) 0 w (by simpa using hc) (by simpa using hf) (by intro v hv'; rw [List.eq_of_mem_replicate hv']; rfl)
  simp only [Nat.add_zero] at hst
  obtain ⟨q, rfl⟩ : ∃ q, m = q + 1 := ⟨m - 1, by omega⟩
  simp [Builtin.clear_, run_underlying Try.underlying24, hzc, hst]

end Go.Proofs.Ytakckkmhhedfpaa

namespace Go.Proofs.Ytakckkmhhedfpaa
open Go.RowKit

theorem set_mid {α : Type} : ∀ (A : List α) (b x : α) (r : List α), (A ++ b :: r).set A.length x = (A ++ [x]) ++ r
  | [], _, _, _ => rfl
  | a :: A, b, x, r => by simp [set_mid A b x r]
theorem getElem?_past {α : Type} {A xs : List α} {kk j : Nat} (hA : A.length = kk) (h : kk ≤ j) : (A ++ xs.drop kk)[j]? = xs[j]? := by
  rw [List.getElem?_append_right (by omega), List.getElem?_drop, hA, show kk + (j - kk) = j by omega]

set_option maxRecDepth 20000 in
set_option maxHeartbeats 6400000 in
theorem compact_any {n : Nat} (hn : n ≤ 12) (ms : List (MV n)) (g N c lo : Nat) (w : World) (h : RowD w lo (.slice (some ⟨g, 0, none⟩) N c) (ms.map MV.pr)) (hN : ms.length = N) (hm : N ≤ 1048576) :
    Calls Try.prog 100 #[.slice (some ⟨g, 0, none⟩) N c, .func (.func 101) #[] #[]] w fun e w' => ∃ k, e = .returned (.slice (some ⟨g, 0, none⟩) k c) ∧ k = (compM ms).length ∧
      RowD w' lo (.slice (some ⟨g, 0, none⟩) k c) ((compM ms).map MV.pr) ∧ w.grownBy w' (some g) := by
  obtain ⟨xs, hxm, hat, hapt⟩ := RwC.start h hN
  have hxl := hat.len
  have hcap := hat.cap
  have HMX : Hid (∀ (j : Nat) (x : CM w lo n), xs[j]? = some x → ms[j]? = some x.mv) := fun j x hx => by rw [← hxm, List.getElem?_map, hx]; rfl
  have HXM := Lib.hid hxm; have HAT := Lib.hid hat; have HAP := Lib.hid hapt; have HNN := Lib.hid hN; have H0 := Lib.hid h; have HXL := Lib.hid hxl
  have HGR : Hid (w.grownBy w (some g)) := ⟨rfl, rfl, rfl, Nat.le_refl _, fun _ _ _ => rfl⟩
  have hc1 := hcap.1
  clear h hN hxm hat hapt hxl hcap
  go_enter Try.func100, Try.ntmps100
  by_cases h2 : N < 2
  · have hd : decide (N < 2) = true := by simpa using h2
    have HID : Hid (compM ms = ms) := compM_id fun i hi => by have := HNN.out; omega
    go_wp2_with fail
    go_ret
    exact ⟨N, rfl, by rw [HID.out, HNN.out], by rw [HID.out]; exact H0.out, HGR.out⟩
  · have hd : decide (N < 2) = false := by simpa using h2
    go_wp2_with fail
    go_loopw [5] (fun kv wz => ∃ k : Nat, kv = .int .i64 k ∧ 1 ≤ k ∧ k ≤ N ∧ Hid (RwC w lo n g N c xs wz) ∧ Hid (∀ i a b, ms[i]? = some a → ms[i + 1]? = some b → i + 1 < k → ¬ a.cmp b = 0)) (fun kv _ => N - (intOf kv).toNat)
    case atStart => exact ⟨1, rfl, Nat.le_refl _, by omega, HAT, fun i a b _ _ hi => absurd hi (by omega)⟩
    case round =>
      obtain ⟨k, rfl, hk1, hkN, hat, hall⟩ := hrel
      by_cases hlt : k < N
      · obtain ⟨k1, hk⟩ : ∃ k1, k = k1 + 1 := ⟨k - 1, by omega⟩
        have HK := Lib.hid hk
        have hwk : IntKind.i64.wrap ((k : Int) - 1) = (k1 : Int) := by rw [IntWalk.i64_in _ (by omega)]; omega
        obtain ⟨x, hx⟩ : ∃ x, xs[k]? = some x := ⟨_, List.getElem?_eq_getElem (by have := HXL.out; omega)⟩
        obtain ⟨y, hy⟩ : ∃ y, xs[k1]? = some y := ⟨_, List.getElem?_eq_getElem (by have := HXL.out; omega)⟩
        have hglt := hat.out.lt
        obtain ⟨A, d, A', d', ex, q1, q2, r1, r2, -, -⟩ := hat.out.cell hx
        obtain ⟨B, e, B', e', ey, q3, q4, r3, r4, -, -⟩ := hat.out.cell hy
        have p1 : ∀ p : Above wr, p.to.cell? ⟨g, k * 2, none⟩ = some (.slice A n d) := fun p => (p.b.cell (p := ⟨g, k * 2, none⟩) hglt).trans q1
        have p2 : ∀ p : Above wr, p.to.cell? ⟨g, k * 2 + 1, none⟩ = some (.slice A' n d') := fun p => (p.b.cell (p := ⟨g, k * 2 + 1, none⟩) hglt).trans q2
        have p3 : ∀ p : Above wr, p.to.cell? ⟨g, k1 * 2, none⟩ = some (.slice B n e) := fun p => (p.b.cell (p := ⟨g, k1 * 2, none⟩) hglt).trans q3
        have p4 : ∀ p : Above wr, p.to.cell? ⟨g, k1 * 2 + 1, none⟩ = some (.slice B' n e') := fun p => (p.b.cell (p := ⟨g, k1 * 2 + 1, none⟩) hglt).trans q4
        have HR1 : Hid (∀ p : Above wr, Rd p.to A n x.mv.t) := fun p => r1.below p.b
        have HR2 : Hid (∀ p : Above wr, Rd p.to A' n x.mv.f) := fun p => r2.below p.b
        have HR3 : Hid (∀ p : Above wr, Rd p.to B n y.mv.t) := fun p => r3.below p.b
        have HR4 : Hid (∀ p : Above wr, Rd p.to B' n y.mv.f) := fun p => r4.below p.b
        obtain ⟨r, hr⟩ : ∃ r, cmpM x.mv.t x.mv.f y.mv.t y.mv.f = r := ⟨_, rfl⟩
        have HR := Lib.hid hr; have HX := Lib.hid hx; have HY := Lib.hid hy; have HEX := Lib.hid ex
        have hki : (k : Int) < (N : Int) := by omega
        have hki1 : (k1 : Int) < (N : Int) := by omega
        have HKN : Hid (k1 < N) := by rw [Hid]; omega
        clear hr q1 q2 q3 q4 r1 r2 r3 r4 hx hy ex ey hk
        by_cases h0 : r = 0
        · have HV : Hid ((r == 0) = true) := by rw [Hid]; simpa using h0
          have HRZ := Lib.hid h0; clear h0
          go_wp2_with fail
          (refine wp_region_quiet_above (by kernel_rfl) (by kernel_rfl) ?_; (repeat (quiet_step (first | (go_at_call 101; refine Above.calls (forms2_any _ A A' B B' n d d' e e' _ _ _ _ (HR1.out _) (HR2.out _) (HR3.out _) (HR4.out _) hn HR.out HV.out))))); refine wpQuiet_nil ?_; intro _ hw'; obtain ⟨pq, hw''⟩ := hw'; subst hw'')
          have HAT1 : Hid (RwC w lo n g N c xs pq.to) := hat.out.below pq.b
          have HLEN : Hid (compM (ms.take (k + 1)) = ms.take k) := by
            have hmk := HMX.out _ _ HX.out
            have hmy := HMX.out _ _ HY.out
            have hkk := HK.out
            have e1 : ms.take (k + 1) = ms.take k ++ [x.mv] := by rw [List.take_add_one, hmk]; rfl
            have hl : (ms.take k).getLast? = some y.mv := by
              rw [List.getLast?_eq_getElem?, List.length_take, HNN.out, Nat.min_eq_left (by omega), List.getElem?_take, if_pos (by omega), hkk, Nat.add_sub_cancel]; exact hmy
            have hyx : y.mv.cmp x.mv = 0 := by rw [MV.cmp_swap, MV.cmp, HR.out, HRZ.out]; rfl
            rw [Hid, e1, compM_snoc hl, if_pos hyx]
            refine compM_id fun i hi => ?_
            rw [List.length_take, HNN.out] at hi
            rw [List.getElem_take, List.getElem_take]
            exact hall.out i _ _ (List.getElem?_eq_getElem _) (List.getElem?_eq_getElem _) (by omega)
          clear p1 p2 p3 p4 HR1 HR2 HR3 HR4
          generalize pq.to = W1 at *
          have hkc : k ≤ c := by omega
          have hkc2 : (k : Int) ≤ (c : Int) := by omega
          have hkN2 : (k : Int) ≤ (N : Int) := by omega
          go_wp2_with fail
          go_loopw [5, 7] (fun kv jv wz => ∃ (kk k2 : Nat) (Z : List (CM w lo n)), kv = .int .i64 kk ∧ jv = .int .i64 k2 ∧ 1 ≤ k2 ∧ k + k2 ≤ N ∧ kk + 1 ≤ k + k2 ∧ k ≤ kk ∧ Hid (Z.length = kk) ∧ Hid (Z.map CM.mv = compM (ms.take (k + k2))) ∧ Hid (Z.Sublist (xs.take (k + k2))) ∧ Hid (RwC w lo n g N c (Z ++ xs.drop kk) wz)) (fun _ jv _ => N - (intOf jv).toNat)
          case atStart =>
            refine ⟨k, 1, xs.take k, rfl, rfl, Nat.le_refl _, by omega, by omega, Nat.le_refl _, by rw [Hid, List.length_take, HXL.out]; omega, by rw [Hid, HLEN.out, List.map_take, HXM.out], ?_, by rw [Hid, List.take_append_drop]; exact HAT1.out⟩
            rw [Hid, List.take_add_one]; exact List.sublist_append_left _ _
          case round =>
            obtain ⟨kk, k2, Z, rfl, rfl, hk21, hk2N, hkk, hkkk, hZl, hZm, hZs, hat2⟩ := hrel
            by_cases hlt2 : k + k2 < N
            · obtain ⟨k3, hk3⟩ : ∃ k3, k2 = k3 + 1 := ⟨k2 - 1, by omega⟩
              have HK3 := Lib.hid hk3
              have hwk2 : IntKind.i64.wrap ((k2 : Int) - 1) = (k3 : Int) := by rw [IntWalk.i64_in _ (by omega)]; omega
              obtain ⟨x2, hx2⟩ : ∃ x, xs[k + k2]? = some x := ⟨_, List.getElem?_eq_getElem (by have := HXL.out; omega)⟩
              obtain ⟨y2, hy2⟩ : ∃ y, xs[k + k3]? = some y := ⟨_, List.getElem?_eq_getElem (by have := HXL.out; omega)⟩
              have hglt2 := hat2.out.lt
              obtain ⟨A2, d2, A2', d2', ex2, q1, q2, r1, r2, -, -⟩ := hat2.out.cell ((getElem?_past hZl.out (by omega)).trans hx2)
              obtain ⟨B2, e2, B2', e2', ey2, q3, q4, r3, r4, -, -⟩ := hat2.out.cell ((getElem?_past hZl.out (by omega)).trans hy2)
              rw [Nat.add_mul] at q1 q2 q3 q4
              have p1 : ∀ p : Above wr, p.to.cell? ⟨g, k * 2 + k2 * 2, none⟩ = some (.slice A2 n d2) := fun p => (p.b.cell (p := ⟨g, k * 2 + k2 * 2, none⟩) hglt2).trans q1
              have p2 : ∀ p : Above wr, p.to.cell? ⟨g, k * 2 + k2 * 2 + 1, none⟩ = some (.slice A2' n d2') := fun p => (p.b.cell (p := ⟨g, k * 2 + k2 * 2 + 1, none⟩) hglt2).trans q2
              have p3 : ∀ p : Above wr, p.to.cell? ⟨g, k * 2 + k3 * 2, none⟩ = some (.slice B2 n e2) := fun p => (p.b.cell (p := ⟨g, k * 2 + k3 * 2, none⟩) hglt2).trans q3
              have p4 : ∀ p : Above wr, p.to.cell? ⟨g, k * 2 + k3 * 2 + 1, none⟩ = some (.slice B2' n e2') := fun p => (p.b.cell (p := ⟨g, k * 2 + k3 * 2 + 1, none⟩) hglt2).trans q4
              have HR1 : Hid (∀ p : Above wr, Rd p.to A2 n x2.mv.t) := fun p => r1.below p.b
              have HR2 : Hid (∀ p : Above wr, Rd p.to A2' n x2.mv.f) := fun p => r2.below p.b
              have HR3 : Hid (∀ p : Above wr, Rd p.to B2 n y2.mv.t) := fun p => r3.below p.b
              have HR4 : Hid (∀ p : Above wr, Rd p.to B2' n y2.mv.f) := fun p => r4.below p.b
              obtain ⟨rr, hr⟩ : ∃ r, cmpM x2.mv.t x2.mv.f y2.mv.t y2.mv.f = r := ⟨_, rfl⟩
              have HR5 := Lib.hid hr; have HX2 := Lib.hid hx2; have HY2 := Lib.hid hy2; have HEX2 := Lib.hid ex2
              have hd2 : decide ((k2 : Int) < ((N - k : Nat) : Int)) = true := by simp; omega
              have hi2 : (k2 : Int) < ((N - k : Nat) : Int) := by omega
              have hi3 : (k3 : Int) < ((N - k : Nat) : Int) := by omega
              have HTK : Hid (ms.take (k + k2 + 1) = ms.take (k + k2) ++ [x2.mv] ∧ (ms.take (k + k2)).getLast? = some y2.mv) := by
                have hmk := HMX.out _ _ HX2.out
                have hmy := HMX.out _ _ HY2.out
                have hkk3 := HK3.out
                refine ⟨by rw [List.take_add_one, hmk]; rfl, ?_⟩
                rw [List.getLast?_eq_getElem?, List.length_take, HNN.out, Nat.min_eq_left (by omega), List.getElem?_take, if_pos (by omega), show k + k2 - 1 = k + k3 by omega]; exact hmy
              have HXK : Hid (xs.take (k + k2 + 1) = xs.take (k + k2) ++ [x2]) := by rw [Hid, List.take_add_one, HX2.out]; rfl
              clear hr q1 q2 q3 q4 r1 r2 r3 r4 hx2 hy2 ex2 ey2 hk3
              by_cases h02 : rr = 0
              · have HV2 : Hid ((rr == 0) = true) := by rw [Hid]; simpa using h02
                have HRZ2 := Lib.hid h02; clear h02
                go_wp2_with fail
                (refine wp_region_quiet_above (by kernel_rfl) (by kernel_rfl) ?_; (repeat (quiet_step (first | (go_at_call 101; refine Above.calls (forms2_any _ A2 A2' B2 B2' n d2 d2' e2 e2' _ _ _ _ (HR1.out _) (HR2.out _) (HR3.out _) (HR4.out _) hn HR5.out HV2.out))))); refine wpQuiet_nil ?_; intro _ hw'; obtain ⟨pq2, hw''⟩ := hw'; subst hw'')
                have HAT2 : Hid (RwC w lo n g N c (Z ++ xs.drop kk) pq2.to) := hat2.out.below pq2.b
                have HZM : Hid (Z.map CM.mv = compM (ms.take (k + (k2 + 1)))) := by
                  have hyx : y2.mv.cmp x2.mv = 0 := by rw [MV.cmp_swap, MV.cmp, HR5.out, HRZ2.out]; rfl
                  rw [Hid, ← Nat.add_assoc, HTK.out.1, compM_snoc HTK.out.2, if_pos hyx]; exact hZm.out
                have HZS : Hid (Z.Sublist (xs.take (k + (k2 + 1)))) := by
                  rw [Hid, ← Nat.add_assoc, HXK.out]; exact hZs.out.trans (List.sublist_append_left _ _)
                clear p1 p2 p3 p4 HR1 HR2 HR3 HR4
                go_wp2_with fail
                go_roundw
                case rel => exact ⟨kk, k2 + 1, Z, rfl, by go_num, by omega, by omega, by omega, by omega, hZl, HZM, HZS, HAT2⟩
                case measure => simp [intOf]; omega
              · have HV2 : Hid ((rr == 0) = false) := by rw [Hid]; simpa using h02
                have HRZ2 := Lib.hid h02; clear h02
                go_wp2_with fail
                (refine wp_region_quiet_above (by kernel_rfl) (by kernel_rfl) ?_; (repeat (quiet_step (first | (go_at_call 101; refine Above.calls (forms2_any _ A2 A2' B2 B2' n d2 d2' e2 e2' _ _ _ _ (HR1.out _) (HR2.out _) (HR3.out _) (HR4.out _) hn HR5.out HV2.out))))); refine wpQuiet_nil ?_; intro _ hw'; obtain ⟨pq2, hw''⟩ := hw'; subst hw'')
                have HAT2 : Hid (RwC w lo n g N c (Z ++ xs.drop kk) pq2.to) := hat2.out.below pq2.b
                have HZM : Hid ((Z ++ [x2]).map CM.mv = compM (ms.take (k + (k2 + 1)))) := by
                  have hyx : ¬ y2.mv.cmp x2.mv = 0 := by
                    intro e
                    rw [MV.cmp_swap, MV.cmp, HR5.out] at e
                    exact HRZ2.out (by omega)
                  rw [Hid, ← Nat.add_assoc, HTK.out.1, compM_snoc HTK.out.2, if_neg hyx, List.map_append, hZm.out]; rfl
                have HZS : Hid ((Z ++ [x2]).Sublist (xs.take (k + (k2 + 1)))) := by
                  rw [Hid, ← Nat.add_assoc, HXK.out]; exact List.Sublist.append hZs.out (List.Sublist.refl _)
                clear p1 p2 p3 p4 HR1 HR2 HR3 HR4
                generalize pq2.to = W2 at *
                obtain ⟨C2, f2, C2', f2', ex3, q1, q2, -, -, -, -⟩ := HAT2.out.cell ((getElem?_past hZl.out (by omega)).trans HX2.out)
                rw [HEX2.out] at ex3
                injection ex3 with ex31 ex32
                injection ex32 with ex32 _
                injection ex31 with ex311 _ ex313
                injection ex32 with ex321 _ ex323
                subst ex311; subst ex313; subst ex321; subst ex323
                rw [Nat.add_mul] at q1 q2
                obtain ⟨z, hz⟩ : ∃ z, xs[kk]? = some z := ⟨_, List.getElem?_eq_getElem (by have := HXL.out; omega)⟩
                obtain ⟨D, h, D', h', ez, q3, q4, -, -, f3, f4⟩ := HAT2.out.cell ((getElem?_past hZl.out (by omega)).trans hz)
                have hkkN : (kk : Int) < (N : Int) := by omega
                have HST : Hid (RwC w lo n g N c ((Z ++ [x2]) ++ xs.drop (kk + 1)) ((W2.setCell ⟨g, kk * 2, none⟩ (.slice A2 n d2)).setCell ⟨g, kk * 2 + 1, none⟩ (.slice A2' n d2'))) := by
                  have h1 := HAT2.out.store (k := kk) (by omega) HEX2.out
                  have e1 : xs.drop kk = z :: xs.drop (kk + 1) := by
                    have hl : kk < xs.length := by have := HXL.out; omega
                    rw [List.drop_eq_getElem_cons hl]
                    rw [List.getElem?_eq_getElem hl] at hz
                    injection hz with hz
                    rw [hz]
                  rw [e1] at h1
                  have e2 := set_mid Z z x2 (xs.drop (kk + 1))
                  rw [hZl.out] at e2
                  rw [e2] at h1
                  exact h1
                clear hz ez
                go_wp2_with fail
                go_roundw
                case rel => exact ⟨kk + 1, k2 + 1, Z ++ [x2], by go_num, by go_num, by omega, by omega, by omega, by omega, by rw [Hid, List.length_append, hZl.out]; rfl, HZM, HZS, HST⟩
                case measure => simp [intOf]; omega
            · have hd2 : decide ((k2 : Int) < ((N - k : Nat) : Int)) = false := by simp; omega
              have hkk2 : k + k2 = N := by omega
              have HZM : Hid (Z.map CM.mv = compM ms) := by rw [Hid, hZm.out, hkk2, List.take_of_length_le (by rw [HNN.out]; exact Nat.le_refl _)]
              have HZS : Hid (Z.Sublist xs) := hZs.out.trans (List.take_sublist _ _)
              have hkkc : kk ≤ c := by omega
              have hkkc2 : (kk : Int) ≤ (c : Int) := by omega
              have hkkN2 : (kk : Int) ≤ (N : Int) := by omega
              have HZL : Hid ((compM ms).length = kk) := by rw [Hid, ← HZM.out, List.length_map]; exact hZl.out
              have hclr := run_clear_maps wr
              have HCUT : Hid (RowD (wr.setCells g (kk * 2) (List.replicate ((N - kk) * 2) (.slice none 0 0))) lo (.slice (some ⟨g, 0, none⟩) kk c) ((compM ms).map MV.pr) ∧ w.grownBy (wr.setCells g (kk * 2) (List.replicate ((N - kk) * 2) (.slice none 0 0))) (some g)) :=
                hat2.out.cut (by omega) _ (A := Z) (by rw [← hZl.out, List.take_left']; rfl) (HAP.out.sub (flat_sub _ HZS.out)) HZM.out
              have hclr2 : ∀ ty, (Builtin.clear_ #[24] ty #[.slice (some ⟨g, kk * 2, none⟩) (N - kk) (c - kk)]).run Try.prog wr = .ok (.tuple #[]) (wr.setCells g (kk * 2) (List.replicate ((N - kk) * 2) (.slice none 0 0))) := by
                intro ty
                obtain ⟨cur, c1, c2, c3, c4, c5, c6⟩ := row_cells hat2.out.row
                refine run_clear_maps wr ty g (kk * 2) (N - kk) (c - kk) (by omega) (fun j hj => ?_) (fun j hj => frozen_of_row wr g _ _ _ c1)
                rw [cell_of_row wr g _ _ _ (0, 0) c1, Array.getElem?_eq_getElem (by rw [c5]; omega)]; rfl
              clear hclr
              go_wp2_with fail
              go_ret
              exact ⟨kk, rfl, HZL.out.symm, HCUT.out.1, HCUT.out.2⟩
        · have HV : Hid ((r == 0) = false) := by rw [Hid]; simpa using h0
          have HRZ := Lib.hid h0; clear h0
          go_wp2_with fail
          (refine wp_region_quiet_above (by kernel_rfl) (by kernel_rfl) ?_; (repeat (quiet_step (first | (go_at_call 101; refine Above.calls (forms2_any _ A A' B B' n d d' e e' _ _ _ _ (HR1.out _) (HR2.out _) (HR3.out _) (HR4.out _) hn HR.out HV.out))))); refine wpQuiet_nil ?_; intro _ hw'; obtain ⟨pq, hw''⟩ := hw'; subst hw'')
          have HAT1 : Hid (RwC w lo n g N c xs pq.to) := hat.out.below pq.b
          have HALL : Hid (∀ i a b, ms[i]? = some a → ms[i + 1]? = some b → i + 1 < k + 1 → ¬ a.cmp b = 0) := by
            intro i a b ha hb hi hc
            by_cases hik : i + 1 < k
            · exact hall.out i a b ha hb hik hc
            · have hkk := HK.out
              obtain rfl : i = k1 := by omega
              rw [HMX.out _ _ HY.out] at ha
              rw [← hkk, HMX.out _ _ HX.out] at hb
              injection ha with ha; injection hb with hb
              subst ha; subst hb
              rw [MV.cmp_swap, MV.cmp, HR.out] at hc
              exact HRZ.out (by omega)
          clear p1 p2 p3 p4 HR1 HR2 HR3 HR4
          go_wp2_with fail
          go_roundw
          case rel => exact ⟨k + 1, by go_num, by omega, by omega, HAT1, HALL⟩
          case measure => simp [intOf]; omega
      · obtain rfl : k = N := by omega
        have HID : Hid (compM ms = ms) := compM_id fun i hi => by
          have := HNN.out
          exact hall.out i _ _ (List.getElem?_eq_getElem _) (List.getElem?_eq_getElem _) (by omega)
        go_wp2_with fail
        go_ret
        exact ⟨_, rfl, by rw [HID.out, HNN.out], by rw [HID.out]; exact hat.out.done HAP.out HXM.out, hat.out.grown⟩

end Go.Proofs.Ytakckkmhhedfpaa

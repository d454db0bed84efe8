/-
  Words renamed and joined: the model's.
-/
import Derived.Test.YtfdliekhlcbkcaaDoorWrdR
import Derived.Test.YtfdliekhlcbkcaaDoorKit
import Derived.Deep.RegionWith
import Derived.Deep.RegionHeld3
import Derived.Deep.DeepCutAuto
namespace Go.Proofs.YtfdliekhlcbkcaaDoor
open Go.RowKit

/-- The five names and sizes behind i sides. -/
structure NmI (l : List UInt8) (k i : Nat) (nm : List Int) (sz : List Bool) : Prop where
  nl : nm.length = 5
  sl : sz.length = 5
  new : ∀ x : Nat, x < 5 → (∀ j, j < i → ltr (gb l j) ≠ (x : Int)) → gi nm x = -1
  old : ∀ x : Nat, x < 5 → ∀ j, j < i → ltr (gb l j) = (x : Int) → gi nm x = ((k + rk l (fst l j) : Nat) : Int) ∧ sz.getD x false = sml (gb l (fst l j))
theorem below_undrew1 {B : Nat} {w w' : World} (h : Below B w.drew w') : Below B w w' := ⟨h.os, h.tape, h.output, h.size, h.block⟩
theorem NmI.start (l : List UInt8) (k : Nat) : NmI l k 0 [-1, -1, -1, -1, -1] [false, false, false, false, false] :=
  ⟨rfl, rfl, fun x hx _ => by
    match x, hx with
    | 0, _ => rfl
    | 1, _ => rfl
    | 2, _ => rfl
    | 3, _ => rfl
    | 4, _ => rfl, fun _ _ j hj => absurd hj (by omega)⟩
theorem getD_set (sz : List Bool) (k : Nat) (u : Bool) (j : Nat) (hk : k < sz.length) : (sz.set k u).getD j false = if j = k then u else sz.getD j false := by
  simp only [List.getD, List.getElem?_set]
  by_cases e : k = j
  · subst e; simp [hk]
  · rw [if_neg e, if_neg (fun h => e h.symm)]
/-- A letter that is met first. -/
theorem NmI.first {l : List UInt8} {k i x : Nat} {nm : List Int} {sz : List Bool} (h : NmI l k i nm sz) (hw : Word l) (hi : i < l.length) (hx : ltr (gb l i) = (x : Int)) (hf : i < par l i) :
    gi nm x = -1 ∧ NmI l k (i + 1) (nm.set x ((k + rk l i : Nat) : Int)) (sz.set x (sml (gb l i))) := by
  have hx5 : x < 5 := by have := (ltr_range (gb l i)).2; omega
  have hp := hw.isPar hi
  have hno : ∀ j, j < i → ltr (gb l j) ≠ (x : Int) := fun j hj e => by
    rcases hp.all j (by omega) (e.trans hx.symm) with e' | e' <;> omega
  refine ⟨h.new x hx5 hno, by rw [List.length_set]; exact h.nl, by rw [List.length_set]; exact h.sl, fun y hy hn => ?_, fun y hy j hj e => ?_⟩
  · rw [gi_set _ _ _ _ (by rw [h.nl]; exact hx5), if_neg (fun e => hn i (by omega) (by rw [hx, e]))]
    exact h.new y hy fun j hj => hn j (by omega)
  · rw [gi_set _ _ _ _ (by rw [h.nl]; exact hx5), getD_set _ _ _ _ (by rw [h.sl]; exact hx5)]
    by_cases ey : y = x
    · subst ey
      rw [if_pos rfl, if_pos rfl]
      by_cases ej : j = i
      · subst ej
        rw [show fst l j = j from Nat.min_eq_left (by omega)]
        exact ⟨rfl, rfl⟩
      · exact absurd e (hno j (by omega))
    · rw [if_neg ey, if_neg ey]
      refine h.old y hy j ?_ e
      rcases Nat.lt_or_ge j i with h' | h'
      · exact h'
      · obtain rfl : j = i := by omega
        rw [hx] at e; omega
/-- A letter that has been there. -/
theorem NmI.again {l : List UInt8} {k i x : Nat} {nm : List Int} {sz : List Bool} (h : NmI l k i nm sz) (hw : Word l) (hi : i < l.length) (hx : ltr (gb l i) = (x : Int)) (hf : ¬ i < par l i) :
    gi nm x = ((k + rk l (fst l i) : Nat) : Int) ∧ sz.getD x false = sml (gb l (fst l i)) ∧ NmI l k (i + 1) nm sz := by
  have hx5 : x < 5 := by have := (ltr_range (gb l i)).2; omega
  have hp := hw.isPar hi
  have hlt : par l i < i := by have := hp.ne; omega
  have e1 : fst l i = par l i := Nat.min_eq_right (by omega)
  have e2 : fst l (par l i) = par l i := by unfold fst; rw [hw.par2 hi]; exact Nat.min_eq_left (by omega)
  have ho := h.old x hx5 (par l i) hlt (hp.eq.trans hx)
  rw [e2] at ho
  rw [e1]
  refine ⟨ho.1, ho.2, h.nl, h.sl, fun y hy hn => h.new y hy fun j hj => hn j (by omega), fun y hy j hj e => ?_⟩
  by_cases ej : j = i
  · subst ej
    rw [hx] at e
    obtain rfl : x = y := by omega
    rw [e1]
    exact ho
  · exact h.old y hy j (by omega) e

def bools (bs : List Bool) : List Value := bs.map Value.bool
theorem bools_get {bs : List Bool} {j : Nat} (h : j < bs.length) : (bools bs)[j]? = some (.bool (bs.getD j false)) := by simp [bools, List.getD, h]
theorem bools_set (bs : List Bool) (k : Nat) (u : Bool) : (bools bs).set k (.bool u) = bools (bs.set k u) := by simp [bools, List.map_set]
/-- A row of five bools of one's own. -/
def OwnS (w : World) (lo g : Nat) (bs : List Bool) : Prop := bs.length = 5 ∧ w.ownsRow lo 4 1 (.slice (some ⟨g, 0, none⟩) 5 5) 5 (bools bs)
theorem OwnS.cell {w : World} {lo g k : Nat} {bs : List Bool} (h : OwnS w lo g bs) (hk : k < 5) : w.cell? ⟨g, k, none⟩ = some (.bool (bs.getD k false)) ∧ w.frozen? ⟨g, k, none⟩ = false :=
  ⟨(World.ownsRow.cellAt h.2 k (by omega)).trans (bools_get (by rw [h.1]; exact hk)), World.ownsRow.frozenAt h.2 k⟩
theorem OwnS.stored {w : World} {lo g : Nat} {bs : List Bool} (h : OwnS w lo g bs) (k : Nat) (u : Bool) :
    OwnS (w.setCell ⟨g, k, none⟩ (.bool u)) lo g (bs.set k u) ∧ w.grownBy (w.setCell ⟨g, k, none⟩ (.bool u)) (some g) := by
  have := World.ownsRow.stored h.2 k (.bool u)
  rw [bools_set] at this
  exact ⟨⟨by rw [List.length_set]; exact h.1, this.1⟩, this.2⟩
theorem OwnS.below {w w' : World} {lo g : Nat} {bs : List Bool} (h : OwnS w lo g bs) (hb : Below w.heap.size w w') : OwnS w' lo g bs :=
  ⟨h.1, World.ownsRow.kept h.2 (row := none) ⟨hb.os, hb.tape, hb.output, hb.size, fun k hk _ => hb.block k hk⟩ (.inr (by simp [Value.ownBlock]))⟩
theorem OwnS.grown {w w' : World} {lo g g' : Nat} {bs : List Bool} (h : OwnS w lo g bs) (hg : w.grownBy w' (some g')) (hne : g ≠ g') : OwnS w' lo g bs :=
  ⟨h.1, World.ownsRow.kept h.2 hg (.inr (by simp [Value.ownBlock, hne]))⟩
theorem rows_lit (w : World) : Own ((w.alloc (.cells #[.int .i64 (-1), .int .i64 (-1), .int .i64 (-1), .int .i64 (-1), .int .i64 (-1)] 3)).alloc (.cells #[.bool false, .bool false, .bool false, .bool false, .bool false] 4)) w.heap.size (.slice (some ⟨w.heap.size, 0, none⟩) 5 5) [-1, -1, -1, -1, -1] ∧
    OwnS ((w.alloc (.cells #[.int .i64 (-1), .int .i64 (-1), .int .i64 (-1), .int .i64 (-1), .int .i64 (-1)] 3)).alloc (.cells #[.bool false, .bool false, .bool false, .bool false, .bool false] 4)) w.heap.size (w.heap.size + 1) [false, false, false, false, false] := by
  constructor
  · have h : Own (w.alloc (.cells #[.int .i64 (-1), .int .i64 (-1), .int .i64 (-1), .int .i64 (-1), .int .i64 (-1)] 3)) w.heap.size (.slice (some ⟨w.heap.size, 0, none⟩) 5 5) [-1, -1, -1, -1, -1] :=
      World.ownsRow_lit w #[.int .i64 (-1), .int .i64 (-1), .int .i64 (-1), .int .i64 (-1), .int .i64 (-1)] 5 (Nat.le_refl _) (by unfold maxLen; omega) rfl
    exact h.below ((Below.refl _ _).alloc (Nat.le_refl _) _)
  · refine ⟨rfl, ?_⟩
    have := World.ownsRow_lit (w.alloc (.cells #[.int .i64 (-1), .int .i64 (-1), .int .i64 (-1), .int .i64 (-1), .int .i64 (-1)] 3)) (base := w.heap.size) (e := 4) (size := 1) #[.bool false, .bool false, .bool false, .bool false, .bool false] 5 (by rw [World.size_alloc]; omega) (by unfold maxLen; omega) rfl
    rw [World.size_alloc] at this
    exact this

set_option maxRecDepth 100000 in
set_option maxHeartbeats 3200000 in
theorem l8Names_any (s : ByteArray) (k : Nat) (w : World) (hW : Word s.data.toList) (hk : k ≤ 5) :
    Calls Tryd.prog 72 #[.string s, .int .i64 (k : Int)] w fun e w' => e = .returned (.string ⟨(namesW s.data.toList k).toArray⟩) ∧ Below w.heap.size w w' := by
  have hlen := hW.len
  rw [len_str] at hlen
  obtain ⟨hn2, hn10, -⟩ := hlen
  have HW := Lib.hid hW; clear hW
  have HR := Lib.hid (rows_lit w)
  go_enter Tryd.func72, Tryd.ntmps72
  go_wp2_with fail
  obtain ⟨g, hg⟩ : ∃ g, w.heap.size = g := ⟨_, rfl⟩
  obtain ⟨g2, hg2⟩ : ∃ g2, g + 1 = g2 := ⟨_, rfl⟩
  obtain ⟨W0, hW0⟩ : ∃ W0, ((w.alloc (.cells #[.int .i64 (-1), .int .i64 (-1), .int .i64 (-1), .int .i64 (-1), .int .i64 (-1)] 3)).alloc (.cells #[.bool false, .bool false, .bool false, .bool false, .bool false] 4)) = W0 := ⟨_, rfl⟩
  have hr := HR.out
  have hb0 : Below w.heap.size w ((w.alloc (.cells #[.int .i64 (-1), .int .i64 (-1), .int .i64 (-1), .int .i64 (-1), .int .i64 (-1)] 3)).alloc (.cells #[.bool false, .bool false, .bool false, .bool false, .bool false] 4)) := ((Below.refl _ _).alloc (Nat.le_refl _) _).alloc (by rw [World.size_alloc]; omega) _
  rw [hW0] at hr hb0
  rw [hg, hg2] at hr
  rw [hW0, hg, hg2]
  have HNA : Hid (Own W0 g (.slice (some ⟨g, 0, none⟩) 5 5) [-1, -1, -1, -1, -1]) := hr.1
  have HSA : Hid (OwnS W0 g g2 [false, false, false, false, false]) := hr.2
  have HBA := Lib.hid hb0
  have HG := Lib.hid hg
  have hgg : g ≠ g2 := by omega
  have hgw : w.heap.size ≤ g := by omega
  have hgw2 : w.heap.size ≤ g2 := by omega
  clear hr hb0 hW0 hg hg2 HR
  go_loopw [5, 8, 9, 10] (fun ov nv iv _ wr => ∃ (i r : Nat) (t : ByteArray) (nm : List Int) (sz : List Bool), i ≤ s.size ∧ iv = .int .i64 i ∧ r ≤ i ∧ nv = .int .i64 ((k : Int) + (r : Int)) ∧ ov = .string t ∧ Hid (r = rk s.data.toList i) ∧ Hid (t.data.toList = (List.range i).map (nmAt s.data.toList k)) ∧ t.size = i ∧ Hid (Own wr g (.slice (some ⟨g, 0, none⟩) 5 5) nm ∧ OwnS wr g g2 sz) ∧ Hid (Below w.heap.size w wr) ∧ Hid (NmI s.data.toList k i nm sz)) (fun _ _ iv _ _ => s.size - (intOf iv).toNat)
  case atStart => exact ⟨0, 0, _, _, _, Nat.zero_le _, rfl, Nat.le_refl _, by simp, rfl, rfl, rfl, rfl, ⟨HNA.out, HSA.out⟩, HBA.out, NmI.start _ _⟩
  case round =>
    clear HNA HSA HBA
    obtain ⟨i, r, t, nm, sz, hi, rfl, hri, rfl, rfl, hr, ht, hts, ho, hb, hI⟩ := hrel
    by_cases hlt : i < s.size
    · have hil : i < s.data.toList.length := by rw [len_str]; exact hlt
      have hgs := gb_at s hlt
      obtain ⟨x, hx⟩ := Int.eq_ofNat_of_zero_le (HW.out.ok i hil).1
      have hx5 : x < 5 := by have := (ltr_range (gb s.data.toList i)).2; omega
      have HX : Hid (ltr s[i] = (x : Int)) := by rw [Hid, ← hgs]; exact hx
      have HGS := Lib.hid hgs
      obtain ⟨q1, e1, _, hm1, hf1⟩ := ho.out.1.cellAt hI.out.nl hx5
      simp only [Option.some.injEq, Addr.mk.injEq, and_true] at e1
      subst e1
      obtain ⟨hm2, hf2⟩ := ho.out.2.cell hx5
      have HRS := Lib.hid (rk_succ s.data.toList i)
      have ht10 : t.size ≤ 10 := by omega
      have hx0i : (0 : Int) ≤ (x : Int) := by omega
      have hx5i : (x : Int) < 5 := by omega
      have hi0 : (0 : Int) ≤ (i : Int) := by omega
      have hiS : (i : Int) < (s.size : Int) := by omega
      by_cases hf : i < par s.data.toList i
      · have hI2 := hI.out.first HW.out hil hx hf
        have HI2 := Lib.hid hI2.2
        rw [hI2.1] at hm1
        obtain ⟨y, hy0⟩ : ∃ y, y = k + r := ⟨_, rfl⟩
        have hyy : (k : Int) + (r : Int) = (y : Int) := by omega
        have hy : y < 32 := by omega
        have HYR : Hid ((k + rk s.data.toList i : Nat) = y) := by rw [Hid, ← hr.out]; exact hy0.symm
        have HNX : Hid (nmAt s.data.toList k i = nmb y true) := by
          rw [Hid, nmAt, show fst s.data.toList i = i from Nat.min_eq_left (by omega), beq_self_eq_true, HYR.out]
        have S1 := ho.out.1.stored hI.out.nl x (y : Int)
        have S2 := (ho.out.2.grown S1.2 (by omega)).stored x (sml s[i])
        have hO3 := S1.1.grown S2.2 (.inr (by simp [Value.ownBlock]; omega))
        have hB3 := (hb.out.grown S1.2 hb.out.size (fun q hq => by simp at hq; omega)).grown S2.2 (Nat.le_trans hb.out.size S1.2.size) (fun q hq => by simp at hq; omega)
        have HO3 := Lib.hid (And.intro hO3 S2.1); have HB3 := Lib.hid hB3
        clear hI2 hy0 S1 S2 hO3 hB3 hx hgs
        go_upto_region 13 with (first
          | (go_at_call 77; refine (l8Letter_any _ _).mono ?_; rintro e w' ⟨rfl, rfl⟩; rw [HX.out])
          | (go_at_call 78; refine (l8Small_any _ _).mono ?_; rintro e w' ⟨rfl, rfl⟩))
        obtain ⟨W, hW⟩ : ∃ W, (wr.setCell ⟨g, x, none⟩ (.int .i64 (y : Int))).setCell ⟨g2, x, none⟩ (.bool (sml s[i])) = W := ⟨_, rfl⟩
        rw [hW] at HO3 HB3
        rw [hW]
        clear hW hm1 hf1 hm2 hf2
        obtain ⟨q2, e2, _, hm1, -⟩ := HO3.out.1.cellAt (by rw [List.length_set]; exact hI.out.nl) hx5
        simp only [Option.some.injEq, Addr.mk.injEq, and_true] at e2
        subst e2
        obtain ⟨hm2, -⟩ := HO3.out.2.cell hx5
        rw [gi_set _ _ _ _ (by rw [hI.out.nl]; exact hx5), if_pos rfl] at hm1
        rw [getD_set _ _ _ _ (by rw [hI.out.sl]; exact hx5), if_pos rfl] at hm2
        have HI3 : Hid (NmI s.data.toList k (i + 1) (nm.set x (y : Int)) (sz.set x (sml s[i]))) := by
          have h1 := HI2.out; rw [HYR.out, HGS.out] at h1; exact h1
        have hb1 : (sml s[i] == sml s[i]) = true := by simp
        have hcat : ∀ W : World, (Op.stringOp .add t ⟨#[nmb y true]⟩).run Tryd.prog W = .ok (.string (t ++ ⟨#[nmb y true]⟩)) W := fun W => run_string_add_sum W _ _ (by show t.size + 1 ≤ 9223372036854775807; omega)
        go_region_held3 (fun w' => w'.cell? ⟨g, x, none⟩ = some (.int .i64 (y : Int)) ∧ w'.cell? ⟨g2, x, none⟩ = some (.bool (sml s[i]))) (first | go_keep | exact ⟨(HB5.out.cell (p := ⟨g, x, none⟩) (World.block_lt_of_cell? _ _ hm1)).trans hm1, (HB5.out.cell (p := ⟨g2, x, none⟩) (World.block_lt_of_cell? _ _ hm2)).trans hm2⟩) (first
          | (go_at_call 78; (with_reducible refine (l8Small_any _ _).mono ?_); rintro e w' ⟨rfl, rfl⟩)
          | (go_at_call 70; (with_reducible refine (l8Name_any y true _ hy).mono ?_); rintro e w5 ⟨rfl, b5⟩; have HB5 := Lib.hid b5; clear b5))
        all_goals
          go_wp2_with fail
          go_roundw
          case rel => exact ⟨i + 1, r + 1, _, _, _, by omega, by go_num, by omega, congrArg (Value.int IntKind.i64) (by omega), rfl, by rw [Hid, HRS.out, if_pos hf, ← hr.out], by rw [Hid, str_app, ht.out, List.range_succ, List.map_append, List.map_cons, List.map_nil, HNX.out], by rw [ByteArray.size_append, hts]; rfl, ⟨HO3.out.1.below (below_undrew1 HB5.out), HO3.out.2.below (below_undrew1 HB5.out)⟩, HB3.out.trans ((below_undrew1 HB5.out).mono HB3.out.size), HI3.out⟩
          case measure => simp [intOf]; omega
      · obtain ⟨y, hy0⟩ : ∃ y, y = k + rk s.data.toList (fst s.data.toList i) := ⟨_, rfl⟩
        have hI2 := hI.out.again HW.out hil hx hf
        have HI2 := Lib.hid hI2.2.2
        have hrl := HW.out.rk_lt hil
        rw [len_str] at hrl
        have hy : y < 32 := by omega
        obtain ⟨b, hbb⟩ : ∃ b, (sml s[i] == sml (gb s.data.toList (fst s.data.toList i))) = b := ⟨_, rfl⟩
        have HNX : Hid (nmAt s.data.toList k i = nmb y b) := by rw [Hid, nmAt, hgs, hbb, hy0]
        rw [hI2.1, ← hy0] at hm1
        rw [hI2.2.1] at hm2
        have hny : decide ((y : Int) < 0) = false := by simp
        have hcat : ∀ W : World, (Op.stringOp .add t ⟨#[nmb y b]⟩).run Tryd.prog W = .ok (.string (t ++ ⟨#[nmb y b]⟩)) W := fun W => run_string_add_sum W _ _ (by show t.size + 1 ≤ 9223372036854775807; omega)
        clear hI2 hy0 hx hgs hrl
        go_wp2_with (go_at_call 77; refine (l8Letter_any _ _).mono ?_; rintro e w' ⟨rfl, rfl⟩; rw [HX.out])
        go_region_held3 (fun w' => w'.cell? ⟨g, x, none⟩ = some (.int .i64 (y : Int)) ∧ w'.cell? ⟨g2, x, none⟩ = some (.bool (sml (gb s.data.toList (fst s.data.toList i))))) (first | go_keep | exact ⟨(HB5.out.cell (p := ⟨g, x, none⟩) (World.block_lt_of_cell? _ _ hm1)).trans hm1, (HB5.out.cell (p := ⟨g2, x, none⟩) (World.block_lt_of_cell? _ _ hm2)).trans hm2⟩) (first
          | (go_at_call 78; (with_reducible refine (l8Small_any _ _).mono ?_); rintro e w' ⟨rfl, rfl⟩)
          | (go_at_call 70; (with_reducible refine (l8Name_any y b _ hy).mono ?_); rintro e w5 ⟨rfl, b5⟩; have HB5 := Lib.hid b5; clear b5))
        all_goals
          go_wp2_with fail
          go_roundw
          case rel => exact ⟨i + 1, r, _, _, _, by omega, by go_num, by omega, rfl, rfl, by rw [Hid, HRS.out, if_neg hf, ← hr.out]; rfl, by rw [Hid, str_app, ht.out, List.range_succ, List.map_append, List.map_cons, List.map_nil, HNX.out], by rw [ByteArray.size_append, hts]; rfl, ⟨ho.out.1.below (below_undrew1 HB5.out), ho.out.2.below (below_undrew1 HB5.out)⟩, hb.out.trans ((below_undrew1 HB5.out).mono hb.out.size), HI2.out⟩
          case measure => simp [intOf]; omega
    · have his : i = s.size := by omega
      have HF : Hid (t.data.toList = namesW s.data.toList k) := by rw [Hid, ht.out, his, namesW, len_str]
      clear his
      go_wp2_with fail
      go_ret
      exact ⟨ret_str HF.out, hb.out⟩

end Go.Proofs.YtfdliekhlcbkcaaDoor

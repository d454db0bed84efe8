/-
  Lists of maps as the law compares, marks and reads them: eqMapS, markMapS, heldMapS.
-/
import Derived.Test.YtakckkmhhedfpaaRootF
namespace Go.Proofs.Ytakckkmhhedfpaa
open Go.RowKit
set_option linter.unusedVariables false

theorem own_else {w w' : World} {lo : Nat} {x : Value} {xs : List Int} {r : Option Nat} (h : Own w lo x xs) (hg : w.grownBy w' r) (hne : ∀ k, x.ownBlock = some k → r ≠ some k) : Own w' lo x xs :=
  h.grown hg (by
    cases e : x.ownBlock with
    | none => exact .inl rfl
    | some k => exact .inr fun e2 => hne k e e2.symm)
theorem Maps.keep {w w' : World} {lo : Nat} {r : Option Nat} (hg : w.grownBy w' r) : ∀ {vs : List Value} {ms : List (List Int × List Int)}, Maps w lo vs ms → (∀ y ∈ vs, ∀ k, y.ownBlock = some k → r ≠ some k) → Maps w' lo vs ms
  | [], [], _, _ => trivial
  | x :: x' :: vs, m :: ms, h, hn => ⟨⟨own_else h.1.turn hg (hn x (by simp)), own_else h.1.flip hg (hn x' (by simp)), h.1.apart⟩, Maps.keep hg h.2 fun y hy => hn y (by simp [hy])⟩
  | [], _ :: _, h, _ => h.elim
  | [_], [], h, _ => h.elim
  | [_], _ :: _, h, _ => h.elim
  | _ :: _ :: _, [], h, _ => h.elim
theorem Maps.upd {w w' : World} {lo : Nat} : ∀ {vs : List Value} {ms : List (List Int × List Int)} (_ : Maps w lo vs ms) (_ : Apt vs) {j : Nat} {u u' : Value} (_ : vs[j * 2]? = some u) (_ : vs[j * 2 + 1]? = some u') (hj : j < ms.length),
    (∀ xs', w.grownBy w' u.ownBlock → Own w' lo u xs' → Maps w' lo vs (ms.set j (xs', (ms[j]).2))) ∧ (∀ xs', w.grownBy w' u'.ownBlock → Own w' lo u' xs' → Maps w' lo vs (ms.set j ((ms[j]).1, xs')))
  | [], [], _, _, _, _, _, _, _, hj => by simp at hj
  | x :: x' :: vs, m :: ms, h, ha, 0, u, u', hu, hu', _ => by
    simp only [Nat.zero_mul, List.getElem?_cons_zero, Option.some.injEq, Nat.zero_add, List.getElem?_cons_succ] at hu hu'
    subst hu; subst hu'
    obtain ⟨a1, a2⟩ := List.pairwise_cons.1 ha
    obtain ⟨a3, a4⟩ := List.pairwise_cons.1 a2
    refine ⟨fun xs' hg ho => ?_, fun xs' hg ho => ?_⟩
    · refine ⟨⟨ho, own_else h.1.flip hg fun k hk e => a1 x' (by simp) k e hk, h.1.apart⟩, Maps.keep hg h.2 fun y hy k hk e => a1 y (by simp [hy]) k e hk⟩
    · refine ⟨⟨own_else h.1.turn hg fun k hk e => a1 x' (by simp) k hk e, ho, h.1.apart⟩, Maps.keep hg h.2 fun y hy k hk e => a3 y hy k e hk⟩
  | x :: x' :: vs, m :: ms, h, ha, j + 1, u, u', hu, hu', hj => by
    rw [show (j + 1) * 2 = j * 2 + 1 + 1 by omega, List.getElem?_cons_succ, List.getElem?_cons_succ] at hu
    rw [show (j + 1) * 2 + 1 = j * 2 + 1 + 1 + 1 by omega, List.getElem?_cons_succ, List.getElem?_cons_succ] at hu'
    obtain ⟨a1, a2⟩ := List.pairwise_cons.1 ha
    obtain ⟨a3, a4⟩ := List.pairwise_cons.1 a2
    have m1 := List.mem_of_getElem? hu
    have m2 := List.mem_of_getElem? hu'
    obtain ⟨i1, i2⟩ := Maps.upd (w' := w') h.2 a4 hu hu' (by simpa using hj)
    refine ⟨fun xs' hg ho => ?_, fun xs' hg ho => ?_⟩
    · rw [List.set_cons_succ]
      exact ⟨⟨own_else h.1.turn hg fun k hk e => a1 u (by simp [m1]) k hk e, own_else h.1.flip hg fun k hk e => a3 u m1 k hk e, h.1.apart⟩, i1 xs' hg ho⟩
    · rw [List.set_cons_succ]
      exact ⟨⟨own_else h.1.turn hg fun k hk e => a1 u' (by simp [m2]) k hk e, own_else h.1.flip hg fun k hk e => a3 u' m2 k hk e, h.1.apart⟩, i2 xs' hg ho⟩
  | [], _ :: _, h, _, _, _, _, _, _, _ => h.elim
  | [_], [], h, _, _, _, _, _, _, _ => h.elim
  | [_], _ :: _, h, _, _, _, _, _, _, _ => h.elim
  | _ :: _ :: _, [], h, _, _, _, _, _, _, _ => h.elim
/-- A map of the row, and what becomes of the row when one of its lists is written to. -/
theorem RowD.at_ {w : World} {lo g N c : Nat} {ms : List (List Int × List Int)} (h : RowD w lo (.slice (some ⟨g, 0, none⟩) N c) ms) (hN : ms.length = N) {j : Nat} (hj : j < ms.length) :
    ∃ u u', w.cell? ⟨g, j * 2, none⟩ = some u ∧ w.cell? ⟨g, j * 2 + 1, none⟩ = some u' ∧ OwnM w lo u u' (ms[j]).1 (ms[j]).2 ∧
      (∀ w' xs', w.grownBy w' u.ownBlock → Own w' lo u xs' → RowD w' lo (.slice (some ⟨g, 0, none⟩) N c) (ms.set j (xs', (ms[j]).2))) ∧
      (∀ w' xs', w.grownBy w' u'.ownBlock → Own w' lo u' xs' → RowD w' lo (.slice (some ⟨g, 0, none⟩) N c) (ms.set j ((ms[j]).1, xs'))) := by
  obtain ⟨vs, ho, hm, ha⟩ := h
  obtain ⟨u, u', h1, h2, h3⟩ := hm.at_ hj
  have hz : ∀ k, (⟨g, 0, none⟩ : Addr).add k = ⟨g, k, none⟩ := fun k => by unfold Addr.add; split <;> simp_all
  rw [hN] at ho
  have hrow : ∀ {x : Value} {xs : List Int} {w' : World}, Own w lo x xs → w.grownBy w' x.ownBlock → w'.ownsRow lo 35 2 (.slice (some ⟨g, 0, none⟩) N c) N vs := by
    intro x xs w' hx hg
    refine World.ownsRow.kept ho hg ?_
    right
    intro e
    rcases hx.2 with ⟨rfl, _⟩ | ⟨g', cap', cur', rfl, _, hh', _⟩
    · simp [Value.ownBlock] at e
    · have : g = g' := by simpa [Value.ownBlock] using e
      subst this
      rcases ho.2 with ⟨e0, _⟩ | ⟨g2, cap, cur, e0, _, hh, _⟩
      · cases e0
      · injection e0 with e1 _ _
        injection e1 with e1
        injection e1 with e1
        subst e1
        rw [hh] at hh'
        injection hh' with hh'
        injection hh' with _ ht
        exact absurd ht (by decide)
  refine ⟨u, u', by rw [← hz]; exact ho.cells (g := g) rfl _ _ h1, by rw [← hz]; exact ho.cells (g := g) rfl _ _ h2, h3, fun w' xs' hg hx => ?_, fun w' xs' hg hx => ?_⟩
  · exact ⟨vs, by rw [List.length_set, hN]; exact hrow h3.turn hg, (hm.upd ha h1 h2 hj).1 xs' hg hx, ha⟩
  · exact ⟨vs, by rw [List.length_set, hN]; exact hrow h3.flip hg, (hm.upd ha h1 h2 hj).2 xs' hg hx, ha⟩

/-- Marks in the first i of a list of maps of n darts. -/
def mrkAt (m : Int) (n j : Nat) : List Int × List Int := (marks (m + 2 * (n : Int) * (j : Int)) n, marks (m + 2 * (n : Int) * (j : Int) + n) n)
def mrkTo (m : Int) (n : Nat) (ms : List (List Int × List Int)) (i : Nat) : List (List Int × List Int) := (List.range ms.length).map fun j => if j < i then mrkAt m n j else ms.getD j ([], [])
theorem mrkTo_len (m : Int) (n : Nat) (ms : List (List Int × List Int)) (i : Nat) : (mrkTo m n ms i).length = ms.length := by simp [mrkTo]
theorem mrkTo_zero (m : Int) (n : Nat) (ms : List (List Int × List Int)) : mrkTo m n ms 0 = ms := by
  apply List.ext_getElem (by simp [mrkTo])
  intro j h1 h2
  simp [mrkTo, List.getD, h2]
theorem mrkTo_at {m : Int} {n : Nat} {ms : List (List Int × List Int)} {i j : Nat} (hj : j < (mrkTo m n ms i).length) : (mrkTo m n ms i)[j] = if j < i then mrkAt m n j else ms.getD j ([], []) := by simp [mrkTo]
theorem mrkTo_set {m : Int} {n : Nat} {ms : List (List Int × List Int)} {i : Nat} (hi : i < ms.length) : (mrkTo m n ms i).set i (mrkAt m n i) = mrkTo m n ms (i + 1) := by
  apply List.ext_getElem (by rw [List.length_set, mrkTo_len, mrkTo_len])
  intro j h1 h2
  rw [List.getElem_set, mrkTo_at h2]
  split
  · rename_i e
    subst e
    rw [if_pos (by omega)]
  · rename_i e
    rw [mrkTo_at (by rw [mrkTo_len]; rw [mrkTo_len] at h2; exact h2)]
    by_cases hj : j < i
    · rw [if_pos hj, if_pos (by omega)]
    · rw [if_neg hj, if_neg (by omega)]

theorem grown_lo {w w' : World} {lo : Nat} {x : Value} {xs : List Int} (h : Own w lo x xs) (hg : w.grownBy w' x.ownBlock) (hlo : lo ≤ w.heap.size) : Below lo w w' :=
  ⟨hg.os, hg.tape, hg.output, hg.size, fun k hk => hg.block k (by omega) (fun e => by have := h.lt k e.symm; omega)⟩

set_option maxRecDepth 20000 in
set_option maxHeartbeats 1600000 in
theorem markMapS_any (lo g N c n : Nat) (ms : List (List Int × List Int)) (m : Int) (w : World) (h : RowD w lo (.slice (some ⟨g, 0, none⟩) N c) ms) (hN : ms.length = N) (hl : ∀ p ∈ ms, p.1.length = n ∧ p.2.length = n) (hlo : lo ≤ w.heap.size) (hn : n ≤ 12) (hN7 : N ≤ 720) (hm0 : 0 ≤ m) (hm : m ≤ 1000) :
    Calls Try.prog 17 #[.slice (some ⟨g, 0, none⟩) N c, .int .i64 m] w fun e w' => e = .returned (.int .i64 (m + 2 * (n : Int) * (N : Int))) ∧ RowD w' lo (.slice (some ⟨g, 0, none⟩) N c) (mrkTo m n ms N) ∧ Below lo w w' := by
  have H := Lib.hid h; have HN := Lib.hid hN
  have HL : Hid (∀ (j : Nat), j < N → (ms.getD j ([], [])).1.length = n ∧ (ms.getD j ([], [])).2.length = n) := fun j hj => by
    have hj' : j < ms.length := by omega
    have e : ms.getD j ([], []) = ms[j] := by rw [List.getD, List.getElem?_eq_getElem hj']; rfl
    rw [e]; exact hl _ (List.getElem_mem _)
  clear h hN hl
  go_enter Try.func17, Try.ntmps17
  go_wp2_with fail
  go_loopw [1, 5] (fun kv iv wz => ∃ (i : Nat) (k : Int), iv = .int .i64 i ∧ i ≤ N ∧ kv = .int .i64 k ∧ k = m + 2 * (n : Int) * (i : Int) ∧ Hid (RowD wz lo (.slice (some ⟨g, 0, none⟩) N c) (mrkTo m n ms i)) ∧ Hid (Below lo w wz)) (fun _ iv _ => N - (intOf iv).toNat)
  case atStart => exact ⟨0, m, rfl, Nat.zero_le _, rfl, by simp, by rw [mrkTo_zero]; exact H, Below.refl _ _⟩
  case round =>
    obtain ⟨i, k, rfl, hiN, rfl, hk, hrow, hb⟩ := hrel
    have hkb : 0 ≤ k ∧ k ≤ 100000 := by
      have h1 : 2 * (n : Int) * (i : Int) ≤ 24 * 720 := Int.mul_le_mul (by omega) (by omega) (by omega) (by omega)
      have h0 : 0 ≤ 2 * (n : Int) * (i : Int) := Int.mul_nonneg (by omega) (by omega)
      omega
    by_cases hlt : i < N
    · have hlen : (mrkTo m n ms i).length = N := by rw [mrkTo_len]; exact HN.out
      obtain ⟨u, u', s0, s1, ho, hu1, hu2⟩ := hrow.out.at_ hlen (j := i) (by omega)
      have hat : (mrkTo m n ms i)[i] = ms.getD i ([], []) := by rw [mrkTo_at (by omega), if_neg (by omega)]
      rw [hat] at ho hu1 hu2
      obtain ⟨l1, l2⟩ := HL.out i hlt
      obtain ⟨A, d, A', d', rfl, rfl, r1, r2⟩ := ho.form l1 l2
      have HO := Lib.hid ho; have HU1 := Lib.hid hu1; have HL1 := Lib.hid l1; have HL2 := Lib.hid l2
      have hiN2 : (i : Int) < (N : Int) := by omega
      have HK : Hid (k = m + 2 * (n : Int) * (i : Int)) := hk
      have HLEN := Lib.hid hlen
      have HSZ : Hid (lo ≤ wr.heap.size) := Nat.le_trans hlo hb.out.size
      clear ho hu1 hu2 l1 l2 r1 r2 hk hat hlen
      go_wp2_with fail
      refine (markIntS_any lo A n d _ k wr HO.out.turn HL1.out (by omega) hkb.1 (by omega)).mono ?_
      rintro r w1 ⟨rfl, o1, g1⟩
      have hrow1 := HU1.out w1 _ g1 o1
      have hb1 := hb.out.trans ((grown_lo HO.out.turn g1 HSZ.out))
      have HLEN1 : Hid (((mrkTo m n ms i).set i (marks k n, (ms.getD i ([], [])).2)).length = N) := by rw [Hid, List.length_set]; exact HLEN.out
      obtain ⟨v, v', t0, t1, ho1, -, hv2⟩ := hrow1.at_ HLEN1.out (j := i) (by have := HLEN1.out; omega)
      have hat1 : ((mrkTo m n ms i).set i (marks k n, (ms.getD i ([], [])).2))[i]'(by have := HLEN1.out; omega) = (marks k n, (ms.getD i ([], [])).2) := by rw [List.getElem_set_self]
      rw [hat1] at ho1 hv2
      obtain ⟨B, e1, B', e1', rfl, rfl, -, -⟩ := ho1.form (marks_len _ _) HL2.out
      have HO1 := Lib.hid ho1; have HV2 := Lib.hid hv2; have HB1 := Lib.hid hb1
      have HSZ1 : Hid (lo ≤ w1.heap.size) := Nat.le_trans HSZ.out g1.size
      have hkn : 0 ≤ k + (n : Int) := by omega
      clear hrow1 hb1 o1 g1 ho1 hv2 hat1 s0 s1
      go_wp2_with fail
      refine (markIntS_any lo B' n e1' _ (k + n) w1 HO1.out.flip HL2.out (by omega) hkn (by omega)).mono ?_
      rintro r w2 ⟨rfl, o2, g2⟩
      have HROW2 : Hid (RowD w2 lo (.slice (some ⟨g, 0, none⟩) N c) (mrkTo m n ms (i + 1))) := by
        have h1 := HV2.out w2 _ g2 o2
        rw [List.set_set] at h1
        have e : ((marks k n, marks (k + n) n) : List Int × List Int) = mrkAt m n i := by rw [HK.out]; rfl
        rw [e, mrkTo_set (by have := HN.out; omega)] at h1
        exact h1
      have HB2 := Lib.hid (HB1.out.trans (grown_lo HO1.out.flip g2 HSZ1.out))
      have hstep : k + (n : Int) + (n : Int) = m + 2 * (n : Int) * ((i + 1 : Nat) : Int) := by
        rw [HK.out, Int.natCast_add, Int.mul_add]; simp; omega
      have HST := Lib.hid hstep
      clear o2 g2 hstep t0 t1
      go_wp2_with fail
      go_roundw
      case rel => exact ⟨i + 1, _, by go_num, by omega, rfl, HST.out, HROW2, HB2⟩
      case measure => simp [intOf]; omega
    · obtain rfl : i = N := by omega
      have HK := Lib.hid hk; clear hk
      go_wp2_with fail
      go_ret
      exact ⟨ret_int HK.out, hrow.out, hb.out⟩

set_option maxRecDepth 20000 in
set_option maxHeartbeats 1600000 in
theorem heldMapS_any (lo g N c n : Nat) (ms : List (List Int × List Int)) (m : Int) (w : World) (h : RowM w lo (.slice (some ⟨g, 0, none⟩) N c) (mrkTo m n ms N)) (hN : ms.length = N) (hn : n ≤ 12) (hN7 : N ≤ 720) (hm0 : 0 ≤ m) (hm : m ≤ 1000) :
    Calls Try.prog 18 #[.slice (some ⟨g, 0, none⟩) N c, .int .i64 m] w fun e w' => e = .returned (.int .i64 (m + 2 * (n : Int) * (N : Int))) ∧ w = w' := by
  have H := Lib.hid h; have HN := Lib.hid hN
  clear h hN
  go_enter Try.func18, Try.ntmps18
  go_wp2_with fail
  go_loopw [1, 5] (fun kv iv wz => ∃ (i : Nat) (k : Int), iv = .int .i64 i ∧ i ≤ N ∧ kv = .int .i64 k ∧ k = m + 2 * (n : Int) * (i : Int) ∧ wz = w) (fun _ iv _ => N - (intOf iv).toNat)
  case atStart => exact ⟨0, m, rfl, Nat.zero_le _, rfl, by simp, rfl⟩
  case round =>
    obtain ⟨i, k, rfl, hiN, rfl, hk, rfl⟩ := hrel
    have hkb : 0 ≤ k ∧ k ≤ 100000 := by
      have h1 : 2 * (n : Int) * (i : Int) ≤ 24 * 720 := Int.mul_le_mul (by omega) (by omega) (by omega) (by omega)
      have h0 : 0 ≤ 2 * (n : Int) * (i : Int) := Int.mul_nonneg (by omega) (by omega)
      omega
    by_cases hlt : i < N
    · have hlen : (mrkTo m n ms N).length = N := by rw [mrkTo_len]; exact HN.out
      obtain ⟨u, u', s0, s1, ho⟩ := H.out.cells rfl (j := i) (by omega)
      have hat : (mrkTo m n ms N)[i]'(by omega) = mrkAt m n i := by rw [mrkTo_at (by omega), if_pos hlt]
      rw [hat] at ho
      unfold mrkAt at ho
      rw [← hk] at ho
      obtain ⟨A, d, A', d', rfl, rfl, r1, r2⟩ := ho.form (marks_len _ _) (marks_len _ _)
      have hiN2 : (i : Int) < (N : Int) := by omega
      have HK : Hid (k = m + 2 * (n : Int) * (i : Int)) := hk
      have HR1 := Lib.hid r1; have HR2 := Lib.hid r2
      have hd1 : decide (k + (n : Int) < 0) = false := by simp; omega
      have hd2 : decide (k + (n : Int) + (n : Int) < 0) = false := by simp; omega
      clear ho r1 r2 hk hat hlen
      go_wp2_with fail
      refine (heldIntS_any A n d k _ HR1.out (by omega) hkb.1 (by omega)).mono ?_
      rintro r w1 ⟨rfl, rfl⟩
      go_wp2_with fail
      refine (heldIntS_any A' n d' (k + n) _ HR2.out (by omega) (by omega) (by omega)).mono ?_
      rintro r w1 ⟨rfl, rfl⟩
      have hstep : k + (n : Int) + (n : Int) = m + 2 * (n : Int) * ((i + 1 : Nat) : Int) := by
        rw [HK.out, Int.natCast_add, Int.mul_add]; simp; omega
      have HST := Lib.hid hstep
      clear hstep
      go_wp2_with fail
      go_roundw
      case rel => exact ⟨i + 1, _, by go_num, by omega, rfl, HST.out, trivial⟩
      case measure => simp [intOf]; omega
    · obtain rfl : i = N := by omega
      have HK := Lib.hid hk; clear hk
      go_wp2_with fail
      go_ret
      exact ⟨ret_int HK.out, rfl⟩

set_option maxRecDepth 20000 in
set_option maxHeartbeats 1600000 in
theorem eqMapS_any (lo lo' g g' N c c' n : Nat) (ms : List (List Int × List Int)) (w : World) (h : RowM w lo (.slice (some ⟨g, 0, none⟩) N c) ms) (h' : RowM w lo' (.slice (some ⟨g', 0, none⟩) N c') ms) (hN : ms.length = N) (hl : ∀ p ∈ ms, p.1.length = n ∧ p.2.length = n) (hn : n ≤ 12) (hN7 : N ≤ 720) :
    Calls Try.prog 16 #[.slice (some ⟨g, 0, none⟩) N c, .slice (some ⟨g', 0, none⟩) N c'] w fun e w' => e = .returned (.bool true) ∧ Below w.heap.size w w' := by
  have H := Lib.hid h; have H' := Lib.hid h'; have HN := Lib.hid hN; have HL := Lib.hid hl
  have ht : (((N : Nat) : Int) != N) = false := by simp
  clear h h' hN hl
  go_enter Try.func16, Try.ntmps16
  go_wp2_with fail
  go_loopw [5] (fun iv wz => ∃ i : Nat, iv = .int .i64 i ∧ i ≤ N ∧ Hid (Below w.heap.size w wz)) (fun iv _ => N - (intOf iv).toNat)
  case atStart => exact ⟨0, rfl, Nat.zero_le _, Below.refl _ _⟩
  case round =>
    obtain ⟨i, rfl, hiN, hb⟩ := hrel
    by_cases hlt : i < N
    · have hil : i < ms.length := by have := HN.out; omega
      have hra := H.out.below hb.out
      have hrb := H'.out.below hb.out
      have hg1 : g < wr.heap.size := by obtain ⟨vs, ho, -⟩ := hra; exact (ho.lt g rfl).2
      have hg2 : g' < wr.heap.size := by obtain ⟨vs, ho, -⟩ := hrb; exact (ho.lt g' rfl).2
      obtain ⟨u, u', q1, q2, ho⟩ := hra.cells rfl (j := i) hil
      obtain ⟨v, v', q3, q4, ho'⟩ := hrb.cells rfl (j := i) hil
      obtain ⟨l1, l2⟩ := HL.out _ (List.getElem_mem hil)
      obtain ⟨A, d, A', d', rfl, rfl, r1, r2⟩ := ho.form l1 l2
      obtain ⟨B, e, B', e', rfl, rfl, r3, r4⟩ := ho'.form l1 l2
      have p1 : ∀ p : Above wr, p.to.cell? ⟨g, i * 2, none⟩ = some (.slice A n d) := fun p => (p.b.cell (p := ⟨g, i * 2, none⟩) hg1).trans q1
      have p2 : ∀ p : Above wr, p.to.cell? ⟨g, i * 2 + 1, none⟩ = some (.slice A' n d') := fun p => (p.b.cell (p := ⟨g, i * 2 + 1, none⟩) hg1).trans q2
      have p3 : ∀ p : Above wr, p.to.cell? ⟨g', i * 2, none⟩ = some (.slice B n e) := fun p => (p.b.cell (p := ⟨g', i * 2, none⟩) hg2).trans q3
      have p4 : ∀ p : Above wr, p.to.cell? ⟨g', i * 2 + 1, none⟩ = some (.slice B' n e') := fun p => (p.b.cell (p := ⟨g', i * 2 + 1, none⟩) hg2).trans q4
      have HR1 : Hid (∀ p : Above wr, Rd p.to A n (ms[i]).1) := fun p => r1.below p.b
      have HR2 : Hid (∀ p : Above wr, Rd p.to A' n (ms[i]).2) := fun p => r2.below p.b
      have HR3 : Hid (∀ p : Above wr, Rd p.to B n (ms[i]).1) := fun p => r3.below p.b
      have HR4 : Hid (∀ p : Above wr, Rd p.to B' n (ms[i]).2) := fun p => r4.below p.b
      have hiN2 : (i : Int) < (N : Int) := by omega
      clear hra hrb q1 q2 q3 q4 ho ho' l1 l2 r1 r2 r3 r4
      go_wp2_with fail
      (refine wp_region_quiet_above (by kernel_rfl) (by kernel_rfl) ?_; (repeat (quiet_step (first | (go_at_call 41; refine Above.calls (eqMap_same A A' B B' n n d d' e e' _ _ _ (HR1.out _) (HR2.out _) (HR3.out _) (HR4.out _) (by omega) (by omega)))))); refine wpQuiet_nil ?_; intro _ hw'; obtain ⟨pq, hw''⟩ := hw'; subst hw'')
      have HB := Lib.hid (hb.out.trans (pq.b.mono hb.out.size))
      clear p1 p2 p3 p4 HR1 HR2 HR3 HR4
      go_wp2_with fail
      go_roundw
      case rel => exact ⟨i + 1, by go_num, by omega, HB⟩
      case measure => simp [intOf]; omega
    · obtain rfl : i = N := by omega
      go_wp2_with fail
      go_ret
      exact ⟨rfl, hb.out⟩

theorem eqMapS_zero (A A' : Option Addr) (c c' : Nat) (w : World) : Calls Try.prog 16 #[.slice A 0 c, .slice A' 0 c'] w fun e w' => e = .returned (.bool true) ∧ w = w' := by
  go_enter Try.func16, Try.ntmps16
  go_wp2_with fail
  go_loopw [5] (fun iv wz => iv = .int .i64 (0 : Nat) ∧ wz = w) (fun _ _ => 0)
  case atStart => exact ⟨rfl, rfl⟩
  case round =>
    obtain ⟨rfl, rfl⟩ := hrel
    go_wp2_with fail
    go_ret
    exact ⟨rfl, rfl⟩
theorem markMapS_zero (A : Option Addr) (c : Nat) (m : Int) (w : World) : Calls Try.prog 17 #[.slice A 0 c, .int .i64 m] w fun e w' => e = .returned (.int .i64 m) ∧ w = w' := by
  go_enter Try.func17, Try.ntmps17
  go_wp2_with fail
  go_loopw [1, 5] (fun kv iv wz => kv = .int .i64 m ∧ iv = .int .i64 (0 : Nat) ∧ wz = w) (fun _ _ _ => 0)
  case atStart => exact ⟨rfl, rfl, rfl⟩
  case round =>
    obtain ⟨rfl, rfl, rfl⟩ := hrel
    go_wp2_with fail
    go_ret
    exact ⟨rfl, rfl⟩
theorem heldMapS_zero (A : Option Addr) (c : Nat) (m : Int) (w : World) : Calls Try.prog 18 #[.slice A 0 c, .int .i64 m] w fun e w' => e = .returned (.int .i64 m) ∧ w = w' := by
  go_enter Try.func18, Try.ntmps18
  go_wp2_with fail
  go_loopw [1, 5] (fun kv iv wz => kv = .int .i64 m ∧ iv = .int .i64 (0 : Nat) ∧ wz = w) (fun _ _ _ => 0)
  case atStart => exact ⟨rfl, rfl, rfl⟩
  case round =>
    obtain ⟨rfl, rfl, rfl⟩ := hrel
    go_wp2_with fail
    go_ret
    exact ⟨rfl, rfl⟩

end Go.Proofs.Ytakckkmhhedfpaa

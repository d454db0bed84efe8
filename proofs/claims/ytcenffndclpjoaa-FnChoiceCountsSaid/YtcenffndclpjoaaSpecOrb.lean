/-
  The model's orbits: the points are relaxed as many times as there are points.
-/
import Derived.Test.YtcenffndclpjoaaOrb
import Derived.Test.YtcenffndclpjoaaConj
import Derived.Lib.MinMax
namespace Go.Proofs.Ytcenffndclpjoaa
open Go.RowKit

theorem marks_succ (m : Int) (k : Nat) : marks m (k + 1) = marks m k ++ [m + (k : Int)] := by simp [marks, List.range_succ]
set_option maxHeartbeats 800000 in
theorem l1Same_any (n : Nat) (w : World) (hn : n ≤ 1048576) :
    Calls Try.prog 79 #[.int .i64 n] w fun e w' => ∃ v, e = .returned v ∧ Own w' w.heap.size v (marks 0 n) ∧ Below w.heap.size w w' := by
  obtain ⟨i0, hinf, hz0, hz1, hz2⟩ := info_parts info_int
  go_enter Try.func79, Try.ntmps79
  go_wp2_with fail
  go_loopw [3, 4] (fun v i wr => ∃ k : Nat, k ≤ n ∧ i = .int .i64 k ∧ Hid (wr.ownsRow w.heap.size 3 1 v k (ints (marks 0 k))) ∧ Hid (Below w.heap.size w wr)) (fun _ i _ => n - (intOf i).toNat)
  case atStart => exact ⟨0, Nat.zero_le _, rfl, Own.empty (Nat.le_refl _), (Below.refl _ _).alloc (Nat.le_refl _) _⟩
  case round =>
    obtain ⟨k, hk, rfl, ho, hb⟩ := hrel
    have hbs := hb.out.size
    by_cases hlt : k < n
    · go_wp2_with (at_builtin; refine wpList_append_own _ rfl _ _ 23 rfl w.heap.size 3 i0 (.int .i64 0) 1 8 Try.underlying23 hinf hz0 hz1 hz2 rfl (by decide) _ _ _ rfl (ho.out.alloc _) ⟨wr.heap.size, 0, none⟩ 1 1 [.int .i64 (k : Int)] rfl rfl (cell_one_new _ _ _) (by intro u hu; simp at hu; subst hu; rfl) (by unfold maxLen; omega) (by omega) (by simp; omega) ?_; intro v1 w1 hown1 hgrow1 _)
      have HO := Lib.hid hown1; have HGR := Lib.hid hgrow1; clear hown1 hgrow1
      go_wp2
      go_roundw
      case rel =>
        refine ⟨k + 1, by omega, by go_num, ?_, ?_⟩
        · have := HO.out
          have e : marks 0 (k + 1) = marks 0 k ++ [(k : Int)] := by rw [marks_succ, Int.zero_add]
          rw [e]
          unfold ints
          rw [List.map_append]
          exact this
        · exact (hb.out.alloc hbs _).grown HGR.out (by simp; omega) (fun j hj => (ho.out.lt j hj).1)
      case measure => simp [intOf]; omega
    · have hkn : k = n := by omega
      have HK := Lib.hid hkn; clear hkn
      go_wp2
      go_ret
      refine ⟨_, rfl, ?_, hb.out⟩
      have := ho.out
      unfold Own
      rw [marks_len, ← HK.out]
      exact this

set_option maxHeartbeats 800000 in
theorem l1Orbits_any (A A' : Option Addr) (n c c' : Nat) (xs ys : List Int) (w : World) (h : Rd w A n xs) (h' : Rd w A' n ys) (hp : Vld xs) (hq : Vld ys) :
    Calls Try.prog 70 #[.slice A n c, .slice A' n c'] w fun e w' => ∃ v, e = .returned v ∧ Own w' w.heap.size v (orbL xs ys) ∧ Below w.heap.size w w' := by
  have hn1 : 1 ≤ n := by rw [← h.1]; exact hp.1
  have hn12 : n ≤ 12 := by rw [← h.1]; exact hp.2.1
  have HP := Lib.hid hp; have HQ := Lib.hid hq
  have HL : Hid (xs.length = ys.length) := by rw [Hid, h.1, h'.1]
  have H := Lib.hid h; have H' := Lib.hid h'
  have Hx := Lib.hid h.1; have Hy := Lib.hid h'.1; clear h h' hp hq
  go_enter Try.func70, Try.ntmps70
  go_wp2_with fail
  refine (l1Same_any n w (by omega)).mono ?_
  rintro e w1 ⟨v1, rfl, o, b⟩
  obtain ⟨A1, c1, rfl, -, -⟩ := o.form' (marks_len 0 n)
  obtain ⟨g, rfl, hg, -, -⟩ := o.cellAt (marks_len 0 n) (k := 0) (by omega)
  have HO := Lib.hid o; have HB := Lib.hid b; clear o b
  go_wp2_with fail
  go_loopw [6, 7, 8] (fun r _ _ wr => ∃ (k : Nat) (out : List Int), k ≤ n ∧ r = .int .i64 k ∧ Hid (Own wr w.heap.size (.slice (some ⟨g, 0, none⟩) n c1) out) ∧ Hid (Below w.heap.size w wr) ∧ Hid (Rounds xs ys k out)) (fun r _ _ _ => n - (intOf r).toNat)
  case atStart => exact ⟨0, _, Nat.zero_le _, rfl, HO, HB, Rounds.start (by rw [marks_len, Hx.out]) (fun j hj => by rw [gi_marks (by rw [← Hx.out]; exact hj)]; omega)⟩
  case round =>
    obtain ⟨k, out0, hk, rfl, ho, hb, hr⟩ := hrel
    clear HO HB
    by_cases hlt : k < n
    · go_wp2_with fail
      go_loopw [7, 8] (fun i _ wr => ∃ (m : Nat) (out : List Int), m ≤ n ∧ i = .int .i64 m ∧ Hid (Own wr w.heap.size (.slice (some ⟨g, 0, none⟩) n c1) out) ∧ Hid (Below w.heap.size w wr) ∧ Hid (Relax xs ys out0 m out)) (fun i _ _ => n - (intOf i).toNat)
      case atStart => exact ⟨0, out0, Nat.zero_le _, rfl, ho, hb, Relax.start hr.out.len hr.out.ge⟩
      case round =>
        clear ho hb
        obtain ⟨m, out, hm, rfl, ho, hb, hx⟩ := hrel
        have hol : out.length = n := by rw [hx.out.len, Hx.out]
        have HOL := Lib.hid hol; clear hol
        by_cases hlt2 : m < n
        · obtain ⟨ad, rfl, hc⟩ := (H.out.below hb.out).at_ hlt2
          obtain ⟨ad', rfl, hc'⟩ := (H'.out.below hb.out).at_ hlt2
          obtain ⟨x, hgx, hxn, hgnx⟩ := (HP.out.into Hx.out).nat (j := m) (by rw [Hx.out]; exact hlt2)
          obtain ⟨y, hgy, hyn, hgny⟩ := (HQ.out.into Hy.out).nat (j := m) (by rw [Hy.out]; exact hlt2)
          rw [hgx] at hc
          rw [hgy] at hc'
          obtain ⟨g1, e1, _, hm1, hf1⟩ := ho.out.cellAt HOL.out hlt2
          obtain ⟨g2, e2, _, hm2, hf2⟩ := ho.out.cellAt HOL.out hxn
          obtain ⟨g3, e3, _, hm3, hf3⟩ := ho.out.cellAt HOL.out hyn
          simp only [Option.some.injEq, Addr.mk.injEq, and_true] at e1 e2 e3
          subst e1 e2 e3
          have HGX := Lib.hid hgx; have HGY := Lib.hid hgy; have HGNX := Lib.hid hgnx; have HGNY := Lib.hid hgny; clear hgx hgy hgnx hgny
          go_wp2
          go_quiet (fail)
          generalize hv : min (gi out m) (min (gi out x) (gi out y)) = v
          have HVV := Lib.hid hv; clear hv
          obtain ⟨W, hW⟩ : ∃ W, wr.drewN nq = W := ⟨_, rfl⟩
          have ho0 : Own W w.heap.size (.slice (some ⟨g, 0, none⟩) n c1) out := hW ▸ ho.out.drewN nq
          have hb0 : Below w.heap.size w W := hW ▸ below_drewN hb.out nq
          rw [hW]
          clear hc hc' hm1 hm2 hm3 hf1 hf2 hf3 ho hb hW
          obtain ⟨g1, e1, _, hm1, hf1⟩ := ho0.cellAt HOL.out hlt2
          simp only [Option.some.injEq, Addr.mk.injEq, and_true] at e1
          subst e1
          have S1 := (ho0.stored HOL.out m v).1
          have B1 : Below w.heap.size w (W.setCell ⟨g, m, none⟩ (.int .i64 v)) := hb0.setCell hg _
          obtain ⟨g2, e2, _, hm2, hf2⟩ := S1.cellAt (by simpa using HOL.out) hxn
          obtain ⟨ad2, e3, hc2⟩ := (H.out.below B1).at_ hlt2
          rw [HGX.out] at hc2
          simp only [Option.some.injEq, Addr.mk.injEq, and_true] at e2 e3
          subst e2 e3
          have S2 := (S1.stored (by simpa using HOL.out) x v).1
          have B2 := B1.setCell (p := ⟨g, x, none⟩) hg (.int .i64 v)
          obtain ⟨g3, e2, _, hm3, hf3⟩ := S2.cellAt (by simpa using HOL.out) hyn
          obtain ⟨ad3, e3, hc3⟩ := (H'.out.below B2).at_ hlt2
          rw [HGY.out] at hc3
          simp only [Option.some.injEq, Addr.mk.injEq, and_true] at e2 e3
          subst e2 e3
          have S3 := Lib.hid (S2.stored (by simpa using HOL.out) y v).1
          have B3 := Lib.hid (B2.setCell (p := ⟨g, y, none⟩) hg (.int .i64 v))
          clear S1 S2 B1 B2 ho0 hb0
          go_wp2
          go_roundw
          case rel =>
            refine ⟨m + 1, _, by omega, by go_num, S3.out, B3.out, ?_⟩
            have h1 := HVV.out
            have := hx.out.step HP.out HQ.out HL.out (v := v) (by rw [Hx.out]; exact hlt2) (by omega) (by rw [HGNX.out]; omega) (by rw [HGNY.out]; omega) (by rw [HGNX.out, HGNY.out]; omega)
            rw [HGNX.out, HGNY.out] at this
            exact this
          case measure => simp [intOf]; omega
        · have hmn : m = n := by omega
          subst hmn
          go_wp2
          go_roundw
          case rel =>
            refine ⟨k + 1, out, by omega, by go_num, ho, hb, ?_⟩
            have := hx.out
            rw [← Hx.out] at this
            exact hr.out.next HP.out HQ.out HL.out (by rw [Hx.out]; exact hlt) this
          case measure => simp [intOf]; omega
    · have hkn : k = n := by omega
      have HK := Lib.hid hkn; clear hkn
      go_wp2
      go_ret
      refine ⟨_, rfl, ?_, hb.out⟩
      have e : out0 = orbL xs ys := Rounds.done (by have := hr.out; rw [HK.out, ← Hx.out] at this; exact this)
      rw [← e]; exact ho.out

end Go.Proofs.Ytcenffndclpjoaa

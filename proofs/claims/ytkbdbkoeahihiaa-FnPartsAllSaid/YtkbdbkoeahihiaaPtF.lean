/-
  The first permutation of a class: the model's and the program's.
-/
import Derived.Test.YtkbdbkoeahihiaaPtS
namespace Go.Proofs.Ytkbdbkoeahihiaa
open Go.RowKit

/-- How many points the first k cycles have. -/
def sn (xs : List Int) : Nat → Nat
  | 0 => 0
  | k + 1 => sn xs k + gn xs k
def cfL (xs : List Int) : Nat → List Int
  | 0 => []
  | k + 1 => cfL xs k ++ tab (gn xs k) fun i => ((sn xs k + (i + 1) % gn xs k : Nat) : Int)
def cf (xs : List Int) : List Int := cfL xs xs.length
theorem cf_in : ∀ xs ∈ allPts, (cf xs).length = sn xs xs.length ∧ (sn xs xs.length : Int) = sumI xs ∧ (∀ k, k < xs.length → sn xs (k + 1) ≤ sn xs xs.length) ∧ ∀ k, k < xs.length → ∀ i, i < gn xs k → gi (cf xs) (sn xs k + i) = ((sn xs k + (i + 1) % gn xs k : Nat) : Int) := by decide +kernel
def cfR (xs : List Int) : Bool × List Int := if pt xs = true then (true, cf xs) else (false, [])
theorem cfR_len {xs ys : List Int} {ok : Bool} (h : cfR xs = (ok, ys)) : ys.length ≤ 12 := by
  unfold cfR at h
  split at h
  · rename_i hb
    injection h with _ h
    have hp := Pt_of hb
    obtain ⟨a, b, _⟩ := cf_in xs hp.all
    have := hp.sum
    rw [← h, a]; omega
  · injection h with _ h; rw [← h]; simp

set_option maxHeartbeats 800000 in
theorem stillPerm_any (n : Nat) (w : World) (hn : n ≤ 1048576) :
    Calls Try.prog 55 #[.int .i64 n] w fun e w' => ∃ v, e = .returned v ∧ Own w' w.heap.size v (marks 0 n) ∧ Below w.heap.size w w' := by
  obtain ⟨i0, hinf, hz0, hz1, hz2⟩ := info_parts info_int
  go_enter Try.func55, Try.ntmps55
  go_wp2_with (at_make; refine wpList_make_full _ rfl _ _ 47 rfl w.heap.size 3 i0 (.int .i64 0) 1 Try.underlying47 hinf hz0 hz1 .i64 .i64 _ _ n rfl rfl rfl rfl (by rw [hz2]; omega) (by unfold maxLen; omega) (Nat.le_refl _) ?_; intro w1 hown1 hgrow1)
  have hb1 := Lib.hid (below_of_grown hgrow1 (Nat.le_refl _) (fun k hk => by cases hk))
  have ho1 := Lib.hid (Own.made hown1)
  clear hown1 hgrow1 hz0 hz1 hz2 hinf
  go_loopw [9] (fun i wr => ∃ (k : Nat) (zs : List Int), k ≤ n ∧ i = .int .i64 k ∧ Hid (Own wr w.heap.size (.slice (some ⟨w.heap.size, 0, none⟩) n n) zs) ∧ Hid (zs.length = n) ∧ Hid (Below w.heap.size w wr) ∧ Hid (∀ j, j < k → gi zs j = j)) (fun i _ => n - (intOf i).toNat)
  case atStart => exact ⟨0, _, Nat.zero_le _, rfl, ho1, by simp [Hid], hb1, fun j hj => absurd hj (by omega)⟩
  case round =>
    obtain ⟨k, zs, hk, rfl, ho, hzl, hb, hall⟩ := hrel
    by_cases hlt : k < n
    · obtain ⟨g, hg, _, hc3, hf3⟩ := ho.out.cellAt hzl.out hlt
      simp only [Option.some.injEq, Addr.mk.injEq, and_true] at hg
      subst hg
      have HS := Lib.hid (ho.out.stored hzl.out k (k : Int))
      go_wp2_with fail
      go_roundw
      case rel =>
        refine ⟨k + 1, _, by omega, by go_num, HS.out.1, by simpa [Hid] using hzl.out, hb.out.setCell (Nat.le_refl _) _, fun j hj => ?_⟩
        rw [gi_set _ _ _ _ (by rw [hzl.out]; exact hlt)]
        by_cases e : j = k
        · rw [if_pos e, e]
        · rw [if_neg e]; exact hall.out j (by omega)
      case measure => simp [intOf]; omega
    · obtain rfl : k = n := by omega
      go_wp2_with fail
      go_ret
      refine ⟨_, rfl, ?_, hb.out⟩
      have e : zs = marks 0 k := eq_of_gi (by rw [hzl.out, marks_len]) (fun j hj => by rw [hzl.out] at hj; rw [hall.out j hj, gi_marks hj]; omega)
      rw [← e]; exact ho.out

set_option maxHeartbeats 1600000 in
theorem classFirst_any (A : Option Addr) (n c : Nat) (xs : List Int) (w : World) (h : Rd w A n xs) (hp : Pt xs) :
    Calls Try.prog 38 #[.slice A n c] w fun e w' => ∃ v, e = .returned v ∧ Own w' w.heap.size v (cf xs) ∧ Below w.heap.size w w' := by
  have hn6 : n ≤ 6 := by have := hp.len; rw [h.1] at this; exact this
  have hsm := hp.sum
  obtain ⟨f1, f2, f3, f4⟩ := cf_in xs hp.all
  obtain ⟨s, hs⟩ : ∃ s, sn xs xs.length = s := ⟨_, rfl⟩
  rw [hs] at f1 f2 f3
  have hs6 : s ≤ 6 := by omega
  have H := Lib.hid h; have HP := Lib.hid hp; have Hx := Lib.hid h.1; have HS := Lib.hid hs; have HF1 := Lib.hid f1; have HF2 := Lib.hid f2; have HF3 := Lib.hid f3; have HF4 := Lib.hid f4; clear h hp hsm hs f1 f2 f3 f4
  go_enter Try.func38, Try.ntmps38
  go_wp2_with fail
  refine (sum_any A n c xs w H.out HP.out).mono ?_
  rintro e w1 ⟨rfl, rfl⟩
  rw [← HF2.out]
  go_wp2_with fail
  refine (stillPerm_any s w1 (by omega)).mono ?_
  rintro e w2 ⟨v, rfl, o, b⟩
  have hb1 := Lib.hid b
  obtain ⟨Av, cv, rfl, -, -⟩ := o.form' (n := s) (marks_len _ _)
  have ho1 := Lib.hid o; clear o b
  go_wp2_with fail
  go_loopw [4, 13] (fun b i wr => ∃ (k m : Nat) (zs : List Int), k ≤ n ∧ b = .int .i64 m ∧ i = .int .i64 k ∧ Hid (m = sn xs k) ∧ Hid (Own wr w1.heap.size (.slice Av s cv) zs) ∧ Hid (zs.length = s) ∧ Hid (Below w1.heap.size w1 wr) ∧ Hid (∀ j, j < m → gi zs j = gi (cf xs) j)) (fun _ i _ => n - (intOf i).toNat)
  case atStart => exact ⟨0, 0, _, Nat.zero_le _, rfl, rfl, rfl, ho1, marks_len _ _, hb1, fun j hj => absurd hj (by omega)⟩
  case round =>
    obtain ⟨k, m, zs, hk, rfl, rfl, hm, ho, hzl, hb, hall⟩ := hrel
    by_cases hlt : k < n
    · obtain ⟨ad, rfl, hc⟩ := (H.out.below hb.out).at_ hlt
      obtain ⟨x, hx, hx1, hx6, hgn⟩ := HP.out.nat (j := k) (by rw [Hx.out]; exact hlt)
      rw [hx] at hc
      have hmx : m + x ≤ s := by have := HF3.out k (by rw [Hx.out]; exact hlt); rw [sn, hgn, ← hm.out] at this; exact this
      have HX := Lib.hid hx; have HGN := Lib.hid hgn; clear hx hgn
      go_wp2_with fail
      go_loopw [18] (fun i wr => ∃ (q : Nat) (zs : List Int), q ≤ x ∧ i = .int .i64 q ∧ Hid (Own wr w1.heap.size (.slice Av s cv) zs) ∧ Hid (zs.length = s) ∧ Hid (Below w1.heap.size w1 wr) ∧ Hid (∀ j, j < m + q → gi zs j = gi (cf xs) j)) (fun i _ => x - (intOf i).toNat)
      case atStart => exact ⟨0, zs, Nat.zero_le _, rfl, ho, hzl, hb, hall⟩
      case round =>
        obtain ⟨q, zs, hq, rfl, ho, hzl, hb, hall⟩ := hrel
        by_cases hlt' : q < x
        · obtain ⟨p, hp⟩ : ∃ p, p = m + q := ⟨_, rfl⟩
          have hps : p < s := by omega
          obtain ⟨g, hg, hlg, hc3, hf3⟩ := ho.out.cellAt hzl.out hps
          subst hg
          obtain ⟨q1, hq1⟩ : ∃ q1, q1 = q + 1 := ⟨_, rfl⟩
          obtain ⟨r, hr⟩ : ∃ r, r = q1 % x := ⟨_, rfl⟩
          obtain ⟨u, hu⟩ : ∃ u, u = m + r := ⟨_, rfl⟩
          have hr6 : r < x := by rw [hr]; exact Nat.mod_lt _ (by omega)
          have g1 : IntKind.i64.wrap ((m : Int) + (q : Int)) = (p : Int) := by rw [IntWalk.i64_in _ (by omega)]; omega
          have g2 : IntKind.i64.wrap ((q : Int) + 1) = (q1 : Int) := wadd1 hq1 (by omega)
          have g3 : IntKind.i64.wrap ((q1 : Int).tmod (x : Int)) = (r : Int) := by rw [hr, ← Int.ofNat_tmod]; exact IntWalk.i64_in _ (by omega)
          have g4 : IntKind.i64.wrap ((m : Int) + (r : Int)) = (u : Int) := by rw [IntWalk.i64_in _ (by omega)]; omega
          have g5 : ¬ ((x : Int) = 0) := by omega
          have g6 : (q1 : Int) % (x : Int) = (r : Int) := by rw [hr]; omega
          have HS := Lib.hid (ho.out.stored hzl.out p (u : Int))
          have HV : Hid (gi (cf xs) p = (u : Int)) := by
            have := HF4.out k (by rw [Hx.out]; exact hlt) q (by rw [HGN.out]; exact hlt')
            rw [HGN.out, ← hm.out, ← hq1, ← hr, ← hu, ← hp] at this
            exact this
          have HQ1 := Lib.hid hq1; have HPP := Lib.hid hp
          clear hq1 hr hu hp
          go_wp2_with fail
          go_roundw
          case rel =>
            refine ⟨q + 1, _, by omega, by rw [HQ1.out], HS.out.1, by simpa [Hid] using hzl.out, hb.out.setCell hlg _, fun j hj => ?_⟩
            rw [gi_set _ _ _ _ (by rw [hzl.out]; exact hps)]
            by_cases e : j = p
            · rw [if_pos e, e, HV.out]
            · rw [if_neg e]; exact hall.out j (by have := HPP.out; omega)
          case measure => have := HQ1.out; simp [intOf]; omega
        · obtain rfl : q = x := by omega
          go_wp2_with fail
          go_roundw
          case rel => exact ⟨k + 1, m + q, zs, by omega, by go_num, by go_num, by rw [Hid, sn, HGN.out, ← hm.out], ho, hzl, hb, hall.out⟩
          case measure => simp [intOf]; omega
    · obtain rfl : k = n := by omega
      go_wp2_with fail
      go_ret
      refine ⟨_, rfl, ?_, hb.out⟩
      have e : zs = cf xs := eq_of_gi (by rw [hzl.out, HF1.out]) (fun j hj => hall.out j (by rw [hzl.out] at hj; rw [hm.out, ← Hx.out, HS.out]; exact hj))
      rw [← e]; exact ho.out

theorem take_one {T : List Int} {m : Nat} {u : Int} (h : m < T.length) (hu : gi T m = u) : T.take (m + 1) = T.take m ++ [u] := by
  rw [List.take_succ_eq_append_getElem h, ← gi_eq h, hu]

theorem own_take {w : World} {lo m s : Nat} {v : Value} {T : List Int} (hT : T.length = s) (hm : m ≤ s) (h : w.ownsRow lo 3 1 v m (ints (T.take m))) : Own w lo v (T.take m) := by
  unfold Own
  rw [show (T.take m).length = m from by rw [List.length_take]; omega]
  exact h

set_option maxHeartbeats 1600000 in
theorem spec_cfR (w : World) (A : Option Addr) (c n : Nat) (xs : List Int) (h : Rd w A n xs) (hn : n ≤ 1048576) {ok : Bool} {ys : List Int} (hR : cfR xs = (ok, ys)) :
    Calls Try.prog 58 #[.slice A n c] w fun e w' => ∃ v, e = .returned (.tuple #[v, .bool ok]) ∧ Own w' w.heap.size v ys ∧ Below w.heap.size w w' := by
  obtain ⟨i0, hinf, hz0, hz1, hz2⟩ := info_parts info_int
  have H := Lib.hid h; have Hx := Lib.hid h.1; have HR := Lib.hid hR; clear h hR
  by_cases hb : pt xs = true
  · obtain ⟨rfl, rfl⟩ : ok = true ∧ ys = cf xs := by have := HR.out; rw [cfR, if_pos hb] at this; simpa [eq_comm] using this
    clear HR
    have hp := Pt_of hb
    have hn6 : n ≤ 6 := by have := hp.len; rw [Hx.out] at this; exact this
    have hsm := hp.sum
    obtain ⟨f1, f2, f3, f4⟩ := cf_in xs hp.all
    obtain ⟨s, hs⟩ : ∃ s, sn xs xs.length = s := ⟨_, rfl⟩
    rw [hs] at f1 f2 f3
    have hs6 : s ≤ 6 := by omega
    have HP := Lib.hid hp; have HS := Lib.hid hs; have HF1 := Lib.hid f1; have HF2 := Lib.hid f2; have HF3 := Lib.hid f3; have HF4 := Lib.hid f4; clear hp hsm hs f1 f2 f3 f4
    go_enter Try.func58, Try.ntmps58
    go_wp2_with fail
    go_loopw [4, 5] (fun v i wr => ∃ (k m : Nat), k ≤ n ∧ i = .int .i64 k ∧ Hid (m = sn xs k) ∧ m ≤ s ∧ Hid (wr.ownsRow w.heap.size 3 1 v m (ints ((cf xs).take m))) ∧ Hid (Below w.heap.size w wr)) (fun _ i _ => n - (intOf i).toNat)
    case atStart => exact ⟨0, 0, Nat.zero_le _, rfl, rfl, Nat.zero_le _, Own.empty (Nat.le_refl _), (Below.refl _ _).alloc (Nat.le_refl _) _⟩
    case round =>
      obtain ⟨k, m, hk, rfl, hm, hms, ho, hB⟩ := hrel
      have hbs := hB.out.size
      by_cases hlt : k < n
      · obtain ⟨Av, cv, rfl, -, -⟩ := Own.form' (own_take HF1.out hms ho.out) (n := m) (by rw [List.length_take, HF1.out]; omega)
        obtain ⟨x, hx, hx1, hx6, hgn⟩ := HP.out.nat (j := k) (by rw [Hx.out]; exact hlt)
        have hmx : m + x ≤ s := by have := HF3.out k (by rw [Hx.out]; exact hlt); rw [sn, hgn, ← hm.out] at this; exact this
        have HX := Lib.hid hx; have HGN := Lib.hid hgn; clear hx hgn
        go_wp2_with fail
        refine (spec_ptq wr A c n xs (H.out.below hB.out) hn hb).mono ?_
        rintro e w1 ⟨rfl, q, rfl⟩
        go_wp2_with fail
        go_loopw [4, 7] (fun v i wr => ∃ (j : Nat), j + 1 ≤ x ∧ i = .int .i64 (j + 1 : Nat) ∧ Hid (wr.ownsRow w.heap.size 3 1 v (m + j) (ints ((cf xs).take (m + j)))) ∧ Hid (Below w.heap.size w wr)) (fun _ i _ => x - (intOf i).toNat)
        case atStart => exact ⟨0, hx1, rfl, ho.out, below_drewN hB.out _⟩
        case round =>
          obtain ⟨j, hj, rfl, ho, hB⟩ := hrel
          have hbs := hB.out.size
          obtain ⟨j1, hj1⟩ : ∃ j1, j1 = j + 1 := ⟨_, rfl⟩
          rw [← hj1]
          obtain ⟨ad, rfl, hc⟩ := (H.out.below hB.out).at_ hlt
          rw [HX.out] at hc
          by_cases hlt' : j1 < x
          · obtain ⟨p, hp⟩ : ∃ p, p = m + j1 := ⟨_, rfl⟩
            have g1 : IntKind.i64.wrap ((m : Int) + (j1 : Int)) = (p : Int) := by rw [IntWalk.i64_in _ (by omega)]; omega
            have HV : Hid (gi (cf xs) (m + j) = (p : Int)) := by
              have := HF4.out k (by rw [Hx.out]; exact hlt) j (by rw [HGN.out]; omega)
              rw [HGN.out, ← hm.out, ← hj1, Nat.mod_eq_of_lt hlt', ← hp] at this
              exact this
            have HJ1 := Lib.hid hj1; clear hj1 hp
            go_wp2_with (at_builtin; refine wpList_append_own _ rfl _ _ 23 rfl w.heap.size 3 i0 (.int .i64 0) 1 8 Try.underlying23 hinf hz0 hz1 hz2 rfl (by decide) _ _ _ rfl (ho.out.alloc _) ⟨wr.heap.size, 0, none⟩ 1 1 [.int .i64 p] rfl rfl (cell_one_new _ _ _) (by intro u hu; simp at hu; subst hu; rfl) (by unfold maxLen; omega) (by omega) (by simp; omega) ?_; intro v1 w1 hown1 hgrow1 _)
            have HO := Lib.hid hown1; have HGR := Lib.hid hgrow1; clear hown1 hgrow1
            go_wp2_with fail
            go_roundw
            case rel =>
              refine ⟨j1, by omega, by go_num, ?_, ?_⟩
              · have := HO.out
                rw [Hid, HJ1.out, ← Nat.add_assoc, take_one (by rw [HF1.out]; omega) HV.out, ints, List.map_append]
                exact this
              · exact (hB.out.alloc hbs _).grown HGR.out (by simp; omega) (fun j hj => (ho.out.lt j hj).1)
            case measure => simp [intOf]; omega
          · have HV : Hid (gi (cf xs) (m + j) = (m : Int)) := by
              have := HF4.out k (by rw [Hx.out]; exact hlt) j (by rw [HGN.out]; omega)
              rw [HGN.out, ← hm.out, show j + 1 = x by omega, Nat.mod_self, Nat.add_zero] at this
              exact this
            have hjx : j + 1 = x := by omega
            have HJX := Lib.hid hjx; have HJ1 := Lib.hid hj1; clear hj1 hjx
            go_wp2_with (at_builtin; refine wpList_append_own _ rfl _ _ 23 rfl w.heap.size 3 i0 (.int .i64 0) 1 8 Try.underlying23 hinf hz0 hz1 hz2 rfl (by decide) _ _ _ rfl (ho.out.alloc _) ⟨wr.heap.size, 0, none⟩ 1 1 [.int .i64 m] rfl rfl (cell_one_new _ _ _) (by intro u hu; simp at hu; subst hu; rfl) (by unfold maxLen; omega) (by omega) (by simp; omega) ?_; intro v1 w1 hown1 hgrow1 _)
            have HO := Lib.hid hown1; have HGR := Lib.hid hgrow1; clear hown1 hgrow1
            go_wp2_with fail
            go_roundw
            case rel =>
              refine ⟨k + 1, m + x, by omega, by go_num, by rw [Hid, sn, HGN.out, ← hm.out], hmx, ?_, ?_⟩
              · have := HO.out
                rw [Hid, ← HJX.out, ← Nat.add_assoc, take_one (by rw [HF1.out]; have := HJX.out; omega) HV.out, ints, List.map_append]
                exact this
              · exact (hB.out.alloc hbs _).grown HGR.out (by simp; omega) (fun j hj => (ho.out.lt j hj).1)
            case measure => simp [intOf]; omega
      · obtain rfl : k = n := by omega
        go_wp2_with fail
        refine (spec_ptq wr A c k xs (H.out.below hB.out) hn hb).mono ?_
        rintro e w1 ⟨rfl, q, rfl⟩
        go_wp2_with fail
        go_ret2
        refine ⟨_, rfl, ?_, below_drewN hB.out _⟩
        have e : m = s := by rw [hm.out, ← Hx.out, HS.out]
        have := ho.out
        rw [e, List.take_of_length_le (by rw [HF1.out]; exact Nat.le_refl _)] at this
        unfold Own
        rw [HF1.out]
        exact this
  · have hb' : pt xs = false := by simpa using hb
    obtain ⟨rfl, rfl⟩ : ok = false ∧ ys = [] := by have := HR.out; rw [cfR, if_neg hb] at this; simpa [eq_comm] using this
    clear HR hb
    go_enter Try.func58, Try.ntmps58
    go_wp2_with fail
    go_loopw [4, 5] (fun v i wr => i = .int .i64 0 ∧ Hid (Own wr w.heap.size v []) ∧ Hid (Below w.heap.size w wr)) (fun _ i _ => 0)
    case atStart => exact ⟨rfl, Own.empty (Nat.le_refl _), (Below.refl _ _).alloc (Nat.le_refl _) _⟩
    case round =>
      obtain ⟨rfl, ho, hB⟩ := hrel
      by_cases hlt : 0 < n
      · have hd : decide (0 < n) = true := by simpa using hlt
        go_wp2_with fail
        refine (spec_ptq wr A c n xs (H.out.below hB.out) hn hb').mono ?_
        rintro e w1 ⟨rfl, q, rfl⟩
        go_wp2_with fail
        refine (spec_ptq _ A c n xs ((H.out.below hB.out).drewN q) hn hb').mono ?_
        rintro e w1 ⟨rfl, q', rfl⟩
        go_wp2_with fail
        go_ret2
        exact ⟨_, rfl, ho.out, below_drewN hB.out _⟩
      · have hd : decide (0 < n) = false := by simpa using hlt
        go_wp2_with fail
        refine (spec_ptq wr A c n xs (H.out.below hB.out) hn hb').mono ?_
        rintro e w1 ⟨rfl, q, rfl⟩
        go_wp2_with fail
        go_ret2
        exact ⟨_, rfl, ho.out, below_drewN hB.out _⟩

set_option maxHeartbeats 800000 in
theorem impl_cfR (w : World) (A0 : Option Addr) (c0 n0 : Nat) (xs0 : List Int) (h0 : Rd w A0 n0 xs0) (hn0 : n0 ≤ 1048576) {ok : Bool} {ys : List Int} (hR : cfR xs0 = (ok, ys)) :
    Calls Try.prog 12 #[.slice A0 n0 c0] w fun e w' => ∃ v, e = .returned (.tuple #[v, .bool ok]) ∧ Own w' w.heap.size v ys ∧ Below w.heap.size w w' := by
  have H0 := Lib.hid h0; have HR := Lib.hid hR; clear h0 hR
  by_cases hb : pt xs0 = true
  · have HV := Lib.hid (Pt_of hb)
    obtain ⟨rfl, rfl⟩ : ok = true ∧ ys = cf xs0 := by have := HR.out; rw [cfR, if_pos hb] at this; simpa [eq_comm] using this
    clear HR
    go_enter Try.func12, Try.ntmps12
    go_wp2_with fail
    refine (impl_pts w A0 c0 n0 xs0 H0.out hn0 hb).mono ?_
    rintro e w1 ⟨rfl, rfl⟩
    go_wp2_with fail
    refine (classFirst_any A0 n0 c0 xs0 w1 H0.out HV.out).mono ?_
    rintro e w2 ⟨v, rfl, o, b⟩
    have HO := Lib.hid o; have HB2 := Lib.hid b; clear o b
    go_wp2_with fail
    go_ret2
    exact ⟨v, rfl, HO.out, HB2.out⟩
  · have hb' : pt xs0 = false := by simpa using hb
    obtain ⟨rfl, rfl⟩ : ok = false ∧ ys = [] := by have := HR.out; rw [cfR, if_neg hb] at this; simpa [eq_comm] using this
    clear HR hb
    go_enter Try.func12, Try.ntmps12
    go_wp2_with fail
    refine (impl_pts w A0 c0 n0 xs0 H0.out hn0 hb').mono ?_
    rintro e w1 ⟨rfl, rfl⟩
    go_wp2_with fail
    go_ret2
    exact ⟨_, rfl, Own.nil_ _ _, Below.refl _ _⟩

end Go.Proofs.Ytkbdbkoeahihiaa

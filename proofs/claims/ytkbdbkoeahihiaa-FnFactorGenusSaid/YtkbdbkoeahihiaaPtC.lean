/-
  Conjugate partitions: the model's and the program's.
-/
import Derived.Test.YtkbdbkoeahihiaaPtV
import Derived.Test.YtkbdbkoeahihiaaMul
namespace Go.Proofs.Ytkbdbkoeahihiaa
open Go.RowKit

/-- How many of the first k numbers are greater than m. -/
def cntP (xs : List Int) : Nat → Nat → Int
  | 0, _ => 0
  | k + 1, m => cntP xs k m + if (m : Int) < gi xs k then 1 else 0
theorem cntP_le (xs : List Int) (k m : Nat) : 0 ≤ cntP xs k m ∧ cntP xs k m ≤ k := by
  induction k with
  | zero => simp [cntP]
  | succ k ih => simp only [cntP]; split <;> omega
def cj (xs : List Int) : List Int := tab (gn xs 0) fun m => cntP xs xs.length m
theorem cj_len (xs : List Int) : (cj xs).length = gn xs 0 := tab_len _ _
def cjR (xs : List Int) : Bool × List Int := if pt xs = true then (true, cj xs) else (false, [])
theorem Pt.nat {xs : List Int} (h : Pt xs) {j : Nat} (hj : j < xs.length) : ∃ x : Nat, gi xs j = (x : Int) ∧ 1 ≤ x ∧ x ≤ 6 ∧ gn xs j = x := by
  have := h.le hj
  obtain ⟨x, hx⟩ := Int.eq_ofNat_of_zero_le (show 0 ≤ gi xs j by omega)
  exact ⟨x, hx, by omega, by omega, gn_of hx⟩
theorem Pt.first {xs : List Int} (h : Pt xs) : ∀ j, j < xs.length → gi xs j ≤ gi xs 0 := by
  intro j
  induction j with
  | zero => intro _; exact Int.le_refl _
  | succ j ih =>
    intro hj
    have a := h.2.2.1 (j + 1) hj (by omega)
    rw [Nat.add_sub_cancel] at a
    have := ih (by omega)
    omega
theorem cjR_len {xs ys : List Int} {ok : Bool} (h : cjR xs = (ok, ys)) : ys.length ≤ 12 := by
  unfold cjR at h
  split at h
  · rename_i hb
    injection h with _ h
    obtain ⟨x, _, _, h6, hg⟩ := (Pt_of hb).nat (j := 0) (by have := (Pt_of hb).1; omega)
    rw [← h, cj_len, hg]; omega
  · injection h with _ h; rw [← h]; simp

set_option maxHeartbeats 1600000 in
theorem conjP_any (A : Option Addr) (n c : Nat) (xs : List Int) (w : World) (h : Rd w A n xs) (hp : Pt xs) :
    Calls Try.prog 44 #[.slice A n c] w fun e w' => ∃ v, e = .returned v ∧ Own w' w.heap.size v (cj xs) ∧ Below w.heap.size w w' := by
  obtain ⟨i0, hinf, hz0, hz1, hz2⟩ := info_parts info_int
  have hn1 : 1 ≤ n := by have := hp.1; rw [h.1] at this; exact this
  have hn6 : n ≤ 6 := by have := hp.len; rw [h.1] at this; exact this
  obtain ⟨ad, rfl, hc⟩ := h.at_ (k := 0) (by omega)
  obtain ⟨p0, hp0, hp1, hp6, hpg⟩ := hp.nat (j := 0) (by rw [h.1]; omega)
  rw [hp0, addz] at hc
  have HF : Hid (∀ j, j < n → gi xs j ≤ p0) := fun j hj => by rw [← hp0]; exact hp.first j (by rw [h.1]; exact hj)
  have HP := Lib.hid hp; have H := Lib.hid h; have Hx := Lib.hid h.1; have HG := Lib.hid hpg; clear h hp hp0 hpg
  go_enter Try.func44, Try.ntmps44
  go_wp2_with (at_make; refine wpList_make_full _ rfl _ _ 48 rfl w.heap.size 3 i0 (.int .i64 0) 1 Try.underlying48 hinf hz0 hz1 .i64 .i64 _ _ p0 rfl rfl rfl rfl (by rw [hz2]; omega) (by unfold maxLen; omega) (Nat.le_refl _) ?_; intro w1 hown1 hgrow1)
  have hb1 := Lib.hid (below_of_grown hgrow1 (Nat.le_refl _) (fun k hk => by cases hk))
  have ho1 := Lib.hid (Own.made hown1)
  clear hown1 hgrow1 hz0 hz1 hz2 hinf hc
  go_loopw [13] (fun i wr => ∃ (k : Nat) (zs : List Int), k ≤ n ∧ i = .int .i64 k ∧ Hid (Own wr w.heap.size (.slice (some ⟨w.heap.size, 0, none⟩) p0 p0) zs) ∧ Hid (zs.length = p0) ∧ Hid (Below w.heap.size w wr) ∧ Hid (∀ m, m < p0 → gi zs m = cntP xs k m)) (fun i _ => n - (intOf i).toNat)
  case atStart => exact ⟨0, _, Nat.zero_le _, rfl, ho1, by simp [Hid], hb1, fun m hm => by rw [gi_eq (by simpa using hm)]; simp [cntP]⟩
  case round =>
    obtain ⟨k, zs, hk, rfl, ho, hzl, hb, hall⟩ := hrel
    by_cases hlt : k < n
    · obtain ⟨ad', e1, hc⟩ := (H.out.below hb.out).at_ hlt
      simp only [Option.some.injEq] at e1
      subst e1
      obtain ⟨x, hx, hx1, hx6, hgn⟩ := HP.out.nat (j := k) (by rw [Hx.out]; exact hlt)
      have hxp : x ≤ p0 := by have := HF.out k hlt; omega
      rw [hx] at hc
      have HX := Lib.hid hx; clear hx hgn
      go_wp2_with fail
      go_loopw [18] (fun i wr => ∃ (m : Nat) (zs : List Int), m ≤ x ∧ i = .int .i64 m ∧ Hid (Own wr w.heap.size (.slice (some ⟨w.heap.size, 0, none⟩) p0 p0) zs) ∧ Hid (zs.length = p0) ∧ Hid (Below w.heap.size w wr) ∧ Hid (∀ q, q < p0 → gi zs q = cntP xs k q + if q < m then 1 else 0)) (fun i _ => x - (intOf i).toNat)
      case atStart => exact ⟨0, zs, Nat.zero_le _, rfl, ho, hzl, hb, fun q hq => by rw [if_neg (by omega), hall.out q hq]; omega⟩
      case round =>
        obtain ⟨m, zs, hm, rfl, ho, hzl, hb, hall⟩ := hrel
        by_cases hlt' : m < x
        · have hmp : m < p0 := by omega
          obtain ⟨g, hg, _, hc3, hf3⟩ := ho.out.cellAt hzl.out hmp
          simp only [Option.some.injEq, Addr.mk.injEq, and_true] at hg
          subst hg
          have hv : gi zs m = cntP xs k m := by rw [hall.out m hmp, if_neg (by omega)]; omega
          have hcl := cntP_le xs k m
          have HS := Lib.hid (ho.out.stored hzl.out m (gi zs m + 1))
          have hw := wadd (a := gi zs m) (b := 1) (by omega) (by omega)
          have HV := Lib.hid hv; clear hv hcl
          go_wp2_with fail
          go_roundw
          case rel =>
            refine ⟨m + 1, _, by omega, by go_num, HS.out.1, by simpa [Hid] using hzl.out, hb.out.setCell (Nat.le_refl _) _, fun q hq => ?_⟩
            rw [gi_set _ _ _ _ (by rw [hzl.out]; exact hmp)]
            by_cases e : q = m
            · rw [if_pos e, e, if_pos (by omega), HV.out]
            · rw [if_neg e, hall.out q hq]
              by_cases e' : q < m
              · rw [if_pos e', if_pos (by omega)]
              · rw [if_neg e', if_neg (by omega)]
          case measure => simp [intOf]; omega
        · go_wp2_with fail
          go_roundw
          case rel =>
            refine ⟨k + 1, zs, by omega, by go_num, ho, hzl, hb, fun q hq => ?_⟩
            rw [hall.out q hq, cntP, HX.out]
            have : q < m ↔ (q : Int) < x := by omega
            simp only [this]
          case measure => simp [intOf]; omega
    · obtain rfl : k = n := by omega
      go_wp2_with fail
      go_ret
      refine ⟨_, rfl, ?_, hb.out⟩
      have e : zs = cj xs := eq_of_gi (by rw [hzl.out, cj_len, HG.out]) (fun j hj => by rw [hzl.out] at hj; rw [hall.out j hj, cj, gi_tab (by rw [HG.out]; exact hj), Hx.out])
      rw [← e]; exact ho.out

set_option maxRecDepth 20000 in
set_option maxHeartbeats 1600000 in
theorem l5Conj_any (A : Option Addr) (n c : Nat) (xs : List Int) (w : World) (h : Rd w A n xs) (hp : Pt xs) :
    Calls Try.prog 79 #[.slice A n c] w fun e w' => ∃ v, e = .returned v ∧ Own w' w.heap.size v (cj xs) ∧ Below w.heap.size w w' := by
  obtain ⟨i0, hinf, hz0, hz1, hz2⟩ := info_parts info_int
  have hn1 : 1 ≤ n := by have := hp.1; rw [h.1] at this; exact this
  have hn6 : n ≤ 6 := by have := hp.len; rw [h.1] at this; exact this
  obtain ⟨ad, rfl, hc0⟩ := h.at_ (k := 0) (by omega)
  obtain ⟨p0, hp0, hp1, hp6, hpg⟩ := hp.nat (j := 0) (by rw [h.1]; omega)
  have HP := Lib.hid hp; have H := Lib.hid h; have Hx := Lib.hid h.1; have HG := Lib.hid hpg; have HP0 := Lib.hid hp0; clear h hp hp0 hpg hc0
  go_enter Try.func79, Try.ntmps79
  go_wp2_with fail
  go_loopw [3, 4] (fun v i wr => ∃ k : Nat, k ≤ p0 ∧ i = .int .i64 (k + 1 : Nat) ∧ Hid (wr.ownsRow w.heap.size 3 1 v k (ints ((cj xs).take k))) ∧ Hid (Below w.heap.size w wr)) (fun _ i _ => p0 + 1 - (intOf i).toNat)
  case atStart => exact ⟨0, Nat.zero_le _, rfl, Own.empty (Nat.le_refl _), (Below.refl _ _).alloc (Nat.le_refl _) _⟩
  case round =>
    obtain ⟨k, hk, rfl, ho, hb⟩ := hrel
    have hbs := hb.out.size
    obtain ⟨k1, hk1⟩ : ∃ k1, k1 = k + 1 := ⟨_, rfl⟩
    rw [← hk1]
    obtain ⟨ad', e1, hc0⟩ := (H.out.below hb.out).at_ (k := 0) (by omega)
    simp only [Option.some.injEq] at e1
    subst e1
    rw [HP0.out, addz] at hc0
    by_cases hlt : k < p0
    · have hd : decide (k1 ≤ p0) = true := by simp; omega
      have HK1 := Lib.hid hk1
      have hk7 : k1 ≤ 6 := by omega
      clear hk1
      go_wp2_with fail
      go_loop [5, 6] (fun s i => ∃ (j : Nat) (t : Int), j ≤ n ∧ s = .int .i64 t ∧ i = .int .i64 j ∧ Hid (t = cntP xs j k)) (fun _ i => n - (intOf i).toNat)
      case atStart => exact ⟨0, 0, Nat.zero_le _, rfl, rfl, rfl⟩
      case round =>
        obtain ⟨j, t, hj, rfl, rfl, hT⟩ := hrel
        have hcl := cntP_le xs j k
        rw [← hT.out] at hcl
        by_cases hlt' : j < n
        · obtain ⟨ad', e1, hc⟩ := (H.out.below hb.out).at_ hlt'
          simp only [Option.some.injEq] at e1
          subst e1
          by_cases hge : (k1 : Int) ≤ gi xs j
          · have hd2 : decide ((k1 : Int) ≤ gi xs j) = true := by simpa using hge
            have hw := wadd (a := t) (b := 1) (by omega) (by omega)
            have HGE := Lib.hid hge; clear hge
            go_wp2_with fail
            go_round
            case rel => exact ⟨j + 1, t + 1, by omega, rfl, by go_num, by rw [Hid, cntP, if_pos (by have := HGE.out; have := HK1.out; omega), hT.out]⟩
            case measure => simp [intOf]; omega
          · have hd2 : decide ((k1 : Int) ≤ gi xs j) = false := by simpa using hge
            have HGE := Lib.hid hge; clear hge
            go_wp2_with fail
            go_round
            case rel => exact ⟨j + 1, t, by omega, rfl, by go_num, by rw [Hid, cntP, if_neg (by have := HGE.out; have := HK1.out; omega), hT.out]; omega⟩
            case measure => simp [intOf]; omega
        · obtain rfl : j = n := by omega
          go_wp2_with (at_builtin; refine wpList_append_own _ rfl _ _ 23 rfl w.heap.size 3 i0 (.int .i64 0) 1 8 Try.underlying23 hinf hz0 hz1 hz2 rfl (by decide) _ _ _ rfl (ho.out.alloc _) ⟨wr.heap.size, 0, none⟩ 1 1 [.int .i64 t] rfl rfl (cell_one_new _ _ _) (by intro u hu; simp at hu; subst hu; rfl) (by unfold maxLen; omega) (by omega) (by simp; omega) ?_; intro v1 w1 hown1 hgrow1 _)
          have HO := Lib.hid hown1; have HGR := Lib.hid hgrow1; clear hown1 hgrow1
          go_wp2_with fail
          go_roundw
          case rel =>
            refine ⟨k + 1, by omega, by have := HK1.out; subst this; go_num, ?_, ?_⟩
            · have := HO.out
              have e : (cj xs).take (k + 1) = (cj xs).take k ++ [t] := by
                have e2 : (cj xs)[k]'(by rw [cj_len, HG.out]; exact hlt) = t := by rw [← gi_eq, cj, gi_tab (by rw [HG.out]; exact hlt), Hx.out, hT.out]
                rw [List.take_succ_eq_append_getElem (by rw [cj_len, HG.out]; exact hlt), e2]
              rw [Hid, e, ints, List.map_append]
              exact this
            · exact (hb.out.alloc hbs _).grown HGR.out (by simp; omega) (fun j hj => (ho.out.lt j hj).1)
          case measure => have := HK1.out; simp [intOf]; omega
    · have hd : decide (k1 ≤ p0) = false := by simp; omega
      have hkn : k = p0 := by omega
      have HK := Lib.hid hkn; clear hkn
      go_wp2_with fail
      go_ret
      refine ⟨_, rfl, ?_, hb.out⟩
      have := ho.out
      rw [List.take_of_length_le (by rw [cj_len, HG.out, HK.out]; exact Nat.le_refl _)] at this
      unfold Own
      rw [cj_len, HG.out, ← HK.out]
      exact this

set_option maxHeartbeats 800000 in
theorem impl_cjR (w : World) (A0 : Option Addr) (c0 n0 : Nat) (xs0 : List Int) (h0 : Rd w A0 n0 xs0) (hn0 : n0 ≤ 1048576) {ok : Bool} {ys : List Int} (hR : cjR xs0 = (ok, ys)) :
    Calls Try.prog 16 #[.slice A0 n0 c0] w fun e w' => ∃ v, e = .returned (.tuple #[v, .bool ok]) ∧ Own w' w.heap.size v ys ∧ Below w.heap.size w w' := by
  have H0 := Lib.hid h0; have HR := Lib.hid hR; clear h0 hR
  by_cases hb : pt xs0 = true
  · have HV := Lib.hid (Pt_of hb)
    obtain ⟨rfl, rfl⟩ : ok = true ∧ ys = cj xs0 := by have := HR.out; rw [cjR, if_pos hb] at this; simpa [eq_comm] using this
    clear HR
    go_enter Try.func16, Try.ntmps16
    go_wp2_with fail
    refine (impl_pt w A0 c0 n0 xs0 H0.out hn0 hb).mono ?_
    rintro e w1 ⟨rfl, b⟩
    have HB := Lib.hid b; have H01 := Lib.hid (H0.out.below b); clear b
    go_wp2_with fail
    refine (conjP_any A0 n0 c0 xs0 w1 H01.out HV.out).mono ?_
    rintro e w2 ⟨v, rfl, o, b⟩
    have HO := Lib.hid (o.mono HB.out.size); have HB2 := Lib.hid (HB.out.trans (b.mono HB.out.size)); clear o b
    go_wp2_with fail
    go_ret2
    exact ⟨v, rfl, HO.out, HB2.out⟩
  · have hb' : pt xs0 = false := by simpa using hb
    obtain ⟨rfl, rfl⟩ : ok = false ∧ ys = [] := by have := HR.out; rw [cjR, if_neg hb] at this; simpa [eq_comm] using this
    clear HR hb
    go_enter Try.func16, Try.ntmps16
    go_wp2_with fail
    refine (impl_pt w A0 c0 n0 xs0 H0.out hn0 hb').mono ?_
    rintro e w1 ⟨rfl, b⟩
    have HB := Lib.hid b; clear b
    go_wp2_with fail
    go_ret2
    exact ⟨_, rfl, Own.nil_ _ _, HB.out⟩

end Go.Proofs.Ytkbdbkoeahihiaa

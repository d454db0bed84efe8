/-
  Contracts of the small functions of package laws that compare, copy, mark and look at slices of ints.
-/
import Derived.Test.YtdbiegmekmfgdaaBase
import Derived.Lib.BufferMore
namespace Go.Proofs.Ytdbiegmekmfgdaa
open Go.RowKit

theorem ret_bool {a b : Bool} (h : a = b) : Ending.returned (.bool a) = .returned (.bool b) := by rw [h]
theorem ret_int {a b : Int} (h : a = b) : Ending.returned (.int .i64 a) = .returned (.int .i64 b) := by rw [h]

set_option maxHeartbeats 400000 in
theorem eqIntS_any (A A' : Option Addr) (n m c c' : Nat) (xs ys : List Int) (w : World) (h : Rd w A n xs) (h' : Rd w A' m ys) (hn : n ≤ maxLen) (hm : m ≤ maxLen) :
    Calls Try.prog 19 #[.slice A n c, .slice A' m c'] w fun e w' => e = .returned (.bool (eqB xs ys)) ∧ ∃ k, w' = w.drewN k := by
  unfold maxLen at hn hm
  have hxl := h.1
  have hyl := h'.1
  by_cases hnm : n = m
  · subst hnm
    have H := Lib.hid h; have H' := Lib.hid h'; clear h h'
    have Hx := Lib.hid hxl; have Hy := Lib.hid hyl; clear hxl hyl
    have ht : (((n : Nat) : Int) != n) = false := by simp
    go_enter Try.func19, Try.ntmps19
    go_wp2
    go_loopw [5] (fun i wr => ∃ k q : Nat, k ≤ n ∧ i = .int .i64 k ∧ wr = w.drewN q ∧ Hid (∀ j, j < k → gi xs j = gi ys j)) (fun i _ => n - (intOf i).toNat)
    case atStart => exact ⟨0, 0, Nat.zero_le _, rfl, rfl, fun j hj => absurd hj (by omega)⟩
    case round =>
      obtain ⟨k, q, hk, rfl, rfl, hall⟩ := hrel
      by_cases hlt : k < n
      · obtain ⟨ad, rfl, hc⟩ := H.out.at_ hlt
        obtain ⟨ad', rfl, hc'⟩ := H'.out.at_ hlt
        by_cases he : gi xs k = gi ys k
        · have he' : (gi xs k != gi ys k) = false := by simp [he]
          have HE := Lib.hid he; clear he
          go_wp2
          go_quiet (fail)
          go_wp2
          go_roundw
          case rel => exact ⟨k + 1, q + _, by omega, by go_num, rfl, fun j hj => by
            by_cases e : j = k
            · subst e; exact HE.out
            · exact hall.out j (by omega)⟩
          case measure => simp [intOf]; omega
        · have he' : (gi xs k != gi ys k) = true := by simp [he]
          have HE := Lib.hid he; clear he
          go_wp2
          go_quiet (fail)
          go_wp2
          go_ret
          exact ⟨ret_bool (by
            symm
            simp only [eqB, decide_eq_false_iff_not]
            intro e; exact HE.out (by rw [e])), q + _, World.drewN_drewN _ _ _⟩
      · go_wp2
        go_ret
        exact ⟨ret_bool (eqB_true (eq_of_gi (by rw [Hx.out, Hy.out]) (fun j hj => hall.out j (by rw [Hx.out] at hj; omega)))).symm, _, rfl⟩
  · have ht : (((n : Nat) : Int) != m) = true := by simp; omega
    have hne : eqB xs ys = false := by
      simp only [eqB, decide_eq_false_iff_not]
      intro e; apply hnm; rw [← hxl, ← hyl, e]
    have Hx := Lib.hid hne; clear hne hxl hyl h h'
    go_enter Try.func19, Try.ntmps19
    go_wp2
    go_ret
    exact ⟨ret_bool Hx.out.symm, 0, rfl⟩


set_option maxHeartbeats 400000 in
theorem toIntS_any (A : Option Addr) (n c : Nat) (xs : List Int) (w : World) (h : Rd w A n xs) (hn : n ≤ 17592186044416) :
    Calls Try.prog 17 #[.slice A n c] w fun e w' => ∃ v, e = .returned v ∧ Own w' w.heap.size v xs ∧ Below w.heap.size w w' := by
  obtain ⟨i0, hi, hz0, hz1, hz2⟩ := info_parts info_int
  have hxl := h.1
  have H := Lib.hid h; clear h
  have Hx := Lib.hid hxl; clear hxl
  have HZ := Lib.hid (And.intro hz1 hz2)
  go_enter Try.func17, Try.ntmps17
  go_wp2_with (at_make; refine wpList_make_full _ rfl _ _ 22 rfl w.heap.size 3 i0 (.int .i64 0) 1 Try.underlying22 hi hz0 hz1 .i64 .i64 _ _ n rfl rfl rfl rfl (by rw [hz2]; omega) (by unfold maxLen; omega) (Nat.le_refl _) ?_; intro w1 hown1 hgrow1)
  have hb1 := below_of_grown hgrow1 (Nat.le_refl _) (fun k hk => by cases hk)
  have ho1 := Own.made hown1
  clear hown1 hgrow1 hz0 hz1 hz2 hi HZ
  go_loopw [4] (fun i wr => ∃ (k : Nat) (ys : List Int), k ≤ n ∧ i = .int .i64 k ∧ Own wr w.heap.size (.slice (some ⟨w.heap.size, 0, none⟩) n n) ys ∧ Hid (ys.length = n) ∧ Below w.heap.size w wr ∧ Hid (∀ j, j < k → gi ys j = gi xs j)) (fun i _ => n - (intOf i).toNat)
  case atStart => exact ⟨0, _, Nat.zero_le _, rfl, ho1, by simp [Hid], hb1, fun j hj => absurd hj (by omega)⟩
  case round =>
    obtain ⟨k, ys, hk, rfl, ho, hyl, hb, hall⟩ := hrel
    clear ho1 hb1
    by_cases hlt : k < n
    · obtain ⟨ad, rfl, hc⟩ := (H.out.below hb).at_ hlt
      obtain ⟨g, hg, _, hc', hf'⟩ := ho.cellAt hyl.out hlt
      simp only [Option.some.injEq, Addr.mk.injEq, and_true] at hg
      subst hg
      have hst := ho.stored hyl.out k (gi xs k)
      have HS := Lib.hid hst; clear hst
      go_wp2
      go_roundw
      case rel =>
        refine ⟨k + 1, _, by omega, by go_num, HS.out.1, by simpa [Hid] using hyl.out, hb.setCell (Nat.le_refl _) _, fun j hj => ?_⟩
        rw [gi_set _ _ _ _ (by rw [hyl.out]; exact hlt)]
        by_cases e : j = k
        · rw [if_pos e, e]
        · rw [if_neg e]; exact hall.out j (by omega)
      case measure => simp [intOf]; omega
    · have HO := Lib.hid ho; clear ho
      have HB := Lib.hid hb; clear hb
      go_wp2
      go_ret
      refine ⟨_, rfl, ?_, HB.out⟩
      have e : ys = xs := eq_of_gi (by rw [hyl.out, Hx.out]) (fun j hj => hall.out j (by rw [hyl.out] at hj; omega))
      rw [← e]; exact HO.out

set_option maxHeartbeats 400000 in
theorem markIntS_any (lo : Nat) (A : Option Addr) (n c : Nat) (xs : List Int) (m : Int) (w : World) (h : Own w lo (.slice A n c) xs) (hxl : xs.length = n) (hn : n ≤ 17592186044416) (hm0 : 0 ≤ m) (hm : m ≤ 17592186044416) :
    Calls Try.prog 20 #[.slice A n c, .int .i64 m] w fun e w' => e = .returned (.int .i64 (m + n)) ∧ Own w' lo (.slice A n c) (marks m n) ∧ w.grownBy w' (Value.ownBlock (.slice A n c)) := by
  have H := Lib.hid h; clear h
  have Hx := Lib.hid hxl; clear hxl
  go_enter Try.func20, Try.ntmps20
  go_wp2
  go_loopw [1, 5] (fun u i wr => ∃ (k : Nat) (ys : List Int), k ≤ n ∧ i = .int .i64 k ∧ u = .int .i64 (m + k) ∧ Own wr lo (.slice A n c) ys ∧ Hid (ys.length = n) ∧ w.grownBy wr (Value.ownBlock (.slice A n c)) ∧ Hid (∀ j, j < k → gi ys j = m + j)) (fun _ i _ => n - (intOf i).toNat)
  case atStart => exact ⟨0, xs, Nat.zero_le _, rfl, by simp, H.out, Hx, World.grownBy.refl _ _, fun j hj => absurd hj (by omega)⟩
  case round =>
    obtain ⟨k, ys, hk, rfl, rfl, ho, hyl, hb, hall⟩ := hrel
    by_cases hlt : k < n
    · obtain ⟨g, rfl, _, hc', hf'⟩ := ho.cellAt hyl.out hlt
      have hst := ho.stored hyl.out k (m + k)
      have HS := Lib.hid hst; clear hst ho
      have HB := Lib.hid hb; clear hb
      go_wp2
      go_roundw
      case rel =>
        refine ⟨k + 1, _, by omega, by go_num, by go_num, HS.out.1, by simpa [Hid] using hyl.out, grownBy_trans HB.out HS.out.2, fun j hj => ?_⟩
        rw [gi_set _ _ _ _ (by rw [hyl.out]; exact hlt)]
        by_cases e : j = k
        · rw [if_pos e, e]
        · rw [if_neg e]; exact hall.out j (by omega)
      case measure => simp [intOf]; omega
    · have HO := Lib.hid ho; clear ho
      have HB := Lib.hid hb; clear hb
      have hkn : k = n := by omega
      go_wp2
      go_ret
      refine ⟨ret_int (by rw [hkn]), ?_, HB.out⟩
      have e : ys = marks m n := eq_of_gi (by rw [hyl.out, marks_len]) (fun j hj => by rw [hyl.out] at hj; rw [hall.out j (by omega), gi_marks hj])
      rw [← e]; exact HO.out

set_option maxHeartbeats 400000 in
theorem heldIntS_any (A : Option Addr) (n c : Nat) (m : Int) (w : World) (h : Rd w A n (marks m n)) (hn : n ≤ 17592186044416) (hm0 : 0 ≤ m) (hm : m ≤ 17592186044416) :
    Calls Try.prog 21 #[.slice A n c, .int .i64 m] w fun e w' => e = .returned (.int .i64 (m + n)) ∧ w = w' := by
  have H := Lib.hid h; clear h
  go_enter Try.func21, Try.ntmps21
  go_wp2
  go_loop [1, 5] (fun u i => ∃ k : Nat, k ≤ n ∧ i = .int .i64 k ∧ u = .int .i64 (m + k)) (fun _ i => n - (intOf i).toNat)
  case atStart => exact ⟨0, Nat.zero_le _, rfl, by simp⟩
  case round =>
    obtain ⟨k, hk, rfl, rfl⟩ := hrel
    by_cases hlt : k < n
    · obtain ⟨ad, rfl, hc⟩ := H.out.at_ hlt
      rw [gi_marks hlt] at hc
      have ht : ((m + (k : Int)) != (m + (k : Int))) = false := by simp
      go_wp2
      go_round
      case rel => exact ⟨k + 1, by omega, by go_num, by go_num⟩
      case measure => simp [intOf]; omega
    · have hkn : k = n := by omega
      have HK := Lib.hid hkn; clear hkn
      go_wp2
      go_ret
      exact ⟨ret_int (by rw [HK.out]), rfl⟩

/-- .. and of worlds only what lay there before. -/
theorem eqIntS_b (A A' : Option Addr) (n m c c' : Nat) (xs ys : List Int) (w : World) (h : Rd w A n xs) (h' : Rd w A' m ys) (hn : n ≤ maxLen) (hm : m ≤ maxLen) :
    Calls Try.prog 19 #[.slice A n c, .slice A' m c'] w fun e w' => e = .returned (.bool (eqB xs ys)) ∧ Below w.heap.size w w' :=
  (eqIntS_any A A' n m c c' xs ys w h h' hn hm).mono fun _ _ ⟨he, k, hw⟩ => ⟨he, hw ▸ below_drewN (Below.refl _ _) k⟩

theorem Rd.news {w : World} {ad : Addr} {n : Nat} {xs : List Int} (h : Rd w (some ad) n xs) : ∀ j u, (ints xs)[j]? = some u → w.cell? (ad.add j) = some u := by
  intro j u hj
  have hl : j < xs.length := by have := (List.getElem?_eq_some_iff.1 hj).1; rwa [ints_len] at this
  rw [ints_get hl] at hj
  obtain ⟨ad', e, hc⟩ := h.at_ (k := j) (by rw [← h.1]; exact hl)
  injection e with e
  subst e
  rw [hc]; exact hj
theorem ints_one {xs : List Int} : ∀ u ∈ ints xs, u.oneCell' = true := by
  intro u hu
  simp [ints] at hu
  obtain ⟨x, _, rfl⟩ := hu
  rfl
set_option maxHeartbeats 800000 in
theorem l2Copy_any (A : Option Addr) (n c : Nat) (xs : List Int) (w : World) (h : Rd w A n xs) (h1 : 1 ≤ n) (hn : n ≤ 1048576) :
    Calls Try.prog 62 #[.slice A n c] w fun e w' => ∃ v, e = .returned v ∧ Own w' w.heap.size v xs ∧ Below w.heap.size w w' := by
  obtain ⟨i0, hinf, hz0, hz1, hz2⟩ := info_parts info_int
  obtain ⟨ad, rfl, -⟩ := h.at_ (k := 0) (by omega)
  have hb0 : Below w.heap.size w (w.alloc (.cells #[] 3)) := (Below.refl _ _).alloc (Nat.le_refl _) _
  have HNW := Lib.hid (h.below hb0).news
  have HLN : Hid ((ints xs).length = n * 1) := by rw [Hid, ints_len, h.1, Nat.mul_one]
  have HE : Hid (Own (w.alloc (.cells #[] 3)) w.heap.size (.slice (some ⟨w.heap.size, 0, none⟩) 0 0) []) := Own.empty (Nat.le_refl _)
  have HB0 := Lib.hid hb0; have Hx := Lib.hid h.1; clear hb0 h
  go_enter Try.func62, Try.ntmps62
  go_wp2_with (at_builtin; refine wpList_append_own _ rfl _ _ 22 rfl w.heap.size 3 i0 (.int .i64 0) 1 8 Try.underlying22 hinf hz0 hz1 hz2 rfl (by decide) _ 0 [] rfl HE.out ad n c (ints xs) rfl HLN.out HNW.out ints_one (by unfold maxLen; omega) (by omega) (by simp) ?_; intro v1 w1 hown1 hgrow1 _; have HO := Lib.hid hown1; have HG := Lib.hid hgrow1; clear hown1 hgrow1)
  go_ret
  refine ⟨_, rfl, ?_, HB0.out.grown HG.out (by simp) (fun k hk => (HE.out.lt k hk).1)⟩
  have := HO.out
  unfold Own
  rw [Hx.out]
  simpa using this
set_option maxRecDepth 100000 in
set_option maxHeartbeats 800000 in
theorem clone_any (A : Option Addr) (n c : Nat) (xs : List Int) (w : World) (h : Rd w A n xs) (h1 : 1 ≤ n) (hn : n ≤ 1048576) :
    Calls Try.prog 66 #[.slice A n c] w fun e w' => ∃ v, e = .returned v ∧ Own w' w.heap.size v xs ∧ Below w.heap.size w w' := by
  obtain ⟨i0, hinf, hz0, hz1, hz2⟩ := info_parts info_int
  obtain ⟨ad, rfl, -⟩ := h.at_ (k := 0) (by omega)
  have hb0 : Below w.heap.size w (w.alloc (.cells #[] 3)) := (Below.refl _ _).alloc (Nat.le_refl _) _
  have HNW := Lib.hid (h.below hb0).news
  have HLN : Hid ((ints xs).length = n * 1) := by rw [Hid, ints_len, h.1, Nat.mul_one]
  have HE : Hid (Own (w.alloc (.cells #[] 3)) w.heap.size (.slice (some ⟨w.heap.size, 0, none⟩) 0 0) []) := Own.empty (Nat.le_refl _)
  have HB0 := Lib.hid hb0; have Hx := Lib.hid h.1; clear hb0 h
  have hq := Lib.run_eql_slice_some_nil w ad n c Try.underlying22
  go_enter Try.func66, Try.ntmps66
  go_wp2_with (at_builtin; refine wpList_append_own _ rfl _ _ 22 rfl w.heap.size 3 i0 (.int .i64 0) 1 8 Try.underlying22 hinf hz0 hz1 hz2 rfl (by decide) _ 0 [] rfl HE.out ad n c (ints xs) rfl HLN.out HNW.out ints_one (by unfold maxLen; omega) (by omega) (by simp) ?_; intro v1 w1 hown1 hgrow1 _; have HO := Lib.hid hown1; have HG := Lib.hid hgrow1; clear hown1 hgrow1)
  go_ret
  refine ⟨_, rfl, ?_, HB0.out.grown HG.out (by simp) (fun k hk => (HE.out.lt k hk).1)⟩
  have := HO.out
  unfold Own
  rw [Hx.out]
  simpa using this


/-- The sign of the first difference of two lists of as many numbers. -/
def cmpL : List Int → List Int → Int
  | x :: a, y :: b => if x < y then -1 else if y < x then 1 else cmpL a b
  | [], _ => 0
  | _ :: _, [] => 0
theorem cmpL_lt : ∀ {a b : List Int} {k : Nat}, k < a.length → a.length = b.length → (∀ j, j < k → gi a j = gi b j) → gi a k < gi b k → cmpL a b = -1
  | [], _, _, ha, _, _, _ => by simp at ha
  | _ :: _, [], _, _, hl, _, _ => by simp at hl
  | x :: a, y :: b, 0, _, _, _, h => by
    have h' : x < y := h
    rw [cmpL, if_pos h']
  | x :: a, y :: b, k + 1, ha, hl, he, h => by
    have e0 : x = y := he 0 (by omega)
    subst e0
    rw [cmpL, if_neg (by omega), if_neg (by omega)]
    exact cmpL_lt (k := k) (by simpa using ha) (by simpa using hl) (fun j hj => he (j + 1) (by omega)) h
theorem cmpL_gt : ∀ {a b : List Int} {k : Nat}, k < a.length → a.length = b.length → (∀ j, j < k → gi a j = gi b j) → gi b k < gi a k → cmpL a b = 1
  | [], _, _, ha, _, _, _ => by simp at ha
  | _ :: _, [], _, _, hl, _, _ => by simp at hl
  | x :: a, y :: b, 0, _, _, _, h => by
    have h' : y < x := h
    rw [cmpL, if_neg (by omega), if_pos h']
  | x :: a, y :: b, k + 1, ha, hl, he, h => by
    have e0 : x = y := he 0 (by omega)
    subst e0
    rw [cmpL, if_neg (by omega), if_neg (by omega)]
    exact cmpL_gt (k := k) (by simpa using ha) (by simpa using hl) (fun j hj => he (j + 1) (by omega)) h
theorem cmpL_self : ∀ a : List Int, cmpL a a = 0
  | [] => rfl
  | x :: a => by rw [cmpL, if_neg (by omega), if_neg (by omega)]; exact cmpL_self a
theorem cmpL_all {a b : List Int} (hl : a.length = b.length) (he : ∀ j, j < a.length → gi a j = gi b j) : cmpL a b = 0 := by
  have e : a = b := eq_of_gi hl he
  rw [e, cmpL_self]
theorem cmpL_zero : ∀ {a b : List Int}, a.length = b.length → cmpL a b = 0 → a = b
  | [], [], _, _ => rfl
  | [], _ :: _, hl, _ => by simp at hl
  | _ :: _, [], hl, _ => by simp at hl
  | x :: a, y :: b, hl, h => by
    rw [cmpL] at h
    split at h
    · omega
    · split at h
      · omega
      · rw [show x = y by omega, cmpL_zero (by simpa using hl) h]

set_option maxHeartbeats 1600000 in
theorem l2Order_any (A B : Option Addr) (n c d : Nat) (a b : List Int) (w : World) (h : Rd w A n a) (k : Rd w B n b) (hn : n ≤ 12) :
    Calls Try.prog 99 #[.slice A n c, .slice B n d] w fun e w' => e = .returned (.int .i64 (cmpL a b)) ∧ ∃ q, w' = w.drewN q := by
  have H := Lib.hid h; have K := Lib.hid k; have Hx := Lib.hid h.1; have Hy := Lib.hid k.1; clear h k
  go_enter Try.func99, Try.ntmps99
  go_wp2
  go_loopw [5] (fun i wr => ∃ k q : Nat, k ≤ n ∧ i = .int .i64 k ∧ wr = w.drewN q ∧ Hid (∀ j, j < k → gi a j = gi b j)) (fun i _ => n - (intOf i).toNat)
  case atStart => exact ⟨0, 0, Nat.zero_le _, rfl, rfl, fun j hj => absurd hj (by omega)⟩
  case round =>
    obtain ⟨k, q, hk, rfl, rfl, hall⟩ := hrel
    by_cases hlt : k < n
    · obtain ⟨ad, rfl, hc⟩ := H.out.at_ hlt
      obtain ⟨bd, rfl, hc'⟩ := K.out.at_ hlt
      by_cases h1 : gi a k < gi b k
      · go_wp2
        go_quiet (fail)
        go_wp2
        go_ret
        exact ⟨ret_int (cmpL_lt (by rw [Hx.out]; exact hlt) (Hx.out.trans Hy.out.symm) hall.out h1).symm, q + _, World.drewN_drewN _ _ _⟩
      · by_cases h2 : gi b k < gi a k
        · go_wp2
          go_quiet (fail)
          go_wp2
          go_quiet (fail)
          go_wp2
          go_ret
          exact ⟨ret_int (cmpL_gt (by rw [Hx.out]; exact hlt) (Hx.out.trans Hy.out.symm) hall.out h2).symm, q + _, by rw [World.drewN_drewN, World.drewN_drewN]⟩
        · have HE : Hid (gi a k = gi b k) := by rw [Hid]; omega
          go_wp2
          go_quiet (fail)
          go_wp2
          go_quiet (fail)
          go_wp2
          go_roundw
          case rel => exact ⟨k + 1, _, by omega, by go_num, rfl, fun j hj => by
            by_cases e : j = k
            · subst e; exact HE.out
            · exact hall.out j (by omega)⟩
          case measure => simp [intOf]; omega
    · go_wp2
      go_ret
      exact ⟨ret_int (cmpL_all (Hx.out.trans Hy.out.symm) (fun j hj => hall.out j (by rw [Hx.out] at hj; omega))).symm, _, rfl⟩
theorem l2Order_lit (A B : Option Addr) (n c d : Nat) (a b : List Int) (w : World) (h : Rd w A n a) (k : Rd w B n b) (hn : n ≤ 12) {r : Int} (hr : cmpL a b = r) :
    Calls Try.prog 99 #[.slice A n c, .slice B n d] w fun e w' => e = .returned (.int .i64 r) ∧ ∃ q, w' = w.drewN q := by
  subst hr; exact l2Order_any A B n c d a b w h k hn

end Go.Proofs.Ytdbiegmekmfgdaa

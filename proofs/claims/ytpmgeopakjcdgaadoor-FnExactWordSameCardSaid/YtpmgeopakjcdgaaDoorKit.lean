/-
  Contracts of the small functions of package laws that compare, copy, mark and look at slices of ints.
-/
import Derived.Test.YtpmgeopakjcdgaaDoorBase
import Derived.Lib.BufferMore
namespace Go.Proofs.YtpmgeopakjcdgaaDoor
open Go.RowKit

theorem ret_bool {a b : Bool} (h : a = b) : Ending.returned (.bool a) = .returned (.bool b) := by rw [h]
theorem ret_int {a b : Int} (h : a = b) : Ending.returned (.int .i64 a) = .returned (.int .i64 b) := by rw [h]

set_option maxHeartbeats 400000 in
theorem eqIntS_any (A A' : Option Addr) (n m c c' : Nat) (xs ys : List Int) (w : World) (h : Rd w A n xs) (h' : Rd w A' m ys) (hn : n ≤ maxLen) (hm : m ≤ maxLen) :
    Calls Tryd.prog 21 #[.slice A n c, .slice A' m c'] w fun e w' => e = .returned (.bool (eqB xs ys)) ∧ ∃ k, w' = w.drewN k := by
  unfold maxLen at hn hm
  have hxl := h.1
  have hyl := h'.1
  by_cases hnm : n = m
  · subst hnm
    have H := Lib.hid h; have H' := Lib.hid h'; clear h h'
    have Hx := Lib.hid hxl; have Hy := Lib.hid hyl; clear hxl hyl
    have ht : (((n : Nat) : Int) != n) = false := by simp
    go_enter Tryd.func21, Tryd.ntmps21
    go_wp2
    go_loopw [5] (fun i wr => ∃ k q : Nat, k ≤ n ∧ i = .int .i64 k ∧ wr = w.drewN q ∧ Hid (∀ j, j < k → gi xs j = gi ys j)) (fun i _ => n - (intOf i).toNat)
    case atStart => exact ⟨0, 0, Nat.zero_le _, rfl, rfl, fun j hj => absurd hj (by omega)⟩
    case round =>
      obtain ⟨k, q, hk, rfl, rfl, hall⟩ := hrel
      by_cases hlt : k < n
      · obtain ⟨ad, rfl, hc⟩ := H.out.at_ hlt
        obtain ⟨ad', rfl, hc'⟩ := H'.out.at_ hlt
        by_cases he : gi xs k = gi ys k
        · have he' : (gi xs k != gi ys k) = false := by simp [he]
          have HE := Lib.hid he; clear he
          go_wp2
          go_quiet (fail)
          go_wp2
          go_roundw
          case rel => exact ⟨k + 1, q + _, by omega, by go_num, rfl, fun j hj => by
            by_cases e : j = k
            · subst e; exact HE.out
            · exact hall.out j (by omega)⟩
          case measure => simp [intOf]; omega
        · have he' : (gi xs k != gi ys k) = true := by simp [he]
          have HE := Lib.hid he; clear he
          go_wp2
          go_quiet (fail)
          go_wp2
          go_ret
          exact ⟨ret_bool (by
            symm
            simp only [eqB, decide_eq_false_iff_not]
            intro e; exact HE.out (by rw [e])), q + _, World.drewN_drewN _ _ _⟩
      · go_wp2
        go_ret
        exact ⟨ret_bool (eqB_true (eq_of_gi (by rw [Hx.out, Hy.out]) (fun j hj => hall.out j (by rw [Hx.out] at hj; omega)))).symm, _, rfl⟩
  · have ht : (((n : Nat) : Int) != m) = true := by simp; omega
    have hne : eqB xs ys = false := by
      simp only [eqB, decide_eq_false_iff_not]
      intro e; apply hnm; rw [← hxl, ← hyl, e]
    have Hx := Lib.hid hne; clear hne hxl hyl h h'
    go_enter Tryd.func21, Tryd.ntmps21
    go_wp2
    go_ret
    exact ⟨ret_bool Hx.out.symm, 0, rfl⟩


set_option maxHeartbeats 400000 in
theorem markIntS_any (lo : Nat) (A : Option Addr) (n c : Nat) (xs : List Int) (m : Int) (w : World) (h : Own w lo (.slice A n c) xs) (hxl : xs.length = n) (hn : n ≤ 17592186044416) (hm0 : 0 ≤ m) (hm : m ≤ 17592186044416) :
    Calls Tryd.prog 22 #[.slice A n c, .int .i64 m] w fun e w' => e = .returned (.int .i64 (m + n)) ∧ Own w' lo (.slice A n c) (marks m n) ∧ w.grownBy w' (Value.ownBlock (.slice A n c)) := by
  have H := Lib.hid h; clear h
  have Hx := Lib.hid hxl; clear hxl
  go_enter Tryd.func22, Tryd.ntmps22
  go_wp2
  go_loopw [1, 5] (fun u i wr => ∃ (k : Nat) (ys : List Int), k ≤ n ∧ i = .int .i64 k ∧ u = .int .i64 (m + k) ∧ Own wr lo (.slice A n c) ys ∧ Hid (ys.length = n) ∧ w.grownBy wr (Value.ownBlock (.slice A n c)) ∧ Hid (∀ j, j < k → gi ys j = m + j)) (fun _ i _ => n - (intOf i).toNat)
  case atStart => exact ⟨0, xs, Nat.zero_le _, rfl, by simp, H.out, Hx, World.grownBy.refl _ _, fun j hj => absurd hj (by omega)⟩
  case round =>
    obtain ⟨k, ys, hk, rfl, rfl, ho, hyl, hb, hall⟩ := hrel
    by_cases hlt : k < n
    · obtain ⟨g, rfl, _, hc', hf'⟩ := ho.cellAt hyl.out hlt
      have hst := ho.stored hyl.out k (m + k)
      have HS := Lib.hid hst; clear hst ho
      have HB := Lib.hid hb; clear hb
      go_wp2
      go_roundw
      case rel =>
        refine ⟨k + 1, _, by omega, by go_num, by go_num, HS.out.1, by simpa [Hid] using hyl.out, grownBy_trans HB.out HS.out.2, fun j hj => ?_⟩
        rw [gi_set _ _ _ _ (by rw [hyl.out]; exact hlt)]
        by_cases e : j = k
        · rw [if_pos e, e]
        · rw [if_neg e]; exact hall.out j (by omega)
      case measure => simp [intOf]; omega
    · have HO := Lib.hid ho; clear ho
      have HB := Lib.hid hb; clear hb
      have hkn : k = n := by omega
      go_wp2
      go_ret
      refine ⟨ret_int (by rw [hkn]), ?_, HB.out⟩
      have e : ys = marks m n := eq_of_gi (by rw [hyl.out, marks_len]) (fun j hj => by rw [hyl.out] at hj; rw [hall.out j (by omega), gi_marks hj])
      rw [← e]; exact HO.out

set_option maxHeartbeats 400000 in
theorem heldIntS_any (A : Option Addr) (n c : Nat) (m : Int) (w : World) (h : Rd w A n (marks m n)) (hn : n ≤ 17592186044416) (hm0 : 0 ≤ m) (hm : m ≤ 17592186044416) :
    Calls Tryd.prog 23 #[.slice A n c, .int .i64 m] w fun e w' => e = .returned (.int .i64 (m + n)) ∧ w = w' := by
  have H := Lib.hid h; clear h
  go_enter Tryd.func23, Tryd.ntmps23
  go_wp2
  go_loop [1, 5] (fun u i => ∃ k : Nat, k ≤ n ∧ i = .int .i64 k ∧ u = .int .i64 (m + k)) (fun _ i => n - (intOf i).toNat)
  case atStart => exact ⟨0, Nat.zero_le _, rfl, by simp⟩
  case round =>
    obtain ⟨k, hk, rfl, rfl⟩ := hrel
    by_cases hlt : k < n
    · obtain ⟨ad, rfl, hc⟩ := H.out.at_ hlt
      rw [gi_marks hlt] at hc
      have ht : ((m + (k : Int)) != (m + (k : Int))) = false := by simp
      go_wp2
      go_round
      case rel => exact ⟨k + 1, by omega, by go_num, by go_num⟩
      case measure => simp [intOf]; omega
    · have hkn : k = n := by omega
      have HK := Lib.hid hkn; clear hkn
      go_wp2
      go_ret
      exact ⟨ret_int (by rw [HK.out]), rfl⟩

/-- .. and of worlds only what lay there before. -/
theorem eqIntS_b (A A' : Option Addr) (n m c c' : Nat) (xs ys : List Int) (w : World) (h : Rd w A n xs) (h' : Rd w A' m ys) (hn : n ≤ maxLen) (hm : m ≤ maxLen) :
    Calls Tryd.prog 21 #[.slice A n c, .slice A' m c'] w fun e w' => e = .returned (.bool (eqB xs ys)) ∧ Below w.heap.size w w' :=
  (eqIntS_any A A' n m c c' xs ys w h h' hn hm).mono fun _ _ ⟨he, k, hw⟩ => ⟨he, hw ▸ below_drewN (Below.refl _ _) k⟩

theorem Rd.news {w : World} {ad : Addr} {n : Nat} {xs : List Int} (h : Rd w (some ad) n xs) : ∀ j u, (ints xs)[j]? = some u → w.cell? (ad.add j) = some u := by
  intro j u hj
  have hl : j < xs.length := by have := (List.getElem?_eq_some_iff.1 hj).1; rwa [ints_len] at this
  rw [ints_get hl] at hj
  obtain ⟨ad', e, hc⟩ := h.at_ (k := j) (by rw [← h.1]; exact hl)
  injection e with e
  subst e
  rw [hc]; exact hj
theorem ints_one {xs : List Int} : ∀ u ∈ ints xs, u.oneCell' = true := by
  intro u hu
  simp [ints] at hu
  obtain ⟨x, _, rfl⟩ := hu
  rfl
/-- The sign of the first difference of two lists of as many numbers. -/
def cmpL : List Int → List Int → Int
  | x :: a, y :: b => if x < y then -1 else if y < x then 1 else cmpL a b
  | [], _ => 0
  | _ :: _, [] => 0
theorem cmpL_lt : ∀ {a b : List Int} {k : Nat}, k < a.length → a.length = b.length → (∀ j, j < k → gi a j = gi b j) → gi a k < gi b k → cmpL a b = -1
  | [], _, _, ha, _, _, _ => by simp at ha
  | _ :: _, [], _, _, hl, _, _ => by simp at hl
  | x :: a, y :: b, 0, _, _, _, h => by
    have h' : x < y := h
    rw [cmpL, if_pos h']
  | x :: a, y :: b, k + 1, ha, hl, he, h => by
    have e0 : x = y := he 0 (by omega)
    subst e0
    rw [cmpL, if_neg (by omega), if_neg (by omega)]
    exact cmpL_lt (k := k) (by simpa using ha) (by simpa using hl) (fun j hj => he (j + 1) (by omega)) h
theorem cmpL_gt : ∀ {a b : List Int} {k : Nat}, k < a.length → a.length = b.length → (∀ j, j < k → gi a j = gi b j) → gi b k < gi a k → cmpL a b = 1
  | [], _, _, ha, _, _, _ => by simp at ha
  | _ :: _, [], _, _, hl, _, _ => by simp at hl
  | x :: a, y :: b, 0, _, _, _, h => by
    have h' : y < x := h
    rw [cmpL, if_neg (by omega), if_pos h']
  | x :: a, y :: b, k + 1, ha, hl, he, h => by
    have e0 : x = y := he 0 (by omega)
    subst e0
    rw [cmpL, if_neg (by omega), if_neg (by omega)]
    exact cmpL_gt (k := k) (by simpa using ha) (by simpa using hl) (fun j hj => he (j + 1) (by omega)) h
theorem cmpL_self : ∀ a : List Int, cmpL a a = 0
  | [] => rfl
  | x :: a => by rw [cmpL, if_neg (by omega), if_neg (by omega)]; exact cmpL_self a
theorem cmpL_all {a b : List Int} (hl : a.length = b.length) (he : ∀ j, j < a.length → gi a j = gi b j) : cmpL a b = 0 := by
  have e : a = b := eq_of_gi hl he
  rw [e, cmpL_self]
theorem cmpL_zero : ∀ {a b : List Int}, a.length = b.length → cmpL a b = 0 → a = b
  | [], [], _, _ => rfl
  | [], _ :: _, hl, _ => by simp at hl
  | _ :: _, [], hl, _ => by simp at hl
  | x :: a, y :: b, hl, h => by
    rw [cmpL] at h
    split at h
    · omega
    · split at h
      · omega
      · rw [show x = y by omega, cmpL_zero (by simpa using hl) h]

end Go.Proofs.YtpmgeopakjcdgaaDoor

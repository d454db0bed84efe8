/-
  Contracts of the small functions of package laws that compare, copy, mark and look at slices of ints.
-/
import Derived.Test.YteajaikgeephmaaBase
import Derived.Lib.BufferMore
namespace Go.Proofs.Yteajaikgeephmaa
open Go.RowKit

theorem ret_bool {a b : Bool} (h : a = b) : Ending.returned (.bool a) = .returned (.bool b) := by rw [h]
theorem ret_int {a b : Int} (h : a = b) : Ending.returned (.int .i64 a) = .returned (.int .i64 b) := by rw [h]

theorem Rd.news {w : World} {ad : Addr} {n : Nat} {xs : List Int} (h : Rd w (some ad) n xs) : ∀ j u, (ints xs)[j]? = some u → w.cell? (ad.add j) = some u := by
  intro j u hj
  have hl : j < xs.length := by have := (List.getElem?_eq_some_iff.1 hj).1; rwa [ints_len] at this
  rw [ints_get hl] at hj
  obtain ⟨ad', e, hc⟩ := h.at_ (k := j) (by rw [← h.1]; exact hl)
  injection e with e
  subst e
  rw [hc]; exact hj
theorem ints_one {xs : List Int} : ∀ u ∈ ints xs, u.oneCell' = true := by
  intro u hu
  simp [ints] at hu
  obtain ⟨x, _, rfl⟩ := hu
  rfl
set_option maxHeartbeats 800000 in
theorem l2Copy_any (A : Option Addr) (n c : Nat) (xs : List Int) (w : World) (h : Rd w A n xs) (h1 : 1 ≤ n) (hn : n ≤ 1048576) :
    Calls Try.prog 81 #[.slice A n c] w fun e w' => ∃ v, e = .returned v ∧ Own w' w.heap.size v xs ∧ Below w.heap.size w w' := by
  obtain ⟨i0, hinf, hz0, hz1, hz2⟩ := info_parts info_int
  obtain ⟨ad, rfl, -⟩ := h.at_ (k := 0) (by omega)
  have hb0 : Below w.heap.size w (w.alloc (.cells #[] 3)) := (Below.refl _ _).alloc (Nat.le_refl _) _
  have HNW := Lib.hid (h.below hb0).news
  have HLN : Hid ((ints xs).length = n * 1) := by rw [Hid, ints_len, h.1, Nat.mul_one]
  have HE : Hid (Own (w.alloc (.cells #[] 3)) w.heap.size (.slice (some ⟨w.heap.size, 0, none⟩) 0 0) []) := Own.empty (Nat.le_refl _)
  have HB0 := Lib.hid hb0; have Hx := Lib.hid h.1; clear hb0 h
  go_enter Try.func81, Try.ntmps81
  go_wp2_with (at_builtin; refine wpList_append_own _ rfl _ _ 23 rfl w.heap.size 3 i0 (.int .i64 0) 1 8 Try.underlying23 hinf hz0 hz1 hz2 rfl (by decide) _ 0 [] rfl HE.out ad n c (ints xs) rfl HLN.out HNW.out ints_one (by unfold maxLen; omega) (by omega) (by simp) ?_; intro v1 w1 hown1 hgrow1 _; have HO := Lib.hid hown1; have HG := Lib.hid hgrow1; clear hown1 hgrow1)
  go_ret
  refine ⟨_, rfl, ?_, HB0.out.grown HG.out (by simp) (fun k hk => (HE.out.lt k hk).1)⟩
  have := HO.out
  unfold Own
  rw [Hx.out]
  simpa using this
set_option maxRecDepth 100000 in
set_option maxHeartbeats 800000 in
theorem clone_any (A : Option Addr) (n c : Nat) (xs : List Int) (w : World) (h : Rd w A n xs) (h1 : 1 ≤ n) (hn : n ≤ 1048576) :
    Calls Try.prog 83 #[.slice A n c] w fun e w' => ∃ v, e = .returned v ∧ Own w' w.heap.size v xs ∧ Below w.heap.size w w' := by
  obtain ⟨i0, hinf, hz0, hz1, hz2⟩ := info_parts info_int
  obtain ⟨ad, rfl, -⟩ := h.at_ (k := 0) (by omega)
  have hb0 : Below w.heap.size w (w.alloc (.cells #[] 3)) := (Below.refl _ _).alloc (Nat.le_refl _) _
  have HNW := Lib.hid (h.below hb0).news
  have HLN : Hid ((ints xs).length = n * 1) := by rw [Hid, ints_len, h.1, Nat.mul_one]
  have HE : Hid (Own (w.alloc (.cells #[] 3)) w.heap.size (.slice (some ⟨w.heap.size, 0, none⟩) 0 0) []) := Own.empty (Nat.le_refl _)
  have HB0 := Lib.hid hb0; have Hx := Lib.hid h.1; clear hb0 h
  have hq := Lib.run_eql_slice_some_nil w ad n c Try.underlying23
  go_enter Try.func83, Try.ntmps83
  go_wp2_with (at_builtin; refine wpList_append_own _ rfl _ _ 23 rfl w.heap.size 3 i0 (.int .i64 0) 1 8 Try.underlying23 hinf hz0 hz1 hz2 rfl (by decide) _ 0 [] rfl HE.out ad n c (ints xs) rfl HLN.out HNW.out ints_one (by unfold maxLen; omega) (by omega) (by simp) ?_; intro v1 w1 hown1 hgrow1 _; have HO := Lib.hid hown1; have HG := Lib.hid hgrow1; clear hown1 hgrow1)
  go_ret
  refine ⟨_, rfl, ?_, HB0.out.grown HG.out (by simp) (fun k hk => (HE.out.lt k hk).1)⟩
  have := HO.out
  unfold Own
  rw [Hx.out]
  simpa using this


/-- The sign of the first difference of two lists of as many numbers. -/
def cmpL : List Int → List Int → Int
  | x :: a, y :: b => if x < y then -1 else if y < x then 1 else cmpL a b
  | [], _ => 0
  | _ :: _, [] => 0
theorem cmpL_lt : ∀ {a b : List Int} {k : Nat}, k < a.length → a.length = b.length → (∀ j, j < k → gi a j = gi b j) → gi a k < gi b k → cmpL a b = -1
  | [], _, _, ha, _, _, _ => by simp at ha
  | _ :: _, [], _, _, hl, _, _ => by simp at hl
  | x :: a, y :: b, 0, _, _, _, h => by
    have h' : x < y := h
    rw [cmpL, if_pos h']
  | x :: a, y :: b, k + 1, ha, hl, he, h => by
    have e0 : x = y := he 0 (by omega)
    subst e0
    rw [cmpL, if_neg (by omega), if_neg (by omega)]
    exact cmpL_lt (k := k) (by simpa using ha) (by simpa using hl) (fun j hj => he (j + 1) (by omega)) h
theorem cmpL_gt : ∀ {a b : List Int} {k : Nat}, k < a.length → a.length = b.length → (∀ j, j < k → gi a j = gi b j) → gi b k < gi a k → cmpL a b = 1
  | [], _, _, ha, _, _, _ => by simp at ha
  | _ :: _, [], _, _, hl, _, _ => by simp at hl
  | x :: a, y :: b, 0, _, _, _, h => by
    have h' : y < x := h
    rw [cmpL, if_neg (by omega), if_pos h']
  | x :: a, y :: b, k + 1, ha, hl, he, h => by
    have e0 : x = y := he 0 (by omega)
    subst e0
    rw [cmpL, if_neg (by omega), if_neg (by omega)]
    exact cmpL_gt (k := k) (by simpa using ha) (by simpa using hl) (fun j hj => he (j + 1) (by omega)) h
theorem cmpL_self : ∀ a : List Int, cmpL a a = 0
  | [] => rfl
  | x :: a => by rw [cmpL, if_neg (by omega), if_neg (by omega)]; exact cmpL_self a
theorem cmpL_all {a b : List Int} (hl : a.length = b.length) (he : ∀ j, j < a.length → gi a j = gi b j) : cmpL a b = 0 := by
  have e : a = b := eq_of_gi hl he
  rw [e, cmpL_self]
theorem cmpL_zero : ∀ {a b : List Int}, a.length = b.length → cmpL a b = 0 → a = b
  | [], [], _, _ => rfl
  | [], _ :: _, hl, _ => by simp at hl
  | _ :: _, [], hl, _ => by simp at hl
  | x :: a, y :: b, hl, h => by
    rw [cmpL] at h
    split at h
    · omega
    · split at h
      · omega
      · rw [show x = y by omega, cmpL_zero (by simpa using hl) h]

set_option maxHeartbeats 1600000 in
theorem l2Order_any (A B : Option Addr) (n c d : Nat) (a b : List Int) (w : World) (h : Rd w A n a) (k : Rd w B n b) (hn : n ≤ 12) :
    Calls Try.prog 118 #[.slice A n c, .slice B n d] w fun e w' => e = .returned (.int .i64 (cmpL a b)) ∧ ∃ q, w' = w.drewN q := by
  have H := Lib.hid h; have K := Lib.hid k; have Hx := Lib.hid h.1; have Hy := Lib.hid k.1; clear h k
  go_enter Try.func118, Try.ntmps118
  go_wp2
  go_loopw [5] (fun i wr => ∃ k q : Nat, k ≤ n ∧ i = .int .i64 k ∧ wr = w.drewN q ∧ Hid (∀ j, j < k → gi a j = gi b j)) (fun i _ => n - (intOf i).toNat)
  case atStart => exact ⟨0, 0, Nat.zero_le _, rfl, rfl, fun j hj => absurd hj (by omega)⟩
  case round =>
    obtain ⟨k, q, hk, rfl, rfl, hall⟩ := hrel
    by_cases hlt : k < n
    · obtain ⟨ad, rfl, hc⟩ := H.out.at_ hlt
      obtain ⟨bd, rfl, hc'⟩ := K.out.at_ hlt
      by_cases h1 : gi a k < gi b k
      · go_wp2
        go_quiet (fail)
        go_wp2
        go_ret
        exact ⟨ret_int (cmpL_lt (by rw [Hx.out]; exact hlt) (Hx.out.trans Hy.out.symm) hall.out h1).symm, q + _, World.drewN_drewN _ _ _⟩
      · by_cases h2 : gi b k < gi a k
        · go_wp2
          go_quiet (fail)
          go_wp2
          go_quiet (fail)
          go_wp2
          go_ret
          exact ⟨ret_int (cmpL_gt (by rw [Hx.out]; exact hlt) (Hx.out.trans Hy.out.symm) hall.out h2).symm, q + _, by rw [World.drewN_drewN, World.drewN_drewN]⟩
        · have HE : Hid (gi a k = gi b k) := by rw [Hid]; omega
          go_wp2
          go_quiet (fail)
          go_wp2
          go_quiet (fail)
          go_wp2
          go_roundw
          case rel => exact ⟨k + 1, _, by omega, by go_num, rfl, fun j hj => by
            by_cases e : j = k
            · subst e; exact HE.out
            · exact hall.out j (by omega)⟩
          case measure => simp [intOf]; omega
    · go_wp2
      go_ret
      exact ⟨ret_int (cmpL_all (Hx.out.trans Hy.out.symm) (fun j hj => hall.out j (by rw [Hx.out] at hj; omega))).symm, _, rfl⟩
theorem l2Order_lit (A B : Option Addr) (n c d : Nat) (a b : List Int) (w : World) (h : Rd w A n a) (k : Rd w B n b) (hn : n ≤ 12) {r : Int} (hr : cmpL a b = r) :
    Calls Try.prog 118 #[.slice A n c, .slice B n d] w fun e w' => e = .returned (.int .i64 r) ∧ ∃ q, w' = w.drewN q := by
  subst hr; exact l2Order_any A B n c d a b w h k hn

end Go.Proofs.Yteajaikgeephmaa

/-
  Contracts of the small functions of package laws that compare, copy, mark and look at slices of ints.
-/
import Derived.Test.YtmhalaleoklplaaDoorBase
import Derived.Lib.BufferMore
namespace Go.Proofs.YtmhalaleoklplaaDoor
open Go.RowKit

theorem ret_bool {a b : Bool} (h : a = b) : Ending.returned (.bool a) = .returned (.bool b) := by rw [h]
theorem ret_int {a b : Int} (h : a = b) : Ending.returned (.int .i64 a) = .returned (.int .i64 b) := by rw [h]

theorem Rd.news {w : World} {ad : Addr} {n : Nat} {xs : List Int} (h : Rd w (some ad) n xs) : ∀ j u, (ints xs)[j]? = some u → w.cell? (ad.add j) = some u := by
  intro j u hj
  have hl : j < xs.length := by have := (List.getElem?_eq_some_iff.1 hj).1; rwa [ints_len] at this
  rw [ints_get hl] at hj
  obtain ⟨ad', e, hc⟩ := h.at_ (k := j) (by rw [← h.1]; exact hl)
  injection e with e
  subst e
  rw [hc]; exact hj
theorem ints_one {xs : List Int} : ∀ u ∈ ints xs, u.oneCell' = true := by
  intro u hu
  simp [ints] at hu
  obtain ⟨x, _, rfl⟩ := hu
  rfl
/-- The sign of the first difference of two lists of as many numbers. -/
def cmpL : List Int → List Int → Int
  | x :: a, y :: b => if x < y then -1 else if y < x then 1 else cmpL a b
  | [], _ => 0
  | _ :: _, [] => 0
theorem cmpL_lt : ∀ {a b : List Int} {k : Nat}, k < a.length → a.length = b.length → (∀ j, j < k → gi a j = gi b j) → gi a k < gi b k → cmpL a b = -1
  | [], _, _, ha, _, _, _ => by simp at ha
  | _ :: _, [], _, _, hl, _, _ => by simp at hl
  | x :: a, y :: b, 0, _, _, _, h => by
    have h' : x < y := h
    rw [cmpL, if_pos h']
  | x :: a, y :: b, k + 1, ha, hl, he, h => by
    have e0 : x = y := he 0 (by omega)
    subst e0
    rw [cmpL, if_neg (by omega), if_neg (by omega)]
    exact cmpL_lt (k := k) (by simpa using ha) (by simpa using hl) (fun j hj => he (j + 1) (by omega)) h
theorem cmpL_gt : ∀ {a b : List Int} {k : Nat}, k < a.length → a.length = b.length → (∀ j, j < k → gi a j = gi b j) → gi b k < gi a k → cmpL a b = 1
  | [], _, _, ha, _, _, _ => by simp at ha
  | _ :: _, [], _, _, hl, _, _ => by simp at hl
  | x :: a, y :: b, 0, _, _, _, h => by
    have h' : y < x := h
    rw [cmpL, if_neg (by omega), if_pos h']
  | x :: a, y :: b, k + 1, ha, hl, he, h => by
    have e0 : x = y := he 0 (by omega)
    subst e0
    rw [cmpL, if_neg (by omega), if_neg (by omega)]
    exact cmpL_gt (k := k) (by simpa using ha) (by simpa using hl) (fun j hj => he (j + 1) (by omega)) h
theorem cmpL_self : ∀ a : List Int, cmpL a a = 0
  | [] => rfl
  | x :: a => by rw [cmpL, if_neg (by omega), if_neg (by omega)]; exact cmpL_self a
theorem cmpL_all {a b : List Int} (hl : a.length = b.length) (he : ∀ j, j < a.length → gi a j = gi b j) : cmpL a b = 0 := by
  have e : a = b := eq_of_gi hl he
  rw [e, cmpL_self]
theorem cmpL_zero : ∀ {a b : List Int}, a.length = b.length → cmpL a b = 0 → a = b
  | [], [], _, _ => rfl
  | [], _ :: _, hl, _ => by simp at hl
  | _ :: _, [], hl, _ => by simp at hl
  | x :: a, y :: b, hl, h => by
    rw [cmpL] at h
    split at h
    · omega
    · split at h
      · omega
      · rw [show x = y by omega, cmpL_zero (by simpa using hl) h]

end Go.Proofs.YtmhalaleoklplaaDoor

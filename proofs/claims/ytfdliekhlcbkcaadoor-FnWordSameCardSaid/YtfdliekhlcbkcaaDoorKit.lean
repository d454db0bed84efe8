/-
  Contracts of the small functions of package laws that compare, copy, mark and look at slices of ints.
-/
import Derived.Test.YtfdliekhlcbkcaaDoorBase
import Derived.Lib.BufferMore
namespace Go.Proofs.YtfdliekhlcbkcaaDoor
open Go.RowKit

theorem ret_bool {a b : Bool} (h : a = b) : Ending.returned (.bool a) = .returned (.bool b) := by rw [h]
theorem ret_int {a b : Int} (h : a = b) : Ending.returned (.int .i64 a) = .returned (.int .i64 b) := by rw [h]

theorem Rd.news {w : World} {ad : Addr} {n : Nat} {xs : List Int} (h : Rd w (some ad) n xs) : ∀ j u, (ints xs)[j]? = some u → w.cell? (ad.add j) = some u := by
  intro j u hj
  have hl : j < xs.length := by have := (List.getElem?_eq_some_iff.1 hj).1; rwa [ints_len] at this
  rw [ints_get hl] at hj
  obtain ⟨ad', e, hc⟩ := h.at_ (k := j) (by rw [← h.1]; exact hl)
  injection e with e
  subst e
  rw [hc]; exact hj
theorem ints_one {xs : List Int} : ∀ u ∈ ints xs, u.oneCell' = true := by
  intro u hu
  simp [ints] at hu
  obtain ⟨x, _, rfl⟩ := hu
  rfl
set_option maxRecDepth 100000 in
set_option maxHeartbeats 800000 in
theorem clone_any (A : Option Addr) (n c : Nat) (xs : List Int) (w : World) (h : Rd w A n xs) (h1 : 1 ≤ n) (hn : n ≤ 1048576) :
    Calls Tryd.prog 63 #[.slice A n c] w fun e w' => ∃ v, e = .returned v ∧ Own w' w.heap.size v xs ∧ Below w.heap.size w w' := by
  obtain ⟨i0, hinf, hz0, hz1, hz2⟩ := info_parts info_int
  obtain ⟨ad, rfl, -⟩ := h.at_ (k := 0) (by omega)
  have hb0 : Below w.heap.size w (w.alloc (.cells #[] 3)) := (Below.refl _ _).alloc (Nat.le_refl _) _
  have HNW := Lib.hid (h.below hb0).news
  have HLN : Hid ((ints xs).length = n * 1) := by rw [Hid, ints_len, h.1, Nat.mul_one]
  have HE : Hid (Own (w.alloc (.cells #[] 3)) w.heap.size (.slice (some ⟨w.heap.size, 0, none⟩) 0 0) []) := Own.empty (Nat.le_refl _)
  have HB0 := Lib.hid hb0; have Hx := Lib.hid h.1; clear hb0 h
  have hq := Lib.run_eql_slice_some_nil w ad n c Tryd.underlying27
  go_enter Tryd.func63, Tryd.ntmps63
  go_wp2_with (at_builtin; refine wpList_append_own _ rfl _ _ 27 rfl w.heap.size 3 i0 (.int .i64 0) 1 8 Tryd.underlying27 hinf hz0 hz1 hz2 rfl (by decide) _ 0 [] rfl HE.out ad n c (ints xs) rfl HLN.out HNW.out ints_one (by unfold maxLen; omega) (by omega) (by simp) ?_; intro v1 w1 hown1 hgrow1 _; have HO := Lib.hid hown1; have HG := Lib.hid hgrow1; clear hown1 hgrow1)
  go_ret
  refine ⟨_, rfl, ?_, HB0.out.grown HG.out (by simp) (fun k hk => (HE.out.lt k hk).1)⟩
  have := HO.out
  unfold Own
  rw [Hx.out]
  simpa using this


/-- The sign of the first difference of two lists of as many numbers. -/
def cmpL : List Int → List Int → Int
  | x :: a, y :: b => if x < y then -1 else if y < x then 1 else cmpL a b
  | [], _ => 0
  | _ :: _, [] => 0
theorem cmpL_lt : ∀ {a b : List Int} {k : Nat}, k < a.length → a.length = b.length → (∀ j, j < k → gi a j = gi b j) → gi a k < gi b k → cmpL a b = -1
  | [], _, _, ha, _, _, _ => by simp at ha
  | _ :: _, [], _, _, hl, _, _ => by simp at hl
  | x :: a, y :: b, 0, _, _, _, h => by
    have h' : x < y := h
    rw [cmpL, if_pos h']
  | x :: a, y :: b, k + 1, ha, hl, he, h => by
    have e0 : x = y := he 0 (by omega)
    subst e0
    rw [cmpL, if_neg (by omega), if_neg (by omega)]
    exact cmpL_lt (k := k) (by simpa using ha) (by simpa using hl) (fun j hj => he (j + 1) (by omega)) h
theorem cmpL_gt : ∀ {a b : List Int} {k : Nat}, k < a.length → a.length = b.length → (∀ j, j < k → gi a j = gi b j) → gi b k < gi a k → cmpL a b = 1
  | [], _, _, ha, _, _, _ => by simp at ha
  | _ :: _, [], _, _, hl, _, _ => by simp at hl
  | x :: a, y :: b, 0, _, _, _, h => by
    have h' : y < x := h
    rw [cmpL, if_neg (by omega), if_pos h']
  | x :: a, y :: b, k + 1, ha, hl, he, h => by
    have e0 : x = y := he 0 (by omega)
    subst e0
    rw [cmpL, if_neg (by omega), if_neg (by omega)]
    exact cmpL_gt (k := k) (by simpa using ha) (by simpa using hl) (fun j hj => he (j + 1) (by omega)) h
theorem cmpL_self : ∀ a : List Int, cmpL a a = 0
  | [] => rfl
  | x :: a => by rw [cmpL, if_neg (by omega), if_neg (by omega)]; exact cmpL_self a
theorem cmpL_all {a b : List Int} (hl : a.length = b.length) (he : ∀ j, j < a.length → gi a j = gi b j) : cmpL a b = 0 := by
  have e : a = b := eq_of_gi hl he
  rw [e, cmpL_self]
theorem cmpL_zero : ∀ {a b : List Int}, a.length = b.length → cmpL a b = 0 → a = b
  | [], [], _, _ => rfl
  | [], _ :: _, hl, _ => by simp at hl
  | _ :: _, [], hl, _ => by simp at hl
  | x :: a, y :: b, hl, h => by
    rw [cmpL] at h
    split at h
    · omega
    · split at h
      · omega
      · rw [show x = y by omega, cmpL_zero (by simpa using hl) h]

end Go.Proofs.YtfdliekhlcbkcaaDoor

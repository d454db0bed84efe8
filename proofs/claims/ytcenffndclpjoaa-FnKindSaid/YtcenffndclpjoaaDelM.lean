/-
  EdgeDelete, EdgeContract: the model's.
-/
import Derived.Test.YtcenffndclpjoaaDelS
import Derived.Test.YtcenffndclpjoaaDual
namespace Go.Proofs.Ytcenffndclpjoaa
open Go.RowKit

/-- Turn with the ways past both darts, for the first k darts. -/
def pstP (src : List Int) (a b k : Nat) : List Int := tab src.length fun d => if d < k ∧ stayB a b d = true then (pastG src a b d : Int) else gi src d
theorem pstP_len (src : List Int) (a b k : Nat) : (pstP src a b k).length = src.length := tab_len _ _
theorem pstP_zero (src : List Int) (a b : Nat) : src = pstP src a b 0 := tab_ext rfl fun j hj => by rw [if_neg (fun h => by omega)]
theorem pstP_no {src : List Int} {a b k : Nat} (h : stayB a b k = false) : pstP src a b (k + 1) = pstP src a b k := by
  unfold pstP
  congr 1
  funext d
  by_cases hd : d = k
  · rw [if_neg (fun h' => by rw [hd, h] at h'; exact absurd h'.2 (by decide)), if_neg (fun h' => by omega)]
  · have : (d < k + 1 ∧ stayB a b d = true) ↔ (d < k ∧ stayB a b d = true) := ⟨fun h' => ⟨by omega, h'.2⟩, fun h' => ⟨by omega, h'.2⟩⟩
    simp only [this]
theorem pstP_yes {src : List Int} {a b k : Nat} (h : stayB a b k = true) (hk : k < src.length) : (pstP src a b k).set k (pastG src a b k : Int) = pstP src a b (k + 1) := by
  refine tab_ext (by simp [pstP_len]) fun j hj => ?_
  rw [gi_set _ _ _ _ (by rw [pstP_len]; exact hk)]
  by_cases h1 : j = k
  · rw [if_pos h1, h1, if_pos ⟨by omega, h⟩]
  · rw [if_neg h1, pstP, gi_tab hj]
    have : (j < k + 1 ∧ stayB a b j = true) ↔ (j < k ∧ stayB a b j = true) := ⟨fun h' => ⟨by omega, h'.2⟩, fun h' => ⟨by omega, h'.2⟩⟩
    simp only [this]
theorem pstP_into {src : List Int} (hs : Vld src) (a b k : Nat) : Into (pstP src a b k) src.length := fun j hj => by
  rw [pstP_len] at hj
  rw [pstP, gi_tab hj]
  split
  · rename_i h
    have := (past_stay hs hj h.2).2
    omega
  · exact hs.2.2.1 j hj
theorem pstP_out {src : List Int} {a b n : Nat} (hn : src.length = n) : outI a b n (gn (pstP src a b n)) (kpN a b n) = outI a b n (pastG src a b) (kpN a b n) := by
  refine outI_congr fun d hd hs => ?_
  exact gn_of (by rw [pstP, gi_tab (by rw [hn]; exact hd), if_pos ⟨hd, hs⟩])

theorem kd_pos {t f : List Int} {x : Int} (h : 0 ≤ kdR t f x) : mapV t f = true ∧ hasEB (f.length / 2) x = true := by
  unfold kdR at h
  split at h
  · rename_i hh; exact hh
  · omega
noncomputable def aE (f : List Int) (x : Int) : Nat := dE f x.toNat
noncomputable def dlR (t f : List Int) (x : Int) : Bool × List Int × List Int :=
  if 0 ≤ kdR t f x ∧ kdR t f x ≠ 1 ∧ t.length ≠ 2 then (true, delT t (aE f x) (gn f (aE f x)), delF f (aE f x) (gn f (aE f x))) else (false, [], [])
noncomputable def cnR (t f : List Int) (x : Int) : Bool × List Int × List Int :=
  if 0 ≤ kdR t f x ∧ kdR t f x ≠ 2 ∧ t.length ≠ 2 then (true, conT t (aE f x) (gn f (aE f x)), delF f (aE f x) (gn f (aE f x))) else (false, [], [])
theorem dlR_len {t f yt yf : List Int} {x : Int} {ok : Bool} (h : dlR t f x = (ok, yt, yf)) : yt.length ≤ 12 ∧ yf.length ≤ 12 := by
  unfold dlR at h
  split at h
  · rename_i hb
    have hm := mapV_iff.1 (kd_pos hb.1).1
    injection h with _ h; injection h with h1 h2
    rw [← h1, ← h2, delT, delF, outI_len, outI_len]
    have := kpN_le (a := aE f x) (b := gn f (aE f x)) t.length
    have := kpN_le (a := aE f x) (b := gn f (aE f x)) f.length
    have := hm.turn.2.1; have := hm.flip.2.1
    omega
  · injection h with _ h; injection h with h1 h2; rw [← h1, ← h2]; simp
theorem cnR_len {t f yt yf : List Int} {x : Int} {ok : Bool} (h : cnR t f x = (ok, yt, yf)) : yt.length ≤ 12 ∧ yf.length ≤ 12 := by
  unfold cnR at h
  split at h
  · rename_i hb
    have hm := mapV_iff.1 (kd_pos hb.1).1
    injection h with _ h; injection h with h1 h2
    rw [← h1, ← h2, conT, delF, outI_len, outI_len]
    have := kpN_le (a := aE f x) (b := gn f (aE f x)) t.length
    have := kpN_le (a := aE f x) (b := gn f (aE f x)) f.length
    have := hm.turn.2.1; have := hm.flip.2.1
    omega
  · injection h with _ h; injection h with h1 h2; rw [← h1, ← h2]; simp

end Go.Proofs.Ytcenffndclpjoaa

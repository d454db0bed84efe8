/-
  GluingAll: the model's and the program's.
-/
import Derived.Test.YtolbcdhkjhbepaaGlL
namespace Go.Proofs.Ytolbcdhkjhbepaa
open Go.RowKit
set_option linter.unusedVariables false
attribute [local go_sem] Oper.semAt_some

theorem allG_len : ∀ n, n < 4 → 1 ≤ n → (allG n).length ≤ 100 ∧ total (allG n) ≤ 1000 := by decide +kernel
def gallR (n : Int) : Bool × List (List Int) := if 1 ≤ n ∧ n ≤ 3 then (true, allG n.toNat) else (false, [])
theorem gallR_len {n : Int} {ys : List (List Int)} {ok : Bool} (h : gallR n = (ok, ys)) : ys.length ≤ 100 ∧ total ys ≤ 1000 := by
  unfold gallR at h
  split at h
  · rename_i hn
    injection h with _ h
    rw [← h]; exact allG_len n.toNat (by omega) (by omega)
  · injection h with _ h; rw [← h]; exact ⟨by simp, by decide⟩

set_option maxHeartbeats 1600000 in
theorem eachA (n : Nat) (h1 : 1 ≤ n) (h3 : n ≤ 3) (cb B : Nat) (W0 w : World) (hbx : w.heap[cb]? = some (.cells #[.slice none 0 0] 24 (0, 0))) (hB : B ≤ cb) (hbel : Below B W0 w) :
    Calls Try.prog 39 #[.int .i64 n, .func (.func 42) #[] #[.pointer (some ⟨cb, 0, none⟩)]] w fun e w' => e = .returned (.tuple #[]) ∧ ∃ pb, w.heap.size ≤ pb ∧ KeepA cb B W0 pb w' (allG n) := by
  have hcw : cb < w.heap.size := (Array.getElem?_eq_some_iff.1 hbx).1
  have HBX := Lib.hid hbx; have HBEL := Lib.hid hbel; clear hbx hbel
  have HL := Lib.hid (lit_own w (-1))
  have HBL : Hid (Below w.heap.size w (w.alloc (.cells #[.int .i64 (-1)] 3))) := (Below.refl _ _).alloc (Nat.le_refl _) _
  go_enter Try.func39, Try.ntmps39
  go_wp2_with fail
  refine (repeat_glu (some ⟨w.heap.size, 0, none⟩) 1 (2 * n) (-1) _ (HL.out.rd rfl) (by omega) (by omega)).mono ?_
  rintro e w2 ⟨v, rfl, o, b⟩
  obtain ⟨A, c, rfl, -, -⟩ := o.form' (show (List.replicate (2 * n) (-1 : Int)).length = 2 * n by simp)
  obtain ⟨pb, rfl, hpb, -, -⟩ := o.cellAt (k := 0) (show (List.replicate (2 * n) (-1 : Int)).length = 2 * n by simp) (by omega)
  rw [World.size_alloc] at hpb
  have hbw : Below w.heap.size w w2 := HBL.out.trans (b.mono (by simp))
  have hs := hbw.size
  have HI2 : Hid (KeepA cb B W0 pb w2 []) := ⟨⟨_, (hbw.block cb hcw).trans HBX.out, OwnSS.nil_⟩, HBEL.out.trans (hbw.mono (by omega)), by omega⟩
  have hf := noneL_free (2 * n)
  have HRA := Lib.hid (restAtA (visA cb B W0 pb hB (by omega)) n (noneL (2 * n)) (noneL_pg _) (by omega) w2 [] (2 * n) c HI2.out (o.mono (by simp; omega)) (noneL_len _) (noneL_pg _) (by omega) (by omega) (by rw [List.nil_append]; exact Nat.le_trans (allG_len n (by omega) h1).1 (by omega)))
  clear o b hf hbw
  go_wp2_with fail
  refine HRA.out.mono ?_
  rintro e w3 ⟨rfl, hi3, -⟩
  have HI3 := Lib.hid hi3; clear hi3
  go_wp2_with fail
  exact bodyPost_end (v := .tuple #[]) (by simp [results, Try.results39, go_sem]) rfl ⟨rfl, pb, by omega, HI3.out⟩

set_option maxHeartbeats 1600000 in
theorem impl_gallR (w : World) (n : Int) (hw : (Lit.int .i64 n).wf = true) {ok : Bool} {ys : List (List Int)} (hR : gallR n = (ok, ys)) :
    Calls Try.prog 18 #[.int .i64 n] w fun e w' => ∃ v, e = .returned (.tuple #[v, .bool ok]) ∧ OwnSS w' w.heap.size w'.heap.size v ys ∧ Below w.heap.size w w' := by
  by_cases h : 1 ≤ n ∧ n ≤ 3
  · obtain ⟨rfl, rfl⟩ : ok = true ∧ ys = allG n.toNat := by rw [gallR, if_pos h] at hR; simpa [eq_comm] using hR
    obtain ⟨n, rfl⟩ : ∃ k : Nat, n = k := ⟨n.toNat, by omega⟩
    rw [Int.toNat_natCast]
    have d1 : decide ((n : Int) < 1) = false := by simp; omega
    have d2 : decide ((3 : Int) < (n : Int)) = false := by simp; omega
    go_enter Try.func18, Try.ntmps18
    go_wp2_with fail
    refine (eachA n (by omega) (by omega) w.heap.size w.heap.size w (w.alloc (.cells #[.slice none 0 0] 24)) (heap_alloc_new w _) (Nat.le_refl _) ((Below.refl _ _).alloc (Nat.le_refl _) _)).mono ?_
    rintro e w2 ⟨rfl, pb, hpb, ⟨v, hv, hos⟩, hb, hs⟩
    rw [World.size_alloc] at hpb
    have c1 := cell_of_block hv
    have HOS := Lib.hid (hos.mono (lo' := w.heap.size) (by omega)); have HB := Lib.hid hb; clear hos hb hv
    go_wp2_with fail
    go_ret2
    exact ⟨_, rfl, HOS.out, HB.out⟩
  · obtain ⟨rfl, rfl⟩ : ok = false ∧ ys = [] := by rw [gallR, if_neg h] at hR; simpa [eq_comm] using hR
    by_cases d1 : n < 1
    · go_enter Try.func18, Try.ntmps18
      go_wp2_with fail
      go_ret2
      exact ⟨_, rfl, OwnSS.nil_, Below.refl _ _⟩
    have d2 : 3 < n := by omega
    go_enter Try.func18, Try.ntmps18
    go_wp2_with fail
    go_ret2
    exact ⟨_, rfl, OwnSS.nil_, Below.refl _ _⟩

set_option maxHeartbeats 1600000 in
theorem spec_gallR (w : World) (n : Int) (hw : (Lit.int .i64 n).wf = true) {ok : Bool} {ys : List (List Int)} (hR : gallR n = (ok, ys)) :
    Calls Try.prog 17 #[.int .i64 n] w fun e w' => ∃ v, e = .returned (.tuple #[v, .bool ok]) ∧ OwnSS w' w.heap.size w'.heap.size v ys ∧ Below w.heap.size w w' := by
  by_cases h : 1 ≤ n ∧ n ≤ 3
  · obtain ⟨rfl, rfl⟩ : ok = true ∧ ys = allG n.toNat := by rw [gallR, if_pos h] at hR; simpa [eq_comm] using hR
    have hd1 : (decide ((1 : Int) ≤ n) && decide (n ≤ 3)) = true := by simp [h]
    obtain ⟨n, rfl⟩ : ∃ k : Nat, n = k := ⟨n.toNat, by omega⟩
    rw [Int.toNat_natCast]
    have hf := noneL_free (2 * n)
    have hn1 : 1 ≤ n := by omega
    have hn3 : n ≤ 3 := by omega
    have HAL := Lib.hid (allAt n (by omega) (noneL (2 * n)) (noneL_pg _) (by omega))
    clear hf h hR
    go_enter Try.func17, Try.ntmps17
    go_wp2_with fail
    refine (in_any w n 1 3).mono ?_
    rintro x w' ⟨rfl, rfl⟩
    rw [hd1]
    go_wp2_with fail
    refine (l4Free_any w' n hn1 (by omega)).mono ?_
    rintro x w2 ⟨v, rfl, o, b⟩
    obtain ⟨A, c, rfl, -, -⟩ := o.form' (noneL_len (2 * n))
    have HO := Lib.hid o; have HB := Lib.hid b; clear o b
    go_wp2_with fail
    refine (HAL.out w2 w'.heap.size A c (2 * n) HO.out HB.out.size (noneL_len _) (noneL_pg _) (by omega) (by omega)).mono ?_
    rintro x w3 ⟨g0, m, cc, rfl, hm, os, b⟩
    have HOS : Hid (OwnSS w3 w'.heap.size w3.heap.size (.slice (some ⟨g0, 0, none⟩) m cc) (allG n)) := os
    have HB3 := Lib.hid (HB.out.trans (b.mono HB.out.size)); clear os b hm
    go_wp2_with fail
    go_ret2
    exact ⟨_, rfl, HOS.out, HB3.out⟩
  · obtain ⟨rfl, rfl⟩ : ok = false ∧ ys = [] := by rw [gallR, if_neg h] at hR; simpa [eq_comm] using hR
    have hd1 : (decide ((1 : Int) ≤ n) && decide (n ≤ 3)) = false := by simp; omega
    go_enter Try.func17, Try.ntmps17
    go_wp2_with fail
    refine (in_any w n 1 3).mono ?_
    rintro x w' ⟨rfl, rfl⟩
    rw [hd1]
    go_wp2_with fail
    go_ret2
    exact ⟨_, rfl, OwnSS.empty (Nat.le_refl _), (Below.refl _ _).alloc (Nat.le_refl _) _⟩

end Go.Proofs.Ytolbcdhkjhbepaa

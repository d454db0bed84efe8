/-
  FnTrees: the walk of the law.
-/
import Derived.Test.YtiochmdedpookaaDrawC
import Derived.Test.YtiochmdedpookaaCnt
namespace Go.Proofs.Ytiochmdedpookaa
open Go.RowKit

def sT (e : Int) : Nat → Int
  | 0 => 0
  | k + 1 => wrap64 (sT e k + wrap64 (treesF k * treesF (e - 1 - k)))
theorem trees_sum : ∀ e : Nat, e < 13 → 0 < e → sT e e = treesF e := by decide +kernel
theorem trees_pos : ∀ e : Nat, e < 13 → decide (treesF e < 0) = false := by decide +kernel

set_option maxRecDepth 20000 in
set_option maxHeartbeats 3200000 in
theorem walk_FnTrees (A : Option Addr) (n c : Nat) (bs : List Int) (w : World) (h : RdB w A n bs) (hm : n ≤ maxLen ∧ n ≤ c) :
    Calls Try.prog 6 #[.slice A n c] w fun e w' => e = .returned (.bool true) ∧ Below w.heap.size w w' := by
  have HB0 := Lib.hid h
  have hc := hm.2
  clear h hm
  by_cases hbig : 1048576 < n
  · have hd : decide ((1048576 : Int) < n) = true := by simp; omega
    go_enter Try.func6, Try.ntmps6
    go_wp2
    go_ret
    exact ⟨rfl, Below.refl _ _⟩
  have hd : decide ((1048576 : Int) < n) = false := by simp; omega
  have hnb : n ≤ 1048576 := by omega
  go_enter Try.func6, Try.ntmps6
  go_wp2_with fail
  refine (drawTrees_any w A n c bs HB0.out hnb hc).mono ?_
  rintro x w1 ⟨e, rfl, h1, h2, b1⟩
  have HB1 := Lib.hid b1; clear b1 hbig hc HB0
  have hw : (Lit.int .i64 e).wf = true := wf_far (by omega)
  obtain ⟨r, hr⟩ : ∃ r, treesF e = r := ⟨_, rfl⟩
  have HR := Lib.hid hr; clear hr
  have hrr : (r != r) = false := by simp
  have hrr2 : (r == r) = true := by simp
  go_wp2_with fail
  refine (impl_trees w1 e hw).mono ?_
  rintro x w' ⟨rfl, rfl⟩
  rw [HR.out]
  go_wp2_with fail
  refine (spec_trees w' e hw).mono ?_
  rintro x w2 ⟨rfl, rfl⟩
  rw [HR.out]
  by_cases hv : 0 ≤ e ∧ e ≤ 12
  · obtain ⟨k, rfl⟩ : ∃ k : Nat, e = k := ⟨e.toNat, by omega⟩
    have hneg : decide (r < 0) = false := by rw [← HR.out]; exact trees_pos k (by omega)
    have hk12 : k ≤ 12 := by omega
    clear hv h1 h2
    go_wp2_with fail
    go_loop [6, 7] (fun sv jv => ∃ j : Nat, j ≤ k ∧ jv = .int .i64 j ∧ sv = .int .i64 (sT k j)) (fun _ jv => k - (intOf jv).toNat)
    case atStart => exact ⟨0, by omega, rfl, rfl⟩
    case round =>
      obtain ⟨j, hj, rfl, rfl⟩ := hrel
      by_cases hlt : j < k
      · have hwj : (Lit.int .i64 (j : Int)).wf = true := wf_far (by omega)
        have hwj2 : (Lit.int .i64 ((k : Int) - 1 - j)).wf = true := wf_far (by omega)
        go_wp2_with fail
        refine (impl_trees w2 j hwj).mono ?_
        rintro x w3 ⟨rfl, rfl⟩
        go_wp2_with fail
        refine (impl_trees w3 (k - 1 - j) hwj2).mono ?_
        rintro x w4 ⟨rfl, rfl⟩
        go_wp2_with fail
        go_round
        case rel => exact ⟨j + 1, by omega, by go_num, rfl⟩
        case measure => simp [intOf]; omega
      · obtain rfl : j = k := by omega
        by_cases h0 : j = 0
        · subst h0
          have hr1 : (r == 1) = true := by rw [← HR.out]; decide +kernel
          go_wp2_with fail
          go_ret
          exact ⟨rfl, HB1.out⟩
        · have hz : ((j : Int) == 0) = false := by simp; omega
          have hz2 : decide (0 < j) = true := by simp; omega
          obtain ⟨sv, hsv⟩ : ∃ sv, sT j j = sv := ⟨_, rfl⟩
          have hs : (sv == r) = true := by rw [← hsv, trees_sum j (by omega) (by omega), HR.out]; simp
          rw [hsv]
          clear hsv
          go_wp2_with fail
          go_ret
          exact ⟨rfl, HB1.out⟩
  · have hneg : decide (r < 0) = true := by rw [← HR.out, treesF, if_neg hv]; rfl
    go_wp2_with fail
    go_ret
    exact ⟨rfl, HB1.out⟩

end Go.Proofs.Ytiochmdedpookaa

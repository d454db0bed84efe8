/-
  FnTreesMany: the walk of the law.
-/
import Derived.Test.YtfcgfeopmnjfjaaTrM
import Derived.Test.YtfcgfeopmnjfjaaDrawC
namespace Go.Proofs.Ytfcgfeopmnjfjaa
open Go.RowKit

set_option maxHeartbeats 800000 in
theorem drawTreesMany_any (w : World) (A : Option Addr) (n c : Nat) (bs : List Int) (h : RdB w A n bs) (hn : n ≤ 1048576) (hc : n ≤ c) :
    Calls Try.prog 27 #[.slice A n c] w fun x w' => ∃ e : Nat, x = .returned (.int .i64 e) ∧ e ≤ 4 ∧ Below w.heap.size w w' := by
  go_enter Try.func27, Try.ntmps27
  go_wp2_with fail
  refine (opened w A n c bs h hn hc).mono ?_
  rintro e w1 ⟨rfl, r1, b1, s1⟩
  go_wp2_with fail
  refine (pick_reads w1 w.heap.size 0 r1 (by omega) 5 (by omega) (by omega)).mono ?_
  rintro e w2 ⟨x, rfl, hx, -, g2⟩
  have HB := Lib.hid (below_grown b1 g2 (Nat.le_refl _) b1.size)
  clear r1 b1 g2
  go_wp2_with fail
  go_ret
  exact ⟨x, rfl, by omega, HB.out⟩
def tmB (x : Nat) : Bool := decide (1 ≤ x ∧ x ≤ 3 → 0 ≤ tmF x ∧ tmF x ≤ 200 ∧ 0 ≤ planeF x ∧ planeF x ≤ 1000 ∧ 2 * tmF x = planeF x * (x + 2))
theorem tmB_all : ∀ x : Nat, x < 5 → tmB x = true := by decide +kernel
theorem tm_law {x : Nat} (h : x < 5) (h1 : 1 ≤ x ∧ x ≤ 3) : 0 ≤ tmF x ∧ tmF x ≤ 200 ∧ 0 ≤ planeF x ∧ planeF x ≤ 1000 ∧ 2 * tmF x = planeF x * (x + 2) := by
  have := tmB_all x h
  simp only [tmB, decide_eq_true_eq] at this
  exact this h1

set_option maxRecDepth 100000 in
set_option maxHeartbeats 3200000 in
theorem walk_FnTreesMany (A0 : Option Addr) (n0 c0 : Nat) (bs0 : List Int) (w : World) (h0 : RdB w A0 n0 bs0) (hm0 : n0 ≤ maxLen ∧ n0 ≤ c0) :
    Calls Try.prog 6 #[.slice A0 n0 c0] w fun e w' => e = .returned (.bool true) ∧ Below w.heap.size w w' := by
  have HB0_0 := Lib.hid h0; have hc0 := hm0.2; have hml0 := hm0.1; clear h0 hm0; unfold maxLen at hml0
  by_cases hbig0 : 1048576 < n0
  · have hd : decide ((1048576 : Int) < n0) = true := by simp; omega
    go_enter Try.func6, Try.ntmps6
    go_wp2
    go_ret
    exact ⟨rfl, Below.refl _ _⟩
  have hd0 : decide ((1048576 : Int) < n0) = false := by simp; omega
  have hnb0 : n0 ≤ 1048576 := by omega
  clear hbig0
  go_enter Try.func6, Try.ntmps6
  go_wp2_with fail
  refine (drawTreesMany_any w A0 n0 c0 bs0 HB0_0.out hnb0 hc0).mono ?_
  rintro e w1 ⟨x, rfl, hx, b⟩
  have HB := Lib.hid b; have hs := b.size; clear b
  have hwf : (Lit.int .i64 (x : Int)).wf = true := wf_far (by omega)
  obtain ⟨T, hT⟩ : ∃ T, tmF (x : Int) = T := ⟨_, rfl⟩
  obtain ⟨P, hP⟩ : ∃ P, planeF (x : Int) = P := ⟨_, rfl⟩
  have htt : (T != T) = false := by simp
  have htt' : (T == T) = true := by simp
  have HT := Lib.hid hT; have HP := Lib.hid hP
  by_cases hv : 1 ≤ x ∧ x ≤ 3
  · obtain ⟨f1, f2, f3, f4, f5⟩ := tm_law (by omega) hv
    rw [hT] at f1 f2 f5
    rw [hP] at f3 f4 f5
    have hdn : decide (T < 0) = false := by simp; omega
    have hm : IntKind.i64.wrap (P * ((x : Int) + 2)) = 2 * T := by rw [← f5]; exact IntWalk.i64_in _ (by omega)
    clear hT hP f5
    go_wp2_with fail
    refine (impl_tm w1 x hwf).mono ?_
    rintro e w2 ⟨rfl, rfl⟩
    rw [HT.out]
    go_wp2_with fail
    refine (spec_tm w2 x hwf).mono ?_
    rintro e w3 ⟨rfl, rfl⟩
    rw [HT.out]
    go_wp2_with fail
    refine (impl_plane w3 x hwf).mono ?_
    rintro e w4 ⟨rfl, rfl⟩
    rw [HP.out]
    have h22 : (2 * T == 2 * T) = true := by simp
    go_wp2_with fail
    go_ret
    exact ⟨rfl, HB.out⟩
  · have hT1 : T = -1 := by rw [← hT, tmF, if_neg (by omega)]
    have hdn : decide (T < 0) = true := by simp; omega
    have HT1 := Lib.hid hT1
    clear hT hP hT1
    go_wp2_with fail
    refine (impl_tm w1 x hwf).mono ?_
    rintro e w2 ⟨rfl, rfl⟩
    rw [HT.out]
    go_wp2_with fail
    refine (spec_tm w2 x hwf).mono ?_
    rintro e w3 ⟨rfl, rfl⟩
    rw [HT.out]
    go_wp2_with fail
    go_ret
    exact ⟨rfl, HB.out⟩

end Go.Proofs.Ytfcgfeopmnjfjaa

/-
  Plain: the numbers of the written out forms. The draws of chapter 3's enumerations.
-/
import Derived.Test.YtakckkmhhedfpaaRootJ
import Derived.Test.YtakckkmhhedfpaaDrawE
namespace Go.Proofs.Ytakckkmhhedfpaa
open Go.RowKit
set_option linter.unusedVariables false

theorem gL_len {e : Nat} (h1 : 1 ≤ e) (h3 : e ≤ 3) (g : Int) : (gL e g).length = ((lits e).filter (genP g)).length := by rw [← gL_lits h1 h3, List.length_map]
theorem lstL_len {e : Nat} (h1 : 1 ≤ e) (h3 : e ≤ 3) (g : Int) : (lstL e g).length = (((lits e).filter (genP g)).filter isLeastP).length := by rw [← lstL_lits h1 h3, List.length_map]
def sumP (F : List Int × List Int → Int) : List (List Int × List Int) → Int
  | [] => 0
  | x :: l => F x + sumP F l
theorem sumL_P {n : Nat} {F : MV n → Int} {G : List Int × List Int → Int} : ∀ {l : List (MV n)}, (∀ x ∈ l, F x = G x.pr) → sumL_ F l = sumP G (l.map MV.pr)
  | [], _ => rfl
  | x :: l, h => by rw [sumL_, List.map_cons, sumP, h x (by simp), sumL_P fun y hy => h y (by simp [hy])]
def oneP (p : List Int × List Int) : Int := if cntF p.1 p.2 = 1 then 1 else 0
theorem roL_len {e : Nat} (h1 : 1 ≤ e) (h3 : e ≤ 3) (g : Int) : sumL_ oneF (gL e g) = sumP oneP ((lits e).filter (genP g)) := by
  rw [← gL_lits h1 h3]
  exact sumL_P fun x _ => rfl
/-- How often the form is that from the dart 0. -/
def turnsC (t f : List Int) : Nat → Nat
  | 0 => 0
  | k + 1 => turnsC t f k + (if formT t f k = formT t f 0 ∧ formF t f k = formF t f 0 then 1 else 0)
theorem turns_C (t f : List Int) : ∀ k, turnsTo t f k = turnsC t f k
  | 0 => rfl
  | k + 1 => by
    rw [turnsC]
    by_cases h : sameF t f k
    · rw [turnsTo_yes h, turns_C t f k, if_pos (show formT t f k = formT t f 0 ∧ formF t f k = formF t f 0 from h)]
    · rw [turnsTo_no h, turns_C t f k, if_neg (show ¬ (formT t f k = formT t f 0 ∧ formF t f k = formF t f 0) from h)]; rfl
def trnP (p : List Int × List Int) : Int := (p.1.length : Int).tdiv (turnsC p.1 p.2 p.1.length)
theorem rrL_len {e : Nat} (h1 : 1 ≤ e) (h3 : e ≤ 3) (g : Int) : sumL_ trnF (lstL e g) = sumP trnP (((lits e).filter (genP g)).filter isLeastP) := by
  rw [← lstL_lits h1 h3]
  refine sumL_P fun x _ => ?_
  unfold trnF trnP MV.pr
  simp only [x.ht, turns_C]

set_option maxHeartbeats 800000 in
theorem drawRc_any (w : World) (A : Option Addr) (n c : Nat) (bs : List Int) (h : RdB w A n bs) (hn : n ≤ 1048576) (hc : n ≤ c) :
    Calls Try.prog 25 #[.slice A n c] w fun x w' => ∃ e g : Int, x = .returned (.tuple #[.int .i64 e, .int .i64 g]) ∧ (-1 ≤ e ∧ e ≤ 4) ∧ (-1 ≤ g ∧ g ≤ 2) ∧ Below w.heap.size w w' := by
  go_enter Try.func25, Try.ntmps25
  go_wp2_with fail
  refine (opened w A n c bs h hn hc).mono ?_
  rintro e w1 ⟨rfl, r1, b1, s1⟩
  have HB1 := Lib.hid b1; have HS1 := Lib.hid b1.size; clear b1
  go_wp2_with fail
  refine (pick_reads w1 w.heap.size 0 r1 (by omega) 6 (by omega) (by omega)).mono ?_
  rintro e w2 ⟨x1, rfl, hx1, r2, g2⟩
  have HB2 := Lib.hid (below_grown HB1.out g2 (Nat.le_refl _) HS1.out)
  have HR2 := Lib.hid r2
  clear r1 g2 r2
  by_cases h0 : x1 = 0
  · subst h0
    go_wp2_with fail
    refine (edges_any w2 w.heap.size 1 3 HR2.out (by omega) (by omega) (by omega)).mono ?_
    rintro x w3 ⟨e, g, rfl, he, hg, g3⟩
    have HB3 := Lib.hid (below_grown HB2.out g3 (Nat.le_refl _) HB2.out.size)
    clear g3
    go_wp2_with fail
    go_ret2
    exact ⟨_, _, rfl, by omega, by omega, HB3.out⟩
  · have hx0 : ((x1 : Int) == 0) = false := by simp; omega
    go_wp2_with fail
    refine (edges_any w2 w.heap.size 1 2 HR2.out (by omega) (by omega) (by omega)).mono ?_
    rintro x w3 ⟨e, g, rfl, he, hg, g3⟩
    have HB3 := Lib.hid (below_grown HB2.out g3 (Nat.le_refl _) HB2.out.size)
    clear g3
    go_wp2_with fail
    go_ret2
    exact ⟨_, _, rfl, by omega, by omega, HB3.out⟩
set_option maxHeartbeats 800000 in
theorem drawRl_any (w : World) (A : Option Addr) (n c : Nat) (bs : List Int) (h : RdB w A n bs) (hn : n ≤ 1048576) (hc : n ≤ c) :
    Calls Try.prog 27 #[.slice A n c] w fun x w' => ∃ e g : Int, x = .returned (.tuple #[.int .i64 e, .int .i64 g]) ∧ (-1 ≤ e ∧ e ≤ 3) ∧ (-1 ≤ g ∧ g ≤ 2) ∧ Below w.heap.size w w' := by
  go_enter Try.func27, Try.ntmps27
  go_wp2_with fail
  refine (opened w A n c bs h hn hc).mono ?_
  rintro e w1 ⟨rfl, r1, b1, s1⟩
  have HB1 := Lib.hid b1; have HS1 := Lib.hid b1.size; clear b1
  go_wp2_with fail
  refine (edges_any w1 w.heap.size 0 2 r1 (by omega) (by omega) (by omega)).mono ?_
  rintro x w3 ⟨e, g, rfl, he, hg, g3⟩
  have HB3 := Lib.hid (below_grown HB1.out g3 (Nat.le_refl _) HS1.out)
  clear g3 r1
  go_wp2_with fail
  go_ret2
  exact ⟨_, _, rfl, by omega, by omega, HB3.out⟩
set_option maxHeartbeats 800000 in
theorem drawRo_any (w : World) (A : Option Addr) (n c : Nat) (bs : List Int) (h : RdB w A n bs) (hn : n ≤ 1048576) (hc : n ≤ c) :
    Calls Try.prog 34 #[.slice A n c] w fun x w' => ∃ e g : Int, x = .returned (.tuple #[.int .i64 e, .int .i64 g]) ∧ (-1 ≤ e ∧ e ≤ 4) ∧ (-1 ≤ g ∧ g ≤ 2) ∧ Below w.heap.size w w' := by
  go_enter Try.func34, Try.ntmps34
  go_wp2_with fail
  refine (drawRc_any w A n c bs h hn hc).mono ?_
  rintro x w3 ⟨e, g, rfl, he, hg, b3⟩
  have HB3 := Lib.hid b3
  clear b3
  go_wp2_with fail
  go_ret2
  exact ⟨_, _, rfl, he, hg, HB3.out⟩
set_option maxHeartbeats 800000 in
theorem drawRs_any (w : World) (A : Option Addr) (n c : Nat) (bs : List Int) (h : RdB w A n bs) (hn : n ≤ 1048576) (hc : n ≤ c) :
    Calls Try.prog 33 #[.slice A n c] w fun x w' => ∃ e g : Int, x = .returned (.tuple #[.int .i64 e, .int .i64 g]) ∧ (-1 ≤ e ∧ e ≤ 4) ∧ (-1 ≤ g ∧ g ≤ 2) ∧ Below w.heap.size w w' := by
  go_enter Try.func33, Try.ntmps33
  go_wp2_with fail
  refine (drawRc_any w A n c bs h hn hc).mono ?_
  rintro x w3 ⟨e, g, rfl, he, hg, b3⟩
  have HB3 := Lib.hid b3
  clear b3
  go_wp2_with fail
  go_ret2
  exact ⟨_, _, rfl, he, hg, HB3.out⟩
end Go.Proofs.Ytakckkmhhedfpaa

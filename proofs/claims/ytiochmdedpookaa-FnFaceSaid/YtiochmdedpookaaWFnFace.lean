/-
  FnFace: the walk of the law.
-/
import Derived.Test.YtiochmdedpookaaDrawC
import Derived.Test.YtiochmdedpookaaFaceT
namespace Go.Proofs.Ytiochmdedpookaa
open Go.RowKit

theorem face_facts : ∀ e : Nat, e < 10 → ∀ p : Nat, p < 19 → decide (faceF e p < 0) = false ∧ (2 * e < p → (faceF e p == 0) = true) ∧ (p = 2 * e → (faceF e p == treesF e) = true) ∧ (e = 0 → p = 0 → (faceF e p == 1) = true) := by decide +kernel

set_option maxRecDepth 20000 in
set_option maxHeartbeats 3200000 in
theorem walk_FnFace (A : Option Addr) (n c : Nat) (bs : List Int) (w : World) (h : RdB w A n bs) (hm : n ≤ maxLen ∧ n ≤ c) :
    Calls Try.prog 5 #[.slice A n c] w fun e w' => e = .returned (.bool true) ∧ Below w.heap.size w w' := by
  have HB0 := Lib.hid h
  have hc := hm.2
  clear h hm
  by_cases hbig : 1048576 < n
  · have hd : decide ((1048576 : Int) < n) = true := by simp; omega
    go_enter Try.func5, Try.ntmps5
    go_wp2
    go_ret
    exact ⟨rfl, Below.refl _ _⟩
  have hd : decide ((1048576 : Int) < n) = false := by simp; omega
  have hnb : n ≤ 1048576 := by omega
  go_enter Try.func5, Try.ntmps5
  go_wp2_with fail
  refine (drawFace_any w A n c bs HB0.out hnb hc).mono ?_
  rintro x w1 ⟨e, g, rfl, h1, h2, b1⟩
  have HB1 := Lib.hid b1; clear b1 hbig hc HB0
  have hw : (Lit.int .i64 e).wf = true := wf_far h1
  have hw' : (Lit.int .i64 g).wf = true := wf_far h2
  obtain ⟨r, hr⟩ : ∃ r, faceF e g = r := ⟨_, rfl⟩
  have HR := Lib.hid hr; clear hr
  have hrr : (r != r) = false := by simp
  have hrr2 : (r == r) = true := by simp
  go_wp2_with fail
  refine (impl_face w1 e g hw hw' HR.out).mono ?_
  rintro x w2 ⟨rfl, b2⟩
  have HB2 := Lib.hid (HB1.out.trans (b2.mono HB1.out.size)); clear b2
  go_wp2_with fail
  refine (spec_face w2 e g hw hw' HR.out).mono ?_
  rintro x w3 ⟨rfl, b3⟩
  have HB3 := Lib.hid (HB2.out.trans (b3.mono HB2.out.size)); clear b3 HB1 HB2
  by_cases hv : 0 ≤ e ∧ e ≤ 9 ∧ 0 ≤ g ∧ g ≤ 18
  · obtain ⟨k, rfl⟩ : ∃ k : Nat, e = k := ⟨e.toNat, by omega⟩
    obtain ⟨l, rfl⟩ : ∃ l : Nat, g = l := ⟨g.toNat, by omega⟩
    obtain ⟨f1, f2, f3, f4⟩ := face_facts k (by omega) l (by omega)
    rw [HR.out] at f1 f2 f3 f4
    have hk9 : k ≤ 9 := by omega
    have hl18 : l ≤ 18 := by omega
    clear hv h1 h2
    by_cases hle : l ≤ 2 * k
    · have c1 : decide ((l : Int) ≤ 2 * (k : Int)) = true := by simp; omega
      by_cases heq : l = 2 * k
      · have c2 : ((l : Int) != 2 * (k : Int)) = false := by simp; omega
        obtain ⟨p, hp⟩ : ∃ p, treesF k = p := ⟨_, rfl⟩
        have f3' := f3 heq
        rw [hp] at f3'
        have HP := Lib.hid hp; clear hp f2 f3
        by_cases hk : 0 < k
        · have c3 : decide (0 < k) = true := by simpa using hk
          have HE := Lib.hid heq; have HL := Lib.hid hle; have H4 := Lib.hid f4; clear heq hle f4
          go_wp2_with fail
          refine (impl_trees w3 k hw).mono ?_
          rintro x w4 ⟨rfl, rfl⟩
          rw [HP.out]
          go_wp2_with fail
          go_ret
          exact ⟨rfl, HB3.out⟩
        · have hk0 : k = 0 := by omega
          have hl0 : l = 0 := by omega
          have f4' := f4 hk0 hl0
          have c3 : decide (0 < k) = false := by simp; omega
          have c4 : decide (0 < l) = false := by simp; omega
          have HE := Lib.hid heq; have HL := Lib.hid hle; have HK := Lib.hid hk0; have HK2 := Lib.hid hk; have HL0 := Lib.hid hl0; clear heq hle f4 hk0 hk hl0
          go_wp2_with fail
          refine (impl_trees w3 k hw).mono ?_
          rintro x w4 ⟨rfl, rfl⟩
          rw [HP.out]
          go_wp2_with fail
          go_ret
          exact ⟨rfl, HB3.out⟩
      · have c2 : ((l : Int) != 2 * (k : Int)) = true := by simp; omega
        have hk : 0 < k := by omega
        have c3 : decide (0 < k) = true := by simpa using hk
        have HE := Lib.hid heq; have HL := Lib.hid hle; clear heq hle f2 f3 f4
        go_wp2_with fail
        go_ret
        exact ⟨rfl, HB3.out⟩
    · have c1 : decide ((l : Int) ≤ 2 * (k : Int)) = false := by simp; omega
      have c2 : ((l : Int) != 2 * (k : Int)) = true := by simp; omega
      have f2' := f2 (by omega)
      have hl : 0 < l := by omega
      have c4 : decide (0 < l) = true := by simpa using hl
      have HL := Lib.hid hle; clear hle f2 f3 f4
      by_cases hk : 0 < k
      · have c3 : decide (0 < k) = true := by simpa using hk
        go_wp2_with fail
        go_ret
        exact ⟨rfl, HB3.out⟩
      · have c3 : decide (0 < k) = false := by simp; omega
        have HK := Lib.hid hk; clear hk
        go_wp2_with fail
        go_ret
        exact ⟨rfl, HB3.out⟩
  · have hneg : decide (r < 0) = true := by rw [← HR.out, faceF, if_neg hv]; rfl
    go_wp2_with fail
    go_ret
    exact ⟨rfl, HB3.out⟩

end Go.Proofs.Ytiochmdedpookaa

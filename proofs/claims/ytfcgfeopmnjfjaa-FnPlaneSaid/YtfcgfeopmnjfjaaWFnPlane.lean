/-
  FnPlane: the walk of the law.
-/
import Derived.Test.YtfcgfeopmnjfjaaDrawC
import Derived.Test.YtfcgfeopmnjfjaaFaceT
namespace Go.Proofs.Ytfcgfeopmnjfjaa
open Go.RowKit

def sP (e : Int) : Nat → Int
  | 0 => 0
  | k + 1 => wrap64 (sP e k + faceF e k)
theorem plane_sum : ∀ e : Nat, e < 10 → sP e 19 = planeF e := by decide +kernel
theorem plane_facts : ∀ e : Nat, e < 10 → decide (planeF e < 0) = false ∧ (e < 9 → (wrap64 (planeF ((e : Int) + 1) * ((e : Int) + 3)) == wrap64 (6 * (2 * (e : Int) + 1) * planeF e)) = true) := by decide +kernel
theorem plane_last : planeF 10 = -1 := by decide +kernel

set_option maxRecDepth 20000 in
set_option maxHeartbeats 3200000 in
theorem walk_FnPlane (A : Option Addr) (n c : Nat) (bs : List Int) (w : World) (h : RdB w A n bs) (hm : n ≤ maxLen ∧ n ≤ c) :
    Calls Try.prog 4 #[.slice A n c] w fun e w' => e = .returned (.bool true) ∧ Below w.heap.size w w' := by
  have HB0 := Lib.hid h
  have hc := hm.2
  clear h hm
  by_cases hbig : 1048576 < n
  · have hd : decide ((1048576 : Int) < n) = true := by simp; omega
    go_enter Try.func4, Try.ntmps4
    go_wp2
    go_ret
    exact ⟨rfl, Below.refl _ _⟩
  have hd : decide ((1048576 : Int) < n) = false := by simp; omega
  have hnb : n ≤ 1048576 := by omega
  go_enter Try.func4, Try.ntmps4
  go_wp2_with fail
  refine (drawPlane_any w A n c bs HB0.out hnb hc).mono ?_
  rintro x w1 ⟨e, rfl, h1, h2, b1⟩
  have HB1 := Lib.hid b1; clear b1 hbig hc HB0
  have hw : (Lit.int .i64 e).wf = true := wf_far (by omega)
  obtain ⟨r, hr⟩ : ∃ r, planeF e = r := ⟨_, rfl⟩
  have HR := Lib.hid hr; clear hr
  have hrr : (r != r) = false := by simp
  have hrr2 : (r == r) = true := by simp
  go_wp2_with fail
  refine (impl_plane w1 e hw).mono ?_
  rintro x w' ⟨rfl, rfl⟩
  rw [HR.out]
  go_wp2_with fail
  refine (spec_plane w' e hw).mono ?_
  rintro x w2 ⟨rfl, rfl⟩
  rw [HR.out]
  by_cases hv : 0 ≤ e ∧ e ≤ 9
  · obtain ⟨k, rfl⟩ : ∃ k : Nat, e = k := ⟨e.toNat, by omega⟩
    obtain ⟨hneg, hnext⟩ := plane_facts k (by omega)
    have HS := Lib.hid (plane_sum k (by omega))
    rw [HR.out] at hneg hnext HS
    have hk12 : k ≤ 9 := by omega
    have hwn : (Lit.int .i64 ((k : Int) + 1)).wf = true := wf_far (by omega)
    have HN := Lib.hid hnext
    clear hv h1 h2 hnext
    go_wp2_with fail
    go_loopw [6, 7] (fun sv jv wr => ∃ j : Nat, j ≤ 19 ∧ jv = .int .i64 j ∧ sv = .int .i64 (sP k j) ∧ Hid (Below w.heap.size w wr)) (fun _ jv _ => 19 - (intOf jv).toNat)
    case atStart => exact ⟨0, by omega, rfl, rfl, HB1⟩
    case round =>
      obtain ⟨j, hj, rfl, rfl, hb⟩ := hrel
      by_cases hlt : j < 19
      · have hwj : (Lit.int .i64 (j : Int)).wf = true := wf_far (by omega)
        have hd2 : decide ((j : Int) ≤ 18) = true := by simp; omega
        go_wp2_with fail
        refine (impl_face wr k j hw hwj rfl).mono ?_
        rintro x w3 ⟨rfl, b3⟩
        have HB3 := Lib.hid (hb.out.trans (b3.mono hb.out.size)); clear b3
        go_wp2_with fail
        go_roundw
        case rel => exact ⟨j + 1, by omega, by go_num, rfl, HB3⟩
        case measure => simp [intOf]; omega
      · obtain rfl : j = 19 := by omega
        obtain ⟨sv, hsv⟩ : ∃ sv, sP k 19 = sv := ⟨_, rfl⟩
        have hs : (sv == r) = true := by rw [← hsv, HS.out]; simp
        rw [hsv]
        clear hsv
        by_cases h9 : k = 9
        · subst h9
          have hz : ((9 : Int) == 9) = true := rfl
          go_wp2_with fail
          refine (impl_plane wr ((9 : Nat) + 1) hwn).mono ?_
          rintro x w3 ⟨rfl, rfl⟩
          have hp : planeF (((9 : Nat) : Int) + 1) = -1 := plane_last
          rw [hp]
          go_wp2_with fail
          go_ret
          exact ⟨rfl, hb.out⟩
        · have hz : ((k : Int) == 9) = false := by simp; omega
          have hn := HN.out (by omega)
          obtain ⟨q, hq⟩ : ∃ q, planeF ((k : Int) + 1) = q := ⟨_, rfl⟩
          rw [hq] at hn
          have HQ := Lib.hid hq; clear hq
          go_wp2_with fail
          refine (impl_plane wr (k + 1) hwn).mono ?_
          rintro x w3 ⟨rfl, rfl⟩
          rw [HQ.out]
          go_wp2_with fail
          go_ret
          exact ⟨rfl, hb.out⟩
  · have hneg : decide (r < 0) = true := by rw [← HR.out, planeF, if_neg hv]; rfl
    go_wp2_with fail
    go_ret
    exact ⟨rfl, HB1.out⟩

end Go.Proofs.Ytfcgfeopmnjfjaa

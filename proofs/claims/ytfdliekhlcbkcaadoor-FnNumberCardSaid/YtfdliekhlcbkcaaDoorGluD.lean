/-
  GluingChord, GluingPlanar, and the corners: the model's and the program's.
  GluingGenus, GluingTurn: the model's and the program's.
-/
import Derived.Test.YtfdliekhlcbkcaaDoorGluC
import Derived.Test.YtfdliekhlcbkcaaDoorCopy
import Derived.Test.YtfdliekhlcbkcaaDoorSign
import Derived.Test.YtfdliekhlcbkcaaDoorCounts
import Derived.Test.YtfdliekhlcbkcaaDoorConj
namespace Go.Proofs.YtfdliekhlcbkcaaDoor
open Go.RowKit

theorem IsG.half {p : List Int} (h : IsG p) : Vld (folL p.length) := folL_vld _ (by have := h.2.1; omega) (by have := h.1; omega)
theorem corL_vld {p : List Int} (h : IsG p) : Vld (corL p) := h.vld.mulL h.half (by rw [folL_len])

set_option maxHeartbeats 800000 in
theorem following_any (w : World) (n : Nat) (h1 : 1 ≤ n) (hn : n ≤ 12) :
    Calls Tryd.prog 83 #[.int .i64 n] w fun e w' => ∃ v, e = .returned v ∧ Own w' w.heap.size v (folL n) ∧ Below w.heap.size w w' := by
  obtain ⟨i0, hinf, hz0, hz1, hz2⟩ := info_parts info_int
  go_enter Tryd.func83, Tryd.ntmps83
  go_wp2_with (at_make; refine wpList_make_full _ rfl _ _ 67 rfl w.heap.size 3 i0 (.int .i64 0) 1 Tryd.underlying67 hinf hz0 hz1 .i64 .i64 _ _ n rfl rfl rfl rfl (by rw [hz2]; omega) (by unfold maxLen; omega) (Nat.le_refl _) ?_; intro w1 hown1 hgrow1)
  have hb1 := Lib.hid (below_of_grown hgrow1 (Nat.le_refl _) (fun k hk => by cases hk))
  have ho1 := Lib.hid (Own.made hown1)
  clear hown1 hgrow1 hz0 hz1 hz2 hinf
  go_loopw [9] (fun i wr => ∃ (k : Nat) (zs : List Int), k ≤ n ∧ i = .int .i64 k ∧ Hid (Own wr w.heap.size (.slice (some ⟨w.heap.size, 0, none⟩) n n) zs) ∧ Hid (zs.length = n) ∧ Hid (Below w.heap.size w wr) ∧ Hid (∀ j, j < k → gi zs j = ((j + 1) % n : Nat))) (fun i _ => n - (intOf i).toNat)
  case atStart => exact ⟨0, _, Nat.zero_le _, rfl, ho1, by simp [Hid], hb1, fun j hj => absurd hj (by omega)⟩
  case round =>
    obtain ⟨k, zs, hk, rfl, ho, hzl, hb, hall⟩ := hrel
    by_cases hlt : k < n
    · obtain ⟨g, hg, _, hc3, hf3⟩ := ho.out.cellAt hzl.out hlt
      simp only [Option.some.injEq, Addr.mk.injEq, and_true] at hg
      subst hg
      have HS := Lib.hid (ho.out.stored hzl.out k (((k : Int) + 1) % (n : Int)))
      have hm1 : ¬ ((n : Int) = 0) := by omega
      go_wp2
      go_roundw
      case rel =>
        refine ⟨k + 1, _, by omega, by go_num, HS.out.1, by simpa [Hid] using hzl.out, hb.out.setCell (Nat.le_refl _) _, fun j hj => ?_⟩
        rw [gi_set _ _ _ _ (by rw [hzl.out]; exact hlt)]
        by_cases e : j = k
        · rw [if_pos e, e, Int.natCast_emod, Int.natCast_add]; rfl
        · rw [if_neg e]; exact hall.out j (by omega)
      case measure => simp [intOf]; omega
    · go_wp2
      go_ret
      refine ⟨_, rfl, ?_, hb.out⟩
      have e : zs = folL n := tab_ext hzl.out (fun j hj => hall.out j (by omega))
      rw [← e]; exact ho.out

theorem l6mod {x n : Nat} : (((x : Int) + 1) % (n : Int)) = (((x + 1) % n : Nat) : Int) := by rw [Int.natCast_emod, Int.natCast_add]; rfl

set_option maxHeartbeats 800000 in
theorem corners_any (w : World) (A : Option Addr) (c n : Nat) (xs : List Int) (h : Rd w A n xs) (hg : IsG xs) :
    Calls Tryd.prog 60 #[.slice A n c] w fun e w' => ∃ v, e = .returned v ∧ Own w' w.heap.size v (corL xs) ∧ Below w.heap.size w w' := by
  have hn10 : n ≤ 10 := by rw [← h.1]; exact hg.2.1
  have hn2 : 2 ≤ n := by rw [← h.1]; exact hg.1
  have H := Lib.hid h; have Hx := Lib.hid h.1; have HG := Lib.hid hg; clear h hg
  go_enter Tryd.func60, Tryd.ntmps60
  go_wp2_with fail
  refine (following_any w n (by omega) (by omega)).mono ?_
  rintro e w1 ⟨v, rfl, o, b⟩
  obtain ⟨A1, c1, rfl, r, -⟩ := o.form' (folL_len n)
  have HB := Lib.hid b; have R1 := Lib.hid r; have H1 := Lib.hid (H.out.below b); clear b r o
  go_wp2_with fail
  refine (then_any A A1 n n c c1 xs (folL n) w1 H1.out R1.out (by omega) (by omega) (HG.out.vld.into Hx.out)).mono ?_
  rintro e w2 ⟨v, rfl, o, b⟩
  have HO := Lib.hid (o.mono HB.out.size); have HB2 := Lib.hid (HB.out.trans (b.mono HB.out.size)); clear o b
  go_wp2_with fail
  go_ret
  exact ⟨_, rfl, by rw [corL, Hx.out]; exact HO.out, HB2.out⟩

theorem ncor_le {p : List Int} (h : IsG p) : ncor p ≤ 10 := by
  have := cyclesL_len (p := corL p)
  rw [corL_len] at this
  have := h.2.1
  unfold ncor; omega

set_option maxHeartbeats 800000 in
theorem impl_gcorR (w : World) (A : Option Addr) (c n : Nat) (xs : List Int) (h : Rd w A n xs) (hn : n ≤ 1048576) {r : Int} (hR : gcorR xs = r) :
    Calls Tryd.prog 20 #[.slice A n c] w fun e w' => e = .returned (.int .i64 r) ∧ Below w.heap.size w w' := by
  by_cases hg : glu xs = true
  · rw [gcorR, if_pos hg] at hR
    have HIG := Lib.hid (glu_iff.1 hg)
    have HG := Lib.hid hg; have HR := Lib.hid hR; have H := Lib.hid h; have Hx := Lib.hid h.1; clear hg hR h
    go_enter Tryd.func20, Tryd.ntmps20
    go_wp2_with fail
    refine (impl_glu w A c n xs H.out hn HG.out).mono ?_
    rintro e w1 ⟨rfl, b⟩
    have HB := Lib.hid b; clear b
    go_wp2_with fail
    refine (corners_any w1 A c n xs (H.out.below HB.out) HIG.out).mono ?_
    rintro e w2 ⟨v, rfl, o, b⟩
    obtain ⟨A1, c1, rfl, r1, -⟩ := o.form' ((corL_len xs).trans Hx.out)
    have HB2 := Lib.hid (HB.out.trans (b.mono HB.out.size)); have R1 := Lib.hid r1; clear b o r1
    go_wp2_with fail
    refine (count_any w2 A1 c1 n (corL xs) R1.out (corL_vld HIG.out)).mono ?_
    rintro e w3 ⟨rfl, b⟩
    have HB3 := Lib.hid (HB2.out.trans (b.mono HB2.out.size)); clear b
    go_wp2_with fail
    go_ret
    exact ⟨ret_int HR.out, HB3.out⟩
  · rw [gcorR, if_neg hg] at hR
    have hg' : glu xs = false := by simpa using hg
    have HG := Lib.hid hg'; have HR := Lib.hid hR; have H := Lib.hid h; clear hg hg' hR h
    go_enter Tryd.func20, Tryd.ntmps20
    go_wp2_with fail
    refine (impl_glu w A c n xs H.out hn HG.out).mono ?_
    rintro e w1 ⟨rfl, b⟩
    have HB := Lib.hid b; clear b
    go_wp2_with fail
    go_ret
    exact ⟨ret_int HR.out, HB.out⟩

end Go.Proofs.YtfdliekhlcbkcaaDoor

namespace Go.Proofs.YtfdliekhlcbkcaaDoor
open Go.RowKit

set_option maxHeartbeats 800000 in
theorem impl_gtuR (w : World) (A : Option Addr) (c n : Nat) (xs : List Int) (h : Rd w A n xs) (hn : n ≤ 1048576) {ok : Bool} {ys : List Int} (hR : gtuR xs = (ok, ys)) :
    Calls Tryd.prog 45 #[.slice A n c] w fun e w' => ∃ v, e = .returned (.tuple #[v, .bool ok]) ∧ Own w' w.heap.size v ys ∧ Below w.heap.size w w' := by
  by_cases hg : glu xs = true
  · obtain ⟨rfl, rfl⟩ : ok = true ∧ ys = turnG xs := by rw [gtuR, if_pos hg] at hR; simpa [eq_comm] using hR
    have hi := glu_iff.1 hg
    have hn10 : n ≤ 10 := by rw [← h.1]; exact hi.2.1
    have hn2 : 2 ≤ n := by rw [← h.1]; exact hi.1
    have HI := Lib.hid hi; have HG := Lib.hid hg; have Hx := Lib.hid h.1; have H := Lib.hid h; clear hg hR h hi
    go_enter Tryd.func45, Tryd.ntmps45
    go_wp2_with fail
    refine (impl_glu w A c n xs H.out hn HG.out).mono ?_
    rintro e w1 ⟨rfl, b⟩
    have HB := Lib.hid b; have H1 := Lib.hid (H.out.below b); clear b
    go_wp2_with fail
    refine (following_any w1 n (by omega) (by omega)).mono ?_
    rintro e w2 ⟨v, rfl, o, b⟩
    obtain ⟨A1, c1, rfl, r1, -⟩ := o.form' (folL_len n)
    have HB2 := Lib.hid (HB.out.trans (b.mono HB.out.size)); have R1 := Lib.hid r1; have H2 := Lib.hid (H1.out.below b); clear b o r1
    go_wp2_with fail
    refine (conj_any A A1 n c c1 xs (folL n) w2 H2.out R1.out (by omega) HI.out.vld (folL_vld n (by omega) (by omega))).mono ?_
    rintro e w3 ⟨v, rfl, o, b⟩
    have HO := Lib.hid (o.mono HB2.out.size); have HB3 := Lib.hid (HB2.out.trans (b.mono HB2.out.size)); clear o b
    go_wp2_with fail
    go_ret2
    exact ⟨_, rfl, by rw [turnG, Hx.out]; exact HO.out, HB3.out⟩
  · have hg' : glu xs = false := by simpa using hg
    obtain ⟨rfl, rfl⟩ : ok = false ∧ ys = [] := by rw [gtuR, if_neg hg] at hR; simpa [eq_comm] using hR
    have HG := Lib.hid hg'; have H := Lib.hid h; clear hg hg' hR h
    go_enter Tryd.func45, Tryd.ntmps45
    go_wp2_with fail
    refine (impl_glu w A c n xs H.out hn HG.out).mono ?_
    rintro e w1 ⟨rfl, b⟩
    have HB := Lib.hid b; clear b
    go_wp2_with fail
    go_ret2
    exact ⟨_, rfl, Own.nil_ _ _, HB.out⟩

end Go.Proofs.YtfdliekhlcbkcaaDoor

/-
  slices.Repeat of one number, at []int and at perm: a new slice of that number, n times.
  slices.Repeat of one number at perm.
-/
import Derived.Test.YtcenffndclpjoaaConj
import Derived.Test.YtcenffndclpjoaaShelf
import Derived.Laws.CopyOwn
import Derived.Deep.RegionLaw
import Derived.RegionTactic
import Derived.BigRegion
import Derived.IntWalk
namespace Go.Proofs.Ytcenffndclpjoaa
open Go.RowKit

theorem Own.heap {w : World} {lo n c g : Nat} {xs : List Int} (h : Own w lo (.slice (some ⟨g, 0, none⟩) n c) xs) (hn : xs.length = n) :
    ∃ cur : Array Value, w.heap[g]? = some (.cells cur 3 (0, 0)) ∧ cur.size = c ∧ n ≤ c ∧ cur.toList.take n = ints xs ∧ lo ≤ g := by
  subst hn
  rcases h.2 with ⟨hv, _⟩ | ⟨g', cap, cur, hv, hg, hh, hn, hm, hs, ht⟩
  · simp at hv
  · simp only [Value.slice.injEq, Option.some.injEq, Addr.mk.injEq, and_true, true_and] at hv
    obtain ⟨rfl, rfl⟩ := hv
    exact ⟨cur, hh, by rw [hs]; omega, hn, by simpa using ht, hg⟩
theorem Own.full {w : World} {lo n g : Nat} {xs : List Int} (h : Own w lo (.slice (some ⟨g, 0, none⟩) n n) xs) (hn : xs.length = n) :
    w.heap[g]? = some (.cells (ints xs).toArray 3 (0, 0)) := by
  obtain ⟨cur, hh, hs, _, ht, _⟩ := h.heap hn
  rw [List.take_of_length_le (by simpa using Nat.le_of_eq hs)] at ht
  rw [← ht]; simpa using hh
theorem Own.of_heap {w : World} {lo n g : Nat} {xs : List Int} (h : w.heap[g]? = some (.cells (ints xs).toArray 3 (0, 0))) (hn : xs.length = n) (hlo : lo ≤ g) (hm : n ≤ maxLen) : Own w lo (.slice (some ⟨g, 0, none⟩) n n) xs := by
  subst hn
  refine ⟨by simp [ints_len], .inr ⟨g, xs.length, (ints xs).toArray, rfl, hlo, h, Nat.le_refl _, hm, by simp [ints_len], by simp [ints_len, List.take_of_length_le]⟩⟩

theorem gi_splice {zs cs : List Int} {k j : Nat} (hk : k + cs.length ≤ zs.length) : gi (splice zs k cs) j = if j < k then gi zs j else if j < k + cs.length then gi cs (j - k) else gi zs j := by
  unfold splice gi
  simp only [List.getD]
  by_cases h1 : j < k
  · rw [if_pos h1, List.getElem?_append_left (by simp; omega), List.getElem?_take, if_pos h1]
  · rw [if_neg h1, List.getElem?_append_right (by simp; omega)]
    have e : (List.take k zs).length = k := by simp; omega
    rw [e]
    by_cases h2 : j < k + cs.length
    · rw [if_pos h2, List.getElem?_append_left (by omega)]
    · rw [if_neg h2, List.getElem?_append_right (by omega), List.getElem?_drop]
      congr 2
      omega
theorem splice_ints (zs cs : List Int) (k : Nat) : splice (ints zs) k (ints cs) = ints (splice zs k cs) := by simp [splice, ints, List.map_append, List.map_take, List.map_drop]
theorem gi_replicate {n j : Nat} {v : Int} (h : j < n) : gi (List.replicate n v) j = v := by rw [gi_eq (by simpa using h)]; simp

theorem info_int_size : (Try.prog.info? 3).map (·.size) = some 1 := by kernel_rfl

theorem one_cell {w : World} {ad : Addr} {u : Value} (h : w.cell? (ad.add 0) = some u) : ∀ j u', ([u] : List Value)[j]? = some u' → w.cell? (ad.add j) = some u' := fun j u' hj => by
  cases j with
  | zero => simp at hj; rw [← hj]; exact h
  | succ j => simp at hj

set_option maxRecDepth 100000 in
set_option maxHeartbeats 800000 in
theorem repeat_int (A : Option Addr) (c n : Nat) (v : Int) (w : World) (h : Rd w A 1 [v]) (h1 : 1 ≤ n) (h12 : n ≤ 20) :
    Calls Try.prog 92 #[.slice A 1 c, .int .i64 n] w fun e w' => ∃ v', e = .returned v' ∧ Own w' w.heap.size v' (List.replicate n v) ∧ Below w.heap.size w w' := by
  obtain ⟨i0, hinf, hz0, hz1, hz2⟩ := info_parts info_int
  obtain ⟨ad, rfl, hc⟩ := h.at_ (k := 0) (by omega)
  have H := Lib.hid h; clear h
  have hmul := Try.bits_Mul 1 n (by omega) (by omega) w
  rw [Nat.one_mul, Nat.div_eq_of_lt (by omega), Nat.mod_eq_of_lt (by omega)] at hmul
  have HM := Lib.hid hmul; clear hmul
  go_enter Try.func92, Try.ntmps92
  go_wp2_with fail
  refine HM.out.mono ?_
  rintro e w1 ⟨rfl, rfl⟩
  have hc0 := Lib.hid hc; clear hc
  have HMIN := Lib.hid (show Nat.min 1 n = 1 from Nat.min_eq_left h1)
  have HZ := Lib.hid (And.intro hz1 hz2)
  go_wp2_with (first
    | (at_make; refine wpList_make_full _ rfl _ _ 23 rfl w1.heap.size 3 i0 (.int .i64 0) 1 Try.underlying23 hinf hz0 hz1 .i64 .i64 _ _ n rfl rfl rfl rfl (by rw [hz2]; omega) (by unfold maxLen; omega) (Nat.le_refl _) ?_; intro w2 hown2 hgrow2; have HB2 := Lib.hid (below_of_grown hgrow2 (Nat.le_refl _) (fun k hk => by cases hk)); have HG2 := Lib.hid ((Own.made hown2).full (by simp)); have HC2 := Lib.hid (one_cell ((HB2.out.cell (p := ad.add 0) (by rw [add_block]; exact Rd.lt H.out ad rfl (by omega))).trans hc0.out)); clear hown2 hgrow2)
    | (refine wpList_copy_splice (o := ⟨some 33, _, _, _, _, _⟩) rfl (.tmp 31) (.tmp 32) 23 23 rfl 3 Try.underlying23 info_int_size (some ⟨w1.heap.size, 0, none⟩) (some ad) n n 1 c rfl rfl w1.heap.size 0 (ints (List.replicate n 0)) 3 HG2.out [.int .i64 (gi [v] 0)] HMIN.out.symm (fun _ => ⟨rfl, ad, rfl, HC2.out⟩) (by rw [ints_len]; simp; omega) (by intro u hu; simp at hu; subst hu; rfl) w1.heap.size w1 HB2.out (Nat.le_refl _) ?_; intro w3 HG3 HB3))
  have HG3' : Hid (w3.heap[w1.heap.size]? = some (.cells (ints (splice (List.replicate n 0) 0 [v])).toArray 3 (0, 0))) := by
    have := HG3.out
    rw [show ([Value.int .i64 (gi [v] 0)] : List Value) = ints [v] from rfl, splice_ints] at this
    exact this
  have HB3' := Lib.hid HB3
  clear HG3 HB3 HC2 hc0 HG2 HB2
  have hw1 := HB3'.out.size
  go_loopw [8] (fun i wr => ∃ (k : Nat) (zs : List Int), 1 ≤ k ∧ k ≤ n ∧ i = .int .i64 k ∧ Hid (zs.length = n) ∧ Hid (wr.heap[w1.heap.size]? = some (.cells (ints zs).toArray 3 (0, 0))) ∧ Hid (Below w1.heap.size w1 wr) ∧ Hid (∀ j, j < k → gi zs j = v)) (fun i _ => n - (intOf i).toNat)
  case atStart => exact ⟨1, _, Nat.le_refl _, h1, rfl, by rw [Hid, length_splice _ _ _ (by simp; omega)]; simp, HG3', HB3', fun j hj => by
    rw [gi_splice (by simp; omega), if_neg (by omega), if_pos (by simp; omega)]
    obtain rfl : j = 0 := by omega
    rfl⟩
  case round =>
    obtain ⟨k, zs, hk1, hk, rfl, hz, hh, hb, hall⟩ := hrel
    by_cases hlt : k < n
    · obtain ⟨m, hm⟩ : ∃ m, Nat.min k (n - k) = m := ⟨_, rfl⟩
      have hm1 : 1 ≤ m := by rw [← hm]; simp only [Nat.min_def]; split <;> omega
      have hm2 : k + m ≤ n := by rw [← hm]; simp only [Nat.min_def]; split <;> omega
      have hm3 : m ≤ k := by rw [← hm]; simp only [Nat.min_def]; split <;> omega
      have HMM := Lib.hid hm; clear hm
      obtain ⟨cs, hcs⟩ : ∃ cs, ints (List.replicate m v) = cs := ⟨_, rfl⟩
      have hcl : cs.length = m := by rw [← hcs]; simp [ints_len]
      have HLEN : Hid (cs.length = Nat.min k (n - k)) := by rw [Hid, HMM.out, hcl]
      have HPOS : Hid (∀ wx : World, wx.heap = wr.heap → 0 < cs.length → (if n = k then some (⟨w1.heap.size, 0, none⟩ : Addr) else some ⟨w1.heap.size, k, none⟩) = some ⟨w1.heap.size, k, none⟩ ∧ ∃ ad, some (⟨w1.heap.size, 0, none⟩ : Addr) = some ad ∧ ∀ j u, cs[j]? = some u → wx.cell? (ad.add j) = some u) := by
        intro wx hwx _
        refine ⟨by rw [if_neg (by omega)], _, rfl, fun j u hj => ?_⟩
        have hjm : j < m := by
          have := (List.getElem?_eq_some_iff.1 hj).1
          omega
        rw [← hcs, ints_get (by simpa using hjm), gi_replicate hjm] at hj
        rw [show (⟨w1.heap.size, 0, none⟩ : Addr).add j = ⟨w1.heap.size, j, none⟩ from by unfold Addr.add; split <;> simp_all]
        have hh2 : wx.heap[w1.heap.size]? = some (.cells (ints zs).toArray 3 (0, 0)) := by rw [hwx]; exact hh.out
        rw [cell_of_row wx w1.heap.size j _ _ (0, 0) hh2]
        have h3 : (ints zs)[j]? = some (.int .i64 (gi zs j)) := ints_get (by rw [hz.out]; omega)
        rw [hall.out j (by omega)] at h3
        rw [← hj]; simpa using h3
      have HFIT : Hid (k + cs.length ≤ (ints zs).length) := by rw [Hid, ints_len, hz.out, hcl]; exact hm2
      have HONE : Hid (∀ u ∈ cs, u.oneCell' = true) := by
        intro u hu
        rw [← hcs] at hu
        simp [ints] at hu
        rw [hu.2]; rfl
      have HCS := Lib.hid hcs; have HCL := Lib.hid hcl
      have hcl1 : cs.length ≤ 12 := by omega
      have hsum : IntKind.i64.wrap ((k : Int) + (cs.length : Int)) = ((k + m : Nat) : Int) := by rw [IntWalk.i64_in _ (by omega), hcl]; omega
      clear hcs hcl
      go_wp2
      go_region_law (refine step_copy_splice (o := ⟨some 45, _, _, _, _, _⟩) rfl (.tmp 41) (.tmp 44) 23 23 rfl 3 Try.underlying23 info_int_size (if n = k then some ⟨w1.heap.size, 0, none⟩ else some ⟨w1.heap.size, k, none⟩) (some ⟨w1.heap.size, 0, none⟩) (n - k) (n - k) k n (by simp [Act.eval, Act.put]) (by simp [Act.eval, Act.put]) w1.heap.size k (ints zs) 3 hh.out cs HLEN.out (HPOS.out _ rfl) HFIT.out HONE.out w1.heap.size w1 (below_drewN hb.out 1) (Nat.le_refl _) ?_; intro w4 HG4 HB4)
      have HB4' := Lib.hid HB4; clear HB4
      go_wp2
      go_roundw
      case rel =>
        have h4 : w4.heap[w1.heap.size]? = some (.cells (ints (splice zs k (List.replicate m v))).toArray 3 (0, 0)) := by
          have := HG4.out
          rw [← HCS.out, splice_ints] at this
          exact this
        have hcl := HCL.out
        refine ⟨k + m, by omega, hm2, by omega, _, ?_, h4, fun j hj => ?_⟩
        · rw [Hid, length_splice _ _ _ (by rw [hz.out]; simp; omega)]; exact hz.out
        · rw [gi_splice (by rw [hz.out]; simp; omega)]
          split
          · exact hall.out j (by assumption)
          · rw [if_pos (by simp; omega)]
            exact gi_replicate (by omega)
      case measure => have := HCL.out; simp [intOf]; omega
    · have hkn : k = n := by omega
      have HK := Lib.hid hkn; clear hkn
      go_wp2
      go_ret
      refine ⟨_, rfl, ?_, hb.out⟩
      have e : zs = List.replicate n v := eq_of_gi (by rw [hz.out]; simp) (fun j hj => by rw [hz.out] at hj; rw [hall.out j (by rw [HK.out]; exact hj), gi_replicate hj])
      rw [← e]
      exact Own.of_heap hh.out hz.out (Nat.le_refl _) (by unfold maxLen; omega)

end Go.Proofs.Ytcenffndclpjoaa

namespace Go.Proofs.Ytcenffndclpjoaa
open Go.RowKit

end Go.Proofs.Ytcenffndclpjoaa

/-
  slices.Repeat of one word: a new slice of that word, n times.
-/
import Derived.Test.YtfdliekhlcbkcaaDoorRepeat
import Derived.Test.YtfdliekhlcbkcaaDoorSumW
namespace Go.Proofs.YtfdliekhlcbkcaaDoor
open Go.RowKit

theorem info_word : (Tryd.prog.info? 53).map (fun i => (i.zero, i.size, i.bytes)) = some (some (.string ⟨#[]⟩), 1, 16) := by kernel_rfl
theorem info_word_size : (Tryd.prog.info? 53).map (·.size) = some 1 := by kernel_rfl
theorem full_row {w : World} {lo n g : Nat} {t : TypeId} {vs : List Value} (h : w.ownsRow lo t 1 (.slice (some ⟨g, 0, none⟩) n n) n vs) : w.heap[g]? = some (.cells vs.toArray t (0, 0)) := by
  rcases h.2 with ⟨hv, _⟩ | ⟨g', cap, cur, hv, hg, hh, hn, hm, hs, ht⟩
  · simp at hv
  · simp only [Value.slice.injEq, Option.some.injEq, Addr.mk.injEq, and_true, true_and] at hv
    obtain ⟨rfl, rfl⟩ := hv
    rw [List.take_of_length_le (by simp; omega)] at ht
    rw [← ht]; simpa using hh
theorem splice_get {α : Type} {zs cs : List α} {k j : Nat} (hk : k + cs.length ≤ zs.length) : (splice zs k cs)[j]? = if j < k then zs[j]? else if j < k + cs.length then cs[j - k]? else zs[j]? := by
  unfold splice
  by_cases h1 : j < k
  · rw [if_pos h1, List.getElem?_append_left (by simp; omega), List.getElem?_take, if_pos h1]
  · rw [if_neg h1, List.getElem?_append_right (by simp; omega)]
    have e : (List.take k zs).length = k := by simp; omega
    rw [e]
    by_cases h2 : j < k + cs.length
    · rw [if_pos h2, List.getElem?_append_left (by omega)]
    · rw [if_neg h2, List.getElem?_append_right (by omega), List.getElem?_drop]
      congr 1
      omega

set_option maxRecDepth 100000 in
set_option maxHeartbeats 800000 in
theorem repeat_word (g c n : Nat) (s : ByteArray) (w : World) (h : w.cell? ⟨g, 0, none⟩ = some (.string s)) (h1 : 1 ≤ n) (h12 : n ≤ 12) :
    Calls Tryd.prog 103 #[.slice (some ⟨g, 0, none⟩) 1 c, .int .i64 n] w fun e w' => e = .returned (.slice (some ⟨w.heap.size, 0, none⟩) n n) ∧ (∀ j, j < n → w'.cell? ⟨w.heap.size, j, none⟩ = some (.string s)) ∧ Below w.heap.size w w' := by
  obtain ⟨i0, hinf, hz0, hz1, hz2⟩ := info_parts info_word
  have hmul := Tryd.bits_Mul 1 n (by omega) (by omega) w
  rw [Nat.one_mul, Nat.div_eq_of_lt (by omega), Nat.mod_eq_of_lt (by omega)] at hmul
  have HM := Lib.hid hmul; clear hmul
  go_enter Tryd.func103, Tryd.ntmps103
  go_wp2_with fail
  refine HM.out.mono ?_
  rintro e w1 ⟨rfl, rfl⟩
  have hc0 : Hid (w1.cell? ((⟨g, 0, none⟩ : Addr).add 0) = some (.string s)) := h
  have hgl : Hid ((⟨g, 0, none⟩ : Addr).block < w1.heap.size) := World.block_lt_of_cell? w1 _ h
  clear h
  have HMIN := Lib.hid (show Nat.min 1 n = 1 from Nat.min_eq_left h1)
  have HZ := Lib.hid (And.intro hz1 hz2)
  go_wp2_with (first
    | (at_make; refine wpList_make_full _ rfl _ _ 107 rfl w1.heap.size 53 i0 (.string ⟨#[]⟩) 1 Tryd.underlying107 hinf hz0 hz1 .i64 .i64 _ _ n rfl rfl rfl rfl (by rw [hz2] <;> omega) (by unfold maxLen <;> omega) (Nat.le_refl _) ?_; intro w2 hown2 hgrow2; have HB2 := Lib.hid (below_of_grown hgrow2 (Nat.le_refl _) (fun k hk => by cases hk)); have HG2 : Hid (w2.heap[w1.heap.size]? = some (.cells (List.replicate n (Value.string ⟨#[]⟩)).toArray 53 (0, 0))) := (by have e0 : (Value.string ⟨#[]⟩).cells = #[Value.string ⟨#[]⟩] := rfl; have h2 := hown2; rw [e0, Nat.mul_one, toList_madeCells_one] at h2; exact full_row h2); have HC2 := Lib.hid (one_cell ((HB2.out.cell (p := (⟨g, 0, none⟩ : Addr).add 0) hgl.out).trans hc0.out)); clear hown2 hgrow2)
    | (refine wpList_copy_splice (o := ⟨some 33, _, _, _, _, _⟩) rfl (.tmp 31) (.tmp 32) 107 107 rfl 53 Tryd.underlying107 info_word_size (some ⟨w1.heap.size, 0, none⟩) (some ⟨g, 0, none⟩) n n 1 c rfl rfl w1.heap.size 0 (List.replicate n (Value.string ⟨#[]⟩)) 53 HG2.out [.string s] HMIN.out.symm (fun _ => ⟨rfl, _, rfl, HC2.out⟩) (by simp; omega) (by intro u hu; simp at hu; subst hu; rfl) w1.heap.size w1 HB2.out (Nat.le_refl _) ?_; intro w3 HG3 HB3))
  have HG3' : Hid (w3.heap[w1.heap.size]? = some (.cells (splice (List.replicate n (Value.string ⟨#[]⟩)) 0 [.string s]).toArray 53 (0, 0))) := HG3.out
  have HB3' := Lib.hid HB3
  clear HG3 HB3 HC2 hc0 HG2 HB2
  have hw1 := HB3'.out.size
  go_loopw [8] (fun i wr => ∃ (k : Nat) (zs : List Value), 1 ≤ k ∧ k ≤ n ∧ i = .int .i64 k ∧ Hid (zs.length = n) ∧ Hid (wr.heap[w1.heap.size]? = some (.cells zs.toArray 53 (0, 0))) ∧ Hid (Below w1.heap.size w1 wr) ∧ Hid (∀ j, j < k → zs[j]? = some (.string s))) (fun i _ => n - (intOf i).toNat)
  case atStart => exact ⟨1, _, Nat.le_refl _, h1, rfl, by rw [Hid, length_splice _ _ _ (by simp; omega)]; simp, HG3', HB3', fun j hj => by
    rw [splice_get (by simp; omega), if_neg (by omega), if_pos (by simp; omega)]
    obtain rfl : j = 0 := by omega
    rfl⟩
  case round =>
    obtain ⟨k, zs, hk1, hk, rfl, hz, hh, hb, hall⟩ := hrel
    by_cases hlt : k < n
    · obtain ⟨m, hm⟩ : ∃ m, Nat.min k (n - k) = m := ⟨_, rfl⟩
      have hm1 : 1 ≤ m := by rw [← hm]; simp only [Nat.min_def]; split <;> omega
      have hm2 : k + m ≤ n := by rw [← hm]; simp only [Nat.min_def]; split <;> omega
      have hm3 : m ≤ k := by rw [← hm]; simp only [Nat.min_def]; split <;> omega
      have HMM := Lib.hid hm; clear hm
      obtain ⟨cs, hcs⟩ : ∃ cs, List.replicate m (Value.string s) = cs := ⟨_, rfl⟩
      have hcl : cs.length = m := by rw [← hcs]; simp
      have HLEN : Hid (cs.length = Nat.min k (n - k)) := by rw [Hid, HMM.out, hcl]
      have HPOS : Hid (∀ wx : World, wx.heap = wr.heap → 0 < cs.length → (if n = k then some (⟨w1.heap.size, 0, none⟩ : Addr) else some ⟨w1.heap.size, k, none⟩) = some ⟨w1.heap.size, k, none⟩ ∧ ∃ ad, some (⟨w1.heap.size, 0, none⟩ : Addr) = some ad ∧ ∀ j u, cs[j]? = some u → wx.cell? (ad.add j) = some u) := by
        intro wx hwx _
        refine ⟨by rw [if_neg (by omega)], _, rfl, fun j u hj => ?_⟩
        have hjm : j < m := by
          have := (List.getElem?_eq_some_iff.1 hj).1
          omega
        rw [← hcs, List.getElem?_replicate, if_pos hjm] at hj
        rw [show (⟨w1.heap.size, 0, none⟩ : Addr).add j = ⟨w1.heap.size, j, none⟩ from by unfold Addr.add; split <;> simp_all]
        have hh2 : wx.heap[w1.heap.size]? = some (.cells zs.toArray 53 (0, 0)) := by rw [hwx]; exact hh.out
        rw [cell_of_row wx w1.heap.size j _ _ (0, 0) hh2]
        rw [← hj]; simpa using hall.out j (by omega)
      have HFIT : Hid (k + cs.length ≤ zs.length) := by rw [Hid, hz.out, hcl]; exact hm2
      have HONE : Hid (∀ u ∈ cs, u.oneCell' = true) := by
        intro u hu
        rw [← hcs] at hu
        simp at hu
        rw [hu.2]; rfl
      have HCS := Lib.hid hcs; have HCL := Lib.hid hcl
      have hcl1 : cs.length ≤ 12 := by omega
      have hsum : IntKind.i64.wrap ((k : Int) + (cs.length : Int)) = ((k + m : Nat) : Int) := by rw [IntWalk.i64_in _ (by omega), hcl]; omega
      clear hcs hcl
      go_wp2
      go_region_law (refine step_copy_splice (o := ⟨some 45, _, _, _, _, _⟩) rfl (.tmp 41) (.tmp 44) 107 107 rfl 53 Tryd.underlying107 info_word_size (if n = k then some ⟨w1.heap.size, 0, none⟩ else some ⟨w1.heap.size, k, none⟩) (some ⟨w1.heap.size, 0, none⟩) (n - k) (n - k) k n (by simp [Act.eval, Act.put]) (by simp [Act.eval, Act.put]) w1.heap.size k zs 53 hh.out cs HLEN.out (HPOS.out _ rfl) HFIT.out HONE.out w1.heap.size w1 (below_drewN hb.out 1) (Nat.le_refl _) ?_; intro w4 HG4 HB4)
      have HB4' := Lib.hid HB4; clear HB4
      go_wp2
      go_roundw
      case rel =>
        have h4 : w4.heap[w1.heap.size]? = some (.cells (splice zs k (List.replicate m (Value.string s))).toArray 53 (0, 0)) := by
          rw [HCS.out]; exact HG4.out
        have hcl := HCL.out
        refine ⟨k + m, by omega, hm2, by omega, _, ?_, h4, fun j hj => ?_⟩
        · rw [Hid, length_splice _ _ _ (by rw [hz.out]; simp; omega)]; exact hz.out
        · rw [splice_get (by rw [hz.out]; simp; omega)]
          split
          · exact hall.out j (by assumption)
          · rw [if_pos (by simp; omega), List.getElem?_replicate, if_pos (by omega)]
      case measure => have := HCL.out; simp [intOf]; omega
    · have hkn : k = n := by omega
      have HK := Lib.hid hkn; clear hkn
      go_wp2
      go_ret
      refine ⟨rfl, fun j hj => ?_, hb.out⟩
      rw [cell_of_row wr w1.heap.size j _ _ (0, 0) hh.out]
      simpa using hall.out j (by rw [HK.out]; exact hj)

end Go.Proofs.YtfdliekhlcbkcaaDoor

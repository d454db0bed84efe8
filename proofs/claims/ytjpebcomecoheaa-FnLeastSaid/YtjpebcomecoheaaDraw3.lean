/-
  The draws of the laws on one permutation; the laws' own helpers.
-/
import Derived.Test.YtjpebcomecoheaaDraw2
import Derived.Test.YtjpebcomecoheaaSpecPow
namespace Go.Proofs.Ytjpebcomecoheaa
open Go.RowKit

theorem RdB.nil_ (w : World) (A : Option Addr) : RdB w A 0 [] := ⟨rfl, fun h => absurd h (by omega), fun j hj => absurd hj (by omega)⟩
theorem RdB.of_row {w : World} {a : Addr} {len cap : Nat} {zs : List Int} (hl : len ≤ cap) (hz : zs.length = cap) (hc : ∀ i, i < zs.length → w.cell? (a.add i) = some (.int .u8 (zs.getD i 0))) (hw : ∀ n ∈ zs, (Lit.int .u8 n).wf = true) : RdB w (some a) len (zs.take len) := by
  have key : ∀ j, j < len → gi (zs.take len) j = zs.getD j 0 := fun j hj => by simp [gi, List.getD, hj]
  refine ⟨by rw [List.length_take]; omega, fun _ => ⟨a, rfl, fun j hj => by rw [hc j (by omega), key j hj]⟩, fun j hj => ?_⟩
  rw [key j hj]
  have hj' : j < zs.length := by omega
  have e : zs.getD j 0 = zs[j] := by simp [List.getD, hj']
  have := hw _ (List.getElem_mem hj')
  rw [e]
  simp [Lit.wf, IntKind.min, IntKind.max, IntKind.bits, IntKind.signed] at this
  omega
theorem RdB.take {w : World} {A : Option Addr} {n L : Nat} {bs : List Int} (h : RdB w A n bs) (hL : L ≤ n) : RdB w A L (bs.take L) := by
  have key : ∀ j, j < L → gi (bs.take L) j = gi bs j := fun j hj => by simp [gi, List.getD, hj]
  refine ⟨by rw [List.length_take, h.1]; omega, fun h0 => ?_, fun j hj => by rw [key j hj]; exact h.2.2 j (by omega)⟩
  obtain ⟨ad, e, hc⟩ := h.2.1 (by omega)
  exact ⟨ad, e, fun j hj => by rw [key j hj]; exact hc j (by omega)⟩
theorem open_reads (w : World) (A : Option Addr) (n c : Nat) (bs : List Int) (h : RdB w A n bs) (hn : n ≤ 1048576) (hc : n ≤ c) :
    Calls Try.prog 62 #[.slice A n c] w fun e w' => e = .returned (.pointer (some ⟨w.heap.size, 0, none⟩)) ∧ Reads w' w.heap.size 0 ∧ Below w.heap.size w w' ∧ w.heap.size < w'.heap.size := by
  refine (open_any w A n c hn hc).mono ?_
  rintro e w' ⟨rfl, L, hL, hLn, rfl⟩
  have hb : Below w.heap.size w (w.alloc (.cells #[.slice A L c, .int .i64 0] 95)) := (Below.refl _ _).alloc (Nat.le_refl _) _
  have ht := h.take hLn
  refine ⟨rfl, ⟨A, L, c, bs.take L, heap_alloc_new w _, ⟨ht.1, fun h0 => ?_, ht.2.2⟩, hL, fun ad e h0 => ?_⟩, hb, by simp⟩
  · obtain ⟨ad, e, hc⟩ := ht.2.1 h0
    exact ⟨ad, e, fun j hj => (hb.cell (World.block_lt_of_cell? w _ (hc j hj))).trans (hc j hj)⟩
  · obtain ⟨ad', e', hc⟩ := ht.2.1 h0
    rw [e] at e'
    injection e' with e'
    subst e'
    have := World.block_lt_of_cell? w _ (hc 0 h0)
    rwa [add_block] at this
theorem drawSign_any (w : World) (A : Option Addr) (n c : Nat) (bs : List Int) (h : RdB w A n bs) (hn : n ≤ 1048576) (hc : n ≤ c) :
    Calls Try.prog 27 #[.slice A n c] w fun e w' => ∃ v ys, e = .returned v ∧ Own w' w.heap.size v ys ∧ ys.length ≤ 1000 ∧ Below w.heap.size w w' := by
  go_enter Try.func27, Try.ntmps27
  go_wp2_with fail
  refine (open_reads w A n c bs h hn hc).mono ?_
  rintro e w1 ⟨rfl, r1, b1, s1⟩
  go_wp2_with fail
  refine (some_any w1 w.heap.size 0 9 r1 (by omega) (by omega) (by omega)).mono ?_
  rintro e w2 ⟨v, ys, rfl, ho, hl, b2⟩
  go_wp2_with fail
  go_ret
  exact ⟨v, ys, rfl, ho.mono (by omega), by omega, b1.trans b2⟩

set_option maxHeartbeats 800000 in
theorem stayOf_any (n : Nat) (w : World) (hn : n ≤ 1048576) :
    Calls Try.prog 26 #[.int .i64 n] w fun e w' => ∃ v, e = .returned v ∧ Own w' w.heap.size v (sameL n) ∧ Below w.heap.size w w' := by
  obtain ⟨i0, hinf, hz0, hz1, hz2⟩ := info_parts info_int
  go_enter Try.func26, Try.ntmps26
  go_wp2_with fail
  go_loopw [3, 4] (fun v' i wr => ∃ (v : Value) (k : Nat), v = v' ∧ k ≤ n ∧ i = .int .i64 k ∧ Hid (wr.ownsRow w.heap.size 3 1 v k (ints (sameL k))) ∧ Hid (Below w.heap.size w wr)) (fun _ i _ => n - (intOf i).toNat)
  case atStart => exact ⟨_, 0, rfl, Nat.zero_le _, rfl, Own.empty (Nat.le_refl _), (Below.refl _ _).alloc (Nat.le_refl _) _⟩
  case round =>
    obtain ⟨v, k, rfl, hk, rfl, ho, hb⟩ := hrel
    have hbs := hb.out.size
    by_cases hlt : k < n
    · go_wp2_with (at_builtin; refine wpList_append_own _ rfl _ _ 23 rfl w.heap.size 3 i0 (.int .i64 0) 1 8 Try.underlying23 hinf hz0 hz1 hz2 rfl (by decide) _ _ _ rfl (ho.out.alloc _) ⟨wr.heap.size, 0, none⟩ 1 1 [.int .i64 (k : Int)] rfl rfl (cell_one_new _ _ _) (by intro u hu; simp at hu; subst hu; rfl) (by unfold maxLen; omega) (by omega) (by simp; omega) ?_; intro v1 w1 hown1 hgrow1 _)
      have HO := Lib.hid hown1; have HGR := Lib.hid hgrow1; clear hown1 hgrow1
      go_wp2
      go_roundw
      case rel =>
        refine ⟨_, k + 1, rfl, by omega, by go_num, ?_, ?_⟩
        · have := HO.out
          have e : sameL (k + 1) = sameL k ++ [(k : Int)] := by simp [sameL, tab, List.range_succ]
          rw [Hid, e, ints, List.map_append]
          exact this
        · exact (hb.out.alloc hbs _).grown HGR.out (by simp; omega) (fun j hj => (ho.out.lt j hj).1)
      case measure => simp [intOf]; omega
    · have hkn : k = n := by omega
      subst hkn
      go_wp2
      go_ret
      refine ⟨_, rfl, ?_, hb.out⟩
      unfold Own
      rw [sameL, tab_len]
      exact ho.out

end Go.Proofs.Ytjpebcomecoheaa

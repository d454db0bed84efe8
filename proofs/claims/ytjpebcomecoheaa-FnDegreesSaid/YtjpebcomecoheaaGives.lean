/-
  The program's iterator over the cycles of a permutation keeps its word; the function that makes it; the library's Collect.
-/
import Derived.Test.YtjpebcomecoheaaIter
namespace Go.Proofs.Ytjpebcomecoheaa
open Go.RowKit Go.Shelf
attribute [local go_sem] Oper.semAt_some
variable {F : Fence} {n : Nat}

theorem seen12 (w : World) : SeenT (w.alloc (.cells #[.bool false, .bool false, .bool false, .bool false, .bool false, .bool false, .bool false, .bool false, .bool false, .bool false, .bool false, .bool false] 63)) w.heap.size 63 12 [] := by
  refine ⟨_, heap_alloc_new w _, rfl, fun j hj => ?_⟩
  match j, hj with
  | 0, _ => rfl
  | 1, _ => rfl
  | 2, _ => rfl
  | 3, _ => rfl
  | 4, _ => rfl
  | 5, _ => rfl
  | 6, _ => rfl
  | 7, _ => rfl
  | 8, _ => rfl
  | 9, _ => rfl
  | 10, _ => rfl
  | 11, _ => rfl
  | _ + 12, h => exact absurd h (by omega)

theorem cell_of_block {w : World} {b : Nat} {u : Value} {t : TypeId} (h : w.heap[b]? = some (.cells #[u] t (0, 0))) : w.cell? ⟨b, 0, none⟩ = some u := by
  rw [cell_of_row w b 0 #[u] t (0, 0) h]; rfl

set_option maxRecDepth 100000 in
set_option maxHeartbeats 2000000 in
theorem cycles1_in (hF : F.fn 107) (hro : F.round = none) (hn : 1 ≤ n) (Bn n₀ L : Nat) (A : Option Addr) (m c : Nat) (p : List Int) (W0 : World)
    (hBn : W0.heap[Bn]? = some (.cells #[.slice A m c] 59 (0, 0))) (hR : Rd W0 A m p) (hA : ∀ ad : Addr, A = some ad → 0 < m → ad.block < n₀) (hp : Vld p) (hn₀ : n₀ ≤ W0.heap.size) (hL : L ≤ W0.heap.size) : Gives F n Bn n₀ L (cyclesL p) W0 := by
  intro l J W hW hJ hY h0
  obtain ⟨i0, hinf, hz0, hz1, hz2⟩ := info_parts info_int
  have hpm := hR.1
  have h12 : m ≤ 12 := by rw [← hpm]; exact hp.2.1
  have HV := Lib.hid hp; have Hm := Lib.hid hpm; have HA := Lib.hid hA
  have HR := Lib.hid (hR.below hW); have HBn : Hid (W.heap[Bn]? = some (.cells #[.slice A m c] 59 (0, 0))) := (hW.block Bn (Array.getElem?_eq_some_iff.1 hBn).1).trans hBn
  have hnW : n₀ ≤ W.heap.size := Nat.le_trans hn₀ hW.size
  have hLW : L ≤ W.heap.size := Nat.le_trans hL hW.size
  have HJ := Lib.hid hJ; have HY := Lib.hid hY; have H0 := Lib.hid h0
  clear hp hpm hA hR hBn hW hJ hY h0 hn₀ hL
  have hcb : (W.alloc (.cells #[.bool false, .bool false, .bool false, .bool false, .bool false, .bool false, .bool false, .bool false, .bool false, .bool false, .bool false, .bool false] 63)).cell? ⟨Bn, 0, none⟩ = some (.slice A m c) := by
    rw [World.cell?_alloc_lt _ _ _ (by exact (Array.getElem?_eq_some_iff.1 HBn.out).1)]; exact cell_of_block HBn.out
  refine callsIn_of_wp Try.func107 rfl hF ?_ hro
  simp only [Try.ntmps107, List.size_toArray, List.length_cons, List.length_nil, Nat.reduceAdd, Nat.reduceSub, Array.replicate_succ, Array.replicate_zero, List.push_toArray, List.append_toArray, List.nil_append, List.cons_append]
  gi_wp2
  gi_loopw [9] (fun iv wr' => ∃ (wr : World) (i : Nat) (outs : List (List Int)) (vis : List Nat), wr = wr' ∧ iv = .int .i64 i ∧ i ≤ m ∧ Hid (Outer p m outs vis i) ∧ Hid (J outs wr) ∧ Hid (SeenT wr W.heap.size 63 12 vis) ∧ Hid (Below n₀ W wr) ∧ Hid (wr.heap[Bn]? = some (.cells #[.slice A m c] 59 (0, 0)))) (fun iv _ => m - (intOf iv).toNat)
  case atStart =>
    have hb := (Below.refl W.heap.size W).alloc (Nat.le_refl _) (.cells #[.bool false, .bool false, .bool false, .bool false, .bool false, .bool false, .bool false, .bool false, .bool false, .bool false, .bool false, .bool false] 63)
    exact ⟨_, 0, [], [], rfl, rfl, Nat.zero_le _, Outer.start Hm.out, HJ.out _ _ _ H0.out (Goes.of_below hb), seen12 W, hb.mono hnW, (hb.block Bn (Array.getElem?_eq_some_iff.1 HBn.out).1).trans HBn.out⟩
  case round =>
    obtain ⟨wr, i, outs, vis, rfl, rfl, hin, ho, hj, hse, hbe, hbn⟩ := hrel
    clear hcb
    by_cases hlt : i < m
    · have hcs := hse.out.cell (j := i) (by omega)
      by_cases hvi : i ∈ vis
      · rw [decide_eq_true hvi] at hcs
        gi_wp2
        go_roundw
        case rel => exact ⟨_, i + 1, outs, vis, rfl, by go_num, by omega, ho.out.skip hlt hvi, hj, hse, hbe, hbn⟩
        case measure => simp [intOf]; omega
      · rw [decide_eq_false hvi] at hcs
        have hsw : W.heap.size < wr.heap.size := hse.out.lt
        gi_wp2
        gi_loopw [5, 6] (fun cv' kv wx' => ∃ (wx : World) (cv : Value) (k : Nat) (acc : List Int) (vis' : List Nat), wx = wx' ∧ cv = cv' ∧ kv = .int .i64 k ∧ k < m ∧ acc.length ≤ 12 ∧ Hid (Inner p m vis i acc vis' k) ∧ Hid (wx.ownsRow wr.heap.size 3 1 cv acc.length (ints acc)) ∧ Hid (SeenT wx W.heap.size 63 12 vis') ∧ Hid (wr.grownBy wx (some W.heap.size))) (fun _ _ wx => todo wx W.heap.size 63 12)
        case atStart => exact ⟨_, _, i, [], vis, rfl, rfl, rfl, hlt, by simp, Inner.start ho.out.nodup ho.out.lt hlt, World.ownsRow_nil _ _ _ _, hse, World.grownBy.refl _ _⟩
        case round =>
          obtain ⟨wx, cv, k, acc, vis', rfl, rfl, rfl, hk, hacc, hinn, howc, hsx, hgx⟩ := hrel
          have hwx : wr.heap.size ≤ wx.heap.size := hgx.out.size
          have hk12 : k < 12 := by omega
          have hck := hsx.out.cell hk12
          have hfk := hsx.out.frozen k
          have HBX : Hid (Below n₀ W wx) := hbe.out.grown hgx.out (by omega) (fun q hq => by cases hq; omega)
          have HBNX : Hid (wx.heap[Bn]? = some (.cells #[.slice A m c] 59 (0, 0))) := (hgx.out.block Bn (Array.getElem?_eq_some_iff.1 hbn.out).1 (fun e => by
            injection e with e
            subst e
            obtain ⟨cs, h, _⟩ := hse.out
            have h2 := hbn.out
            rw [h] at h2
            injection h2 with h2
            injection h2 with _ h2
            exact absurd h2 (by decide))).trans hbn.out
          by_cases hvk : k ∈ vis'
          · rw [decide_eq_true hvk] at hck
            have ht := ho.out.take hlt h12 hvi hinn.out hvk
            have hcvo : Own wx wr.heap.size cv acc := howc.out
            obtain ⟨fn, tmps, assign, body, hy, hRd⟩ := HY.out outs acc cv wr wx hj.out (Goes.of_marks hgx.out hse.out hLW) (by omega) hcvo ⟨_, ht.eq.symm⟩
            have HT := Lib.hid ht; clear ht hcvo
            gi_wp2
            refine hRd.mono ?_
            rintro e W3 ⟨rfl, hJ3, hk3⟩
            have HJ3 := Lib.hid hJ3; have HK3 := Lib.hid hk3; clear hJ3 hk3 hRd hy
            gi_wp2
            go_roundw
            case rel =>
              refine ⟨W3, i + 1, outs ++ [acc], vis', rfl, by go_num, by omega, HT.out, HJ3.out, ?_, HBX.out.trans HK3.out.below, HK3.out.kept _ _ HBNX.out (.inr ⟨_, .inr rfl⟩)⟩
              obtain ⟨cs, h, r⟩ := hsx.out
              exact ⟨cs, HK3.out.kept _ _ h (.inr ⟨_, .inl rfl⟩), r⟩
            case measure => simp [intOf]; omega
          · rw [decide_eq_false hvk] at hck
            have HST := Lib.hid (hinn.out.step HV.out Hm.out hvk)
            obtain ⟨ad, hAe, hpc⟩ := (HR.out.kept HA.out HBX.out).at_ hk
            have hadb := HA.out ad hAe (by omega)
            subst hAe
            have HOW : Hid ((wx.setCell ⟨W.heap.size, k, none⟩ (.bool true)).ownsRow wr.heap.size 3 1 cv acc.length (ints acc)) := howc.out.kept (grown_set _ _ _ _) (.inr (own_ne_seen howc.out hsx.out (by decide)))
            have hxg := HV.out.gi_gn (j := k) (by rw [Hm.out]; exact hk)
            rw [hxg] at hpc
            have HPC := Lib.hid hpc; have HXG := Lib.hid hxg; clear hpc hxg
            have hbnl : Bn < wx.heap.size := (Array.getElem?_eq_some_iff.1 HBNX.out).1
            have hbne : Bn ≠ W.heap.size := by
              intro e
              subst e
              obtain ⟨cs, h, _⟩ := hsx.out
              have h2 := HBNX.out
              rw [h] at h2
              injection h2 with h2
              injection h2 with _ h2
              exact absurd h2 (by decide)
            have hbnr : Bn < wr.heap.size := (Array.getElem?_eq_some_iff.1 hbn.out).1
            gi_wp2_with (gi_at_builtin; refine wpListIn_append_own _ rfl (.tmp 26) (.tmp 28) 23 rfl wr.heap.size 3 i0 (.int .i64 0) 1 8 Try.underlying23 hinf hz0 hz1 hz2 rfl (by decide) _ _ _ rfl (HOW.out.alloc _) ⟨wx.heap.size, 0, none⟩ 1 1 [.int .i64 (k : Int)] rfl rfl (cell_one_set _ _ _ _ _) (by intro u hu; simp at hu; subst hu; rfl) (by unfold maxLen; omega) (by omega) (by simp [World.setCell]; omega) ?_; intro v3 w3 hown3 hgrow3 _; have HO3 := Lib.hid hown3; have HG3 := Lib.hid hgrow3; clear hown3 hgrow3; have HROW : Hid (∀ q, Value.ownBlock cv = some q → wr.heap.size ≤ q) := fun q hq => (HOW.out.lt q hq).1; have HBX3 : Hid (Below n₀ wx w3) := (((Below.refl n₀ wx).setCell (p := ⟨W.heap.size, k, none⟩) hnW (.bool true)).alloc (by simp [World.setCell]; omega) (.cells #[.int .i64 (k : Int)] 3)).grown HG3.out (by simp [World.setCell]; omega) (fun q hq => by have := HROW.out q hq; omega); have hpc3 := (HBX3.out.cell (p := ad.add k) (by rw [add_block]; exact hadb)).trans HPC.out; have HBN3 := Lib.hid ((HG3.out.block Bn (by simp [World.setCell]; omega) (fun e => by have := HROW.out Bn e.symm; omega)).trans ((Below.heap_alloc _ _ Bn (by simp [World.setCell]; omega)).trans ((Below.heap_setCell wx ⟨W.heap.size, k, none⟩ (.bool true) Bn hbne).trans HBNX.out))); have hcb3 := cell_of_block HBN3.out)
            go_roundw
            case rel =>
              have HGR : Hid (wr.grownBy w3 (some W.heap.size)) := grown_later (grown_later (grownBy_trans hgx.out (grown_set wx _ k (.bool true))) (World.grownBy_alloc _ (.cells #[.int .i64 (k : Int)] 3) none) (fun i hi => by cases hi)) HG3.out HROW.out
              refine ⟨_, _, gn p k, acc ++ [(k : Int)], k :: vis', rfl, rfl, rfl, HST.out.klt, by have := HST.out.len; omega, HST.out, ?_, ?_, HGR.out⟩
              · have := HO3.out
                simpa [ints, Hid] using this
              · exact ((hsx.out.set k).alloc _).grown HG3.out (own_ne_seen HOW.out (hsx.out.set k) (by decide))
            case measure =>
              refine todo_step hsx.out hinn.out.nodup (fun j hj => Nat.lt_of_lt_of_le (hinn.out.lt j hj) h12) hk12 hvk ?_
              have hl : W.heap.size < (wx.setCell ⟨W.heap.size, k, none⟩ (.bool true)).heap.size := (hsx.out.set k).lt
              rw [HG3.out.block _ (by simp; simpa using Nat.lt_succ_of_lt hl) (fun e => own_ne_seen HOW.out (hsx.out.set k) (by decide) e.symm)]
              exact Below.heap_alloc _ _ _ hl
    · have hin' : i = m := by omega
      subst hin'
      gi_wp2
      go_end0
      exact ⟨⟨_, rfl⟩, by rw [ho.out.done]; exact hj.out⟩

end Go.Proofs.Ytjpebcomecoheaa

/-
  The model's PermType.
  The program's PermType: the lengths are collected, sorted and turned around.
-/
import Derived.Test.YteajaikgeephmaaOrb
import Derived.Test.YteajaikgeephmaaKitSS
import Derived.Test.YteajaikgeephmaaShelf
import Derived.Lib.OwnBridge
import Derived.Lib.AppendIntMem
namespace Go.Proofs.Yteajaikgeephmaa
open Go.RowKit

theorem cyc_bounds {p : List Int} (hp : Vld p) : ∀ j, j < (cyclesL p).length → 1 ≤ ((cyclesL p).getD j []).length ∧ ((cyclesL p).getD j []).length ≤ p.length := by
  intro j hj
  have hm : (cyclesL p).getD j [] ∈ cyclesL p := by
    have : (cyclesL p).getD j [] = (cyclesL p)[j] := by simp [List.getD, hj]
    rw [this]; exact List.getElem_mem hj
  have hc := (cyclesL_spec hp).1 _ hm
  refine ⟨hc.pos, ?_⟩
  have h2 := nodup_len p.length (((cyclesL p).getD j []).map Int.toNat) (by
    rw [List.Nodup, List.pairwise_iff_getElem]
    intro a b ha hb hab
    simp only [List.length_map] at ha hb
    have h3 := hc.apart a b hab hb
    simp only [gn, gi_eq hb, gi_eq ha] at h3
    simpa using h3) (fun x hx => by
    obtain ⟨a, ha, rfl⟩ := List.mem_map.1 hx
    obtain ⟨i, hi, rfl⟩ := List.getElem_of_mem ha
    have := hc.lt i hi
    simpa only [gn, gi_eq hi] using this)
  simpa using h2
theorem typeL_len {p : List Int} (hp : Vld p) : (typeL p).length = (cyclesL p).length := by
  rw [typeL, fromLen_len, cnt_sum _ _ _ (cyc_bounds hp)]

set_option maxHeartbeats 1600000 in
theorem l1Type_any (A0 : Option Addr) (n c0 : Nat) (p : List Int) (w : World) (h0 : Rd w A0 n p) (hp : Vld p) :
    Calls Try.prog 100 #[.slice A0 n c0] w fun e w' => ∃ v, e = .returned v ∧ Own w' w.heap.size v (typeL p) ∧ Below w.heap.size w w' := by
  obtain ⟨i0, hinf, hz0, hz1, hz2⟩ := info_parts info_int
  have h12 : n ≤ 12 := by rw [← h0.1]; exact hp.2.1
  have hcl := cyclesL_len (p := p)
  rw [h0.1] at hcl
  obtain ⟨m, hm⟩ : ∃ m, (cyclesL p).length = m := ⟨_, rfl⟩
  rw [hm] at hcl
  have H0 := Lib.hid h0; have HV := Lib.hid hp; have Hn := Lib.hid h0.1; have HM := Lib.hid hm; clear h0 hp hm
  go_enter Try.func100, Try.ntmps100
  go_wp2_with fail
  have hb0 : Below w.heap.size w (w.alloc (.cells #[] 3)) := (Below.refl _ _).alloc (Nat.le_refl _) _
  refine (l1Cycles_any A0 n c0 p _ (H0.out.below hb0) HV.out).mono ?_
  rintro e w2 ⟨v, rfl, o, b⟩
  have HOWN : Hid (Own w2 w.heap.size (.slice (some ⟨w.heap.size, 0, none⟩) 0 0) []) := (Own.empty (Nat.le_refl _)).below b
  have HB2 : Hid (Below w.heap.size w w2) := hb0.trans (b.mono hb0.size)
  have hoslt := o.lt
  obtain ⟨A2, c2, rfl, -⟩ := o.form HM.out
  have HSS : Hid (OwnSS w2 (w.heap.size + 1) w2.heap.size (.slice A2 m c2) (cyclesL p)) := by have := o; rwa [World.size_alloc] at this
  have HSL := Lib.hid hoslt
  clear o b hb0 hoslt
  go_wp2_with fail
  go_loopw [3, 5, 6] (fun v' lv _ wr' => ∃ (wr : World) (v : Value) (k : Nat) (out : List Int), wr = wr' ∧ v = v' ∧ lv = .int .i64 k ∧ k ≤ n ∧ Hid (typeL p = out ++ fromLen (cyclesL p) k) ∧ Hid (Own wr w.heap.size v out) ∧ Hid (w2.grownBy wr (some w.heap.size)) ∧ Hid (∀ q, v.ownBlock = some q → q = w.heap.size ∨ w2.heap.size ≤ q)) (fun _ lv _ _ => (intOf lv).toNat)
  case atStart => exact ⟨_, _, n, [], rfl, rfl, rfl, Nat.le_refl _, by rw [typeL, Hn.out]; rfl, HOWN, World.grownBy.refl _ _, fun q hq => by simp [Value.ownBlock] at hq; exact .inl hq.symm⟩
  case round =>
    clear HOWN
    obtain ⟨wr, v, k, out, rfl, rfl, rfl, hk, hty, ho, hg, hrow⟩ := hrel
    have hsw := HB2.out.size
    have hwr := hg.out.size
    by_cases hk0 : 0 < k
    · obtain ⟨k, rfl⟩ : ∃ k', k = k' + 1 := ⟨k - 1, by omega⟩
      have hkc : ((k + 1 : Nat) : Int) = (k : Int) + 1 := by omega
      rw [hkc]
      go_wp2_with fail
      go_loopw [3, 6] (fun u' iv wx' => ∃ (wx : World) (u : Value) (i : Nat), wx = wx' ∧ u = u' ∧ iv = .int .i64 i ∧ i ≤ m ∧ Hid (Own wx w.heap.size u (out ++ List.replicate (cnt (cyclesL p) (k + 1) i) ((k : Int) + 1))) ∧ Hid (w2.grownBy wx (some w.heap.size)) ∧ Hid (∀ q, u.ownBlock = some q → q = w.heap.size ∨ w2.heap.size ≤ q)) (fun _ iv _ => m - (intOf iv).toNat)
      case atStart => exact ⟨_, _, 0, rfl, rfl, rfl, Nat.zero_le _, by simpa [cnt, Hid] using ho.out, hg, hrow⟩
      case round =>
        clear ho hg hrow hwr
        obtain ⟨wx, u, i, rfl, rfl, rfl, hi, ho, hg, hrow⟩ := hrel
        have hwx := hg.out.size
        by_cases hlt : i < m
        · have hss : OwnSS wx (w.heap.size + 1) w2.heap.size (.slice A2 m c2) (cyclesL p) := HSS.out.over hg.out (fun q hq => by cases hq; omega)
          obtain ⟨ad, Aj, cj, nj, hAe, hc, hr, -⟩ := (hss.rd HM.out).at_ hlt
          subst hAe
          have hnj := hr.1
          have hbd := (cyc_bounds HV.out i (by rw [HM.out]; exact hlt)).2
          rw [hnj, Hn.out] at hbd
          have hcs : cnt (cyclesL p) (k + 1) (i + 1) = cnt (cyclesL p) (k + 1) i + (if ((cyclesL p).getD i []).length = k + 1 then 1 else 0) := rfl
          rw [hnj] at hcs
          have hci := cnt_le (cyclesL p) (k + 1) i
          have hol : out.length ≤ 1000000 := by
            have := congrArg List.length hty.out
            rw [typeL_len HV.out, HM.out, List.length_append] at this
            omega
          clear hss hr
          by_cases he : nj = k + 1
          · have he' : ((nj : Int) == (k : Int) + 1) = true := by simp; omega
            rw [if_pos he] at hcs
            have HCS := Lib.hid hcs; clear hcs he hnj
            have hlen : (out ++ List.replicate (cnt (cyclesL p) (k + 1) i) ((k : Int) + 1)).length ≤ 2000000 := by simp; omega
            obtain ⟨xs, hxs⟩ : ∃ xs, out ++ List.replicate (cnt (cyclesL p) (k + 1) i) ((k : Int) + 1) = xs := ⟨_, rfl⟩
            rw [hxs] at ho hlen
            have HXS := Lib.hid hxs; clear hxs
            have how : wx.ownsRow w.heap.size 3 1 u xs.length (ints xs) := ho.out
            have HOW := Lib.hid how; clear how
            go_wp2_with (at_builtin; refine wpList_append_own_at _ rfl (.tmp 29) (.tmp 31) 23 rfl w.heap.size 3 i0 (.int .i64 0) 1 8 Try.underlying23 hinf hz0 hz1 hz2 rfl (by decide) _ _ _ rfl (HOW.out.alloc _) ⟨wx.heap.size, 0, none⟩ 1 1 [.int .i64 ((k : Int) + 1)] rfl rfl (cell_one_new _ _ _) (by intro u hu; simp at hu; subst hu; rfl) (by unfold maxLen; omega) (by omega) (by simp; omega) ?_; intro v1 w1 hown1 hgrow1 _ hat1; have HO1 := Lib.hid hown1; have HG1 := Lib.hid hgrow1; have HA1 := Lib.hid hat1; clear hown1 hgrow1 hat1)
            go_roundw
            case rel =>
              refine ⟨_, _, i + 1, rfl, rfl, by go_num, by omega, ?_, ?_, ?_⟩
              · have h1 := HO1.out
                have e : out ++ List.replicate (cnt (cyclesL p) (k + 1) (i + 1)) ((k : Int) + 1) = xs ++ [(k : Int) + 1] := by
                  rw [HCS.out, ← HXS.out, List.replicate_succ', List.append_assoc]
                rw [Hid, e]
                unfold Own
                simpa [ints] using h1
              · have hga : w2.grownBy (wx.alloc (.cells #[.int .i64 ((k : Int) + 1)] 3)) (some w.heap.size) := grown_later hg.out (World.grownBy_alloc _ _ none) (fun q hq => by cases hq)
                have h3 : (wx.alloc (.cells #[.int .i64 ((k : Int) + 1)] 3)).grownBy w1 u.ownBlock := HG1.out
                rcases hu : u.ownBlock with _ | q
                · exact grown_later hga h3 (fun r hr => by rw [hu] at hr; cases hr)
                · rcases hrow.out q hu with rfl | hq
                  · rw [hu] at h3
                    exact grownBy_trans hga h3
                  · exact grown_later hga h3 (fun r hr => by rw [hu] at hr; cases hr; exact hq)
              · intro q hq
                have h4 : v1.ownBlock = u.ownBlock ∨ v1.ownBlock = some (wx.alloc (.cells #[.int .i64 ((k : Int) + 1)] 3)).heap.size := HA1.out
                rcases h4 with h | h
                · exact hrow.out q (by rw [← h]; exact hq)
                · rw [h] at hq
                  injection hq with hq
                  rw [World.size_alloc] at hq
                  omega
            case measure => simp [intOf]; omega
          · have he' : ((nj : Int) == (k : Int) + 1) = false := by simp; omega
            rw [if_neg he, Nat.add_zero] at hcs
            have HCS := Lib.hid hcs; clear hcs he hnj
            go_wp2_with fail
            go_roundw
            case rel => exact ⟨_, _, i + 1, rfl, rfl, by go_num, by omega, by rw [HCS.out]; exact ho, hg, hrow⟩
            case measure => simp [intOf]; omega
        · have him : i = m := by omega
          have HIM := Lib.hid him; clear him
          go_wp2_with fail
          go_roundw
          case rel =>
            refine ⟨_, _, k, _, rfl, rfl, by go_num, by omega, ?_, ho, hg, hrow⟩
            rw [Hid, hty.out, fromLen, ← List.append_assoc, HM.out, HIM.out]
          case measure => simp [intOf]
    · have hk00 : k = 0 := by omega
      subst hk00
      go_wp2_with fail
      go_ret
      refine ⟨_, rfl, ?_, HB2.out.grown hg.out (by omega) (fun q hq => by cases hq; exact Nat.le_refl _)⟩
      rw [hty.out]
      simpa [fromLen] using ho.out

theorem typeR_len {p ys : List Int} {ok : Bool} (h : typeR p = (ok, ys)) : ys.length ≤ 12 := by
  unfold typeR at h
  split at h
  · rename_i hb
    injection h with _ h
    have hv := Vld_of hb
    have := cyclesL_len (p := p)
    have := hv.2.1
    rw [← h, typeL_len hv]; omega
  · injection h with _ h; rw [← h]; simp

end Go.Proofs.Yteajaikgeephmaa

namespace Go.Proofs.Yteajaikgeephmaa
open Go.RowKit Go.Shelf Go.Sort
attribute [local go_sem] Oper.semAt_some

def lens (cs : List (List Int)) : List Int := cs.map fun c => (c.length : Int)
theorem lens_snoc (a : List (List Int)) (c : List Int) : lens (a ++ [c]) = lens a ++ [(c.length : Int)] := by simp [lens]
theorem lens_count {p : List Int} (hp : Vld p) (x : Int) : (typeL p).count x = (lens (cyclesL p)).count x := by
  rw [typeL, fromLen_count]
  by_cases h : 1 ≤ x ∧ x ≤ p.length
  · rw [if_pos h, cnt_count _ _ _ (Nat.le_refl _), List.take_length]
    rw [Int.toNat_of_nonneg (by omega)]
    rfl
  · rw [if_neg h]
    symm
    rw [List.count_eq_zero]
    intro hm
    obtain ⟨c, hc, rfl⟩ := List.mem_map.1 hm
    obtain ⟨j, hj, rfl⟩ := List.getElem_of_mem hc
    have := cyc_bounds hp j hj
    have e : (cyclesL p).getD j [] = (cyclesL p)[j] := by simp [List.getD, hj]
    rw [e] at this
    omega
theorem sorted_type {p : List Int} (hp : Vld p) : ((lens (cyclesL p)).mergeSort fun x y => decide (x ≤ y)).reverse = typeL p := by
  refine falls_eq _ _ ?_ (fromLen_falls _ _) ?_
  · rw [Falls, List.pairwise_reverse]
    have := List.pairwise_mergeSort (le := fun (x y : Int) => decide (x ≤ y)) (fun a b c h1 h2 => by simp at h1 h2 ⊢; omega) (fun a b => by simp; omega) (lens (cyclesL p))
    exact this.imp (fun h => by simpa using h)
  · refine (List.reverse_perm _).trans ((List.mergeSort_perm _ _).trans ?_)
    rw [List.perm_iff_count]
    intro x
    exact (lens_count hp x).symm

theorem sort_grown {W : World} {g k : Nat} {d : Array Int} {os : Array Obj} : W.grownBy (grow (putRow (Value.int .i64) (Sort.ahead W k) g 0 d) os) (some g) := by
  refine ⟨rfl, rfl, rfl, by simp [grow, putRow, mapBlock, Sort.ahead], fun i hi hne => ?_⟩
  have hne' : g ≠ i := fun e => hne (by rw [e])
  simp only [grow, putRow, mapBlock, Sort.ahead]
  rw [Array.getElem?_append, if_pos (by simpa using hi), Array.getElem?_modify, if_neg hne']

/-- A row put in another order, blocks of the callee's own behind: the row is owned, all else is as it was. -/
theorem row_after {w W W1 : World} {n₀ b l g cap m k : Nat} {zs ys : List Int} {os : Array Obj} {bx : Value} {o : Obj}
    (hW1 : W1 = grow (putRow (Value.int .i64) (Sort.ahead W k) g 0 ys.toArray) os)
    (hvo : W.ownsRow n₀ 3 1 (.slice (some ⟨g, 0, none⟩) m cap) m (ints zs)) (hyl : ys.length = m)
    (hb : W.heap[b]? = some (.cells #[bx] 23 (0, 0))) (hK : W.heap[l]? = some o) (ho : o.isCells = false) (hbe : Below n₀ w W) (hz : n₀ ≤ W.heap.size) :
    W1.ownsRow n₀ 3 1 (.slice (some ⟨g, 0, none⟩) m cap) m (ints ys) ∧ W1.heap[b]? = some (.cells #[bx] 23 (0, 0)) ∧ W1.heap[l]? = some o ∧ Below n₀ w W1 := by
  subst hW1
  have hg : W.grownBy (grow (putRow (Value.int .i64) (Sort.ahead W k) g 0 ys.toArray) os) (some g) := sort_grown
  obtain ⟨hn, cs, hh⟩ := row_kind hvo g rfl
  refine ⟨?_, box_grown hb hvo hg (by decide), (hg.block l (Array.getElem?_eq_some_iff.1 hK).1 (fun e' => ?_)).trans hK, hbe.grown hg hz (fun r e => by cases e; exact hn)⟩
  · have h1 := Lib.ownsRow_putRow (q := k) (k := m) (ys := ys) hvo hyl (Nat.le_refl _)
    rw [show ys.take m = ys by rw [← hyl]; exact List.take_length] at h1
    exact Lib.ownsRow_grow h1 0 os
  · injection e' with e'
    subst e'
    rw [hh] at hK
    injection hK with hK
    subst hK
    simp [Obj.isCells] at ho
theorem holds_row {W : World} {n₀ g cap m : Nat} {zs : List Int} (hvo : W.ownsRow n₀ 3 1 (.slice (some ⟨g, 0, none⟩) m cap) m (ints zs)) : zs.length = m ∧ g < W.heap.size ∧ Holds (Value.int .i64) W g 0 zs.toArray := by
  obtain ⟨g', cap', e, _, h1, _, _, h2, h3⟩ := Lib.holds_of_ownsRow (enc := Value.int .i64) hvo (by simp)
  injection e with e1
  injection e1 with e1
  injection e1 with e1
  subst e1
  exact ⟨h2, h1, h3⟩
theorem sort_any {W : World} {n₀ g cap m : Nat} {zs : List Int} (hvo : W.ownsRow n₀ 3 1 (.slice (some ⟨g, 0, none⟩) m cap) m (ints zs)) (hm : m ≤ 12) :
    Calls Try.prog 112 #[.slice (some ⟨g, 0, none⟩) m cap] W fun e W1 => e = .returned (.tuple #[]) ∧ ∃ n os, W1 = grow (putRow (Value.int .i64) (Sort.ahead W n) g 0 (zs.mergeSort fun x y => decide (x ≤ y)).toArray) os := by
  obtain ⟨h1, h2, h3⟩ := holds_row hvo
  have := Try.slices_Sort_int g 0 cap zs W h3 h2 (by omega)
  rw [h1] at this
  exact this
theorem reverse_any {W : World} {n₀ g cap m : Nat} {zs : List Int} (hvo : W.ownsRow n₀ 3 1 (.slice (some ⟨g, 0, none⟩) m cap) m (ints zs)) (hm : m ≤ 12) :
    Calls Try.prog 113 #[.slice (some ⟨g, 0, none⟩) m cap] W fun e W1 => e = .returned (.tuple #[]) ∧ ∃ n, W1 = grow (putRow (Value.int .i64) (Sort.ahead W n) g 0 zs.reverse.toArray) #[] := by
  obtain ⟨h1, h2, h3⟩ := holds_row hvo
  have := Try.slices_Reverse_int g 0 cap zs W h3 (by omega)
  rw [h1] at this
  simp only [grow_empty]
  exact this

set_option maxRecDepth 100000 in
set_option maxHeartbeats 4000000 in
theorem impl_type_yes (w : World) (A0 : Option Addr) (c0 n0 : Nat) (p : List Int) (h0 : Rd w A0 n0 p) (hp : Vld p) :
    Calls Try.prog 85 #[.slice A0 n0 c0] w fun e w' => ∃ v, e = .returned (.tuple #[v, .bool true]) ∧ Own w' w.heap.size v (typeL p) ∧ Below w.heap.size w w' := by
  obtain ⟨i0, hinf, hz0, hz1, hz2⟩ := info_parts info_int
  have hb := vld_true hp
  have h12 : n0 ≤ 12 := by rw [← h0.1]; exact hp.2.1
  have hcl := cyclesL_len (p := p)
  rw [h0.1] at hcl
  have hn1 : 0 < (cyclesL p).length := by
    obtain ⟨c, hc, _⟩ := (cyclesL_spec hp).2.1 0 (by have := hp.1; omega)
    exact List.length_pos_of_mem hc
  obtain ⟨m, hm⟩ : ∃ m, (cyclesL p).length = m := ⟨_, rfl⟩
  rw [hm] at hcl hn1
  have H0 := Lib.hid h0; have HV := Lib.hid hp; have HM := Lib.hid hm; clear h0 hp hm
  refine (callsIn_wide (n := 5)).1 ?_
  refine callsIn_of_wp_marks Try.func85 rfl trivial ?_
  simp only [Try.ntmps85, List.size_toArray, List.length_cons, List.length_nil, Nat.reduceAdd, Nat.reduceSub, Array.replicate_succ, Array.replicate_zero, List.push_toArray, List.append_toArray, List.nil_append, List.cons_append]
  gi_wp2_with fail
  refine ⟨trivial, ?_⟩
  refine (callsIn_wide.2 (implValid_any A0 n0 c0 p w H0.out (by omega))).mono ?_
  rintro e w1 ⟨rfl, b⟩
  have HB := Lib.hid b; have H01 := Lib.hid (H0.out.below b); clear b
  have HS1 := HB.out.size
  gi_wp2_with fail
  refine ⟨trivial, ?_⟩
  refine (callsIn_wide.2 (cycles_any A0 n0 c0 _)).mono ?_
  rintro e w2 ⟨rfl, rfl⟩
  gi_wp2_with fail
  obtain ⟨W0, hW0⟩ : ∃ W0, (w1.alloc (.cells #[.slice none 0 0] 23)).alloc (.cells #[.slice A0 n0 c0] 60) = W0 := ⟨_, rfl⟩
  rw [hW0]
  have hz0' : w1.heap.size + 2 = W0.heap.size := by rw [← hW0]; simp
  have HBX : Hid (W0.heap[w1.heap.size]? = some (.cells #[.slice none 0 0] 23 (0, 0))) := by
    rw [← hW0]; exact box_alloc (heap_alloc_new w1 _)
  have HPM : Hid (W0.heap[w1.heap.size + 1]? = some (.cells #[.slice A0 n0 c0] 60 (0, 0))) := by
    rw [← hW0]; have := heap_alloc_new (w1.alloc (.cells #[.slice none 0 0] 23)) (.cells #[.slice A0 n0 c0] 60); rwa [World.size_alloc] at this
  have hb10 : Below w1.heap.size w1 W0 := by rw [← hW0]; exact ((Below.refl _ _).alloc (Nat.le_refl _) _).alloc (by simp) _
  have HB0 : Hid (Below w.heap.size w W0) := HB.out.trans (hb10.mono HS1)
  have HR0 := Lib.hid (H01.out.below hb10)
  have hws : w.heap.size ≤ W0.heap.size := HB0.out.size
  clear hb10 hW0
  refine range_cycles (F := Fence.wide) (n := 5) (Bn := w1.heap.size + 1) (n₀ := w.heap.size) (xs := cyclesL p) rfl (by omega) rfl trivial (enters_of Try.func106 (by kernel_rfl) rfl)
    (cycles1_in (F := Fence.wide) (n := 4) trivial rfl (by omega) (w1.heap.size + 1) w.heap.size W0.heap.size A0 n0 c0 p W0 HPM.out HR0.out (Rd.lt H0.out) HV.out hws (Nat.le_refl _)) hws
    (fun _ pre W => (∃ v, W.heap[w1.heap.size]? = some (.cells #[v] 23 (0, 0)) ∧ Own W w.heap.size v (lens pre)) ∧ Below w.heap.size w W)
    (fun _ _ _ _ h _ => h)
    (fun _ pre A B ⟨⟨v, h1, h2⟩, h3⟩ hz hgo => ⟨⟨v, hgo.box h1 (by decide), ownsRow_same h2 (fun g cs h => hgo.box h (by decide))⟩, h3.trans ((hgo.below hz).mono hws)⟩)
    (fun _ pre W l o o' ⟨⟨v, h1, h2⟩, h3⟩ hl hlo ho => ⟨⟨v, put_box h1 hlo ho, ownsRow_same h2 (fun g cs h => put_box h hlo ho)⟩, h3.trans (put_below o' (by omega) h3.size)⟩)
    ⟨⟨_, HBX.out, Own.nil_ _ _⟩, HB0.out⟩
    (fun v => { tmps := #[.slice A0 n0 c0, undef, .slice none 0 0, .bool false, .pointer (some ⟨w1.heap.size, 0, none⟩), v, .slice A0 n0 c0, .bool true, .bool false, .slice A0 n0 c0, .func (.func 106) #[] #[.pointer (some ⟨w1.heap.size + 1, 0, none⟩)], v, undef, undef, undef, undef, undef, undef, undef, undef, undef, undef], defers := [] }) ?assign ?body ?done
  case assign =>
    intro l v W K hK
    gi_wp2
    exact hK
  case body =>
    rintro l B pre x u W ⟨⟨v, hb1, hvo⟩, hb3⟩ hzB hBW hu hpre
    have hc := cell_of_block hb1
    have hpl : pre.length + 1 ≤ m := by have := hpre.length_le; rw [HM.out] at this; simpa using this
    obtain ⟨L, hL⟩ : ∃ L, x.length = L := ⟨_, rfl⟩
    have hll : (lens pre).length = pre.length := by simp [lens]
    have hvo' : W.ownsRow w.heap.size 3 1 v pre.length (ints (lens pre)) := by have := hvo; unfold Own at this; rwa [hll] at this
    have HLS : Hid (lens (pre ++ [x]) = lens pre ++ [(L : Int)]) := by rw [← hL]; exact lens_snoc _ _
    obtain ⟨Au, cu, rfl, -, -⟩ := hu.form' hL
    have HB1 := Lib.hid hb1; have HB3 := Lib.hid hb3; have HVO := Lib.hid hvo'; clear hb1 hb3 hvo hvo' hu hL hll
    have hsz := HB3.out.size
    gi_wp2_with (gi_at_builtin; refine wpListIn_append_own _ rfl (.tmp 12) (.tmp 15) 23 rfl w.heap.size 3 i0 (.int .i64 0) 1 8 Try.underlying23 hinf hz0 hz1 hz2 rfl (by decide) _ _ _ rfl (HVO.out.alloc _) ⟨W.heap.size, 0, none⟩ 1 1 [.int .i64 (L : Int)] rfl rfl (cell_one_new _ _ _) (by intro u hu; simp at hu; subst hu; rfl) (by unfold maxLen; omega) (by omega) (by simp; omega) ?_; intro v1 w3 hown1 hgrow1 _; obtain ⟨g1, cap1, rfl⟩ := ownsRow_succ hown1; have HO1 := Lib.hid hown1; have HG1 := Lib.hid hgrow1; clear hown1 hgrow1; have HBX1 := Lib.hid (box_grown (box_alloc (o' := .cells #[.int .i64 (L : Int)] 3) HB1.out) (HVO.out.alloc _) HG1.out (by decide)); have hc1 := cell_of_block HBX1.out; have hf1 : w3.frozen? ⟨w1.heap.size, 0, none⟩ = false := frozen_of_row w3 w1.heap.size 0 _ _ HBX1.out)
    have hk1 : Keep w.heap.size W w3 := ((Keep.refl _ W).alloc hsz _).grown (by simp; omega) HG1.out (fun r hr => by
      obtain ⟨h1, cs, h2⟩ := row_kind (HVO.out.alloc (.cells #[.int .i64 (L : Int)] 3)) r hr
      exact ⟨h1, _, h2, not_shut (by decide) (by decide)⟩)
    have hk2 := keep_set (n₀ := w.heap.size) (u := .slice (some ⟨g1, 0, none⟩) (pre.length + 1) cap1) HBX1.out HS1 (by decide) (by decide) 0
    refine ⟨hk1.trans hk2, ⟨_, set_box HBX1.out, ?_⟩, HB3.out.trans (hk1.trans hk2).below⟩
    have ho : Own w3 w.heap.size (.slice (some ⟨g1, 0, none⟩) (pre.length + 1) cap1) (lens (pre ++ [x])) := by
      rw [HLS.out]
      unfold Own
      have h1 := HO1.out
      have e : (lens pre ++ [(L : Int)]).length = pre.length + 1 := by simp [lens]
      rw [e]
      simpa [ints] using h1
    exact ownsRow_same ho (fun g cs h => box_set_other HBX1.out (by decide) h)
  case done =>
    rintro W ⟨⟨v, hb1, hvo⟩, hb3⟩ hK
    obtain ⟨zs, hz⟩ : ∃ zs, lens (cyclesL p) = zs := ⟨_, rfl⟩
    have HST : Hid ((zs.mergeSort fun x y => decide (x ≤ y)).reverse = typeL p) := by rw [← hz]; exact sorted_type HV.out
    have hzl : zs.length = m := by rw [← hz, ← HM.out]; simp [lens]
    have hvo' : W.ownsRow w.heap.size 3 1 v m (ints zs) := by rw [hz] at hvo; unfold Own at hvo; rwa [hzl] at hvo
    have hm12 : m ≤ 12 := by omega
    obtain ⟨k, rfl⟩ : ∃ k, m = k + 1 := ⟨m - 1, by omega⟩
    obtain ⟨g, cap, rfl⟩ := ownsRow_succ hvo'
    have hc := cell_of_block hb1
    have hws2 := hb3.size
    have hy1 : (zs.mergeSort fun x y => decide (x ≤ y)).length = k + 1 := by rw [List.length_mergeSort]; exact hzl
    obtain ⟨ys, hys⟩ : ∃ ys, (zs.mergeSort fun x y => decide (x ≤ y)) = ys := ⟨_, rfl⟩
    have hsrt : ∀ W1 : World, (∃ n os, W1 = grow (putRow (Value.int .i64) (Sort.ahead W n) g 0 (zs.mergeSort fun x y => decide (x ≤ y)).toArray) os) → (W1.ownsRow w.heap.size 3 1 (.slice (some ⟨g, 0, none⟩) (k + 1) cap) (k + 1) (ints ys) ∧ W1.heap[w1.heap.size]? = some (.cells #[.slice (some ⟨g, 0, none⟩) (k + 1) cap] 23 (0, 0)) ∧ W1.heap[W0.heap.size]? = some (.deferred (some [])) ∧ Below w.heap.size w W1) := by
      rintro W1 ⟨n, os, h⟩
      rw [hys] at h hy1
      exact row_after h hvo' hy1 hb1 hK rfl hb3 hws2
    have HCS := Lib.hid (sort_any hvo' hm12)
    have HSRT := Lib.hid hsrt
    have HYL : Hid (ys.length = k + 1) := by rw [← hys]; exact hy1
    have HRV : Hid (ys.reverse = typeL p) := by rw [← hys]; exact HST.out
    clear hsrt hys hy1 HST hvo hvo' hb1 hb3 hK hz hzl H0 HV HM HB H01 HBX HPM HB0 HR0
    gi_wp2_with fail
    refine ⟨trivial, ?_⟩
    refine (callsIn_wide.2 HCS.out).mono ?_
    rintro e W1 ⟨rfl, hW1⟩
    obtain ⟨o1, b1, k1, l1⟩ := HSRT.out W1 hW1
    have hc1 := cell_of_block b1
    have hws3 := l1.size
    have hrv : ∀ W2 : World, (∃ n, W2 = grow (putRow (Value.int .i64) (Sort.ahead W1 n) g 0 ys.reverse.toArray) #[]) → (W2.ownsRow w.heap.size 3 1 (.slice (some ⟨g, 0, none⟩) (k + 1) cap) (k + 1) (ints (typeL p)) ∧ W2.heap[w1.heap.size]? = some (.cells #[.slice (some ⟨g, 0, none⟩) (k + 1) cap] 23 (0, 0)) ∧ W2.heap[W0.heap.size]? = some (.deferred (some [])) ∧ Below w.heap.size w W2) := by
      rintro W2 ⟨n, h⟩
      rw [← HRV.out]
      exact row_after h o1 (by rw [List.length_reverse]; exact HYL.out) b1 k1 rfl l1 hws3
    have HCR := Lib.hid (reverse_any o1 hm12)
    have HREV := Lib.hid hrv
    have htl : (typeL p).length = k + 1 := by rw [← HRV.out, List.length_reverse]; exact HYL.out
    have HTL := Lib.hid htl
    clear hrv o1 b1 k1 l1 hW1 HSRT HCS HRV HYL htl hc
    gi_wp2_with fail
    refine ⟨trivial, ?_⟩
    refine (callsIn_wide.2 HCR.out).mono ?_
    rintro e W2 ⟨rfl, hW2⟩
    obtain ⟨o2, b2, k2, l2⟩ := HREV.out W2 hW2
    have hc2 := cell_of_block b2
    have hws4 := l2.size
    have FIN : Hid (Below w.heap.size w (W2.putObj W0.heap.size (.deferred none))) := l2.trans (put_below _ hws hws4)
    have HO : Hid (Own (W2.putObj W0.heap.size (.deferred none)) w.heap.size (.slice (some ⟨g, 0, none⟩) (k + 1) cap) (typeL p)) := by
      have h : Own W2 w.heap.size (.slice (some ⟨g, 0, none⟩) (k + 1) cap) (typeL p) := by unfold Own; rw [HTL.out]; exact o2
      exact ownsRow_same h (fun g cs h => put_box h k2 rfl)
    have HK := Lib.hid k2
    clear o2 b2 k2 l2 hW2 HREV HCR hc1
    gi_wp2
    refine ⟨by simp, .inl ⟨_, _, rfl, run_takeDeferred HK.out, ?_⟩⟩
    exact ⟨_, results_tmp2 rfl _ _ _, _, rfl, HO.out, FIN.out⟩

theorem impl_typeR (w : World) (A0 : Option Addr) (c0 n0 : Nat) (xs0 : List Int) (h0 : Rd w A0 n0 xs0) (hn0 : n0 ≤ 1048576) {ok : Bool} {ys : List Int} (hR : typeR xs0 = (ok, ys)) :
    Calls Try.prog 85 #[.slice A0 n0 c0] w fun e w' => ∃ v, e = .returned (.tuple #[v, .bool ok]) ∧ Own w' w.heap.size v ys ∧ Below w.heap.size w w' := by
  have H0 := Lib.hid h0; have HR := Lib.hid hR; clear h0 hR
  by_cases hb : vld xs0 = true
  · have HV := Lib.hid (Vld_of hb)
    obtain ⟨rfl, rfl⟩ : ok = true ∧ ys = typeL xs0 := by have := HR.out; rw [typeR, if_pos hb] at this; simpa [eq_comm] using this
    exact impl_type_yes w A0 c0 n0 xs0 H0.out HV.out
  · obtain ⟨rfl, rfl⟩ : ok = false ∧ ys = [] := by have := HR.out; rw [typeR, if_neg hb] at this; simpa [eq_comm] using this
    have hb' : vld xs0 = false := by simpa using hb
    clear HR hb
    go_enter Try.func85, Try.ntmps85
    go_wp2_with fail
    refine (implValid_any A0 n0 c0 xs0 w H0.out (by omega)).mono ?_
    rintro e w1 ⟨rfl, b⟩
    have HB := Lib.hid b; clear b
    go_wp2_with fail
    go_ret2
    exact ⟨_, rfl, Own.nil_ _ _, HB.out⟩

end Go.Proofs.Yteajaikgeephmaa

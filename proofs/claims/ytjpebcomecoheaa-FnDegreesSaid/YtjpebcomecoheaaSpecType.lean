/-
  The model's PermType.
-/
import Derived.Test.YtjpebcomecoheaaTypePlain
import Derived.Test.YtjpebcomecoheaaKitSS
namespace Go.Proofs.Ytjpebcomecoheaa
open Go.RowKit

theorem cyc_bounds {p : List Int} (hp : Vld p) : ∀ j, j < (cyclesL p).length → 1 ≤ ((cyclesL p).getD j []).length ∧ ((cyclesL p).getD j []).length ≤ p.length := by
  intro j hj
  have hm : (cyclesL p).getD j [] ∈ cyclesL p := by
    have : (cyclesL p).getD j [] = (cyclesL p)[j] := by simp [List.getD, hj]
    rw [this]; exact List.getElem_mem hj
  have hc := (cyclesL_spec hp).1 _ hm
  refine ⟨hc.pos, ?_⟩
  have h2 := nodup_len p.length (((cyclesL p).getD j []).map Int.toNat) (by
    rw [List.Nodup, List.pairwise_iff_getElem]
    intro a b ha hb hab
    simp only [List.length_map] at ha hb
    have h3 := hc.apart a b hab hb
    simp only [gn, gi_eq hb, gi_eq ha] at h3
    simpa using h3) (fun x hx => by
    obtain ⟨a, ha, rfl⟩ := List.mem_map.1 hx
    obtain ⟨i, hi, rfl⟩ := List.getElem_of_mem ha
    have := hc.lt i hi
    simpa only [gn, gi_eq hi] using this)
  simpa using h2
theorem typeL_len {p : List Int} (hp : Vld p) : (typeL p).length = (cyclesL p).length := by
  rw [typeL, fromLen_len, cnt_sum _ _ _ (cyc_bounds hp)]

set_option maxHeartbeats 1600000 in
theorem l1Type_any (A0 : Option Addr) (n c0 : Nat) (p : List Int) (w : World) (h0 : Rd w A0 n p) (hp : Vld p) :
    Calls Try.prog 99 #[.slice A0 n c0] w fun e w' => ∃ v, e = .returned v ∧ Own w' w.heap.size v (typeL p) ∧ Below w.heap.size w w' := by
  obtain ⟨i0, hinf, hz0, hz1, hz2⟩ := info_parts info_int
  have h12 : n ≤ 12 := by rw [← h0.1]; exact hp.2.1
  have hcl := cyclesL_len (p := p)
  rw [h0.1] at hcl
  obtain ⟨m, hm⟩ : ∃ m, (cyclesL p).length = m := ⟨_, rfl⟩
  rw [hm] at hcl
  have H0 := Lib.hid h0; have HV := Lib.hid hp; have Hn := Lib.hid h0.1; have HM := Lib.hid hm; clear h0 hp hm
  go_enter Try.func99, Try.ntmps99
  go_wp2_with fail
  have hb0 : Below w.heap.size w (w.alloc (.cells #[] 3)) := (Below.refl _ _).alloc (Nat.le_refl _) _
  refine (l1Cycles_any A0 n c0 p _ (H0.out.below hb0) HV.out).mono ?_
  rintro e w2 ⟨v, rfl, o, b⟩
  have HOWN : Hid (Own w2 w.heap.size (.slice (some ⟨w.heap.size, 0, none⟩) 0 0) []) := (Own.empty (Nat.le_refl _)).below b
  have HB2 : Hid (Below w.heap.size w w2) := hb0.trans (b.mono hb0.size)
  have hoslt := o.lt
  obtain ⟨A2, c2, rfl, -⟩ := o.form HM.out
  have HSS : Hid (OwnSS w2 (w.heap.size + 1) w2.heap.size (.slice A2 m c2) (cyclesL p)) := by have := o; rwa [World.size_alloc] at this
  have HSL := Lib.hid hoslt
  clear o b hb0 hoslt
  go_wp2_with fail
  go_loopw [3, 5, 6] (fun v' lv _ wr' => ∃ (wr : World) (v : Value) (k : Nat) (out : List Int), wr = wr' ∧ v = v' ∧ lv = .int .i64 k ∧ k ≤ n ∧ Hid (typeL p = out ++ fromLen (cyclesL p) k) ∧ Hid (Own wr w.heap.size v out) ∧ Hid (w2.grownBy wr (some w.heap.size)) ∧ Hid (∀ q, v.ownBlock = some q → q = w.heap.size ∨ w2.heap.size ≤ q)) (fun _ lv _ _ => (intOf lv).toNat)
  case atStart => exact ⟨_, _, n, [], rfl, rfl, rfl, Nat.le_refl _, by rw [typeL, Hn.out]; rfl, HOWN, World.grownBy.refl _ _, fun q hq => by simp [Value.ownBlock] at hq; exact .inl hq.symm⟩
  case round =>
    clear HOWN
    obtain ⟨wr, v, k, out, rfl, rfl, rfl, hk, hty, ho, hg, hrow⟩ := hrel
    have hsw := HB2.out.size
    have hwr := hg.out.size
    by_cases hk0 : 0 < k
    · obtain ⟨k, rfl⟩ : ∃ k', k = k' + 1 := ⟨k - 1, by omega⟩
      have hkc : ((k + 1 : Nat) : Int) = (k : Int) + 1 := by omega
      rw [hkc]
      go_wp2_with fail
      go_loopw [3, 6] (fun u' iv wx' => ∃ (wx : World) (u : Value) (i : Nat), wx = wx' ∧ u = u' ∧ iv = .int .i64 i ∧ i ≤ m ∧ Hid (Own wx w.heap.size u (out ++ List.replicate (cnt (cyclesL p) (k + 1) i) ((k : Int) + 1))) ∧ Hid (w2.grownBy wx (some w.heap.size)) ∧ Hid (∀ q, u.ownBlock = some q → q = w.heap.size ∨ w2.heap.size ≤ q)) (fun _ iv _ => m - (intOf iv).toNat)
      case atStart => exact ⟨_, _, 0, rfl, rfl, rfl, Nat.zero_le _, by simpa [cnt, Hid] using ho.out, hg, hrow⟩
      case round =>
        clear ho hg hrow hwr
        obtain ⟨wx, u, i, rfl, rfl, rfl, hi, ho, hg, hrow⟩ := hrel
        have hwx := hg.out.size
        by_cases hlt : i < m
        · have hss : OwnSS wx (w.heap.size + 1) w2.heap.size (.slice A2 m c2) (cyclesL p) := HSS.out.over hg.out (fun q hq => by cases hq; omega)
          obtain ⟨ad, Aj, cj, nj, hAe, hc, hr, -⟩ := (hss.rd HM.out).at_ hlt
          subst hAe
          have hnj := hr.1
          have hbd := (cyc_bounds HV.out i (by rw [HM.out]; exact hlt)).2
          rw [hnj, Hn.out] at hbd
          have hcs : cnt (cyclesL p) (k + 1) (i + 1) = cnt (cyclesL p) (k + 1) i + (if ((cyclesL p).getD i []).length = k + 1 then 1 else 0) := rfl
          rw [hnj] at hcs
          have hci := cnt_le (cyclesL p) (k + 1) i
          have hol : out.length ≤ 1000000 := by
            have := congrArg List.length hty.out
            rw [typeL_len HV.out, HM.out, List.length_append] at this
            omega
          clear hss hr
          by_cases he : nj = k + 1
          · have he' : ((nj : Int) == (k : Int) + 1) = true := by simp; omega
            rw [if_pos he] at hcs
            have HCS := Lib.hid hcs; clear hcs he hnj
            have hlen : (out ++ List.replicate (cnt (cyclesL p) (k + 1) i) ((k : Int) + 1)).length ≤ 2000000 := by simp; omega
            obtain ⟨xs, hxs⟩ : ∃ xs, out ++ List.replicate (cnt (cyclesL p) (k + 1) i) ((k : Int) + 1) = xs := ⟨_, rfl⟩
            rw [hxs] at ho hlen
            have HXS := Lib.hid hxs; clear hxs
            have how : wx.ownsRow w.heap.size 3 1 u xs.length (ints xs) := ho.out
            have HOW := Lib.hid how; clear how
            go_wp2_with (at_builtin; refine wpList_append_own_at _ rfl (.tmp 29) (.tmp 31) 23 rfl w.heap.size 3 i0 (.int .i64 0) 1 8 Try.underlying23 hinf hz0 hz1 hz2 rfl (by decide) _ _ _ rfl (HOW.out.alloc _) ⟨wx.heap.size, 0, none⟩ 1 1 [.int .i64 ((k : Int) + 1)] rfl rfl (cell_one_new _ _ _) (by intro u hu; simp at hu; subst hu; rfl) (by unfold maxLen; omega) (by omega) (by simp; omega) ?_; intro v1 w1 hown1 hgrow1 _ hat1; have HO1 := Lib.hid hown1; have HG1 := Lib.hid hgrow1; have HA1 := Lib.hid hat1; clear hown1 hgrow1 hat1)
            go_roundw
            case rel =>
              refine ⟨_, _, i + 1, rfl, rfl, by go_num, by omega, ?_, ?_, ?_⟩
              · have h1 := HO1.out
                have e : out ++ List.replicate (cnt (cyclesL p) (k + 1) (i + 1)) ((k : Int) + 1) = xs ++ [(k : Int) + 1] := by
                  rw [HCS.out, ← HXS.out, List.replicate_succ', List.append_assoc]
                rw [Hid, e]
                unfold Own
                simpa [ints] using h1
              · have hga : w2.grownBy (wx.alloc (.cells #[.int .i64 ((k : Int) + 1)] 3)) (some w.heap.size) := grown_later hg.out (World.grownBy_alloc _ _ none) (fun q hq => by cases hq)
                have h3 : (wx.alloc (.cells #[.int .i64 ((k : Int) + 1)] 3)).grownBy w1 u.ownBlock := HG1.out
                rcases hu : u.ownBlock with _ | q
                · exact grown_later hga h3 (fun r hr => by rw [hu] at hr; cases hr)
                · rcases hrow.out q hu with rfl | hq
                  · rw [hu] at h3
                    exact grownBy_trans hga h3
                  · exact grown_later hga h3 (fun r hr => by rw [hu] at hr; cases hr; exact hq)
              · intro q hq
                have h4 : v1.ownBlock = u.ownBlock ∨ v1.ownBlock = some (wx.alloc (.cells #[.int .i64 ((k : Int) + 1)] 3)).heap.size := HA1.out
                rcases h4 with h | h
                · exact hrow.out q (by rw [← h]; exact hq)
                · rw [h] at hq
                  injection hq with hq
                  rw [World.size_alloc] at hq
                  omega
            case measure => simp [intOf]; omega
          · have he' : ((nj : Int) == (k : Int) + 1) = false := by simp; omega
            rw [if_neg he, Nat.add_zero] at hcs
            have HCS := Lib.hid hcs; clear hcs he hnj
            go_wp2_with fail
            go_roundw
            case rel => exact ⟨_, _, i + 1, rfl, rfl, by go_num, by omega, by rw [HCS.out]; exact ho, hg, hrow⟩
            case measure => simp [intOf]; omega
        · have him : i = m := by omega
          have HIM := Lib.hid him; clear him
          go_wp2_with fail
          go_roundw
          case rel =>
            refine ⟨_, _, k, _, rfl, rfl, by go_num, by omega, ?_, ho, hg, hrow⟩
            rw [Hid, hty.out, fromLen, ← List.append_assoc, HM.out, HIM.out]
          case measure => simp [intOf]
    · have hk00 : k = 0 := by omega
      subst hk00
      go_wp2_with fail
      go_ret
      refine ⟨_, rfl, ?_, HB2.out.grown hg.out (by omega) (fun q hq => by cases hq; exact Nat.le_refl _)⟩
      rw [hty.out]
      simpa [fromLen] using ho.out

theorem typeR_len {p ys : List Int} {ok : Bool} (h : typeR p = (ok, ys)) : ys.length ≤ 12 := by
  unfold typeR at h
  split at h
  · rename_i hb
    injection h with _ h
    have hv := Vld_of hb
    have := cyclesL_len (p := p)
    have := hv.2.1
    rw [← h, typeL_len hv]; omega
  · injection h with _ h; rw [← h]; simp

end Go.Proofs.Ytjpebcomecoheaa

/-
  FnFaces: the walk of the law.
-/
import Derived.Test.YteajaikgeephmaaLists
import Derived.Test.YteajaikgeephmaaPar14
import Derived.Test.YteajaikgeephmaaDrawMs
import Derived.Test.YteajaikgeephmaaPar3
import Derived.Test.YteajaikgeephmaaDual
import Derived.Test.YteajaikgeephmaaCounts
namespace Go.Proofs.Yteajaikgeephmaa
open Go.RowKit

set_option maxRecDepth 100000 in
set_option maxHeartbeats 3200000 in
theorem walk_FnFaces (A0 : Option Addr) (n0 c0 : Nat) (bs0 : List Int) (w : World) (h0 : RdB w A0 n0 bs0) (hm0 : n0 ≤ maxLen ∧ n0 ≤ c0) :
    Calls Try.prog 5 #[.slice A0 n0 c0] w fun e w' => e = .returned (.bool true) ∧ Below w.heap.size w w' := by
  have HB0_0 := Lib.hid h0; have hc0 := hm0.2; have hml0 := hm0.1; clear h0 hm0; unfold maxLen at hml0
  by_cases hbig0 : 1048576 < n0
  · have hd : decide ((1048576 : Int) < n0) = true := by simp; omega
    go_enter Try.func5, Try.ntmps5
    go_wp2
    go_ret
    exact ⟨rfl, Below.refl _ _⟩
  have hd0 : decide ((1048576 : Int) < n0) = false := by simp; omega
  have hnb0 : n0 ≤ 1048576 := by omega
  clear hbig0
  go_enter Try.func5, Try.ntmps5
  go_wp2_with fail
  refine (drawMapFaces_any w A0 n0 c0 bs0 HB0_0.out hnb0 hc0).mono ?_
  rintro e w1 ⟨Am, Am', nm, nm', cm, cm', t, f, rfl, r1, r2, hlm, hlm', b⟩
  have HNm := Lib.hid r1.1; have HNm' := Lib.hid r2.1; have HRm := Lib.hid r1; have HRm' := Lib.hid r2; clear r1 r2
  have HB := Lib.hid b; have hs := b.size; clear b
  obtain ⟨w2, hWw2, hx, b, hz⟩ := Box.local_ w1 35 (.slice Am nm cm) (.slice Am' nm' cm')
  have BXm := Lib.hid hx; clear hx hz
  replace HRm := Lib.hid (HRm.out.below b)
  replace HRm' := Lib.hid (HRm'.out.below b)
  replace HB := Lib.hid (HB.out.trans (b.mono hs)); replace hs := HB.out.size
  clear b
  have cm_0 := BXm.out.cell0; have cm_1 := BXm.out.cell1
  by_cases hv : mapV t f = true
  · have HM := Lib.hid (mapV_iff.1 hv)
    have HVV := Lib.hid hv; clear hv
    obtain rfl : nm = nm' := by have := HM.out.len; rw [HNm.out, HNm'.out] at this; exact this
    have HD : Hid (IsMap (mulL f t) f) := HM.out.dual
    have hn12 : nm ≤ 12 := by have := HM.out.turn.2.1; rw [HNm.out] at this; exact this
    obtain ⟨V, hV⟩ : ∃ V, cntV t = V := ⟨_, rfl⟩
    obtain ⟨E, hE⟩ : ∃ E, cntE f = E := ⟨_, rfl⟩
    obtain ⟨F, hF⟩ : ∃ F, cntF t f = F := ⟨_, rfl⟩
    have HCF : Hid ((cyclesL (mulL f t)).length = F) := hF
    have hF12 : F ≤ 12 := by have h2 := cyclesL_len (p := mulL f t); rw [mulL_len, HNm'.out] at h2; rw [← hF, cntF]; omega
    have HV := Lib.hid hV; have HE := Lib.hid hE; have HF := Lib.hid hF; clear hV hE hF
    go_wp2_with fail
    refine (impl_facesR w2 Am Am' nm nm cm cm' t f HRm.out HRm'.out (by omega) (by omega) (ok := true) (ys := mulL f t) (by rw [facesR, if_pos HVV.out])).mono ?_
    rintro e w3 ⟨v, rfl, o, b⟩
    have hl : (mulL f t : List Int).length = nm := (mulL_len _ _).trans HNm'.out
    obtain ⟨Aa, ca, rfl, -, -⟩ := o.form' hl
    have HRa := Lib.hid (o.rd hl); clear o hl
    replace HRm := Lib.hid (HRm.out.below b)
    replace HRm' := Lib.hid (HRm'.out.below b)
    replace BXm := Lib.hid (BXm.out.below b); replace cm_0 := BXm.out.cell0; replace cm_1 := BXm.out.cell1
    replace HB := Lib.hid (HB.out.trans (b.mono hs)); replace hs := HB.out.size
    clear b
    go_wp2_with fail
    refine (spec_facesR w3 Am Am' nm nm cm cm' t f HRm.out HRm'.out (by omega) (by omega) (ok := true) (ys := mulL f t) (by rw [facesR, if_pos HVV.out])).mono ?_
    rintro e w4 ⟨v, rfl, o, b⟩
    have hl : (mulL f t : List Int).length = nm := (mulL_len _ _).trans HNm'.out
    obtain ⟨Ar, cr, rfl, -, -⟩ := o.form' hl
    have HRr := Lib.hid (o.rd hl); clear o hl
    replace HRm := Lib.hid (HRm.out.below b)
    replace HRm' := Lib.hid (HRm'.out.below b)
    replace HRa := Lib.hid (HRa.out.below b)
    replace BXm := Lib.hid (BXm.out.below b); replace cm_0 := BXm.out.cell0; replace cm_1 := BXm.out.cell1
    replace HB := Lib.hid (HB.out.trans (b.mono hs)); replace hs := HB.out.size
    clear b
    go_wp2_with fail
    refine (same_yes w4 Aa Ar nm nm ca cr (mulL f t) (mulL f t) HRa.out HRr.out (by omega) (by omega) (rfl)).mono ?_
    rintro e w5 ⟨rfl, b⟩
    replace HRm := Lib.hid (HRm.out.below b)
    replace HRm' := Lib.hid (HRm'.out.below b)
    replace HRa := Lib.hid (HRa.out.below b)
    replace HRr := Lib.hid (HRr.out.below b)
    replace BXm := Lib.hid (BXm.out.below b); replace cm_0 := BXm.out.cell0; replace cm_1 := BXm.out.cell1
    replace HB := Lib.hid (HB.out.trans (b.mono hs)); replace hs := HB.out.size
    clear b
    clear HRr
    go_wp2_with fail
    refine (impl_countsR w5 Am Am' nm nm cm cm' t f HRm.out HRm'.out (by omega) (by omega) (ok := true) (ys := [(V : Int), (E : Int), (F : Int)]) (by rw [countsR, if_pos HVV.out, HV.out, HE.out, HF.out])).mono ?_
    rintro e w6 ⟨v, rfl, o, b⟩
    have hl : ([(V : Int), (E : Int), (F : Int)] : List Int).length = 3 := rfl
    obtain ⟨Ak, ck, rfl, -, -⟩ := o.form' hl
    obtain ⟨gk, rfl, -, -, -⟩ := o.cellAt hl (k := 0) (by omega)
    have HRk := Lib.hid (o.rd hl); clear o hl
    replace HRm := Lib.hid (HRm.out.below b)
    replace HRm' := Lib.hid (HRm'.out.below b)
    replace HRa := Lib.hid (HRa.out.below b)
    replace BXm := Lib.hid (BXm.out.below b); replace cm_0 := BXm.out.cell0; replace cm_1 := BXm.out.cell1
    replace HB := Lib.hid (HB.out.trans (b.mono hs)); replace hs := HB.out.size
    clear b
    go_wp2_with fail
    refine (impl_cycR w6 Aa ca nm (mulL f t) HRa.out (by omega) (ok := true) (ys := cyclesL (mulL f t)) (by rw [cycR, if_pos (vld_true HD.out.turn)])).mono ?_
    rintro e w7 ⟨v, rfl, o, b⟩
    obtain ⟨Aq, cq, rfl, -⟩ := o.form HCF.out
    clear o
    replace HRm := Lib.hid (HRm.out.below b)
    replace HRm' := Lib.hid (HRm'.out.below b)
    replace HRa := Lib.hid (HRa.out.below b)
    replace HRk := Lib.hid (HRk.out.below b)
    replace BXm := Lib.hid (BXm.out.below b); replace cm_0 := BXm.out.cell0; replace cm_1 := BXm.out.cell1
    replace HB := Lib.hid (HB.out.trans (b.mono hs)); replace hs := HB.out.size
    clear b
    obtain ⟨m, hm⟩ : ∃ m, (cyclesL t).length = m := ⟨_, rfl⟩
    have hm12 : m ≤ 12 := by have h2 := cyclesL_len (p := t); rw [HNm.out, hm] at h2; omega
    have HMM := Lib.hid hm; clear hm
    go_wp2_with fail
    refine (impl_cycR w7 Am cm nm t HRm.out (by omega) (ok := true) (ys := cyclesL t) (by rw [cycR, if_pos (vld_true HM.out.turn)])).mono ?_
    rintro e w8 ⟨v, rfl, o, b⟩
    obtain ⟨Ao, co, rfl, -⟩ := o.form HMM.out
    have HOo := Lib.hid (o.mono (lo' := 0) (Nat.zero_le _)); clear o
    replace HRm := Lib.hid (HRm.out.below b)
    replace HRm' := Lib.hid (HRm'.out.below b)
    replace HRa := Lib.hid (HRa.out.below b)
    replace HRk := Lib.hid (HRk.out.below b)
    replace BXm := Lib.hid (BXm.out.below b); replace cm_0 := BXm.out.cell0; replace cm_1 := BXm.out.cell1
    replace HB := Lib.hid (HB.out.trans (b.mono hs)); replace hs := HB.out.size
    clear b
    have qk2 : w8.cell? ⟨gk, 2, none⟩ = some (.int .i64 (F : Int)) := HRk.out.getg (j := 2) (by omega)
    go_wp2_with fail
    go_loopw [14] (fun iv wz => ∃ i d : Nat, iv = .int .i64 i ∧ i ≤ nm ∧ wz = w8.drewN d) (fun iv _ => nm - (intOf iv).toNat)
    case atStart => exact ⟨0, 0, rfl, by omega, rfl⟩
    case round =>
      obtain ⟨i, d, rfl, hi, rfl⟩ := hrel
      by_cases hlt : i < nm
      · have hit : i < t.length := by rw [HNm.out]; exact hlt
        have hif : i < f.length := by rw [HNm'.out]; exact hlt
        obtain ⟨y, hy⟩ : ∃ y, gn f i = y := ⟨_, rfl⟩
        have hyl : y < nm := by rw [← hy, ← HNm'.out]; exact HM.out.flip.gn_lt hif
        have hyt : y < t.length := by rw [HNm.out]; exact hyl
        obtain ⟨x, hx⟩ : ∃ x, gn t y = x := ⟨_, rfl⟩
        have hxl : x < nm := by rw [← hx, ← HNm.out]; exact HM.out.turn.gn_lt hyt
        obtain ⟨aa, rfl, q1⟩ := HRa.out.at_ hlt
        obtain ⟨af, rfl, q2⟩ := HRm'.out.at_ hlt
        rw [gi_mulL hif, hy, HM.out.turn.gi_gn hyt, hx] at q1
        rw [HM.out.flip.gi_gn hif, hy] at q2
        have HNX : Hid (∀ q, q < m → hasB ((cyclesL t).getD q []) (y : Int) = hasB ((cyclesL t).getD q []) (x : Int)) := fun q hq => by
          rw [← hx]; exact (ring_next HM.out.turn (by rw [HMM.out]; exact hq) hyt).symm
        have HFA : Hid (foundB t (x : Int) m = true) := by
          rw [Hid, ← HMM.out]; exact foundB_all HM.out.turn (by rw [HNm.out]; exact hxl)
        have z1 : (i : Int) < (nm : Int) := by omega
        have HIT := Lib.hid hit
        clear hit hif hy hyt hx
        go_wp2_with fail
        go_loopw [15, 16] (fun fv jv wz => ∃ j d : Nat, jv = .int .i64 j ∧ j ≤ m ∧ fv = .bool (foundB t (x : Int) j) ∧ wz = w8.drewN d) (fun _ jv _ => m - (intOf jv).toNat)
        case atStart => exact ⟨0, d, rfl, by omega, rfl, rfl⟩
        case round =>
          obtain ⟨j, d, rfl, hj, rfl, rfl⟩ := hrel
          by_cases hltj : j < m
          · obtain ⟨ad, Aj, cj, nj, rfl, hc, hr, hmj⟩ := (HOo.out.rd HMM.out).at_ hltj
            have hlp : j < (cyclesL t).length := by rw [HMM.out]; exact hltj
            have hsu := foundB_succ t (x : Int) j
            have hnx := HNX.out j hltj
            obtain ⟨cs, hcs⟩ : ∃ cs, (cyclesL t).getD j [] = cs := ⟨_, rfl⟩
            have hcy : Cyc t cs := by rw [← hcs]; exact cyc_at HM.out.turn hlp
            rw [hcs] at hr hsu hnx
            have hnl : cs.length = nj := hr.1
            have hj12 : nj ≤ 12 := by
              have h1 := nodup_len t.length ((List.range cs.length).map (gn cs)) (by
                rw [List.Nodup, List.pairwise_map]
                refine List.Pairwise.imp_of_mem ?_ List.nodup_range
                intro a b ha hb hne e
                exact hne (gn_apart hcy (List.mem_range.1 ha) (List.mem_range.1 hb) e)) (by
                intro j hj
                obtain ⟨k, hk, rfl⟩ := List.mem_map.1 hj
                exact hcy.lt k (List.mem_range.1 hk))
              rw [List.length_map, List.length_range, HNm.out] at h1
              omega
            obtain ⟨fb, hfb⟩ : ∃ b, foundB t (x : Int) j = b := ⟨_, rfl⟩
            obtain ⟨cb, hcb⟩ : ∃ b, hasB cs (x : Int) = b := ⟨_, rfl⟩
            rw [hcb] at hnx
            have HC : Hid (∀ (z : Int) W, z = (x : Int) ∨ z = (y : Int) → Rd W Aj nj cs → Calls Try.prog 31 #[.slice Aj nj cj, .int .i64 z] W fun e w' => e = .returned (.bool cb) ∧ W = w') := fun z W hz h1 =>
              (hasInt_any Aj nj cj z _ W h1 (by omega)).mono fun e w' ⟨he, hk⟩ => ⟨by rcases hz with rfl | rfl <;> rw [he] <;> simp [hcb, hnx], hk⟩
            rw [hfb, hcb] at hsu
            rw [hfb]
            have HSU := Lib.hid hsu; have HRJ := Lib.hid hr
            have z2 : (j : Int) < (m : Int) := by omega
            clear hsu hr hnx hfb hcb hcs hcy hnl hlp
            cases fb with
            | true =>
              go_wp2_with fail
              go_quiet ((go_at_call 31; exact (HC.out _ _ (by first | exact .inl rfl | exact .inr rfl) (HRJ.out.drewN _)).mono fun e w' h => ⟨h.1, _, h.2.symm⟩))
              go_wp2_with fail
              go_roundw
              case rel => exact ⟨j + 1, _, by go_num, by omega, by rw [HSU.out]; rfl, rfl⟩
              case measure => simp [intOf]; omega
            | false =>
              cases cb with
              | true =>
                go_wp2_with fail
                go_quiet ((go_at_call 31; exact (HC.out _ _ (by first | exact .inl rfl | exact .inr rfl) (HRJ.out.drewN _)).mono fun e w' h => ⟨h.1, _, h.2.symm⟩))
                go_wp2_with fail
                go_roundw
                case rel => exact ⟨j + 1, _, by go_num, by omega, by rw [HSU.out]; rfl, rfl⟩
                case measure => simp [intOf]; omega
              | false =>
                go_wp2_with fail
                go_quiet ((go_at_call 31; exact (HC.out _ _ (by first | exact .inl rfl | exact .inr rfl) (HRJ.out.drewN _)).mono fun e w' h => ⟨h.1, _, h.2.symm⟩))
                go_wp2_with fail
                go_roundw
                case rel => exact ⟨j + 1, _, by go_num, by omega, by rw [HSU.out]; rfl, rfl⟩
                case measure => simp [intOf]; omega
          · obtain rfl : m = j := by omega
            rw [HFA.out]
            go_wp2_with fail
            go_roundw
            case rel => exact ⟨i + 1, _, by go_num, by omega, rfl⟩
            case measure => simp [intOf]; omega
      · obtain rfl : nm = i := by omega
        have hff : ((F : Int) == (F : Int)) = true := by simp
        go_wp2_with fail
        go_ret
        exact ⟨rfl, below_drewN HB.out d⟩
  · have HV := Lib.hid hv
    go_wp2_with fail
    refine (impl_facesR w2 Am Am' nm nm' cm cm' t f HRm.out HRm'.out (by omega) (by omega) (ok := false) (ys := []) (by rw [facesR, if_neg HV.out])).mono ?_
    rintro e w3 ⟨v, rfl, o, b⟩
    have hl : ([] : List Int).length = 0 := rfl
    obtain ⟨Ak, ck, rfl, -, -⟩ := o.form' hl
    have HRk := Lib.hid (o.rd hl); clear o hl
    replace HRm := Lib.hid (HRm.out.below b)
    replace HRm' := Lib.hid (HRm'.out.below b)
    replace BXm := Lib.hid (BXm.out.below b); replace cm_0 := BXm.out.cell0; replace cm_1 := BXm.out.cell1
    replace HB := Lib.hid (HB.out.trans (b.mono hs)); replace hs := HB.out.size
    clear b
    go_wp2_with fail
    refine (spec_facesR w3 Am Am' nm nm' cm cm' t f HRm.out HRm'.out (by omega) (by omega) (ok := false) (ys := []) (by rw [facesR, if_neg HV.out])).mono ?_
    rintro e w4 ⟨v, rfl, o, b⟩
    have hl : ([] : List Int).length = 0 := rfl
    obtain ⟨Al, cl, rfl, -, -⟩ := o.form' hl
    have HRl := Lib.hid (o.rd hl); clear o hl
    replace HRm := Lib.hid (HRm.out.below b)
    replace HRm' := Lib.hid (HRm'.out.below b)
    replace HRk := Lib.hid (HRk.out.below b)
    replace BXm := Lib.hid (BXm.out.below b); replace cm_0 := BXm.out.cell0; replace cm_1 := BXm.out.cell1
    replace HB := Lib.hid (HB.out.trans (b.mono hs)); replace hs := HB.out.size
    clear b
    go_wp2_with fail
    refine (same_yes w4 Ak Al 0 0 ck cl [] [] HRk.out HRl.out (by omega) (by omega) (rfl)).mono ?_
    rintro e w5 ⟨rfl, b⟩
    replace HRm := Lib.hid (HRm.out.below b)
    replace HRm' := Lib.hid (HRm'.out.below b)
    replace HRk := Lib.hid (HRk.out.below b)
    replace HRl := Lib.hid (HRl.out.below b)
    replace BXm := Lib.hid (BXm.out.below b); replace cm_0 := BXm.out.cell0; replace cm_1 := BXm.out.cell1
    replace HB := Lib.hid (HB.out.trans (b.mono hs)); replace hs := HB.out.size
    clear b
    go_wp2_with fail
    refine (same_yes w5 Ak Al 0 0 ck cl [] [] HRk.out HRl.out (by omega) (by omega) (rfl)).mono ?_
    rintro e w6 ⟨rfl, b⟩
    replace HRm := Lib.hid (HRm.out.below b)
    replace HRm' := Lib.hid (HRm'.out.below b)
    replace HRk := Lib.hid (HRk.out.below b)
    replace HRl := Lib.hid (HRl.out.below b)
    replace BXm := Lib.hid (BXm.out.below b); replace cm_0 := BXm.out.cell0; replace cm_1 := BXm.out.cell1
    replace HB := Lib.hid (HB.out.trans (b.mono hs)); replace hs := HB.out.size
    clear b
    go_wp2_with fail
    go_ret
    exact ⟨rfl, HB.out⟩

end Go.Proofs.Yteajaikgeephmaa

/-
  FnOrbits: the walk of the law.
-/
import Derived.Test.YteajaikgeephmaaLists
import Derived.Test.YteajaikgeephmaaPar13
import Derived.Test.YteajaikgeephmaaPar11
import Derived.Test.YteajaikgeephmaaOrbR
namespace Go.Proofs.Yteajaikgeephmaa
open Go.RowKit

theorem drawOrb_any (w : World) (A : Option Addr) (n c : Nat) (bs : List Int) (h : RdB w A n bs) (hn : n ≤ 1048576) (hc : n ≤ c) :
    Calls Try.prog 15 #[.slice A n c] w fun e w' => ∃ A n c xs A' n' c' ys, e = .returned (.tuple #[.slice A n c, .slice A' n' c']) ∧ Rd w' A n xs ∧ Rd w' A' n' ys ∧ n ≤ 1000 ∧ n' ≤ 1000 ∧ Below w.heap.size w w' := by
  go_enter Try.func15, Try.ntmps15
  go_wp2_with fail
  refine (open_reads w A n c bs h hn hc).mono ?_
  rintro e w1 ⟨rfl, r1, b1, s1⟩
  go_wp2_with fail
  refine (two_any w1 w.heap.size 0 r1 (by omega)).mono ?_
  rintro e w2 ⟨A, n, c, xs, A', n', c', ys, rfl, h1, h2, h3, h4, b2⟩
  go_wp2_with fail
  go_ret2
  exact ⟨_, _, _, xs, _, _, _, ys, rfl, h1, h2, h3, h4, b1.trans b2⟩

set_option maxRecDepth 100000 in
set_option maxHeartbeats 3200000 in
theorem walk_FnOrbits (A0 : Option Addr) (n0 c0 : Nat) (bs0 : List Int) (w : World) (h0 : RdB w A0 n0 bs0) (hm0 : n0 ≤ maxLen ∧ n0 ≤ c0) :
    Calls Try.prog 3 #[.slice A0 n0 c0] w fun e w' => e = .returned (.bool true) ∧ Below w.heap.size w w' := by
  have HB0_0 := Lib.hid h0; have hc0 := hm0.2; have hml0 := hm0.1; clear h0 hm0; unfold maxLen at hml0
  by_cases hbig0 : 1048576 < n0
  · have hd : decide ((1048576 : Int) < n0) = true := by simp; omega
    go_enter Try.func3, Try.ntmps3
    go_wp2
    go_ret
    exact ⟨rfl, Below.refl _ _⟩
  have hd0 : decide ((1048576 : Int) < n0) = false := by simp; omega
  have hnb0 : n0 ≤ 1048576 := by omega
  clear hbig0
  go_enter Try.func3, Try.ntmps3
  go_wp2_with fail
  refine (drawOrb_any w A0 n0 c0 bs0 HB0_0.out hnb0 hc0).mono ?_
  rintro e w1 ⟨Ap, np, cp, p, Ag, ng, cg, g, rfl, r1, r2, hlp, hlg, b⟩
  have HNp := Lib.hid r1.1; have HNg := Lib.hid r2.1; have HRp := Lib.hid r1; have HRg := Lib.hid r2; clear r1 r2
  have HB := Lib.hid b; have hs := b.size; clear b
  by_cases hv : both p g = true
  · have HV := Lib.hid (both_iff.1 hv).1
    have HG := Lib.hid (both_iff.1 hv).2.1
    have HL := Lib.hid (both_iff.1 hv).2.2
    have HBO := Lib.hid hv; clear hv
    obtain rfl : np = ng := by have := HL.out; rw [HNp.out, HNg.out] at this; exact this
    have hn12 : np ≤ 12 := by have := HV.out.2.1; rw [HNp.out] at this; exact this
    have hn1 : 1 ≤ np := by have := HV.out.1; rw [HNp.out] at this; exact this
    have HSV : Hid (Vld (sameL np)) := sameL_vld hn1 hn12
    have HSL : Hid ((sameL np).length = np) := by rw [Hid, sameL, tab_len]
    go_wp2_with fail
    refine (impl_orbR w1 Ap cp np p HRp.out (by omega) Ag cg np g HRg.out (by omega) (ok := true) (ys := orbL p g) (by rw [orbR, if_pos HBO.out])).mono ?_
    rintro e w2 ⟨v, rfl, o, b⟩
    have hl : (orbL p g : List Int).length = np := (orbL_len _ _).trans HNp.out
    obtain ⟨Aa, ca, rfl, -, -⟩ := o.form' hl
    have HRa := Lib.hid (o.rd hl); clear o hl
    replace HRp := Lib.hid (HRp.out.below b)
    replace HRg := Lib.hid (HRg.out.below b)
    replace HB := Lib.hid (HB.out.trans (b.mono hs)); replace hs := HB.out.size
    clear b
    go_wp2_with fail
    refine (spec_orbR w2 Ap cp np p HRp.out (by omega) Ag cg np g HRg.out (by omega) (ok := true) (ys := orbL p g) (by rw [orbR, if_pos HBO.out])).mono ?_
    rintro e w3 ⟨v, rfl, o, b⟩
    have hl : (orbL p g : List Int).length = np := (orbL_len _ _).trans HNp.out
    obtain ⟨Ar, cr, rfl, -, -⟩ := o.form' hl
    have HRr := Lib.hid (o.rd hl); clear o hl
    replace HRp := Lib.hid (HRp.out.below b)
    replace HRg := Lib.hid (HRg.out.below b)
    replace HRa := Lib.hid (HRa.out.below b)
    replace HB := Lib.hid (HB.out.trans (b.mono hs)); replace hs := HB.out.size
    clear b
    go_wp2_with fail
    refine (same_yes w3 Aa Ar np np ca cr (orbL p g) (orbL p g) HRa.out HRr.out (by omega) (by omega) (rfl)).mono ?_
    rintro e w4 ⟨rfl, b⟩
    replace HRp := Lib.hid (HRp.out.below b)
    replace HRg := Lib.hid (HRg.out.below b)
    replace HRa := Lib.hid (HRa.out.below b)
    replace HRr := Lib.hid (HRr.out.below b)
    replace HB := Lib.hid (HB.out.trans (b.mono hs)); replace hs := HB.out.size
    clear b
    clear HRr
    go_wp2_with fail
    refine (impl_orbR w4 Ag cg np g HRg.out (by omega) Ap cp np p HRp.out (by omega) (ok := true) (ys := orbL g p) (by rw [orbR, if_pos (both_iff.2 ⟨HG.out, HV.out, HL.out.symm⟩)])).mono ?_
    rintro e w5 ⟨v, rfl, o, b⟩
    have hl : (orbL g p : List Int).length = np := (orbL_len _ _).trans HNg.out
    obtain ⟨Ax, cx, rfl, -, -⟩ := o.form' hl
    have HRx := Lib.hid (o.rd hl); clear o hl
    replace HRp := Lib.hid (HRp.out.below b)
    replace HRg := Lib.hid (HRg.out.below b)
    replace HRa := Lib.hid (HRa.out.below b)
    replace HB := Lib.hid (HB.out.trans (b.mono hs)); replace hs := HB.out.size
    clear b
    go_wp2_with fail
    refine (stayC_any w5 (np) (by omega)).mono ?_
    rintro e w6 ⟨v, rfl, o, b⟩
    have hl : (sameL np : List Int).length = np := HSL.out
    obtain ⟨Ast, cst, rfl, -, -⟩ := o.form' hl
    have HRst := Lib.hid (o.rd hl); clear o hl
    replace HRp := Lib.hid (HRp.out.below b)
    replace HRg := Lib.hid (HRg.out.below b)
    replace HRa := Lib.hid (HRa.out.below b)
    replace HRx := Lib.hid (HRx.out.below b)
    replace HB := Lib.hid (HB.out.trans (b.mono hs)); replace hs := HB.out.size
    clear b
    go_wp2_with fail
    refine (impl_orbR w6 Ap cp np p HRp.out (by omega) Ast cst np (sameL np) HRst.out (by omega) (ok := true) (ys := orbL p (sameL np)) (by rw [orbR, if_pos (both_iff.2 ⟨HV.out, HSV.out, HNp.out.trans HSL.out.symm⟩)])).mono ?_
    rintro e w7 ⟨v, rfl, o, b⟩
    have hl : (orbL p (sameL np) : List Int).length = np := (orbL_len _ _).trans HNp.out
    obtain ⟨Ay, cy, rfl, -, -⟩ := o.form' hl
    have HRy := Lib.hid (o.rd hl); clear o hl
    replace HRp := Lib.hid (HRp.out.below b)
    replace HRg := Lib.hid (HRg.out.below b)
    replace HRa := Lib.hid (HRa.out.below b)
    replace HRx := Lib.hid (HRx.out.below b)
    replace HRst := Lib.hid (HRst.out.below b)
    replace HB := Lib.hid (HB.out.trans (b.mono hs)); replace hs := HB.out.size
    clear b
    obtain ⟨m, hm⟩ : ∃ m, (cyclesL p).length = m := ⟨_, rfl⟩
    have hm12 : m ≤ 12 := by have h2 := cyclesL_len (p := p); rw [HNp.out, hm] at h2; omega
    have HM := Lib.hid hm; clear hm
    go_wp2_with fail
    refine (impl_cycR w7 Ap cp np p HRp.out (by omega) (ok := true) (ys := cyclesL p) (by rw [cycR, if_pos (vld_true HV.out)])).mono ?_
    rintro e w8 ⟨v, rfl, o, b⟩
    obtain ⟨Ao, co, rfl, -⟩ := o.form HM.out
    have HOo := Lib.hid (o.mono (lo' := 0) (Nat.zero_le _)); clear o
    replace HRp := Lib.hid (HRp.out.below b)
    replace HRg := Lib.hid (HRg.out.below b)
    replace HRa := Lib.hid (HRa.out.below b)
    replace HRx := Lib.hid (HRx.out.below b)
    replace HRst := Lib.hid (HRst.out.below b)
    replace HRy := Lib.hid (HRy.out.below b)
    replace HB := Lib.hid (HB.out.trans (b.mono hs)); replace hs := HB.out.size
    clear b
    go_wp2_with fail
    go_loopw [15] (fun iv wz => ∃ i d : Nat, iv = .int .i64 i ∧ i ≤ np ∧ wz = w8.drewN d) (fun iv _ => np - (intOf iv).toNat)
    case atStart => exact ⟨0, 0, rfl, by omega, rfl⟩
    case round =>
      obtain ⟨i, d, rfl, hi, rfl⟩ := hrel
      by_cases hlt : i < np
      · have hip : i < p.length := by rw [HNp.out]; exact hlt
        have hig : i < g.length := by rw [HNg.out]; exact hlt
        obtain ⟨x, hx⟩ : ∃ x, gn p i = x := ⟨_, rfl⟩
        obtain ⟨y, hy⟩ : ∃ y, gn g i = y := ⟨_, rfl⟩
        have hxl : x < np := by rw [← hx, ← HNp.out]; exact HV.out.gn_lt hip
        have hyl : y < np := by rw [← hy, ← HNg.out]; exact HG.out.gn_lt hig
        obtain ⟨o, ho⟩ : ∃ o, orb p g i = o := ⟨_, rfl⟩
        have hoi : o ≤ i := by rw [← ho]; exact orb_le
        have hox : orb p g x = o := by rw [← hx, orb_one HV.out HG.out HL.out hip, ho]
        have hoy : orb p g y = o := by rw [← hy, orb_two HV.out HG.out HL.out hip, ho]
        have hoo : orb p g o = o := by rw [← ho, orb_orb HV.out HG.out HL.out hip]
        have hol : o < np := by omega
        obtain ⟨ap, rfl, q1⟩ := HRp.out.at_ hlt
        obtain ⟨ag, rfl, q2⟩ := HRg.out.at_ hlt
        obtain ⟨aa, rfl, q3⟩ := HRa.out.at_ hlt
        obtain ⟨aa', e, q4⟩ := HRa.out.at_ hxl
        simp only [Option.some.injEq] at e
        subst e
        obtain ⟨aa', e, q5⟩ := HRa.out.at_ hyl
        simp only [Option.some.injEq] at e
        subst e
        obtain ⟨aa', e, q6⟩ := HRa.out.at_ hol
        simp only [Option.some.injEq] at e
        subst e
        rw [HV.out.gi_gn hip, hx] at q1
        rw [HG.out.gi_gn hig, hy] at q2
        rw [gi_orbL hip, ho] at q3
        rw [gi_orbL (by rw [HNp.out]; exact hxl), hox] at q4
        rw [gi_orbL (by rw [HNp.out]; exact hyl), hoy] at q5
        rw [gi_orbL (by rw [HNp.out]; exact hol), hoo] at q6
        have hd1 : ((o : Int) != (o : Int)) = false := by simp
        have hd2 : decide (i < o) = false := by simp; omega
        have hd3 : decide ((i : Int) < (o : Int)) = false := by simp; omega
        have z1 : (i : Int) < (np : Int) := by omega
        have z2 : (x : Int) < (np : Int) := by omega
        have z3 : (y : Int) < (np : Int) := by omega
        have z4 : (o : Int) < (np : Int) := by omega
        clear hx hy ho hox hoy hoo hip hig
        go_wp2_with fail
        go_quiet (fail)
        go_wp2_with fail
        go_roundw
        case rel => exact ⟨i + 1, _, by go_num, by omega, rfl⟩
        case measure => simp [intOf]; omega
      · obtain rfl : np = i := by omega
        go_wp2_with fail
        go_loopw [16] (fun iv wz => ∃ i2 d : Nat, iv = .int .i64 i2 ∧ i2 ≤ m ∧ wz = w8.drewN d) (fun iv _ => m - (intOf iv).toNat)
        case atStart => exact ⟨0, d, rfl, by omega, rfl⟩
        case round =>
          obtain ⟨j, d, rfl, hj, rfl⟩ := hrel
          by_cases hltj : j < m
          · obtain ⟨ad, Aj, cj, nj, rfl, hc, hr, hmj⟩ := (HOo.out.rd HM.out).at_ hltj
            have hlp : j < (cyclesL p).length := by rw [HM.out]; exact hltj
            obtain ⟨cs, hcs⟩ : ∃ cs, (cyclesL p).getD j [] = cs := ⟨_, rfl⟩
            have HCy : Hid (Cyc p cs) := by rw [← hcs]; exact cyc_at HV.out hlp
            have HOC : Hid (∀ k, k < cs.length → orb p (sameL np) (gn cs k) = gn cs 0) := by
              rw [← hcs]
              intro k hk
              have := orb_cyc HV.out (by rw [HNp.out]; exact HSV.out) hlp hk
              rw [HNp.out] at this
              exact this
            rw [hcs] at hr
            have hnl : cs.length = nj := hr.1
            have hj0 : 0 < nj := by rw [← hnl]; exact HCy.out.pos
            have hj12 : nj ≤ 12 := by
              have h1 := nodup_len p.length ((List.range cs.length).map (gn cs)) (by
                rw [List.Nodup, List.pairwise_map]
                refine List.Pairwise.imp_of_mem ?_ List.nodup_range
                intro a b ha hb hne e
                exact hne (gn_apart HCy.out (List.mem_range.1 ha) (List.mem_range.1 hb) e)) (by
                intro j hj
                obtain ⟨k, hk, rfl⟩ := List.mem_map.1 hj
                exact HCy.out.lt k (List.mem_range.1 hk))
              rw [List.length_map, List.length_range, HNp.out] at h1
              omega
            obtain ⟨aj, rfl, hce0⟩ := hr.at_ hj0
            rw [HCy.out.nat 0 (by omega), add_zero_] at hce0
            obtain ⟨hd0, hhd0⟩ : ∃ h, gn cs 0 = h := ⟨_, rfl⟩
            rw [hhd0] at hce0
            have HRJ := Lib.hid hr; have HNJ := Lib.hid hnl; have HH0 := Lib.hid hhd0
            have z1 : (j : Int) < (m : Int) := by omega
            clear hr hnl hhd0 hlp hcs
            go_wp2_with fail
            go_loopw [17] (fun kv wz => ∃ k d : Nat, kv = .int .i64 k ∧ k ≤ nj ∧ wz = w8.drewN d) (fun kv _ => nj - (intOf kv).toNat)
            case atStart => exact ⟨0, d, rfl, by omega, rfl⟩
            case round =>
              obtain ⟨k, d, rfl, hk, rfl⟩ := hrel
              by_cases hltk : k < nj
              · have hkl : k < cs.length := by rw [HNJ.out]; exact hltk
                obtain ⟨aj', e, hck⟩ := HRJ.out.at_ hltk
                simp only [Option.some.injEq] at e
                subst e
                rw [HCy.out.nat k hkl] at hck
                have hylt := HCy.out.lt k hkl
                have hoc := HOC.out k hkl
                obtain ⟨y, hy⟩ : ∃ y, gn cs k = y := ⟨_, rfl⟩
                rw [hy] at hck hylt hoc
                rw [HH0.out] at hoc
                have hyp : y < np := by rw [← HNp.out]; exact hylt
                obtain ⟨ay, rfl, q1⟩ := HRy.out.at_ hyp
                rw [gi_orbL hylt, hoc] at q1
                have hd1 : ((hd0 : Int) != (hd0 : Int)) = false := by simp
                have z2 : (k : Int) < (nj : Int) := by omega
                have z3 : (y : Int) < (np : Int) := by omega
                have z4 : (0 : Int) < (nj : Int) := by omega
                clear hy hoc hylt hkl
                go_wp2_with fail
                go_quiet (fail)
                go_wp2_with fail
                go_roundw
                case rel => exact ⟨k + 1, _, by go_num, by omega, rfl⟩
                case measure => simp [intOf]; omega
              · obtain rfl : k = nj := by omega
                go_wp2_with fail
                go_roundw
                case rel => exact ⟨j + 1, _, by go_num, by omega, rfl⟩
                case measure => simp [intOf]; omega
          · obtain rfl : m = j := by omega
            have b := below_drewN (Below.refl w8.heap.size w8) d
            obtain ⟨v9, hw⟩ : ∃ w', w8.drewN d = w' := ⟨_, rfl⟩
            rw [hw] at b
            replace HRp := Lib.hid (HRp.out.below b)
            replace HRg := Lib.hid (HRg.out.below b)
            replace HRa := Lib.hid (HRa.out.below b)
            replace HRx := Lib.hid (HRx.out.below b)
            replace HRst := Lib.hid (HRst.out.below b)
            replace HRy := Lib.hid (HRy.out.below b)
            replace HB := Lib.hid (HB.out.trans (b.mono hs)); replace hs := HB.out.size
            clear b
            rw [hw]
            clear hw
            go_wp2_with fail
            refine (same_yes v9 Ax Aa np np cx ca (orbL g p) (orbL p g) HRx.out HRa.out (by omega) (by omega) (orbL_swap HL.out)).mono ?_
            rintro e w10 ⟨rfl, b⟩
            replace HRp := Lib.hid (HRp.out.below b)
            replace HRg := Lib.hid (HRg.out.below b)
            replace HRa := Lib.hid (HRa.out.below b)
            replace HRx := Lib.hid (HRx.out.below b)
            replace HRst := Lib.hid (HRst.out.below b)
            replace HRy := Lib.hid (HRy.out.below b)
            replace HB := Lib.hid (HB.out.trans (b.mono hs)); replace hs := HB.out.size
            clear b
            go_wp2_with fail
            go_ret
            exact ⟨rfl, HB.out⟩
  · have HV := Lib.hid hv
    go_wp2_with fail
    refine (impl_orbR w1 Ap cp np p HRp.out (by omega) Ag cg ng g HRg.out (by omega) (ok := false) (ys := []) (by rw [orbR, if_neg HV.out])).mono ?_
    rintro e w2 ⟨v, rfl, o, b⟩
    have hl : ([] : List Int).length = 0 := rfl
    obtain ⟨Aq, cq, rfl, -, -⟩ := o.form' hl
    have HRq := Lib.hid (o.rd hl); clear o hl
    replace HRp := Lib.hid (HRp.out.below b)
    replace HRg := Lib.hid (HRg.out.below b)
    replace HB := Lib.hid (HB.out.trans (b.mono hs)); replace hs := HB.out.size
    clear b
    go_wp2_with fail
    refine (spec_orbR w2 Ap cp np p HRp.out (by omega) Ag cg ng g HRg.out (by omega) (ok := false) (ys := []) (by rw [orbR, if_neg HV.out])).mono ?_
    rintro e w3 ⟨v, rfl, o, b⟩
    have hl : ([] : List Int).length = 0 := rfl
    obtain ⟨Ar, cr, rfl, -, -⟩ := o.form' hl
    have HRr := Lib.hid (o.rd hl); clear o hl
    replace HRp := Lib.hid (HRp.out.below b)
    replace HRg := Lib.hid (HRg.out.below b)
    replace HRq := Lib.hid (HRq.out.below b)
    replace HB := Lib.hid (HB.out.trans (b.mono hs)); replace hs := HB.out.size
    clear b
    go_wp2_with fail
    refine (same_yes w3 Aq Ar 0 0 cq cr [] [] HRq.out HRr.out (by omega) (by omega) (rfl)).mono ?_
    rintro e w4 ⟨rfl, b⟩
    replace HRp := Lib.hid (HRp.out.below b)
    replace HRg := Lib.hid (HRg.out.below b)
    replace HRq := Lib.hid (HRq.out.below b)
    replace HRr := Lib.hid (HRr.out.below b)
    replace HB := Lib.hid (HB.out.trans (b.mono hs)); replace hs := HB.out.size
    clear b
    go_wp2_with fail
    refine (same_yes w4 Aq Ar 0 0 cq cr [] [] HRq.out HRr.out (by omega) (by omega) (rfl)).mono ?_
    rintro e w5 ⟨rfl, b⟩
    replace HRp := Lib.hid (HRp.out.below b)
    replace HRg := Lib.hid (HRg.out.below b)
    replace HRq := Lib.hid (HRq.out.below b)
    replace HRr := Lib.hid (HRr.out.below b)
    replace HB := Lib.hid (HB.out.trans (b.mono hs)); replace hs := HB.out.size
    clear b
    go_wp2_with fail
    go_ret
    exact ⟨rfl, HB.out⟩

end Go.Proofs.Yteajaikgeephmaa

/-
  FnCycles: the walk of the law.
-/
import Derived.Test.YtppblbmnjglhbaaLists
import Derived.Test.YtppblbmnjglhbaaDrawP
namespace Go.Proofs.Ytppblbmnjglhbaa
open Go.RowKit

set_option maxRecDepth 100000 in
set_option maxHeartbeats 3200000 in
theorem walk_FnCycles (A0 : Option Addr) (n0 c0 : Nat) (bs0 : List Int) (w : World) (h0 : RdB w A0 n0 bs0) (hm0 : n0 ≤ maxLen ∧ n0 ≤ c0) :
    Calls Try.prog 4 #[.slice A0 n0 c0] w fun e w' => e = .returned (.bool true) ∧ Below w.heap.size w w' := by
  have HB0_0 := Lib.hid h0; have hc0 := hm0.2; have hml0 := hm0.1; clear h0 hm0; unfold maxLen at hml0
  by_cases hbig0 : 1048576 < n0
  · have hd : decide ((1048576 : Int) < n0) = true := by simp; omega
    go_enter Try.func4, Try.ntmps4
    go_wp2
    go_ret
    exact ⟨rfl, Below.refl _ _⟩
  have hd0 : decide ((1048576 : Int) < n0) = false := by simp; omega
  have hnb0 : n0 ≤ 1048576 := by omega
  clear hbig0
  go_enter Try.func4, Try.ntmps4
  go_wp2_with fail
  refine (drawCycles_any w A0 n0 c0 bs0 HB0_0.out hnb0 hc0).mono ?_
  rintro e w1 ⟨v, p, rfl, o, hlp, b⟩
  obtain ⟨np, hn⟩ : ∃ n, p.length = n := ⟨_, rfl⟩
  rw [hn] at hlp
  obtain ⟨Ap, cp, rfl, -, -⟩ := o.form' hn
  have HRp := Lib.hid (o.rd hn); have HNp := Lib.hid hn; clear o hn
  have HB := Lib.hid b; have hs := b.size; clear b
  by_cases hv : vld p = true
  · have HV := Lib.hid (Vld_of hv)
    have hn12 : np ≤ 12 := by have := HV.out.2.1; rw [HNp.out] at this; exact this
    obtain ⟨m, hm⟩ : ∃ m, (cyclesL p).length = m := ⟨_, rfl⟩
    have hm12 : m ≤ 12 := by have h2 := cyclesL_len (p := p); rw [HNp.out, hm] at h2; omega
    have HM := Lib.hid hm; clear hm
    go_wp2_with fail
    refine (impl_cycR w1 Ap cp np p HRp.out (by omega) (ok := true) (ys := cyclesL p) (by rw [cycR, if_pos (vld_true HV.out)])).mono ?_
    rintro e w2 ⟨v, rfl, o, b⟩
    obtain ⟨Ao, co, rfl, -⟩ := o.form HM.out
    have HOo := Lib.hid (o.mono (lo' := 0) (Nat.zero_le _)); clear o
    replace HRp := Lib.hid (HRp.out.below b)
    replace HB := Lib.hid (HB.out.trans (b.mono hs)); replace hs := HB.out.size
    clear b
    go_wp2_with fail
    refine (spec_cycR w2 Ap cp np p HRp.out (by omega) (ok := true) (ys := cyclesL p) (by rw [cycR, if_pos (vld_true HV.out)])).mono ?_
    rintro e w3 ⟨v, rfl, o, b⟩
    obtain ⟨Aq, cq, rfl, -⟩ := o.form HM.out
    have HOq := Lib.hid (o.mono (lo' := 0) (Nat.zero_le _)); clear o
    replace HOo := Lib.hid (HOo.out.below b)
    replace HRp := Lib.hid (HRp.out.below b)
    replace HB := Lib.hid (HB.out.trans (b.mono hs)); replace hs := HB.out.size
    clear b
    go_wp2_with fail
    refine (sameLists_same Ao Aq m co cq (cyclesL p) w3 (HOo.out.rd HM.out) (HOq.out.rd HM.out) (by omega)).mono ?_
    rintro e w4 ⟨rfl, b⟩
    replace HOo := Lib.hid (HOo.out.below b); clear HOq
    replace HRp := Lib.hid (HRp.out.below b)
    replace HB := Lib.hid (HB.out.trans (b.mono hs)); replace hs := HB.out.size
    clear b
    obtain ⟨i0, hinf, hz0, hz1, hz2⟩ := info_parts info_int
    go_wp2_with fail
    go_loopw [8, 9, 10] (fun sv' lv iv wr => ∃ (sv : Value) (i : Nat) (ls : Int), sv = sv' ∧ lv = .int .i64 ls ∧ iv = .int .i64 i ∧ i ≤ m ∧ Hid (Own wr w4.heap.size sv ((cyclesL p).take i).flatten) ∧ Hid (Below w4.heap.size w4 wr) ∧ Hid (ls = if i = 0 then -1 else (gn ((cyclesL p).getD (i - 1) []) 0 : Int))) (fun _ _ iv _ => m - (intOf iv).toNat)
    case atStart => exact ⟨_, 0, -1, rfl, rfl, rfl, by omega, Own.empty (Nat.le_refl _), (Below.refl _ _).alloc (Nat.le_refl _) _, rfl⟩
    case round =>
      obtain ⟨sv, i, ls, rfl, rfl, rfl, hi, hos, hb4, hls⟩ := hrel
      by_cases hlt : i < m
      · obtain ⟨ad, Aj, cj, nj, rfl, hc4, hr4, hmj⟩ := (HOo.out.rd HM.out).at_ hlt
        have hc := (hb4.out.cell (World.block_lt_of_cell? w4 _ hc4)).trans hc4
        have hlp : i < (cyclesL p).length := by rw [HM.out]; exact hlt
        obtain ⟨cs, hcs⟩ : ∃ cs, (cyclesL p).getD i [] = cs := ⟨_, rfl⟩
        have HCy : Hid (Cyc p cs) := by rw [← hcs]; exact cyc_at HV.out hlp
        have HFr : Hid (∀ k, k < cs.length → hasB (((cyclesL p).take i).flatten ++ cs.take k) (gi cs k) = false) := by rw [← hcs]; exact fun k hk => fresh HV.out hlp hk
        have HHd : Hid (∀ k, k < cs.length → gn cs 0 ≤ gn cs k) := by rw [← hcs]; exact fun k hk => head_least HV.out hlp hk
        have hup : ls < (gn cs 0 : Int) := by
          rw [hls.out, ← hcs]
          split
          · omega
          · have := head_up HV.out (show i - 1 < i by omega) hlp
            omega
        have HNX : Hid (((cyclesL p).take (i + 1)).flatten = ((cyclesL p).take i).flatten ++ cs) := by
          rw [Hid, List.take_succ_eq_append_getElem hlp, List.flatten_append, ← hcs, getD_eq hlp]; simp
        have HLS : Hid ((gn cs 0 : Int) = if i + 1 = 0 then -1 else (gn ((cyclesL p).getD (i + 1 - 1) []) 0 : Int)) := by rw [Hid, if_neg (by omega), Nat.add_sub_cancel, hcs]
        rw [hcs] at hr4
        have hr := hr4.below hb4.out
        have HR4 := Lib.hid hr4
        have hnl : cs.length = nj := hr.1
        have hj0 : 0 < nj := by rw [← hnl]; exact HCy.out.pos
        have hj12 : nj ≤ 12 := by
          have h1 := nodup_len p.length ((List.range cs.length).map (gn cs)) (by
            rw [List.Nodup, List.pairwise_map]
            refine List.Pairwise.imp_of_mem ?_ List.nodup_range
            intro a b ha hb hne e
            exact hne (gn_apart HCy.out (List.mem_range.1 ha) (List.mem_range.1 hb) e)) (by
            intro j hj
            obtain ⟨k, hk, rfl⟩ := List.mem_map.1 hj
            exact HCy.out.lt k (List.mem_range.1 hk))
          rw [List.length_map, List.length_range, HNp.out] at h1
          omega
        obtain ⟨aj, rfl, hce0⟩ := hr.at_ hj0
        rw [HCy.out.nat 0 (by omega)] at hce0
        obtain ⟨hd0, hhd0⟩ : ∃ h, gn cs 0 = h := ⟨_, rfl⟩
        rw [hhd0] at hce0 hup
        have hce1 : wr.cell? aj = some (.int .i64 hd0) := by rw [add_zero_] at hce0; exact hce0
        have hle : decide ((hd0 : Int) ≤ ls) = false := by simp; omega
        have HCE := Lib.hid hce0; have HNJ := Lib.hid hnl; have HH0 := Lib.hid hhd0; have HUP := Lib.hid hup
        have HEN : Hid (i < i + 1) := by unfold Hid; omega
        have hlt' : i < m := hlt
        clear hr hr4 hc4 hnl hhd0 hlp hup hls hcs
        go_wp2_with fail
        go_loopw [8, 12] (fun sv' kv wr' => ∃ (sv : Value) (k : Nat), sv = sv' ∧ kv = .int .i64 k ∧ k ≤ nj ∧ Hid (Own wr' w4.heap.size sv (((cyclesL p).take i).flatten ++ cs.take k)) ∧ Hid (Below w4.heap.size w4 wr')) (fun _ kv _ => nj - (intOf kv).toNat)
        case atStart => exact ⟨_, 0, rfl, rfl, by omega, by simpa using hos, hb4⟩
        case round =>
          obtain ⟨sv2, k, rfl, rfl, hk, hos2, hb5⟩ := hrel
          have hrj := Lib.hid (HR4.out.below hb5.out)
          by_cases hltk : k < nj
          · obtain ⟨aj', e, hck⟩ := hrj.out.at_ hltk
            simp only [Option.some.injEq] at e
            subst e
            have hkl : k < cs.length := by rw [HNJ.out]; exact hltk
            obtain ⟨z, hz⟩ : ∃ z, (k + 1) % nj = z := ⟨_, rfl⟩
            have hzj : z < nj := by rw [← hz]; exact Nat.mod_lt _ hj0
            obtain ⟨aj', e, hcz⟩ := hrj.out.at_ hzj
            simp only [Option.some.injEq] at e
            subst e
            obtain ⟨aj', e, hc0⟩ := hrj.out.at_ hj0
            simp only [Option.some.injEq] at e
            subst e
            rw [HCy.out.nat k hkl] at hck
            rw [HCy.out.nat z (by rw [HNJ.out]; exact hzj)] at hcz
            rw [HCy.out.nat 0 (by rw [HNJ.out]; exact hj0), HH0.out] at hc0
            have hc1 : wr.cell? aj = some (.int .i64 hd0) := by rw [add_zero_] at hc0; exact hc0
            have hylt := HCy.out.lt k hkl
            have hrn := HCy.out.round k hkl
            rw [HNJ.out, hz] at hrn
            have hge := HHd.out k hkl
            rw [HH0.out] at hge
            have hfr := HFr.out k hkl
            rw [HCy.out.nat k hkl] at hfr
            have hpr := HRp.out.below (hb5.out)
            obtain ⟨y, hy⟩ : ∃ y, gn cs k = y := ⟨_, rfl⟩
            rw [hy] at hck hylt hrn hge hfr
            rw [HNp.out] at hylt
            obtain ⟨ap, rfl, hcp⟩ := hpr.at_ hylt
            rw [HV.out.gi_gn (j := y) (by rw [HNp.out]; exact hylt), hrn] at hcp
            obtain ⟨t, ht⟩ : ∃ t, gn cs z = t := ⟨_, rfl⟩
            rw [ht] at hcp hcz
            have hd1 : decide ((y : Int) < (hd0 : Int)) = false := by simp; omega
            have hd1' : decide (y < hd0) = false := by simp; omega
            have hd2 : ((t : Int) != (t : Int)) = false := by simp
            have hw1 : IntKind.i64.wrap ((k : Int) + 1) = (k : Int) + 1 := IntWalk.i64_in _ (by omega)
            have hzi : (z : Int) < (nj : Int) := by omega
            have hyi : (y : Int) < (np : Int) := by omega
            have hm1 : ((k : Int) + 1).tmod (nj : Int) = (((k + 1) % nj : Nat) : Int) := rfl
            rw [hz] at hm1
            have hnz : ¬ ((nj : Int) = 0) := by omega
            have hnz2 : ((nj : Int) == 0) = false := by simp; omega
            have hkt : cs.take (k + 1) = cs.take k ++ [(y : Int)] := by
              rw [List.take_succ_eq_append_getElem hkl, ← gi_eq hkl, HCy.out.nat k hkl, hy]
            obtain ⟨ns, hns⟩ : ∃ n, (((cyclesL p).take i).flatten ++ cs.take k).length = n := ⟨_, rfl⟩
            have hns1 : ns ≤ 1000 := by
              rw [← hns, List.length_append, List.length_take]
              have h1 := sum_take_le HV.out i
              rw [HNp.out] at h1
              omega
            obtain ⟨As, csn, rfl, hrs, hms⟩ := hos2.out.form' hns
            have HC : Hid (∀ W, Rd W As ns (((cyclesL p).take i).flatten ++ cs.take k) → Calls Try.prog 19 #[.slice As ns csn, .int .i64 (y : Int)] W fun e w' => e = .returned (.bool false) ∧ ∃ k, w' = W.drewN k) := fun W h1 =>
              (hasInt_any As ns csn y _ W h1 (by omega)).mono fun e w' ⟨he, hk⟩ => ⟨by rw [he, hfr], 0, hk.symm⟩
            have hos3 := hos2.out
            unfold Own at hos3
            rw [hns] at hos3
            have HOD : Hid (∀ d, (wr.drewN d).ownsRow w4.heap.size 3 1 (.slice As ns csn) ns (ints (((cyclesL p).take i).flatten ++ cs.take k))) := fun d => hos3
            have HBD : Hid (∀ d, Below w4.heap.size w4 (wr.drewN d)) := fun d => below_drewN hb5.out d
            have HRD : Hid (∀ d, Rd (wr.drewN d) (some aj) nj cs) := fun d => hrj.out.drewN d
            clear hos3
            have hsz5 := hb5.out.size
            have HRS := Lib.hid hrs; have HKT := Lib.hid hkt; have HNS := Lib.hid hns
            clear hrs hkt hns hz hrn hge hfr hpr hc0 hy ht hos2
            go_wp2_with fail
            go_quiet ((go_at_call 19; exact Calls.quiet_of (HC.out _ HRS.out)))
            go_wp2_with (at_builtin; refine wpList_append_own _ rfl (.tmp 108) (.tmp 113) 23 rfl w4.heap.size 3 i0 (.int .i64 0) 1 8 Try.underlying23 hinf hz0 hz1 hz2 rfl (by decide) _ _ _ rfl ((HOD.out _).alloc _) ⟨wr.heap.size, 0, none⟩ 1 1 [.int .i64 (y : Int)] rfl rfl (cell_one_new _ _ _) (by intro u hu; simp at hu; subst hu; rfl) (by unfold maxLen; omega) (by omega) (by simp; omega) ?_; intro v5 w5 hown5 hgrow5 _; have HO5 := Lib.hid hown5; have HG5 := Lib.hid hgrow5; clear hown5 hgrow5)
            go_roundw
            case rel =>
              have hsz := HG5.out.size
              rw [World.size_alloc] at hsz
              refine ⟨_, k + 1, rfl, by go_num, by omega, ?_, ?_⟩
              · rw [HKT.out, ← List.append_assoc]
                have := HO5.out
                unfold Hid Own
                rw [show ints (((cyclesL p).take i).flatten ++ cs.take k ++ [(y : Int)]) = ints (((cyclesL p).take i).flatten ++ cs.take k) ++ [.int .i64 (y : Int)] from by simp [ints], show (((cyclesL p).take i).flatten ++ cs.take k ++ [(y : Int)]).length = ns + 1 from by rw [List.length_append, HNS.out]; rfl]
                exact this
              · exact ((HBD.out _).alloc hsz5 _).grown HG5.out (by simp; omega) (fun q hq => ((HOD.out 0).lt q hq).1)
            case measure => simp [intOf]; omega
          · obtain rfl : k = nj := by omega
            have HEQ : Hid (((cyclesL p).take i).flatten ++ cs.take k = ((cyclesL p).take (i + 1)).flatten) := by rw [Hid, HNX.out, ← HNJ.out, List.take_length]
            have HOF : Hid (Own wr w4.heap.size sv2 ((cyclesL p).take (i + 1)).flatten) := by rw [Hid, ← HEQ.out]; exact hos2.out
            clear hos2
            go_wp2_with fail
            go_roundw
            case rel => exact ⟨_, i + 1, _, rfl, rfl, by go_num, by omega, HOF, hb5, by rw [Hid, ← HLS.out, HH0.out]⟩
            case measure => simp [intOf]; omega
      · obtain rfl : i = m := by omega
        have hl : ((cyclesL p).take i).flatten.length = np := by rw [← HM.out, List.take_length, flat_all HV.out, HNp.out]
        obtain ⟨As, csn, rfl, -, -⟩ := hos.out.form' hl
        have hnn : ((np : Int) == (np : Int)) = true := by simp
        go_wp2_with fail
        go_ret
        exact ⟨rfl, HB.out.trans (hb4.out.mono hs)⟩
  · have HV := Lib.hid hv
    go_wp2_with fail
    refine (impl_cycR w1 Ap cp np p HRp.out (by omega) (ok := false) (ys := []) (by rw [cycR, if_neg HV.out])).mono ?_
    rintro e w2 ⟨v, rfl, o, b⟩
    obtain ⟨Ao, co, rfl, -⟩ := o.form (n := 0) rfl
    have HOo := Lib.hid (o.mono (lo' := 0) (Nat.zero_le _)); clear o
    replace HRp := Lib.hid (HRp.out.below b)
    replace HB := Lib.hid (HB.out.trans (b.mono hs)); replace hs := HB.out.size
    clear b
    go_wp2_with fail
    refine (spec_cycR w2 Ap cp np p HRp.out (by omega) (ok := false) (ys := []) (by rw [cycR, if_neg HV.out])).mono ?_
    rintro e w3 ⟨v, rfl, o, b⟩
    obtain ⟨Aq, cq, rfl, -⟩ := o.form (n := 0) rfl
    have HOq := Lib.hid (o.mono (lo' := 0) (Nat.zero_le _)); clear o
    replace HOo := Lib.hid (HOo.out.below b)
    replace HRp := Lib.hid (HRp.out.below b)
    replace HB := Lib.hid (HB.out.trans (b.mono hs)); replace hs := HB.out.size
    clear b
    go_wp2_with fail
    refine (sameLists_same Ao Aq 0 co cq [] w3 (HOo.out.rd rfl) (HOq.out.rd rfl) (by omega)).mono ?_
    rintro e w4 ⟨rfl, b⟩
    replace HOo := Lib.hid (HOo.out.below b); replace HOq := Lib.hid (HOq.out.below b)
    replace HRp := Lib.hid (HRp.out.below b)
    replace HB := Lib.hid (HB.out.trans (b.mono hs)); replace hs := HB.out.size
    clear b
    go_wp2_with fail
    refine (sameLists_same Ao Aq 0 co cq [] w4 (HOo.out.rd rfl) (HOq.out.rd rfl) (by omega)).mono ?_
    rintro e w5 ⟨rfl, b⟩
    replace HOo := Lib.hid (HOo.out.below b); replace HOq := Lib.hid (HOq.out.below b)
    replace HRp := Lib.hid (HRp.out.below b)
    replace HB := Lib.hid (HB.out.trans (b.mono hs)); replace hs := HB.out.size
    clear b
    go_wp2_with fail
    go_ret
    exact ⟨rfl, HB.out⟩

end Go.Proofs.Ytppblbmnjglhbaa

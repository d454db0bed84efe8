/-
  The program's PermPower.
-/
import Derived.Test.YtppblbmnjglhbaaRound
import Derived.Test.YtppblbmnjglhbaaSpecPow
import Derived.Deep.OwnRows
namespace Go.Proofs.Ytppblbmnjglhbaa
open Go.RowKit Go.Shelf
attribute [local go_sem] Oper.semAt_some

theorem mixed : Try.prog.follows .mixedOrders = true := by kernel_rfl

set_option maxRecDepth 100000 in
set_option maxHeartbeats 4000000 in
theorem power_any (w : World) (A0 : Option Addr) (c0 n0 : Nat) (p : List Int) (h0 : Rd w A0 n0 p) (hp : Vld p) (k : Int) :
    Calls Try.prog 37 #[.slice A0 n0 c0, .int .i64 k] w fun e w' => ∃ v, e = .returned v ∧ Own w' w.heap.size v (powL p k) ∧ Below w.heap.size w w' := by
  have h12 : n0 ≤ 12 := by rw [← h0.1]; exact hp.2.1
  have H0 := Lib.hid h0; have HV := Lib.hid hp; have Hn := Lib.hid h0.1; clear h0 hp
  have hmk := run_make_row' (P := Try.prog) 55 3 (.int .i64 0) 8 Try.underlying55 info_int rfl .i64 .i64 n0 (by omega) (by omega)
  refine (callsIn_wide (n := 5)).1 ?_
  refine callsIn_of_wp_marks Try.func37 rfl trivial ?_
  simp only [Try.ntmps37, List.size_toArray, List.length_cons, List.length_nil, Nat.reduceAdd, Nat.reduceSub, Array.replicate_succ, Array.replicate_zero, List.push_toArray, List.append_toArray, List.nil_append, List.cons_append]
  gi_wp2_with fail
  refine ⟨trivial, ?_⟩
  refine (callsIn_wide.2 (cycles_any A0 n0 c0 _)).mono ?_
  rintro e w2 ⟨rfl, rfl⟩
  gi_wp2_with fail
  obtain ⟨W0, hW0⟩ : ∃ W0, ((((w.alloc (.cells #[.int .i64 k] 3)).alloc (.cells (madeCells #[.int .i64 0] n0) 3)).alloc (.cells #[.slice (some ⟨w.heap.size + 1, 0, none⟩) n0 n0] 55)).alloc (.cells #[.slice A0 n0 c0] 55)) = W0 := ⟨_, rfl⟩
  rw [hW0]
  have hz0 : w.heap.size + 4 = W0.heap.size := by rw [← hW0]; simp
  have HBK : Hid (W0.heap[w.heap.size]? = some (.cells #[.int .i64 k] 3 (0, 0))) := by
    rw [← hW0]; exact box_alloc (box_alloc (box_alloc (heap_alloc_new w _)))
  have HOW : Hid (Own W0 w.heap.size (.slice (some ⟨w.heap.size + 1, 0, none⟩) n0 n0) (List.replicate n0 0)) := by
    have h1 := World.ownsRow_lit (base := w.heap.size) (e := 3) (size := 1) (w.alloc (.cells #[.int .i64 k] 3)) (madeCells #[.int .i64 0] n0) n0 (by simp) (by unfold maxLen; omega) (by simp [madeCells])
    rw [World.size_alloc] at h1
    have h2 : Own ((w.alloc (.cells #[.int .i64 k] 3)).alloc (.cells (madeCells #[.int .i64 0] n0) 3)) w.heap.size (.slice (some ⟨w.heap.size + 1, 0, none⟩) n0 n0) (List.replicate n0 0) := by
      unfold Own
      rw [toList_madeCells_one] at h1
      simpa [ints] using h1
    rw [← hW0]
    exact (h2.below ((Below.refl _ _).alloc (Nat.le_refl _) _)).below ((Below.refl _ _).alloc (Nat.le_refl _) _)
  have HBR : Hid (W0.heap[w.heap.size + 1 + 1]? = some (.cells #[.slice (some ⟨w.heap.size + 1, 0, none⟩) n0 n0] 55 (0, 0))) := by
    rw [← hW0]
    have := heap_alloc_new ((w.alloc (.cells #[.int .i64 k] 3)).alloc (.cells (madeCells #[.int .i64 0] n0) 3)) (.cells #[.slice (some ⟨w.heap.size + 1, 0, none⟩) n0 n0] 55)
    rw [World.size_alloc, World.size_alloc] at this
    exact box_alloc this
  have HPM : Hid (W0.heap[w.heap.size + 1 + 1 + 1]? = some (.cells #[.slice A0 n0 c0] 55 (0, 0))) := by
    rw [← hW0]
    have := heap_alloc_new (((w.alloc (.cells #[.int .i64 k] 3)).alloc (.cells (madeCells #[.int .i64 0] n0) 3)).alloc (.cells #[.slice (some ⟨w.heap.size + 1, 0, none⟩) n0 n0] 55)) (.cells #[.slice A0 n0 c0] 55)
    rw [World.size_alloc, World.size_alloc, World.size_alloc] at this
    exact this
  have HB0 : Hid (Below w.heap.size w W0) := by
    rw [← hW0]; exact (((((Below.refl _ w).alloc (Nat.le_refl _) _).alloc (by simp) _).alloc (by simp; omega) _).alloc (by simp; omega) _)
  have HR0 := Lib.hid (H0.out.below HB0.out)
  have hws : w.heap.size ≤ W0.heap.size := HB0.out.size
  have HSP := Lib.hid (cyclesL_spec HV.out)
  clear hW0 hmk
  refine range_cycles (F := Fence.wide) (n := 5) (Bn := w.heap.size + 1 + 1 + 1) (n₀ := w.heap.size) (xs := cyclesL p) rfl (by omega) rfl trivial (enters_of Try.func67 (by kernel_rfl) rfl)
    (cycles1_in (F := Fence.wide) (n := 4) trivial rfl (by omega) (w.heap.size + 1 + 1 + 1) w.heap.size W0.heap.size A0 n0 c0 p W0 HPM.out HR0.out (Rd.lt H0.out) HV.out hws (Nat.le_refl _)) hws
    (fun _ pre W => W.heap[w.heap.size]? = some (.cells #[.int .i64 k] 3 (0, 0)) ∧ W.heap[w.heap.size + 1 + 1]? = some (.cells #[.slice (some ⟨w.heap.size + 1, 0, none⟩) n0 n0] 55 (0, 0)) ∧
      (∃ zs, Own W w.heap.size (.slice (some ⟨w.heap.size + 1, 0, none⟩) n0 n0) zs ∧ zs.length = n0 ∧ Moved k zs pre) ∧ Below w.heap.size w W)
    (fun _ _ _ _ h _ => h)
    (fun _ pre A B ⟨h1, h2, ⟨zs, h3, h4, h5⟩, h6⟩ hz hgo => ⟨hgo.box h1 (by decide), hgo.box h2 (by decide), ⟨zs, ownsRow_same h3 (fun g cs h => hgo.box h (by decide)), h4, h5⟩, h6.trans ((hgo.below hz).mono hws)⟩)
    (fun _ pre W l o o' ⟨h1, h2, ⟨zs, h3, h4, h5⟩, h6⟩ hl hlo ho => ⟨put_box h1 hlo ho, put_box h2 hlo ho, ⟨zs, ownsRow_same h3 (fun g cs h => put_box h hlo ho), h4, h5⟩, h6.trans (put_below o' (by omega) h6.size)⟩)
    ⟨HBK.out, HBR.out, ⟨_, HOW.out, by simp, fun c hc => by cases hc⟩, HB0.out⟩
    (fun v => { tmps := #[.slice A0 n0 c0, .int .i64 k, undef, .pointer (some ⟨w.heap.size, 0, none⟩), .slice none 0 0, .pointer (some ⟨w.heap.size + 1 + 1, 0, none⟩), v, undef, undef, undef, undef, .slice A0 n0 c0, .int .i64 n0, .slice (some ⟨w.heap.size + 1, 0, none⟩) n0 n0, .slice A0 n0 c0,
      .func (.func 67) #[] #[.pointer (some ⟨w.heap.size + 1 + 1 + 1, 0, none⟩)], v, undef, undef, undef, undef, undef, undef, undef, undef, undef, undef, undef, undef, undef, undef, undef, undef, undef, undef, undef, undef, undef, undef, undef, undef, undef, undef, undef, undef, undef], defers := [] }) ?assign ?body ?done
  case assign =>
    intro l v W K hK
    gi_wp2
    exact hK
  case body =>
    rintro l B pre x u W ⟨hbk, hbr, ⟨zs, ho, hzl, hmv⟩, hbe⟩ hzB hBW hu hpre
    obtain ⟨hxm, hdis⟩ := prefix_last hpre HSP.out.2.2
    have hcy := HSP.out.1 x hxm
    have hsh := cyclesL_short hxm
    have hL0 := hcy.pos
    obtain ⟨L, hL⟩ : ∃ L, x.length = L := ⟨_, rfl⟩
    rw [hL] at hsh hL0
    have hul := hu.lt
    obtain ⟨Au, cu, rfl, hrd, -⟩ := hu.form' hL
    have hck := cell_of_block hbk
    have hcr := cell_of_block hbr
    have hm1 := Int.tmod_lt_of_pos k (b := (L : Int)) (by omega)
    have hm2 := Int.lt_tmod_of_pos k (b := (L : Int)) (by omega)
    have hLz : ((L : Int) == 0) = false := by simp; omega
    have HCY := Lib.hid hcy; have HDIS := Lib.hid hdis; have HU := Lib.hid hu; have HUL := Lib.hid hul; have HRD := Lib.hid hrd; have HL := Lib.hid hL; have HO := Lib.hid ho; have HZL := Lib.hid hzl; have HMV := Lib.hid hmv; have HBE := Lib.hid hbe; have HBK1 := Lib.hid hbk; have HBR1 := Lib.hid hbr
    clear hcy hdis hu hul hrd hL ho hzl hmv hbe hbk hbr hxm hpre
    gi_wp2
    obtain ⟨st, hst⟩ : ∃ st : Nat, (k.tmod (L : Int) + (L : Int)) % (L : Int) = (st : Int) := Int.eq_ofNat_of_zero_le (Int.emod_nonneg _ (by omega))
    have hstL : st < L := by have := Int.emod_lt_of_pos (k.tmod (L : Int) + (L : Int)) (b := (L : Int)) (by omega); omega
    have HST : Hid ((stepOf k (x.length : Int)).toNat = st) := by
      rw [HL.out]
      unfold stepOf
      rw [Int.tmod_eq_emod_of_nonneg (by omega), hst]
      exact Int.toNat_natCast st
    rw [hst]
    clear hst
    have hbs := HBE.out.size
    gi_loopw [28] (fun jv wx' => ∃ (wx : World) (j : Nat) (zs : List Int), wx = wx' ∧ jv = .int .i64 j ∧ j ≤ L ∧ Hid (Own wx w.heap.size (.slice (some ⟨w.heap.size + 1, 0, none⟩) n0 n0) zs) ∧ Hid (zs.length = n0) ∧ Hid (Moved k zs pre) ∧
      Hid (∀ i, i < j → gi zs (gn x i) = gi x ((i + st) % L)) ∧ Hid (∃ q, (W.grownBy wx (some (w.heap.size + 1))) ∧ q = 0)) (fun jv _ => L - (intOf jv).toNat)
    case atStart => exact ⟨_, 0, zs, rfl, rfl, Nat.zero_le _, HO, HZL, HMV, fun i hi => absurd hi (by omega), 0, World.grownBy.refl _ _, rfl⟩
    case round =>
      clear hck hcr
      obtain ⟨wx, j, ys, rfl, rfl, hj, hoy, hyl, hmy, hpart, hgq⟩ := hrel
      have HG : Hid (W.grownBy wx (some (w.heap.size + 1))) := by obtain ⟨_, h, _⟩ := hgq.out; exact h
      by_cases hlt : j < L
      · have HBRX : Hid (wx.heap[w.heap.size + 1 + 1]? = some (.cells #[.slice (some ⟨w.heap.size + 1, 0, none⟩) n0 n0] 55 (0, 0))) := (HG.out.block _ (Array.getElem?_eq_some_iff.1 HBR1.out).1 (by simp)).trans HBR1.out
        have hcr := cell_of_block HBRX.out
        have HUX : Hid (Own wx B (.slice Au L cu) x) := HU.out.grown HG.out (by
          cases hb : Value.ownBlock (.slice Au L cu) with
          | none => exact .inl rfl
          | some q => exact .inr (fun e => by have := (HUL.out q hb).1; injection e with e; omega))
        obtain ⟨ad, hAe, hcx⟩ := (HUX.out.rd HL.out).at_ hlt
        subst hAe
        obtain ⟨y, hy⟩ : ∃ y : Nat, ((j : Int) + (st : Int)) % (L : Int) = (y : Int) := Int.eq_ofNat_of_zero_le (Int.emod_nonneg _ (by omega))
        have hyL : y < L := by have := Int.emod_lt_of_pos ((j : Int) + (st : Int)) (b := (L : Int)) (by omega); omega
        have HY : Hid ((j + st) % L = y) := by
          have : (((j + st) % L : Nat) : Int) = (y : Int) := by rw [← hy]; simp
          exact Int.ofNat.inj this
        obtain ⟨ad', hAe, hcy⟩ := (HUX.out.rd HL.out).at_ hyL
        simp only [Option.some.injEq] at hAe
        subst hAe
        have hxg := HCY.out.nat j (by rw [HL.out]; exact hlt)
        have hxn := HCY.out.lt j (by rw [HL.out]; exact hlt)
        rw [hxg] at hcx
        rw [Hn.out] at hxn
        have HXG := Lib.hid hxg; clear hxg
        obtain ⟨g, hg, _, hc3, hf3⟩ := hoy.out.cellAt hyl.out hxn
        simp only [Option.some.injEq, Addr.mk.injEq, and_true] at hg
        subst hg
        have hxi : ((gn x j : Nat) : Int) < n0 := by omega
        have hyi : (y : Int) < L := by omega
        have hjs : (j : Int) + (st : Int) ≤ 100 := by omega
        have HS := Lib.hid (hoy.out.stored hyl.out (gn x j) (gi x y))
        have HPOST : Hid ((Own (wx.setCell ⟨w.heap.size + 1, gn x j, none⟩ (.int .i64 (gi x y))) w.heap.size (.slice (some ⟨w.heap.size + 1, 0, none⟩) n0 n0) (ys.set (gn x j) (gi x y))) ∧ (ys.set (gn x j) (gi x y)).length = n0 ∧
            Moved k (ys.set (gn x j) (gi x y)) pre ∧ (∀ i, i < j + 1 → gi (ys.set (gn x j) (gi x y)) (gn x i) = gi x ((i + st) % L)) ∧ W.grownBy (wx.setCell ⟨w.heap.size + 1, gn x j, none⟩ (.int .i64 (gi x y))) (some (w.heap.size + 1))) := by
          have hin : gn x j < ys.length := by rw [hyl.out]; exact hxn
          refine ⟨HS.out.1, by simpa using hyl.out, fun c hc i hi => ?_, fun i hi => ?_, grownBy_trans HG.out HS.out.2⟩
          · rw [gi_set _ _ _ _ hin, if_neg (fun e => HDIS.out c hc (gn c i) ⟨i, hi, rfl⟩ ⟨j, by rw [HL.out]; exact hlt, e.symm⟩)]
            exact hmy.out c hc i hi
          · rw [gi_set _ _ _ _ hin]
            by_cases e : i = j
            · subst e; rw [if_pos rfl, HY.out]
            · have hij : i < j := by omega
              rw [if_neg (HCY.out.apart i j hij (by rw [HL.out]; exact hlt))]
              exact hpart.out i hij
        clear h12 H0 HV Hn HBK HOW HBR HPM HB0 HR0 HSP hzB hBW hm1 hm2 HCY HDIS HU HUL HRD HL HO HZL HMV HBE HBK1 HBR1 HST HUX HBRX HG hoy hyl hmy hpart hgq HXG HY HS hxn hws hz0 hbs
        gi_wp2
        have hL00 : ¬ L = 0 := by omega
        have hw1 : IntKind.i64.wrap ((j : Int) + (st : Int)) = (j : Int) + (st : Int) := IntWalk.i64_in _ (by omega)
        have ht1 : ((j : Int) + (st : Int)).tmod (L : Int) = (y : Int) := by rw [Int.tmod_eq_emod_of_nonneg (by omega)]; exact hy
        clear hy
        refine round_still_tail 11 mixed (by kernel_rfl) (by kernel_rfl) ?_
        simp only [List.take_succ_cons, List.take_zero, List.drop_succ_cons, List.drop_zero]
        repeat still_step
        refine wpStill_nil ?_
        go_wp2
        refine ⟨rfl, ?_⟩
        gi_wp2
        go_roundw
        case rel => exact ⟨_, j + 1, _, rfl, by go_num, by omega, HPOST.out.1.drewN 1, HPOST.out.2.1, HPOST.out.2.2.1, HPOST.out.2.2.2.1, 0, ⟨HPOST.out.2.2.2.2.os, HPOST.out.2.2.2.2.tape, HPOST.out.2.2.2.2.output, HPOST.out.2.2.2.2.size, HPOST.out.2.2.2.2.block⟩, rfl⟩
        case measure => simp [intOf]; omega
      · have hjL : j = L := by omega
        have HPOST : Hid (Keep w.heap.size W wx ∧ (wx.heap[w.heap.size]? = some (.cells #[.int .i64 k] 3 (0, 0)) ∧ wx.heap[w.heap.size + 1 + 1]? = some (.cells #[.slice (some ⟨w.heap.size + 1, 0, none⟩) n0 n0] 55 (0, 0)) ∧
            (∃ zs, Own wx w.heap.size (.slice (some ⟨w.heap.size + 1, 0, none⟩) n0 n0) zs ∧ zs.length = n0 ∧ Moved k zs (pre ++ [x])) ∧ Below w.heap.size w wx)) := by
          have hkp : Keep w.heap.size W wx := (Keep.refl _ W).grown hbs HG.out (fun r e => by
            cases e
            obtain ⟨_, cs, h⟩ := row_kind HO.out (w.heap.size + 1) rfl
            exact ⟨by omega, _, h, not_shut (by decide) (by decide)⟩)
          refine ⟨hkp, (HG.out.block _ (Array.getElem?_eq_some_iff.1 HBK1.out).1 (by simp)).trans HBK1.out, (HG.out.block _ (Array.getElem?_eq_some_iff.1 HBR1.out).1 (by simp)).trans HBR1.out, ⟨ys, hoy.out, hyl.out, fun c hc i hi => ?_⟩, HBE.out.trans hkp.below⟩
          rcases List.mem_append.1 hc with hc | hc
          · exact hmy.out c hc i hi
          · simp only [List.mem_singleton] at hc
            subst hc
            rw [HST.out, hpart.out i (by rw [hjL, ← HL.out]; exact hi), HL.out]
        clear h12 H0 HV Hn HBK HOW HBR HPM HB0 HR0 HSP hzB hBW hm1 hm2 HCY HDIS HU HUL HRD HL HO HZL HMV HBE HBK1 HBR1 HST HG hoy hyl hmy hpart hgq hws hz0 hbs
        gi_wp2
        exact HPOST.out
  case done =>
    rintro W ⟨hbk, hbr, ⟨zs, ho, hzl, hmv⟩, hbe⟩ hK
    have hcr := cell_of_block hbr
    have FIN : Hid (Below w.heap.size w (W.putObj W0.heap.size (.deferred none))) := hbe.trans (put_below _ hws hbe.size)
    have HO : Hid (Own (W.putObj W0.heap.size (.deferred none)) w.heap.size (.slice (some ⟨w.heap.size + 1, 0, none⟩) n0 n0) (powL p k)) := by
      rw [← moved_all HV.out (by rw [hzl, Hn.out]) hmv]
      exact ownsRow_same ho (fun g cs h => put_box h hK rfl)
    have HK := Lib.hid hK; clear hbk hbr ho hzl hmv hbe hK
    gi_wp2
    refine ⟨by simp, .inl ⟨_, _, rfl, run_takeDeferred HK.out, ?_⟩⟩
    exact ⟨_, results_tmp rfl _ _ _, .slice (some ⟨w.heap.size + 1, 0, none⟩) n0 n0, rfl, HO.out, FIN.out⟩

set_option maxHeartbeats 800000 in
theorem impl_powR (w : World) (A0 : Option Addr) (c0 n0 : Nat) (xs0 : List Int) (h0 : Rd w A0 n0 xs0) (hn0 : n0 ≤ 1048576) (k : Int) (hw : (Lit.int .i64 k).wf = true) {ok : Bool} {ys : List Int} (hR : powR xs0 k = (ok, ys)) :
    Calls Try.prog 9 #[.slice A0 n0 c0, .int .i64 k] w fun e w' => ∃ v, e = .returned (.tuple #[v, .bool ok]) ∧ Own w' w.heap.size v ys ∧ Below w.heap.size w w' := by
  have H0 := Lib.hid h0; have HR := Lib.hid hR; have HW := Lib.hid hw; clear h0 hR hw
  by_cases hb : vld xs0 = true
  · by_cases hk1 : -1000 ≤ k
    · by_cases hk2 : k ≤ 1000
      · have HV := Lib.hid (Vld_of hb)
        obtain ⟨rfl, rfl⟩ : ok = true ∧ ys = powL xs0 k := by have := HR.out; rw [powR, if_pos ⟨hb, hk1, hk2⟩] at this; simpa [eq_comm] using this
        have hd1 : decide (k < -1000) = false := by simp; omega
        have hd2 : decide (1000 < k) = false := by simp; omega
        clear HR
        go_enter Try.func9, Try.ntmps9
        go_wp2_with fail
        refine (implValid_any A0 n0 c0 xs0 w H0.out (by omega)).mono ?_
        rintro e w1 ⟨rfl, b⟩
        have HB := Lib.hid b; have H01 := Lib.hid (H0.out.below b); clear b
        go_wp2_with fail
        refine (power_any w1 A0 c0 n0 xs0 H01.out HV.out k).mono ?_
        rintro e w2 ⟨v, rfl, o, b⟩
        have HO := Lib.hid (o.mono HB.out.size); have HB2 := Lib.hid (HB.out.trans (b.mono HB.out.size)); clear o b
        go_wp2_with fail
        go_ret2
        exact ⟨v, rfl, HO.out, HB2.out⟩
      · obtain ⟨rfl, rfl⟩ : ok = false ∧ ys = [] := by have := HR.out; rw [powR, if_neg (fun h => hk2 h.2.2)] at this; simpa [eq_comm] using this
        have hd1 : decide (k < -1000) = false := by simp; omega
        have hd2 : decide (1000 < k) = true := by simp; omega
        clear HR
        go_enter Try.func9, Try.ntmps9
        go_wp2_with fail
        refine (implValid_any A0 n0 c0 xs0 w H0.out (by omega)).mono ?_
        rintro e w1 ⟨rfl, b⟩
        have HB := Lib.hid b; clear b
        go_wp2_with fail
        go_ret2
        exact ⟨_, rfl, Own.nil_ _ _, HB.out⟩
    · obtain ⟨rfl, rfl⟩ : ok = false ∧ ys = [] := by have := HR.out; rw [powR, if_neg (fun h => hk1 h.2.1)] at this; simpa [eq_comm] using this
      have hd1 : decide (k < -1000) = true := by simp; omega
      clear HR
      go_enter Try.func9, Try.ntmps9
      go_wp2_with fail
      refine (implValid_any A0 n0 c0 xs0 w H0.out (by omega)).mono ?_
      rintro e w1 ⟨rfl, b⟩
      have HB := Lib.hid b; clear b
      go_wp2_with fail
      go_ret2
      exact ⟨_, rfl, Own.nil_ _ _, HB.out⟩
  · have hb' : vld xs0 = false := by simpa using hb
    obtain ⟨rfl, rfl⟩ : ok = false ∧ ys = [] := by have := HR.out; rw [powR, if_neg (fun h => hb h.1)] at this; simpa [eq_comm] using this
    clear hb
    clear HR
    go_enter Try.func9, Try.ntmps9
    go_wp2_with fail
    refine (implValid_any A0 n0 c0 xs0 w H0.out (by omega)).mono ?_
    rintro e w1 ⟨rfl, b⟩
    have HB := Lib.hid b; clear b
    go_wp2_with fail
    go_ret2
    exact ⟨_, rfl, Own.nil_ _ _, HB.out⟩

end Go.Proofs.Ytppblbmnjglhbaa

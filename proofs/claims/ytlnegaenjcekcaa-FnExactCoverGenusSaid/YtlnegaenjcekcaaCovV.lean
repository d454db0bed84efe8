/-
  A list as a voltage, the program's.
  Voltages, as the model sees them: whether a list is one, the permutation of a dart.
  VoltageValid: the program's.
-/
import Derived.Test.YtlnegaenjcekcaaCovA
import Derived.Test.YtlnegaenjcekcaaRibG
import Derived.Deep.RegionWith
import Derived.Deep.RegionHeld3
import Derived.Test.YtlnegaenjcekcaaCov
import Derived.Test.YtlnegaenjcekcaaL7D
namespace Go.Proofs.Ytlnegaenjcekcaa
open Go.RowKit

theorem vvB_no {t f : List Int} {k : Int} {vss : List (List Int)} (h : ∀ kn : Nat, k = kn → IsMap t f → 1 ≤ kn → kn ≤ 6 → kn * t.length ≤ 12 → vss.length = f.length / 2 → ¬ ∀ e, e < vss.length → Vld (vss.getD e []) ∧ (vss.getD e []).length = kn) : vvB t f k vss = false :=
  vvB_false fun kn e hv => h kn e hv.map hv.one hv.six hv.few hv.len hv.row
theorem grown_of_below {a b : World} {row : Option Nat} (hb : Below a.heap.size a b) : a.grownBy b row := ⟨hb.os, hb.tape, hb.output, hb.size, fun k hk _ => hb.block k hk⟩
theorem setS {w : World} {g j : Nat} {u : Value} {a : Addr} {v : Value} (h : w.cell? a = some v) (hne : a.block ≠ g) : (w.setCell ⟨g, j, none⟩ u).cell? a = some v :=
  (World.cell?_of_block (Below.heap_setCell w ⟨g, j, none⟩ u a.block hne)).trans h

set_option maxRecDepth 20000 in
set_option maxHeartbeats 6400000 in
theorem voltageOf_any (w : World) (A A' : Option Addr) (n n' c c' : Nat) (t f : List Int) (h : Rd w A n t) (h' : Rd w A' n' f) (hn : n ≤ 1048576) (hn' : n' ≤ 1048576) (k : Int) (B : Option Addr) (m d : Nat) (vss : List (List Int)) (hs : RdSS w B m vss) (hm : m ≤ 1048576) (htot : total vss ≤ 1048576) {r : Bool} (hR : vvB t f k vss = r) :
    Calls Try.prog 53 #[.agg #[.slice A n c, .slice A' n' c'], .int .i64 k, .slice B m d] w fun e w' => ∃ p : Option Addr, e = .returned (.tuple #[.pointer p, .bool r]) ∧ Below w.heap.size w w' ∧ (r = true → ∃ b kn : Nat, p = some ⟨b, 0, none⟩ ∧ k = kn ∧ VAt w' b t f kn vss) := by
  obtain ⟨i1, hinf1, hy0, hy1, hy2⟩ := info_parts info_perm
  obtain ⟨W0, hW0, hx, hb, hz⟩ := Box.local_ w 30 (.slice A n c) (.slice A' n' c')
  have c0 := hx.cell0
  have c1 := hx.cell1
  have HX := Lib.hid hx; have HB := Lib.hid hb; have H := Lib.hid h; have H' := Lib.hid h'; have HR := Lib.hid hR; have HS := Lib.hid hs; have Hm := Lib.hid hs.1; have HZ := Lib.hid hz; clear hx hb h h' hR hs hz
  cases hv : cvB t f k with
  | false =>
    have HF : Hid (vvB t f k vss = false) := vvB_false fun kn e hv' => by subst e; rw [hv'.cv] at hv; exact absurd hv (by decide)
    have HV := Lib.hid hv; clear hv
    go_enter Try.func53, Try.ntmps53
    go_wp2_with (go_at_call 65; refine (coverable_any w.heap.size A A' n n' c c' t f W0 HX.out (H.out.below HB.out) (H'.out.below HB.out) hn hn' k HV.out).mono ?_; rintro e w1 ⟨rfl, b⟩; have HB1 := Lib.hid (HB.out.trans (b.mono HB.out.size)); clear b c0 c1)
    obtain rfl : r = false := by rw [← HR.out, HF.out]
    go_ret2
    exact ⟨none, rfl, HB1.out, fun e => absurd e (by decide)⟩
  | true =>
    obtain ⟨kn, rfl, hmap, hk1, hk6, hfew⟩ := cvB_iff.1 hv
    have hn12 : n ≤ 12 := by rw [← H.out.1]; exact hmap.turn.2.1
    have hn2 : n' = n := by rw [← H.out.1, ← H'.out.1]; exact hmap.len.symm
    subst hn2
    obtain ⟨h2, hh2⟩ : ∃ h2, n' / 2 = h2 := ⟨_, rfl⟩
    have hh6 : h2 ≤ 6 := by omega
    have hles : (lesPre f n').length = h2 := by
      rw [lesPre_len, ← hh2]; have := lesN_half hmap.flip hmap.paired; rw [H'.out.1] at this; omega
    have HV := Lib.hid hv; have HM := Lib.hid hmap; have HHH := Lib.hid hh2; have HFEW := Lib.hid hfew; have HLES := Lib.hid hles
    clear hv hmap hh2 hfew hles
    by_cases hmh : m = h2
    · have hne : ((m : Int) != (h2 : Int)) = false := by simp [hmh]
      have HMH := Lib.hid hmh; clear hmh
      go_enter Try.func53, Try.ntmps53
      go_wp2_with (first
        | (go_at_call 65; refine (coverable_any w.heap.size A A' n' n' c c' t f W0 HX.out (H.out.below HB.out) (H'.out.below HB.out) hn hn' (kn : Int) HV.out).mono ?_; rintro e w1 ⟨rfl, b⟩; have HB1 := Lib.hid (HB.out.trans (b.mono HB.out.size)); have hx1 := HX.out.below b; have c0 := hx1.cell0; have c1 := hx1.cell1; have HX1 := Lib.hid hx1; have hz1 : w.heap.size < w1.heap.size := (by have := b.size; have := HZ.out; omega); clear b hx1)
        | (go_at_call 66; refine (edgeCount_any w.heap.size A A' n' n' c c' h2 w1 HX1.out hn' HHH.out).mono ?_; rintro e w2 ⟨rfl, rfl⟩)
        | (at_make; refine wpList_make_full _ rfl _ _ 99 rfl w1.heap.size 72 i1 (.slice none 0 0) 1 Try.underlying99 hinf1 hy0 hy1 .i64 .i64 _ _ n' rfl rfl rfl rfl (by rw [hy2]; omega) (by unfold maxLen; omega) (Nat.le_refl _) ?_; intro w3 hown3 hgrow3; have hz3 : w1.heap.size < w3.heap.size := (World.ownsRow.lt hown3 _ rfl).2; have HO3 := Lib.hid hown3; have hb3 := below_of_grown hgrow3 (Nat.le_refl _) (fun k hk => by cases hk); have HB3 := Lib.hid (HB1.out.trans (hb3.mono HB1.out.size)); have HX3 := Lib.hid (HX1.out.below hb3); have hx3 := HX3.out; have d0 := hx3.cell0; have d1 := hx3.cell1; clear c0 c1 hown3 hgrow3 hb3 hx3)
        | (go_at_call 85; refine (lesserDarts_any w.heap.size A A' n' n' c c' f w3 HX3.out (H'.out.below HB3.out) HM.out.flip).mono ?_; rintro e w4 ⟨v, rfl, o, b⟩; obtain ⟨A2, c2, rfl, -, -⟩ := o.form' HLES.out; have HRL := Lib.hid (o.rd HLES.out); have HLT : Hid (∀ ad : Addr, A2 = some ad → w1.heap.size < ad.block) := (fun ad e => by have := (o.lt ad.block (by rw [e]; rfl)).1; omega); have HB4 := Lib.hid (HB3.out.trans (b.mono HB3.out.size)); have HX4 := Lib.hid (HX3.out.below b); have HO4 := Lib.hid b; clear o b d0 d1))
      have HAL : Hid (Alg w4 w1.heap.size w1.heap.size n' n' (fun _ => none)) := (Alg.made HO3.out (by simp [madeCells])).below HO4.out
      have hb4 := HB4.out.size
      clear HO3 HO4 hne hinf1 hy0 hy1 hy2
      go_loopw [9, 10, 26] (fun _ _ iv wr => ∃ e : Nat, e ≤ h2 ∧ iv = .int .i64 e ∧ Hid (Below w.heap.size w wr) ∧ Hid (w4.heap.size ≤ wr.heap.size) ∧ Hid (w4.grownBy wr (some w1.heap.size)) ∧ Hid (∀ q, q < e → Vld (vss.getD q []) ∧ (vss.getD q []).length = kn) ∧ Hid (Alg wr w1.heap.size w1.heap.size n' n' (fun j => if edgN f j < e then some (dV f vss j) else none))) (fun _ _ iv _ => h2 - (intOf iv).toNat)
      case atStart => exact ⟨0, Nat.zero_le _, rfl, HB4, Nat.le_refl _, World.grownBy.refl _ _, fun q hq => absurd hq (by omega), HAL.out.congr (fun j hj => by rw [if_neg (by omega)])⟩
      case round =>
        clear HAL
        obtain ⟨e, he, rfl, hb, hsz, hg, hall, hal⟩ := hrel
        by_cases hlt : e < h2
        · obtain ⟨x1, x2, x3⟩ := lesD_spec HM.out.flip HM.out.paired (e := e) (by rw [H'.out.1, HHH.out]; exact hlt)
          obtain ⟨x, hxx⟩ : ∃ x, lesD f e = x := ⟨_, rfl⟩
          rw [hxx] at x1 x2 x3
          have hle := lesPre_at x2 (k := n') (by rw [← H'.out.1]; exact x1)
          rw [x3] at hle
          obtain ⟨ad, rfl, hc⟩ := (HRL.out.kept_ hg.out (fun ad e' h => by injection h with h; have := HLT.out ad e'; omega)).at_ hlt
          rw [hle] at hc
          have hxn : x < n' := by rw [← H'.out.1]; exact x1
          obtain ⟨y, hy, hyn, hgy⟩ := (HM.out.flip.into H'.out.1).nat (j := x) x1
          obtain ⟨adF, rfl, hcF⟩ := (H'.out.below hb.out).at_ hxn
          rw [hy] at hcF
          obtain ⟨adB, Aj, cj, nj, rfl, hcB0, hrB0, hmB⟩ := HS.out.at_ (k := e) (by have := HMH.out; omega)
          have hbB := World.block_lt_of_cell? w _ hcB0
          have hcB := (hb.out.cell hbB).trans hcB0
          have hrB := hrB0.below hb.out
          have HAJ : Hid (∀ ad : Addr, Aj = some ad → 0 < nj → ad.block < w.heap.size) := hrB0.lt
          clear hcB0 hrB0
          have hge := total_ge (xss := vss) (k := e) (by rw [Hm.out]; have := HMH.out; omega)
          rw [hrB.1] at hge
          have hnj : nj ≤ 1048576 := by omega
          have hem : e < m := by have := HMH.out; omega
          have HRB := Lib.hid hrB; have HNJ := Lib.hid hrB.1; have HX2 := Lib.hid x2; have HX3 := Lib.hid x3; have HGY := Lib.hid hgy; have HXD := Lib.hid hxx
          clear hrB hge hle x1 x2 x3 hy hgy hxx hmB
          obtain ⟨q, hq⟩ : ∃ q, (vld (vss.getD e []) && ((nj : Int) == (kn : Int))) = q := ⟨_, rfl⟩
          have HQ := Lib.hid hq
          cases q with
          | false =>
            have HF : Hid (vvB t f (kn : Int) vss = false) := vvB_no fun kn' e' _ _ _ _ _ h7 => by
              obtain ⟨a1, a2⟩ := h7 e (by rw [Hm.out]; have := HMH.out; omega)
              rw [HNJ.out] at a2
              rw [vld_true a1, Bool.true_and] at hq
              have : nj = kn := by omega
              simp [this] at hq
            clear hq
            go_wp2_with (go_at_call 78; refine (sheetsPerm_any Aj nj cj _ (kn : Int) wr HRB.out hnj HQ.out).mono ?_; rintro e' w5 ⟨rfl, b⟩; have HB5 := Lib.hid (hb.out.trans (b.mono (by have := hb.out.size; omega))); clear b)
            obtain rfl : r = false := by rw [← HR.out, HF.out]
            go_ret2
            exact ⟨none, rfl, HB5.out, fun e => absurd e (by decide)⟩
          | true =>
            obtain ⟨hvj, hjk⟩ : vld (vss.getD e []) = true ∧ (nj : Int) = (kn : Int) := by simpa [Bool.and_eq_true] using hq
            obtain rfl : nj = kn := by omega
            have HVJ := Lib.hid (Vld_of hvj); have HLB : Hid ((backL (vss.getD e [])).length = nj) := by rw [Hid, backL_len, HNJ.out]
            clear hq hvj hjk
            have hxy : x ≠ y := by have := HX2.out; have := HGY.out; omega
            go_wp2_with (go_at_call 78; refine (sheetsPerm_any Aj nj cj _ (nj : Int) wr HRB.out hnj HQ.out).mono ?_; rintro e' w5 ⟨rfl, b⟩; have HB5 := Lib.hid (hb.out.trans (b.mono (by have := hb.out.size; omega))); have HS5 := Lib.hid b; clear b)
            have HX5 : Hid (Box w5 w.heap.size 30 (.slice A n' c) (.slice (some adF) n' c')) := (HX4.out.kept_ hg.out (fun h => by injection h with h; omega)).below HS5.out
            have c1 := HX5.out.cell1
            have hcF5 : w5.cell? (adF.add x) = some (.int .i64 y) := (HS5.out.cell (World.block_lt_of_cell? wr _ hcF)).trans hcF
            have hcB5 : w5.cell? (adB.add e) = some (.slice Aj nj cj) := (HS5.out.cell (World.block_lt_of_cell? wr _ hcB)).trans hcB
            have HA5 := Lib.hid (hal.out.below HS5.out)
            have HRB5 := Lib.hid (HRB.out.below HS5.out)
            obtain ⟨vx, hvx, hfx⟩ := HA5.out.cell hxn
            obtain ⟨vy, hvy, hfy⟩ := HA5.out.cell hyn
            clear hc hcF hcB
            have hbF : adF.block < w.heap.size := H'.out.lt adF rfl (by omega)
            have HNF : Hid ((⟨w.heap.size, 1, none⟩ : Addr).block ≠ w1.heap.size ∧ (adF.add x).block ≠ w1.heap.size ∧ (adB.add e).block ≠ w1.heap.size) := ⟨by show w.heap.size ≠ w1.heap.size; omega, by rw [add_block]; omega, by omega⟩
            go_region_held3 (fun w' => w'.cell? ⟨w.heap.size, 1, none⟩ = some (.slice (some adF) n' c') ∧ w'.cell? (adF.add x) = some (.int .i64 y) ∧ w'.cell? (adB.add e) = some (.slice Aj nj cj)) (first
                | exact ⟨c1, hcF5, hcB5⟩ | exact ⟨f1, hcF6, hcB6⟩ | exact ⟨setS f1 HNF.out.1, setS hcF6 HNF.out.2.1, setS hcB6 HNF.out.2.2⟩ | exact ⟨setS (setS f1 HNF.out.1) HNF.out.1, setS (setS hcF6 HNF.out.2.1) HNF.out.2.1, setS (setS hcB6 HNF.out.2.2) HNF.out.2.2⟩ | exact ⟨setS c1 HNF.out.1, setS hcF5 HNF.out.2.1, setS hcB5 HNF.out.2.2⟩) (first
              | (go_at_call 86; refine (back_any Aj nj cj _ _ (HRB5.out.drewN _) (by omega) HVJ.out).mono ?_; rintro e' w6 ⟨v, rfl, o, bl⟩; obtain ⟨Ab, cb, rfl, -, -⟩ := o.form' HLB.out; have BL : Hid (Below w5.heap.size w5 w6) := Below.of_drewN bl; have HOB : Hid (Own w6 w5.heap.size (.slice Ab nj cb) (backL (vss.getD e []))) := o; clear o bl; have f1 := (HX5.out.below BL.out).cell1; have hcF6 := (BL.out.cell (World.block_lt_of_cell? w5 _ hcF5)).trans hcF5; have hcB6 := (BL.out.cell (World.block_lt_of_cell? w5 _ hcB5)).trans hcB5; obtain ⟨vx6, hvx6, hfx6⟩ := (HA5.out.below BL.out).cell hxn; obtain ⟨vy6, hvy6, hfy6⟩ := (HA5.out.below BL.out).cell hyn))
            have HBW : Hid (Below w.heap.size w w6) := HB5.out.trans (BL.out.mono (by have := HB5.out.size; omega))
            have HS6 : Hid (w4.grownBy w6 (some w1.heap.size)) := grownBy_trans (grownBy_trans hg.out (grown_of_below HS5.out)) (grown_of_below BL.out)
            have hs6 : w4.heap.size ≤ w6.heap.size := HS6.out.size
            have hg6 : w1.heap.size < w5.heap.size := HA5.out.lt.2
            have hp1 := (HA5.out.below BL.out).put (j := x) (k := nj) (p := vss.getD e []) (Ak := Aj) (ck := cj) hxn HNJ.out (HRB5.out.below BL.out) (fun ad e' => by have := HAJ.out ad e' (by have := HVJ.out.1; rw [HNJ.out] at this; omega); omega)
            have HOLT : Hid (∀ ad : Addr, Ab = some ad → ad.block ≠ w1.heap.size) := fun ad e' => by have := (HOB.out.lt ad.block (by rw [e']; rfl)).1; omega
            have hp2 := hp1.1.put (j := y) (k := nj) (p := backL (vss.getD e [])) (Ak := Ab) (ck := cb) hyn HLB.out ((HOB.out.rd HLB.out).kept_ hp1.2 (fun ad e' h => HOLT.out ad e' (by injection h with h; exact h.symm))) HOLT.out
            have HP1 := Lib.hid hp1.2; have HP2 := Lib.hid hp2; clear hp1 hp2
            go_wp2_with fail
            go_roundw
            case rel =>
              refine ⟨e + 1, by omega, by go_num, (HBW.out.setCell (by show w.heap.size ≤ w1.heap.size; omega) _).setCell (by show w.heap.size ≤ w1.heap.size; omega) _, by simp [Hid, World.setCell]; omega, grownBy_trans (grownBy_trans HS6.out HP1.out) HP2.out.2, fun q hq => ?_, HP2.out.1.congr fun j hj => ?_⟩
              · by_cases eq : q = e
                · subst eq; exact ⟨HVJ.out, HNJ.out⟩
                · exact hall.out q (by omega)
              · have hjf : j < f.length := by rw [H'.out.1]; exact hj
                have hxf : x < f.length := by rw [H'.out.1]; exact hxn
                have e1 : edgN f x = e := by rw [edgN_less HX2.out, HX3.out]
                by_cases ey : j = y
                · subst ey
                  have e2 : edgN f (gn f x) = e := by rw [edgN_flip HM.out.paired hxf, e1]
                  have e3 := (HM.out.paired x hxf).2
                  rw [if_pos rfl, ← HGY.out, e2, if_pos (by omega), dV, e2, e3, if_neg (by have := HX2.out; omega)]
                · rw [if_neg ey]
                  by_cases ex : j = x
                  · subst ex
                    rw [if_pos rfl, e1, if_pos (by omega), dV, if_pos HX2.out, e1]
                  · rw [if_neg ex]
                    have : edgN f j ≠ e := fun h => by
                      rcases edgN_inj HM.out.flip HM.out.paired hxf hjf (by rw [e1, h]) with h | h
                      · exact ex h
                      · exact ey (by rw [h, HGY.out])
                    by_cases h : edgN f j < e
                    · rw [if_pos h, if_pos (by omega)]
                    · rw [if_neg h, if_neg (by omega)]
            case measure => simp [intOf]; omega
        · obtain rfl : e = h2 := by omega
          have HX5 : Hid (Box wr w.heap.size 30 (.slice A n' c) (.slice A' n' c')) := HX4.out.kept_ hg.out (fun h => by injection h with h; omega)
          have c0 := HX5.out.cell0
          have c1 := HX5.out.cell1
          have HT : Hid (vvB t f (kn : Int) vss = true) := vvB_true ⟨HM.out, hk1, hk6, HFEW.out, by rw [Hm.out, H'.out.1, HHH.out, HMH.out], fun q hq => hall.out q (by rw [Hm.out, HMH.out] at hq; exact hq)⟩
          obtain rfl : r = true := by rw [← HR.out, HT.out]
          have HBN : Hid (VBox (wr.alloc (.cells #[.slice A n' c, .slice A' n' c', .int .i64 kn, .slice (some ⟨w1.heap.size, 0, none⟩) n' n'] 101)) wr.heap.size A n' c A' n' c' kn w1.heap.size n') := heap_alloc_new wr _
          have HAB : Hid (Below wr.heap.size wr (wr.alloc (.cells #[.slice A n' c, .slice A' n' c', .int .i64 kn, .slice (some ⟨w1.heap.size, 0, none⟩) n' n'] 101))) := (Below.refl _ _).alloc (Nat.le_refl _) _
          go_wp2_with fail
          go_ret2
          refine ⟨_, rfl, hb.out.alloc (by have := hb.out.size; omega) _, _, rfl, kn, rfl, ?_⟩
          have hl := H'.out.1
          subst hl
          refine ⟨A, c, A', c', w1.heap.size, w1.heap.size, f.length, HBN.out, (H.out.below hb.out).below HAB.out, (H'.out.below hb.out).below HAB.out, (hal.out.below HAB.out).congr fun j hj => ?_⟩
          rw [if_pos]
          have := edgN_lt HM.out.flip HM.out.paired hj
          have := lesN_half HM.out.flip HM.out.paired
          have := HHH.out
          omega
    · have hne : ((m : Int) != (h2 : Int)) = true := by simp; omega
      have HF : Hid (vvB t f (kn : Int) vss = false) := vvB_no fun kn' e _ _ _ _ h5 => by
        rw [Hm.out, H'.out.1, HHH.out] at h5
        omega
      clear hmh
      go_enter Try.func53, Try.ntmps53
      go_wp2_with (first
        | (go_at_call 65; refine (coverable_any w.heap.size A A' n' n' c c' t f W0 HX.out (H.out.below HB.out) (H'.out.below HB.out) hn hn' (kn : Int) HV.out).mono ?_; rintro e w1 ⟨rfl, b⟩; have HB1 := Lib.hid (HB.out.trans (b.mono HB.out.size)); have HX1 := Lib.hid (HX.out.below b); clear b c0 c1)
        | (go_at_call 66; refine (edgeCount_any w.heap.size A A' n' n' c c' h2 w1 HX1.out hn' HHH.out).mono ?_; rintro e w2 ⟨rfl, rfl⟩))
      obtain rfl : r = false := by rw [← HR.out, HF.out]
      go_ret2
      exact ⟨none, rfl, HB1.out, fun e => absurd e (by decide)⟩

end Go.Proofs.Ytlnegaenjcekcaa

namespace Go.Proofs.Ytlnegaenjcekcaa
open Go.RowKit

theorem vv_no {t f : List Int} {k : Int} {vss : List (List Int)} (h : ∀ kn : Nat, k = kn → IsMap t f → 1 ≤ kn → kn ≤ 6 → kn * t.length ≤ 12 → vss.length = f.length / 2 → ¬ ∀ e, e < vss.length → Vld (vss.getD e []) ∧ (vss.getD e []).length = kn) : vvB t f k vss = false :=
  vvB_false fun kn e hv => h kn e hv.map hv.one hv.six hv.few hv.len hv.row

set_option maxRecDepth 20000 in
set_option maxHeartbeats 3200000 in
theorem spec_vvB (w : World) (A A' : Option Addr) (n n' c c' : Nat) (t f : List Int) (h : Rd w A n t) (h' : Rd w A' n' f) (hn : n ≤ 1048576) (hn' : n' ≤ 1048576) (k : Int) (B : Option Addr) (m d : Nat) (vss : List (List Int)) (hs : RdSS w B m vss) (hm : m ≤ 1048576) (htot : total vss ≤ 1048576) {r : Bool} (hR : vvB t f k vss = r) :
    Calls Try.prog 36 #[.agg #[.slice A n c, .slice A' n' c'], .int .i64 k, .slice B m d] w fun e w' => e = .returned (.bool r) ∧ Below w.heap.size w w' := by
  obtain ⟨W0, hW0, hx, hb, -⟩ := Box.local_ w 30 (.slice A n c) (.slice A' n' c')
  have c0 := hx.cell0
  have c1 := hx.cell1
  have HX := Lib.hid hx; have HB := Lib.hid hb; have H := Lib.hid h; have H' := Lib.hid h'; have HR := Lib.hid hR; have HS := Lib.hid hs; have Hm := Lib.hid hs.1; clear hx hb h h' hR hs
  cases hv : mapV t f with
  | false =>
    have HF : Hid (vvB t f k vss = false) := vv_no fun _ _ hm => absurd (mapV_iff.2 hm) (by rw [hv]; decide)
    have HV := Lib.hid hv; clear hv
    go_enter Try.func36, Try.ntmps36
    go_wp2_with (go_at_call 68; refine (spec_mapV W0 A A' n n' c c' t f (H.out.below HB.out) (H'.out.below HB.out) hn hn' HV.out).mono ?_; rintro e w1 ⟨rfl, b⟩; have HB1 := Lib.hid (HB.out.trans (b.mono HB.out.size)); clear b c0 c1)
    go_ret
    exact ⟨ret_bool (by rw [← HR.out, HF.out]), HB1.out⟩
  | true =>
    have hmap := mapV_iff.1 hv
    have hn12 : n ≤ 12 := by rw [← H.out.1]; exact hmap.turn.2.1
    have hn2 : n' = n := by rw [← H.out.1, ← H'.out.1]; exact hmap.len.symm
    subst hn2
    obtain ⟨h2, hh2⟩ : ∃ h2, n' / 2 = h2 := ⟨_, rfl⟩
    have HV := Lib.hid hv; have HM := Lib.hid hmap; have HHH := Lib.hid hh2
    have hh6 : h2 ≤ 6 := by omega
    have g2 : IntKind.i64.wrap ((n' : Int) / 2) = (h2 : Int) := by rw [IntWalk.i64_in _ (by omega)]; omega
    have g2' : (n' : Int) / 2 = (h2 : Int) := by omega
    clear hv hmap hh2
    cases hk : inB k 1 6 with
    | false =>
      have HF : Hid (vvB t f k vss = false) := vv_no fun kn e _ h1 h6 => absurd (inB_true (x := k) (lo := 1) (hi := 6) (by omega) (by omega)) (by rw [hk]; decide)
      have HK := Lib.hid hk; clear hk
      go_enter Try.func36, Try.ntmps36
      go_wp2_with (first
        | (go_at_call 68; refine (spec_mapV W0 A A' n' n' c c' t f (H.out.below HB.out) (H'.out.below HB.out) hn hn' HV.out).mono ?_; rintro e w1 ⟨rfl, b⟩; have HB1 := Lib.hid (HB.out.trans (b.mono HB.out.size)); clear b c0 c1)
        | (go_at_call 69; refine (l6In_any k 1 6 _).mono ?_; rintro e w2 ⟨rfl, rfl⟩; rw [HK.out]))
      go_ret
      exact ⟨ret_bool (by rw [← HR.out, HF.out]), HB1.out⟩
    | true =>
      obtain ⟨hk1, hk6⟩ : 1 ≤ k ∧ k ≤ 6 := by simpa [inB] using hk
      obtain ⟨kn, rfl⟩ : ∃ kn : Nat, k = kn := ⟨k.toNat, by omega⟩
      have hk1' : 1 ≤ kn := by omega
      have hk6' : kn ≤ 6 := by omega
      obtain ⟨P, hP⟩ : ∃ P, kn * n' = P := ⟨_, rfl⟩
      have hP72 : P ≤ 72 := by rw [← hP]; exact Nat.mul_le_mul hk6' hn12
      have gP : IntKind.i64.wrap ((kn : Int) * (n' : Int)) = (P : Int) := by rw [← Int.natCast_mul, hP]; exact IntWalk.i64_in _ (by omega)
      have gP' : (kn : Int) * (n' : Int) = (P : Int) := by rw [← Int.natCast_mul, hP]
      have HK := Lib.hid hk; have HP := Lib.hid hP; clear hk hP hk1 hk6
      by_cases hp : 12 < P
      · have hd : decide ((12 : Int) < (P : Int)) = true := by simp; omega
        have HF : Hid (vvB t f (kn : Int) vss = false) := vv_no fun kn' e _ _ _ h4 => by
          have : kn = kn' := by omega
          subst this
          rw [H.out.1, HP.out] at h4
          omega
        clear hp
        go_enter Try.func36, Try.ntmps36
        go_wp2_with (first
          | (go_at_call 68; refine (spec_mapV W0 A A' n' n' c c' t f (H.out.below HB.out) (H'.out.below HB.out) hn hn' HV.out).mono ?_; rintro e w1 ⟨rfl, b⟩; have hx1 := HX.out.below b; have c0 := hx1.cell0; have c1 := hx1.cell1; have HB1 := Lib.hid (HB.out.trans (b.mono HB.out.size)); clear b hx1)
          | (go_at_call 69; refine (l6In_any (kn : Int) 1 6 _).mono ?_; rintro e w2 ⟨rfl, rfl⟩; rw [HK.out]))
        go_ret
        exact ⟨ret_bool (by rw [← HR.out, HF.out]), HB1.out⟩
      · have hd : decide ((12 : Int) < (P : Int)) = false := by simp; omega
        have HP12 : Hid (P ≤ 12) := by rw [Hid]; omega
        clear hp
        by_cases hmh : m = h2
        · have hne : ((m : Int) != (h2 : Int)) = false := by simp [hmh]
          have hm6 : m ≤ 6 := by omega
          have HMH := Lib.hid hmh; clear hmh
          go_enter Try.func36, Try.ntmps36
          go_wp2_with (first
            | (go_at_call 68; refine (spec_mapV W0 A A' n' n' c c' t f (H.out.below HB.out) (H'.out.below HB.out) hn hn' HV.out).mono ?_; rintro e w1 ⟨rfl, b⟩; have hx1 := HX.out.below b; have c0 := hx1.cell0; have c1 := hx1.cell1; have HB1 := Lib.hid (HB.out.trans (b.mono HB.out.size)); clear b hx1)
            | (go_at_call 69; refine (l6In_any (kn : Int) 1 6 _).mono ?_; rintro e w2 ⟨rfl, rfl⟩; rw [HK.out]))
          clear c0 c1 g2 g2' gP gP' hd hne
          go_loopw [7] (fun iv wr => ∃ j q : Nat, j ≤ m ∧ iv = .int .i64 j ∧ wr = w1.drewN q ∧ Hid (∀ e, e < j → Vld (vss.getD e []) ∧ (vss.getD e []).length = kn)) (fun iv _ => m - (intOf iv).toNat)
          case atStart => exact ⟨0, 0, Nat.zero_le _, rfl, rfl, fun e he => absurd he (by omega)⟩
          case round =>
            obtain ⟨j, q, hj, rfl, rfl, hall⟩ := hrel
            generalize hWe : w1.drewN q = W
            have HW := Lib.hid hWe.symm; clear hWe
            have HBW : Hid (Below w.heap.size w W) := by rw [Hid, HW.out]; exact below_drewN HB1.out q
            by_cases hlt : j < m
            · obtain ⟨ad, Aj, cj, nj, rfl, hc, hr, hmj⟩ := (HS.out.below HBW.out).at_ hlt
              have hge := total_ge (xss := vss) (k := j) (by rw [Hm.out]; exact hlt)
              rw [hr.1] at hge
              have HMJ : Hid (nj ≤ 17592186044416) := by rw [Hid]; omega
              have hnj : nj ≤ 1048576 := by omega
              have HRJ := Lib.hid hr; have HNJ := Lib.hid hr.1; clear hr hmj hge
              cases hvj : vld (vss.getD j []) with
              | false =>
                have HF : Hid (vvB t f (kn : Int) vss = false) := vv_no fun kn' e _ _ _ _ _ h7 => by
                  have := (h7 j (by rw [Hm.out]; exact hlt)).1
                  rw [vld_true this] at hvj
                  exact absurd hvj (by decide)
                have HVJ := Lib.hid hvj; clear hvj
                go_wp2_with (go_at_call 74; refine (specValid_any Aj nj cj _ _ HRJ.out HMJ.out).mono ?_; rintro e w2 ⟨rfl, q2, rfl⟩; rw [HVJ.out])
                go_ret
                exact ⟨ret_bool (by rw [← HR.out, HF.out]), below_drewN HBW.out _⟩
              | true =>
                have HVJ := Lib.hid hvj; clear hvj
                by_cases hjk : nj = kn
                · have hne : ((nj : Int) != (kn : Int)) = false := by simp [hjk]
                  have HJK := Lib.hid hjk; clear hjk
                  go_wp2_with (go_at_call 74; refine (specValid_any Aj nj cj _ _ HRJ.out HMJ.out).mono ?_; rintro e w2 ⟨rfl, q2, rfl⟩; rw [HVJ.out])
                  go_roundw
                  case rel => exact ⟨j + 1, q + q2, by omega, by go_num, by rw [HW.out, World.drewN_drewN], fun e he => by
                    by_cases h : e = j
                    · subst h; exact ⟨Vld_of HVJ.out, by rw [HNJ.out, HJK.out]⟩
                    · exact hall.out e (by omega)⟩
                  case measure => simp [intOf]; omega
                · have hne : ((nj : Int) != (kn : Int)) = true := by simp; omega
                  have HF : Hid (vvB t f (kn : Int) vss = false) := vv_no fun kn' e _ _ _ _ _ h7 => by
                    have := (h7 j (by rw [Hm.out]; exact hlt)).2
                    rw [HNJ.out] at this
                    omega
                  clear hjk
                  go_wp2_with (go_at_call 74; refine (specValid_any Aj nj cj _ _ HRJ.out HMJ.out).mono ?_; rintro e w2 ⟨rfl, q2, rfl⟩; rw [HVJ.out])
                  go_ret
                  exact ⟨ret_bool (by rw [← HR.out, HF.out]), below_drewN HBW.out _⟩
            · have HT : Hid (vvB t f (kn : Int) vss = true) := vvB_true ⟨HM.out, hk1', hk6', by rw [H.out.1, HP.out]; exact HP12.out, by rw [Hm.out, H'.out.1, HHH.out, HMH.out], fun e he => hall.out e (by rw [Hm.out] at he; omega)⟩
              go_wp2_with fail
              go_ret
              exact ⟨ret_bool (by rw [← HR.out, HT.out]), HBW.out⟩
        · have hne : ((m : Int) != (h2 : Int)) = true := by simp; omega
          have HF : Hid (vvB t f (kn : Int) vss = false) := vv_no fun kn' e _ _ _ _ h5 => by
            rw [Hm.out, H'.out.1, HHH.out] at h5
            omega
          clear hmh
          go_enter Try.func36, Try.ntmps36
          go_wp2_with (first
            | (go_at_call 68; refine (spec_mapV W0 A A' n' n' c c' t f (H.out.below HB.out) (H'.out.below HB.out) hn hn' HV.out).mono ?_; rintro e w1 ⟨rfl, b⟩; have hx1 := HX.out.below b; have c0 := hx1.cell0; have c1 := hx1.cell1; have HB1 := Lib.hid (HB.out.trans (b.mono HB.out.size)); clear b hx1)
            | (go_at_call 69; refine (l6In_any (kn : Int) 1 6 _).mono ?_; rintro e w2 ⟨rfl, rfl⟩; rw [HK.out]))
          go_ret
          exact ⟨ret_bool (by rw [← HR.out, HF.out]), HB1.out⟩

end Go.Proofs.Ytlnegaenjcekcaa

namespace Go.Proofs.Ytlnegaenjcekcaa
open Go.RowKit

theorem impl_vvB (w : World) (A A' : Option Addr) (n n' c c' : Nat) (t f : List Int) (h : Rd w A n t) (h' : Rd w A' n' f) (hn : n ≤ 1048576) (hn' : n' ≤ 1048576) (k : Int) (B : Option Addr) (m d : Nat) (vss : List (List Int)) (hs : RdSS w B m vss) (hm : m ≤ 1048576) (htot : total vss ≤ 1048576) {r : Bool} (hR : vvB t f k vss = r) :
    Calls Try.prog 35 #[.agg #[.slice A n c, .slice A' n' c'], .int .i64 k, .slice B m d] w fun e w' => e = .returned (.bool r) ∧ Below w.heap.size w w' := by
  obtain ⟨W0, hW0, hx, hb, hz⟩ := Box.local_ w 30 (.slice A n c) (.slice A' n' c')
  have c0 := hx.cell0
  have c1 := hx.cell1
  have HB := Lib.hid hb; have H := Lib.hid h; have H' := Lib.hid h'; have HR := Lib.hid hR; have HS := Lib.hid hs; clear hx hb h h' hR hs hz
  go_enter Try.func35, Try.ntmps35
  go_wp2_with fail
  refine (voltageOf_any W0 A A' n n' c c' t f (H.out.below HB.out) (H'.out.below HB.out) hn hn' k B m d vss (HS.out.below HB.out) hm htot HR.out).mono ?_
  rintro e w1 ⟨p, rfl, b, -⟩
  have HB1 := Lib.hid (HB.out.trans (b.mono HB.out.size)); clear b
  go_wp2_with fail
  go_ret
  exact ⟨rfl, HB1.out⟩

end Go.Proofs.Ytlnegaenjcekcaa

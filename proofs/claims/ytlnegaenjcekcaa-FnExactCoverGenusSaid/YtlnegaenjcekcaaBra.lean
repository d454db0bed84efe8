/-
  The winding of a face: plain; the program's; the model's.
  CoverBranch: plain; the model's.
-/
import Derived.Test.YtlnegaenjcekcaaCovT
import Derived.Test.YtlnegaenjcekcaaVolt
import Derived.Deep.RegionHeld3
import Derived.Test.YtlnegaenjcekcaaCovV
import Derived.Test.YtlnegaenjcekcaaSign
import Derived.Test.YtlnegaenjcekcaaMarkSS
import Derived.Test.YtlnegaenjcekcaaCopy
namespace Go.Proofs.Ytlnegaenjcekcaa
open Go.RowKit
set_option linter.unusedVariables false

def wndL (f : List Int) (k : Nat) (vss : List (List Int)) (face : List Int) : List Int := face.foldl (fun acc d => mulL acc (dV f vss d.toNat)) (marks 0 k)
theorem wndL_nil (f : List Int) (k : Nat) (vss : List (List Int)) : wndL f k vss [] = marks 0 k := rfl
theorem wndL_one {f : List Int} {k : Nat} {vss : List (List Int)} {face : List Int} {s x : Nat} (hs : s < face.length) (hx : gi face s = (x : Int)) : wndL f k vss (face.take (s + 1)) = mulL (wndL f k vss (face.take s)) (dV f vss x) := by
  rw [take_oneC hs hx, wndL, wndL, List.foldl_append]; rfl
theorem fold_wnd {t f : List Int} {k : Nat} {vss : List (List Int)} (hv : Volt t f k vss) : ∀ (face acc : List Int), (∀ d ∈ face, 0 ≤ d ∧ d.toNat < f.length) → Vld acc ∧ acc.length = k → Vld (face.foldl (fun acc d => mulL acc (dV f vss d.toNat)) acc) ∧ (face.foldl (fun acc d => mulL acc (dV f vss d.toNat)) acc).length = k
  | [], acc, _, h => h
  | d :: r, acc, hd, h => by
    rw [List.foldl_cons]
    obtain ⟨h1, h2⟩ := hv.dV (hd d (List.mem_cons_self ..)).2
    exact fold_wnd hv r _ (fun d' h' => hd d' (List.mem_cons_of_mem _ h')) ⟨h.1.mulL h1 (by rw [h.2, h2]), by rw [mulL_len]; exact h.2⟩
theorem wndL_vld {t f : List Int} {k : Nat} {vss : List (List Int)} (hv : Volt t f k vss) {face : List Int} (hd : ∀ d ∈ face, 0 ≤ d ∧ d.toNat < f.length) : Vld (wndL f k vss face) ∧ (wndL f k vss face).length = k :=
  fold_wnd hv face _ hd ⟨marks_vld hv.one (by have := hv.six; omega), marks_len _ _⟩

set_option maxRecDepth 20000 in
set_option maxHeartbeats 3200000 in
theorem winding_any (w : World) (b : Nat) (t f : List Int) (k : Nat) (vss : List (List Int)) (hv : Volt t f k vss) (h : VAt w b t f k vss) (F : Option Addr) (l cl : Nat) (face : List Int) (hf : Rd w F l face) (hl : l ≤ 1048576) (hd : ∀ d ∈ face, 0 ≤ d ∧ d.toNat < f.length) :
    Calls Try.prog 57 #[.pointer (some ⟨b, 0, none⟩), .slice F l cl] w fun e w' => ∃ v, e = .returned v ∧ Own w' w.heap.size v (wndL f k vss face) ∧ Below w.heap.size w w' := by
  obtain ⟨n, hn⟩ : ∃ n, f.length = n := ⟨_, rfl⟩
  obtain ⟨A, c, A', c', lo, g, cg, hvb, hr1, hr2, hal⟩ := (show ∃ (A : Option Addr) (c : Nat) (A' : Option Addr) (c' lo g cg : Nat), VBox w b A n c A' n c' k g cg ∧ Rd w A n t ∧ Rd w A' n f ∧ Alg w lo g n cg (fun j => some (dV f vss j)) by subst hn; exact h)
  have hk1 := hv.one
  have hk6 := hv.six
  have hbl := hvb.lt
  have c2 := hvb.cell2
  have HFL := Lib.hid hf.1
  have HDV : Hid (∀ j, j < n → Vld (dV f vss j) ∧ (dV f vss j).length = k) := fun j hj => hv.dV (by omega)
  have HW : Hid (∀ s, Vld (wndL f k vss (face.take s)) ∧ (wndL f k vss (face.take s)).length = k) := fun s => wndL_vld hv (fun d h' => hd d (List.mem_of_mem_take h'))
  have HDX : Hid (∀ s, s < l → ∃ x : Nat, gi face s = (x : Int) ∧ x < n) := fun s hs => by
    have hs' : s < face.length := by rw [hf.1]; exact hs
    obtain ⟨h1, h2⟩ := hd _ (List.getElem_mem hs')
    refine ⟨(face[s]'hs').toNat, ?_, by rw [← hn]; exact h2⟩
    rw [gi_eq hs']; omega
  have HVB := Lib.hid hvb; have HAL := Lib.hid hal; have HF := Lib.hid hf
  clear hv h hn hvb hr1 hr2 hal hf hd
  go_enter Try.func57, Try.ntmps57
  go_wp2_with (go_at_call 67; refine (stillPerm_any k w (by omega)).mono ?_; rintro e w1 ⟨v, rfl, o, bl⟩; have HO1 := Lib.hid o; have HB1 := Lib.hid bl; clear o bl c2)
  go_loopw [5, 7, 15] (fun pv _ iv wr => ∃ s : Nat, s ≤ l ∧ iv = .int .i64 s ∧ Hid (Own wr w.heap.size pv (wndL f k vss (face.take s))) ∧ Hid (Below w.heap.size w wr)) (fun _ _ iv _ => l - (intOf iv).toNat)
  case atStart => exact ⟨0, Nat.zero_le _, rfl, HO1, HB1⟩
  case round =>
    clear HO1 HB1
    obtain ⟨s, hs, rfl, ho, hb⟩ := hrel
    by_cases hlt : s < l
    · obtain ⟨x, hx, hxn⟩ := HDX.out s hlt
      obtain ⟨adF, rfl, hcF⟩ := (HF.out.below hb.out).at_ hlt
      rw [hx] at hcF
      obtain ⟨a, ha⟩ : ∃ a, dV f vss x = a := ⟨_, rfl⟩
      have hav := HDV.out x hxn
      rw [ha] at hav
      have hcx : ∃ Ax cx, wr.cell? ((⟨g, 0, none⟩ : Addr).add x) = some (.slice Ax k cx) ∧ Rd w Ax k a := by
        obtain ⟨Ax, cx, h1, h2⟩ := HAL.out.at_ hxn (p := a) (by rw [ha]) hav.2
        rw [show (⟨g, 0, none⟩ : Addr).add x = ⟨g, x, none⟩ from by unfold Addr.add; split <;> simp_all]
        exact ⟨Ax, cx, (hb.out.cell (World.block_lt_of_cell? w _ h1)).trans h1, h2⟩
      obtain ⟨Ax, cx, hcx, hrx⟩ := hcx
      have hcx' : wr.cell? ⟨g, x, none⟩ = some (.slice Ax k cx) := by
        rw [show (⟨g, 0, none⟩ : Addr).add x = ⟨g, x, none⟩ from by unfold Addr.add; split <;> simp_all] at hcx
        exact hcx
      have c3 := (HVB.out.over hb.out hbl).cell3
      obtain ⟨Aw, cw, rfl, -, -⟩ := ho.out.form' (HW.out s).2
      have HRX := Lib.hid (hrx.below hb.out); have HST := Lib.hid (wndL_one (f := f) (k := k) (vss := vss) (by rw [HFL.out]; exact hlt) hx); have HA := Lib.hid ha
      clear hrx hx hav ha
      go_wp2_with (go_at_call 82; refine (then_any Aw Ax k k cw cx (wndL f k vss (face.take s)) a wr (ho.out.rd (HW.out s).2) HRX.out (by omega) (by omega) ((HW.out s).1.into (HW.out s).2)).mono ?_; rintro e w4 ⟨v, rfl, o, bl⟩; have HO4 := Lib.hid o; have HB4 := Lib.hid bl; clear o bl)
      go_roundw
      case rel => exact ⟨s + 1, by omega, by go_num, by rw [Hid, HST.out, HA.out]; exact HO4.out.mono hb.out.size, hb.out.trans (HB4.out.mono hb.out.size)⟩
      case measure => simp [intOf]; omega
    · have hsl : s = l := by omega
      rw [hsl, List.take_of_length_le (by rw [HFL.out]; exact Nat.le_refl _)] at ho
      clear hsl
      go_wp2_with fail
      go_ret
      exact ⟨_, rfl, ho.out, hb.out⟩

set_option maxRecDepth 20000 in
set_option maxHeartbeats 3200000 in
theorem l9Winding_any (w : World) (A A' : Option Addr) (n c c' : Nat) (t f : List Int) (h : Rd w A n t) (h' : Rd w A' n f) (k : Nat) (B : Option Addr) (m d : Nat) (vss : List (List Int)) (hs : RdSS w B m vss) (hv : Volt t f k vss) (F : Option Addr) (l cl : Nat) (face : List Int) (hf : Rd w F l face) (hl : l ≤ 1048576) (hd : ∀ d ∈ face, 0 ≤ d ∧ d.toNat < f.length) :
    Calls Try.prog 51 #[.agg #[.slice A n c, .slice A' n c'], .int .i64 k, .slice B m d, .slice F l cl] w fun e w' => ∃ v, e = .returned v ∧ Own w' w.heap.size v (wndL f k vss face) ∧ Below w.heap.size w w' := by
  obtain ⟨W0, hW0, hbx, hb0, hz⟩ := Box.local_ w 30 (.slice A n c) (.slice A' n c')
  have hk1 := hv.one
  have hk6 := hv.six
  have HFL := Lib.hid hf.1
  have HDV : Hid (∀ j, j < n → Vld (dV f vss j) ∧ (dV f vss j).length = k) := fun j hj => hv.dV (by rw [h'.1]; exact hj)
  have HW : Hid (∀ s, Vld (wndL f k vss (face.take s)) ∧ (wndL f k vss (face.take s)).length = k) := fun s => wndL_vld hv (fun d h' => hd d (List.mem_of_mem_take h'))
  have HDX : Hid (∀ s, s < l → ∃ x : Nat, gi face s = (x : Int) ∧ x < n) := fun s hs => by
    have hs' : s < face.length := by rw [hf.1]; exact hs
    obtain ⟨h1, h2⟩ := hd _ (List.getElem_mem hs')
    refine ⟨(face[s]'hs').toNat, ?_, by rw [← h'.1]; exact h2⟩
    rw [gi_eq hs']; omega
  have HX := Lib.hid hbx; have HB0 := Lib.hid hb0; have H := Lib.hid h; have H' := Lib.hid h'; have HS := Lib.hid hs; have HVO := Lib.hid hv; have HF := Lib.hid hf
  clear hbx hb0 h h' hs hv hf hd hz
  go_enter Try.func51, Try.ntmps51
  go_wp2_with (go_at_call 70; refine (l1Same_any k W0 (by omega)).mono ?_; rintro e w1 ⟨v, rfl, o, bl⟩; have HO1 := Lib.hid (o.mono HB0.out.size); have HX1 := Lib.hid (HX.out.below bl); have HB1 := Lib.hid (HB0.out.trans (bl.mono HB0.out.size)); have HBB := Lib.hid bl; clear o bl)
  have HSZ : Hid (w.heap.size < w1.heap.size) := HX1.out.lt
  go_loopw [9, 10] (fun pv iv wr => ∃ s : Nat, s ≤ l ∧ iv = .int .i64 s ∧ Hid (Own wr w.heap.size pv (wndL f k vss (face.take s))) ∧ Hid (Box wr w.heap.size 30 (.slice A n c) (.slice A' n c')) ∧ Hid (Below w.heap.size w wr)) (fun _ iv _ => l - (intOf iv).toNat)
  case atStart => exact ⟨0, Nat.zero_le _, rfl, HO1, HX1, HB1⟩
  case round =>
    clear HO1 HB1 HX1
    obtain ⟨s, hs, rfl, ho, hx1, hb⟩ := hrel
    by_cases hlt : s < l
    · obtain ⟨x, hx, hxn⟩ := HDX.out s hlt
      obtain ⟨adF, rfl, hcF⟩ := (HF.out.below hb.out).at_ hlt
      rw [hx] at hcF
      obtain ⟨a, ha⟩ : ∃ a, dV f vss x = a := ⟨_, rfl⟩
      have hav := HDV.out x hxn
      rw [ha] at hav
      have c0 := hx1.out.cell0
      have c1 := hx1.out.cell1
      obtain ⟨Aw, cw, rfl, -, -⟩ := ho.out.form' (HW.out s).2
      have HST := Lib.hid (wndL_one (f := f) (k := k) (vss := vss) (by rw [HFL.out]; exact hlt) hx); have HA := Lib.hid ha; have HAV := Lib.hid hav
      clear hx hav ha
      go_wp2_with fail
      go_region_held3 (fun w' => w'.cell? ⟨w.heap.size, 0, none⟩ = some (.slice A n c) ∧ w'.cell? ⟨w.heap.size, 1, none⟩ = some (.slice A' n c') ∧ w'.cell? (adF.add s) = some (.int .i64 x)) (first
          | exact ⟨c0, c1, hcF⟩ | exact ⟨g0, g1, g2⟩ | exact ⟨j0, j1, j2⟩) (first
        | (go_at_call 84; (refine (l9Volt_at w _ (below_drewN hb.out _) A A' n c c' t f (H.out.below (below_drewN hb.out _)) (H'.out.below (below_drewN hb.out _)) k B m d vss HS.out HVO.out x hxn HA.out).mono ?_; rintro e w5 ⟨Av, cv, rfl, hvo, bl⟩; have BL5 : Hid (Below wr.heap.size wr w5) := Below.of_drewN bl; have HRV : Hid (Rd w5 Av k a) := (by rcases hvo with h | h; exact h.below (hb.out.trans (BL5.out.mono hb.out.size)); exact h.1); have g0 := (hx1.out.below BL5.out).cell0; have g1 := (hx1.out.below BL5.out).cell1; have g2 := (BL5.out.cell (World.block_lt_of_cell? wr _ hcF)).trans hcF; clear hvo bl))
        | (go_at_call 83; (refine (l1Mul_any Aw Av k k cw cv (wndL f k vss (face.take s)) a _ ((ho.out.below BL5.out).rd (HW.out s).2) HRV.out (by omega) (by omega) ((HW.out s).1.into (HW.out s).2)).mono ?_; rintro e w6 ⟨v6, rfl, o, bl⟩; have BL6 : Hid (Below wr.heap.size wr w6) := BL5.out.trans (bl.mono BL5.out.size); have HO6 : Hid (Own w6 wr.heap.size v6 (mulL (wndL f k vss (face.take s)) a)) := o.mono BL5.out.size; have j0 := (hx1.out.below BL6.out).cell0; have j1 := (hx1.out.below BL6.out).cell1; have j2 := (BL6.out.cell (World.block_lt_of_cell? wr _ hcF)).trans hcF; clear o bl)))
      go_wp2_with fail
      go_roundw
      case rel => exact ⟨s + 1, by omega, by go_num, by rw [Hid, HST.out, HA.out]; exact HO6.out.mono hb.out.size, hx1.out.below BL6.out, hb.out.trans (BL6.out.mono hb.out.size)⟩
      case measure => simp [intOf]; omega
    · have hsl : s = l := by omega
      rw [hsl, List.take_of_length_le (by rw [HFL.out]; exact Nat.le_refl _)] at ho
      clear hsl
      go_wp2_with fail
      go_ret
      exact ⟨_, rfl, ho.out, hb.out⟩

end Go.Proofs.Ytlnegaenjcekcaa

namespace Go.Proofs.Ytlnegaenjcekcaa
open Go.RowKit
set_option linter.unusedVariables false

/-- The branches of the first i faces. -/
def brN (f : List Int) (k : Nat) (vss xs : List (List Int)) : Nat → Int
  | 0 => 0
  | i + 1 => brN f k vss xs i + (k : Int) - ((cyclesL (wndL f k vss (xs.getD i []))).length : Int)
noncomputable def brR (t f : List Int) (k : Int) (vss : List (List Int)) : Int := if vvB t f k vss = true then brN f k.toNat vss (cyclesL (mulL f t)) (cyclesL (mulL f t)).length else -1

theorem face_in {t f : List Int} {k : Nat} {vss : List (List Int)} (hv : Volt t f k vss) {c : List Int} (hc : c ∈ cyclesL (mulL f t)) : ∀ d ∈ c, 0 ≤ d ∧ d.toNat < f.length := by
  have hq : Vld (mulL f t) := hv.map.flip.mulL hv.map.turn hv.map.len.symm
  have hcy := (cyclesL_spec hq).1 c hc
  intro d hd
  obtain ⟨j, hj, rfl⟩ := List.getElem_of_mem hd
  have h1 := hcy.nat j hj
  have h2 := hcy.lt j hj
  rw [gi_eq hj] at h1
  rw [mulL_len] at h2
  exact ⟨by omega, by omega⟩
theorem brN_le {t f : List Int} {k : Nat} {vss : List (List Int)} (hv : Volt t f k vss) : ∀ i, i ≤ (cyclesL (mulL f t)).length → 0 ≤ brN f k vss (cyclesL (mulL f t)) i ∧ brN f k vss (cyclesL (mulL f t)) i ≤ 6 * (i : Int)
  | 0, _ => by simp [brN]
  | i + 1, h => by
    obtain ⟨h1, h2⟩ := brN_le hv i (by omega)
    have hm : (cyclesL (mulL f t)).getD i [] ∈ cyclesL (mulL f t) := by
      rw [List.getD_eq_getElem?_getD, List.getElem?_eq_getElem (by omega), Option.getD_some]
      exact List.getElem_mem (by omega)
    have h3 := cyclesL_len (p := wndL f k vss ((cyclesL (mulL f t)).getD i []))
    rw [(wndL_vld hv (face_in hv hm)).2] at h3
    have h6 := hv.six
    rw [brN]
    omega

set_option maxRecDepth 20000 in
set_option maxHeartbeats 6400000 in
theorem spec_brR (w : World) (A A' : Option Addr) (n n' c c' : Nat) (t f : List Int) (h : Rd w A n t) (h' : Rd w A' n' f) (hn : n ≤ 1048576) (hn' : n' ≤ 1048576) (k : Int) (B : Option Addr) (m d : Nat) (vss : List (List Int)) (hs : RdSS w B m vss) (hm : m ≤ 1048576) (htot : total vss ≤ 1048576) {r : Int} (hR : brR t f k vss = r) :
    Calls Try.prog 22 #[.agg #[.slice A n c, .slice A' n' c'], .int .i64 k, .slice B m d] w fun e w' => e = .returned (.int .i64 r) ∧ Below w.heap.size w w' := by
  obtain ⟨W0, hW0, hx, hb, hz⟩ := Box.local_ w 30 (.slice A n c) (.slice A' n' c')
  have c0 := hx.cell0
  have c1 := hx.cell1
  have HX := Lib.hid hx; have HB := Lib.hid hb; have H := Lib.hid h; have H' := Lib.hid h'; have HR := Lib.hid hR; have HS := Lib.hid hs
  clear hx hb h h' hR hs hz
  cases hv : vvB t f k vss with
  | false =>
    have HF : Hid (-1 = r) := by rw [Hid, ← HR.out, brR, if_neg (by rw [hv]; decide)]
    have HV := Lib.hid hv; clear hv
    go_enter Try.func22, Try.ntmps22
    go_wp2_with (go_at_call 36; refine (spec_vvB _ A A' n n' c c' t f (H.out.below HB.out) (H'.out.below HB.out) hn hn' k B m d vss (HS.out.below HB.out) hm htot HV.out).mono ?_; rintro e w1 ⟨rfl, b⟩; have HB1 := Lib.hid (HB.out.trans (b.mono HB.out.size)); clear b c0 c1)
    go_ret
    exact ⟨ret_int HF.out, HB1.out⟩
  | true =>
    obtain ⟨kn, rfl, hvt⟩ := Volt_of hv
    obtain ⟨xs, hxs⟩ : ∃ xs, cyclesL (mulL f t) = xs := ⟨_, rfl⟩
    obtain ⟨l, hl⟩ : ∃ l, xs.length = l := ⟨_, rfl⟩
    have HF : Hid (brN f kn vss xs l = r) := by rw [Hid, ← HR.out, brR, if_pos hv, Int.toNat_natCast, hxs, hl]
    have hn2 : n' = n := by rw [← H.out.1, ← H'.out.1]; exact hvt.map.len.symm
    subst hn2
    have hk6 := hvt.six
    have hn12 : n' ≤ 12 := by rw [← H'.out.1]; exact hvt.map.flip.2.1
    have HQ : Hid (Vld (mulL f t)) := hvt.map.flip.mulL hvt.map.turn hvt.map.len.symm
    have HQL : Hid ((mulL f t).length = n') := by rw [Hid, mulL_len]; exact H'.out.1
    have hl12 : l ≤ 12 := by have := cyclesL_len (p := mulL f t); rw [hxs, hl, HQL.out] at this; omega
    have HBD : Hid (∀ i, i ≤ l → 0 ≤ brN f kn vss xs i ∧ brN f kn vss xs i ≤ 6 * (i : Int)) := fun i hi => by
      have := brN_le hvt i (by rw [hxs, hl]; exact hi); rw [hxs] at this; exact this
    have HIN : Hid (∀ i, i < l → ∀ d ∈ xs.getD i [], 0 ≤ d ∧ d.toNat < f.length) := fun i hi => face_in hvt (by
      rw [hxs, List.getD_eq_getElem?_getD, List.getElem?_eq_getElem (by omega), Option.getD_some]
      exact List.getElem_mem (by omega))
    have HSH : Hid (∀ i, i < l → (xs.getD i []).length ≤ 13) := fun i hi => cyclesL_short (p := mulL f t) (by
      rw [hxs, List.getD_eq_getElem?_getD, List.getElem?_eq_getElem (by omega), Option.getD_some]
      exact List.getElem_mem (by omega))
    have HV := Lib.hid hv; have HVT := Lib.hid hvt; have HXS := Lib.hid hxs; have HL := Lib.hid hl
    clear hv hvt hxs hl
    go_enter Try.func22, Try.ntmps22
    go_wp2_with (first
      | (go_at_call 36; refine (spec_vvB _ A A' n' n' c c' t f (H.out.below HB.out) (H'.out.below HB.out) hn hn' (kn : Int) B m d vss (HS.out.below HB.out) hm htot HV.out).mono ?_; rintro e w1 ⟨rfl, b⟩; have HB1 := Lib.hid (HB.out.trans (b.mono HB.out.size)); have HX1 := Lib.hid (HX.out.below b); have d0 := HX1.out.cell0; have d1 := HX1.out.cell1; clear b c0 c1)
      | (go_at_call 49; refine (l2Faces_any A A' n' c c' t f w1 (H.out.below HB1.out) (H'.out.below HB1.out) HVT.out.map.flip).mono ?_; rintro e w2 ⟨v, rfl, o, b⟩; obtain ⟨A2, c2, rfl, -, -⟩ := o.form' HQL.out; have HB2 := Lib.hid (HB1.out.trans (b.mono HB1.out.size)); have HX2 := Lib.hid (HX1.out.below b); have HRF := Lib.hid (o.rd HQL.out); clear b o d0 d1)
      | (go_at_call 48; refine (l1Cycles_any A2 n' c2 _ w2 HRF.out HQ.out).mono ?_; rintro e w3 ⟨v, rfl, o, b⟩; rw [HXS.out] at o; obtain ⟨A3, c3, rfl, -⟩ := o.form HL.out; have HB3 := Lib.hid (HB2.out.trans (b.mono HB2.out.size)); have HX3 := Lib.hid (HX2.out.below b); have HRS := Lib.hid (o.rd HL.out); clear b o))
    go_loopw [7, 9] (fun sv iv wr => ∃ i : Nat, i ≤ l ∧ iv = .int .i64 i ∧ sv = .int .i64 (brN f kn vss xs i) ∧ Hid (Below w3.heap.size w3 wr)) (fun _ iv _ => l - (intOf iv).toNat)
    case atStart => exact ⟨0, Nat.zero_le _, rfl, rfl, Below.refl _ _⟩
    case round =>
      obtain ⟨i, hi, rfl, rfl, hb⟩ := hrel
      by_cases hlt : i < l
      · obtain ⟨z, hz⟩ : ∃ z, brN f kn vss xs i = z := ⟨_, rfl⟩
        have hbd := HBD.out i (by omega)
        rw [hz] at hbd
        obtain ⟨z1, hz1⟩ : ∃ z1, z + (kn : Int) = z1 := ⟨_, rfl⟩
        obtain ⟨p, hp⟩ : ∃ p, wndL f kn vss (xs.getD i []) = p := ⟨_, rfl⟩
        obtain ⟨C, hC⟩ : ∃ C, (cyclesL p).length = C := ⟨_, rfl⟩
        have hpv := wndL_vld HVT.out (HIN.out i hlt)
        rw [hp] at hpv
        have hC6 : C ≤ 6 := by have := cyclesL_len (p := p); rw [hC, hpv.2] at this; omega
        obtain ⟨z2, hz2⟩ : ∃ z2, z1 - (C : Int) = z2 := ⟨_, rfl⟩
        have HZ2 : Hid (brN f kn vss xs (i + 1) = z2) := by rw [Hid, brN, hz, hp, hC, hz1, hz2]
        have g1 : IntKind.i64.wrap z1 = z1 := IntWalk.i64_in _ (by omega)
        have g1' : IntKind.i64.wrap (z + (kn : Int)) = z1 := by rw [hz1]; exact g1
        have g2 : IntKind.i64.wrap z2 = z2 := IntWalk.i64_in _ (by omega)
        have g2' : IntKind.i64.wrap (z1 - (C : Int)) = z2 := by rw [hz2]; exact g2
        obtain ⟨adB, Fj, cj, lj, hAB, hcB, hrF, -⟩ := (HRS.out.below hb.out).at_ hlt
        subst hAB
        have hlj : lj ≤ 1048576 := by have := HSH.out i hlt; rw [hrF.1] at this; omega
        have hx3 := HX3.out.below hb.out
        have d0 := hx3.cell0
        have d1 := hx3.cell1
        have HX4 := Lib.hid hx3; have HRJ := Lib.hid hrF; have HP := Lib.hid hp; have HPV := Lib.hid hpv; have HCC := Lib.hid hC; have HB4 := Lib.hid (HB3.out.trans (hb.out.mono HB3.out.size))
        rw [hz]
        clear hz hp hC hpv hrF hx3
        go_wp2_with fail
        go_region_held3 (fun w' => w'.cell? ⟨w.heap.size, 0, none⟩ = some (.slice A n' c) ∧ w'.cell? ⟨w.heap.size, 1, none⟩ = some (.slice A' n' c') ∧ w'.cell? (adB.add i) = some (.slice Fj lj cj)) (first
            | exact ⟨d0, d1, hcB⟩ | exact ⟨q0, q1, q2⟩ | exact ⟨j0, j1, j2⟩) (first
          | (go_at_call 51; (refine (l9Winding_any _ A A' n' c c' t f ((H.out.below HB4.out).drewN _) ((H'.out.below HB4.out).drewN _) kn B m d vss ((HS.out.below HB4.out).drewN _) HVT.out Fj lj cj _ (HRJ.out.drewN _) hlj (HIN.out i hlt)).mono ?_; rintro e w5 ⟨v, rfl, o, bl⟩; rw [HP.out] at o; obtain ⟨Av, cv, rfl, -, -⟩ := o.form' HPV.out.2; have BL5 : Hid (Below wr.heap.size wr w5) := Below.of_drewN bl; have HRV := Lib.hid (o.rd HPV.out.2); have q0 := (HX4.out.below BL5.out).cell0; have q1 := (HX4.out.below BL5.out).cell1; have q2 := (BL5.out.cell (World.block_lt_of_cell? wr _ hcB)).trans hcB; clear o bl))
          | (go_at_call 48; (refine (l1Cycles_any Av kn cv p _ HRV.out HPV.out.1).mono ?_; rintro e w6 ⟨v, rfl, o, bl⟩; obtain ⟨Aq, cq, rfl, -⟩ := o.form HCC.out; have BL6 : Hid (Below wr.heap.size wr w6) := BL5.out.trans (bl.mono BL5.out.size); have j0 := (HX4.out.below BL6.out).cell0; have j1 := (HX4.out.below BL6.out).cell1; have j2 := (BL6.out.cell (World.block_lt_of_cell? wr _ hcB)).trans hcB; clear o bl)))
        go_wp2_with fail
        go_roundw
        case rel => exact ⟨i + 1, by omega, by go_num, by rw [HZ2.out], hb.out.trans (BL6.out.mono hb.out.size)⟩
        case measure => simp [intOf]; omega
      · have hil : i = l := by omega
        rw [hil, HF.out]
        have HB4 := Lib.hid (HB3.out.trans (hb.out.mono HB3.out.size))
        clear hil
        go_wp2_with fail
        go_ret
        exact ⟨rfl, HB4.out⟩

end Go.Proofs.Ytlnegaenjcekcaa

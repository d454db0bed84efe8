/-
  CoverWhole, CoverMap: the model's.
-/
import Derived.Test.YthcdhkelpepeeaaCovX
import Derived.Test.YthcdhkelpepeeaaCovW
namespace Go.Proofs.Ythcdhkelpepeeaa
open Go.RowKit
set_option linter.unusedVariables false

set_option maxRecDepth 20000 in
set_option maxHeartbeats 3200000 in
theorem spec_cwB (w : World) (A A' : Option Addr) (n n' c c' : Nat) (t f : List Int) (h : Rd w A n t) (h' : Rd w A' n' f) (hn : n ≤ 1048576) (hn' : n' ≤ 1048576) (k : Int) (B : Option Addr) (m d : Nat) (vss : List (List Int)) (hs : RdSS w B m vss) (hm : m ≤ 1048576) (htot : total vss ≤ 1048576) {r : Bool} (hR : cwB t f k vss = r) :
    Calls Try.prog 22 #[.agg #[.slice A n c, .slice A' n' c'], .int .i64 k, .slice B m d] w fun e w' => e = .returned (.bool r) ∧ Below w.heap.size w w' := by
  obtain ⟨W0, hW0, hx, hb, -⟩ := Box.local_ w 29 (.slice A n c) (.slice A' n' c')
  have c0 := hx.cell0
  have c1 := hx.cell1
  have HX := Lib.hid hx; have HB := Lib.hid hb; have H := Lib.hid h; have H' := Lib.hid h'; have HR := Lib.hid hR; have HS := Lib.hid hs
  clear hx hb h h' hR hs
  cases hv : vvB t f k vss with
  | false =>
    have HF : Hid (false = r) := by rw [Hid, ← HR.out, cwB_off hv]
    have HV := Lib.hid hv; clear hv
    go_enter Try.func22, Try.ntmps22
    go_wp2_with (go_at_call 16; refine (spec_vvB _ A A' n n' c c' t f (H.out.below HB.out) (H'.out.below HB.out) hn hn' k B m d vss (HS.out.below HB.out) hm htot HV.out).mono ?_; rintro e w1 ⟨rfl, b⟩; have HB1 := Lib.hid (HB.out.trans (b.mono HB.out.size)); clear b c0 c1)
    go_ret
    exact ⟨ret_bool HF.out, HB1.out⟩
  | true =>
    obtain ⟨kn, rfl, hvt⟩ := Volt_of hv
    obtain ⟨q, hq⟩ : ∃ q, mapV (covT t kn) (covF f vss kn) = q := ⟨_, rfl⟩
    have HF : Hid (q = r) := by rw [Hid, ← HR.out, cwB, hv, Bool.true_and, Int.toNat_natCast, hq]
    have hn2 : n' = n := by rw [← H.out.1, ← H'.out.1]; exact hvt.map.len.symm
    subst hn2
    obtain ⟨l1, hl1⟩ : ∃ l, (covT t kn).length = l := ⟨_, rfl⟩
    obtain ⟨l2, hl2⟩ : ∃ l, (covF f vss kn).length = l := ⟨_, rfl⟩
    have hl1' : l1 ≤ 1048576 := by have := hvt.few; rw [← hl1, covT_len, Nat.mul_comm]; omega
    have hl2' : l2 ≤ 1048576 := by have := hvt.few; have := hvt.map.len; rw [← hl2, covF_len, ← this, Nat.mul_comm]; omega
    have HV := Lib.hid hv; have HVT := Lib.hid hvt; have HQ := Lib.hid hq; have HL1 := Lib.hid hl1; have HL2 := Lib.hid hl2
    clear hv hvt hq hl1 hl2
    go_enter Try.func22, Try.ntmps22
    go_wp2_with (first
      | (go_at_call 16; refine (spec_vvB _ A A' n' n' c c' t f (H.out.below HB.out) (H'.out.below HB.out) hn hn' (kn : Int) B m d vss (HS.out.below HB.out) hm htot HV.out).mono ?_; rintro e w1 ⟨rfl, b⟩; have HB1 := Lib.hid (HB.out.trans (b.mono HB.out.size)); have d0 := (HX.out.below b).cell0; have d1 := (HX.out.below b).cell1; clear b c0 c1)
      | (go_at_call 55; refine (l9Cover_any w1 A A' n' c c' t f (H.out.below HB1.out) (H'.out.below HB1.out) kn B m d vss (HS.out.below HB1.out) HVT.out).mono ?_; rintro e w2 ⟨u, u', rfl, o, b⟩; obtain ⟨A5, c5, rfl, -, -⟩ := o.turn.form' HL1.out; obtain ⟨A6, c6, rfl, -, -⟩ := o.flip.form' HL2.out; have HB2 := Lib.hid (HB1.out.trans (b.mono HB1.out.size)); have HO := Lib.hid o; clear b o d0 d1)
      | (go_at_call 51; refine (spec_mapV w2 A5 A6 l1 l2 c5 c6 _ _ (HO.out.turn.rd HL1.out) (HO.out.flip.rd HL2.out) hl1' hl2' HQ.out).mono ?_; rintro e w3 ⟨rfl, b⟩; have HB3 := Lib.hid (HB2.out.trans (b.mono HB2.out.size)); clear b))
    go_ret
    exact ⟨ret_bool HF.out, HB3.out⟩

set_option maxRecDepth 20000 in
set_option maxHeartbeats 3200000 in
theorem spec_cmR (w : World) (A A' : Option Addr) (n n' c c' : Nat) (t f : List Int) (h : Rd w A n t) (h' : Rd w A' n' f) (hn : n ≤ 1048576) (hn' : n' ≤ 1048576) (k : Int) (B : Option Addr) (m d : Nat) (vss : List (List Int)) (hs : RdSS w B m vss) (hm : m ≤ 1048576) (htot : total vss ≤ 1048576) {ok : Bool} {yt yf : List Int} (hR : cmR t f k vss = (ok, yt, yf)) :
    Calls Try.prog 24 #[.agg #[.slice A n c, .slice A' n' c'], .int .i64 k, .slice B m d] w fun e w' => ∃ u u', e = .returned (.tuple #[.agg #[u, u'], .bool ok]) ∧ OwnM w' w.heap.size u u' yt yf ∧ Below w.heap.size w w' := by
  obtain ⟨W0, hW0, hx, hy, hb, hz⟩ := two_boxes w 29 29 (.slice A n c) (.slice A' n' c') (.slice none 0 0) (.slice none 0 0)
  have c0 := hx.cell0
  have c1 := hx.cell1
  obtain ⟨q, hq⟩ : ∃ q, cwB t f k vss = q := ⟨_, rfl⟩
  have HX := Lib.hid hx; have HY := Lib.hid hy; have HB := Lib.hid hb; have HZ := Lib.hid hz; have H := Lib.hid h; have H' := Lib.hid h'; have HR := Lib.hid hR; have HS := Lib.hid hs; have HQ := Lib.hid hq; clear hx hy hb hz h h' hR hs
  cases q with
  | false =>
    obtain ⟨rfl, rfl, rfl⟩ : ok = false ∧ yt = [] ∧ yf = [] := by have := HR.out; rw [cmR_off hq] at this; simpa [eq_comm] using this
    clear hq
    go_enter Try.func24, Try.ntmps24
    go_wp2_with fail
    refine (spec_cwB W0 A A' n n' c c' t f (H.out.below HB.out) (H'.out.below HB.out) hn hn' k B m d vss (HS.out.below HB.out) hm htot HQ.out).mono ?_
    rintro e w1 ⟨rfl, bl⟩
    have hy1 := HY.out.below bl
    obtain ⟨hq1, hq2⟩ := hy1.store2 (.slice none 0 0) (.slice none 0 0)
    have e0 := hy1.cell0
    have e1 := hy1.cell1
    have e2 := hy1.frozen 0
    have e3 := hy1.frozen 1
    have k0 := hq1.cell0
    have k1 := hq1.cell1
    have HBW := Lib.hid ((HB.out.trans (bl.mono HB.out.size)).grown hq2 (by have := HB.out.size; have := HZ.out; have := bl.size; omega) (fun k hk => by cases hk; omega))
    clear hq1 hq2 bl hy1 c0 c1
    go_wp2_with fail
    exact bodyPost_ret (v := .tuple #[.agg #[.slice none 0 0, .slice none 0 0], .bool false]) (by simp [results, Try.results24, go_sem, k0, k1]) rfl ⟨_, _, rfl, OwnM.nil_ _ _, HBW.out⟩
  | true =>
    obtain ⟨hv, hmv⟩ := (Bool.and_eq_true _ _).mp (show (vvB t f k vss && mapV (covT t k.toNat) (covF f vss k.toNat)) = true from hq)
    obtain ⟨kn, rfl, hvt⟩ := Volt_of hv
    obtain ⟨rfl, rfl, rfl⟩ : ok = true ∧ yt = covT t kn ∧ yf = covF f vss kn := by have := HR.out; rw [cmR, if_pos hq, Int.toNat_natCast] at this; simpa [eq_comm] using this
    have hn2 : n' = n := by rw [← H.out.1, ← H'.out.1]; exact hvt.map.len.symm
    subst hn2
    obtain ⟨l1, hl1⟩ : ∃ l, (covT t kn).length = l := ⟨_, rfl⟩
    obtain ⟨l2, hl2⟩ : ∃ l, (covF f vss kn).length = l := ⟨_, rfl⟩
    have HVT := Lib.hid hvt; have HL1 := Lib.hid hl1; have HL2 := Lib.hid hl2
    clear hq hv hmv hvt hl1 hl2
    go_enter Try.func24, Try.ntmps24
    go_wp2_with fail
    refine (spec_cwB W0 A A' n' n' c c' t f (H.out.below HB.out) (H'.out.below HB.out) hn hn' (kn : Int) B m d vss (HS.out.below HB.out) hm htot HQ.out).mono ?_
    rintro e w1 ⟨rfl, bl⟩
    have HB1 := Lib.hid (HB.out.trans (bl.mono HB.out.size)); have HY1 := Lib.hid (HY.out.below bl); have HZ1 := Lib.hid bl.size
    have d0 := (HX.out.below bl).cell0
    have d1 := (HX.out.below bl).cell1
    clear bl c0 c1
    go_wp2_with fail
    refine (l9Cover_any w1 A A' n' c c' t f (H.out.below HB1.out) (H'.out.below HB1.out) kn B m d vss (HS.out.below HB1.out) HVT.out).mono ?_
    rintro e w2 ⟨u, u', rfl, o, bl⟩
    obtain ⟨A5, c5, rfl, -, -⟩ := o.turn.form' HL1.out
    obtain ⟨A6, c6, rfl, -, -⟩ := o.flip.form' HL2.out
    have hy1 := HY1.out.below bl
    have e0 := hy1.cell0
    have e1 := hy1.cell1
    have e2 := hy1.frozen 0
    have e3 := hy1.frozen 1
    obtain ⟨hq1, hq2⟩ := hy1.store2 (.slice A5 l1 c5) (.slice A6 l2 c6)
    have j0 := hq1.cell0
    have j1 := hq1.cell1
    have s0 := HZ.out
    have s1 := HZ1.out
    have HD := Lib.hid (pair_done o.turn o.flip o.apart (HB1.out.trans (bl.mono HB1.out.size)) hq2 (by omega) (by omega))
    clear hq1 hq2 hy1 o bl s0 s1 d0 d1
    go_wp2_with fail
    exact bodyPost_ret (v := .tuple #[.agg #[.slice A5 l1 c5, .slice A6 l2 c6], .bool true]) (by simp [results, Try.results24, go_sem, j0, j1]) rfl ⟨_, _, rfl, HD.out.1, HD.out.2⟩

theorem cmR_len {t f : List Int} {k : Int} {vss : List (List Int)} {ok : Bool} {yt yf : List Int} (h : cmR t f k vss = (ok, yt, yf)) : yt.length ≤ 12 ∧ yf.length ≤ 12 := by
  rw [cmR] at h
  split at h
  · rename_i hq
    obtain ⟨hv, -⟩ := (Bool.and_eq_true _ _).mp (show (vvB t f k vss && mapV (covT t k.toNat) (covF f vss k.toNat)) = true from hq)
    obtain ⟨kn, rfl, hvt⟩ := Volt_of hv
    have h1 := hvt.few
    have h2 := hvt.map.len
    rw [Int.toNat_natCast] at h
    injection h with _ h
    injection h with ht hf
    rw [← ht, ← hf, covT_len, covF_len, ← h2, Nat.mul_comm]
    exact ⟨h1, h1⟩
  · injection h with _ h
    injection h with ht hf
    rw [← ht, ← hf]
    exact ⟨by simp, by simp⟩

end Go.Proofs.Ythcdhkelpepeeaa

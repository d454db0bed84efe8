/-
  CoverMap, CoverWhole: the program's.
-/
import Derived.Test.YthcdhkelpepeeaaCovC
import Derived.Test.YthcdhkelpepeeaaCovV
namespace Go.Proofs.Ythcdhkelpepeeaa
open Go.RowKit
set_option linter.unusedVariables false

theorem cmR_off {t f : List Int} {k : Int} {vss : List (List Int)} (h : cwB t f k vss = false) : cmR t f k vss = (false, [], []) := by rw [cmR, if_neg (by rw [h]; decide)]
theorem cwB_off {t f : List Int} {k : Int} {vss : List (List Int)} (h : vvB t f k vss = false) : cwB t f k vss = false := by rw [cwB, h, Bool.false_and]
theorem pair_done' {w w2 w3 : World} {lo : Nat} {u u' : Value} {t f : List Int} {b : Nat} (o : OwnM w2 lo u u' t f) (hl : w.heap.size ≤ lo) (hg : w2.grownBy w3 (some b)) (hbl : b < lo) (hwb : w.heap.size ≤ b) (hB : Below w.heap.size w w2) (hbz : b < w2.heap.size) : OwnM w3 w.heap.size u u' t f ∧ Below w.heap.size w w3 := by
  refine ⟨OwnM.mono ⟨o.turn.grown hg ?_, o.flip.grown hg ?_, o.apart⟩ hl, hB.grown hg (by omega) (fun q hq => by cases hq; omega)⟩
  · refine .inr fun e => ?_
    have := (o.turn.lt b (by rw [e])).1; omega
  · refine .inr fun e => ?_
    have := (o.flip.lt b (by rw [e])).1; omega

@[go_sem] theorem asWhole (v : Value) (W : World) : (Instr.typeAssert (.iface 64 v) 61 64 true).run Try.prog W = .ok (.tuple #[v, .bool true]) W := by kernel_rfl
@[go_sem] theorem asApart (v : Value) (W : World) : (Instr.typeAssert (.iface 97 v) 61 64 true).run Try.prog W = .ok (.tuple #[.agg #[.slice none 0 0, .slice none 0 0, .pointer none], .bool false]) W := by kernel_rfl

set_option maxRecDepth 20000 in
set_option maxHeartbeats 6400000 in
theorem impl_cmR (w : World) (A A' : Option Addr) (n n' c c' : Nat) (t f : List Int) (h : Rd w A n t) (h' : Rd w A' n' f) (hn : n ≤ 1048576) (hn' : n' ≤ 1048576) (k : Int) (B : Option Addr) (m d : Nat) (vss : List (List Int)) (hs : RdSS w B m vss) (hm : m ≤ 1048576) (htot : total vss ≤ 1048576) {ok : Bool} {yt yf : List Int} (hR : cmR t f k vss = (ok, yt, yf)) :
    Calls Try.prog 25 #[.agg #[.slice A n c, .slice A' n' c'], .int .i64 k, .slice B m d] w fun e w' => ∃ u u', e = .returned (.tuple #[.agg #[u, u'], .bool ok]) ∧ OwnM w' w.heap.size u u' yt yf ∧ Below w.heap.size w w' := by
  obtain ⟨W0, hW0, hx, hy, hb, hz⟩ := two_boxes w 29 29 (.slice A n c) (.slice A' n' c') (.slice none 0 0) (.slice none 0 0)
  have c0 := hx.cell0
  have c1 := hx.cell1
  have HY := Lib.hid hy; have HB := Lib.hid hb; have HZ := Lib.hid hz; have H := Lib.hid h; have H' := Lib.hid h'; have HR := Lib.hid hR; have HS := Lib.hid hs; clear hx hy hb hz h h' hR hs
  have HNO : Hid (∀ w1 : World, Below W0.heap.size W0 w1 → OwnM ((w1.setCell ⟨w.heap.size + 1, 0, none⟩ (.slice none 0 0)).setCell ⟨w.heap.size + 1, 1, none⟩ (.slice none 0 0)) w.heap.size (.slice none 0 0) (.slice none 0 0) [] [] ∧ Below w.heap.size w ((w1.setCell ⟨w.heap.size + 1, 0, none⟩ (.slice none 0 0)).setCell ⟨w.heap.size + 1, 1, none⟩ (.slice none 0 0)) ∧ Box ((w1.setCell ⟨w.heap.size + 1, 0, none⟩ (.slice none 0 0)).setCell ⟨w.heap.size + 1, 1, none⟩ (.slice none 0 0)) (w.heap.size + 1) 29 (.slice none 0 0) (.slice none 0 0)) := by
    intro w1 b
    obtain ⟨hq1, hq2⟩ := (HY.out.below b).store2 (.slice none 0 0) (.slice none 0 0)
    exact ⟨OwnM.nil_ _ _, (HB.out.trans (b.mono HB.out.size)).grown hq2 (by have := HB.out.size; have := HZ.out; have := b.size; omega) (fun k hk => by cases hk; omega), hq1⟩
  cases hv : vvB t f k vss with
  | false =>
    obtain ⟨rfl, rfl, rfl⟩ : ok = false ∧ yt = [] ∧ yf = [] := by have := HR.out; rw [cmR_off (cwB_off hv)] at this; simpa [eq_comm] using this
    have HV := Lib.hid hv; clear hv
    go_enter Try.func25, Try.ntmps25
    go_wp2_with fail
    refine (voltageOf_any W0 A A' n n' c c' t f (H.out.below HB.out) (H'.out.below HB.out) hn hn' k B m d vss (HS.out.below HB.out) hm htot HV.out).mono ?_
    rintro e w1 ⟨p, rfl, bl, -⟩
    obtain ⟨ho, hbw, hbx⟩ := HNO.out w1 bl
    have hy1 := HY.out.below bl
    have e0 := hy1.cell0
    have e1 := hy1.cell1
    have e2 := hy1.frozen 0
    have e3 := hy1.frozen 1
    have k0 := hbx.cell0
    have k1 := hbx.cell1
    have HO := Lib.hid ho; have HBW := Lib.hid hbw
    clear ho hbw hbx bl hy1 c0 c1
    go_wp2_with fail
    exact bodyPost_ret (v := .tuple #[.agg #[.slice none 0 0, .slice none 0 0], .bool false]) (by simp [results, Try.results25, go_sem, k0, k1]) rfl ⟨_, _, rfl, HO.out, HBW.out⟩
  | true =>
    obtain ⟨kn, rfl, hvt⟩ := Volt_of hv
    obtain ⟨q, hq⟩ : ∃ q, mapV (covT t kn) (covF f vss kn) = q := ⟨_, rfl⟩
    have HV := Lib.hid hv; have HVT := Lib.hid hvt; have HQ := Lib.hid hq
    have HCW : Hid (cwB t f (kn : Int) vss = q) := by rw [Hid, cwB, hv, Bool.true_and, Int.toNat_natCast, hq]
    clear hv hvt hq
    cases q with
    | false =>
      obtain ⟨rfl, rfl, rfl⟩ : ok = false ∧ yt = [] ∧ yf = [] := by have := HR.out; rw [cmR_off HCW.out] at this; simpa [eq_comm] using this
      go_enter Try.func25, Try.ntmps25
      go_wp2_with fail
      refine (voltageOf_any W0 A A' n n' c c' t f (H.out.below HB.out) (H'.out.below HB.out) hn hn' (kn : Int) B m d vss (HS.out.below HB.out) hm htot HV.out).mono ?_
      rintro e w1 ⟨p, rfl, bl, hbx⟩
      obtain ⟨b, kn', rfl, e', hva⟩ := hbx rfl
      obtain rfl : kn' = kn := by omega
      have BL := Lib.hid bl; have HVA := Lib.hid hva
      clear bl hva e' hbx c0 c1
      go_wp2_with fail
      refine (cover_any w1 b t f kn' vss HVT.out HVA.out HQ.out).mono ?_
      rintro e w2 ⟨ci, rfl, b2, hci⟩
      have hci' : ci = .iface 97 (.agg #[]) := by
        obtain ⟨-, e⟩ | ⟨h, -⟩ := hci
        · exact e
        · exact absurd h (by decide)
      subst hci'
      clear hci
      have bl2 : Below W0.heap.size W0 w2 := BL.out.trans (b2.mono BL.out.size)
      obtain ⟨ho, hbw, hbx⟩ := HNO.out w2 bl2
      have hy1 := HY.out.below bl2
      have e0 := hy1.cell0
      have e1 := hy1.cell1
      have e2 := hy1.frozen 0
      have e3 := hy1.frozen 1
      have k0 := hbx.cell0
      have k1 := hbx.cell1
      have HO := Lib.hid ho; have HBW := Lib.hid hbw
      clear ho hbw hbx bl2 b2 hy1
      go_wp2_with fail
      exact bodyPost_ret (v := .tuple #[.agg #[.slice none 0 0, .slice none 0 0], .bool false]) (by simp [results, Try.results25, go_sem, k0, k1]) rfl ⟨_, _, rfl, HO.out, HBW.out⟩
    | true =>
      obtain ⟨rfl, rfl, rfl⟩ : ok = true ∧ yt = covT t kn ∧ yf = covF f vss kn := by have := HR.out; rw [cmR, if_pos HCW.out, Int.toNat_natCast] at this; simpa [eq_comm] using this
      go_enter Try.func25, Try.ntmps25
      go_wp2_with fail
      refine (voltageOf_any W0 A A' n n' c c' t f (H.out.below HB.out) (H'.out.below HB.out) hn hn' (kn : Int) B m d vss (HS.out.below HB.out) hm htot HV.out).mono ?_
      rintro e w1 ⟨p, rfl, bl, hbx⟩
      obtain ⟨b, kn', rfl, e', hva⟩ := hbx rfl
      obtain rfl : kn' = kn := by omega
      have BL := Lib.hid bl; have HVA := Lib.hid hva
      clear bl hva e' hbx c0 c1
      go_wp2_with fail
      refine (cover_any w1 b t f kn' vss HVT.out HVA.out HQ.out).mono ?_
      rintro e w2 ⟨ci, rfl, b2, hci⟩
      obtain ⟨h, -⟩ | ⟨-, u, u', rfl, o⟩ := hci
      · exact absurd h (by decide)
      obtain ⟨l1, hl1⟩ : ∃ l, (covT t kn').length = l := ⟨_, rfl⟩
      obtain ⟨l2, hl2⟩ : ∃ l, (covF f vss kn').length = l := ⟨_, rfl⟩
      obtain ⟨A5, c5, rfl, -, -⟩ := o.turn.form' hl1
      obtain ⟨A6, c6, rfl, -, -⟩ := o.flip.form' hl2
      have bl2 : Below W0.heap.size W0 w2 := BL.out.trans (b2.mono BL.out.size)
      obtain ⟨W3, hW3⟩ : ∃ W3, w2.alloc (.cells #[.slice A5 l1 c5, .slice A6 l2 c6, .pointer (some ⟨b, 0, none⟩)] 64) = W3 := ⟨_, rfl⟩
      have hba : Below w2.heap.size w2 W3 := hW3 ▸ (Below.refl _ _).alloc (Nat.le_refl _) _
      have hnb : W3.heap[w2.heap.size]? = some (.cells #[.slice A5 l1 c5, .slice A6 l2 c6, .pointer (some ⟨b, 0, none⟩)] 64 (0, 0)) := by rw [← hW3]; exact heap_alloc_new _ _
      have n0 : W3.cell? ⟨w2.heap.size, 0, none⟩ = some (.slice A5 l1 c5) := by rw [cell_of_row W3 _ 0 _ _ (0, 0) hnb]; rfl
      have n1 : W3.cell? ⟨w2.heap.size, 1, none⟩ = some (.slice A6 l2 c6) := by rw [cell_of_row W3 _ 1 _ _ (0, 0) hnb]; rfl
      have bl3 : Below W0.heap.size W0 W3 := bl2.trans (hba.mono bl2.size)
      have o3 := o.below hba
      have hy1 := HY.out.below bl3
      have e0 := hy1.cell0
      have e1 := hy1.cell1
      have e2 := hy1.frozen 0
      have e3 := hy1.frozen 1
      obtain ⟨hq1, hq2⟩ := hy1.store2 (.slice A5 l1 c5) (.slice A6 l2 c6)
      have j0 := hq1.cell0
      have j1 := hq1.cell1
      have s0 := HZ.out
      have s1 := BL.out.size
      have s3 := bl3.size
      have HD := Lib.hid (pair_done' (w := w) o3 (by omega) hq2 (by omega) (by omega) (HB.out.trans (bl3.mono HB.out.size)) (by omega))
      clear hq1 hq2 hy1 o o3 bl2 bl3 b2 hba hnb hl1 hl2 s0 s1 s3
      go_wp2_with fail
      exact bodyPost_ret (v := .tuple #[.agg #[.slice A5 l1 c5, .slice A6 l2 c6], .bool true]) (by simp [results, Try.results25, go_sem, j0, j1]) rfl ⟨_, _, rfl, HD.out.1, HD.out.2⟩

set_option maxRecDepth 20000 in
set_option maxHeartbeats 6400000 in
theorem impl_cwB (w : World) (A A' : Option Addr) (n n' c c' : Nat) (t f : List Int) (h : Rd w A n t) (h' : Rd w A' n' f) (hn : n ≤ 1048576) (hn' : n' ≤ 1048576) (k : Int) (B : Option Addr) (m d : Nat) (vss : List (List Int)) (hs : RdSS w B m vss) (hm : m ≤ 1048576) (htot : total vss ≤ 1048576) {r : Bool} (hR : cwB t f k vss = r) :
    Calls Try.prog 23 #[.agg #[.slice A n c, .slice A' n' c'], .int .i64 k, .slice B m d] w fun e w' => e = .returned (.bool r) ∧ Below w.heap.size w w' := by
  obtain ⟨W0, hW0, hx, hb, hz⟩ := Box.local_ w 29 (.slice A n c) (.slice A' n' c')
  have c0 := hx.cell0
  have c1 := hx.cell1
  obtain ⟨⟨ok, yt, yf⟩, hc⟩ : ∃ y, cmR t f k vss = y := ⟨_, rfl⟩
  have HOK : Hid (ok = r) := by
    rw [Hid, ← hR]
    cases hw : cwB t f k vss with
    | false => rw [cmR_off hw] at hc; injection hc with h1 _; exact h1.symm
    | true => rw [cmR, if_pos hw] at hc; injection hc with h1 _; exact h1.symm
  obtain rfl := HOK.out
  have HB := Lib.hid hb; have H := Lib.hid h; have H' := Lib.hid h'; have HS := Lib.hid hs; have HC := Lib.hid hc
  clear hx hb h h' hR hs hz hc
  go_enter Try.func23, Try.ntmps23
  go_wp2_with (go_at_call 25; refine (impl_cmR _ A A' n n' c c' t f (H.out.below HB.out) (H'.out.below HB.out) hn hn' k B m d vss (HS.out.below HB.out) hm htot HC.out).mono ?_; rintro e w1 ⟨u, u', rfl, o, b⟩; obtain ⟨l1, hl1⟩ : ∃ l, yt.length = l := ⟨_, rfl⟩; obtain ⟨l2, hl2⟩ : ∃ l, yf.length = l := ⟨_, rfl⟩; obtain ⟨A5, c5, rfl, -, -⟩ := o.turn.form' hl1; obtain ⟨A6, c6, rfl, -, -⟩ := o.flip.form' hl2; have HB1 := Lib.hid (HB.out.trans (b.mono HB.out.size)); clear b o hl1 hl2 c0 c1)
  go_ret
  exact ⟨rfl, HB1.out.alloc HB1.out.size _⟩

end Go.Proofs.Ythcdhkelpepeeaa

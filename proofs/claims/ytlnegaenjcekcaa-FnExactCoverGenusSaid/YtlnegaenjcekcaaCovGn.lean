/-
  CoverGenus: the program's function, by the interface's method.
  CoverGenus: the model's.
-/
import Derived.Test.YtlnegaenjcekcaaBrI
import Derived.Test.YtlnegaenjcekcaaCovC
import Derived.Test.YtlnegaenjcekcaaGenus
import Derived.Test.YtlnegaenjcekcaaAbvW
import Derived.Test.YtlnegaenjcekcaaCovX
namespace Go.Proofs.Ytlnegaenjcekcaa
open Go.RowKit

def cgN (G : Int) (k : Nat) (br : Int) : Int := (2 + (k : Int) * (2 * G - 2) + br).tdiv 2
noncomputable def cgR (t f : List Int) (k : Int) (vss : List (List Int)) : Int :=
  if cwB t f k vss = true then cgN (genusOf t f) k.toNat (brN f k.toNat vss (cyclesL (mulL f t)) (cyclesL (mulL f t)).length) else -1
theorem tdiv_in (x : Int) (h1 : -26 ≤ x) (h2 : x ≤ 9) : -13 ≤ x.tdiv 2 ∧ x.tdiv 2 ≤ 5 := by
  rcases Int.le_total 0 x with h | h
  · obtain ⟨n, rfl⟩ := Int.eq_ofNat_of_zero_le h
    rw [show ((n : Int)).tdiv 2 = ((n / 2 : Nat) : Int) from rfl]
    omega
  · obtain ⟨n, hn⟩ := Int.eq_ofNat_of_zero_le (show 0 ≤ -x by omega)
    rw [show x = -(n : Int) by omega, Int.neg_tdiv, show ((n : Int)).tdiv 2 = ((n / 2 : Nat) : Int) from rfl]
    omega
theorem genus_in {t f : List Int} (hm : IsMap t f) : -13 ≤ genusOf t f ∧ genusOf t f ≤ 5 := by
  have h1 := cyclesL_len (p := t)
  have h2 := cyclesL_len (p := mulL f t)
  have h3 := hm.turn.2.1
  have h4 := hm.flip.2.1
  rw [mulL_len] at h2
  unfold genusOf cntV cntE cntF
  exact tdiv_in _ (by omega) (by omega)

@[go_sem] theorem genusWhole (n : Nat) (u u' : Value) (p : Option Addr) (W : World) : (method (n + 1) 96 (.agg #[u, u', .pointer p]) "loop.example/surfacemaps/impl.genus").run Try.prog W = .ok (127, .agg #[u, u', .pointer p]) W := by kernel_rfl
@[go_sem] theorem genusApart (n : Nat) (W : World) : (method (n + 1) 112 (.agg #[]) "loop.example/surfacemaps/impl.genus").run Try.prog W = .ok (129, .agg #[]) W := by kernel_rfl
set_option maxHeartbeats 800000 in
theorem apart_any (w : World) : Calls Try.prog 129 #[.agg #[]] w fun e w' => e = .returned (.int .i64 (-1)) ∧ Below w.heap.size w w' := by
  go_enter Try.func129, Try.ntmps129
  go_wp2_with fail
  go_ret
  exact ⟨rfl, (Below.refl _ _).alloc (Nat.le_refl _) _⟩

set_option maxRecDepth 20000 in
set_option maxHeartbeats 3200000 in
theorem genus_any (w : World) (b : Nat) (t f : List Int) (k : Nat) (vss : List (List Int)) (hv : Volt t f k vss) (h : VAt w b t f k vss) (u u' : Value) :
    Calls Try.prog 127 #[.agg #[u, u', .pointer (some ⟨b, 0, none⟩)]] w fun e w' => e = .returned (.int .i64 (cgN (genusOf t f) k (brN f k vss (cyclesL (mulL f t)) (cyclesL (mulL f t)).length))) ∧ Below w.heap.size w w' := by
  obtain ⟨n, hn⟩ : ∃ n, f.length = n := ⟨_, rfl⟩
  obtain ⟨A, c, A', c', lo, g, cg, hvb, hr1, hr2, hal⟩ := (show ∃ (A : Option Addr) (c : Nat) (A' : Option Addr) (c' lo g cg : Nat), VBox w b A n c A' n c' k g cg ∧ Rd w A n t ∧ Rd w A' n f ∧ Alg w lo g n cg (fun j => some (dV f vss j)) by subst hn; exact h)
  have hm := hv.map
  have hn12 : n ≤ 12 := by rw [← hn]; exact hm.flip.2.1
  obtain ⟨G, hG⟩ : ∃ G, genusOf t f = G := ⟨_, rfl⟩
  obtain ⟨br, hbr⟩ : ∃ br, brN f k vss (cyclesL (mulL f t)) (cyclesL (mulL f t)).length = br := ⟨_, rfl⟩
  have hGb := genus_in hm
  have hbb := brN_le hv _ (Nat.le_refl _)
  have hcl := cyclesL_len (p := mulL f t)
  rw [mulL_len, hn] at hcl
  rw [hG] at hGb
  rw [hbr] at hbb
  have hk6 := hv.six
  have HGR : Hid (genusR t f = G) := by rw [Hid, genusR, if_pos (mapV_iff.2 hm), hG]
  have HVO := Lib.hid hv; have HVA := Lib.hid h; have HVB := Lib.hid hvb; have H := Lib.hid hr1; have H' := Lib.hid hr2; have HBR := Lib.hid hbr
  obtain ⟨x1, hx1⟩ : ∃ x, 2 * G = x := ⟨_, rfl⟩
  obtain ⟨x2, hx2⟩ : ∃ x, x1 - 2 = x := ⟨_, rfl⟩
  have hx2b : -28 ≤ x2 ∧ x2 ≤ 8 := by omega
  obtain ⟨x3, hx3⟩ : ∃ x, (k : Int) * x2 = x := ⟨_, rfl⟩
  have hx3b : -200 ≤ x3 ∧ x3 ≤ 50 := by
    rw [← hx3]
    rcases (by omega : k = 0 ∨ k = 1 ∨ k = 2 ∨ k = 3 ∨ k = 4 ∨ k = 5 ∨ k = 6) with rfl | rfl | rfl | rfl | rfl | rfl | rfl <;> omega
  obtain ⟨x4, hx4⟩ : ∃ x, 2 + x3 = x := ⟨_, rfl⟩
  obtain ⟨x5, hx5⟩ : ∃ x, x4 + br = x := ⟨_, rfl⟩
  have hx5b : -300 ≤ x5 ∧ x5 ≤ 300 := by omega
  have HRES : Hid (cgN G k br = x5.tdiv 2) := by rw [Hid, cgN, hx1, hx2, hx3, hx4, hx5]
  have g1 : IntKind.i64.wrap (2 * G) = x1 := by rw [hx1]; exact IntWalk.i64_in _ (by omega)
  have g2 : IntKind.i64.wrap (x1 - 2) = x2 := by rw [hx2]; exact IntWalk.i64_in _ (by omega)
  have g3 : IntKind.i64.wrap ((k : Int) * x2) = x3 := by rw [hx3]; exact IntWalk.i64_in _ (by omega)
  have g4 : IntKind.i64.wrap (2 + x3) = x4 := by rw [hx4]; exact IntWalk.i64_in _ (by omega)
  have g5 : IntKind.i64.wrap (x4 + br) = x5 := by rw [hx5]; exact IntWalk.i64_in _ (by omega)
  obtain ⟨x6, hx6⟩ : ∃ x, x5.tdiv 2 = x := ⟨_, rfl⟩
  have g6 : IntKind.i64.wrap x6 = x6 := IntWalk.i64_in _ (by
    have : -300 ≤ x5.tdiv 2 ∧ x5.tdiv 2 ≤ 300 := by
      rcases Int.le_total 0 x5 with h | h
      · obtain ⟨n, hn⟩ := Int.eq_ofNat_of_zero_le h
        rw [hn, show ((n : Int)).tdiv 2 = ((n / 2 : Nat) : Int) from rfl]; omega
      · obtain ⟨n, hn⟩ := Int.eq_ofNat_of_zero_le (show 0 ≤ -x5 by omega)
        rw [show x5 = -(n : Int) by omega, Int.neg_tdiv, show ((n : Int)).tdiv 2 = ((n / 2 : Nat) : Int) from rfl]; omega
    omega)
  have g7 : IntKind.i64.wrap (x5.tdiv 2) = x6 := by rw [hx6]; exact g6
  rw [hG, hbr, HRES.out, hx6]
  clear hv h hvb hr1 hr2 hal hm hG hbr hGb hbb hcl hx1 hx2 hx2b hx3 hx3b hx4 hx5 hx5b
  obtain ⟨W0, hW0⟩ : ∃ W0, w.alloc (.cells #[u, u', .pointer (some ⟨b, 0, none⟩)] 96) = W0 := ⟨_, rfl⟩
  have hb0 : Below w.heap.size w W0 := by rw [← hW0]; exact (Below.refl _ _).alloc (Nat.le_refl _) _
  have hbx : W0.heap[w.heap.size]? = some (.cells #[u, u', .pointer (some ⟨b, 0, none⟩)] 96 (0, 0)) := by rw [← hW0]; exact heap_alloc_new w _
  have c2 : W0.cell? ⟨w.heap.size, 2, none⟩ = some (.pointer (some ⟨b, 0, none⟩)) := by rw [cell_of_row W0 w.heap.size 2 _ _ (0, 0) hbx]; rfl
  have HB0 := Lib.hid hb0; clear hb0 hbx
  go_enter Try.func127, Try.ntmps127
  go_wp2_with fail
  have HVB0 := Lib.hid (HVB.out.below HB0.out)
  have f0 : ∀ p : AboveW W0, p.to.cell? ⟨b, 0, none⟩ = some (.slice A n c) := fun p => by rw [cell_of_row p.to b 0 _ _ (0, 0) (HVB0.out.below p.b)]; rfl
  have f1 : ∀ p : AboveW W0, p.to.cell? ⟨b, 1, none⟩ = some (.slice A' n c') := fun p => by rw [cell_of_row p.to b 1 _ _ (0, 0) (HVB0.out.below p.b)]; rfl
  have f2 : ∀ p : AboveW W0, p.to.cell? ⟨b, 2, none⟩ = some (.int .i64 k) := fun p => (HVB0.out.below p.b).cell2
  have HC1 : Hid (∀ p : AboveW W0, Calls Try.prog 128 #[.agg #[.slice A n c, .slice A' n c']] p.to fun e w'' => e = .returned (.int .i64 G) ∧ ∃ q : AboveW W0, w'' = q.to) := fun p =>
    AboveW.calls (impl_genusR _ A A' n n c c' t f ((H.out.below HB0.out).below p.b) ((H'.out.below HB0.out).below p.b) (by omega) (by omega) HGR.out)
  have HC2 : Hid (∀ p : AboveW W0, Calls Try.prog 58 #[.pointer (some ⟨b, 0, none⟩)] p.to fun e w'' => e = .returned (.int .i64 br) ∧ ∃ q : AboveW W0, w'' = q.to) := fun p => by
    have h1 := branch_any p.to b t f k vss HVO.out ((HVA.out.below HB0.out).below p.b)
    rw [HBR.out] at h1
    exact AboveW.calls h1
  refine wp_region_quiet_aboveW (by kernel_rfl) (by kernel_rfl) ?_
  repeat (quiet_step (first | (go_at_call 128; with_reducible exact HC1.out _) | (go_at_call 58; with_reducible exact HC2.out _)))
  refine wpQuiet_nil ?_
  rintro w3 ⟨pq, rfl⟩
  have HB3 : Hid (Below w.heap.size w pq.to) := HB0.out.trans (pq.b.mono HB0.out.size)
  go_wp2_with fail
  go_ret
  exact ⟨rfl, HB3.out⟩

set_option maxRecDepth 100000 in
set_option maxHeartbeats 1600000 in
theorem impl_cgR (w : World) (A A' : Option Addr) (n n' c c' : Nat) (t f : List Int) (h : Rd w A n t) (h' : Rd w A' n' f) (hn : n ≤ 1048576) (hn' : n' ≤ 1048576) (k : Int) (B : Option Addr) (m d : Nat) (vss : List (List Int)) (hs : RdSS w B m vss) (hm : m ≤ 1048576) (htot : total vss ≤ 1048576) {r : Int} (hR : cgR t f k vss = r) :
    Calls Try.prog 25 #[.agg #[.slice A n c, .slice A' n' c'], .int .i64 k, .slice B m d] w fun e w' => e = .returned (.int .i64 r) ∧ Below w.heap.size w w' := by
  obtain ⟨W0, hW0, hx, hb, hz⟩ := Box.local_ w 30 (.slice A n c) (.slice A' n' c')
  have c0 := hx.cell0
  have c1 := hx.cell1
  have HB := Lib.hid hb; have H := Lib.hid h; have H' := Lib.hid h'; have HS := Lib.hid hs
  clear hx hb h h' hs hz
  cases hv : vvB t f k vss with
  | false =>
    obtain rfl : r = -1 := by rw [← hR, cgR, if_neg (by rw [cwB_off hv]; decide)]
    have HV := Lib.hid hv; clear hv hR
    go_enter Try.func25, Try.ntmps25
    go_wp2_with (go_at_call 53; refine (voltageOf_any _ A A' n n' c c' t f (H.out.below HB.out) (H'.out.below HB.out) hn hn' k B m d vss (HS.out.below HB.out) hm htot HV.out).mono ?_; rintro e w1 ⟨p, rfl, b, -⟩; have HB1 := Lib.hid (HB.out.trans (b.mono HB.out.size)); clear b c0 c1)
    go_ret
    exact ⟨rfl, HB1.out⟩
  | true =>
    have HV := Lib.hid hv
    obtain ⟨kn, rfl, hvt⟩ := Volt_of hv
    have HVT := Lib.hid hvt
    obtain ⟨q, hq⟩ : ∃ q, mapV (covT t kn) (covF f vss kn) = q := ⟨_, rfl⟩
    have HQ := Lib.hid hq
    have hcw : cwB t f (kn : Int) vss = q := by rw [cwB, hv, Bool.true_and, Int.toNat_natCast]; exact hq
    have HF : Hid (r = if q = true then cgN (genusOf t f) kn (brN f kn vss (cyclesL (mulL f t)) (cyclesL (mulL f t)).length) else -1) := by rw [Hid, ← hR, cgR, hcw, Int.toNat_natCast]
    clear hv hvt hR hq hcw
    go_enter Try.func25, Try.ntmps25
    go_wp2_with (go_at_call 53; refine (voltageOf_any _ A A' n n' c c' t f (H.out.below HB.out) (H'.out.below HB.out) hn hn' (kn : Int) B m d vss (HS.out.below HB.out) hm htot HV.out).mono ?_; rintro e w1 ⟨p, rfl, b, hva⟩; obtain ⟨bv, kn', rfl, hkn, hva⟩ := hva rfl; obtain rfl : kn = kn' := (by omega); have HVA := Lib.hid hva; have HB1 := Lib.hid (HB.out.trans (b.mono HB.out.size)); clear b c0 c1 hva hkn)
    refine (cover_any w1 bv t f kn vss HVT.out HVA.out HQ.out).mono ?_
    rintro e w2 ⟨ci, rfl, b, hci⟩
    have HB2 := Lib.hid (HB1.out.trans (b.mono HB1.out.size)); have HVA2 := Lib.hid (HVA.out.below b); clear b
    rcases hci with ⟨rfl, rfl⟩ | ⟨rfl, u, u', rfl, -⟩
    · obtain rfl : r = -1 := HF.out
      go_wp2_with fail
      refine (apart_any w2).mono ?_
      rintro e w3 ⟨rfl, b⟩
      have HB3 := Lib.hid (HB2.out.trans (b.mono HB2.out.size)); clear b
      go_wp2_with fail
      go_ret
      exact ⟨rfl, HB3.out⟩
    · obtain rfl := HF.out
      go_wp2_with fail
      refine (genus_any w2 bv t f kn vss HVT.out HVA2.out u u').mono ?_
      rintro e w3 ⟨rfl, b⟩
      have HB3 := Lib.hid (HB2.out.trans (b.mono HB2.out.size)); clear b
      go_wp2_with fail
      go_ret
      exact ⟨rfl, HB3.out⟩

end Go.Proofs.Ytlnegaenjcekcaa

namespace Go.Proofs.Ytlnegaenjcekcaa
open Go.RowKit

set_option maxRecDepth 100000 in
set_option maxHeartbeats 3200000 in
theorem spec_cgR (w : World) (A A' : Option Addr) (n n' c c' : Nat) (t f : List Int) (h : Rd w A n t) (h' : Rd w A' n' f) (hn : n ≤ 1048576) (hn' : n' ≤ 1048576) (k : Int) (B : Option Addr) (m d : Nat) (vss : List (List Int)) (hs : RdSS w B m vss) (hm : m ≤ 1048576) (htot : total vss ≤ 1048576) {r : Int} (hR : cgR t f k vss = r) :
    Calls Try.prog 24 #[.agg #[.slice A n c, .slice A' n' c'], .int .i64 k, .slice B m d] w fun e w' => e = .returned (.int .i64 r) ∧ Below w.heap.size w w' := by
  obtain ⟨W0, hW0, hx, hb, hz⟩ := Box.local_ w 30 (.slice A n c) (.slice A' n' c')
  have c0 := hx.cell0
  have c1 := hx.cell1
  have HX := Lib.hid hx; have HB := Lib.hid hb; have H := Lib.hid h; have H' := Lib.hid h'; have HS := Lib.hid hs
  clear hx hb h h' hs hz
  cases hv : cwB t f k vss with
  | false =>
    obtain rfl : r = -1 := by rw [← hR, cgR, if_neg (by rw [hv]; decide)]
    have HV := Lib.hid hv; clear hv hR
    go_enter Try.func24, Try.ntmps24
    go_wp2_with (go_at_call 59; refine (spec_cwB _ A A' n n' c c' t f (H.out.below HB.out) (H'.out.below HB.out) hn hn' k B m d vss (HS.out.below HB.out) hm htot HV.out).mono ?_; rintro e w1 ⟨rfl, b⟩; have HB1 := Lib.hid (HB.out.trans (b.mono HB.out.size)); clear b c0 c1)
    go_ret
    exact ⟨rfl, HB1.out⟩
  | true =>
    have HV := Lib.hid hv
    have hvv : vvB t f k vss = true := by
      cases e : vvB t f k vss with
      | true => rfl
      | false => rw [cwB_off e] at hv; cases hv
    obtain ⟨kn, rfl, hvt⟩ := Volt_of hvv
    have hR' : cgN (genusOf t f) kn (brN f kn vss (cyclesL (mulL f t)) (cyclesL (mulL f t)).length) = r := by rw [← hR, cgR, if_pos hv, Int.toNat_natCast]
    have hlen : n = n' := by rw [← H.out.1, ← H'.out.1]; exact hvt.map.len
    subst hlen
    have hvk := hvt
    obtain ⟨kk, hkk⟩ : ∃ kk, kn = kk := ⟨_, rfl⟩
    have hn'' : f.length = n := H'.out.1
    have hmp := hvk.map
    have hn12 : n ≤ 12 := by rw [← hn'']; exact hmp.flip.2.1
    obtain ⟨G, hG⟩ : ∃ G, genusOf t f = G := ⟨_, rfl⟩
    obtain ⟨br, hbr⟩ : ∃ br, brN f kn vss (cyclesL (mulL f t)) (cyclesL (mulL f t)).length = br := ⟨_, rfl⟩
    have hGb := genus_in hmp
    have hbb := brN_le hvk _ (Nat.le_refl _)
    have hcl := cyclesL_len (p := mulL f t)
    rw [mulL_len, hn''] at hcl
    rw [hG] at hGb
    rw [hbr] at hbb
    have hk6 := hvk.six
    have HGR : Hid (genusR t f = G) := by rw [Hid, genusR, if_pos (mapV_iff.2 hmp), hG]
    have HBR : Hid (brR t f (kn : Int) vss = br) := by rw [Hid, brR, if_pos hvv, Int.toNat_natCast]; exact hbr
    obtain ⟨x1, hx1⟩ : ∃ x, 2 * G = x := ⟨_, rfl⟩
    obtain ⟨x2, hx2⟩ : ∃ x, x1 - 2 = x := ⟨_, rfl⟩
    have hx2b : -28 ≤ x2 ∧ x2 ≤ 8 := by omega
    obtain ⟨x3, hx3⟩ : ∃ x, (kn : Int) * x2 = x := ⟨_, rfl⟩
    have hx3b : -200 ≤ x3 ∧ x3 ≤ 50 := by
      rw [← hx3]
      rcases (by omega : kn = 0 ∨ kn = 1 ∨ kn = 2 ∨ kn = 3 ∨ kn = 4 ∨ kn = 5 ∨ kn = 6) with rfl | rfl | rfl | rfl | rfl | rfl | rfl <;> omega
    obtain ⟨x4, hx4⟩ : ∃ x, 2 + x3 = x := ⟨_, rfl⟩
    obtain ⟨x5, hx5⟩ : ∃ x, x4 + br = x := ⟨_, rfl⟩
    have hx5b : -300 ≤ x5 ∧ x5 ≤ 300 := by omega
    have HRES : Hid (cgN G kn br = x5.tdiv 2) := by rw [Hid, cgN, hx1, hx2, hx3, hx4, hx5]
    have g1 : IntKind.i64.wrap (2 * G) = x1 := by rw [hx1]; exact IntWalk.i64_in _ (by omega)
    have g2 : IntKind.i64.wrap (x1 - 2) = x2 := by rw [hx2]; exact IntWalk.i64_in _ (by omega)
    have g3 : IntKind.i64.wrap ((kn : Int) * x2) = x3 := by rw [hx3]; exact IntWalk.i64_in _ (by omega)
    have g4 : IntKind.i64.wrap (2 + x3) = x4 := by rw [hx4]; exact IntWalk.i64_in _ (by omega)
    have g5 : IntKind.i64.wrap (x4 + br) = x5 := by rw [hx5]; exact IntWalk.i64_in _ (by omega)
    obtain ⟨x6, hx6⟩ : ∃ x, x5.tdiv 2 = x := ⟨_, rfl⟩
    have g6 : IntKind.i64.wrap x6 = x6 := IntWalk.i64_in _ (by
      have : -300 ≤ x5.tdiv 2 ∧ x5.tdiv 2 ≤ 300 := by
        rcases Int.le_total 0 x5 with h | h
        · obtain ⟨n, hn⟩ := Int.eq_ofNat_of_zero_le h
          rw [hn, show ((n : Int)).tdiv 2 = ((n / 2 : Nat) : Int) from rfl]; omega
        · obtain ⟨n, hn⟩ := Int.eq_ofNat_of_zero_le (show 0 ≤ -x5 by omega)
          rw [show x5 = -(n : Int) by omega, Int.neg_tdiv, show ((n : Int)).tdiv 2 = ((n / 2 : Nat) : Int) from rfl]; omega
      omega)
    have g7 : IntKind.i64.wrap (x5.tdiv 2) = x6 := by rw [hx6]; exact g6
    have HGG := Lib.hid hG
    rw [hG, hbr, HRES.out, hx6] at hR'
    subst hR'
    have HM := Lib.hid hmp
    clear hv hvv hvt hvk hkk hn'' hmp hG hbr hGb hbb hcl hx1 hx2 hx2b hx3 hx3b hx4 hx5 hx5b hR
    go_enter Try.func24, Try.ntmps24
    go_wp2_with (go_at_call 59; refine (spec_cwB _ A A' n n c c' t f (H.out.below HB.out) (H'.out.below HB.out) hn hn' (kn : Int) B m d vss (HS.out.below HB.out) hm htot HV.out).mono ?_; rintro e w1 ⟨rfl, b⟩; have HB1 := Lib.hid (HB.out.trans (b.mono HB.out.size)); have HX1 := Lib.hid (HX.out.below b); clear b c0 c1)
    have f0 : ∀ p : AboveW w1, p.to.cell? ⟨w.heap.size, 0, none⟩ = some (.slice A n c) := fun p => (HX1.out.below p.b).cell0
    have f1 : ∀ p : AboveW w1, p.to.cell? ⟨w.heap.size, 1, none⟩ = some (.slice A' n c') := fun p => (HX1.out.below p.b).cell1
    have HC1 : Hid (∀ p : AboveW w1, Calls Try.prog 60 #[.agg #[.slice A n c, .slice A' n c']] p.to fun e w'' => e = .returned (.int .i64 G) ∧ ∃ q : AboveW w1, w'' = q.to) := fun p => by
      have h1 := l2Genus_any A A' n c c' t f p.to ((H.out.below HB1.out).below p.b) ((H'.out.below HB1.out).below p.b) HM.out
      rw [HGG.out] at h1
      exact AboveW.calls h1
    have HC2 : Hid (∀ p : AboveW w1, Calls Try.prog 22 #[.agg #[.slice A n c, .slice A' n c'], .int .i64 kn, .slice B m d] p.to fun e w'' => e = .returned (.int .i64 br) ∧ ∃ q : AboveW w1, w'' = q.to) := fun p =>
      AboveW.calls (spec_brR _ A A' n n c c' t f ((H.out.below HB1.out).below p.b) ((H'.out.below HB1.out).below p.b) hn hn' (kn : Int) B m d vss ((HS.out.below HB1.out).below p.b) hm htot HBR.out)
    refine wp_region_quiet_aboveW (by kernel_rfl) (by kernel_rfl) ?_
    repeat (quiet_step (first | (go_at_call 60; with_reducible exact HC1.out _) | (go_at_call 22; with_reducible exact HC2.out _)))
    refine wpQuiet_nil ?_
    rintro w3 ⟨pq, rfl⟩
    have HB3 : Hid (Below w.heap.size w pq.to) := HB1.out.trans (pq.b.mono HB1.out.size)
    go_wp2_with fail
    go_ret
    exact ⟨rfl, HB3.out⟩

end Go.Proofs.Ytlnegaenjcekcaa

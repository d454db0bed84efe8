/-
  All subgraphs, as the program keeps them in a row; those that a test holds of, counted.
-/
import Derived.Test.YtpaohaodnchfkaaRibA
namespace Go.Proofs.Ytpaohaodnchfkaa
open Go.RowKit

/-- The cells of the first k subgraphs. -/
noncomputable def gC (t f : List Int) (k : Nat) : List Value := (List.range (k * 5)).map fun i => .int .i64 (gi (subL t f (i / 5)) (i % 5))
theorem gC_get {t f : List Int} {k i : Nat} (h : i < k * 5) : (gC t f k)[i]? = some (.int .i64 (gi (subL t f (i / 5)) (i % 5))) := by
  simp [gC, h]
theorem gC_succ {t f : List Int} {k : Nat} {x0 x1 x2 x3 x4 : Int} (h : subL t f k = [x0, x1, x2, x3, x4]) : gC t f (k + 1) = gC t f k ++ [.int .i64 x0, .int .i64 x1, .int .i64 x2, .int .i64 x3, .int .i64 x4] := by
  unfold gC
  rw [show (k + 1) * 5 = k * 5 + 1 + 1 + 1 + 1 + 1 by omega]
  simp only [List.range_succ, List.map_append, List.map_cons, List.map_nil, List.append_assoc, List.cons_append, List.nil_append]
  rw [show k * 5 / 5 = k by omega, show (k * 5 + 1) / 5 = k by omega, show (k * 5 + 1 + 1) / 5 = k by omega, show (k * 5 + 1 + 1 + 1) / 5 = k by omega, show (k * 5 + 1 + 1 + 1 + 1) / 5 = k by omega,
    show k * 5 % 5 = 0 by omega, show (k * 5 + 1) % 5 = 1 by omega, show (k * 5 + 1 + 1) % 5 = 2 by omega, show (k * 5 + 1 + 1 + 1) % 5 = 3 by omega, show (k * 5 + 1 + 1 + 1 + 1) % 5 = 4 by omega, h]
  rfl
theorem info_sub : (Try.prog.info? 50).map (fun i => (i.zero, i.size, i.bytes)) = some (some (.agg #[.int .i64 0, .int .i64 0, .int .i64 0, .int .i64 0, .int .i64 0]), 5, 40) := by kernel_rfl
theorem cells_lit (w : World) (us : List Value) (t : TypeId) : ∀ (j : Nat) (v : Value), us[j]? = some v → (w.alloc (.cells us.toArray t)).cell? ((⟨w.heap.size, 0, none⟩ : Addr).add j) = some v := by
  intro j v hj
  have e : (⟨w.heap.size, 0, none⟩ : Addr).add j = ⟨w.heap.size, j, none⟩ := by unfold Addr.add; split <;> simp_all
  rw [e, cell_of_row _ w.heap.size j _ _ (0, 0) (heap_alloc_new w _)]
  simpa using hj
/-- Block g holds the subgraphs of the first N choices. -/
def SubsAt (w : World) (g N : Nat) (t f : List Int) : Prop := g < w.heap.size ∧ ∀ k, k < N → ∀ r, r < 5 → w.cell? ⟨g, k * 5 + r, none⟩ = some (.int .i64 (gi (subL t f k) r))
theorem SubsAt.below {w w' : World} {g N : Nat} {t f : List Int} (h : SubsAt w g N t f) (hb : Below w.heap.size w w') : SubsAt w' g N t f :=
  ⟨by have := h.1; have := hb.size; omega, fun k hk r hr => (hb.cell (p := ⟨g, k * 5 + r, none⟩) h.1).trans (h.2 k hk r hr)⟩
theorem SubsAt.five {w : World} {g N : Nat} {t f : List Int} (h : SubsAt w g N t f) {k : Nat} (hk : k < N) {x0 x1 x2 x3 x4 : Int} (hx : subL t f k = [x0, x1, x2, x3, x4]) :
    w.cell? ⟨g, k * 5, none⟩ = some (.int .i64 x0) ∧ w.cell? ⟨g, k * 5 + 1, none⟩ = some (.int .i64 x1) ∧ w.cell? ⟨g, k * 5 + 2, none⟩ = some (.int .i64 x2) ∧ w.cell? ⟨g, k * 5 + 3, none⟩ = some (.int .i64 x3) ∧ w.cell? ⟨g, k * 5 + 4, none⟩ = some (.int .i64 x4) := by
  have h0 := h.2 k hk 0 (by omega)
  have h1 := h.2 k hk 1 (by omega)
  have h2 := h.2 k hk 2 (by omega)
  have h3 := h.2 k hk 3 (by omega)
  have h4 := h.2 k hk 4 (by omega)
  rw [hx] at h0 h1 h2 h3 h4
  exact ⟨h0, h1, h2, h3, h4⟩
theorem all_one : ∀ h : Nat, h < 7 → IntKind.u64.wrap (((2 ^ h - 1 : Nat) : Int) + 1) = ((2 ^ h : Nat) : Int) ∧ 2 ^ h ≤ 64 ∧ 1 ≤ 2 ^ h := by decide +kernel

set_option maxRecDepth 20000 in
set_option maxHeartbeats 1600000 in
theorem subgraphs_any (b : Nat) (A A' : Option Addr) (n c c' N : Nat) (t f : List Int) (w : World) (hb : Box2 w b A n c A' n c') (h : Rd w A n t) (h' : Rd w A' n f) (hm : IsMap t f) (hN : 2 ^ (n / 2) = N) :
    Calls Try.prog 52 #[.pointer (some ⟨b, 0, none⟩)] w fun e w' => ∃ g cc, e = .returned (.slice (some ⟨g, 0, none⟩) N cc) ∧ SubsAt w' g N t f ∧ Below w.heap.size w w' := by
  obtain ⟨i0, hinf, hz0, hz1, hz2⟩ := info_parts info_sub
  have hn12 : n ≤ 12 := by rw [← h'.1]; exact hm.flip.2.1
  obtain ⟨h2, hh2⟩ : ∃ h2, n / 2 = h2 := ⟨_, rfl⟩
  rw [hh2] at hN
  obtain ⟨a1, a2, a3⟩ := all_one h2 (by omega)
  obtain ⟨al, hal⟩ : ∃ al : Nat, 2 ^ h2 - 1 = al := ⟨_, rfl⟩
  rw [hal, hN] at a1
  rw [hN] at a2 a3
  have HX := Lib.hid hb; have H := Lib.hid h; have H' := Lib.hid h'; have HM := Lib.hid hm; have HAL := Lib.hid hal; have HH := Lib.hid hh2; clear hb h h' hm hal hN hh2
  go_enter Try.func52, Try.ntmps52
  go_wp2_with fail
  refine (allEdges_any b A A' n n c c' h2 w HX.out hn12 HH.out).mono ?_
  rintro e w1 ⟨rfl, rfl⟩
  rw [HAL.out]
  go_wp2_with fail
  go_loopw [3, 4, 8] (fun v _ kv wr => ∃ k : Nat, k ≤ N ∧ kv = .int .u64 k ∧ Hid (wr.ownsRow w.heap.size 50 5 v k (gC t f k)) ∧ Hid (Below w.heap.size w wr)) (fun _ _ kv _ => N - (intOf kv).toNat)
  case atStart => exact ⟨0, Nat.zero_le _, rfl, World.ownsRow_nil w _ _ _, Below.refl _ _⟩
  case round =>
    obtain ⟨k, hk, rfl, ho, hb⟩ := hrel
    have hbs := hb.out.size
    by_cases hlt : k < N
    · obtain ⟨x0, x1, x2, x3, x4, h5⟩ := subL_five t f k
      have H5 := Lib.hid h5; clear h5
      have g1 : IntKind.u64.wrap ((k : Int) + 1) = ((k + 1 : Nat) : Int) := by
        have : (k : Int) + 1 = ((k + 1 : Nat) : Int) := by omega
        rw [this]; exact IntWalk.u64_in _ (by omega)
      go_wp2_with fail
      refine (subgraph_lit b A A' n c c' k t f wr (HX.out.below hb.out) (H.out.below hb.out) (H'.out.below hb.out) HM.out (by omega) H5.out).mono ?_
      rintro e w2 ⟨rfl, b2⟩
      have HB2 := Lib.hid (hb.out.trans (b2.mono hbs))
      have HO2 : Hid (w2.ownsRow w.heap.size 50 5 _ k (gC t f k)) := World.ownsRow.kept ho.out (row := none) ⟨b2.os, b2.tape, b2.output, b2.size, fun i hi _ => b2.block i hi⟩ (by cases Value.ownBlock _ <;> simp)
      have hb2s := HB2.out.size
      clear b2
      go_wp2_with (at_builtin; refine wpList_append_own _ rfl _ _ 60 rfl w.heap.size 50 i0 (.agg #[.int .i64 0, .int .i64 0, .int .i64 0, .int .i64 0, .int .i64 0]) 5 40 Try.underlying60 hinf hz0 hz1 hz2 rfl (by decide) _ _ _ rfl (HO2.out.alloc _) ⟨w2.heap.size, 0, none⟩ 1 1 [.int .i64 x0, .int .i64 x1, .int .i64 x2, .int .i64 x3, .int .i64 x4] rfl rfl (cells_lit _ _ _) (by intro u hu; simp at hu; rcases hu with rfl | rfl | rfl | rfl | rfl <;> rfl) (by unfold maxLen; omega) (by omega) (by simp; omega) ?_; intro v3 w3 hown3 hgrow3 _; have HO3 := Lib.hid hown3; have HG3 := Lib.hid hgrow3; clear hown3 hgrow3)
      go_roundw
      case rel => exact ⟨k + 1, by omega, rfl, by rw [gC_succ H5.out]; exact HO3.out, (HB2.out.alloc hb2s _).grown HG3.out (by simp; omega) (fun j hj => (HO2.out.lt j hj).1)⟩
      case measure => simp [intOf]; omega
    · have hkN : k = N := by omega
      subst hkN
      obtain ⟨g, cc, rfl⟩ : ∃ g cc, u3 = .slice (some ⟨g, 0, none⟩) k cc := by
        rcases ho.out.2 with ⟨rfl, hz⟩ | ⟨g, cap, cur, rfl, _⟩
        · omega
        · exact ⟨g, cap, rfl⟩
      go_wp2_with fail
      go_ret
      refine ⟨g, cc, rfl, ⟨(ho.out.lt g rfl).2, fun j hj r hr => ?_⟩, hb.out⟩
      have h1 : (j * 5 + r) / 5 = j := by omega
      have h2 : (j * 5 + r) % 5 = r := by omega
      have := World.ownsRow.cells ho.out rfl (j * 5 + r) _ (gC_get (by omega))
      rw [h1, h2] at this
      rwa [show (⟨g, 0, none⟩ : Addr).add (j * 5 + r) = ⟨g, j * 5 + r, none⟩ from by unfold Addr.add; split <;> simp_all] at this

/-- How many of the first k choices a test holds of. -/
noncomputable def cntG (S : List Int → Bool) (t f : List Int) : Nat → Nat
  | 0 => 0
  | k + 1 => cntG S t f k + if S (subL t f k) = true then 1 else 0
theorem cntG_le (S : List Int → Bool) (t f : List Int) : ∀ k, cntG S t f k ≤ k
  | 0 => Nat.le_refl _
  | k + 1 => by have := cntG_le S t f k; rw [cntG]; split <;> omega


set_option maxRecDepth 20000 in
set_option maxHeartbeats 1600000 in
theorem count_isTree (b : Nat) (A A' : Option Addr) (n c c' N : Nat) (t f : List Int) (w : World) (hb : Box2 w b A n c A' n c') (h : Rd w A n t) (h' : Rd w A' n f) (hm : IsMap t f) (hN : 2 ^ (n / 2) = N) :
    Calls Try.prog 49 #[.pointer (some ⟨b, 0, none⟩), .func (.func 44) #[] #[]] w fun e w' => e = .returned (.int .i64 (cntG treeS t f N : Nat)) ∧ Below w.heap.size w w' := by
  have hN64 : N ≤ 64 := by
    have : n ≤ 12 := by rw [← h'.1]; exact hm.flip.2.1
    rw [← hN]; exact (all_one (n / 2) (by omega)).2.1
  have HX := Lib.hid hb; have H := Lib.hid h; have H' := Lib.hid h'; have HM := Lib.hid hm; have HN := Lib.hid hN; clear hb h h' hm hN
  go_enter Try.func49, Try.ntmps49
  go_wp2_with fail
  refine (subgraphs_any b A A' n c c' N t f w HX.out H.out H'.out HM.out HN.out).mono ?_
  rintro e w1 ⟨g, cc, rfl, hs, b1⟩
  have HS := Lib.hid hs; have HB1 := Lib.hid b1; clear hs b1
  go_wp2_with fail
  go_loopw [5, 7, 11] (fun qv _ kv wr => ∃ k q : Nat, k ≤ N ∧ kv = .int .i64 k ∧ qv = .int .i64 q ∧ q ≤ k ∧ Hid (q = cntG treeS t f k) ∧ Hid (Below w1.heap.size w1 wr)) (fun _ _ kv _ => N - (intOf kv).toNat)
  case atStart => exact ⟨0, 0, Nat.zero_le _, rfl, rfl, Nat.le_refl _, rfl, Below.refl _ _⟩
  case round =>
    obtain ⟨k, q, hk, rfl, rfl, hqk, hq, hb⟩ := hrel
    by_cases hlt : k < N
    · obtain ⟨x0, x1, x2, x3, x4, h5⟩ := subL_five t f k
      obtain ⟨c0, c1, c2, c3, c4⟩ := (HS.out.below hb.out).five hlt h5
      have HBA : Hid (Below w1.heap.size w1 (wr.alloc (.cells #[.int .i64 x0, .int .i64 x1, .int .i64 x2, .int .i64 x3, .int .i64 x4] 50))) := hb.out.alloc hb.out.size _
      obtain ⟨r, hr⟩ : ∃ r, treeS [x0, x1, x2, x3, x4] = r := ⟨_, rfl⟩
      have HQ : Hid (cntG treeS t f (k + 1) = q + if r = true then 1 else 0) := by rw [Hid, cntG, ← hq.out, h5, hr]
      have HR := Lib.hid hr
      clear hr h5 hq
      cases r with
      | true =>
        go_wp2_with fail
        refine (isTree_any x0 x1 x2 x3 x4 _ HR.out).mono ?_
        rintro e w3 ⟨rfl, b3⟩
        have HB3 := Lib.hid (HBA.out.trans (b3.mono HBA.out.size)); clear b3
        go_wp2_with fail
        go_roundw
        case rel => exact ⟨k + 1, q + 1, by omega, by go_num, by go_num, by omega, by rw [Hid, HQ.out]; simp, HB3⟩
        case measure => simp [intOf]; omega
      | false =>
        go_wp2_with fail
        refine (isTree_any x0 x1 x2 x3 x4 _ HR.out).mono ?_
        rintro e w3 ⟨rfl, b3⟩
        have HB3 := Lib.hid (HBA.out.trans (b3.mono HBA.out.size)); clear b3
        go_wp2_with fail
        go_roundw
        case rel => exact ⟨k + 1, q, by omega, by go_num, rfl, by omega, by rw [Hid, HQ.out]; simp, HB3⟩
        case measure => simp [intOf]; omega
    · have hkN : k = N := by omega
      have HE : Hid (cntG treeS t f N = q) := by rw [Hid, ← hkN]; exact hq.out.symm
      clear hkN
      go_wp2_with fail
      go_ret
      exact ⟨by rw [HE.out]; rfl, HB1.out.trans (hb.out.mono HB1.out.size)⟩

set_option maxRecDepth 20000 in
set_option maxHeartbeats 1600000 in
theorem count_isQuasi (b : Nat) (A A' : Option Addr) (n c c' N : Nat) (t f : List Int) (w : World) (hb : Box2 w b A n c A' n c') (h : Rd w A n t) (h' : Rd w A' n f) (hm : IsMap t f) (hN : 2 ^ (n / 2) = N) :
    Calls Try.prog 49 #[.pointer (some ⟨b, 0, none⟩), .func (.func 45) #[] #[]] w fun e w' => e = .returned (.int .i64 (cntG quasiS t f N : Nat)) ∧ Below w.heap.size w w' := by
  have hN64 : N ≤ 64 := by
    have : n ≤ 12 := by rw [← h'.1]; exact hm.flip.2.1
    rw [← hN]; exact (all_one (n / 2) (by omega)).2.1
  have HX := Lib.hid hb; have H := Lib.hid h; have H' := Lib.hid h'; have HM := Lib.hid hm; have HN := Lib.hid hN; clear hb h h' hm hN
  go_enter Try.func49, Try.ntmps49
  go_wp2_with fail
  refine (subgraphs_any b A A' n c c' N t f w HX.out H.out H'.out HM.out HN.out).mono ?_
  rintro e w1 ⟨g, cc, rfl, hs, b1⟩
  have HS := Lib.hid hs; have HB1 := Lib.hid b1; clear hs b1
  go_wp2_with fail
  go_loopw [5, 7, 11] (fun qv _ kv wr => ∃ k q : Nat, k ≤ N ∧ kv = .int .i64 k ∧ qv = .int .i64 q ∧ q ≤ k ∧ Hid (q = cntG quasiS t f k) ∧ Hid (Below w1.heap.size w1 wr)) (fun _ _ kv _ => N - (intOf kv).toNat)
  case atStart => exact ⟨0, 0, Nat.zero_le _, rfl, rfl, Nat.le_refl _, rfl, Below.refl _ _⟩
  case round =>
    obtain ⟨k, q, hk, rfl, rfl, hqk, hq, hb⟩ := hrel
    by_cases hlt : k < N
    · obtain ⟨x0, x1, x2, x3, x4, h5⟩ := subL_five t f k
      obtain ⟨c0, c1, c2, c3, c4⟩ := (HS.out.below hb.out).five hlt h5
      have HBA : Hid (Below w1.heap.size w1 (wr.alloc (.cells #[.int .i64 x0, .int .i64 x1, .int .i64 x2, .int .i64 x3, .int .i64 x4] 50))) := hb.out.alloc hb.out.size _
      obtain ⟨r, hr⟩ : ∃ r, quasiS [x0, x1, x2, x3, x4] = r := ⟨_, rfl⟩
      have HQ : Hid (cntG quasiS t f (k + 1) = q + if r = true then 1 else 0) := by rw [Hid, cntG, ← hq.out, h5, hr]
      have HR := Lib.hid hr
      clear hr h5 hq
      cases r with
      | true =>
        go_wp2_with fail
        refine (isQuasi_any x0 x1 x2 x3 x4 _ HR.out).mono ?_
        rintro e w3 ⟨rfl, b3⟩
        have HB3 := Lib.hid (HBA.out.trans (b3.mono HBA.out.size)); clear b3
        go_wp2_with fail
        go_roundw
        case rel => exact ⟨k + 1, q + 1, by omega, by go_num, by go_num, by omega, by rw [Hid, HQ.out]; simp, HB3⟩
        case measure => simp [intOf]; omega
      | false =>
        go_wp2_with fail
        refine (isQuasi_any x0 x1 x2 x3 x4 _ HR.out).mono ?_
        rintro e w3 ⟨rfl, b3⟩
        have HB3 := Lib.hid (HBA.out.trans (b3.mono HBA.out.size)); clear b3
        go_wp2_with fail
        go_roundw
        case rel => exact ⟨k + 1, q, by omega, by go_num, rfl, by omega, by rw [Hid, HQ.out]; simp, HB3⟩
        case measure => simp [intOf]; omega
    · have hkN : k = N := by omega
      have HE : Hid (cntG quasiS t f N = q) := by rw [Hid, ← hkN]; exact hq.out.symm
      clear hkN
      go_wp2_with fail
      go_ret
      exact ⟨by rw [HE.out]; rfl, HB1.out.trans (hb.out.mono HB1.out.size)⟩

end Go.Proofs.Ytpaohaodnchfkaa

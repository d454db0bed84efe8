/-
  All choices of so many edges, as the model lists them: the list of the numbers' bits.
  All subgraphs, as the program keeps them in a row; those that a test holds of, counted.
  RibbonTrees, RibbonQuasis: the model's and the program's.
-/
import Derived.Test.YtcenffndclpjoaaRibC
import Derived.Test.YtcenffndclpjoaaMarkA
import Derived.Deep.RegionHeld3
namespace Go.Proofs.Ytcenffndclpjoaa
open Go.RowKit

def aL (K : Nat) : List (List Int) := (List.range K).map bL
theorem aL_len (K : Nat) : (aL K).length = K := by simp [aL]
theorem aL_succ (K : Nat) : aL (K + 1) = aL K ++ [bL K] := by simp [aL, List.range_succ]
theorem aL_get {K i : Nat} (h : i < K) : (aL K).getD i [] = bL i := by simp [aL, List.getD, h]

set_option maxHeartbeats 800000 in
theorem l2CopyO_any (lo : Nat) (A : Option Addr) (n c : Nat) (xs : List Int) (w : World) (h : Own w lo (.slice A n c) xs) (hl : xs.length = n) (hn : n ≤ 1000) :
    Calls Try.prog 73 #[.slice A n c] w fun e w' => ∃ A' c', e = .returned (.slice A' n c') ∧ Own w' w.heap.size (.slice A' n c') xs ∧ Below w.heap.size w w' := by
  have hb0 : Below w.heap.size w (w.alloc (.cells #[] 3)) := (Below.refl _ _).alloc (Nat.le_refl _) _
  have HE : Hid (Own (w.alloc (.cells #[] 3)) w.heap.size (.slice (some ⟨w.heap.size, 0, none⟩) 0 0) []) := Own.empty (Nat.le_refl _)
  have H := Lib.hid (h.below hb0)
  have HB0 := Lib.hid hb0; have HL := Lib.hid hl; clear hb0 h hl
  go_enter Try.func73, Try.ntmps73
  go_wp2_with (at_builtin; refine wpList_append_row rfl _ _ 23 rfl Try.underlying23 w.heap.size _ [] rfl HE.out _ lo xs rfl H.out (by rw [HL.out]; simp; omega) HB0.out.size ?_; intro v2 w2 hown2 hgrow2; obtain ⟨A2, c2, rfl, -, -⟩ := Own.form' hown2 (n := n) (by rw [List.nil_append, HL.out]); have HO2 := Lib.hid hown2; have HB2 := Lib.hid (lit_over hgrow2); clear hown2 hgrow2)
  go_ret
  exact ⟨_, _, rfl, by have := HO2.out; rwa [List.nil_append] at this, HB2.out⟩

set_option maxRecDepth 20000 in
set_option maxHeartbeats 3200000 in
theorem l7All_any (m : Nat) (w : World) (hm : m ≤ 6) :
    Calls Try.prog 41 #[.int .i64 m] w fun e w' => ∃ g cc, e = .returned (.slice (some ⟨g, 0, none⟩) (2 ^ m) cc) ∧ OwnSS w' w.heap.size w'.heap.size (.slice (some ⟨g, 0, none⟩) (2 ^ m) cc) (aL (2 ^ m)) ∧ Below w.heap.size w w' := by
  obtain ⟨i1, hinf1, hy0, hy1, hy2⟩ := info_parts info_slice
  obtain ⟨i0, hinf, hz0, hz1, hz2⟩ := info_parts info_int
  have HE0 : Hid (OwnSS ((w.alloc (.cells #[] 3)).alloc (.cells #[.slice (some ⟨w.heap.size, 0, none⟩) 0 0] 23)) w.heap.size ((w.alloc (.cells #[] 3)).alloc (.cells #[.slice (some ⟨w.heap.size, 0, none⟩) 0 0] 23)).heap.size (.slice (some ⟨w.heap.size + 1, 0, none⟩) 1 1) (aL 1)) := by
    have h := one_rowP (w := w.alloc (.cells #[] 3)) (lo := w.heap.size) (Own.empty (Nat.le_refl _)) (by simp)
    have e : aL 1 = [[]] := by decide +kernel
    rw [Hid, e]
    simpa using h
  have HB0 : Hid (Below w.heap.size w ((w.alloc (.cells #[] 3)).alloc (.cells #[.slice (some ⟨w.heap.size, 0, none⟩) 0 0] 23))) := ((Below.refl _ _).alloc (Nat.le_refl _) _).alloc (by simp) _
  go_enter Try.func41, Try.ntmps41
  go_wp2_with fail
  go_loopw [3, 4, 5, 6] (fun ov ev _ _ wr => ∃ (e N g cv : Nat), e ≤ m ∧ N ≤ 64 ∧ 1 ≤ N ∧ ev = .int .i64 e ∧ ov = .slice (some ⟨g, 0, none⟩) N cv ∧ Hid (N = 2 ^ e) ∧ Hid (OwnSS wr w.heap.size wr.heap.size (.slice (some ⟨g, 0, none⟩) N cv) (aL N)) ∧ Hid (Below w.heap.size w wr)) (fun _ ev _ _ _ => m - (intOf ev).toNat)
  case atStart => exact ⟨0, 1, _, 1, Nat.zero_le _, by omega, by omega, rfl, rfl, rfl, HE0.out, HB0.out⟩
  case round =>
    obtain ⟨e, N, g, cv, he, hN, hN1, rfl, rfl, hNe, hos, hb⟩ := hrel
    by_cases hlt : e < m
    · have hN32 : N ≤ 32 := by have := hNe.out; have := Nat.pow_le_pow_right (show 0 < 2 by decide) (show e ≤ 5 by omega); omega
      obtain ⟨wo, rfl⟩ : ∃ wo : World, wo = wr := ⟨_, rfl⟩
      go_wp2_with fail
      go_loopw [3, 6] (fun ov iv wz => ∃ (i K g cv : Nat), i ≤ N ∧ K ≤ 64 ∧ iv = .int .i64 i ∧ ov = .slice (some ⟨g, 0, none⟩) K cv ∧ Hid (K = i + N) ∧ Hid (OwnSS wz w.heap.size wz.heap.size (.slice (some ⟨g, 0, none⟩) K cv) (aL K)) ∧ Hid (Below w.heap.size w wz)) (fun _ iv _ => N - (intOf iv).toNat)
      case atStart => exact ⟨0, N, g, cv, Nat.zero_le _, hN, rfl, rfl, by rw [Hid, Nat.zero_add], hos, hb⟩
      case round =>
        clear hos hb
        obtain ⟨i, K, g, cv, hi, hK, rfl, rfl, hKi, hos, hb⟩ := hrel
        by_cases hil : i < N
        · have hiK : i < K := by have := hKi.out; omega
          have hK63 : K ≤ 63 := by have := hKi.out; omega
          obtain ⟨Ak, nk, ck, hck, hnk, hok, hnm⟩ := hos.out.at_ (aL_len K) hiK
          rw [aL_get hiK] at hnk hok
          have hi64 : i < 64 := by omega
          have hn6 : nk ≤ 6 := by rw [← hnk]; exact bL_few i hi64
          have HROW : Hid (bL K = bL i ++ [(e : Int)]) := by
            have := (bits_in e (by omega) i hi64 (by rw [← hNe.out]; exact hil)).1
            rw [Hid, hKi.out, hNe.out, this]
          have HNK := Lib.hid hnk; have HOK := Lib.hid hok
          have hbz := hb.out.size
          clear hnk hok hnm
          go_wp2_with fail
          refine (l2CopyO_any w.heap.size Ak nk ck (bL i) _ HOK.out HNK.out (by omega)).mono ?_
          rintro e' w1 ⟨A1, c1, rfl, o1, b1⟩
          have HO1 := Lib.hid o1; have HB1 := Lib.hid b1; have HS1 := Lib.hid (hos.out.below b1)
          have HA1 := o1.asRow HNK.out
          have hb1s := b1.size
          obtain ⟨vs, hvl, hvo, hvr, hvd⟩ := HS1.out
          have HVL := Lib.hid hvl
          rw [aL_len] at hvo
          have HVO := Lib.hid hvo; have HVR := Lib.hid hvr; have HVD := Lib.hid hvd
          clear o1 b1 hvl hvo hvr hvd hck
          have HGL : Hid (g < wr.heap.size) := by obtain ⟨vs, _, ho, _⟩ := hos.out; exact (ho.lt g rfl).2
          have HKI := Lib.hid hKi.out
          go_wp2_with (first
            | (have hchk := HO2.out; clear hchk; at_builtin; refine wpList_append_own _ rfl (.tmp 21) (.tmp 30) 61 rfl w.heap.size 23 i1 (.slice none 0 0) 1 24 Try.underlying61 hinf1 hy0 hy1 hy2 rfl (by decide) _ _ _ rfl (HVO2.out.alloc _) ⟨w2.heap.size, 0, none⟩ 1 1 [.slice A2 (nk + 1) c2] rfl rfl (cell_one_new _ _ _) (by intro u hu; simp at hu; subst hu; rfl) (by unfold maxLen; omega) (by omega) (by rw [World.size_alloc]; omega) ?_; intro v3 w3 hown3 hgrow3 hnil3; have HO3 := Lib.hid hown3; have HG3 := Lib.hid hgrow3; have HN3 := Lib.hid hnil3; clear hown3 hgrow3 hnil3)
            | (at_builtin; refine wpList_append_own _ rfl (.tmp 26) (.tmp 28) 23 rfl wr.heap.size 3 i0 (.int .i64 0) 1 8 Try.underlying23 hinf hz0 hz1 hz2 rfl (by decide) _ _ _ rfl (HA1.out.alloc _) ⟨w1.heap.size, 0, none⟩ 1 1 [.int .i64 (e : Int)] rfl rfl (cell_one_new _ _ _) (by intro u hu; simp at hu; subst hu; rfl) (by unfold maxLen; omega) (by omega) (by simp; omega) ?_; intro v2 w2 hown2 hgrow2 hnil2; have ha := app_int (by omega) HO1.out HNK.out hown2 hgrow2; obtain ⟨A2, c2, rfl, -, -⟩ := Own.form' ha.1 (n := nk + 1) (by rw [List.length_append, HNK.out]; rfl); have HO2 := Lib.hid ha.1; have HB2 := Lib.hid ha.2; have HVO2 := Lib.hid (ownsRow_fix HVO.out (hi := wr.heap.size) (fun k hk => by cases hk; exact HGL.out) (Fix.below ha.2 (Nat.le_refl _))); have hb2s := ha.2.size; clear ha hown2 hgrow2 hnil2))
          go_roundw
          case rel =>
            obtain ⟨gq, cq, rfl⟩ := own_someP HO3.out (fun e => by cases (HN3.out.1 e).1)
            have hba : Below w2.heap.size w2 (w2.alloc (.cells #[.slice A2 (nk + 1) c2] 23)) := (Below.refl _ _).alloc (Nat.le_refl _) _
            have hb13 : Below wr.heap.size wr (w2.alloc (.cells #[.slice A2 (nk + 1) c2] 23)) := (HB1.out.trans HB2.out).alloc (by omega) _
            have hb23 : Below wr.heap.size w1 (w2.alloc (.cells #[.slice A2 (nk + 1) c2] 23)) := HB2.out.alloc (by omega) _
            have hs3 := HG3.out.size
            rw [World.size_alloc] at hs3
            have hlt2 := HO2.out.lt
            refine ⟨i + 1, K + 1, gq, cq, by omega, by omega, by go_num, rfl, by rw [Hid, HKI.out]; omega, ?_, ?_⟩
            · have hsn := OwnSS.snoc (hi := wr.heap.size) (hi' := w3.heap.size) (xss := aL K) (xs := bL i ++ [(e : Int)]) (u := .slice A2 (nk + 1) c2) HVL.out (fun j hj => ⟨ownsRow_fix (HVR.out j hj).1 (HVR.out j hj).2 (Fix.below hb23 (Nat.le_refl _)), (HVR.out j hj).2⟩) HVD.out (by rw [aL_len]; exact HVO2.out.alloc _) ((HO2.out.below hba).mono hbz) (fun k hk => (hlt2 k hk).1) (by omega) (fun k hk => by have := (hlt2 k hk).2; omega) (by rw [aL_len]; exact HO3.out) HG3.out
              rw [aL_succ, HROW.out]
              exact hsn
            · exact (hb.out.trans (hb13.mono hbz)).grown HG3.out (by rw [World.size_alloc]; omega) (fun k hk => by cases hk; exact (HVO.out.lt g rfl).1)
          case measure => simp [intOf]; omega
        · have hiN : i = N := by omega
          have HIN : Hid (K = 2 ^ (e + 1)) := by have := hKi.out; have := hNe.out; rw [Hid, Nat.pow_succ]; omega
          have hK1 : 1 ≤ K := by have := hKi.out; omega
          clear hiN
          go_wp2_with fail
          go_roundw
          case rel => exact ⟨e + 1, K, g, cv, by omega, hK, hK1, by go_num, rfl, HIN, hos, hb⟩
          case measure => simp [intOf]; omega
    · have hem : e = m := by omega
      have HF : Hid (2 ^ m = N) := by rw [Hid, ← hem]; exact hNe.out.symm
      clear hem
      go_wp2_with fail
      go_ret
      rw [HF.out]
      exact ⟨g, cv, rfl, hos.out, hb.out⟩

end Go.Proofs.Ytcenffndclpjoaa

namespace Go.Proofs.Ytcenffndclpjoaa
open Go.RowKit

/-- The cells of the first k subgraphs. -/
noncomputable def gC (t f : List Int) (k : Nat) : List Value := (List.range (k * 5)).map fun i => .int .i64 (gi (subL t f (i / 5)) (i % 5))
theorem gC_get {t f : List Int} {k i : Nat} (h : i < k * 5) : (gC t f k)[i]? = some (.int .i64 (gi (subL t f (i / 5)) (i % 5))) := by
  simp [gC, h]
theorem gC_succ {t f : List Int} {k : Nat} {x0 x1 x2 x3 x4 : Int} (h : subL t f k = [x0, x1, x2, x3, x4]) : gC t f (k + 1) = gC t f k ++ [.int .i64 x0, .int .i64 x1, .int .i64 x2, .int .i64 x3, .int .i64 x4] := by
  unfold gC
  rw [show (k + 1) * 5 = k * 5 + 1 + 1 + 1 + 1 + 1 by omega]
  simp only [List.range_succ, List.map_append, List.map_cons, List.map_nil, List.append_assoc, List.cons_append, List.nil_append]
  rw [show k * 5 / 5 = k by omega, show (k * 5 + 1) / 5 = k by omega, show (k * 5 + 1 + 1) / 5 = k by omega, show (k * 5 + 1 + 1 + 1) / 5 = k by omega, show (k * 5 + 1 + 1 + 1 + 1) / 5 = k by omega,
    show k * 5 % 5 = 0 by omega, show (k * 5 + 1) % 5 = 1 by omega, show (k * 5 + 1 + 1) % 5 = 2 by omega, show (k * 5 + 1 + 1 + 1) % 5 = 3 by omega, show (k * 5 + 1 + 1 + 1 + 1) % 5 = 4 by omega, h]
  rfl
theorem info_sub : (Try.prog.info? 51).map (fun i => (i.zero, i.size, i.bytes)) = some (some (.agg #[.int .i64 0, .int .i64 0, .int .i64 0, .int .i64 0, .int .i64 0]), 5, 40) := by kernel_rfl
theorem cells_lit (w : World) (us : List Value) (t : TypeId) : ∀ (j : Nat) (v : Value), us[j]? = some v → (w.alloc (.cells us.toArray t)).cell? ((⟨w.heap.size, 0, none⟩ : Addr).add j) = some v := by
  intro j v hj
  have e : (⟨w.heap.size, 0, none⟩ : Addr).add j = ⟨w.heap.size, j, none⟩ := by unfold Addr.add; split <;> simp_all
  rw [e, cell_of_row _ w.heap.size j _ _ (0, 0) (heap_alloc_new w _)]
  simpa using hj
/-- Block g holds the subgraphs of the first N choices. -/
def SubsAt (w : World) (g N : Nat) (t f : List Int) : Prop := g < w.heap.size ∧ ∀ k, k < N → ∀ r, r < 5 → w.cell? ⟨g, k * 5 + r, none⟩ = some (.int .i64 (gi (subL t f k) r))
theorem SubsAt.below {w w' : World} {g N : Nat} {t f : List Int} (h : SubsAt w g N t f) (hb : Below w.heap.size w w') : SubsAt w' g N t f :=
  ⟨by have := h.1; have := hb.size; omega, fun k hk r hr => (hb.cell (p := ⟨g, k * 5 + r, none⟩) h.1).trans (h.2 k hk r hr)⟩
theorem SubsAt.five {w : World} {g N : Nat} {t f : List Int} (h : SubsAt w g N t f) {k : Nat} (hk : k < N) {x0 x1 x2 x3 x4 : Int} (hx : subL t f k = [x0, x1, x2, x3, x4]) :
    w.cell? ⟨g, k * 5, none⟩ = some (.int .i64 x0) ∧ w.cell? ⟨g, k * 5 + 1, none⟩ = some (.int .i64 x1) ∧ w.cell? ⟨g, k * 5 + 2, none⟩ = some (.int .i64 x2) ∧ w.cell? ⟨g, k * 5 + 3, none⟩ = some (.int .i64 x3) ∧ w.cell? ⟨g, k * 5 + 4, none⟩ = some (.int .i64 x4) := by
  have h0 := h.2 k hk 0 (by omega)
  have h1 := h.2 k hk 1 (by omega)
  have h2 := h.2 k hk 2 (by omega)
  have h3 := h.2 k hk 3 (by omega)
  have h4 := h.2 k hk 4 (by omega)
  rw [hx] at h0 h1 h2 h3 h4
  exact ⟨h0, h1, h2, h3, h4⟩
theorem all_one : ∀ h : Nat, h < 7 → IntKind.u64.wrap (((2 ^ h - 1 : Nat) : Int) + 1) = ((2 ^ h : Nat) : Int) ∧ 2 ^ h ≤ 64 ∧ 1 ≤ 2 ^ h := by decide +kernel

set_option maxRecDepth 20000 in
set_option maxHeartbeats 1600000 in
theorem subgraphs_any (b : Nat) (A A' : Option Addr) (n c c' N : Nat) (t f : List Int) (w : World) (hb : Box2 w b A n c A' n c') (h : Rd w A n t) (h' : Rd w A' n f) (hm : IsMap t f) (hN : 2 ^ (n / 2) = N) :
    Calls Try.prog 71 #[.pointer (some ⟨b, 0, none⟩)] w fun e w' => ∃ g cc, e = .returned (.slice (some ⟨g, 0, none⟩) N cc) ∧ SubsAt w' g N t f ∧ Below w.heap.size w w' := by
  obtain ⟨i0, hinf, hz0, hz1, hz2⟩ := info_parts info_sub
  have hn12 : n ≤ 12 := by rw [← h'.1]; exact hm.flip.2.1
  obtain ⟨h2, hh2⟩ : ∃ h2, n / 2 = h2 := ⟨_, rfl⟩
  rw [hh2] at hN
  obtain ⟨a1, a2, a3⟩ := all_one h2 (by omega)
  obtain ⟨al, hal⟩ : ∃ al : Nat, 2 ^ h2 - 1 = al := ⟨_, rfl⟩
  rw [hal, hN] at a1
  rw [hN] at a2 a3
  have HX := Lib.hid hb; have H := Lib.hid h; have H' := Lib.hid h'; have HM := Lib.hid hm; have HAL := Lib.hid hal; have HH := Lib.hid hh2; clear hb h h' hm hal hN hh2
  go_enter Try.func71, Try.ntmps71
  go_wp2_with fail
  refine (allEdges_any b A A' n n c c' h2 w HX.out hn12 HH.out).mono ?_
  rintro e w1 ⟨rfl, rfl⟩
  rw [HAL.out]
  go_wp2_with fail
  go_loopw [3, 4, 8] (fun v _ kv wr => ∃ k : Nat, k ≤ N ∧ kv = .int .u64 k ∧ Hid (wr.ownsRow w.heap.size 51 5 v k (gC t f k)) ∧ Hid (Below w.heap.size w wr)) (fun _ _ kv _ => N - (intOf kv).toNat)
  case atStart => exact ⟨0, Nat.zero_le _, rfl, World.ownsRow_nil w _ _ _, Below.refl _ _⟩
  case round =>
    obtain ⟨k, hk, rfl, ho, hb⟩ := hrel
    have hbs := hb.out.size
    by_cases hlt : k < N
    · obtain ⟨x0, x1, x2, x3, x4, h5⟩ := subL_five t f k
      have H5 := Lib.hid h5; clear h5
      have g1 : IntKind.u64.wrap ((k : Int) + 1) = ((k + 1 : Nat) : Int) := by
        have : (k : Int) + 1 = ((k + 1 : Nat) : Int) := by omega
        rw [this]; exact IntWalk.u64_in _ (by omega)
      go_wp2_with fail
      refine (subgraph_lit b A A' n c c' k t f wr (HX.out.below hb.out) (H.out.below hb.out) (H'.out.below hb.out) HM.out (by omega) H5.out).mono ?_
      rintro e w2 ⟨rfl, b2⟩
      have HB2 := Lib.hid (hb.out.trans (b2.mono hbs))
      have HO2 : Hid (w2.ownsRow w.heap.size 51 5 _ k (gC t f k)) := World.ownsRow.kept ho.out (row := none) ⟨b2.os, b2.tape, b2.output, b2.size, fun i hi _ => b2.block i hi⟩ (by cases Value.ownBlock _ <;> simp)
      have hb2s := HB2.out.size
      clear b2
      go_wp2_with (at_builtin; refine wpList_append_own _ rfl _ _ 84 rfl w.heap.size 51 i0 (.agg #[.int .i64 0, .int .i64 0, .int .i64 0, .int .i64 0, .int .i64 0]) 5 40 Try.underlying84 hinf hz0 hz1 hz2 rfl (by decide) _ _ _ rfl (HO2.out.alloc _) ⟨w2.heap.size, 0, none⟩ 1 1 [.int .i64 x0, .int .i64 x1, .int .i64 x2, .int .i64 x3, .int .i64 x4] rfl rfl (cells_lit _ _ _) (by intro u hu; simp at hu; rcases hu with rfl | rfl | rfl | rfl | rfl <;> rfl) (by unfold maxLen; omega) (by omega) (by simp; omega) ?_; intro v3 w3 hown3 hgrow3 _; have HO3 := Lib.hid hown3; have HG3 := Lib.hid hgrow3; clear hown3 hgrow3)
      go_roundw
      case rel => exact ⟨k + 1, by omega, rfl, by rw [gC_succ H5.out]; exact HO3.out, (HB2.out.alloc hb2s _).grown HG3.out (by simp; omega) (fun j hj => (HO2.out.lt j hj).1)⟩
      case measure => simp [intOf]; omega
    · have hkN : k = N := by omega
      subst hkN
      obtain ⟨g, cc, rfl⟩ : ∃ g cc, u3 = .slice (some ⟨g, 0, none⟩) k cc := by
        rcases ho.out.2 with ⟨rfl, hz⟩ | ⟨g, cap, cur, rfl, _⟩
        · omega
        · exact ⟨g, cap, rfl⟩
      go_wp2_with fail
      go_ret
      refine ⟨g, cc, rfl, ⟨(ho.out.lt g rfl).2, fun j hj r hr => ?_⟩, hb.out⟩
      have h1 : (j * 5 + r) / 5 = j := by omega
      have h2 : (j * 5 + r) % 5 = r := by omega
      have := World.ownsRow.cells ho.out rfl (j * 5 + r) _ (gC_get (by omega))
      rw [h1, h2] at this
      rwa [show (⟨g, 0, none⟩ : Addr).add (j * 5 + r) = ⟨g, j * 5 + r, none⟩ from by unfold Addr.add; split <;> simp_all] at this

/-- How many of the first k choices a test holds of. -/
noncomputable def cntG (S : List Int → Bool) (t f : List Int) : Nat → Nat
  | 0 => 0
  | k + 1 => cntG S t f k + if S (subL t f k) = true then 1 else 0
theorem cntG_le (S : List Int → Bool) (t f : List Int) : ∀ k, cntG S t f k ≤ k
  | 0 => Nat.le_refl _
  | k + 1 => by have := cntG_le S t f k; rw [cntG]; split <;> omega


set_option maxRecDepth 20000 in
set_option maxHeartbeats 1600000 in
theorem count_isTree (b : Nat) (A A' : Option Addr) (n c c' N : Nat) (t f : List Int) (w : World) (hb : Box2 w b A n c A' n c') (h : Rd w A n t) (h' : Rd w A' n f) (hm : IsMap t f) (hN : 2 ^ (n / 2) = N) :
    Calls Try.prog 39 #[.pointer (some ⟨b, 0, none⟩), .func (.func 36) #[] #[]] w fun e w' => e = .returned (.int .i64 (cntG treeS t f N : Nat)) ∧ Below w.heap.size w w' := by
  have hN64 : N ≤ 64 := by
    have : n ≤ 12 := by rw [← h'.1]; exact hm.flip.2.1
    rw [← hN]; exact (all_one (n / 2) (by omega)).2.1
  have HX := Lib.hid hb; have H := Lib.hid h; have H' := Lib.hid h'; have HM := Lib.hid hm; have HN := Lib.hid hN; clear hb h h' hm hN
  go_enter Try.func39, Try.ntmps39
  go_wp2_with fail
  refine (subgraphs_any b A A' n c c' N t f w HX.out H.out H'.out HM.out HN.out).mono ?_
  rintro e w1 ⟨g, cc, rfl, hs, b1⟩
  have HS := Lib.hid hs; have HB1 := Lib.hid b1; clear hs b1
  go_wp2_with fail
  go_loopw [5, 7, 11] (fun qv _ kv wr => ∃ k q : Nat, k ≤ N ∧ kv = .int .i64 k ∧ qv = .int .i64 q ∧ q ≤ k ∧ Hid (q = cntG treeS t f k) ∧ Hid (Below w1.heap.size w1 wr)) (fun _ _ kv _ => N - (intOf kv).toNat)
  case atStart => exact ⟨0, 0, Nat.zero_le _, rfl, rfl, Nat.le_refl _, rfl, Below.refl _ _⟩
  case round =>
    obtain ⟨k, q, hk, rfl, rfl, hqk, hq, hb⟩ := hrel
    by_cases hlt : k < N
    · obtain ⟨x0, x1, x2, x3, x4, h5⟩ := subL_five t f k
      obtain ⟨c0, c1, c2, c3, c4⟩ := (HS.out.below hb.out).five hlt h5
      have HBA : Hid (Below w1.heap.size w1 (wr.alloc (.cells #[.int .i64 x0, .int .i64 x1, .int .i64 x2, .int .i64 x3, .int .i64 x4] 51))) := hb.out.alloc hb.out.size _
      obtain ⟨r, hr⟩ : ∃ r, treeS [x0, x1, x2, x3, x4] = r := ⟨_, rfl⟩
      have HQ : Hid (cntG treeS t f (k + 1) = q + if r = true then 1 else 0) := by rw [Hid, cntG, ← hq.out, h5, hr]
      have HR := Lib.hid hr
      clear hr h5 hq
      cases r with
      | true =>
        go_wp2_with fail
        refine (isTree_any x0 x1 x2 x3 x4 _ HR.out).mono ?_
        rintro e w3 ⟨rfl, b3⟩
        have HB3 := Lib.hid (HBA.out.trans (b3.mono HBA.out.size)); clear b3
        go_wp2_with fail
        go_roundw
        case rel => exact ⟨k + 1, q + 1, by omega, by go_num, by go_num, by omega, by rw [Hid, HQ.out]; simp, HB3⟩
        case measure => simp [intOf]; omega
      | false =>
        go_wp2_with fail
        refine (isTree_any x0 x1 x2 x3 x4 _ HR.out).mono ?_
        rintro e w3 ⟨rfl, b3⟩
        have HB3 := Lib.hid (HBA.out.trans (b3.mono HBA.out.size)); clear b3
        go_wp2_with fail
        go_roundw
        case rel => exact ⟨k + 1, q, by omega, by go_num, rfl, by omega, by rw [Hid, HQ.out]; simp, HB3⟩
        case measure => simp [intOf]; omega
    · have hkN : k = N := by omega
      have HE : Hid (cntG treeS t f N = q) := by rw [Hid, ← hkN]; exact hq.out.symm
      clear hkN
      go_wp2_with fail
      go_ret
      exact ⟨by rw [HE.out]; rfl, HB1.out.trans (hb.out.mono HB1.out.size)⟩

set_option maxRecDepth 20000 in
set_option maxHeartbeats 1600000 in
theorem count_isQuasi (b : Nat) (A A' : Option Addr) (n c c' N : Nat) (t f : List Int) (w : World) (hb : Box2 w b A n c A' n c') (h : Rd w A n t) (h' : Rd w A' n f) (hm : IsMap t f) (hN : 2 ^ (n / 2) = N) :
    Calls Try.prog 39 #[.pointer (some ⟨b, 0, none⟩), .func (.func 37) #[] #[]] w fun e w' => e = .returned (.int .i64 (cntG quasiS t f N : Nat)) ∧ Below w.heap.size w w' := by
  have hN64 : N ≤ 64 := by
    have : n ≤ 12 := by rw [← h'.1]; exact hm.flip.2.1
    rw [← hN]; exact (all_one (n / 2) (by omega)).2.1
  have HX := Lib.hid hb; have H := Lib.hid h; have H' := Lib.hid h'; have HM := Lib.hid hm; have HN := Lib.hid hN; clear hb h h' hm hN
  go_enter Try.func39, Try.ntmps39
  go_wp2_with fail
  refine (subgraphs_any b A A' n c c' N t f w HX.out H.out H'.out HM.out HN.out).mono ?_
  rintro e w1 ⟨g, cc, rfl, hs, b1⟩
  have HS := Lib.hid hs; have HB1 := Lib.hid b1; clear hs b1
  go_wp2_with fail
  go_loopw [5, 7, 11] (fun qv _ kv wr => ∃ k q : Nat, k ≤ N ∧ kv = .int .i64 k ∧ qv = .int .i64 q ∧ q ≤ k ∧ Hid (q = cntG quasiS t f k) ∧ Hid (Below w1.heap.size w1 wr)) (fun _ _ kv _ => N - (intOf kv).toNat)
  case atStart => exact ⟨0, 0, Nat.zero_le _, rfl, rfl, Nat.le_refl _, rfl, Below.refl _ _⟩
  case round =>
    obtain ⟨k, q, hk, rfl, rfl, hqk, hq, hb⟩ := hrel
    by_cases hlt : k < N
    · obtain ⟨x0, x1, x2, x3, x4, h5⟩ := subL_five t f k
      obtain ⟨c0, c1, c2, c3, c4⟩ := (HS.out.below hb.out).five hlt h5
      have HBA : Hid (Below w1.heap.size w1 (wr.alloc (.cells #[.int .i64 x0, .int .i64 x1, .int .i64 x2, .int .i64 x3, .int .i64 x4] 51))) := hb.out.alloc hb.out.size _
      obtain ⟨r, hr⟩ : ∃ r, quasiS [x0, x1, x2, x3, x4] = r := ⟨_, rfl⟩
      have HQ : Hid (cntG quasiS t f (k + 1) = q + if r = true then 1 else 0) := by rw [Hid, cntG, ← hq.out, h5, hr]
      have HR := Lib.hid hr
      clear hr h5 hq
      cases r with
      | true =>
        go_wp2_with fail
        refine (isQuasi_any x0 x1 x2 x3 x4 _ HR.out).mono ?_
        rintro e w3 ⟨rfl, b3⟩
        have HB3 := Lib.hid (HBA.out.trans (b3.mono HBA.out.size)); clear b3
        go_wp2_with fail
        go_roundw
        case rel => exact ⟨k + 1, q + 1, by omega, by go_num, by go_num, by omega, by rw [Hid, HQ.out]; simp, HB3⟩
        case measure => simp [intOf]; omega
      | false =>
        go_wp2_with fail
        refine (isQuasi_any x0 x1 x2 x3 x4 _ HR.out).mono ?_
        rintro e w3 ⟨rfl, b3⟩
        have HB3 := Lib.hid (HBA.out.trans (b3.mono HBA.out.size)); clear b3
        go_wp2_with fail
        go_roundw
        case rel => exact ⟨k + 1, q, by omega, by go_num, rfl, by omega, by rw [Hid, HQ.out]; simp, HB3⟩
        case measure => simp [intOf]; omega
    · have hkN : k = N := by omega
      have HE : Hid (cntG quasiS t f N = q) := by rw [Hid, ← hkN]; exact hq.out.symm
      clear hkN
      go_wp2_with fail
      go_ret
      exact ⟨by rw [HE.out]; rfl, HB1.out.trans (hb.out.mono HB1.out.size)⟩

end Go.Proofs.Ytcenffndclpjoaa

namespace Go.Proofs.Ytcenffndclpjoaa
open Go.RowKit

theorem asc_in : ∀ m : Nat, m < 7 → ∀ s : Nat, s < 64 → s < 2 ^ m → ascB m (bL s) = true := by decide +kernel
theorem chV_of {t f : List Int} (hm : IsMap t f) {s : Nat} (hs : s < 2 ^ (f.length / 2)) : chV t f (bL s) = true ∧ sOf (bL s) = s ∧ s < 64 := by
  have h6 : f.length / 2 ≤ 6 := by have := hm.flip.2.1; omega
  have h64 := lt_of_pow hs h6
  refine ⟨?_, sOf_eq h64 rfl, h64⟩
  rw [chV, asc_in _ (by omega) s h64 hs, mapV_iff.2 hm]; rfl
noncomputable def ribR (S : List Int → Bool) (t f : List Int) : Int := if mapV t f = true then (cntG S t f (2 ^ (f.length / 2)) : Nat) else -1
noncomputable def ribT (t f : List Int) : Int := ribR treeS t f
noncomputable def ribQ (t f : List Int) : Int := ribR quasiS t f
theorem addr0 (g k : Nat) : (⟨g, 0, none⟩ : Addr).add k = ⟨g, k, none⟩ := by unfold Addr.add; split <;> simp_all

set_option maxHeartbeats 1600000 in
theorem impl_ribT (w : World) (A A' : Option Addr) (n n' c c' : Nat) (t f : List Int) (h : Rd w A n t) (h' : Rd w A' n' f) (hn : n ≤ 1048576) (hn' : n' ≤ 1048576) {r : Int} (hR : ribT t f = r) :
    Calls Try.prog 23 #[.agg #[.slice A n c, .slice A' n' c']] w fun e w' => e = .returned (.int .i64 r) ∧ Below w.heap.size w w' := by
  obtain ⟨W0, hW0, hx, hb, -⟩ := Box.local_ w 25 (.slice A n c) (.slice A' n' c')
  have HX := Lib.hid hx; have HB := Lib.hid hb; have H := Lib.hid h; have H' := Lib.hid h'; clear hx hb h h'
  by_cases hv : mapV t f = true
  · have hm := mapV_iff.1 hv
    obtain rfl : n = n' := hm.same H.out.1 H'.out.1
    have HE : Hid (((cntG treeS t f (2 ^ (n / 2)) : Nat) : Int) = r) := by rw [Hid, ← hR, ribT, ribR, if_pos hv, H'.out.1]
    have HV := Lib.hid hv; have HM := Lib.hid hm; clear hv hm hR
    go_enter Try.func23, Try.ntmps23
    go_wp2_with fail
    refine (valid_lit w.heap.size A A' n n c c' t f W0 HX.out (H.out.below HB.out) (H'.out.below HB.out) hn hn' HV.out).mono ?_
    rintro e w1 ⟨rfl, b⟩
    have HX1 := Lib.hid (HX.out.below b)
    have HB1 := Lib.hid (HB.out.trans (b.mono HB.out.size)); clear b
    go_wp2_with fail
    refine (count_isTree w.heap.size A A' n c c' _ t f w1 HX1.out (H.out.below HB1.out) (H'.out.below HB1.out) HM.out rfl).mono ?_
    rintro e w2 ⟨rfl, b⟩
    have HB2 := Lib.hid (HB1.out.trans (b.mono HB1.out.size)); clear b
    go_wp2_with fail
    go_ret
    exact ⟨ret_int HE.out, HB2.out⟩
  · have hv' : mapV t f = false := by simpa using hv
    obtain rfl : r = -1 := by rw [← hR, ribT, ribR, if_neg hv]
    have HV := Lib.hid hv'; clear hR hv hv'
    go_enter Try.func23, Try.ntmps23
    go_wp2_with fail
    refine (valid_lit w.heap.size A A' n n' c c' t f W0 HX.out (H.out.below HB.out) (H'.out.below HB.out) hn hn' HV.out).mono ?_
    rintro e w1 ⟨rfl, b⟩
    have HB1 := Lib.hid (HB.out.trans (b.mono HB.out.size)); clear b
    go_wp2_with fail
    go_ret
    exact ⟨rfl, HB1.out⟩

set_option maxHeartbeats 1600000 in
theorem impl_ribQ (w : World) (A A' : Option Addr) (n n' c c' : Nat) (t f : List Int) (h : Rd w A n t) (h' : Rd w A' n' f) (hn : n ≤ 1048576) (hn' : n' ≤ 1048576) {r : Int} (hR : ribQ t f = r) :
    Calls Try.prog 19 #[.agg #[.slice A n c, .slice A' n' c']] w fun e w' => e = .returned (.int .i64 r) ∧ Below w.heap.size w w' := by
  obtain ⟨W0, hW0, hx, hb, -⟩ := Box.local_ w 25 (.slice A n c) (.slice A' n' c')
  have HX := Lib.hid hx; have HB := Lib.hid hb; have H := Lib.hid h; have H' := Lib.hid h'; clear hx hb h h'
  by_cases hv : mapV t f = true
  · have hm := mapV_iff.1 hv
    obtain rfl : n = n' := hm.same H.out.1 H'.out.1
    have HE : Hid (((cntG quasiS t f (2 ^ (n / 2)) : Nat) : Int) = r) := by rw [Hid, ← hR, ribQ, ribR, if_pos hv, H'.out.1]
    have HV := Lib.hid hv; have HM := Lib.hid hm; clear hv hm hR
    go_enter Try.func19, Try.ntmps19
    go_wp2_with fail
    refine (valid_lit w.heap.size A A' n n c c' t f W0 HX.out (H.out.below HB.out) (H'.out.below HB.out) hn hn' HV.out).mono ?_
    rintro e w1 ⟨rfl, b⟩
    have HX1 := Lib.hid (HX.out.below b)
    have HB1 := Lib.hid (HB.out.trans (b.mono HB.out.size)); clear b
    go_wp2_with fail
    refine (count_isQuasi w.heap.size A A' n c c' _ t f w1 HX1.out (H.out.below HB1.out) (H'.out.below HB1.out) HM.out rfl).mono ?_
    rintro e w2 ⟨rfl, b⟩
    have HB2 := Lib.hid (HB1.out.trans (b.mono HB1.out.size)); clear b
    go_wp2_with fail
    go_ret
    exact ⟨ret_int HE.out, HB2.out⟩
  · have hv' : mapV t f = false := by simpa using hv
    obtain rfl : r = -1 := by rw [← hR, ribQ, ribR, if_neg hv]
    have HV := Lib.hid hv'; clear hR hv hv'
    go_enter Try.func19, Try.ntmps19
    go_wp2_with fail
    refine (valid_lit w.heap.size A A' n n' c c' t f W0 HX.out (H.out.below HB.out) (H'.out.below HB.out) hn hn' HV.out).mono ?_
    rintro e w1 ⟨rfl, b⟩
    have HB1 := Lib.hid (HB.out.trans (b.mono HB.out.size)); clear b
    go_wp2_with fail
    go_ret
    exact ⟨rfl, HB1.out⟩

set_option maxRecDepth 20000 in
set_option maxHeartbeats 3200000 in
theorem spec_ribQ (w : World) (A A' : Option Addr) (n n' c c' : Nat) (t f : List Int) (h : Rd w A n t) (h' : Rd w A' n' f) (hn : n ≤ 1048576) (hn' : n' ≤ 1048576) {r : Int} (hR : ribQ t f = r) :
    Calls Try.prog 20 #[.agg #[.slice A n c, .slice A' n' c']] w fun e w' => e = .returned (.int .i64 r) ∧ Below w.heap.size w w' := by
  obtain ⟨W0, hW0, hx, hb, -⟩ := Box.local_ w 25 (.slice A n c) (.slice A' n' c')
  have c0 := hx.cell0
  have c1 := hx.cell1
  have HX := Lib.hid hx; have HB := Lib.hid hb; have H := Lib.hid h; have H' := Lib.hid h'; clear hx hb h h'
  by_cases hv : mapV t f = true
  · have hm := mapV_iff.1 hv
    obtain rfl : n = n' := hm.same H.out.1 H'.out.1
    have hn12 : n ≤ 12 := by rw [← H'.out.1]; exact hm.flip.2.1
    obtain ⟨h2, hh2⟩ : ∃ h2, n / 2 = h2 := ⟨_, rfl⟩
    obtain ⟨N, hN⟩ : ∃ N, 2 ^ h2 = N := ⟨_, rfl⟩
    have hN64 : N ≤ 64 := by rw [← hN]; exact (all_one h2 (by omega)).2.1
    have h26 : h2 ≤ 6 := by omega
    have g2 : (n : Int) / 2 = (h2 : Int) := by omega
    have HE : Hid (((cntG quasiS t f N : Nat) : Int) = r) := by rw [Hid, ← hR, ribQ, ribR, if_pos hv, H'.out.1, hh2, hN]
    have HCV : Hid (∀ i, i < N → quasiCB t f (bL i) = quasiS (subL t f i) ∧ i < 64) := fun i hi => by
      obtain ⟨e1, e2, e3⟩ := chV_of hm (s := i) (by rw [H'.out.1, hh2, hN]; exact hi)
      exact ⟨by rw [quasiCB, e1, e2, Bool.true_and], e3⟩
    have HV := Lib.hid hv; have HM := Lib.hid hm; have HN := Lib.hid hN; clear hv hm hR hh2 hN
    go_enter Try.func20, Try.ntmps20
    go_wp2_with fail
    refine (spec_mapV W0 A A' n n c c' t f (H.out.below HB.out) (H'.out.below HB.out) hn hn' HV.out).mono ?_
    rintro e w1 ⟨rfl, b⟩
    have hx1 := HX.out.below b
    have d1 := hx1.cell1
    have HB1 := Lib.hid (HB.out.trans (b.mono HB.out.size)); have HX1 := Lib.hid hx1
    clear b c0 c1 hx1
    go_wp2_with fail
    refine (l7All_any h2 w1 h26).mono ?_
    rintro e w2 ⟨g, cc, rfl, o, b⟩
    rw [HN.out]
    rw [HN.out] at o
    have HSS := Lib.hid (o.rd (aL_len N))
    have HB2 := Lib.hid (HB1.out.trans (b.mono HB1.out.size)); have HX2 := Lib.hid (HX1.out.below b)
    clear o b d1
    go_wp2_with fail
    go_loopw [3, 5] (fun qv kv wr => ∃ k q : Nat, k ≤ N ∧ kv = .int .i64 k ∧ qv = .int .i64 q ∧ q ≤ k ∧ Hid (q = cntG quasiS t f k) ∧ Hid (Below w2.heap.size w2 wr)) (fun _ kv _ => N - (intOf kv).toNat)
    case atStart => exact ⟨0, 0, Nat.zero_le _, rfl, rfl, Nat.le_refl _, rfl, Below.refl _ _⟩
    case round =>
      obtain ⟨k, q, hk, rfl, rfl, hqk, hq, hb⟩ := hrel
      by_cases hlt : k < N
      · have HBR := Lib.hid (HB2.out.trans (hb.out.mono HB2.out.size))
        have hx := HX2.out.below hb.out
        obtain ⟨e1, e2⟩ := HCV.out k hlt
        obtain ⟨ad, Aj, cj, nj, hAe, hc, hrr, -⟩ := (HSS.out.below hb.out).at_ hlt
        rw [aL_get hlt] at hrr
        have hnj : nj ≤ 6 := by rw [← hrr.1]; exact bL_few k e2
        injection hAe with hAe
        subst hAe
        rw [addr0] at hc
        have c0 := hx.cell0
        have c1 := hx.cell1
        have HGW : Hid (g < wr.heap.size) := World.block_lt_of_cell? wr _ hc
        have HXR := Lib.hid hx; have HRW := Lib.hid hrr; have HC := Lib.hid hc
        obtain ⟨r2, hr2⟩ : ∃ r2, quasiS (subL t f k) = r2 := ⟨_, rfl⟩
        have HQ : Hid (cntG quasiS t f (k + 1) = q + if r2 = true then 1 else 0) := by rw [Hid, cntG, ← hq.out, hr2]
        have HCB : Hid (quasiCB t f (bL k) = r2) := by rw [Hid, e1, hr2]
        have hk0 : (0 : Int) ≤ (k : Int) := by omega
        have hkI : (k : Int) < (N : Int) := by omega
        clear hx hrr hr2 e1 hq
        cases r2 with
        | true =>
          go_wp2_with fail
          go_region_held3 (fun w' => w'.cell? ⟨w.heap.size, 0, none⟩ = some (.slice A n c) ∧ w'.cell? ⟨w.heap.size, 1, none⟩ = some (.slice A' n c') ∧ w'.cell? ⟨g, k, none⟩ = some (.slice Aj nj cj)) (first | go_keep | exact ⟨(HXR.out.below BL.out).cell0, (HXR.out.below BL.out).cell1, (BL.out.cell (p := ⟨g, k, none⟩) HGW.out).trans HC.out⟩) (first
            | (go_at_call 42; refine (spec_quasiCB _ A A' n n c c' t f ((H.out.below HBR.out).drewN _) ((H'.out.below HBR.out).drewN _) hn hn' Aj cj nj (bL k) (HRW.out.drewN _) (by omega) HCB.out).mono ?_; rintro e w3 ⟨rfl, bl⟩; have BL := Lib.hid (Below.of_drewN bl); clear bl))
          go_wp2
          go_roundw
          case rel => exact ⟨k + 1, q + 1, by omega, by go_num, by go_num, by omega, by rw [Hid, HQ.out]; simp, hb.out.trans (BL.out.mono hb.out.size)⟩
          case measure => simp [intOf]; omega
        | false =>
          go_wp2_with fail
          go_region_held3 (fun w' => w'.cell? ⟨w.heap.size, 0, none⟩ = some (.slice A n c) ∧ w'.cell? ⟨w.heap.size, 1, none⟩ = some (.slice A' n c') ∧ w'.cell? ⟨g, k, none⟩ = some (.slice Aj nj cj)) (first | go_keep | exact ⟨(HXR.out.below BL.out).cell0, (HXR.out.below BL.out).cell1, (BL.out.cell (p := ⟨g, k, none⟩) HGW.out).trans HC.out⟩) (first
            | (go_at_call 42; refine (spec_quasiCB _ A A' n n c c' t f ((H.out.below HBR.out).drewN _) ((H'.out.below HBR.out).drewN _) hn hn' Aj cj nj (bL k) (HRW.out.drewN _) (by omega) HCB.out).mono ?_; rintro e w3 ⟨rfl, bl⟩; have BL := Lib.hid (Below.of_drewN bl); clear bl))
          go_wp2
          go_roundw
          case rel => exact ⟨k + 1, q, by omega, by go_num, by rfl, by omega, by rw [Hid, HQ.out]; simp, hb.out.trans (BL.out.mono hb.out.size)⟩
          case measure => simp [intOf]; omega
      · have hkN : k = N := by omega
        have HE2 : Hid ((q : Int) = r) := by rw [Hid, ← HE.out, ← hkN, hq.out]
        clear hkN hq
        go_wp2_with fail
        go_ret
        exact ⟨ret_int HE2.out, HB2.out.trans (hb.out.mono HB2.out.size)⟩
  · have hv' : mapV t f = false := by simpa using hv
    obtain rfl : r = -1 := by rw [← hR, ribQ, ribR, if_neg hv]
    have HV := Lib.hid hv'; clear hR hv hv'
    go_enter Try.func20, Try.ntmps20
    go_wp2_with fail
    refine (spec_mapV W0 A A' n n' c c' t f (H.out.below HB.out) (H'.out.below HB.out) hn hn' HV.out).mono ?_
    rintro e w1 ⟨rfl, b⟩
    have HB1 := Lib.hid (HB.out.trans (b.mono HB.out.size)); clear b
    go_wp2_with fail
    go_ret
    exact ⟨rfl, HB1.out⟩

end Go.Proofs.Ytcenffndclpjoaa

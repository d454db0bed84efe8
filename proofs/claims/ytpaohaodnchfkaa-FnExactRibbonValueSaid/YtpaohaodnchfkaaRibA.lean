/-
  All choices of so many edges, as the model lists them: the list of the numbers' bits.
-/
import Derived.Test.YtpaohaodnchfkaaRibC
import Derived.Test.YtpaohaodnchfkaaMarkA
namespace Go.Proofs.Ytpaohaodnchfkaa
open Go.RowKit

def aL (K : Nat) : List (List Int) := (List.range K).map bL
theorem aL_len (K : Nat) : (aL K).length = K := by simp [aL]
theorem aL_succ (K : Nat) : aL (K + 1) = aL K ++ [bL K] := by simp [aL, List.range_succ]
theorem aL_get {K i : Nat} (h : i < K) : (aL K).getD i [] = bL i := by simp [aL, List.getD, h]

set_option maxHeartbeats 800000 in
theorem l2CopyO_any (lo : Nat) (A : Option Addr) (n c : Nat) (xs : List Int) (w : World) (h : Own w lo (.slice A n c) xs) (hl : xs.length = n) (hn : n ≤ 1000) :
    Calls Try.prog 62 #[.slice A n c] w fun e w' => ∃ A' c', e = .returned (.slice A' n c') ∧ Own w' w.heap.size (.slice A' n c') xs ∧ Below w.heap.size w w' := by
  have hb0 : Below w.heap.size w (w.alloc (.cells #[] 3)) := (Below.refl _ _).alloc (Nat.le_refl _) _
  have HE : Hid (Own (w.alloc (.cells #[] 3)) w.heap.size (.slice (some ⟨w.heap.size, 0, none⟩) 0 0) []) := Own.empty (Nat.le_refl _)
  have H := Lib.hid (h.below hb0)
  have HB0 := Lib.hid hb0; have HL := Lib.hid hl; clear hb0 h hl
  go_enter Try.func62, Try.ntmps62
  go_wp2_with (at_builtin; refine wpList_append_row rfl _ _ 22 rfl Try.underlying22 w.heap.size _ [] rfl HE.out _ lo xs rfl H.out (by rw [HL.out]; simp; omega) HB0.out.size ?_; intro v2 w2 hown2 hgrow2; obtain ⟨A2, c2, rfl, -, -⟩ := Own.form' hown2 (n := n) (by rw [List.nil_append, HL.out]); have HO2 := Lib.hid hown2; have HB2 := Lib.hid (lit_over hgrow2); clear hown2 hgrow2)
  go_ret
  exact ⟨_, _, rfl, by have := HO2.out; rwa [List.nil_append] at this, HB2.out⟩

set_option maxRecDepth 20000 in
set_option maxHeartbeats 3200000 in
theorem l7All_any (m : Nat) (w : World) (hm : m ≤ 6) :
    Calls Try.prog 47 #[.int .i64 m] w fun e w' => ∃ g cc, e = .returned (.slice (some ⟨g, 0, none⟩) (2 ^ m) cc) ∧ OwnSS w' w.heap.size w'.heap.size (.slice (some ⟨g, 0, none⟩) (2 ^ m) cc) (aL (2 ^ m)) ∧ Below w.heap.size w w' := by
  obtain ⟨i1, hinf1, hy0, hy1, hy2⟩ := info_parts info_slice
  obtain ⟨i0, hinf, hz0, hz1, hz2⟩ := info_parts info_int
  have HE0 : Hid (OwnSS ((w.alloc (.cells #[] 3)).alloc (.cells #[.slice (some ⟨w.heap.size, 0, none⟩) 0 0] 22)) w.heap.size ((w.alloc (.cells #[] 3)).alloc (.cells #[.slice (some ⟨w.heap.size, 0, none⟩) 0 0] 22)).heap.size (.slice (some ⟨w.heap.size + 1, 0, none⟩) 1 1) (aL 1)) := by
    have h := one_rowP (w := w.alloc (.cells #[] 3)) (lo := w.heap.size) (Own.empty (Nat.le_refl _)) (by simp)
    have e : aL 1 = [[]] := by decide +kernel
    rw [Hid, e]
    simpa using h
  have HB0 : Hid (Below w.heap.size w ((w.alloc (.cells #[] 3)).alloc (.cells #[.slice (some ⟨w.heap.size, 0, none⟩) 0 0] 22))) := ((Below.refl _ _).alloc (Nat.le_refl _) _).alloc (by simp) _
  go_enter Try.func47, Try.ntmps47
  go_wp2_with fail
  go_loopw [3, 4, 5, 6] (fun ov ev _ _ wr => ∃ (e N g cv : Nat), e ≤ m ∧ N ≤ 64 ∧ 1 ≤ N ∧ ev = .int .i64 e ∧ ov = .slice (some ⟨g, 0, none⟩) N cv ∧ Hid (N = 2 ^ e) ∧ Hid (OwnSS wr w.heap.size wr.heap.size (.slice (some ⟨g, 0, none⟩) N cv) (aL N)) ∧ Hid (Below w.heap.size w wr)) (fun _ ev _ _ _ => m - (intOf ev).toNat)
  case atStart => exact ⟨0, 1, _, 1, Nat.zero_le _, by omega, by omega, rfl, rfl, rfl, HE0.out, HB0.out⟩
  case round =>
    obtain ⟨e, N, g, cv, he, hN, hN1, rfl, rfl, hNe, hos, hb⟩ := hrel
    by_cases hlt : e < m
    · have hN32 : N ≤ 32 := by have := hNe.out; have := Nat.pow_le_pow_right (show 0 < 2 by decide) (show e ≤ 5 by omega); omega
      obtain ⟨wo, rfl⟩ : ∃ wo : World, wo = wr := ⟨_, rfl⟩
      go_wp2_with fail
      go_loopw [3, 6] (fun ov iv wz => ∃ (i K g cv : Nat), i ≤ N ∧ K ≤ 64 ∧ iv = .int .i64 i ∧ ov = .slice (some ⟨g, 0, none⟩) K cv ∧ Hid (K = i + N) ∧ Hid (OwnSS wz w.heap.size wz.heap.size (.slice (some ⟨g, 0, none⟩) K cv) (aL K)) ∧ Hid (Below w.heap.size w wz)) (fun _ iv _ => N - (intOf iv).toNat)
      case atStart => exact ⟨0, N, g, cv, Nat.zero_le _, hN, rfl, rfl, by rw [Hid, Nat.zero_add], hos, hb⟩
      case round =>
        clear hos hb
        obtain ⟨i, K, g, cv, hi, hK, rfl, rfl, hKi, hos, hb⟩ := hrel
        by_cases hil : i < N
        · have hiK : i < K := by have := hKi.out; omega
          have hK63 : K ≤ 63 := by have := hKi.out; omega
          obtain ⟨Ak, nk, ck, hck, hnk, hok, hnm⟩ := hos.out.at_ (aL_len K) hiK
          rw [aL_get hiK] at hnk hok
          have hi64 : i < 64 := by omega
          have hn6 : nk ≤ 6 := by rw [← hnk]; exact bL_few i hi64
          have HROW : Hid (bL K = bL i ++ [(e : Int)]) := by
            have := (bits_in e (by omega) i hi64 (by rw [← hNe.out]; exact hil)).1
            rw [Hid, hKi.out, hNe.out, this]
          have HNK := Lib.hid hnk; have HOK := Lib.hid hok
          have hbz := hb.out.size
          clear hnk hok hnm
          go_wp2_with fail
          refine (l2CopyO_any w.heap.size Ak nk ck (bL i) _ HOK.out HNK.out (by omega)).mono ?_
          rintro e' w1 ⟨A1, c1, rfl, o1, b1⟩
          have HO1 := Lib.hid o1; have HB1 := Lib.hid b1; have HS1 := Lib.hid (hos.out.below b1)
          have HA1 := o1.asRow HNK.out
          have hb1s := b1.size
          obtain ⟨vs, hvl, hvo, hvr, hvd⟩ := HS1.out
          have HVL := Lib.hid hvl
          rw [aL_len] at hvo
          have HVO := Lib.hid hvo; have HVR := Lib.hid hvr; have HVD := Lib.hid hvd
          clear o1 b1 hvl hvo hvr hvd hck
          have HGL : Hid (g < wr.heap.size) := by obtain ⟨vs, _, ho, _⟩ := hos.out; exact (ho.lt g rfl).2
          have HKI := Lib.hid hKi.out
          go_wp2_with (first
            | (have hchk := HO2.out; clear hchk; at_builtin; refine wpList_append_own _ rfl (.tmp 21) (.tmp 30) 54 rfl w.heap.size 22 i1 (.slice none 0 0) 1 24 Try.underlying54 hinf1 hy0 hy1 hy2 rfl (by decide) _ _ _ rfl (HVO2.out.alloc _) ⟨w2.heap.size, 0, none⟩ 1 1 [.slice A2 (nk + 1) c2] rfl rfl (cell_one_new _ _ _) (by intro u hu; simp at hu; subst hu; rfl) (by unfold maxLen; omega) (by omega) (by rw [World.size_alloc]; omega) ?_; intro v3 w3 hown3 hgrow3 hnil3; have HO3 := Lib.hid hown3; have HG3 := Lib.hid hgrow3; have HN3 := Lib.hid hnil3; clear hown3 hgrow3 hnil3)
            | (at_builtin; refine wpList_append_own _ rfl (.tmp 26) (.tmp 28) 22 rfl wr.heap.size 3 i0 (.int .i64 0) 1 8 Try.underlying22 hinf hz0 hz1 hz2 rfl (by decide) _ _ _ rfl (HA1.out.alloc _) ⟨w1.heap.size, 0, none⟩ 1 1 [.int .i64 (e : Int)] rfl rfl (cell_one_new _ _ _) (by intro u hu; simp at hu; subst hu; rfl) (by unfold maxLen; omega) (by omega) (by simp; omega) ?_; intro v2 w2 hown2 hgrow2 hnil2; have ha := app_int (by omega) HO1.out HNK.out hown2 hgrow2; obtain ⟨A2, c2, rfl, -, -⟩ := Own.form' ha.1 (n := nk + 1) (by rw [List.length_append, HNK.out]; rfl); have HO2 := Lib.hid ha.1; have HB2 := Lib.hid ha.2; have HVO2 := Lib.hid (ownsRow_fix HVO.out (hi := wr.heap.size) (fun k hk => by cases hk; exact HGL.out) (Fix.below ha.2 (Nat.le_refl _))); have hb2s := ha.2.size; clear ha hown2 hgrow2 hnil2))
          go_roundw
          case rel =>
            obtain ⟨gq, cq, rfl⟩ := own_someP HO3.out (fun e => by cases (HN3.out.1 e).1)
            have hba : Below w2.heap.size w2 (w2.alloc (.cells #[.slice A2 (nk + 1) c2] 22)) := (Below.refl _ _).alloc (Nat.le_refl _) _
            have hb13 : Below wr.heap.size wr (w2.alloc (.cells #[.slice A2 (nk + 1) c2] 22)) := (HB1.out.trans HB2.out).alloc (by omega) _
            have hb23 : Below wr.heap.size w1 (w2.alloc (.cells #[.slice A2 (nk + 1) c2] 22)) := HB2.out.alloc (by omega) _
            have hs3 := HG3.out.size
            rw [World.size_alloc] at hs3
            have hlt2 := HO2.out.lt
            refine ⟨i + 1, K + 1, gq, cq, by omega, by omega, by go_num, rfl, by rw [Hid, HKI.out]; omega, ?_, ?_⟩
            · have hsn := OwnSS.snoc (hi := wr.heap.size) (hi' := w3.heap.size) (xss := aL K) (xs := bL i ++ [(e : Int)]) (u := .slice A2 (nk + 1) c2) HVL.out (fun j hj => ⟨ownsRow_fix (HVR.out j hj).1 (HVR.out j hj).2 (Fix.below hb23 (Nat.le_refl _)), (HVR.out j hj).2⟩) HVD.out (by rw [aL_len]; exact HVO2.out.alloc _) ((HO2.out.below hba).mono hbz) (fun k hk => (hlt2 k hk).1) (by omega) (fun k hk => by have := (hlt2 k hk).2; omega) (by rw [aL_len]; exact HO3.out) HG3.out
              rw [aL_succ, HROW.out]
              exact hsn
            · exact (hb.out.trans (hb13.mono hbz)).grown HG3.out (by rw [World.size_alloc]; omega) (fun k hk => by cases hk; exact (HVO.out.lt g rfl).1)
          case measure => simp [intOf]; omega
        · have hiN : i = N := by omega
          have HIN : Hid (K = 2 ^ (e + 1)) := by have := hKi.out; have := hNe.out; rw [Hid, Nat.pow_succ]; omega
          have hK1 : 1 ≤ K := by have := hKi.out; omega
          clear hiN
          go_wp2_with fail
          go_roundw
          case rel => exact ⟨e + 1, K, g, cv, by omega, hK, hK1, by go_num, rfl, HIN, hos, hb⟩
          case measure => simp [intOf]; omega
    · have hem : e = m := by omega
      have HF : Hid (2 ^ m = N) := by rw [Hid, ← hem]; exact hNe.out.symm
      clear hem
      go_wp2_with fail
      go_ret
      rw [HF.out]
      exact ⟨g, cv, rfl, hos.out, hb.out⟩

end Go.Proofs.Ytpaohaodnchfkaa

/-
  CoverShift, CoverTrivial: the model's and the program's.
  CoverTrivial: the model's and the program's.
-/
import Derived.Test.YtlnegaenjcekcaaCovV
import Derived.Test.YtlnegaenjcekcaaSpecOrb
import Derived.Test.YtlnegaenjcekcaaStill
namespace Go.Proofs.Ytlnegaenjcekcaa
open Go.RowKit
set_option linter.unusedVariables false

theorem take_oneC {T : List Int} {m : Nat} {u : Int} (h : m < T.length) (hu : gi T m = u) : T.take (m + 1) = T.take m ++ [u] := by
  rw [List.take_succ_eq_append_getElem h, ← gi_eq h, hu]
theorem takeR_one {T : List (List Int)} {m : Nat} {u : List Int} (h : m < T.length) (hu : T.getD m [] = u) : T.take (m + 1) = T.take m ++ [u] := by
  rw [List.take_succ_eq_append_getElem h]
  have : T[m] = u := by rw [← hu]; simp [List.getD, h]
  rw [this]
theorem take_len {T : List Int} {m N : Nat} (hN : T.length = N) (h : m ≤ N) : (T.take m).length = m := by rw [List.length_take]; omega
theorem takeR_len {T : List (List Int)} {m N : Nat} (hN : T.length = N) (h : m ≤ N) : (T.take m).length = m := by rw [List.length_take]; omega
theorem shR_len {t f : List Int} {k : Int} {vss : List (List Int)} {b ys : List Int} {ok : Bool} (h : shR t f k vss b = (ok, ys)) : ys.length ≤ 12 := by
  unfold shR at h
  split at h
  · rename_i hc
    simp only [Prod.mk.injEq] at h
    obtain ⟨kn, rfl, hv⟩ := Volt_of hc.1
    rw [← h.2, shL_len]
    have := hv.few
    rw [Nat.mul_comm] at this
    simpa using this
  · simp only [Prod.mk.injEq] at h
    rw [← h.2]; simp

set_option maxRecDepth 20000 in
set_option maxHeartbeats 3200000 in
theorem spec_shR (w : World) (A A' : Option Addr) (n n' c c' : Nat) (t f : List Int) (h : Rd w A n t) (h' : Rd w A' n' f) (hn : n ≤ 1048576) (hn' : n' ≤ 1048576) (k : Int) (B : Option Addr) (m d : Nat) (vss : List (List Int)) (hs : RdSS w B m vss) (hm : m ≤ 1048576) (htot : total vss ≤ 1048576) (E : Option Addr) (ec en : Nat) (bs : List Int) (he : Rd w E en bs) (hen : en ≤ 1048576) {ok : Bool} {ys : List Int} (hR : shR t f k vss bs = (ok, ys)) :
    Calls Try.prog 43 #[.agg #[.slice A n c, .slice A' n' c'], .int .i64 k, .slice B m d, .slice E en ec] w fun e w' => ∃ v, e = .returned (.tuple #[v, .bool ok]) ∧ Own w' w.heap.size v ys ∧ Below w.heap.size w w' := by
  obtain ⟨i0, hinf, hz0, hz1, hz2⟩ := info_parts info_int
  obtain ⟨W0, hW0, hx, hb, hz⟩ := Box.local_ w 30 (.slice A n c) (.slice A' n' c')
  have hbE : Below W0.heap.size W0 (W0.alloc (.cells #[] 3)) := (Below.refl _ _).alloc (Nat.le_refl _) _
  have hx1 := hx.below hbE
  have c0 := hx1.cell0
  have c1 := hx1.cell1
  have HX := Lib.hid hx1; have HB := Lib.hid (hb.trans (hbE.mono hb.size)); have HOE : Hid (Own (W0.alloc (.cells #[] 3)) (w.heap.size + 1) (.slice (some ⟨W0.heap.size, 0, none⟩) 0 0) []) := Own.empty (by omega)
  have H := Lib.hid h; have H' := Lib.hid h'; have HR := Lib.hid hR; have HS := Lib.hid hs; have HE := Lib.hid he; have HEL := Lib.hid he.1
  have c0' := hx.cell0; have c1' := hx.cell1
  clear hx hb h h' hR hs hz hx1 hbE he
  cases hv : vvB t f k vss with
  | false =>
    have HF : Hid (shR t f k vss bs = (false, [])) := by rw [Hid, shR, if_neg (fun h => by rw [hv] at h; exact absurd h.1 (by decide))]
    obtain ⟨rfl, rfl⟩ : ok = false ∧ ys = [] := by have := HR.out; rw [HF.out] at this; simpa [eq_comm] using this
    have HV := Lib.hid hv; clear hv
    go_enter Try.func43, Try.ntmps43
    go_wp2_with (go_at_call 36; refine (spec_vvB _ A A' n n' c c' t f (H.out.below HB.out) (H'.out.below HB.out) hn hn' k B m d vss (HS.out.below HB.out) hm htot HV.out).mono ?_; rintro e w1 ⟨rfl, b⟩; have HB1 := Lib.hid (HB.out.trans (b.mono HB.out.size)); have HO1 := Lib.hid (HOE.out.below b); clear b c0 c1)
    go_ret2
    exact ⟨_, rfl, HO1.out.mono (Nat.le_succ _), HB1.out⟩
  | true =>
    have HV := Lib.hid hv
    cases hp : vld bs with
    | false =>
      have HF : Hid (shR t f k vss bs = (false, [])) := by rw [Hid, shR, if_neg (fun h => by rw [hp] at h; exact absurd h.2.1 (by decide))]
      obtain ⟨rfl, rfl⟩ : ok = false ∧ ys = [] := by have := HR.out; rw [HF.out] at this; simpa [eq_comm] using this
      have HP := Lib.hid hp; clear hv hp
      go_enter Try.func43, Try.ntmps43
      go_wp2_with (first
        | (go_at_call 36; refine (spec_vvB _ A A' n n' c c' t f (H.out.below HB.out) (H'.out.below HB.out) hn hn' k B m d vss (HS.out.below HB.out) hm htot HV.out).mono ?_; rintro e w1 ⟨rfl, b⟩; have HB1 := Lib.hid (HB.out.trans (b.mono HB.out.size)); have HO1 := Lib.hid (HOE.out.below b); clear b c0 c1)
        | (go_at_call 74; refine (specValid_any E en ec bs w1 (HE.out.below HB1.out) (by omega)).mono ?_; rintro e w2 ⟨rfl, q, rfl⟩; rw [HP.out]))
      go_ret2
      exact ⟨_, rfl, (HO1.out.drewN _).mono (Nat.le_succ _), below_drewN HB1.out _⟩
    | true =>
      have HP := Lib.hid hp
      obtain ⟨kn, rfl, hvt⟩ := Volt_of hv
      by_cases hl : en = kn
      · have hne : ((en : Int) != (kn : Int)) = false := by simp [hl]
        subst hl
        have hn2 : n' = n := by rw [← H.out.1, ← H'.out.1]; exact hvt.map.len.symm
        subst hn2
        have hn12 : n' ≤ 12 := by rw [← H.out.1]; exact hvt.map.turn.2.1
        have hk1 := hvt.one
        have hk6 := hvt.six
        have HF : Hid (shR t f (en : Int) vss bs = (true, shL n' en bs)) := by rw [Hid, shR, if_pos ⟨hv, hp, by rw [HEL.out]⟩, H.out.1]; rfl
        obtain ⟨rfl, rfl⟩ : ok = true ∧ ys = shL n' en bs := by have := HR.out; rw [HF.out] at this; simpa [eq_comm] using this
        obtain ⟨N, hN⟩ : ∃ N, n' * en = N := ⟨_, rfl⟩
        have hN12 : N ≤ 12 := by have := hvt.few; rw [H.out.1, Nat.mul_comm] at this; omega
        have HLT : Hid ((shL n' en bs).length = N) := by rw [Hid, shL_len, hN]
        have HNN := Lib.hid hN
        have HB2 := Lib.hid (Vld_of hp)
        clear hv hp hvt hN
        go_enter Try.func43, Try.ntmps43
        go_wp2_with (first
          | (go_at_call 36; refine (spec_vvB _ A A' n' n' c c' t f (H.out.below HB.out) (H'.out.below HB.out) hn hn' (en : Int) B m d vss (HS.out.below HB.out) hm htot HV.out).mono ?_; rintro e w1 ⟨rfl, b⟩; have HB1 := Lib.hid (HB.out.trans (b.mono HB.out.size)); have HX1 := Lib.hid (HX.out.below b); have HO1 := Lib.hid (HOE.out.below b); clear b c0 c1)
          | (go_at_call 74; refine (specValid_any E en ec bs w1 (HE.out.below HB1.out) (by omega)).mono ?_; rintro e w2 ⟨rfl, q, hw2⟩; rw [HP.out]; have HB2' : Hid (Below w.heap.size w w2) := (by rw [Hid, hw2]; exact below_drewN HB1.out q); have HX2 : Hid (Box w2 w.heap.size 30 (.slice A n' c) (.slice A' n' c')) := (by rw [Hid, hw2]; exact HX1.out.drewN q); have HO2 : Hid (Own w2 (w.heap.size + 1) (.slice (some ⟨W0.heap.size, 0, none⟩) 0 0) []) := (by rw [Hid, hw2]; exact HO1.out.drewN q); clear hw2))
        clear c0' c1' hne
        have hsz2 : w.heap.size < w2.heap.size := HX2.out.lt
        go_loopw [10, 11, 12] (fun ov dv _ wr => ∃ x : Nat, x ≤ n' ∧ dv = .int .i64 x ∧ Hid (Own wr (w.heap.size + 1) ov ((shL n' en bs).take (en * x))) ∧ Hid (Below w.heap.size w wr) ∧ Hid (Box wr w.heap.size 30 (.slice A n' c) (.slice A' n' c'))) (fun _ dv _ _ => n' - (intOf dv).toNat)
        case atStart => exact ⟨0, Nat.zero_le _, rfl, by rw [Nat.mul_zero, List.take_zero]; exact HO2, HB2', HX2⟩
        case round =>
          clear HO2 HB2' HX2
          obtain ⟨x, hx, rfl, ho, hb, hbx⟩ := hrel
          have c0 := hbx.out.cell0
          by_cases hlt : x < n'
          · obtain ⟨P, hP⟩ : ∃ P, en * x = P := ⟨_, rfl⟩
            have hPN : P + en ≤ N := by rw [← hP, ← HNN.out, Nat.mul_comm n' en, ← Nat.mul_succ]; exact Nat.mul_le_mul_left en hlt
            have gP : IntKind.i64.wrap ((en : Int) * (x : Int)) = (P : Int) := by rw [← Int.natCast_mul, hP]; exact IntWalk.i64_in _ (by omega)
            have gP' : (en : Int) * (x : Int) = (P : Int) := by rw [← Int.natCast_mul, hP]
            rw [hP] at ho
            have HP1 := Lib.hid hP; clear hP
            go_wp2_with fail
            clear c0
            go_loopw [10, 12] (fun ov sv wr => ∃ s : Nat, s ≤ en ∧ sv = .int .i64 s ∧ Hid (Own wr (w.heap.size + 1) ov ((shL n' en bs).take (P + s))) ∧ Hid (Below w.heap.size w wr) ∧ Hid (Box wr w.heap.size 30 (.slice A n' c) (.slice A' n' c'))) (fun _ sv _ => en - (intOf sv).toNat)
            case atStart => exact ⟨0, Nat.zero_le _, rfl, ho, hb, hbx⟩
            case round =>
              clear ho hb hbx
              obtain ⟨s, hs, rfl, ho, hb, hbx⟩ := hrel
              have hwr := hbx.out.lt
              by_cases hlt2 : s < en
              · obtain ⟨ad, rfl, hc⟩ := (HE.out.below hb.out).at_ hlt2
                obtain ⟨y, hy, hyn, hgy⟩ := (HB2.out.into HEL.out).nat (j := s) (by rw [HEL.out]; exact hlt2)
                rw [hy] at hc
                obtain ⟨u, hu⟩ : ∃ u, P + y = u := ⟨_, rfl⟩
                obtain ⟨L, hL⟩ : ∃ L, P + s = L := ⟨_, rfl⟩
                have gu : IntKind.i64.wrap ((P : Int) + (y : Int)) = (u : Int) := by rw [IntWalk.i64_in _ (by omega)]; omega
                have gu' : (P : Int) + (y : Int) = (u : Int) := by omega
                have hLN : L < N := by omega
                have HT1 : Hid ((shL n' en bs).take (P + (s + 1)) = (shL n' en bs).take L ++ [(u : Int)]) := by
                  rw [Hid, ← Nat.add_assoc, hL]
                  refine take_oneC (by rw [HLT.out]; exact hLN) ?_
                  rw [← hL, ← HP1.out, gi_shL hlt hlt2, hgy, HP1.out, hu]
                rw [hL] at ho
                have HTL : Hid (((shL n' en bs).take L).length = L) := take_len HLT.out (by omega)
                have HOA := ho.out.asRow HTL.out
                clear hy hgy hL hu
                go_wp2_with (at_builtin; refine wpList_append_own _ rfl _ _ 22 rfl (w.heap.size + 1) 3 i0 (.int .i64 0) 1 8 Try.underlying22 hinf hz0 hz1 hz2 rfl (by decide) _ _ _ rfl (HOA.out.alloc _) ⟨wr.heap.size, 0, none⟩ 1 1 [.int .i64 (u : Int)] rfl rfl (cell_one_new _ _ _) (by intro u hu; simp at hu; subst hu; rfl) (by unfold maxLen; omega) (by omega) (by simp; omega) ?_; intro v1 w3 hown1 hgrow1 _; have HO := Lib.hid hown1; have HGR := Lib.hid hgrow1; clear hown1 hgrow1)
                go_roundw
                case rel =>
                  have ha := app_int (by omega) ho.out HTL.out HO.out HGR.out
                  exact ⟨s + 1, by omega, by go_num, by rw [Hid, HT1.out]; exact ha.1, hb.out.trans (ha.2.mono (Nat.le_succ _)), hbx.out.over ha.2 (Nat.lt_succ_self _)⟩
                case measure => simp [intOf]; omega
              · have hse : s = en := by omega
                have hox := ho.out
                rw [hse, ← HP1.out, ← Nat.mul_succ] at hox
                have HOX := Lib.hid hox; clear hox
                clear hse
                go_wp2_with fail
                go_roundw
                case rel => exact ⟨x + 1, by omega, by go_num, HOX, hb, hbx⟩
                case measure => simp [intOf]; omega
          · have hxn : x = n' := by omega
            have hox := ho.out
            rw [hxn, Nat.mul_comm, HNN.out, List.take_of_length_le (by rw [HLT.out]; exact Nat.le_refl _)] at hox
            have HOX := Lib.hid hox; clear hox
            clear hxn
            go_wp2_with fail
            go_ret2
            exact ⟨_, rfl, HOX.out.mono (Nat.le_succ _), hb.out⟩
      · have hne : ((en : Int) != (kn : Int)) = true := by simp; omega
        have HF : Hid (shR t f (kn : Int) vss bs = (false, [])) := by rw [Hid, shR, if_neg (fun h => hl (by have := h.2.2; rw [HEL.out] at this; omega))]
        obtain ⟨rfl, rfl⟩ : ok = false ∧ ys = [] := by have := HR.out; rw [HF.out] at this; simpa [eq_comm] using this
        clear hv hp hl hvt
        go_enter Try.func43, Try.ntmps43
        go_wp2_with (first
          | (go_at_call 36; refine (spec_vvB _ A A' n n' c c' t f (H.out.below HB.out) (H'.out.below HB.out) hn hn' (kn : Int) B m d vss (HS.out.below HB.out) hm htot HV.out).mono ?_; rintro e w1 ⟨rfl, b⟩; have HB1 := Lib.hid (HB.out.trans (b.mono HB.out.size)); have HO1 := Lib.hid (HOE.out.below b); clear b c0 c1)
          | (go_at_call 74; refine (specValid_any E en ec bs w1 (HE.out.below HB1.out) (by omega)).mono ?_; rintro e w2 ⟨rfl, q, rfl⟩; rw [HP.out]))
        go_ret2
        exact ⟨_, rfl, (HO1.out.drewN _).mono (Nat.le_succ _), below_drewN HB1.out _⟩

theorem dart_any (w : World) (b k d s P u : Nat) (hc : w.cell? ⟨b, 2, none⟩ = some (.int .i64 k)) (hP : k * d = P) (hu : P + s = u) (hu' : u ≤ 1048576) :
    Calls Try.prog 79 #[.pointer (some ⟨b, 0, none⟩), .int .i64 d, .int .i64 s] w fun e w' => e = .returned (.int .i64 u) ∧ w = w' := by
  have gP : IntKind.i64.wrap ((k : Int) * (d : Int)) = (P : Int) := by rw [← Int.natCast_mul, hP]; exact IntWalk.i64_in _ (by omega)
  have gP' : (k : Int) * (d : Int) = (P : Int) := by rw [← Int.natCast_mul, hP]
  have gu : IntKind.i64.wrap ((P : Int) + (s : Int)) = (u : Int) := by rw [IntWalk.i64_in _ (by omega)]; omega
  have gu' : (P : Int) + (s : Int) = (u : Int) := by omega
  clear hP hu
  go_enter Try.func79, Try.ntmps79
  go_wp2_with fail
  go_ret
  exact ⟨rfl, rfl⟩

set_option maxRecDepth 20000 in
set_option maxHeartbeats 3200000 in
theorem impl_shR (w : World) (A A' : Option Addr) (n n' c c' : Nat) (t f : List Int) (h : Rd w A n t) (h' : Rd w A' n' f) (hn : n ≤ 1048576) (hn' : n' ≤ 1048576) (k : Int) (B : Option Addr) (m d : Nat) (vss : List (List Int)) (hs : RdSS w B m vss) (hm : m ≤ 1048576) (htot : total vss ≤ 1048576) (E : Option Addr) (ec en : Nat) (bs : List Int) (he : Rd w E en bs) (hen : en ≤ 1048576) {ok : Bool} {ys : List Int} (hR : shR t f k vss bs = (ok, ys)) :
    Calls Try.prog 42 #[.agg #[.slice A n c, .slice A' n' c'], .int .i64 k, .slice B m d, .slice E en ec] w fun e w' => ∃ v, e = .returned (.tuple #[v, .bool ok]) ∧ Own w' w.heap.size v ys ∧ Below w.heap.size w w' := by
  obtain ⟨i0, hinf, hz0, hz1, hz2⟩ := info_parts info_int
  obtain ⟨W0, hW0, hx, hb, hz⟩ := Box.local_ w 30 (.slice A n c) (.slice A' n' c')
  have c0 := hx.cell0
  have c1 := hx.cell1
  have HB := Lib.hid hb; have H := Lib.hid h; have H' := Lib.hid h'; have HR := Lib.hid hR; have HS := Lib.hid hs; have HE := Lib.hid he; have HEL := Lib.hid he.1
  clear hx hb h h' hR hs hz he
  cases hv : vvB t f k vss with
  | false =>
    have HF : Hid (shR t f k vss bs = (false, [])) := by rw [Hid, shR, if_neg (fun h => by rw [hv] at h; exact absurd h.1 (by decide))]
    obtain ⟨rfl, rfl⟩ : ok = false ∧ ys = [] := by have := HR.out; rw [HF.out] at this; simpa [eq_comm] using this
    have HV := Lib.hid hv; clear hv
    go_enter Try.func42, Try.ntmps42
    go_wp2_with (go_at_call 53; refine (voltageOf_any _ A A' n n' c c' t f (H.out.below HB.out) (H'.out.below HB.out) hn hn' k B m d vss (HS.out.below HB.out) hm htot HV.out).mono ?_; rintro e w1 ⟨p, rfl, b, -⟩; have HB1 := Lib.hid (HB.out.trans (b.mono HB.out.size)); clear b c0 c1)
    go_ret2
    exact ⟨_, rfl, Own.nil_ _ _, HB1.out⟩
  | true =>
    have HV := Lib.hid hv
    obtain ⟨q, hq⟩ : ∃ q, (vld bs && ((en : Int) == k)) = q := ⟨_, rfl⟩
    have HQ := Lib.hid hq
    obtain ⟨kn, rfl, hvt⟩ := Volt_of hv
    have hn2 : n' = n := by rw [← H.out.1, ← H'.out.1]; exact hvt.map.len.symm
    subst hn2
    have hn12 : n' ≤ 12 := by rw [← H.out.1]; exact hvt.map.turn.2.1
    have hk1 := hvt.one
    have hk6 := hvt.six
    cases q with
    | false =>
      have HF : Hid (shR t f (kn : Int) vss bs = (false, [])) := by
        rw [Hid, shR, if_neg (fun h => by
          rw [h.2.1, Bool.true_and] at hq
          have := h.2.2; rw [HEL.out] at this
          simp [this] at hq)]
      obtain ⟨rfl, rfl⟩ : ok = false ∧ ys = [] := by have := HR.out; rw [HF.out] at this; simpa [eq_comm] using this
      clear hv hq hvt
      go_enter Try.func42, Try.ntmps42
      go_wp2_with (first
        | (go_at_call 53; refine (voltageOf_any _ A A' n' n' c c' t f (H.out.below HB.out) (H'.out.below HB.out) hn hn' (kn : Int) B m d vss (HS.out.below HB.out) hm htot HV.out).mono ?_; rintro e w1 ⟨p, rfl, b, -⟩; have HB1 := Lib.hid (HB.out.trans (b.mono HB.out.size)); clear b c0 c1)
        | (go_at_call 78; refine (sheetsPerm_any E en ec bs (kn : Int) w1 (HE.out.below HB1.out) hen HQ.out).mono ?_; rintro e w2 ⟨rfl, b⟩; have HB2 := Lib.hid (HB1.out.trans (b.mono HB1.out.size)); clear b))
      go_ret2
      exact ⟨_, rfl, Own.nil_ _ _, HB2.out⟩
    | true =>
      obtain ⟨hp, hl⟩ : vld bs = true ∧ (en : Int) = (kn : Int) := by simpa [Bool.and_eq_true] using hq
      obtain rfl : en = kn := by omega
      have HF : Hid (shR t f (en : Int) vss bs = (true, shL n' en bs)) := by rw [Hid, shR, if_pos ⟨hv, hp, by rw [HEL.out]⟩, H.out.1]; rfl
      obtain ⟨rfl, rfl⟩ : ok = true ∧ ys = shL n' en bs := by have := HR.out; rw [HF.out] at this; simpa [eq_comm] using this
      obtain ⟨N, hN⟩ : ∃ N, n' * en = N := ⟨_, rfl⟩
      have hN12 : N ≤ 12 := by have := hvt.few; rw [H.out.1, Nat.mul_comm] at this; omega
      have HLT : Hid ((shL n' en bs).length = N) := by rw [Hid, shL_len, hN]
      have HNN := Lib.hid hN
      have HBS := Lib.hid (Vld_of hp)
      clear hv hp hvt hN hq hl
      go_enter Try.func42, Try.ntmps42
      go_wp2_with (first
        | (go_at_call 53; refine (voltageOf_any _ A A' n' n' c c' t f (H.out.below HB.out) (H'.out.below HB.out) hn hn' (en : Int) B m d vss (HS.out.below HB.out) hm htot HV.out).mono ?_; rintro e w1 ⟨p, rfl, b, hva⟩; obtain ⟨bv, kn, rfl, hkn, hva⟩ := hva rfl; obtain rfl : en = kn := (by omega); have HVA := Lib.hid hva; have HB1 := Lib.hid (HB.out.trans (b.mono HB.out.size)); clear b c0 c1 hva hkn)
        | (go_at_call 78; refine (sheetsPerm_any E en ec bs (en : Int) w1 (HE.out.below HB1.out) hen HQ.out).mono ?_; rintro e w2 ⟨rfl, b⟩; have HB2 := Lib.hid (HB1.out.trans (b.mono HB1.out.size)); obtain ⟨A2, c2, A2', c2', lo, g, cg, hvb, -, -, -⟩ := HVA.out.below b; rw [H'.out.1] at hvb; have c3 := hvb.cell3; have HVB := Lib.hid hvb; clear b hvb))
      have hwb := HB2.out.size
      have hbv := HVB.out.lt
      clear c3
      go_loopw [12, 13, 15, 36] (fun ov _ _ dv wr => ∃ x : Nat, x ≤ n' ∧ dv = .int .i64 x ∧ Hid (Own wr w2.heap.size ov ((shL n' en bs).take (en * x))) ∧ Hid (Below w2.heap.size w2 wr)) (fun _ _ _ dv _ => n' - (intOf dv).toNat)
      case atStart => exact ⟨0, Nat.zero_le _, rfl, by rw [Nat.mul_zero, List.take_zero]; exact Own.nil_ _ _, Below.refl _ _⟩
      case round =>
        obtain ⟨x, hx, rfl, ho, hb⟩ := hrel
        by_cases hlt : x < n'
        · obtain ⟨P, hP⟩ : ∃ P, en * x = P := ⟨_, rfl⟩
          have hPN : P + en ≤ N := by rw [← hP, ← HNN.out, Nat.mul_comm n' en, ← Nat.mul_succ]; exact Nat.mul_le_mul_left en hlt
          rw [hP] at ho
          have HP1 := Lib.hid hP; clear hP
          go_wp2_with fail
          go_loopw [12, 15, 41] (fun ov _ sv wr => ∃ s : Nat, s ≤ en ∧ sv = .int .i64 s ∧ Hid (Own wr w2.heap.size ov ((shL n' en bs).take (P + s))) ∧ Hid (Below w2.heap.size w2 wr)) (fun _ _ sv _ => en - (intOf sv).toNat)
          case atStart => exact ⟨0, Nat.zero_le _, rfl, ho, hb⟩
          case round =>
            clear ho hb
            obtain ⟨s, hs, rfl, ho, hb⟩ := hrel
            have hwr := hb.out.size
            by_cases hlt2 : s < en
            · obtain ⟨ad, rfl, hc⟩ := ((HE.out.below HB2.out).below hb.out).at_ hlt2
              obtain ⟨y, hy, hyn, hgy⟩ := (HBS.out.into HEL.out).nat (j := s) (by rw [HEL.out]; exact hlt2)
              rw [hy] at hc
              obtain ⟨u, hu⟩ : ∃ u, P + y = u := ⟨_, rfl⟩
              obtain ⟨L, hL⟩ : ∃ L, P + s = L := ⟨_, rfl⟩
              have hLN : L < N := by omega
              have hu24 : u ≤ 1048576 := by omega
              have HT1 : Hid ((shL n' en bs).take (P + (s + 1)) = (shL n' en bs).take L ++ [(u : Int)]) := by
                rw [Hid, ← Nat.add_assoc, hL]
                refine take_oneC (by rw [HLT.out]; exact hLN) ?_
                rw [← hL, ← HP1.out, gi_shL hlt hlt2, hgy, HP1.out, hu]
              rw [hL] at ho
              have HTL : Hid (((shL n' en bs).take L).length = L) := take_len HLT.out (by omega)
              have HOA := ho.out.asRow HTL.out
              have HUU := Lib.hid hu
              clear hy hgy hL hu
              go_wp2_with (first
                | (go_at_call 79; refine (dart_any wr bv en x y P u (HVB.out.over hb.out hbv).cell2 HP1.out HUU.out hu24).mono ?_; rintro e w3 ⟨rfl, rfl⟩)
                | (at_builtin; refine wpList_append_own _ rfl _ _ 22 rfl w2.heap.size 3 i0 (.int .i64 0) 1 8 Try.underlying22 hinf hz0 hz1 hz2 rfl (by decide) _ _ _ rfl (HOA.out.alloc _) ⟨wr.heap.size, 0, none⟩ 1 1 [.int .i64 (u : Int)] rfl rfl (cell_one_new _ _ _) (by intro u hu; simp at hu; subst hu; rfl) (by unfold maxLen; omega) (by omega) (by simp; omega) ?_; intro v1 w3 hown1 hgrow1 _; have HO := Lib.hid hown1; have HGR := Lib.hid hgrow1; clear hown1 hgrow1))
              go_roundw
              case rel =>
                have ha := app_int (by omega) ho.out HTL.out HO.out HGR.out
                exact ⟨s + 1, by omega, by go_num, by rw [Hid, HT1.out]; exact ha.1, hb.out.trans ha.2⟩
              case measure => simp [intOf]; omega
            · have hse : s = en := by omega
              have hox := ho.out
              rw [hse, ← HP1.out, ← Nat.mul_succ] at hox
              have HOX := Lib.hid hox; clear hox
              clear hse
              go_wp2_with fail
              go_roundw
              case rel => exact ⟨x + 1, by omega, by go_num, HOX, hb⟩
              case measure => simp [intOf]; omega
        · have hxn : x = n' := by omega
          have hox := ho.out
          rw [hxn, Nat.mul_comm, HNN.out, List.take_of_length_le (by rw [HLT.out]; exact Nat.le_refl _)] at hox
          have HOX := Lib.hid hox; clear hox
          clear hxn
          go_wp2_with fail
          go_ret2
          exact ⟨_, rfl, HOX.out.mono hwb, HB2.out.trans (hb.out.mono hwb)⟩

end Go.Proofs.Ytlnegaenjcekcaa

namespace Go.Proofs.Ytlnegaenjcekcaa
open Go.RowKit
set_option linter.unusedVariables false

theorem total_le {b : Nat} : ∀ {xss : List (List Int)}, (∀ j, j < xss.length → (xss.getD j []).length ≤ b) → total xss ≤ xss.length * b
  | [], _ => by simp [total]
  | x :: r, h => by
    have h0 := h 0 (by simp)
    have h1 := total_le (xss := r) fun j hj => by have := h (j + 1) (by simpa using hj); simpa using this
    simp only [total, List.length_cons, List.getD_cons_zero] at *
    rw [Nat.add_mul, Nat.one_mul]; omega
theorem rep_get {h j : Nat} {x : List Int} (hj : j < h) : (List.replicate h x).getD j [] = x := by simp [List.getD, hj]
theorem rep_snoc (h : Nat) (x : List Int) : List.replicate (h + 1) x = List.replicate h x ++ [x] := List.replicate_succ'
theorem marks_vld {k : Nat} (h1 : 1 ≤ k) (h2 : k ≤ 12) : Vld (marks 0 k) := by
  refine ⟨by rw [marks_len]; exact h1, by rw [marks_len]; exact h2, fun j hj => ?_, fun j hj i hi => ?_⟩
  · rw [marks_len] at hj ⊢; rw [gi_marks hj]; omega
  · rw [marks_len] at hj; rw [gi_marks hj, gi_marks (by omega)]; omega
theorem rep_total {h k : Nat} (hh : h ≤ 6) (hk : k ≤ 6) : total (List.replicate h (marks 0 k)) ≤ 36 := by
  have := total_le (b := 6) (xss := List.replicate h (marks 0 k)) fun j hj => by rw [List.length_replicate] at hj; rw [rep_get hj, marks_len]; exact hk
  rw [List.length_replicate] at this
  omega
theorem trv_volt {t f : List Int} {k : Nat} (hm : IsMap t f) (h1 : 1 ≤ k) (h6 : k ≤ 6) (hf : k * t.length ≤ 12) : Volt t f k (List.replicate (f.length / 2) (marks 0 k)) :=
  ⟨hm, h1, h6, hf, by simp, fun e he => by rw [List.length_replicate] at he; rw [rep_get he]; exact ⟨marks_vld h1 (by omega), marks_len _ _⟩⟩
theorem trvR_len {t f : List Int} {k : Int} {ys : List (List Int)} {ok : Bool} (h : trvR t f k = (ok, ys)) : ys.length ≤ 12 ∧ total ys ≤ 100 := by
  unfold trvR at h
  split at h
  · rename_i hc
    obtain ⟨kn, rfl, hm, h1, h6, hf⟩ := cvB_iff.1 hc
    simp only [Prod.mk.injEq] at h
    have := hm.flip.2.1
    rw [← h.2, List.length_replicate]
    exact ⟨by omega, by have := rep_total (h := f.length / 2) (k := kn) (by omega) h6; simp only [Int.toNat_natCast]; omega⟩
  · simp only [Prod.mk.injEq] at h
    rw [← h.2]; simp [total]

set_option maxRecDepth 20000 in
set_option maxHeartbeats 3200000 in
theorem spec_trvR (w : World) (A A' : Option Addr) (n n' c c' : Nat) (t f : List Int) (h : Rd w A n t) (h' : Rd w A' n' f) (hn : n ≤ 1048576) (hn' : n' ≤ 1048576) (k : Int) {ok : Bool} {ys : List (List Int)} (hR : trvR t f k = (ok, ys)) :
    Calls Try.prog 28 #[.agg #[.slice A n c, .slice A' n' c'], .int .i64 k] w fun e w' => ∃ v, e = .returned (.tuple #[v, .bool ok]) ∧ OwnSS w' w.heap.size w'.heap.size v ys ∧ Below w.heap.size w w' := by
  obtain ⟨i1, hinf1, hy0, hy1, hy2⟩ := info_parts info_slice
  obtain ⟨W0, hW0, hx, hb, hz⟩ := Box.local_ w 30 (.slice A n c) (.slice A' n' c')
  have hbE : Below W0.heap.size W0 (W0.alloc (.cells #[] 22)) := (Below.refl _ _).alloc (Nat.le_refl _) _
  have hx1 := hx.below hbE
  have c0' := hx.cell0; have c1' := hx.cell1
  obtain ⟨h2, hh2⟩ : ∃ h2, n' / 2 = h2 := ⟨_, rfl⟩
  have g2 : IntKind.i64.wrap ((n' : Int) / 2) = (h2 : Int) := by rw [IntWalk.i64_in _ (by omega)]; omega
  have g2' : (n' : Int) / 2 = (h2 : Int) := by omega
  have HHH := Lib.hid hh2
  have HX := Lib.hid hx1; have HB := Lib.hid (hb.trans (hbE.mono hb.size)); have HOE : Hid (OwnSS (W0.alloc (.cells #[] 22)) (w.heap.size + 1) (w.heap.size + 1) (.slice (some ⟨W0.heap.size, 0, none⟩) 0 0) []) := OwnSS.empty (by omega)
  have H := Lib.hid h; have H' := Lib.hid h'; have HR := Lib.hid hR; have HZ := Lib.hid hz
  clear hx hb h h' hR hx1 hbE hh2 hz
  cases hg : mapV t f && inB k 1 6 with
  | false =>
    have HV : Hid (vvB t f k [] = false) := vv_no fun kn e hm h1 h6 => by
      subst e
      rw [mapV_iff.2 hm, inB_true (by omega) (by omega)] at hg
      exact absurd hg (by decide)
    have HF : Hid (trvR t f k = (false, [])) := by
      rw [Hid, trvR, if_neg (fun h => by
        obtain ⟨kn, e, hm, h1, h6, _⟩ := cvB_iff.1 h
        subst e
        rw [mapV_iff.2 hm, inB_true (by omega) (by omega)] at hg
        exact absurd hg (by decide))]
    obtain ⟨rfl, rfl⟩ : ok = false ∧ ys = [] := by have := HR.out; rw [HF.out] at this; simpa [eq_comm] using this
    have HG := Lib.hid hg; clear hg
    go_enter Try.func28, Try.ntmps28
    go_wp2_with fail
    clear c0' c1'
    go_loopw [6, 7] (fun ov ev wr => ov = .slice (some ⟨W0.heap.size, 0, none⟩) 0 0 ∧ ev = .int .i64 0 ∧ Hid (OwnSS wr (w.heap.size + 1) (w.heap.size + 1) (.slice (some ⟨W0.heap.size, 0, none⟩) 0 0) []) ∧ Hid (Below w.heap.size w wr) ∧ Hid (Box wr w.heap.size 30 (.slice A n c) (.slice A' n' c'))) (fun _ _ _ => 0)
    case atStart => exact ⟨rfl, rfl, HOE, HB, HX⟩
    case round =>
      clear HOE HB HX
      obtain ⟨rfl, rfl, ho, hb, hbx⟩ := hrel
      have c0 := hbx.out.cell0
      have c1 := hbx.out.cell1
      by_cases hz2 : h2 = 0
      · have hd0 : decide (0 < h2) = false := by simp; omega
        have HZ2 := Lib.hid hz2; clear hz2
        go_wp2_with (go_at_call 36; refine (spec_vvB _ A A' n n' c c' t f (H.out.below hb.out) (H'.out.below hb.out) hn hn' k _ 0 0 [] (ho.out.rd rfl) (by omega) (by simp [total]) HV.out).mono ?_; rintro e w2 ⟨rfl, b⟩; have HB2 := Lib.hid (hb.out.trans (b.mono hb.out.size)); have hws2 := b.size; clear b c0 c1)
        go_ret2
        have hw2 := HB2.out.size
        exact ⟨_, rfl, OwnSS.empty hw2, HB2.out.alloc hw2 _⟩
      · have hd0 : decide (0 < h2) = true := by simp; omega
        have HZ2 := Lib.hid hz2; clear hz2
        cases hv : mapV t f with
        | false =>
          have HMV := Lib.hid hv; clear hv
          go_wp2_with (first
            | (go_at_call 68; refine (spec_mapV wr A A' n n' c c' t f (H.out.below hb.out) (H'.out.below hb.out) hn hn' HMV.out).mono ?_; rintro e w1 ⟨rfl, b⟩; have HB1 := Lib.hid (hb.out.trans (b.mono hb.out.size)); have HO1 := Lib.hid (ho.out.below b); have hx1 := hbx.out.below b; have d0 := hx1.cell0; have d1 := hx1.cell1; clear b c0 c1 hx1)
            | (go_at_call 36; refine (spec_vvB _ A A' n n' c c' t f (H.out.below HB1.out) (H'.out.below HB1.out) hn hn' k _ 0 0 [] (HO1.out.rd rfl) (by omega) (by simp [total]) HV.out).mono ?_; rintro e w2 ⟨rfl, b⟩; have HB2 := Lib.hid (HB1.out.trans (b.mono HB1.out.size)); clear b d0 d1))
          go_ret2
          have hw2 := HB2.out.size
          exact ⟨_, rfl, OwnSS.empty hw2, HB2.out.alloc hw2 _⟩
        | true =>
          have hi : inB k 1 6 = false := by have := HG.out; rw [hv, Bool.true_and] at this; exact this
          have HMV := Lib.hid hv; have HI := Lib.hid hi; clear hv hi
          go_wp2_with (first
            | (go_at_call 68; refine (spec_mapV wr A A' n n' c c' t f (H.out.below hb.out) (H'.out.below hb.out) hn hn' HMV.out).mono ?_; rintro e w1 ⟨rfl, b⟩; have HB1 := Lib.hid (hb.out.trans (b.mono hb.out.size)); have HO1 := Lib.hid (ho.out.below b); have hx1 := hbx.out.below b; have d0 := hx1.cell0; have d1 := hx1.cell1; clear b c0 c1 hx1)
            | (go_at_call 69; refine (l6In_any k 1 6 _).mono ?_; rintro e w2 ⟨rfl, rfl⟩; rw [HI.out])
            | (go_at_call 36; refine (spec_vvB _ A A' n n' c c' t f (H.out.below HB1.out) (H'.out.below HB1.out) hn hn' k _ 0 0 [] (HO1.out.rd rfl) (by omega) (by simp [total]) HV.out).mono ?_; rintro e w2 ⟨rfl, b⟩; have HB2 := Lib.hid (HB1.out.trans (b.mono HB1.out.size)); clear b d0 d1))
          go_ret2
          have hw2 := HB2.out.size
          exact ⟨_, rfl, OwnSS.empty hw2, HB2.out.alloc hw2 _⟩
  | true =>
    obtain ⟨hv, hi⟩ : mapV t f = true ∧ inB k 1 6 = true := by simpa [Bool.and_eq_true] using hg
    obtain ⟨hk1, hk6⟩ : 1 ≤ k ∧ k ≤ 6 := by simpa [inB] using hi
    obtain ⟨kn, rfl⟩ : ∃ kn : Nat, k = kn := ⟨k.toNat, by omega⟩
    have hm := mapV_iff.1 hv
    have hn2 : n' = n := by rw [← H.out.1, ← H'.out.1]; exact hm.len.symm
    subst hn2
    have hn12 : n' ≤ 12 := by rw [← H.out.1]; exact hm.turn.2.1
    have hh6 : h2 ≤ 6 := by have := HHH.out; omega
    obtain ⟨q, hq⟩ : ∃ q, vvB t f (kn : Int) (List.replicate h2 (marks 0 kn)) = q := ⟨_, rfl⟩
    have HE : Hid (trvR t f (kn : Int) = if q = true then (true, List.replicate h2 (marks 0 kn)) else (false, [])) := by
      rw [Hid, trvR, H'.out.1, HHH.out, Int.toNat_natCast]
      by_cases hc : cvB t f (kn : Int) = true
      · obtain ⟨k', e, _, _, _, hf⟩ := cvB_iff.1 hc
        obtain rfl : kn = k' := by omega
        have := vvB_true (trv_volt hm (k := kn) (by omega) (by omega) hf)
        rw [H'.out.1, HHH.out, hq] at this
        rw [if_pos hc, if_pos this]
      · rw [if_neg hc, if_neg]
        intro e
        rw [e] at hq
        obtain ⟨k', e', hv'⟩ := Volt_of hq
        exact hc (by rw [e']; exact hv'.cv)
    have HMV := Lib.hid hv; have HI := Lib.hid hi; have HQ := Lib.hid hq
    clear hv hi hg hm hq
    go_enter Try.func28, Try.ntmps28
    go_wp2_with fail
    clear c0' c1'
    go_loopw [6, 7] (fun ov ev wr => ∃ e : Nat, e ≤ h2 ∧ ev = .int .i64 e ∧ Hid (OwnSS wr (w.heap.size + 1) wr.heap.size ov (List.replicate e (marks 0 kn))) ∧ Hid (Below w.heap.size w wr) ∧ Hid (Box wr w.heap.size 30 (.slice A n' c) (.slice A' n' c'))) (fun _ ev _ => h2 - (intOf ev).toNat)
    case atStart => exact ⟨0, Nat.zero_le _, rfl, HOE.out.more (by simp; have := HZ.out; omega), HB, HX⟩
    case round =>
      clear HOE HB HX
      obtain ⟨e, he, rfl, ho, hb, hbx⟩ := hrel
      have c0 := hbx.out.cell0
      have c1 := hbx.out.cell1
      have hwr := hbx.out.lt
      by_cases hlt : e < h2
      · go_wp2_with (first
          | (go_at_call 68; refine (spec_mapV wr A A' n' n' c c' t f (H.out.below hb.out) (H'.out.below hb.out) hn hn' HMV.out).mono ?_; rintro e w1 ⟨rfl, b⟩; have HB1 := Lib.hid (hb.out.trans (b.mono hb.out.size)); have ho1 := ho.out.below b; have HX1 := Lib.hid (hbx.out.below b); have hws1 := b.size; have HO1 := Lib.hid (ho1.more hws1); clear b c0 c1 ho1)
          | (go_at_call 69; refine (l6In_any (kn : Int) 1 6 _).mono ?_; rintro e w2 ⟨rfl, rfl⟩; rw [HI.out])
          | (go_at_call 70; refine (l1Same_any kn _ (by omega)).mono ?_; rintro e w2 ⟨u, rfl, o, b⟩; obtain ⟨Au, cu, rfl, -, -⟩ := o.form' (marks_len 0 kn); obtain ⟨vs, hop⟩ := (HO1.out.below b).opn; have HOP := Lib.hid hop; have HROW := Lib.hid (hop.row (List.length_replicate ..)); have HU := Lib.hid o; have HB2 := Lib.hid b; have hws2 := b.size; clear o b hop)
          | (at_builtin; refine wpList_append_own _ rfl _ _ 25 rfl (w.heap.size + 1) 22 i1 (.slice none 0 0) 1 24 Try.underlying25 hinf1 hy0 hy1 hy2 rfl (by decide) _ _ _ rfl (HROW.out.alloc _) ⟨w2.heap.size, 0, none⟩ 1 1 [.slice Au kn cu] rfl rfl (cell_one_new _ _ _) (by intro u hu; simp at hu; subst hu; rfl) (by unfold maxLen; omega) (by omega) (by simp; omega) ?_; intro v3 w3 hown3 hgrow3 _; have HO3 := Lib.hid hown3; have HG3 := Lib.hid hgrow3; clear hown3 hgrow3))
        go_roundw
        case rel =>
          have ha := app_row (by omega) (List.length_replicate ..) HOP.out HB2.out HU.out HO3.out HG3.out
          exact ⟨e + 1, by omega, by go_num, by rw [Hid, rep_snoc]; exact ha.1, HB1.out.trans (ha.2.mono (Nat.le_succ _)), HX1.out.over ha.2 (Nat.lt_succ_self _)⟩
        case measure => simp [intOf]; omega
      · obtain rfl : e = h2 := by omega
        have HTOT : Hid (total (List.replicate e (marks 0 kn)) ≤ 1048576) := by have := rep_total (h := e) (k := kn) hh6 (by omega); rw [Hid]; omega
        obtain ⟨Ao, co, rfl, -⟩ := ho.out.form (List.length_replicate ..)
        cases q with
        | false =>
          obtain ⟨rfl, rfl⟩ : ok = false ∧ ys = [] := by have := HR.out; rw [HE.out] at this; simpa [eq_comm] using this
          go_wp2_with (go_at_call 36; refine (spec_vvB _ A A' n' n' c c' t f (H.out.below hb.out) (H'.out.below hb.out) hn hn' (kn : Int) Ao e co _ (ho.out.rd (List.length_replicate ..)) (by omega) HTOT.out HQ.out).mono ?_; rintro e w2 ⟨rfl, b⟩; have HB2 := Lib.hid (hb.out.trans (b.mono hb.out.size)); clear b c0 c1)
          go_ret2
          have hw2 := HB2.out.size
          exact ⟨_, rfl, OwnSS.empty hw2, HB2.out.alloc hw2 _⟩
        | true =>
          obtain ⟨rfl, rfl⟩ : ok = true ∧ ys = List.replicate e (marks 0 kn) := by have := HR.out; rw [HE.out] at this; simpa [eq_comm] using this
          go_wp2_with (go_at_call 36; refine (spec_vvB _ A A' n' n' c c' t f (H.out.below hb.out) (H'.out.below hb.out) hn hn' (kn : Int) Ao e co _ (ho.out.rd (List.length_replicate ..)) (by omega) HTOT.out HQ.out).mono ?_; rintro e w2 ⟨rfl, b⟩; have HB2 := Lib.hid (hb.out.trans (b.mono hb.out.size)); have HO2 := Lib.hid ((ho.out.below b).more b.size); clear b c0 c1)
          go_ret2
          exact ⟨_, rfl, HO2.out.mono (Nat.le_succ _), HB2.out⟩

set_option maxRecDepth 20000 in
set_option maxHeartbeats 3200000 in
theorem impl_trvR (w : World) (A A' : Option Addr) (n n' c c' : Nat) (t f : List Int) (h : Rd w A n t) (h' : Rd w A' n' f) (hn : n ≤ 1048576) (hn' : n' ≤ 1048576) (k : Int) {ok : Bool} {ys : List (List Int)} (hR : trvR t f k = (ok, ys)) :
    Calls Try.prog 27 #[.agg #[.slice A n c, .slice A' n' c'], .int .i64 k] w fun e w' => ∃ v, e = .returned (.tuple #[v, .bool ok]) ∧ OwnSS w' w.heap.size w'.heap.size v ys ∧ Below w.heap.size w w' := by
  obtain ⟨i1, hinf1, hy0, hy1, hy2⟩ := info_parts info_slice
  obtain ⟨W0, hW0, hx, hb, hz⟩ := Box.local_ w 30 (.slice A n c) (.slice A' n' c')
  have HX := Lib.hid hx; have HB := Lib.hid hb; have H := Lib.hid h; have H' := Lib.hid h'; have HR := Lib.hid hR
  clear hx hb h h' hR hz
  cases hg : cvB t f k with
  | false =>
    have HF : Hid (trvR t f k = (false, [])) := by rw [Hid, trvR, if_neg (by rw [hg]; decide)]
    obtain ⟨rfl, rfl⟩ : ok = false ∧ ys = [] := by have := HR.out; rw [HF.out] at this; simpa [eq_comm] using this
    have HG := Lib.hid hg; clear hg
    go_enter Try.func27, Try.ntmps27
    go_wp2_with (go_at_call 65; refine (coverable_any w.heap.size A A' n n' c c' t f W0 HX.out (H.out.below HB.out) (H'.out.below HB.out) hn hn' k HG.out).mono ?_; rintro e w1 ⟨rfl, b⟩; have HB1 := Lib.hid (HB.out.trans (b.mono HB.out.size)); clear b)
    go_ret2
    exact ⟨_, rfl, OwnSS.nil_, HB1.out⟩
  | true =>
    obtain ⟨kn, rfl, hm, hk1, hk6, hf⟩ := cvB_iff.1 hg
    have hn12 : n' ≤ 12 := by rw [← H'.out.1]; exact hm.flip.2.1
    obtain ⟨h2, hh2⟩ : ∃ h2, n' / 2 = h2 := ⟨_, rfl⟩
    have hh6 : h2 ≤ 6 := by omega
    have HF : Hid (trvR t f (kn : Int) = (true, List.replicate h2 (marks 0 kn))) := by rw [Hid, trvR, if_pos hg, H'.out.1, hh2, Int.toNat_natCast]
    obtain ⟨rfl, rfl⟩ : ok = true ∧ ys = List.replicate h2 (marks 0 kn) := by have := HR.out; rw [HF.out] at this; simpa [eq_comm] using this
    have HG := Lib.hid hg; have HHH := Lib.hid hh2; clear hg hm hf hh2
    go_enter Try.func27, Try.ntmps27
    go_wp2_with (first
      | (go_at_call 65; refine (coverable_any w.heap.size A A' n n' c c' t f W0 HX.out (H.out.below HB.out) (H'.out.below HB.out) hn hn' (kn : Int) HG.out).mono ?_; rintro e w1 ⟨rfl, b⟩; have HX1 := Lib.hid (HX.out.below b); have HB1 := Lib.hid (HB.out.trans (b.mono HB.out.size)); clear b)
      | (go_at_call 66; refine (edgeCount_any w.heap.size A A' n n' c c' h2 w1 HX1.out hn' HHH.out).mono ?_; rintro e w2 ⟨rfl, rfl⟩))
    go_loopw [6, 11] (fun ov ev wr => ∃ e : Nat, e ≤ h2 ∧ ev = .int .i64 e ∧ Hid (OwnSS wr w.heap.size wr.heap.size ov (List.replicate e (marks 0 kn))) ∧ Hid (Below w.heap.size w wr)) (fun _ ev _ => h2 - (intOf ev).toNat)
    case atStart => exact ⟨0, Nat.zero_le _, rfl, OwnSS.nil_, HB1⟩
    case round =>
      clear HB1 HX1
      obtain ⟨e, he, rfl, ho, hb⟩ := hrel
      have hwr := hb.out.size
      by_cases hlt : e < h2
      · go_wp2_with (first
          | (go_at_call 67; refine (stillPerm_any kn _ (by omega)).mono ?_; rintro e w2 ⟨u, rfl, o, b⟩; obtain ⟨Au, cu, rfl, -, -⟩ := o.form' (marks_len 0 kn); obtain ⟨vs, hop⟩ := (ho.out.below b).opn; have HOP := Lib.hid hop; have HROW := Lib.hid (hop.row (List.length_replicate ..)); have HU := Lib.hid o; have HB2 := Lib.hid b; have hws2 := b.size; clear o b hop)
          | (at_builtin; refine wpList_append_own _ rfl _ _ 25 rfl w.heap.size 22 i1 (.slice none 0 0) 1 24 Try.underlying25 hinf1 hy0 hy1 hy2 rfl (by decide) _ _ _ rfl (HROW.out.alloc _) ⟨w2.heap.size, 0, none⟩ 1 1 [.slice Au kn cu] rfl rfl (cell_one_new _ _ _) (by intro u hu; simp at hu; subst hu; rfl) (by unfold maxLen; omega) (by omega) (by simp; omega) ?_; intro v3 w3 hown3 hgrow3 _; have HO3 := Lib.hid hown3; have HG3 := Lib.hid hgrow3; clear hown3 hgrow3))
        go_roundw
        case rel =>
          have ha := app_row hwr (List.length_replicate ..) HOP.out HB2.out HU.out HO3.out HG3.out
          exact ⟨e + 1, by omega, by go_num, by rw [Hid, rep_snoc]; exact ha.1, hb.out.trans ha.2⟩
        case measure => simp [intOf]; omega
      · obtain rfl : e = h2 := by omega
        go_wp2_with fail
        go_ret2
        exact ⟨_, rfl, ho.out, hb.out⟩

end Go.Proofs.Ytlnegaenjcekcaa

/-
  Words cut and glued anew: the model's answer.
-/
import Derived.Test.YtnplklccnaiemaaDoorWrdU
import Derived.Test.YtnplklccnaiemaaDoorValid
namespace Go.Proofs.YtnplklccnaiemaaDoor
open Go.RowKit

theorem below_undrewU {B k : Nat} {w w' : World} (h : Below B (w.drewN k) w') : Below B w w' := ⟨h.os, h.tape, h.output, h.size, h.block⟩
/-- The parts of the text of a word that is cut. -/
structure Texts (s : ByteArray) (i k m x k1 m1 : Nat) : Prop where
  a : (s.extract k1 i).size ≤ 10
  b : (s.extract 0 k).size ≤ 10
  c : (s.extract m1 s.size).size ≤ 10
  d : (s.extract i m).size ≤ 10
  f : (s.extract k1 i ++ ⟨#[nmb x true]⟩ ++ s.extract 0 k).data.toList = (s.data.toList.take i).drop (k + 1) ++ [nmb x true] ++ s.data.toList.take k
  r : (s.extract m1 s.size ++ ⟨#[nmb x false]⟩ ++ s.extract i m).data.toList = s.data.toList.drop (m + 1) ++ [nmb x false] ++ (s.data.toList.take m).drop i
  fs : (s.extract k1 i ++ ⟨#[nmb x true]⟩ ++ s.extract 0 k).size ≤ 100
  rs : (s.extract m1 s.size ++ ⟨#[nmb x false]⟩ ++ s.extract i m).size ≤ 100
theorem ext_data (s : ByteArray) (a b : Nat) : (s.extract a b).data.toList = (s.data.toList.take b).drop a := by
  simp [ByteArray.data_extract, List.extract_eq_take_drop, List.drop_take]
theorem size_of_len {s : ByteArray} {n : Nat} (h : s.data.toList.length ≤ n) : s.size ≤ n := by rwa [len_str] at h
theorem Texts.mk' {s : ByteArray} {i k m x k1 m1 : Nat} (h10 : s.size ≤ 10) (h1 : k1 = k + 1) (h2 : m1 = m + 1) : Texts s i k m x k1 m1 := by
  subst h1; subst h2
  have hl := len_str s
  have e3 : (s.extract (m + 1) s.size).data.toList = s.data.toList.drop (m + 1) := (drop_data s _).1
  have f1 : (s.extract (k + 1) i ++ ⟨#[nmb x true]⟩ ++ s.extract 0 k).data.toList = (s.data.toList.take i).drop (k + 1) ++ [nmb x true] ++ s.data.toList.take k := by
    rw [str_app, str_app, ext_data, ext_data, List.drop_zero]
  have r1 : (s.extract (m + 1) s.size ++ ⟨#[nmb x false]⟩ ++ s.extract i m).data.toList = s.data.toList.drop (m + 1) ++ [nmb x false] ++ (s.data.toList.take m).drop i := by
    rw [str_app, str_app, ext_data s i m, e3]
  refine ⟨?_, ?_, ?_, ?_, f1, r1, ?_, ?_⟩
  · apply size_of_len; rw [ext_data, List.length_drop, List.length_take]; omega
  · apply size_of_len; rw [ext_data, List.length_drop, List.length_take]; omega
  · apply size_of_len; rw [e3, List.length_drop]; omega
  · apply size_of_len; rw [ext_data, List.length_drop, List.length_take]; omega
  · apply size_of_len; rw [f1]; simp only [List.length_append, List.length_drop, List.length_take, List.length_cons, List.length_nil]; omega
  · apply size_of_len; rw [r1]; simp only [List.length_append, List.length_drop, List.length_take, List.length_cons, List.length_nil]; omega
theorem rest_letters {l : List UInt8} (h : Word l) {i m x : Nat} (hx : x < 5) : ∀ c, c ∈ l.drop (m + 1) ++ [nmb x false] ++ (l.take m).drop i → 0 ≤ ltr c := by
  intro c hc
  simp only [List.mem_append, List.mem_cons, List.not_mem_nil, or_false] at hc
  rcases hc with (hc | hc) | hc
  · exact (h.mem (List.mem_of_mem_drop hc)).1
  · rw [hc, (ltr_nmb x hx false).1]; omega
  · exact (h.mem (List.mem_of_mem_take (List.mem_of_mem_drop hc))).1

set_option maxRecDepth 100000 in
set_option maxHeartbeats 3200000 in
theorem spec_cutWR (w : World) (s : ByteArray) (hs : s.size ≤ 1048576) (i : Int) (_hwi : (Lit.int .i64 i).wf = true) (k : Int) (_hwk : (Lit.int .i64 k).wf = true) {ok : Bool} {r : List UInt8} (hR : cutWR s.data.toList i k = (ok, r)) :
    Calls Tryd.prog 11 #[.string s, .int .i64 i, .int .i64 k] w fun e w' => e = .returned (.tuple #[.string ⟨r.toArray⟩, .bool ok]) ∧ Below w.heap.size w w' := by
  by_cases ha : wordB s.data.toList = true
  · have HA : Hid (wordB s.data.toList = true) := ha
    have hw := wordB_iff.1 ha
    have hlen := hw.len
    rw [len_str] at hlen
    by_cases hin : 1 ≤ i ∧ i ≤ (s.data.toList.length : Int) - 1 ∧ 0 ≤ k ∧ k ≤ i - 1
    · rw [len_str] at hin
      obtain ⟨h1, h2, h3, h4⟩ := hin
      obtain ⟨i, rfl⟩ := Int.eq_ofNat_of_zero_le (show 0 ≤ i by omega)
      obtain ⟨k, rfl⟩ := Int.eq_ofNat_of_zero_le h3
      have hks : k < s.size := by omega
      have hkl : k < s.data.toList.length := by rw [len_str]; exact hks
      obtain ⟨m, hm⟩ : ∃ m, par s.data.toList k = m := ⟨_, rfl⟩
      have hml := (hw.isPar hkl).lt
      rw [hm, len_str] at hml
      have HM := Lib.hid hm
      have E1 : Hid (inB (i : Int) 1 ((s.size : Int) - 1) = true) := inB_true h1 h2
      have E2 : Hid (inB (k : Int) 0 ((i : Int) - 1) = true) := inB_true h3 h4
      have hks2 : (k : Int) < (s.size : Int) := by omega
      have hms2 : (m : Int) < (s.size : Int) := by omega
      have HP1 := Lib.hid (fun W => l8Partner_any s k W hs hks)
      by_cases him : i ≤ m
      · have h := (cutWR_yes (cutOk_yes (i := i) (k := k) ha (by omega) (by rw [len_str]; omega) (by omega) (by rw [hm]; exact him))).symm.trans hR
        simp only [Prod.mk.injEq, Int.toNat_natCast] at h
        obtain ⟨rfl, e⟩ := h
        obtain ⟨x, hx⟩ := Int.eq_ofNat_of_zero_le (hw.ok k hkl).1
        have hx5 : x < 5 := by have := (ltr_range (gb s.data.toList k)).2; omega
        have hx32 : x < 32 := by omega
        have HX : Hid (ltr (s[k]'hks) = (x : Int)) := by rw [Hid, ← gb_at s hks]; exact hx
        obtain ⟨k1, hk1⟩ : ∃ k1, k1 = k + 1 := ⟨_, rfl⟩
        obtain ⟨m1, hm1⟩ : ∃ m1, m1 = m + 1 := ⟨_, rfl⟩
        have T := Lib.hid (Texts.mk' (s := s) (i := i) (k := k) (m := m) (x := x) (by omega) hk1 hm1)
        have hk1i : (k : Int) + 1 = (k1 : Int) := by omega
        have hm1i : (m : Int) + 1 = (m1 : Int) := by omega
        have hk1w : IntKind.i64.wrap (k1 : Int) = (k1 : Int) := IntWalk.i64_in _ (by omega)
        have hm1w : IntKind.i64.wrap (m1 : Int) = (m1 : Int) := IntWalk.i64_in _ (by omega)
        have hk1b : k1 ≤ 1048576 := by omega
        have hm1b : m1 ≤ 1048576 := by omega
        have hki : k1 ≤ i := by omega
        have his : i ≤ s.size := by omega
        have hms : m1 ≤ s.size := by omega
        have c1 : ∀ W : World, (Op.stringOp .add (s.extract k1 i) ⟨#[nmb x true]⟩).run Tryd.prog W = .ok (.string (s.extract k1 i ++ ⟨#[nmb x true]⟩)) W := fun W => run_string_add_sum W _ _ (by have := T.out.a; show (s.extract k1 i).size + 1 ≤ 9223372036854775807; omega)
        have c2 : ∀ W : World, (Op.stringOp .add (s.extract k1 i ++ ⟨#[nmb x true]⟩) (s.extract 0 k)).run Tryd.prog W = .ok (.string (s.extract k1 i ++ ⟨#[nmb x true]⟩ ++ s.extract 0 k)) W := fun W => run_string_add_sum W _ _ (by have := T.out.fs; rw [ByteArray.size_append] at this; omega)
        have c3 : ∀ W : World, (Op.stringOp .add (s.extract m1 s.size) ⟨#[nmb x false]⟩).run Tryd.prog W = .ok (.string (s.extract m1 s.size ++ ⟨#[nmb x false]⟩)) W := fun W => run_string_add_sum W _ _ (by have := T.out.c; show (s.extract m1 s.size).size + 1 ≤ 9223372036854775807; omega)
        have c4 : ∀ W : World, (Op.stringOp .add (s.extract m1 s.size ++ ⟨#[nmb x false]⟩) (s.extract i m)).run Tryd.prog W = .ok (.string (s.extract m1 s.size ++ ⟨#[nmb x false]⟩ ++ s.extract i m)) W := fun W => run_string_add_sum W _ _ (by have := T.out.rs; rw [ByteArray.size_append] at this; omega)
        have HLET := Lib.hid (rest_letters hw (i := i) (m := m) hx5)
        rw [← T.out.r] at HLET
        obtain ⟨sm, hsm⟩ : ∃ sm, (sml (gb s.data.toList k) == sml (gb s.data.toList m)) = sm := ⟨_, rfl⟩
        have HSM : Hid ((sml (s[k]'hks) == sml (s[m]'hml)) = sm) := by rw [Hid, ← gb_at s hks, ← gb_at s hml]; exact hsm
        have HE : Hid (r = (s.extract k1 i ++ ⟨#[nmb x true]⟩ ++ s.extract 0 k).data.toList ++ (if sm then backW (s.extract m1 s.size ++ ⟨#[nmb x false]⟩ ++ s.extract i m).data.toList else (s.extract m1 s.size ++ ⟨#[nmb x false]⟩ ++ s.extract i m).data.toList)) := by
          rw [Hid, ← e, T.out.f, T.out.r, cutW, hm, restW, hx, hsm]; rfl
        clear hR ha e hw hm hkl hx h1 h2 h3 h4 hsm hk1 hm1
        go_enter Tryd.func11, Tryd.ntmps11
        go_wp2_with fail
        refine (specWord_any s _ hs HA.out).mono ?_
        rintro e w1 ⟨rfl, q1, rfl⟩
        go_wp2_with fail
        refine (l6In_any _ _ _ _).mono ?_
        rintro e w1 ⟨rfl, rfl⟩
        rw [E1.out]
        go_wp2_with fail
        refine (l6In_any _ _ _ _).mono ?_
        rintro e w1 ⟨rfl, rfl⟩
        rw [E2.out]
        go_wp2_with fail
        refine (HP1.out _).mono ?_
        rintro e w1 ⟨rfl, q2, rfl⟩
        rw [HM.out]
        go_wp2_with fail
        refine (HP1.out _).mono ?_
        rintro e w1 ⟨rfl, q3, rfl⟩
        rw [HM.out]
        go_wp2_with fail
        refine (l8Letter_any _ _).mono ?_
        rintro e w1 ⟨rfl, rfl⟩
        rw [HX.out]
        go_wp2_with fail
        refine (l8Name_any x true _ hx32).mono ?_
        rintro e w1 ⟨rfl, b⟩
        have HB1 := Lib.hid (below_undrewU b); clear b
        go_wp2_with fail
        go_region_with (go_at_call 23; (with_reducible refine (l8Name_any x false _ hx32).mono ?_); rintro e w2 ⟨rfl, b⟩; have HB2 := Lib.hid (below_undrewU b); clear b)
        all_goals
          have HB3 := Lib.hid (HB1.out.trans (HB2.out.mono HB1.out.size))
          go_wp2_with fail
          go_quiet ((go_at_call 24; exact (l8Small_any _ _).mono fun e w' h => ⟨h.1, _, h.2.symm⟩))
          rw [HSM.out]
          cases sm with
          | true =>
            go_wp2_with fail
            refine (l8Back_any _ _ (Nat.le_trans T.out.rs (by omega)) HLET.out).mono ?_
            rintro e w4 ⟨rfl, b⟩
            have HB4 := Lib.hid (HB3.out.trans ((below_undrewU b).mono HB3.out.size)); clear b
            obtain ⟨Q, hQ⟩ : ∃ Q : ByteArray, (⟨(backW (s.extract m1 s.size ++ ⟨#[nmb x false]⟩ ++ s.extract i m).data.toList).toArray⟩ : ByteArray) = Q := ⟨_, rfl⟩
            have hQ2 : Q.data.toList = backW (s.extract m1 s.size ++ ⟨#[nmb x false]⟩ ++ s.extract i m).data.toList := by rw [← hQ]
            have HQ2 := Lib.hid hQ2
            have c5 : ∀ W : World, (Op.stringOp .add (s.extract k1 i ++ ⟨#[nmb x true]⟩ ++ s.extract 0 k) Q).run Tryd.prog W = .ok (.string (s.extract k1 i ++ ⟨#[nmb x true]⟩ ++ s.extract 0 k ++ Q)) W := fun W => run_string_add_sum W _ _ (by
              have := T.out.fs
              have h2 := T.out.rs
              have h3 : Q.size = (s.extract m1 s.size ++ ⟨#[nmb x false]⟩ ++ s.extract i m).size := by
                rw [← len_str, ← len_str, hQ2]
                exact backW_len _
              rw [h3]; omega)
            rw [hQ]
            clear hQ hQ2
            go_wp2_with fail
            go_ret2
            refine ⟨?_, HB4.out⟩
            have e1 : (s.extract k1 i ++ ⟨#[nmb x true]⟩ ++ s.extract 0 k ++ Q) = ⟨r.toArray⟩ := str_mk (by rw [HE.out, if_pos trivial, str_app, HQ2.out])
            rw [← e1]
            rfl
          | false =>
            have c5 : ∀ W : World, (Op.stringOp .add (s.extract k1 i ++ ⟨#[nmb x true]⟩ ++ s.extract 0 k) (s.extract m1 s.size ++ ⟨#[nmb x false]⟩ ++ s.extract i m)).run Tryd.prog W = .ok (.string (s.extract k1 i ++ ⟨#[nmb x true]⟩ ++ s.extract 0 k ++ (s.extract m1 s.size ++ ⟨#[nmb x false]⟩ ++ s.extract i m))) W := fun W => run_string_add_sum W _ _ (by have := T.out.fs; have h2 := T.out.rs; omega)
            go_wp2_with fail
            go_ret2
            refine ⟨?_, below_drewN HB3.out _⟩
            have e1 : (s.extract k1 i ++ ⟨#[nmb x true]⟩ ++ s.extract 0 k ++ (s.extract m1 s.size ++ ⟨#[nmb x false]⟩ ++ s.extract i m)) = ⟨r.toArray⟩ := str_mk (by rw [HE.out, if_neg (by simp), str_app])
            rw [← e1]
            rfl
      · have h := (cutWR_no (cutOk_par (i := i) (k := k) (by rw [hm]; exact him))).symm.trans hR
        simp only [Prod.mk.injEq] at h
        obtain ⟨rfl, rfl⟩ := h
        have his : i ≤ s.size := by omega
        clear hR ha hw hm hkl h1 h2 h3 h4
        go_enter Tryd.func11, Tryd.ntmps11
        go_wp2_with fail
        refine (specWord_any s _ hs HA.out).mono ?_
        rintro e w1 ⟨rfl, q1, rfl⟩
        go_wp2_with fail
        refine (l6In_any _ _ _ _).mono ?_
        rintro e w1 ⟨rfl, rfl⟩
        rw [E1.out]
        go_wp2_with fail
        refine (l6In_any _ _ _ _).mono ?_
        rintro e w1 ⟨rfl, rfl⟩
        rw [E2.out]
        go_wp2_with fail
        refine (HP1.out _).mono ?_
        rintro e w1 ⟨rfl, q2, rfl⟩
        rw [HM.out]
        go_wp2_with fail
        go_ret2
        exact ⟨rfl, below_drewN (Below.refl _ _) _⟩
    · have h := (cutWR_no (cutOk_at hin)).symm.trans hR
      rw [len_str] at hin
      simp only [Prod.mk.injEq] at h
      obtain ⟨rfl, rfl⟩ := h
      clear hR ha hw
      by_cases h1 : 1 ≤ i ∧ i ≤ (s.size : Int) - 1
      · have E1 : Hid (inB i 1 ((s.size : Int) - 1) = true) := inB_true h1.1 h1.2
        have E2 : Hid (inB k 0 (i - 1) = false) := inB_false (by omega)
        obtain ⟨h1, h2⟩ := h1
        obtain ⟨i, rfl⟩ := Int.eq_ofNat_of_zero_le (show 0 ≤ i by omega)
        have his : i ≤ s.size := by omega
        clear hin
        go_enter Tryd.func11, Tryd.ntmps11
        go_wp2_with fail
        refine (specWord_any s _ hs HA.out).mono ?_
        rintro e w1 ⟨rfl, q1, rfl⟩
        go_wp2_with fail
        refine (l6In_any _ _ _ _).mono ?_
        rintro e w1 ⟨rfl, rfl⟩
        rw [E1.out]
        go_wp2_with fail
        refine (l6In_any _ _ _ _).mono ?_
        rintro e w1 ⟨rfl, rfl⟩
        rw [E2.out]
        go_wp2_with fail
        go_ret2
        exact ⟨rfl, below_drewN (Below.refl _ _) _⟩
      · have E1 : Hid (inB i 1 ((s.size : Int) - 1) = false) := inB_false h1
        clear hin h1
        go_enter Tryd.func11, Tryd.ntmps11
        go_wp2_with fail
        refine (specWord_any s _ hs HA.out).mono ?_
        rintro e w1 ⟨rfl, q1, rfl⟩
        go_wp2_with fail
        refine (l6In_any _ _ _ _).mono ?_
        rintro e w1 ⟨rfl, rfl⟩
        rw [E1.out]
        go_wp2_with fail
        go_ret2
        exact ⟨rfl, below_drewN (Below.refl _ _) _⟩
  · have ha' : wordB s.data.toList = false := by simpa using ha
    have HA : Hid (wordB s.data.toList = false) := ha'
    have h := (cutWR_no (cutOk_word (i := i) (k := k) ha')).symm.trans hR
    simp only [Prod.mk.injEq] at h
    obtain ⟨rfl, rfl⟩ := h
    clear hR ha ha'
    go_enter Tryd.func11, Tryd.ntmps11
    go_wp2_with fail
    refine (specWord_any s _ hs HA.out).mono ?_
    rintro e w1 ⟨rfl, q1, rfl⟩
    go_wp2_with fail
    go_ret2
    exact ⟨rfl, below_drewN (Below.refl _ _) _⟩

end Go.Proofs.YtnplklccnaiemaaDoor

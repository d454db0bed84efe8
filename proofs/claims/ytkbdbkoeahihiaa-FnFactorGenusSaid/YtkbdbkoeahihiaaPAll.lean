/-
  All partitions: the program's tree from its root on; PartsAll, the model's and the program's.
-/
import Derived.Test.YtkbdbkoeahihiaaGrow
import Derived.Test.YtkbdbkoeahihiaaRowsSS
import Derived.Test.YtkbdbkoeahihiaaValid
namespace Go.Proofs.Ytkbdbkoeahihiaa
open Go.RowKit
set_option linter.unusedVariables false
attribute [local go_sem] Oper.semAt_some

theorem allG_all : ∀ d, d ≤ 6 → AllG d := by
  intro d
  induction d using Nat.strongRecOn with
  | ind d ih => exact fun hd => allG_step d hd (fun d' h => ih d' h (by omega))
theorem ptsOf_all : ∀ n : Nat, n < 7 → (ptsOf 7 n n).length ≤ 15 ∧ total (ptsOf 7 n n) ≤ 100 := by decide +kernel

theorem partitions_any (n : Nat) (w : World) (h1 : 1 ≤ n) (h6 : n ≤ 6) :
    Calls Try.prog 43 #[.int .i64 n] w fun e w' => ∃ v vs, e = .returned v ∧ w'.ownsRow w.heap.size 48 1 v vs.length vs ∧ RowsOwn w' w.heap.size w'.heap.size vs (ptsOf 7 n n) ∧ Below w.heap.size w w' := by
  go_enter Try.func43, Try.ntmps43
  go_wp2_with fail
  obtain ⟨w0, hw0⟩ : ∃ w0, (w.alloc (.cells #[.int .i64 n] 3)).alloc (.cells #[] 3) = w0 := ⟨_, rfl⟩
  have hb0 : Below w.heap.size w w0 := hw0 ▸ ((Below.refl _ _).alloc (Nat.le_refl _) _).alloc (by simp) _
  have hbox : w0.heap[w.heap.size]? = some (.cells #[.int .i64 n] 3 (0, 0)) := by rw [← hw0]; exact boxG_alloc (heap_alloc_newG w _)
  rw [hw0]
  clear hw0
  refine (allG_all n h6 ⟨w.heap.size + 1, 0, none⟩ 0 0 w.heap.size [] n n w0 hbox (Rd.nil_ _ _) ⟨fun j hj => absurd hj (by simp), by decide⟩ h6 (by simp [sumI]) h1 h6 (by simp [mostI, sumI])).mono ?_
  rintro e w1 ⟨B, ps, rfl, bl, tr, -, hl⟩
  have e1 : ext [] n n = ptsOf 7 n n := by simp [ext]
  have hro := hl (by omega)
  rw [e1] at hro
  have hlen : ps.length ≤ 1000 := by rw [hro.1]; exact Nat.le_trans (ptsOf_all n (by omega)).1 (by omega)
  have HB1 := Lib.hid (hb0.trans (bl.mono hb0.size)); have HTR := Lib.hid tr.tr; have HRO := Lib.hid (hro.mono hb0.size); have HLEN := Lib.hid hlen
  clear hbox bl tr hl hro hlen hb0
  go_wp2_with fail
  refine (leaves_any _ B ps w1 HTR.out HLEN.out).mono ?_
  rintro e w2 ⟨v, rfl, ho, b⟩
  have HO := Lib.hid (ownsRow_mono ho HB1.out.size); have HB2 := Lib.hid (HB1.out.trans (b.mono HB1.out.size)); have HR2 := Lib.hid ((HRO.out.fix (Fix.below b (Nat.le_refl _))).more b.size)
  clear ho b
  go_wp2_with fail
  go_ret
  exact ⟨_, ps, rfl, HO.out, HR2.out, HB2.out⟩

def paR (n : Int) : Bool × List (List Int) := if 1 ≤ n ∧ n ≤ 6 then (true, ptsOf 7 n.toNat n.toNat) else (false, [])
theorem paR_len {n : Int} {ys : List (List Int)} {ok : Bool} (h : paR n = (ok, ys)) : ys.length ≤ 100 ∧ total ys ≤ 1000 := by
  unfold paR at h
  split at h
  · rename_i hn
    injection h with _ h
    have := ptsOf_all n.toNat (by omega)
    rw [← h]; exact ⟨by omega, by omega⟩
  · injection h with _ h; rw [← h]; exact ⟨by simp, by decide⟩

set_option maxHeartbeats 1600000 in
theorem spec_paR (w : World) (n : Int) (hw : (Lit.int .i64 n).wf = true) {ok : Bool} {ys : List (List Int)} (hR : paR n = (ok, ys)) :
    Calls Try.prog 19 #[.int .i64 n] w fun e w' => ∃ v, e = .returned (.tuple #[v, .bool ok]) ∧ OwnSS w' w.heap.size w'.heap.size v ys ∧ Below w.heap.size w w' := by
  by_cases h : 1 ≤ n ∧ n ≤ 6
  · obtain ⟨rfl, rfl⟩ : ok = true ∧ ys = ptsOf 7 n.toNat n.toNat := by rw [paR, if_pos h] at hR; simpa [eq_comm] using hR
    have hin : inB n 1 6 = true := inB_true h.1 h.2
    obtain ⟨n, rfl⟩ : ∃ k : Nat, n = k := ⟨n.toNat, by omega⟩
    rw [Int.toNat_natCast]
    have HH : Hid (n ≤ 7) := (by omega : n ≤ 7)
    clear hR h
    go_enter Try.func19, Try.ntmps19
    go_wp2_with fail
    refine (l6In_any _ _ _ _).mono ?_
    rintro e w1 ⟨rfl, rfl⟩
    go_wp2_with fail
    refine (l5All_any n w HH.out).mono ?_
    rintro e w2 ⟨g, m, cc, rfl, _, o, b⟩
    have HO := Lib.hid o; have HB := Lib.hid b; clear o b
    go_wp2_with fail
    go_ret2
    exact ⟨_, rfl, HO.out, HB.out⟩
  · obtain ⟨rfl, rfl⟩ : ok = false ∧ ys = [] := by rw [paR, if_neg h] at hR; simpa [eq_comm] using hR
    have hin : inB n 1 6 = false := inB_false h
    clear hR h
    go_enter Try.func19, Try.ntmps19
    go_wp2_with fail
    refine (l6In_any _ _ _ _).mono ?_
    rintro e w1 ⟨rfl, rfl⟩
    go_wp2_with fail
    go_ret2
    exact ⟨_, rfl, OwnSS.empty (Nat.le_refl _), (Below.refl _ _).alloc (Nat.le_refl _) _⟩

theorem info_sliceP : (Try.prog.info? 23).map (fun i => (i.zero, i.size, i.bytes)) = some (some (.slice none 0 0), 1, 24) := by kernel_rfl
theorem take_snoc {vs : List Value} {k : Nat} (h : k < vs.length) : vs.take (k + 1) = vs.take k ++ [vs.getD k undef] := by
  rw [List.take_succ_eq_append_getElem h]; simp [List.getD, List.getElem?_eq_getElem h]

set_option maxHeartbeats 1600000 in
theorem impl_paR (w : World) (n : Int) (hw : (Lit.int .i64 n).wf = true) {ok : Bool} {ys : List (List Int)} (hR : paR n = (ok, ys)) :
    Calls Try.prog 14 #[.int .i64 n] w fun e w' => ∃ v, e = .returned (.tuple #[v, .bool ok]) ∧ OwnSS w' w.heap.size w'.heap.size v ys ∧ Below w.heap.size w w' := by
  obtain ⟨i1, hinf1, hy0, hy1, hy2⟩ := info_parts info_sliceP
  by_cases h : 1 ≤ n ∧ n ≤ 6
  · obtain ⟨rfl, rfl⟩ : ok = true ∧ ys = ptsOf 7 n.toNat n.toNat := by rw [paR, if_pos h] at hR; simpa [eq_comm] using hR
    obtain ⟨n, rfl⟩ : ∃ k : Nat, n = k := ⟨n.toNat, by omega⟩
    rw [Int.toNat_natCast]
    have d1 : decide ((n : Int) < 1) = false := by simp; omega
    have d6 : decide ((6 : Int) < n) = false := by simp; omega
    have HH : Hid (1 ≤ n ∧ n ≤ 6) := ⟨by omega, by omega⟩
    have h15 := (ptsOf_all n (by omega)).1
    clear hR h
    go_enter Try.func14, Try.ntmps14
    go_wp2_with fail
    refine (partitions_any n w HH.out.1 HH.out.2).mono ?_
    rintro e w1 ⟨v, vs, rfl, ho, hro, hb⟩
    obtain ⟨m, hm⟩ : ∃ m, vs.length = m := ⟨_, rfl⟩
    rw [hm] at ho
    have hm15 : m ≤ 15 := by rw [← hm, hro.1]; exact h15
    obtain ⟨A0, c0, rfl⟩ : ∃ A0 c0, v = .slice A0 m c0 := by
      rcases ho.2 with ⟨rfl, hl⟩ | ⟨g, cap, cur, rfl, _⟩
      · exact ⟨none, 0, by rw [hl]⟩
      · exact ⟨_, cap, rfl⟩
    have HM := Lib.hid hm; have HO := Lib.hid ho; have HRO := Lib.hid hro; have HB := Lib.hid hb
    clear hm ho hro hb d1 d6 h15
    go_wp2_with fail
    go_loopw [4, 16] (fun u i wr => ∃ k : Nat, k ≤ m ∧ i = .int .i64 k ∧ Hid (wr.ownsRow w1.heap.size 23 1 u k (vs.take k)) ∧ Hid (Below w1.heap.size w1 wr)) (fun _ i _ => m - (intOf i).toNat)
    case atStart => exact ⟨0, Nat.zero_le _, rfl, World.ownsRow_nil w1 _ _ _, Below.refl _ _⟩
    case round =>
      obtain ⟨k, hk, rfl, hu, hbr⟩ := hrel
      by_cases hlt : k < m
      · have hA0 : ∃ g0, A0 = some ⟨g0, 0, none⟩ ∧ w1.cell? ⟨g0, k, none⟩ = some (vs.getD k undef) := by
          have ho := HO.out
          rcases ho.2 with ⟨hv, h0⟩ | ⟨g, cap, cur, hv, hg, hh, _⟩
          · omega
          · simp only [Value.slice.injEq, true_and] at hv
            obtain ⟨rfl, rfl⟩ := hv
            refine ⟨g, rfl, ?_⟩
            rw [World.ownsRow.cellAt ho k (by omega)]
            simp [List.getD, List.getElem?_eq_getElem (show k < vs.length by rw [HM.out]; exact hlt)]
        obtain ⟨g0, rfl, hc⟩ := hA0
        have hown := (HRO.out.2.1 k (by rw [← HRO.out.1, HM.out]; exact hlt)).1
        obtain ⟨Ak, ck, hvk, -, -⟩ := hown.form
        obtain ⟨nk, hnk⟩ : ∃ nk, ((ptsOf 7 n n).getD k []).length = nk := ⟨_, rfl⟩
        rw [hnk] at hvk
        rw [hvk] at hc
        have hc' : wr.cell? ⟨g0, k, none⟩ = some (.slice Ak nk ck) := (hbr.out.cell (p := ⟨g0, k, none⟩) (World.block_lt_of_cell? w1 _ hc)).trans hc
        have HTK : Hid (vs.take (k + 1) = vs.take k ++ [.slice Ak nk ck]) := by rw [Hid, take_snoc (by rw [HM.out]; exact hlt), hvk]
        have hbz := hbr.out.size
        clear hown hvk hnk hc
        go_wp2_with (at_builtin; refine wpList_append_own _ rfl (.tmp 20) (.tmp 22) 28 rfl w1.heap.size 23 i1 (.slice none 0 0) 1 24 Try.underlying28 hinf1 hy0 hy1 hy2 rfl (by decide) _ _ _ rfl (World.ownsRow.alloc hu.out _) ⟨wr.heap.size, 0, none⟩ 1 1 [.slice Ak nk ck] rfl rfl (cell_one_new _ _ _) (by intro u hu; simp at hu; subst hu; rfl) (by unfold maxLen; omega) (by omega) (by rw [World.size_alloc]; omega) ?_; intro v2 w2 hown2 hgrow2 _; have HO2 := Lib.hid hown2; have HG2 := Lib.hid hgrow2; clear hown2 hgrow2)
        go_roundw
        case rel =>
          refine ⟨k + 1, by omega, by go_num, by rw [Hid, HTK.out]; exact HO2.out, ?_⟩
          exact (hbr.out.alloc hbz _).grown HG2.out (by rw [World.size_alloc]; omega) (fun b hb => (hu.out.lt b hb).1)
        case measure => simp [intOf]; omega
      · obtain rfl : k = m := by omega
        go_wp2_with fail
        go_ret2
        have hz := HB.out.size
        have e1 : vs.take k = vs := List.take_of_length_le (by rw [HM.out]; exact Nat.le_refl _)
        have h1 := hu.out
        rw [e1] at h1
        have e2 : (ptsOf 7 n n).length = k := by rw [← HRO.out.1, HM.out]
        have h2 := ((HRO.out.fix (Fix.below hbr.out (Nat.le_refl _))).more hbr.out.size)
        exact ⟨_, rfl, ⟨vs, h2.1, by rw [e2]; exact ownsRow_mono h1 hz, h2.2.1, h2.2.2⟩, HB.out.trans (hbr.out.mono hz)⟩
  · obtain ⟨rfl, rfl⟩ : ok = false ∧ ys = [] := by rw [paR, if_neg h] at hR; simpa [eq_comm] using hR
    by_cases h1 : n < 1
    · have d1 : decide (n < 1) = true := by simpa using h1
      clear hR h
      go_enter Try.func14, Try.ntmps14
      go_wp2_with fail
      go_ret2
      exact ⟨_, rfl, OwnSS.nil_, Below.refl _ _⟩
    · have d1 : decide (n < 1) = false := by simpa using h1
      have d6 : decide (6 < n) = true := by simp; omega
      clear hR h
      go_enter Try.func14, Try.ntmps14
      go_wp2_with fail
      go_ret2
      exact ⟨_, rfl, OwnSS.nil_, Below.refl _ _⟩

end Go.Proofs.Ytkbdbkoeahihiaa

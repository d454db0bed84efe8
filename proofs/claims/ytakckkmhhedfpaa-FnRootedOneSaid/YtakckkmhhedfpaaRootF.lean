/-
  slices.IndexFunc and slices.DeleteFunc at maps, as rootedOf and rootlessOf call them: one copy a closure (by laws/mkdel.py).
  rootedForms: the forms of all maps, as the program gathers, sorts and compacts them.
  rootedOf, rootlessOf by contract.
  RootedCount, RootedOne, RootlessCount, RootlessRoots: the model's and the program's by contract.
-/
import Derived.Test.YtakckkmhhedfpaaRootS
import Derived.Test.YtakckkmhhedfpaaAdv
import Derived.Test.YtakckkmhhedfpaaTutP
import Derived.Test.YtakckkmhhedfpaaFormR
import Derived.Test.YtakckkmhhedfpaaAllW
import Derived.Test.YtakckkmhhedfpaaGenus
import Derived.Test.YtakckkmhhedfpaaCounts
import Derived.Test.YtakckkmhhedfpaaTurnsR
namespace Go.Proofs.Ytakckkmhhedfpaa
open Go.RowKit

set_option maxRecDepth 20000 in
set_option maxHeartbeats 3200000 in
theorem index1_any {n : Nat} (P : MV n → Bool) (g N c lo b : Nat) (w0 w : World) (xs : List (CM w0 lo n)) (hat : RwC w0 lo n g N c xs w) (hm : N ≤ 1048576) (HD : ∀ (W : World), w0.grownBy W (some g) → ∀ x, x ∈ xs → ∀ A d A' d', x.enc = [.slice A n d, .slice A' n d'] → Rd W A n x.mv.t → Rd W A' n x.mv.f → Calls Try.prog 71 #[.agg #[.slice A n d, .slice A' n d'], .pointer (some ⟨b, 0, none⟩)] W fun e w' => e = .returned (.bool (P x.mv)) ∧ Below W.heap.size W w') :
    Calls Try.prog 94 #[.slice (some ⟨g, 0, none⟩) N c, .func (.func 71) #[] #[.pointer (some ⟨b, 0, none⟩)]] w fun e w' => ∃ r : Int, e = .returned (.int .i64 r) ∧ Below w.heap.size w w' ∧ ((r = -1 ∧ ∀ x, x ∈ xs → P x.mv = false) ∨ ∃ i : Nat, r = i ∧ i < N ∧ ∀ (j : Nat) (x : CM w0 lo n), xs[j]? = some x → j ≤ i → P x.mv = decide (j = i)) := by
  have HXL := Lib.hid hat.len; have HAT := Lib.hid hat; have HDD := Lib.hid HD
  clear hat HD
  go_enter Try.func94, Try.ntmps94
  go_wp2_with fail
  go_loopw [8] (fun iv wz => ∃ i : Nat, iv = .int .i64 i ∧ i ≤ N ∧ Hid (Below w.heap.size w wz) ∧ Hid (∀ (j : Nat) (x : CM w0 lo n), xs[j]? = some x → j < i → P x.mv = false)) (fun iv _ => N - (intOf iv).toNat)
  case atStart => exact ⟨0, rfl, Nat.zero_le _, Below.refl _ _, fun j x _ hj => absurd hj (by omega)⟩
  case round =>
    obtain ⟨i, rfl, hiN, hb, hall⟩ := hrel
    by_cases hlt : i < N
    · obtain ⟨x, hx⟩ : ∃ x, xs[i]? = some x := ⟨_, List.getElem?_eq_getElem (by have := HXL.out; omega)⟩
      have hat2 := HAT.out.below hb.out
      obtain ⟨A, d, A', d', ex, q1, q2, r1, r2, -, -⟩ := hat2.cell hx
      have HC := Lib.hid (HDD.out wr hat2.grown x (List.mem_of_getElem? hx) A d A' d' ex r1 r2)
      have HX := Lib.hid hx
      have hki : (i : Int) < (N : Int) := by omega
      clear hat2 ex r1 r2 hx
      cases hp : P x.mv with
      | true =>
        have HP := Lib.hid hp
        rw [hp] at HC
        clear hp
        go_wp2_with fail
        refine HC.out.mono ?_
        rintro e w1 ⟨rfl, b1⟩
        have HB := Lib.hid (hb.out.trans (b1.mono hb.out.size)); clear b1
        go_wp2_with fail
        go_ret
        refine ⟨_, rfl, HB.out, .inr ⟨i, rfl, hlt, fun j y hy hj => ?_⟩⟩
        by_cases e : j = i
        · subst e
          rw [HX.out] at hy
          injection hy with hy
          rw [← hy, HP.out]; simp
        · rw [hall.out j y hy (by omega)]; simp [e]
      | false =>
        have HP := Lib.hid hp
        rw [hp] at HC
        clear hp
        go_wp2_with fail
        refine HC.out.mono ?_
        rintro e w1 ⟨rfl, b1⟩
        have HB := Lib.hid (hb.out.trans (b1.mono hb.out.size)); clear b1
        have HALL : Hid (∀ (j : Nat) (y : CM w0 lo n), xs[j]? = some y → j < i + 1 → P y.mv = false) := by
          intro j y hy hj
          by_cases e : j = i
          · subst e
            rw [HX.out] at hy
            injection hy with hy
            rw [← hy]; exact HP.out
          · exact hall.out j y hy (by omega)
        clear q1 q2
        go_wp2_with fail
        go_roundw
        case rel => exact ⟨i + 1, by go_num, by omega, HB, HALL⟩
        case measure => simp [intOf]; omega
    · obtain rfl : i = N := by omega
      go_wp2_with fail
      go_ret
      refine ⟨_, rfl, hb.out, .inl ⟨rfl, fun x hx => ?_⟩⟩
      obtain ⟨j, hj, e⟩ := List.getElem_of_mem hx
      exact hall.out j x (by rw [List.getElem?_eq_getElem hj, e]) (by rw [← HXL.out]; exact hj)

set_option maxRecDepth 20000 in
set_option maxHeartbeats 6400000 in
theorem delete1_any {n : Nat} (P : MV n → Bool) (ms : List (MV n)) (g N c lo b : Nat) (w0 : World) (xs : List (CM w0 lo n)) (hxm : xs.map CM.mv = ms) (hat : RwC w0 lo n g N c xs w0) (hap : Apt (xs.flatMap CM.enc)) (hm : N ≤ 1048576) (HD : ∀ (W : World), w0.grownBy W (some g) → ∀ x, x ∈ xs → ∀ A d A' d', x.enc = [.slice A n d, .slice A' n d'] → Rd W A n x.mv.t → Rd W A' n x.mv.f → Calls Try.prog 71 #[.agg #[.slice A n d, .slice A' n d'], .pointer (some ⟨b, 0, none⟩)] W fun e w' => e = .returned (.bool (P x.mv)) ∧ Below W.heap.size W w') :
    Calls Try.prog 69 #[.slice (some ⟨g, 0, none⟩) N c, .func (.func 71) #[] #[.pointer (some ⟨b, 0, none⟩)]] w0 fun e w' => ∃ k, e = .returned (.slice (some ⟨g, 0, none⟩) k c) ∧ k = (ms.filter fun x => !P x).length ∧
      RowD w' lo (.slice (some ⟨g, 0, none⟩) k c) ((ms.filter fun x => !P x).map MV.pr) ∧ w0.grownBy w' (some g) := by
  have HXL := Lib.hid hat.len; have HAT := Lib.hid hat; have HDD := Lib.hid HD; have HAP := Lib.hid hap; have HXM := Lib.hid hxm
  have hc1 := hat.cap.1
  have HML : Hid (ms.length = N) := by rw [Hid, ← hxm, List.length_map]; exact hat.len
  have HMX : Hid (∀ (j : Nat) (x : CM w0 lo n), xs[j]? = some x → ms[j]? = some x.mv) := fun j x hx => by rw [← hxm, List.getElem?_map, hx]; rfl
  clear hat HD hap hxm
  go_enter Try.func69, Try.ntmps69
  go_wp2_with fail
  refine (index1_any P g N c lo b w0 w0 xs HAT.out hm HDD.out).mono ?_
  rintro e w1 ⟨r, rfl, b1, ⟨rfl, hall⟩ | ⟨i0, rfl, hi0, hall⟩⟩
  · have HB1 := Lib.hid b1
    have HF : Hid ((ms.filter fun x => !P x) = ms) := by
      rw [Hid, ← HXM.out]
      refine List.filter_eq_self.2 fun x hx => ?_
      obtain ⟨y, hy, rfl⟩ := List.mem_map.1 hx
      rw [hall y hy]; rfl
    clear b1 hall
    go_wp2_with fail
    go_ret
    refine ⟨N, rfl, by rw [HF.out]; exact HML.out.symm, ?_, (HAT.out.below HB1.out).grown⟩
    rw [HF.out]
    exact (HAT.out.below HB1.out).done HAP.out HXM.out
  · have HAT1 := Lib.hid (HAT.out.below b1)
    have HALL := Lib.hid hall
    have hne : ((i0 : Int) == -1) = false := by simp
    clear b1 hall
    go_wp2_with fail
    go_loopw [5, 6] (fun iv jv wz => ∃ (ii jj : Nat) (Z : List (CM w0 lo n)), iv = .int .i64 ii ∧ jv = .int .i64 jj ∧ ii + 1 ≤ jj ∧ jj ≤ N ∧ Hid (Z.length = ii) ∧ Hid (Z.map CM.mv = (ms.take jj).filter fun x => !P x) ∧ Hid (Z.Sublist (xs.take jj)) ∧ Hid (RwC w0 lo n g N c (Z ++ xs.drop ii) wz)) (fun _ jv _ => N - (intOf jv).toNat)
    case atStart =>
      refine ⟨i0, i0 + 1, xs.take i0, rfl, by go_num, Nat.le_refl _, by omega, by rw [Hid, List.length_take, HXL.out]; omega, ?_, ?_, by rw [Hid, List.take_append_drop]; exact HAT1.out⟩
      · obtain ⟨x, hx⟩ : ∃ x, xs[i0]? = some x := ⟨_, List.getElem?_eq_getElem (by have := HXL.out; omega)⟩
        have h1 := HALL.out i0 x hx (Nat.le_refl _)
        rw [Hid, List.take_add_one, HMX.out _ _ hx, List.filter_append]
        have h2 : ([x.mv].filter fun x => !P x) = [] := by simp [h1]
        have h3 : ((ms.take i0).filter fun x => !P x) = ms.take i0 := by
          refine List.filter_eq_self.2 fun y hy => ?_
          obtain ⟨j, hj, rfl⟩ := List.getElem_of_mem hy
          rw [List.length_take, HML.out] at hj
          have hj2 : j < xs.length := by have := HXL.out; omega
          have h4 := HALL.out j xs[j] (List.getElem?_eq_getElem hj2) (by omega)
          have h5 := HMX.out j xs[j] (List.getElem?_eq_getElem hj2)
          have h6 : (ms.take i0)[j]'(by rw [List.length_take, HML.out]; exact hj) = xs[j].mv := by
            rw [List.getElem_take]
            rw [List.getElem?_eq_getElem (by have := HML.out; omega)] at h5
            injection h5
          rw [h6, h4]
          simp; omega
        show List.map CM.mv (xs.take i0) = _
        rw [List.map_take, HXM.out, h3]
        simp [h1]
      · rw [Hid, List.take_add_one]; exact List.sublist_append_left _ _
    case round =>
      obtain ⟨ii, jj, Z, rfl, rfl, hij, hjN, hZl, hZm, hZs, hat⟩ := hrel
      by_cases hlt : jj < N
      · obtain ⟨x, hx⟩ : ∃ x, xs[jj]? = some x := ⟨_, List.getElem?_eq_getElem (by have := HXL.out; omega)⟩
        have hglt := hat.out.lt
        obtain ⟨A, d, A', d', ex, p1, p2, r1, r2, -, -⟩ := hat.out.cell ((getElem?_past hZl.out (by omega)).trans hx)
        obtain ⟨W0, hW0, hz, hb0, -⟩ := Box.local_ wr 35 (.slice none 0 0) (.slice none 0 0)
        have z0 := hz.cell0; have z1 := hz.cell1; have z2 := hz.frozen 0; have z3 := hz.frozen 1
        obtain ⟨q1, q2⟩ := hz.store2 (.slice A n d) (.slice A' n d')
        obtain ⟨W1, hW1⟩ : ∃ W1, (W0.setCell ⟨wr.heap.size, 0, none⟩ (.slice A n d)).setCell ⟨wr.heap.size, 1, none⟩ (.slice A' n d') = W1 := ⟨_, rfl⟩
        have HBW : Hid (Below wr.heap.size wr W1) := by rw [Hid, ← hW1]; exact hb0.grown q2 hb0.size (fun k hk => by cases hk; omega)
        have HBX : Hid (Box W1 wr.heap.size 35 (.slice A n d) (.slice A' n d')) := by rw [Hid, ← hW1]; exact q1
        have c0 := HBX.out.cell0; have c1 := HBX.out.cell1
        have s0 : W0.cell? ⟨g, jj * 2, none⟩ = some (.slice A n d) := (hb0.cell (p := ⟨g, jj * 2, none⟩) hglt).trans p1
        have s1 : W0.cell? ⟨g, jj * 2 + 1, none⟩ = some (.slice A' n d') := (hb0.cell (p := ⟨g, jj * 2 + 1, none⟩) hglt).trans p2
        have HAW := Lib.hid (hat.out.below HBW.out)
        have HC := Lib.hid (HDD.out W1 HAW.out.grown x (List.mem_of_getElem? hx) A d A' d' ex (r1.below HBW.out) (r2.below HBW.out))
        have HX := Lib.hid hx; have HEX := Lib.hid ex
        have hjN2 : (jj : Int) < (N : Int) := by omega
        clear r1 r2 hx ex q1 q2 hb0 hz
        have HXK : Hid (xs.take (jj + 1) = xs.take jj ++ [x]) := by rw [Hid, List.take_add_one, HX.out]; rfl
        have HMK : Hid (ms.take (jj + 1) = ms.take jj ++ [x.mv]) := by rw [Hid, List.take_add_one, HMX.out _ _ HX.out]; rfl
        cases hp : P x.mv with
        | true =>
          have HP := Lib.hid hp
          rw [hp] at HC
          clear hp
          go_wp2_with fail
          refine HC.out.mono ?_
          rintro e w2 ⟨rfl, b2⟩
          have HAT2 := Lib.hid (HAW.out.below b2)
          have HZM : Hid (Z.map CM.mv = (ms.take (jj + 1)).filter fun x => !P x) := by
            rw [Hid, HMK.out, List.filter_append, hZm.out]
            simp [HP.out]
          have HZS : Hid (Z.Sublist (xs.take (jj + 1))) := by rw [Hid, HXK.out]; exact hZs.out.trans (List.sublist_append_left _ _)
          clear b2 z0 z1 z2 z3 c0 c1 p1 p2 s0 s1 hW0 hW1
          go_wp2_with fail
          go_roundw
          case rel => exact ⟨ii, jj + 1, Z, rfl, by go_num, by omega, by omega, hZl, HZM, HZS, HAT2⟩
          case measure => simp [intOf]; omega
        | false =>
          have HP := Lib.hid hp
          rw [hp] at HC
          clear hp
          go_wp2_with fail
          refine HC.out.mono ?_
          rintro e w2 ⟨rfl, b2⟩
          have HAT2 := Lib.hid (HAW.out.below b2)
          have HZM : Hid ((Z ++ [x]).map CM.mv = (ms.take (jj + 1)).filter fun x => !P x) := by
            rw [Hid, HMK.out, List.filter_append, List.map_append, hZm.out]
            simp [HP.out]
          have HZS : Hid ((Z ++ [x]).Sublist (xs.take (jj + 1))) := by rw [Hid, HXK.out]; exact List.Sublist.append hZs.out (List.Sublist.refl _)
          have hbx2 := HBX.out.below b2
          have y0 := hbx2.cell0; have y1 := hbx2.cell1
          obtain ⟨z, hz⟩ : ∃ z, xs[ii]? = some z := ⟨_, List.getElem?_eq_getElem (by have := HXL.out; omega)⟩
          obtain ⟨D, h, D', h', ez, q3, q4, -, -, f3, f4⟩ := HAT2.out.cell ((getElem?_past hZl.out (by omega)).trans hz)
          have hiN2 : (ii : Int) < (N : Int) := by omega
          have HST : Hid (RwC w0 lo n g N c ((Z ++ [x]) ++ xs.drop (ii + 1)) ((w2.setCell ⟨g, ii * 2, none⟩ (.slice A n d)).setCell ⟨g, ii * 2 + 1, none⟩ (.slice A' n d'))) := by
            have h1 := HAT2.out.store (k := ii) (by omega) HEX.out
            have e1 : xs.drop ii = z :: xs.drop (ii + 1) := by
              have hl : ii < xs.length := by have := HXL.out; omega
              rw [List.drop_eq_getElem_cons hl]
              rw [List.getElem?_eq_getElem hl] at hz
              injection hz with hz
              rw [hz]
            rw [e1] at h1
            have e2 := set_mid Z z x (xs.drop (ii + 1))
            rw [hZl.out] at e2
            rw [e2] at h1
            exact h1
          clear b2 z0 z1 z2 z3 c0 c1 p1 p2 s0 s1 hW0 hW1 hbx2 hz ez
          go_wp2_with fail
          go_roundw
          case rel => exact ⟨ii + 1, jj + 1, Z ++ [x], by go_num, by go_num, by omega, by omega, by rw [Hid, List.length_append, hZl.out]; rfl, HZM, HZS, HST⟩
          case measure => simp [intOf]; omega
      · obtain rfl : jj = N := by omega
        have HZM : Hid (Z.map CM.mv = ms.filter fun x => !P x) := by rw [Hid, hZm.out, List.take_of_length_le (by rw [HML.out]; exact Nat.le_refl _)]
        have HZS : Hid (Z.Sublist xs) := hZs.out.trans (List.take_sublist _ _)
        have hiic : ii ≤ c := by omega
        have hiic2 : (ii : Int) ≤ (c : Int) := by omega
        have hiiN2 : (ii : Int) ≤ (jj : Int) := by omega
        have HZL : Hid ((ms.filter fun x => !P x).length = ii) := by rw [Hid, ← HZM.out, List.length_map]; exact hZl.out
        have HCUT : Hid (RowD (wr.setCells g (ii * 2) (List.replicate ((jj - ii) * 2) (.slice none 0 0))) lo (.slice (some ⟨g, 0, none⟩) ii c) ((ms.filter fun x => !P x).map MV.pr) ∧ w0.grownBy (wr.setCells g (ii * 2) (List.replicate ((jj - ii) * 2) (.slice none 0 0))) (some g)) :=
          hat.out.cut (by omega) _ (A := Z) (by rw [← hZl.out, List.take_left']; rfl) (HAP.out.sub (flat_sub _ HZS.out)) HZM.out
        have hclr2 : ∀ ty, (Builtin.clear_ #[24] ty #[.slice (some ⟨g, ii * 2, none⟩) (jj - ii) (c - ii)]).run Try.prog wr = .ok (.tuple #[]) (wr.setCells g (ii * 2) (List.replicate ((jj - ii) * 2) (.slice none 0 0))) := by
          intro ty
          obtain ⟨cur, c1, c2, c3, c4, c5, c6⟩ := row_cells hat.out.row
          refine run_clear_maps wr ty g (ii * 2) (jj - ii) (c - ii) (by omega) (fun j hj => ?_) (fun j hj => frozen_of_row wr g _ _ _ c1)
          rw [cell_of_row wr g _ _ _ (0, 0) c1, Array.getElem?_eq_getElem (by rw [c5]; omega)]; rfl
        go_wp2_with fail
        go_ret
        exact ⟨ii, rfl, HZL.out.symm, HCUT.out.1, HCUT.out.2⟩

set_option maxRecDepth 20000 in
set_option maxHeartbeats 3200000 in
theorem index2_any {n : Nat} (P : MV n → Bool) (g N c lo : Nat) (w0 w : World) (xs : List (CM w0 lo n)) (hat : RwC w0 lo n g N c xs w) (hm : N ≤ 1048576) (HD : ∀ (W : World), w0.grownBy W (some g) → ∀ x, x ∈ xs → ∀ A d A' d', x.enc = [.slice A n d, .slice A' n d'] → Rd W A n x.mv.t → Rd W A' n x.mv.f → Calls Try.prog 78 #[.agg #[.slice A n d, .slice A' n d']] W fun e w' => e = .returned (.bool (P x.mv)) ∧ Below W.heap.size W w') :
    Calls Try.prog 94 #[.slice (some ⟨g, 0, none⟩) N c, .func (.func 78) #[] #[]] w fun e w' => ∃ r : Int, e = .returned (.int .i64 r) ∧ Below w.heap.size w w' ∧ ((r = -1 ∧ ∀ x, x ∈ xs → P x.mv = false) ∨ ∃ i : Nat, r = i ∧ i < N ∧ ∀ (j : Nat) (x : CM w0 lo n), xs[j]? = some x → j ≤ i → P x.mv = decide (j = i)) := by
  have HXL := Lib.hid hat.len; have HAT := Lib.hid hat; have HDD := Lib.hid HD
  clear hat HD
  go_enter Try.func94, Try.ntmps94
  go_wp2_with fail
  go_loopw [8] (fun iv wz => ∃ i : Nat, iv = .int .i64 i ∧ i ≤ N ∧ Hid (Below w.heap.size w wz) ∧ Hid (∀ (j : Nat) (x : CM w0 lo n), xs[j]? = some x → j < i → P x.mv = false)) (fun iv _ => N - (intOf iv).toNat)
  case atStart => exact ⟨0, rfl, Nat.zero_le _, Below.refl _ _, fun j x _ hj => absurd hj (by omega)⟩
  case round =>
    obtain ⟨i, rfl, hiN, hb, hall⟩ := hrel
    by_cases hlt : i < N
    · obtain ⟨x, hx⟩ : ∃ x, xs[i]? = some x := ⟨_, List.getElem?_eq_getElem (by have := HXL.out; omega)⟩
      have hat2 := HAT.out.below hb.out
      obtain ⟨A, d, A', d', ex, q1, q2, r1, r2, -, -⟩ := hat2.cell hx
      have HC := Lib.hid (HDD.out wr hat2.grown x (List.mem_of_getElem? hx) A d A' d' ex r1 r2)
      have HX := Lib.hid hx
      have hki : (i : Int) < (N : Int) := by omega
      clear hat2 ex r1 r2 hx
      cases hp : P x.mv with
      | true =>
        have HP := Lib.hid hp
        rw [hp] at HC
        clear hp
        go_wp2_with fail
        refine HC.out.mono ?_
        rintro e w1 ⟨rfl, b1⟩
        have HB := Lib.hid (hb.out.trans (b1.mono hb.out.size)); clear b1
        go_wp2_with fail
        go_ret
        refine ⟨_, rfl, HB.out, .inr ⟨i, rfl, hlt, fun j y hy hj => ?_⟩⟩
        by_cases e : j = i
        · subst e
          rw [HX.out] at hy
          injection hy with hy
          rw [← hy, HP.out]; simp
        · rw [hall.out j y hy (by omega)]; simp [e]
      | false =>
        have HP := Lib.hid hp
        rw [hp] at HC
        clear hp
        go_wp2_with fail
        refine HC.out.mono ?_
        rintro e w1 ⟨rfl, b1⟩
        have HB := Lib.hid (hb.out.trans (b1.mono hb.out.size)); clear b1
        have HALL : Hid (∀ (j : Nat) (y : CM w0 lo n), xs[j]? = some y → j < i + 1 → P y.mv = false) := by
          intro j y hy hj
          by_cases e : j = i
          · subst e
            rw [HX.out] at hy
            injection hy with hy
            rw [← hy]; exact HP.out
          · exact hall.out j y hy (by omega)
        clear q1 q2
        go_wp2_with fail
        go_roundw
        case rel => exact ⟨i + 1, by go_num, by omega, HB, HALL⟩
        case measure => simp [intOf]; omega
    · obtain rfl : i = N := by omega
      go_wp2_with fail
      go_ret
      refine ⟨_, rfl, hb.out, .inl ⟨rfl, fun x hx => ?_⟩⟩
      obtain ⟨j, hj, e⟩ := List.getElem_of_mem hx
      exact hall.out j x (by rw [List.getElem?_eq_getElem hj, e]) (by rw [← HXL.out]; exact hj)

set_option maxRecDepth 20000 in
set_option maxHeartbeats 6400000 in
theorem delete2_any {n : Nat} (P : MV n → Bool) (ms : List (MV n)) (g N c lo : Nat) (w0 : World) (xs : List (CM w0 lo n)) (hxm : xs.map CM.mv = ms) (hat : RwC w0 lo n g N c xs w0) (hap : Apt (xs.flatMap CM.enc)) (hm : N ≤ 1048576) (HD : ∀ (W : World), w0.grownBy W (some g) → ∀ x, x ∈ xs → ∀ A d A' d', x.enc = [.slice A n d, .slice A' n d'] → Rd W A n x.mv.t → Rd W A' n x.mv.f → Calls Try.prog 78 #[.agg #[.slice A n d, .slice A' n d']] W fun e w' => e = .returned (.bool (P x.mv)) ∧ Below W.heap.size W w') :
    Calls Try.prog 69 #[.slice (some ⟨g, 0, none⟩) N c, .func (.func 78) #[] #[]] w0 fun e w' => ∃ k, e = .returned (.slice (some ⟨g, 0, none⟩) k c) ∧ k = (ms.filter fun x => !P x).length ∧
      RowD w' lo (.slice (some ⟨g, 0, none⟩) k c) ((ms.filter fun x => !P x).map MV.pr) ∧ w0.grownBy w' (some g) := by
  have HXL := Lib.hid hat.len; have HAT := Lib.hid hat; have HDD := Lib.hid HD; have HAP := Lib.hid hap; have HXM := Lib.hid hxm
  have hc1 := hat.cap.1
  have HML : Hid (ms.length = N) := by rw [Hid, ← hxm, List.length_map]; exact hat.len
  have HMX : Hid (∀ (j : Nat) (x : CM w0 lo n), xs[j]? = some x → ms[j]? = some x.mv) := fun j x hx => by rw [← hxm, List.getElem?_map, hx]; rfl
  clear hat HD hap hxm
  go_enter Try.func69, Try.ntmps69
  go_wp2_with fail
  refine (index2_any P g N c lo w0 w0 xs HAT.out hm HDD.out).mono ?_
  rintro e w1 ⟨r, rfl, b1, ⟨rfl, hall⟩ | ⟨i0, rfl, hi0, hall⟩⟩
  · have HB1 := Lib.hid b1
    have HF : Hid ((ms.filter fun x => !P x) = ms) := by
      rw [Hid, ← HXM.out]
      refine List.filter_eq_self.2 fun x hx => ?_
      obtain ⟨y, hy, rfl⟩ := List.mem_map.1 hx
      rw [hall y hy]; rfl
    clear b1 hall
    go_wp2_with fail
    go_ret
    refine ⟨N, rfl, by rw [HF.out]; exact HML.out.symm, ?_, (HAT.out.below HB1.out).grown⟩
    rw [HF.out]
    exact (HAT.out.below HB1.out).done HAP.out HXM.out
  · have HAT1 := Lib.hid (HAT.out.below b1)
    have HALL := Lib.hid hall
    have hne : ((i0 : Int) == -1) = false := by simp
    clear b1 hall
    go_wp2_with fail
    go_loopw [5, 6] (fun iv jv wz => ∃ (ii jj : Nat) (Z : List (CM w0 lo n)), iv = .int .i64 ii ∧ jv = .int .i64 jj ∧ ii + 1 ≤ jj ∧ jj ≤ N ∧ Hid (Z.length = ii) ∧ Hid (Z.map CM.mv = (ms.take jj).filter fun x => !P x) ∧ Hid (Z.Sublist (xs.take jj)) ∧ Hid (RwC w0 lo n g N c (Z ++ xs.drop ii) wz)) (fun _ jv _ => N - (intOf jv).toNat)
    case atStart =>
      refine ⟨i0, i0 + 1, xs.take i0, rfl, by go_num, Nat.le_refl _, by omega, by rw [Hid, List.length_take, HXL.out]; omega, ?_, ?_, by rw [Hid, List.take_append_drop]; exact HAT1.out⟩
      · obtain ⟨x, hx⟩ : ∃ x, xs[i0]? = some x := ⟨_, List.getElem?_eq_getElem (by have := HXL.out; omega)⟩
        have h1 := HALL.out i0 x hx (Nat.le_refl _)
        rw [Hid, List.take_add_one, HMX.out _ _ hx, List.filter_append]
        have h2 : ([x.mv].filter fun x => !P x) = [] := by simp [h1]
        have h3 : ((ms.take i0).filter fun x => !P x) = ms.take i0 := by
          refine List.filter_eq_self.2 fun y hy => ?_
          obtain ⟨j, hj, rfl⟩ := List.getElem_of_mem hy
          rw [List.length_take, HML.out] at hj
          have hj2 : j < xs.length := by have := HXL.out; omega
          have h4 := HALL.out j xs[j] (List.getElem?_eq_getElem hj2) (by omega)
          have h5 := HMX.out j xs[j] (List.getElem?_eq_getElem hj2)
          have h6 : (ms.take i0)[j]'(by rw [List.length_take, HML.out]; exact hj) = xs[j].mv := by
            rw [List.getElem_take]
            rw [List.getElem?_eq_getElem (by have := HML.out; omega)] at h5
            injection h5
          rw [h6, h4]
          simp; omega
        show List.map CM.mv (xs.take i0) = _
        rw [List.map_take, HXM.out, h3]
        simp [h1]
      · rw [Hid, List.take_add_one]; exact List.sublist_append_left _ _
    case round =>
      obtain ⟨ii, jj, Z, rfl, rfl, hij, hjN, hZl, hZm, hZs, hat⟩ := hrel
      by_cases hlt : jj < N
      · obtain ⟨x, hx⟩ : ∃ x, xs[jj]? = some x := ⟨_, List.getElem?_eq_getElem (by have := HXL.out; omega)⟩
        have hglt := hat.out.lt
        obtain ⟨A, d, A', d', ex, p1, p2, r1, r2, -, -⟩ := hat.out.cell ((getElem?_past hZl.out (by omega)).trans hx)
        obtain ⟨W0, hW0, hz, hb0, -⟩ := Box.local_ wr 35 (.slice none 0 0) (.slice none 0 0)
        have z0 := hz.cell0; have z1 := hz.cell1; have z2 := hz.frozen 0; have z3 := hz.frozen 1
        obtain ⟨q1, q2⟩ := hz.store2 (.slice A n d) (.slice A' n d')
        obtain ⟨W1, hW1⟩ : ∃ W1, (W0.setCell ⟨wr.heap.size, 0, none⟩ (.slice A n d)).setCell ⟨wr.heap.size, 1, none⟩ (.slice A' n d') = W1 := ⟨_, rfl⟩
        have HBW : Hid (Below wr.heap.size wr W1) := by rw [Hid, ← hW1]; exact hb0.grown q2 hb0.size (fun k hk => by cases hk; omega)
        have HBX : Hid (Box W1 wr.heap.size 35 (.slice A n d) (.slice A' n d')) := by rw [Hid, ← hW1]; exact q1
        have c0 := HBX.out.cell0; have c1 := HBX.out.cell1
        have s0 : W0.cell? ⟨g, jj * 2, none⟩ = some (.slice A n d) := (hb0.cell (p := ⟨g, jj * 2, none⟩) hglt).trans p1
        have s1 : W0.cell? ⟨g, jj * 2 + 1, none⟩ = some (.slice A' n d') := (hb0.cell (p := ⟨g, jj * 2 + 1, none⟩) hglt).trans p2
        have HAW := Lib.hid (hat.out.below HBW.out)
        have HC := Lib.hid (HDD.out W1 HAW.out.grown x (List.mem_of_getElem? hx) A d A' d' ex (r1.below HBW.out) (r2.below HBW.out))
        have HX := Lib.hid hx; have HEX := Lib.hid ex
        have hjN2 : (jj : Int) < (N : Int) := by omega
        clear r1 r2 hx ex q1 q2 hb0 hz
        have HXK : Hid (xs.take (jj + 1) = xs.take jj ++ [x]) := by rw [Hid, List.take_add_one, HX.out]; rfl
        have HMK : Hid (ms.take (jj + 1) = ms.take jj ++ [x.mv]) := by rw [Hid, List.take_add_one, HMX.out _ _ HX.out]; rfl
        cases hp : P x.mv with
        | true =>
          have HP := Lib.hid hp
          rw [hp] at HC
          clear hp
          go_wp2_with fail
          refine HC.out.mono ?_
          rintro e w2 ⟨rfl, b2⟩
          have HAT2 := Lib.hid (HAW.out.below b2)
          have HZM : Hid (Z.map CM.mv = (ms.take (jj + 1)).filter fun x => !P x) := by
            rw [Hid, HMK.out, List.filter_append, hZm.out]
            simp [HP.out]
          have HZS : Hid (Z.Sublist (xs.take (jj + 1))) := by rw [Hid, HXK.out]; exact hZs.out.trans (List.sublist_append_left _ _)
          clear b2 z0 z1 z2 z3 c0 c1 p1 p2 s0 s1 hW0 hW1
          go_wp2_with fail
          go_roundw
          case rel => exact ⟨ii, jj + 1, Z, rfl, by go_num, by omega, by omega, hZl, HZM, HZS, HAT2⟩
          case measure => simp [intOf]; omega
        | false =>
          have HP := Lib.hid hp
          rw [hp] at HC
          clear hp
          go_wp2_with fail
          refine HC.out.mono ?_
          rintro e w2 ⟨rfl, b2⟩
          have HAT2 := Lib.hid (HAW.out.below b2)
          have HZM : Hid ((Z ++ [x]).map CM.mv = (ms.take (jj + 1)).filter fun x => !P x) := by
            rw [Hid, HMK.out, List.filter_append, List.map_append, hZm.out]
            simp [HP.out]
          have HZS : Hid ((Z ++ [x]).Sublist (xs.take (jj + 1))) := by rw [Hid, HXK.out]; exact List.Sublist.append hZs.out (List.Sublist.refl _)
          have hbx2 := HBX.out.below b2
          have y0 := hbx2.cell0; have y1 := hbx2.cell1
          obtain ⟨z, hz⟩ : ∃ z, xs[ii]? = some z := ⟨_, List.getElem?_eq_getElem (by have := HXL.out; omega)⟩
          obtain ⟨D, h, D', h', ez, q3, q4, -, -, f3, f4⟩ := HAT2.out.cell ((getElem?_past hZl.out (by omega)).trans hz)
          have hiN2 : (ii : Int) < (N : Int) := by omega
          have HST : Hid (RwC w0 lo n g N c ((Z ++ [x]) ++ xs.drop (ii + 1)) ((w2.setCell ⟨g, ii * 2, none⟩ (.slice A n d)).setCell ⟨g, ii * 2 + 1, none⟩ (.slice A' n d'))) := by
            have h1 := HAT2.out.store (k := ii) (by omega) HEX.out
            have e1 : xs.drop ii = z :: xs.drop (ii + 1) := by
              have hl : ii < xs.length := by have := HXL.out; omega
              rw [List.drop_eq_getElem_cons hl]
              rw [List.getElem?_eq_getElem hl] at hz
              injection hz with hz
              rw [hz]
            rw [e1] at h1
            have e2 := set_mid Z z x (xs.drop (ii + 1))
            rw [hZl.out] at e2
            rw [e2] at h1
            exact h1
          clear b2 z0 z1 z2 z3 c0 c1 p1 p2 s0 s1 hW0 hW1 hbx2 hz ez
          go_wp2_with fail
          go_roundw
          case rel => exact ⟨ii + 1, jj + 1, Z ++ [x], by go_num, by go_num, by omega, by omega, by rw [Hid, List.length_append, hZl.out]; rfl, HZM, HZS, HST⟩
          case measure => simp [intOf]; omega
      · obtain rfl : jj = N := by omega
        have HZM : Hid (Z.map CM.mv = ms.filter fun x => !P x) := by rw [Hid, hZm.out, List.take_of_length_le (by rw [HML.out]; exact Nat.le_refl _)]
        have HZS : Hid (Z.Sublist xs) := hZs.out.trans (List.take_sublist _ _)
        have hiic : ii ≤ c := by omega
        have hiic2 : (ii : Int) ≤ (c : Int) := by omega
        have hiiN2 : (ii : Int) ≤ (jj : Int) := by omega
        have HZL : Hid ((ms.filter fun x => !P x).length = ii) := by rw [Hid, ← HZM.out, List.length_map]; exact hZl.out
        have HCUT : Hid (RowD (wr.setCells g (ii * 2) (List.replicate ((jj - ii) * 2) (.slice none 0 0))) lo (.slice (some ⟨g, 0, none⟩) ii c) ((ms.filter fun x => !P x).map MV.pr) ∧ w0.grownBy (wr.setCells g (ii * 2) (List.replicate ((jj - ii) * 2) (.slice none 0 0))) (some g)) :=
          hat.out.cut (by omega) _ (A := Z) (by rw [← hZl.out, List.take_left']; rfl) (HAP.out.sub (flat_sub _ HZS.out)) HZM.out
        have hclr2 : ∀ ty, (Builtin.clear_ #[24] ty #[.slice (some ⟨g, ii * 2, none⟩) (jj - ii) (c - ii)]).run Try.prog wr = .ok (.tuple #[]) (wr.setCells g (ii * 2) (List.replicate ((jj - ii) * 2) (.slice none 0 0))) := by
          intro ty
          obtain ⟨cur, c1, c2, c3, c4, c5, c6⟩ := row_cells hat.out.row
          refine run_clear_maps wr ty g (ii * 2) (jj - ii) (c - ii) (by omega) (fun j hj => ?_) (fun j hj => frozen_of_row wr g _ _ _ c1)
          rw [cell_of_row wr g _ _ _ (0, 0) c1, Array.getElem?_eq_getElem (by rw [c5]; omega)]; rfl
        go_wp2_with fail
        go_ret
        exact ⟨ii, rfl, HZL.out.symm, HCUT.out.1, HCUT.out.2⟩

end Go.Proofs.Ytakckkmhhedfpaa

namespace Go.Proofs.Ytakckkmhhedfpaa
open Go.RowKit

/-- Where a path of steps leads. -/
def wayL (t f : List Int) : List Bool → Nat → Nat
  | [], x => x
  | b :: r, x => wayL t f r (if b then gn t x else gn f x)
theorem way_lead (t f : List Int) : ∀ (ps : List Bool) (x y : Nat), Lead t f x y → Lead t f x (wayL t f ps y)
  | [], _, _, h => h
  | true :: r, x, y, h => by rw [wayL]; exact way_lead t f r x _ (.one h)
  | false :: r, x, y, h => by rw [wayL]; exact way_lead t f r x _ (.two h)
theorem map_of_ways {t f : List Int} (ps : List (List Bool)) (h1 : vld t = true) (h2 : vld f = true) (h3 : t.length = f.length) (h4 : pairedB f = true)
    (h5 : (List.range t.length).all (fun j => (wayL t f (ps.getD j []) 0 == j)) = true) : IsMap t f := by
  refine ⟨Vld_of h1, Vld_of h2, h3, Paired_of h4, whole_of_lead fun j hj => ?_⟩
  have h6 := List.all_eq_true.1 h5 j (List.mem_range.2 hj)
  have h7 : wayL t f (ps.getD j []) 0 = j := by simpa using h6
  have := way_lead t f (ps.getD j []) 0 0 (.refl 0)
  rwa [h7] at this
theorem map1 : IsMap [0, 1] (flipL 1) := map_of_ways [[], [false]] (by decide +kernel) (by decide +kernel) (by decide +kernel) (by decide +kernel) (by decide +kernel)
theorem map2 : IsMap [0, 2, 1, 3] (flipL 2) := map_of_ways [[], [false], [false, true], [false, true, false]] (by decide +kernel) (by decide +kernel) (by decide +kernel) (by decide +kernel) (by decide +kernel)
theorem map3 : IsMap [0, 2, 1, 4, 3, 5] (flipL 3) := map_of_ways [[], [false], [false, true], [false, true, false], [false, true, false, true], [false, true, false, true, false]] (by decide +kernel) (by decide +kernel) (by decide +kernel) (by decide +kernel) (by decide +kernel)
theorem in1 : (allT 1).contains [0, 1] = true := by decide +kernel
theorem in2 : (allT 2).contains [0, 2, 1, 3] = true := by decide +kernel
theorem in3 : (allT 3).contains [0, 2, 1, 4, 3, 5] = true := by decide +kernel
theorem raw_pos {e : Nat} (h1 : 1 ≤ e) (h3 : e ≤ 3) : 0 < (rawL e (allT e).length).length := by
  have key : ∀ t, (allT e).contains t = true → IsMap t (flipL e) → 0 < (rawL e (allT e).length).length := by
    intro t ht hm
    have : frm e t ∈ rawL e (allT e).length := mem_raw.2 ⟨t, by simpa using ht, mapV_iff.2 hm, rfl⟩
    exact List.length_pos_of_mem this
  rcases (show e = 1 ∨ e = 2 ∨ e = 3 by omega) with rfl | rfl | rfl
  · exact key _ in1 map1
  · exact key _ in2 map2
  · exact key _ in3 map3

theorem RowD.chg {w w' : World} {lo g : Nat} {v : Value} {ms : List (List Int × List Int)} (h : RowD w lo v ms) (hg : w.grownBy w' (some g)) (hl : g < lo) : RowD w' lo v ms := by
  obtain ⟨vs, ho, hm, ha⟩ := h
  have hc : Chg g (g + 1) w w' := Chg.of_grown hg (fun b e => by cases e; omega)
  refine ⟨vs, World.ownsRow.kept ho hg ?_, hm.all fun o => o.chg hc (fun k hk => ?_) (fun k hk => ?_), ha⟩
  · cases e : v.ownBlock with
    | none => exact .inl rfl
    | some k => exact .inr fun e2 => by injection e2 with e2; subst e2; have := (ho.lt k e).1; omega
  · have := (o.turn.lt k hk).1; omega
  · have := (o.flip.lt k hk).1; omega
theorem sameL_marks (n : Nat) : sameL n = marks 0 n := by
  refine (eq_of_gi (by rw [marks_len, sameL, tab_len]) fun j hj => ?_).symm
  rw [marks_len] at hj
  rw [gi_marks hj, sameL, gi_tab hj]; omega
theorem below_gr {w w' : World} {r : Option Nat} (h : Below w.heap.size w w') : w.grownBy w' r := ⟨h.os, h.tape, h.output, h.size, fun k hk _ => h.block k hk⟩
theorem gr_past {w w' wB : World} {r row : Option Nat} (h : wB.grownBy w r) (hg : w.grownBy w' row) (hl : ∀ k, row = some k → wB.heap.size ≤ k) : wB.grownBy w' r :=
  ⟨hg.os.trans h.os, hg.tape.trans h.tape, hg.output.trans h.output, Nat.le_trans h.size hg.size, fun k hk hne =>
    (hg.block k (Nat.lt_of_lt_of_le hk h.size) (fun e => by have := hl k e.symm; omega)).trans (h.block k hk hne)⟩
theorem RowD.nil_ (w : World) (lo : Nat) : RowD w lo (.slice none 0 0) [] := ⟨[], World.ownsRow_nil w lo _ _, trivial, List.Pairwise.nil⟩
/-- One more map, whose lists lie in blocks of their own. -/
theorem RowD.one_more {w w1 : World} {lo B : Nat} {v v1 : Value} {ms : List (List Int × List Int)} {vs : List Value} {u u' : Value} {t f : List Int}
    (ho : w.ownsRow lo 35 2 v ms.length vs) (hm : Maps w lo vs ms) (ha : Apt vs) (hn : OwnM w lo u u' t f)
    (hlt : ∀ x ∈ vs, ∀ k, x.ownBlock = some k → k < B) (hu : ∀ k, u.ownBlock = some k → B ≤ k) (hu' : ∀ k, u'.ownBlock = some k → B ≤ k)
    (ho1 : w1.ownsRow lo 35 2 v1 (ms.length + 1) (vs ++ [u, u'])) (hg : w.grownBy w1 v.ownBlock) : RowD w1 lo v1 (ms ++ [(t, f)]) := by
  refine ⟨vs ++ [u, u'], by rw [List.length_append]; exact ho1, ((Maps.one hn).kept ho hg).app (hm.kept ho hg), ?_⟩
  refine List.pairwise_append.2 ⟨ha, ?_, fun x hx y hy k hk e => ?_⟩
  · refine List.pairwise_cons.2 ⟨fun y hy => ?_, List.pairwise_singleton _ _⟩
    simp at hy
    subst hy
    exact hn.apart
  · have h1 := hlt x hx k hk
    simp at hy
    rcases hy with rfl | rfl
    · have := hu k e; omega
    · have := hu' k e; omega
theorem ownsRow_same_cells {w : World} {base : Nat} {e : TypeId} {size n : Nat} {v : Value} {xs ys : List Value} (h : w.ownsRow base e size v n xs) (k : w.ownsRow base e size v n ys) : xs = ys := by
  rcases h.2 with ⟨rfl, h0⟩ | ⟨g, cap, cur, rfl, _, hg, _, _, _, ht⟩
  · subst h0
    have h1 := h.1; have k1 := k.1
    rw [Nat.zero_mul] at h1 k1
    rw [List.eq_nil_of_length_eq_zero h1, List.eq_nil_of_length_eq_zero k1]
  · rcases k.2 with ⟨e0, _⟩ | ⟨g', cap', cur', e0, _, hg', _, _, _, ht'⟩
    · cases e0
    · injection e0 with e1 _ _
      injection e1 with e1
      injection e1 with e1
      subst e1
      rw [hg] at hg'
      injection hg' with hg'
      injection hg' with hg'
      rw [← ht, ← ht', hg']
theorem maps_lt {w : World} {lo : Nat} : ∀ {vs : List Value} {ms : List (List Int × List Int)}, Maps w lo vs ms → ∀ x ∈ vs, ∀ k, x.ownBlock = some k → k < w.heap.size
  | [], [], _ => fun x hx => by simp at hx
  | u :: u' :: vs, m :: ms, h => fun x hx k hk => by
    rcases List.mem_cons.1 hx with e | hx
    · rw [e] at hk; exact (h.1.turn.lt k hk).2
    · rcases List.mem_cons.1 hx with e | hx
      · rw [e] at hk; exact (h.1.flip.lt k hk).2
      · exact maps_lt h.2 x hx k hk
  | [], _ :: _, h => h.elim
  | [_], [], h => h.elim
  | [_], _ :: _, h => h.elim
  | _ :: _ :: _, [], h => h.elim

/-- Where the loop stands: i permutations are behind it. -/
structure AtF (e lo lo2 gT n cT : Nat) (wB : World) (i : Nat) (fv mv : Value) (wz : World) : Prop where
  le : i ≤ (allT e).length
  flag : mv = .bool (decide (i < (allT e).length))
  row : RowD wz lo2 fv ((rawL e i).map MV.pr)
  own : i < (allT e).length → Own wz lo (.slice (some ⟨gT, 0, none⟩) n cT) ((allT e).getD i [])
  grown : wB.grownBy wz (some gT)
open Classical in
noncomputable def leftF (e lo lo2 gT n cT : Nat) (wB : World) (fv mv : Value) (wz : World) : Nat := leastOf (fun k => ∃ i, AtF e lo lo2 gT n cT wB i fv mv wz ∧ k + i = (allT e).length)
theorem leftF_spec {e lo lo2 gT n cT i0 : Nat} {wB wz : World} {fv mv : Value} (h : AtF e lo lo2 gT n cT wB i0 fv mv wz) : ∃ i, AtF e lo lo2 gT n cT wB i fv mv wz ∧ leftF e lo lo2 gT n cT wB fv mv wz + i = (allT e).length :=
  (leastOf_spec (p := fun k => ∃ i, AtF e lo lo2 gT n cT wB i fv mv wz ∧ k + i = (allT e).length) ⟨(allT e).length - i0, i0, h, by have := h.le; omega⟩).1
theorem leftF_step {e lo lo2 gT n cT i : Nat} {wB wz wz' : World} {fv mv fv' mv' : Value} (hL : leftF e lo lo2 gT n cT wB fv mv wz + i = (allT e).length) (hi : i < (allT e).length) (h : AtF e lo lo2 gT n cT wB (i + 1) fv' mv' wz') : leftF e lo lo2 gT n cT wB fv' mv' wz' < leftF e lo lo2 gT n cT wB fv mv wz := by
  have hk : ∃ j, AtF e lo lo2 gT n cT wB j fv' mv' wz' ∧ ((allT e).length - (i + 1)) + j = (allT e).length := ⟨i + 1, h, by omega⟩
  have := (leastOf_spec (p := fun k => ∃ i, AtF e lo lo2 gT n cT wB i fv' mv' wz' ∧ k + i = (allT e).length) ⟨_, hk⟩).2 _ hk
  unfold leftF at hL ⊢
  omega

set_option maxRecDepth 20000 in
set_option maxHeartbeats 6400000 in
theorem rootedForms_any (e : Nat) (w : World) (h1 : 1 ≤ e) (h3 : e ≤ 3) :
    Calls Try.prog 70 #[.int .i64 e] w fun r w' => ∃ g c, r = .returned (.slice (some ⟨g, 0, none⟩) (allM e).length c) ∧ RowD w' w.heap.size (.slice (some ⟨g, 0, none⟩) (allM e).length c) ((allM e).map MV.pr) ∧ Below w.heap.size w w' := by
  obtain ⟨i0, hinf, hz0, hz1, hz2⟩ := info_parts info_maps
  obtain ⟨t1, t2, t3⟩ := turns_all h1 h3
  have HCH := Lib.hid t1; have HL1 := Lib.hid t2; have HL2 := Lib.hid t3; clear t1 t2 t3
  obtain ⟨n, hN⟩ : ∃ n, 2 * e = n := ⟨_, rfl⟩
  have hw2 : IntKind.i64.wrap (2 * (e : Int)) = (n : Int) := by rw [IntWalk.i64_in _ (by omega)]; omega
  have HN := Lib.hid hN
  have hn6 : n ≤ 6 := by omega
  have hn2 : 2 ≤ n := by omega
  clear hN
  go_enter Try.func70, Try.ntmps70
  go_wp2_with fail
  refine (still_new n w (by omega)).mono ?_
  rintro r w1 ⟨tv, rfl, ot, bt⟩
  obtain ⟨T, cT, rfl, rT, -⟩ := ot.form' (marks_len _ _)
  obtain ⟨gT, rfl, hgT, -, -⟩ := ot.cellAt (marks_len _ _) (k := 0) (by omega)
  have hcT : n ≤ cT := own_cap ot
  have HOT := Lib.hid ot; have HBT := Lib.hid bt
  have HGT : Hid (w.heap.size ≤ gT ∧ gT < w1.heap.size) := ot.lt gT rfl
  clear ot bt rT hgT
  go_wp2_with fail
  refine (side_any n w1 (by omega)).mono ?_
  rintro r w2 ⟨fv, rfl, of, bf⟩
  rw [← HN.out, sbs_flip e (by omega)] at of
  obtain ⟨F, cF, rfl, rF, -⟩ := of.form' ((flipL_len e).trans HN.out)
  obtain ⟨W0, hW0, hz, hb0, hs0⟩ := Box.local_ w2 35 (.slice none 0 0) (.slice none 0 0)
  have z0 := hz.cell0; have z1 := hz.cell1; have z2 := hz.frozen 0; have z3 := hz.frozen 1
  obtain ⟨q1, q2⟩ := hz.store2 (.slice (some ⟨gT, 0, none⟩) n cT) (.slice F n cF)
  obtain ⟨WB, hWB⟩ : ∃ W1, (W0.setCell ⟨w2.heap.size, 0, none⟩ (.slice (some ⟨gT, 0, none⟩) n cT)).setCell ⟨w2.heap.size, 1, none⟩ (.slice F n cF) = W1 := ⟨_, rfl⟩
  have HBW : Hid (Below w2.heap.size w2 WB) := by rw [Hid, ← hWB]; exact hb0.grown q2 hb0.size (fun k hk => by cases hk; omega)
  have HBX : Hid (Box WB w2.heap.size 35 (.slice (some ⟨gT, 0, none⟩) n cT) (.slice F n cF)) := by rw [Hid, ← hWB]; exact q1
  have HSB : Hid (WB.heap.size = w2.heap.size + 1) := by rw [Hid, ← hWB]; simp [hs0]
  have HOF : Hid (Own WB w1.heap.size (.slice F n cF) (flipL e)) := of.below HBW.out
  have HOTB : Hid (Own WB w.heap.size (.slice (some ⟨gT, 0, none⟩) n cT) ((allT e).getD 0 [])) := by
    rw [Hid, turns_first, HN.out, sameL_marks]
    exact (HOT.out.below bf).below HBW.out
  have HB0 : Hid (Below w.heap.size w WB) := HBT.out.trans ((bf.trans (HBW.out.mono bf.size)).mono HBT.out.size)
  have HSS : Hid (w1.heap.size ≤ w2.heap.size) := bf.size
  have HFB : Hid (∀ k, (Value.slice F n cF).ownBlock = some k → w1.heap.size ≤ k ∧ k < w2.heap.size) := of.lt
  clear q1 q2 hb0 hz hs0 of bf rF
  go_wp2_with fail
  go_loopw [4, 5] (fun fv mv wz => ∃ i, AtF e w.heap.size WB.heap.size gT n cT WB i fv mv wz) (fun fv mv wz => leftF e w.heap.size WB.heap.size gT n cT WB fv mv wz)
  case atStart => exact ⟨0, Nat.zero_le _, by have := HL1.out; simp [this], RowD.nil_ _ _, fun _ => HOTB.out, ⟨rfl, rfl, rfl, Nat.le_refl _, fun _ _ _ => rfl⟩⟩
  case round =>
    clear z0 z1 z2 z3 hW0 hWB
    obtain ⟨j0, hi0⟩ := hrel
    obtain ⟨i, hat, hL⟩ := leftF_spec hi0
    obtain ⟨hi, rfl, hrow, hown, hgr⟩ := hat
    have HL := Lib.hid hL; have HROW := Lib.hid hrow; have HGR := Lib.hid hgr; have HOWN := Lib.hid hown
    clear hL hrow hgr hi0 hown
    by_cases hlt : i < (allT e).length
    · obtain ⟨hv, hl, hn1, hn2'⟩ := chain_at HCH.out i hlt
      rw [HN.out] at hl hn1 hn2'
      have hown := HOWN.out hlt
      obtain ⟨t, ht⟩ : ∃ t, (allT e).getD i [] = t := ⟨_, rfl⟩
      rw [ht] at hv hl hown hn1 hn2'
      have HNX : Hid ((i + 1 < (allT e).length → atR t (n - 1) ≠ 0 ∧ nextL t = (allT e).getD (i + 1) []) ∧ (i + 1 = (allT e).length → atR t (n - 1) = 0)) := ⟨hn1, hn2'⟩
      have HT := Lib.hid ht; have HTL := Lib.hid hl; have HO := Lib.hid hown
      have hne : ¬ w2.heap.size = gT := by have := HGT.out; have := HSS.out; omega
      have HBR : Hid (Box2 wr w2.heap.size (some ⟨gT, 0, none⟩) n cT F n cF) := (HGR.out.block w2.heap.size (by have := HSB.out; omega) (fun e => hne (by injection e))).trans HBX.out
      have c0 := HBR.out.cell0; have c1 := HBR.out.cell1
      have HRT : Hid (Rd wr (some ⟨gT, 0, none⟩) n t) := Own.rd HO.out HTL.out
      have HRF : Hid (Rd wr F n (flipL e)) := Own.rd (HOF.out.chg (Chg.of_grown (lo := gT) (hi := gT + 1) HGR.out (fun b e => by cases e; omega)) (fun k hk => by have := HFB.out k hk; have := HGT.out; omega)) ((flipL_len e).trans HN.out)
      have hfl : decide (i < (allT e).length) = true := by simpa using hlt
      have hL2 := HL.out
      rw [hfl] at hL2
      have HL := Lib.hid hL2
      clear hL2
      rw [hfl]
      clear hv hl hown hn1 hn2' ht hfl
      obtain ⟨m, hm⟩ : ∃ m, ((rawL e i).map MV.pr).length = m := ⟨_, rfl⟩
      have HM := Lib.hid hm
      have hm7 : m ≤ 720 := by have := rawL_len (e := e) (i := i); rw [List.length_map] at hm; have := HL2.out; omega
      clear hm
      by_cases hmv : mapV t (flipL e) = true
      · have HMAP := Lib.hid (mapV_iff.1 hmv); have HMV := Lib.hid hmv; clear hmv
        go_wp2_with fail
        refine (valid_lit w2.heap.size (some ⟨gT, 0, none⟩) F n n cT cF t (flipL e) wr HBR.out HRT.out HRF.out (by omega) (by omega) HMV.out).mono ?_
        rintro r W3 ⟨rfl, b3⟩
        have HB3 := Lib.hid b3
        clear b3 c0 c1
        go_wp2_with fail
        refine (form_any W3 w2.heap.size (some ⟨gT, 0, none⟩) F n cT cF 0 t (flipL e) (HBR.out.below HB3.out) (HRT.out.below HB3.out) (HRF.out.below HB3.out) HMAP.out (by omega)).mono ?_
        rintro r W5 ⟨u, u', rfl, o5, b5⟩
        have HB5 := Lib.hid (HB3.out.trans (b5.mono HB3.out.size))
        obtain ⟨x, hx⟩ : ∃ x, frm e t = x := ⟨_, rfl⟩
        obtain ⟨p1, p2⟩ := frm_pr HMAP.out (HTL.out.trans HN.out.symm) h1
        rw [hx] at p1 p2
        rw [← p1, ← p2] at o5
        obtain ⟨A5, c5, A6, c6, rfl, rfl, r5, r6⟩ := o5.form (n := n) (n' := n) (x.ht.trans HN.out) (x.hf.trans HN.out)
        have HO5 := Lib.hid o5
        have HXX := Lib.hid hx
        have HRW5 := Lib.hid (HROW.out.below HB5.out)
        obtain ⟨vs, ho, hmaps, hapt⟩ := HRW5.out
        rw [HM.out] at ho
        have HOV := Lib.hid ho; have HMP := Lib.hid hmaps; have HAP := Lib.hid hapt
        have HLT : Hid (∀ y ∈ vs, ∀ k, y.ownBlock = some k → k < W3.heap.size) := by
          obtain ⟨vs', ho', hm', ha'⟩ := HROW.out.below HB3.out
          have e1 : vs = vs' := by
            have hk := World.ownsRow.kept ho' (below_gr (r := none) b5) (by cases u4.ownBlock <;> simp)
            rw [HM.out] at hk
            exact ownsRow_same_cells ho hk
          rw [e1]
          exact maps_lt hm'
        have HG5 : Hid (WB.grownBy W5 (some gT)) := grownBy_trans HGR.out (below_gr HB5.out)
        have HOT5 : Hid (Own W5 w.heap.size (.slice (some ⟨gT, 0, none⟩) n cT) t) := HO.out.below HB5.out
        have HBL5 : Hid (WB.heap.size ≤ W5.heap.size) := HG5.out.size
        have HU : Hid (∀ k, (Value.slice A5 n c5).ownBlock = some k → W3.heap.size ≤ k) := fun k hk => (HO5.out.turn.lt k hk).1
        have HU' : Hid (∀ k, (Value.slice A6 n c6).ownBlock = some k → W3.heap.size ≤ k) := fun k hk => (HO5.out.flip.lt k hk).1
        have HW3 : Hid (WB.heap.size ≤ W3.heap.size) := Nat.le_trans HGR.out.size HB3.out.size
        clear ho hmaps hapt o5 r5 r6 b5 hx p1 p2
        go_wp2_with (first
          | (at_builtin; refine wpList_append_own _ rfl (.tmp 18) (.tmp 20) 24 rfl WB.heap.size 35 i0 (.agg #[.slice none 0 0, .slice none 0 0]) 2 48 Try.underlying24 hinf hz0 hz1 hz2 rfl (by decide) _ _ _ rfl (HOV.out.alloc _) ⟨W5.heap.size, 0, none⟩ 1 1 [.slice A5 n c5, .slice A6 n c6] rfl rfl (cells_two _ _ _ _) (by intro u hu; simp at hu; rcases hu with rfl | rfl <;> rfl) (by unfold maxLen; omega) (by omega) (by have := HBL5.out; simp; omega) ?_; intro fv6 W6 hown6 hgrow6 _; have HOW6 := Lib.hid hown6; have HGW6 := Lib.hid hgrow6; clear hown6 hgrow6; have HG6 : Hid (WB.grownBy W6 (some gT)) := gr_past (grownBy_trans HG5.out (below_gr ((Below.refl _ _).alloc (Nat.le_refl _) _))) HGW6.out (fun k hk => (HOV.out.lt k hk).1); have HO6 : Hid (Own W6 w.heap.size (.slice (some ⟨gT, 0, none⟩) n cT) t) := own_kept (HOT5.out.below ((Below.refl _ _).alloc (Nat.le_refl _) _)) (HOV.out.alloc _) HGW6.out; have HBR6 : Hid (Box2 W6 w2.heap.size (some ⟨gT, 0, none⟩) n cT F n cF) := (HG6.out.block w2.heap.size (by have := HSB.out; omega) (fun e => hne (by injection e))).trans HBX.out; have c0 := HBR6.out.cell0; have c1 := HBR6.out.cell1)
          | fail)
        have HR6 : Hid (RowD W6 WB.heap.size fv6 ((rawL e (i + 1)).map MV.pr)) := by
          have hb : Below W5.heap.size W5 (W5.alloc (.cells #[.slice A5 n c5, .slice A6 n c6] 35)) := (Below.refl _ _).alloc (Nat.le_refl _) _
          have e1 : (rawL e (i + 1)).map MV.pr = (rawL e i).map MV.pr ++ [(x.t, x.f)] := by
            rw [rawL_yes hlt (by rw [HT.out]; exact HMV.out), List.map_append, HT.out, HXX.out]; rfl
          rw [Hid, e1]
          exact RowD.one_more (B := W3.heap.size) (by rw [HM.out]; exact HOV.out.alloc _) (HMP.out.below hb) HAP.out ((HO5.out.mono HW3.out).below hb) HLT.out HU.out HU'.out (by rw [HM.out]; exact HOW6.out) HGW6.out
        have hFL : decide (atR t (n - 1) ≠ 0) = decide (i + 1 < (allT e).length) := by
          by_cases hn1 : i + 1 < (allT e).length
          · rw [decide_eq_true hn1, decide_eq_true (HNX.out.1 hn1).1]
          · rw [decide_eq_false hn1, decide_eq_false (fun h => h (HNX.out.2 (by omega)))]
        have HFL := Lib.hid hFL; clear hFL
        go_wp2_with fail
        refine (advance_any W6 w.heap.size gT n cT t HO6.out HTL.out (by omega) (by omega) hcT).mono ?_
        rintro r W7 ⟨rfl, o7, g7⟩
        rw [HFL.out]
        have HNEW : AtF e w.heap.size WB.heap.size gT n cT WB (i + 1) fv6 (.bool (decide (i + 1 < (allT e).length))) W7 := by
          refine ⟨hlt, rfl, HR6.out.chg g7 (by have := HGT.out; have := HSS.out; have := HSB.out; omega), fun hn1 => ?_, grownBy_trans HG6.out g7⟩
          have h := o7 (HNX.out.1 hn1).1
          rw [(HNX.out.1 hn1).2] at h
          exact h
        clear o7 g7
        go_wp2_with fail
        go_roundw
        case rel => exact ⟨i + 1, HNEW⟩
        case measure => exact leftF_step HL.out hlt HNEW
      · have hmv' : mapV t (flipL e) = false := by simpa using hmv
        have HMV := Lib.hid hmv'; clear hmv hmv'
        go_wp2_with fail
        refine (valid_lit w2.heap.size (some ⟨gT, 0, none⟩) F n n cT cF t (flipL e) wr HBR.out HRT.out HRF.out (by omega) (by omega) HMV.out).mono ?_
        rintro r W6 ⟨rfl, b3⟩
        have HB3 := Lib.hid b3
        clear b3 c0 c1
        have HR6 : Hid (RowD W6 WB.heap.size u4 ((rawL e (i + 1)).map MV.pr)) := by
          rw [Hid, rawL_no hlt (by rw [HT.out]; exact HMV.out)]; exact HROW.out.below HB3.out
        have HG6 : Hid (WB.grownBy W6 (some gT)) := grownBy_trans HGR.out (below_gr HB3.out)
        have HO6 : Hid (Own W6 w.heap.size (.slice (some ⟨gT, 0, none⟩) n cT) t) := HO.out.below HB3.out
        have HBR6 := Lib.hid (HBR.out.below HB3.out)
        have c0 := HBR6.out.cell0; have c1 := HBR6.out.cell1
        have hFL : decide (atR t (n - 1) ≠ 0) = decide (i + 1 < (allT e).length) := by
          by_cases hn1 : i + 1 < (allT e).length
          · rw [decide_eq_true hn1, decide_eq_true (HNX.out.1 hn1).1]
          · rw [decide_eq_false hn1, decide_eq_false (fun h => h (HNX.out.2 (by omega)))]
        have HFL := Lib.hid hFL; clear hFL
        go_wp2_with fail
        refine (advance_any W6 w.heap.size gT n cT t HO6.out HTL.out (by omega) (by omega) hcT).mono ?_
        rintro r W7 ⟨rfl, o7, g7⟩
        rw [HFL.out]
        have HNEW : AtF e w.heap.size WB.heap.size gT n cT WB (i + 1) u4 (.bool (decide (i + 1 < (allT e).length))) W7 := by
          refine ⟨hlt, rfl, HR6.out.chg g7 (by have := HGT.out; have := HSS.out; have := HSB.out; omega), fun hn1 => ?_, grownBy_trans HG6.out g7⟩
          have h := o7 (HNX.out.1 hn1).1
          rw [(HNX.out.1 hn1).2] at h
          exact h
        clear o7 g7
        go_wp2_with fail
        go_roundw
        case rel => exact ⟨i + 1, HNEW⟩
        case measure => exact leftF_step HL.out hlt HNEW
    · have hil : i = (allT e).length := by omega
      have hfl : decide (i < (allT e).length) = false := by simpa using hlt
      rw [hfl]
      subst hil
      have HP := raw_pos h1 h3
      obtain ⟨N, hNN⟩ : ∃ N, (rawL e (allT e).length).length = N := ⟨_, rfl⟩
      have HNN := Lib.hid hNN
      rw [hNN] at HP
      have hN7 : N ≤ 720 := by have := rawL_len (e := e) (i := (allT e).length); have := HL2.out; omega
      obtain ⟨g, c, rfl⟩ : ∃ g c, u4 = .slice (some ⟨g, 0, none⟩) N c := by
        obtain ⟨vs, ho, -, -⟩ := HROW.out
        rw [List.length_map, hNN] at ho
        rcases ho.2 with ⟨_, h0⟩ | ⟨g, cap, cur, h0, _⟩
        · omega
        · exact ⟨g, cap, h0⟩
      have HGL : Hid (WB.heap.size ≤ g) := by
        obtain ⟨vs, ho, -, -⟩ := HROW.out
        exact (ho.lt g rfl).1
      clear hNN hlt hfl
      go_wp2_with fail
      refine (sortFunc_any (n := 2 * e) (by omega) (rawL e (allT e).length) g N c WB.heap.size wr HROW.out HNN.out HP (by omega)).mono ?_
      rintro r W8 ⟨rfl, s, hs1, hs2, hs3, hs4⟩
      have HS1 := Lib.hid hs1; have HS2 := Lib.hid hs2; have HS3 := Lib.hid hs3; have HS4 := Lib.hid hs4
      have HSL : Hid (s.length = N) := hs1.length_eq.trans HNN.out
      clear hs1 hs2 hs3 hs4
      go_wp2_with fail
      refine (compact_any (n := 2 * e) (by omega) s g N c WB.heap.size W8 HS3.out HSL.out (by omega)).mono ?_
      rintro r W9 ⟨k, rfl, hk, hr9, hg9⟩
      have HK := Lib.hid hk; have HR9 := Lib.hid hr9; have HG9 := Lib.hid hg9
      clear hk hr9 hg9
      go_wp2_with fail
      go_ret
      have hall : compM s = allM e := allM_of (fun x => HS1.out.mem_iff) (HS2.out.imp fun h => by omega)
      have hfin := gr_past HGR.out (grownBy_trans HS4.out HG9.out) (fun k hk => by injection hk with hk; subst hk; exact HGL.out)
      have hBB : Below w.heap.size w W9 := ⟨hfin.os.trans HB0.out.os, hfin.tape.trans HB0.out.tape, hfin.output.trans HB0.out.output, Nat.le_trans HB0.out.size hfin.size, fun j hj => by
        have := HGT.out
        exact (hfin.block j (Nat.lt_of_lt_of_le hj HB0.out.size) (fun e => by injection e with e; omega)).trans (HB0.out.block j hj)⟩
      rw [← hall, ← HK.out]
      exact ⟨g, c, rfl, HR9.out.mono HB0.out.size, hBB⟩

end Go.Proofs.Ytakckkmhhedfpaa

namespace Go.Proofs.Ytakckkmhhedfpaa
open Go.RowKit

/-- The least form of a map. -/
noncomputable def leastM {n : Nat} (x : MV n) : MV n :=
  if h : (formT x.t x.f (leastTo x.t x.f (n - 1))).length = n ∧ (formF x.t x.f (leastTo x.t x.f (n - 1))).length = n then ⟨_, _, h.1, h.2⟩ else x
theorem leastM_pr {n : Nat} {x : MV n} (hm : IsMap x.t x.f) (hn : 1 ≤ n) : (leastM x).t = formT x.t x.f (leastTo x.t x.f (n - 1)) ∧ (leastM x).f = formF x.t x.f (leastTo x.t x.f (n - 1)) := by
  have hl : leastTo x.t x.f (n - 1) < x.t.length := by have := leastTo_le x.t x.f (n - 1); have := x.ht; omega
  have h : (formT x.t x.f (leastTo x.t x.f (n - 1))).length = n ∧ (formF x.t x.f (leastTo x.t x.f (n - 1))).length = n := ⟨by rw [formT_len hm hl]; exact x.ht, by rw [formF_len hm hl]; exact x.ht⟩
  unfold leastM
  rw [dif_pos h]
  exact ⟨rfl, rfl⟩

set_option maxHeartbeats 1600000 in
theorem del1_any (W : World) (b : Nat) (gg : Int) (A A' : Option Addr) (n d d' : Nat) (t f : List Int) (hb : W.cell? ⟨b, 0, none⟩ = some (.int .i64 gg)) (hbl : b < W.heap.size) (r1 : Rd W A n t) (r2 : Rd W A' n f) (hm : IsMap t f) :
    Calls Try.prog 71 #[.agg #[.slice A n d, .slice A' n d'], .pointer (some ⟨b, 0, none⟩)] W fun e w' => e = .returned (.bool (genusOf t f != gg)) ∧ Below W.heap.size W w' := by
  obtain ⟨W0, hW0, hz, hb0, hs0⟩ := Box.local_ W 35 (.slice A n d) (.slice A' n d')
  have hn12 : n ≤ 12 := by rw [← r1.1]; exact hm.turn.2.1
  have b0 : ∀ p : Above W0, p.to.cell? ⟨W.heap.size, 0, none⟩ = some (.slice A n d) := fun p => (hz.below p.b).cell0
  have b1 : ∀ p : Above W0, p.to.cell? ⟨W.heap.size, 1, none⟩ = some (.slice A' n d') := fun p => (hz.below p.b).cell1
  have b2 : ∀ p : Above W0, p.to.cell? ⟨b, 0, none⟩ = some (.int .i64 gg) := fun p => (p.b.cell (p := ⟨b, 0, none⟩) (by rw [hs0]; show b < _; omega)).trans ((hb0.cell (p := ⟨b, 0, none⟩) hbl).trans hb)
  obtain ⟨G, hG⟩ : ∃ G, genusOf t f = G := ⟨_, rfl⟩
  have HGR : Hid (genusR t f = G) := by rw [Hid, genusR, if_pos (mapV_iff.2 hm), hG]
  have HR1 : Hid (∀ p : Above W0, Rd p.to A n t) := fun p => (r1.below hb0).below p.b
  have HR2 : Hid (∀ p : Above W0, Rd p.to A' n f) := fun p => (r2.below hb0).below p.b
  have HC : Hid (∀ p : Above W0, Calls Try.prog 32 #[.agg #[.slice A n d, .slice A' n d']] p.to fun e w'' => e = .returned (.int .i64 G) ∧ ∃ q : Above W0, w'' = q.to) := fun p => Above.calls (impl_genusR _ A A' n n d d' t f (HR1.out p) (HR2.out p) (by omega) (by omega) HGR.out)
  have HB0 := Lib.hid hb0
  rw [hG]
  clear hz hb0 r1 r2 hm hG hb
  go_enter Try.func71, Try.ntmps71
  go_wp2_with fail
  refine wp_region_quiet_above (by kernel_rfl) (by kernel_rfl) ?_
  repeat (quiet_step (first | (go_at_call 32; with_reducible exact HC.out _)))
  refine wpQuiet_nil ?_
  intro _ hw'
  obtain ⟨pq, hw''⟩ := hw'
  subst hw''
  go_wp2
  go_ret
  exact ⟨rfl, HB0.out.trans (pq.b.mono HB0.out.size)⟩

set_option maxHeartbeats 1600000 in
theorem del2_any (W : World) (A A' : Option Addr) (n d d' : Nat) (x : MV n) (r1 : Rd W A n x.t) (r2 : Rd W A' n x.f) (hm : IsMap x.t x.f) :
    Calls Try.prog 78 #[.agg #[.slice A n d, .slice A' n d']] W fun e w' => e = .returned (.bool (x.cmp (leastM x) != 0)) ∧ Below W.heap.size W w' := by
  obtain ⟨W0, hW0, hz, hb0, hs0⟩ := Box.local_ W 35 (.slice A n d) (.slice A' n d')
  have hn12 : n ≤ 12 := by rw [← r1.1]; exact hm.turn.2.1
  have hn1 : 1 ≤ n := by rw [← r1.1]; exact hm.turn.1
  obtain ⟨p1, p2⟩ := leastM_pr hm hn1
  have HLR : Hid (leastR x.t x.f = (true, (leastM x).t, (leastM x).f)) := by rw [Hid, leastR, if_pos (mapV_iff.2 hm), p1, p2, x.ht]
  have c0 := hz.cell0; have c1 := hz.cell1
  obtain ⟨r, hr⟩ : ∃ r, x.cmp (leastM x) = r := ⟨_, rfl⟩
  have HR : Hid (cmpM x.t x.f (leastM x).t (leastM x).f = r) := hr
  rw [hr]
  have HX := Lib.hid hz; have HB0 := Lib.hid hb0; have HR1 := Lib.hid (r1.below hb0); have HR2 := Lib.hid (r2.below hb0)
  have H0 := Lib.hid (r1); have H0' := Lib.hid r2
  clear hz hb0 r1 r2 hm hr p1 p2
  go_enter Try.func78, Try.ntmps78
  go_wp2_with fail
  refine (impl_leastR W0 A A' n n d d' x.t x.f HR1.out HR2.out (by omega) (by omega) HLR.out).mono ?_
  rintro e w2 ⟨u, u', rfl, o, b2⟩
  obtain ⟨B, k, B', k', rfl, rfl, r3, r4⟩ := o.form (leastM x).ht (leastM x).hf
  obtain ⟨W3, hW3, hy, hb3, hs3⟩ := Box.local_ w2 35 (.slice none 0 0) (.slice none 0 0)
  have z0 := hy.cell0; have z1 := hy.cell1; have z2 := hy.frozen 0; have z3 := hy.frozen 1
  obtain ⟨q1, q2⟩ := hy.store2 (.slice B n k) (.slice B' n k')
  obtain ⟨WB, hWB⟩ : ∃ W1, (W3.setCell ⟨w2.heap.size, 0, none⟩ (.slice B n k)).setCell ⟨w2.heap.size, 1, none⟩ (.slice B' n k') = W1 := ⟨_, rfl⟩
  have HBW : Hid (Below w2.heap.size w2 WB) := by rw [Hid, ← hWB]; exact hb3.grown q2 hb3.size (fun k hk => by cases hk; omega)
  have HBY : Hid (Box2 WB w2.heap.size B n k B' n k') := by rw [Hid, ← hWB]; exact q1
  have HBX : Hid (Box2 WB W.heap.size A n d A' n d') := (HX.out.below b2).below HBW.out
  have HR3 := Lib.hid ((HR1.out.below b2).below HBW.out); have HR4 := Lib.hid ((HR2.out.below b2).below HBW.out); have HR5 := Lib.hid (r3.below HBW.out); have HR6 := Lib.hid (r4.below HBW.out)
  have HB4 : Hid (Below W.heap.size W WB) := HB0.out.trans ((b2.trans (HBW.out.mono b2.size)).mono HB0.out.size)
  clear q1 q2 hb3 hy hs3 r3 r4 o b2 c0 c1
  go_wp2_with fail
  refine (compare_lit WB W.heap.size w2.heap.size A A' B B' n d d' k k' x.t x.f (leastM x).t (leastM x).f HBX.out HBY.out HR3.out HR4.out HR5.out HR6.out hn12 HR.out).mono ?_
  rintro e w5 ⟨rfl, b5⟩
  have HB5 := Lib.hid (HB4.out.trans (b5.mono HB4.out.size)); clear b5
  go_wp2_with fail
  go_ret
  exact ⟨rfl, HB5.out⟩

theorem all_map {e : Nat} (h1 : 1 ≤ e) (h3 : e ≤ 3) {x : MV (2 * e)} (hx : x ∈ allM e) : IsMap x.t x.f := raw_map h1 h3 (mem_allM.1 hx)
theorem acc_map {e : Nat} (h1 : 1 ≤ e) (h3 : e ≤ 3) {g : Int} {x : MV (2 * e)} (hx : x ∈ accL e g (allT e).length) : IsMap x.t x.f := by
  rw [← all_genus h1 h3] at hx
  exact all_map h1 h3 (List.mem_filter.1 hx).1
theorem all_few {e : Nat} (h1 : 1 ≤ e) (h3 : e ≤ 3) : (allM e).length ≤ 720 := Nat.le_trans allM_len (turns_all h1 h3).2.2

set_option maxHeartbeats 1600000 in
theorem rootedOf_any (e : Nat) (gg : Int) (w : World) (h1 : 1 ≤ e) (h3 : e ≤ 3) :
    Calls Try.prog 40 #[.int .i64 e, .int .i64 gg] w fun r w' => ∃ g c, r = .returned (.slice (some ⟨g, 0, none⟩) (accL e gg (allT e).length).length c) ∧ RowD w' w.heap.size (.slice (some ⟨g, 0, none⟩) (accL e gg (allT e).length).length c) ((accL e gg (allT e).length).map MV.pr) ∧ Below w.heap.size w w' := by
  obtain ⟨W0, hW0⟩ : ∃ W0, w.alloc (.cells #[.int .i64 gg] 3) = W0 := ⟨_, rfl⟩
  have HB0 : Hid (Below w.heap.size w W0) := by rw [← hW0]; exact (Below.refl _ _).alloc (Nat.le_refl _) _
  have HS0 : Hid (W0.heap.size = w.heap.size + 1) := by rw [Hid, ← hW0]; simp
  have HBB : Hid (W0.heap[w.heap.size]? = some (.cells #[.int .i64 gg] 3 (0, 0))) := by rw [Hid, ← hW0]; exact heap_alloc_new w _
  go_enter Try.func40, Try.ntmps40
  go_wp2_with fail
  refine (rootedForms_any e W0 h1 h3).mono ?_
  rintro r W1 ⟨g, c, rfl, hrow, hb1⟩
  obtain ⟨xs, hxm, hat, hapt⟩ := RwC.start hrow rfl
  have HF := all_few h1 h3
  have HGL : Hid (w.heap.size < g) := by
    obtain ⟨vs, ho, -, -⟩ := hrow
    have := (ho.lt g rfl).1
    have := HS0.out
    rw [Hid]; omega
  have HB1 := Lib.hid hb1
  have HEQ : Hid ((allM e).filter (fun x => !(genusOf x.t x.f != gg)) = accL e gg (allT e).length) := by
    rw [Hid, ← all_genus h1 h3 gg]
    refine List.filter_congr fun x _ => ?_
    simp [bne]
  have HD : Hid (∀ (W : World), W1.grownBy W (some g) → ∀ x, x ∈ xs → ∀ A d A' d', x.enc = [.slice A (2 * e) d, .slice A' (2 * e) d'] → Rd W A (2 * e) x.mv.t → Rd W A' (2 * e) x.mv.f → Calls Try.prog 71 #[.agg #[.slice A (2 * e) d, .slice A' (2 * e) d'], .pointer (some ⟨w.heap.size, 0, none⟩)] W fun e' w' => e' = .returned (.bool ((fun x : MV (2 * e) => genusOf x.t x.f != gg) x.mv)) ∧ Below W.heap.size W w') := by
    intro W hW x hx A d A' d' _ r1 r2
    have hlt : w.heap.size < W0.heap.size := by have := HS0.out; omega
    have hb : W.heap[w.heap.size]? = some (.cells #[.int .i64 gg] 3 (0, 0)) :=
      (hW.block w.heap.size (Nat.lt_of_lt_of_le hlt HB1.out.size) (fun e => by injection e with e; have := HGL.out; omega)).trans ((HB1.out.block w.heap.size hlt).trans HBB.out)
    exact del1_any W w.heap.size gg A A' (2 * e) d d' x.mv.t x.mv.f (by rw [cell_of_row W w.heap.size 0 _ _ (0, 0) hb]; rfl) (Nat.lt_of_lt_of_le (Nat.lt_of_lt_of_le hlt HB1.out.size) hW.size) r1 r2 (all_map h1 h3 (by rw [← hxm]; exact List.mem_map_of_mem hx))
  have HX := Lib.hid hxm; have HAT := Lib.hid hat; have HAP := Lib.hid hapt
  clear hrow hb1 hxm hat hapt
  go_wp2_with fail
  refine (delete1_any (fun x : MV (2 * e) => genusOf x.t x.f != gg) (allM e) g (allM e).length c W0.heap.size w.heap.size W1 xs HX.out HAT.out HAP.out (by omega) HD.out).mono ?_
  rintro r W2 ⟨k, rfl, hk, hr, hg⟩
  rw [HEQ.out] at hk hr
  have HK := Lib.hid hk; have HR := Lib.hid hr; have HG := Lib.hid hg
  clear hk hr hg
  go_wp2_with fail
  go_ret
  have hb01 := HB0.out.trans (HB1.out.mono HB0.out.size)
  refine ⟨g, c, by rw [HK.out]; rfl, by rw [← HK.out]; exact HR.out.mono HB0.out.size, HG.out.os.trans hb01.os, HG.out.tape.trans hb01.tape, HG.out.output.trans hb01.output, Nat.le_trans hb01.size HG.out.size, fun j hj => ?_⟩
  exact (HG.out.block j (Nat.lt_of_lt_of_le hj hb01.size) (fun e => by injection e with e; have := HGL.out; omega)).trans (hb01.block j hj)

/-- What rootlessOf keeps. -/
noncomputable def lstL (e : Nat) (gg : Int) : List (MV (2 * e)) := (accL e gg (allT e).length).filter fun x => !(x.cmp (leastM x) != 0)
set_option maxHeartbeats 1600000 in
theorem rootlessOf_any (e : Nat) (gg : Int) (w : World) (h1 : 1 ≤ e) (h3 : e ≤ 3) :
    Calls Try.prog 47 #[.int .i64 e, .int .i64 gg] w fun r w' => ∃ g c, r = .returned (.slice (some ⟨g, 0, none⟩) (lstL e gg).length c) ∧ RowD w' w.heap.size (.slice (some ⟨g, 0, none⟩) (lstL e gg).length c) ((lstL e gg).map MV.pr) ∧ Below w.heap.size w w' := by
  go_enter Try.func47, Try.ntmps47
  go_wp2_with fail
  refine (rootedOf_any e gg w h1 h3).mono ?_
  rintro r W1 ⟨g, c, rfl, hrow, hb1⟩
  obtain ⟨xs, hxm, hat, hapt⟩ := RwC.start hrow rfl
  have HF : (accL e gg (allT e).length).length ≤ 720 := Nat.le_trans accL_len (turns_all h1 h3).2.2
  have HGL : Hid (w.heap.size ≤ g) := by
    obtain ⟨vs, ho, -, -⟩ := hrow
    exact (ho.lt g rfl).1
  have HB1 := Lib.hid hb1
  have HD : Hid (∀ (W : World), W1.grownBy W (some g) → ∀ x, x ∈ xs → ∀ A d A' d', x.enc = [.slice A (2 * e) d, .slice A' (2 * e) d'] → Rd W A (2 * e) x.mv.t → Rd W A' (2 * e) x.mv.f → Calls Try.prog 78 #[.agg #[.slice A (2 * e) d, .slice A' (2 * e) d']] W fun e' w' => e' = .returned (.bool ((fun x : MV (2 * e) => x.cmp (leastM x) != 0) x.mv)) ∧ Below W.heap.size W w') :=
    fun W hW x hx A d A' d' _ r1 r2 => del2_any W A A' (2 * e) d d' x.mv r1 r2 (acc_map (g := gg) h1 h3 (by rw [← hxm]; exact List.mem_map_of_mem hx))
  have HX := Lib.hid hxm; have HAT := Lib.hid hat; have HAP := Lib.hid hapt
  clear hrow hb1 hxm hat hapt
  go_wp2_with fail
  refine (delete2_any (fun x : MV (2 * e) => x.cmp (leastM x) != 0) (accL e gg (allT e).length) g (accL e gg (allT e).length).length c w.heap.size W1 xs HX.out HAT.out HAP.out (by omega) HD.out).mono ?_
  rintro r W2 ⟨k, rfl, hk, hr, hg⟩
  have HK := Lib.hid hk; have HR := Lib.hid hr; have HG := Lib.hid hg
  clear hk hr hg
  go_wp2_with fail
  go_ret
  have hb01 := HB1.out
  refine ⟨g, c, by rw [HK.out]; rfl, by have h := HR.out; rw [HK.out] at h; exact h, HG.out.os.trans hb01.os, HG.out.tape.trans hb01.tape, HG.out.output.trans hb01.output, Nat.le_trans hb01.size HG.out.size, fun j hj => ?_⟩
  exact (HG.out.block j (Nat.lt_of_lt_of_le hj hb01.size) (fun e => by injection e with e; have := HGL.out; omega)).trans (hb01.block j hj)

end Go.Proofs.Ytakckkmhhedfpaa

namespace Go.Proofs.Ytakckkmhhedfpaa
open Go.RowKit
set_option linter.unusedVariables false

def okB (x0 x1 : Int) : Bool := inB x0 1 3 && decide (0 ≤ x1)
theorem okB_nat {x0 x1 : Int} (h : okB x0 x1 = true) : ∃ e : Nat, x0 = e ∧ 1 ≤ e ∧ e ≤ 3 ∧ inB x0 1 3 = true ∧ 0 ≤ x1 := by
  unfold okB inB at h
  simp only [Bool.and_eq_true, decide_eq_true_eq] at h
  exact ⟨x0.toNat, by omega, by omega, by omega, inB_true (by omega) (by omega), h.2⟩
noncomputable def gL (e : Nat) (g : Int) : List (MV (2 * e)) := accL e g (allT e).length
theorem gL_few {e : Nat} {g : Int} (h1 : 1 ≤ e) (h3 : e ≤ 3) : (gL e g).length ≤ 720 := Nat.le_trans accL_len (turns_all h1 h3).2.2
theorem gL_map {e : Nat} {g : Int} (h1 : 1 ≤ e) (h3 : e ≤ 3) : ∀ x ∈ gL e g, IsMap x.t x.f := fun x hx => acc_map h1 h3 hx

set_option maxHeartbeats 800000 in
theorem countable_any (x0 x1 : Int) (w : World) : Calls Try.prog 39 #[.int .i64 x0, .int .i64 x1] w fun e w' => e = .returned (.bool (okB x0 x1)) ∧ w = w' := by
  by_cases h1 : 1 ≤ x0
  · by_cases h2 : x0 ≤ 3
    · by_cases h3 : 0 ≤ x1
      · have HR : Hid (okB x0 x1 = true) := by rw [Hid, okB, inB_true h1 h2, decide_eq_true h3]; rfl
        go_enter Try.func39, Try.ntmps39
        go_wp2_with fail
        go_ret
        exact ⟨by rw [HR.out]; rfl, rfl⟩
      · have HR : Hid (okB x0 x1 = false) := by rw [Hid, okB, decide_eq_false h3, Bool.and_false]
        go_enter Try.func39, Try.ntmps39
        go_wp2_with fail
        go_ret
        exact ⟨by rw [HR.out]; rfl, rfl⟩
    · have HR : Hid (okB x0 x1 = false) := by rw [Hid, okB, inB_false (by omega), Bool.false_and]
      go_enter Try.func39, Try.ntmps39
      go_wp2_with fail
      go_ret
      exact ⟨by rw [HR.out]; rfl, rfl⟩
  · have HR : Hid (okB x0 x1 = false) := by rw [Hid, okB, inB_false (by omega), Bool.false_and]
    go_enter Try.func39, Try.ntmps39
    go_wp2_with fail
    go_ret
    exact ⟨by rw [HR.out]; rfl, rfl⟩

/-! ### Numbers told of a list of maps -/
def sumL_ {n : Nat} (F : MV n → Int) : List (MV n) → Int
  | [] => 0
  | x :: l => F x + sumL_ F l
def upTo {n : Nat} (F : MV n → Int) (ms : List (MV n)) (i : Nat) : Int := sumL_ F (ms.take i)
theorem sumL_app {n : Nat} (F : MV n → Int) : ∀ (a b : List (MV n)), sumL_ F (a ++ b) = sumL_ F a + sumL_ F b
  | [], b => by simp [sumL_]
  | x :: a, b => by rw [List.cons_append, sumL_, sumL_app F a b, sumL_]; omega
theorem upTo_one {n : Nat} (F : MV n → Int) {ms : List (MV n)} {i : Nat} (hi : i < ms.length) : upTo F ms (i + 1) = upTo F ms i + F ms[i] := by
  unfold upTo
  rw [List.take_succ_eq_append_getElem hi, sumL_app]
  simp [sumL_]
theorem upTo_all {n : Nat} (F : MV n → Int) (ms : List (MV n)) : upTo F ms ms.length = sumL_ F ms := by unfold upTo; rw [List.take_of_length_le (Nat.le_refl _)]
theorem upTo_le {n : Nat} {F : MV n → Int} {b : Int} (hb0 : 0 ≤ b) (hF : ∀ x, 0 ≤ F x ∧ F x ≤ b) (ms : List (MV n)) : ∀ i, 0 ≤ upTo F ms i ∧ upTo F ms i ≤ b * i := by
  intro i
  induction i with
  | zero => simp [upTo, sumL_]
  | succ i ih =>
    by_cases hi : i < ms.length
    · rw [upTo_one F hi]
      have := hF ms[i]
      have e : b * ((i + 1 : Nat) : Int) = b * i + b := by rw [Int.natCast_add, Int.mul_add]; simp
      omega
    · have e : upTo F ms (i + 1) = upTo F ms i := by unfold upTo; rw [List.take_of_length_le (by omega), List.take_of_length_le (by omega)]
      have h0 := hb0
      have e2 : b * ((i + 1 : Nat) : Int) = b * i + b := by rw [Int.natCast_add, Int.mul_add]; simp
      rw [e]
      omega
/-- Whether a map has one face. -/
def oneF {n : Nat} (x : MV n) : Int := if cntF x.t x.f = 1 then 1 else 0
noncomputable def trnF {n : Nat} (x : MV n) : Int := (n : Int).tdiv (turnsTo x.t x.f n)
noncomputable def rcF (x0 x1 : Int) : Int := if okB x0 x1 = true then ((gL x0.toNat x1).length : Int) else -1
noncomputable def roF (x0 x1 : Int) : Int := if okB x0 x1 = true then sumL_ oneF (gL x0.toNat x1) else -1
noncomputable def rsF (x0 x1 : Int) : Int := if okB x0 x1 = true then ((lstL x0.toNat x1).length : Int) else -1
noncomputable def rrF (x0 x1 : Int) : Int := if okB x0 x1 = true then sumL_ trnF (lstL x0.toNat x1) else -1
theorem lstL_few {e : Nat} {g : Int} (h1 : 1 ≤ e) (h3 : e ≤ 3) : (lstL e g).length ≤ 720 := Nat.le_trans (List.length_filter_le _ _) (Nat.le_trans accL_len (turns_all h1 h3).2.2)
theorem turnsTo_pos {t f : List Int} : ∀ k, 1 ≤ k → 1 ≤ turnsTo t f k
  | 0, h => by omega
  | 1, _ => by rw [turnsTo_yes (k := 0) ⟨rfl, rfl⟩]; omega
  | k + 2, _ => by
    have := turnsTo_pos (t := t) (f := f) (k + 1) (by omega)
    by_cases h : sameF t f (k + 1)
    · rw [turnsTo_yes h]; omega
    · rw [turnsTo_no h]; exact this

set_option maxRecDepth 20000 in
set_option maxHeartbeats 1600000 in
theorem impl_rc (w : World) (x0 x1 : Int) (hw0 : (Lit.int .i64 x0).wf = true) (hw1 : (Lit.int .i64 x1).wf = true) {r : Int} (hR : rcF x0 x1 = r) :
    Calls Try.prog 13 #[.int .i64 x0, .int .i64 x1] w fun e w' => e = .returned (.int .i64 r) ∧ Below w.heap.size w w' := by
  cases hok : okB x0 x1 with
  | false =>
    rw [rcF, hok] at hR
    obtain rfl : -1 = r := by simpa using hR
    have HOK := Lib.hid hok; clear hok hR
    go_enter Try.func13, Try.ntmps13
    go_wp2_with fail
    refine (countable_any x0 x1 w).mono ?_
    rw [HOK.out]
    rintro e w1 ⟨rfl, rfl⟩
    go_wp2_with fail
    go_ret
    exact ⟨rfl, Below.refl _ _⟩
  | true =>
    obtain ⟨e, rfl, h1, h3, hin, hg⟩ := okB_nat hok
    rw [rcF, hok, if_pos rfl, Int.toNat_natCast] at hR
    have HOK := Lib.hid hok; have HR := Lib.hid hR; have HI := Lib.hid hin
    clear hok hR hin
    go_enter Try.func13, Try.ntmps13
    go_wp2_with fail
    refine (countable_any e x1 w).mono ?_
    rw [HOK.out]
    rintro e w1 ⟨rfl, rfl⟩
    go_wp2_with fail
    refine (rootedOf_any e x1 w h1 h3).mono ?_
    rintro r W1 ⟨g, c, rfl, hrow, hb1⟩
    have HROW := Lib.hid hrow.row; have HB1 := Lib.hid hb1
    clear hrow hb1
    obtain ⟨ms, hms⟩ : ∃ ms, gL e x1 = ms := ⟨_, rfl⟩
    have HMS := Lib.hid hms
    have HROW : Hid (RowM W1 w.heap.size (.slice (some ⟨g, 0, none⟩) (gL e x1).length c) ((gL e x1).map MV.pr)) := HROW
    rw [show accL e x1 (allT e).length = gL e x1 from rfl]
    rw [hms] at HR HROW ⊢
    obtain ⟨N, hN⟩ : ∃ N, ms.length = N := ⟨_, rfl⟩
    rw [hN] at HROW ⊢
    have hN7 : N ≤ 720 := by rw [← hN, ← hms]; exact gL_few h1 h3
    have HN := Lib.hid hN
    clear hN hms
    go_wp2_with fail
    go_ret
    exact ⟨ret_int (by rw [← HR.out, HN.out]), HB1.out⟩

set_option maxRecDepth 20000 in
set_option maxHeartbeats 1600000 in
theorem spec_rc (w : World) (x0 x1 : Int) (hw0 : (Lit.int .i64 x0).wf = true) (hw1 : (Lit.int .i64 x1).wf = true) {r : Int} (hR : rcF x0 x1 = r) :
    Calls Try.prog 12 #[.int .i64 x0, .int .i64 x1] w fun e w' => e = .returned (.int .i64 r) ∧ Below w.heap.size w w' := by
  cases hok : okB x0 x1 with
  | false =>
    rw [rcF, hok] at hR
    obtain rfl : -1 = r := by simpa using hR
    have HOK := Lib.hid hok; clear hok hR
    by_cases hg : 0 ≤ x1
    · have HI : Hid (inB x0 1 3 = false) := by
        have h := HOK.out
        unfold okB at h
        rw [decide_eq_true hg, Bool.and_true] at h
        exact h
      go_enter Try.func12, Try.ntmps12
      go_wp2_with fail
      refine (l6In_any x0 1 3 w).mono ?_
      rw [HI.out]
      rintro e w1 ⟨rfl, rfl⟩
      go_wp2_with fail
      go_ret
      exact ⟨rfl, Below.refl _ _⟩
    · cases hi : inB x0 1 3 with
      | false =>
        have HI := Lib.hid hi; clear hi
        go_enter Try.func12, Try.ntmps12
        go_wp2_with fail
        refine (l6In_any x0 1 3 w).mono ?_
        rw [HI.out]
        rintro e w1 ⟨rfl, rfl⟩
        go_wp2_with fail
        go_ret
        exact ⟨rfl, Below.refl _ _⟩
      | true =>
        have HI := Lib.hid hi; clear hi
        go_enter Try.func12, Try.ntmps12
        go_wp2_with fail
        refine (l6In_any x0 1 3 w).mono ?_
        rw [HI.out]
        rintro e w1 ⟨rfl, rfl⟩
        go_wp2_with fail
        go_ret
        exact ⟨rfl, Below.refl _ _⟩
  | true =>
    obtain ⟨e, rfl, h1, h3, hin, hg⟩ := okB_nat hok
    rw [rcF, hok, if_pos rfl, Int.toNat_natCast] at hR
    have HOK := Lib.hid hok; have HR := Lib.hid hR; have HI := Lib.hid hin
    clear hok hR hin
    go_enter Try.func12, Try.ntmps12
    go_wp2_with fail
    refine (l6In_any e 1 3 w).mono ?_
    rw [HI.out]
    rintro e w1 ⟨rfl, rfl⟩
    go_wp2_with fail
    refine (l3All_any e x1 w h1 h3).mono ?_
    rintro r W1 ⟨g, c, rfl, hrow, hb1⟩
    have HROW := Lib.hid hrow; have HB1 := Lib.hid hb1
    clear hrow hb1
    obtain ⟨ms, hms⟩ : ∃ ms, gL e x1 = ms := ⟨_, rfl⟩
    have HMS := Lib.hid hms
    have HROW : Hid (RowM W1 w.heap.size (.slice (some ⟨g, 0, none⟩) (gL e x1).length c) ((gL e x1).map MV.pr)) := HROW
    rw [show accL e x1 (allT e).length = gL e x1 from rfl]
    rw [hms] at HR HROW ⊢
    obtain ⟨N, hN⟩ : ∃ N, ms.length = N := ⟨_, rfl⟩
    rw [hN] at HROW ⊢
    have hN7 : N ≤ 720 := by rw [← hN, ← hms]; exact gL_few h1 h3
    have HN := Lib.hid hN
    clear hN hms
    go_wp2_with fail
    go_ret
    exact ⟨ret_int (by rw [← HR.out, HN.out]), HB1.out⟩

set_option maxRecDepth 20000 in
set_option maxHeartbeats 1600000 in
theorem impl_ro (w : World) (x0 x1 : Int) (hw0 : (Lit.int .i64 x0).wf = true) (hw1 : (Lit.int .i64 x1).wf = true) {r : Int} (hR : roF x0 x1 = r) :
    Calls Try.prog 20 #[.int .i64 x0, .int .i64 x1] w fun e w' => e = .returned (.int .i64 r) ∧ Below w.heap.size w w' := by
  cases hok : okB x0 x1 with
  | false =>
    rw [roF, hok] at hR
    obtain rfl : -1 = r := by simpa using hR
    have HOK := Lib.hid hok; clear hok hR
    go_enter Try.func20, Try.ntmps20
    go_wp2_with fail
    refine (countable_any x0 x1 w).mono ?_
    rw [HOK.out]
    rintro e w1 ⟨rfl, rfl⟩
    go_wp2_with fail
    go_ret
    exact ⟨rfl, Below.refl _ _⟩
  | true =>
    obtain ⟨e, rfl, h1, h3, hin, hg⟩ := okB_nat hok
    rw [roF, hok, if_pos rfl, Int.toNat_natCast] at hR
    have HOK := Lib.hid hok; have HR := Lib.hid hR; have HI := Lib.hid hin
    clear hok hR hin
    go_enter Try.func20, Try.ntmps20
    go_wp2_with fail
    refine (countable_any e x1 w).mono ?_
    rw [HOK.out]
    rintro e w1 ⟨rfl, rfl⟩
    go_wp2_with fail
    refine (rootedOf_any e x1 w h1 h3).mono ?_
    rintro r W1 ⟨g, c, rfl, hrow, hb1⟩
    have HROW := Lib.hid hrow.row; have HB1 := Lib.hid hb1
    clear hrow hb1
    obtain ⟨ms, hms⟩ : ∃ ms, gL e x1 = ms := ⟨_, rfl⟩
    have HMS := Lib.hid hms
    have HROW : Hid (RowM W1 w.heap.size (.slice (some ⟨g, 0, none⟩) (gL e x1).length c) ((gL e x1).map MV.pr)) := HROW
    rw [show accL e x1 (allT e).length = gL e x1 from rfl]
    rw [hms] at HR HROW ⊢
    obtain ⟨N, hN⟩ : ∃ N, ms.length = N := ⟨_, rfl⟩
    rw [hN] at HROW ⊢
    have hN7 : N ≤ 720 := by rw [← hN, ← hms]; exact gL_few h1 h3
    have HN := Lib.hid hN
    clear hN hms
    have HMAP : Hid (∀ (i : Nat) (h : i < ms.length), IsMap (ms[i]).t (ms[i]).f) := fun i h => gL_map h1 h3 (ms[i]) (by rw [HMS.out]; exact List.getElem_mem _)
    have HUP : Hid (∀ i, 0 ≤ upTo oneF ms i ∧ upTo oneF ms i ≤ 1 * (i : Int)) := upTo_le (by omega) (fun x => by unfold oneF; split <;> omega) ms
    go_wp2_with fail
    go_loopw [5, 19] (fun sv iv wz => ∃ i : Nat, iv = .int .i64 i ∧ i ≤ N ∧ sv = .int .i64 (upTo oneF ms i) ∧ Hid (Below W1.heap.size W1 wz)) (fun _ iv _ => N - (intOf iv).toNat)
    case atStart => exact ⟨0, rfl, Nat.zero_le _, rfl, Below.refl _ _⟩
    case round =>
      obtain ⟨i, rfl, hiN, rfl, hb⟩ := hrel
      have hup := HUP.out i
      by_cases hlt : i < N
      · have hil : i < ms.length := by rw [HN.out]; exact hlt
        obtain ⟨u, u', s0, s1, ho⟩ := (HROW.out.below hb.out).cells rfl (j := i) (by rw [List.length_map]; exact hil)
        rw [List.getElem_map] at ho
        obtain ⟨A, d, A', d', rfl, rfl, r1, r2⟩ := ho.form (n := 2 * e) (n' := 2 * e) (ms[i]).ht (ms[i]).hf
        have hm := HMAP.out i hil
        have hiN2 : (i : Int) < (N : Int) := by omega
        obtain ⟨x, hx⟩ : ∃ x, ms[i] = x := ⟨_, rfl⟩
        have HS : Hid (upTo oneF ms (i + 1) = upTo oneF ms i + oneF x) := by rw [Hid, upTo_one oneF hil, hx]
        rw [hx] at hm r1 r2
        change Rd wr A (2 * e) x.t at r1; change Rd wr A' (2 * e) x.f at r2
        obtain ⟨s, hs⟩ : ∃ s, upTo oneF ms i = s := ⟨_, rfl⟩
        rw [hs] at hup HS ⊢
        clear hx ho hs
        have hglt : g < wr.heap.size := by
          obtain ⟨vs, ho, -⟩ := HROW.out.below hb.out
          exact (ho.lt g rfl).2
        obtain ⟨W0, hW0, hz, hb0, hs0⟩ := Box.local_ wr 35 (.slice none 0 0) (.slice none 0 0)
        have z0 := hz.cell0; have z1 := hz.cell1; have z2 := hz.frozen 0; have z3 := hz.frozen 1
        obtain ⟨q1, q2⟩ := hz.store2 (.slice A (2 * e) d) (.slice A' (2 * e) d')
        obtain ⟨WB, hWB⟩ : ∃ W1, (W0.setCell ⟨wr.heap.size, 0, none⟩ (.slice A (2 * e) d)).setCell ⟨wr.heap.size, 1, none⟩ (.slice A' (2 * e) d') = W1 := ⟨_, rfl⟩
        have HBW : Hid (Below wr.heap.size wr WB) := by rw [Hid, ← hWB]; exact hb0.grown q2 hb0.size (fun k hk => by cases hk; omega)
        have HBX : Hid (Box2 WB wr.heap.size A (2 * e) d A' (2 * e) d') := by rw [Hid, ← hWB]; exact q1
        have e0 : W0.cell? ⟨g, i * 2, none⟩ = some (.slice A (2 * e) d) := (hb0.cell (p := ⟨g, i * 2, none⟩) hglt).trans s0
        have e1 : W0.cell? ⟨g, i * 2 + 1, none⟩ = some (.slice A' (2 * e) d') := (hb0.cell (p := ⟨g, i * 2 + 1, none⟩) hglt).trans s1
        have HR1 := Lib.hid (r1.below HBW.out); have HR2 := Lib.hid (r2.below HBW.out); have HM := Lib.hid hm
        clear q1 q2 hb0 hz hs0 r1 r2 hm
        by_cases h1f : cntF x.t x.f = 1
        · have HONE : Hid (oneF x = 1) := by rw [Hid, oneF, if_pos h1f]
          have HF := Lib.hid h1f
          clear h1f
          go_wp2_with fail
          refine (counts_any wr.heap.size A A' (2 * e) d d' x.t x.f WB HBX.out HR1.out HR2.out HM.out).mono ?_
          rw [HF.out]
          rintro r w2 ⟨rfl, b2⟩
          have HB2 := Lib.hid (hb.out.trans ((HBW.out.trans (b2.mono HBW.out.size)).mono hb.out.size))
          clear b2 z0 z1 z2 z3 s0 s1 e0 e1 hW0 hWB
          go_wp2_with fail
          go_roundw
          case rel => exact ⟨i + 1, by go_num, by omega, by rw [HS.out, HONE.out], HB2⟩
          case measure => simp [intOf]; omega
        · have HONE : Hid (oneF x = 0) := by rw [Hid, oneF, if_neg h1f]
          have hne : (((cntF x.t x.f : Nat) : Int) == 1) = false := by simp; omega
          have HF := Lib.hid h1f
          clear h1f
          go_wp2_with fail
          refine (counts_any wr.heap.size A A' (2 * e) d d' x.t x.f WB HBX.out HR1.out HR2.out HM.out).mono ?_
          rintro r w2 ⟨rfl, b2⟩
          have HB2 := Lib.hid (hb.out.trans ((HBW.out.trans (b2.mono HBW.out.size)).mono hb.out.size))
          clear b2 z0 z1 z2 z3 s0 s1 e0 e1 hW0 hWB
          go_wp2_with fail
          go_roundw
          case rel => exact ⟨i + 1, by go_num, by omega, by rw [HS.out, HONE.out, Int.add_zero], HB2⟩
          case measure => simp [intOf]; omega
      · obtain rfl : i = N := by omega
        have HRR : Hid (upTo oneF ms i = r) := by rw [Hid, ← HN.out, upTo_all]; exact HR.out
        go_wp2_with fail
        go_ret
        exact ⟨ret_int HRR.out, HB1.out.trans (hb.out.mono HB1.out.size)⟩

set_option maxRecDepth 20000 in
set_option maxHeartbeats 1600000 in
theorem spec_ro (w : World) (x0 x1 : Int) (hw0 : (Lit.int .i64 x0).wf = true) (hw1 : (Lit.int .i64 x1).wf = true) {r : Int} (hR : roF x0 x1 = r) :
    Calls Try.prog 19 #[.int .i64 x0, .int .i64 x1] w fun e w' => e = .returned (.int .i64 r) ∧ Below w.heap.size w w' := by
  cases hok : okB x0 x1 with
  | false =>
    rw [roF, hok] at hR
    obtain rfl : -1 = r := by simpa using hR
    have HOK := Lib.hid hok; clear hok hR
    by_cases hg : 0 ≤ x1
    · have HI : Hid (inB x0 1 3 = false) := by
        have h := HOK.out
        unfold okB at h
        rw [decide_eq_true hg, Bool.and_true] at h
        exact h
      go_enter Try.func19, Try.ntmps19
      go_wp2_with fail
      refine (l6In_any x0 1 3 w).mono ?_
      rw [HI.out]
      rintro e w1 ⟨rfl, rfl⟩
      go_wp2_with fail
      go_ret
      exact ⟨rfl, Below.refl _ _⟩
    · cases hi : inB x0 1 3 with
      | false =>
        have HI := Lib.hid hi; clear hi
        go_enter Try.func19, Try.ntmps19
        go_wp2_with fail
        refine (l6In_any x0 1 3 w).mono ?_
        rw [HI.out]
        rintro e w1 ⟨rfl, rfl⟩
        go_wp2_with fail
        go_ret
        exact ⟨rfl, Below.refl _ _⟩
      | true =>
        have HI := Lib.hid hi; clear hi
        go_enter Try.func19, Try.ntmps19
        go_wp2_with fail
        refine (l6In_any x0 1 3 w).mono ?_
        rw [HI.out]
        rintro e w1 ⟨rfl, rfl⟩
        go_wp2_with fail
        go_ret
        exact ⟨rfl, Below.refl _ _⟩
  | true =>
    obtain ⟨e, rfl, h1, h3, hin, hg⟩ := okB_nat hok
    rw [roF, hok, if_pos rfl, Int.toNat_natCast] at hR
    have HOK := Lib.hid hok; have HR := Lib.hid hR; have HI := Lib.hid hin
    clear hok hR hin
    go_enter Try.func19, Try.ntmps19
    go_wp2_with fail
    refine (l6In_any e 1 3 w).mono ?_
    rw [HI.out]
    rintro e w1 ⟨rfl, rfl⟩
    go_wp2_with fail
    refine (l3All_any e x1 w h1 h3).mono ?_
    rintro r W1 ⟨g, c, rfl, hrow, hb1⟩
    have HROW := Lib.hid hrow; have HB1 := Lib.hid hb1
    clear hrow hb1
    obtain ⟨ms, hms⟩ : ∃ ms, gL e x1 = ms := ⟨_, rfl⟩
    have HMS := Lib.hid hms
    have HROW : Hid (RowM W1 w.heap.size (.slice (some ⟨g, 0, none⟩) (gL e x1).length c) ((gL e x1).map MV.pr)) := HROW
    rw [show accL e x1 (allT e).length = gL e x1 from rfl]
    rw [hms] at HR HROW ⊢
    obtain ⟨N, hN⟩ : ∃ N, ms.length = N := ⟨_, rfl⟩
    rw [hN] at HROW ⊢
    have hN7 : N ≤ 720 := by rw [← hN, ← hms]; exact gL_few h1 h3
    have HN := Lib.hid hN
    clear hN hms
    have HMAP : Hid (∀ (i : Nat) (h : i < ms.length), IsMap (ms[i]).t (ms[i]).f) := fun i h => gL_map h1 h3 (ms[i]) (by rw [HMS.out]; exact List.getElem_mem _)
    have HUP : Hid (∀ i, 0 ≤ upTo oneF ms i ∧ upTo oneF ms i ≤ 1 * (i : Int)) := upTo_le (by omega) (fun x => by unfold oneF; split <;> omega) ms
    go_wp2_with fail
    go_loopw [5, 7] (fun sv iv wz => ∃ i : Nat, iv = .int .i64 i ∧ i ≤ N ∧ sv = .int .i64 (upTo oneF ms i) ∧ Hid (Below W1.heap.size W1 wz)) (fun _ iv _ => N - (intOf iv).toNat)
    case atStart => exact ⟨0, rfl, Nat.zero_le _, rfl, Below.refl _ _⟩
    case round =>
      obtain ⟨i, rfl, hiN, rfl, hb⟩ := hrel
      have hup := HUP.out i
      by_cases hlt : i < N
      · have hil : i < ms.length := by rw [HN.out]; exact hlt
        obtain ⟨u, u', s0, s1, ho⟩ := (HROW.out.below hb.out).cells rfl (j := i) (by rw [List.length_map]; exact hil)
        rw [List.getElem_map] at ho
        obtain ⟨A, d, A', d', rfl, rfl, r1, r2⟩ := ho.form (n := 2 * e) (n' := 2 * e) (ms[i]).ht (ms[i]).hf
        have hm := HMAP.out i hil
        have hiN2 : (i : Int) < (N : Int) := by omega
        obtain ⟨x, hx⟩ : ∃ x, ms[i] = x := ⟨_, rfl⟩
        have HS : Hid (upTo oneF ms (i + 1) = upTo oneF ms i + oneF x) := by rw [Hid, upTo_one oneF hil, hx]
        rw [hx] at hm r1 r2
        change Rd wr A (2 * e) x.t at r1; change Rd wr A' (2 * e) x.f at r2
        obtain ⟨s, hs⟩ : ∃ s, upTo oneF ms i = s := ⟨_, rfl⟩
        rw [hs] at hup HS ⊢
        clear hx ho hs
        have HM := Lib.hid hm; have HR1 := Lib.hid r1; have HR2 := Lib.hid r2
        clear r1 r2 hm
        by_cases h1f : cntF x.t x.f = 1
        · have HONE : Hid (oneF x = 1) := by rw [Hid, oneF, if_pos h1f]
          have HF := Lib.hid h1f
          clear h1f
          go_wp2_with fail
          refine (l2Counts_any A A' (2 * e) d d' x.t x.f wr HR1.out HR2.out HM.out).mono ?_
          rintro r w2 ⟨v, rfl, o2, b2⟩
          rw [HF.out] at o2
          have HB2 := Lib.hid (hb.out.trans (b2.mono hb.out.size))
          obtain ⟨g2, c2, rfl, hc2, -⟩ : ∃ g2 c2, v = .slice (some ⟨g2, 0, none⟩) 3 c2 ∧ w2.cell? ⟨g2, 2, none⟩ = some (.int .i64 1) ∧ True := by
            obtain ⟨B, k, rfl, -, -⟩ := o2.form' (n := 3) rfl
            obtain ⟨g2, rfl, -, c1, -⟩ := o2.cellAt (n := 3) rfl (k := 2) (by omega)
            exact ⟨g2, k, rfl, c1, trivial⟩
          clear b2 s0 s1 o2
          go_wp2_with fail
          go_roundw
          case rel => exact ⟨i + 1, by go_num, by omega, by rw [HS.out, HONE.out], HB2⟩
          case measure => simp [intOf]; omega
        · have HONE : Hid (oneF x = 0) := by rw [Hid, oneF, if_neg h1f]
          have hne : (((cntF x.t x.f : Nat) : Int) == 1) = false := by simp; omega
          have HF := Lib.hid h1f
          clear h1f
          go_wp2_with fail
          refine (l2Counts_any A A' (2 * e) d d' x.t x.f wr HR1.out HR2.out HM.out).mono ?_
          rintro r w2 ⟨v, rfl, o2, b2⟩
          have HB2 := Lib.hid (hb.out.trans (b2.mono hb.out.size))
          obtain ⟨g2, c2, rfl, hc2, -⟩ : ∃ g2 c2, v = .slice (some ⟨g2, 0, none⟩) 3 c2 ∧ w2.cell? ⟨g2, 2, none⟩ = some (.int .i64 (cntF x.t x.f : Nat)) ∧ True := by
            obtain ⟨B, k, rfl, -, -⟩ := o2.form' (n := 3) rfl
            obtain ⟨g2, rfl, -, c1, -⟩ := o2.cellAt (n := 3) rfl (k := 2) (by omega)
            exact ⟨g2, k, rfl, c1, trivial⟩
          clear b2 s0 s1 o2
          go_wp2_with fail
          go_roundw
          case rel => exact ⟨i + 1, by go_num, by omega, by rw [HS.out, HONE.out, Int.add_zero], HB2⟩
          case measure => simp [intOf]; omega
      · obtain rfl : i = N := by omega
        have HRR : Hid (upTo oneF ms i = r) := by rw [Hid, ← HN.out, upTo_all]; exact HR.out
        go_wp2_with fail
        go_ret
        exact ⟨ret_int HRR.out, HB1.out.trans (hb.out.mono HB1.out.size)⟩

end Go.Proofs.Ytakckkmhhedfpaa

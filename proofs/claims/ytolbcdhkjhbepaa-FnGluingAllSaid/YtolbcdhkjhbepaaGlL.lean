/-
  The program's list of all gluings.
-/
import Derived.Test.YtolbcdhkjhbepaaGlK
import Derived.Deep.RegionHeldLaw
import Derived.Deep.AppendLies
namespace Go.Proofs.Ytolbcdhkjhbepaa
open Go.RowKit
set_option linter.unusedVariables false
attribute [local go_sem] Oper.semAt_some

theorem compU_mono (f : Nat) (p : List Int) (k : Nat) : ∀ d, (compU f p k).length ≤ (compU f p (k + d)).length
  | 0 => Nat.le_refl _
  | d + 1 => by rw [← Nat.add_assoc, compU_succ, List.length_append]; have := compU_mono f p k d; omega

/-- A function that is handed a gluing in the row at pb, and keeps what it keeps. -/
structure VisA (c1 : Nat) (B pb : Nat) (I : World → List (List Int) → Prop) : Prop where
  call : ∀ (w : World) (acc : List (List Int)) (xs : List Int) (n c : Nat), I w acc → Own w B (.slice (some ⟨pb, 0, none⟩) n c) xs → xs.length = n → IsG xs → (acc ++ [xs]).length ≤ 1000 →
    Calls Try.prog 42 #[.slice (some ⟨pb, 0, none⟩) n c, .pointer (some ⟨c1, 0, none⟩)] w fun e w' => e = .returned (.tuple #[]) ∧ I w' (acc ++ [xs]) ∧ Own w' B (.slice (some ⟨pb, 0, none⟩) n c) xs
  set : ∀ (w : World) (acc : List (List Int)) (k : Nat) (u : Value), I w acc → I (w.setCell ⟨pb, k, none⟩ u) acc

/-- What the program's filling of free sides keeps. -/
def RestAtA (c1 : Nat) (B pb : Nat) (I : World → List (List Int) → Prop) (f : Nat) (xs : List Int) : Prop :=
  ∀ (w : World) (acc : List (List Int)) (n c : Nat), I w acc → Own w B (.slice (some ⟨pb, 0, none⟩) n c) xs → xs.length = n → PG xs → 2 ≤ n → n ≤ 10 → (acc ++ comps f xs).length ≤ 1000 →
    Calls Try.prog 58 #[.slice (some ⟨pb, 0, none⟩) n c, .func (.func 42) #[] #[.pointer (some ⟨c1, 0, none⟩)]] w fun e w' => e = .returned (.tuple #[]) ∧ I w' (acc ++ comps f xs) ∧ Own w' B (.slice (some ⟨pb, 0, none⟩) n c) xs

set_option maxRecDepth 20000 in
set_option maxHeartbeats 3200000 in
theorem rest_stepA {c1 : Nat} {B pb : Nat} {I : World → List (List Int) → Prop} (hv : VisA c1 B pb I) (f : Nat) (xs : List Int)
    (hf : ff xs = xs.length ∨ ∃ f', f = f' + 1 ∧ ∀ k, ff xs < k → k < xs.length → gi xs k = -1 → RestAtA c1 B pb I f' (gluedL xs (ff xs) k)) : RestAtA c1 B pb I f xs := by
  intro w acc n c hI ho hxl hpg hn2 hn10 hlen
  have HLEN := Lib.hid hlen; clear hlen
  obtain ⟨s, hs⟩ : ∃ s, ff xs = s := ⟨_, rfl⟩
  by_cases hfull : s = n
  · have hce := comps_full (p := xs) (by rw [hs, hxl]; exact hfull) f
    have HCE := Lib.hid hce
    have hG := hpg.full (by rw [hs, hxl]; exact hfull) (by omega) (by omega)
    have hno : ¬ ff xs < n := by omega
    have HIX := Lib.hid (index_glu w (some ⟨pb, 0, none⟩) n c xs (ho.rd hxl) (by omega) (if_neg hno))
    have HC := Lib.hid (hv.call w acc xs n c hI ho hxl hG (by have := HLEN.out; rwa [HCE.out] at this))
    have HNO := Lib.hid hno
    clear hce hG hno hI ho hpg hf hv
    go_enter Try.func58, Try.ntmps58
    go_wp2_with fail
    refine HIX.out.mono ?_
    rintro e w1 ⟨rfl, rfl⟩
    go_wp2_with fail
    refine HC.out.mono ?_
    rintro e w2 ⟨rfl, hi2, ho2⟩
    have HI2 := Lib.hid hi2; have HO2 := Lib.hid ho2; clear hi2 ho2
    go_wp2_with fail
    exact bodyPost_ret (v := .tuple #[]) (by simp [results, Try.results58, go_sem]) rfl ⟨rfl, by rw [HCE.out]; exact HI2.out, HO2.out⟩
  · have hsn : s < n := by have := ff_le xs; omega
    have hfs : gi xs s = -1 := by rw [← hs]; exact ff_at (by omega)
    have hyes : ff xs < n := by omega
    have hff : ff xs < xs.length := by omega
    obtain ⟨f', rfl, hih⟩ := hf.resolve_left (by omega)
    have HIX := Lib.hid (index_glu w (some ⟨pb, 0, none⟩) n c xs (ho.rd hxl) (by omega) (r := (s : Int)) (by rw [if_pos hyes, hs]))
    have HCM := Lib.hid (comps_more f' hff)
    have HV := Lib.hid hv; have HIH := Lib.hid hih; have HI := Lib.hid hI; have HO := Lib.hid ho; have Hx := Lib.hid hxl; have HPG := Lib.hid hpg; have HS := Lib.hid hs; have HFS := Lib.hid hfs
    clear hff hyes hfs hih hI ho hxl hpg hv hfull hs hf
    go_enter Try.func58, Try.ntmps58
    go_wp2_with fail
    refine HIX.out.mono ?_
    rintro e w1 ⟨rfl, rfl⟩
    have hneg : decide ((s : Int) < 0) = false := by simp
    go_wp2_with fail
    go_loopw [5] (fun jv wr => ∃ j : Nat, s < j ∧ j ≤ n ∧ jv = .int .i64 j ∧ Hid (I wr (acc ++ compU f' xs j)) ∧ Hid (Own wr B (.slice (some ⟨pb, 0, none⟩) n c) xs)) (fun jv _ => n - (intOf jv).toNat)
    case atStart =>
      have e0 : compU f' xs (s + 1) = [] := compU_low f' xs _ (by rw [HS.out]; exact Nat.le_refl _)
      exact ⟨s + 1, by omega, by omega, by go_num, by rw [Hid, e0, List.append_nil]; exact HI.out, HO⟩
    case round =>
      obtain ⟨j, hsj, hjn, rfl, hi, ho⟩ := hrel
      by_cases hlt : j < n
      · obtain ⟨_, e1, -, hcj, hfj⟩ := ho.out.cellAt Hx.out hlt
        simp only [Option.some.injEq, Addr.mk.injEq, and_true] at e1
        subst e1
        by_cases hfree : gi xs j = -1
        · rw [hfree] at hcj
          obtain ⟨_, e1, -, hcs, hfs⟩ := ho.out.cellAt Hx.out hsn
          simp only [Option.some.injEq, Addr.mk.injEq, and_true] at e1
          subst e1
          have hst := ho.out.stored Hx.out s (j : Int)
          have hl2 : (xs.set s (j : Int)).length = n := by simpa using Hx.out
          obtain ⟨_, e1, -, hcj2, hfj2⟩ := hst.1.cellAt hl2 hlt
          simp only [Option.some.injEq, Addr.mk.injEq, and_true] at e1
          subst e1
          have hst2 := hst.1.stored hl2 j (s : Int)
          have HL3 : Hid ((gluedL xs s j).length = n) := (gluedL_len _ _ _).trans Hx.out
          have HO2 : Hid (Own ((wr.setCell ⟨pb, s, none⟩ (.int .i64 j)).setCell ⟨pb, j, none⟩ (.int .i64 s)) B (.slice (some ⟨pb, 0, none⟩) n c) (gluedL xs s j)) := hst2.1
          have HI2 : Hid (I ((wr.setCell ⟨pb, s, none⟩ (.int .i64 j)).setCell ⟨pb, j, none⟩ (.int .i64 s)) (acc ++ compU f' xs j)) := HV.out.set _ _ _ _ (HV.out.set _ _ _ _ hi.out)
          obtain ⟨W2, hW2⟩ : ∃ W, (wr.setCell ⟨pb, s, none⟩ (.int .i64 j)).setCell ⟨pb, j, none⟩ (.int .i64 s) = W := ⟨_, rfl⟩
          rw [hW2] at HO2 HI2
          have HW2 := Lib.hid hW2
          have HPG3 : Hid (PG (gluedL xs s j)) := HPG.out.glued (by rw [Hx.out]; exact hsn) (by rw [Hx.out]; exact hlt) (by omega) HFS.out hfree
          have HAA := HIH.out j (by rw [HS.out]; exact hsj) (by rw [Hx.out]; exact hlt) hfree
          rw [HS.out] at HAA
          have HA3 := Lib.hid HAA; clear HAA
          have HLN3 : Hid ((acc ++ compU f' xs j ++ comps f' (gluedL xs s j)).length ≤ 1000) := by
            have h1 := compU_yes (f := f') (p := xs) (k := j) (by rw [HS.out]; exact hsj) hfree
            rw [HS.out] at h1
            have h2 := compU_mono f' xs (j + 1) (n - (j + 1))
            rw [show j + 1 + (n - (j + 1)) = n by omega] at h2
            have h3 := HLEN.out
            rw [HCM.out, Hx.out] at h3
            rw [Hid, List.append_assoc, ← h1]
            simp only [List.length_append] at h3 ⊢
            omega
          have hsn' : (s : Int) < n := by omega
          have hjn' : (j : Int) < n := by omega
          clear hst hst2 hl2 hW2
          go_wp2_with fail
          rw [HW2.out]
          refine (HA3.out W2 _ n c HI2.out HO2.out HL3.out HPG3.out hn2 hn10 HLN3.out).mono ?_
          rintro e w3 ⟨rfl, hi3, ho3⟩
          obtain ⟨_, e1, -, hcs3, hfs3⟩ := ho3.cellAt HL3.out hsn
          simp only [Option.some.injEq, Addr.mk.injEq, and_true] at e1
          subst e1
          have hst := ho3.stored HL3.out s (-1)
          have hl2 : ((gluedL xs s j).set s (-1)).length = n := by simpa using HL3.out
          obtain ⟨_, e1, -, hcj3, hfj3⟩ := hst.1.cellAt hl2 hlt
          simp only [Option.some.injEq, Addr.mk.injEq, and_true] at e1
          subst e1
          have hst2 := hst.1.stored hl2 j (-1)
          have hback : ((gluedL xs s j).set s (-1)).set j (-1) = xs := by
            refine eq_of_gi (by rw [List.length_set, hl2, Hx.out]) (fun i hi => ?_)
            rw [gi_set _ _ _ _ (by rw [hl2]; exact hlt), gi_set _ _ _ _ (by rw [HL3.out]; exact hsn), gi_gluedL (by rw [Hx.out]; exact hsn) (by rw [Hx.out]; exact hlt)]
            by_cases a : i = j
            · rw [if_pos a, a, hfree]
            · rw [if_neg a]
              by_cases b : i = s
              · rw [if_pos b, b, HFS.out]
              · rw [if_neg b, if_neg a, if_neg b]
          rw [hback] at hst2
          have HO4 := Lib.hid hst2.1
          have hyes := compU_yes (f := f') (p := xs) (k := j) (by rw [HS.out]; exact hsj) hfree
          rw [HS.out] at hyes
          have HI4 : Hid (I ((w3.setCell ⟨pb, s, none⟩ (.int .i64 (-1))).setCell ⟨pb, j, none⟩ (.int .i64 (-1))) (acc ++ compU f' xs (j + 1))) := by
            rw [Hid, hyes, ← List.append_assoc]
            exact HV.out.set _ _ _ _ (HV.out.set _ _ _ _ hi3)
          clear hst hst2 hl2 hback hyes hi3 ho3
          go_wp2_with fail
          go_roundw
          case rel => exact ⟨j + 1, by omega, by omega, by go_num, HI4, HO4⟩
          case measure => simp [intOf]; omega
        · have hq : (gi xs j == (-1 : Int)) = false := by rw [beq_eq_false_iff_ne]; exact hfree
          have HST := Lib.hid (compU_no (f := f') hfree)
          go_wp2_with fail
          go_roundw
          case rel => exact ⟨j + 1, by omega, by omega, by go_num, by rw [Hid, HST.out]; exact hi.out, ho⟩
          case measure => simp [intOf]; omega
      · obtain rfl : j = n := by omega
        have hend : comps (f' + 1) xs = compU f' xs j := by rw [HCM.out, Hx.out]
        have HEN := Lib.hid hend
        clear hend hlt
        go_wp2_with fail
        exact bodyPost_end (v := .tuple #[]) (by simp [results, Try.results58, go_sem]) rfl ⟨rfl, by rw [HEN.out]; exact hi.out, ho.out⟩

theorem restAtA {c1 : Nat} {B pb : Nat} {I : World → List (List Int) → Prop} (hv : VisA c1 B pb I) : ∀ (f : Nat) (xs : List Int), PG xs → freeN xs ≤ 2 * f → RestAtA c1 B pb I f xs := by
  intro f
  induction f with
  | zero => intro xs _ h; exact rest_stepA hv 0 xs (.inl (freeN_zero (by omega)))
  | succ f ih =>
    intro xs hp h
    by_cases hf : ff xs = xs.length
    · exact rest_stepA hv _ xs (.inl hf)
    · have hlt : ff xs < xs.length := by have := ff_le xs; omega
      refine rest_stepA hv _ xs (.inr ⟨f, rfl, fun k h1 h2 h3 => ?_⟩)
      have := freeN_glued hlt h2 (by omega) (ff_at hlt) h3
      exact ih _ (hp.glued hlt h2 (by omega) (ff_at hlt) h3) (by omega)



/-- What the listing visitor keeps: its cell holds a list of all that it has come to. -/
structure KeepA (cb B : Nat) (W0 : World) (pb : Nat) (w : World) (acc : List (List Int)) : Prop where
  ex : ∃ v, w.heap[cb]? = some (.cells #[v] 24 (0, 0)) ∧ OwnSS w (pb + 1) w.heap.size v acc
  below : Below B W0 w
  size : B ≤ w.heap.size

theorem KeepA.set {cb B : Nat} {W0 : World} {pb : Nat} {w : World} {acc : List (List Int)} (h : KeepA cb B W0 pb w acc) (hc : cb < pb) (hB : B ≤ pb) (k : Nat) (u : Value) : KeepA cb B W0 pb (w.setCell ⟨pb, k, none⟩ u) acc := by
  obtain ⟨⟨v, h1, h2⟩, h3, h4⟩ := h
  have hs : (w.setCell ⟨pb, k, none⟩ u).heap.size = w.heap.size := by simp [World.setCell]
  refine ⟨⟨v, (Below.heap_setCell w ⟨pb, k, none⟩ u cb (by show cb ≠ pb; omega)).trans h1, ?_⟩, h3.setCell (p := ⟨pb, k, none⟩) hB u, by rw [hs]; exact h4⟩
  rw [hs]
  exact h2.far (grown_set w pb k u) (by omega)

set_option maxRecDepth 20000 in
set_option maxHeartbeats 3200000 in
theorem visA (cb B : Nat) (W0 : World) (pb : Nat) (hBc : B ≤ cb) (hcp : cb < pb) : VisA cb B pb (fun w acc => KeepA cb B W0 pb w acc) := by
  refine ⟨fun w acc xs n c hI ho hxl hG hlen => ?_, fun w acc k u hI => hI.set hcp (by omega) k u⟩
  obtain ⟨i1, hinf1, hy0, hy1, hy2⟩ := info_parts info_slice
  obtain ⟨⟨v0, hbx, hos⟩, hbel, hsz⟩ := hI
  have hpb : pb < w.heap.size := (ho.lt pb rfl).2
  have hn1 : 1 ≤ n := by have := hG.1; omega
  have hn10 : n ≤ 10 := by have := hG.2.1; omega
  obtain ⟨m, hm⟩ : ∃ m, acc.length = m := ⟨_, rfl⟩
  have hm1000 : m ≤ 1000 := by rw [List.length_append, hm] at hlen; simp at hlen; omega
  have HBX := Lib.hid hbx; have HOS := Lib.hid hos; have HBEL := Lib.hid hbel; have HSZ := Lib.hid hsz; have HO := Lib.hid ho; have Hx := Lib.hid hxl; have HM := Lib.hid hm
  have c0 := cell_of_block hbx
  have f0 : w.frozen? ⟨cb, 0, none⟩ = false := frozen_of_row w cb 0 _ _ hbx
  clear hbx hos hbel hsz ho hxl hG hlen hm
  go_enter Try.func42, Try.ntmps42
  go_wp2_with fail
  go_region_law (first
      | (refine step_append_lies (o := ⟨some 7, _, _, _, _, _⟩) (hgd := rfl) (s := .tmp 3) (x := .tmp 6) (t := 24) (ho := rfl) (base := pb + 1) (e := 35) (i := i1) (z := .slice none 0 0) (size := 1) (bytes := 24) (ht := Try.underlying24) (hi := hinf1) (hz := hy0) (hsize := hy1) (hby := hy2) (hzs := rfl) (hsz := by decide) (v := v0) (n := m) (xs := vs) (hs := by simp [Act.eval]) (hown := HVO.out.alloc _) (ad := ⟨w1.heap.size, 0, none⟩) (m := 1) (c := 1) (news := [.slice A1 n c1]) (hx := by simp [Act.eval]) (hl := rfl) (hnews := cell_one_new _ _ _) (h1 := by intro u hu; simp at hu; subst hu; rfl) (hm := by omega) (h63 := by unfold maxLen; omega) (hbytes := by omega) (hbase := by simp; omega) (H := w1.heap.size + 1) (hH := by simp) (h := ?_); intro g cap w2 hown hgrow hat hlt; have hbx2 := box_grown (box_alloc (o' := .cells #[.slice A1 n c1] 35) HBX1.out) (HVO.out.alloc _) hgrow (by decide); have HBX2 := Lib.hid hbx2; have c3' := cell_of_block hbx2; have f2 : w2.frozen? ⟨cb, 0, none⟩ = false := frozen_of_row w2 cb 0 _ _ hbx2; have HOW2 := Lib.hid hown; have HGR2 := Lib.hid hgrow; clear hown hgrow hat hbx2)
      | (go_simp; go_at_call 43; refine (clone_glu (some ⟨pb, 0, none⟩) n c xs _ ((HO.out.rd Hx.out).drewN _) (by omega) (by omega)).mono ?_; rintro e w1 ⟨v, rfl, o, bl⟩; have BL := Lib.hid (Below.of_drewN bl); obtain ⟨A1, c1, rfl, -, -⟩ := o.form' Hx.out; have HOC : Hid (Own w1 w.heap.size (.slice A1 n c1) xs) := o; have hbx1 := (BL.out.block cb (Array.getElem?_eq_some_iff.1 HBX.out).1).trans HBX.out; have HBX1 := Lib.hid hbx1; have c1' := cell_of_block hbx1; have c2' := cell_of_block (box_alloc (o' := .cells #[.slice A1 n c1] 35) hbx1); have hws := BL.out.size; obtain ⟨vs, hvl, hvo, hvr, hvd⟩ := HOS.out.below BL.out; rw [HM.out] at hvl hvo; have HVL := Lib.hid hvl; have HVO := Lib.hid hvo; have HVR := Lib.hid hvr; have HVD := Lib.hid hvd; clear bl o hbx1 hvl hvo hvr hvd; go_simp)
      | fail)
  all_goals
    have hs1 := BL.out.size
    have hs2 := HGR2.out.size
    rw [World.size_alloc] at hs2
    have hba : Below w1.heap.size w1 (w1.alloc (.cells #[.slice A1 n c1] 35)) := (Below.refl _ _).alloc (Nat.le_refl _) _
    have hoc := HOC.out.lt
    have hsn : OwnSS w2 (pb + 1) w2.heap.size (.slice (some ⟨g, 0, none⟩) (m + 1) cap) (acc ++ [xs]) :=
      OwnSS.snoc (hi := w.heap.size) (w := w1.alloc (.cells #[.slice A1 n c1] 35)) (v := v0) (u := .slice A1 n c1) (vs := vs) (HVL.out.trans HM.out.symm) (fun j hj => ⟨(HVR.out j hj).1.below hba, (HVR.out j hj).2⟩) HVD.out (by rw [HM.out]; exact HVO.out.alloc _) ((HOC.out.below hba).mono (by omega)) (fun k hk => by have := hoc k hk; omega) (by omega) (fun k hk => by have := hoc k hk; omega) (by rw [HM.out]; exact HOW2.out) HGR2.out
    have hB := HSZ.out
    have hb2 : Below B w w2 := ((BL.out.mono hB).alloc (by omega) _).grown HGR2.out (by simp; omega) (fun k hk => by have := World.ownsRow.lt HVO.out k hk; omega)
    have hop : Own w2 B (.slice (some ⟨pb, 0, none⟩) n c) xs := ((HO.out.below BL.out).below hba).grown HGR2.out (ne_of (m := pb + 1) (fun k hk => by simp [Value.ownBlock] at hk; omega) (fun k hk => (World.ownsRow.lt HVO.out k hk).1))
    have HB2 := Lib.hid (HBEL.out.trans hb2); have HOP := Lib.hid hop; have HSZ2 : Hid (B ≤ w2.heap.size) := by rw [Hid]; omega
    have HSN := Lib.hid hsn
    go_wp2_with fail
    refine bodyPost_end (v := .tuple #[]) (by simp [results, Try.results42, go_sem]) rfl ⟨rfl, ?_, ?_⟩
    · exact ⟨⟨_, set_box HBX2.out, by
        have e : (w2.setCell ⟨cb, 0, none⟩ (.slice (some ⟨g, 0, none⟩) (m + 1) cap)).heap.size = w2.heap.size := by simp [World.setCell]
        rw [e]; exact HSN.out.far (grown_set w2 cb 0 _) (by omega)⟩, HB2.out.setCell (p := ⟨cb, 0, none⟩) hBc _, by have := HSZ2.out; simpa [World.setCell] using this⟩
    · exact HOP.out.grown (grown_set w2 cb 0 _) (.inr (fun e => by simp [Value.ownBlock] at e; omega))

end Go.Proofs.Ytolbcdhkjhbepaa

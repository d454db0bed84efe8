/-
  slices.Repeat, slices.Clone and slices.Index at a gluing.
-/
import Derived.Test.YtolbcdhkjhbepaaCopy
import Derived.Test.YtolbcdhkjhbepaaGluE
namespace Go.Proofs.Ytolbcdhkjhbepaa
open Go.RowKit

set_option maxRecDepth 100000 in
set_option maxHeartbeats 800000 in
theorem repeat_glu (A : Option Addr) (c n : Nat) (v : Int) (w : World) (h : Rd w A 1 [v]) (h1 : 1 ≤ n) (h12 : n ≤ 12) :
    Calls Try.prog 59 #[.slice A 1 c, .int .i64 n] w fun e w' => ∃ v', e = .returned v' ∧ Own w' w.heap.size v' (List.replicate n v) ∧ Below w.heap.size w w' := by
  obtain ⟨i0, hinf, hz0, hz1, hz2⟩ := info_parts info_int
  obtain ⟨ad, rfl, hc⟩ := h.at_ (k := 0) (by omega)
  have H := Lib.hid h; clear h
  have hmul := Try.bits_Mul 1 n (by omega) (by omega) w
  rw [Nat.one_mul, Nat.div_eq_of_lt (by omega), Nat.mod_eq_of_lt (by omega)] at hmul
  have HM := Lib.hid hmul; clear hmul
  go_enter Try.func59, Try.ntmps59
  go_wp2_with fail
  refine HM.out.mono ?_
  rintro e w1 ⟨rfl, rfl⟩
  have hc0 := Lib.hid hc; clear hc
  have HMIN := Lib.hid (show Nat.min 1 n = 1 from Nat.min_eq_left h1)
  have HZ := Lib.hid (And.intro hz1 hz2)
  go_wp2_with (first
    | (at_make; refine wpList_make_full _ rfl _ _ 50 rfl w1.heap.size 3 i0 (.int .i64 0) 1 Try.underlying50 hinf hz0 hz1 .i64 .i64 _ _ n rfl rfl rfl rfl (by rw [hz2]; omega) (by unfold maxLen; omega) (Nat.le_refl _) ?_; intro w2 hown2 hgrow2; have HB2 := Lib.hid (below_of_grown hgrow2 (Nat.le_refl _) (fun k hk => by cases hk)); have HG2 := Lib.hid ((Own.made hown2).full (by simp)); have HC2 := Lib.hid (one_cell ((HB2.out.cell (p := ad.add 0) (by rw [add_block]; exact Rd.lt H.out ad rfl (by omega))).trans hc0.out)); clear hown2 hgrow2)
    | (refine wpList_copy_splice (o := ⟨some 33, _, _, _, _, _⟩) rfl (.tmp 31) (.tmp 32) 50 50 rfl 3 Try.underlying50 info_int_size (some ⟨w1.heap.size, 0, none⟩) (some ad) n n 1 c rfl rfl w1.heap.size 0 (ints (List.replicate n 0)) 3 HG2.out [.int .i64 (gi [v] 0)] HMIN.out.symm (fun _ => ⟨rfl, ad, rfl, HC2.out⟩) (by rw [ints_len]; simp; omega) (by intro u hu; simp at hu; subst hu; rfl) w1.heap.size w1 HB2.out (Nat.le_refl _) ?_; intro w3 HG3 HB3))
  have HG3' : Hid (w3.heap[w1.heap.size]? = some (.cells (ints (splice (List.replicate n 0) 0 [v])).toArray 3 (0, 0))) := by
    have := HG3.out
    rw [show ([Value.int .i64 (gi [v] 0)] : List Value) = ints [v] from rfl, splice_ints] at this
    exact this
  have HB3' := Lib.hid HB3
  clear HG3 HB3 HC2 hc0 HG2 HB2
  have hw1 := HB3'.out.size
  go_loopw [8] (fun i wr => ∃ (k : Nat) (zs : List Int), 1 ≤ k ∧ k ≤ n ∧ i = .int .i64 k ∧ Hid (zs.length = n) ∧ Hid (wr.heap[w1.heap.size]? = some (.cells (ints zs).toArray 3 (0, 0))) ∧ Hid (Below w1.heap.size w1 wr) ∧ Hid (∀ j, j < k → gi zs j = v)) (fun i _ => n - (intOf i).toNat)
  case atStart => exact ⟨1, _, Nat.le_refl _, h1, rfl, by rw [Hid, length_splice _ _ _ (by simp; omega)]; simp, HG3', HB3', fun j hj => by
    rw [gi_splice (by simp; omega), if_neg (by omega), if_pos (by simp; omega)]
    obtain rfl : j = 0 := by omega
    rfl⟩
  case round =>
    obtain ⟨k, zs, hk1, hk, rfl, hz, hh, hb, hall⟩ := hrel
    by_cases hlt : k < n
    · obtain ⟨m, hm⟩ : ∃ m, Nat.min k (n - k) = m := ⟨_, rfl⟩
      have hm1 : 1 ≤ m := by rw [← hm]; simp only [Nat.min_def]; split <;> omega
      have hm2 : k + m ≤ n := by rw [← hm]; simp only [Nat.min_def]; split <;> omega
      have hm3 : m ≤ k := by rw [← hm]; simp only [Nat.min_def]; split <;> omega
      have HMM := Lib.hid hm; clear hm
      obtain ⟨cs, hcs⟩ : ∃ cs, ints (List.replicate m v) = cs := ⟨_, rfl⟩
      have hcl : cs.length = m := by rw [← hcs]; simp [ints_len]
      have HLEN : Hid (cs.length = Nat.min k (n - k)) := by rw [Hid, HMM.out, hcl]
      have HPOS : Hid (∀ wx : World, wx.heap = wr.heap → 0 < cs.length → (if n = k then some (⟨w1.heap.size, 0, none⟩ : Addr) else some ⟨w1.heap.size, k, none⟩) = some ⟨w1.heap.size, k, none⟩ ∧ ∃ ad, some (⟨w1.heap.size, 0, none⟩ : Addr) = some ad ∧ ∀ j u, cs[j]? = some u → wx.cell? (ad.add j) = some u) := by
        intro wx hwx _
        refine ⟨by rw [if_neg (by omega)], _, rfl, fun j u hj => ?_⟩
        have hjm : j < m := by
          have := (List.getElem?_eq_some_iff.1 hj).1
          omega
        rw [← hcs, ints_get (by simpa using hjm), gi_replicate hjm] at hj
        rw [show (⟨w1.heap.size, 0, none⟩ : Addr).add j = ⟨w1.heap.size, j, none⟩ from by unfold Addr.add; split <;> simp_all]
        have hh2 : wx.heap[w1.heap.size]? = some (.cells (ints zs).toArray 3 (0, 0)) := by rw [hwx]; exact hh.out
        rw [cell_of_row wx w1.heap.size j _ _ (0, 0) hh2]
        have h3 : (ints zs)[j]? = some (.int .i64 (gi zs j)) := ints_get (by rw [hz.out]; omega)
        rw [hall.out j (by omega)] at h3
        rw [← hj]; simpa using h3
      have HFIT : Hid (k + cs.length ≤ (ints zs).length) := by rw [Hid, ints_len, hz.out, hcl]; exact hm2
      have HONE : Hid (∀ u ∈ cs, u.oneCell' = true) := by
        intro u hu
        rw [← hcs] at hu
        simp [ints] at hu
        rw [hu.2]; rfl
      have HCS := Lib.hid hcs; have HCL := Lib.hid hcl
      have hcl1 : cs.length ≤ 12 := by omega
      have hsum : IntKind.i64.wrap ((k : Int) + (cs.length : Int)) = ((k + m : Nat) : Int) := by rw [IntWalk.i64_in _ (by omega), hcl]; omega
      clear hcs hcl
      go_wp2
      go_region_law (refine step_copy_splice (o := ⟨some 45, _, _, _, _, _⟩) rfl (.tmp 41) (.tmp 44) 50 50 rfl 3 Try.underlying50 info_int_size (if n = k then some ⟨w1.heap.size, 0, none⟩ else some ⟨w1.heap.size, k, none⟩) (some ⟨w1.heap.size, 0, none⟩) (n - k) (n - k) k n (by simp [Act.eval, Act.put]) (by simp [Act.eval, Act.put]) w1.heap.size k (ints zs) 3 hh.out cs HLEN.out (HPOS.out _ rfl) HFIT.out HONE.out w1.heap.size w1 (below_drewN hb.out 1) (Nat.le_refl _) ?_; intro w4 HG4 HB4)
      have HB4' := Lib.hid HB4; clear HB4
      go_wp2
      go_roundw
      case rel =>
        have h4 : w4.heap[w1.heap.size]? = some (.cells (ints (splice zs k (List.replicate m v))).toArray 3 (0, 0)) := by
          have := HG4.out
          rw [← HCS.out, splice_ints] at this
          exact this
        have hcl := HCL.out
        refine ⟨k + m, by omega, hm2, by omega, _, ?_, h4, fun j hj => ?_⟩
        · rw [Hid, length_splice _ _ _ (by rw [hz.out]; simp; omega)]; exact hz.out
        · rw [gi_splice (by rw [hz.out]; simp; omega)]
          split
          · exact hall.out j (by assumption)
          · rw [if_pos (by simp; omega)]
            exact gi_replicate (by omega)
      case measure => have := HCL.out; simp [intOf]; omega
    · have hkn : k = n := by omega
      have HK := Lib.hid hkn; clear hkn
      go_wp2
      go_ret
      refine ⟨_, rfl, ?_, hb.out⟩
      have e : zs = List.replicate n v := eq_of_gi (by rw [hz.out]; simp) (fun j hj => by rw [hz.out] at hj; rw [hall.out j (by rw [HK.out]; exact hj), gi_replicate hj])
      rw [← e]
      exact Own.of_heap hh.out hz.out (Nat.le_refl _) (by unfold maxLen; omega)


set_option maxRecDepth 100000 in
set_option maxHeartbeats 800000 in
theorem clone_glu (A : Option Addr) (n c : Nat) (xs : List Int) (w : World) (h : Rd w A n xs) (h1 : 1 ≤ n) (hn : n ≤ 1048576) :
    Calls Try.prog 43 #[.slice A n c] w fun e w' => ∃ v, e = .returned v ∧ Own w' w.heap.size v xs ∧ Below w.heap.size w w' := by
  obtain ⟨i0, hinf, hz0, hz1, hz2⟩ := info_parts info_int
  obtain ⟨ad, rfl, -⟩ := h.at_ (k := 0) (by omega)
  have hb0 : Below w.heap.size w (w.alloc (.cells #[] 3)) := (Below.refl _ _).alloc (Nat.le_refl _) _
  have HNW := Lib.hid (h.below hb0).news
  have HLN : Hid ((ints xs).length = n * 1) := by rw [Hid, ints_len, h.1, Nat.mul_one]
  have HE : Hid (Own (w.alloc (.cells #[] 3)) w.heap.size (.slice (some ⟨w.heap.size, 0, none⟩) 0 0) []) := Own.empty (Nat.le_refl _)
  have HB0 := Lib.hid hb0; have Hx := Lib.hid h.1; clear hb0 h
  have hq := Lib.run_eql_slice_some_nil w ad n c Try.underlying50
  go_enter Try.func43, Try.ntmps43
  go_wp2_with (at_builtin; refine wpList_append_own _ rfl _ _ 50 rfl w.heap.size 3 i0 (.int .i64 0) 1 8 Try.underlying50 hinf hz0 hz1 hz2 rfl (by decide) _ 0 [] rfl HE.out ad n c (ints xs) rfl HLN.out HNW.out ints_one (by unfold maxLen; omega) (by omega) (by simp) ?_; intro v1 w1 hown1 hgrow1 _; have HO := Lib.hid hown1; have HG := Lib.hid hgrow1; clear hown1 hgrow1)
  go_ret
  refine ⟨_, rfl, ?_, HB0.out.grown HG.out (by simp) (fun k hk => (HE.out.lt k hk).1)⟩
  have := HO.out
  unfold Own
  rw [Hx.out]
  simpa using this


set_option maxHeartbeats 800000 in
theorem index_glu (w : World) (A : Option Addr) (n c : Nat) (xs : List Int) (h : Rd w A n xs) (hn : n ≤ 1048576) {r : Int} (hr : (if ff xs < n then (ff xs : Int) else -1) = r) :
    Calls Try.prog 64 #[.slice A n c, .int .i64 (-1)] w fun e w' => e = .returned (.int .i64 r) ∧ w' = w := by
  have HR := Lib.hid hr; clear hr
  have H := Lib.hid h; have Hx := Lib.hid h.1; clear h
  go_enter Try.func64, Try.ntmps64
  go_wp2_with fail
  go_loop [8] (fun iv => ∃ k : Nat, k ≤ n ∧ iv = .int .i64 k ∧ Hid (∀ j, j < k → gi xs j ≠ -1)) (fun iv => n - (intOf iv).toNat)
  case atStart => exact ⟨0, Nat.zero_le _, rfl, fun j hj => absurd hj (by omega)⟩
  case round =>
    obtain ⟨k, hk, rfl, hall⟩ := hrel
    by_cases hlt : k < n
    · obtain ⟨ad, rfl, hc⟩ := H.out.at_ hlt
      by_cases he : gi xs k = -1
      · have hq : ((-1 : Int) == gi xs k) = true := by rw [he]; rfl
        have hff : ff xs = k := ff_eq (by rw [Hx.out]; omega) (fun j hj => hall.out j hj) (fun _ => he)
        have HFF := Lib.hid hff
        clear hff
        rw [he] at hc
        clear hq
        go_wp2_with fail
        go_ret
        exact ⟨by have := HR.out; rw [HFF.out, if_pos hlt] at this; rw [← this]; rfl, rfl⟩
      · have hq : ((-1 : Int) == gi xs k) = false := by rw [beq_eq_false_iff_ne]; exact fun e => he e.symm
        have HE := Lib.hid he; clear he
        go_wp2_with fail
        go_round
        case rel => exact ⟨k + 1, by omega, by go_num, fun j hj => by
            by_cases e : j = k
            · rw [e]; exact HE.out
            · exact hall.out j (by omega)⟩
        case measure => simp [intOf]; omega
    · obtain rfl : k = n := by omega
      have hff : ¬ ff xs < k := by
        intro h
        exact hall.out _ h (ff_at (by rw [Hx.out]; exact h))
      have HFF := Lib.hid hff
      clear hff hlt
      go_wp2_with fail
      go_ret
      exact ⟨by have := HR.out; rw [if_neg HFF.out] at this; rw [← this]; rfl, rfl⟩

/-- A function that is handed a gluing in the row at pb, and keeps what it keeps. -/
structure Vis1 (c1 : Nat) (B pb : Nat) (I : World → List (List Int) → Prop) : Prop where
  call : ∀ (w : World) (acc : List (List Int)) (xs : List Int) (n c : Nat), I w acc → Own w B (.slice (some ⟨pb, 0, none⟩) n c) xs → xs.length = n → IsG xs →
    Calls Try.prog 42 #[.slice (some ⟨pb, 0, none⟩) n c, .pointer (some ⟨c1, 0, none⟩)] w fun e w' => e = .returned (.tuple #[]) ∧ I w' (acc ++ [xs]) ∧ Own w' B (.slice (some ⟨pb, 0, none⟩) n c) xs
  set : ∀ (w : World) (acc : List (List Int)) (k : Nat) (u : Value), I w acc → I (w.setCell ⟨pb, k, none⟩ u) acc

/-- What the program's filling of free sides keeps. -/
def RestAt1 (c1 : Nat) (B pb : Nat) (I : World → List (List Int) → Prop) (f : Nat) (xs : List Int) : Prop :=
  ∀ (w : World) (acc : List (List Int)) (n c : Nat), I w acc → Own w B (.slice (some ⟨pb, 0, none⟩) n c) xs → xs.length = n → PG xs → 2 ≤ n → n ≤ 10 →
    Calls Try.prog 58 #[.slice (some ⟨pb, 0, none⟩) n c, .func (.func 42) #[] #[.pointer (some ⟨c1, 0, none⟩)]] w fun e w' => e = .returned (.tuple #[]) ∧ I w' (acc ++ comps f xs) ∧ Own w' B (.slice (some ⟨pb, 0, none⟩) n c) xs

set_option maxRecDepth 20000 in
set_option maxHeartbeats 3200000 in
theorem rest_step1 {c1 : Nat} {B pb : Nat} {I : World → List (List Int) → Prop} (hv : Vis1 c1 B pb I) (f : Nat) (xs : List Int)
    (hf : ff xs = xs.length ∨ ∃ f', f = f' + 1 ∧ ∀ k, ff xs < k → k < xs.length → gi xs k = -1 → RestAt1 c1 B pb I f' (gluedL xs (ff xs) k)) : RestAt1 c1 B pb I f xs := by
  intro w acc n c hI ho hxl hpg hn2 hn10
  obtain ⟨s, hs⟩ : ∃ s, ff xs = s := ⟨_, rfl⟩
  by_cases hfull : s = n
  · have hce := comps_full (p := xs) (by rw [hs, hxl]; exact hfull) f
    have HCE := Lib.hid hce
    have hG := hpg.full (by rw [hs, hxl]; exact hfull) (by omega) (by omega)
    have hno : ¬ ff xs < n := by omega
    have HIX := Lib.hid (index_glu w (some ⟨pb, 0, none⟩) n c xs (ho.rd hxl) (by omega) (if_neg hno))
    have HC := Lib.hid (hv.call w acc xs n c hI ho hxl hG)
    have HNO := Lib.hid hno
    clear hce hG hno hI ho hpg hf hv
    go_enter Try.func58, Try.ntmps58
    go_wp2_with fail
    refine HIX.out.mono ?_
    rintro e w1 ⟨rfl, rfl⟩
    go_wp2_with fail
    refine HC.out.mono ?_
    rintro e w2 ⟨rfl, hi2, ho2⟩
    have HI2 := Lib.hid hi2; have HO2 := Lib.hid ho2; clear hi2 ho2
    go_wp2_with fail
    exact bodyPost_ret (v := .tuple #[]) (by simp [results, Try.results58, go_sem]) rfl ⟨rfl, by rw [HCE.out]; exact HI2.out, HO2.out⟩
  · have hsn : s < n := by have := ff_le xs; omega
    have hfs : gi xs s = -1 := by rw [← hs]; exact ff_at (by omega)
    have hyes : ff xs < n := by omega
    have hff : ff xs < xs.length := by omega
    obtain ⟨f', rfl, hih⟩ := hf.resolve_left (by omega)
    have HIX := Lib.hid (index_glu w (some ⟨pb, 0, none⟩) n c xs (ho.rd hxl) (by omega) (r := (s : Int)) (by rw [if_pos hyes, hs]))
    have HCM := Lib.hid (comps_more f' hff)
    have HV := Lib.hid hv; have HIH := Lib.hid hih; have HI := Lib.hid hI; have HO := Lib.hid ho; have Hx := Lib.hid hxl; have HPG := Lib.hid hpg; have HS := Lib.hid hs; have HFS := Lib.hid hfs
    clear hff hyes hfs hih hI ho hxl hpg hv hfull hs hf
    go_enter Try.func58, Try.ntmps58
    go_wp2_with fail
    refine HIX.out.mono ?_
    rintro e w1 ⟨rfl, rfl⟩
    have hneg : decide ((s : Int) < 0) = false := by simp
    go_wp2_with fail
    go_loopw [5] (fun jv wr => ∃ j : Nat, s < j ∧ j ≤ n ∧ jv = .int .i64 j ∧ Hid (I wr (acc ++ compU f' xs j)) ∧ Hid (Own wr B (.slice (some ⟨pb, 0, none⟩) n c) xs)) (fun jv _ => n - (intOf jv).toNat)
    case atStart =>
      have e0 : compU f' xs (s + 1) = [] := compU_low f' xs _ (by rw [HS.out]; exact Nat.le_refl _)
      exact ⟨s + 1, by omega, by omega, by go_num, by rw [Hid, e0, List.append_nil]; exact HI.out, HO⟩
    case round =>
      obtain ⟨j, hsj, hjn, rfl, hi, ho⟩ := hrel
      by_cases hlt : j < n
      · obtain ⟨_, e1, -, hcj, hfj⟩ := ho.out.cellAt Hx.out hlt
        simp only [Option.some.injEq, Addr.mk.injEq, and_true] at e1
        subst e1
        by_cases hfree : gi xs j = -1
        · rw [hfree] at hcj
          obtain ⟨_, e1, -, hcs, hfs⟩ := ho.out.cellAt Hx.out hsn
          simp only [Option.some.injEq, Addr.mk.injEq, and_true] at e1
          subst e1
          have hst := ho.out.stored Hx.out s (j : Int)
          have hl2 : (xs.set s (j : Int)).length = n := by simpa using Hx.out
          obtain ⟨_, e1, -, hcj2, hfj2⟩ := hst.1.cellAt hl2 hlt
          simp only [Option.some.injEq, Addr.mk.injEq, and_true] at e1
          subst e1
          have hst2 := hst.1.stored hl2 j (s : Int)
          have HL3 : Hid ((gluedL xs s j).length = n) := (gluedL_len _ _ _).trans Hx.out
          have HO2 : Hid (Own ((wr.setCell ⟨pb, s, none⟩ (.int .i64 j)).setCell ⟨pb, j, none⟩ (.int .i64 s)) B (.slice (some ⟨pb, 0, none⟩) n c) (gluedL xs s j)) := hst2.1
          have HI2 : Hid (I ((wr.setCell ⟨pb, s, none⟩ (.int .i64 j)).setCell ⟨pb, j, none⟩ (.int .i64 s)) (acc ++ compU f' xs j)) := HV.out.set _ _ _ _ (HV.out.set _ _ _ _ hi.out)
          obtain ⟨W2, hW2⟩ : ∃ W, (wr.setCell ⟨pb, s, none⟩ (.int .i64 j)).setCell ⟨pb, j, none⟩ (.int .i64 s) = W := ⟨_, rfl⟩
          rw [hW2] at HO2 HI2
          have HW2 := Lib.hid hW2
          have HPG3 : Hid (PG (gluedL xs s j)) := HPG.out.glued (by rw [Hx.out]; exact hsn) (by rw [Hx.out]; exact hlt) (by omega) HFS.out hfree
          have HAA := HIH.out j (by rw [HS.out]; exact hsj) (by rw [Hx.out]; exact hlt) hfree
          rw [HS.out] at HAA
          have HA3 := Lib.hid HAA; clear HAA
          have hsn' : (s : Int) < n := by omega
          have hjn' : (j : Int) < n := by omega
          clear hst hst2 hl2 hW2
          go_wp2_with fail
          rw [HW2.out]
          refine (HA3.out W2 _ n c HI2.out HO2.out HL3.out HPG3.out hn2 hn10).mono ?_
          rintro e w3 ⟨rfl, hi3, ho3⟩
          obtain ⟨_, e1, -, hcs3, hfs3⟩ := ho3.cellAt HL3.out hsn
          simp only [Option.some.injEq, Addr.mk.injEq, and_true] at e1
          subst e1
          have hst := ho3.stored HL3.out s (-1)
          have hl2 : ((gluedL xs s j).set s (-1)).length = n := by simpa using HL3.out
          obtain ⟨_, e1, -, hcj3, hfj3⟩ := hst.1.cellAt hl2 hlt
          simp only [Option.some.injEq, Addr.mk.injEq, and_true] at e1
          subst e1
          have hst2 := hst.1.stored hl2 j (-1)
          have hback : ((gluedL xs s j).set s (-1)).set j (-1) = xs := by
            refine eq_of_gi (by rw [List.length_set, hl2, Hx.out]) (fun i hi => ?_)
            rw [gi_set _ _ _ _ (by rw [hl2]; exact hlt), gi_set _ _ _ _ (by rw [HL3.out]; exact hsn), gi_gluedL (by rw [Hx.out]; exact hsn) (by rw [Hx.out]; exact hlt)]
            by_cases a : i = j
            · rw [if_pos a, a, hfree]
            · rw [if_neg a]
              by_cases b : i = s
              · rw [if_pos b, b, HFS.out]
              · rw [if_neg b, if_neg a, if_neg b]
          rw [hback] at hst2
          have HO4 := Lib.hid hst2.1
          have hyes := compU_yes (f := f') (p := xs) (k := j) (by rw [HS.out]; exact hsj) hfree
          rw [HS.out] at hyes
          have HI4 : Hid (I ((w3.setCell ⟨pb, s, none⟩ (.int .i64 (-1))).setCell ⟨pb, j, none⟩ (.int .i64 (-1))) (acc ++ compU f' xs (j + 1))) := by
            rw [Hid, hyes, ← List.append_assoc]
            exact HV.out.set _ _ _ _ (HV.out.set _ _ _ _ hi3)
          clear hst hst2 hl2 hback hyes hi3 ho3
          go_wp2_with fail
          go_roundw
          case rel => exact ⟨j + 1, by omega, by omega, by go_num, HI4, HO4⟩
          case measure => simp [intOf]; omega
        · have hq : (gi xs j == (-1 : Int)) = false := by rw [beq_eq_false_iff_ne]; exact hfree
          have HST := Lib.hid (compU_no (f := f') hfree)
          go_wp2_with fail
          go_roundw
          case rel => exact ⟨j + 1, by omega, by omega, by go_num, by rw [Hid, HST.out]; exact hi.out, ho⟩
          case measure => simp [intOf]; omega
      · obtain rfl : j = n := by omega
        have hend : comps (f' + 1) xs = compU f' xs j := by rw [HCM.out, Hx.out]
        have HEN := Lib.hid hend
        clear hend hlt
        go_wp2_with fail
        exact bodyPost_end (v := .tuple #[]) (by simp [results, Try.results58, go_sem]) rfl ⟨rfl, by rw [HEN.out]; exact hi.out, ho.out⟩

theorem restAt1 {c1 : Nat} {B pb : Nat} {I : World → List (List Int) → Prop} (hv : Vis1 c1 B pb I) : ∀ (f : Nat) (xs : List Int), PG xs → freeN xs ≤ 2 * f → RestAt1 c1 B pb I f xs := by
  intro f
  induction f with
  | zero => intro xs _ h; exact rest_step1 hv 0 xs (.inl (freeN_zero (by omega)))
  | succ f ih =>
    intro xs hp h
    by_cases hf : ff xs = xs.length
    · exact rest_step1 hv _ xs (.inl hf)
    · have hlt : ff xs < xs.length := by have := ff_le xs; omega
      refine rest_step1 hv _ xs (.inr ⟨f, rfl, fun k h1 h2 h3 => ?_⟩)
      have := freeN_glued hlt h2 (by omega) (ff_at hlt) h3
      exact ih _ (hp.glued hlt h2 (by omega) (ff_at hlt) h3) (by omega)


/-- A function that is handed a gluing in the row at pb, and keeps what it keeps. -/
structure Vis2 (c1 c2 : Nat) (B pb : Nat) (I : World → List (List Int) → Prop) : Prop where
  call : ∀ (w : World) (acc : List (List Int)) (xs : List Int) (n c : Nat), I w acc → Own w B (.slice (some ⟨pb, 0, none⟩) n c) xs → xs.length = n → IsG xs →
    Calls Try.prog 40 #[.slice (some ⟨pb, 0, none⟩) n c, .pointer (some ⟨c1, 0, none⟩), .pointer (some ⟨c2, 0, none⟩)] w fun e w' => e = .returned (.tuple #[]) ∧ I w' (acc ++ [xs]) ∧ Own w' B (.slice (some ⟨pb, 0, none⟩) n c) xs
  set : ∀ (w : World) (acc : List (List Int)) (k : Nat) (u : Value), I w acc → I (w.setCell ⟨pb, k, none⟩ u) acc

/-- What the program's filling of free sides keeps. -/
def RestAt2 (c1 c2 : Nat) (B pb : Nat) (I : World → List (List Int) → Prop) (f : Nat) (xs : List Int) : Prop :=
  ∀ (w : World) (acc : List (List Int)) (n c : Nat), I w acc → Own w B (.slice (some ⟨pb, 0, none⟩) n c) xs → xs.length = n → PG xs → 2 ≤ n → n ≤ 10 →
    Calls Try.prog 58 #[.slice (some ⟨pb, 0, none⟩) n c, .func (.func 40) #[] #[.pointer (some ⟨c1, 0, none⟩), .pointer (some ⟨c2, 0, none⟩)]] w fun e w' => e = .returned (.tuple #[]) ∧ I w' (acc ++ comps f xs) ∧ Own w' B (.slice (some ⟨pb, 0, none⟩) n c) xs

set_option maxRecDepth 20000 in
set_option maxHeartbeats 3200000 in
theorem rest_step2 {c1 c2 : Nat} {B pb : Nat} {I : World → List (List Int) → Prop} (hv : Vis2 c1 c2 B pb I) (f : Nat) (xs : List Int)
    (hf : ff xs = xs.length ∨ ∃ f', f = f' + 1 ∧ ∀ k, ff xs < k → k < xs.length → gi xs k = -1 → RestAt2 c1 c2 B pb I f' (gluedL xs (ff xs) k)) : RestAt2 c1 c2 B pb I f xs := by
  intro w acc n c hI ho hxl hpg hn2 hn10
  obtain ⟨s, hs⟩ : ∃ s, ff xs = s := ⟨_, rfl⟩
  by_cases hfull : s = n
  · have hce := comps_full (p := xs) (by rw [hs, hxl]; exact hfull) f
    have HCE := Lib.hid hce
    have hG := hpg.full (by rw [hs, hxl]; exact hfull) (by omega) (by omega)
    have hno : ¬ ff xs < n := by omega
    have HIX := Lib.hid (index_glu w (some ⟨pb, 0, none⟩) n c xs (ho.rd hxl) (by omega) (if_neg hno))
    have HC := Lib.hid (hv.call w acc xs n c hI ho hxl hG)
    have HNO := Lib.hid hno
    clear hce hG hno hI ho hpg hf hv
    go_enter Try.func58, Try.ntmps58
    go_wp2_with fail
    refine HIX.out.mono ?_
    rintro e w1 ⟨rfl, rfl⟩
    go_wp2_with fail
    refine HC.out.mono ?_
    rintro e w2 ⟨rfl, hi2, ho2⟩
    have HI2 := Lib.hid hi2; have HO2 := Lib.hid ho2; clear hi2 ho2
    go_wp2_with fail
    exact bodyPost_ret (v := .tuple #[]) (by simp [results, Try.results58, go_sem]) rfl ⟨rfl, by rw [HCE.out]; exact HI2.out, HO2.out⟩
  · have hsn : s < n := by have := ff_le xs; omega
    have hfs : gi xs s = -1 := by rw [← hs]; exact ff_at (by omega)
    have hyes : ff xs < n := by omega
    have hff : ff xs < xs.length := by omega
    obtain ⟨f', rfl, hih⟩ := hf.resolve_left (by omega)
    have HIX := Lib.hid (index_glu w (some ⟨pb, 0, none⟩) n c xs (ho.rd hxl) (by omega) (r := (s : Int)) (by rw [if_pos hyes, hs]))
    have HCM := Lib.hid (comps_more f' hff)
    have HV := Lib.hid hv; have HIH := Lib.hid hih; have HI := Lib.hid hI; have HO := Lib.hid ho; have Hx := Lib.hid hxl; have HPG := Lib.hid hpg; have HS := Lib.hid hs; have HFS := Lib.hid hfs
    clear hff hyes hfs hih hI ho hxl hpg hv hfull hs hf
    go_enter Try.func58, Try.ntmps58
    go_wp2_with fail
    refine HIX.out.mono ?_
    rintro e w1 ⟨rfl, rfl⟩
    have hneg : decide ((s : Int) < 0) = false := by simp
    go_wp2_with fail
    go_loopw [5] (fun jv wr => ∃ j : Nat, s < j ∧ j ≤ n ∧ jv = .int .i64 j ∧ Hid (I wr (acc ++ compU f' xs j)) ∧ Hid (Own wr B (.slice (some ⟨pb, 0, none⟩) n c) xs)) (fun jv _ => n - (intOf jv).toNat)
    case atStart =>
      have e0 : compU f' xs (s + 1) = [] := compU_low f' xs _ (by rw [HS.out]; exact Nat.le_refl _)
      exact ⟨s + 1, by omega, by omega, by go_num, by rw [Hid, e0, List.append_nil]; exact HI.out, HO⟩
    case round =>
      obtain ⟨j, hsj, hjn, rfl, hi, ho⟩ := hrel
      by_cases hlt : j < n
      · obtain ⟨_, e1, -, hcj, hfj⟩ := ho.out.cellAt Hx.out hlt
        simp only [Option.some.injEq, Addr.mk.injEq, and_true] at e1
        subst e1
        by_cases hfree : gi xs j = -1
        · rw [hfree] at hcj
          obtain ⟨_, e1, -, hcs, hfs⟩ := ho.out.cellAt Hx.out hsn
          simp only [Option.some.injEq, Addr.mk.injEq, and_true] at e1
          subst e1
          have hst := ho.out.stored Hx.out s (j : Int)
          have hl2 : (xs.set s (j : Int)).length = n := by simpa using Hx.out
          obtain ⟨_, e1, -, hcj2, hfj2⟩ := hst.1.cellAt hl2 hlt
          simp only [Option.some.injEq, Addr.mk.injEq, and_true] at e1
          subst e1
          have hst2 := hst.1.stored hl2 j (s : Int)
          have HL3 : Hid ((gluedL xs s j).length = n) := (gluedL_len _ _ _).trans Hx.out
          have HO2 : Hid (Own ((wr.setCell ⟨pb, s, none⟩ (.int .i64 j)).setCell ⟨pb, j, none⟩ (.int .i64 s)) B (.slice (some ⟨pb, 0, none⟩) n c) (gluedL xs s j)) := hst2.1
          have HI2 : Hid (I ((wr.setCell ⟨pb, s, none⟩ (.int .i64 j)).setCell ⟨pb, j, none⟩ (.int .i64 s)) (acc ++ compU f' xs j)) := HV.out.set _ _ _ _ (HV.out.set _ _ _ _ hi.out)
          obtain ⟨W2, hW2⟩ : ∃ W, (wr.setCell ⟨pb, s, none⟩ (.int .i64 j)).setCell ⟨pb, j, none⟩ (.int .i64 s) = W := ⟨_, rfl⟩
          rw [hW2] at HO2 HI2
          have HW2 := Lib.hid hW2
          have HPG3 : Hid (PG (gluedL xs s j)) := HPG.out.glued (by rw [Hx.out]; exact hsn) (by rw [Hx.out]; exact hlt) (by omega) HFS.out hfree
          have HAA := HIH.out j (by rw [HS.out]; exact hsj) (by rw [Hx.out]; exact hlt) hfree
          rw [HS.out] at HAA
          have HA3 := Lib.hid HAA; clear HAA
          have hsn' : (s : Int) < n := by omega
          have hjn' : (j : Int) < n := by omega
          clear hst hst2 hl2 hW2
          go_wp2_with fail
          rw [HW2.out]
          refine (HA3.out W2 _ n c HI2.out HO2.out HL3.out HPG3.out hn2 hn10).mono ?_
          rintro e w3 ⟨rfl, hi3, ho3⟩
          obtain ⟨_, e1, -, hcs3, hfs3⟩ := ho3.cellAt HL3.out hsn
          simp only [Option.some.injEq, Addr.mk.injEq, and_true] at e1
          subst e1
          have hst := ho3.stored HL3.out s (-1)
          have hl2 : ((gluedL xs s j).set s (-1)).length = n := by simpa using HL3.out
          obtain ⟨_, e1, -, hcj3, hfj3⟩ := hst.1.cellAt hl2 hlt
          simp only [Option.some.injEq, Addr.mk.injEq, and_true] at e1
          subst e1
          have hst2 := hst.1.stored hl2 j (-1)
          have hback : ((gluedL xs s j).set s (-1)).set j (-1) = xs := by
            refine eq_of_gi (by rw [List.length_set, hl2, Hx.out]) (fun i hi => ?_)
            rw [gi_set _ _ _ _ (by rw [hl2]; exact hlt), gi_set _ _ _ _ (by rw [HL3.out]; exact hsn), gi_gluedL (by rw [Hx.out]; exact hsn) (by rw [Hx.out]; exact hlt)]
            by_cases a : i = j
            · rw [if_pos a, a, hfree]
            · rw [if_neg a]
              by_cases b : i = s
              · rw [if_pos b, b, HFS.out]
              · rw [if_neg b, if_neg a, if_neg b]
          rw [hback] at hst2
          have HO4 := Lib.hid hst2.1
          have hyes := compU_yes (f := f') (p := xs) (k := j) (by rw [HS.out]; exact hsj) hfree
          rw [HS.out] at hyes
          have HI4 : Hid (I ((w3.setCell ⟨pb, s, none⟩ (.int .i64 (-1))).setCell ⟨pb, j, none⟩ (.int .i64 (-1))) (acc ++ compU f' xs (j + 1))) := by
            rw [Hid, hyes, ← List.append_assoc]
            exact HV.out.set _ _ _ _ (HV.out.set _ _ _ _ hi3)
          clear hst hst2 hl2 hback hyes hi3 ho3
          go_wp2_with fail
          go_roundw
          case rel => exact ⟨j + 1, by omega, by omega, by go_num, HI4, HO4⟩
          case measure => simp [intOf]; omega
        · have hq : (gi xs j == (-1 : Int)) = false := by rw [beq_eq_false_iff_ne]; exact hfree
          have HST := Lib.hid (compU_no (f := f') hfree)
          go_wp2_with fail
          go_roundw
          case rel => exact ⟨j + 1, by omega, by omega, by go_num, by rw [Hid, HST.out]; exact hi.out, ho⟩
          case measure => simp [intOf]; omega
      · obtain rfl : j = n := by omega
        have hend : comps (f' + 1) xs = compU f' xs j := by rw [HCM.out, Hx.out]
        have HEN := Lib.hid hend
        clear hend hlt
        go_wp2_with fail
        exact bodyPost_end (v := .tuple #[]) (by simp [results, Try.results58, go_sem]) rfl ⟨rfl, by rw [HEN.out]; exact hi.out, ho.out⟩

theorem restAt2 {c1 c2 : Nat} {B pb : Nat} {I : World → List (List Int) → Prop} (hv : Vis2 c1 c2 B pb I) : ∀ (f : Nat) (xs : List Int), PG xs → freeN xs ≤ 2 * f → RestAt2 c1 c2 B pb I f xs := by
  intro f
  induction f with
  | zero => intro xs _ h; exact rest_step2 hv 0 xs (.inl (freeN_zero (by omega)))
  | succ f ih =>
    intro xs hp h
    by_cases hf : ff xs = xs.length
    · exact rest_step2 hv _ xs (.inl hf)
    · have hlt : ff xs < xs.length := by have := ff_le xs; omega
      refine rest_step2 hv _ xs (.inr ⟨f, rfl, fun k h1 h2 h3 => ?_⟩)
      have := freeN_glued hlt h2 (by omega) (ff_at hlt) h3
      exact ih _ (hp.glued hlt h2 (by omega) (ff_at hlt) h3) (by omega)

end Go.Proofs.Ytolbcdhkjhbepaa
